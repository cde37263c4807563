/- The document's Set: what stands in its loops. -/
import Derived.Test.YtmekplaonlpfkaaGreatDoorOwnShelf42
import Derived.Test.YtmekplaonlpfkaaGreatDoorOwnShelf41
namespace Go.Proofs.YtmekplaonlpfkaaGreatDoor
open Go.RowKit Go.Maps Go.Sort

/-- Leaves as a slice has them, in a block of B. -/
def LrB (B : Nat → Prop) (w : World) (v : Value) (L : List Lf) : Prop := ∃ ad cap, v = .slice ad L.length cap ∧ L.length ≤ cap ∧ (ad = none → L.length = 0 ∧ cap = 0) ∧ (∀ a, ad = some a → (∃ bb off, a = ⟨bb, off, none⟩) ∧ B a.block ∧ a.block < w.heap.size) ∧ LrAt w ad L
theorem LrB.nil (B : Nat → Prop) (w : World) : LrB B w (.slice none 0 0) [] := ⟨none, 0, rfl, Nat.le_refl _, (fun _ => ⟨rfl, rfl⟩), (fun a e => by cases e), fun hn => by simp at hn⟩
theorem LrB.keep {B B' : Nat → Prop} {w w' : World} {v : Value} {L : List Lf} (h : LrB B w v L) (hs : w.heap.size ≤ w'.heap.size) (hk : ∀ k, B k → k < w.heap.size → B' k ∧ w'.heap[k]? = w.heap[k]?) : LrB B' w' v L := by
  obtain ⟨ad, cap, rfl, h1, h2, h3, h4⟩ := h
  refine ⟨ad, cap, rfl, h1, h2, fun a e => ?_, h4.keep fun a e _ => (hk _ (h3 a e).2.1 (h3 a e).2.2).2⟩
  obtain ⟨h5, h6, h7⟩ := h3 a e
  exact ⟨h5, (hk _ h6 h7).1, by omega⟩
theorem LrB.below {B : Nat → Prop} {w w' : World} {v : Value} {L : List Lf} (h : LrB B w v L) (hb : Below w.heap.size w w') : LrB B w' v L := h.keep hb.size fun k h1 h2 => ⟨h1, hb.block k h2⟩
theorem LrB.mono {B B' : Nat → Prop} {w : World} {v : Value} {L : List Lf} (h : LrB B w v L) (hk : ∀ k, B k → k < w.heap.size → B' k) : LrB B' w v L := h.keep (Nat.le_refl _) fun k h1 h2 => ⟨hk k h1 h2, rfl⟩
theorem LrOw.ls {w0 w : World} {v : Value} {L : List Lf} (h : LrOw w0 w v L) : LrB (w0.heap.size ≤ ·) w v L := by
  obtain ⟨ad, cap, hv, hc, hl, hbk⟩ := h.sl
  subst hv
  refine ⟨ad, cap, rfl, hc, fun e => ?_, fun a e => ⟨?_, hbk a e⟩, hl⟩
  · subst e
    rcases h.own.2 with ⟨e, e2⟩ | ⟨g, cap, cur, e, _⟩
    · simp at e; exact ⟨e2, e.2⟩
    · simp at e
  · subst e
    rcases h.own.2 with ⟨e, _⟩ | ⟨g, cap, cur, e, _⟩
    · simp at e
    · simp at e; exact ⟨g, 0, e.1⟩
theorem findF_cases (k : List UInt8) : ∀ (L : List Lf) (i : Int), (findF k i L = -1 ∧ getK Lf.k k L = none) ∨ ∃ (j : Nat) (x : Lf), findF k i L = i + j ∧ L[j]? = some x ∧ getK Lf.k k L = some x
  | [], i => .inl ⟨rfl, rfl⟩
  | x :: r, i => by
    unfold findF getK
    rw [List.find?_cons]
    by_cases e : x.k = k
    · rw [if_pos e]
      exact .inr ⟨0, x, by simp, rfl, by simp [e]⟩
    · rw [if_neg e]
      have e' : (x.k == k) = false := by simpa using e
      simp only [e']
      rcases findF_cases k r (i + 1) with ⟨h1, h2⟩ | ⟨j, y, h1, h2, h3⟩
      · exact .inl ⟨h1, h2⟩
      · exact .inr ⟨j + 1, y, by rw [h1]; omega, h2, h3⟩
/-- The first loop: what has been picked. -/
structure S1 (w wr : World) (L : List Lf) (cs : List Cg) (sv : Value) (i : Nat) (acc : List Cg) : Prop where
  own : ChOw w wr sv acc
  pick : pickL L acc (cs.drop i) = todoL L cs
  apart : ∀ y ∈ acc, ∀ d ∈ cs.drop i, d.k ≠ y.k
  few : acc.length ≤ i
theorem S1.start (w w' : World) (L : List Lf) (cs : List Cg) (hb : Below w.heap.size w w') : S1 w w' L cs (.slice none 0 0) 0 [] := ⟨ChOw.nil' hb, pickL_todo L cs, (fun y hy => by cases hy), Nat.le_refl _⟩
theorem drop_at {α : Type} {l : List α} {i : Nat} {x : α} (h : l[i]? = some x) : l.drop i = x :: l.drop (i + 1) := by
  obtain ⟨hl, rfl⟩ := List.getElem?_eq_some_iff.1 h
  exact List.drop_eq_getElem_cons hl
section
variable {w wr w' : World} {L : List Lf} {cs acc : List Cg} {sv v' : Value} {i : Nat} {c : Cg}
theorem S1.skip (h : S1 w wr L cs sv i acc) (hc : cs[i]? = some c) (hn : ¬ (lastB' c (cs.drop (i + 1)) = true ∧ sameC L c = false)) (hb : Below wr.heap.size wr w') : S1 w w' L cs sv (i + 1) acc := by
  have hd := drop_at hc
  refine ⟨h.own.keep hb, ?_, fun y hy d hdr => h.apart y hy d (by rw [hd]; exact List.mem_cons_of_mem _ hdr), by have := h.few; omega⟩
  have hp := h.pick
  rw [hd, pickL, if_neg hn] at hp
  exact hp
theorem S1.ne (h : S1 w wr L cs sv i acc) (hc : cs[i]? = some c) : ∀ y ∈ acc, y.k ≠ c.k := fun y hy e => h.apart y hy c (by rw [drop_at hc]; exact List.mem_cons_self ..) e.symm
theorem S1.ins (h : S1 w wr L cs sv i acc) (hc : cs[i]? = some c) (hy : lastB' c (cs.drop (i + 1)) = true ∧ sameC L c = false) (ho : ChOw w w' v' (insK Cg.k c acc)) : S1 w w' L cs v' (i + 1) (insK Cg.k c acc) := by
  have hd := drop_at hc
  refine ⟨ho, ?_, fun y hym d hdr => ?_, by rw [insK_length]; have := h.few; omega⟩
  · have hp := h.pick
    rw [hd, pickL, if_pos hy] at hp
    exact hp
  · rcases (mem_insK Cg.k).1 hym with rfl | hym
    · exact lastB'_iff.1 hy.1 d hdr
    · exact h.apart y hym d (by rw [hd]; exact List.mem_cons_of_mem _ hdr)
theorem S1.done (h : S1 w wr L cs sv cs.length acc) : ChOw w wr sv (todoL L cs) := by
  have hp := h.pick
  rw [List.drop_length, pickL] at hp
  rw [← hp]; exact h.own
end
theorem lastB'_step {c d : Cg} {cs : List Cg} {i k : Nat} (hk : i + 1 ≤ k) (hd : cs[k]? = some d) : lastB' c ((cs.drop (i + 1)).take (k + 1 - (i + 1))) = (lastB' c ((cs.drop (i + 1)).take (k - (i + 1))) && !(d.k == c.k)) := by
  have e : k + 1 - (i + 1) = (k - (i + 1)) + 1 := by omega
  have hg : (cs.drop (i + 1))[k - (i + 1)]? = some d := by
    rw [List.getElem?_drop]
    have : i + 1 + (k - (i + 1)) = k := by omega
    rw [this]; exact hd
  rw [e, List.take_add_one, hg]
  unfold lastB'
  simp
theorem lastB'_all {c : Cg} {cs : List Cg} {i : Nat} : lastB' c ((cs.drop (i + 1)).take (cs.length - (i + 1))) = lastB' c (cs.drop (i + 1)) := by
  rw [List.take_of_length_le (by rw [List.length_drop]; omega)]
/-- The third loop: what is left to be done. -/
structure S3 (B : Nat → Prop) (w wr : World) (L : List Lf) (n : Nat) (C : List Cg) (R : List Lf) (v : Value) (q i : Nat) (M : List Lf) : Prop where
  sl : LrB (fun k => B k ∨ w.heap.size ≤ k) wr v M
  below : Below w.heap.size w wr
  beh : behL (C.drop i) (frF L n q) M = R
  room : nlay (C.drop i) ≤ (frF L n q).length
  few : M.length ≤ L.length + i
theorem S3.gone {B : Nat → Prop} {w wr w' : World} {L : List Lf} {n : Nat} {C : List Cg} {R : List Lf} {v v' : Value} {q i : Nat} {M : List Lf} {c : Cg} (h : S3 B w wr L n C R v q i M) (hc : C[i]? = some c) (hg : c.g = true) (hl : LrB (fun k => B k ∨ w.heap.size ≤ k) w' v' (delK Lf.k c.k M)) (hb : Below w.heap.size w w') : S3 B w w' L n C R v' q (i + 1) (delK Lf.k c.k M) := by
  have hd := drop_at hc
  have h1 := h.beh
  have h2 := h.room
  rw [hd] at h1 h2
  rw [behL_gone hg] at h1
  rw [nlay_cons, hg] at h2
  have h3 : (delK Lf.k c.k M).length ≤ M.length := List.length_filter_le _ _
  exact ⟨hl, hb, h1, by simpa using h2, by have := h.few; omega⟩
theorem S3.room1 {B : Nat → Prop} {w wr : World} {L : List Lf} {n : Nat} {C : List Cg} {R : List Lf} {v : Value} {q i : Nat} {M : List Lf} {c : Cg} (h : S3 B w wr L n C R v q i M) (hc : C[i]? = some c) (hg : c.g = false) : 0 < (frF L n q).length := by
  have h2 := h.room
  rw [drop_at hc, nlay_cons, hg] at h2
  simp at h2
  omega
theorem S3.put {B : Nat → Prop} {w wr w' : World} {L : List Lf} {n : Nat} {C : List Cg} {R : List Lf} {v v' : Value} {q q' i : Nat} {M : List Lf} {c : Cg} (h : S3 B w wr L n C R v q i M) (hc : C[i]? = some c) (hg : c.g = false) (hf : frF L n q = q' :: frF L n (q' + 1)) (hl : LrB (fun k => B k ∨ w.heap.size ≤ k) w' v' (insK Lf.k ⟨c.k, q', c.v⟩ (delK Lf.k c.k M))) (hb : Below w.heap.size w w') : S3 B w w' L n C R v' (q' + 1) (i + 1) (insK Lf.k ⟨c.k, q', c.v⟩ (delK Lf.k c.k M)) := by
  have hd := drop_at hc
  have h1 := h.beh
  have h2 := h.room
  rw [hd, hf] at h1 h2
  rw [behL_put hg] at h1
  rw [nlay_cons, hg] at h2
  have h3 : (delK Lf.k c.k M).length ≤ M.length := List.length_filter_le _ _
  refine ⟨hl, hb, h1, ?_, by rw [insK_length]; have := h.few; omega⟩
  simp at h2
  omega
theorem S3.done {B : Nat → Prop} {w wr : World} {L : List Lf} {n : Nat} {C : List Cg} {R : List Lf} {v : Value} {q : Nat} {M : List Lf} (h : S3 B w wr L n C R v q C.length M) : LrB (fun k => B k ∨ w.heap.size ≤ k) wr v R := by
  have h1 := h.beh
  rw [List.drop_length, behL_nil] at h1
  rw [← h1]; exact h.sl
end Go.Proofs.YtmekplaonlpfkaaGreatDoor
/- give: the document's changes as the program's. -/
namespace Go.Proofs.YtmekplaonlpfkaaGreatDoor
open Go.RowKit Go.Maps Go.Sort

attribute [local go_sem ↓] Go.wp_at_zero Go.wp_at_succ

set_option maxRecDepth 100000 in
set_option maxHeartbeats 1600000 in
theorem give_any (ad : Option Addr) (cap : Nat) (C : List Cg) (w : World) (h : CgAt w ad C) (hl : C.length ≤ 1000) :
    Calls Tryz.prog 20 #[.slice ad C.length cap] w fun e w' => ∃ v, e = .returned v ∧ CgOw w w' v C := by
  have HL : Hid (CgAt w ad C) := h
  clear h
  have HI0 : Hid (CgOw w w (.slice none 0 0) (C.take 0)) := CgOw.nil w
  go_enter Tryz.func20, Tryz.ntmps20
  go_wp2
  go_loopw [3, 4] (fun ov iv wr => ∃ i : Nat, i ≤ C.length ∧ iv = .int .i64 i ∧ CgOw w wr ov (C.take i)) (fun _ iv _ => C.length - (intOf iv).toNat)
  case atStart => exact ⟨0, Nat.zero_le _, rfl, HI0.out⟩
  case round =>
    clear HI0
    obtain ⟨i, hi, rfl, hO⟩ := hrel
    have HO : Hid (CgOw w wr u3 (C.take i)) := hO
    clear hO
    by_cases hlt : i < C.length
    · have hlt' : (i : Int) < C.length := by omega
      have hx : C[i]? = some C[i] := List.getElem?_eq_getElem hlt
      have htk : C.take (i + 1) = C.take i ++ [C[i]] := (List.take_append_getElem hlt).symm
      obtain ⟨bb, off, rfl, hc⟩ := (HL.out.below HO.out.below) (by omega)
      have c0 := (hc i _ hx).1
      have c1 := (hc i _ hx).2.1
      have c2 := (hc i _ hx).2.2
      have hle : (C.take i).length ≤ 100000 := by rw [List.length_take]; omega
      clear hc hx
      generalize C[i] = x at *
      obtain ⟨wa, hwa⟩ : ∃ wa, wr.alloc (.cells #[encStr x.k, encStr x.v, .bool x.g] 70) = wa := ⟨_, rfl⟩
      have hOw : CgOw w wa u3 (C.take i) := by rw [← hwa]; exact HO.out.keep ((Below.refl _ wr).alloc (Nat.le_refl _) _)
      have hrow : wa.heap[wr.heap.size]? = some (.cells #[encStr x.k, encStr x.v, .bool x.g] 70 (0, 0)) := by rw [← hwa]; exact heap_alloc_new wr _
      have HN : Hid (∀ v' w1, CgOw w w1 v' (C.take i ++ [x]) → CgOw w w1 v' (C.take (i + 1))) := fun v' w1 h1 => by rw [htk]; exact h1
      clear htk
      generalize C.take i = D at *
      obtain ⟨xk, hxk⟩ : ∃ xk, x.k = xk := ⟨_, rfl⟩
      obtain ⟨xv, hxv⟩ : ∃ xv, x.v = xv := ⟨_, rfl⟩
      obtain ⟨xg, hxg⟩ : ∃ xg, x.g = xg := ⟨_, rfl⟩
      rw [hxk] at c0 hwa
      rw [hxv] at c1 hwa
      rw [hxg] at c2 hwa
      clear hxk hxv hxg
      go_wp2_with (first | (at_builtin; refine wpList_append_Cg rfl _ _ rfl w _ D wr.heap.size x rfl rfl hOw hrow hle ?_; intro v4 w4 hO4) | fail)
      have HN4 : Hid (CgOw w w4 v4 (C.take (i + 1))) := HN.out v4 w4 hO4
      clear hOw hrow hle hwa hO4
      go_wp2
      exact ⟨⟨i + 1, by omega, by go_num, HN4.out⟩, by simp [intOf]; omega⟩
    · obtain rfl : i = C.length := by omega
      have hlt' : ¬ ((C.length : Int) < C.length) := by omega
      have hE : CgOw w wr u3 C := by have := HO.out; rw [List.take_length] at this; exact this
      have HE : Hid (CgOw w wr u3 C) := hE
      clear hE
      go_wp2
      go_ret
      exact ⟨_, rfl, HE.out⟩
end Go.Proofs.YtmekplaonlpfkaaGreatDoor
/- long: is there more than is gone through? -/
namespace Go.Proofs.YtmekplaonlpfkaaGreatDoor
open Go.RowKit Go.Maps Go.Sort

attribute [local go_sem ↓] Go.wp_at_zero Go.wp_at_succ

/-- How many bytes some changes bear. -/
def sumL (C : List Cg) : Nat := (C.map fun x => x.k.length + x.v.length).sum
theorem sumL_snoc (C : List Cg) (x : Cg) : sumL (C ++ [x]) = sumL C + x.k.length + x.v.length := by simp [sumL]; omega
theorem sumL_cons (y : Cg) (C : List Cg) : sumL (y :: C) = y.k.length + y.v.length + sumL C := by simp [sumL]
theorem sumL_mem : ∀ {C : List Cg} {x : Cg}, x ∈ C → x.k.length + x.v.length ≤ sumL C
  | y :: r, x, h => by
    rw [sumL_cons]
    rcases List.mem_cons.1 h with rfl | h
    · omega
    · have := sumL_mem h; omega
def longB (C : List Cg) : Bool := decide (60 < C.length ∨ 20000 < sumL C)
theorem longB_not {C : List Cg} (h : longB C = false) : C.length ≤ 60 ∧ ∀ x ∈ C, x.k.length ≤ 20000 ∧ x.v.length ≤ 20000 := by
  unfold longB at h
  have h1 := of_decide_eq_false h
  exact ⟨by omega, fun x hx => by have := sumL_mem hx; omega⟩
set_option maxRecDepth 100000 in
set_option maxHeartbeats 1600000 in
theorem long_any (ad : Option Addr) (cap : Nat) (C : List Cg) (w : World) (h : CgAt w ad C) (hl : C.length ≤ maxLen) (hsz : ∀ x ∈ C, x.k.length ≤ 140737488355328 ∧ x.v.length ≤ 140737488355328) :
    Calls Tryz.prog 19 #[.slice ad C.length cap] w fun e w' => e = .returned (.bool (longB C)) ∧ Below w.heap.size w w' := by
  have HL : Hid (CgAt w ad C) := h
  have HZ : Hid (∀ x ∈ C, x.k.length ≤ 140737488355328 ∧ x.v.length ≤ 140737488355328) := hsz
  have hml : maxLen = 9223372036854775807 := rfl
  rw [hml] at hl
  clear h hsz hml
  have hlk : ∀ u : List UInt8, (⟨u.toArray⟩ : ByteArray).size = u.length := fun u => by simp [ByteArray.size]
  go_enter Tryz.func19, Tryz.ntmps19
  go_wp2
  go_loopw [3, 4] (fun nv iv wr => ∃ i : Nat, i ≤ C.length ∧ i ≤ 100 ∧ iv = .int .i64 i ∧ nv = .int .i64 (sumL (C.take i)) ∧ sumL (C.take i) ≤ i * 281474976710656 ∧ Below w.heap.size w wr) (fun _ iv _ => C.length - (intOf iv).toNat)
  case atStart => exact ⟨0, Nat.zero_le _, by omega, rfl, rfl, by simp [sumL], Below.refl _ _⟩
  case round =>
    obtain ⟨i, hi, hi1, rfl, rfl, hsum, hb⟩ := hrel
    have HB : Hid (Below w.heap.size w wr) := hb
    clear hb
    by_cases hgo : i < C.length ∧ i < 100
    · have h1 : (i : Int) < C.length := by omega
      have h2 : (i : Int) < 100 := by omega
      have hx : C[i]? = some (C[i]'hgo.1) := List.getElem?_eq_getElem hgo.1
      have htk : C.take (i + 1) = C.take i ++ [C[i]'hgo.1] := (List.take_append_getElem hgo.1).symm
      have hxz := HZ.out _ (List.getElem_mem hgo.1)
      obtain ⟨bb, off, rfl, hc⟩ := (HL.out.below HB.out) (by omega)
      have c0 := (hc i _ hx).1
      have c1 := (hc i _ hx).2.1
      clear hc hx
      generalize C[i]'hgo.1 = x at *
      have hsn : sumL (C.take (i + 1)) = sumL (C.take i) + x.k.length + x.v.length := by rw [htk, sumL_snoc]
      have HN : Hid (sumL (C.take (i + 1)) = sumL (C.take i) + x.k.length + x.v.length) := hsn
      have HBd : Hid (Below w.heap.size w wr.drew) := HB.out.drew
      clear htk hsn
      generalize sumL (C.take i) = s at *
      generalize x.k = xk at *
      generalize x.v = xv at *
      have hw1 : IntKind.i64.wrap ((s : Int) + (xk.length : Int)) = (s : Int) + (xk.length : Int) := by rw [IntKind.wrap_i64]; omega
      have hw2 : IntKind.i64.wrap ((s : Int) + (xk.length : Int) + (xv.length : Int)) = (s : Int) + (xk.length : Int) + (xv.length : Int) := by rw [IntKind.wrap_i64]; omega
      go_upto_region 5 with fail
      refine wp_region_noPanic ?_
      refine wp_region_held_drew (S := fun w' => w'.cell? ⟨bb, off + i * 3, none⟩ = some (encStr xk) ∧ w'.cell? ⟨bb, off + i * 3 + 1, none⟩ = some (encStr xv)) (by kernel_rfl) ⟨c0, c1⟩ (fun hHeld => ?_)
      refine wpAnyH_take (i := 0) (oi := { dst := some 15, op := Go.Op.move (Go.Operand.tmp 3), type := 3, pos := "law.go:55", after := #[], guard := none }) (v := ?_) rfl (by kernel_rfl) (by kernel_rfl) (by kernel_rfl) (fun _ _ _ h => h) (Or.inl ⟨by rfl, ?_⟩) (by assumption) ?_
      rotate_left
      · intro wz hSw; (try dsimp only at hSw); go_simp; (try with_reducible rfl)
      try simp only [Act.put, List.setIfInBounds_toArray, List.set_cons_zero, List.set_cons_succ]
      refine wpAnyH_take (i := 1) (oi := { dst := some 16, op := Go.Op.move (Go.Operand.tmp 0), type := 51, pos := "law.go:55", after := #[], guard := none }) (v := ?_) rfl (by kernel_rfl) (by kernel_rfl) (by kernel_rfl) (fun _ _ _ h => h) (Or.inl ⟨by rfl, ?_⟩) (by assumption) ?_
      rotate_left
      · intro wz hSw; (try dsimp only at hSw); go_simp; (try with_reducible rfl)
      try simp only [Act.put, List.setIfInBounds_toArray, List.set_cons_zero, List.set_cons_succ]
      refine wpAnyH_take (i := 2) (oi := { dst := some 17, op := Go.Op.move (Go.Operand.tmp 4), type := 3, pos := "law.go:55", after := #[], guard := none }) (v := ?_) rfl (by kernel_rfl) (by kernel_rfl) (by kernel_rfl) (fun _ _ _ h => h) (Or.inl ⟨by rfl, ?_⟩) (by assumption) ?_
      rotate_left
      · intro wz hSw; (try dsimp only at hSw); go_simp; (try with_reducible rfl)
      try simp only [Act.put, List.setIfInBounds_toArray, List.set_cons_zero, List.set_cons_succ]
      refine wpAnyH_take (i := 3) (oi := { dst := some 18, op := Go.Op.indexAddr 51 (Go.Operand.tmp 16) (Go.Operand.tmp 17), type := 0, pos := "law.go:55", after := #[{ on := 1, ground := Go.Ground.data }, { on := 2, ground := Go.Ground.data }], guard := none }) (v := ?_) rfl (by kernel_rfl) (by kernel_rfl) (by kernel_rfl) (fun _ _ _ h => h) (Or.inl ⟨by rfl, ?_⟩) (by assumption) ?_
      rotate_left
      · intro wz hSw; (try dsimp only at hSw); go_simp; (try with_reducible rfl)
      try simp only [Act.put, List.setIfInBounds_toArray, List.set_cons_zero, List.set_cons_succ]
      refine wpAnyH_take (i := 4) (oi := { dst := some 19, op := Go.Op.fieldAddr 114 (Go.Operand.tmp 18) 0, type := 0, pos := "law.go:55", after := #[{ on := 3, ground := Go.Ground.data }], guard := none }) (v := ?_) rfl (by kernel_rfl) (by kernel_rfl) (by kernel_rfl) (fun _ _ _ h => h) (Or.inl ⟨by rfl, ?_⟩) (by assumption) ?_
      rotate_left
      · intro wz hSw; (try dsimp only at hSw); go_simp; (try with_reducible rfl)
      try simp only [Act.put, List.setIfInBounds_toArray, List.set_cons_zero, List.set_cons_succ]
      refine wpAnyH_take (i := 5) (oi := { dst := some 20, op := Go.Op.load 9 (Go.Operand.tmp 19), type := 9, pos := "law.go:55", after := #[{ on := 4, ground := Go.Ground.data }], guard := none }) (v := encStr xk) rfl (by kernel_rfl) (by kernel_rfl) (by kernel_rfl) (fun _ _ _ h => h) (Or.inl ⟨by rfl, ?_⟩) (by assumption) ?_
      · intro wz hSw; (try dsimp only at hSw); have h1 := hSw.1; go_simp; try rfl
      try simp only [Act.put, List.setIfInBounds_toArray, List.set_cons_zero, List.set_cons_succ]
      refine wpAnyH_take (i := 6) (oi := { dst := some 21, op := Go.Op.call { callee := Go.Callee.builtin Go.Builtin.len, args := #[Go.Operand.tmp 20], argTypes := #[9] }, type := 3, pos := "law.go:55", after := #[{ on := 5, ground := Go.Ground.data }], guard := none }) (v := .int .i64 (xk.length : Int)) rfl (by kernel_rfl) (by kernel_rfl) (by kernel_rfl) (fun _ _ _ h => h) (Or.inl ⟨by rfl, ?_⟩) (by assumption) ?_
      · intro wz hSw; (try dsimp only at hSw); go_simp; try rfl
      try simp only [Act.put, List.setIfInBounds_toArray, List.set_cons_zero, List.set_cons_succ]
      refine wpAnyH_take (i := 7) (oi := { dst := some 22, op := Go.Op.binOp Go.BinOp.add 3 (Go.Operand.tmp 15) (Go.Operand.tmp 21) 3, type := 3, pos := "law.go:55", after := #[{ on := 0, ground := Go.Ground.data }, { on := 6, ground := Go.Ground.data }], guard := none }) (v := .int .i64 ((s : Int) + (xk.length : Int))) rfl (by kernel_rfl) (by kernel_rfl) (by kernel_rfl) (fun _ _ _ h => h) (Or.inl ⟨by rfl, ?_⟩) (by assumption) ?_
      · intro wz hSw; (try dsimp only at hSw); go_simp; try rfl
      try simp only [Act.put, List.setIfInBounds_toArray, List.set_cons_zero, List.set_cons_succ]
      refine wpAnyH_take (i := 8) (oi := { dst := some 23, op := Go.Op.move (Go.Operand.tmp 0), type := 51, pos := "law.go:55", after := #[], guard := none }) (v := ?_) rfl (by kernel_rfl) (by kernel_rfl) (by kernel_rfl) (fun _ _ _ h => h) (Or.inl ⟨by rfl, ?_⟩) (by assumption) ?_
      rotate_left
      · intro wz hSw; (try dsimp only at hSw); go_simp; (try with_reducible rfl)
      try simp only [Act.put, List.setIfInBounds_toArray, List.set_cons_zero, List.set_cons_succ]
      refine wpAnyH_take (i := 9) (oi := { dst := some 24, op := Go.Op.move (Go.Operand.tmp 4), type := 3, pos := "law.go:55", after := #[], guard := none }) (v := ?_) rfl (by kernel_rfl) (by kernel_rfl) (by kernel_rfl) (fun _ _ _ h => h) (Or.inl ⟨by rfl, ?_⟩) (by assumption) ?_
      rotate_left
      · intro wz hSw; (try dsimp only at hSw); go_simp; (try with_reducible rfl)
      try simp only [Act.put, List.setIfInBounds_toArray, List.set_cons_zero, List.set_cons_succ]
      refine wpAnyH_take (i := 10) (oi := { dst := some 25, op := Go.Op.indexAddr 51 (Go.Operand.tmp 23) (Go.Operand.tmp 24), type := 0, pos := "law.go:55", after := #[{ on := 8, ground := Go.Ground.data }, { on := 9, ground := Go.Ground.data }], guard := none }) (v := ?_) rfl (by kernel_rfl) (by kernel_rfl) (by kernel_rfl) (fun _ _ _ h => h) (Or.inl ⟨by rfl, ?_⟩) (by assumption) ?_
      rotate_left
      · intro wz hSw; (try dsimp only at hSw); go_simp; (try with_reducible rfl)
      try simp only [Act.put, List.setIfInBounds_toArray, List.set_cons_zero, List.set_cons_succ]
      refine wpAnyH_take (i := 11) (oi := { dst := some 26, op := Go.Op.fieldAddr 114 (Go.Operand.tmp 25) 1, type := 0, pos := "law.go:55", after := #[{ on := 10, ground := Go.Ground.data }], guard := none }) (v := ?_) rfl (by kernel_rfl) (by kernel_rfl) (by kernel_rfl) (fun _ _ _ h => h) (Or.inl ⟨by rfl, ?_⟩) (by assumption) ?_
      rotate_left
      · intro wz hSw; (try dsimp only at hSw); go_simp; (try with_reducible rfl)
      try simp only [Act.put, List.setIfInBounds_toArray, List.set_cons_zero, List.set_cons_succ]
      refine wpAnyH_take (i := 12) (oi := { dst := some 27, op := Go.Op.load 9 (Go.Operand.tmp 26), type := 9, pos := "law.go:55", after := #[{ on := 11, ground := Go.Ground.data }], guard := none }) (v := encStr xv) rfl (by kernel_rfl) (by kernel_rfl) (by kernel_rfl) (fun _ _ _ h => h) (Or.inl ⟨by rfl, ?_⟩) (by assumption) ?_
      · intro wz hSw; (try dsimp only at hSw); have h1 := hSw.2; go_simp; try rfl
      try simp only [Act.put, List.setIfInBounds_toArray, List.set_cons_zero, List.set_cons_succ]
      refine wpAnyH_take (i := 13) (oi := { dst := some 28, op := Go.Op.call { callee := Go.Callee.builtin Go.Builtin.len, args := #[Go.Operand.tmp 27], argTypes := #[9] }, type := 3, pos := "law.go:55", after := #[{ on := 12, ground := Go.Ground.data }], guard := none }) (v := .int .i64 (xv.length : Int)) rfl (by kernel_rfl) (by kernel_rfl) (by kernel_rfl) (fun _ _ _ h => h) (Or.inl ⟨by rfl, ?_⟩) (by assumption) ?_
      · intro wz hSw; (try dsimp only at hSw); go_simp; try rfl
      try simp only [Act.put, List.setIfInBounds_toArray, List.set_cons_zero, List.set_cons_succ]
      refine wpAnyH_take (i := 14) (oi := { dst := some 29, op := Go.Op.binOp Go.BinOp.add 3 (Go.Operand.tmp 22) (Go.Operand.tmp 28) 3, type := 3, pos := "law.go:55", after := #[{ on := 7, ground := Go.Ground.data }, { on := 13, ground := Go.Ground.data }], guard := none }) (v := .int .i64 ((s : Int) + (xk.length : Int) + (xv.length : Int))) rfl (by kernel_rfl) (by kernel_rfl) (by kernel_rfl) (fun _ _ _ h => h) (Or.inl ⟨by rfl, ?_⟩) (by assumption) ?_
      · intro wz hSw; (try dsimp only at hSw); go_simp; try rfl
      try simp only [Act.put, List.setIfInBounds_toArray, List.set_cons_zero, List.set_cons_succ]
      refine wpAnyH_take (i := 15) (oi := { dst := some 3, op := Go.Op.assign (Go.Operand.tmp 29), type := 3, pos := "law.go:55", after := #[{ on := 14, ground := Go.Ground.data }, { on := 0, ground := Go.Ground.phase }, { on := 1, ground := Go.Ground.phase }, { on := 2, ground := Go.Ground.phase }, { on := 3, ground := Go.Ground.phase }, { on := 4, ground := Go.Ground.phase }, { on := 5, ground := Go.Ground.phase }, { on := 6, ground := Go.Ground.phase }, { on := 7, ground := Go.Ground.phase }, { on := 8, ground := Go.Ground.phase }, { on := 9, ground := Go.Ground.phase }, { on := 10, ground := Go.Ground.phase }, { on := 11, ground := Go.Ground.phase }, { on := 12, ground := Go.Ground.phase }, { on := 13, ground := Go.Ground.phase }, { on := 14, ground := Go.Ground.phase }], guard := none }) (v := ?_) rfl (by kernel_rfl) (by kernel_rfl) (by kernel_rfl) (fun _ _ _ h => h) (Or.inl ⟨by rfl, ?_⟩) (by assumption) ?_
      rotate_left
      · intro wz hSw; (try dsimp only at hSw); go_simp; (try with_reducible rfl)
      try simp only [Act.put, List.setIfInBounds_toArray, List.set_cons_zero, List.set_cons_succ]
      refine wpAnyH_done (by kernel_rfl) (NoPanic.normal ?_) _
      try simp only [Act.put, List.setIfInBounds_toArray, List.set_cons_zero, List.set_cons_succ]
      clear hHeld c0 c1 hw1 hw2
      go_wp2
      refine ⟨⟨i + 1, by omega, by omega, by go_num, ?_, ?_, HBd.out⟩, by simp [intOf]; omega⟩
      · rw [HN.out]; simp
      · rw [HN.out]; omega
    · by_cases hstop : i < C.length
      · have h1 : (i : Int) < C.length := by omega
        have h2 : ¬ ((i : Int) < 100) := by omega
        have h60' : (60 : Int) < C.length := by omega
        have h60 : 60 < C.length := by omega
        have HE : Hid (true = longB C ∧ Below w.heap.size w wr) := ⟨by simp [longB, h60], HB.out⟩
        clear h60
        go_wp2
        go_ret
        exact ⟨by rw [← HE.out.1]; rfl, HE.out.2⟩
      · have h1 : ¬ ((i : Int) < C.length) := by omega
        by_cases h60 : 60 < C.length
        · have h60' : (60 : Int) < C.length := by omega
          have HE : Hid (true = longB C ∧ Below w.heap.size w wr) := ⟨by simp [longB, h60], HB.out⟩
          clear h60
          go_wp2
          go_ret
          exact ⟨by rw [← HE.out.1]; rfl, HE.out.2⟩
        · have h60' : ¬ ((60 : Int) < C.length) := by omega
          have htk : C.take i = C := List.take_of_length_le (by omega)
          rw [htk]
          by_cases hs : 20000 < sumL C
          · have hs' : (20000 : Int) < (sumL C : Int) := by omega
            have HE : Hid (true = longB C ∧ Below w.heap.size w wr) := ⟨by simp [longB, hs], HB.out⟩
            clear hs h60 htk
            generalize sumL C = sc at *
            go_wp2
            go_ret
            exact ⟨by rw [← HE.out.1]; rfl, HE.out.2⟩
          · have hs' : ¬ ((20000 : Int) < (sumL C : Int)) := by omega
            have HE : Hid (false = longB C ∧ Below w.heap.size w wr) := ⟨by simp [longB, hs, h60], HB.out⟩
            clear hs h60 htk
            generalize sumL C = sc at *
            go_wp2
            go_ret
            exact ⟨by rw [← HE.out.1]; rfl, HE.out.2⟩
end Go.Proofs.YtmekplaonlpfkaaGreatDoor
