/- EncBack: what holds at each round. -/
import Derived.Test.YtmgjipemgdgjdaaBack
import Derived.Test.YtmgjipemgdgjdaaSure
import Derived.Test.YtmgjipemgdgjdaaStr
namespace Go.Proofs.Ytmgjipemgdgjdaa
open Go.RowKit

theorem Below.allocS {w w' : World} (h : Below w.heap.size w w') (o : Obj) : Below w.heap.size w (w'.alloc o) := h.alloc h.size o
theorem Below.transS {w w1 w2 : World} (h : Below w.heap.size w w1) (k : Below w1.heap.size w1 w2) : Below w.heap.size w w2 := h.trans (k.mono h.size)
theorem RdAt.below {w w' : World} {rb n : Nat} {z : Nat → Int} {er : Int} (h : RdAt w rb n z er) (hb : Below w.heap.size w w') : RdAt w' rb n z er := by
  obtain ⟨ad, cap, h1, h2, h3⟩ := h
  exact ⟨ad, cap, (Frm.ofBelow (S := []) hb).heap h1 (by simp), h2, h3.frm (S := []) (Frm.ofBelow hb) (by simp)⟩
theorem RdAt.lt {w : World} {rb n : Nat} {z : Nat → Int} {er : Int} (h : RdAt w rb n z er) : rb < w.heap.size := by
  obtain ⟨ad, cap, hr, _, _⟩ := h
  exact lt_of_block hr
theorem RdAt.congr {w : World} {rb n n' : Nat} {z y : Nat → Int} {er : Int} (h : RdAt w rb n z er) (hn : n = n') (he : ∀ j, j < n → z j = y j) : RdAt w rb n' y er := by
  subst hn
  obtain ⟨ad, cap, h1, h2, h3⟩ := h
  exact ⟨ad, cap, h1, h2, h3.congr he⟩

set_option maxHeartbeats 400000 in
theorem done_ok (rb : Nat) (z : Nat → Int) (w : World) (h : RdAt w rb 0 z 0) :
    Calls Try.prog 16 #[.pointer (some ⟨rb, 0, none⟩)] w fun e w' => e = .returned .nilIface ∧ w' = w := by
  obtain ⟨ad, cap, hr, hlc, hs⟩ := h
  rw [errV_0] at hr
  have h0 := two_cell0 hr
  have h1 := two_cell1 hr
  clear hr hs
  go_enter Try.func16, Try.ntmps16
  go_wp2
  go_ret
  exact ⟨rfl, rfl⟩
set_option maxHeartbeats 400000 in
theorem left_any (rb n : Nat) (z : Nat → Int) (er : Int) (w : World) (h : RdAt w rb n z er) :
    Calls Try.prog 17 #[.pointer (some ⟨rb, 0, none⟩)] w fun e w' => e = .returned (.int .i64 n) ∧ w' = w := by
  obtain ⟨ad, cap, hr, hlc, hs⟩ := h
  have h0 := two_cell0 hr
  clear hr hs
  go_enter Try.func17, Try.ntmps17
  go_wp2
  go_ret
  exact ⟨rfl, rfl⟩

/-- All that the first things lay. -/
def laidL (X : Nat → Th) : Nat → List Int
  | 0 => []
  | k + 1 => laidL X k ++ (X k).by
theorem laidL_split (X : Nat → Th) : ∀ (m i : Nat), i < m → ∃ r, laidL X m = laidL X i ++ ((X i).by ++ r)
  | m + 1, i, h => by
    by_cases hi : i = m
    · subst hi; exact ⟨[], by simp [laidL]⟩
    · obtain ⟨r, hr⟩ := laidL_split X m i (by omega)
      exact ⟨r ++ (X m).by, by rw [laidL, hr]; simp⟩
theorem by_len (x : Th) : x.by.length ≤ 2 * x.len + 34 := by
  have h1 := sz_le (IntKind.u64.wrap x.n)
  have h2 := sz_le x.n
  have h3 := sz_le (-1 - x.n)
  have h4 := escF_le x.z x.len
  unfold Th.by
  split
  · simp only [uB, List.length_cons, dgs_length]; omega
  · split
    · unfold iB
      split <;> simp only [List.length_cons, dgs_length] <;> omega
    · split
      · simp only [List.length_append, List.length_cons, List.length_nil]; omega
      · rw [hB_length]; omega
theorem laidL_len (X : Nat → Th) : ∀ (m : Nat), (∀ i, i < m → (X i).len ≤ 1048576) → (laidL X m).length ≤ m * 2097200
  | 0, _ => by simp [laidL]
  | m + 1, h => by
    have h1 := laidL_len X m (fun i hi => h i (by omega))
    have h2 := by_len (X m)
    have h3 := h m (by omega)
    rw [laidL, List.length_append]
    omega

theorem ThOk.below {W w' : World} {x : Th} (h : ThOk W x) (hb : Below W.heap.size W w') : ThOk w' x :=
  ⟨h.k, h.n, h.cap, h.b.frm (S := []) (Frm.ofBelow hb) (by simp), h.nil, h.h⟩
theorem range_below {W w' : World} {b o : Nat} {x : Th} (h : W.rangeAt b o x.l) (hb : Below W.heap.size W w') : w'.rangeAt b o x.l := by
  have h0 : W.cell? ⟨b, o + 0, none⟩ = some (.int .i64 x.k) := h 0 _ rfl
  have hlt := World.block_lt_of_cell? W _ h0
  intro j v hv
  exact (hb.cell (p := ⟨b, o + j, none⟩) hlt).trans (h j v hv)
theorem range_lt {W : World} {b o : Nat} {x : Th} (h : W.rangeAt b o x.l) : b < W.heap.size := World.block_lt_of_cell? W ⟨b, o + 0, none⟩ (h 0 _ rfl)

/-- A writer of its own, made since W. -/
structure BkW (W wr : World) (l : List Int) : Prop where
  own : ∃ g, WrAt wr W.heap.size W.heap.size g l
  below : Below W.heap.size W wr
theorem BkW.begin (W : World) : BkW W (W.alloc (.cells #[.slice none 0 0] 49)) [] := ⟨⟨none, new_wr W⟩, (Below.refl _ W).alloc (Nat.le_refl _) _⟩
theorem BkW.next {W wr w' : World} {g : Option Nat} {l l' : List Int} (h : WrAt wr W.heap.size W.heap.size g l) (hb : Below W.heap.size W wr) (hG : WrGrown wr w' W.heap.size W.heap.size g l') : BkW W w' l' := by
  have hb' := hG.below h
  obtain ⟨g', ha, _⟩ := hG
  exact ⟨⟨g', ha⟩, hb.trans hb'⟩
theorem ThOk.apart {W wr : World} {g : Option Nat} {l : List Int} {x : Th} (h : ThOk W x) (hw : WrAt wr W.heap.size W.heap.size g l) : ∀ b off, 0 < x.len → x.a = some ⟨b, off, none⟩ → some b ≠ g := by
  intro b off hn e hg
  have h1 := h.b.lt hn e
  have h2 := (hw.lt.2.2 b hg.symm).2
  omega

/-- A reader of all that was laid, behind the first q things. -/
structure BkR (W wr : World) (rb : Nat) (X : Nat → Th) (m q : Nat) : Prop where
  rd : RdAt wr rb ((laidL X m).length - (laidL X q).length) (fun j => fn (laidL X m) (j + (laidL X q).length)) 0
  below : Below W.heap.size W wr
  ge : W.heap.size ≤ rb
theorem laidL_pre (X : Nat → Th) {m q : Nat} (h : q < m) : Pre ((laidL X m).length - (laidL X q).length) (fun j => fn (laidL X m) (j + (laidL X q).length)) (X q).by := by
  obtain ⟨r, hr⟩ := laidL_split X m q h
  refine ⟨by rw [hr]; simp, fun j hj => ?_⟩
  show fn (laidL X m) (j + _) = _
  rw [hr, Nat.add_comm j, fn_append_right, fn_append_left _ _ _ hj]
theorem BkR.next {W wr w' : World} {rb : Nat} {X : Nat → Th} {m q k : Nat} (h : BkR W wr rb X m q) (hk : k = (X q).by.length) (hf : Frm [rb] wr w')
    (hr : RdAt w' rb ((laidL X m).length - (laidL X q).length - k) (fun j => fn (laidL X m) (j + k + (laidL X q).length)) 0) : BkR W w' rb X m (q + 1) := by
  have e : (laidL X (q + 1)).length = (laidL X q).length + (X q).by.length := by simp [laidL]
  refine ⟨hr.congr (by omega) (fun j _ => by show fn _ _ = fn _ _; congr 1; omega), h.below.trans (hf.below h.below.size (fun k hk => by have := h.ge; simp at hk; omega)), h.ge⟩
theorem BkR.keep {W wr w' : World} {rb : Nat} {X : Nat → Th} {m q : Nat} (h : BkR W wr rb X m q) (hb : Below wr.heap.size wr w') : BkR W w' rb X m q :=
  ⟨h.rd.below hb, Below.transS h.below hb, h.ge⟩

theorem hv_congr {z y : Nat → Int} (h : ∀ j, j < 32 → z j = y j) : hv z = hv y := by
  unfold hv bl
  congr 1
  apply List.map_congr_left
  intro j hj
  rw [h j (by simpa using hj)]
theorem bkUint {W wr : World} {rb m q : Nat} {X : Nat → Th} (h : BkR W wr rb X m q) (hq : q < m) (hk : (X q).kd = 0) :
    Calls Try.prog 12 #[.pointer (some ⟨rb, 0, none⟩), .int .u64 18446744073709551615] wr fun e w' => e = .returned (.int .u64 (IntKind.u64.wrap (X q).n)) ∧ Frm [rb] wr w' ∧ BkR W w' rb X m (q + 1) := by
  have hp := laidL_pre X hq
  have eB : (X q).by = uB (IntKind.u64.wrap (X q).n) := by rw [Th.by, if_pos hk]
  rw [eB] at hp
  obtain ⟨a, b, c⟩ := u_back (u64_bd _).1 (u64_bd _).2 hp
  refine (rdUint_any rb _ _ _ wr h.rd).mono fun e w' ⟨h1, h2, h3⟩ => ?_
  rw [b] at h1
  rw [a, c] at h3
  exact ⟨h1, h2, h.next (by rw [eB]) h2 h3⟩
theorem bkInt {W wr : World} {rb m q : Nat} {X : Nat → Th} (h : BkR W wr rb X m q) (hq : q < m) (hk : (X q).kd = 1) (hn : -9223372036854775808 ≤ (X q).n ∧ (X q).n ≤ 9223372036854775807) :
    Calls Try.prog 13 #[.pointer (some ⟨rb, 0, none⟩)] wr fun e w' => e = .returned (.int .i64 (X q).n) ∧ Frm [rb] wr w' ∧ BkR W w' rb X m (q + 1) := by
  have hp := laidL_pre X hq
  have eB : (X q).by = iB (X q).n := by rw [Th.by, hk]; rfl
  rw [eB] at hp
  obtain ⟨a, b, c⟩ := i_back hn.1 hn.2 hp
  refine (rdInt_any rb _ _ wr h.rd).mono fun e w' ⟨h1, h2, h3⟩ => ?_
  rw [b] at h1
  rw [a, c] at h3
  exact ⟨h1, h2, h.next (by rw [eB]) h2 h3⟩
theorem bkBytes {W wr : World} {rb m q : Nat} {X : Nat → Th} (h : BkR W wr rb X m q) (hq : q < m) (hk : (X q).kd = 2) (hz : ∀ j, j < (X q).len → 0 ≤ (X q).z j ∧ (X q).z j ≤ 255) (hl : (laidL X m).length ≤ 140737488351232) :
    Calls Try.prog 14 #[.pointer (some ⟨rb, 0, none⟩), .int .i64 (X q).len] wr fun e w' => ∃ ad1 cap1, e = .returned (.slice ad1 (X q).len cap1) ∧ (SlAt w' ad1 (X q).len (X q).z ∧ (ad1 = none → (X q).len = 0 ∧ cap1 = 0)) ∧ Frm [rb] wr w' ∧ BkR W w' rb X m (q + 1) := by
  have hp := laidL_pre X hq
  have eB : (X q).by = escF (X q).z (X q).len ++ [0, 0] := by rw [Th.by, hk]; rfl
  rw [eB] at hp
  have hb := b_back hp hz
  refine (rdBytes_any rb _ _ _ wr (by omega) h.rd).mono fun e w' ⟨ad1, cap1, h1, h2, h3, h4⟩ => ?_
  rw [hb] at h1 h2 h4
  obtain ⟨o1, o2, o3, o4⟩ := h2
  simp only [List.length_map, List.length_range] at h1 o2 o3
  refine ⟨ad1, cap1, h1, ⟨o2.congr fun j hj => ?_, o3⟩, h3, h.next (by rw [eB]) h3 h4⟩
  rw [fn_get _ _ (by simpa using hj)]
  simp
theorem bkHash {W wr : World} {rb m q : Nat} {X : Nat → Th} (h : BkR W wr rb X m q) (hq : q < m) (hk : (X q).kd = 3) :
    Calls Try.prog 15 #[.pointer (some ⟨rb, 0, none⟩)] wr fun e w' => e = .returned (.agg (hv (X q).h)) ∧ Frm [rb] wr w' ∧ BkR W w' rb X m (q + 1) := by
  have hp := laidL_pre X hq
  have eB : (X q).by = hB (X q).h := by rw [Th.by, hk]; rfl
  rw [eB] at hp
  obtain ⟨a, b, c⟩ := h_back hp
  refine (rdHash_any rb _ _ wr h.rd).mono fun e w' ⟨h1, h2, h3⟩ => ?_
  rw [hv_congr c] at h1
  rw [a, b] at h3
  exact ⟨h1, h2, h.next (by rw [eB]) h2 h3⟩

/-- A thing's variable: laid, and stored into. -/
theorem run_allocT (w : World) : (Instr.alloc 30 true (.tuple #[])).run Try.prog w = .ok (.pointer (some ⟨w.heap.size, 0, none⟩)) (w.alloc (.cells (default : Th).v 30)) := by kernel_rfl
section
variable {ops : Array Oper} {rest : List Oper} {o : Oper} {a : Act} {w : World} {Q : Exit → Act → World → Prop}
theorem wpList_allocT (hgd : o.guard = none) (ho : o.op = .alloc 30)
    (h : wpList Try.prog ops Q rest (a.put o.dst (.pointer (some ⟨w.heap.size, 0, none⟩))) (w.alloc (.cells (default : Th).v 30))) : wpList Try.prog ops Q (o :: rest) a w := by
  refine wpList_plain hgd fun K hK => ?_
  unfold Oper.wp execOp
  simp only [ho, Sem.run_bind, run_allocT, Result.andThen]
  exact hK _ _ h
theorem Th.one (x : Th) : x.v.all (·.oneCell') = true := by
  refine all_oneCell_toArray fun u hu => ?_
  simp only [Th.l, List.mem_cons] at hu
  rcases hu with rfl | rfl | rfl | hu
  · rfl
  · rfl
  · rfl
  · exact bl_one _ _ u hu
/-- A whole thing stored into a variable of its own. -/
theorem wpList_storeT (hgd : o.guard = none) (x y : Operand) (ho : o.op = .store 30 x y) (g : Nat) (hx : a.eval x = .pointer (some ⟨g, 0, none⟩)) (z u : Th) (t : TypeId) (hy : a.eval y = .agg z.l.toArray) (hg : w.heap[g]? = some (.cells u.v t (0, 0)))
    (h : ∀ w', w'.heap[g]? = some (.cells z.v t (0, 0)) → Frm [g] w w' → wpList Try.prog ops Q rest (a.put o.dst undef) w') : wpList Try.prog ops Q (o :: rest) a w := by
  refine wpList_store_mid hgd 30 x y ho g 0 z.v hx hy ?_ (by have := tszv z; rw [Th.v_size]; rwa [Th.l_length] at this) z.one (h _ ?_ (setCells_frm g _ 0 w))
  · intro j hj
    rw [Th.v_size] at hj
    refine ⟨?_, ?_⟩
    · rw [Nat.zero_add, cell_of_row w g j _ t _ hg]
      simp [Th.v_size, hj]
    · rw [Nat.zero_add]; exact frozen_of_row w g j _ t hg
  · have := setCells_at g z.v.toList 0 w [] u.v.toList t (by simpa using hg) rfl (by simp [Th.v_size])
    rw [this]
    simp [Th.v_size, List.drop_eq_nil_of_le]
end
theorem eqIn_same {z : Nat → Int} (hz : ∀ j, j < 32 → 0 ≤ z j ∧ z j ≤ 255) (w : World) :
    (Op.equalIn 10000 28 (.agg (hv z)) (.agg (bl z 32).toArray)).run Try.prog w = .ok true w := by
  have : (Op.equalIn 10000 28 (.agg (hv z)) (.agg (hv z))).run Try.prog w = .ok (hq z z) w := by
    rw [hv_ub hz]
    exact run_equalIn_bytes w 9998 28 5 32 Try.underlying28 Try.underlying5 hsz1 (ub z) (ub z) (by simp [ub]) (by simp [ub])
  rw [hq_same] at this
  exact this
theorem th_cell {w : World} {g : Nat} {x : Th} {t : TypeId} (h : w.heap[g]? = some (.cells x.v t (0, 0))) (j : Nat) (u : Value) (hj : x.l[j]? = some u) : w.cell? ⟨g, j, none⟩ = some u := by
  rw [World.cell?, h]
  simpa [Th.v] using hj
theorem th_range {w : World} {g : Nat} {x : Th} {t : TypeId} (h : w.heap[g]? = some (.cells x.v t (0, 0))) : w.rangeAt g 3 (bl x.h 32) := by
  intro j v hv
  rw [Nat.add_comm]
  exact th_cell h (j + 3) v (by simpa [Th.l] using hv)
/-- A thing's bytes, as text, whatever the reader takes. -/
theorem bk_conv {W w3 w' : World} {rb m q gx : Nat} {X : Nat → Th} {x : Th} {t : TypeId} (h : ThOk W x) (hR : BkR W w3 rb X m q) (_h2 : w3.cell? ⟨gx, 2, none⟩ = some (.slice x.a x.len x.cap)) (hF : Frm [rb] w3 w') (hg : gx ∉ [rb]) (hx : w3.heap[gx]? = some (.cells x.v t (0, 0))) :
    w'.cell? ⟨gx, 2, none⟩ = some (.slice x.a x.len x.cap) ∧ (convert 25 9 (.slice x.a x.len x.cap)).run Try.prog w' = .ok (.string (strB x.z x.len)) w' := by
  refine ⟨th_cell (hF.heap hx hg) 2 _ rfl, conv_any _ _ _ _ _ ((h.below hR.below).b.frm hF (fun b off hn e => ?_)) h.nil⟩
  have h1 := h.b.lt hn e
  have h2 := hR.ge
  simp; omega
end Go.Proofs.Ytmgjipemgdgjdaa
