/- The document's All: the walk. -/
import Derived.Test.YtjnepkggdkccaaaGreatDoorOwnShelf13
import Derived.Deep.AppendLies
namespace Go.Proofs.YtjnepkggdkccaaaGreatDoor.Cd
open Go.RowKit

/-- How many of a row are below k, from its begin on. -/
def atK : List Int → Int → Nat
 | [], _ => 0
 | x :: r, k => if x < k then atK r k + 1 else 0
/-- k laid in where it belongs, if it is not there. -/
def insK (L : List Int) (k : Int) : List Int := if L.contains k then L else L.take (atK L k) ++ [k] ++ L.drop (atK L k)
def insL (z : Nat → Int) : Nat → List Int
 | 0 => []
 | i + 1 => insK (insL z i) (z i)
theorem insK_len (L : List Int) (k : Int) : (insK L k).length ≤ L.length + 1 := by
 unfold insK
 split
 ·omega
 ·simp; omega
theorem insL_len (z : Nat → Int) : ∀ i, (insL z i).length ≤ i
 | 0 => by simp [insL]
 | i + 1 => by have := insL_len z i; have := insK_len (insL z i) (z i); simp only [insL]; omega
theorem atK_le : ∀ (L : List Int) (k : Int), atK L k ≤ L.length
 | [], _ => by simp [atK]
 | x :: r, k => by
  have := atK_le r k
  simp only [atK]
  split <;> simp <;> omega
theorem fi_cons (x : Int) (r : List Int) (j : Nat) : fi (x :: r) (j + 1) = fi r j := by simp [fi]
theorem fi_zero (x : Int) (r : List Int) : fi (x :: r) 0 = x := by simp [fi]
theorem atK_lt : ∀ (L : List Int) (k : Int) (j : Nat), j < atK L k → fi L j < k
 | [], _, _, h => by simp [atK] at h
 | x :: r, k, j, h => by
  simp only [atK] at h
  split at h
  ·match j with
   | 0 => rw [fi_zero]; assumption
   | j + 1 => rw [fi_cons]; exact atK_lt r k j (by omega)
  ·omega
theorem atK_ge : ∀ (L : List Int) (k : Int), atK L k < L.length → ¬ fi L (atK L k) < k
 | [], _, h => by simp at h
 | x :: r, k, h => by
  simp only [atK] at h ⊢
  split
  ·rename_i hx
   rw [if_pos hx] at h
   rw [fi_cons]
   exact atK_ge r k (by simpa using h)
  ·rw [fi_zero]; assumption
/-- Where the search stands still. -/
theorem atK_is {L : List Int} {k : Int} {q : Nat} (hq : q ≤ L.length) (h1 : ∀ j, j < q → fi L j < k) (h2 : q = L.length ∨ ¬ fi L q < k) : atK L k = q := by
 have a1 := atK_le L k
 rcases Nat.lt_trichotomy (atK L k) q with h | h | h
 ·exact absurd (h1 _ h) (atK_ge L k (by omega))
 ·exact h
 ·rcases h2 with h2 | h2
  ·omega
  ·exact absurd (atK_lt L k q h) h2
theorem keysL_fi (L : List Int) : keysL (fi L) L.length = L := by
 apply List.ext_getElem
 ·simp [keysL]
 ·intro i h1 h2
  simp [keysL, fi, h2]
theorem memK_fi (L : List Int) (k : Int) : memK (fi L) L.length k = L.contains k := by unfold memK; rw [keysL_fi]
/-- A part of a row of one's own, as what is appended. -/
theorem part_src {w : World} {g off : Nat} {L : List Int} {ys : List Int} {c : Nat} (h : ∀ j, j < L.length → w.cell? ⟨g, 0 + j, none⟩ = some (.int .i64 (fi L j))) (hy : ∀ j, j < ys.length → off + j < L.length ∧ fi L (off + j) = fi ys j) : ISrc w (.slice (some ⟨g, off, none⟩) ys.length c) ys := by
 refine ⟨_, c, rfl, .inr ⟨_, rfl, fun j v hv => ?_⟩⟩
 have hj : j < ys.length := by simpa [iC] using (List.getElem?_eq_some_iff.1 hv).1
 obtain ⟨h1, h2⟩ := hy j hj
 rw [Addr.add_lit]
 have := h (off + j) h1
 rw [Nat.zero_add] at this
 rw [this, h2]
 simp [iC, hj] at hv
 simp [fi, hj, hv]
theorem tail_src {w : World} {g : Nat} {L : List Int} {q vc : Nat} (h : ∀ j, j < L.length → w.cell? ⟨g, 0 + j, none⟩ = some (.int .i64 (fi L j))) (hq : q ≤ L.length) (hc : L.length ≤ vc) : ISrc w (.slice (if vc = q then some ⟨g, 0, none⟩ else some ⟨g, q, none⟩) (L.length - q) (vc - q)) (L.drop q) := by
 have hl : (L.drop q).length = L.length - q := by simp
 by_cases e : vc = q
 ·rw [if_pos e]
  have h0 : L.length - q = 0 := by omega
  have h1 : L.drop q = [] := List.drop_eq_nil_of_le (by omega)
  rw [h0, h1]
  exact ⟨_, _, rfl, .inr ⟨_, rfl, fun j v hv => by simp [iC] at hv⟩⟩
 ·rw [if_neg e, ← hl]
  exact part_src h (fun j hj => ⟨by rw [hl] at hj; omega, by rw [hl] at hj; simp [fi, show q + j < L.length by omega]⟩)
theorem head_src {w : World} {g : Nat} {L : List Int} {q vc : Nat} (h : ∀ j, j < L.length → w.cell? ⟨g, 0 + j, none⟩ = some (.int .i64 (fi L j))) (hq : q ≤ L.length) : ISrc w (.slice (some ⟨g, 0, none⟩) q vc) (L.take q) := by
 have hl : (L.take q).length = q := by simp; omega
 have := part_src (c := vc) (off := 0) (ys := L.take q) h (fun j hj => ⟨by rw [hl] at hj; omega, by rw [hl] at hj; simp [fi, show j < L.length by omega, hj]⟩)
 rwa [hl] at this
theorem nil_src (w : World) (ad : Option Addr) (c : Nat) : ISrc w (.slice ad 0 c) [] := by
 cases ad with
 | none => exact ⟨none, c, rfl, .inl ⟨rfl, rfl⟩⟩
 | some a => exact ⟨some a, c, rfl, .inr ⟨a, rfl, fun j v hv => by simp [iC] at hv⟩⟩
theorem one_srcI (w : World) (x : Int) : ISrc (w.alloc (.cells #[.int .i64 x] 3)) (.slice (some ⟨w.heap.size, 0, none⟩) 1 1) [x] :=
 ⟨_, 1, rfl, .inr ⟨_, rfl, World.news_of_block (cs := #[.int .i64 x]) (t := 3) (fr := (0, 0)) (heap_alloc_new w _)⟩⟩

theorem szRC : (Tryz.prog.info? 122).map (·.size) = some 1 := by kernel_rfl
theorem build_rb (L : List Int) (ka : Option Addr) (kc : Nat) (w : World) : (Instr.build 126 #[(0, .slice ka L.length kc)]).run Tryz.prog w = .ok (.agg (bv (kb L) ka kc)) w := by kernel_rfl
theorem slice_rb (x : Bv) (ka : Option Addr) (kc : Nat) (w : World) : (Instr.buildSlice 120 1 #[(0, .agg (bv x ka kc))]).run Tryz.prog w = .ok (.slice (some ⟨w.heap.size, 0, none⟩) 1 1) (w.alloc (.cells (bv x ka kc) 126)) := by kernel_rfl
section
variable {ops : Array Oper} {rest : List Oper} {o : Oper} {a : Act} {w : World} {Q : Exit → Act → World → Prop}
theorem wpList_buildRB (hgd : o.guard = none) (x : Operand) (ho : o.op = .build 126 #[(0, x)]) (L : List Int) (ka : Option Addr) (kc : Nat) (hx : a.eval x = .slice ka L.length kc)
  (h : wpList Tryz.prog ops Q rest (a.put o.dst (.agg (bv (kb L) ka kc))) w) : wpList Tryz.prog ops Q (o :: rest) a w := by
 refine wpList_plain hgd fun K hK => ?_
 unfold Oper.wp execOp
 simp only [ho, List.map_toArray, List.map_cons, List.map_nil, hx, Sem.run_bind, build_rb, Result.andThen]
 exact hK _ _ h
theorem wpList_sliceRB (hgd : o.guard = none) (x : Operand) (ho : o.op = .buildSlice 120 1 #[(0, x)]) (v : Bv) (ka : Option Addr) (kc : Nat) (hx : a.eval x = .agg (bv v ka kc))
  (h : wpList Tryz.prog ops Q rest (a.put o.dst (.slice (some ⟨w.heap.size, 0, none⟩) 1 1)) (w.alloc (.cells (bv v ka kc) 126))) : wpList Tryz.prog ops Q (o :: rest) a w := by
 refine wpList_plain hgd fun K hK => ?_
 unfold Oper.wp execOp
 simp only [ho, List.map_toArray, List.map_cons, List.map_nil, hx, Sem.run_bind, slice_rb, Result.andThen]
 exact hK _ _ h
end
theorem insK_mem {L : List Int} {k x : Int} (h : x ∈ insK L k) : x ∈ L ∨ x = k := by
 unfold insK at h
 split at h
 ·exact .inl h
 ·simp only [List.mem_append, List.mem_singleton] at h
  rcases h with (h | h) | h
  ·exact .inl (List.mem_of_mem_take h)
  ·exact .inr h
  ·exact .inl (List.mem_of_mem_drop h)
theorem insL_ib {z : Nat → Int} {n : Nat} (h : ∀ j, j < n → Ib (z j)) : ∀ x ∈ insL z n, Ib x := by
 induction n with
 | zero => intro x hx; simp [insL] at hx
 | succ n ih =>
  intro x hx
  rcases insK_mem hx with h1 | h1
  ·exact ih (fun j hj => h j (by omega)) x h1
  ·rw [h1]; exact h n (by omega)
theorem slice_i (k : Int) (w : World) : (Instr.buildSlice 88 1 #[(0, .int .i64 k)]).run Tryz.prog w = .ok (.slice (some ⟨w.heap.size, 0, none⟩) 1 1) (w.alloc (.cells #[.int .i64 k] 3)) := by kernel_rfl
section
variable {ops : Array Oper} {o : Oper} {a : Act} {w : World} {K : Act → World → Prop} {Q : Exit → Act → World → Prop} {E : Prop}
theorem step_sliceI (hgd : o.guard = none) (x : Operand) (ho : o.op = .buildSlice 88 1 #[(0, x)]) (k : Int) (hx : a.eval x = .int .i64 k)
  (h : K (a.put o.dst (.slice (some ⟨w.heap.size, 0, none⟩) 1 1)) (w.alloc (.cells #[.int .i64 k] 3))) : if Region.wanted o (yielded ops a.tmps) = true then Oper.wp Tryz.prog o a w K Q else E := by
 have hw : Region.wanted o (yielded ops a.tmps) = true := by simp [Region.wanted, hgd]
 rw [if_pos hw]
 unfold Oper.wp execOp
 simp only [ho, List.map_toArray, List.map_cons, List.map_nil, hx, Sem.run_bind, slice_i, Result.andThen]
 exact h
end

set_option maxRecDepth 100000 in
set_option maxHeartbeats 3200000 in
theorem rall_in (ad : Option Addr) (n cap : Nat) (z : Nat → Int) (w : World) (hI : IsAt w ad n z) (hz : ∀ j, j < n → Ib (z j)) (hn : n ≤ 1000) :
  Calls Tryz.prog 44 #[.slice ad n cap] w fun e w' => ∃ g, e = .returned (.agg #[.slice (some ⟨g, 0, none⟩) 1 1]) ∧ BrIn w' w.heap.size (some ⟨g, 0, none⟩) 1 (fun _ => kb (insL z n)) ∧ Below w.heap.size w w' := by
 have hb0 : Below w.heap.size w (w.alloc (.cells #[.slice none 0 0] 122)) := (Below.refl _ w).alloc (Nat.le_refl _) _
 have hr0 : (w.alloc (.cells #[.slice none 0 0] 122)).heap[w.heap.size]? = some (.cells #[.slice none 0 0] 122 (0, 0)) := heap_alloc_new w _
 have HI : Hid (IsAt (w.alloc (.cells #[.slice none 0 0] 122)) ad n z ∧ Below w.heap.size w (w.alloc (.cells #[.slice none 0 0] 122)) ∧ (w.alloc (.cells #[.slice none 0 0] 122)).heap[w.heap.size]? = some (.cells #[.slice none 0 0] 122 (0, 0))) := ⟨hI.below hb0, hb0, hr0⟩
 clear hI hb0 hr0
 go_enter Tryz.func44, Tryz.ntmps44
 go_wp2
 generalize w.alloc (.cells #[.slice none 0 0] 122) = W0 at *
 have h0 : IOw W0 W0 (.slice none 0 0) (insL z 0) := IOw.nil W0
 go_loopw [3, 4, 5, 6] (fun sv iv _ _ wr => ∃ (i : Nat) (v : Value), i ≤ n ∧ v = sv ∧ iv = .int .i64 i ∧ IOw W0 wr v (insL z i)) (fun _ iv _ _ _ => n + 1 - (intOf iv).toNat)
 case atStart => exact ⟨0, _, by omega, rfl, rfl, h0⟩
 case round =>
  clear h0
  obtain ⟨i, v, hi, rfl, rfl, hO⟩ := hrel
  have HO : Hid (IOw W0 wr v (insL z i)) := hO
  have hLl := insL_len z i
  clear hO
  by_cases hlt : i < n
  ·have hlt' : (i : Int) < n := by omega
   obtain ⟨L, hL⟩ : ∃ L, L = insL z i := ⟨_, rfl⟩
   rw [← hL] at HO hLl
   have HL : Hid (insL z (i + 1) = insK L (z i)) := by show _ = _; rw [hL]; rfl
   obtain ⟨b, off, rfl, hc⟩ := (HI.out.1.below HO.out.below) (by omega)
   have hci := hc i hlt
   obtain ⟨va, vc, rfl⟩ : ∃ va vc, v = .slice va L.length vc := by
    rcases HO.out.form with ⟨e, e2⟩ | ⟨g, c, e, _⟩
    ·exact ⟨none, 0, by rw [e, e2]; rfl⟩
    ·exact ⟨_, _, e⟩
   have hhas := rhas_any va L.length vc (fi L) (z i) wr HO.out.isAt.2 (by omega)
   rw [memK_fi] at hhas
   clear hc hL
   by_cases hm : L.contains (z i) = true
   ·rw [hm] at hhas
    have HN : Hid (insL z (i + 1) = L) := by show _ = _; rw [HL.out]; exact if_pos hm
    go_wp2_with (go_at_call 75; refine hhas.mono ?_; rintro e w1 ⟨rfl, hb1⟩)
    go_roundw
    case rel => exact ⟨i + 1, _, by omega, rfl, by go_num, by rw [HN.out]; exact HO.out.keep hb1⟩
    case measure => simp [intOf]; omega
   ·have hm' : L.contains (z i) = false := by simpa using hm
    rw [hm'] at hhas
    have HN : Hid (insL z (i + 1) = L.take (atK L (z i)) ++ [z i] ++ L.drop (atK L (z i))) := by show _ = _; rw [HL.out]; exact if_neg hm
    go_wp2_with fail
    refine hhas.mono ?_
    rintro e w1 ⟨rfl, hb1⟩
    have HO1 : Hid (IOw W0 w1 (.slice va L.length vc) L) := HO.out.keep hb1
    have hci1 : w1.cell? ⟨b, off + i, none⟩ = some (.int .i64 (z i)) := by rw [hb1.cell (p := ⟨b, off + i, none⟩) (World.block_lt_of_cell? wr ⟨b, off + i, none⟩ hci)]; exact hci
    clear hhas hb1 hci HO
    go_wp2_with fail
    have hs1 := Below.refl w1.heap.size w1
    go_loopw [5] (fun qv wq => ∃ q : Nat, q ≤ L.length ∧ qv = .int .i64 q ∧ (∀ j, j < q → fi L j < z i) ∧ Below w1.heap.size w1 wq) (fun qv _ => L.length + 1 - (intOf qv).toNat)
    case atStart => exact ⟨0, by omega, rfl, fun j hj => by omega, hs1⟩
    case round =>
     clear hs1
     rename World => wq
     obtain ⟨q, hq, rfl, hlo, hbq⟩ := hrel
     have HQ : Hid ((∀ j, j < q → fi L j < z i) ∧ IOw W0 wq (.slice va L.length vc) L) := ⟨hlo, HO1.out.keep hbq⟩
     have hciq : wq.drew.cell? ⟨b, off + i, none⟩ = some (.int .i64 (z i)) := by
      have := hbq.cell (p := ⟨b, off + i, none⟩) (World.block_lt_of_cell? w1 ⟨b, off + i, none⟩ hci1)
      show wq.cell? _ = _
      rw [this]; exact hci1
     have HBQ : Hid (Below w1.heap.size w1 wq.drew) := hbq.drew
     clear hlo hbq
     by_cases hql : q < L.length
     ·have hql' : (q : Int) < L.length := by omega
      rcases HQ.out.2.form with ⟨e, e2⟩ | ⟨g, c, e, hlc, hcm, hg0, hg1, hcL⟩
      ·rw [e2] at hql; simp at hql
      simp only [Value.slice.injEq] at e
      obtain ⟨rfl, -, rfl⟩ := e
      have hcq : wq.drew.cell? ⟨g, q, none⟩ = some (.int .i64 (fi L q)) := by simpa using hcL q hql
      by_cases hlt2 : fi L q < z i
      ·have HN2 : Hid (∀ j, j < q + 1 → fi L j < z i) := fun j hj => by
        by_cases e : j = q
        ·subst e; exact hlt2
        ·exact HQ.out.1 j (by omega)
       clear hcL
       go_wp2_with fail
       refine wp_region_noPanic ?_
       refine wp_region_held_drew (S := fun w' => w'.cell? ⟨b, off + i, none⟩ = some (.int .i64 (z i)) ∧ w'.cell? ⟨g, q, none⟩ = some (.int .i64 (fi L q))) (by kernel_rfl) ⟨hciq, hcq⟩ (fun hHeld => ?_)
       refine wpT (i := 0) (oi := ⟨some 19, .move (.tmp 5), 3, _, _, none⟩) (v := ?_) rfl (by kernel_rfl) (fun _ _ _ h => h) (Or.inl ⟨by rfl, ?_⟩) (by assumption) ?_
       rotate_left
       ·intro wz hSw; (try dsimp only at hSw); go_simp; (try with_reducible rfl)
       try simp only [Act.put, zA, zB, zC]
       refine wpT (i := 1) (oi := ⟨some 20, .move (.tmp 3), 88, _, _, none⟩) (v := ?_) rfl (by kernel_rfl) (fun _ _ _ h => h) (Or.inl ⟨by rfl, ?_⟩) (by assumption) ?_
       rotate_left
       ·intro wz hSw; (try dsimp only at hSw); go_simp; (try with_reducible rfl)
       try simp only [Act.put, zA, zB, zC]
       refine wpT (i := 2) (oi := ⟨some 21, .call { callee := Go.Callee.builtin Go.Builtin.len, args := #[.tmp 20], argTypes := #[88] }, 3, _, _, none⟩) (v := ?_) rfl (by kernel_rfl) (fun _ _ _ h => h) (Or.inl ⟨by rfl, ?_⟩) (by assumption) ?_
       rotate_left
       ·intro wz hSw; (try dsimp only at hSw); go_simp; (try with_reducible rfl)
       try simp only [Act.put, zA, zB, zC]
       refine wpT (i := 3) (oi := ⟨some 22, .binOp .lss 3 (.tmp 19) (.tmp 21) 3, 4, _, _, none⟩) (v := ?_) rfl (by kernel_rfl) (fun _ _ _ h => h) (Or.inl ⟨by rfl, ?_⟩) (by assumption) ?_
       rotate_left
       ·intro wz hSw; (try dsimp only at hSw); go_simp; (try with_reducible rfl)
       try simp only [Act.put, zA, zB, zC]
       refine wpT (i := 4) (oi := ⟨some 23, .move (.tmp 22), 4, _, _, none⟩) (v := ?_) rfl (by kernel_rfl) (fun _ _ _ h => h) (Or.inl ⟨by rfl, ?_⟩) (by assumption) ?_
       rotate_left
       ·intro wz hSw; (try dsimp only at hSw); go_simp; (try with_reducible rfl)
       try simp only [Act.put, zA, zB, zC]
       refine wpT (i := 5) (oi := ⟨some 24, .move (.tmp 3), 88, _, _, some (4, true)⟩) (v := ?_) rfl (by kernel_rfl) (fun _ _ _ h => h) (Or.inl ⟨by rfl, ?_⟩) (by assumption) ?_
       rotate_left
       ·intro wz hSw; (try dsimp only at hSw); go_simp; (try with_reducible rfl)
       try simp only [Act.put, zA, zB, zC]
       refine wpT (i := 6) (oi := ⟨some 25, .move (.tmp 5), 3, _, _, some (4, true)⟩) (v := ?_) rfl (by kernel_rfl) (fun _ _ _ h => h) (Or.inl ⟨by rfl, ?_⟩) (by assumption) ?_
       rotate_left
       ·intro wz hSw; (try dsimp only at hSw); go_simp; (try with_reducible rfl)
       try simp only [Act.put, zA, zB, zC]
       refine wpT (i := 7) (oi := ⟨some 26, .indexAddr 88 (.tmp 24) (.tmp 25), 0, _, _, some (4, true)⟩) (v := ?_) rfl (by kernel_rfl) (fun _ _ _ h => h) (Or.inl ⟨by rfl, ?_⟩) (by assumption) ?_
       rotate_left
       ·intro wz hSw; (try dsimp only at hSw); go_simp; (try with_reducible rfl)
       try simp only [Act.put, zA, zB, zC]
       refine wpT (i := 8) (oi := ⟨some 27, .load 3 (.tmp 26), 3, _, _, some (4, true)⟩) (v := ?_) rfl (by kernel_rfl) (fun _ _ _ h => h) (Or.inl ⟨by rfl, ?_⟩) (by assumption) ?_
       rotate_left
       ·intro wz hSw; (try dsimp only at hSw); go_simp; (try with_reducible rfl)
       try simp only [Act.put, zA, zB, zC]
       refine wpT (i := 9) (oi := ⟨some 28, .move (.tmp 0), 88, _, _, some (4, true)⟩) (v := ?_) rfl (by kernel_rfl) (fun _ _ _ h => h) (Or.inl ⟨by rfl, ?_⟩) (by assumption) ?_
       rotate_left
       ·intro wz hSw; (try dsimp only at hSw); go_simp; (try with_reducible rfl)
       try simp only [Act.put, zA, zB, zC]
       refine wpT (i := 10) (oi := ⟨some 29, .move (.tmp 4), 3, _, _, some (4, true)⟩) (v := ?_) rfl (by kernel_rfl) (fun _ _ _ h => h) (Or.inl ⟨by rfl, ?_⟩) (by assumption) ?_
       rotate_left
       ·intro wz hSw; (try dsimp only at hSw); go_simp; (try with_reducible rfl)
       try simp only [Act.put, zA, zB, zC]
       refine wpT (i := 11) (oi := ⟨some 30, .indexAddr 88 (.tmp 28) (.tmp 29), 0, _, _, some (4, true)⟩) (v := ?_) rfl (by kernel_rfl) (fun _ _ _ h => h) (Or.inl ⟨by rfl, ?_⟩) (by assumption) ?_
       rotate_left
       ·intro wz hSw; (try dsimp only at hSw); go_simp; (try with_reducible rfl)
       try simp only [Act.put, zA, zB, zC]
       refine wpT (i := 12) (oi := ⟨some 31, .load 3 (.tmp 30), 3, _, _, some (4, true)⟩) (v := ?_) rfl (by kernel_rfl) (fun _ _ _ h => h) (Or.inl ⟨by rfl, ?_⟩) (by assumption) ?_
       rotate_left
       ·intro wz hSw; (try dsimp only at hSw); go_simp; (try with_reducible rfl)
       try simp only [Act.put, zA, zB, zC]
       refine wpT (i := 13) (oi := ⟨some 32, .binOp .lss 3 (.tmp 27) (.tmp 31) 3, 4, _, _, some (4, true)⟩) (v := ?_) rfl (by kernel_rfl) (fun _ _ _ h => h) (Or.inl ⟨by rfl, ?_⟩) (by assumption) ?_
       rotate_left
       ·intro wz hSw; (try dsimp only at hSw); go_simp; (try with_reducible rfl)
       try simp only [Act.put, zA, zB, zC]
       refine wpT (i := 14) (oi := ⟨some 33, .pick (.tmp 23) (.tmp 32) (.const (.bool false)), 4, _, _, none⟩) (v := ?_) rfl (by kernel_rfl) (fun _ _ _ h => h) (Or.inl ⟨by rfl, ?_⟩) (by assumption) ?_
       rotate_left
       ·intro wz hSw; (try dsimp only at hSw); go_simp; (try with_reducible rfl)
       try simp only [Act.put, zA, zB, zC]
       refine wpAnyH_done (by kernel_rfl) (NoPanic.normal ?_) _
       try simp only [Act.put, zA, zB, zC]
       clear hHeld
       go_wp2
       go_roundw
       case rel => exact ⟨q + 1, by omega, by go_num, HN2.out, HBQ.out⟩
       case measure => simp [intOf]; omega
      ·have hq' : atK L (z i) = q := atK_is (by omega) HQ.out.1 (.inr hlt2)
       have hge : z i ≤ fi L q := by omega
       have hlo : (q : Int) ≤ L.length := by omega
       have hcap : (q : Int) ≤ vc := by omega
       have HSR : Hid (ISrc wq.drew.drew (.slice (some ⟨g, 0, none⟩) q vc) (L.take q) ∧ ISrc wq.drew.drew (.slice (if vc = q then some ⟨g, 0, none⟩ else some ⟨g, q, none⟩) (L.length - q) (vc - q)) (L.drop q)) := ⟨head_src (w := wq.drew.drew) hcL (by omega), tail_src (w := wq.drew.drew) hcL (by omega) hlc⟩
       clear hcL
       go_wp2_with fail
       refine wp_region_noPanic ?_
       refine wp_region_held_drew (S := fun w' => w'.cell? ⟨b, off + i, none⟩ = some (.int .i64 (z i)) ∧ w'.cell? ⟨g, q, none⟩ = some (.int .i64 (fi L q))) (by kernel_rfl) ⟨hciq, hcq⟩ (fun hHeld => ?_)
       refine wpT (i := 0) (oi := ⟨some 19, .move (.tmp 5), 3, _, _, none⟩) (v := ?_) rfl (by kernel_rfl) (fun _ _ _ h => h) (Or.inl ⟨by rfl, ?_⟩) (by assumption) ?_
       rotate_left
       ·intro wz hSw; (try dsimp only at hSw); go_simp; (try with_reducible rfl)
       try simp only [Act.put, zA, zB, zC]
       refine wpT (i := 1) (oi := ⟨some 20, .move (.tmp 3), 88, _, _, none⟩) (v := ?_) rfl (by kernel_rfl) (fun _ _ _ h => h) (Or.inl ⟨by rfl, ?_⟩) (by assumption) ?_
       rotate_left
       ·intro wz hSw; (try dsimp only at hSw); go_simp; (try with_reducible rfl)
       try simp only [Act.put, zA, zB, zC]
       refine wpT (i := 2) (oi := ⟨some 21, .call { callee := Go.Callee.builtin Go.Builtin.len, args := #[.tmp 20], argTypes := #[88] }, 3, _, _, none⟩) (v := ?_) rfl (by kernel_rfl) (fun _ _ _ h => h) (Or.inl ⟨by rfl, ?_⟩) (by assumption) ?_
       rotate_left
       ·intro wz hSw; (try dsimp only at hSw); go_simp; (try with_reducible rfl)
       try simp only [Act.put, zA, zB, zC]
       refine wpT (i := 3) (oi := ⟨some 22, .binOp .lss 3 (.tmp 19) (.tmp 21) 3, 4, _, _, none⟩) (v := ?_) rfl (by kernel_rfl) (fun _ _ _ h => h) (Or.inl ⟨by rfl, ?_⟩) (by assumption) ?_
       rotate_left
       ·intro wz hSw; (try dsimp only at hSw); go_simp; (try with_reducible rfl)
       try simp only [Act.put, zA, zB, zC]
       refine wpT (i := 4) (oi := ⟨some 23, .move (.tmp 22), 4, _, _, none⟩) (v := ?_) rfl (by kernel_rfl) (fun _ _ _ h => h) (Or.inl ⟨by rfl, ?_⟩) (by assumption) ?_
       rotate_left
       ·intro wz hSw; (try dsimp only at hSw); go_simp; (try with_reducible rfl)
       try simp only [Act.put, zA, zB, zC]
       refine wpT (i := 5) (oi := ⟨some 24, .move (.tmp 3), 88, _, _, some (4, true)⟩) (v := ?_) rfl (by kernel_rfl) (fun _ _ _ h => h) (Or.inl ⟨by rfl, ?_⟩) (by assumption) ?_
       rotate_left
       ·intro wz hSw; (try dsimp only at hSw); go_simp; (try with_reducible rfl)
       try simp only [Act.put, zA, zB, zC]
       refine wpT (i := 6) (oi := ⟨some 25, .move (.tmp 5), 3, _, _, some (4, true)⟩) (v := ?_) rfl (by kernel_rfl) (fun _ _ _ h => h) (Or.inl ⟨by rfl, ?_⟩) (by assumption) ?_
       rotate_left
       ·intro wz hSw; (try dsimp only at hSw); go_simp; (try with_reducible rfl)
       try simp only [Act.put, zA, zB, zC]
       refine wpT (i := 7) (oi := ⟨some 26, .indexAddr 88 (.tmp 24) (.tmp 25), 0, _, _, some (4, true)⟩) (v := ?_) rfl (by kernel_rfl) (fun _ _ _ h => h) (Or.inl ⟨by rfl, ?_⟩) (by assumption) ?_
       rotate_left
       ·intro wz hSw; (try dsimp only at hSw); go_simp; (try with_reducible rfl)
       try simp only [Act.put, zA, zB, zC]
       refine wpT (i := 8) (oi := ⟨some 27, .load 3 (.tmp 26), 3, _, _, some (4, true)⟩) (v := ?_) rfl (by kernel_rfl) (fun _ _ _ h => h) (Or.inl ⟨by rfl, ?_⟩) (by assumption) ?_
       rotate_left
       ·intro wz hSw; (try dsimp only at hSw); go_simp; (try with_reducible rfl)
       try simp only [Act.put, zA, zB, zC]
       refine wpT (i := 9) (oi := ⟨some 28, .move (.tmp 0), 88, _, _, some (4, true)⟩) (v := ?_) rfl (by kernel_rfl) (fun _ _ _ h => h) (Or.inl ⟨by rfl, ?_⟩) (by assumption) ?_
       rotate_left
       ·intro wz hSw; (try dsimp only at hSw); go_simp; (try with_reducible rfl)
       try simp only [Act.put, zA, zB, zC]
       refine wpT (i := 10) (oi := ⟨some 29, .move (.tmp 4), 3, _, _, some (4, true)⟩) (v := ?_) rfl (by kernel_rfl) (fun _ _ _ h => h) (Or.inl ⟨by rfl, ?_⟩) (by assumption) ?_
       rotate_left
       ·intro wz hSw; (try dsimp only at hSw); go_simp; (try with_reducible rfl)
       try simp only [Act.put, zA, zB, zC]
       refine wpT (i := 11) (oi := ⟨some 30, .indexAddr 88 (.tmp 28) (.tmp 29), 0, _, _, some (4, true)⟩) (v := ?_) rfl (by kernel_rfl) (fun _ _ _ h => h) (Or.inl ⟨by rfl, ?_⟩) (by assumption) ?_
       rotate_left
       ·intro wz hSw; (try dsimp only at hSw); go_simp; (try with_reducible rfl)
       try simp only [Act.put, zA, zB, zC]
       refine wpT (i := 12) (oi := ⟨some 31, .load 3 (.tmp 30), 3, _, _, some (4, true)⟩) (v := ?_) rfl (by kernel_rfl) (fun _ _ _ h => h) (Or.inl ⟨by rfl, ?_⟩) (by assumption) ?_
       rotate_left
       ·intro wz hSw; (try dsimp only at hSw); go_simp; (try with_reducible rfl)
       try simp only [Act.put, zA, zB, zC]
       refine wpT (i := 13) (oi := ⟨some 32, .binOp .lss 3 (.tmp 27) (.tmp 31) 3, 4, _, _, some (4, true)⟩) (v := ?_) rfl (by kernel_rfl) (fun _ _ _ h => h) (Or.inl ⟨by rfl, ?_⟩) (by assumption) ?_
       rotate_left
       ·intro wz hSw; (try dsimp only at hSw); go_simp; (try with_reducible rfl)
       try simp only [Act.put, zA, zB, zC]
       refine wpT (i := 14) (oi := ⟨some 33, .pick (.tmp 23) (.tmp 32) (.const (.bool false)), 4, _, _, none⟩) (v := ?_) rfl (by kernel_rfl) (fun _ _ _ h => h) (Or.inl ⟨by rfl, ?_⟩) (by assumption) ?_
       rotate_left
       ·intro wz hSw; (try dsimp only at hSw); go_simp; (try with_reducible rfl)
       try simp only [Act.put, zA, zB, zC]
       refine wpAnyH_done (by kernel_rfl) (NoPanic.normal ?_) _
       try simp only [Act.put, zA, zB, zC]
       clear hHeld
       go_wp2_with fail
       have KC : Hid (∀ w' : World, Below wq.drew.drew.heap.size wq.drew.drew w' → w'.cell? ⟨b, off + i, none⟩ = some (.int .i64 (z i))) := fun w' hb => by rw [hb.cell (p := ⟨b, off + i, none⟩) (World.block_lt_of_cell? wq.drew.drew ⟨b, off + i, none⟩ hciq)]; exact hciq
       have HWD : Hid (Below W0.heap.size W0 wq.drew.drew) := HQ.out.2.below.drew.drew
       refine wp_region_noPanic ?_
       refine wp_region_held_drew (S := fun w' => w'.cell? ⟨b, off + i, none⟩ = some (.int .i64 (z i))) (by kernel_rfl) hciq (fun hHeld => ?_)
       refine wpT (i := 0) (oi := ⟨some 36, .move (.tmp 6), 88, _, _, none⟩) (v := ?_) rfl (by kernel_rfl) (fun _ _ _ h => h) (Or.inl ⟨by rfl, ?_⟩) (by assumption) ?_
       rotate_left
       ·intro wz hSw; (try dsimp only at hSw); go_simp; (try with_reducible rfl)
       try simp only [Act.put, zA, zB, zC]
       refine wpT (i := 1) (oi := ⟨some 37, .move (.tmp 3), 88, _, _, none⟩) (v := ?_) rfl (by kernel_rfl) (fun _ _ _ h => h) (Or.inl ⟨by rfl, ?_⟩) (by assumption) ?_
       rotate_left
       ·intro wz hSw; (try dsimp only at hSw); go_simp; (try with_reducible rfl)
       try simp only [Act.put, zA, zB, zC]
       refine wpT (i := 2) (oi := ⟨some 38, .move (.tmp 5), 3, _, _, none⟩) (v := ?_) rfl (by kernel_rfl) (fun _ _ _ h => h) (Or.inl ⟨by rfl, ?_⟩) (by assumption) ?_
       rotate_left
       ·intro wz hSw; (try dsimp only at hSw); go_simp; (try with_reducible rfl)
       try simp only [Act.put, zA, zB, zC]
       refine wpT (i := 3) (oi := ⟨some 39, .slice 88 (.tmp 37) none (some (.tmp 38)) none, 88, _, _, none⟩) (v := ?_) rfl (by kernel_rfl) (fun _ _ _ h => h) (Or.inl ⟨by rfl, ?_⟩) (by assumption) ?_
       rotate_left
       ·intro wz hSw; (try dsimp only at hSw); go_simp; (try with_reducible rfl)
       try simp only [Act.put, zA, zB, zC]
       refine wpT (i := 5) (oi := ⟨some 41, .move (.tmp 0), 88, _, _, none⟩) (v := ?_) rfl (by kernel_rfl) (fun _ _ _ h => h) (Or.inl ⟨by rfl, ?_⟩) (by assumption) ?_
       rotate_left
       ·intro wz hSw; (try dsimp only at hSw); go_simp; (try with_reducible rfl)
       try simp only [Act.put, zA, zB, zC]
       refine wpT (i := 6) (oi := ⟨some 42, .move (.tmp 4), 3, _, _, none⟩) (v := ?_) rfl (by kernel_rfl) (fun _ _ _ h => h) (Or.inl ⟨by rfl, ?_⟩) (by assumption) ?_
       rotate_left
       ·intro wz hSw; (try dsimp only at hSw); go_simp; (try with_reducible rfl)
       try simp only [Act.put, zA, zB, zC]
       refine wpT (i := 7) (oi := ⟨some 43, .indexAddr 88 (.tmp 41) (.tmp 42), 0, _, _, none⟩) (v := ?_) rfl (by kernel_rfl) (fun _ _ _ h => h) (Or.inl ⟨by rfl, ?_⟩) (by assumption) ?_
       rotate_left
       ·intro wz hSw; (try dsimp only at hSw); go_simp; (try with_reducible rfl)
       try simp only [Act.put, zA, zB, zC]
       refine wpT (i := 8) (oi := ⟨some 44, .load 3 (.tmp 43), 3, _, _, none⟩) (v := ?_) rfl (by kernel_rfl) (fun _ _ _ h => h) (Or.inl ⟨by rfl, ?_⟩) (by assumption) ?_
       rotate_left
       ·intro wz hSw; (try dsimp only at hSw); go_simp; (try with_reducible rfl)
       try simp only [Act.put, zA, zB, zC]
       refine wpT (i := 11) (oi := ⟨some 47, .move (.tmp 3), 88, _, _, none⟩) (v := ?_) rfl (by kernel_rfl) (fun _ _ _ h => h) (Or.inl ⟨by rfl, ?_⟩) (by assumption) ?_
       rotate_left
       ·intro wz hSw; (try dsimp only at hSw); go_simp; (try with_reducible rfl)
       try simp only [Act.put, zA, zB, zC]
       refine wpT (i := 12) (oi := ⟨some 48, .move (.tmp 5), 3, _, _, none⟩) (v := ?_) rfl (by kernel_rfl) (fun _ _ _ h => h) (Or.inl ⟨by rfl, ?_⟩) (by assumption) ?_
       rotate_left
       ·intro wz hSw; (try dsimp only at hSw); go_simp; (try with_reducible rfl)
       try simp only [Act.put, zA, zB, zC]
       refine wpT (i := 13) (oi := ⟨some 49, .slice 88 (.tmp 47) (some (.tmp 48)) none none, 88, _, _, none⟩) (v := ?_) rfl (by kernel_rfl) (fun _ _ _ h => h) (Or.inl ⟨by rfl, ?_⟩) (by assumption) ?_
       rotate_left
       ·intro wz hSw; (try dsimp only at hSw); go_simp; (try with_reducible rfl)
       try simp only [Act.put, zA, zB, zC]
       refine wpAnyH_ready (rs := [4, 9]) (by kernel_rfl) (by simp) ?_
       refine (AllReadyH.cons (o := ⟨some 40, .call { callee := Go.Callee.builtin Go.Builtin.append, args := #[.tmp 36, .tmp 39], argTypes := #[88, 88] }, 88, _, _, none⟩) rfl (fun K hK => ?_) (AllReadyH.cons (o := ⟨some 45, .buildSlice 88 1 #[(0, .tmp 44)], 88, _, _, none⟩) rfl (fun K hK => ?_) AllReadyH.nil))
       ·
        refine step_append_I rfl (.tmp 36) (.tmp 39) rfl wq.drew.drew _ _ [] (L.take q) (by rfl) (by rfl) (IOw.nil _) HSR.out.1 (by simp; omega) ?_
        intro va1 wa1 hOa1 _
        refine hK.out _ _ (KC.out _ hOa1.below) (fun _ => ?_)
        clear hK K
        refine wpAnyH_ready (rs := [9]) (by kernel_rfl) (by simp) ?_
        refine (AllReadyH.cons (o := ⟨some 45, .buildSlice 88 1 #[(0, .tmp 44)], 88, _, _, none⟩) rfl (fun K hK => ?_) AllReadyH.nil)
        refine step_sliceI rfl (.tmp 44) rfl (z i) (by rfl) ?_
        have hOa1' := hOa1.keep ((Below.refl _ wa1).alloc (Nat.le_refl _) (.cells #[.int .i64 (z i)] 3))
        refine hK.out _ _ (KC.out _ hOa1'.below) (fun _ => ?_)
        clear hK K
        refine wpAnyH_ready (rs := [10]) (by kernel_rfl) (by simp) ?_
        refine (AllReadyH.cons (o := ⟨some 46, .call { callee := Go.Callee.builtin Go.Builtin.append, args := #[.tmp 40, .tmp 45], argTypes := #[88, 88] }, 88, _, _, none⟩) rfl (fun K hK => ?_) AllReadyH.nil)
        refine step_append_I rfl (.tmp 40) (.tmp 45) rfl wq.drew.drew _ _ ([] ++ L.take q) [z i] (by rfl) (by rfl) hOa1' (one_srcI wa1 (z i)) (by simp; omega) ?_
        intro va2 wa2 hOa2 _
        refine hK.out _ _ (KC.out _ hOa2.below) (fun _ => ?_)
        clear hK K
        refine wpAnyH_ready (rs := [14]) (by kernel_rfl) (by simp) ?_
        refine (AllReadyH.cons (o := ⟨some 50, .call { callee := Go.Callee.builtin Go.Builtin.append, args := #[.tmp 46, .tmp 49], argTypes := #[88, 88] }, 88, _, _, none⟩) rfl (fun K hK => ?_) AllReadyH.nil)
        refine step_append_I rfl (.tmp 46) (.tmp 49) rfl wq.drew.drew _ _ _ (L.drop q) (by rfl) (by rfl) hOa2 (HSR.out.2.below hOa2.below) (by simp; omega) ?_
        intro va3 wa3 hOa3 _
        refine hK.out _ _ (KC.out _ (hOa3.below)) (fun _ => ?_)
        clear hK K
        refine wpT (i := 15) (oi := ⟨some 3, .assign (.tmp 50), 88, _, _, none⟩) (v := ?_) rfl (by kernel_rfl) (fun _ _ _ h => h) (Or.inl ⟨by rfl, ?_⟩) (by assumption) ?_
        rotate_left
        ·intro wz hSw; (try dsimp only at hSw); go_simp; (try with_reducible rfl)
        try simp only [Act.put, zA, zB, zC]
        refine wpAnyH_done (by kernel_rfl) (NoPanic.normal ?_) _
        try simp only [Act.put, zA, zB, zC]
        have HN3 : Hid (IOw W0 wa3 va3 (insL z (i + 1))) := by
         show IOw _ _ _ _
         rw [HN.out, hq']
         exact (by simpa using hOa3.mono HWD.out)
        clear hHeld
        go_wp2
        go_roundw
        case rel => exact ⟨i + 1, va3, by omega, rfl, by go_num, HN3.out⟩
        case measure => simp [intOf]; omega
       ·
        refine step_sliceI rfl (.tmp 44) rfl (z i) (by rfl) ?_
        have hbA : Below wq.drew.drew.heap.size wq.drew.drew (wq.drew.drew.alloc (.cells #[.int .i64 (z i)] 3)) := (Below.refl _ _).alloc (Nat.le_refl _) _
        have hone := one_srcI wq.drew.drew (z i)
        refine hK.out _ _ (KC.out _ hbA) (fun _ => ?_)
        clear hK K
        refine wpAnyH_ready (rs := [4]) (by kernel_rfl) (by simp) ?_
        refine (AllReadyH.cons (o := ⟨some 40, .call { callee := Go.Callee.builtin Go.Builtin.append, args := #[.tmp 36, .tmp 39], argTypes := #[88, 88] }, 88, _, _, none⟩) rfl (fun K hK => ?_) AllReadyH.nil)
        refine step_append_I rfl (.tmp 36) (.tmp 39) rfl (wq.drew.drew.alloc (.cells #[.int .i64 (z i)] 3)) _ _ [] (L.take q) (by rfl) (by rfl) (IOw.nil _) (HSR.out.1.below hbA) (by simp; omega) ?_
        intro va1 wa1 hOa1 _
        have hbB := hbA.trans (hOa1.below.mono hbA.size)
        refine hK.out _ _ (KC.out _ hbB) (fun _ => ?_)
        clear hK K
        refine wpAnyH_ready (rs := [10]) (by kernel_rfl) (by simp) ?_
        refine (AllReadyH.cons (o := ⟨some 46, .call { callee := Go.Callee.builtin Go.Builtin.append, args := #[.tmp 40, .tmp 45], argTypes := #[88, 88] }, 88, _, _, none⟩) rfl (fun K hK => ?_) AllReadyH.nil)
        refine step_append_I rfl (.tmp 40) (.tmp 45) rfl (wq.drew.drew.alloc (.cells #[.int .i64 (z i)] 3)) _ _ ([] ++ L.take q) [z i] (by rfl) (by rfl) hOa1 (hone.below hOa1.below) (by simp; omega) ?_
        intro va2 wa2 hOa2 _
        refine hK.out _ _ (KC.out _ (hbA.trans (hOa2.below.mono hbA.size))) (fun _ => ?_)
        clear hK K
        refine wpAnyH_ready (rs := [14]) (by kernel_rfl) (by simp) ?_
        refine (AllReadyH.cons (o := ⟨some 50, .call { callee := Go.Callee.builtin Go.Builtin.append, args := #[.tmp 46, .tmp 49], argTypes := #[88, 88] }, 88, _, _, none⟩) rfl (fun K hK => ?_) AllReadyH.nil)
        refine step_append_I rfl (.tmp 46) (.tmp 49) rfl (wq.drew.drew.alloc (.cells #[.int .i64 (z i)] 3)) _ _ _ (L.drop q) (by rfl) (by rfl) hOa2 ((HSR.out.2.below hbA).below hOa2.below) (by simp; omega) ?_
        intro va3 wa3 hOa3 _
        refine hK.out _ _ (KC.out _ (hbA.trans (hOa3.below.mono hbA.size))) (fun _ => ?_)
        clear hK K
        refine wpT (i := 15) (oi := ⟨some 3, .assign (.tmp 50), 88, _, _, none⟩) (v := ?_) rfl (by kernel_rfl) (fun _ _ _ h => h) (Or.inl ⟨by rfl, ?_⟩) (by assumption) ?_
        rotate_left
        ·intro wz hSw; (try dsimp only at hSw); go_simp; (try with_reducible rfl)
        try simp only [Act.put, zA, zB, zC]
        refine wpAnyH_done (by kernel_rfl) (NoPanic.normal ?_) _
        try simp only [Act.put, zA, zB, zC]
        have HN3 : Hid (IOw W0 wa3 va3 (insL z (i + 1))) := by
         show IOw _ _ _ _
         rw [HN.out, hq']
         exact (by simpa using hOa3.mono (HWD.out.trans (hbA.mono HWD.out.size)))
        clear hHeld
        go_wp2
        go_roundw
        case rel => exact ⟨i + 1, va3, by omega, rfl, by go_num, HN3.out⟩
        case measure => simp [intOf]; omega
     ·have hqe : q = L.length := by omega
      have hql' : ¬ (q : Int) < L.length := by omega
      have hq' : atK L (z i) = q := atK_is (by omega) HQ.out.1 (.inl hqe)
      have hlo : (q : Int) ≤ L.length := by omega
      clear hqe
      rcases HQ.out.2.form with ⟨e, e2⟩ | ⟨g, c, e, hlc, hcm, hg0, hg1, hcL⟩
      ·simp only [Value.slice.injEq] at e
       obtain ⟨rfl, -, rfl⟩ := e
       have hL0 : L.length = 0 := by rw [e2]; rfl
       have hq0 : q = 0 := by omega
       have HSR : Hid (ISrc wq.drew.drew (.slice none 0 0) (L.take q) ∧ ISrc wq.drew.drew (.slice none 0 0) (L.drop q)) := by
        rw [e2]
        exact ⟨by simpa using nil_src wq.drew.drew none 0, by simpa using nil_src wq.drew.drew none 0⟩
       clear e2
       go_wp2_with fail
       refine wp_region_noPanic ?_
       refine wp_region_held_drew (S := fun w' => w'.cell? ⟨b, off + i, none⟩ = some (.int .i64 (z i))) (by kernel_rfl) hciq (fun hHeld => ?_)
       refine wpT (i := 0) (oi := ⟨some 19, .move (.tmp 5), 3, _, _, none⟩) (v := ?_) rfl (by kernel_rfl) (fun _ _ _ h => h) (Or.inl ⟨by rfl, ?_⟩) (by assumption) ?_
       rotate_left
       ·intro wz hSw; (try dsimp only at hSw); go_simp; (try with_reducible rfl)
       try simp only [Act.put, zA, zB, zC]
       refine wpT (i := 1) (oi := ⟨some 20, .move (.tmp 3), 88, _, _, none⟩) (v := ?_) rfl (by kernel_rfl) (fun _ _ _ h => h) (Or.inl ⟨by rfl, ?_⟩) (by assumption) ?_
       rotate_left
       ·intro wz hSw; (try dsimp only at hSw); go_simp; (try with_reducible rfl)
       try simp only [Act.put, zA, zB, zC]
       refine wpT (i := 2) (oi := ⟨some 21, .call { callee := Go.Callee.builtin Go.Builtin.len, args := #[.tmp 20], argTypes := #[88] }, 3, _, _, none⟩) (v := ?_) rfl (by kernel_rfl) (fun _ _ _ h => h) (Or.inl ⟨by rfl, ?_⟩) (by assumption) ?_
       rotate_left
       ·intro wz hSw; (try dsimp only at hSw); go_simp; (try with_reducible rfl)
       try simp only [Act.put, zA, zB, zC]
       refine wpT (i := 3) (oi := ⟨some 22, .binOp .lss 3 (.tmp 19) (.tmp 21) 3, 4, _, _, none⟩) (v := ?_) rfl (by kernel_rfl) (fun _ _ _ h => h) (Or.inl ⟨by rfl, ?_⟩) (by assumption) ?_
       rotate_left
       ·intro wz hSw; (try dsimp only at hSw); go_simp; (try with_reducible rfl)
       try simp only [Act.put, zA, zB, zC]
       refine wpT (i := 4) (oi := ⟨some 23, .move (.tmp 22), 4, _, _, none⟩) (v := ?_) rfl (by kernel_rfl) (fun _ _ _ h => h) (Or.inl ⟨by rfl, ?_⟩) (by assumption) ?_
       rotate_left
       ·intro wz hSw; (try dsimp only at hSw); go_simp; (try with_reducible rfl)
       try simp only [Act.put, zA, zB, zC]
       refine wpT (i := 5) (oi := ⟨some 24, .move (.tmp 3), 88, _, _, some (4, true)⟩) (v := undef) rfl (by kernel_rfl) (fun _ _ _ h => h) (Or.inr ⟨by rfl, rfl⟩) (by assumption) ?_
       try simp only [Act.put, zA, zB, zC]
       refine wpT (i := 6) (oi := ⟨some 25, .move (.tmp 5), 3, _, _, some (4, true)⟩) (v := undef) rfl (by kernel_rfl) (fun _ _ _ h => h) (Or.inr ⟨by rfl, rfl⟩) (by assumption) ?_
       try simp only [Act.put, zA, zB, zC]
       refine wpT (i := 7) (oi := ⟨some 26, .indexAddr 88 (.tmp 24) (.tmp 25), 0, _, _, some (4, true)⟩) (v := undef) rfl (by kernel_rfl) (fun _ _ _ h => h) (Or.inr ⟨by rfl, rfl⟩) (by assumption) ?_
       try simp only [Act.put, zA, zB, zC]
       refine wpT (i := 8) (oi := ⟨some 27, .load 3 (.tmp 26), 3, _, _, some (4, true)⟩) (v := undef) rfl (by kernel_rfl) (fun _ _ _ h => h) (Or.inr ⟨by rfl, rfl⟩) (by assumption) ?_
       try simp only [Act.put, zA, zB, zC]
       refine wpT (i := 9) (oi := ⟨some 28, .move (.tmp 0), 88, _, _, some (4, true)⟩) (v := undef) rfl (by kernel_rfl) (fun _ _ _ h => h) (Or.inr ⟨by rfl, rfl⟩) (by assumption) ?_
       try simp only [Act.put, zA, zB, zC]
       refine wpT (i := 10) (oi := ⟨some 29, .move (.tmp 4), 3, _, _, some (4, true)⟩) (v := undef) rfl (by kernel_rfl) (fun _ _ _ h => h) (Or.inr ⟨by rfl, rfl⟩) (by assumption) ?_
       try simp only [Act.put, zA, zB, zC]
       refine wpT (i := 11) (oi := ⟨some 30, .indexAddr 88 (.tmp 28) (.tmp 29), 0, _, _, some (4, true)⟩) (v := undef) rfl (by kernel_rfl) (fun _ _ _ h => h) (Or.inr ⟨by rfl, rfl⟩) (by assumption) ?_
       try simp only [Act.put, zA, zB, zC]
       refine wpT (i := 12) (oi := ⟨some 31, .load 3 (.tmp 30), 3, _, _, some (4, true)⟩) (v := undef) rfl (by kernel_rfl) (fun _ _ _ h => h) (Or.inr ⟨by rfl, rfl⟩) (by assumption) ?_
       try simp only [Act.put, zA, zB, zC]
       refine wpT (i := 13) (oi := ⟨some 32, .binOp .lss 3 (.tmp 27) (.tmp 31) 3, 4, _, _, some (4, true)⟩) (v := undef) rfl (by kernel_rfl) (fun _ _ _ h => h) (Or.inr ⟨by rfl, rfl⟩) (by assumption) ?_
       try simp only [Act.put, zA, zB, zC]
       refine wpT (i := 14) (oi := ⟨some 33, .pick (.tmp 23) (.tmp 32) (.const (.bool false)), 4, _, _, none⟩) (v := ?_) rfl (by kernel_rfl) (fun _ _ _ h => h) (Or.inl ⟨by rfl, ?_⟩) (by assumption) ?_
       rotate_left
       ·intro wz hSw; (try dsimp only at hSw); go_simp; (try with_reducible rfl)
       try simp only [Act.put, zA, zB, zC]
       refine wpAnyH_done (by kernel_rfl) (NoPanic.normal ?_) _
       try simp only [Act.put, zA, zB, zC]
       clear hHeld
       go_wp2_with fail
       have KC : Hid (∀ w' : World, Below wq.drew.drew.heap.size wq.drew.drew w' → w'.cell? ⟨b, off + i, none⟩ = some (.int .i64 (z i))) := fun w' hb => by rw [hb.cell (p := ⟨b, off + i, none⟩) (World.block_lt_of_cell? wq.drew.drew ⟨b, off + i, none⟩ hciq)]; exact hciq
       have HWD : Hid (Below W0.heap.size W0 wq.drew.drew) := HQ.out.2.below.drew.drew
       refine wp_region_noPanic ?_
       refine wp_region_held_drew (S := fun w' => w'.cell? ⟨b, off + i, none⟩ = some (.int .i64 (z i))) (by kernel_rfl) hciq (fun hHeld => ?_)
       refine wpT (i := 0) (oi := ⟨some 36, .move (.tmp 6), 88, _, _, none⟩) (v := ?_) rfl (by kernel_rfl) (fun _ _ _ h => h) (Or.inl ⟨by rfl, ?_⟩) (by assumption) ?_
       rotate_left
       ·intro wz hSw; (try dsimp only at hSw); go_simp; (try with_reducible rfl)
       try simp only [Act.put, zA, zB, zC]
       refine wpT (i := 1) (oi := ⟨some 37, .move (.tmp 3), 88, _, _, none⟩) (v := ?_) rfl (by kernel_rfl) (fun _ _ _ h => h) (Or.inl ⟨by rfl, ?_⟩) (by assumption) ?_
       rotate_left
       ·intro wz hSw; (try dsimp only at hSw); go_simp; (try with_reducible rfl)
       try simp only [Act.put, zA, zB, zC]
       refine wpT (i := 2) (oi := ⟨some 38, .move (.tmp 5), 3, _, _, none⟩) (v := ?_) rfl (by kernel_rfl) (fun _ _ _ h => h) (Or.inl ⟨by rfl, ?_⟩) (by assumption) ?_
       rotate_left
       ·intro wz hSw; (try dsimp only at hSw); go_simp; (try with_reducible rfl)
       try simp only [Act.put, zA, zB, zC]
       refine wpT (i := 3) (oi := ⟨some 39, .slice 88 (.tmp 37) none (some (.tmp 38)) none, 88, _, _, none⟩) (v := ?_) rfl (by kernel_rfl) (fun _ _ _ h => h) (Or.inl ⟨by rfl, ?_⟩) (by assumption) ?_
       rotate_left
       ·intro wz hSw; (try dsimp only at hSw); go_simp; (try with_reducible rfl)
       try simp only [Act.put, zA, zB, zC]
       refine wpT (i := 5) (oi := ⟨some 41, .move (.tmp 0), 88, _, _, none⟩) (v := ?_) rfl (by kernel_rfl) (fun _ _ _ h => h) (Or.inl ⟨by rfl, ?_⟩) (by assumption) ?_
       rotate_left
       ·intro wz hSw; (try dsimp only at hSw); go_simp; (try with_reducible rfl)
       try simp only [Act.put, zA, zB, zC]
       refine wpT (i := 6) (oi := ⟨some 42, .move (.tmp 4), 3, _, _, none⟩) (v := ?_) rfl (by kernel_rfl) (fun _ _ _ h => h) (Or.inl ⟨by rfl, ?_⟩) (by assumption) ?_
       rotate_left
       ·intro wz hSw; (try dsimp only at hSw); go_simp; (try with_reducible rfl)
       try simp only [Act.put, zA, zB, zC]
       refine wpT (i := 7) (oi := ⟨some 43, .indexAddr 88 (.tmp 41) (.tmp 42), 0, _, _, none⟩) (v := ?_) rfl (by kernel_rfl) (fun _ _ _ h => h) (Or.inl ⟨by rfl, ?_⟩) (by assumption) ?_
       rotate_left
       ·intro wz hSw; (try dsimp only at hSw); go_simp; (try with_reducible rfl)
       try simp only [Act.put, zA, zB, zC]
       refine wpT (i := 8) (oi := ⟨some 44, .load 3 (.tmp 43), 3, _, _, none⟩) (v := ?_) rfl (by kernel_rfl) (fun _ _ _ h => h) (Or.inl ⟨by rfl, ?_⟩) (by assumption) ?_
       rotate_left
       ·intro wz hSw; (try dsimp only at hSw); go_simp; (try with_reducible rfl)
       try simp only [Act.put, zA, zB, zC]
       refine wpT (i := 11) (oi := ⟨some 47, .move (.tmp 3), 88, _, _, none⟩) (v := ?_) rfl (by kernel_rfl) (fun _ _ _ h => h) (Or.inl ⟨by rfl, ?_⟩) (by assumption) ?_
       rotate_left
       ·intro wz hSw; (try dsimp only at hSw); go_simp; (try with_reducible rfl)
       try simp only [Act.put, zA, zB, zC]
       refine wpT (i := 12) (oi := ⟨some 48, .move (.tmp 5), 3, _, _, none⟩) (v := ?_) rfl (by kernel_rfl) (fun _ _ _ h => h) (Or.inl ⟨by rfl, ?_⟩) (by assumption) ?_
       rotate_left
       ·intro wz hSw; (try dsimp only at hSw); go_simp; (try with_reducible rfl)
       try simp only [Act.put, zA, zB, zC]
       refine wpT (i := 13) (oi := ⟨some 49, .slice 88 (.tmp 47) (some (.tmp 48)) none none, 88, _, _, none⟩) (v := ?_) rfl (by kernel_rfl) (fun _ _ _ h => h) (Or.inl ⟨by rfl, ?_⟩) (by assumption) ?_
       rotate_left
       ·intro wz hSw; (try dsimp only at hSw); go_simp; (try with_reducible rfl)
       try simp only [Act.put, zA, zB, zC]
       refine wpAnyH_ready (rs := [4, 9]) (by kernel_rfl) (by simp) ?_
       refine (AllReadyH.cons (o := ⟨some 40, .call { callee := Go.Callee.builtin Go.Builtin.append, args := #[.tmp 36, .tmp 39], argTypes := #[88, 88] }, 88, _, _, none⟩) rfl (fun K hK => ?_) (AllReadyH.cons (o := ⟨some 45, .buildSlice 88 1 #[(0, .tmp 44)], 88, _, _, none⟩) rfl (fun K hK => ?_) AllReadyH.nil))
       ·
        refine step_append_I rfl (.tmp 36) (.tmp 39) rfl wq.drew.drew _ _ [] (L.take q) (by rfl) (by rfl) (IOw.nil _) HSR.out.1 (by simp; omega) ?_
        intro va1 wa1 hOa1 _
        refine hK.out _ _ (KC.out _ hOa1.below) (fun _ => ?_)
        clear hK K
        refine wpAnyH_ready (rs := [9]) (by kernel_rfl) (by simp) ?_
        refine (AllReadyH.cons (o := ⟨some 45, .buildSlice 88 1 #[(0, .tmp 44)], 88, _, _, none⟩) rfl (fun K hK => ?_) AllReadyH.nil)
        refine step_sliceI rfl (.tmp 44) rfl (z i) (by rfl) ?_
        have hOa1' := hOa1.keep ((Below.refl _ wa1).alloc (Nat.le_refl _) (.cells #[.int .i64 (z i)] 3))
        refine hK.out _ _ (KC.out _ hOa1'.below) (fun _ => ?_)
        clear hK K
        refine wpAnyH_ready (rs := [10]) (by kernel_rfl) (by simp) ?_
        refine (AllReadyH.cons (o := ⟨some 46, .call { callee := Go.Callee.builtin Go.Builtin.append, args := #[.tmp 40, .tmp 45], argTypes := #[88, 88] }, 88, _, _, none⟩) rfl (fun K hK => ?_) AllReadyH.nil)
        refine step_append_I rfl (.tmp 40) (.tmp 45) rfl wq.drew.drew _ _ ([] ++ L.take q) [z i] (by rfl) (by rfl) hOa1' (one_srcI wa1 (z i)) (by simp; omega) ?_
        intro va2 wa2 hOa2 _
        refine hK.out _ _ (KC.out _ hOa2.below) (fun _ => ?_)
        clear hK K
        refine wpAnyH_ready (rs := [14]) (by kernel_rfl) (by simp) ?_
        refine (AllReadyH.cons (o := ⟨some 50, .call { callee := Go.Callee.builtin Go.Builtin.append, args := #[.tmp 46, .tmp 49], argTypes := #[88, 88] }, 88, _, _, none⟩) rfl (fun K hK => ?_) AllReadyH.nil)
        refine step_append_I rfl (.tmp 46) (.tmp 49) rfl wq.drew.drew _ _ _ (L.drop q) (by rfl) (by rfl) hOa2 (HSR.out.2.below hOa2.below) (by simp; omega) ?_
        intro va3 wa3 hOa3 _
        refine hK.out _ _ (KC.out _ (hOa3.below)) (fun _ => ?_)
        clear hK K
        refine wpT (i := 15) (oi := ⟨some 3, .assign (.tmp 50), 88, _, _, none⟩) (v := ?_) rfl (by kernel_rfl) (fun _ _ _ h => h) (Or.inl ⟨by rfl, ?_⟩) (by assumption) ?_
        rotate_left
        ·intro wz hSw; (try dsimp only at hSw); go_simp; (try with_reducible rfl)
        try simp only [Act.put, zA, zB, zC]
        refine wpAnyH_done (by kernel_rfl) (NoPanic.normal ?_) _
        try simp only [Act.put, zA, zB, zC]
        have HN3 : Hid (IOw W0 wa3 va3 (insL z (i + 1))) := by
         show IOw _ _ _ _
         rw [HN.out, hq']
         exact (by simpa using hOa3.mono HWD.out)
        clear hHeld
        go_wp2
        go_roundw
        case rel => exact ⟨i + 1, va3, by omega, rfl, by go_num, HN3.out⟩
        case measure => simp [intOf]; omega
       ·
        refine step_sliceI rfl (.tmp 44) rfl (z i) (by rfl) ?_
        have hbA : Below wq.drew.drew.heap.size wq.drew.drew (wq.drew.drew.alloc (.cells #[.int .i64 (z i)] 3)) := (Below.refl _ _).alloc (Nat.le_refl _) _
        have hone := one_srcI wq.drew.drew (z i)
        refine hK.out _ _ (KC.out _ hbA) (fun _ => ?_)
        clear hK K
        refine wpAnyH_ready (rs := [4]) (by kernel_rfl) (by simp) ?_
        refine (AllReadyH.cons (o := ⟨some 40, .call { callee := Go.Callee.builtin Go.Builtin.append, args := #[.tmp 36, .tmp 39], argTypes := #[88, 88] }, 88, _, _, none⟩) rfl (fun K hK => ?_) AllReadyH.nil)
        refine step_append_I rfl (.tmp 36) (.tmp 39) rfl (wq.drew.drew.alloc (.cells #[.int .i64 (z i)] 3)) _ _ [] (L.take q) (by rfl) (by rfl) (IOw.nil _) (HSR.out.1.below hbA) (by simp; omega) ?_
        intro va1 wa1 hOa1 _
        have hbB := hbA.trans (hOa1.below.mono hbA.size)
        refine hK.out _ _ (KC.out _ hbB) (fun _ => ?_)
        clear hK K
        refine wpAnyH_ready (rs := [10]) (by kernel_rfl) (by simp) ?_
        refine (AllReadyH.cons (o := ⟨some 46, .call { callee := Go.Callee.builtin Go.Builtin.append, args := #[.tmp 40, .tmp 45], argTypes := #[88, 88] }, 88, _, _, none⟩) rfl (fun K hK => ?_) AllReadyH.nil)
        refine step_append_I rfl (.tmp 40) (.tmp 45) rfl (wq.drew.drew.alloc (.cells #[.int .i64 (z i)] 3)) _ _ ([] ++ L.take q) [z i] (by rfl) (by rfl) hOa1 (hone.below hOa1.below) (by simp; omega) ?_
        intro va2 wa2 hOa2 _
        refine hK.out _ _ (KC.out _ (hbA.trans (hOa2.below.mono hbA.size))) (fun _ => ?_)
        clear hK K
        refine wpAnyH_ready (rs := [14]) (by kernel_rfl) (by simp) ?_
        refine (AllReadyH.cons (o := ⟨some 50, .call { callee := Go.Callee.builtin Go.Builtin.append, args := #[.tmp 46, .tmp 49], argTypes := #[88, 88] }, 88, _, _, none⟩) rfl (fun K hK => ?_) AllReadyH.nil)
        refine step_append_I rfl (.tmp 46) (.tmp 49) rfl (wq.drew.drew.alloc (.cells #[.int .i64 (z i)] 3)) _ _ _ (L.drop q) (by rfl) (by rfl) hOa2 ((HSR.out.2.below hbA).below hOa2.below) (by simp; omega) ?_
        intro va3 wa3 hOa3 _
        refine hK.out _ _ (KC.out _ (hbA.trans (hOa3.below.mono hbA.size))) (fun _ => ?_)
        clear hK K
        refine wpT (i := 15) (oi := ⟨some 3, .assign (.tmp 50), 88, _, _, none⟩) (v := ?_) rfl (by kernel_rfl) (fun _ _ _ h => h) (Or.inl ⟨by rfl, ?_⟩) (by assumption) ?_
        rotate_left
        ·intro wz hSw; (try dsimp only at hSw); go_simp; (try with_reducible rfl)
        try simp only [Act.put, zA, zB, zC]
        refine wpAnyH_done (by kernel_rfl) (NoPanic.normal ?_) _
        try simp only [Act.put, zA, zB, zC]
        have HN3 : Hid (IOw W0 wa3 va3 (insL z (i + 1))) := by
         show IOw _ _ _ _
         rw [HN.out, hq']
         exact (by simpa using hOa3.mono (HWD.out.trans (hbA.mono HWD.out.size)))
        clear hHeld
        go_wp2
        go_roundw
        case rel => exact ⟨i + 1, va3, by omega, rfl, by go_num, HN3.out⟩
        case measure => simp [intOf]; omega
      ·simp only [Value.slice.injEq] at e
       obtain ⟨rfl, -, rfl⟩ := e
       have hcap : (q : Int) ≤ vc := by omega
       have HSR : Hid (ISrc wq.drew.drew (.slice (some ⟨g, 0, none⟩) q vc) (L.take q) ∧ ISrc wq.drew.drew (.slice (if vc = q then some ⟨g, 0, none⟩ else some ⟨g, q, none⟩) (L.length - q) (vc - q)) (L.drop q)) := ⟨head_src (w := wq.drew.drew) hcL (by omega), tail_src (w := wq.drew.drew) hcL (by omega) hlc⟩
       clear hcL
       go_wp2_with fail
       refine wp_region_noPanic ?_
       refine wp_region_held_drew (S := fun w' => w'.cell? ⟨b, off + i, none⟩ = some (.int .i64 (z i))) (by kernel_rfl) hciq (fun hHeld => ?_)
       refine wpT (i := 0) (oi := ⟨some 19, .move (.tmp 5), 3, _, _, none⟩) (v := ?_) rfl (by kernel_rfl) (fun _ _ _ h => h) (Or.inl ⟨by rfl, ?_⟩) (by assumption) ?_
       rotate_left
       ·intro wz hSw; (try dsimp only at hSw); go_simp; (try with_reducible rfl)
       try simp only [Act.put, zA, zB, zC]
       refine wpT (i := 1) (oi := ⟨some 20, .move (.tmp 3), 88, _, _, none⟩) (v := ?_) rfl (by kernel_rfl) (fun _ _ _ h => h) (Or.inl ⟨by rfl, ?_⟩) (by assumption) ?_
       rotate_left
       ·intro wz hSw; (try dsimp only at hSw); go_simp; (try with_reducible rfl)
       try simp only [Act.put, zA, zB, zC]
       refine wpT (i := 2) (oi := ⟨some 21, .call { callee := Go.Callee.builtin Go.Builtin.len, args := #[.tmp 20], argTypes := #[88] }, 3, _, _, none⟩) (v := ?_) rfl (by kernel_rfl) (fun _ _ _ h => h) (Or.inl ⟨by rfl, ?_⟩) (by assumption) ?_
       rotate_left
       ·intro wz hSw; (try dsimp only at hSw); go_simp; (try with_reducible rfl)
       try simp only [Act.put, zA, zB, zC]
       refine wpT (i := 3) (oi := ⟨some 22, .binOp .lss 3 (.tmp 19) (.tmp 21) 3, 4, _, _, none⟩) (v := ?_) rfl (by kernel_rfl) (fun _ _ _ h => h) (Or.inl ⟨by rfl, ?_⟩) (by assumption) ?_
       rotate_left
       ·intro wz hSw; (try dsimp only at hSw); go_simp; (try with_reducible rfl)
       try simp only [Act.put, zA, zB, zC]
       refine wpT (i := 4) (oi := ⟨some 23, .move (.tmp 22), 4, _, _, none⟩) (v := ?_) rfl (by kernel_rfl) (fun _ _ _ h => h) (Or.inl ⟨by rfl, ?_⟩) (by assumption) ?_
       rotate_left
       ·intro wz hSw; (try dsimp only at hSw); go_simp; (try with_reducible rfl)
       try simp only [Act.put, zA, zB, zC]
       refine wpT (i := 5) (oi := ⟨some 24, .move (.tmp 3), 88, _, _, some (4, true)⟩) (v := undef) rfl (by kernel_rfl) (fun _ _ _ h => h) (Or.inr ⟨by rfl, rfl⟩) (by assumption) ?_
       try simp only [Act.put, zA, zB, zC]
       refine wpT (i := 6) (oi := ⟨some 25, .move (.tmp 5), 3, _, _, some (4, true)⟩) (v := undef) rfl (by kernel_rfl) (fun _ _ _ h => h) (Or.inr ⟨by rfl, rfl⟩) (by assumption) ?_
       try simp only [Act.put, zA, zB, zC]
       refine wpT (i := 7) (oi := ⟨some 26, .indexAddr 88 (.tmp 24) (.tmp 25), 0, _, _, some (4, true)⟩) (v := undef) rfl (by kernel_rfl) (fun _ _ _ h => h) (Or.inr ⟨by rfl, rfl⟩) (by assumption) ?_
       try simp only [Act.put, zA, zB, zC]
       refine wpT (i := 8) (oi := ⟨some 27, .load 3 (.tmp 26), 3, _, _, some (4, true)⟩) (v := undef) rfl (by kernel_rfl) (fun _ _ _ h => h) (Or.inr ⟨by rfl, rfl⟩) (by assumption) ?_
       try simp only [Act.put, zA, zB, zC]
       refine wpT (i := 9) (oi := ⟨some 28, .move (.tmp 0), 88, _, _, some (4, true)⟩) (v := undef) rfl (by kernel_rfl) (fun _ _ _ h => h) (Or.inr ⟨by rfl, rfl⟩) (by assumption) ?_
       try simp only [Act.put, zA, zB, zC]
       refine wpT (i := 10) (oi := ⟨some 29, .move (.tmp 4), 3, _, _, some (4, true)⟩) (v := undef) rfl (by kernel_rfl) (fun _ _ _ h => h) (Or.inr ⟨by rfl, rfl⟩) (by assumption) ?_
       try simp only [Act.put, zA, zB, zC]
       refine wpT (i := 11) (oi := ⟨some 30, .indexAddr 88 (.tmp 28) (.tmp 29), 0, _, _, some (4, true)⟩) (v := undef) rfl (by kernel_rfl) (fun _ _ _ h => h) (Or.inr ⟨by rfl, rfl⟩) (by assumption) ?_
       try simp only [Act.put, zA, zB, zC]
       refine wpT (i := 12) (oi := ⟨some 31, .load 3 (.tmp 30), 3, _, _, some (4, true)⟩) (v := undef) rfl (by kernel_rfl) (fun _ _ _ h => h) (Or.inr ⟨by rfl, rfl⟩) (by assumption) ?_
       try simp only [Act.put, zA, zB, zC]
       refine wpT (i := 13) (oi := ⟨some 32, .binOp .lss 3 (.tmp 27) (.tmp 31) 3, 4, _, _, some (4, true)⟩) (v := undef) rfl (by kernel_rfl) (fun _ _ _ h => h) (Or.inr ⟨by rfl, rfl⟩) (by assumption) ?_
       try simp only [Act.put, zA, zB, zC]
       refine wpT (i := 14) (oi := ⟨some 33, .pick (.tmp 23) (.tmp 32) (.const (.bool false)), 4, _, _, none⟩) (v := ?_) rfl (by kernel_rfl) (fun _ _ _ h => h) (Or.inl ⟨by rfl, ?_⟩) (by assumption) ?_
       rotate_left
       ·intro wz hSw; (try dsimp only at hSw); go_simp; (try with_reducible rfl)
       try simp only [Act.put, zA, zB, zC]
       refine wpAnyH_done (by kernel_rfl) (NoPanic.normal ?_) _
       try simp only [Act.put, zA, zB, zC]
       clear hHeld
       go_wp2_with fail
       have KC : Hid (∀ w' : World, Below wq.drew.drew.heap.size wq.drew.drew w' → w'.cell? ⟨b, off + i, none⟩ = some (.int .i64 (z i))) := fun w' hb => by rw [hb.cell (p := ⟨b, off + i, none⟩) (World.block_lt_of_cell? wq.drew.drew ⟨b, off + i, none⟩ hciq)]; exact hciq
       have HWD : Hid (Below W0.heap.size W0 wq.drew.drew) := HQ.out.2.below.drew.drew
       refine wp_region_noPanic ?_
       refine wp_region_held_drew (S := fun w' => w'.cell? ⟨b, off + i, none⟩ = some (.int .i64 (z i))) (by kernel_rfl) hciq (fun hHeld => ?_)
       refine wpT (i := 0) (oi := ⟨some 36, .move (.tmp 6), 88, _, _, none⟩) (v := ?_) rfl (by kernel_rfl) (fun _ _ _ h => h) (Or.inl ⟨by rfl, ?_⟩) (by assumption) ?_
       rotate_left
       ·intro wz hSw; (try dsimp only at hSw); go_simp; (try with_reducible rfl)
       try simp only [Act.put, zA, zB, zC]
       refine wpT (i := 1) (oi := ⟨some 37, .move (.tmp 3), 88, _, _, none⟩) (v := ?_) rfl (by kernel_rfl) (fun _ _ _ h => h) (Or.inl ⟨by rfl, ?_⟩) (by assumption) ?_
       rotate_left
       ·intro wz hSw; (try dsimp only at hSw); go_simp; (try with_reducible rfl)
       try simp only [Act.put, zA, zB, zC]
       refine wpT (i := 2) (oi := ⟨some 38, .move (.tmp 5), 3, _, _, none⟩) (v := ?_) rfl (by kernel_rfl) (fun _ _ _ h => h) (Or.inl ⟨by rfl, ?_⟩) (by assumption) ?_
       rotate_left
       ·intro wz hSw; (try dsimp only at hSw); go_simp; (try with_reducible rfl)
       try simp only [Act.put, zA, zB, zC]
       refine wpT (i := 3) (oi := ⟨some 39, .slice 88 (.tmp 37) none (some (.tmp 38)) none, 88, _, _, none⟩) (v := ?_) rfl (by kernel_rfl) (fun _ _ _ h => h) (Or.inl ⟨by rfl, ?_⟩) (by assumption) ?_
       rotate_left
       ·intro wz hSw; (try dsimp only at hSw); go_simp; (try with_reducible rfl)
       try simp only [Act.put, zA, zB, zC]
       refine wpT (i := 5) (oi := ⟨some 41, .move (.tmp 0), 88, _, _, none⟩) (v := ?_) rfl (by kernel_rfl) (fun _ _ _ h => h) (Or.inl ⟨by rfl, ?_⟩) (by assumption) ?_
       rotate_left
       ·intro wz hSw; (try dsimp only at hSw); go_simp; (try with_reducible rfl)
       try simp only [Act.put, zA, zB, zC]
       refine wpT (i := 6) (oi := ⟨some 42, .move (.tmp 4), 3, _, _, none⟩) (v := ?_) rfl (by kernel_rfl) (fun _ _ _ h => h) (Or.inl ⟨by rfl, ?_⟩) (by assumption) ?_
       rotate_left
       ·intro wz hSw; (try dsimp only at hSw); go_simp; (try with_reducible rfl)
       try simp only [Act.put, zA, zB, zC]
       refine wpT (i := 7) (oi := ⟨some 43, .indexAddr 88 (.tmp 41) (.tmp 42), 0, _, _, none⟩) (v := ?_) rfl (by kernel_rfl) (fun _ _ _ h => h) (Or.inl ⟨by rfl, ?_⟩) (by assumption) ?_
       rotate_left
       ·intro wz hSw; (try dsimp only at hSw); go_simp; (try with_reducible rfl)
       try simp only [Act.put, zA, zB, zC]
       refine wpT (i := 8) (oi := ⟨some 44, .load 3 (.tmp 43), 3, _, _, none⟩) (v := ?_) rfl (by kernel_rfl) (fun _ _ _ h => h) (Or.inl ⟨by rfl, ?_⟩) (by assumption) ?_
       rotate_left
       ·intro wz hSw; (try dsimp only at hSw); go_simp; (try with_reducible rfl)
       try simp only [Act.put, zA, zB, zC]
       refine wpT (i := 11) (oi := ⟨some 47, .move (.tmp 3), 88, _, _, none⟩) (v := ?_) rfl (by kernel_rfl) (fun _ _ _ h => h) (Or.inl ⟨by rfl, ?_⟩) (by assumption) ?_
       rotate_left
       ·intro wz hSw; (try dsimp only at hSw); go_simp; (try with_reducible rfl)
       try simp only [Act.put, zA, zB, zC]
       refine wpT (i := 12) (oi := ⟨some 48, .move (.tmp 5), 3, _, _, none⟩) (v := ?_) rfl (by kernel_rfl) (fun _ _ _ h => h) (Or.inl ⟨by rfl, ?_⟩) (by assumption) ?_
       rotate_left
       ·intro wz hSw; (try dsimp only at hSw); go_simp; (try with_reducible rfl)
       try simp only [Act.put, zA, zB, zC]
       refine wpT (i := 13) (oi := ⟨some 49, .slice 88 (.tmp 47) (some (.tmp 48)) none none, 88, _, _, none⟩) (v := ?_) rfl (by kernel_rfl) (fun _ _ _ h => h) (Or.inl ⟨by rfl, ?_⟩) (by assumption) ?_
       rotate_left
       ·intro wz hSw; (try dsimp only at hSw); go_simp; (try with_reducible rfl)
       try simp only [Act.put, zA, zB, zC]
       refine wpAnyH_ready (rs := [4, 9]) (by kernel_rfl) (by simp) ?_
       refine (AllReadyH.cons (o := ⟨some 40, .call { callee := Go.Callee.builtin Go.Builtin.append, args := #[.tmp 36, .tmp 39], argTypes := #[88, 88] }, 88, _, _, none⟩) rfl (fun K hK => ?_) (AllReadyH.cons (o := ⟨some 45, .buildSlice 88 1 #[(0, .tmp 44)], 88, _, _, none⟩) rfl (fun K hK => ?_) AllReadyH.nil))
       ·
        refine step_append_I rfl (.tmp 36) (.tmp 39) rfl wq.drew.drew _ _ [] (L.take q) (by rfl) (by rfl) (IOw.nil _) HSR.out.1 (by simp; omega) ?_
        intro va1 wa1 hOa1 _
        refine hK.out _ _ (KC.out _ hOa1.below) (fun _ => ?_)
        clear hK K
        refine wpAnyH_ready (rs := [9]) (by kernel_rfl) (by simp) ?_
        refine (AllReadyH.cons (o := ⟨some 45, .buildSlice 88 1 #[(0, .tmp 44)], 88, _, _, none⟩) rfl (fun K hK => ?_) AllReadyH.nil)
        refine step_sliceI rfl (.tmp 44) rfl (z i) (by rfl) ?_
        have hOa1' := hOa1.keep ((Below.refl _ wa1).alloc (Nat.le_refl _) (.cells #[.int .i64 (z i)] 3))
        refine hK.out _ _ (KC.out _ hOa1'.below) (fun _ => ?_)
        clear hK K
        refine wpAnyH_ready (rs := [10]) (by kernel_rfl) (by simp) ?_
        refine (AllReadyH.cons (o := ⟨some 46, .call { callee := Go.Callee.builtin Go.Builtin.append, args := #[.tmp 40, .tmp 45], argTypes := #[88, 88] }, 88, _, _, none⟩) rfl (fun K hK => ?_) AllReadyH.nil)
        refine step_append_I rfl (.tmp 40) (.tmp 45) rfl wq.drew.drew _ _ ([] ++ L.take q) [z i] (by rfl) (by rfl) hOa1' (one_srcI wa1 (z i)) (by simp; omega) ?_
        intro va2 wa2 hOa2 _
        refine hK.out _ _ (KC.out _ hOa2.below) (fun _ => ?_)
        clear hK K
        refine wpAnyH_ready (rs := [14]) (by kernel_rfl) (by simp) ?_
        refine (AllReadyH.cons (o := ⟨some 50, .call { callee := Go.Callee.builtin Go.Builtin.append, args := #[.tmp 46, .tmp 49], argTypes := #[88, 88] }, 88, _, _, none⟩) rfl (fun K hK => ?_) AllReadyH.nil)
        refine step_append_I rfl (.tmp 46) (.tmp 49) rfl wq.drew.drew _ _ _ (L.drop q) (by rfl) (by rfl) hOa2 (HSR.out.2.below hOa2.below) (by simp; omega) ?_
        intro va3 wa3 hOa3 _
        refine hK.out _ _ (KC.out _ (hOa3.below)) (fun _ => ?_)
        clear hK K
        refine wpT (i := 15) (oi := ⟨some 3, .assign (.tmp 50), 88, _, _, none⟩) (v := ?_) rfl (by kernel_rfl) (fun _ _ _ h => h) (Or.inl ⟨by rfl, ?_⟩) (by assumption) ?_
        rotate_left
        ·intro wz hSw; (try dsimp only at hSw); go_simp; (try with_reducible rfl)
        try simp only [Act.put, zA, zB, zC]
        refine wpAnyH_done (by kernel_rfl) (NoPanic.normal ?_) _
        try simp only [Act.put, zA, zB, zC]
        have HN3 : Hid (IOw W0 wa3 va3 (insL z (i + 1))) := by
         show IOw _ _ _ _
         rw [HN.out, hq']
         exact (by simpa using hOa3.mono HWD.out)
        clear hHeld
        go_wp2
        go_roundw
        case rel => exact ⟨i + 1, va3, by omega, rfl, by go_num, HN3.out⟩
        case measure => simp [intOf]; omega
       ·
        refine step_sliceI rfl (.tmp 44) rfl (z i) (by rfl) ?_
        have hbA : Below wq.drew.drew.heap.size wq.drew.drew (wq.drew.drew.alloc (.cells #[.int .i64 (z i)] 3)) := (Below.refl _ _).alloc (Nat.le_refl _) _
        have hone := one_srcI wq.drew.drew (z i)
        refine hK.out _ _ (KC.out _ hbA) (fun _ => ?_)
        clear hK K
        refine wpAnyH_ready (rs := [4]) (by kernel_rfl) (by simp) ?_
        refine (AllReadyH.cons (o := ⟨some 40, .call { callee := Go.Callee.builtin Go.Builtin.append, args := #[.tmp 36, .tmp 39], argTypes := #[88, 88] }, 88, _, _, none⟩) rfl (fun K hK => ?_) AllReadyH.nil)
        refine step_append_I rfl (.tmp 36) (.tmp 39) rfl (wq.drew.drew.alloc (.cells #[.int .i64 (z i)] 3)) _ _ [] (L.take q) (by rfl) (by rfl) (IOw.nil _) (HSR.out.1.below hbA) (by simp; omega) ?_
        intro va1 wa1 hOa1 _
        have hbB := hbA.trans (hOa1.below.mono hbA.size)
        refine hK.out _ _ (KC.out _ hbB) (fun _ => ?_)
        clear hK K
        refine wpAnyH_ready (rs := [10]) (by kernel_rfl) (by simp) ?_
        refine (AllReadyH.cons (o := ⟨some 46, .call { callee := Go.Callee.builtin Go.Builtin.append, args := #[.tmp 40, .tmp 45], argTypes := #[88, 88] }, 88, _, _, none⟩) rfl (fun K hK => ?_) AllReadyH.nil)
        refine step_append_I rfl (.tmp 40) (.tmp 45) rfl (wq.drew.drew.alloc (.cells #[.int .i64 (z i)] 3)) _ _ ([] ++ L.take q) [z i] (by rfl) (by rfl) hOa1 (hone.below hOa1.below) (by simp; omega) ?_
        intro va2 wa2 hOa2 _
        refine hK.out _ _ (KC.out _ (hbA.trans (hOa2.below.mono hbA.size))) (fun _ => ?_)
        clear hK K
        refine wpAnyH_ready (rs := [14]) (by kernel_rfl) (by simp) ?_
        refine (AllReadyH.cons (o := ⟨some 50, .call { callee := Go.Callee.builtin Go.Builtin.append, args := #[.tmp 46, .tmp 49], argTypes := #[88, 88] }, 88, _, _, none⟩) rfl (fun K hK => ?_) AllReadyH.nil)
        refine step_append_I rfl (.tmp 46) (.tmp 49) rfl (wq.drew.drew.alloc (.cells #[.int .i64 (z i)] 3)) _ _ _ (L.drop q) (by rfl) (by rfl) hOa2 ((HSR.out.2.below hbA).below hOa2.below) (by simp; omega) ?_
        intro va3 wa3 hOa3 _
        refine hK.out _ _ (KC.out _ (hbA.trans (hOa3.below.mono hbA.size))) (fun _ => ?_)
        clear hK K
        refine wpT (i := 15) (oi := ⟨some 3, .assign (.tmp 50), 88, _, _, none⟩) (v := ?_) rfl (by kernel_rfl) (fun _ _ _ h => h) (Or.inl ⟨by rfl, ?_⟩) (by assumption) ?_
        rotate_left
        ·intro wz hSw; (try dsimp only at hSw); go_simp; (try with_reducible rfl)
        try simp only [Act.put, zA, zB, zC]
        refine wpAnyH_done (by kernel_rfl) (NoPanic.normal ?_) _
        try simp only [Act.put, zA, zB, zC]
        have HN3 : Hid (IOw W0 wa3 va3 (insL z (i + 1))) := by
         show IOw _ _ _ _
         rw [HN.out, hq']
         exact (by simpa using hOa3.mono (HWD.out.trans (hbA.mono HWD.out.size)))
        clear hHeld
        go_wp2
        go_roundw
        case rel => exact ⟨i + 1, va3, by omega, rfl, by go_num, HN3.out⟩
        case measure => simp [intOf]; omega
  ·obtain rfl : i = n := by omega
   have hnn : ¬ ((i : Int) < i) := by omega
   obtain ⟨K, hK⟩ : ∃ K, K = insL z i := ⟨_, rfl⟩
   have HOK : (kb K).Ok := by rw [hK]; exact kb_ok (insL_ib hz)
   have HE0 : Hid (insL z i = K) := hK.symm
   rw [← hK] at HO hLl
   obtain ⟨va, vc, rfl⟩ : ∃ va vc, v = .slice va K.length vc := by
    rcases HO.out.form with ⟨e, e2⟩ | ⟨g, c, e, _⟩
    ·exact ⟨none, 0, by rw [e, e2]; rfl⟩
    ·exact ⟨_, _, e⟩
   have hI3 : IsAt wr va K.length (kb K).z := HO.out.isAt.2
   have hbw := HO.out.below
   have hva : ∀ a, va = some a → w.heap.size < a.block ∧ a.block < wr.heap.size := fun a e => by
    rcases HO.out.form with ⟨e1, _⟩ | ⟨g, c, e1, _, _, hg0, hg1, _⟩
    ·simp only [Value.slice.injEq] at e1
     rw [e1.1] at e; cases e
    ·simp only [Value.slice.injEq] at e1
     rw [e1.1] at e; cases e
     have := lt_of_block HI.out.2.2
     exact ⟨by show w.heap.size < g; omega, hg1⟩
   have hs0 := lt_of_block HI.out.2.2
   have hr3 : wr.heap[w.heap.size]? = some (.cells #[.slice none 0 0] 122 (0, 0)) := by rw [hbw.block _ hs0]; exact HI.out.2.2
   have hlt := hbw.size
   have hn4 := heap_alloc_new wr (.cells (bv (kb K) va vc) 126)
   have hb4 : Below wr.heap.size wr (wr.alloc (.cells (bv (kb K) va vc) 126)) := (Below.refl _ _).alloc (Nat.le_refl _) _
   have hr4 : (wr.alloc (.cells (bv (kb K) va vc) 126)).heap[w.heap.size]? = some (.cells #[.slice none 0 0] 122 (0, 0)) := by rw [hb4.block _ (by omega)]; exact hr3
   have c4 : (wr.alloc (.cells (bv (kb K) va vc) 126)).cell? ⟨w.heap.size, 0, none⟩ = some (.slice none 0 0) := by rw [cell_of_row _ _ 0 _ _ _ hr4]; rfl
   have f4 : (wr.alloc (.cells (bv (kb K) va vc) 126)).frozen? ⟨w.heap.size, 0, none⟩ = false := frozen_of_row _ _ 0 _ _ hr4
   have HE : Hid (((wr.alloc (.cells (bv (kb K) va vc) 126)).setCell ⟨w.heap.size, 0, none⟩ (.slice (some ⟨wr.heap.size, 0, none⟩) 1 1)).heap[w.heap.size]? = some (.cells #[.slice (some ⟨wr.heap.size, 0, none⟩) 1 1] 122 (0, 0))
     ∧ BrIn ((wr.alloc (.cells (bv (kb K) va vc) 126)).setCell ⟨w.heap.size, 0, none⟩ (.slice (some ⟨wr.heap.size, 0, none⟩) 1 1)) w.heap.size (some ⟨wr.heap.size, 0, none⟩) 1 (fun _ => kb K)
     ∧ Below w.heap.size w ((wr.alloc (.cells (bv (kb K) va vc) 126)).setCell ⟨w.heap.size, 0, none⟩ (.slice (some ⟨wr.heap.size, 0, none⟩) 1 1))) := by
    refine ⟨heap_setCell_same _ _ 0 _ _ _ hr4, fun w' hw => ⟨fun _ _ => HOK, fun _ => ⟨wr.heap.size, 0, rfl, fun i hi => ⟨va, vc, fun j u hu => ?_, ?_⟩⟩⟩, ?_⟩
    ·obtain rfl : i = 0 := by omega
     rw [World.cell?_of_block (a := ⟨wr.heap.size, 0 + 0 * 35 + j, none⟩) (hw wr.heap.size (by omega) (by simp [World.setCell])), World.cell?_of_block (a := ⟨wr.heap.size, 0 + 0 * 35 + j, none⟩) (Below.heap_setCell _ _ _ _ (by show wr.heap.size ≠ w.heap.size; omega)), cell_of_row _ _ _ _ _ _ hn4]
     simpa [bv] using hu
    ·have h1 := isAt_set (g := w.heap.size) (o := 0) (u := .slice (some ⟨wr.heap.size, 0, none⟩) 1 1) (hI3.below hb4) (fun a e => by have := (hva a e).1; omega)
     intro hp
     obtain ⟨b', off', e, hc⟩ := h1 hp
     have hbb := hva _ e
     refine ⟨b', off', e, fun j hj => ?_⟩
     rw [World.cell?_of_block (a := ⟨b', off' + j, none⟩) (hw b' (by have := hbb.1; simp at this; omega) (by have := hbb.2; simp [World.setCell] at this ⊢; omega))]
     exact hc j hj
    ·exact ((HI.out.2.1.trans (hbw.mono (by omega))).trans (hb4.mono (by omega))).setCell (Nat.le_refl _) _
   clear hn4 hr4 hr3 hI3 hb4 hbw hva hK
   go_wp2_with (first | (refine wpList_buildRB rfl _ rfl K va vc rfl ?_) | (refine wpList_sliceRB rfl _ rfl (kb K) va vc rfl ?_) | fail)
   exact bodyPost_ret (results_cell_row Tryz.results44 _ _ w.heap.size 122 #[.slice (some ⟨wr.heap.size, 0, none⟩) 1 1] (0, 0) _ rfl HE.out.1 Tryz.underlying122 rfl szRC) rfl ⟨_, rfl, by rw [HE0.out]; exact HE.out.2⟩
end Go.Proofs.YtjnepkggdkccaaaGreatDoor.Cd
