/- cond.Opens of a condition that just asks for keys: the walk. -/
import Derived.Test.YtecahnafcljljaaDoorCOpens
namespace Go.Proofs.YtecahnafcljljaaDoor
open Go.RowKit Go.Shelf Go.Sort

def opnE (K : List Int) (sz : Nat → Int) (sn : Nat) : Int := if AllIn (kb K).z K.length sz sn then 0 else 21
theorem brl_lock (x : Bv) (ka : Option Addr) (kc : Nat) {w : World} {g : Nat} {t : TypeId} {fr : Nat × Nat} (h : w.heap[g]? = some (.cells (bv x ka kc) t fr)) : w.rangeAt g 1 (bl x.lk 32) := by
  intro j u hu
  have hj : j < 32 := (bl_get hu).1
  rw [cell_of_row w g (1 + j) _ _ _ h]
  simp only [bv, List.getElem?_toArray, brl, Nat.add_comm 1 j, List.getElem?_cons_succ]
  rw [List.getElem?_append_left (by simpa [bl_length] using hj)]
  exact hu
theorem szHl (z : Nat → Int) : (Tryd.prog.info? 44).map (·.size) = some (bl z 32).length := by rw [bl_length]; exact hsz
theorem szSeen : (Tryd.prog.info? 31).map (·.size) = some 4 := by kernel_rfl

set_option maxRecDepth 100000 in
set_option maxHeartbeats 3200000 in
theorem opens_keys (g : Nat) (K : List Int) (sa : Option Addr) (sn sc : Nat) (sz : Nat → Int) (w : World) (hB : BrAt w (some ⟨g, 0, none⟩) 1 (fun _ => kb K)) (hK : COk (fun _ => kb K) 1) (hKl : K.length ≤ 1000000) (hI : IsAt w sa sn sz) (hsn : sn ≤ 1000000) :
    Calls Tryd.prog 12 #[.agg #[.slice (some ⟨g, 0, none⟩) 1 1], .int .i64 0, .agg #[.slice sa sn sc, .slice none 0 0, .int .i64 0, .int .i64 0]] w fun e w' => e = .returned (errV (opnE K sz sn)) ∧ Below w.heap.size w w' := by
  have hb0 : Below w.heap.size w ((w.alloc (.cells #[.slice (some ⟨g, 0, none⟩) 1 1] 38)).alloc (.cells #[.slice sa sn sc, .slice none 0 0, .int .i64 0, .int .i64 0] 31)) := ((Below.refl _ w).alloc (Nat.le_refl _) _).alloc (by simp) _
  have hn0 : ((w.alloc (.cells #[.slice (some ⟨g, 0, none⟩) 1 1] 38)).alloc (.cells #[.slice sa sn sc, .slice none 0 0, .int .i64 0, .int .i64 0] 31)).heap[w.heap.size]? = some (.cells #[.slice (some ⟨g, 0, none⟩) 1 1] 38 (0, 0)) := by
    rw [Below.heap_alloc _ _ _ (by simp)]; exact heap_alloc_new w _
  have hn1 : ((w.alloc (.cells #[.slice (some ⟨g, 0, none⟩) 1 1] 38)).alloc (.cells #[.slice sa sn sc, .slice none 0 0, .int .i64 0, .int .i64 0] 31)).heap[w.heap.size + 1]? = some (.cells #[.slice sa sn sc, .slice none 0 0, .int .i64 0, .int .i64 0] 31 (0, 0)) := by
    have := heap_alloc_new (w.alloc (.cells #[.slice (some ⟨g, 0, none⟩) 1 1] 38)) (.cells #[.slice sa sn sc, .slice none 0 0, .int .i64 0, .int .i64 0] 31)
    simpa using this
  have hB0 := hB.below hb0
  have hI0 := hI.below hb0
  have hck := check_any (some ⟨g, 0, none⟩) 1 1 (fun _ => kb K) _ hB0 (by omega) (fun i hi => hKl)
  have e0 : chkE (fun _ => kb K) 1 = 0 := if_pos hK
  have e1 : errV 0 = .nilIface := rfl
  rw [e0, e1] at hck
  clear hB hI e0 e1
  go_enter Tryd.func12, Tryd.ntmps12
  go_wp2_with fail
  generalize (w.alloc (.cells #[.slice (some ⟨g, 0, none⟩) 1 1] 38)).alloc (.cells #[.slice sa sn sc, .slice none 0 0, .int .i64 0, .int .i64 0] 31) = W0 at *
  refine hck.mono ?_
  rintro e w1 ⟨rfl, hb1⟩
  clear hck
  have hp1 := lt_of_block hn1
  have m0 : w1.heap[w.heap.size]? = some (.cells #[.slice (some ⟨g, 0, none⟩) 1 1] 38 (0, 0)) := by rw [hb1.block _ (by omega)]; exact hn0
  have m1 : w1.heap[w.heap.size + 1]? = some (.cells #[.slice sa sn sc, .slice none 0 0, .int .i64 0, .int .i64 0] 31 (0, 0)) := by rw [hb1.block _ (by omega)]; exact hn1
  have c10 : w1.cell? ⟨w.heap.size, 0, none⟩ = some (.slice (some ⟨g, 0, none⟩) 1 1) := by rw [cell_of_row _ _ 0 _ _ _ m0]; rfl
  have hB1 := hB0.below hb1
  have hI1 := hI0.below hb1
  obtain ⟨b, off, e2, hrow⟩ := hB1.at_ (by omega)
  obtain ⟨ka, kc, hr1, hk1⟩ := hrow 0 (by omega)
  obtain ⟨rfl, rfl⟩ : g = b ∧ 0 = off := by simpa using e2
  have hr2 : w1.rangeAt g 0 (brl (kb K) ka kc) := by simpa using hr1
  have HR : Hid (w1.rangeAt g 0 (brl (kb K) ka kc)) := hr2
  have hbw : Below w.heap.size w w1 := hb0.trans (hb1.mono hb0.size)
  have HS1 : Hid (∀ w' : World, w'.heap[w1.heap.size]? = some (.cells (bv (kb K) ka kc) 56 (0, 0)) → Frm [w1.heap.size] (w1.alloc (.cells (bv b0 none 0) 56)) w' → Below w1.heap.size w1 w' ∧ w'.cell? ⟨w1.heap.size, 0, none⟩ = some (.slice ka (kb K).n kc)) := by
    intro w' h1 h2
    have h3 : Below w1.heap.size (w1.alloc (.cells (bv b0 none 0) 56)) w' := h2.below (by simp) (by simp)
    exact ⟨((Below.refl _ w1).alloc (Nat.le_refl _) _).trans h3, (bbox_of h1).c0⟩
  have HW : Hid (Below w.heap.size w w1 ∧ w1.heap[w.heap.size + 1]? = some (.cells #[.slice sa sn sc, .slice none 0 0, .int .i64 0, .int .i64 0] 31 (0, 0)) ∧ IsAt w1 sa sn sz ∧ IsAt w1 ka (kb K).n (kb K).z ∧ w.heap.size + 1 < w1.heap.size) := ⟨hbw, m1, hI1, hk1, lt_of_block m1⟩
  clear hb0 hb1 hn0 hn1 hB0 hI0 hB1 hI1 m0 m1 e2 hrow hr1 hr2 hk1 hbw
  go_wp2_with (first | (refine wpList_load_mid rfl 56 _ rfl g 0 rfl (brl (kb K) ka kc) _ HR.out Tryd.underlying56 rfl (szBl _ _ _) ?_) | (refine wpList_allocB rfl rfl ?_) | (refine wpList_storeR _ szB rfl _ _ rfl w1.heap.size rfl (kb K) b0 ka none kc 0 56 rfl (heap_alloc_new w1 _) ?_; intro w2 hg2 hf2; obtain ⟨hb2, c20⟩ := HS1.out w2 hg2 hf2; have HG2 : Hid (w2.heap[w1.heap.size]? = some (.cells (bv (kb K) ka kc) 56 (0, 0)) ∧ Below w1.heap.size w1 w2) := ⟨hg2, hb2⟩; clear hg2 hf2) | fail)
  have hm2 : w2.heap[w.heap.size + 1]? = some (.cells #[.slice sa sn sc, .slice none 0 0, .int .i64 0, .int .i64 0] 31 (0, 0)) := by rw [hb2.block _ HW.out.2.2.2.2]; exact HW.out.2.1
  have c21 : w2.cell? ⟨w.heap.size + 1, 0, none⟩ = some (.slice sa sn sc) := by rw [cell_of_row _ _ 0 _ _ _ hm2]; rfl
  have hcall := containsI_any ka (kb K).n kc (kb K).z (w.heap.size + 1) sa sn sc sz w2 (HW.out.2.2.2.1.below hb2) hKl c21 (HW.out.2.2.1.below hb2) hsn
  refine hcall.mono ?_
  rintro e w3 ⟨rfl, hb3⟩
  clear hcall c21 c20
  have hb2' : Below w.heap.size w w2 := HW.out.1.trans (hb2.mono (by have := HW.out.2.2.2.2; omega))
  have hb3' : Below w.heap.size w w3 := hb2'.trans (hb3.mono hb2'.size)
  have HB3 : Hid (Below w.heap.size w w3) := hb3'
  by_cases hA : AllIn (kb K).z (kb K).n sz sn
  · have eA : decide (AllIn (kb K).z (kb K).n sz sn) = true := by simp [hA]
    have HE : Hid (opnE K sz sn = 0) := if_pos hA
    rw [eA]
    have hg3 : w3.heap[w1.heap.size]? = some (.cells (bv (kb K) ka kc) 56 (0, 0)) := by rw [hb3.block _ (lt_of_block HG2.out.1)]; exact HG2.out.1
    have hm3 : w3.heap[w.heap.size + 1]? = some (.cells #[.slice sa sn sc, .slice none 0 0, .int .i64 0, .int .i64 0] 31 (0, 0)) := by rw [hb3.block _ (lt_of_block hm2)]; exact hm2
    have S1 : w3.drew.rangeAt w1.heap.size 1 (bl nz 32) := brl_lock (kb K) ka kc (w := w3.drew) hg3
    have d1 : w3.drew.cell? ⟨w1.heap.size, 33, none⟩ = some (.int .i64 0) := (bbox_of (w := w3.drew) hg3).c33
    have d2 : w3.drew.cell? ⟨w1.heap.size, 34, none⟩ = some (.int .i64 0) := (bbox_of (w := w3.drew) hg3).c34
    have d3 : w3.drew.cell? ⟨w.heap.size + 1, 2, none⟩ = some (.int .i64 0) := by rw [cell_of_row w3.drew _ 2 _ _ _ hm3]; rfl
    have d4 : w3.drew.cell? ⟨w.heap.size + 1, 3, none⟩ = some (.int .i64 0) := by rw [cell_of_row w3.drew _ 3 _ _ _ hm3]; rfl
    clear hA eA hg3 hm3 hm2 hb2 hb2' hb3 hb3'
    go_wp2_with fail
    refine wp_region_noPanic ?_
    refine wp_region_held_drew (S := fun w' => w'.rangeAt w1.heap.size 1 (bl nz 32)) (by kernel_rfl) S1 (fun hHeld => ?_)
    refine wpAnyH_take (i := 0) (oi := { dst := some 38, op := Go.Op.fieldAddr 56 (Go.Operand.tmp 8) 1, type := 0, pos := "cond.go:62", after := #[], guard := none }) (v := ?_) rfl (by kernel_rfl) (by kernel_rfl) (by kernel_rfl) (fun _ _ _ h => h) (Or.inl ⟨by rfl, ?_⟩) (by assumption) ?_
    rotate_left
    · intro wz hSw; (try dsimp only at hSw); go_simp; (try with_reducible rfl)
    try simp only [Act.put, List.setIfInBounds_toArray, List.set_cons_zero, List.set_cons_succ]
    refine wpAnyH_take (i := 1) (oi := { dst := some 39, op := Go.Op.load 44 (Go.Operand.tmp 38), type := 44, pos := "cond.go:62", after := #[{ on := 0, ground := Go.Ground.data }], guard := none }) rfl (by kernel_rfl) (by kernel_rfl) (by kernel_rfl) (fun _ _ _ h => h) (yieldsIf_load_mid (by rfl) _ _ rfl w1.heap.size 1 rfl (bl nz 32) _ (fun _ h => h) Tryd.underlying44 rfl (szHl _)) (by assumption) ?_
    try simp only [Act.put, List.setIfInBounds_toArray, List.set_cons_zero, List.set_cons_succ]
    refine wpAnyH_take (i := 2) (oi := { dst := some 40, op := Go.Op.build 44 #[], type := 44, pos := "cond.go:62", after := #[], guard := none }) (v := .agg (hv nz)) rfl (by kernel_rfl) (by kernel_rfl) (by kernel_rfl) (fun _ _ _ h => h) (Or.inl ⟨by rfl, ?_⟩) (by assumption) ?_
    · intro wz hSw; (try dsimp only at hSw); kernel_rfl
    try simp only [Act.put, List.setIfInBounds_toArray, List.set_cons_zero, List.set_cons_succ]
    refine wpAnyH_take (i := 3) (oi := { dst := some 41, op := Go.Op.binOp Go.BinOp.neq 44 (Go.Operand.tmp 39) (Go.Operand.tmp 40) 44, type := 4, pos := "cond.go:62", after := #[{ on := 1, ground := Go.Ground.data }, { on := 2, ground := Go.Ground.data }], guard := none }) (v := .bool false) rfl (by kernel_rfl) (by kernel_rfl) (by kernel_rfl) (fun _ _ _ h => h) (Or.inl ⟨by rfl, ?_⟩) (by assumption) ?_
    · intro wz hSw; (try dsimp only at hSw); kernel_rfl
    try simp only [Act.put, List.setIfInBounds_toArray, List.set_cons_zero, List.set_cons_succ]
    refine wpAnyH_take (i := 4) (oi := { dst := some 42, op := Go.Op.move (Go.Operand.tmp 41), type := 4, pos := "cond.go:62", after := #[{ on := 3, ground := Go.Ground.data }], guard := none }) (v := ?_) rfl (by kernel_rfl) (by kernel_rfl) (by kernel_rfl) (fun _ _ _ h => h) (Or.inl ⟨by rfl, ?_⟩) (by assumption) ?_
    rotate_left
    · intro wz hSw; (try dsimp only at hSw); go_simp; (try with_reducible rfl)
    try simp only [Act.put, List.setIfInBounds_toArray, List.set_cons_zero, List.set_cons_succ]
    refine wpAnyH_take (i := 5) (oi := { dst := some 43, op := Go.Op.fieldAddr 56 (Go.Operand.tmp 8) 1, type := 0, pos := "cond.go:62", after := #[{ on := 4, ground := Go.Ground.guard }], guard := some (4, true) }) (v := undef) rfl (by kernel_rfl) (by kernel_rfl) (by kernel_rfl) (fun _ _ _ h => h) (Or.inr ⟨by rfl, rfl⟩) (by assumption) ?_
    try simp only [Act.put, List.setIfInBounds_toArray, List.set_cons_zero, List.set_cons_succ]
    refine wpAnyH_take (i := 6) (oi := { dst := some 44, op := Go.Op.load 44 (Go.Operand.tmp 43), type := 44, pos := "cond.go:62", after := #[{ on := 5, ground := Go.Ground.data }, { on := 4, ground := Go.Ground.guard }], guard := some (4, true) }) (v := undef) rfl (by kernel_rfl) (by kernel_rfl) (by kernel_rfl) (fun _ _ _ h => h) (Or.inr ⟨by rfl, rfl⟩) (by assumption) ?_
    try simp only [Act.put, List.setIfInBounds_toArray, List.set_cons_zero, List.set_cons_succ]
    refine wpAnyH_take (i := 7) (oi := { dst := some 45, op := Go.Op.fieldAddr 31 (Go.Operand.tmp 5) 1, type := 0, pos := "cond.go:62", after := #[{ on := 4, ground := Go.Ground.guard }], guard := some (4, true) }) (v := undef) rfl (by kernel_rfl) (by kernel_rfl) (by kernel_rfl) (fun _ _ _ h => h) (Or.inr ⟨by rfl, rfl⟩) (by assumption) ?_
    try simp only [Act.put, List.setIfInBounds_toArray, List.set_cons_zero, List.set_cons_succ]
    refine wpAnyH_take (i := 8) (oi := { dst := some 46, op := Go.Op.load 26 (Go.Operand.tmp 45), type := 26, pos := "cond.go:62", after := #[{ on := 7, ground := Go.Ground.data }, { on := 4, ground := Go.Ground.guard }], guard := some (4, true) }) (v := undef) rfl (by kernel_rfl) (by kernel_rfl) (by kernel_rfl) (fun _ _ _ h => h) (Or.inr ⟨by rfl, rfl⟩) (by assumption) ?_
    try simp only [Act.put, List.setIfInBounds_toArray, List.set_cons_zero, List.set_cons_succ]
    refine wpAnyH_take (i := 9) (oi := { dst := some 47, op := Go.Op.call { callee := Go.Callee.value (Go.Operand.func 14), args := #[Go.Operand.tmp 46], argTypes := #[26] }, type := 44, pos := "cond.go:62", after := #[{ on := 8, ground := Go.Ground.data }, { on := 4, ground := Go.Ground.chain }, { on := 4, ground := Go.Ground.guard }], guard := some (4, true) }) (v := undef) rfl (by kernel_rfl) (by kernel_rfl) (by kernel_rfl) (fun _ _ _ h => h) (Or.inr ⟨by rfl, rfl⟩) (by assumption) ?_
    try simp only [Act.put, List.setIfInBounds_toArray, List.set_cons_zero, List.set_cons_succ]
    refine wpAnyH_take (i := 10) (oi := { dst := some 48, op := Go.Op.binOp Go.BinOp.neq 44 (Go.Operand.tmp 44) (Go.Operand.tmp 47) 44, type := 4, pos := "cond.go:62", after := #[{ on := 6, ground := Go.Ground.data }, { on := 9, ground := Go.Ground.data }, { on := 4, ground := Go.Ground.guard }], guard := some (4, true) }) (v := undef) rfl (by kernel_rfl) (by kernel_rfl) (by kernel_rfl) (fun _ _ _ h => h) (Or.inr ⟨by rfl, rfl⟩) (by assumption) ?_
    try simp only [Act.put, List.setIfInBounds_toArray, List.set_cons_zero, List.set_cons_succ]
    refine wpAnyH_take (i := 11) (oi := { dst := some 49, op := Go.Op.pick (Go.Operand.tmp 42) (Go.Operand.tmp 48) (Go.Operand.const (Go.Value.bool false)), type := 4, pos := "cond.go:62", after := #[{ on := 4, ground := Go.Ground.data }, { on := 10, ground := Go.Ground.data }], guard := none }) (v := ?_) rfl (by kernel_rfl) (by kernel_rfl) (by kernel_rfl) (fun _ _ _ h => h) (Or.inl ⟨by rfl, ?_⟩) (by assumption) ?_
    rotate_left
    · intro wz hSw; (try dsimp only at hSw); go_simp; (try with_reducible rfl)
    try simp only [Act.put, List.setIfInBounds_toArray, List.set_cons_zero, List.set_cons_succ]
    refine wpAnyH_take (i := 12) (oi := { dst := some 37, op := Go.Op.assign (Go.Operand.tmp 49), type := 4, pos := "cond.go:62", after := #[{ on := 11, ground := Go.Ground.data }, { on := 9, ground := Go.Ground.chain }], guard := none }) (v := ?_) rfl (by kernel_rfl) (by kernel_rfl) (by kernel_rfl) (fun _ _ _ h => h) (Or.inl ⟨by rfl, ?_⟩) (by assumption) ?_
    rotate_left
    · intro wz hSw; (try dsimp only at hSw); go_simp; (try with_reducible rfl)
    try simp only [Act.put, List.setIfInBounds_toArray, List.set_cons_zero, List.set_cons_succ]
    refine wpAnyH_done (by kernel_rfl) (NoPanic.normal ?_) _
    try simp only [Act.put, List.setIfInBounds_toArray, List.set_cons_zero, List.set_cons_succ]
    clear hHeld S1
    go_wp2
    go_ret
    exact ⟨by rw [HE.out]; rfl, HB3.out.drew⟩
  · have eA : decide (AllIn (kb K).z (kb K).n sz sn) = false := by simpa using hA
    have HE : Hid (opnE K sz sn = 21) := if_neg hA
    rw [eA]
    clear hA eA hm2 hb2 hb2' hb3 hb3'
    go_wp2
    go_ret
    exact ⟨by rw [HE.out]; rfl, HB3.out⟩
end Go.Proofs.YtecahnafcljljaaDoor
