/- cond.Opens of any condition at any branch, whatever is shown: the walk. -/
import Derived.Test.YtecahnafcljljaaDoorCOpensA
namespace Go.Proofs.YtecahnafcljljaaDoor
open Go.RowKit Go.Shelf Go.Sort

/-- What opens a branch: the answer's number. -/
def opnB (x : Bv) (sz : Nat → Int) (sn : Nat) (T : List Nat) (ht ag : Int) : Int :=
  if AllIn x.z x.n sz sn then if hq x.lk nz = true ∨ hq x.lk (sZ (sumF T)) = true then if ht < x.af ∨ ag < x.ol then 23 else 0 else 22 else 21
def opnA (X : Nat → Bv) (n : Nat) (br : Int) (sz : Nat → Int) (sn : Nat) (T : List Nat) (ht ag : Int) : Int :=
  if COk X n then if 0 ≤ br ∧ br < n then opnB (X br.toNat) sz sn T ht ag else 4 else 1

set_option maxRecDepth 100000 in
set_option maxHeartbeats 6400000 in
theorem opens_any (ad : Option Addr) (n cap : Nat) (X : Nat → Bv) (br : Int) (sa : Option Addr) (sn sc : Nat) (sz : Nat → Int) (ta : Option Addr) (tc : Nat) (T : List Nat) (ht ag : Int) (w : World) (hTb : Tab w) (hgl : 3 ≤ w.heap.size)
    (hB : BrAt w ad n X) (hn : n ≤ 1000000) (hX : ∀ i, i < n → (X i).n ≤ 1000000) (hI : IsAt w sa sn sz) (hsn : sn ≤ 1000000) (hS : SlB w ta T) (hTy : ∀ i, T.getD i 0 < 256) (hTc : T.length ≤ tc) (hTl : T.length ≤ 140737488355328) :
    Calls Tryd.prog 12 #[.agg #[.slice ad n cap], .int .i64 br, .agg #[.slice sa sn sc, .slice ta T.length tc, .int .i64 ht, .int .i64 ag]] w fun e w' => e = .returned (errV (opnA X n br sz sn T ht ag)) ∧ Below w.heap.size w w' := by
  have hb0 : Below w.heap.size w ((w.alloc (.cells #[.slice ad n cap] 38)).alloc (.cells #[.slice sa sn sc, .slice ta T.length tc, .int .i64 ht, .int .i64 ag] 31)) := ((Below.refl _ w).alloc (Nat.le_refl _) _).alloc (by simp) _
  have hn0 : ((w.alloc (.cells #[.slice ad n cap] 38)).alloc (.cells #[.slice sa sn sc, .slice ta T.length tc, .int .i64 ht, .int .i64 ag] 31)).heap[w.heap.size]? = some (.cells #[.slice ad n cap] 38 (0, 0)) := by
    rw [Below.heap_alloc _ _ _ (by simp)]; exact heap_alloc_new w _
  have hn1 : ((w.alloc (.cells #[.slice ad n cap] 38)).alloc (.cells #[.slice sa sn sc, .slice ta T.length tc, .int .i64 ht, .int .i64 ag] 31)).heap[w.heap.size + 1]? = some (.cells #[.slice sa sn sc, .slice ta T.length tc, .int .i64 ht, .int .i64 ag] 31 (0, 0)) := by
    have := heap_alloc_new (w.alloc (.cells #[.slice ad n cap] 38)) (.cells #[.slice sa sn sc, .slice ta T.length tc, .int .i64 ht, .int .i64 ag] 31)
    simpa using this
  have hB0 := hB.below hb0
  have hI0 := hI.below hb0
  have hck := check_any ad n cap X _ hB0 hn hX
  have HT : Hid (Tab w ∧ 3 ≤ w.heap.size ∧ SlB w ta T ∧ (∀ i, T.getD i 0 < 256) ∧ T.length ≤ tc ∧ T.length ≤ 140737488355328) := ⟨hTb, hgl, hS, hTy, hTc, hTl⟩
  clear hTb hgl hS hTy hTc hTl hB hI
  by_cases hC : COk X n
  · have e0 : chkE X n = 0 := if_pos hC
    have e1 : errV 0 = .nilIface := rfl
    rw [e0, e1] at hck
    clear e0 e1
    by_cases hbr : 0 ≤ br ∧ br < n
    · obtain ⟨i, rfl⟩ : ∃ i : Nat, br = (i : Int) := ⟨br.toNat, by omega⟩
      have hin : i < n := by omega
      have hin' : (i : Int) < n := by omega
      have HE0 : Hid (opnA X n i sz sn T ht ag = opnB (X i) sz sn T ht ag) := by show _ = _; unfold opnA; rw [if_pos hC, if_pos hbr, Int.toNat_natCast]
      clear hbr hC
      go_enter Tryd.func12, Tryd.ntmps12
      go_wp2_with fail
      generalize (w.alloc (.cells #[.slice ad n cap] 38)).alloc (.cells #[.slice sa sn sc, .slice ta T.length tc, .int .i64 ht, .int .i64 ag] 31) = W0 at *
      refine hck.mono ?_
      rintro e w1 ⟨rfl, hb1⟩
      clear hck
      have hp1 := lt_of_block hn1
      have m0 : w1.heap[w.heap.size]? = some (.cells #[.slice ad n cap] 38 (0, 0)) := by rw [hb1.block _ (by omega)]; exact hn0
      have m1 : w1.heap[w.heap.size + 1]? = some (.cells #[.slice sa sn sc, .slice ta T.length tc, .int .i64 ht, .int .i64 ag] 31 (0, 0)) := by rw [hb1.block _ (by omega)]; exact hn1
      have hB1 := hB0.below hb1
      have hI1 := hI0.below hb1
      obtain ⟨b, off, rfl, hrow⟩ := hB1.at_ (by omega)
      obtain ⟨ka, kc, hr1, hk1⟩ := hrow i hin
      have hXi := hX i hin
      have hOk := hB1.ok i hin
      have c10 : w1.cell? ⟨w.heap.size, 0, none⟩ = some (.slice (some ⟨b, off, none⟩) n cap) := by rw [cell_of_row _ _ 0 _ _ _ m0]; rfl
      generalize X i = x at *
      have HR : Hid (w1.rangeAt b (off + i * 35) (brl x ka kc)) := hr1
      have hbw : Below w.heap.size w w1 := hb0.trans (hb1.mono hb0.size)
      have HS1 : Hid (∀ w' : World, w'.heap[w1.heap.size]? = some (.cells (bv x ka kc) 56 (0, 0)) → Frm [w1.heap.size] (w1.alloc (.cells (bv b0 none 0) 56)) w' → Below w1.heap.size w1 w' ∧ w'.cell? ⟨w1.heap.size, 0, none⟩ = some (.slice ka x.n kc)) := by
        intro w' h1 h2
        have h3 : Below w1.heap.size (w1.alloc (.cells (bv b0 none 0) 56)) w' := h2.below (by simp) (by simp)
        exact ⟨((Below.refl _ w1).alloc (Nat.le_refl _) _).trans h3, (bbox_of h1).c0⟩
      have HW : Hid (Below w.heap.size w w1 ∧ w1.heap[w.heap.size + 1]? = some (.cells #[.slice sa sn sc, .slice ta T.length tc, .int .i64 ht, .int .i64 ag] 31 (0, 0)) ∧ IsAt w1 sa sn sz ∧ IsAt w1 ka x.n x.z ∧ w.heap.size + 1 < w1.heap.size) := ⟨hbw, m1, hI1, hk1, lt_of_block m1⟩
      clear hb0 hb1 hn0 hn1 hB0 hI0 hB1 hI1 m0 m1 hrow hr1 hk1 hbw hX
      go_wp2_with (first | (refine wpList_load_mid rfl 56 _ rfl b (off + i * 35) rfl (brl x ka kc) _ HR.out Tryd.underlying56 rfl (szBl _ _ _) ?_) | (refine wpList_allocB rfl rfl ?_) | (refine wpList_storeR _ szB rfl _ _ rfl w1.heap.size rfl x b0 ka none kc 0 56 rfl (heap_alloc_new w1 _) ?_; intro w2 hg2 hf2; obtain ⟨hb2, c20⟩ := HS1.out w2 hg2 hf2; have HG2 : Hid (w2.heap[w1.heap.size]? = some (.cells (bv x ka kc) 56 (0, 0)) ∧ Below w1.heap.size w1 w2) := ⟨hg2, hb2⟩; clear hg2 hf2) | fail)
      have hm2 : w2.heap[w.heap.size + 1]? = some (.cells #[.slice sa sn sc, .slice ta T.length tc, .int .i64 ht, .int .i64 ag] 31 (0, 0)) := by rw [hb2.block _ HW.out.2.2.2.2]; exact HW.out.2.1
      have c21 : w2.cell? ⟨w.heap.size + 1, 0, none⟩ = some (.slice sa sn sc) := by rw [cell_of_row _ _ 0 _ _ _ hm2]; rfl
      have hcall := containsI_any ka x.n kc x.z (w.heap.size + 1) sa sn sc sz w2 (HW.out.2.2.2.1.below hb2) hXi c21 (HW.out.2.2.1.below hb2) hsn
      refine hcall.mono ?_
      rintro e w3 ⟨rfl, hb3⟩
      clear hcall c21 c20
      have hb2' : Below w.heap.size w w2 := HW.out.1.trans (hb2.mono (by have := HW.out.2.2.2.2; omega))
      have hb3' : Below w.heap.size w w3 := hb2'.trans (hb3.mono hb2'.size)
      have HB3 : Hid (Below w.heap.size w w3) := hb3'
      by_cases hA : AllIn x.z x.n sz sn
      · have eA : decide (AllIn x.z x.n sz sn) = true := by simp [hA]
        have HE1 : Hid (opnB x sz sn T ht ag = if hq x.lk nz = true ∨ hq x.lk (sZ (sumF T)) = true then if ht < x.af ∨ ag < x.ol then 23 else 0 else 22) := if_pos hA
        rw [eA]
        have hg3 : w3.heap[w1.heap.size]? = some (.cells (bv x ka kc) 56 (0, 0)) := by rw [hb3.block _ (lt_of_block HG2.out.1)]; exact HG2.out.1
        have hm3 : w3.heap[w.heap.size + 1]? = some (.cells #[.slice sa sn sc, .slice ta T.length tc, .int .i64 ht, .int .i64 ag] 31 (0, 0)) := by rw [hb3.block _ (lt_of_block hm2)]; exact hm2
        have S1 : w3.drew.rangeAt w1.heap.size 1 (bl x.lk 32) ∧ w3.drew.cell? ⟨w.heap.size + 1, 1, none⟩ = some (.slice ta T.length tc) := ⟨brl_lock x ka kc (w := w3.drew) hg3, by rw [cell_of_row w3.drew _ 1 _ _ _ hm3]; rfl⟩
        clear hA eA hm2 hb2 hb2' hb3 hb3'
        go_wp2_with fail
        have hlk := hOk.lk
        refine wp_region_noPanic ?_
        refine wp_region_held_drew (S := fun w' => w'.rangeAt w1.heap.size 1 (bl x.lk 32) ∧ w'.cell? ⟨w.heap.size + 1, 1, none⟩ = some (.slice ta T.length tc)) (by kernel_rfl) S1 (fun hHeld => ?_)
        refine wpAnyH_take (i := 0) (oi := { dst := some 38, op := Go.Op.fieldAddr 56 (Go.Operand.tmp 8) 1, type := 0, pos := "cond.go:62", after := #[], guard := none }) (v := ?_) rfl (by kernel_rfl) (by kernel_rfl) (by kernel_rfl) (fun _ _ _ h => h) (Or.inl ⟨by rfl, ?_⟩) (by assumption) ?_
        rotate_left
        · intro wz hSw; (try dsimp only at hSw); go_simp; (try with_reducible rfl)
        try simp only [Act.put, List.setIfInBounds_toArray, List.set_cons_zero, List.set_cons_succ]
        refine wpAnyH_take (i := 1) (oi := { dst := some 39, op := Go.Op.load 44 (Go.Operand.tmp 38), type := 44, pos := "cond.go:62", after := #[{ on := 0, ground := Go.Ground.data }], guard := none }) rfl (by kernel_rfl) (by kernel_rfl) (by kernel_rfl) (fun _ _ _ h => h) (yieldsIf_load_mid (by rfl) _ _ rfl w1.heap.size 1 rfl (bl x.lk 32) _ (fun _ h => h.1) Tryd.underlying44 rfl (szHl _)) (by assumption) ?_
        try simp only [Act.put, List.setIfInBounds_toArray, List.set_cons_zero, List.set_cons_succ]
        refine wpAnyH_take (i := 2) (oi := { dst := some 40, op := Go.Op.build 44 #[], type := 44, pos := "cond.go:62", after := #[], guard := none }) (v := .agg (hv nz)) rfl (by kernel_rfl) (by kernel_rfl) (by kernel_rfl) (fun _ _ _ h => h) (Or.inl ⟨by rfl, ?_⟩) (by assumption) ?_
        · intro wz hSw; (try dsimp only at hSw); kernel_rfl
        try simp only [Act.put, List.setIfInBounds_toArray, List.set_cons_zero, List.set_cons_succ]
        by_cases hz : hq x.lk nz = true
        · skip
          refine wpAnyH_take (i := 3) (oi := { dst := some 41, op := Go.Op.binOp Go.BinOp.neq 44 (Go.Operand.tmp 39) (Go.Operand.tmp 40) 44, type := 4, pos := "cond.go:62", after := #[{ on := 1, ground := Go.Ground.data }, { on := 2, ground := Go.Ground.data }], guard := none }) (v := .bool false) rfl (by kernel_rfl) (by kernel_rfl) (by kernel_rfl) (fun _ _ _ h => h) (Or.inl ⟨by rfl, ?_⟩) (by assumption) ?_
          · intro wz hSw; (try dsimp only at hSw); exact exec_neV _ _ rfl hlk nz_bd rfl rfl (by rw [hz]; rfl) wz
          try simp only [Act.put, List.setIfInBounds_toArray, List.set_cons_zero, List.set_cons_succ]
          refine wpAnyH_take (i := 4) (oi := { dst := some 42, op := Go.Op.move (Go.Operand.tmp 41), type := 4, pos := "cond.go:62", after := #[{ on := 3, ground := Go.Ground.data }], guard := none }) (v := ?_) rfl (by kernel_rfl) (by kernel_rfl) (by kernel_rfl) (fun _ _ _ h => h) (Or.inl ⟨by rfl, ?_⟩) (by assumption) ?_
          rotate_left
          · intro wz hSw; (try dsimp only at hSw); go_simp; (try with_reducible rfl)
          try simp only [Act.put, List.setIfInBounds_toArray, List.set_cons_zero, List.set_cons_succ]
          refine wpAnyH_take (i := 5) (oi := { dst := some 43, op := Go.Op.fieldAddr 56 (Go.Operand.tmp 8) 1, type := 0, pos := "cond.go:62", after := #[{ on := 4, ground := Go.Ground.guard }], guard := some (4, true) }) (v := undef) rfl (by kernel_rfl) (by kernel_rfl) (by kernel_rfl) (fun _ _ _ h => h) (Or.inr ⟨by rfl, rfl⟩) (by assumption) ?_
          try simp only [Act.put, List.setIfInBounds_toArray, List.set_cons_zero, List.set_cons_succ]
          refine wpAnyH_take (i := 6) (oi := { dst := some 44, op := Go.Op.load 44 (Go.Operand.tmp 43), type := 44, pos := "cond.go:62", after := #[{ on := 5, ground := Go.Ground.data }, { on := 4, ground := Go.Ground.guard }], guard := some (4, true) }) (v := undef) rfl (by kernel_rfl) (by kernel_rfl) (by kernel_rfl) (fun _ _ _ h => h) (Or.inr ⟨by rfl, rfl⟩) (by assumption) ?_
          try simp only [Act.put, List.setIfInBounds_toArray, List.set_cons_zero, List.set_cons_succ]
          refine wpAnyH_take (i := 7) (oi := { dst := some 45, op := Go.Op.fieldAddr 31 (Go.Operand.tmp 5) 1, type := 0, pos := "cond.go:62", after := #[{ on := 4, ground := Go.Ground.guard }], guard := some (4, true) }) (v := undef) rfl (by kernel_rfl) (by kernel_rfl) (by kernel_rfl) (fun _ _ _ h => h) (Or.inr ⟨by rfl, rfl⟩) (by assumption) ?_
          try simp only [Act.put, List.setIfInBounds_toArray, List.set_cons_zero, List.set_cons_succ]
          refine wpAnyH_take (i := 8) (oi := { dst := some 46, op := Go.Op.load 26 (Go.Operand.tmp 45), type := 26, pos := "cond.go:62", after := #[{ on := 7, ground := Go.Ground.data }, { on := 4, ground := Go.Ground.guard }], guard := some (4, true) }) (v := undef) rfl (by kernel_rfl) (by kernel_rfl) (by kernel_rfl) (fun _ _ _ h => h) (Or.inr ⟨by rfl, rfl⟩) (by assumption) ?_
          try simp only [Act.put, List.setIfInBounds_toArray, List.set_cons_zero, List.set_cons_succ]
          refine wpAnyH_take (i := 9) (oi := { dst := some 47, op := Go.Op.call { callee := Go.Callee.value (Go.Operand.func 14), args := #[Go.Operand.tmp 46], argTypes := #[26] }, type := 44, pos := "cond.go:62", after := #[{ on := 8, ground := Go.Ground.data }, { on := 4, ground := Go.Ground.chain }, { on := 4, ground := Go.Ground.guard }], guard := some (4, true) }) (v := undef) rfl (by kernel_rfl) (by kernel_rfl) (by kernel_rfl) (fun _ _ _ h => h) (Or.inr ⟨by rfl, rfl⟩) (by assumption) ?_
          try simp only [Act.put, List.setIfInBounds_toArray, List.set_cons_zero, List.set_cons_succ]
          refine wpAnyH_take (i := 10) (oi := { dst := some 48, op := Go.Op.binOp Go.BinOp.neq 44 (Go.Operand.tmp 44) (Go.Operand.tmp 47) 44, type := 4, pos := "cond.go:62", after := #[{ on := 6, ground := Go.Ground.data }, { on := 9, ground := Go.Ground.data }, { on := 4, ground := Go.Ground.guard }], guard := some (4, true) }) (v := undef) rfl (by kernel_rfl) (by kernel_rfl) (by kernel_rfl) (fun _ _ _ h => h) (Or.inr ⟨by rfl, rfl⟩) (by assumption) ?_
          try simp only [Act.put, List.setIfInBounds_toArray, List.set_cons_zero, List.set_cons_succ]
          refine wpAnyH_take (i := 11) (oi := { dst := some 49, op := Go.Op.pick (Go.Operand.tmp 42) (Go.Operand.tmp 48) (Go.Operand.const (Go.Value.bool false)), type := 4, pos := "cond.go:62", after := #[{ on := 4, ground := Go.Ground.data }, { on := 10, ground := Go.Ground.data }], guard := none }) (v := ?_) rfl (by kernel_rfl) (by kernel_rfl) (by kernel_rfl) (fun _ _ _ h => h) (Or.inl ⟨by rfl, ?_⟩) (by assumption) ?_
          rotate_left
          · intro wz hSw; (try dsimp only at hSw); go_simp; (try with_reducible rfl)
          try simp only [Act.put, List.setIfInBounds_toArray, List.set_cons_zero, List.set_cons_succ]
          refine wpAnyH_take (i := 12) (oi := { dst := some 37, op := Go.Op.assign (Go.Operand.tmp 49), type := 4, pos := "cond.go:62", after := #[{ on := 11, ground := Go.Ground.data }, { on := 9, ground := Go.Ground.chain }], guard := none }) (v := ?_) rfl (by kernel_rfl) (by kernel_rfl) (by kernel_rfl) (fun _ _ _ h => h) (Or.inl ⟨by rfl, ?_⟩) (by assumption) ?_
          rotate_left
          · intro wz hSw; (try dsimp only at hSw); go_simp; (try with_reducible rfl)
          try simp only [Act.put, List.setIfInBounds_toArray, List.set_cons_zero, List.set_cons_succ]
          refine wpAnyH_done (by kernel_rfl) (NoPanic.normal ?_) _
          try simp only [Act.put, List.setIfInBounds_toArray, List.set_cons_zero, List.set_cons_succ]
          have hg4 : w3.drew.heap[w1.heap.size]? = some (.cells (bv x ka kc) 56 (0, 0)) := by exact hg3
          have hm4 : w3.drew.heap[w.heap.size + 1]? = some (.cells #[.slice sa sn sc, .slice ta T.length tc, .int .i64 ht, .int .i64 ag] 31 (0, 0)) := by exact hm3
          have d1 : w3.drew.cell? ⟨w1.heap.size, 33, none⟩ = some (.int .i64 x.af) := (bbox_of (w := w3.drew) hg4).c33
          have d2 : w3.drew.cell? ⟨w1.heap.size, 34, none⟩ = some (.int .i64 x.ol) := (bbox_of (w := w3.drew) hg4).c34
          have d3 : w3.drew.cell? ⟨w.heap.size + 1, 2, none⟩ = some (.int .i64 ht) := by rw [cell_of_row w3.drew _ 2 _ _ _ hm4]; rfl
          have d4 : w3.drew.cell? ⟨w.heap.size + 1, 3, none⟩ = some (.int .i64 ag) := by rw [cell_of_row w3.drew _ 3 _ _ _ hm4]; rfl
          have HE2 : Hid (opnA X n i sz sn T ht ag = if ht < x.af ∨ ag < x.ol then 23 else 0) := by show _ = _; rw [HE0.out, HE1.out, if_pos (Or.inl hz)]
          clear hHeld hg4 hm4
          by_cases q1 : ht < x.af
          · have HE3 : Hid (opnA X n i sz sn T ht ag = 23) := by show _ = _; rw [HE2.out, if_pos (Or.inl q1)]
            go_wp2
            go_ret
            exact ⟨by rw [HE3.out]; rfl, HB3.out.drew⟩
          · have q1' : decide (ht < x.af) = false := by simpa using q1
            by_cases q2 : ag < x.ol
            · have HE3 : Hid (opnA X n i sz sn T ht ag = 23) := by show _ = _; rw [HE2.out, if_pos (Or.inr q2)]
              go_wp2
              go_ret
              exact ⟨by rw [HE3.out]; rfl, HB3.out.drew⟩
            · have q2' : decide (ag < x.ol) = false := by simpa using q2
              have HE3 : Hid (opnA X n i sz sn T ht ag = 0) := by show _ = _; rw [HE2.out, if_neg (by rintro (h | h); exact q1 h; exact q2 h)]
              go_wp2
              go_ret
              exact ⟨by rw [HE3.out]; rfl, HB3.out.drew⟩
        · have hz' : hq x.lk nz = false := by simpa using hz
          refine wpAnyH_take (i := 3) (oi := { dst := some 41, op := Go.Op.binOp Go.BinOp.neq 44 (Go.Operand.tmp 39) (Go.Operand.tmp 40) 44, type := 4, pos := "cond.go:62", after := #[{ on := 1, ground := Go.Ground.data }, { on := 2, ground := Go.Ground.data }], guard := none }) (v := .bool true) rfl (by kernel_rfl) (by kernel_rfl) (by kernel_rfl) (fun _ _ _ h => h) (Or.inl ⟨by rfl, ?_⟩) (by assumption) ?_
          · intro wz hSw; (try dsimp only at hSw); exact exec_neV _ _ rfl hlk nz_bd rfl rfl (by rw [hz']; rfl) wz
          try simp only [Act.put, List.setIfInBounds_toArray, List.set_cons_zero, List.set_cons_succ]
          refine wpAnyH_take (i := 4) (oi := { dst := some 42, op := Go.Op.move (Go.Operand.tmp 41), type := 4, pos := "cond.go:62", after := #[{ on := 3, ground := Go.Ground.data }], guard := none }) (v := ?_) rfl (by kernel_rfl) (by kernel_rfl) (by kernel_rfl) (fun _ _ _ h => h) (Or.inl ⟨by rfl, ?_⟩) (by assumption) ?_
          rotate_left
          · intro wz hSw; (try dsimp only at hSw); go_simp; (try with_reducible rfl)
          try simp only [Act.put, List.setIfInBounds_toArray, List.set_cons_zero, List.set_cons_succ]
          refine wpAnyH_take (i := 5) (oi := { dst := some 43, op := Go.Op.fieldAddr 56 (Go.Operand.tmp 8) 1, type := 0, pos := "cond.go:62", after := #[{ on := 4, ground := Go.Ground.guard }], guard := some (4, true) }) (v := ?_) rfl (by kernel_rfl) (by kernel_rfl) (by kernel_rfl) (fun _ _ _ h => h) (Or.inl ⟨by rfl, ?_⟩) (by assumption) ?_
          rotate_left
          · intro wz hSw; (try dsimp only at hSw); go_simp; (try with_reducible rfl)
          try simp only [Act.put, List.setIfInBounds_toArray, List.set_cons_zero, List.set_cons_succ]
          refine wpAnyH_take (i := 6) (oi := { dst := some 44, op := Go.Op.load 44 (Go.Operand.tmp 43), type := 44, pos := "cond.go:62", after := #[{ on := 5, ground := Go.Ground.data }, { on := 4, ground := Go.Ground.guard }], guard := some (4, true) }) rfl (by kernel_rfl) (by kernel_rfl) (by kernel_rfl) (fun _ _ _ h => h) (yieldsIf_load_mid (by rfl) _ _ rfl w1.heap.size 1 rfl (bl x.lk 32) _ (fun _ h => h.1) Tryd.underlying44 rfl (szHl _)) (by assumption) ?_
          try simp only [Act.put, List.setIfInBounds_toArray, List.set_cons_zero, List.set_cons_succ]
          refine wpAnyH_take (i := 7) (oi := { dst := some 45, op := Go.Op.fieldAddr 31 (Go.Operand.tmp 5) 1, type := 0, pos := "cond.go:62", after := #[{ on := 4, ground := Go.Ground.guard }], guard := some (4, true) }) (v := ?_) rfl (by kernel_rfl) (by kernel_rfl) (by kernel_rfl) (fun _ _ _ h => h) (Or.inl ⟨by rfl, ?_⟩) (by assumption) ?_
          rotate_left
          · intro wz hSw; (try dsimp only at hSw); go_simp; (try with_reducible rfl)
          try simp only [Act.put, List.setIfInBounds_toArray, List.set_cons_zero, List.set_cons_succ]
          refine wpAnyH_take (i := 8) (oi := { dst := some 46, op := Go.Op.load 26 (Go.Operand.tmp 45), type := 26, pos := "cond.go:62", after := #[{ on := 7, ground := Go.Ground.data }, { on := 4, ground := Go.Ground.guard }], guard := some (4, true) }) (v := ?_) rfl (by kernel_rfl) (by kernel_rfl) (by kernel_rfl) (fun _ _ _ h => h) (Or.inl ⟨by rfl, ?_⟩) (by assumption) ?_
          rotate_left
          · intro wz hSw; (try dsimp only at hSw); go_simp; (try with_reducible rfl)
          try simp only [Act.put, List.setIfInBounds_toArray, List.set_cons_zero, List.set_cons_succ]
          refine wpAnyH_ready (rs := [9]) (by kernel_rfl) (by simp) ?_
          refine (AllReadyH.cons (o := { dst := some 47, op := Go.Op.call { callee := Go.Callee.value (Go.Operand.func 14), args := #[Go.Operand.tmp 46], argTypes := #[26] }, type := 44, pos := "cond.go:62", after := #[{ on := 8, ground := Go.Ground.data }, { on := 4, ground := Go.Ground.chain }, { on := 4, ground := Go.Ground.guard }], guard := some (4, true) }) rfl (fun K hK => ?_) AllReadyH.nil)
          go_simp
          have hbd : Below w.heap.size w w3.drew := HB3.out.drew
          refine (lock_any ta tc T w3.drew (HT.out.1.frm (Frm.ofBelow (S := []) hbd) (by simp)) (by have := HT.out.2.1; have := hbd.size; omega) (HT.out.2.2.1.below (Frm.ofBelow hbd)) HT.out.2.2.2.1 HT.out.2.2.2.2.1 HT.out.2.2.2.2.2).mono ?_
          rintro e w4 ⟨rfl, hb4⟩
          have S2 : w4.rangeAt w1.heap.size 1 (bl x.lk 32) ∧ w4.cell? ⟨w.heap.size + 1, 1, none⟩ = some (.slice ta T.length tc) := ⟨range_keep S1.1 (Frm.ofBelow (S := []) hb4) (by simp), by rw [hb4.cell (World.block_lt_of_cell? w3.drew _ S1.2)]; exact S1.2⟩
          have HB4 : Hid (Below w.heap.size w w4) := Below.transS hbd hb4
          refine hK.out _ _ S2 (fun _ => ?_)
          clear hK K
          try simp only [Act.put, List.setIfInBounds_toArray, List.set_cons_zero, List.set_cons_succ]
          by_cases hy : hq x.lk (sZ (sumF T)) = true
          · skip
            refine wpAnyH_take (i := 10) (oi := { dst := some 48, op := Go.Op.binOp Go.BinOp.neq 44 (Go.Operand.tmp 44) (Go.Operand.tmp 47) 44, type := 4, pos := "cond.go:62", after := #[{ on := 6, ground := Go.Ground.data }, { on := 9, ground := Go.Ground.data }, { on := 4, ground := Go.Ground.guard }], guard := some (4, true) }) (v := .bool false) rfl (by kernel_rfl) (by kernel_rfl) (by kernel_rfl) (fun _ _ _ h => h) (Or.inl ⟨by rfl, ?_⟩) (by assumption) ?_
            · intro wz hSw; (try dsimp only at hSw); exact exec_neV _ _ rfl hlk (sZ_bd T) rfl rfl (by rw [hy]; rfl) wz
            try simp only [Act.put, List.setIfInBounds_toArray, List.set_cons_zero, List.set_cons_succ]
            refine wpAnyH_take (i := 11) (oi := { dst := some 49, op := Go.Op.pick (Go.Operand.tmp 42) (Go.Operand.tmp 48) (Go.Operand.const (Go.Value.bool false)), type := 4, pos := "cond.go:62", after := #[{ on := 4, ground := Go.Ground.data }, { on := 10, ground := Go.Ground.data }], guard := none }) (v := ?_) rfl (by kernel_rfl) (by kernel_rfl) (by kernel_rfl) (fun _ _ _ h => h) (Or.inl ⟨by rfl, ?_⟩) (by assumption) ?_
            rotate_left
            · intro wz hSw; (try dsimp only at hSw); go_simp; (try with_reducible rfl)
            try simp only [Act.put, List.setIfInBounds_toArray, List.set_cons_zero, List.set_cons_succ]
            refine wpAnyH_take (i := 12) (oi := { dst := some 37, op := Go.Op.assign (Go.Operand.tmp 49), type := 4, pos := "cond.go:62", after := #[{ on := 11, ground := Go.Ground.data }, { on := 9, ground := Go.Ground.chain }], guard := none }) (v := ?_) rfl (by kernel_rfl) (by kernel_rfl) (by kernel_rfl) (fun _ _ _ h => h) (Or.inl ⟨by rfl, ?_⟩) (by assumption) ?_
            rotate_left
            · intro wz hSw; (try dsimp only at hSw); go_simp; (try with_reducible rfl)
            try simp only [Act.put, List.setIfInBounds_toArray, List.set_cons_zero, List.set_cons_succ]
            refine wpAnyH_done (by kernel_rfl) (NoPanic.normal ?_) _
            try simp only [Act.put, List.setIfInBounds_toArray, List.set_cons_zero, List.set_cons_succ]
            have hg4 : w4.heap[w1.heap.size]? = some (.cells (bv x ka kc) 56 (0, 0)) := by rw [hb4.block _ (lt_of_block (w := w3.drew) hg3)]; exact hg3
            have hm4 : w4.heap[w.heap.size + 1]? = some (.cells #[.slice sa sn sc, .slice ta T.length tc, .int .i64 ht, .int .i64 ag] 31 (0, 0)) := by rw [hb4.block _ (lt_of_block (w := w3.drew) hm3)]; exact hm3
            have d1 : w4.cell? ⟨w1.heap.size, 33, none⟩ = some (.int .i64 x.af) := (bbox_of (w := w4) hg4).c33
            have d2 : w4.cell? ⟨w1.heap.size, 34, none⟩ = some (.int .i64 x.ol) := (bbox_of (w := w4) hg4).c34
            have d3 : w4.cell? ⟨w.heap.size + 1, 2, none⟩ = some (.int .i64 ht) := by rw [cell_of_row w4 _ 2 _ _ _ hm4]; rfl
            have d4 : w4.cell? ⟨w.heap.size + 1, 3, none⟩ = some (.int .i64 ag) := by rw [cell_of_row w4 _ 3 _ _ _ hm4]; rfl
            have HE2 : Hid (opnA X n i sz sn T ht ag = if ht < x.af ∨ ag < x.ol then 23 else 0) := by show _ = _; rw [HE0.out, HE1.out, if_pos (Or.inr hy)]
            clear hHeld hg4 hm4
            by_cases q1 : ht < x.af
            · have HE3 : Hid (opnA X n i sz sn T ht ag = 23) := by show _ = _; rw [HE2.out, if_pos (Or.inl q1)]
              go_wp2
              go_ret
              exact ⟨by rw [HE3.out]; rfl, HB4.out⟩
            · have q1' : decide (ht < x.af) = false := by simpa using q1
              by_cases q2 : ag < x.ol
              · have HE3 : Hid (opnA X n i sz sn T ht ag = 23) := by show _ = _; rw [HE2.out, if_pos (Or.inr q2)]
                go_wp2
                go_ret
                exact ⟨by rw [HE3.out]; rfl, HB4.out⟩
              · have q2' : decide (ag < x.ol) = false := by simpa using q2
                have HE3 : Hid (opnA X n i sz sn T ht ag = 0) := by show _ = _; rw [HE2.out, if_neg (by rintro (h | h); exact q1 h; exact q2 h)]
                go_wp2
                go_ret
                exact ⟨by rw [HE3.out]; rfl, HB4.out⟩
          · have hy' : hq x.lk (sZ (sumF T)) = false := by simpa using hy
            refine wpAnyH_take (i := 10) (oi := { dst := some 48, op := Go.Op.binOp Go.BinOp.neq 44 (Go.Operand.tmp 44) (Go.Operand.tmp 47) 44, type := 4, pos := "cond.go:62", after := #[{ on := 6, ground := Go.Ground.data }, { on := 9, ground := Go.Ground.data }, { on := 4, ground := Go.Ground.guard }], guard := some (4, true) }) (v := .bool true) rfl (by kernel_rfl) (by kernel_rfl) (by kernel_rfl) (fun _ _ _ h => h) (Or.inl ⟨by rfl, ?_⟩) (by assumption) ?_
            · intro wz hSw; (try dsimp only at hSw); exact exec_neV _ _ rfl hlk (sZ_bd T) rfl rfl (by rw [hy']; rfl) wz
            try simp only [Act.put, List.setIfInBounds_toArray, List.set_cons_zero, List.set_cons_succ]
            refine wpAnyH_take (i := 11) (oi := { dst := some 49, op := Go.Op.pick (Go.Operand.tmp 42) (Go.Operand.tmp 48) (Go.Operand.const (Go.Value.bool false)), type := 4, pos := "cond.go:62", after := #[{ on := 4, ground := Go.Ground.data }, { on := 10, ground := Go.Ground.data }], guard := none }) (v := ?_) rfl (by kernel_rfl) (by kernel_rfl) (by kernel_rfl) (fun _ _ _ h => h) (Or.inl ⟨by rfl, ?_⟩) (by assumption) ?_
            rotate_left
            · intro wz hSw; (try dsimp only at hSw); go_simp; (try with_reducible rfl)
            try simp only [Act.put, List.setIfInBounds_toArray, List.set_cons_zero, List.set_cons_succ]
            refine wpAnyH_take (i := 12) (oi := { dst := some 37, op := Go.Op.assign (Go.Operand.tmp 49), type := 4, pos := "cond.go:62", after := #[{ on := 11, ground := Go.Ground.data }, { on := 9, ground := Go.Ground.chain }], guard := none }) (v := ?_) rfl (by kernel_rfl) (by kernel_rfl) (by kernel_rfl) (fun _ _ _ h => h) (Or.inl ⟨by rfl, ?_⟩) (by assumption) ?_
            rotate_left
            · intro wz hSw; (try dsimp only at hSw); go_simp; (try with_reducible rfl)
            try simp only [Act.put, List.setIfInBounds_toArray, List.set_cons_zero, List.set_cons_succ]
            refine wpAnyH_done (by kernel_rfl) (NoPanic.normal ?_) _
            try simp only [Act.put, List.setIfInBounds_toArray, List.set_cons_zero, List.set_cons_succ]
            have HE3 : Hid (opnA X n i sz sn T ht ag = 22) := by show _ = _; rw [HE0.out, HE1.out, if_neg (by rintro (h | h); exact hz h; exact hy h)]
            clear hHeld
            go_wp2
            go_ret
            exact ⟨by rw [HE3.out]; rfl, HB4.out⟩
      · have eA : decide (AllIn x.z x.n sz sn) = false := by simpa using hA
        have HE : Hid (opnB x sz sn T ht ag = 21) := if_neg hA
        rw [eA]
        clear hA eA hm2 hb2 hb2' hb3 hb3'
        go_wp2
        go_ret
        exact ⟨by rw [HE0.out, HE.out]; rfl, HB3.out⟩
    · have HE3 : Hid (opnA X n br sz sn T ht ag = 4) := by show _ = _; unfold opnA; rw [if_pos hC, if_neg hbr]
      clear hC
      go_enter Tryd.func12, Tryd.ntmps12
      go_wp2_with fail
      generalize (w.alloc (.cells #[.slice ad n cap] 38)).alloc (.cells #[.slice sa sn sc, .slice ta T.length tc, .int .i64 ht, .int .i64 ag] 31) = W0 at *
      refine hck.mono ?_
      rintro e w1 ⟨rfl, hb1⟩
      have c10 : w1.cell? ⟨w.heap.size, 0, none⟩ = some (.slice ad n cap) := by rw [hb1.cell (p := ⟨w.heap.size, 0, none⟩) (lt_of_block hn0), cell_of_row _ _ 0 _ _ _ hn0]; rfl
      have HBW : Hid (Below w.heap.size w w1) := hb0.trans (hb1.mono hb0.size)
      clear hck hb0 hb1 hn0 hn1 hB0 hI0 hX
      by_cases q : br < 0
      · go_wp2
        go_ret
        exact ⟨by rw [HE3.out]; rfl, HBW.out⟩
      · have q1 : 0 ≤ br := by omega
        have q2 : (n : Int) ≤ br := by omega
        have q0 : decide (br < 0) = false := by simpa using q
        go_wp2
        go_ret
        exact ⟨by rw [HE3.out]; rfl, HBW.out⟩
  · have HE3 : Hid (opnA X n br sz sn T ht ag = 1) := if_neg hC
    have e0 : chkE X n = 1 := if_neg hC
    rw [e0] at hck
    have e1 : errV 1 = .iface 57 (.int .i64 1) := errV_ne (by decide)
    rw [e1] at hck
    go_enter Tryd.func12, Tryd.ntmps12
    go_wp2_with fail
    generalize (w.alloc (.cells #[.slice ad n cap] 38)).alloc (.cells #[.slice sa sn sc, .slice ta T.length tc, .int .i64 ht, .int .i64 ag] 31) = W0 at *
    refine hck.mono ?_
    rintro e w1 ⟨rfl, hb1⟩
    have HBW : Hid (Below w.heap.size w w1) := hb0.trans (hb1.mono hb0.size)
    clear hck hb0 hb1 hn0 hn1 hB0 hI0 hX e0 e1 hC
    go_wp2
    go_ret
    exact ⟨by rw [HE3.out]; rfl, HBW.out⟩
end Go.Proofs.YtecahnafcljljaaDoor
