/- The document's Opens. -/
import Derived.Test.YtecahnafcljljaaDoorCMoreK
import Derived.Test.YtecahnafcljljaaDoorBRSum
namespace Go.Proofs.YtecahnafcljljaaDoor
open Go.RowKit Go.Shelf Go.Sort

theorem hq_comm (z y : Nat → Int) : hq z y = hq y z := by
  unfold hq
  by_cases h : ub z = ub y
  · rw [h]
  · rw [beq_eq_false_iff_ne.2 h, beq_eq_false_iff_ne.2 (fun e => h e.symm)]

theorem sv_sum (T : List Nat) : sv (sumF T) = hv (sZ (sumF T)) := by
  have h : (sumF T).length = 32 := endL_len _
  exact sv_sZ h

set_option maxHeartbeats 800000 in
theorem rhas_any (ad : Option Addr) (n cap : Nat) (z : Nat → Int) (k : Int) (w : World) (h : IsAt w ad n z) (hn : n ≤ 1000000) :
    Calls Tryd.prog 26 #[.slice ad n cap, .int .i64 k] w fun e w' => e = .returned (.bool (hasK z n k)) ∧ Below w.heap.size w w' := by
  have HI : Hid (IsAt w ad n z) := h
  have hb0 := Below.refl w.heap.size w
  clear h
  go_enter Tryd.func26, Tryd.ntmps26
  go_wp2
  go_loopw [5] (fun iv wr => ∃ i : Nat, i ≤ n ∧ iv = .int .i64 i ∧ (∀ j, j < i → z j ≠ k) ∧ Below w.heap.size w wr) (fun iv _ => n + 1 - (intOf iv).toNat)
  case atStart => exact ⟨0, by omega, rfl, fun j hj => by omega, hb0⟩
  case round =>
    clear hb0
    obtain ⟨i, hi, rfl, hk, hb⟩ := hrel
    have HK : Hid (∀ j, j < i → z j ≠ k) := hk
    clear hk
    by_cases hlt : i < n
    · have hlt' : (i : Int) < n := by omega
      obtain ⟨b, off, rfl, hc⟩ := HI.out (by omega)
      have hci : wr.cell? ⟨b, off + i, none⟩ = some (.int .i64 (z i)) := by
        have := hc i hlt
        rw [hb.cell (p := ⟨b, off + i, none⟩) (World.block_lt_of_cell? w ⟨b, off + i, none⟩ this)]; exact this
      clear hc
      by_cases hq : z i = k
      · have HE : Hid (hasK z n k = true) := (hasK_iff _ _ _).2 ⟨i, hlt, hq⟩
        go_wp2
        go_ret
        exact ⟨by rw [HE.out]; rfl, hb⟩
      · have HN : Hid (∀ j, j < i + 1 → z j ≠ k) := fun j hj => by
          by_cases e : j = i
          · subst e; exact hq
          · exact HK.out j (by omega)
        go_wp2
        go_roundw
        case rel => exact ⟨i + 1, by omega, by go_num, HN.out, hb⟩
        case measure => simp [intOf]; omega
    · obtain rfl : i = n := by omega
      have hnn : ¬ ((i : Int) < i) := by omega
      have HE : Hid (hasK z i k = false) := by
        show hasK z i k = false
        cases h : hasK z i k with
        | false => rfl
        | true =>
          obtain ⟨j, hj, e⟩ := (hasK_iff _ _ _).1 h
          exact absurd e (HK.out j hj)
      go_wp2
      go_ret
      exact ⟨by rw [HE.out]; rfl, hb⟩

set_option maxRecDepth 100000 in
set_option maxHeartbeats 6400000 in
theorem ropens_any (ad : Option Addr) (n cap : Nat) (X : Nat → Bv) (br : Int) (sa : Option Addr) (sn sc : Nat) (sz : Nat → Int) (ta : Option Addr) (tc : Nat) (T : List Nat) (ht ag : Int) (w : World) (hE : Env w ad n X sa sn sz ta T)
    (hn : n ≤ 1000000) (hX : ∀ i, i < n → (X i).n ≤ 1000000) (hsn : sn ≤ 1000000) (hTy : ∀ i, T.getD i 0 < 256) (hTl : T.length ≤ 140737488351232) :
    Calls Tryd.prog 13 #[.agg #[.slice ad n cap], .int .i64 br, .agg #[.slice sa sn sc, .slice ta T.length tc, .int .i64 ht, .int .i64 ag]] w fun e w' => e = .returned (.int .i64 (opnA X n br sz sn T ht ag)) ∧ Below w.heap.size w w' := by
  have hb0 : Below w.heap.size w ((w.alloc (.cells #[.slice ad n cap] 24)).alloc (.cells #[.slice sa sn sc, .slice ta T.length tc, .int .i64 ht, .int .i64 ag] 28)) := ((Below.refl _ w).alloc (Nat.le_refl _) _).alloc (by simp) _
  have hn0 : ((w.alloc (.cells #[.slice ad n cap] 24)).alloc (.cells #[.slice sa sn sc, .slice ta T.length tc, .int .i64 ht, .int .i64 ag] 28)).heap[w.heap.size]? = some (.cells #[.slice ad n cap] 24 (0, 0)) := by
    rw [Below.heap_alloc _ _ _ (by simp)]; exact heap_alloc_new w _
  have hn1 : ((w.alloc (.cells #[.slice ad n cap] 24)).alloc (.cells #[.slice sa sn sc, .slice ta T.length tc, .int .i64 ht, .int .i64 ag] 28)).heap[w.heap.size + 1]? = some (.cells (sn4 sa sn sc ta T.length tc ht ag) 28 (0, 0)) := by
    have := heap_alloc_new (w.alloc (.cells #[.slice ad n cap] 24)) (.cells #[.slice sa sn sc, .slice ta T.length tc, .int .i64 ht, .int .i64 ag] 28)
    simpa [sn4] using this
  have HW : Hid (Below w.heap.size w ((w.alloc (.cells #[.slice ad n cap] 24)).alloc (.cells #[.slice sa sn sc, .slice ta T.length tc, .int .i64 ht, .int .i64 ag] 28)) ∧ Env ((w.alloc (.cells #[.slice ad n cap] 24)).alloc (.cells #[.slice sa sn sc, .slice ta T.length tc, .int .i64 ht, .int .i64 ag] 28)) ad n X sa sn sz ta T) := ⟨hb0, hE.below hb0⟩
  have c0 : ((w.alloc (.cells #[.slice ad n cap] 24)).alloc (.cells #[.slice sa sn sc, .slice ta T.length tc, .int .i64 ht, .int .i64 ag] 28)).cell? ⟨w.heap.size, 0, none⟩ = some (.slice ad n cap) := by rw [cell_of_row _ _ 0 _ _ _ hn0]; rfl
  have HTy : Hid (∀ i, T.getD i 0 < 256) := hTy
  have HX : Hid (∀ i, i < n → (X i).n ≤ 1000000) := hX
  clear hb0 hE hTy hX
  go_enter Tryd.func13, Tryd.ntmps13
  go_wp2_with fail
  generalize (w.alloc (.cells #[.slice ad n cap] 24)).alloc (.cells #[.slice sa sn sc, .slice ta T.length tc, .int .i64 ht, .int .i64 ag] 28) = W0 at *
  refine (rcheck_any ad n cap X W0 HW.out.2.br hn HX.out).mono ?_
  rintro e w1 ⟨rfl, hb1⟩
  have HW1 : Hid (Below w.heap.size w w1 ∧ Env w1 ad n X sa sn sz ta T ∧ w1.heap[w.heap.size + 1]? = some (.cells (sn4 sa sn sc ta T.length tc ht ag) 28 (0, 0))) := ⟨Below.transS HW.out.1 hb1, HW.out.2.below hb1, by rw [hb1.block _ (lt_of_block hn1)]; exact hn1⟩
  have c1 : w1.cell? ⟨w.heap.size, 0, none⟩ = some (.slice ad n cap) := by rw [hb1.cell (p := ⟨w.heap.size, 0, none⟩) (World.block_lt_of_cell? W0 _ c0)]; exact c0
  clear hb1 hn0 hn1 HW c0
  by_cases hC : COk X n
  · have e0 : chkE X n = 0 := if_pos hC
    rw [e0]
    clear e0
    by_cases hbr : 0 ≤ br ∧ br < n
    · obtain ⟨i, rfl⟩ : ∃ i : Nat, br = (i : Int) := ⟨br.toNat, by omega⟩
      have hin : i < n := by omega
      have hin' : (i : Int) < n := by omega
      have HE0 : Hid (opnA X n i sz sn T ht ag = opnB (X i) sz sn T ht ag) := by show _ = _; unfold opnA; rw [if_pos hC, if_pos hbr, Int.toNat_natCast]
      clear hbr hC
      obtain ⟨bb, off, rfl, hrow⟩ := HW1.out.2.1.br.at_ (by omega)
      obtain ⟨ka, kc, hr, hk⟩ := hrow i hin
      have hxn := HX.out i hin
      have hOk := HW1.out.2.1.br.ok i hin
      have HR : Hid (w1.rangeAt bb (off + i * 35) (brl (X i) ka kc)) := hr
      have HK : Hid (IsAt w1 ka (X i).n (X i).z) := hk
      have HS1 : Hid (∀ w' : World, Frm [w1.heap.size] (w1.alloc (.cells (bv b0 none 0) 48)) w' → Below w1.heap.size w1 w') := fun w' h2 => ((Below.refl _ w1).alloc (Nat.le_refl _) _).trans (h2.below (by simp) (by simp))
      clear hrow hr hk
      generalize X i = x at *
      go_wp2_with (first | (refine wpList_load_mid rfl 48 _ rfl bb (off + i * 35) rfl (brl x ka kc) _ HR.out Tryd.underlying48 rfl (szRl _ _ _) ?_) | (refine wpList_allocR rfl rfl ?_) | (refine wpList_storeR _ szR rfl _ _ rfl w1.heap.size rfl x b0 ka none kc 0 48 rfl (heap_alloc_new w1 _) ?_; intro w2 hg2 hf2; have hb2 := HS1.out w2 hf2; clear hf2) | fail)
      have HW2 : Hid (Below w.heap.size w w2 ∧ Env w2 (some ⟨bb, off, none⟩) n X sa sn sz ta T ∧ w2.heap[w.heap.size + 1]? = some (.cells (sn4 sa sn sc ta T.length tc ht ag) 28 (0, 0)) ∧ w2.heap[w1.heap.size]? = some (.cells (bv x ka kc) 48 (0, 0)) ∧ IsAt w2 ka x.n x.z) := ⟨Below.transS HW1.out.1 hb2, HW1.out.2.1.below hb2, by rw [hb2.block _ (lt_of_block HW1.out.2.2)]; exact HW1.out.2.2, hg2, HK.out.below hb2⟩
      clear hb2 hg2 HW1 HK HR HS1 c1
      generalize w1.heap.size = g8 at *
      have hb00 := Below.refl w2.heap.size w2
      go_loopw [9] (fun iv wr => ∃ j : Nat, j ≤ x.n ∧ iv = .int .i64 j ∧ AllIn x.z j sz sn ∧ Below w2.heap.size w2 wr) (fun iv _ => x.n + 1 - (intOf iv).toNat)
      case atStart => exact ⟨0, by omega, rfl, fun j hj => by omega, hb00⟩
      case round =>
        clear hb00
        obtain ⟨j, hj, rfl, hA, hbw⟩ := hrel
        have HA : Hid (AllIn x.z j sz sn) := hA
        have HB : Hid (Below w2.heap.size w2 wr) := hbw
        have k5 : wr.heap[w.heap.size + 1]? = some (.cells (sn4 sa sn sc ta T.length tc ht ag) 28 (0, 0)) := by rw [hbw.block _ (lt_of_block HW2.out.2.2.1)]; exact HW2.out.2.2.1
        have k8 : wr.heap[g8]? = some (.cells (bv x ka kc) 48 (0, 0)) := by rw [hbw.block _ (lt_of_block HW2.out.2.2.2.1)]; exact HW2.out.2.2.2.1
        have c8 : wr.cell? ⟨g8, 0, none⟩ = some (.slice ka x.n kc) := (bbox_of k8).c0
        have HK5 : Hid (wr.heap[w.heap.size + 1]? = some (.cells (sn4 sa sn sc ta T.length tc ht ag) 28 (0, 0)) ∧ wr.heap[g8]? = some (.cells (bv x ka kc) 48 (0, 0))) := ⟨k5, k8⟩
        by_cases hlt : j < x.n
        · have hlt' : (j : Int) < x.n := by omega
          obtain ⟨kb, ko, rfl, hck⟩ := (HW2.out.2.2.2.2.below hbw) (by omega)
          have S10 : wr.drew.cell? ⟨w.heap.size + 1, 0, none⟩ = some (.slice sa sn sc) ∧ wr.drew.cell? ⟨g8, 0, none⟩ = some (.slice (some ⟨kb, ko, none⟩) x.n kc) ∧ wr.drew.cell? ⟨kb, ko + j, none⟩ = some (.int .i64 (x.z j)) := ⟨by rw [cell_of_row wr.drew _ 0 _ _ _ k5]; rfl, c8, hck j hlt⟩
          clear hck hA hbw k5 k8
          go_wp2_with fail
          refine wp_region_noPanic ?_
          refine wp_region_held_drew (S := fun w' => w'.cell? ⟨w.heap.size + 1, 0, none⟩ = some (.slice sa sn sc) ∧ w'.cell? ⟨g8, 0, none⟩ = some (.slice (some ⟨kb, ko, none⟩) x.n kc) ∧ w'.cell? ⟨kb, ko + j, none⟩ = some (.int .i64 (x.z j))) (by kernel_rfl) S10 (fun hHeld => ?_)
          refine wpAnyH_take (i := 0) (oi := { dst := some 36, op := Go.Op.fieldAddr 28 (Go.Operand.tmp 5) 0, type := 0, pos := "ref.go:77", after := #[], guard := none }) (v := ?_) rfl (by kernel_rfl) (by kernel_rfl) (by kernel_rfl) (fun _ _ _ h => h) (Or.inl ⟨by rfl, ?_⟩) (by assumption) ?_
          rotate_left
          · intro wz hSw; (try dsimp only at hSw); go_simp; (try with_reducible rfl)
          try simp only [Act.put, List.setIfInBounds_toArray, List.set_cons_zero, List.set_cons_succ]
          refine wpAnyH_take (i := 1) (oi := { dst := some 37, op := Go.Op.load 25 (Go.Operand.tmp 36), type := 25, pos := "ref.go:77", after := #[{ on := 0, ground := Go.Ground.data }], guard := none }) (v := .slice sa sn sc) rfl (by kernel_rfl) (by kernel_rfl) (by kernel_rfl) (fun _ _ _ h => h) (Or.inl ⟨by rfl, ?_⟩) (by assumption) ?_
          · intro wz hSw; (try dsimp only at hSw); have h1 := hSw.1; go_simp; try rfl
          try simp only [Act.put, List.setIfInBounds_toArray, List.set_cons_zero, List.set_cons_succ]
          refine wpAnyH_take (i := 2) (oi := { dst := some 38, op := Go.Op.fieldAddr 48 (Go.Operand.tmp 8) 0, type := 0, pos := "ref.go:77", after := #[], guard := none }) (v := ?_) rfl (by kernel_rfl) (by kernel_rfl) (by kernel_rfl) (fun _ _ _ h => h) (Or.inl ⟨by rfl, ?_⟩) (by assumption) ?_
          rotate_left
          · intro wz hSw; (try dsimp only at hSw); go_simp; (try with_reducible rfl)
          try simp only [Act.put, List.setIfInBounds_toArray, List.set_cons_zero, List.set_cons_succ]
          refine wpAnyH_take (i := 3) (oi := { dst := some 39, op := Go.Op.load 25 (Go.Operand.tmp 38), type := 25, pos := "ref.go:77", after := #[{ on := 2, ground := Go.Ground.data }], guard := none }) (v := .slice (some ⟨kb, ko, none⟩) x.n kc) rfl (by kernel_rfl) (by kernel_rfl) (by kernel_rfl) (fun _ _ _ h => h) (Or.inl ⟨by rfl, ?_⟩) (by assumption) ?_
          · intro wz hSw; (try dsimp only at hSw); have h1 := hSw.2.1; go_simp; try rfl
          try simp only [Act.put, List.setIfInBounds_toArray, List.set_cons_zero, List.set_cons_succ]
          refine wpAnyH_take (i := 4) (oi := { dst := some 40, op := Go.Op.move (Go.Operand.tmp 9), type := 3, pos := "ref.go:77", after := #[], guard := none }) (v := ?_) rfl (by kernel_rfl) (by kernel_rfl) (by kernel_rfl) (fun _ _ _ h => h) (Or.inl ⟨by rfl, ?_⟩) (by assumption) ?_
          rotate_left
          · intro wz hSw; (try dsimp only at hSw); go_simp; (try with_reducible rfl)
          try simp only [Act.put, List.setIfInBounds_toArray, List.set_cons_zero, List.set_cons_succ]
          refine wpAnyH_take (i := 5) (oi := { dst := some 41, op := Go.Op.indexAddr 25 (Go.Operand.tmp 39) (Go.Operand.tmp 40), type := 0, pos := "ref.go:77", after := #[{ on := 3, ground := Go.Ground.data }, { on := 4, ground := Go.Ground.data }], guard := none }) (v := ?_) rfl (by kernel_rfl) (by kernel_rfl) (by kernel_rfl) (fun _ _ _ h => h) (Or.inl ⟨by rfl, ?_⟩) (by assumption) ?_
          rotate_left
          · intro wz hSw; (try dsimp only at hSw); go_simp; (try with_reducible rfl)
          try simp only [Act.put, List.setIfInBounds_toArray, List.set_cons_zero, List.set_cons_succ]
          refine wpAnyH_take (i := 6) (oi := { dst := some 42, op := Go.Op.load 3 (Go.Operand.tmp 41), type := 3, pos := "ref.go:77", after := #[{ on := 5, ground := Go.Ground.data }], guard := none }) (v := .int .i64 (x.z j)) rfl (by kernel_rfl) (by kernel_rfl) (by kernel_rfl) (fun _ _ _ h => h) (Or.inl ⟨by rfl, ?_⟩) (by assumption) ?_
          · intro wz hSw; (try dsimp only at hSw); have h1 := hSw.2.2; go_simp; try rfl
          try simp only [Act.put, List.setIfInBounds_toArray, List.set_cons_zero, List.set_cons_succ]
          refine wpAnyH_ready (rs := [7]) (by kernel_rfl) (by simp) ?_
          refine (AllReadyH.cons (o := { dst := some 43, op := Go.Op.call { callee := Go.Callee.value (Go.Operand.func 26), args := #[Go.Operand.tmp 37, Go.Operand.tmp 42], argTypes := #[25, 3] }, type := 4, pos := "ref.go:77", after := #[{ on := 1, ground := Go.Ground.data }, { on := 6, ground := Go.Ground.data }], guard := none }) rfl (fun K hK => ?_) AllReadyH.nil)
          go_simp
          refine (rhas_any sa sn sc sz (x.z j) wr.drew ((HW2.out.2.1.si.below HB.out).below ((Below.refl _ wr).drew)) hsn).mono ?_
          rintro e w3 ⟨rfl, hb3⟩
          have S11 : w3.cell? ⟨w.heap.size + 1, 0, none⟩ = some (.slice sa sn sc) ∧ w3.cell? ⟨g8, 0, none⟩ = some (.slice (some ⟨kb, ko, none⟩) x.n kc) ∧ w3.cell? ⟨kb, ko + j, none⟩ = some (.int .i64 (x.z j)) := ⟨by rw [hb3.cell (World.block_lt_of_cell? wr.drew _ S10.1)]; exact S10.1, by rw [hb3.cell (World.block_lt_of_cell? wr.drew _ S10.2.1)]; exact S10.2.1, by rw [hb3.cell (World.block_lt_of_cell? wr.drew _ S10.2.2)]; exact S10.2.2⟩
          have HB3 : Hid (Below w2.heap.size w2 w3) := Below.transS HB.out.drew hb3
          clear hb3
          refine hK.out _ _ S11 (fun _ => ?_)
          clear hK K
          try simp only [Act.put, List.setIfInBounds_toArray, List.set_cons_zero, List.set_cons_succ]
          by_cases hh : hasK sz sn (x.z j) = true
          · rw [hh]
            have HN : Hid (AllIn x.z (j + 1) sz sn) := fun q hq => by
              by_cases e : q = j
              · subst e; exact hh
              · exact HA.out q (by omega)
            refine wpAnyH_take (i := 8) (oi := { dst := some 44, op := Go.Op.unOp Go.UnOp.not 4 (Go.Operand.tmp 43), type := 4, pos := "ref.go:77", after := #[{ on := 7, ground := Go.Ground.data }], guard := none }) (v := ?_) rfl (by kernel_rfl) (by kernel_rfl) (by kernel_rfl) (fun _ _ _ h => h) (Or.inl ⟨by rfl, ?_⟩) (by assumption) ?_
            rotate_left
            · intro wz hSw; (try dsimp only at hSw); go_simp; (try with_reducible rfl)
            try simp only [Act.put, List.setIfInBounds_toArray, List.set_cons_zero, List.set_cons_succ]
            refine wpAnyH_done (by kernel_rfl) (NoPanic.normal ?_) _
            try simp only [Act.put, List.setIfInBounds_toArray, List.set_cons_zero, List.set_cons_succ]
            clear hHeld S10 S11 c8
            go_wp2
            go_roundw
            case rel => exact ⟨j + 1, by omega, by go_num, HN.out, HB3.out⟩
            case measure => simp [intOf]; omega
          · have hh' : hasK sz sn (x.z j) = false := by simpa using hh
            rw [hh']
            have HE : Hid (opnA X n i sz sn T ht ag = 21) := by
              show _ = _
              rw [HE0.out]; unfold opnB
              rw [if_neg (fun h => hh (h j hlt))]
            have hbe : Below w.heap.size w w3 := Below.transS HW2.out.1 HB3.out
            refine wpAnyH_take (i := 8) (oi := { dst := some 44, op := Go.Op.unOp Go.UnOp.not 4 (Go.Operand.tmp 43), type := 4, pos := "ref.go:77", after := #[{ on := 7, ground := Go.Ground.data }], guard := none }) (v := ?_) rfl (by kernel_rfl) (by kernel_rfl) (by kernel_rfl) (fun _ _ _ h => h) (Or.inl ⟨by rfl, ?_⟩) (by assumption) ?_
            rotate_left
            · intro wz hSw; (try dsimp only at hSw); go_simp; (try with_reducible rfl)
            try simp only [Act.put, List.setIfInBounds_toArray, List.set_cons_zero, List.set_cons_succ]
            refine wpAnyH_done (by kernel_rfl) (NoPanic.normal ?_) _
            try simp only [Act.put, List.setIfInBounds_toArray, List.set_cons_zero, List.set_cons_succ]
            clear hHeld S10 S11 c8
            go_wp2
            go_ret
            exact ⟨by rw [HE.out]; rfl, hbe⟩
        · obtain rfl : j = x.n := by omega
          have hnn : ¬ ((x.n : Int) < x.n) := by omega
          have HE1 : Hid (opnA X n i sz sn T ht ag = if hq x.lk nz = true ∨ hq x.lk (sZ (sumF T)) = true then if ht < x.af ∨ ag < x.ol then 23 else 0 else 22) := by
            show _ = _
            rw [HE0.out]; unfold opnB; rw [if_pos HA.out]
          have hlk := hOk.lk
          have S12 : wr.drew.rangeAt g8 1 (bl x.lk 32) ∧ wr.drew.cell? ⟨w.heap.size + 1, 1, none⟩ = some (.slice ta T.length tc) := ⟨brl_lock x ka kc (w := wr.drew) k8, by rw [cell_of_row wr.drew _ 1 _ _ _ k5]; rfl⟩
          clear hA hbw k5 k8
          go_wp2_with fail
          refine wp_region_noPanic ?_
          refine wp_region_held_drew (S := fun w' => w'.rangeAt g8 1 (bl x.lk 32) ∧ w'.cell? ⟨w.heap.size + 1, 1, none⟩ = some (.slice ta T.length tc)) (by kernel_rfl) S12 (fun hHeld => ?_)
          refine wpAnyH_take (i := 0) (oi := { dst := some 45, op := Go.Op.fieldAddr 48 (Go.Operand.tmp 8) 1, type := 0, pos := "ref.go:81", after := #[], guard := none }) (v := ?_) rfl (by kernel_rfl) (by kernel_rfl) (by kernel_rfl) (fun _ _ _ h => h) (Or.inl ⟨by rfl, ?_⟩) (by assumption) ?_
          rotate_left
          · intro wz hSw; (try dsimp only at hSw); go_simp; (try with_reducible rfl)
          try simp only [Act.put, List.setIfInBounds_toArray, List.set_cons_zero, List.set_cons_succ]
          refine wpAnyH_take (i := 1) (oi := { dst := some 46, op := Go.Op.load 44 (Go.Operand.tmp 45), type := 44, pos := "ref.go:81", after := #[{ on := 0, ground := Go.Ground.data }], guard := none }) rfl (by kernel_rfl) (by kernel_rfl) (by kernel_rfl) (fun _ _ _ h => h) (yieldsIf_load_mid (by rfl) _ _ rfl g8 1 rfl (bl x.lk 32) _ (fun _ h => h.1) Tryd.underlying44 rfl (szHl _)) (by assumption) ?_
          try simp only [Act.put, List.setIfInBounds_toArray, List.set_cons_zero, List.set_cons_succ]
          refine wpAnyH_take (i := 2) (oi := { dst := some 47, op := Go.Op.build 44 #[], type := 44, pos := "ref.go:81", after := #[], guard := none }) (v := .agg (hv nz)) rfl (by kernel_rfl) (by kernel_rfl) (by kernel_rfl) (fun _ _ _ h => h) (Or.inl ⟨by rfl, ?_⟩) (by assumption) ?_
          · intro wz hSw; (try dsimp only at hSw); kernel_rfl
          try simp only [Act.put, List.setIfInBounds_toArray, List.set_cons_zero, List.set_cons_succ]
          by_cases hz : hq x.lk nz = true
          · have HE2 : Hid (opnA X n i sz sn T ht ag = if ht < x.af ∨ ag < x.ol then 23 else 0) := by show _ = _; rw [HE1.out, if_pos (Or.inl hz)]
            refine wpAnyH_take (i := 3) (oi := { dst := some 48, op := Go.Op.binOp Go.BinOp.neq 44 (Go.Operand.tmp 46) (Go.Operand.tmp 47) 44, type := 4, pos := "ref.go:81", after := #[{ on := 1, ground := Go.Ground.data }, { on := 2, ground := Go.Ground.data }], guard := none }) (v := .bool false) rfl (by kernel_rfl) (by kernel_rfl) (by kernel_rfl) (fun _ _ _ h => h) (Or.inl ⟨by rfl, ?_⟩) (by assumption) ?_
            · intro wz hSw; (try dsimp only at hSw); exact exec_neV _ _ rfl hlk nz_bd rfl rfl (by rw [hz]; rfl) wz
            try simp only [Act.put, List.setIfInBounds_toArray, List.set_cons_zero, List.set_cons_succ]
            refine wpAnyH_take (i := 4) (oi := { dst := some 49, op := Go.Op.move (Go.Operand.tmp 48), type := 4, pos := "ref.go:81", after := #[{ on := 3, ground := Go.Ground.data }], guard := none }) (v := ?_) rfl (by kernel_rfl) (by kernel_rfl) (by kernel_rfl) (fun _ _ _ h => h) (Or.inl ⟨by rfl, ?_⟩) (by assumption) ?_
            rotate_left
            · intro wz hSw; (try dsimp only at hSw); go_simp; (try with_reducible rfl)
            try simp only [Act.put, List.setIfInBounds_toArray, List.set_cons_zero, List.set_cons_succ]
            refine wpAnyH_take (i := 5) (oi := { dst := some 50, op := Go.Op.fieldAddr 28 (Go.Operand.tmp 5) 1, type := 0, pos := "ref.go:81", after := #[{ on := 4, ground := Go.Ground.guard }], guard := some (4, true) }) (v := undef) rfl (by kernel_rfl) (by kernel_rfl) (by kernel_rfl) (fun _ _ _ h => h) (Or.inr ⟨by rfl, rfl⟩) (by assumption) ?_
            try simp only [Act.put, List.setIfInBounds_toArray, List.set_cons_zero, List.set_cons_succ]
            refine wpAnyH_take (i := 6) (oi := { dst := some 51, op := Go.Op.load 26 (Go.Operand.tmp 50), type := 26, pos := "ref.go:81", after := #[{ on := 5, ground := Go.Ground.data }, { on := 4, ground := Go.Ground.guard }], guard := some (4, true) }) (v := undef) rfl (by kernel_rfl) (by kernel_rfl) (by kernel_rfl) (fun _ _ _ h => h) (Or.inr ⟨by rfl, rfl⟩) (by assumption) ?_
            try simp only [Act.put, List.setIfInBounds_toArray, List.set_cons_zero, List.set_cons_succ]
            refine wpAnyH_take (i := 7) (oi := { dst := some 52, op := Go.Op.call { callee := Go.Callee.value (Go.Operand.func 15), args := #[Go.Operand.tmp 51], argTypes := #[26] }, type := 44, pos := "ref.go:81", after := #[{ on := 6, ground := Go.Ground.data }, { on := 4, ground := Go.Ground.chain }, { on := 4, ground := Go.Ground.guard }], guard := some (4, true) }) (v := undef) rfl (by kernel_rfl) (by kernel_rfl) (by kernel_rfl) (fun _ _ _ h => h) (Or.inr ⟨by rfl, rfl⟩) (by assumption) ?_
            try simp only [Act.put, List.setIfInBounds_toArray, List.set_cons_zero, List.set_cons_succ]
            refine wpAnyH_take (i := 8) (oi := { dst := some 53, op := Go.Op.fieldAddr 48 (Go.Operand.tmp 8) 1, type := 0, pos := "ref.go:81", after := #[{ on := 4, ground := Go.Ground.guard }], guard := some (4, true) }) (v := undef) rfl (by kernel_rfl) (by kernel_rfl) (by kernel_rfl) (fun _ _ _ h => h) (Or.inr ⟨by rfl, rfl⟩) (by assumption) ?_
            try simp only [Act.put, List.setIfInBounds_toArray, List.set_cons_zero, List.set_cons_succ]
            refine wpAnyH_take (i := 9) (oi := { dst := some 54, op := Go.Op.load 44 (Go.Operand.tmp 53), type := 44, pos := "ref.go:81", after := #[{ on := 8, ground := Go.Ground.data }, { on := 4, ground := Go.Ground.guard }], guard := some (4, true) }) (v := undef) rfl (by kernel_rfl) (by kernel_rfl) (by kernel_rfl) (fun _ _ _ h => h) (Or.inr ⟨by rfl, rfl⟩) (by assumption) ?_
            try simp only [Act.put, List.setIfInBounds_toArray, List.set_cons_zero, List.set_cons_succ]
            refine wpAnyH_take (i := 10) (oi := { dst := some 55, op := Go.Op.binOp Go.BinOp.neq 44 (Go.Operand.tmp 52) (Go.Operand.tmp 54) 44, type := 4, pos := "ref.go:81", after := #[{ on := 7, ground := Go.Ground.data }, { on := 9, ground := Go.Ground.data }, { on := 4, ground := Go.Ground.guard }], guard := some (4, true) }) (v := undef) rfl (by kernel_rfl) (by kernel_rfl) (by kernel_rfl) (fun _ _ _ h => h) (Or.inr ⟨by rfl, rfl⟩) (by assumption) ?_
            try simp only [Act.put, List.setIfInBounds_toArray, List.set_cons_zero, List.set_cons_succ]
            refine wpAnyH_take (i := 11) (oi := { dst := some 56, op := Go.Op.pick (Go.Operand.tmp 49) (Go.Operand.tmp 55) (Go.Operand.const (Go.Value.bool false)), type := 4, pos := "ref.go:81", after := #[{ on := 4, ground := Go.Ground.data }, { on := 10, ground := Go.Ground.data }], guard := none }) (v := ?_) rfl (by kernel_rfl) (by kernel_rfl) (by kernel_rfl) (fun _ _ _ h => h) (Or.inl ⟨by rfl, ?_⟩) (by assumption) ?_
            rotate_left
            · intro wz hSw; (try dsimp only at hSw); go_simp; (try with_reducible rfl)
            try simp only [Act.put, List.setIfInBounds_toArray, List.set_cons_zero, List.set_cons_succ]
            refine wpAnyH_done (by kernel_rfl) (NoPanic.normal ?_) _
            try simp only [Act.put, List.setIfInBounds_toArray, List.set_cons_zero, List.set_cons_succ]
            clear hHeld
            have HBe : Hid (Below w.heap.size w wr.drew) := (Below.transS HW2.out.1 HB.out).drew
            have d1 : wr.drew.cell? ⟨g8, 33, none⟩ = some (.int .i64 x.af) := (bbox_of (w := wr.drew) HK5.out.2).c33
            have d2 : wr.drew.cell? ⟨g8, 34, none⟩ = some (.int .i64 x.ol) := (bbox_of (w := wr.drew) HK5.out.2).c34
            have d3 : wr.drew.cell? ⟨w.heap.size + 1, 2, none⟩ = some (.int .i64 ht) := by rw [cell_of_row wr.drew _ 2 _ _ _ HK5.out.1]; rfl
            have d4 : wr.drew.cell? ⟨w.heap.size + 1, 3, none⟩ = some (.int .i64 ag) := by rw [cell_of_row wr.drew _ 3 _ _ _ HK5.out.1]; rfl
            generalize wr.drew = we at *
            by_cases q1 : ht < x.af
            · have HE3 : Hid (opnA X n i sz sn T ht ag = 23) := by show _ = _; rw [HE2.out, if_pos (Or.inl q1)]
              go_wp2
              go_ret
              exact ⟨by rw [HE3.out]; rfl, HBe.out⟩
            · by_cases q2 : ag < x.ol
              · have HE3 : Hid (opnA X n i sz sn T ht ag = 23) := by show _ = _; rw [HE2.out, if_pos (Or.inr q2)]
                go_wp2
                go_ret
                exact ⟨by rw [HE3.out]; rfl, HBe.out⟩
              · have HE3 : Hid (opnA X n i sz sn T ht ag = 0) := by show _ = _; rw [HE2.out, if_neg (by rintro (h | h); exact q1 h; exact q2 h)]
                go_wp2
                go_ret
                exact ⟨by rw [HE3.out]; rfl, HBe.out⟩
          · have hz' : hq x.lk nz = false := by simpa using hz
            refine wpAnyH_take (i := 3) (oi := { dst := some 48, op := Go.Op.binOp Go.BinOp.neq 44 (Go.Operand.tmp 46) (Go.Operand.tmp 47) 44, type := 4, pos := "ref.go:81", after := #[{ on := 1, ground := Go.Ground.data }, { on := 2, ground := Go.Ground.data }], guard := none }) (v := .bool true) rfl (by kernel_rfl) (by kernel_rfl) (by kernel_rfl) (fun _ _ _ h => h) (Or.inl ⟨by rfl, ?_⟩) (by assumption) ?_
            · intro wz hSw; (try dsimp only at hSw); exact exec_neV _ _ rfl hlk nz_bd rfl rfl (by rw [hz']; rfl) wz
            try simp only [Act.put, List.setIfInBounds_toArray, List.set_cons_zero, List.set_cons_succ]
            refine wpAnyH_take (i := 4) (oi := { dst := some 49, op := Go.Op.move (Go.Operand.tmp 48), type := 4, pos := "ref.go:81", after := #[{ on := 3, ground := Go.Ground.data }], guard := none }) (v := ?_) rfl (by kernel_rfl) (by kernel_rfl) (by kernel_rfl) (fun _ _ _ h => h) (Or.inl ⟨by rfl, ?_⟩) (by assumption) ?_
            rotate_left
            · intro wz hSw; (try dsimp only at hSw); go_simp; (try with_reducible rfl)
            try simp only [Act.put, List.setIfInBounds_toArray, List.set_cons_zero, List.set_cons_succ]
            refine wpAnyH_take (i := 5) (oi := { dst := some 50, op := Go.Op.fieldAddr 28 (Go.Operand.tmp 5) 1, type := 0, pos := "ref.go:81", after := #[{ on := 4, ground := Go.Ground.guard }], guard := some (4, true) }) (v := ?_) rfl (by kernel_rfl) (by kernel_rfl) (by kernel_rfl) (fun _ _ _ h => h) (Or.inl ⟨by rfl, ?_⟩) (by assumption) ?_
            rotate_left
            · intro wz hSw; (try dsimp only at hSw); go_simp; (try with_reducible rfl)
            try simp only [Act.put, List.setIfInBounds_toArray, List.set_cons_zero, List.set_cons_succ]
            refine wpAnyH_take (i := 6) (oi := { dst := some 51, op := Go.Op.load 26 (Go.Operand.tmp 50), type := 26, pos := "ref.go:81", after := #[{ on := 5, ground := Go.Ground.data }, { on := 4, ground := Go.Ground.guard }], guard := some (4, true) }) (v := .slice ta T.length tc) rfl (by kernel_rfl) (by kernel_rfl) (by kernel_rfl) (fun _ _ _ h => h) (Or.inl ⟨by rfl, ?_⟩) (by assumption) ?_
            · intro wz hSw; (try dsimp only at hSw); have h1 := hSw.2; go_simp; try rfl
            try simp only [Act.put, List.setIfInBounds_toArray, List.set_cons_zero, List.set_cons_succ]
            refine wpAnyH_take (i := 8) (oi := { dst := some 53, op := Go.Op.fieldAddr 48 (Go.Operand.tmp 8) 1, type := 0, pos := "ref.go:81", after := #[{ on := 4, ground := Go.Ground.guard }], guard := some (4, true) }) (v := ?_) rfl (by kernel_rfl) (by kernel_rfl) (by kernel_rfl) (fun _ _ _ h => h) (Or.inl ⟨by rfl, ?_⟩) (by assumption) ?_
            rotate_left
            · intro wz hSw; (try dsimp only at hSw); go_simp; (try with_reducible rfl)
            try simp only [Act.put, List.setIfInBounds_toArray, List.set_cons_zero, List.set_cons_succ]
            refine wpAnyH_take (i := 9) (oi := { dst := some 54, op := Go.Op.load 44 (Go.Operand.tmp 53), type := 44, pos := "ref.go:81", after := #[{ on := 8, ground := Go.Ground.data }, { on := 4, ground := Go.Ground.guard }], guard := some (4, true) }) rfl (by kernel_rfl) (by kernel_rfl) (by kernel_rfl) (fun _ _ _ h => h) (yieldsIf_load_mid (by rfl) _ _ rfl g8 1 rfl (bl x.lk 32) _ (fun _ h => h.1) Tryd.underlying44 rfl (szHl _)) (by assumption) ?_
            try simp only [Act.put, List.setIfInBounds_toArray, List.set_cons_zero, List.set_cons_succ]
            refine wpAnyH_ready (rs := [7]) (by kernel_rfl) (by simp) ?_
            refine (AllReadyH.cons (o := { dst := some 52, op := Go.Op.call { callee := Go.Callee.value (Go.Operand.func 15), args := #[Go.Operand.tmp 51], argTypes := #[26] }, type := 44, pos := "ref.go:81", after := #[{ on := 6, ground := Go.Ground.data }, { on := 4, ground := Go.Ground.chain }, { on := 4, ground := Go.Ground.guard }], guard := some (4, true) }) rfl (fun K hK => ?_) AllReadyH.nil)
            go_simp
            have hEd : Env wr.drew (some ⟨bb, off, none⟩) n X sa sn sz ta T := (HW2.out.2.1.below HB.out).below ((Below.refl _ wr).drew)
            have hta : ta = none → T.length = 0 := fun e => by
              rcases Nat.eq_zero_or_pos T.length with h0 | h0
              · exact h0
              · obtain ⟨g, o, e2, _⟩ := hEd.se h0
                rw [e] at e2; cases e2
            refine (rsum_any ta tc T wr.drew hEd.se hta HTy.out hTl).mono ?_
            rintro e w4 ⟨rfl, hb4⟩
            rw [sv_sum T]
            have S13 : w4.rangeAt g8 1 (bl x.lk 32) ∧ w4.cell? ⟨w.heap.size + 1, 1, none⟩ = some (.slice ta T.length tc) := ⟨range_below S12.1 hb4, by rw [hb4.cell (World.block_lt_of_cell? wr.drew _ S12.2)]; exact S12.2⟩
            have HB4 : Hid (Below w.heap.size w w4) := Below.transS (Below.transS HW2.out.1 HB.out).drew hb4
            have k5' : w4.heap[w.heap.size + 1]? = some (.cells (sn4 sa sn sc ta T.length tc ht ag) 28 (0, 0)) := by rw [hb4.block _ (lt_of_block (w := wr.drew) HK5.out.1)]; exact HK5.out.1
            have k8' : w4.heap[g8]? = some (.cells (bv x ka kc) 48 (0, 0)) := by rw [hb4.block _ (lt_of_block (w := wr.drew) HK5.out.2)]; exact HK5.out.2
            clear hb4 hEd hta
            refine hK.out _ _ S13 (fun _ => ?_)
            clear hK K
            try simp only [Act.put, List.setIfInBounds_toArray, List.set_cons_zero, List.set_cons_succ]
            by_cases hy : hq x.lk (sZ (sumF T)) = true
            · have HE2 : Hid (opnA X n i sz sn T ht ag = if ht < x.af ∨ ag < x.ol then 23 else 0) := by show _ = _; rw [HE1.out, if_pos (Or.inr hy)]
              refine wpAnyH_take (i := 10) (oi := { dst := some 55, op := Go.Op.binOp Go.BinOp.neq 44 (Go.Operand.tmp 52) (Go.Operand.tmp 54) 44, type := 4, pos := "ref.go:81", after := #[{ on := 7, ground := Go.Ground.data }, { on := 9, ground := Go.Ground.data }, { on := 4, ground := Go.Ground.guard }], guard := some (4, true) }) (v := .bool false) rfl (by kernel_rfl) (by kernel_rfl) (by kernel_rfl) (fun _ _ _ h => h) (Or.inl ⟨by rfl, ?_⟩) (by assumption) ?_
              · intro wz hSw; (try dsimp only at hSw); exact exec_neV _ _ rfl (sZ_bd T) hlk rfl rfl (by rw [hq_comm, hy]; rfl) wz
              try simp only [Act.put, List.setIfInBounds_toArray, List.set_cons_zero, List.set_cons_succ]
              refine wpAnyH_take (i := 11) (oi := { dst := some 56, op := Go.Op.pick (Go.Operand.tmp 49) (Go.Operand.tmp 55) (Go.Operand.const (Go.Value.bool false)), type := 4, pos := "ref.go:81", after := #[{ on := 4, ground := Go.Ground.data }, { on := 10, ground := Go.Ground.data }], guard := none }) (v := ?_) rfl (by kernel_rfl) (by kernel_rfl) (by kernel_rfl) (fun _ _ _ h => h) (Or.inl ⟨by rfl, ?_⟩) (by assumption) ?_
              rotate_left
              · intro wz hSw; (try dsimp only at hSw); go_simp; (try with_reducible rfl)
              try simp only [Act.put, List.setIfInBounds_toArray, List.set_cons_zero, List.set_cons_succ]
              refine wpAnyH_done (by kernel_rfl) (NoPanic.normal ?_) _
              try simp only [Act.put, List.setIfInBounds_toArray, List.set_cons_zero, List.set_cons_succ]
              clear hHeld
              have d1 : w4.cell? ⟨g8, 33, none⟩ = some (.int .i64 x.af) := (bbox_of k8').c33
              have d2 : w4.cell? ⟨g8, 34, none⟩ = some (.int .i64 x.ol) := (bbox_of k8').c34
              have d3 : w4.cell? ⟨w.heap.size + 1, 2, none⟩ = some (.int .i64 ht) := by rw [cell_of_row w4 _ 2 _ _ _ k5']; rfl
              have d4 : w4.cell? ⟨w.heap.size + 1, 3, none⟩ = some (.int .i64 ag) := by rw [cell_of_row w4 _ 3 _ _ _ k5']; rfl
              clear k5' k8' S12 S13
              by_cases q1 : ht < x.af
              · have HE3 : Hid (opnA X n i sz sn T ht ag = 23) := by show _ = _; rw [HE2.out, if_pos (Or.inl q1)]
                go_wp2
                go_ret
                exact ⟨by rw [HE3.out]; rfl, HB4.out⟩
              · by_cases q2 : ag < x.ol
                · have HE3 : Hid (opnA X n i sz sn T ht ag = 23) := by show _ = _; rw [HE2.out, if_pos (Or.inr q2)]
                  go_wp2
                  go_ret
                  exact ⟨by rw [HE3.out]; rfl, HB4.out⟩
                · have HE3 : Hid (opnA X n i sz sn T ht ag = 0) := by show _ = _; rw [HE2.out, if_neg (by rintro (h | h); exact q1 h; exact q2 h)]
                  go_wp2
                  go_ret
                  exact ⟨by rw [HE3.out]; rfl, HB4.out⟩
            · have hy' : hq x.lk (sZ (sumF T)) = false := by simpa using hy
              have HE2 : Hid (opnA X n i sz sn T ht ag = 22) := by show _ = _; rw [HE1.out, if_neg (by rintro (h | h); exact hz h; exact hy h)]
              refine wpAnyH_take (i := 10) (oi := { dst := some 55, op := Go.Op.binOp Go.BinOp.neq 44 (Go.Operand.tmp 52) (Go.Operand.tmp 54) 44, type := 4, pos := "ref.go:81", after := #[{ on := 7, ground := Go.Ground.data }, { on := 9, ground := Go.Ground.data }, { on := 4, ground := Go.Ground.guard }], guard := some (4, true) }) (v := .bool true) rfl (by kernel_rfl) (by kernel_rfl) (by kernel_rfl) (fun _ _ _ h => h) (Or.inl ⟨by rfl, ?_⟩) (by assumption) ?_
              · intro wz hSw; (try dsimp only at hSw); exact exec_neV _ _ rfl (sZ_bd T) hlk rfl rfl (by rw [hq_comm, hy']; rfl) wz
              try simp only [Act.put, List.setIfInBounds_toArray, List.set_cons_zero, List.set_cons_succ]
              refine wpAnyH_take (i := 11) (oi := { dst := some 56, op := Go.Op.pick (Go.Operand.tmp 49) (Go.Operand.tmp 55) (Go.Operand.const (Go.Value.bool false)), type := 4, pos := "ref.go:81", after := #[{ on := 4, ground := Go.Ground.data }, { on := 10, ground := Go.Ground.data }], guard := none }) (v := ?_) rfl (by kernel_rfl) (by kernel_rfl) (by kernel_rfl) (fun _ _ _ h => h) (Or.inl ⟨by rfl, ?_⟩) (by assumption) ?_
              rotate_left
              · intro wz hSw; (try dsimp only at hSw); go_simp; (try with_reducible rfl)
              try simp only [Act.put, List.setIfInBounds_toArray, List.set_cons_zero, List.set_cons_succ]
              refine wpAnyH_done (by kernel_rfl) (NoPanic.normal ?_) _
              try simp only [Act.put, List.setIfInBounds_toArray, List.set_cons_zero, List.set_cons_succ]
              clear hHeld k5' k8' S12 S13
              go_wp2
              go_ret
              exact ⟨by rw [HE2.out]; rfl, HB4.out⟩
    · have HE : Hid (opnA X n br sz sn T ht ag = 4) := by show _ = _; unfold opnA; rw [if_pos hC, if_neg hbr]
      have hbe := HW1.out.1
      by_cases h0 : br < 0
      · clear hC hbr
        go_wp2
        go_ret
        exact ⟨by rw [HE.out]; rfl, hbe⟩
      · have h1 : (n : Int) ≤ br := by omega
        clear hC hbr
        go_wp2
        go_ret
        exact ⟨by rw [HE.out]; rfl, hbe⟩
  · have e0 : chkE X n = 1 := if_neg hC
    have HE : Hid (opnA X n br sz sn T ht ag = 1) := by show _ = _; unfold opnA; rw [if_neg hC]
    rw [e0]
    have hbe := HW1.out.1
    clear e0 hC
    go_wp2
    go_ret
    exact ⟨by rw [HE.out]; rfl, hbe⟩
end Go.Proofs.YtecahnafcljljaaDoor
