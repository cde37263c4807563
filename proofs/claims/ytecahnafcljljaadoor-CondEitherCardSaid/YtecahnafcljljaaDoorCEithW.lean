/- CondEither: the walk. -/
import Derived.Test.YtecahnafcljljaaDoorCEithK
namespace Go.Proofs.YtecahnafcljljaaDoor
open Go.RowKit Go.Shelf Go.Sort

set_option maxRecDepth 100000 in
set_option maxHeartbeats 12800000 in
theorem either_any (ad : Option Addr) (n cap : Nat) (X : Nat → Bv) (bd : Option Addr) (m dap : Nat) (Y : Nat → Bv) (br : Int) (sa : Option Addr) (sn sc : Nat) (sz : Nat → Int) (ta : Option Addr) (tc : Nat) (T : List Nat) (ht ag : Int) (w : World) (hE : Env w ad n X sa sn sz ta T) (hD : BrAt w bd m Y)
    (hn : n ≤ 140737488355328) (hx : ∀ i, i < n → (X i).n ≤ 140737488355328) (hm : m ≤ 140737488355328) (hy : ∀ i, i < m → (Y i).n ≤ 140737488355328) (hsn : sn ≤ 140737488355328) (hTy : ∀ i, T.getD i 0 < 256) (hTc : T.length ≤ tc) (hTl : T.length ≤ 140737488355328) :
    Calls Tryd.prog 5 #[.agg #[.slice ad n cap], .agg #[.slice bd m dap], .agg #[.int .i64 br, .slice sa sn sc, .slice ta T.length tc, .int .i64 ht, .int .i64 ag]] w fun e w' => e = .returned (.bool true) ∧ Below w.heap.size w w' := by
  have hb0 : Below w.heap.size w (((w.alloc (.cells #[.slice ad n cap] 24)).alloc (.cells #[.slice bd m dap] 24)).alloc (.cells #[.int .i64 br, .slice sa sn sc, .slice ta T.length tc, .int .i64 ht, .int .i64 ag] 50)) := (((Below.refl _ w).alloc (Nat.le_refl _) _).alloc (by simp) _).alloc (by simp; omega) _
  have hn3 : (((w.alloc (.cells #[.slice ad n cap] 24)).alloc (.cells #[.slice bd m dap] 24)).alloc (.cells #[.int .i64 br, .slice sa sn sc, .slice ta T.length tc, .int .i64 ht, .int .i64 ag] 50)).heap[w.heap.size]? = some (.cells #[.slice ad n cap] 24 (0, 0)) := by
    rw [Below.heap_alloc _ _ _ (by simp; omega), Below.heap_alloc _ _ _ (by simp)]; exact heap_alloc_new w _
  have hn4 : (((w.alloc (.cells #[.slice ad n cap] 24)).alloc (.cells #[.slice bd m dap] 24)).alloc (.cells #[.int .i64 br, .slice sa sn sc, .slice ta T.length tc, .int .i64 ht, .int .i64 ag] 50)).heap[w.heap.size + 1]? = some (.cells #[.slice bd m dap] 24 (0, 0)) := by
    rw [Below.heap_alloc _ _ _ (by simp)]
    have := heap_alloc_new (w.alloc (.cells #[.slice ad n cap] 24)) (.cells #[.slice bd m dap] 24)
    simpa using this
  have hn5 : (((w.alloc (.cells #[.slice ad n cap] 24)).alloc (.cells #[.slice bd m dap] 24)).alloc (.cells #[.int .i64 br, .slice sa sn sc, .slice ta T.length tc, .int .i64 ht, .int .i64 ag] 50)).heap[w.heap.size + 1 + 1]? = some (.cells #[.int .i64 br, .slice sa sn sc, .slice ta T.length tc, .int .i64 ht, .int .i64 ag] 50 (0, 0)) := by
    have := heap_alloc_new ((w.alloc (.cells #[.slice ad n cap] 24)).alloc (.cells #[.slice bd m dap] 24)) (.cells #[.int .i64 br, .slice sa sn sc, .slice ta T.length tc, .int .i64 ht, .int .i64 ag] 50)
    simpa using this
  have HW : Hid (Below w.heap.size w (((w.alloc (.cells #[.slice ad n cap] 24)).alloc (.cells #[.slice bd m dap] 24)).alloc (.cells #[.int .i64 br, .slice sa sn sc, .slice ta T.length tc, .int .i64 ht, .int .i64 ag] 50)) ∧ Env (((w.alloc (.cells #[.slice ad n cap] 24)).alloc (.cells #[.slice bd m dap] 24)).alloc (.cells #[.int .i64 br, .slice sa sn sc, .slice ta T.length tc, .int .i64 ht, .int .i64 ag] 50)) ad n X sa sn sz ta T ∧ BrAt (((w.alloc (.cells #[.slice ad n cap] 24)).alloc (.cells #[.slice bd m dap] 24)).alloc (.cells #[.int .i64 br, .slice sa sn sc, .slice ta T.length tc, .int .i64 ht, .int .i64 ag] 50)) bd m Y) := ⟨hb0, hE.below hb0, hD.below hb0⟩
  have c0 : (((w.alloc (.cells #[.slice ad n cap] 24)).alloc (.cells #[.slice bd m dap] 24)).alloc (.cells #[.int .i64 br, .slice sa sn sc, .slice ta T.length tc, .int .i64 ht, .int .i64 ag] 50)).cell? ⟨w.heap.size, 0, none⟩ = some (.slice ad n cap) := by rw [cell_of_row _ _ 0 _ _ _ hn3]; rfl
  have HTy : Hid (∀ i, T.getD i 0 < 256) := hTy
  clear hb0 hE hD hTy
  go_enter Tryd.func5, Tryd.ntmps5
  go_wp2_with fail
  generalize (((w.alloc (.cells #[.slice ad n cap] 24)).alloc (.cells #[.slice bd m dap] 24)).alloc (.cells #[.int .i64 br, .slice sa sn sc, .slice ta T.length tc, .int .i64 ht, .int .i64 ag] 50)) = W0 at *
  refine (long_any ad n cap X W0 HW.out.2.1.br hn hx).mono ?_
  rintro e w1 ⟨rfl, hb1⟩
  have HN1 : Hid (w1.heap[w.heap.size]? = some (.cells #[.slice ad n cap] 24 (0, 0)) ∧ w1.heap[w.heap.size + 1]? = some (.cells #[.slice bd m dap] 24 (0, 0)) ∧ w1.heap[w.heap.size + 1 + 1]? = some (.cells #[.int .i64 br, .slice sa sn sc, .slice ta T.length tc, .int .i64 ht, .int .i64 ag] 50 (0, 0))) := ⟨by rw [hb1.block _ (lt_of_block hn3)]; exact hn3, by rw [hb1.block _ (lt_of_block hn4)]; exact hn4, by rw [hb1.block _ (lt_of_block hn5)]; exact hn5⟩
  have HW1 : Hid (Below w.heap.size w w1 ∧ Env w1 ad n X sa sn sz ta T ∧ BrAt w1 bd m Y) := ⟨Below.transS HW.out.1 hb1, HW.out.2.1.below hb1, HW.out.2.2.below hb1⟩
  clear hb1 hn3 hn4 hn5 HW c0
  by_cases hq1 : lng X n = true
  · rw [hq1]
    go_wp2_with fail
    refine (sure_any w1 HW1.out.2.1.glob).mono ?_
    rintro e w2 ⟨rfl, hb2⟩
    have hbe := Below.transS HW1.out.1 hb2
    clear hb2
    go_wp2
    go_ret
    exact ⟨rfl, hbe⟩
  have q1 : lng X n = false := by simpa using hq1
  have c4 : w1.cell? ⟨w.heap.size + 1, 0, none⟩ = some (.slice bd m dap) := by rw [cell_of_row _ _ 0 _ _ _ HN1.out.2.1]; rfl
  rw [q1]
  go_wp2_with fail
  refine (long_any bd m dap Y w1 HW1.out.2.2 hm hy).mono ?_
  rintro e w2 ⟨rfl, hb2⟩
  have HN2 : Hid (w2.heap[w.heap.size]? = some (.cells #[.slice ad n cap] 24 (0, 0)) ∧ w2.heap[w.heap.size + 1]? = some (.cells #[.slice bd m dap] 24 (0, 0)) ∧ w2.heap[w.heap.size + 1 + 1]? = some (.cells #[.int .i64 br, .slice sa sn sc, .slice ta T.length tc, .int .i64 ht, .int .i64 ag] 50 (0, 0))) := ⟨by rw [hb2.block _ (lt_of_block HN1.out.1)]; exact HN1.out.1, by rw [hb2.block _ (lt_of_block HN1.out.2.1)]; exact HN1.out.2.1, by rw [hb2.block _ (lt_of_block HN1.out.2.2)]; exact HN1.out.2.2⟩
  have HW2 : Hid (Below w.heap.size w w2 ∧ Env w2 ad n X sa sn sz ta T ∧ BrAt w2 bd m Y) := ⟨Below.transS HW1.out.1 hb2, HW1.out.2.1.below hb2, HW1.out.2.2.below hb2⟩
  clear hb2 HN1 HW1 c4
  by_cases hq2 : lng Y m = true
  · rw [hq2]
    go_wp2_with fail
    refine (sure_any w2 HW2.out.2.1.glob).mono ?_
    rintro e w3 ⟨rfl, hb3⟩
    have hbe := Below.transS HW2.out.1 hb3
    clear hb3
    go_wp2
    go_ret
    exact ⟨rfl, hbe⟩
  have q2 : lng Y m = false := by simpa using hq2
  have c5 : w2.cell? ⟨w.heap.size + 1 + 1, 1, none⟩ = some (.slice sa sn sc) := by rw [cell_of_row _ _ 1 _ _ _ HN2.out.2.2]; rfl
  rw [q2]
  by_cases hq3 : 100 < sn
  · have q3 : (100 : Int) < sn := by omega
    go_wp2_with fail
    refine (sure_any w2 HW2.out.2.1.glob).mono ?_
    rintro e w3 ⟨rfl, hb3⟩
    have hbe := Below.transS HW2.out.1 hb3
    clear hb3
    go_wp2
    go_ret
    exact ⟨rfl, hbe⟩
  have q3 : ¬ (100 : Int) < sn := by omega
  have hsX := lng_no q1
  have hsY := lng_no q2
  have hn6 : n ≤ 1000000 := by have := hsX.1; omega
  have hm6 : m ≤ 1000000 := by have := hsY.1; omega
  have hnm : n + m ≤ 1000000 := by have := hsX.1; have := hsY.1; omega
  have HX6 : Hid (∀ i, i < n → (X i).n ≤ 1000000) := fun i hi => by have := hsX.2 i hi; omega
  have HY6 : Hid (∀ i, i < m → (Y i).n ≤ 1000000) := fun i hi => by have := hsY.2 i hi; omega
  have hsn6 : sn ≤ 1000000 := by omega
  clear hsX hsY hq1 hq2 hq3 hx hy hn hm hsn q1 q2
  have HBx : Hid (∀ w', Below w2.heap.size w2 w' → (w'.heap[w.heap.size]? = some (.cells #[.slice ad n cap] 24 (0, 0)) ∧ w'.heap[w.heap.size + 1]? = some (.cells #[.slice bd m dap] 24 (0, 0)) ∧ w'.heap[w.heap.size + 1 + 1]? = some (.cells #[.int .i64 br, .slice sa sn sc, .slice ta T.length tc, .int .i64 ht, .int .i64 ag] 50 (0, 0))) ∧ Below w.heap.size w w' ∧ Env w' ad n X sa sn sz ta T ∧ BrAt w' bd m Y) := fun w' hb => ⟨⟨by rw [hb.block _ (lt_of_block HN2.out.1)]; exact HN2.out.1, by rw [hb.block _ (lt_of_block HN2.out.2.1)]; exact HN2.out.2.1, by rw [hb.block _ (lt_of_block HN2.out.2.2)]; exact HN2.out.2.2⟩, Below.transS HW2.out.1 hb, HW2.out.2.1.below hb, HW2.out.2.2.below hb⟩
  clear HN2 HW2
  go_upto_region 3 with fail
  go_cut [7, 8] (fun a c wc => ∃ (p7 p8 : Nat) (ad1 : Option Addr) (cap1 : Nat) (ad2 : Option Addr) (cap2 : Nat), a = .pointer (some ⟨p7, 0, none⟩) ∧ c = .pointer (some ⟨p8, 0, none⟩) ∧ EiR w2 wc p7 p8 n X m Y ad1 cap1 ad2 cap2)
  case first =>
      have hu0 : Below w2.heap.size w2 w2.drew := (Below.refl _ _).drew
      have HS : Hid (∀ w', Below w2.drew.heap.size w2.drew w' → w'.cell? ⟨w.heap.size, 0, none⟩ = some (.slice ad n cap) ∧ w'.cell? ⟨w.heap.size + 1, 0, none⟩ = some (.slice bd m dap)) := fun w' hb => by
        obtain ⟨⟨h1, h2, _⟩, _⟩ := HBx.out w' (Below.transS hu0 hb)
        exact ⟨by rw [cell_of_row _ _ 0 _ _ _ h1]; rfl, by rw [cell_of_row _ _ 0 _ _ _ h2]; rfl⟩
      have HE : Hid (∀ w', Below w2.drew.heap.size w2.drew w' → BrAt w' ad n X ∧ BrAt w' bd m Y) := fun w' hb => by
        obtain ⟨_, _, h1, h2⟩ := HBx.out w' (Below.transS hu0 hb)
        exact ⟨h1.br, h2⟩
      refine wp_region_noPanic ?_
      refine wp_region_held_drew (S := fun w' => w'.cell? ⟨w.heap.size, 0, none⟩ = some (.slice ad n cap) ∧ w'.cell? ⟨w.heap.size + 1, 0, none⟩ = some (.slice bd m dap)) (by kernel_rfl) (HS.out _ (Below.refl _ _)) (fun hHeld => ?_)
      have hu2 : w2.heap.size = w2.drew.heap.size := rfl
      have HBd : Hid (∀ w', Below w2.drew.heap.size w2.drew w' → Below w2.heap.size w2 w') := fun w' hb => Below.transS hu0 hb
      clear hu0 c5
      generalize w2.drew = u0 at *
      refine wpAnyH_take (i := 0) (oi := { dst := some 27, op := Go.Op.load 24 (Go.Operand.tmp 3), type := 24, pos := "law.go:153", after := #[], guard := none }) (v := .agg #[.slice ad n cap]) rfl (by kernel_rfl) (by kernel_rfl) (by kernel_rfl) (fun _ _ _ h => h) (Or.inl ⟨by rfl, ?_⟩) (by assumption) ?_
      · intro wz hSw; (try dsimp only at hSw); have h1 := hSw.1; go_simp; try rfl
      try simp only [Act.put, List.setIfInBounds_toArray, List.set_cons_zero, List.set_cons_succ]
      refine wpAnyH_take (i := 2) (oi := { dst := some 29, op := Go.Op.load 24 (Go.Operand.tmp 4), type := 24, pos := "law.go:153", after := #[], guard := none }) (v := .agg #[.slice bd m dap]) rfl (by kernel_rfl) (by kernel_rfl) (by kernel_rfl) (fun _ _ _ h => h) (Or.inl ⟨by rfl, ?_⟩) (by assumption) ?_
      · intro wz hSw; (try dsimp only at hSw); have h1 := hSw.2; go_simp; try rfl
      try simp only [Act.put, List.setIfInBounds_toArray, List.set_cons_zero, List.set_cons_succ]
      refine wpAnyH_ready (rs := [1, 4, 5]) (by kernel_rfl) (by simp) ?_
      refine (AllReadyH.cons (o := { dst := some 28, op := Go.Op.call { callee := Go.Callee.value (Go.Operand.func 10), args := #[Go.Operand.tmp 27], argTypes := #[24] }, type := 38, pos := "law.go:153", after := #[{ on := 0, ground := Go.Ground.data }], guard := none }) rfl (fun K hK => ?_) (AllReadyH.cons (o := { dst := some 7, op := Go.Op.alloc 38, type := 0, pos := "law.go:153", after := #[], guard := none }) rfl (fun K hK => ?_) (AllReadyH.cons (o := { dst := some 8, op := Go.Op.alloc 38, type := 0, pos := "law.go:153", after := #[], guard := none }) rfl (fun K hK => ?_) AllReadyH.nil)))
      ·
        go_simp
        refine (give_in ad n cap X u0 (HE.out u0 (Below.refl _ _)).1 hn6 HX6.out).mono ?_
        rintro e u1 ⟨ad1, cap1, rfl, hI1, hb1⟩
        refine hK.out _ _ (HS.out u1 hb1) (fun _ => ?_)
        clear hK K
        try simp only [Act.put, List.setIfInBounds_toArray, List.set_cons_zero, List.set_cons_succ]
        refine wpAnyH_ready (rs := [3, 4, 5]) (by kernel_rfl) (by simp) ?_
        refine (AllReadyH.cons (o := { dst := some 30, op := Go.Op.call { callee := Go.Callee.value (Go.Operand.func 10), args := #[Go.Operand.tmp 29], argTypes := #[24] }, type := 38, pos := "law.go:153", after := #[{ on := 2, ground := Go.Ground.data }, { on := 1, ground := Go.Ground.chain }], guard := none }) rfl (fun K hK => ?_) (AllReadyH.cons (o := { dst := some 7, op := Go.Op.alloc 38, type := 0, pos := "law.go:153", after := #[], guard := none }) rfl (fun K hK => ?_) (AllReadyH.cons (o := { dst := some 8, op := Go.Op.alloc 38, type := 0, pos := "law.go:153", after := #[], guard := none }) rfl (fun K hK => ?_) AllReadyH.nil)))
        ·
          go_simp
          refine (give_in bd m dap Y u1 (HE.out u1 hb1).2 hm6 HY6.out).mono ?_
          rintro e u2 ⟨ad2, cap2, rfl, hI2, hb2⟩
          refine hK.out _ _ (HS.out u2 (Below.transS hb1 hb2)) (fun _ => ?_)
          clear hK K
          try simp only [Act.put, List.setIfInBounds_toArray, List.set_cons_zero, List.set_cons_succ]
          refine wpAnyH_ready (rs := [4, 5]) (by kernel_rfl) (by simp) ?_
          refine (AllReadyH.cons (o := { dst := some 7, op := Go.Op.alloc 38, type := 0, pos := "law.go:153", after := #[], guard := none }) rfl (fun K hK => ?_) (AllReadyH.cons (o := { dst := some 8, op := Go.Op.alloc 38, type := 0, pos := "law.go:153", after := #[], guard := none }) rfl (fun K hK => ?_) AllReadyH.nil))
          ·
            refine step_allocC rfl rfl ?_
            intro p7 u3 hp7 hl7 hb3
            refine hK.out _ _ (HS.out u3 (Below.transS (Below.transS hb1 hb2) hb3)) (fun _ => ?_)
            clear hK K
            try simp only [Act.put, List.setIfInBounds_toArray, List.set_cons_zero, List.set_cons_succ]
            refine wpAnyH_ready (rs := [5]) (by kernel_rfl) (by simp) ?_
            refine (AllReadyH.cons (o := { dst := some 8, op := Go.Op.alloc 38, type := 0, pos := "law.go:153", after := #[], guard := none }) rfl (fun K hK => ?_) AllReadyH.nil)
            refine step_allocC rfl rfl ?_
            intro p8 u4 hp8 hl8 hb4
            refine hK.out _ _ (HS.out u4 (Below.transS (Below.transS (Below.transS hb1 hb2) hb3) hb4)) (fun _ => ?_)
            clear hK K
            try simp only [Act.put, List.setIfInBounds_toArray, List.set_cons_zero, List.set_cons_succ]
            have s1 := hb1.size; have s2 := hb2.size; have s3 := hb3.size; have s4 := hb4.size; have l7 := lt_of_block hp7; have l8 := lt_of_block hp8
            have hp7' : u4.heap[p7]? = some (.cells #[.slice none 0 0] 38 (0, 0)) := by rw [hb4.block _ l7]; exact hp7
            have hp8' : u4.heap[p8]? = some (.cells #[.slice none 0 0] 38 (0, 0)) := by rw [(Below.refl _ _).block _ l8]; exact hp8
            refine wpAnyH_ready (rs := [6]) (by kernel_rfl) (by simp) ?_
            refine (AllReadyH.cons (o := { dst := none, op := Go.Op.store 38 (Go.Operand.tmp 7) (Go.Operand.tmp 28), type := 0, pos := "law.go:153", after := #[{ on := 4, ground := Go.Ground.data }, { on := 1, ground := Go.Ground.data }, { on := 3, ground := Go.Ground.chain }, { on := 0, ground := Go.Ground.phase }, { on := 1, ground := Go.Ground.phase }, { on := 2, ground := Go.Ground.textOnly Go.Departure.lateStores }, { on := 3, ground := Go.Ground.textOnly Go.Departure.lateStoresUnsure }, { on := 4, ground := Go.Ground.phase }, { on := 5, ground := Go.Ground.phase }], guard := none }) rfl (fun K hK => ?_) AllReadyH.nil)
            refine step_storeC rfl _ _ rfl p7 (by rfl) ad1 n cap1 (by rfl) hp7' ?_
            intro w6 hx6 hF6
            have hb6 : Below u0.heap.size u0 w6 := (Below.transS (Below.transS (Below.transS hb1 hb2) hb3) hb4).trans (hF6.below (by omega) (by simp; omega))
            refine hK.out _ _ (HS.out w6 hb6) (fun _ => ?_)
            clear hK K
            try simp only [Act.put]
            refine wpAnyH_ready (rs := [7]) (by kernel_rfl) (by simp) ?_
            refine (AllReadyH.cons (o := { dst := none, op := Go.Op.store 38 (Go.Operand.tmp 8) (Go.Operand.tmp 30), type := 0, pos := "law.go:153", after := #[{ on := 5, ground := Go.Ground.data }, { on := 3, ground := Go.Ground.data }, { on := 6, ground := Go.Ground.chain }, { on := 0, ground := Go.Ground.phase }, { on := 1, ground := Go.Ground.phase }, { on := 2, ground := Go.Ground.phase }, { on := 3, ground := Go.Ground.phase }, { on := 4, ground := Go.Ground.phase }, { on := 5, ground := Go.Ground.phase }, { on := 6, ground := Go.Ground.phase }], guard := none }) rfl (fun K hK => ?_) AllReadyH.nil)
            refine step_storeC rfl _ _ rfl p8 (by rfl) ad2 m cap2 (by rfl) (hF6.heap hp8' (by simp; omega)) ?_
            intro w7 hx7 hF7
            have hb7 : Below u0.heap.size u0 w7 := hb6.trans (hF7.below hb6.size (by simp; omega))
            refine hK.out _ _ (HS.out w7 hb7) (fun _ => ?_)
            clear hK K
            try simp only [Act.put]
            refine wpAnyH_done (by kernel_rfl) (NoPanic.normal ?_) _
            try simp only [Act.put, List.setIfInBounds_toArray, List.set_cons_zero, List.set_cons_succ]
            go_wp2_with fail
            go_meet
            exact ⟨p7, p8, ad1, cap1, ad2, cap2, rfl, rfl, HBd.out _ hb7, hF7.heap hx6 (by simp; omega), hx7, leaf_br hI1 (Below.transS (Below.transS hb2 hb3) hb4) hF6 hF7 (by omega) (by omega), leaf_br hI2 (Below.transS hb3 hb4) hF6 hF7 (by omega) (by omega)⟩
          ·
            refine step_allocC rfl rfl ?_
            intro p8 u3 hp8 hl8 hb3
            refine hK.out _ _ (HS.out u3 (Below.transS (Below.transS hb1 hb2) hb3)) (fun _ => ?_)
            clear hK K
            try simp only [Act.put, List.setIfInBounds_toArray, List.set_cons_zero, List.set_cons_succ]
            refine wpAnyH_ready (rs := [4]) (by kernel_rfl) (by simp) ?_
            refine (AllReadyH.cons (o := { dst := some 7, op := Go.Op.alloc 38, type := 0, pos := "law.go:153", after := #[], guard := none }) rfl (fun K hK => ?_) AllReadyH.nil)
            refine step_allocC rfl rfl ?_
            intro p7 u4 hp7 hl7 hb4
            refine hK.out _ _ (HS.out u4 (Below.transS (Below.transS (Below.transS hb1 hb2) hb3) hb4)) (fun _ => ?_)
            clear hK K
            try simp only [Act.put, List.setIfInBounds_toArray, List.set_cons_zero, List.set_cons_succ]
            have s1 := hb1.size; have s2 := hb2.size; have s3 := hb3.size; have s4 := hb4.size; have l7 := lt_of_block hp7; have l8 := lt_of_block hp8
            have hp7' : u4.heap[p7]? = some (.cells #[.slice none 0 0] 38 (0, 0)) := by rw [(Below.refl _ _).block _ l7]; exact hp7
            have hp8' : u4.heap[p8]? = some (.cells #[.slice none 0 0] 38 (0, 0)) := by rw [hb4.block _ l8]; exact hp8
            refine wpAnyH_ready (rs := [6]) (by kernel_rfl) (by simp) ?_
            refine (AllReadyH.cons (o := { dst := none, op := Go.Op.store 38 (Go.Operand.tmp 7) (Go.Operand.tmp 28), type := 0, pos := "law.go:153", after := #[{ on := 4, ground := Go.Ground.data }, { on := 1, ground := Go.Ground.data }, { on := 3, ground := Go.Ground.chain }, { on := 0, ground := Go.Ground.phase }, { on := 1, ground := Go.Ground.phase }, { on := 2, ground := Go.Ground.textOnly Go.Departure.lateStores }, { on := 3, ground := Go.Ground.textOnly Go.Departure.lateStoresUnsure }, { on := 4, ground := Go.Ground.phase }, { on := 5, ground := Go.Ground.phase }], guard := none }) rfl (fun K hK => ?_) AllReadyH.nil)
            refine step_storeC rfl _ _ rfl p7 (by rfl) ad1 n cap1 (by rfl) hp7' ?_
            intro w6 hx6 hF6
            have hb6 : Below u0.heap.size u0 w6 := (Below.transS (Below.transS (Below.transS hb1 hb2) hb3) hb4).trans (hF6.below (by omega) (by simp; omega))
            refine hK.out _ _ (HS.out w6 hb6) (fun _ => ?_)
            clear hK K
            try simp only [Act.put]
            refine wpAnyH_ready (rs := [7]) (by kernel_rfl) (by simp) ?_
            refine (AllReadyH.cons (o := { dst := none, op := Go.Op.store 38 (Go.Operand.tmp 8) (Go.Operand.tmp 30), type := 0, pos := "law.go:153", after := #[{ on := 5, ground := Go.Ground.data }, { on := 3, ground := Go.Ground.data }, { on := 6, ground := Go.Ground.chain }, { on := 0, ground := Go.Ground.phase }, { on := 1, ground := Go.Ground.phase }, { on := 2, ground := Go.Ground.phase }, { on := 3, ground := Go.Ground.phase }, { on := 4, ground := Go.Ground.phase }, { on := 5, ground := Go.Ground.phase }, { on := 6, ground := Go.Ground.phase }], guard := none }) rfl (fun K hK => ?_) AllReadyH.nil)
            refine step_storeC rfl _ _ rfl p8 (by rfl) ad2 m cap2 (by rfl) (hF6.heap hp8' (by simp; omega)) ?_
            intro w7 hx7 hF7
            have hb7 : Below u0.heap.size u0 w7 := hb6.trans (hF7.below hb6.size (by simp; omega))
            refine hK.out _ _ (HS.out w7 hb7) (fun _ => ?_)
            clear hK K
            try simp only [Act.put]
            refine wpAnyH_done (by kernel_rfl) (NoPanic.normal ?_) _
            try simp only [Act.put, List.setIfInBounds_toArray, List.set_cons_zero, List.set_cons_succ]
            go_wp2_with fail
            go_meet
            exact ⟨p7, p8, ad1, cap1, ad2, cap2, rfl, rfl, HBd.out _ hb7, hF7.heap hx6 (by simp; omega), hx7, leaf_br hI1 (Below.transS (Below.transS hb2 hb3) hb4) hF6 hF7 (by omega) (by omega), leaf_br hI2 (Below.transS hb3 hb4) hF6 hF7 (by omega) (by omega)⟩
        ·
          refine step_allocC rfl rfl ?_
          intro p7 u2 hp7 hl7 hb2
          refine hK.out _ _ (HS.out u2 (Below.transS hb1 hb2)) (fun _ => ?_)
          clear hK K
          try simp only [Act.put, List.setIfInBounds_toArray, List.set_cons_zero, List.set_cons_succ]
          refine wpAnyH_ready (rs := [3, 5]) (by kernel_rfl) (by simp) ?_
          refine (AllReadyH.cons (o := { dst := some 30, op := Go.Op.call { callee := Go.Callee.value (Go.Operand.func 10), args := #[Go.Operand.tmp 29], argTypes := #[24] }, type := 38, pos := "law.go:153", after := #[{ on := 2, ground := Go.Ground.data }, { on := 1, ground := Go.Ground.chain }], guard := none }) rfl (fun K hK => ?_) (AllReadyH.cons (o := { dst := some 8, op := Go.Op.alloc 38, type := 0, pos := "law.go:153", after := #[], guard := none }) rfl (fun K hK => ?_) AllReadyH.nil))
          ·
            go_simp
            refine (give_in bd m dap Y u2 (HE.out u2 (Below.transS hb1 hb2)).2 hm6 HY6.out).mono ?_
            rintro e u3 ⟨ad2, cap2, rfl, hI2, hb3⟩
            refine hK.out _ _ (HS.out u3 (Below.transS (Below.transS hb1 hb2) hb3)) (fun _ => ?_)
            clear hK K
            try simp only [Act.put, List.setIfInBounds_toArray, List.set_cons_zero, List.set_cons_succ]
            refine wpAnyH_ready (rs := [5]) (by kernel_rfl) (by simp) ?_
            refine (AllReadyH.cons (o := { dst := some 8, op := Go.Op.alloc 38, type := 0, pos := "law.go:153", after := #[], guard := none }) rfl (fun K hK => ?_) AllReadyH.nil)
            refine step_allocC rfl rfl ?_
            intro p8 u4 hp8 hl8 hb4
            refine hK.out _ _ (HS.out u4 (Below.transS (Below.transS (Below.transS hb1 hb2) hb3) hb4)) (fun _ => ?_)
            clear hK K
            try simp only [Act.put, List.setIfInBounds_toArray, List.set_cons_zero, List.set_cons_succ]
            have s1 := hb1.size; have s2 := hb2.size; have s3 := hb3.size; have s4 := hb4.size; have l7 := lt_of_block hp7; have l8 := lt_of_block hp8
            have hp7' : u4.heap[p7]? = some (.cells #[.slice none 0 0] 38 (0, 0)) := by rw [(Below.transS hb3 hb4).block _ l7]; exact hp7
            have hp8' : u4.heap[p8]? = some (.cells #[.slice none 0 0] 38 (0, 0)) := by rw [(Below.refl _ _).block _ l8]; exact hp8
            refine wpAnyH_ready (rs := [6]) (by kernel_rfl) (by simp) ?_
            refine (AllReadyH.cons (o := { dst := none, op := Go.Op.store 38 (Go.Operand.tmp 7) (Go.Operand.tmp 28), type := 0, pos := "law.go:153", after := #[{ on := 4, ground := Go.Ground.data }, { on := 1, ground := Go.Ground.data }, { on := 3, ground := Go.Ground.chain }, { on := 0, ground := Go.Ground.phase }, { on := 1, ground := Go.Ground.phase }, { on := 2, ground := Go.Ground.textOnly Go.Departure.lateStores }, { on := 3, ground := Go.Ground.textOnly Go.Departure.lateStoresUnsure }, { on := 4, ground := Go.Ground.phase }, { on := 5, ground := Go.Ground.phase }], guard := none }) rfl (fun K hK => ?_) AllReadyH.nil)
            refine step_storeC rfl _ _ rfl p7 (by rfl) ad1 n cap1 (by rfl) hp7' ?_
            intro w6 hx6 hF6
            have hb6 : Below u0.heap.size u0 w6 := (Below.transS (Below.transS (Below.transS hb1 hb2) hb3) hb4).trans (hF6.below (by omega) (by simp; omega))
            refine hK.out _ _ (HS.out w6 hb6) (fun _ => ?_)
            clear hK K
            try simp only [Act.put]
            refine wpAnyH_ready (rs := [7]) (by kernel_rfl) (by simp) ?_
            refine (AllReadyH.cons (o := { dst := none, op := Go.Op.store 38 (Go.Operand.tmp 8) (Go.Operand.tmp 30), type := 0, pos := "law.go:153", after := #[{ on := 5, ground := Go.Ground.data }, { on := 3, ground := Go.Ground.data }, { on := 6, ground := Go.Ground.chain }, { on := 0, ground := Go.Ground.phase }, { on := 1, ground := Go.Ground.phase }, { on := 2, ground := Go.Ground.phase }, { on := 3, ground := Go.Ground.phase }, { on := 4, ground := Go.Ground.phase }, { on := 5, ground := Go.Ground.phase }, { on := 6, ground := Go.Ground.phase }], guard := none }) rfl (fun K hK => ?_) AllReadyH.nil)
            refine step_storeC rfl _ _ rfl p8 (by rfl) ad2 m cap2 (by rfl) (hF6.heap hp8' (by simp; omega)) ?_
            intro w7 hx7 hF7
            have hb7 : Below u0.heap.size u0 w7 := hb6.trans (hF7.below hb6.size (by simp; omega))
            refine hK.out _ _ (HS.out w7 hb7) (fun _ => ?_)
            clear hK K
            try simp only [Act.put]
            refine wpAnyH_done (by kernel_rfl) (NoPanic.normal ?_) _
            try simp only [Act.put, List.setIfInBounds_toArray, List.set_cons_zero, List.set_cons_succ]
            go_wp2_with fail
            go_meet
            exact ⟨p7, p8, ad1, cap1, ad2, cap2, rfl, rfl, HBd.out _ hb7, hF7.heap hx6 (by simp; omega), hx7, leaf_br hI1 (Below.transS (Below.transS hb2 hb3) hb4) hF6 hF7 (by omega) (by omega), leaf_br hI2 hb4 hF6 hF7 (by omega) (by omega)⟩
          ·
            refine step_allocC rfl rfl ?_
            intro p8 u3 hp8 hl8 hb3
            refine hK.out _ _ (HS.out u3 (Below.transS (Below.transS hb1 hb2) hb3)) (fun _ => ?_)
            clear hK K
            try simp only [Act.put, List.setIfInBounds_toArray, List.set_cons_zero, List.set_cons_succ]
            refine wpAnyH_ready (rs := [3]) (by kernel_rfl) (by simp) ?_
            refine (AllReadyH.cons (o := { dst := some 30, op := Go.Op.call { callee := Go.Callee.value (Go.Operand.func 10), args := #[Go.Operand.tmp 29], argTypes := #[24] }, type := 38, pos := "law.go:153", after := #[{ on := 2, ground := Go.Ground.data }, { on := 1, ground := Go.Ground.chain }], guard := none }) rfl (fun K hK => ?_) AllReadyH.nil)
            go_simp
            refine (give_in bd m dap Y u3 (HE.out u3 (Below.transS (Below.transS hb1 hb2) hb3)).2 hm6 HY6.out).mono ?_
            rintro e u4 ⟨ad2, cap2, rfl, hI2, hb4⟩
            refine hK.out _ _ (HS.out u4 (Below.transS (Below.transS (Below.transS hb1 hb2) hb3) hb4)) (fun _ => ?_)
            clear hK K
            try simp only [Act.put, List.setIfInBounds_toArray, List.set_cons_zero, List.set_cons_succ]
            have s1 := hb1.size; have s2 := hb2.size; have s3 := hb3.size; have s4 := hb4.size; have l7 := lt_of_block hp7; have l8 := lt_of_block hp8
            have hp7' : u4.heap[p7]? = some (.cells #[.slice none 0 0] 38 (0, 0)) := by rw [(Below.transS hb3 hb4).block _ l7]; exact hp7
            have hp8' : u4.heap[p8]? = some (.cells #[.slice none 0 0] 38 (0, 0)) := by rw [hb4.block _ l8]; exact hp8
            refine wpAnyH_ready (rs := [6]) (by kernel_rfl) (by simp) ?_
            refine (AllReadyH.cons (o := { dst := none, op := Go.Op.store 38 (Go.Operand.tmp 7) (Go.Operand.tmp 28), type := 0, pos := "law.go:153", after := #[{ on := 4, ground := Go.Ground.data }, { on := 1, ground := Go.Ground.data }, { on := 3, ground := Go.Ground.chain }, { on := 0, ground := Go.Ground.phase }, { on := 1, ground := Go.Ground.phase }, { on := 2, ground := Go.Ground.textOnly Go.Departure.lateStores }, { on := 3, ground := Go.Ground.textOnly Go.Departure.lateStoresUnsure }, { on := 4, ground := Go.Ground.phase }, { on := 5, ground := Go.Ground.phase }], guard := none }) rfl (fun K hK => ?_) AllReadyH.nil)
            refine step_storeC rfl _ _ rfl p7 (by rfl) ad1 n cap1 (by rfl) hp7' ?_
            intro w6 hx6 hF6
            have hb6 : Below u0.heap.size u0 w6 := (Below.transS (Below.transS (Below.transS hb1 hb2) hb3) hb4).trans (hF6.below (by omega) (by simp; omega))
            refine hK.out _ _ (HS.out w6 hb6) (fun _ => ?_)
            clear hK K
            try simp only [Act.put]
            refine wpAnyH_ready (rs := [7]) (by kernel_rfl) (by simp) ?_
            refine (AllReadyH.cons (o := { dst := none, op := Go.Op.store 38 (Go.Operand.tmp 8) (Go.Operand.tmp 30), type := 0, pos := "law.go:153", after := #[{ on := 5, ground := Go.Ground.data }, { on := 3, ground := Go.Ground.data }, { on := 6, ground := Go.Ground.chain }, { on := 0, ground := Go.Ground.phase }, { on := 1, ground := Go.Ground.phase }, { on := 2, ground := Go.Ground.phase }, { on := 3, ground := Go.Ground.phase }, { on := 4, ground := Go.Ground.phase }, { on := 5, ground := Go.Ground.phase }, { on := 6, ground := Go.Ground.phase }], guard := none }) rfl (fun K hK => ?_) AllReadyH.nil)
            refine step_storeC rfl _ _ rfl p8 (by rfl) ad2 m cap2 (by rfl) (hF6.heap hp8' (by simp; omega)) ?_
            intro w7 hx7 hF7
            have hb7 : Below u0.heap.size u0 w7 := hb6.trans (hF7.below hb6.size (by simp; omega))
            refine hK.out _ _ (HS.out w7 hb7) (fun _ => ?_)
            clear hK K
            try simp only [Act.put]
            refine wpAnyH_done (by kernel_rfl) (NoPanic.normal ?_) _
            try simp only [Act.put, List.setIfInBounds_toArray, List.set_cons_zero, List.set_cons_succ]
            go_wp2_with fail
            go_meet
            exact ⟨p7, p8, ad1, cap1, ad2, cap2, rfl, rfl, HBd.out _ hb7, hF7.heap hx6 (by simp; omega), hx7, leaf_br hI1 (Below.transS (Below.transS hb2 hb3) hb4) hF6 hF7 (by omega) (by omega), leaf_br hI2 (Below.refl _ _) hF6 hF7 (by omega) (by omega)⟩
        ·
          refine step_allocC rfl rfl ?_
          intro p8 u2 hp8 hl8 hb2
          refine hK.out _ _ (HS.out u2 (Below.transS hb1 hb2)) (fun _ => ?_)
          clear hK K
          try simp only [Act.put, List.setIfInBounds_toArray, List.set_cons_zero, List.set_cons_succ]
          refine wpAnyH_ready (rs := [3, 4]) (by kernel_rfl) (by simp) ?_
          refine (AllReadyH.cons (o := { dst := some 30, op := Go.Op.call { callee := Go.Callee.value (Go.Operand.func 10), args := #[Go.Operand.tmp 29], argTypes := #[24] }, type := 38, pos := "law.go:153", after := #[{ on := 2, ground := Go.Ground.data }, { on := 1, ground := Go.Ground.chain }], guard := none }) rfl (fun K hK => ?_) (AllReadyH.cons (o := { dst := some 7, op := Go.Op.alloc 38, type := 0, pos := "law.go:153", after := #[], guard := none }) rfl (fun K hK => ?_) AllReadyH.nil))
          ·
            go_simp
            refine (give_in bd m dap Y u2 (HE.out u2 (Below.transS hb1 hb2)).2 hm6 HY6.out).mono ?_
            rintro e u3 ⟨ad2, cap2, rfl, hI2, hb3⟩
            refine hK.out _ _ (HS.out u3 (Below.transS (Below.transS hb1 hb2) hb3)) (fun _ => ?_)
            clear hK K
            try simp only [Act.put, List.setIfInBounds_toArray, List.set_cons_zero, List.set_cons_succ]
            refine wpAnyH_ready (rs := [4]) (by kernel_rfl) (by simp) ?_
            refine (AllReadyH.cons (o := { dst := some 7, op := Go.Op.alloc 38, type := 0, pos := "law.go:153", after := #[], guard := none }) rfl (fun K hK => ?_) AllReadyH.nil)
            refine step_allocC rfl rfl ?_
            intro p7 u4 hp7 hl7 hb4
            refine hK.out _ _ (HS.out u4 (Below.transS (Below.transS (Below.transS hb1 hb2) hb3) hb4)) (fun _ => ?_)
            clear hK K
            try simp only [Act.put, List.setIfInBounds_toArray, List.set_cons_zero, List.set_cons_succ]
            have s1 := hb1.size; have s2 := hb2.size; have s3 := hb3.size; have s4 := hb4.size; have l7 := lt_of_block hp7; have l8 := lt_of_block hp8
            have hp7' : u4.heap[p7]? = some (.cells #[.slice none 0 0] 38 (0, 0)) := by rw [(Below.refl _ _).block _ l7]; exact hp7
            have hp8' : u4.heap[p8]? = some (.cells #[.slice none 0 0] 38 (0, 0)) := by rw [(Below.transS hb3 hb4).block _ l8]; exact hp8
            refine wpAnyH_ready (rs := [6]) (by kernel_rfl) (by simp) ?_
            refine (AllReadyH.cons (o := { dst := none, op := Go.Op.store 38 (Go.Operand.tmp 7) (Go.Operand.tmp 28), type := 0, pos := "law.go:153", after := #[{ on := 4, ground := Go.Ground.data }, { on := 1, ground := Go.Ground.data }, { on := 3, ground := Go.Ground.chain }, { on := 0, ground := Go.Ground.phase }, { on := 1, ground := Go.Ground.phase }, { on := 2, ground := Go.Ground.textOnly Go.Departure.lateStores }, { on := 3, ground := Go.Ground.textOnly Go.Departure.lateStoresUnsure }, { on := 4, ground := Go.Ground.phase }, { on := 5, ground := Go.Ground.phase }], guard := none }) rfl (fun K hK => ?_) AllReadyH.nil)
            refine step_storeC rfl _ _ rfl p7 (by rfl) ad1 n cap1 (by rfl) hp7' ?_
            intro w6 hx6 hF6
            have hb6 : Below u0.heap.size u0 w6 := (Below.transS (Below.transS (Below.transS hb1 hb2) hb3) hb4).trans (hF6.below (by omega) (by simp; omega))
            refine hK.out _ _ (HS.out w6 hb6) (fun _ => ?_)
            clear hK K
            try simp only [Act.put]
            refine wpAnyH_ready (rs := [7]) (by kernel_rfl) (by simp) ?_
            refine (AllReadyH.cons (o := { dst := none, op := Go.Op.store 38 (Go.Operand.tmp 8) (Go.Operand.tmp 30), type := 0, pos := "law.go:153", after := #[{ on := 5, ground := Go.Ground.data }, { on := 3, ground := Go.Ground.data }, { on := 6, ground := Go.Ground.chain }, { on := 0, ground := Go.Ground.phase }, { on := 1, ground := Go.Ground.phase }, { on := 2, ground := Go.Ground.phase }, { on := 3, ground := Go.Ground.phase }, { on := 4, ground := Go.Ground.phase }, { on := 5, ground := Go.Ground.phase }, { on := 6, ground := Go.Ground.phase }], guard := none }) rfl (fun K hK => ?_) AllReadyH.nil)
            refine step_storeC rfl _ _ rfl p8 (by rfl) ad2 m cap2 (by rfl) (hF6.heap hp8' (by simp; omega)) ?_
            intro w7 hx7 hF7
            have hb7 : Below u0.heap.size u0 w7 := hb6.trans (hF7.below hb6.size (by simp; omega))
            refine hK.out _ _ (HS.out w7 hb7) (fun _ => ?_)
            clear hK K
            try simp only [Act.put]
            refine wpAnyH_done (by kernel_rfl) (NoPanic.normal ?_) _
            try simp only [Act.put, List.setIfInBounds_toArray, List.set_cons_zero, List.set_cons_succ]
            go_wp2_with fail
            go_meet
            exact ⟨p7, p8, ad1, cap1, ad2, cap2, rfl, rfl, HBd.out _ hb7, hF7.heap hx6 (by simp; omega), hx7, leaf_br hI1 (Below.transS (Below.transS hb2 hb3) hb4) hF6 hF7 (by omega) (by omega), leaf_br hI2 hb4 hF6 hF7 (by omega) (by omega)⟩
          ·
            refine step_allocC rfl rfl ?_
            intro p7 u3 hp7 hl7 hb3
            refine hK.out _ _ (HS.out u3 (Below.transS (Below.transS hb1 hb2) hb3)) (fun _ => ?_)
            clear hK K
            try simp only [Act.put, List.setIfInBounds_toArray, List.set_cons_zero, List.set_cons_succ]
            refine wpAnyH_ready (rs := [3]) (by kernel_rfl) (by simp) ?_
            refine (AllReadyH.cons (o := { dst := some 30, op := Go.Op.call { callee := Go.Callee.value (Go.Operand.func 10), args := #[Go.Operand.tmp 29], argTypes := #[24] }, type := 38, pos := "law.go:153", after := #[{ on := 2, ground := Go.Ground.data }, { on := 1, ground := Go.Ground.chain }], guard := none }) rfl (fun K hK => ?_) AllReadyH.nil)
            go_simp
            refine (give_in bd m dap Y u3 (HE.out u3 (Below.transS (Below.transS hb1 hb2) hb3)).2 hm6 HY6.out).mono ?_
            rintro e u4 ⟨ad2, cap2, rfl, hI2, hb4⟩
            refine hK.out _ _ (HS.out u4 (Below.transS (Below.transS (Below.transS hb1 hb2) hb3) hb4)) (fun _ => ?_)
            clear hK K
            try simp only [Act.put, List.setIfInBounds_toArray, List.set_cons_zero, List.set_cons_succ]
            have s1 := hb1.size; have s2 := hb2.size; have s3 := hb3.size; have s4 := hb4.size; have l7 := lt_of_block hp7; have l8 := lt_of_block hp8
            have hp7' : u4.heap[p7]? = some (.cells #[.slice none 0 0] 38 (0, 0)) := by rw [hb4.block _ l7]; exact hp7
            have hp8' : u4.heap[p8]? = some (.cells #[.slice none 0 0] 38 (0, 0)) := by rw [(Below.transS hb3 hb4).block _ l8]; exact hp8
            refine wpAnyH_ready (rs := [6]) (by kernel_rfl) (by simp) ?_
            refine (AllReadyH.cons (o := { dst := none, op := Go.Op.store 38 (Go.Operand.tmp 7) (Go.Operand.tmp 28), type := 0, pos := "law.go:153", after := #[{ on := 4, ground := Go.Ground.data }, { on := 1, ground := Go.Ground.data }, { on := 3, ground := Go.Ground.chain }, { on := 0, ground := Go.Ground.phase }, { on := 1, ground := Go.Ground.phase }, { on := 2, ground := Go.Ground.textOnly Go.Departure.lateStores }, { on := 3, ground := Go.Ground.textOnly Go.Departure.lateStoresUnsure }, { on := 4, ground := Go.Ground.phase }, { on := 5, ground := Go.Ground.phase }], guard := none }) rfl (fun K hK => ?_) AllReadyH.nil)
            refine step_storeC rfl _ _ rfl p7 (by rfl) ad1 n cap1 (by rfl) hp7' ?_
            intro w6 hx6 hF6
            have hb6 : Below u0.heap.size u0 w6 := (Below.transS (Below.transS (Below.transS hb1 hb2) hb3) hb4).trans (hF6.below (by omega) (by simp; omega))
            refine hK.out _ _ (HS.out w6 hb6) (fun _ => ?_)
            clear hK K
            try simp only [Act.put]
            refine wpAnyH_ready (rs := [7]) (by kernel_rfl) (by simp) ?_
            refine (AllReadyH.cons (o := { dst := none, op := Go.Op.store 38 (Go.Operand.tmp 8) (Go.Operand.tmp 30), type := 0, pos := "law.go:153", after := #[{ on := 5, ground := Go.Ground.data }, { on := 3, ground := Go.Ground.data }, { on := 6, ground := Go.Ground.chain }, { on := 0, ground := Go.Ground.phase }, { on := 1, ground := Go.Ground.phase }, { on := 2, ground := Go.Ground.phase }, { on := 3, ground := Go.Ground.phase }, { on := 4, ground := Go.Ground.phase }, { on := 5, ground := Go.Ground.phase }, { on := 6, ground := Go.Ground.phase }], guard := none }) rfl (fun K hK => ?_) AllReadyH.nil)
            refine step_storeC rfl _ _ rfl p8 (by rfl) ad2 m cap2 (by rfl) (hF6.heap hp8' (by simp; omega)) ?_
            intro w7 hx7 hF7
            have hb7 : Below u0.heap.size u0 w7 := hb6.trans (hF7.below hb6.size (by simp; omega))
            refine hK.out _ _ (HS.out w7 hb7) (fun _ => ?_)
            clear hK K
            try simp only [Act.put]
            refine wpAnyH_done (by kernel_rfl) (NoPanic.normal ?_) _
            try simp only [Act.put, List.setIfInBounds_toArray, List.set_cons_zero, List.set_cons_succ]
            go_wp2_with fail
            go_meet
            exact ⟨p7, p8, ad1, cap1, ad2, cap2, rfl, rfl, HBd.out _ hb7, hF7.heap hx6 (by simp; omega), hx7, leaf_br hI1 (Below.transS (Below.transS hb2 hb3) hb4) hF6 hF7 (by omega) (by omega), leaf_br hI2 (Below.refl _ _) hF6 hF7 (by omega) (by omega)⟩
      ·
        refine step_allocC rfl rfl ?_
        intro p7 u1 hp7 hl7 hb1
        refine hK.out _ _ (HS.out u1 hb1) (fun _ => ?_)
        clear hK K
        try simp only [Act.put, List.setIfInBounds_toArray, List.set_cons_zero, List.set_cons_succ]
        refine wpAnyH_ready (rs := [1, 5]) (by kernel_rfl) (by simp) ?_
        refine (AllReadyH.cons (o := { dst := some 28, op := Go.Op.call { callee := Go.Callee.value (Go.Operand.func 10), args := #[Go.Operand.tmp 27], argTypes := #[24] }, type := 38, pos := "law.go:153", after := #[{ on := 0, ground := Go.Ground.data }], guard := none }) rfl (fun K hK => ?_) (AllReadyH.cons (o := { dst := some 8, op := Go.Op.alloc 38, type := 0, pos := "law.go:153", after := #[], guard := none }) rfl (fun K hK => ?_) AllReadyH.nil))
        ·
          go_simp
          refine (give_in ad n cap X u1 (HE.out u1 hb1).1 hn6 HX6.out).mono ?_
          rintro e u2 ⟨ad1, cap1, rfl, hI1, hb2⟩
          refine hK.out _ _ (HS.out u2 (Below.transS hb1 hb2)) (fun _ => ?_)
          clear hK K
          try simp only [Act.put, List.setIfInBounds_toArray, List.set_cons_zero, List.set_cons_succ]
          refine wpAnyH_ready (rs := [3, 5]) (by kernel_rfl) (by simp) ?_
          refine (AllReadyH.cons (o := { dst := some 30, op := Go.Op.call { callee := Go.Callee.value (Go.Operand.func 10), args := #[Go.Operand.tmp 29], argTypes := #[24] }, type := 38, pos := "law.go:153", after := #[{ on := 2, ground := Go.Ground.data }, { on := 1, ground := Go.Ground.chain }], guard := none }) rfl (fun K hK => ?_) (AllReadyH.cons (o := { dst := some 8, op := Go.Op.alloc 38, type := 0, pos := "law.go:153", after := #[], guard := none }) rfl (fun K hK => ?_) AllReadyH.nil))
          ·
            go_simp
            refine (give_in bd m dap Y u2 (HE.out u2 (Below.transS hb1 hb2)).2 hm6 HY6.out).mono ?_
            rintro e u3 ⟨ad2, cap2, rfl, hI2, hb3⟩
            refine hK.out _ _ (HS.out u3 (Below.transS (Below.transS hb1 hb2) hb3)) (fun _ => ?_)
            clear hK K
            try simp only [Act.put, List.setIfInBounds_toArray, List.set_cons_zero, List.set_cons_succ]
            refine wpAnyH_ready (rs := [5]) (by kernel_rfl) (by simp) ?_
            refine (AllReadyH.cons (o := { dst := some 8, op := Go.Op.alloc 38, type := 0, pos := "law.go:153", after := #[], guard := none }) rfl (fun K hK => ?_) AllReadyH.nil)
            refine step_allocC rfl rfl ?_
            intro p8 u4 hp8 hl8 hb4
            refine hK.out _ _ (HS.out u4 (Below.transS (Below.transS (Below.transS hb1 hb2) hb3) hb4)) (fun _ => ?_)
            clear hK K
            try simp only [Act.put, List.setIfInBounds_toArray, List.set_cons_zero, List.set_cons_succ]
            have s1 := hb1.size; have s2 := hb2.size; have s3 := hb3.size; have s4 := hb4.size; have l7 := lt_of_block hp7; have l8 := lt_of_block hp8
            have hp7' : u4.heap[p7]? = some (.cells #[.slice none 0 0] 38 (0, 0)) := by rw [(Below.transS (Below.transS hb2 hb3) hb4).block _ l7]; exact hp7
            have hp8' : u4.heap[p8]? = some (.cells #[.slice none 0 0] 38 (0, 0)) := by rw [(Below.refl _ _).block _ l8]; exact hp8
            refine wpAnyH_ready (rs := [6]) (by kernel_rfl) (by simp) ?_
            refine (AllReadyH.cons (o := { dst := none, op := Go.Op.store 38 (Go.Operand.tmp 7) (Go.Operand.tmp 28), type := 0, pos := "law.go:153", after := #[{ on := 4, ground := Go.Ground.data }, { on := 1, ground := Go.Ground.data }, { on := 3, ground := Go.Ground.chain }, { on := 0, ground := Go.Ground.phase }, { on := 1, ground := Go.Ground.phase }, { on := 2, ground := Go.Ground.textOnly Go.Departure.lateStores }, { on := 3, ground := Go.Ground.textOnly Go.Departure.lateStoresUnsure }, { on := 4, ground := Go.Ground.phase }, { on := 5, ground := Go.Ground.phase }], guard := none }) rfl (fun K hK => ?_) AllReadyH.nil)
            refine step_storeC rfl _ _ rfl p7 (by rfl) ad1 n cap1 (by rfl) hp7' ?_
            intro w6 hx6 hF6
            have hb6 : Below u0.heap.size u0 w6 := (Below.transS (Below.transS (Below.transS hb1 hb2) hb3) hb4).trans (hF6.below (by omega) (by simp; omega))
            refine hK.out _ _ (HS.out w6 hb6) (fun _ => ?_)
            clear hK K
            try simp only [Act.put]
            refine wpAnyH_ready (rs := [7]) (by kernel_rfl) (by simp) ?_
            refine (AllReadyH.cons (o := { dst := none, op := Go.Op.store 38 (Go.Operand.tmp 8) (Go.Operand.tmp 30), type := 0, pos := "law.go:153", after := #[{ on := 5, ground := Go.Ground.data }, { on := 3, ground := Go.Ground.data }, { on := 6, ground := Go.Ground.chain }, { on := 0, ground := Go.Ground.phase }, { on := 1, ground := Go.Ground.phase }, { on := 2, ground := Go.Ground.phase }, { on := 3, ground := Go.Ground.phase }, { on := 4, ground := Go.Ground.phase }, { on := 5, ground := Go.Ground.phase }, { on := 6, ground := Go.Ground.phase }], guard := none }) rfl (fun K hK => ?_) AllReadyH.nil)
            refine step_storeC rfl _ _ rfl p8 (by rfl) ad2 m cap2 (by rfl) (hF6.heap hp8' (by simp; omega)) ?_
            intro w7 hx7 hF7
            have hb7 : Below u0.heap.size u0 w7 := hb6.trans (hF7.below hb6.size (by simp; omega))
            refine hK.out _ _ (HS.out w7 hb7) (fun _ => ?_)
            clear hK K
            try simp only [Act.put]
            refine wpAnyH_done (by kernel_rfl) (NoPanic.normal ?_) _
            try simp only [Act.put, List.setIfInBounds_toArray, List.set_cons_zero, List.set_cons_succ]
            go_wp2_with fail
            go_meet
            exact ⟨p7, p8, ad1, cap1, ad2, cap2, rfl, rfl, HBd.out _ hb7, hF7.heap hx6 (by simp; omega), hx7, leaf_br hI1 (Below.transS hb3 hb4) hF6 hF7 (by omega) (by omega), leaf_br hI2 hb4 hF6 hF7 (by omega) (by omega)⟩
          ·
            refine step_allocC rfl rfl ?_
            intro p8 u3 hp8 hl8 hb3
            refine hK.out _ _ (HS.out u3 (Below.transS (Below.transS hb1 hb2) hb3)) (fun _ => ?_)
            clear hK K
            try simp only [Act.put, List.setIfInBounds_toArray, List.set_cons_zero, List.set_cons_succ]
            refine wpAnyH_ready (rs := [3]) (by kernel_rfl) (by simp) ?_
            refine (AllReadyH.cons (o := { dst := some 30, op := Go.Op.call { callee := Go.Callee.value (Go.Operand.func 10), args := #[Go.Operand.tmp 29], argTypes := #[24] }, type := 38, pos := "law.go:153", after := #[{ on := 2, ground := Go.Ground.data }, { on := 1, ground := Go.Ground.chain }], guard := none }) rfl (fun K hK => ?_) AllReadyH.nil)
            go_simp
            refine (give_in bd m dap Y u3 (HE.out u3 (Below.transS (Below.transS hb1 hb2) hb3)).2 hm6 HY6.out).mono ?_
            rintro e u4 ⟨ad2, cap2, rfl, hI2, hb4⟩
            refine hK.out _ _ (HS.out u4 (Below.transS (Below.transS (Below.transS hb1 hb2) hb3) hb4)) (fun _ => ?_)
            clear hK K
            try simp only [Act.put, List.setIfInBounds_toArray, List.set_cons_zero, List.set_cons_succ]
            have s1 := hb1.size; have s2 := hb2.size; have s3 := hb3.size; have s4 := hb4.size; have l7 := lt_of_block hp7; have l8 := lt_of_block hp8
            have hp7' : u4.heap[p7]? = some (.cells #[.slice none 0 0] 38 (0, 0)) := by rw [(Below.transS (Below.transS hb2 hb3) hb4).block _ l7]; exact hp7
            have hp8' : u4.heap[p8]? = some (.cells #[.slice none 0 0] 38 (0, 0)) := by rw [hb4.block _ l8]; exact hp8
            refine wpAnyH_ready (rs := [6]) (by kernel_rfl) (by simp) ?_
            refine (AllReadyH.cons (o := { dst := none, op := Go.Op.store 38 (Go.Operand.tmp 7) (Go.Operand.tmp 28), type := 0, pos := "law.go:153", after := #[{ on := 4, ground := Go.Ground.data }, { on := 1, ground := Go.Ground.data }, { on := 3, ground := Go.Ground.chain }, { on := 0, ground := Go.Ground.phase }, { on := 1, ground := Go.Ground.phase }, { on := 2, ground := Go.Ground.textOnly Go.Departure.lateStores }, { on := 3, ground := Go.Ground.textOnly Go.Departure.lateStoresUnsure }, { on := 4, ground := Go.Ground.phase }, { on := 5, ground := Go.Ground.phase }], guard := none }) rfl (fun K hK => ?_) AllReadyH.nil)
            refine step_storeC rfl _ _ rfl p7 (by rfl) ad1 n cap1 (by rfl) hp7' ?_
            intro w6 hx6 hF6
            have hb6 : Below u0.heap.size u0 w6 := (Below.transS (Below.transS (Below.transS hb1 hb2) hb3) hb4).trans (hF6.below (by omega) (by simp; omega))
            refine hK.out _ _ (HS.out w6 hb6) (fun _ => ?_)
            clear hK K
            try simp only [Act.put]
            refine wpAnyH_ready (rs := [7]) (by kernel_rfl) (by simp) ?_
            refine (AllReadyH.cons (o := { dst := none, op := Go.Op.store 38 (Go.Operand.tmp 8) (Go.Operand.tmp 30), type := 0, pos := "law.go:153", after := #[{ on := 5, ground := Go.Ground.data }, { on := 3, ground := Go.Ground.data }, { on := 6, ground := Go.Ground.chain }, { on := 0, ground := Go.Ground.phase }, { on := 1, ground := Go.Ground.phase }, { on := 2, ground := Go.Ground.phase }, { on := 3, ground := Go.Ground.phase }, { on := 4, ground := Go.Ground.phase }, { on := 5, ground := Go.Ground.phase }, { on := 6, ground := Go.Ground.phase }], guard := none }) rfl (fun K hK => ?_) AllReadyH.nil)
            refine step_storeC rfl _ _ rfl p8 (by rfl) ad2 m cap2 (by rfl) (hF6.heap hp8' (by simp; omega)) ?_
            intro w7 hx7 hF7
            have hb7 : Below u0.heap.size u0 w7 := hb6.trans (hF7.below hb6.size (by simp; omega))
            refine hK.out _ _ (HS.out w7 hb7) (fun _ => ?_)
            clear hK K
            try simp only [Act.put]
            refine wpAnyH_done (by kernel_rfl) (NoPanic.normal ?_) _
            try simp only [Act.put, List.setIfInBounds_toArray, List.set_cons_zero, List.set_cons_succ]
            go_wp2_with fail
            go_meet
            exact ⟨p7, p8, ad1, cap1, ad2, cap2, rfl, rfl, HBd.out _ hb7, hF7.heap hx6 (by simp; omega), hx7, leaf_br hI1 (Below.transS hb3 hb4) hF6 hF7 (by omega) (by omega), leaf_br hI2 (Below.refl _ _) hF6 hF7 (by omega) (by omega)⟩
        ·
          refine step_allocC rfl rfl ?_
          intro p8 u2 hp8 hl8 hb2
          refine hK.out _ _ (HS.out u2 (Below.transS hb1 hb2)) (fun _ => ?_)
          clear hK K
          try simp only [Act.put, List.setIfInBounds_toArray, List.set_cons_zero, List.set_cons_succ]
          refine wpAnyH_ready (rs := [1]) (by kernel_rfl) (by simp) ?_
          refine (AllReadyH.cons (o := { dst := some 28, op := Go.Op.call { callee := Go.Callee.value (Go.Operand.func 10), args := #[Go.Operand.tmp 27], argTypes := #[24] }, type := 38, pos := "law.go:153", after := #[{ on := 0, ground := Go.Ground.data }], guard := none }) rfl (fun K hK => ?_) AllReadyH.nil)
          go_simp
          refine (give_in ad n cap X u2 (HE.out u2 (Below.transS hb1 hb2)).1 hn6 HX6.out).mono ?_
          rintro e u3 ⟨ad1, cap1, rfl, hI1, hb3⟩
          refine hK.out _ _ (HS.out u3 (Below.transS (Below.transS hb1 hb2) hb3)) (fun _ => ?_)
          clear hK K
          try simp only [Act.put, List.setIfInBounds_toArray, List.set_cons_zero, List.set_cons_succ]
          refine wpAnyH_ready (rs := [3]) (by kernel_rfl) (by simp) ?_
          refine (AllReadyH.cons (o := { dst := some 30, op := Go.Op.call { callee := Go.Callee.value (Go.Operand.func 10), args := #[Go.Operand.tmp 29], argTypes := #[24] }, type := 38, pos := "law.go:153", after := #[{ on := 2, ground := Go.Ground.data }, { on := 1, ground := Go.Ground.chain }], guard := none }) rfl (fun K hK => ?_) AllReadyH.nil)
          go_simp
          refine (give_in bd m dap Y u3 (HE.out u3 (Below.transS (Below.transS hb1 hb2) hb3)).2 hm6 HY6.out).mono ?_
          rintro e u4 ⟨ad2, cap2, rfl, hI2, hb4⟩
          refine hK.out _ _ (HS.out u4 (Below.transS (Below.transS (Below.transS hb1 hb2) hb3) hb4)) (fun _ => ?_)
          clear hK K
          try simp only [Act.put, List.setIfInBounds_toArray, List.set_cons_zero, List.set_cons_succ]
          have s1 := hb1.size; have s2 := hb2.size; have s3 := hb3.size; have s4 := hb4.size; have l7 := lt_of_block hp7; have l8 := lt_of_block hp8
          have hp7' : u4.heap[p7]? = some (.cells #[.slice none 0 0] 38 (0, 0)) := by rw [(Below.transS (Below.transS hb2 hb3) hb4).block _ l7]; exact hp7
          have hp8' : u4.heap[p8]? = some (.cells #[.slice none 0 0] 38 (0, 0)) := by rw [(Below.transS hb3 hb4).block _ l8]; exact hp8
          refine wpAnyH_ready (rs := [6]) (by kernel_rfl) (by simp) ?_
          refine (AllReadyH.cons (o := { dst := none, op := Go.Op.store 38 (Go.Operand.tmp 7) (Go.Operand.tmp 28), type := 0, pos := "law.go:153", after := #[{ on := 4, ground := Go.Ground.data }, { on := 1, ground := Go.Ground.data }, { on := 3, ground := Go.Ground.chain }, { on := 0, ground := Go.Ground.phase }, { on := 1, ground := Go.Ground.phase }, { on := 2, ground := Go.Ground.textOnly Go.Departure.lateStores }, { on := 3, ground := Go.Ground.textOnly Go.Departure.lateStoresUnsure }, { on := 4, ground := Go.Ground.phase }, { on := 5, ground := Go.Ground.phase }], guard := none }) rfl (fun K hK => ?_) AllReadyH.nil)
          refine step_storeC rfl _ _ rfl p7 (by rfl) ad1 n cap1 (by rfl) hp7' ?_
          intro w6 hx6 hF6
          have hb6 : Below u0.heap.size u0 w6 := (Below.transS (Below.transS (Below.transS hb1 hb2) hb3) hb4).trans (hF6.below (by omega) (by simp; omega))
          refine hK.out _ _ (HS.out w6 hb6) (fun _ => ?_)
          clear hK K
          try simp only [Act.put]
          refine wpAnyH_ready (rs := [7]) (by kernel_rfl) (by simp) ?_
          refine (AllReadyH.cons (o := { dst := none, op := Go.Op.store 38 (Go.Operand.tmp 8) (Go.Operand.tmp 30), type := 0, pos := "law.go:153", after := #[{ on := 5, ground := Go.Ground.data }, { on := 3, ground := Go.Ground.data }, { on := 6, ground := Go.Ground.chain }, { on := 0, ground := Go.Ground.phase }, { on := 1, ground := Go.Ground.phase }, { on := 2, ground := Go.Ground.phase }, { on := 3, ground := Go.Ground.phase }, { on := 4, ground := Go.Ground.phase }, { on := 5, ground := Go.Ground.phase }, { on := 6, ground := Go.Ground.phase }], guard := none }) rfl (fun K hK => ?_) AllReadyH.nil)
          refine step_storeC rfl _ _ rfl p8 (by rfl) ad2 m cap2 (by rfl) (hF6.heap hp8' (by simp; omega)) ?_
          intro w7 hx7 hF7
          have hb7 : Below u0.heap.size u0 w7 := hb6.trans (hF7.below hb6.size (by simp; omega))
          refine hK.out _ _ (HS.out w7 hb7) (fun _ => ?_)
          clear hK K
          try simp only [Act.put]
          refine wpAnyH_done (by kernel_rfl) (NoPanic.normal ?_) _
          try simp only [Act.put, List.setIfInBounds_toArray, List.set_cons_zero, List.set_cons_succ]
          go_wp2_with fail
          go_meet
          exact ⟨p7, p8, ad1, cap1, ad2, cap2, rfl, rfl, HBd.out _ hb7, hF7.heap hx6 (by simp; omega), hx7, leaf_br hI1 hb4 hF6 hF7 (by omega) (by omega), leaf_br hI2 (Below.refl _ _) hF6 hF7 (by omega) (by omega)⟩
      ·
        refine step_allocC rfl rfl ?_
        intro p8 u1 hp8 hl8 hb1
        refine hK.out _ _ (HS.out u1 hb1) (fun _ => ?_)
        clear hK K
        try simp only [Act.put, List.setIfInBounds_toArray, List.set_cons_zero, List.set_cons_succ]
        refine wpAnyH_ready (rs := [1, 4]) (by kernel_rfl) (by simp) ?_
        refine (AllReadyH.cons (o := { dst := some 28, op := Go.Op.call { callee := Go.Callee.value (Go.Operand.func 10), args := #[Go.Operand.tmp 27], argTypes := #[24] }, type := 38, pos := "law.go:153", after := #[{ on := 0, ground := Go.Ground.data }], guard := none }) rfl (fun K hK => ?_) (AllReadyH.cons (o := { dst := some 7, op := Go.Op.alloc 38, type := 0, pos := "law.go:153", after := #[], guard := none }) rfl (fun K hK => ?_) AllReadyH.nil))
        ·
          go_simp
          refine (give_in ad n cap X u1 (HE.out u1 hb1).1 hn6 HX6.out).mono ?_
          rintro e u2 ⟨ad1, cap1, rfl, hI1, hb2⟩
          refine hK.out _ _ (HS.out u2 (Below.transS hb1 hb2)) (fun _ => ?_)
          clear hK K
          try simp only [Act.put, List.setIfInBounds_toArray, List.set_cons_zero, List.set_cons_succ]
          refine wpAnyH_ready (rs := [3, 4]) (by kernel_rfl) (by simp) ?_
          refine (AllReadyH.cons (o := { dst := some 30, op := Go.Op.call { callee := Go.Callee.value (Go.Operand.func 10), args := #[Go.Operand.tmp 29], argTypes := #[24] }, type := 38, pos := "law.go:153", after := #[{ on := 2, ground := Go.Ground.data }, { on := 1, ground := Go.Ground.chain }], guard := none }) rfl (fun K hK => ?_) (AllReadyH.cons (o := { dst := some 7, op := Go.Op.alloc 38, type := 0, pos := "law.go:153", after := #[], guard := none }) rfl (fun K hK => ?_) AllReadyH.nil))
          ·
            go_simp
            refine (give_in bd m dap Y u2 (HE.out u2 (Below.transS hb1 hb2)).2 hm6 HY6.out).mono ?_
            rintro e u3 ⟨ad2, cap2, rfl, hI2, hb3⟩
            refine hK.out _ _ (HS.out u3 (Below.transS (Below.transS hb1 hb2) hb3)) (fun _ => ?_)
            clear hK K
            try simp only [Act.put, List.setIfInBounds_toArray, List.set_cons_zero, List.set_cons_succ]
            refine wpAnyH_ready (rs := [4]) (by kernel_rfl) (by simp) ?_
            refine (AllReadyH.cons (o := { dst := some 7, op := Go.Op.alloc 38, type := 0, pos := "law.go:153", after := #[], guard := none }) rfl (fun K hK => ?_) AllReadyH.nil)
            refine step_allocC rfl rfl ?_
            intro p7 u4 hp7 hl7 hb4
            refine hK.out _ _ (HS.out u4 (Below.transS (Below.transS (Below.transS hb1 hb2) hb3) hb4)) (fun _ => ?_)
            clear hK K
            try simp only [Act.put, List.setIfInBounds_toArray, List.set_cons_zero, List.set_cons_succ]
            have s1 := hb1.size; have s2 := hb2.size; have s3 := hb3.size; have s4 := hb4.size; have l7 := lt_of_block hp7; have l8 := lt_of_block hp8
            have hp7' : u4.heap[p7]? = some (.cells #[.slice none 0 0] 38 (0, 0)) := by rw [(Below.refl _ _).block _ l7]; exact hp7
            have hp8' : u4.heap[p8]? = some (.cells #[.slice none 0 0] 38 (0, 0)) := by rw [(Below.transS (Below.transS hb2 hb3) hb4).block _ l8]; exact hp8
            refine wpAnyH_ready (rs := [6]) (by kernel_rfl) (by simp) ?_
            refine (AllReadyH.cons (o := { dst := none, op := Go.Op.store 38 (Go.Operand.tmp 7) (Go.Operand.tmp 28), type := 0, pos := "law.go:153", after := #[{ on := 4, ground := Go.Ground.data }, { on := 1, ground := Go.Ground.data }, { on := 3, ground := Go.Ground.chain }, { on := 0, ground := Go.Ground.phase }, { on := 1, ground := Go.Ground.phase }, { on := 2, ground := Go.Ground.textOnly Go.Departure.lateStores }, { on := 3, ground := Go.Ground.textOnly Go.Departure.lateStoresUnsure }, { on := 4, ground := Go.Ground.phase }, { on := 5, ground := Go.Ground.phase }], guard := none }) rfl (fun K hK => ?_) AllReadyH.nil)
            refine step_storeC rfl _ _ rfl p7 (by rfl) ad1 n cap1 (by rfl) hp7' ?_
            intro w6 hx6 hF6
            have hb6 : Below u0.heap.size u0 w6 := (Below.transS (Below.transS (Below.transS hb1 hb2) hb3) hb4).trans (hF6.below (by omega) (by simp; omega))
            refine hK.out _ _ (HS.out w6 hb6) (fun _ => ?_)
            clear hK K
            try simp only [Act.put]
            refine wpAnyH_ready (rs := [7]) (by kernel_rfl) (by simp) ?_
            refine (AllReadyH.cons (o := { dst := none, op := Go.Op.store 38 (Go.Operand.tmp 8) (Go.Operand.tmp 30), type := 0, pos := "law.go:153", after := #[{ on := 5, ground := Go.Ground.data }, { on := 3, ground := Go.Ground.data }, { on := 6, ground := Go.Ground.chain }, { on := 0, ground := Go.Ground.phase }, { on := 1, ground := Go.Ground.phase }, { on := 2, ground := Go.Ground.phase }, { on := 3, ground := Go.Ground.phase }, { on := 4, ground := Go.Ground.phase }, { on := 5, ground := Go.Ground.phase }, { on := 6, ground := Go.Ground.phase }], guard := none }) rfl (fun K hK => ?_) AllReadyH.nil)
            refine step_storeC rfl _ _ rfl p8 (by rfl) ad2 m cap2 (by rfl) (hF6.heap hp8' (by simp; omega)) ?_
            intro w7 hx7 hF7
            have hb7 : Below u0.heap.size u0 w7 := hb6.trans (hF7.below hb6.size (by simp; omega))
            refine hK.out _ _ (HS.out w7 hb7) (fun _ => ?_)
            clear hK K
            try simp only [Act.put]
            refine wpAnyH_done (by kernel_rfl) (NoPanic.normal ?_) _
            try simp only [Act.put, List.setIfInBounds_toArray, List.set_cons_zero, List.set_cons_succ]
            go_wp2_with fail
            go_meet
            exact ⟨p7, p8, ad1, cap1, ad2, cap2, rfl, rfl, HBd.out _ hb7, hF7.heap hx6 (by simp; omega), hx7, leaf_br hI1 (Below.transS hb3 hb4) hF6 hF7 (by omega) (by omega), leaf_br hI2 hb4 hF6 hF7 (by omega) (by omega)⟩
          ·
            refine step_allocC rfl rfl ?_
            intro p7 u3 hp7 hl7 hb3
            refine hK.out _ _ (HS.out u3 (Below.transS (Below.transS hb1 hb2) hb3)) (fun _ => ?_)
            clear hK K
            try simp only [Act.put, List.setIfInBounds_toArray, List.set_cons_zero, List.set_cons_succ]
            refine wpAnyH_ready (rs := [3]) (by kernel_rfl) (by simp) ?_
            refine (AllReadyH.cons (o := { dst := some 30, op := Go.Op.call { callee := Go.Callee.value (Go.Operand.func 10), args := #[Go.Operand.tmp 29], argTypes := #[24] }, type := 38, pos := "law.go:153", after := #[{ on := 2, ground := Go.Ground.data }, { on := 1, ground := Go.Ground.chain }], guard := none }) rfl (fun K hK => ?_) AllReadyH.nil)
            go_simp
            refine (give_in bd m dap Y u3 (HE.out u3 (Below.transS (Below.transS hb1 hb2) hb3)).2 hm6 HY6.out).mono ?_
            rintro e u4 ⟨ad2, cap2, rfl, hI2, hb4⟩
            refine hK.out _ _ (HS.out u4 (Below.transS (Below.transS (Below.transS hb1 hb2) hb3) hb4)) (fun _ => ?_)
            clear hK K
            try simp only [Act.put, List.setIfInBounds_toArray, List.set_cons_zero, List.set_cons_succ]
            have s1 := hb1.size; have s2 := hb2.size; have s3 := hb3.size; have s4 := hb4.size; have l7 := lt_of_block hp7; have l8 := lt_of_block hp8
            have hp7' : u4.heap[p7]? = some (.cells #[.slice none 0 0] 38 (0, 0)) := by rw [hb4.block _ l7]; exact hp7
            have hp8' : u4.heap[p8]? = some (.cells #[.slice none 0 0] 38 (0, 0)) := by rw [(Below.transS (Below.transS hb2 hb3) hb4).block _ l8]; exact hp8
            refine wpAnyH_ready (rs := [6]) (by kernel_rfl) (by simp) ?_
            refine (AllReadyH.cons (o := { dst := none, op := Go.Op.store 38 (Go.Operand.tmp 7) (Go.Operand.tmp 28), type := 0, pos := "law.go:153", after := #[{ on := 4, ground := Go.Ground.data }, { on := 1, ground := Go.Ground.data }, { on := 3, ground := Go.Ground.chain }, { on := 0, ground := Go.Ground.phase }, { on := 1, ground := Go.Ground.phase }, { on := 2, ground := Go.Ground.textOnly Go.Departure.lateStores }, { on := 3, ground := Go.Ground.textOnly Go.Departure.lateStoresUnsure }, { on := 4, ground := Go.Ground.phase }, { on := 5, ground := Go.Ground.phase }], guard := none }) rfl (fun K hK => ?_) AllReadyH.nil)
            refine step_storeC rfl _ _ rfl p7 (by rfl) ad1 n cap1 (by rfl) hp7' ?_
            intro w6 hx6 hF6
            have hb6 : Below u0.heap.size u0 w6 := (Below.transS (Below.transS (Below.transS hb1 hb2) hb3) hb4).trans (hF6.below (by omega) (by simp; omega))
            refine hK.out _ _ (HS.out w6 hb6) (fun _ => ?_)
            clear hK K
            try simp only [Act.put]
            refine wpAnyH_ready (rs := [7]) (by kernel_rfl) (by simp) ?_
            refine (AllReadyH.cons (o := { dst := none, op := Go.Op.store 38 (Go.Operand.tmp 8) (Go.Operand.tmp 30), type := 0, pos := "law.go:153", after := #[{ on := 5, ground := Go.Ground.data }, { on := 3, ground := Go.Ground.data }, { on := 6, ground := Go.Ground.chain }, { on := 0, ground := Go.Ground.phase }, { on := 1, ground := Go.Ground.phase }, { on := 2, ground := Go.Ground.phase }, { on := 3, ground := Go.Ground.phase }, { on := 4, ground := Go.Ground.phase }, { on := 5, ground := Go.Ground.phase }, { on := 6, ground := Go.Ground.phase }], guard := none }) rfl (fun K hK => ?_) AllReadyH.nil)
            refine step_storeC rfl _ _ rfl p8 (by rfl) ad2 m cap2 (by rfl) (hF6.heap hp8' (by simp; omega)) ?_
            intro w7 hx7 hF7
            have hb7 : Below u0.heap.size u0 w7 := hb6.trans (hF7.below hb6.size (by simp; omega))
            refine hK.out _ _ (HS.out w7 hb7) (fun _ => ?_)
            clear hK K
            try simp only [Act.put]
            refine wpAnyH_done (by kernel_rfl) (NoPanic.normal ?_) _
            try simp only [Act.put, List.setIfInBounds_toArray, List.set_cons_zero, List.set_cons_succ]
            go_wp2_with fail
            go_meet
            exact ⟨p7, p8, ad1, cap1, ad2, cap2, rfl, rfl, HBd.out _ hb7, hF7.heap hx6 (by simp; omega), hx7, leaf_br hI1 (Below.transS hb3 hb4) hF6 hF7 (by omega) (by omega), leaf_br hI2 (Below.refl _ _) hF6 hF7 (by omega) (by omega)⟩
        ·
          refine step_allocC rfl rfl ?_
          intro p7 u2 hp7 hl7 hb2
          refine hK.out _ _ (HS.out u2 (Below.transS hb1 hb2)) (fun _ => ?_)
          clear hK K
          try simp only [Act.put, List.setIfInBounds_toArray, List.set_cons_zero, List.set_cons_succ]
          refine wpAnyH_ready (rs := [1]) (by kernel_rfl) (by simp) ?_
          refine (AllReadyH.cons (o := { dst := some 28, op := Go.Op.call { callee := Go.Callee.value (Go.Operand.func 10), args := #[Go.Operand.tmp 27], argTypes := #[24] }, type := 38, pos := "law.go:153", after := #[{ on := 0, ground := Go.Ground.data }], guard := none }) rfl (fun K hK => ?_) AllReadyH.nil)
          go_simp
          refine (give_in ad n cap X u2 (HE.out u2 (Below.transS hb1 hb2)).1 hn6 HX6.out).mono ?_
          rintro e u3 ⟨ad1, cap1, rfl, hI1, hb3⟩
          refine hK.out _ _ (HS.out u3 (Below.transS (Below.transS hb1 hb2) hb3)) (fun _ => ?_)
          clear hK K
          try simp only [Act.put, List.setIfInBounds_toArray, List.set_cons_zero, List.set_cons_succ]
          refine wpAnyH_ready (rs := [3]) (by kernel_rfl) (by simp) ?_
          refine (AllReadyH.cons (o := { dst := some 30, op := Go.Op.call { callee := Go.Callee.value (Go.Operand.func 10), args := #[Go.Operand.tmp 29], argTypes := #[24] }, type := 38, pos := "law.go:153", after := #[{ on := 2, ground := Go.Ground.data }, { on := 1, ground := Go.Ground.chain }], guard := none }) rfl (fun K hK => ?_) AllReadyH.nil)
          go_simp
          refine (give_in bd m dap Y u3 (HE.out u3 (Below.transS (Below.transS hb1 hb2) hb3)).2 hm6 HY6.out).mono ?_
          rintro e u4 ⟨ad2, cap2, rfl, hI2, hb4⟩
          refine hK.out _ _ (HS.out u4 (Below.transS (Below.transS (Below.transS hb1 hb2) hb3) hb4)) (fun _ => ?_)
          clear hK K
          try simp only [Act.put, List.setIfInBounds_toArray, List.set_cons_zero, List.set_cons_succ]
          have s1 := hb1.size; have s2 := hb2.size; have s3 := hb3.size; have s4 := hb4.size; have l7 := lt_of_block hp7; have l8 := lt_of_block hp8
          have hp7' : u4.heap[p7]? = some (.cells #[.slice none 0 0] 38 (0, 0)) := by rw [(Below.transS hb3 hb4).block _ l7]; exact hp7
          have hp8' : u4.heap[p8]? = some (.cells #[.slice none 0 0] 38 (0, 0)) := by rw [(Below.transS (Below.transS hb2 hb3) hb4).block _ l8]; exact hp8
          refine wpAnyH_ready (rs := [6]) (by kernel_rfl) (by simp) ?_
          refine (AllReadyH.cons (o := { dst := none, op := Go.Op.store 38 (Go.Operand.tmp 7) (Go.Operand.tmp 28), type := 0, pos := "law.go:153", after := #[{ on := 4, ground := Go.Ground.data }, { on := 1, ground := Go.Ground.data }, { on := 3, ground := Go.Ground.chain }, { on := 0, ground := Go.Ground.phase }, { on := 1, ground := Go.Ground.phase }, { on := 2, ground := Go.Ground.textOnly Go.Departure.lateStores }, { on := 3, ground := Go.Ground.textOnly Go.Departure.lateStoresUnsure }, { on := 4, ground := Go.Ground.phase }, { on := 5, ground := Go.Ground.phase }], guard := none }) rfl (fun K hK => ?_) AllReadyH.nil)
          refine step_storeC rfl _ _ rfl p7 (by rfl) ad1 n cap1 (by rfl) hp7' ?_
          intro w6 hx6 hF6
          have hb6 : Below u0.heap.size u0 w6 := (Below.transS (Below.transS (Below.transS hb1 hb2) hb3) hb4).trans (hF6.below (by omega) (by simp; omega))
          refine hK.out _ _ (HS.out w6 hb6) (fun _ => ?_)
          clear hK K
          try simp only [Act.put]
          refine wpAnyH_ready (rs := [7]) (by kernel_rfl) (by simp) ?_
          refine (AllReadyH.cons (o := { dst := none, op := Go.Op.store 38 (Go.Operand.tmp 8) (Go.Operand.tmp 30), type := 0, pos := "law.go:153", after := #[{ on := 5, ground := Go.Ground.data }, { on := 3, ground := Go.Ground.data }, { on := 6, ground := Go.Ground.chain }, { on := 0, ground := Go.Ground.phase }, { on := 1, ground := Go.Ground.phase }, { on := 2, ground := Go.Ground.phase }, { on := 3, ground := Go.Ground.phase }, { on := 4, ground := Go.Ground.phase }, { on := 5, ground := Go.Ground.phase }, { on := 6, ground := Go.Ground.phase }], guard := none }) rfl (fun K hK => ?_) AllReadyH.nil)
          refine step_storeC rfl _ _ rfl p8 (by rfl) ad2 m cap2 (by rfl) (hF6.heap hp8' (by simp; omega)) ?_
          intro w7 hx7 hF7
          have hb7 : Below u0.heap.size u0 w7 := hb6.trans (hF7.below hb6.size (by simp; omega))
          refine hK.out _ _ (HS.out w7 hb7) (fun _ => ?_)
          clear hK K
          try simp only [Act.put]
          refine wpAnyH_done (by kernel_rfl) (NoPanic.normal ?_) _
          try simp only [Act.put, List.setIfInBounds_toArray, List.set_cons_zero, List.set_cons_succ]
          go_wp2_with fail
          go_meet
          exact ⟨p7, p8, ad1, cap1, ad2, cap2, rfl, rfl, HBd.out _ hb7, hF7.heap hx6 (by simp; omega), hx7, leaf_br hI1 hb4 hF6 hF7 (by omega) (by omega), leaf_br hI2 (Below.refl _ _) hF6 hF7 (by omega) (by omega)⟩
  case rest =>
    obtain ⟨p7, p8, ad1, cap1, ad2, cap2, rfl, rfl, hR⟩ := hcut
    have HR : Hid (EiR w2 wc p7 p8 n X m Y ad1 cap1 ad2 cap2) := hR
    have c7 : wc.cell? ⟨p7, 0, none⟩ = some (.slice ad1 n cap1) := by rw [cell_of_row _ _ 0 _ _ _ hR.b7]; rfl
    have c8 : wc.cell? ⟨p8, 0, none⟩ = some (.slice ad2 m cap2) := by rw [cell_of_row _ _ 0 _ _ _ hR.b8]; rfl
    clear hR
    go_wp2_with fail
    refine (or_any ad1 n cap1 X ad2 m cap2 Y wc HR.out.x HR.out.y hnm HX6.out HY6.out).mono ?_
    rintro e wd ⟨v, A, rfl, hG⟩
    have hOk : ∀ j, j < n + m → (joinB X n Y j).Ok := fun j hj => by
      by_cases h : j < n
      · rw [joinB_l h]; exact HR.out.x.ok j h
      · have e : j = n + (j - n) := by omega
        rw [e, joinB_r]; exact HR.out.y.ok _ (by omega)
    obtain ⟨ado, capo, rfl, hIn⟩ := hG.brIn hOk
    have HZ6 : Hid (∀ i, i < n + m → (joinB X n Y i).n ≤ 1000000) := fun i hi => by
      by_cases h : i < n
      · rw [joinB_l h]; exact HX6.out i h
      · have e : i = n + (i - n) := by omega
        rw [e, joinB_r]; exact HY6.out _ (by omega)
    have hb9 : Below wc.heap.size wc (wd.alloc (.cells #[.slice ado (n + m) capo] 38)) := hG.below.alloc hG.below.size _
    have h9 := heap_alloc_new wd (.cells #[.slice ado (n + m) capo] 38)
    have hz9 : BrAt (wd.alloc (.cells #[.slice ado (n + m) capo] 38)) ado (n + m) (joinB X n Y) := hIn _ (fun k h1 h2 => Below.heap_alloc _ _ _ h2)
    have HH : Hid (Below wc.heap.size wc (wd.alloc (.cells #[.slice ado (n + m) capo] 38)) ∧ (wd.alloc (.cells #[.slice ado (n + m) capo] 38)).heap[wd.heap.size]? = some (.cells #[.slice ado (n + m) capo] 38 (0, 0)) ∧ BrAt (wd.alloc (.cells #[.slice ado (n + m) capo] 38)) ado (n + m) (joinB X n Y)) := ⟨hb9, h9, hz9⟩
    have e7 : (wd.alloc (.cells #[.slice ado (n + m) capo] 38)).cell? ⟨p7, 0, none⟩ = some (.slice ad1 n cap1) := by rw [hb9.cell (p := ⟨p7, 0, none⟩) (World.block_lt_of_cell? wc _ c7)]; exact c7
    clear c7 c8 hG hOk hIn hb9 h9 hz9
    go_wp2_with fail
    generalize wd.alloc (.cells #[.slice ado (n + m) capo] 38) = we at *
    generalize wd.heap.size = p9 at *
    have HEi : Hid (EiR w2 we p7 p8 n X m Y ad1 cap1 ad2 cap2 ∧ we.heap[p9]? = some (.cells #[.slice ado (n + m) capo] 38 (0, 0)) ∧ BrAt we ado (n + m) (joinB X n Y)) := by
      obtain ⟨h1, h2, h3⟩ := HH.out
      have hR := HR.out
      exact ⟨⟨Below.transS hR.below h1, by rw [h1.block _ (lt_of_block hR.b7)]; exact hR.b7, by rw [h1.block _ (lt_of_block hR.b8)]; exact hR.b8, hR.x.below h1, hR.y.below h1⟩, h2, h3⟩
    clear HH HR
    have KE : Hid (∀ wa wb, (EiR w2 wa p7 p8 n X m Y ad1 cap1 ad2 cap2 ∧ wa.heap[p9]? = some (.cells #[.slice ado (n + m) capo] 38 (0, 0)) ∧ BrAt wa ado (n + m) (joinB X n Y)) → Below wa.heap.size wa wb → (EiR w2 wb p7 p8 n X m Y ad1 cap1 ad2 cap2 ∧ wb.heap[p9]? = some (.cells #[.slice ado (n + m) capo] 38 (0, 0)) ∧ BrAt wb ado (n + m) (joinB X n Y))) := fun wa wb h h1 =>
      ⟨⟨Below.transS h.1.below h1, by rw [h1.block _ (lt_of_block h.1.b7)]; exact h.1.b7, by rw [h1.block _ (lt_of_block h.1.b8)]; exact h.1.b8, h.1.x.below h1, h.1.y.below h1⟩, by rw [h1.block _ (lt_of_block h.2.1)]; exact h.2.1, h.2.2.below h1⟩
    refine (check_any ad1 n cap1 X we HEi.out.1.x hn6 HX6.out).mono ?_
    rintro e wf ⟨rfl, hbf⟩
    have HEf : Hid _ := KE.out _ _ HEi.out hbf
    clear hbf HEi e7
    by_cases hCX : ¬ COk X n
    · rw [show chkE X n = 1 from if_neg hCX, errV_ne (by omega : (1 : Int) ≠ 0)]
      go_wp2_with fail
      refine (sure_any wf (HBx.out wf HEf.out.1.below).2.2.1.glob).mono ?_
      rintro e w3 ⟨rfl, hb3⟩
      have hbe := Below.transS (HBx.out wf HEf.out.1.below).2.1 hb3
      clear hb3
      go_wp2
      go_ret
      exact ⟨rfl, hbe⟩
    rw [show chkE X n = 0 from if_pos (Decidable.not_not.1 hCX), show errV 0 = .nilIface from rfl]
    have e8 : wf.cell? ⟨p8, 0, none⟩ = some (.slice ad2 m cap2) := by rw [cell_of_row _ _ 0 _ _ _ HEf.out.1.b8]; rfl
    go_wp2_with fail
    refine (check_any ad2 m cap2 Y wf HEf.out.1.y hm6 HY6.out).mono ?_
    rintro e wg ⟨rfl, hbg⟩
    have HEg : Hid _ := KE.out _ _ HEf.out hbg
    clear hbg HEf e8
    by_cases hCY : ¬ COk Y m
    · rw [show chkE Y m = 1 from if_neg hCY, errV_ne (by omega : (1 : Int) ≠ 0)]
      go_wp2_with fail
      refine (sure_any wg (HBx.out wg HEg.out.1.below).2.2.1.glob).mono ?_
      rintro e w3 ⟨rfl, hb3⟩
      have hbe := Below.transS (HBx.out wg HEg.out.1.below).2.1 hb3
      clear hb3
      go_wp2
      go_ret
      exact ⟨rfl, hbe⟩
    rw [show chkE Y m = 0 from if_pos (Decidable.not_not.1 hCY), show errV 0 = .nilIface from rfl]
    have e9 : wg.cell? ⟨p9, 0, none⟩ = some (.slice ado (n + m) capo) := by rw [cell_of_row _ _ 0 _ _ _ HEg.out.2.1]; rfl
    go_wp2_with fail
    refine (check_any ado (n + m) capo (joinB X n Y) wg HEg.out.2.2 hnm HZ6.out).mono ?_
    rintro e wh ⟨rfl, hbh⟩
    have HEh : Hid _ := KE.out _ _ HEg.out hbh
    clear hbh HEg e9
    by_cases hCZ : ¬ COk (joinB X n Y) (n + m)
    · rw [show chkE (joinB X n Y) (n + m) = 1 from if_neg hCZ, errV_ne (by omega : (1 : Int) ≠ 0)]
      go_wp2_with fail
      refine (sure_any wh (HBx.out wh HEh.out.1.below).2.2.1.glob).mono ?_
      rintro e w3 ⟨rfl, hb3⟩
      have hbe := Below.transS (HBx.out wh HEh.out.1.below).2.1 hb3
      clear hb3
      go_wp2
      go_ret
      exact ⟨rfl, hbe⟩
    rw [show chkE (joinB X n Y) (n + m) = 0 from if_pos (Decidable.not_not.1 hCZ), show errV 0 = .nilIface from rfl]
    have hn1 : 1 ≤ n := (Decidable.not_not.1 hCX).1.1
    have hm1 : 1 ≤ m := (Decidable.not_not.1 hCY).1.1
    have hBw := HBx.out wh HEh.out.1.below
    have c50 : wh.cell? ⟨w.heap.size + 1 + 1, 0, none⟩ = some (.int .i64 br) := by rw [cell_of_row _ _ 0 _ _ _ hBw.1.2.2]; rfl
    have c30 : wh.cell? ⟨w.heap.size, 0, none⟩ = some (.slice ad n cap) := by rw [cell_of_row _ _ 0 _ _ _ hBw.1.1]; rfl
    have c40 : wh.cell? ⟨w.heap.size + 1, 0, none⟩ = some (.slice bd m dap) := by rw [cell_of_row _ _ 0 _ _ _ hBw.1.2.1]; rfl
    have hr5 : wh.rangeAt (w.heap.size + 1 + 1) 1 (sn4 sa sn sc ta T.length tc ht ag).toList := by
      intro j u hu
      rw [cell_of_row _ _ _ _ _ _ hBw.1.2.2, Nat.add_comm 1 j]
      simpa [sn4] using hu
    have HR5 : Hid (wh.rangeAt (w.heap.size + 1 + 1) 1 (sn4 sa sn sc ta T.length tc ht ag).toList) := hr5
    have HC5 : Hid (wh.cell? ⟨w.heap.size + 1 + 1, 0, none⟩ = some (.int .i64 br) ∧ wh.cell? ⟨w.heap.size, 0, none⟩ = some (.slice ad n cap) ∧ wh.cell? ⟨w.heap.size + 1, 0, none⟩ = some (.slice bd m dap)) := ⟨c50, c30, c40⟩
    have hn10 : (wh.alloc (.cells #[.slice none 0 0, .slice none 0 0, .int .i64 0, .int .i64 0] 31)).heap[wh.heap.size]? = some (.cells #[.slice none 0 0, .slice none 0 0, .int .i64 0, .int .i64 0] 31 (0, 0)) := heap_alloc_new wh _
    have HS10 : Hid (∀ w' : World, w'.heap[wh.heap.size]? = some (.cells (sn4 sa sn sc ta T.length tc ht ag) 31 (0, 0)) → Frm [wh.heap.size] (wh.alloc (.cells #[.slice none 0 0, .slice none 0 0, .int .i64 0, .int .i64 0] 31)) w' → Below wh.heap.size wh w' ∧ w'.cell? ⟨w.heap.size + 1 + 1, 0, none⟩ = some (.int .i64 br) ∧ w'.cell? ⟨w.heap.size, 0, none⟩ = some (.slice ad n cap) ∧ w'.cell? ⟨w.heap.size + 1, 0, none⟩ = some (.slice bd m dap)) := by
      intro w' h1 h2
      have h3 : Below wh.heap.size wh w' := ((Below.refl _ wh).alloc (Nat.le_refl _) _).trans (h2.below (by simp) (by simp))
      exact ⟨h3, by rw [h3.cell (World.block_lt_of_cell? wh _ HC5.out.1)]; exact HC5.out.1, by rw [h3.cell (World.block_lt_of_cell? wh _ HC5.out.2.1)]; exact HC5.out.2.1, by rw [h3.cell (World.block_lt_of_cell? wh _ HC5.out.2.2)]; exact HC5.out.2.2⟩
    clear hBw c50 c30 c40 hr5
    go_wp2_with (first | (refine wpList_load_mid rfl 28 _ rfl (w.heap.size + 1 + 1) 1 rfl (sn4 sa sn sc ta T.length tc ht ag).toList _ HR5.out Tryd.underlying28 rfl (szSnl _ _ _ _ _ _ _ _) ?_) | (refine wpList_storeRow 31 szSeen rfl _ _ rfl wh.heap.size rfl (sn4 sa sn sc ta T.length tc ht ag) _ rfl rfl (sn4_one _ _ _ _ _ _ _ _) 31 rfl hn10 ?_; intro wi hgi hfi; obtain ⟨hbi, k5, k3, k4⟩ := HS10.out wi hgi hfi; have HGi : Hid (wi.heap[wh.heap.size]? = some (.cells (sn4 sa sn sc ta T.length tc ht ag) 31 (0, 0)) ∧ Below wh.heap.size wh wi) := ⟨hgi, hbi⟩; clear hgi hfi hbi) | fail)
    obtain ⟨i, hi, ei⟩ := rem_ix br n hn1 hn6
    obtain ⟨k, hk, ek⟩ := rem_ix br m hm1 hm6
    rw [ei, ek]
    have hw3 : IntKind.i64.wrap ((n : Int) + k) = (n : Int) + k := by rw [IntKind.wrap_i64]; omega
    have SJ : EBox wi.drew w.heap.size p7 p8 p9 wh.heap.size ad n cap ad1 cap1 ad2 m cap2 ado capo sa sn sc ta T.length tc ht ag := by
      have h1 := KE.out _ _ HEh.out HGi.out.2
      refine EBox.below (w := wi) ⟨k3, by rw [cell_of_row _ _ 0 _ _ _ h1.1.b7]; rfl, by rw [cell_of_row _ _ 0 _ _ _ h1.1.b8]; rfl, by rw [cell_of_row _ _ 0 _ _ _ h1.2.1]; rfl, sn4_range HGi.out.1⟩ ((Below.refl _ wi).drew)
    have HJ : Hid (EAll w wi.drew ad n X m Y ad1 ad2 ado sa sn sz ta T) := by
      have h1 := KE.out _ _ HEh.out HGi.out.2
      have h2 := HBx.out wi h1.1.below
      exact EAll.next (w := wi) ⟨h2.2.1, h2.2.2.1, h1.1.x, h1.1.y, h1.2.2⟩ ((Below.refl _ wi).drew)
    have HCX : Hid (COk X n ∧ COk Y m ∧ COk (joinB X n Y) (n + m)) := ⟨Decidable.not_not.1 hCX, Decidable.not_not.1 hCY, Decidable.not_not.1 hCZ⟩
    clear k5 k3 k4 hn10 HS10 HGi HEh KE HBx HC5 HR5 hCX hCY hCZ ei ek c5
    refine wp_region_noPanic ?_
    refine wp_region_held_drew (S := fun w' => EBox w' w.heap.size p7 p8 p9 wh.heap.size ad n cap ad1 cap1 ad2 m cap2 ado capo sa sn sc ta T.length tc ht ag) (by kernel_rfl) SJ (fun hHeld => ?_)
    obtain ⟨wj, hwj⟩ : ∃ wj, wj = wi.drew := ⟨_, rfl⟩
    rw [← hwj] at SJ HJ ⊢
    have HA0 : Hid (EAll w wj ad n X m Y ad1 ad2 ado sa sn sz ta T) := HJ
    have S0 := SJ
    clear hwj SJ HJ
    refine wpAnyH_take (i := 0) (oi := { dst := some 68, op := Go.Op.load 38 (Go.Operand.tmp 7), type := 38, pos := "law.go:161", after := #[], guard := none }) (v := .agg #[.slice ad1 n cap1]) rfl (by kernel_rfl) (by kernel_rfl) (by kernel_rfl) (fun _ _ _ h => h) (Or.inl ⟨by rfl, ?_⟩) (by assumption) ?_
    · intro wz hSw; (try dsimp only at hSw); have h1 := hSw.x; go_simp; try rfl
    try simp only [Act.put, List.setIfInBounds_toArray, List.set_cons_zero, List.set_cons_succ]
    refine wpAnyH_take (i := 1) (oi := { dst := some 69, op := Go.Op.move (Go.Operand.tmp 11), type := 3, pos := "law.go:161", after := #[], guard := none }) (v := ?_) rfl (by kernel_rfl) (by kernel_rfl) (by kernel_rfl) (fun _ _ _ h => h) (Or.inl ⟨by rfl, ?_⟩) (by assumption) ?_
    rotate_left
    · intro wz hSw; (try dsimp only at hSw); go_simp; (try with_reducible rfl)
    try simp only [Act.put, List.setIfInBounds_toArray, List.set_cons_zero, List.set_cons_succ]
    refine wpAnyH_take (i := 2) (oi := { dst := some 70, op := Go.Op.load 31 (Go.Operand.tmp 10), type := 31, pos := "law.go:161", after := #[], guard := none }) rfl (by kernel_rfl) (by kernel_rfl) (by kernel_rfl) (fun _ _ _ h => h) (yieldsIf_load_mid (by rfl) _ _ rfl wh.heap.size 0 rfl (sn4 sa sn sc ta T.length tc ht ag).toList _ (fun _ h => h.s) Tryd.underlying31 rfl (szSeenl _ _ _ _ _ _ _ _)) (by assumption) ?_
    try simp only [Act.put, List.setIfInBounds_toArray, List.set_cons_zero, List.set_cons_succ]
    refine wpAnyH_take (i := 5) (oi := { dst := some 73, op := Go.Op.load 38 (Go.Operand.tmp 9), type := 38, pos := "law.go:161", after := #[], guard := none }) (v := .agg #[.slice ado (n + m) capo]) rfl (by kernel_rfl) (by kernel_rfl) (by kernel_rfl) (fun _ _ _ h => h) (Or.inl ⟨by rfl, ?_⟩) (by assumption) ?_
    · intro wz hSw; (try dsimp only at hSw); have h1 := hSw.o; go_simp; try rfl
    try simp only [Act.put, List.setIfInBounds_toArray, List.set_cons_zero, List.set_cons_succ]
    refine wpAnyH_take (i := 6) (oi := { dst := some 74, op := Go.Op.move (Go.Operand.tmp 11), type := 3, pos := "law.go:161", after := #[], guard := none }) (v := ?_) rfl (by kernel_rfl) (by kernel_rfl) (by kernel_rfl) (fun _ _ _ h => h) (Or.inl ⟨by rfl, ?_⟩) (by assumption) ?_
    rotate_left
    · intro wz hSw; (try dsimp only at hSw); go_simp; (try with_reducible rfl)
    try simp only [Act.put, List.setIfInBounds_toArray, List.set_cons_zero, List.set_cons_succ]
    refine wpAnyH_take (i := 7) (oi := { dst := some 75, op := Go.Op.load 31 (Go.Operand.tmp 10), type := 31, pos := "law.go:161", after := #[], guard := none }) rfl (by kernel_rfl) (by kernel_rfl) (by kernel_rfl) (fun _ _ _ h => h) (yieldsIf_load_mid (by rfl) _ _ rfl wh.heap.size 0 rfl (sn4 sa sn sc ta T.length tc ht ag).toList _ (fun _ h => h.s) Tryd.underlying31 rfl (szSeenl _ _ _ _ _ _ _ _)) (by assumption) ?_
    try simp only [Act.put, List.setIfInBounds_toArray, List.set_cons_zero, List.set_cons_succ]
    refine wpAnyH_ready (rs := [3]) (by kernel_rfl) (by simp) ?_
    refine (AllReadyH.cons (o := { dst := some 71, op := Go.Op.call { callee := Go.Callee.value (Go.Operand.func 12), args := #[Go.Operand.tmp 68, Go.Operand.tmp 69, Go.Operand.tmp 70], argTypes := #[38, 3, 31] }, type := 34, pos := "law.go:161", after := #[{ on := 0, ground := Go.Ground.data }, { on := 1, ground := Go.Ground.data }, { on := 2, ground := Go.Ground.data }], guard := none }) rfl (fun K hK => ?_) AllReadyH.nil)
    go_simp
    refine (opens_any ad1 n cap1 X i sa sn sc sz ta tc T ht ag wj HA0.out.env.tab HA0.out.env.pos HA0.out.x hn6 HX6.out HA0.out.env.si hsn6 HA0.out.env.se HTy.out hTc hTl).mono ?_
    rintro e v1 ⟨rfl, hb1⟩
    have HA1 : Hid (EAll w v1 ad n X m Y ad1 ad2 ado sa sn sz ta T) := HA0.out.next hb1
    have S1 := S0.below hb1
    clear hb1 HA0 S0
    refine hK.out _ _ S1 (fun _ => ?_)
    clear hK K
    try simp only [Act.put, List.setIfInBounds_toArray, List.set_cons_zero, List.set_cons_succ]
    refine wpAnyH_ready (rs := [4]) (by kernel_rfl) (by simp) ?_
    refine (AllReadyH.cons (o := { dst := some 72, op := Go.Op.call { callee := Go.Callee.value (Go.Operand.func 8), args := #[Go.Operand.tmp 71], argTypes := #[34] }, type := 3, pos := "law.go:161", after := #[{ on := 3, ground := Go.Ground.data }, { on := 3, ground := Go.Ground.chain }], guard := none }) rfl (fun K hK => ?_) AllReadyH.nil)
    go_simp
    refine (num_any (opnA X n i sz sn T ht ag) v1 HA1.out.env.glob).mono ?_
    rintro e v2 ⟨rfl, hb2⟩
    have HA2 : Hid (EAll w v2 ad n X m Y ad1 ad2 ado sa sn sz ta T) := HA1.out.next hb2
    have S2 := S1.below hb2
    clear hb2 HA1 S1
    refine hK.out _ _ S2 (fun _ => ?_)
    clear hK K
    try simp only [Act.put, List.setIfInBounds_toArray, List.set_cons_zero, List.set_cons_succ]
    refine wpAnyH_ready (rs := [8]) (by kernel_rfl) (by simp) ?_
    refine (AllReadyH.cons (o := { dst := some 76, op := Go.Op.call { callee := Go.Callee.value (Go.Operand.func 12), args := #[Go.Operand.tmp 73, Go.Operand.tmp 74, Go.Operand.tmp 75], argTypes := #[38, 3, 31] }, type := 34, pos := "law.go:161", after := #[{ on := 5, ground := Go.Ground.data }, { on := 6, ground := Go.Ground.data }, { on := 7, ground := Go.Ground.data }, { on := 4, ground := Go.Ground.chain }], guard := none }) rfl (fun K hK => ?_) AllReadyH.nil)
    go_simp
    refine (opens_any ado (n + m) capo (joinB X n Y) i sa sn sc sz ta tc T ht ag v2 HA2.out.env.tab HA2.out.env.pos HA2.out.o hnm HZ6.out HA2.out.env.si hsn6 HA2.out.env.se HTy.out hTc hTl).mono ?_
    rintro e v3 ⟨rfl, hb3⟩
    rw [opnA_left HCX.out.1 HCX.out.2.2 i hi]
    have HA3 : Hid (EAll w v3 ad n X m Y ad1 ad2 ado sa sn sz ta T) := HA2.out.next hb3
    have S3 := S2.below hb3
    clear hb3 HA2 S2
    refine hK.out _ _ S3 (fun _ => ?_)
    clear hK K
    try simp only [Act.put, List.setIfInBounds_toArray, List.set_cons_zero, List.set_cons_succ]
    refine wpAnyH_ready (rs := [9]) (by kernel_rfl) (by simp) ?_
    refine (AllReadyH.cons (o := { dst := some 77, op := Go.Op.call { callee := Go.Callee.value (Go.Operand.func 8), args := #[Go.Operand.tmp 76], argTypes := #[34] }, type := 3, pos := "law.go:161", after := #[{ on := 8, ground := Go.Ground.data }, { on := 8, ground := Go.Ground.chain }], guard := none }) rfl (fun K hK => ?_) AllReadyH.nil)
    go_simp
    refine (num_any (opnA X n i sz sn T ht ag) v3 HA3.out.env.glob).mono ?_
    rintro e v4 ⟨rfl, hb4⟩
    have HA4 : Hid (EAll w v4 ad n X m Y ad1 ad2 ado sa sn sz ta T) := HA3.out.next hb4
    have S4 := S3.below hb4
    clear hb4 HA3 S3
    refine hK.out _ _ S4 (fun _ => ?_)
    clear hK K
    try simp only [Act.put, List.setIfInBounds_toArray, List.set_cons_zero, List.set_cons_succ]
    generalize opnA X n i sz sn T ht ag = e1 at *
    refine wpAnyH_take (i := 10) (oi := { dst := some 78, op := Go.Op.binOp Go.BinOp.eql 3 (Go.Operand.tmp 72) (Go.Operand.tmp 77) 3, type := 4, pos := "law.go:161", after := #[{ on := 4, ground := Go.Ground.data }, { on := 9, ground := Go.Ground.data }], guard := none }) (v := ?_) rfl (by kernel_rfl) (by kernel_rfl) (by kernel_rfl) (fun _ _ _ h => h) (Or.inl ⟨by rfl, ?_⟩) (by assumption) ?_
    rotate_left
    · intro wz hSw; (try dsimp only at hSw); go_simp; (try with_reducible rfl)
    try simp only [Act.put, List.setIfInBounds_toArray, List.set_cons_zero, List.set_cons_succ]
    refine wpAnyH_take (i := 11) (oi := { dst := some 79, op := Go.Op.move (Go.Operand.tmp 78), type := 4, pos := "law.go:161", after := #[{ on := 10, ground := Go.Ground.data }, { on := 9, ground := Go.Ground.chain }], guard := none }) (v := ?_) rfl (by kernel_rfl) (by kernel_rfl) (by kernel_rfl) (fun _ _ _ h => h) (Or.inl ⟨by rfl, ?_⟩) (by assumption) ?_
    rotate_left
    · intro wz hSw; (try dsimp only at hSw); go_simp; (try with_reducible rfl)
    try simp only [Act.put, List.setIfInBounds_toArray, List.set_cons_zero, List.set_cons_succ]
    refine wpAnyH_take (i := 12) (oi := { dst := some 80, op := Go.Op.load 38 (Go.Operand.tmp 8), type := 38, pos := "law.go:161", after := #[{ on := 11, ground := Go.Ground.guard }], guard := some (11, true) }) (v := .agg #[.slice ad2 m cap2]) rfl (by kernel_rfl) (by kernel_rfl) (by kernel_rfl) (fun _ _ _ h => h) (Or.inl ⟨by rfl, ?_⟩) (by assumption) ?_
    · intro wz hSw; (try dsimp only at hSw); have h1 := hSw.y; go_simp; try rfl
    try simp only [Act.put, List.setIfInBounds_toArray, List.set_cons_zero, List.set_cons_succ]
    refine wpAnyH_take (i := 13) (oi := { dst := some 81, op := Go.Op.move (Go.Operand.tmp 12), type := 3, pos := "law.go:161", after := #[{ on := 11, ground := Go.Ground.guard }], guard := some (11, true) }) (v := ?_) rfl (by kernel_rfl) (by kernel_rfl) (by kernel_rfl) (fun _ _ _ h => h) (Or.inl ⟨by rfl, ?_⟩) (by assumption) ?_
    rotate_left
    · intro wz hSw; (try dsimp only at hSw); go_simp; (try with_reducible rfl)
    try simp only [Act.put, List.setIfInBounds_toArray, List.set_cons_zero, List.set_cons_succ]
    refine wpAnyH_take (i := 14) (oi := { dst := some 82, op := Go.Op.load 31 (Go.Operand.tmp 10), type := 31, pos := "law.go:161", after := #[{ on := 11, ground := Go.Ground.guard }], guard := some (11, true) }) rfl (by kernel_rfl) (by kernel_rfl) (by kernel_rfl) (fun _ _ _ h => h) (yieldsIf_load_mid (by rfl) _ _ rfl wh.heap.size 0 rfl (sn4 sa sn sc ta T.length tc ht ag).toList _ (fun _ h => h.s) Tryd.underlying31 rfl (szSeenl _ _ _ _ _ _ _ _)) (by assumption) ?_
    try simp only [Act.put, List.setIfInBounds_toArray, List.set_cons_zero, List.set_cons_succ]
    refine wpAnyH_take (i := 17) (oi := { dst := some 85, op := Go.Op.load 38 (Go.Operand.tmp 9), type := 38, pos := "law.go:161", after := #[{ on := 11, ground := Go.Ground.guard }], guard := some (11, true) }) (v := .agg #[.slice ado (n + m) capo]) rfl (by kernel_rfl) (by kernel_rfl) (by kernel_rfl) (fun _ _ _ h => h) (Or.inl ⟨by rfl, ?_⟩) (by assumption) ?_
    · intro wz hSw; (try dsimp only at hSw); have h1 := hSw.o; go_simp; try rfl
    try simp only [Act.put, List.setIfInBounds_toArray, List.set_cons_zero, List.set_cons_succ]
    refine wpAnyH_take (i := 18) (oi := { dst := some 86, op := Go.Op.fieldAddr 24 (Go.Operand.tmp 3) 0, type := 0, pos := "law.go:161", after := #[{ on := 11, ground := Go.Ground.guard }], guard := some (11, true) }) (v := ?_) rfl (by kernel_rfl) (by kernel_rfl) (by kernel_rfl) (fun _ _ _ h => h) (Or.inl ⟨by rfl, ?_⟩) (by assumption) ?_
    rotate_left
    · intro wz hSw; (try dsimp only at hSw); go_simp; (try with_reducible rfl)
    try simp only [Act.put, List.setIfInBounds_toArray, List.set_cons_zero, List.set_cons_succ]
    refine wpAnyH_take (i := 19) (oi := { dst := some 87, op := Go.Op.load 22 (Go.Operand.tmp 86), type := 22, pos := "law.go:161", after := #[{ on := 18, ground := Go.Ground.data }, { on := 11, ground := Go.Ground.guard }], guard := some (11, true) }) (v := .slice ad n cap) rfl (by kernel_rfl) (by kernel_rfl) (by kernel_rfl) (fun _ _ _ h => h) (Or.inl ⟨by rfl, ?_⟩) (by assumption) ?_
    · intro wz hSw; (try dsimp only at hSw); have h1 := hSw.c; go_simp; try rfl
    try simp only [Act.put, List.setIfInBounds_toArray, List.set_cons_zero, List.set_cons_succ]
    refine wpAnyH_take (i := 20) (oi := { dst := some 88, op := Go.Op.call { callee := Go.Callee.builtin Go.Builtin.len, args := #[Go.Operand.tmp 87], argTypes := #[22] }, type := 3, pos := "law.go:161", after := #[{ on := 19, ground := Go.Ground.data }, { on := 11, ground := Go.Ground.guard }], guard := some (11, true) }) (v := ?_) rfl (by kernel_rfl) (by kernel_rfl) (by kernel_rfl) (fun _ _ _ h => h) (Or.inl ⟨by rfl, ?_⟩) (by assumption) ?_
    rotate_left
    · intro wz hSw; (try dsimp only at hSw); go_simp; (try with_reducible rfl)
    try simp only [Act.put, List.setIfInBounds_toArray, List.set_cons_zero, List.set_cons_succ]
    refine wpAnyH_take (i := 21) (oi := { dst := some 89, op := Go.Op.move (Go.Operand.tmp 12), type := 3, pos := "law.go:161", after := #[{ on := 11, ground := Go.Ground.guard }], guard := some (11, true) }) (v := ?_) rfl (by kernel_rfl) (by kernel_rfl) (by kernel_rfl) (fun _ _ _ h => h) (Or.inl ⟨by rfl, ?_⟩) (by assumption) ?_
    rotate_left
    · intro wz hSw; (try dsimp only at hSw); go_simp; (try with_reducible rfl)
    try simp only [Act.put, List.setIfInBounds_toArray, List.set_cons_zero, List.set_cons_succ]
    refine wpAnyH_take (i := 22) (oi := { dst := some 90, op := Go.Op.binOp Go.BinOp.add 3 (Go.Operand.tmp 88) (Go.Operand.tmp 89) 3, type := 3, pos := "law.go:161", after := #[{ on := 20, ground := Go.Ground.data }, { on := 21, ground := Go.Ground.data }, { on := 11, ground := Go.Ground.guard }], guard := some (11, true) }) (v := .int .i64 ((n : Int) + k)) rfl (by kernel_rfl) (by kernel_rfl) (by kernel_rfl) (fun _ _ _ h => h) (Or.inl ⟨by rfl, ?_⟩) (by assumption) ?_
    · intro wz hSw; (try dsimp only at hSw); go_simp; try (rw [hw3]); try rfl
    try simp only [Act.put, List.setIfInBounds_toArray, List.set_cons_zero, List.set_cons_succ]
    refine wpAnyH_take (i := 23) (oi := { dst := some 91, op := Go.Op.load 31 (Go.Operand.tmp 10), type := 31, pos := "law.go:161", after := #[{ on := 11, ground := Go.Ground.guard }], guard := some (11, true) }) rfl (by kernel_rfl) (by kernel_rfl) (by kernel_rfl) (fun _ _ _ h => h) (yieldsIf_load_mid (by rfl) _ _ rfl wh.heap.size 0 rfl (sn4 sa sn sc ta T.length tc ht ag).toList _ (fun _ h => h.s) Tryd.underlying31 rfl (szSeenl _ _ _ _ _ _ _ _)) (by assumption) ?_
    try simp only [Act.put, List.setIfInBounds_toArray, List.set_cons_zero, List.set_cons_succ]
    refine wpAnyH_ready (rs := [15]) (by kernel_rfl) (by simp) ?_
    refine (AllReadyH.cons (o := { dst := some 83, op := Go.Op.call { callee := Go.Callee.value (Go.Operand.func 12), args := #[Go.Operand.tmp 80, Go.Operand.tmp 81, Go.Operand.tmp 82], argTypes := #[38, 3, 31] }, type := 34, pos := "law.go:161", after := #[{ on := 12, ground := Go.Ground.data }, { on := 13, ground := Go.Ground.data }, { on := 14, ground := Go.Ground.data }, { on := 11, ground := Go.Ground.chain }, { on := 11, ground := Go.Ground.guard }], guard := some (11, true) }) rfl (fun K hK => ?_) AllReadyH.nil)
    go_simp
    refine (opens_any ad2 m cap2 Y k sa sn sc sz ta tc T ht ag v4 HA4.out.env.tab HA4.out.env.pos HA4.out.y hm6 HY6.out HA4.out.env.si hsn6 HA4.out.env.se HTy.out hTc hTl).mono ?_
    rintro e v5 ⟨rfl, hb5⟩
    have HA5 : Hid (EAll w v5 ad n X m Y ad1 ad2 ado sa sn sz ta T) := HA4.out.next hb5
    have S5 := S4.below hb5
    clear hb5 HA4 S4
    refine hK.out _ _ S5 (fun _ => ?_)
    clear hK K
    try simp only [Act.put, List.setIfInBounds_toArray, List.set_cons_zero, List.set_cons_succ]
    refine wpAnyH_ready (rs := [16]) (by kernel_rfl) (by simp) ?_
    refine (AllReadyH.cons (o := { dst := some 84, op := Go.Op.call { callee := Go.Callee.value (Go.Operand.func 8), args := #[Go.Operand.tmp 83], argTypes := #[34] }, type := 3, pos := "law.go:161", after := #[{ on := 15, ground := Go.Ground.data }, { on := 15, ground := Go.Ground.chain }, { on := 11, ground := Go.Ground.guard }], guard := some (11, true) }) rfl (fun K hK => ?_) AllReadyH.nil)
    go_simp
    refine (num_any (opnA Y m k sz sn T ht ag) v5 HA5.out.env.glob).mono ?_
    rintro e v6 ⟨rfl, hb6⟩
    have HA6 : Hid (EAll w v6 ad n X m Y ad1 ad2 ado sa sn sz ta T) := HA5.out.next hb6
    have S6 := S5.below hb6
    clear hb6 HA5 S5
    refine hK.out _ _ S6 (fun _ => ?_)
    clear hK K
    try simp only [Act.put, List.setIfInBounds_toArray, List.set_cons_zero, List.set_cons_succ]
    refine wpAnyH_ready (rs := [24]) (by kernel_rfl) (by simp) ?_
    refine (AllReadyH.cons (o := { dst := some 92, op := Go.Op.call { callee := Go.Callee.value (Go.Operand.func 12), args := #[Go.Operand.tmp 85, Go.Operand.tmp 90, Go.Operand.tmp 91], argTypes := #[38, 3, 31] }, type := 34, pos := "law.go:161", after := #[{ on := 17, ground := Go.Ground.data }, { on := 22, ground := Go.Ground.data }, { on := 23, ground := Go.Ground.data }, { on := 16, ground := Go.Ground.chain }, { on := 11, ground := Go.Ground.guard }], guard := some (11, true) }) rfl (fun K hK => ?_) AllReadyH.nil)
    go_simp
    refine (opens_any ado (n + m) capo (joinB X n Y) ((n : Int) + k) sa sn sc sz ta tc T ht ag v6 HA6.out.env.tab HA6.out.env.pos HA6.out.o hnm HZ6.out HA6.out.env.si hsn6 HA6.out.env.se HTy.out hTc hTl).mono ?_
    rintro e v7 ⟨rfl, hb7⟩
    rw [opnA_right HCX.out.2.1 HCX.out.2.2 k hk]
    have HA7 : Hid (EAll w v7 ad n X m Y ad1 ad2 ado sa sn sz ta T) := HA6.out.next hb7
    have S7 := S6.below hb7
    clear hb7 HA6 S6
    refine hK.out _ _ S7 (fun _ => ?_)
    clear hK K
    try simp only [Act.put, List.setIfInBounds_toArray, List.set_cons_zero, List.set_cons_succ]
    refine wpAnyH_ready (rs := [25]) (by kernel_rfl) (by simp) ?_
    refine (AllReadyH.cons (o := { dst := some 93, op := Go.Op.call { callee := Go.Callee.value (Go.Operand.func 8), args := #[Go.Operand.tmp 92], argTypes := #[34] }, type := 3, pos := "law.go:161", after := #[{ on := 24, ground := Go.Ground.data }, { on := 24, ground := Go.Ground.chain }, { on := 11, ground := Go.Ground.guard }], guard := some (11, true) }) rfl (fun K hK => ?_) AllReadyH.nil)
    go_simp
    refine (num_any (opnA Y m k sz sn T ht ag) v7 HA7.out.env.glob).mono ?_
    rintro e v8 ⟨rfl, hb8⟩
    have HA8 : Hid (EAll w v8 ad n X m Y ad1 ad2 ado sa sn sz ta T) := HA7.out.next hb8
    have S8 := S7.below hb8
    clear hb8 HA7 S7
    refine hK.out _ _ S8 (fun _ => ?_)
    clear hK K
    try simp only [Act.put, List.setIfInBounds_toArray, List.set_cons_zero, List.set_cons_succ]
    generalize opnA Y m k sz sn T ht ag = e2 at *
    refine wpAnyH_take (i := 26) (oi := { dst := some 94, op := Go.Op.binOp Go.BinOp.eql 3 (Go.Operand.tmp 84) (Go.Operand.tmp 93) 3, type := 4, pos := "law.go:161", after := #[{ on := 16, ground := Go.Ground.data }, { on := 25, ground := Go.Ground.data }, { on := 11, ground := Go.Ground.guard }], guard := some (11, true) }) (v := ?_) rfl (by kernel_rfl) (by kernel_rfl) (by kernel_rfl) (fun _ _ _ h => h) (Or.inl ⟨by rfl, ?_⟩) (by assumption) ?_
    rotate_left
    · intro wz hSw; (try dsimp only at hSw); go_simp; (try with_reducible rfl)
    try simp only [Act.put, List.setIfInBounds_toArray, List.set_cons_zero, List.set_cons_succ]
    refine wpAnyH_take (i := 27) (oi := { dst := some 95, op := Go.Op.pick (Go.Operand.tmp 79) (Go.Operand.tmp 94) (Go.Operand.const (Go.Value.bool false)), type := 4, pos := "law.go:161", after := #[{ on := 11, ground := Go.Ground.data }, { on := 26, ground := Go.Ground.data }], guard := none }) (v := ?_) rfl (by kernel_rfl) (by kernel_rfl) (by kernel_rfl) (fun _ _ _ h => h) (Or.inl ⟨by rfl, ?_⟩) (by assumption) ?_
    rotate_left
    · intro wz hSw; (try dsimp only at hSw); go_simp; (try with_reducible rfl)
    try simp only [Act.put, List.setIfInBounds_toArray, List.set_cons_zero, List.set_cons_succ]
    refine wpAnyH_take (i := 28) (oi := { dst := some 96, op := Go.Op.move (Go.Operand.tmp 95), type := 4, pos := "law.go:161", after := #[{ on := 27, ground := Go.Ground.data }, { on := 25, ground := Go.Ground.chain }], guard := none }) (v := ?_) rfl (by kernel_rfl) (by kernel_rfl) (by kernel_rfl) (fun _ _ _ h => h) (Or.inl ⟨by rfl, ?_⟩) (by assumption) ?_
    rotate_left
    · intro wz hSw; (try dsimp only at hSw); go_simp; (try with_reducible rfl)
    try simp only [Act.put, List.setIfInBounds_toArray, List.set_cons_zero, List.set_cons_succ]
    refine wpAnyH_ready (rs := [29]) (by kernel_rfl) (by simp) ?_
    refine (AllReadyH.cons (o := { dst := some 97, op := Go.Op.call { callee := Go.Callee.value (Go.Operand.func 7), args := #[], argTypes := #[] }, type := 4, pos := "law.go:161", after := #[{ on := 28, ground := Go.Ground.chain }, { on := 28, ground := Go.Ground.guard }], guard := some (28, true) }) rfl (fun K hK => ?_) AllReadyH.nil)
    go_simp
    refine (sure_any v8 HA8.out.env.glob).mono ?_
    rintro e v9 ⟨rfl, hb9⟩
    have HA9 : Hid (EAll w v9 ad n X m Y ad1 ad2 ado sa sn sz ta T) := HA8.out.next hb9
    have S9 := S8.below hb9
    clear hb9 HA8 S8
    refine hK.out _ _ S9 (fun _ => ?_)
    clear hK K
    try simp only [Act.put, List.setIfInBounds_toArray, List.set_cons_zero, List.set_cons_succ]
    refine wpAnyH_take (i := 30) (oi := { dst := some 98, op := Go.Op.pick (Go.Operand.tmp 96) (Go.Operand.tmp 97) (Go.Operand.const (Go.Value.bool false)), type := 4, pos := "law.go:161", after := #[{ on := 28, ground := Go.Ground.data }, { on := 29, ground := Go.Ground.data }], guard := none }) (v := ?_) rfl (by kernel_rfl) (by kernel_rfl) (by kernel_rfl) (fun _ _ _ h => h) (Or.inl ⟨by rfl, ?_⟩) (by assumption) ?_
    rotate_left
    · intro wz hSw; (try dsimp only at hSw); go_simp; (try with_reducible rfl)
    try simp only [Act.put, List.setIfInBounds_toArray, List.set_cons_zero, List.set_cons_succ]
    refine wpAnyH_take (i := 31) (oi := { dst := some 6, op := Go.Op.assign (Go.Operand.tmp 98), type := 4, pos := "law.go:161", after := #[{ on := 30, ground := Go.Ground.data }, { on := 29, ground := Go.Ground.chain }, { on := 0, ground := Go.Ground.phase }, { on := 1, ground := Go.Ground.phase }, { on := 2, ground := Go.Ground.phase }, { on := 3, ground := Go.Ground.phase }, { on := 4, ground := Go.Ground.phase }, { on := 5, ground := Go.Ground.phase }, { on := 6, ground := Go.Ground.phase }, { on := 7, ground := Go.Ground.phase }, { on := 8, ground := Go.Ground.phase }, { on := 9, ground := Go.Ground.phase }, { on := 10, ground := Go.Ground.phase }, { on := 11, ground := Go.Ground.phase }, { on := 12, ground := Go.Ground.phase }, { on := 13, ground := Go.Ground.phase }, { on := 14, ground := Go.Ground.phase }, { on := 15, ground := Go.Ground.phase }, { on := 16, ground := Go.Ground.phase }, { on := 17, ground := Go.Ground.phase }, { on := 18, ground := Go.Ground.phase }, { on := 19, ground := Go.Ground.phase }, { on := 20, ground := Go.Ground.phase }, { on := 21, ground := Go.Ground.phase }, { on := 22, ground := Go.Ground.phase }, { on := 23, ground := Go.Ground.phase }, { on := 24, ground := Go.Ground.phase }, { on := 25, ground := Go.Ground.phase }, { on := 26, ground := Go.Ground.phase }, { on := 27, ground := Go.Ground.phase }, { on := 28, ground := Go.Ground.phase }, { on := 29, ground := Go.Ground.phase }, { on := 30, ground := Go.Ground.phase }], guard := none }) (v := ?_) rfl (by kernel_rfl) (by kernel_rfl) (by kernel_rfl) (fun _ _ _ h => h) (Or.inl ⟨by rfl, ?_⟩) (by assumption) ?_
    rotate_left
    · intro wz hSw; (try dsimp only at hSw); go_simp; (try with_reducible rfl)
    try simp only [Act.put, List.setIfInBounds_toArray, List.set_cons_zero, List.set_cons_succ]
    refine wpAnyH_done (by kernel_rfl) (NoPanic.normal ?_) _
    try simp only [Act.put, List.setIfInBounds_toArray, List.set_cons_zero, List.set_cons_succ]
    have hbe := HA9.out.below
    clear hHeld S9
    go_wp2
    go_ret
    exact ⟨rfl, hbe⟩
theorem eitherL (ad : Option Addr) (n cap : Nat) (X : Nat → Bv) (bd : Option Addr) (m dap : Nat) (Y : Nat → Bv) (br : Int) (sa : Option Addr) (sn sc : Nat) (sz : Nat → Int) (ta : Option Addr) (tc : Nat) (T : List Nat) (ht ag : Int) (w : World) (hg : Glob w) (hT : Tab w) (hB : BrAt w ad n X) (hn : n ≤ 140737488355328) (hx : ∀ i, i < n → (X i).n ≤ 140737488355328) (hD : BrAt w bd m Y) (hm : m ≤ 140737488355328) (hy : ∀ i, i < m → (Y i).n ≤ 140737488355328) (_ : Ib br) (hs : SeenIn w sa sn sz ta tc T ht ag) :
    Calls Tryd.prog 5 #[.agg #[.slice ad n cap], .agg #[.slice bd m dap], .agg #[.int .i64 br, .slice sa sn sc, .slice ta T.length tc, .int .i64 ht, .int .i64 ag]] w fun e w' => e = .returned (.bool true) ∧ Below w.heap.size w w' :=
  either_any ad n cap X bd m dap Y br sa sn sc sz ta tc T ht ag w ⟨hg, hT, hT.size, hB, hs.si, hs.se⟩ hD hn hx hm hy hs.sl hs.ty hs.tc (by have := hs.tl; omega)
end Go.Proofs.YtecahnafcljljaaDoor
