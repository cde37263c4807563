/- CondMore: the walk. -/
import Derived.Test.YtecahnafcljljaaDoorCMoreK
namespace Go.Proofs.YtecahnafcljljaaDoor
open Go.RowKit Go.Shelf Go.Sort

set_option maxRecDepth 100000 in
set_option maxHeartbeats 6400000 in
theorem more_any (ad : Option Addr) (n cap : Nat) (X : Nat → Bv) (br : Int) (sa : Option Addr) (sn sc : Nat) (sz : Nat → Int) (ta : Option Addr) (tc : Nat) (T : List Nat) (ht ag : Int) (w : World) (hE : Env w ad n X sa sn sz ta T)
    (hn : n ≤ 140737488355328) (hx : ∀ i, i < n → (X i).n ≤ 140737488355328) (hsn : sn ≤ 140737488355328) (hTy : ∀ i, T.getD i 0 < 256) (hTc : T.length ≤ tc) (hTl : T.length ≤ 140737488355328) (hbr : Ib br) (hht : Ib ht) (hag : Ib ag) :
    Calls Tryd.prog 4 #[.agg #[.slice ad n cap], .int .i64 br, .agg #[.slice sa sn sc, .slice ta T.length tc, .int .i64 ht, .int .i64 ag]] w fun e w' => e = .returned (.bool true) ∧ Below w.heap.size w w' := by
  have hb0 : Below w.heap.size w ((w.alloc (.cells #[.slice ad n cap] 24)).alloc (.cells #[.slice sa sn sc, .slice ta T.length tc, .int .i64 ht, .int .i64 ag] 28)) := ((Below.refl _ w).alloc (Nat.le_refl _) _).alloc (by simp) _
  have hn0 : ((w.alloc (.cells #[.slice ad n cap] 24)).alloc (.cells #[.slice sa sn sc, .slice ta T.length tc, .int .i64 ht, .int .i64 ag] 28)).heap[w.heap.size]? = some (.cells #[.slice ad n cap] 24 (0, 0)) := by
    rw [Below.heap_alloc _ _ _ (by simp)]; exact heap_alloc_new w _
  have hn1 : ((w.alloc (.cells #[.slice ad n cap] 24)).alloc (.cells #[.slice sa sn sc, .slice ta T.length tc, .int .i64 ht, .int .i64 ag] 28)).heap[w.heap.size + 1]? = some (.cells (sn4 sa sn sc ta T.length tc ht ag) 28 (0, 0)) := by
    have := heap_alloc_new (w.alloc (.cells #[.slice ad n cap] 24)) (.cells #[.slice sa sn sc, .slice ta T.length tc, .int .i64 ht, .int .i64 ag] 28)
    simpa [sn4] using this
  have HW : Hid (Below w.heap.size w ((w.alloc (.cells #[.slice ad n cap] 24)).alloc (.cells #[.slice sa sn sc, .slice ta T.length tc, .int .i64 ht, .int .i64 ag] 28)) ∧ Env ((w.alloc (.cells #[.slice ad n cap] 24)).alloc (.cells #[.slice sa sn sc, .slice ta T.length tc, .int .i64 ht, .int .i64 ag] 28)) ad n X sa sn sz ta T) := ⟨hb0, hE.below hb0⟩
  have c0 : ((w.alloc (.cells #[.slice ad n cap] 24)).alloc (.cells #[.slice sa sn sc, .slice ta T.length tc, .int .i64 ht, .int .i64 ag] 28)).cell? ⟨w.heap.size, 0, none⟩ = some (.slice ad n cap) := by rw [cell_of_row _ _ 0 _ _ _ hn0]; rfl
  clear hb0 hE
  go_enter Tryd.func4, Tryd.ntmps4
  go_wp2_with fail
  generalize (w.alloc (.cells #[.slice ad n cap] 24)).alloc (.cells #[.slice sa sn sc, .slice ta T.length tc, .int .i64 ht, .int .i64 ag] 28) = W0 at *
  refine (long_any ad n cap X W0 HW.out.2.br hn hx).mono ?_
  rintro e w1 ⟨rfl, hb1⟩
  have HW1 : Hid (Below w.heap.size w w1 ∧ Env w1 ad n X sa sn sz ta T) := ⟨Below.transS HW.out.1 hb1, HW.out.2.below hb1⟩
  have hm0 : w1.heap[w.heap.size]? = some (.cells #[.slice ad n cap] 24 (0, 0)) := by rw [hb1.block _ (lt_of_block hn0)]; exact hn0
  have hm1 : w1.heap[w.heap.size + 1]? = some (.cells (sn4 sa sn sc ta T.length tc ht ag) 28 (0, 0)) := by rw [hb1.block _ (lt_of_block hn1)]; exact hn1
  clear hb1 hn0 hn1 HW c0
  have c0 : w1.cell? ⟨w.heap.size, 0, none⟩ = some (.slice ad n cap) := by rw [cell_of_row _ _ 0 _ _ _ hm0]; rfl
  have d0 : w1.cell? ⟨w.heap.size + 1, 0, none⟩ = some (.slice sa sn sc) := by rw [cell_of_row _ _ 0 _ _ _ hm1]; rfl
  have d2 : w1.cell? ⟨w.heap.size + 1, 2, none⟩ = some (.int .i64 ht) := by rw [cell_of_row _ _ 2 _ _ _ hm1]; rfl
  have d3 : w1.cell? ⟨w.heap.size + 1, 3, none⟩ = some (.int .i64 ag) := by rw [cell_of_row _ _ 3 _ _ _ hm1]; rfl
  by_cases hq : lng X n = true ∨ 100 < sn ∨ 2199023255552 < ht ∨ 2199023255552 < ag
  · clear hm0 hm1
    have fin : ∀ (P : Prop), P → P := fun _ h => h
    by_cases q1 : lng X n = true
    · rw [q1]
      go_wp2_with fail
      refine (sure_any w1 HW1.out.2.glob).mono ?_
      rintro e w2 ⟨rfl, hb2⟩
      have hbe := Below.transS HW1.out.1 hb2
      clear hb2
      go_wp2
      go_ret
      exact ⟨rfl, hbe⟩
    · have q1' : lng X n = false := by simpa using q1
      rw [q1']
      by_cases q2 : 100 < sn
      · have q2' : (100 : Int) < sn := by omega
        go_wp2_with fail
        refine (sure_any w1 HW1.out.2.glob).mono ?_
        rintro e w2 ⟨rfl, hb2⟩
        have hbe := Below.transS HW1.out.1 hb2
        clear hb2
        go_wp2
        go_ret
        exact ⟨rfl, hbe⟩
      · have q2' : ¬ (100 : Int) < sn := by omega
        by_cases q3 : 2199023255552 < ht
        · go_wp2_with fail
          refine (sure_any w1 HW1.out.2.glob).mono ?_
          rintro e w2 ⟨rfl, hb2⟩
          have hbe := Below.transS HW1.out.1 hb2
          clear hb2
          go_wp2
          go_ret
          exact ⟨rfl, hbe⟩
        · have q4 : 2199023255552 < ag := by
            rcases hq with h | h | h | h
            · exact absurd h q1
            · exact absurd h q2
            · exact absurd h q3
            · exact h
          go_wp2_with fail
          refine (sure_any w1 HW1.out.2.glob).mono ?_
          rintro e w2 ⟨rfl, hb2⟩
          have hbe := Below.transS HW1.out.1 hb2
          clear hb2
          go_wp2
          go_ret
          exact ⟨rfl, hbe⟩
  · have q1 : lng X n = false := by
      cases h : lng X n with
      | true => exact absurd (.inl h) hq
      | false => rfl
    have q2 : sn ≤ 100 := Nat.le_of_not_lt fun h => hq (.inr (.inl h))
    have q2' : ¬ (100 : Int) < sn := by omega
    have q3 : ¬ 2199023255552 < ht := fun h => hq (.inr (.inr (.inl h)))
    have q4 : ¬ 2199023255552 < ag := fun h => hq (.inr (.inr (.inr h)))
    have hsm := lng_no q1
    have hn6 : n ≤ 1000000 := by have := hsm.1; omega
    have hx6 : ∀ i, i < n → (X i).n ≤ 1000000 := fun i hi => by have := hsm.2 i hi; omega
    have HX6 : Hid (∀ i, i < n → (X i).n ≤ 1000000) := hx6
    have hsn6 : sn ≤ 1000000 := by omega
    rw [q1]
    clear hq hsm hx hn hsn hx6
    have HTy : Hid (∀ i, T.getD i 0 < 256) := hTy
    clear hTy
    go_wp2_with fail
    have S1 : w1.drew.cell? ⟨w.heap.size, 0, none⟩ = some (.slice ad n cap) ∧ w1.drew.rangeAt (w.heap.size + 1) 0 (sn4 sa sn sc ta T.length tc ht ag).toList := ⟨c0, sn4_range (w := w1.drew) hm1⟩
    have HW2 : Hid (Below w.heap.size w w1.drew ∧ Env w1.drew ad n X sa sn sz ta T) := ⟨HW1.out.1.drew, HW1.out.2.below ((Below.refl _ w1).drew)⟩
    have KP : Hid (∀ w2 w3 : World, (w2.cell? ⟨w.heap.size, 0, none⟩ = some (.slice ad n cap) ∧ w2.rangeAt (w.heap.size + 1) 0 (sn4 sa sn sc ta T.length tc ht ag).toList) → Below w2.heap.size w2 w3 → (w3.cell? ⟨w.heap.size, 0, none⟩ = some (.slice ad n cap) ∧ w3.rangeAt (w.heap.size + 1) 0 (sn4 sa sn sc ta T.length tc ht ag).toList)) := fun w2 w3 h hb => ⟨by rw [hb.cell (p := ⟨w.heap.size, 0, none⟩) (World.block_lt_of_cell? w2 _ h.1)]; exact h.1, range_below h.2 hb⟩
    clear HW1 c0 d0 d2 d3 hm0 hm1
    refine wp_region_noPanic ?_
    refine wp_region_held_drew (S := fun w' => w'.cell? ⟨w.heap.size, 0, none⟩ = some (.slice ad n cap) ∧ w'.rangeAt (w.heap.size + 1) 0 (sn4 sa sn sc ta T.length tc ht ag).toList) (by kernel_rfl) S1 (fun hHeld => ?_)
    refine wpAnyH_take (i := 0) (oi := { dst := some 33, op := Go.Op.load 24 (Go.Operand.tmp 3), type := 24, pos := "law.go:104", after := #[], guard := none }) (v := ?_) rfl (by kernel_rfl) (by kernel_rfl) (by kernel_rfl) (fun _ _ _ h => h) (Or.inl ⟨by rfl, ?_⟩) (by assumption) ?_
    rotate_left
    · intro wz hSw; (try dsimp only at hSw); go_simp; (try with_reducible rfl)
    try simp only [Act.put, List.setIfInBounds_toArray, List.set_cons_zero, List.set_cons_succ]
    refine wpAnyH_take (i := 2) (oi := { dst := some 35, op := Go.Op.move (Go.Operand.tmp 1), type := 3, pos := "law.go:104", after := #[], guard := none }) (v := ?_) rfl (by kernel_rfl) (by kernel_rfl) (by kernel_rfl) (fun _ _ _ h => h) (Or.inl ⟨by rfl, ?_⟩) (by assumption) ?_
    rotate_left
    · intro wz hSw; (try dsimp only at hSw); go_simp; (try with_reducible rfl)
    try simp only [Act.put, List.setIfInBounds_toArray, List.set_cons_zero, List.set_cons_succ]
    refine wpAnyH_take (i := 3) (oi := { dst := some 36, op := Go.Op.load 28 (Go.Operand.tmp 5), type := 28, pos := "law.go:104", after := #[], guard := none }) rfl (by kernel_rfl) (by kernel_rfl) (by kernel_rfl) (fun _ _ _ h => h) (yieldsIf_load_mid (by rfl) _ _ rfl (w.heap.size + 1) 0 rfl (sn4 sa sn sc ta T.length tc ht ag).toList _ (fun _ h => h.2) Tryd.underlying28 rfl (szSnl _ _ _ _ _ _ _ _)) (by assumption) ?_
    try simp only [Act.put, List.setIfInBounds_toArray, List.set_cons_zero, List.set_cons_succ]
    refine wpAnyH_ready (rs := [1]) (by kernel_rfl) (by simp) ?_
    refine (AllReadyH.cons (o := { dst := some 34, op := Go.Op.call { callee := Go.Callee.value (Go.Operand.func 10), args := #[Go.Operand.tmp 33], argTypes := #[24] }, type := 38, pos := "law.go:104", after := #[{ on := 0, ground := Go.Ground.data }], guard := none }) rfl (fun K hK => ?_) AllReadyH.nil)
    go_simp
    refine (give_any ad n cap X _ HW2.out.2.br hn6 HX6.out).mono ?_
    rintro e w3 ⟨ad3, cap3, rfl, hB3, hb3⟩
    have HW3 : Hid (Below w.heap.size w w3 ∧ Env w3 ad n X sa sn sz ta T ∧ BrAt w3 ad3 n X) := ⟨Below.transS HW2.out.1 hb3, HW2.out.2.below hb3, hB3⟩
    have S3 := KP.out _ _ S1 hb3
    clear hB3 hb3 HW2 S1
    refine hK.out _ _ S3 (fun _ => ?_)
    clear hK K
    try simp only [Act.put, List.setIfInBounds_toArray, List.set_cons_zero, List.set_cons_succ]
    refine wpAnyH_ready (rs := [4]) (by kernel_rfl) (by simp) ?_
    refine (AllReadyH.cons (o := { dst := some 37, op := Go.Op.call { callee := Go.Callee.value (Go.Operand.func 12), args := #[Go.Operand.tmp 34, Go.Operand.tmp 35, Go.Operand.tmp 36], argTypes := #[38, 3, 31] }, type := 34, pos := "law.go:104", after := #[{ on := 1, ground := Go.Ground.data }, { on := 2, ground := Go.Ground.data }, { on := 3, ground := Go.Ground.data }, { on := 1, ground := Go.Ground.chain }], guard := none }) rfl (fun K hK => ?_) AllReadyH.nil)
    go_simp
    refine (opens_any ad3 n cap3 X br sa sn sc sz ta tc T ht ag w3 HW3.out.2.1.tab HW3.out.2.1.pos HW3.out.2.2 hn6 HX6.out HW3.out.2.1.si hsn6 HW3.out.2.1.se HTy.out hTc hTl).mono ?_
    rintro e w4 ⟨rfl, hb4⟩
    have HW4 : Hid (Below w.heap.size w w4 ∧ Env w4 ad n X sa sn sz ta T) := ⟨Below.transS HW3.out.1 hb4, HW3.out.2.1.below hb4⟩
    have S4 := KP.out _ _ S3 hb4
    clear hb4 HW3 S3
    refine hK.out _ _ S4 (fun _ => ?_)
    clear hK K
    try simp only [Act.put, List.setIfInBounds_toArray, List.set_cons_zero, List.set_cons_succ]
    refine wpAnyH_take (i := 5) (oi := { dst := some 7, op := Go.Op.assign (Go.Operand.tmp 37), type := 34, pos := "law.go:104", after := #[{ on := 4, ground := Go.Ground.data }, { on := 4, ground := Go.Ground.chain }, { on := 0, ground := Go.Ground.phase }, { on := 1, ground := Go.Ground.phase }, { on := 2, ground := Go.Ground.phase }, { on := 3, ground := Go.Ground.phase }, { on := 4, ground := Go.Ground.phase }], guard := none }) (v := ?_) rfl (by kernel_rfl) (by kernel_rfl) (by kernel_rfl) (fun _ _ _ h => h) (Or.inl ⟨by rfl, ?_⟩) (by assumption) ?_
    rotate_left
    · intro wz hSw; (try dsimp only at hSw); go_simp; (try with_reducible rfl)
    try simp only [Act.put, List.setIfInBounds_toArray, List.set_cons_zero, List.set_cons_succ]
    refine wpAnyH_done (by kernel_rfl) (NoPanic.normal ?_) _
    try simp only [Act.put, List.setIfInBounds_toArray, List.set_cons_zero, List.set_cons_succ]
    clear hHeld
    generalize hA0 : opnA X n br sz sn T ht ag = A0 at *
    have HA0 : Hid (opnA X n br sz sn T ht ag = A0) := hA0
    have HP : Hid ((w.heap.size + 1 < w4.heap.size) ∧ w4.cell? ⟨w.heap.size, 0, none⟩ = some (.slice ad n cap)) := ⟨World.block_lt_of_cell? w4 ⟨w.heap.size + 1, 0 + 0, none⟩ (S4.2 0 _ rfl), S4.1⟩
    have HR4 : Hid (w4.rangeAt (w.heap.size + 1) 0 (sn4 sa sn sc ta T.length tc ht ag).toList) := S4.2
    clear hA0 S4
    have hn9 : (w4.alloc (.cells #[.slice none 0 0, .slice none 0 0, .int .i64 0, .int .i64 0] 28)).heap[w4.heap.size]? = some (.cells #[.slice none 0 0, .slice none 0 0, .int .i64 0, .int .i64 0] 28 (0, 0)) := heap_alloc_new w4 _
    have HS5 : Hid (∀ w' : World, w'.heap[w4.heap.size]? = some (.cells (sn4 sa sn sc ta T.length tc ht ag) 28 (0, 0)) → Frm [w4.heap.size] (w4.alloc (.cells #[.slice none 0 0, .slice none 0 0, .int .i64 0, .int .i64 0] 28)) w' → Below w4.heap.size w4 w' ∧ w'.cell? ⟨w.heap.size + 1, 0, none⟩ = some (.slice sa sn sc)) := by
      intro w' h1 h2
      have h3 : Below w4.heap.size w4 w' := ((Below.refl _ w4).alloc (Nat.le_refl _) _).trans (h2.below (by simp) (by simp))
      exact ⟨h3, (KP.out w4 w' ⟨HP.out.2, HR4.out⟩ h3).2 0 _ rfl⟩
    go_wp2_with (first | (refine wpList_load_mid rfl 28 _ rfl (w.heap.size + 1) 0 rfl (sn4 sa sn sc ta T.length tc ht ag).toList _ HR4.out Tryd.underlying28 rfl (szSnl _ _ _ _ _ _ _ _) ?_) | (refine wpList_storeRow 28 szSn rfl _ _ rfl w4.heap.size rfl (sn4 sa sn sc ta T.length tc ht ag) _ rfl rfl (sn4_one _ _ _ _ _ _ _ _) 28 rfl hn9 ?_; intro w5 hg5 hf5; obtain ⟨hb5, d5⟩ := HS5.out w5 hg5 hf5; have HG5 : Hid (w5.heap[w4.heap.size]? = some (.cells (sn4 sa sn sc ta T.length tc ht ag) 28 (0, 0)) ∧ Below w4.heap.size w4 w5 ∧ IOw w5 w5 (.slice none 0 0) [] ∧ ISrc w5 (.slice sa sn sc) (keysL sz sn)) := ⟨hg5, hb5, IOw.nil _, src_of (HW4.out.2.si.below hb5)⟩; clear hg5 hf5 hb5) | (at_builtin; refine wpList_append_I rfl _ _ rfl w5 _ _ [] (keysL sz sn) rfl rfl HG5.out.2.2.1 HG5.out.2.2.2 (by rw [keysL_length]; simp; omega) ?_; intro v6 w6 hO6 _; have HO6 : Hid (IOw w5 w6 v6 (keysL sz sn)) := hO6; clear hO6) | (refine wpList_slice16 rfl rfl ?_) | (at_builtin; refine wpList_append_I rfl _ _ rfl w5 v6 _ (keysL sz sn) [0, 1, 2, 3, 4, 5, 6, 7, 8, 9, 10, 11, 12, 13, 14, 15] rfl rfl (HO6.out.keep ((Below.refl _ _).alloc (Nat.le_refl _) _)) (src16 _) (by rw [keysL_length]; simp; omega) ?_; intro v7 w7 hO7 _; obtain ⟨L7, hL7⟩ : ∃ L7, L7 = keysL sz sn ++ [0, 1, 2, 3, 4, 5, 6, 7, 8, 9, 10, 11, 12, 13, 14, 15] := ⟨_, rfl⟩; rw [← hL7] at hO7; have HL7 : Hid (L7 = keysL sz sn ++ [0, 1, 2, 3, 4, 5, 6, 7, 8, 9, 10, 11, 12, 13, 14, 15]) := hL7; clear hL7; obtain ⟨ad7, cap7, rfl⟩ := hO7.sl; have hg7 : w7.heap[w4.heap.size]? = some (.cells (sn4 sa sn sc ta T.length tc ht ag) 28 (0, 0)) := (by rw [hO7.below.block _ (lt_of_block HG5.out.1)]; exact HG5.out.1); have c7 : w7.cell? ⟨w4.heap.size, 0, none⟩ = some (.slice sa sn sc) := (by rw [cell_of_row _ _ 0 _ _ _ hg7]; rfl); have f7 := frozen_of_row w7 _ 0 _ _ hg7; have HO7 : Hid _ := hO7; have HG7 : Hid _ := hg7; clear hO7 hg7) | fail)
    clear hn9 HS5 d5 c7 f7
    obtain ⟨w8, hw8⟩ : ∃ w8, w8 = w7.setCell ⟨w4.heap.size, 0, none⟩ (.slice ad7 L7.length cap7) := ⟨_, rfl⟩
    rw [← hw8]
    have HL8 : Hid (L7.length ≤ 1000000 ∧ ∀ j, j < sn → ∃ i, i < L7.length ∧ fi L7 i = sz j) := by
      have hL7 := HL7.out
      clear HL7 hw8 HO7 HG7
      subst hL7
      refine ⟨by rw [List.length_append, keysL_length]; simp; omega, fun j hj => ⟨j, by rw [List.length_append, keysL_length]; omega, ?_⟩⟩
      unfold fi
      rw [List.getD_eq_getElem?_getD, List.getElem?_append_left (by rw [keysL_length]; exact hj), ← List.getD_eq_getElem?_getD]
      exact keysL_getD sz sn j hj
    have HW8 : Hid (Below w4.heap.size w4 w8 ∧ w8.heap[w4.heap.size]? = some (.cells (sn4 ad7 L7.length cap7 ta T.length tc ht ag) 28 (0, 0)) ∧ IsAt w8 ad7 L7.length (fi L7) ∧ ∀ a, ad7 = some a → a.block ≠ w4.heap.size) := by
      have h1 : Below w4.heap.size w4 w7 := Below.transS HG5.out.2.1 HO7.out.below
      have hO := HO7.out
      have h2 := hO.isAt.2
      subst hw8
      have h5 : ∀ a, ad7 = some a → a.block ≠ w4.heap.size := by
        intro a e
        have h3 := lt_of_block HG5.out.1
        rcases hO.form with ⟨e3, _⟩ | ⟨g, c, e3, _, _, hg, _⟩
        · have e4 := (Value.slice.inj e3).1
          rw [e4] at e; cases e
        · have e4 := (Value.slice.inj e3).1
          rw [e4] at e; cases e; show g ≠ _; omega
      exact ⟨h1.setCell (Nat.le_refl _) _, sn4_set0 HG7.out, isAt_set h2 h5, h5⟩
    clear hw8 HL7 HO6 HO7 HG7 HG5
    have dd := KP.out w4 w8 ⟨HP.out.2, HR4.out⟩ HW8.out.1
    have S8 : w8.drew.cell? ⟨w.heap.size + 1, 2, none⟩ = some (.int .i64 ht) ∧ w8.drew.cell? ⟨w.heap.size + 1, 3, none⟩ = some (.int .i64 ag) := ⟨dd.2 2 _ rfl, dd.2 3 _ rfl⟩
    have c92 : w8.drew.cell? ⟨w4.heap.size, 2, none⟩ = some (.int .i64 ht) := by rw [cell_of_row w8.drew _ 2 _ _ _ HW8.out.2.1]; rfl
    have f92 : w8.drew.frozen? ⟨w4.heap.size, 2, none⟩ = false := frozen_of_row w8.drew _ 2 _ _ HW8.out.2.1
    have hw1 : IntKind.i64.wrap (ht + 1) = ht + 1 := by rw [IntKind.wrap_i64]; have := hht.1; omega
    have hw2 : IntKind.i64.wrap (ag + 1) = ag + 1 := by rw [IntKind.wrap_i64]; have := hag.1; omega
    have hp9 : w.heap.size + 1 < w4.heap.size := HP.out.1
    clear dd
    refine wp_region_noPanic ?_
    refine wp_region_held_drew (S := fun w' => w'.cell? ⟨w.heap.size + 1, 2, none⟩ = some (.int .i64 ht) ∧ w'.cell? ⟨w.heap.size + 1, 3, none⟩ = some (.int .i64 ag)) (by kernel_rfl) S8 (fun hHeld => ?_)
    refine wpAnyH_take (i := 0) (oi := { dst := some 46, op := Go.Op.fieldAddr 28 (Go.Operand.tmp 5) 2, type := 0, pos := "law.go:108", after := #[], guard := none }) (v := ?_) rfl (by kernel_rfl) (by kernel_rfl) (by kernel_rfl) (fun _ _ _ h => h) (Or.inl ⟨by rfl, ?_⟩) (by assumption) ?_
    rotate_left
    · intro wz hSw; (try dsimp only at hSw); go_simp; (try with_reducible rfl)
    try simp only [Act.put, List.setIfInBounds_toArray, List.set_cons_zero, List.set_cons_succ]
    refine wpAnyH_take (i := 1) (oi := { dst := some 47, op := Go.Op.load 3 (Go.Operand.tmp 46), type := 3, pos := "law.go:108", after := #[{ on := 0, ground := Go.Ground.data }], guard := none }) (v := .int .i64 ht) rfl (by kernel_rfl) (by kernel_rfl) (by kernel_rfl) (fun _ _ _ h => h) (Or.inl ⟨by rfl, ?_⟩) (by assumption) ?_
    · intro wz hSw; (try dsimp only at hSw); have h1 := hSw.1; go_simp; try rfl
    try simp only [Act.put, List.setIfInBounds_toArray, List.set_cons_zero, List.set_cons_succ]
    refine wpAnyH_take (i := 2) (oi := { dst := some 48, op := Go.Op.binOp Go.BinOp.add 3 (Go.Operand.tmp 47) (Go.Operand.const (Go.Value.int Go.IntKind.i64 1)) 3, type := 3, pos := "law.go:108", after := #[{ on := 1, ground := Go.Ground.data }], guard := none }) (v := .int .i64 (ht + 1)) rfl (by kernel_rfl) (by kernel_rfl) (by kernel_rfl) (fun _ _ _ h => h) (Or.inl ⟨by rfl, ?_⟩) (by assumption) ?_
    · intro wz hSw; (try dsimp only at hSw); go_simp; try (rw [hw1]); try rfl
    try simp only [Act.put, List.setIfInBounds_toArray, List.set_cons_zero, List.set_cons_succ]
    refine wpAnyH_take (i := 3) (oi := { dst := some 49, op := Go.Op.fieldAddr 28 (Go.Operand.tmp 5) 3, type := 0, pos := "law.go:108", after := #[{ on := 7, ground := Go.Ground.gcOnly Go.Departure.lateStores }], guard := none }) (v := ?_) rfl (by kernel_rfl) (by kernel_rfl) (by kernel_rfl) (fun _ _ _ h => h) (Or.inl ⟨by rfl, ?_⟩) (by assumption) ?_
    rotate_left
    · intro wz hSw; (try dsimp only at hSw); go_simp; (try with_reducible rfl)
    try simp only [Act.put, List.setIfInBounds_toArray, List.set_cons_zero, List.set_cons_succ]
    refine wpAnyH_take (i := 4) (oi := { dst := some 50, op := Go.Op.load 3 (Go.Operand.tmp 49), type := 3, pos := "law.go:108", after := #[{ on := 3, ground := Go.Ground.data }, { on := 7, ground := Go.Ground.gcOnly Go.Departure.lateStores }], guard := none }) (v := .int .i64 ag) rfl (by kernel_rfl) (by kernel_rfl) (by kernel_rfl) (fun _ _ _ h => h) (Or.inl ⟨by rfl, ?_⟩) (by assumption) ?_
    · intro wz hSw; (try dsimp only at hSw); have h1 := hSw.2; go_simp; try rfl
    try simp only [Act.put, List.setIfInBounds_toArray, List.set_cons_zero, List.set_cons_succ]
    refine wpAnyH_take (i := 5) (oi := { dst := some 51, op := Go.Op.binOp Go.BinOp.add 3 (Go.Operand.tmp 50) (Go.Operand.const (Go.Value.int Go.IntKind.i64 1)) 3, type := 3, pos := "law.go:108", after := #[{ on := 4, ground := Go.Ground.data }, { on := 7, ground := Go.Ground.gcOnly Go.Departure.lateStores }], guard := none }) (v := .int .i64 (ag + 1)) rfl (by kernel_rfl) (by kernel_rfl) (by kernel_rfl) (fun _ _ _ h => h) (Or.inl ⟨by rfl, ?_⟩) (by assumption) ?_
    · intro wz hSw; (try dsimp only at hSw); go_simp; try (rw [hw2]); try rfl
    try simp only [Act.put, List.setIfInBounds_toArray, List.set_cons_zero, List.set_cons_succ]
    refine wpAnyH_take (i := 6) (oi := { dst := some 52, op := Go.Op.fieldAddr 28 (Go.Operand.tmp 9) 2, type := 0, pos := "law.go:108", after := #[{ on := 0, ground := Go.Ground.phase }, { on := 1, ground := Go.Ground.phase }, { on := 2, ground := Go.Ground.phase }, { on := 3, ground := Go.Ground.textOnly Go.Departure.lateStores }, { on := 4, ground := Go.Ground.textOnly Go.Departure.lateStores }, { on := 5, ground := Go.Ground.textOnly Go.Departure.lateStores }], guard := none }) (v := ?_) rfl (by kernel_rfl) (by kernel_rfl) (by kernel_rfl) (fun _ _ _ h => h) (Or.inl ⟨by rfl, ?_⟩) (by assumption) ?_
    rotate_left
    · intro wz hSw; (try dsimp only at hSw); go_simp; (try with_reducible rfl)
    try simp only [Act.put, List.setIfInBounds_toArray, List.set_cons_zero, List.set_cons_succ]
    refine wpAnyH_ready (rs := [7]) (by kernel_rfl) (by simp) ?_
    refine (AllReadyH.cons (o := { dst := none, op := Go.Op.store 3 (Go.Operand.tmp 52) (Go.Operand.tmp 48), type := 0, pos := "law.go:108", after := #[{ on := 6, ground := Go.Ground.data }, { on := 2, ground := Go.Ground.data }, { on := 0, ground := Go.Ground.phase }, { on := 1, ground := Go.Ground.phase }, { on := 2, ground := Go.Ground.phase }, { on := 3, ground := Go.Ground.textOnly Go.Departure.lateStores }, { on := 4, ground := Go.Ground.textOnly Go.Departure.lateStores }, { on := 5, ground := Go.Ground.textOnly Go.Departure.lateStores }], guard := none }) rfl (fun K hK => ?_) AllReadyH.nil)
    go_simp
    have hS9 : (w8.setCell ⟨w4.heap.size, 2, none⟩ (.int .i64 (ht + 1))).drew.cell? ⟨w.heap.size + 1, 2, none⟩ = some (.int .i64 ht) ∧ (w8.setCell ⟨w4.heap.size, 2, none⟩ (.int .i64 (ht + 1))).drew.cell? ⟨w.heap.size + 1, 3, none⟩ = some (.int .i64 ag) := ⟨by show (w8.setCell _ _).cell? _ = _; rw [World.cell?_setCell_far _ _ _ _ (by show w4.heap.size ≠ w.heap.size + 1; omega)]; exact S8.1, by show (w8.setCell _ _).cell? _ = _; rw [World.cell?_setCell_far _ _ _ _ (by show w4.heap.size ≠ w.heap.size + 1; omega)]; exact S8.2⟩
    have c93 : w8.cell? ⟨w4.heap.size, 3, none⟩ = some (.int .i64 ag) := by rw [cell_of_row _ _ 3 _ _ _ HW8.out.2.1]; rfl
    have f93 : w8.frozen? ⟨w4.heap.size, 3, none⟩ = false := frozen_of_row _ _ 3 _ _ HW8.out.2.1
    refine hK.out _ _ hS9 (fun _ => ?_)
    clear hK K
    try simp only [Act.put, List.setIfInBounds_toArray, List.set_cons_zero, List.set_cons_succ]
    refine wpAnyH_take (i := 8) (oi := { dst := some 53, op := Go.Op.fieldAddr 28 (Go.Operand.tmp 9) 3, type := 0, pos := "law.go:108", after := #[{ on := 0, ground := Go.Ground.phase }, { on := 1, ground := Go.Ground.phase }, { on := 2, ground := Go.Ground.phase }, { on := 3, ground := Go.Ground.phase }, { on := 4, ground := Go.Ground.phase }, { on := 5, ground := Go.Ground.phase }, { on := 6, ground := Go.Ground.phase }, { on := 7, ground := Go.Ground.phase }], guard := none }) (v := ?_) rfl (by kernel_rfl) (by kernel_rfl) (by kernel_rfl) (fun _ _ _ h => h) (Or.inl ⟨by rfl, ?_⟩) (by assumption) ?_
    rotate_left
    · intro wz hSw; (try dsimp only at hSw); go_simp; (try with_reducible rfl)
    try simp only [Act.put, List.setIfInBounds_toArray, List.set_cons_zero, List.set_cons_succ]
    refine wpAnyH_ready (rs := [9]) (by kernel_rfl) (by simp) ?_
    refine (AllReadyH.cons (o := { dst := none, op := Go.Op.store 3 (Go.Operand.tmp 53) (Go.Operand.tmp 51), type := 0, pos := "law.go:108", after := #[{ on := 8, ground := Go.Ground.data }, { on := 5, ground := Go.Ground.data }, { on := 7, ground := Go.Ground.chain }, { on := 0, ground := Go.Ground.phase }, { on := 1, ground := Go.Ground.phase }, { on := 2, ground := Go.Ground.phase }, { on := 3, ground := Go.Ground.phase }, { on := 4, ground := Go.Ground.phase }, { on := 5, ground := Go.Ground.phase }, { on := 6, ground := Go.Ground.phase }, { on := 7, ground := Go.Ground.phase }], guard := none }) rfl (fun K hK => ?_) AllReadyH.nil)
    go_simp
    have hSa : ((w8.setCell ⟨w4.heap.size, 2, none⟩ (.int .i64 (ht + 1))).setCell ⟨w4.heap.size, 3, none⟩ (.int .i64 (ag + 1))).drew.cell? ⟨w.heap.size + 1, 2, none⟩ = some (.int .i64 ht) ∧ ((w8.setCell ⟨w4.heap.size, 2, none⟩ (.int .i64 (ht + 1))).setCell ⟨w4.heap.size, 3, none⟩ (.int .i64 (ag + 1))).drew.cell? ⟨w.heap.size + 1, 3, none⟩ = some (.int .i64 ag) := ⟨by show ((w8.setCell _ _).setCell _ _).cell? _ = _; rw [World.cell?_setCell_far _ _ _ _ (by show w4.heap.size ≠ w.heap.size + 1; omega)]; exact hS9.1, by show ((w8.setCell _ _).setCell _ _).cell? _ = _; rw [World.cell?_setCell_far _ _ _ _ (by show w4.heap.size ≠ w.heap.size + 1; omega)]; exact hS9.2⟩
    refine hK.out _ _ hSa (fun _ => ?_)
    clear hK K
    try simp only [Act.put, List.setIfInBounds_toArray, List.set_cons_zero, List.set_cons_succ]
    refine wpAnyH_done (by kernel_rfl) (NoPanic.normal ?_) _
    try simp only [Act.put, List.setIfInBounds_toArray, List.set_cons_zero, List.set_cons_succ]
    have HWa : Hid (Below w4.heap.size w4 ((w8.setCell ⟨w4.heap.size, 2, none⟩ (.int .i64 (ht + 1))).setCell ⟨w4.heap.size, 3, none⟩ (.int .i64 (ag + 1))).drew ∧ ((w8.setCell ⟨w4.heap.size, 2, none⟩ (.int .i64 (ht + 1))).setCell ⟨w4.heap.size, 3, none⟩ (.int .i64 (ag + 1))).drew.heap[w4.heap.size]? = some (.cells (sn4 ad7 L7.length cap7 ta T.length tc (ht + 1) (ag + 1)) 28 (0, 0)) ∧ IsAt ((w8.setCell ⟨w4.heap.size, 2, none⟩ (.int .i64 (ht + 1))).setCell ⟨w4.heap.size, 3, none⟩ (.int .i64 (ag + 1))).drew ad7 L7.length (fi L7)) := by
      obtain ⟨h1, h2, h3, h4⟩ := HW8.out
      exact ⟨((h1.setCell (Nat.le_refl _) _).setCell (Nat.le_refl _) _).drew, sn4_set23 h2, isAt_set (isAt_set h3 h4) h4⟩
    clear hHeld hSa hS9 c93 f93 c92 f92 S8 HW8 hw1 hw2
    generalize ((w8.setCell ⟨w4.heap.size, 2, none⟩ (.int .i64 (ht + 1))).setCell ⟨w4.heap.size, 3, none⟩ (.int .i64 (ag + 1))).drew = wa at *
    have hSa := KP.out w4 wa ⟨HP.out.2, HR4.out⟩ HWa.out.1
    have HEa : Hid (Below w.heap.size w wa ∧ Env wa ad n X sa sn sz ta T) := ⟨Below.transS HW4.out.1 HWa.out.1, HW4.out.2.below HWa.out.1⟩
    have HSa : Hid (wa.cell? ⟨w.heap.size, 0, none⟩ = some (.slice ad n cap) ∧ wa.rangeAt (w.heap.size + 1) 0 (sn4 sa sn sc ta T.length tc ht ag).toList) := hSa
    have HGa : Hid (wa.heap[w4.heap.size]? = some (.cells (sn4 ad7 L7.length cap7 ta T.length tc (ht + 1) (ag + 1)) 28 (0, 0)) ∧ IsAt wa ad7 L7.length (fi L7)) := HWa.out.2
    clear hSa HWa HW4 HP HR4 hp9
    generalize w4.heap.size = p9 at *
    by_cases hz : A0 = 0
    · subst hz
      have e0 : errV 0 = .nilIface := rfl
      rw [e0]
      clear e0
      obtain ⟨hok, hbr2, -, -, -⟩ := opnA_zero HA0.out
      obtain ⟨b, rfl⟩ : ∃ b : Nat, br = (b : Int) := ⟨br.toNat, by omega⟩
      have hbn : b < n := by omega
      have hbn' : (b : Int) < n := by omega
      clear hok hbr2 hbr
      have hSb : wa.drew.cell? ⟨w.heap.size, 0, none⟩ = some (.slice ad n cap) ∧ wa.drew.rangeAt p9 0 (sn4 ad7 L7.length cap7 ta T.length tc (ht + 1) (ag + 1)).toList := ⟨HSa.out.1, sn4_range (w := wa.drew) HGa.out.1⟩
      have HEb : Hid (Below w.heap.size w wa.drew ∧ Env wa.drew ad n X sa sn sz ta T ∧ IsAt wa.drew ad7 L7.length (fi L7) ∧ wa.drew.rangeAt (w.heap.size + 1) 0 (sn4 sa sn sc ta T.length tc ht ag).toList) := ⟨HEa.out.1.drew, HEa.out.2.below ((Below.refl _ wa).drew), HGa.out.2, HSa.out.2⟩
      go_wp2_with fail
      refine wp_region_noPanic ?_
      refine wp_region_held_drew (S := fun w' => w'.cell? ⟨w.heap.size, 0, none⟩ = some (.slice ad n cap) ∧ w'.rangeAt p9 0 (sn4 ad7 L7.length cap7 ta T.length tc (ht + 1) (ag + 1)).toList) (by kernel_rfl) hSb (fun hHeld => ?_)
      clear HEa HSa HGa
      generalize wa.drew = wb at *
      refine wpAnyH_take (i := 0) (oi := { dst := some 54, op := Go.Op.move (Go.Operand.tmp 7), type := 34, pos := "law.go:109", after := #[], guard := none }) (v := ?_) rfl (by kernel_rfl) (by kernel_rfl) (by kernel_rfl) (fun _ _ _ h => h) (Or.inl ⟨by rfl, ?_⟩) (by assumption) ?_
      rotate_left
      · intro wz hSw; (try dsimp only at hSw); go_simp; (try with_reducible rfl)
      try simp only [Act.put, List.setIfInBounds_toArray, List.set_cons_zero, List.set_cons_succ]
      refine wpAnyH_take (i := 1) (oi := { dst := some 55, op := Go.Op.binOp Go.BinOp.eql 34 (Go.Operand.tmp 54) (Go.Operand.const Go.Value.nilIface) 34, type := 4, pos := "law.go:109", after := #[{ on := 0, ground := Go.Ground.data }], guard := none }) (v := ?_) rfl (by kernel_rfl) (by kernel_rfl) (by kernel_rfl) (fun _ _ _ h => h) (Or.inl ⟨by rfl, ?_⟩) (by assumption) ?_
      rotate_left
      · intro wz hSw; (try dsimp only at hSw); go_simp; (try with_reducible rfl)
      try simp only [Act.put, List.setIfInBounds_toArray, List.set_cons_zero, List.set_cons_succ]
      refine wpAnyH_take (i := 2) (oi := { dst := some 56, op := Go.Op.move (Go.Operand.tmp 55), type := 4, pos := "law.go:109", after := #[{ on := 1, ground := Go.Ground.data }], guard := none }) (v := ?_) rfl (by kernel_rfl) (by kernel_rfl) (by kernel_rfl) (fun _ _ _ h => h) (Or.inl ⟨by rfl, ?_⟩) (by assumption) ?_
      rotate_left
      · intro wz hSw; (try dsimp only at hSw); go_simp; (try with_reducible rfl)
      try simp only [Act.put, List.setIfInBounds_toArray, List.set_cons_zero, List.set_cons_succ]
      refine wpAnyH_take (i := 3) (oi := { dst := some 57, op := Go.Op.load 24 (Go.Operand.tmp 3), type := 24, pos := "law.go:109", after := #[{ on := 2, ground := Go.Ground.guard }], guard := some (2, true) }) (v := ?_) rfl (by kernel_rfl) (by kernel_rfl) (by kernel_rfl) (fun _ _ _ h => h) (Or.inl ⟨by rfl, ?_⟩) (by assumption) ?_
      rotate_left
      · intro wz hSw; (try dsimp only at hSw); go_simp; (try with_reducible rfl)
      try simp only [Act.put, List.setIfInBounds_toArray, List.set_cons_zero, List.set_cons_succ]
      refine wpAnyH_take (i := 5) (oi := { dst := some 59, op := Go.Op.move (Go.Operand.tmp 1), type := 3, pos := "law.go:109", after := #[{ on := 2, ground := Go.Ground.guard }], guard := some (2, true) }) (v := ?_) rfl (by kernel_rfl) (by kernel_rfl) (by kernel_rfl) (fun _ _ _ h => h) (Or.inl ⟨by rfl, ?_⟩) (by assumption) ?_
      rotate_left
      · intro wz hSw; (try dsimp only at hSw); go_simp; (try with_reducible rfl)
      try simp only [Act.put, List.setIfInBounds_toArray, List.set_cons_zero, List.set_cons_succ]
      refine wpAnyH_take (i := 6) (oi := { dst := some 60, op := Go.Op.load 28 (Go.Operand.tmp 9), type := 28, pos := "law.go:109", after := #[{ on := 2, ground := Go.Ground.guard }], guard := some (2, true) }) rfl (by kernel_rfl) (by kernel_rfl) (by kernel_rfl) (fun _ _ _ h => h) (yieldsIf_load_mid (by rfl) _ _ rfl p9 0 rfl (sn4 ad7 L7.length cap7 ta T.length tc (ht + 1) (ag + 1)).toList _ (fun _ h => h.2) Tryd.underlying28 rfl (szSnl _ _ _ _ _ _ _ _)) (by assumption) ?_
      try simp only [Act.put, List.setIfInBounds_toArray, List.set_cons_zero, List.set_cons_succ]
      refine wpAnyH_ready (rs := [4]) (by kernel_rfl) (by simp) ?_
      refine (AllReadyH.cons (o := { dst := some 58, op := Go.Op.call { callee := Go.Callee.value (Go.Operand.func 10), args := #[Go.Operand.tmp 57], argTypes := #[24] }, type := 38, pos := "law.go:109", after := #[{ on := 3, ground := Go.Ground.data }, { on := 2, ground := Go.Ground.chain }, { on := 2, ground := Go.Ground.guard }], guard := some (2, true) }) rfl (fun K hK => ?_) AllReadyH.nil)
      go_simp
      refine (give_any ad n cap X wb HEb.out.2.1.br hn6 HX6.out).mono ?_
      rintro e wc ⟨adc, capc, rfl, hBc, hbc⟩
      have HEc : Hid (Below w.heap.size w wc ∧ Env wc ad n X sa sn sz ta T ∧ IsAt wc ad7 L7.length (fi L7) ∧ wc.rangeAt (w.heap.size + 1) 0 (sn4 sa sn sc ta T.length tc ht ag).toList ∧ BrAt wc adc n X) := ⟨Below.transS HEb.out.1 hbc, HEb.out.2.1.below hbc, HEb.out.2.2.1.below hbc, range_below HEb.out.2.2.2 hbc, hBc⟩
      have hSc : wc.cell? ⟨w.heap.size, 0, none⟩ = some (.slice ad n cap) ∧ wc.rangeAt p9 0 (sn4 ad7 L7.length cap7 ta T.length tc (ht + 1) (ag + 1)).toList := ⟨by rw [hbc.cell (p := ⟨w.heap.size, 0, none⟩) (World.block_lt_of_cell? wb _ hSb.1)]; exact hSb.1, range_below hSb.2 hbc⟩
      clear hBc hbc HEb hSb
      refine hK.out _ _ hSc (fun _ => ?_)
      clear hK K
      try simp only [Act.put, List.setIfInBounds_toArray, List.set_cons_zero, List.set_cons_succ]
      refine wpAnyH_ready (rs := [7]) (by kernel_rfl) (by simp) ?_
      refine (AllReadyH.cons (o := { dst := some 61, op := Go.Op.call { callee := Go.Callee.value (Go.Operand.func 12), args := #[Go.Operand.tmp 58, Go.Operand.tmp 59, Go.Operand.tmp 60], argTypes := #[38, 3, 31] }, type := 34, pos := "law.go:109", after := #[{ on := 4, ground := Go.Ground.data }, { on := 5, ground := Go.Ground.data }, { on := 6, ground := Go.Ground.data }, { on := 4, ground := Go.Ground.chain }, { on := 2, ground := Go.Ground.guard }], guard := some (2, true) }) rfl (fun K hK => ?_) AllReadyH.nil)
      go_simp
      refine (opens_any adc n capc X b ad7 L7.length cap7 (fi L7) ta tc T (ht + 1) (ag + 1) wc HEc.out.2.1.tab HEc.out.2.1.pos HEc.out.2.2.2.2 hn6 HX6.out HEc.out.2.2.1 HL8.out.1 HEc.out.2.1.se HTy.out hTc hTl).mono ?_
      rintro e wd ⟨rfl, hbd⟩
      rw [opnA_more HA0.out (fi L7) L7.length HL8.out.2, show errV 0 = .nilIface from rfl]
      have HEd : Hid (Below w.heap.size w wd ∧ Env wd ad n X sa sn sz ta T ∧ wd.rangeAt (w.heap.size + 1) 0 (sn4 sa sn sc ta T.length tc ht ag).toList) := ⟨Below.transS HEc.out.1 hbd, HEc.out.2.1.below hbd, range_below HEc.out.2.2.2.1 hbd⟩
      have hSd : wd.cell? ⟨w.heap.size, 0, none⟩ = some (.slice ad n cap) ∧ wd.rangeAt p9 0 (sn4 ad7 L7.length cap7 ta T.length tc (ht + 1) (ag + 1)).toList := ⟨by rw [hbd.cell (p := ⟨w.heap.size, 0, none⟩) (World.block_lt_of_cell? wc _ hSc.1)]; exact hSc.1, range_below hSc.2 hbd⟩
      clear hbd HEc hSc
      refine hK.out _ _ hSd (fun _ => ?_)
      clear hK K
      try simp only [Act.put, List.setIfInBounds_toArray, List.set_cons_zero, List.set_cons_succ]
      refine wpAnyH_take (i := 8) (oi := { dst := some 62, op := Go.Op.binOp Go.BinOp.neq 34 (Go.Operand.tmp 61) (Go.Operand.const Go.Value.nilIface) 34, type := 4, pos := "law.go:109", after := #[{ on := 7, ground := Go.Ground.data }, { on := 2, ground := Go.Ground.guard }], guard := some (2, true) }) (v := ?_) rfl (by kernel_rfl) (by kernel_rfl) (by kernel_rfl) (fun _ _ _ h => h) (Or.inl ⟨by rfl, ?_⟩) (by assumption) ?_
      rotate_left
      · intro wz hSw; (try dsimp only at hSw); go_simp; (try with_reducible rfl)
      try simp only [Act.put, List.setIfInBounds_toArray, List.set_cons_zero, List.set_cons_succ]
      refine wpAnyH_take (i := 9) (oi := { dst := some 63, op := Go.Op.pick (Go.Operand.tmp 56) (Go.Operand.tmp 62) (Go.Operand.const (Go.Value.bool false)), type := 4, pos := "law.go:109", after := #[{ on := 2, ground := Go.Ground.data }, { on := 8, ground := Go.Ground.data }], guard := none }) (v := ?_) rfl (by kernel_rfl) (by kernel_rfl) (by kernel_rfl) (fun _ _ _ h => h) (Or.inl ⟨by rfl, ?_⟩) (by assumption) ?_
      rotate_left
      · intro wz hSw; (try dsimp only at hSw); go_simp; (try with_reducible rfl)
      try simp only [Act.put, List.setIfInBounds_toArray, List.set_cons_zero, List.set_cons_succ]
      refine wpAnyH_done (by kernel_rfl) (NoPanic.normal ?_) _
      try simp only [Act.put, List.setIfInBounds_toArray, List.set_cons_zero, List.set_cons_succ]
      clear hHeld
      obtain ⟨bb, off, rfl, hrow⟩ := HEd.out.2.1.br.at_ (by omega)
      obtain ⟨ka, kc, hr, hk⟩ := hrow b hbn
      have c0 := hSd.1
      have ck : wd.cell? ⟨bb, off + b * 35, none⟩ = some (.slice ka (X b).n kc) := hr 0 _ rfl
      have HK : Hid (IsAt wd ka (X b).n (X b).z) := hk
      have hxb : (X b).n ≤ 1000000 := HX6.out b hbn
      have HC0 : Hid (wd.cell? ⟨w.heap.size, 0, none⟩ = some (.slice (some ⟨bb, off, none⟩) n cap)) := c0
      clear hrow hr hk hSd HL8
      go_wp2
      clear c0 ck
      have hb00 := Below.refl wd.heap.size wd
      go_loopw [11, 12, 13] (fun iv _ _ wr => ∃ i : Nat, i ≤ (X b).n ∧ iv = .int .i64 i ∧ Below wd.heap.size wd wr) (fun iv _ _ _ => (X b).n + 1 - (intOf iv).toNat)
      case atStart => exact ⟨0, by omega, rfl, hb00⟩
      case round =>
        clear hb00
        obtain ⟨i, hi, rfl, hbr⟩ := hrel
        generalize wr = wo at *
        have HBr : Hid (Below wd.heap.size wd wo) := hbr
        by_cases hlt : i < (X b).n
        · have hlt' : (i : Int) < (X b).n := by omega
          have HRr : Hid (wo.rangeAt (w.heap.size + 1) 0 (sn4 sa sn sc ta T.length tc ht ag).toList) := range_below HEd.out.2.2 hbr
          have hn12 : (wo.alloc (.cells #[.slice none 0 0, .slice none 0 0, .int .i64 0, .int .i64 0] 28)).heap[wo.heap.size]? = some (.cells #[.slice none 0 0, .slice none 0 0, .int .i64 0, .int .i64 0] 28 (0, 0)) := heap_alloc_new wo _
          have HS12 : Hid (∀ w' : World, w'.heap[wo.heap.size]? = some (.cells (sn4 sa sn sc ta T.length tc ht ag) 28 (0, 0)) → Frm [wo.heap.size] (wo.alloc (.cells #[.slice none 0 0, .slice none 0 0, .int .i64 0, .int .i64 0] 28)) w' → (w'.cell? ⟨wo.heap.size, 0, none⟩ = some (.slice sa sn sc) ∧ w'.frozen? ⟨wo.heap.size, 0, none⟩ = false) ∧ UR wo (w'.setCell ⟨wo.heap.size, 0, none⟩ (.slice none 0 0)) none 0 [] ta T.length tc ht ag) := by
            intro w' h1 h2
            have h3 : Below wo.heap.size wo w' := ((Below.refl _ wo).alloc (Nat.le_refl _) _).trans (h2.below (by simp) (by simp))
            exact ⟨⟨by rw [cell_of_row _ _ 0 _ _ _ h1]; rfl, frozen_of_row _ _ 0 _ _ h1⟩, h3.setCell (Nat.le_refl _) _, sn4_set0 h1, World.ownsRow_nil _ _ _ _⟩
          clear hbr
          go_wp2_with (first | (refine wpList_load_mid rfl 28 _ rfl (w.heap.size + 1) 0 rfl (sn4 sa sn sc ta T.length tc ht ag).toList _ HRr.out Tryd.underlying28 rfl (szSnl _ _ _ _ _ _ _ _) ?_) | (refine wpList_storeRow 28 szSn rfl _ _ rfl wo.heap.size rfl (sn4 sa sn sc ta T.length tc ht ag) _ rfl rfl (sn4_one _ _ _ _ _ _ _ _) 28 rfl hn12 ?_; intro we hge hfe; obtain ⟨⟨ce, fe⟩, hUe⟩ := HS12.out we hge hfe; clear hge hfe) | fail)
          clear ce fe HS12 hn12
          generalize we.setCell ⟨wo.heap.size, 0, none⟩ (.slice none 0 0) = wf at *
          go_loopw [13] (fun jv wu => ∃ (j : Nat) (va : Option Addr) (vc : Nat), j ≤ sn ∧ jv = .int .i64 j ∧ UR wo wu va vc (offK sz ((X b).z i) j) ta T.length tc ht ag) (fun jv _ => sn + 1 - (intOf jv).toNat)
          case atStart => exact ⟨0, none, 0, by omega, rfl, hUe⟩
          case round =>
            clear hUe
            obtain ⟨j, va, vc, hj, rfl, hU⟩ := hrel
            have HU : Hid (UR wo wr va vc (offK sz ((X b).z i) j) ta T.length tc ht ag) := hU
            have HBw : Hid (Below wd.heap.size wd wr) := Below.transS HBr.out hU.below
            have HRw : Hid (wr.rangeAt (w.heap.size + 1) 0 (sn4 sa sn sc ta T.length tc ht ag).toList) := range_below HRr.out hU.below
            have d0 : wr.cell? ⟨w.heap.size + 1, 0, none⟩ = some (.slice sa sn sc) := HRw.out 0 _ rfl
            clear hU
            by_cases hjn : j < sn
            · have hjn' : (j : Int) < sn := by omega
              obtain ⟨sb, so, rfl, hcs⟩ := (HEd.out.2.1.si.below HBw.out) (by omega)
              obtain ⟨kb, ko, rfl, hck⟩ := (HK.out.below HBw.out) (by omega)
              have S20 : wr.drew.cell? ⟨w.heap.size + 1, 0, none⟩ = some (.slice (some ⟨sb, so, none⟩) sn sc) ∧ wr.drew.cell? ⟨sb, so + j, none⟩ = some (.int .i64 (sz j)) ∧ wr.drew.cell? ⟨kb, ko + i, none⟩ = some (.int .i64 ((X b).z i)) := ⟨d0, hcs j hjn, hck i hlt⟩
              clear hcs hck
              go_wp2_with fail
              refine wp_region_noPanic ?_
              refine wp_region_held_drew (S := fun w' => w'.cell? ⟨w.heap.size + 1, 0, none⟩ = some (.slice (some ⟨sb, so, none⟩) sn sc) ∧ w'.cell? ⟨sb, so + j, none⟩ = some (.int .i64 (sz j)) ∧ w'.cell? ⟨kb, ko + i, none⟩ = some (.int .i64 ((X b).z i))) (by kernel_rfl) S20 (fun hHeld => ?_)
              refine wpAnyH_take (i := 0) (oi := { dst := some 87, op := Go.Op.fieldAddr 28 (Go.Operand.tmp 5) 0, type := 0, pos := "law.go:118", after := #[], guard := none }) (v := ?_) rfl (by kernel_rfl) (by kernel_rfl) (by kernel_rfl) (fun _ _ _ h => h) (Or.inl ⟨by rfl, ?_⟩) (by assumption) ?_
              rotate_left
              · intro wz hSw; (try dsimp only at hSw); go_simp; (try with_reducible rfl)
              try simp only [Act.put, List.setIfInBounds_toArray, List.set_cons_zero, List.set_cons_succ]
              refine wpAnyH_take (i := 1) (oi := { dst := some 88, op := Go.Op.load 25 (Go.Operand.tmp 87), type := 25, pos := "law.go:118", after := #[{ on := 0, ground := Go.Ground.data }], guard := none }) (v := .slice (some ⟨sb, so, none⟩) sn sc) rfl (by kernel_rfl) (by kernel_rfl) (by kernel_rfl) (fun _ _ _ h => h) (Or.inl ⟨by rfl, ?_⟩) (by assumption) ?_
              · intro wz hSw; (try dsimp only at hSw); have h1 := hSw.1; go_simp; try rfl
              try simp only [Act.put, List.setIfInBounds_toArray, List.set_cons_zero, List.set_cons_succ]
              refine wpAnyH_take (i := 2) (oi := { dst := some 89, op := Go.Op.move (Go.Operand.tmp 13), type := 3, pos := "law.go:118", after := #[], guard := none }) (v := ?_) rfl (by kernel_rfl) (by kernel_rfl) (by kernel_rfl) (fun _ _ _ h => h) (Or.inl ⟨by rfl, ?_⟩) (by assumption) ?_
              rotate_left
              · intro wz hSw; (try dsimp only at hSw); go_simp; (try with_reducible rfl)
              try simp only [Act.put, List.setIfInBounds_toArray, List.set_cons_zero, List.set_cons_succ]
              refine wpAnyH_take (i := 3) (oi := { dst := some 90, op := Go.Op.indexAddr 25 (Go.Operand.tmp 88) (Go.Operand.tmp 89), type := 0, pos := "law.go:118", after := #[{ on := 1, ground := Go.Ground.data }, { on := 2, ground := Go.Ground.data }], guard := none }) (v := ?_) rfl (by kernel_rfl) (by kernel_rfl) (by kernel_rfl) (fun _ _ _ h => h) (Or.inl ⟨by rfl, ?_⟩) (by assumption) ?_
              rotate_left
              · intro wz hSw; (try dsimp only at hSw); go_simp; (try with_reducible rfl)
              try simp only [Act.put, List.setIfInBounds_toArray, List.set_cons_zero, List.set_cons_succ]
              refine wpAnyH_take (i := 4) (oi := { dst := some 91, op := Go.Op.load 3 (Go.Operand.tmp 90), type := 3, pos := "law.go:118", after := #[{ on := 3, ground := Go.Ground.data }], guard := none }) (v := .int .i64 (sz j)) rfl (by kernel_rfl) (by kernel_rfl) (by kernel_rfl) (fun _ _ _ h => h) (Or.inl ⟨by rfl, ?_⟩) (by assumption) ?_
              · intro wz hSw; (try dsimp only at hSw); have h1 := hSw.2.1; go_simp; try rfl
              try simp only [Act.put, List.setIfInBounds_toArray, List.set_cons_zero, List.set_cons_succ]
              refine wpAnyH_take (i := 5) (oi := { dst := some 92, op := Go.Op.move (Go.Operand.tmp 10), type := 25, pos := "law.go:118", after := #[], guard := none }) (v := ?_) rfl (by kernel_rfl) (by kernel_rfl) (by kernel_rfl) (fun _ _ _ h => h) (Or.inl ⟨by rfl, ?_⟩) (by assumption) ?_
              rotate_left
              · intro wz hSw; (try dsimp only at hSw); go_simp; (try with_reducible rfl)
              try simp only [Act.put, List.setIfInBounds_toArray, List.set_cons_zero, List.set_cons_succ]
              refine wpAnyH_take (i := 6) (oi := { dst := some 93, op := Go.Op.move (Go.Operand.tmp 11), type := 3, pos := "law.go:118", after := #[], guard := none }) (v := ?_) rfl (by kernel_rfl) (by kernel_rfl) (by kernel_rfl) (fun _ _ _ h => h) (Or.inl ⟨by rfl, ?_⟩) (by assumption) ?_
              rotate_left
              · intro wz hSw; (try dsimp only at hSw); go_simp; (try with_reducible rfl)
              try simp only [Act.put, List.setIfInBounds_toArray, List.set_cons_zero, List.set_cons_succ]
              refine wpAnyH_take (i := 7) (oi := { dst := some 94, op := Go.Op.indexAddr 25 (Go.Operand.tmp 92) (Go.Operand.tmp 93), type := 0, pos := "law.go:118", after := #[{ on := 5, ground := Go.Ground.data }, { on := 6, ground := Go.Ground.data }], guard := none }) (v := ?_) rfl (by kernel_rfl) (by kernel_rfl) (by kernel_rfl) (fun _ _ _ h => h) (Or.inl ⟨by rfl, ?_⟩) (by assumption) ?_
              rotate_left
              · intro wz hSw; (try dsimp only at hSw); go_simp; (try with_reducible rfl)
              try simp only [Act.put, List.setIfInBounds_toArray, List.set_cons_zero, List.set_cons_succ]
              refine wpAnyH_take (i := 8) (oi := { dst := some 95, op := Go.Op.load 3 (Go.Operand.tmp 94), type := 3, pos := "law.go:118", after := #[{ on := 7, ground := Go.Ground.data }], guard := none }) (v := .int .i64 ((X b).z i)) rfl (by kernel_rfl) (by kernel_rfl) (by kernel_rfl) (fun _ _ _ h => h) (Or.inl ⟨by rfl, ?_⟩) (by assumption) ?_
              · intro wz hSw; (try dsimp only at hSw); have h1 := hSw.2.2; go_simp; try rfl
              try simp only [Act.put, List.setIfInBounds_toArray, List.set_cons_zero, List.set_cons_succ]
              refine wpAnyH_take (i := 9) (oi := { dst := some 96, op := Go.Op.binOp Go.BinOp.neq 3 (Go.Operand.tmp 91) (Go.Operand.tmp 95) 3, type := 4, pos := "law.go:118", after := #[{ on := 4, ground := Go.Ground.data }, { on := 8, ground := Go.Ground.data }], guard := none }) (v := ?_) rfl (by kernel_rfl) (by kernel_rfl) (by kernel_rfl) (fun _ _ _ h => h) (Or.inl ⟨by rfl, ?_⟩) (by assumption) ?_
              rotate_left
              · intro wz hSw; (try dsimp only at hSw); go_simp; (try with_reducible rfl)
              try simp only [Act.put, List.setIfInBounds_toArray, List.set_cons_zero, List.set_cons_succ]
              refine wpAnyH_done (by kernel_rfl) (NoPanic.normal ?_) _
              try simp only [Act.put, List.setIfInBounds_toArray, List.set_cons_zero, List.set_cons_succ]
              clear hHeld
              have HUd : Hid (UR wo wr.drew va vc (offK sz ((X b).z i) j) ta T.length tc ht ag) := HU.out.keep ((Below.refl _ wr).drew)
              have HBd : Hid (Below wd.heap.size wd wr.drew) := HBw.out.drew
              clear HU HBw HRw d0
              by_cases hse : sz j = (X b).z i
              · have HN : Hid (UR wo wr.drew va vc (offK sz ((X b).z i) (j + 1)) ta T.length tc ht ag) := by show UR _ _ _ _ _ _ _ _ _ _; rw [offK_eq sz _ j hse]; exact HUd.out
                clear HUd
                go_wp2
                go_roundw
                case rel => exact ⟨j + 1, va, vc, by omega, by go_num, HN.out⟩
                case measure => simp [intOf]; omega
              · have S21 : wr.drew.drew.cell? ⟨w.heap.size + 1, 0, none⟩ = some (.slice (some ⟨sb, so, none⟩) sn sc) ∧ wr.drew.drew.cell? ⟨sb, so + j, none⟩ = some (.int .i64 (sz j)) := ⟨S20.1, S20.2.1⟩
                have hUe2 : UR wo wr.drew.drew va vc (offK sz ((X b).z i) j) ta T.length tc ht ag := HUd.out.keep ((Below.refl _ wr.drew).drew)
                go_wp2_with fail
                clear S20 HUd HBd
                have HSo : Hid (∀ w', Below wo.heap.size wo w' → w'.cell? ⟨w.heap.size + 1, 0, none⟩ = some (.slice (some ⟨sb, so, none⟩) sn sc) ∧ w'.cell? ⟨sb, so + j, none⟩ = some (.int .i64 (sz j))) := by
                  intro w' h'
                  refine ⟨range_below HRr.out h' 0 _ rfl, ?_⟩
                  obtain ⟨sb', so', e, hcs⟩ := ((HEd.out.2.1.si.below HBr.out).below h') (by omega)
                  cases e
                  exact hcs j hjn
                have hLj : (offK sz ((X b).z i) j).length ≤ 1000 := by have := offK_len sz ((X b).z i) j; omega
                have hoL := offK_ne sz ((X b).z i) j hse
                have HOL : Hid (offK sz ((X b).z i) (j + 1) = offK sz ((X b).z i) j ++ [sz j]) := hoL
                clear hoL
                generalize hL : offK sz ((X b).z i) j = L at *
                clear hL
                refine wp_region_noPanic ?_
                refine wp_region_held_drew (S := fun w' => w'.cell? ⟨w.heap.size + 1, 0, none⟩ = some (.slice (some ⟨sb, so, none⟩) sn sc) ∧ w'.cell? ⟨sb, so + j, none⟩ = some (.int .i64 (sz j))) (by kernel_rfl) S21 (fun hHeld => ?_)
                generalize wr.drew.drew = wg at *
                have hU5 : UR wo (wg.alloc (.cells #[.int .i64 (sz j)] 3)) va vc L ta T.length tc ht ag := hUe2.keep ((Below.refl _ _).alloc (Nat.le_refl _) _)
                have S5 := HSo.out _ hU5.below
                have hs5 : wo.heap.size + 1 ≤ (wg.alloc (.cells #[.int .i64 (sz j)] 3)).heap.size := lt_of_block hU5.box
                have c98 : wg.cell? ⟨wo.heap.size, 0, none⟩ = some (.slice va L.length vc) := by rw [cell_of_row _ _ 0 _ _ _ hUe2.box]; rfl
                have c98' : (wg.alloc (.cells #[.int .i64 (sz j)] 3)).cell? ⟨wo.heap.size, 0, none⟩ = some (.slice va L.length vc) := by rw [cell_of_row _ _ 0 _ _ _ hU5.box]; rfl
                refine wpAnyH_take (i := 0) (oi := { dst := some 97, op := Go.Op.fieldAddr 28 (Go.Operand.tmp 12) 0, type := 0, pos := "law.go:119", after := #[], guard := none }) (v := ?_) rfl (by kernel_rfl) (by kernel_rfl) (by kernel_rfl) (fun _ _ _ h => h) (Or.inl ⟨by rfl, ?_⟩) (by assumption) ?_
                rotate_left
                · intro wz hSw; (try dsimp only at hSw); go_simp; (try with_reducible rfl)
                try simp only [Act.put, List.setIfInBounds_toArray, List.set_cons_zero, List.set_cons_succ]
                refine wpAnyH_take (i := 2) (oi := { dst := some 99, op := Go.Op.fieldAddr 28 (Go.Operand.tmp 5) 0, type := 0, pos := "law.go:119", after := #[], guard := none }) (v := ?_) rfl (by kernel_rfl) (by kernel_rfl) (by kernel_rfl) (fun _ _ _ h => h) (Or.inl ⟨by rfl, ?_⟩) (by assumption) ?_
                rotate_left
                · intro wz hSw; (try dsimp only at hSw); go_simp; (try with_reducible rfl)
                try simp only [Act.put, List.setIfInBounds_toArray, List.set_cons_zero, List.set_cons_succ]
                refine wpAnyH_take (i := 3) (oi := { dst := some 100, op := Go.Op.load 25 (Go.Operand.tmp 99), type := 25, pos := "law.go:119", after := #[{ on := 2, ground := Go.Ground.data }], guard := none }) (v := .slice (some ⟨sb, so, none⟩) sn sc) rfl (by kernel_rfl) (by kernel_rfl) (by kernel_rfl) (fun _ _ _ h => h) (Or.inl ⟨by rfl, ?_⟩) (by assumption) ?_
                · intro wz hSw; (try dsimp only at hSw); have h1 := hSw.1; go_simp; try rfl
                try simp only [Act.put, List.setIfInBounds_toArray, List.set_cons_zero, List.set_cons_succ]
                refine wpAnyH_take (i := 4) (oi := { dst := some 101, op := Go.Op.move (Go.Operand.tmp 13), type := 3, pos := "law.go:119", after := #[], guard := none }) (v := ?_) rfl (by kernel_rfl) (by kernel_rfl) (by kernel_rfl) (fun _ _ _ h => h) (Or.inl ⟨by rfl, ?_⟩) (by assumption) ?_
                rotate_left
                · intro wz hSw; (try dsimp only at hSw); go_simp; (try with_reducible rfl)
                try simp only [Act.put, List.setIfInBounds_toArray, List.set_cons_zero, List.set_cons_succ]
                refine wpAnyH_take (i := 5) (oi := { dst := some 102, op := Go.Op.indexAddr 25 (Go.Operand.tmp 100) (Go.Operand.tmp 101), type := 0, pos := "law.go:119", after := #[{ on := 3, ground := Go.Ground.data }, { on := 4, ground := Go.Ground.data }], guard := none }) (v := ?_) rfl (by kernel_rfl) (by kernel_rfl) (by kernel_rfl) (fun _ _ _ h => h) (Or.inl ⟨by rfl, ?_⟩) (by assumption) ?_
                rotate_left
                · intro wz hSw; (try dsimp only at hSw); go_simp; (try with_reducible rfl)
                try simp only [Act.put, List.setIfInBounds_toArray, List.set_cons_zero, List.set_cons_succ]
                refine wpAnyH_take (i := 6) (oi := { dst := some 103, op := Go.Op.load 3 (Go.Operand.tmp 102), type := 3, pos := "law.go:119", after := #[{ on := 5, ground := Go.Ground.data }], guard := none }) (v := .int .i64 (sz j)) rfl (by kernel_rfl) (by kernel_rfl) (by kernel_rfl) (fun _ _ _ h => h) (Or.inl ⟨by rfl, ?_⟩) (by assumption) ?_
                · intro wz hSw; (try dsimp only at hSw); have h1 := hSw.2; go_simp; try rfl
                try simp only [Act.put, List.setIfInBounds_toArray, List.set_cons_zero, List.set_cons_succ]
                refine wpAnyH_ready (rs := [1, 7]) (by kernel_rfl) (by simp) ?_
                refine (AllReadyH.cons (o := { dst := some 98, op := Go.Op.load 25 (Go.Operand.tmp 97), type := 25, pos := "law.go:119", after := #[{ on := 0, ground := Go.Ground.data }], guard := none }) rfl (fun K hK => ?_) (AllReadyH.cons (o := { dst := some 104, op := Go.Op.buildSlice 25 1 #[(0, Go.Operand.tmp 103)], type := 25, pos := "law.go:119", after := #[{ on := 6, ground := Go.Ground.data }], guard := none }) rfl (fun K hK => ?_) AllReadyH.nil))
                focus
                  go_simp
                  refine hK.out _ _ S21 (fun _ => ?_)
                  clear hK K
                  try simp only [Act.put, List.setIfInBounds_toArray, List.set_cons_zero, List.set_cons_succ]
                  refine wpAnyH_ready (rs := [7]) (by kernel_rfl) (by simp) ?_
                  refine (AllReadyH.cons (o := { dst := some 104, op := Go.Op.buildSlice 25 1 #[(0, Go.Operand.tmp 103)], type := 25, pos := "law.go:119", after := #[{ on := 6, ground := Go.Ground.data }], guard := none }) rfl (fun K hK => ?_) AllReadyH.nil)
                  refine step_sliceI rfl (.tmp 103) rfl (sz j) (by rfl) ?_
                rotate_left
                focus
                  refine step_sliceI rfl (.tmp 103) rfl (sz j) (by rfl) ?_
                  refine hK.out _ _ S5 (fun _ => ?_)
                  clear hK K
                  try simp only [Act.put, List.setIfInBounds_toArray, List.set_cons_zero, List.set_cons_succ]
                  refine wpAnyH_ready (rs := [1]) (by kernel_rfl) (by simp) ?_
                  refine (AllReadyH.cons (o := { dst := some 98, op := Go.Op.load 25 (Go.Operand.tmp 97), type := 25, pos := "law.go:119", after := #[{ on := 0, ground := Go.Ground.data }], guard := none }) rfl (fun K hK => ?_) AllReadyH.nil)
                  go_simp
                all_goals
                  refine hK.out _ _ S5 (fun _ => ?_)
                  clear hK K
                  try simp only [Act.put, List.setIfInBounds_toArray, List.set_cons_zero, List.set_cons_succ]
                  refine wpAnyH_ready (rs := [8]) (by kernel_rfl) (by simp) ?_
                  refine (AllReadyH.cons (o := { dst := some 105, op := Go.Op.call { callee := Go.Callee.builtin Go.Builtin.append, args := #[Go.Operand.tmp 98, Go.Operand.tmp 104], argTypes := #[25, 25] }, type := 25, pos := "law.go:119", after := #[{ on := 1, ground := Go.Ground.data }, { on := 7, ground := Go.Ground.data }], guard := none }) rfl (fun K hK => ?_) AllReadyH.nil)
                  refine step_append_O rfl (.tmp 98) (.tmp 104) rfl (wo.heap.size + 1) _ _ L [sz j] (by rfl) (by rfl) hU5.own hs5 (one_srcI wg (sz j)) (by simp; omega) ?_
                  intro v' w6 hown' hgrow _
                  obtain ⟨va', vc', rfl⟩ : ∃ va' vc', v' = .slice va' (L ++ [sz j]).length vc' := by
                    rcases hown'.2 with ⟨_, e⟩ | ⟨g, c, cur, e, _⟩
                    · simp at e
                    · exact ⟨_, _, e⟩
                  obtain ⟨c6, f6, hb6, hU6⟩ := hU5.push hown' hgrow
                  rw [show (L ++ [sz j]).length = L.length + 1 from by simp] at hU6
                  have S6 := HSo.out _ hb6
                  have S7 := HSo.out _ hU6.below
                  refine hK.out _ _ S6 (fun _ => ?_)
                  clear hK K
                  try simp only [Act.put, List.setIfInBounds_toArray, List.set_cons_zero, List.set_cons_succ]
                  refine wpAnyH_take (i := 9) (oi := { dst := some 106, op := Go.Op.fieldAddr 28 (Go.Operand.tmp 12) 0, type := 0, pos := "law.go:119", after := #[{ on := 0, ground := Go.Ground.phase }, { on := 1, ground := Go.Ground.phase }, { on := 2, ground := Go.Ground.phase }, { on := 3, ground := Go.Ground.phase }, { on := 4, ground := Go.Ground.phase }, { on := 5, ground := Go.Ground.phase }, { on := 6, ground := Go.Ground.phase }, { on := 7, ground := Go.Ground.phase }, { on := 8, ground := Go.Ground.phase }], guard := none }) (v := ?_) rfl (by kernel_rfl) (by kernel_rfl) (by kernel_rfl) (fun _ _ _ h => h) (Or.inl ⟨by rfl, ?_⟩) (by assumption) ?_
                  rotate_left
                  · intro wz hSw; (try dsimp only at hSw); go_simp; (try with_reducible rfl)
                  try simp only [Act.put, List.setIfInBounds_toArray, List.set_cons_zero, List.set_cons_succ]
                  refine wpAnyH_ready (rs := [10]) (by kernel_rfl) (by simp) ?_
                  refine (AllReadyH.cons (o := { dst := none, op := Go.Op.store 25 (Go.Operand.tmp 106) (Go.Operand.tmp 105), type := 0, pos := "law.go:119", after := #[{ on := 9, ground := Go.Ground.data }, { on := 8, ground := Go.Ground.data }, { on := 8, ground := Go.Ground.chain }, { on := 0, ground := Go.Ground.phase }, { on := 1, ground := Go.Ground.phase }, { on := 2, ground := Go.Ground.phase }, { on := 3, ground := Go.Ground.phase }, { on := 4, ground := Go.Ground.phase }, { on := 5, ground := Go.Ground.phase }, { on := 6, ground := Go.Ground.phase }, { on := 7, ground := Go.Ground.phase }, { on := 8, ground := Go.Ground.phase }], guard := none }) rfl (fun K hK => ?_) AllReadyH.nil)
                  go_simp
                  refine hK.out _ _ S7 (fun _ => ?_)
                  clear hK K
                  try simp only [Act.put, List.setIfInBounds_toArray, List.set_cons_zero, List.set_cons_succ]
                  refine wpAnyH_done (by kernel_rfl) (NoPanic.normal ?_) _
                  try simp only [Act.put, List.setIfInBounds_toArray, List.set_cons_zero, List.set_cons_succ]
                  have HN : Hid (UR wo (w6.setCell ⟨wo.heap.size, 0, none⟩ (.slice va' (L.length + 1) vc')) va' vc' (L ++ [sz j]) ta T.length tc ht ag) := hU6
                  clear hHeld c6 f6 hb6 hU6 S6 S7 hown' hgrow S5 S21 c98 c98' hU5 hUe2
                  go_wp2
                  go_roundw
                  case rel =>
                    refine ⟨j + 1, va', vc', by omega, by go_num, ?_⟩
                    rw [HOL.out]
                    exact HN.out
                  case measure => simp [intOf]; omega
            · obtain rfl : j = sn := by omega
              have hnn : ¬ ((j : Int) < j) := by omega
              have hL8 : (offK sz ((X b).z i) j).length ≤ 1000000 := by have := offK_len sz ((X b).z i) j; omega
              have HM : Hid (opnA X n b (fi (offK sz ((X b).z i) j)) (offK sz ((X b).z i) j).length T ht ag = 21) := opnA_miss HA0.out _ _ i hlt (offK_no sz _ j)
              have S22 : wr.drew.cell? ⟨w.heap.size, 0, none⟩ = some (.slice (some ⟨bb, off, none⟩) n cap) ∧ wr.drew.rangeAt wo.heap.size 0 (sn4 va (offK sz ((X b).z i) j).length vc ta T.length tc ht ag).toList := ⟨by show wr.cell? _ = _; rw [HBw.out.cell (p := ⟨w.heap.size, 0, none⟩) (World.block_lt_of_cell? wd _ HC0.out)]; exact HC0.out, sn4_range (w := wr.drew) HU.out.box⟩
              have HEg : Hid (Below w.heap.size w wr.drew ∧ Env wr.drew (some ⟨bb, off, none⟩) n X sa j sz ta T ∧ IsAt wr.drew va (offK sz ((X b).z i) j).length (fi (offK sz ((X b).z i) j)) ∧ Below wd.heap.size wd wr.drew) := ⟨(Below.transS HEd.out.1 HBw.out).drew, (HEd.out.2.1.below HBw.out).below ((Below.refl _ wr).drew), owns_isAt (w := wr.drew) HU.out.own, HBw.out.drew⟩
              clear HU HBw HRw
              go_wp2_with fail
              generalize offK sz ((X b).z i) j = L at *
              refine wp_region_noPanic ?_
              refine wp_region_held_drew (S := fun w' => w'.cell? ⟨w.heap.size, 0, none⟩ = some (.slice (some ⟨bb, off, none⟩) n cap) ∧ w'.rangeAt wo.heap.size 0 (sn4 va L.length vc ta T.length tc ht ag).toList) (by kernel_rfl) S22 (fun hHeld => ?_)
              generalize wr.drew = wg at *
              refine wpAnyH_take (i := 0) (oi := { dst := some 107, op := Go.Op.load 24 (Go.Operand.tmp 3), type := 24, pos := "law.go:122", after := #[], guard := none }) (v := ?_) rfl (by kernel_rfl) (by kernel_rfl) (by kernel_rfl) (fun _ _ _ h => h) (Or.inl ⟨by rfl, ?_⟩) (by assumption) ?_
              rotate_left
              · intro wz hSw; (try dsimp only at hSw); go_simp; (try with_reducible rfl)
              try simp only [Act.put, List.setIfInBounds_toArray, List.set_cons_zero, List.set_cons_succ]
              refine wpAnyH_take (i := 2) (oi := { dst := some 109, op := Go.Op.move (Go.Operand.tmp 1), type := 3, pos := "law.go:122", after := #[], guard := none }) (v := ?_) rfl (by kernel_rfl) (by kernel_rfl) (by kernel_rfl) (fun _ _ _ h => h) (Or.inl ⟨by rfl, ?_⟩) (by assumption) ?_
              rotate_left
              · intro wz hSw; (try dsimp only at hSw); go_simp; (try with_reducible rfl)
              try simp only [Act.put, List.setIfInBounds_toArray, List.set_cons_zero, List.set_cons_succ]
              refine wpAnyH_take (i := 3) (oi := { dst := some 110, op := Go.Op.load 28 (Go.Operand.tmp 12), type := 28, pos := "law.go:122", after := #[], guard := none }) rfl (by kernel_rfl) (by kernel_rfl) (by kernel_rfl) (fun _ _ _ h => h) (yieldsIf_load_mid (by rfl) _ _ rfl wo.heap.size 0 rfl (sn4 va L.length vc ta T.length tc ht ag).toList _ (fun _ h => h.2) Tryd.underlying28 rfl (szSnl _ _ _ _ _ _ _ _)) (by assumption) ?_
              try simp only [Act.put, List.setIfInBounds_toArray, List.set_cons_zero, List.set_cons_succ]
              refine wpAnyH_ready (rs := [1]) (by kernel_rfl) (by simp) ?_
              refine (AllReadyH.cons (o := { dst := some 108, op := Go.Op.call { callee := Go.Callee.value (Go.Operand.func 10), args := #[Go.Operand.tmp 107], argTypes := #[24] }, type := 38, pos := "law.go:122", after := #[{ on := 0, ground := Go.Ground.data }], guard := none }) rfl (fun K hK => ?_) AllReadyH.nil)
              go_simp
              refine (give_any (some ⟨bb, off, none⟩) n cap X wg HEg.out.2.1.br hn6 HX6.out).mono ?_
              rintro e wh ⟨adh, caph, rfl, hBh, hbh⟩
              have HEh : Hid (Below w.heap.size w wh ∧ Env wh (some ⟨bb, off, none⟩) n X sa j sz ta T ∧ IsAt wh va L.length (fi L) ∧ Below wd.heap.size wd wh ∧ BrAt wh adh n X) := ⟨Below.transS HEg.out.1 hbh, HEg.out.2.1.below hbh, HEg.out.2.2.1.below hbh, Below.transS HEg.out.2.2.2 hbh, hBh⟩
              have hSh : wh.cell? ⟨w.heap.size, 0, none⟩ = some (.slice (some ⟨bb, off, none⟩) n cap) ∧ wh.rangeAt wo.heap.size 0 (sn4 va L.length vc ta T.length tc ht ag).toList := ⟨by rw [hbh.cell (p := ⟨w.heap.size, 0, none⟩) (World.block_lt_of_cell? wg _ S22.1)]; exact S22.1, range_below S22.2 hbh⟩
              clear hBh hbh HEg S22
              refine hK.out _ _ hSh (fun _ => ?_)
              clear hK K
              try simp only [Act.put, List.setIfInBounds_toArray, List.set_cons_zero, List.set_cons_succ]
              refine wpAnyH_ready (rs := [4]) (by kernel_rfl) (by simp) ?_
              refine (AllReadyH.cons (o := { dst := some 111, op := Go.Op.call { callee := Go.Callee.value (Go.Operand.func 12), args := #[Go.Operand.tmp 108, Go.Operand.tmp 109, Go.Operand.tmp 110], argTypes := #[38, 3, 31] }, type := 34, pos := "law.go:122", after := #[{ on := 1, ground := Go.Ground.data }, { on := 2, ground := Go.Ground.data }, { on := 3, ground := Go.Ground.data }, { on := 1, ground := Go.Ground.chain }], guard := none }) rfl (fun K hK => ?_) AllReadyH.nil)
              go_simp
              refine (opens_any adh n caph X b va L.length vc (fi L) ta tc T ht ag wh HEh.out.2.1.tab HEh.out.2.1.pos HEh.out.2.2.2.2 hn6 HX6.out HEh.out.2.2.1 hL8 HEh.out.2.1.se HTy.out hTc hTl).mono ?_
              rintro e wi ⟨rfl, hbi⟩
              rw [HM.out]
              have HEi : Hid (Below w.heap.size w wi ∧ Env wi (some ⟨bb, off, none⟩) n X sa j sz ta T ∧ Below wd.heap.size wd wi) := ⟨Below.transS HEh.out.1 hbi, HEh.out.2.1.below hbi, Below.transS HEh.out.2.2.2.1 hbi⟩
              have hSi : wi.cell? ⟨w.heap.size, 0, none⟩ = some (.slice (some ⟨bb, off, none⟩) n cap) ∧ wi.rangeAt wo.heap.size 0 (sn4 va L.length vc ta T.length tc ht ag).toList := ⟨by rw [hbi.cell (p := ⟨w.heap.size, 0, none⟩) (World.block_lt_of_cell? wh _ hSh.1)]; exact hSh.1, range_below hSh.2 hbi⟩
              clear hbi HEh hSh
              refine hK.out _ _ hSi (fun _ => ?_)
              clear hK K
              try simp only [Act.put, List.setIfInBounds_toArray, List.set_cons_zero, List.set_cons_succ]
              refine wpAnyH_ready (rs := [5]) (by kernel_rfl) (by simp) ?_
              refine (AllReadyH.cons (o := { dst := some 112, op := Go.Op.call { callee := Go.Callee.value (Go.Operand.func 8), args := #[Go.Operand.tmp 111], argTypes := #[34] }, type := 3, pos := "law.go:122", after := #[{ on := 4, ground := Go.Ground.data }, { on := 4, ground := Go.Ground.chain }], guard := none }) rfl (fun K hK => ?_) AllReadyH.nil)
              go_simp
              refine (num_any 21 wi HEi.out.2.1.glob).mono ?_
              rintro e wj ⟨rfl, hbj⟩
              have hSj : wj.cell? ⟨w.heap.size, 0, none⟩ = some (.slice (some ⟨bb, off, none⟩) n cap) ∧ wj.rangeAt wo.heap.size 0 (sn4 va L.length vc ta T.length tc ht ag).toList := ⟨by rw [hbj.cell (p := ⟨w.heap.size, 0, none⟩) (World.block_lt_of_cell? wi _ hSi.1)]; exact hSi.1, range_below hSi.2 hbj⟩
              have HN : Hid (Below wd.heap.size wd wj) := Below.transS HEi.out.2.2 hbj
              clear hbj HEi hSi
              refine hK.out _ _ hSj (fun _ => ?_)
              clear hK K
              try simp only [Act.put, List.setIfInBounds_toArray, List.set_cons_zero, List.set_cons_succ]
              refine wpAnyH_take (i := 6) (oi := { dst := some 113, op := Go.Op.binOp Go.BinOp.neq 3 (Go.Operand.tmp 112) (Go.Operand.const (Go.Value.int Go.IntKind.i64 21)) 3, type := 4, pos := "law.go:122", after := #[{ on := 5, ground := Go.Ground.data }], guard := none }) (v := ?_) rfl (by kernel_rfl) (by kernel_rfl) (by kernel_rfl) (fun _ _ _ h => h) (Or.inl ⟨by rfl, ?_⟩) (by assumption) ?_
              rotate_left
              · intro wz hSw; (try dsimp only at hSw); go_simp; (try with_reducible rfl)
              try simp only [Act.put, List.setIfInBounds_toArray, List.set_cons_zero, List.set_cons_succ]
              refine wpAnyH_done (by kernel_rfl) (NoPanic.normal ?_) _
              try simp only [Act.put, List.setIfInBounds_toArray, List.set_cons_zero, List.set_cons_succ]
              clear hHeld hSj
              go_wp2
              go_roundw
              case rel => exact ⟨i + 1, by omega, by go_num, HN.out⟩
              case measure => simp [intOf]; omega
        · have hin : i = (X b).n := by omega
          have hnn : ¬ ((i : Int) < (X b).n) := by omega
          clear hbr
          go_wp2_with fail
          refine (sure_any wo (HEd.out.2.1.below HBr.out).glob).mono ?_
          rintro e w2 ⟨rfl, hb2⟩
          have hbe := Below.transS (Below.transS HEd.out.1 HBr.out) hb2
          clear hb2
          go_wp2
          go_ret
          exact ⟨rfl, hbe⟩
    · rw [errV_ne hz]
      have hSb : wa.drew.cell? ⟨w.heap.size, 0, none⟩ = some (.slice ad n cap) := HSa.out.1
      go_wp2_with fail
      refine wp_region_noPanic ?_
      refine wp_region_held_drew (S := fun w' => w'.cell? ⟨w.heap.size, 0, none⟩ = some (.slice ad n cap)) (by kernel_rfl) hSb (fun hHeld => ?_)
      refine wpAnyH_take (i := 0) (oi := { dst := some 54, op := Go.Op.move (Go.Operand.tmp 7), type := 34, pos := "law.go:109", after := #[], guard := none }) (v := ?_) rfl (by kernel_rfl) (by kernel_rfl) (by kernel_rfl) (fun _ _ _ h => h) (Or.inl ⟨by rfl, ?_⟩) (by assumption) ?_
      rotate_left
      · intro wz hSw; (try dsimp only at hSw); go_simp; (try with_reducible rfl)
      try simp only [Act.put, List.setIfInBounds_toArray, List.set_cons_zero, List.set_cons_succ]
      refine wpAnyH_take (i := 1) (oi := { dst := some 55, op := Go.Op.binOp Go.BinOp.eql 34 (Go.Operand.tmp 54) (Go.Operand.const Go.Value.nilIface) 34, type := 4, pos := "law.go:109", after := #[{ on := 0, ground := Go.Ground.data }], guard := none }) (v := ?_) rfl (by kernel_rfl) (by kernel_rfl) (by kernel_rfl) (fun _ _ _ h => h) (Or.inl ⟨by rfl, ?_⟩) (by assumption) ?_
      rotate_left
      · intro wz hSw; (try dsimp only at hSw); go_simp; (try with_reducible rfl)
      try simp only [Act.put, List.setIfInBounds_toArray, List.set_cons_zero, List.set_cons_succ]
      refine wpAnyH_take (i := 2) (oi := { dst := some 56, op := Go.Op.move (Go.Operand.tmp 55), type := 4, pos := "law.go:109", after := #[{ on := 1, ground := Go.Ground.data }], guard := none }) (v := ?_) rfl (by kernel_rfl) (by kernel_rfl) (by kernel_rfl) (fun _ _ _ h => h) (Or.inl ⟨by rfl, ?_⟩) (by assumption) ?_
      rotate_left
      · intro wz hSw; (try dsimp only at hSw); go_simp; (try with_reducible rfl)
      try simp only [Act.put, List.setIfInBounds_toArray, List.set_cons_zero, List.set_cons_succ]
      refine wpAnyH_take (i := 3) (oi := { dst := some 57, op := Go.Op.load 24 (Go.Operand.tmp 3), type := 24, pos := "law.go:109", after := #[{ on := 2, ground := Go.Ground.guard }], guard := some (2, true) }) (v := undef) rfl (by kernel_rfl) (by kernel_rfl) (by kernel_rfl) (fun _ _ _ h => h) (Or.inr ⟨by rfl, rfl⟩) (by assumption) ?_
      try simp only [Act.put, List.setIfInBounds_toArray, List.set_cons_zero, List.set_cons_succ]
      refine wpAnyH_take (i := 4) (oi := { dst := some 58, op := Go.Op.call { callee := Go.Callee.value (Go.Operand.func 10), args := #[Go.Operand.tmp 57], argTypes := #[24] }, type := 38, pos := "law.go:109", after := #[{ on := 3, ground := Go.Ground.data }, { on := 2, ground := Go.Ground.chain }, { on := 2, ground := Go.Ground.guard }], guard := some (2, true) }) (v := undef) rfl (by kernel_rfl) (by kernel_rfl) (by kernel_rfl) (fun _ _ _ h => h) (Or.inr ⟨by rfl, rfl⟩) (by assumption) ?_
      try simp only [Act.put, List.setIfInBounds_toArray, List.set_cons_zero, List.set_cons_succ]
      refine wpAnyH_take (i := 5) (oi := { dst := some 59, op := Go.Op.move (Go.Operand.tmp 1), type := 3, pos := "law.go:109", after := #[{ on := 2, ground := Go.Ground.guard }], guard := some (2, true) }) (v := undef) rfl (by kernel_rfl) (by kernel_rfl) (by kernel_rfl) (fun _ _ _ h => h) (Or.inr ⟨by rfl, rfl⟩) (by assumption) ?_
      try simp only [Act.put, List.setIfInBounds_toArray, List.set_cons_zero, List.set_cons_succ]
      refine wpAnyH_take (i := 6) (oi := { dst := some 60, op := Go.Op.load 28 (Go.Operand.tmp 9), type := 28, pos := "law.go:109", after := #[{ on := 2, ground := Go.Ground.guard }], guard := some (2, true) }) (v := undef) rfl (by kernel_rfl) (by kernel_rfl) (by kernel_rfl) (fun _ _ _ h => h) (Or.inr ⟨by rfl, rfl⟩) (by assumption) ?_
      try simp only [Act.put, List.setIfInBounds_toArray, List.set_cons_zero, List.set_cons_succ]
      refine wpAnyH_take (i := 7) (oi := { dst := some 61, op := Go.Op.call { callee := Go.Callee.value (Go.Operand.func 12), args := #[Go.Operand.tmp 58, Go.Operand.tmp 59, Go.Operand.tmp 60], argTypes := #[38, 3, 31] }, type := 34, pos := "law.go:109", after := #[{ on := 4, ground := Go.Ground.data }, { on := 5, ground := Go.Ground.data }, { on := 6, ground := Go.Ground.data }, { on := 4, ground := Go.Ground.chain }, { on := 2, ground := Go.Ground.guard }], guard := some (2, true) }) (v := undef) rfl (by kernel_rfl) (by kernel_rfl) (by kernel_rfl) (fun _ _ _ h => h) (Or.inr ⟨by rfl, rfl⟩) (by assumption) ?_
      try simp only [Act.put, List.setIfInBounds_toArray, List.set_cons_zero, List.set_cons_succ]
      refine wpAnyH_take (i := 8) (oi := { dst := some 62, op := Go.Op.binOp Go.BinOp.neq 34 (Go.Operand.tmp 61) (Go.Operand.const Go.Value.nilIface) 34, type := 4, pos := "law.go:109", after := #[{ on := 7, ground := Go.Ground.data }, { on := 2, ground := Go.Ground.guard }], guard := some (2, true) }) (v := undef) rfl (by kernel_rfl) (by kernel_rfl) (by kernel_rfl) (fun _ _ _ h => h) (Or.inr ⟨by rfl, rfl⟩) (by assumption) ?_
      try simp only [Act.put, List.setIfInBounds_toArray, List.set_cons_zero, List.set_cons_succ]
      refine wpAnyH_take (i := 9) (oi := { dst := some 63, op := Go.Op.pick (Go.Operand.tmp 56) (Go.Operand.tmp 62) (Go.Operand.const (Go.Value.bool false)), type := 4, pos := "law.go:109", after := #[{ on := 2, ground := Go.Ground.data }, { on := 8, ground := Go.Ground.data }], guard := none }) (v := ?_) rfl (by kernel_rfl) (by kernel_rfl) (by kernel_rfl) (fun _ _ _ h => h) (Or.inl ⟨by rfl, ?_⟩) (by assumption) ?_
      rotate_left
      · intro wz hSw; (try dsimp only at hSw); go_simp; (try with_reducible rfl)
      try simp only [Act.put, List.setIfInBounds_toArray, List.set_cons_zero, List.set_cons_succ]
      refine wpAnyH_done (by kernel_rfl) (NoPanic.normal ?_) _
      try simp only [Act.put, List.setIfInBounds_toArray, List.set_cons_zero, List.set_cons_succ]
      clear hHeld
      go_wp2_with fail
      refine (sure_any wa.drew (HEa.out.2.glob.belowS ((Below.refl _ wa).drew))).mono ?_
      rintro e w2 ⟨rfl, hb2⟩
      have hbe := Below.transS HEa.out.1.drew hb2
      clear hb2
      go_wp2
      go_ret
      exact ⟨rfl, hbe⟩
end Go.Proofs.YtecahnafcljljaaDoor
