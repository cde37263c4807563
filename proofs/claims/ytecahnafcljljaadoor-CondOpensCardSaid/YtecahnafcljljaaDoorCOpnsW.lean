/- CondOpens: the walk. -/
import Derived.Test.YtecahnafcljljaaDoorCROpens
import Derived.Test.YtecahnafcljljaaDoorCGivenS
namespace Go.Proofs.YtecahnafcljljaaDoor
open Go.RowKit Go.Shelf Go.Sort

theorem exec_eqV {a : Act} {o : Oper} (x y : Operand) (ho : o.op = .binOp .eql 44 x y 44) {z u : Nat → Int} (hz : Zb z) (hu : Zb u) (hx : a.eval x = .agg (hv z)) (hy : a.eval y = .agg (hv u)) {c : Bool} (hc : hq z u = c) (w : World) :
    (execOp a.eval o).run Tryd.prog w = .ok (.value (.bool c)) w := by
  have e1 : (binOp .eql 44 (.agg (hv z)) (.agg (hv u))).run Tryd.prog w = .ok (.bool c) w := by
    go_simp
    simp [eqIn_hv hz hu, Result.andThen, hc]
  unfold execOp
  simp only [ho, hx, hy, Sem.run_bind, run_eqGuard_agg w .eql 44 x y _ _ guardHs, e1, Result.andThen_ok, Sem.run_pure]
theorem szSeenl (sa : Option Addr) (sn sc : Nat) (ta : Option Addr) (tl tc : Nat) (ht ag : Int) : (Tryd.prog.info? 31).map (·.size) = some (sn4 sa sn sc ta tl tc ht ag).toList.length := szSeen
/-- The boxes of the input, in a world. -/
structure BoxS (w : World) (p g7 : Nat) (ad : Option Addr) (n cap : Nat) (sa : Option Addr) (sn sc : Nat) (ta : Option Addr) (tl tc : Nat) (ht ag : Int) : Prop where
  c : w.cell? ⟨p, 0, none⟩ = some (.slice ad n cap)
  s : w.rangeAt (p + 1) 0 (sn4 sa sn sc ta tl tc ht ag).toList
  x : w.rangeAt g7 0 (sn4 sa sn sc ta tl tc ht ag).toList
theorem BoxS.below {w w' : World} {p g7 : Nat} {ad : Option Addr} {n cap : Nat} {sa : Option Addr} {sn sc : Nat} {ta : Option Addr} {tl tc : Nat} {ht ag : Int} (h : BoxS w p g7 ad n cap sa sn sc ta tl tc ht ag) (hb : Below w.heap.size w w') : BoxS w' p g7 ad n cap sa sn sc ta tl tc ht ag :=
  ⟨by rw [hb.cell (World.block_lt_of_cell? w _ h.c)]; exact h.c, range_below h.s hb, range_below h.x hb⟩

set_option maxRecDepth 100000 in
set_option maxHeartbeats 6400000 in
theorem opensW_any (ad : Option Addr) (n cap : Nat) (X : Nat → Bv) (br : Int) (sa : Option Addr) (sn sc : Nat) (sz : Nat → Int) (ta : Option Addr) (tc : Nat) (T : List Nat) (ht ag : Int) (w : World) (hE : Env w ad n X sa sn sz ta T)
    (hn : n ≤ 140737488355328) (hx : ∀ i, i < n → (X i).n ≤ 140737488355328) (hsn : sn ≤ 140737488355328) (hTy : ∀ i, T.getD i 0 < 256) (hTc : T.length ≤ tc) (hTl : T.length ≤ 140737488351232) :
    Calls Tryd.prog 3 #[.agg #[.slice ad n cap], .int .i64 br, .agg #[.slice sa sn sc, .slice ta T.length tc, .int .i64 ht, .int .i64 ag]] w fun e w' => e = .returned (.bool true) ∧ Below w.heap.size w w' := by
  have hb0 : Below w.heap.size w ((w.alloc (.cells #[.slice ad n cap] 24)).alloc (.cells #[.slice sa sn sc, .slice ta T.length tc, .int .i64 ht, .int .i64 ag] 28)) := ((Below.refl _ w).alloc (Nat.le_refl _) _).alloc (by simp) _
  have hn0 : ((w.alloc (.cells #[.slice ad n cap] 24)).alloc (.cells #[.slice sa sn sc, .slice ta T.length tc, .int .i64 ht, .int .i64 ag] 28)).heap[w.heap.size]? = some (.cells #[.slice ad n cap] 24 (0, 0)) := by
    rw [Below.heap_alloc _ _ _ (by simp)]; exact heap_alloc_new w _
  have hn1 : ((w.alloc (.cells #[.slice ad n cap] 24)).alloc (.cells #[.slice sa sn sc, .slice ta T.length tc, .int .i64 ht, .int .i64 ag] 28)).heap[w.heap.size + 1]? = some (.cells (sn4 sa sn sc ta T.length tc ht ag) 28 (0, 0)) := by
    have := heap_alloc_new (w.alloc (.cells #[.slice ad n cap] 24)) (.cells #[.slice sa sn sc, .slice ta T.length tc, .int .i64 ht, .int .i64 ag] 28)
    simpa [sn4] using this
  have HW : Hid (Below w.heap.size w ((w.alloc (.cells #[.slice ad n cap] 24)).alloc (.cells #[.slice sa sn sc, .slice ta T.length tc, .int .i64 ht, .int .i64 ag] 28)) ∧ Env ((w.alloc (.cells #[.slice ad n cap] 24)).alloc (.cells #[.slice sa sn sc, .slice ta T.length tc, .int .i64 ht, .int .i64 ag] 28)) ad n X sa sn sz ta T) := ⟨hb0, hE.below hb0⟩
  have c0 : ((w.alloc (.cells #[.slice ad n cap] 24)).alloc (.cells #[.slice sa sn sc, .slice ta T.length tc, .int .i64 ht, .int .i64 ag] 28)).cell? ⟨w.heap.size, 0, none⟩ = some (.slice ad n cap) := by rw [cell_of_row _ _ 0 _ _ _ hn0]; rfl
  have HTy : Hid (∀ i, T.getD i 0 < 256) := hTy
  have hta : ta = none → T.length = 0 := fun e => by
    rcases Nat.eq_zero_or_pos T.length with h0 | h0
    · exact h0
    · obtain ⟨g, o, e2, _⟩ := hE.se h0
      rw [e] at e2; cases e2
  have HTa : Hid (ta = none → T.length = 0) := hta
  clear hb0 hE hTy hta
  go_enter Tryd.func3, Tryd.ntmps3
  go_wp2_with fail
  generalize (w.alloc (.cells #[.slice ad n cap] 24)).alloc (.cells #[.slice sa sn sc, .slice ta T.length tc, .int .i64 ht, .int .i64 ag] 28) = W0 at *
  refine (long_any ad n cap X W0 HW.out.2.br hn hx).mono ?_
  rintro e w1 ⟨rfl, hb1⟩
  have HW1 : Hid (Below w.heap.size w w1 ∧ Env w1 ad n X sa sn sz ta T) := ⟨Below.transS HW.out.1 hb1, HW.out.2.below hb1⟩
  have hm1 : w1.heap[w.heap.size + 1]? = some (.cells (sn4 sa sn sc ta T.length tc ht ag) 28 (0, 0)) := by rw [hb1.block _ (lt_of_block hn1)]; exact hn1
  have c1 : w1.cell? ⟨w.heap.size, 0, none⟩ = some (.slice ad n cap) := by rw [hb1.cell (p := ⟨w.heap.size, 0, none⟩) (World.block_lt_of_cell? W0 _ c0)]; exact c0
  have d0 : w1.cell? ⟨w.heap.size + 1, 0, none⟩ = some (.slice sa sn sc) := by rw [cell_of_row _ _ 0 _ _ _ hm1]; rfl
  clear hb1 hn0 hn1 HW c0
  by_cases hq : lng X n = true ∨ 300 < sn
  · clear hm1
    by_cases q1 : lng X n = true
    · rw [q1]
      go_wp2_with fail
      refine (sure_any w1 HW1.out.2.glob).mono ?_
      rintro e w2 ⟨rfl, hb2⟩
      have hbe := Below.transS HW1.out.1 hb2
      clear hb2
      go_wp2
      go_ret
      exact ⟨rfl, hbe⟩
    · have q1' : lng X n = false := by simpa using q1
      have q2 : 300 < sn := hq.resolve_left q1
      have q2' : (300 : Int) < sn := by omega
      rw [q1']
      go_wp2_with fail
      refine (sure_any w1 HW1.out.2.glob).mono ?_
      rintro e w2 ⟨rfl, hb2⟩
      have hbe := Below.transS HW1.out.1 hb2
      clear hb2
      go_wp2
      go_ret
      exact ⟨rfl, hbe⟩
  · have q1 : lng X n = false := by
      cases h : lng X n with
      | true => exact absurd (.inl h) hq
      | false => rfl
    have q2 : sn ≤ 300 := Nat.le_of_not_lt fun h => hq (.inr h)
    have q2' : ¬ (300 : Int) < sn := by omega
    have hsm := lng_no q1
    have hn6 : n ≤ 1000000 := by have := hsm.1; omega
    have HX6 : Hid (∀ i, i < n → (X i).n ≤ 1000000) := fun i hi => by have := hsm.2 i hi; omega
    have hsn6 : sn ≤ 1000000 := by omega
    have hTl2 : T.length ≤ 140737488355328 := by omega
    rw [q1]
    clear hq hsm hx hn hsn
    have HR1 : Hid (w1.rangeAt (w.heap.size + 1) 0 (sn4 sa sn sc ta T.length tc ht ag).toList) := sn4_range hm1
    have hn7 : (w1.alloc (.cells #[.slice none 0 0, .slice none 0 0, .int .i64 0, .int .i64 0] 31)).heap[w1.heap.size]? = some (.cells #[.slice none 0 0, .slice none 0 0, .int .i64 0, .int .i64 0] 31 (0, 0)) := heap_alloc_new w1 _
    have HC1 : Hid (w1.cell? ⟨w.heap.size, 0, none⟩ = some (.slice ad n cap)) := c1
    have HS2 : Hid (∀ w' : World, w'.heap[w1.heap.size]? = some (.cells (sn4 sa sn sc ta T.length tc ht ag) 31 (0, 0)) → Frm [w1.heap.size] (w1.alloc (.cells #[.slice none 0 0, .slice none 0 0, .int .i64 0, .int .i64 0] 31)) w' → Below w1.heap.size w1 w' ∧ BoxS w' w.heap.size w1.heap.size ad n cap sa sn sc ta T.length tc ht ag) := by
      intro w' h1 h2
      have h3 : Below w1.heap.size w1 w' := ((Below.refl _ w1).alloc (Nat.le_refl _) _).trans (h2.below (by simp) (by simp))
      exact ⟨h3, by rw [h3.cell (p := ⟨w.heap.size, 0, none⟩) (World.block_lt_of_cell? w1 _ HC1.out)]; exact HC1.out, range_below HR1.out h3, sn4_range h1⟩
    clear hm1
    go_wp2_with (first | (refine wpList_load_mid rfl 28 _ rfl (w.heap.size + 1) 0 rfl (sn4 sa sn sc ta T.length tc ht ag).toList _ HR1.out Tryd.underlying28 rfl (szSnl _ _ _ _ _ _ _ _) ?_) | (refine wpList_storeRow 31 szSeen rfl _ _ rfl w1.heap.size rfl (sn4 sa sn sc ta T.length tc ht ag) _ rfl rfl (sn4_one _ _ _ _ _ _ _ _) 31 rfl hn7 ?_; intro w2 hg2 hf2; obtain ⟨hb2, hX2⟩ := HS2.out w2 hg2 hf2; clear hg2 hf2) | fail)
    have S2 : BoxS w2.drew w.heap.size w1.heap.size ad n cap sa sn sc ta T.length tc ht ag := hX2.below ((Below.refl _ w2).drew)
    have HW2 : Hid (Below w.heap.size w w2.drew ∧ Env w2.drew ad n X sa sn sz ta T) := ⟨(Below.transS HW1.out.1 hb2).drew, (HW1.out.2.below hb2).below ((Below.refl _ w2).drew)⟩
    clear hb2 hX2 hn7 HS2 HC1 HR1 HW1 c1 d0
    refine wp_region_noPanic ?_
    refine wp_region_held_drew (S := fun w' => BoxS w' w.heap.size w1.heap.size ad n cap sa sn sc ta T.length tc ht ag) (by kernel_rfl) S2 (fun hHeld => ?_)
    generalize w2.drew = wb at *
    generalize w1.heap.size = g7 at *
    refine wpAnyH_take (i := 0) (oi := { dst := some 18, op := Go.Op.load 24 (Go.Operand.tmp 3), type := 24, pos := "law.go:71", after := #[], guard := none }) (v := .agg #[.slice ad n cap]) rfl (by kernel_rfl) (by kernel_rfl) (by kernel_rfl) (fun _ _ _ h => h) (Or.inl ⟨by rfl, ?_⟩) (by assumption) ?_
    · intro wz hSw; (try dsimp only at hSw); have h1 := hSw.c; go_simp; try rfl
    try simp only [Act.put, List.setIfInBounds_toArray, List.set_cons_zero, List.set_cons_succ]
    refine wpAnyH_take (i := 4) (oi := { dst := some 22, op := Go.Op.load 24 (Go.Operand.tmp 3), type := 24, pos := "law.go:71", after := #[], guard := none }) (v := .agg #[.slice ad n cap]) rfl (by kernel_rfl) (by kernel_rfl) (by kernel_rfl) (fun _ _ _ h => h) (Or.inl ⟨by rfl, ?_⟩) (by assumption) ?_
    · intro wz hSw; (try dsimp only at hSw); have h1 := hSw.c; go_simp; try rfl
    try simp only [Act.put, List.setIfInBounds_toArray, List.set_cons_zero, List.set_cons_succ]
    refine wpAnyH_ready (rs := [1]) (by kernel_rfl) (by simp) ?_
    refine (AllReadyH.cons (o := { dst := some 19, op := Go.Op.call { callee := Go.Callee.value (Go.Operand.func 10), args := #[Go.Operand.tmp 18], argTypes := #[24] }, type := 38, pos := "law.go:71", after := #[{ on := 0, ground := Go.Ground.data }], guard := none }) rfl (fun K hK => ?_) AllReadyH.nil)
    go_simp
    refine (give_any ad n cap X _ HW2.out.2.br hn6 HX6.out).mono ?_
    rintro e w3 ⟨ad3, cap3, rfl, hB3, hb3⟩
    have HW3 : Hid (Below w.heap.size w w3 ∧ Env w3 ad n X sa sn sz ta T ∧ BrAt w3 ad3 n X) := ⟨Below.transS HW2.out.1 hb3, HW2.out.2.below hb3, hB3⟩
    have S3 := S2.below hb3
    clear hB3 hb3 HW2 S2
    refine hK.out _ _ S3 (fun _ => ?_)
    clear hK K
    try simp only [Act.put, List.setIfInBounds_toArray, List.set_cons_zero, List.set_cons_succ]
    refine wpAnyH_ready (rs := [2]) (by kernel_rfl) (by simp) ?_
    refine (AllReadyH.cons (o := { dst := some 20, op := Go.Op.call { callee := Go.Callee.value (Go.Operand.func 9), args := #[Go.Operand.tmp 19], argTypes := #[38] }, type := 34, pos := "law.go:71", after := #[{ on := 1, ground := Go.Ground.data }, { on := 1, ground := Go.Ground.chain }], guard := none }) rfl (fun K hK => ?_) AllReadyH.nil)
    go_simp
    refine (check_any ad3 n cap3 X _ HW3.out.2.2 hn6 HX6.out).mono ?_
    rintro e w4 ⟨rfl, hb4⟩
    have HW4 : Hid (Below w.heap.size w w4 ∧ Env w4 ad n X sa sn sz ta T) := ⟨Below.transS HW3.out.1 hb4, HW3.out.2.1.below hb4⟩
    have S4 := S3.below hb4
    clear hb4 HW3 S3
    refine hK.out _ _ S4 (fun _ => ?_)
    clear hK K
    try simp only [Act.put, List.setIfInBounds_toArray, List.set_cons_zero, List.set_cons_succ]
    refine wpAnyH_ready (rs := [3]) (by kernel_rfl) (by simp) ?_
    refine (AllReadyH.cons (o := { dst := some 21, op := Go.Op.call { callee := Go.Callee.value (Go.Operand.func 8), args := #[Go.Operand.tmp 20], argTypes := #[34] }, type := 3, pos := "law.go:71", after := #[{ on := 2, ground := Go.Ground.data }, { on := 2, ground := Go.Ground.chain }], guard := none }) rfl (fun K hK => ?_) AllReadyH.nil)
    go_simp
    refine (num_any (chkE X n) _ HW4.out.2.glob).mono ?_
    rintro e w5 ⟨rfl, hb5⟩
    have HW5 : Hid (Below w.heap.size w w5 ∧ Env w5 ad n X sa sn sz ta T) := ⟨Below.transS HW4.out.1 hb5, HW4.out.2.below hb5⟩
    have S5 := S4.below hb5
    clear hb5 HW4 S4
    refine hK.out _ _ S5 (fun _ => ?_)
    clear hK K
    try simp only [Act.put, List.setIfInBounds_toArray, List.set_cons_zero, List.set_cons_succ]
    refine wpAnyH_ready (rs := [5]) (by kernel_rfl) (by simp) ?_
    refine (AllReadyH.cons (o := { dst := some 23, op := Go.Op.call { callee := Go.Callee.value (Go.Operand.func 11), args := #[Go.Operand.tmp 22], argTypes := #[24] }, type := 3, pos := "law.go:71", after := #[{ on := 4, ground := Go.Ground.data }, { on := 3, ground := Go.Ground.chain }], guard := none }) rfl (fun K hK => ?_) AllReadyH.nil)
    go_simp
    refine (rcheck_any ad n cap X _ HW5.out.2.br hn6 HX6.out).mono ?_
    rintro e w6 ⟨rfl, hb6⟩
    have HW6 : Hid (Below w.heap.size w w6 ∧ Env w6 ad n X sa sn sz ta T) := ⟨Below.transS HW5.out.1 hb6, HW5.out.2.below hb6⟩
    have S6 := S5.below hb6
    clear hb6 HW5 S5
    refine hK.out _ _ S6 (fun _ => ?_)
    clear hK K
    try simp only [Act.put, List.setIfInBounds_toArray, List.set_cons_zero, List.set_cons_succ]
    generalize chkE X n = e1 at *
    refine wpAnyH_take (i := 6) (oi := { dst := some 24, op := Go.Op.binOp Go.BinOp.eql 3 (Go.Operand.tmp 21) (Go.Operand.tmp 23) 3, type := 4, pos := "law.go:71", after := #[{ on := 3, ground := Go.Ground.data }, { on := 5, ground := Go.Ground.data }], guard := none }) (v := ?_) rfl (by kernel_rfl) (by kernel_rfl) (by kernel_rfl) (fun _ _ _ h => h) (Or.inl ⟨by rfl, ?_⟩) (by assumption) ?_
    rotate_left
    · intro wz hSw; (try dsimp only at hSw); go_simp; (try with_reducible rfl)
    try simp only [Act.put, List.setIfInBounds_toArray, List.set_cons_zero, List.set_cons_succ]
    refine wpAnyH_take (i := 7) (oi := { dst := some 25, op := Go.Op.move (Go.Operand.tmp 24), type := 4, pos := "law.go:71", after := #[{ on := 6, ground := Go.Ground.data }, { on := 5, ground := Go.Ground.chain }], guard := none }) (v := ?_) rfl (by kernel_rfl) (by kernel_rfl) (by kernel_rfl) (fun _ _ _ h => h) (Or.inl ⟨by rfl, ?_⟩) (by assumption) ?_
    rotate_left
    · intro wz hSw; (try dsimp only at hSw); go_simp; (try with_reducible rfl)
    try simp only [Act.put, List.setIfInBounds_toArray, List.set_cons_zero, List.set_cons_succ]
    refine wpAnyH_take (i := 8) (oi := { dst := some 26, op := Go.Op.load 24 (Go.Operand.tmp 3), type := 24, pos := "law.go:71", after := #[{ on := 7, ground := Go.Ground.guard }], guard := some (7, true) }) (v := .agg #[.slice ad n cap]) rfl (by kernel_rfl) (by kernel_rfl) (by kernel_rfl) (fun _ _ _ h => h) (Or.inl ⟨by rfl, ?_⟩) (by assumption) ?_
    · intro wz hSw; (try dsimp only at hSw); have h1 := hSw.c; go_simp; try rfl
    try simp only [Act.put, List.setIfInBounds_toArray, List.set_cons_zero, List.set_cons_succ]
    refine wpAnyH_take (i := 10) (oi := { dst := some 28, op := Go.Op.move (Go.Operand.tmp 1), type := 3, pos := "law.go:71", after := #[{ on := 7, ground := Go.Ground.guard }], guard := some (7, true) }) (v := ?_) rfl (by kernel_rfl) (by kernel_rfl) (by kernel_rfl) (fun _ _ _ h => h) (Or.inl ⟨by rfl, ?_⟩) (by assumption) ?_
    rotate_left
    · intro wz hSw; (try dsimp only at hSw); go_simp; (try with_reducible rfl)
    try simp only [Act.put, List.setIfInBounds_toArray, List.set_cons_zero, List.set_cons_succ]
    refine wpAnyH_take (i := 11) (oi := { dst := some 29, op := Go.Op.load 31 (Go.Operand.tmp 7), type := 31, pos := "law.go:71", after := #[{ on := 7, ground := Go.Ground.guard }], guard := some (7, true) }) rfl (by kernel_rfl) (by kernel_rfl) (by kernel_rfl) (fun _ _ _ h => h) (yieldsIf_load_mid (by rfl) _ _ rfl g7 0 rfl (sn4 sa sn sc ta T.length tc ht ag).toList _ (fun _ h => h.x) Tryd.underlying31 rfl (szSeenl _ _ _ _ _ _ _ _)) (by assumption) ?_
    try simp only [Act.put, List.setIfInBounds_toArray, List.set_cons_zero, List.set_cons_succ]
    refine wpAnyH_take (i := 14) (oi := { dst := some 32, op := Go.Op.load 24 (Go.Operand.tmp 3), type := 24, pos := "law.go:71", after := #[{ on := 7, ground := Go.Ground.guard }], guard := some (7, true) }) (v := .agg #[.slice ad n cap]) rfl (by kernel_rfl) (by kernel_rfl) (by kernel_rfl) (fun _ _ _ h => h) (Or.inl ⟨by rfl, ?_⟩) (by assumption) ?_
    · intro wz hSw; (try dsimp only at hSw); have h1 := hSw.c; go_simp; try rfl
    try simp only [Act.put, List.setIfInBounds_toArray, List.set_cons_zero, List.set_cons_succ]
    refine wpAnyH_take (i := 15) (oi := { dst := some 33, op := Go.Op.move (Go.Operand.tmp 1), type := 3, pos := "law.go:71", after := #[{ on := 7, ground := Go.Ground.guard }], guard := some (7, true) }) (v := ?_) rfl (by kernel_rfl) (by kernel_rfl) (by kernel_rfl) (fun _ _ _ h => h) (Or.inl ⟨by rfl, ?_⟩) (by assumption) ?_
    rotate_left
    · intro wz hSw; (try dsimp only at hSw); go_simp; (try with_reducible rfl)
    try simp only [Act.put, List.setIfInBounds_toArray, List.set_cons_zero, List.set_cons_succ]
    refine wpAnyH_take (i := 16) (oi := { dst := some 34, op := Go.Op.load 28 (Go.Operand.tmp 5), type := 28, pos := "law.go:71", after := #[{ on := 7, ground := Go.Ground.guard }], guard := some (7, true) }) rfl (by kernel_rfl) (by kernel_rfl) (by kernel_rfl) (fun _ _ _ h => h) (yieldsIf_load_mid (by rfl) _ _ rfl (w.heap.size + 1) 0 rfl (sn4 sa sn sc ta T.length tc ht ag).toList _ (fun _ h => h.s) Tryd.underlying28 rfl (szSnl _ _ _ _ _ _ _ _)) (by assumption) ?_
    try simp only [Act.put, List.setIfInBounds_toArray, List.set_cons_zero, List.set_cons_succ]
    refine wpAnyH_ready (rs := [9]) (by kernel_rfl) (by simp) ?_
    refine (AllReadyH.cons (o := { dst := some 27, op := Go.Op.call { callee := Go.Callee.value (Go.Operand.func 10), args := #[Go.Operand.tmp 26], argTypes := #[24] }, type := 38, pos := "law.go:71", after := #[{ on := 8, ground := Go.Ground.data }, { on := 7, ground := Go.Ground.chain }, { on := 7, ground := Go.Ground.guard }], guard := some (7, true) }) rfl (fun K hK => ?_) AllReadyH.nil)
    go_simp
    refine (give_any ad n cap X _ HW6.out.2.br hn6 HX6.out).mono ?_
    rintro e w7 ⟨ad7, cap7, rfl, hB7, hb7⟩
    have HW7 : Hid (Below w.heap.size w w7 ∧ Env w7 ad n X sa sn sz ta T ∧ BrAt w7 ad7 n X) := ⟨Below.transS HW6.out.1 hb7, HW6.out.2.below hb7, hB7⟩
    have S7 := S6.below hb7
    clear hB7 hb7 HW6 S6
    refine hK.out _ _ S7 (fun _ => ?_)
    clear hK K
    try simp only [Act.put, List.setIfInBounds_toArray, List.set_cons_zero, List.set_cons_succ]
    refine wpAnyH_ready (rs := [12]) (by kernel_rfl) (by simp) ?_
    refine (AllReadyH.cons (o := { dst := some 30, op := Go.Op.call { callee := Go.Callee.value (Go.Operand.func 12), args := #[Go.Operand.tmp 27, Go.Operand.tmp 28, Go.Operand.tmp 29], argTypes := #[38, 3, 31] }, type := 34, pos := "law.go:71", after := #[{ on := 9, ground := Go.Ground.data }, { on := 10, ground := Go.Ground.data }, { on := 11, ground := Go.Ground.data }, { on := 9, ground := Go.Ground.chain }, { on := 7, ground := Go.Ground.guard }], guard := some (7, true) }) rfl (fun K hK => ?_) AllReadyH.nil)
    go_simp
    refine (opens_any ad7 n cap7 X br sa sn sc sz ta tc T ht ag w7 HW7.out.2.1.tab HW7.out.2.1.pos HW7.out.2.2 hn6 HX6.out HW7.out.2.1.si hsn6 HW7.out.2.1.se HTy.out hTc hTl2).mono ?_
    rintro e w8 ⟨rfl, hb8⟩
    have HW8 : Hid (Below w.heap.size w w8 ∧ Env w8 ad n X sa sn sz ta T) := ⟨Below.transS HW7.out.1 hb8, HW7.out.2.1.below hb8⟩
    have S8 := S7.below hb8
    clear hb8 HW7 S7
    refine hK.out _ _ S8 (fun _ => ?_)
    clear hK K
    try simp only [Act.put, List.setIfInBounds_toArray, List.set_cons_zero, List.set_cons_succ]
    refine wpAnyH_ready (rs := [13]) (by kernel_rfl) (by simp) ?_
    refine (AllReadyH.cons (o := { dst := some 31, op := Go.Op.call { callee := Go.Callee.value (Go.Operand.func 8), args := #[Go.Operand.tmp 30], argTypes := #[34] }, type := 3, pos := "law.go:71", after := #[{ on := 12, ground := Go.Ground.data }, { on := 12, ground := Go.Ground.chain }, { on := 7, ground := Go.Ground.guard }], guard := some (7, true) }) rfl (fun K hK => ?_) AllReadyH.nil)
    go_simp
    refine (num_any (opnA X n br sz sn T ht ag) _ HW8.out.2.glob).mono ?_
    rintro e w9 ⟨rfl, hb9⟩
    have HW9 : Hid (Below w.heap.size w w9 ∧ Env w9 ad n X sa sn sz ta T) := ⟨Below.transS HW8.out.1 hb9, HW8.out.2.below hb9⟩
    have S9 := S8.below hb9
    clear hb9 HW8 S8
    refine hK.out _ _ S9 (fun _ => ?_)
    clear hK K
    try simp only [Act.put, List.setIfInBounds_toArray, List.set_cons_zero, List.set_cons_succ]
    refine wpAnyH_ready (rs := [17]) (by kernel_rfl) (by simp) ?_
    refine (AllReadyH.cons (o := { dst := some 35, op := Go.Op.call { callee := Go.Callee.value (Go.Operand.func 13), args := #[Go.Operand.tmp 32, Go.Operand.tmp 33, Go.Operand.tmp 34], argTypes := #[24, 3, 28] }, type := 3, pos := "law.go:71", after := #[{ on := 14, ground := Go.Ground.data }, { on := 15, ground := Go.Ground.data }, { on := 16, ground := Go.Ground.data }, { on := 13, ground := Go.Ground.chain }, { on := 7, ground := Go.Ground.guard }], guard := some (7, true) }) rfl (fun K hK => ?_) AllReadyH.nil)
    go_simp
    refine (ropens_any ad n cap X br sa sn sc sz ta tc T ht ag w9 HW9.out.2 hn6 HX6.out hsn6 HTy.out hTl).mono ?_
    rintro e wa ⟨rfl, hba⟩
    have HWa : Hid (Below w.heap.size w wa ∧ Env wa ad n X sa sn sz ta T) := ⟨Below.transS HW9.out.1 hba, HW9.out.2.below hba⟩
    have Sa := S9.below hba
    clear hba HW9 S9
    refine hK.out _ _ Sa (fun _ => ?_)
    clear hK K
    try simp only [Act.put, List.setIfInBounds_toArray, List.set_cons_zero, List.set_cons_succ]
    generalize opnA X n br sz sn T ht ag = e2 at *
    refine wpAnyH_take (i := 18) (oi := { dst := some 36, op := Go.Op.binOp Go.BinOp.eql 3 (Go.Operand.tmp 31) (Go.Operand.tmp 35) 3, type := 4, pos := "law.go:71", after := #[{ on := 13, ground := Go.Ground.data }, { on := 17, ground := Go.Ground.data }, { on := 7, ground := Go.Ground.guard }], guard := some (7, true) }) (v := ?_) rfl (by kernel_rfl) (by kernel_rfl) (by kernel_rfl) (fun _ _ _ h => h) (Or.inl ⟨by rfl, ?_⟩) (by assumption) ?_
    rotate_left
    · intro wz hSw; (try dsimp only at hSw); go_simp; (try with_reducible rfl)
    try simp only [Act.put, List.setIfInBounds_toArray, List.set_cons_zero, List.set_cons_succ]
    refine wpAnyH_take (i := 19) (oi := { dst := some 37, op := Go.Op.pick (Go.Operand.tmp 25) (Go.Operand.tmp 36) (Go.Operand.const (Go.Value.bool false)), type := 4, pos := "law.go:71", after := #[{ on := 7, ground := Go.Ground.data }, { on := 18, ground := Go.Ground.data }], guard := none }) (v := ?_) rfl (by kernel_rfl) (by kernel_rfl) (by kernel_rfl) (fun _ _ _ h => h) (Or.inl ⟨by rfl, ?_⟩) (by assumption) ?_
    rotate_left
    · intro wz hSw; (try dsimp only at hSw); go_simp; (try with_reducible rfl)
    try simp only [Act.put, List.setIfInBounds_toArray, List.set_cons_zero, List.set_cons_succ]
    refine wpAnyH_take (i := 20) (oi := { dst := some 38, op := Go.Op.move (Go.Operand.tmp 37), type := 4, pos := "law.go:71", after := #[{ on := 19, ground := Go.Ground.data }, { on := 17, ground := Go.Ground.chain }], guard := none }) (v := ?_) rfl (by kernel_rfl) (by kernel_rfl) (by kernel_rfl) (fun _ _ _ h => h) (Or.inl ⟨by rfl, ?_⟩) (by assumption) ?_
    rotate_left
    · intro wz hSw; (try dsimp only at hSw); go_simp; (try with_reducible rfl)
    try simp only [Act.put, List.setIfInBounds_toArray, List.set_cons_zero, List.set_cons_succ]
    refine wpAnyH_take (i := 21) (oi := { dst := some 39, op := Go.Op.fieldAddr 28 (Go.Operand.tmp 5) 1, type := 0, pos := "law.go:71", after := #[{ on := 20, ground := Go.Ground.guard }], guard := some (20, true) }) (v := ?_) rfl (by kernel_rfl) (by kernel_rfl) (by kernel_rfl) (fun _ _ _ h => h) (Or.inl ⟨by rfl, ?_⟩) (by assumption) ?_
    rotate_left
    · intro wz hSw; (try dsimp only at hSw); go_simp; (try with_reducible rfl)
    try simp only [Act.put, List.setIfInBounds_toArray, List.set_cons_zero, List.set_cons_succ]
    refine wpAnyH_take (i := 22) (oi := { dst := some 40, op := Go.Op.load 26 (Go.Operand.tmp 39), type := 26, pos := "law.go:71", after := #[{ on := 21, ground := Go.Ground.data }, { on := 20, ground := Go.Ground.guard }], guard := some (20, true) }) (v := .slice ta T.length tc) rfl (by kernel_rfl) (by kernel_rfl) (by kernel_rfl) (fun _ _ _ h => h) (Or.inl ⟨by rfl, ?_⟩) (by assumption) ?_
    · intro wz hSw; (try dsimp only at hSw); have h1 : wz.cell? ⟨w.heap.size + 1, 1, none⟩ = some (.slice ta T.length tc) := hSw.s 1 _ rfl; go_simp; try rfl
    try simp only [Act.put, List.setIfInBounds_toArray, List.set_cons_zero, List.set_cons_succ]
    refine wpAnyH_take (i := 24) (oi := { dst := some 42, op := Go.Op.fieldAddr 28 (Go.Operand.tmp 5) 1, type := 0, pos := "law.go:71", after := #[{ on := 20, ground := Go.Ground.guard }], guard := some (20, true) }) (v := ?_) rfl (by kernel_rfl) (by kernel_rfl) (by kernel_rfl) (fun _ _ _ h => h) (Or.inl ⟨by rfl, ?_⟩) (by assumption) ?_
    rotate_left
    · intro wz hSw; (try dsimp only at hSw); go_simp; (try with_reducible rfl)
    try simp only [Act.put, List.setIfInBounds_toArray, List.set_cons_zero, List.set_cons_succ]
    refine wpAnyH_take (i := 25) (oi := { dst := some 43, op := Go.Op.load 26 (Go.Operand.tmp 42), type := 26, pos := "law.go:71", after := #[{ on := 24, ground := Go.Ground.data }, { on := 20, ground := Go.Ground.guard }], guard := some (20, true) }) (v := .slice ta T.length tc) rfl (by kernel_rfl) (by kernel_rfl) (by kernel_rfl) (fun _ _ _ h => h) (Or.inl ⟨by rfl, ?_⟩) (by assumption) ?_
    · intro wz hSw; (try dsimp only at hSw); have h1 : wz.cell? ⟨w.heap.size + 1, 1, none⟩ = some (.slice ta T.length tc) := hSw.s 1 _ rfl; go_simp; try rfl
    try simp only [Act.put, List.setIfInBounds_toArray, List.set_cons_zero, List.set_cons_succ]
    refine wpAnyH_ready (rs := [23]) (by kernel_rfl) (by simp) ?_
    refine (AllReadyH.cons (o := { dst := some 41, op := Go.Op.call { callee := Go.Callee.value (Go.Operand.func 14), args := #[Go.Operand.tmp 40], argTypes := #[26] }, type := 44, pos := "law.go:71", after := #[{ on := 22, ground := Go.Ground.data }, { on := 20, ground := Go.Ground.chain }, { on := 20, ground := Go.Ground.guard }], guard := some (20, true) }) rfl (fun K hK => ?_) AllReadyH.nil)
    go_simp
    refine (lock_any ta tc T wa HWa.out.2.tab HWa.out.2.pos HWa.out.2.se HTy.out hTc hTl2).mono ?_
    rintro e wc ⟨rfl, hbc⟩
    have HWc : Hid (Below w.heap.size w wc ∧ Env wc ad n X sa sn sz ta T) := ⟨Below.transS HWa.out.1 hbc, HWa.out.2.below hbc⟩
    have Sc := Sa.below hbc
    clear hbc HWa Sa
    refine hK.out _ _ Sc (fun _ => ?_)
    clear hK K
    try simp only [Act.put, List.setIfInBounds_toArray, List.set_cons_zero, List.set_cons_succ]
    refine wpAnyH_ready (rs := [26]) (by kernel_rfl) (by simp) ?_
    refine (AllReadyH.cons (o := { dst := some 44, op := Go.Op.call { callee := Go.Callee.value (Go.Operand.func 15), args := #[Go.Operand.tmp 43], argTypes := #[26] }, type := 44, pos := "law.go:71", after := #[{ on := 25, ground := Go.Ground.data }, { on := 23, ground := Go.Ground.chain }, { on := 20, ground := Go.Ground.guard }], guard := some (20, true) }) rfl (fun K hK => ?_) AllReadyH.nil)
    go_simp
    refine (rsum_any ta tc T wc HWc.out.2.se HTa.out HTy.out hTl).mono ?_
    rintro e wd ⟨rfl, hbd⟩
    rw [sv_sum T]
    have HWd : Hid (Below w.heap.size w wd ∧ Env wd ad n X sa sn sz ta T) := ⟨Below.transS HWc.out.1 hbd, HWc.out.2.below hbd⟩
    have Sd := Sc.below hbd
    clear hbd HWc Sc
    refine hK.out _ _ Sd (fun _ => ?_)
    clear hK K
    try simp only [Act.put, List.setIfInBounds_toArray, List.set_cons_zero, List.set_cons_succ]
    refine wpAnyH_take (i := 27) (oi := { dst := some 45, op := Go.Op.binOp Go.BinOp.eql 44 (Go.Operand.tmp 41) (Go.Operand.tmp 44) 44, type := 4, pos := "law.go:71", after := #[{ on := 23, ground := Go.Ground.data }, { on := 26, ground := Go.Ground.data }, { on := 20, ground := Go.Ground.guard }], guard := some (20, true) }) (v := .bool true) rfl (by kernel_rfl) (by kernel_rfl) (by kernel_rfl) (fun _ _ _ h => h) (Or.inl ⟨by rfl, ?_⟩) (by assumption) ?_
    · intro wz hSw; (try dsimp only at hSw); exact exec_eqV _ _ rfl (sZ_bd T) (sZ_bd T) rfl rfl (hq_same _) wz
    try simp only [Act.put, List.setIfInBounds_toArray, List.set_cons_zero, List.set_cons_succ]
    refine wpAnyH_take (i := 28) (oi := { dst := some 46, op := Go.Op.pick (Go.Operand.tmp 38) (Go.Operand.tmp 45) (Go.Operand.const (Go.Value.bool false)), type := 4, pos := "law.go:71", after := #[{ on := 20, ground := Go.Ground.data }, { on := 27, ground := Go.Ground.data }], guard := none }) (v := ?_) rfl (by kernel_rfl) (by kernel_rfl) (by kernel_rfl) (fun _ _ _ h => h) (Or.inl ⟨by rfl, ?_⟩) (by assumption) ?_
    rotate_left
    · intro wz hSw; (try dsimp only at hSw); go_simp; (try with_reducible rfl)
    try simp only [Act.put, List.setIfInBounds_toArray, List.set_cons_zero, List.set_cons_succ]
    refine wpAnyH_take (i := 29) (oi := { dst := some 47, op := Go.Op.move (Go.Operand.tmp 46), type := 4, pos := "law.go:71", after := #[{ on := 28, ground := Go.Ground.data }, { on := 26, ground := Go.Ground.chain }], guard := none }) (v := ?_) rfl (by kernel_rfl) (by kernel_rfl) (by kernel_rfl) (fun _ _ _ h => h) (Or.inl ⟨by rfl, ?_⟩) (by assumption) ?_
    rotate_left
    · intro wz hSw; (try dsimp only at hSw); go_simp; (try with_reducible rfl)
    try simp only [Act.put, List.setIfInBounds_toArray, List.set_cons_zero, List.set_cons_succ]
    refine wpAnyH_ready (rs := [30]) (by kernel_rfl) (by simp) ?_
    refine (AllReadyH.cons (o := { dst := some 48, op := Go.Op.call { callee := Go.Callee.value (Go.Operand.func 7), args := #[], argTypes := #[] }, type := 4, pos := "law.go:71", after := #[{ on := 29, ground := Go.Ground.chain }, { on := 29, ground := Go.Ground.guard }], guard := some (29, true) }) rfl (fun K hK => ?_) AllReadyH.nil)
    go_simp
    refine (sure_any wd HWd.out.2.glob).mono ?_
    rintro e we ⟨rfl, hbe⟩
    have hbw := Below.transS HWd.out.1 hbe
    have Se := Sd.below hbe
    clear hbe HWd Sd
    refine hK.out _ _ Se (fun _ => ?_)
    clear hK K
    try simp only [Act.put, List.setIfInBounds_toArray, List.set_cons_zero, List.set_cons_succ]
    refine wpAnyH_take (i := 31) (oi := { dst := some 49, op := Go.Op.pick (Go.Operand.tmp 47) (Go.Operand.tmp 48) (Go.Operand.const (Go.Value.bool false)), type := 4, pos := "law.go:71", after := #[{ on := 29, ground := Go.Ground.data }, { on := 30, ground := Go.Ground.data }], guard := none }) (v := ?_) rfl (by kernel_rfl) (by kernel_rfl) (by kernel_rfl) (fun _ _ _ h => h) (Or.inl ⟨by rfl, ?_⟩) (by assumption) ?_
    rotate_left
    · intro wz hSw; (try dsimp only at hSw); go_simp; (try with_reducible rfl)
    try simp only [Act.put, List.setIfInBounds_toArray, List.set_cons_zero, List.set_cons_succ]
    refine wpAnyH_take (i := 32) (oi := { dst := some 6, op := Go.Op.assign (Go.Operand.tmp 49), type := 4, pos := "law.go:71", after := #[{ on := 31, ground := Go.Ground.data }, { on := 30, ground := Go.Ground.chain }, { on := 0, ground := Go.Ground.phase }, { on := 1, ground := Go.Ground.phase }, { on := 2, ground := Go.Ground.phase }, { on := 3, ground := Go.Ground.phase }, { on := 4, ground := Go.Ground.phase }, { on := 5, ground := Go.Ground.phase }, { on := 6, ground := Go.Ground.phase }, { on := 7, ground := Go.Ground.phase }, { on := 8, ground := Go.Ground.phase }, { on := 9, ground := Go.Ground.phase }, { on := 10, ground := Go.Ground.phase }, { on := 11, ground := Go.Ground.phase }, { on := 12, ground := Go.Ground.phase }, { on := 13, ground := Go.Ground.phase }, { on := 14, ground := Go.Ground.phase }, { on := 15, ground := Go.Ground.phase }, { on := 16, ground := Go.Ground.phase }, { on := 17, ground := Go.Ground.phase }, { on := 18, ground := Go.Ground.phase }, { on := 19, ground := Go.Ground.phase }, { on := 20, ground := Go.Ground.phase }, { on := 21, ground := Go.Ground.phase }, { on := 22, ground := Go.Ground.phase }, { on := 23, ground := Go.Ground.phase }, { on := 24, ground := Go.Ground.phase }, { on := 25, ground := Go.Ground.phase }, { on := 26, ground := Go.Ground.phase }, { on := 27, ground := Go.Ground.phase }, { on := 28, ground := Go.Ground.phase }, { on := 29, ground := Go.Ground.phase }, { on := 30, ground := Go.Ground.phase }, { on := 31, ground := Go.Ground.phase }], guard := none }) (v := ?_) rfl (by kernel_rfl) (by kernel_rfl) (by kernel_rfl) (fun _ _ _ h => h) (Or.inl ⟨by rfl, ?_⟩) (by assumption) ?_
    rotate_left
    · intro wz hSw; (try dsimp only at hSw); go_simp; (try with_reducible rfl)
    try simp only [Act.put, List.setIfInBounds_toArray, List.set_cons_zero, List.set_cons_succ]
    refine wpAnyH_done (by kernel_rfl) (NoPanic.normal ?_) _
    try simp only [Act.put, List.setIfInBounds_toArray, List.set_cons_zero, List.set_cons_succ]
    clear hHeld Se
    go_wp2
    go_ret
    exact ⟨rfl, hbw⟩
theorem opensL (ad : Option Addr) (n cap : Nat) (X : Nat → Bv) (br : Int) (sa : Option Addr) (sn sc : Nat) (sz : Nat → Int) (ta : Option Addr) (tc : Nat) (T : List Nat) (ht ag : Int) (w : World) (hg : Glob w) (hT : Tab w) (hB : BrAt w ad n X) (hn : n ≤ 140737488355328) (hx : ∀ i, i < n → (X i).n ≤ 140737488355328) (_ : Ib br) (hs : SeenIn w sa sn sz ta tc T ht ag) :
    Calls Tryd.prog 3 #[.agg #[.slice ad n cap], .int .i64 br, .agg #[.slice sa sn sc, .slice ta T.length tc, .int .i64 ht, .int .i64 ag]] w fun e w' => e = .returned (.bool true) ∧ Below w.heap.size w w' :=
  opensW_any ad n cap X br sa sn sc sz ta tc T ht ag w ⟨hg, hT, hT.size, hB, hs.si, hs.se⟩ hn hx hs.sl hs.ty hs.tc hs.tl
end Go.Proofs.YtecahnafcljljaaDoor
