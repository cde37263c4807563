/- CondAll: the walk. -/
import Derived.Test.YtfdcpbolofkopaaDoorCAll0
import Derived.Test.YtfdcpbolofkopaaDoorCRPut
import Derived.OrdersHeld
namespace Go.Proofs.YtfdcpbolofkopaaDoor
open Go.RowKit

/-- What holds on the way may be more. -/
theorem wpAnyH_more {P : Program} {md : Region.Mode} {ops : Array Oper} {Q : Exit → Act → World → Prop} {S S' : World → Prop} (hS : ∀ w, S' w → S w) : ∀ (fuel : Nat) (listed : Array Bool) (a : Act) (w : World), wpAnyH P md ops Q S' fuel listed a w → wpAnyH P md ops Q S fuel listed a w
  | 0, _, _, _, h => h
  | fuel + 1, _, _, _, h => ⟨h.1, fun i hi => wpOp_mono (fun a' w' h' => ⟨hS w' h'.1, wpAnyH_more hS fuel _ a' w' h'.2⟩) (h.2 i hi)⟩
theorem conv_ow {w0 w : World} {v : Value} {L : List Int} (h : Ow w0 w v L) : (convert 28 9 v).run Tryd.prog w = .ok (.string (strB (fn L) L.length)) w := by
  obtain ⟨ad, cp, rfl⟩ := h.form
  obtain ⟨_, hs, hn, _, _⟩ := h.fresh
  exact conv_any ad _ cp _ w hs hn
theorem Glob.belowA {w w' : World} (h : Glob w) (hb : Below w.heap.size w w') : Glob w' := h.below hb h.pos

set_option maxRecDepth 100000 in
set_option maxHeartbeats 3200000 in
theorem allW_any (ad : Option Addr) (n cap : Nat) (z : Nat → Int) (w : World) (hg : Glob w) (hI : IsAt w ad n z) (hz : ∀ j, j < n → Ib (z j)) (hn : n ≤ 140737488355328) :
    Calls Tryd.prog 3 #[.slice ad n cap] w fun e w' => e = .returned (.bool true) ∧ Below w.heap.size w w' := by
  by_cases h2 : 200 < n
  · have h2' : (200 : Int) < n := by omega
    have hsure := sure_any w hg
    clear hI hz hg
    go_enter Tryd.func3, Tryd.ntmps3
    go_wp2_with (go_at_call 5; refine hsure.mono ?_; rintro e w1 ⟨rfl, hb1⟩)
    go_ret
    exact ⟨rfl, hb1⟩
  · have h2' : ¬ (200 : Int) < n := by omega
    have hn2 : n ≤ 200 := by omega
    have HG : Hid (Glob w ∧ IsAt w ad n z ∧ ∀ j, j < n → Ib (z j)) := ⟨hg, hI, hz⟩
    clear hg hI hz
    go_enter Tryd.func3, Tryd.ntmps3
    go_wp2_with (first | (at_builtin; refine wpList_appendK rfl _ _ rfl ad n cap z rfl rfl HG.out.2.1 (by omega) ?_; intro ka kc w1 hI1 hb1 _; have H1 : Hid (IsAt w1 ka n z ∧ Below w.heap.size w w1) := ⟨hI1, hb1⟩; clear hI1 hb1) | fail)
    have hall := all_any ka n kc z w1 H1.out.1 HG.out.2.2 (by omega)
    refine hall.mono ?_
    rintro e w2 ⟨g, rfl, hB2, hb2⟩
    clear hall
    have H2 : Hid (BrAt w2 (some ⟨g, 0, none⟩) 1 (fun _ => kb (insL z n)) ∧ Below w1.heap.size w1 w2) := ⟨hB2, hb2⟩
    clear hB2 hb2
    go_wp2_with fail
    have hbA : Below w2.heap.size w2 (w2.alloc (.cells #[.slice (some ⟨g, 0, none⟩) 1 1] 26)) := (Below.refl _ _).alloc (Nat.le_refl _) _
    have hnA := heap_alloc_new w2 (.cells #[.slice (some ⟨g, 0, none⟩) 1 1] 26)
    generalize w2.alloc (.cells #[.slice (some ⟨g, 0, none⟩) 1 1] 26) = w3 at *
    have hb3 : Below w.heap.size w w3.drew := ((H1.out.2.trans (H2.out.2.mono H1.out.2.size)).trans (hbA.mono (by have := H1.out.2.size; have := H2.out.2.size; omega))).drew
    have S3 : w3.drew.cell? ⟨w2.heap.size, 0, none⟩ = some (.slice (some ⟨g, 0, none⟩) 1 1) := by rw [cell_of_row w3.drew _ 0 _ _ _ hnA]; rfl
    have H3 : Hid (Below w.heap.size w w3.drew ∧ IsAt w3.drew ka n z ∧ BrAt w3.drew (some ⟨g, 0, none⟩) 1 (fun _ => kb (insL z n)) ∧ w3.drew.cell? ⟨w2.heap.size, 0, none⟩ = some (.slice (some ⟨g, 0, none⟩) 1 1)) := ⟨hb3, ((H1.out.1.below H2.out.2).below hbA).below (Below.refl _ w3).drew, (H2.out.1.below hbA).below (Below.refl _ w3).drew, S3⟩
    have hll := insL_len z n
    have hkn : ∀ i, i < 1 → ((fun _ : Nat => kb (insL z n)) i).n ≤ 1000000 := fun i _ => by show (insL z n).length ≤ _; omega
    clear hbA hnA hb3
    refine wp_region_noPanic ?_
    refine wp_region_held_drew (S := fun w' => w'.cell? ⟨w2.heap.size, 0, none⟩ = some (.slice (some ⟨g, 0, none⟩) 1 1)) (by kernel_rfl) S3 (fun hHeld => ?_)
    refine wpAnyH_take (i := 0) (oi := { dst := some 14, op := Go.Op.load 26 (Go.Operand.tmp 4), type := 26, pos := "law.go:96", after := #[], guard := none }) (v := ?_) rfl (by kernel_rfl) (by kernel_rfl) (by kernel_rfl) (fun _ _ _ h => h) (Or.inl ⟨by rfl, ?_⟩) (by assumption) ?_
    rotate_left
    · intro wz hSw; (try dsimp only at hSw); go_simp; (try with_reducible rfl)
    try simp only [Act.put, List.setIfInBounds_toArray, List.set_cons_zero, List.set_cons_succ]
    refine wpAnyH_take (i := 3) (oi := { dst := some 17, op := Go.Op.move (Go.Operand.tmp 0), type := 22, pos := "law.go:96", after := #[], guard := none }) (v := ?_) rfl (by kernel_rfl) (by kernel_rfl) (by kernel_rfl) (fun _ _ _ h => h) (Or.inl ⟨by rfl, ?_⟩) (by assumption) ?_
    rotate_left
    · intro wz hSw; (try dsimp only at hSw); go_simp; (try with_reducible rfl)
    try simp only [Act.put, List.setIfInBounds_toArray, List.set_cons_zero, List.set_cons_succ]
    refine wpAnyH_ready (rs := [1]) (by kernel_rfl) (by simp) ?_
    refine (AllReadyH.cons (o := { dst := some 15, op := Go.Op.call { callee := Go.Callee.value (Go.Operand.func 7), args := #[Go.Operand.const (Go.Value.slice none 0 0), Go.Operand.tmp 14], argTypes := #[28, 26] }, type := 28, pos := "law.go:96", after := #[{ on := 0, ground := Go.Ground.data }], guard := none }) rfl (fun K hK => ?_) AllReadyH.nil)
    go_simp
    refine (put_any none [] 0 (some ⟨g, 0, none⟩) 1 1 (fun _ => kb (insL z n)) _ (SlAt.zero _ _) (fun _ => ⟨rfl, rfl⟩) H3.out.2.2.1 (by omega) hkn (by simp)).mono ?_
    rintro e w4 ⟨v4, rfl, hO4⟩
    have hb4 := hO4.below
    have H4 : Hid (Below w.heap.size w w4 ∧ IsAt w4 ka n z ∧ Ow w3.drew w4 v4 ([] ++ laidC (fun _ => kb (insL z n)) 1) ∧ w4.cell? ⟨w2.heap.size, 0, none⟩ = some (.slice (some ⟨g, 0, none⟩) 1 1)) := ⟨H3.out.1.trans (hb4.mono H3.out.1.size), H3.out.2.1.below hb4, hO4, by rw [hb4.cell (p := ⟨w2.heap.size, 0, none⟩) (World.block_lt_of_cell? w3.drew ⟨w2.heap.size, 0, none⟩ S3)]; exact S3⟩
    clear hO4 hb4 S3
    generalize hR : [] ++ laidC (fun _ => kb (insL z n)) 1 = R at *
    have HR : Hid ([] ++ laidC (fun _ => kb (insL z n)) 1 = R) := hR
    clear hR
    refine hK.out _ _ H4.out.2.2.2 (fun _ => ?_)
    clear hK K
    have S4 : w4.cell? ⟨w2.heap.size, 0, none⟩ = some (.slice (some ⟨g, 0, none⟩) 1 1) ∧ (convert 28 9 v4).run Tryd.prog w4 = .ok (.string (strB (fn R) R.length)) w4 := ⟨H4.out.2.2.2, conv_ow H4.out.2.2.1⟩
    refine wpAnyH_more (S' := fun w' => w'.cell? ⟨w2.heap.size, 0, none⟩ = some (.slice (some ⟨g, 0, none⟩) 1 1) ∧ (convert 28 9 v4).run Tryd.prog w' = .ok (.string (strB (fn R) R.length)) w') (fun _ h => h.1) _ _ _ _ ?_
    refine wpAnyH_take (i := 2) (oi := { dst := some 16, op := Go.Op.convert 28 9 (Go.Operand.tmp 15), type := 9, pos := "law.go:96", after := #[{ on := 1, ground := Go.Ground.data }], guard := none }) (v := ?_) rfl (by kernel_rfl) (by kernel_rfl) (by kernel_rfl) (fun _ _ _ h => h) (Or.inl ⟨by rfl, ?_⟩) (by assumption) ?_
    rotate_left
    · intro wz hSw; (try dsimp only at hSw); go_simp; (try with_reducible rfl)
    try simp only [Act.put, List.setIfInBounds_toArray, List.set_cons_zero, List.set_cons_succ]
    refine wpAnyH_ready (rs := [4]) (by kernel_rfl) (by simp) ?_
    refine (AllReadyH.cons (o := { dst := some 18, op := Go.Op.call { callee := Go.Callee.value (Go.Operand.func 9), args := #[Go.Operand.tmp 17], argTypes := #[22] }, type := 33, pos := "law.go:96", after := #[{ on := 3, ground := Go.Ground.data }, { on := 1, ground := Go.Ground.chain }], guard := none }) rfl (fun K hK => ?_) AllReadyH.nil)
    go_simp
    refine (rall_any ad n cap z w4 (HG.out.2.1.below H4.out.1) HG.out.2.2 (by omega)).mono ?_
    rintro e w5 ⟨g5, rfl, hB5, hb5⟩
    have H5 : Hid (Below w.heap.size w w5 ∧ IsAt w5 ka n z ∧ Ow w3.drew w5 v4 R ∧ w5.cell? ⟨w2.heap.size, 0, none⟩ = some (.slice (some ⟨g, 0, none⟩) 1 1) ∧ BrAt w5 (some ⟨g5, 0, none⟩) 1 (fun _ => kb (insL z n))) := ⟨H4.out.1.trans (hb5.mono H4.out.1.size), H4.out.2.1.below hb5, H4.out.2.2.1.keep hb5, by rw [hb5.cell (p := ⟨w2.heap.size, 0, none⟩) (World.block_lt_of_cell? w4 ⟨w2.heap.size, 0, none⟩ S4.1)]; exact S4.1, hB5⟩
    clear hB5 hb5 S4 H4
    refine hK.out _ _ ⟨H5.out.2.2.2.1, conv_ow H5.out.2.2.1⟩ (fun _ => ?_)
    clear hK K
    refine wpAnyH_ready (rs := [5]) (by kernel_rfl) (by simp) ?_
    refine (AllReadyH.cons (o := { dst := some 19, op := Go.Op.call { callee := Go.Callee.value (Go.Operand.func 8), args := #[Go.Operand.const (Go.Value.slice none 0 0), Go.Operand.tmp 18], argTypes := #[28, 33] }, type := 28, pos := "law.go:96", after := #[{ on := 4, ground := Go.Ground.data }, { on := 4, ground := Go.Ground.chain }], guard := none }) rfl (fun K hK => ?_) AllReadyH.nil)
    go_simp
    refine (rput_any none [] 0 (some ⟨g5, 0, none⟩) 1 1 (fun _ => kb (insL z n)) _ (SlAt.zero _ _) (fun _ => ⟨rfl, rfl⟩) H5.out.2.2.2.2 (by omega) hkn (by simp)).mono ?_
    rintro e w6 ⟨v6, rfl, hO6⟩
    rw [HR.out] at hO6
    have hb6 := hO6.below
    have hcv6 := conv_ow hO6
    have H6 : Hid (Below w.heap.size w w6 ∧ IsAt w6 ka n z ∧ (w6.cell? ⟨w2.heap.size, 0, none⟩ = some (.slice (some ⟨g, 0, none⟩) 1 1) ∧ (convert 28 9 v4).run Tryd.prog w6 = .ok (.string (strB (fn R) R.length)) w6) ∧ Ow w3.drew w6 v4 R) := ⟨H5.out.1.trans (hb6.mono H5.out.1.size), H5.out.2.1.below hb6, ⟨by rw [hb6.cell (p := ⟨w2.heap.size, 0, none⟩) (World.block_lt_of_cell? w5 ⟨w2.heap.size, 0, none⟩ H5.out.2.2.2.1)]; exact H5.out.2.2.2.1, conv_ow (H5.out.2.2.1.keep hb6)⟩, H5.out.2.2.1.keep hb6⟩
    clear hO6 hb6 H5
    refine hK.out _ _ H6.out.2.2.1 (fun _ => ?_)
    clear hK K
    refine wpAnyH_ready (rs := [6]) (by kernel_rfl) (by simp) ?_
    refine (AllReadyH.cons (o := { dst := some 20, op := Go.Op.convert 28 9 (Go.Operand.tmp 19), type := 9, pos := "law.go:96", after := #[{ on := 5, ground := Go.Ground.data }], guard := none }) rfl (fun K hK => ?_) AllReadyH.nil)
    go_simp
    refine hK.out _ _ H6.out.2.2.1 (fun hS6 => ?_)
    clear hK K hcv6
    try simp only [Act.put, List.setIfInBounds_toArray, List.set_cons_zero, List.set_cons_succ]
    refine wpAnyH_take (i := 7) (oi := { dst := some 21, op := Go.Op.binOp Go.BinOp.eql 9 (Go.Operand.tmp 16) (Go.Operand.tmp 20) 9, type := 4, pos := "law.go:96", after := #[{ on := 2, ground := Go.Ground.data }, { on := 6, ground := Go.Ground.data }], guard := none }) (v := ?_) rfl (by kernel_rfl) (by kernel_rfl) (by kernel_rfl) (fun _ _ _ h => h) (Or.inl ⟨by rfl, ?_⟩) (by assumption) ?_
    rotate_left
    · intro wz hSw; (try dsimp only at hSw); go_simp; (try with_reducible rfl)
    try simp only [Act.put, List.setIfInBounds_toArray, List.set_cons_zero, List.set_cons_succ]
    refine wpAnyH_take (i := 8) (oi := { dst := some 22, op := Go.Op.move (Go.Operand.tmp 21), type := 4, pos := "law.go:96", after := #[{ on := 7, ground := Go.Ground.data }, { on := 5, ground := Go.Ground.chain }], guard := none }) (v := ?_) rfl (by kernel_rfl) (by kernel_rfl) (by kernel_rfl) (fun _ _ _ h => h) (Or.inl ⟨by rfl, ?_⟩) (by assumption) ?_
    rotate_left
    · intro wz hSw; (try dsimp only at hSw); go_simp; (try with_reducible rfl)
    try simp only [Act.put, List.setIfInBounds_toArray, List.set_cons_zero, List.set_cons_succ]
    refine wpAnyH_take (i := 9) (oi := { dst := some 23, op := Go.Op.move (Go.Operand.tmp 3), type := 22, pos := "law.go:96", after := #[{ on := 8, ground := Go.Ground.guard }], guard := some (8, true) }) (v := ?_) rfl (by kernel_rfl) (by kernel_rfl) (by kernel_rfl) (fun _ _ _ h => h) (Or.inl ⟨by rfl, ?_⟩) (by assumption) ?_
    rotate_left
    · intro wz hSw; (try dsimp only at hSw); go_simp; (try with_reducible rfl)
    try simp only [Act.put, List.setIfInBounds_toArray, List.set_cons_zero, List.set_cons_succ]
    refine wpAnyH_take (i := 10) (oi := { dst := some 24, op := Go.Op.move (Go.Operand.tmp 0), type := 22, pos := "law.go:96", after := #[{ on := 8, ground := Go.Ground.guard }], guard := some (8, true) }) (v := ?_) rfl (by kernel_rfl) (by kernel_rfl) (by kernel_rfl) (fun _ _ _ h => h) (Or.inl ⟨by rfl, ?_⟩) (by assumption) ?_
    rotate_left
    · intro wz hSw; (try dsimp only at hSw); go_simp; (try with_reducible rfl)
    try simp only [Act.put, List.setIfInBounds_toArray, List.set_cons_zero, List.set_cons_succ]
    refine wpAnyH_ready (rs := [11]) (by kernel_rfl) (by simp) ?_
    refine (AllReadyH.cons (o := { dst := some 25, op := Go.Op.call { callee := Go.Callee.value (Go.Operand.func 10), args := #[Go.Operand.tmp 23, Go.Operand.tmp 24], argTypes := #[22, 22] }, type := 4, pos := "law.go:96", after := #[{ on := 9, ground := Go.Ground.data }, { on := 10, ground := Go.Ground.data }, { on := 8, ground := Go.Ground.chain }, { on := 8, ground := Go.Ground.guard }], guard := some (8, true) }) rfl (fun K hK => ?_) AllReadyH.nil)
    go_simp
    refine (ints_same ka ad n kc cap z _ H6.out.2.1 (HG.out.2.1.below H6.out.1) (by omega)).mono ?_
    rintro e w7 ⟨rfl, hb7⟩
    have H7 : Hid (Below w.heap.size w w7 ∧ (w7.cell? ⟨w2.heap.size, 0, none⟩ = some (.slice (some ⟨g, 0, none⟩) 1 1) ∧ (convert 28 9 v4).run Tryd.prog w7 = .ok (.string (strB (fn R) R.length)) w7) ∧ Ow w3.drew w7 v4 R) := ⟨H6.out.1.trans (hb7.mono H6.out.1.size), ⟨by rw [hb7.cell (p := ⟨w2.heap.size, 0, none⟩) (World.block_lt_of_cell? w6 ⟨w2.heap.size, 0, none⟩ H6.out.2.2.1.1)]; exact H6.out.2.2.1.1, conv_ow (H6.out.2.2.2.keep hb7)⟩, H6.out.2.2.2.keep hb7⟩
    clear hb7 H6
    refine hK.out _ _ H7.out.2.1 (fun _ => ?_)
    clear hK K
    refine wpAnyH_take (i := 12) (oi := { dst := some 26, op := Go.Op.pick (Go.Operand.tmp 22) (Go.Operand.tmp 25) (Go.Operand.const (Go.Value.bool false)), type := 4, pos := "law.go:96", after := #[{ on := 8, ground := Go.Ground.data }, { on := 11, ground := Go.Ground.data }], guard := none }) (v := ?_) rfl (by kernel_rfl) (by kernel_rfl) (by kernel_rfl) (fun _ _ _ h => h) (Or.inl ⟨by rfl, ?_⟩) (by assumption) ?_
    rotate_left
    · intro wz hSw; (try dsimp only at hSw); go_simp; (try with_reducible rfl)
    try simp only [Act.put, List.setIfInBounds_toArray, List.set_cons_zero, List.set_cons_succ]
    refine wpAnyH_take (i := 13) (oi := { dst := some 27, op := Go.Op.move (Go.Operand.tmp 26), type := 4, pos := "law.go:96", after := #[{ on := 12, ground := Go.Ground.data }, { on := 11, ground := Go.Ground.chain }], guard := none }) (v := ?_) rfl (by kernel_rfl) (by kernel_rfl) (by kernel_rfl) (fun _ _ _ h => h) (Or.inl ⟨by rfl, ?_⟩) (by assumption) ?_
    rotate_left
    · intro wz hSw; (try dsimp only at hSw); go_simp; (try with_reducible rfl)
    try simp only [Act.put, List.setIfInBounds_toArray, List.set_cons_zero, List.set_cons_succ]
    refine wpAnyH_ready (rs := [14]) (by kernel_rfl) (by simp) ?_
    refine (AllReadyH.cons (o := { dst := some 28, op := Go.Op.call { callee := Go.Callee.value (Go.Operand.func 5), args := #[], argTypes := #[] }, type := 4, pos := "law.go:96", after := #[{ on := 13, ground := Go.Ground.chain }, { on := 13, ground := Go.Ground.guard }], guard := some (13, true) }) rfl (fun K hK => ?_) AllReadyH.nil)
    go_simp
    refine (sure_any _ (HG.out.1.belowA H7.out.1)).mono ?_
    rintro e w8 ⟨rfl, hb8⟩
    have H8 : Hid (Below w.heap.size w w8 ∧ (w8.cell? ⟨w2.heap.size, 0, none⟩ = some (.slice (some ⟨g, 0, none⟩) 1 1) ∧ (convert 28 9 v4).run Tryd.prog w8 = .ok (.string (strB (fn R) R.length)) w8)) := ⟨H7.out.1.trans (hb8.mono H7.out.1.size), ⟨by rw [hb8.cell (p := ⟨w2.heap.size, 0, none⟩) (World.block_lt_of_cell? w7 ⟨w2.heap.size, 0, none⟩ H7.out.2.1.1)]; exact H7.out.2.1.1, conv_ow (H7.out.2.2.keep hb8)⟩⟩
    clear hb8 H7
    refine hK.out _ _ H8.out.2 (fun _ => ?_)
    clear hK K
    refine wpAnyH_take (i := 15) (oi := { dst := some 29, op := Go.Op.pick (Go.Operand.tmp 27) (Go.Operand.tmp 28) (Go.Operand.const (Go.Value.bool false)), type := 4, pos := "law.go:96", after := #[{ on := 13, ground := Go.Ground.data }, { on := 14, ground := Go.Ground.data }], guard := none }) (v := ?_) rfl (by kernel_rfl) (by kernel_rfl) (by kernel_rfl) (fun _ _ _ h => h) (Or.inl ⟨by rfl, ?_⟩) (by assumption) ?_
    rotate_left
    · intro wz hSw; (try dsimp only at hSw); go_simp; (try with_reducible rfl)
    try simp only [Act.put, List.setIfInBounds_toArray, List.set_cons_zero, List.set_cons_succ]
    refine wpAnyH_take (i := 16) (oi := { dst := some 2, op := Go.Op.assign (Go.Operand.tmp 29), type := 4, pos := "law.go:96", after := #[{ on := 15, ground := Go.Ground.data }, { on := 14, ground := Go.Ground.chain }, { on := 0, ground := Go.Ground.phase }, { on := 1, ground := Go.Ground.phase }, { on := 2, ground := Go.Ground.phase }, { on := 3, ground := Go.Ground.phase }, { on := 4, ground := Go.Ground.phase }, { on := 5, ground := Go.Ground.phase }, { on := 6, ground := Go.Ground.phase }, { on := 7, ground := Go.Ground.phase }, { on := 8, ground := Go.Ground.phase }, { on := 9, ground := Go.Ground.phase }, { on := 10, ground := Go.Ground.phase }, { on := 11, ground := Go.Ground.phase }, { on := 12, ground := Go.Ground.phase }, { on := 13, ground := Go.Ground.phase }, { on := 14, ground := Go.Ground.phase }, { on := 15, ground := Go.Ground.phase }], guard := none }) (v := ?_) rfl (by kernel_rfl) (by kernel_rfl) (by kernel_rfl) (fun _ _ _ h => h) (Or.inl ⟨by rfl, ?_⟩) (by assumption) ?_
    rotate_left
    · intro wz hSw; (try dsimp only at hSw); go_simp; (try with_reducible rfl)
    try simp only [Act.put, List.setIfInBounds_toArray, List.set_cons_zero, List.set_cons_succ]
    refine wpAnyH_done (by kernel_rfl) (NoPanic.normal ?_) _
    try simp only [Act.put, List.setIfInBounds_toArray, List.set_cons_zero, List.set_cons_succ]
    clear hHeld
    have hbe := H8.out.1
    go_wp2
    go_ret
    exact ⟨rfl, hbe⟩
end Go.Proofs.YtfdcpbolofkopaaDoor
