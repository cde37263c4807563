/- same: whether a state is the document's, and the error. -/
import Derived.Test.YtchiapnhkhbigaaDoorOwnShelf22
import Derived.Test.YtchiapnhkhbigaaDoorOwnShelf03
import Derived.OrdersHeld
namespace Go.Proofs.YtchiapnhkhbigaaDoor
open Go.RowKit

/-- What holds on the way may be more. -/
theorem wpAnyH_more {P : Program} {md : Region.Mode} {ops : Array Oper} {Q : Exit → Act → World → Prop} {S S' : World → Prop} (hS : ∀ w, S' w → S w) : ∀ (fuel : Nat) (listed : Array Bool) (a : Act) (w : World), wpAnyH P md ops Q S' fuel listed a w → wpAnyH P md ops Q S fuel listed a w
  | 0, _, _, _, h => h
  | fuel + 1, _, _, _, h => ⟨h.1, fun i hi => wpOp_mono (fun a' w' h' => ⟨hS w' h'.1, wpAnyH_more hS fuel _ a' w' h'.2⟩) (h.2 i hi)⟩
theorem conv_ow {w0 w : World} {v : Value} {L : List Int} (h : Ow w0 w v L) : (convert 47 9 v).run Tryd.prog w = .ok (.string (strB (fn L) L.length)) w := by
  obtain ⟨ad, cp, rfl⟩ := h.form
  obtain ⟨_, hs, hn, _, _⟩ := h.fresh
  exact conv_any ad _ cp _ w hs hn
theorem Glob.belowA {w w' : World} (h : Glob w) (hb : Below w.heap.size w w') : Glob w' := h.below hb h.pos
/-- A state's five cells. -/
def svl (s : Sv) (p : Pl) : List Value := [.int .i64 s.nu, .int .i64 s.a, .int .i64 s.b, .slice p.pa s.pn p.pc, .slice p.ha s.hn p.hc]
theorem svl_range {w : World} {g : Nat} {s : Sv} {p : Pl} {t : TypeId} {fr : Nat × Nat} (h : w.heap[g]? = some (.cells (svv s p) t fr)) : w.rangeAt g 0 (svl s p) := fun j v hv => by
  rw [Nat.zero_add, cell_of_row _ _ j _ _ _ h]
  simpa [svv, svl] using hv

set_option maxRecDepth 100000 in
set_option maxHeartbeats 3200000 in
theorem same_any (s : Sv) (p p' : Pl) (er : Int) (w : World) (hg : Glob w) (h1 : SvAt w s p) (h2 : SvAt w s p') (hs : s.Small) :
    Calls Tryd.prog 14 #[.agg (svv s p), errV er, .agg (svv s p'), .int .i64 er] w fun e w' => e = .returned (.bool true) ∧ Below w.heap.size w w' := by
  have hb0 : Below w.heap.size w ((w.alloc (.cells (svv s p) 35)).alloc (.cells (svv s p') 26)) := ((Below.refl _ w).alloc (Nat.le_refl _) _).alloc (by simp) _
  have r1 : ((w.alloc (.cells (svv s p) 35)).alloc (.cells (svv s p') 26)).rangeAt w.heap.size 0 (svl s p) := svl_range (by rw [Below.heap_alloc _ _ _ (by simp)]; exact heap_alloc_new w _)
  have r2 : ((w.alloc (.cells (svv s p) 35)).alloc (.cells (svv s p') 26)).rangeAt (w.heap.size + 1) 0 (svl s p') := by
    have := heap_alloc_new (w.alloc (.cells (svv s p) 35)) (.cells (svv s p') 26)
    exact svl_range (by simpa using this)
  have HH : Hid (Glob w ∧ SvAt w s p ∧ SvAt w s p' ∧ s.Small) := ⟨hg, h1, h2, hs⟩
  clear hg h1 h2 hs
  go_enter Tryd.func14, Tryd.ntmps14
  go_wp2_with (first | (refine Go.Great.wpList_boxTo rfl _ _ rfl _ rfl _ rfl (svv s p) rfl ?_) | (refine Go.Great.wpList_boxTo rfl _ _ rfl _ rfl _ rfl (svv s p') rfl ?_) | fail)
  generalize (w.alloc (.cells (svv s p) 35)).alloc (.cells (svv s p') 26) = W0 at *
  have HR : Hid (∀ w', Below W0.heap.size W0 w' → w'.rangeAt w.heap.size 0 (svl s p) ∧ w'.rangeAt (w.heap.size + 1) 0 (svl s p')) := fun w' hb => ⟨range_below r1 hb, range_below r2 hb⟩
  have HB0 : Hid (Below w.heap.size w W0) := hb0
  clear hb0 r1 r2
  have S0 := HR.out W0.drew (Below.refl _ W0).drew
  have eer : (er == er) = true := by simp
  refine wp_region_noPanic ?_
  refine wp_region_held_drew (S := fun w' => w'.rangeAt w.heap.size 0 (svl s p) ∧ w'.rangeAt (w.heap.size + 1) 0 (svl s p')) (by kernel_rfl) S0 (fun hHeld => ?_)
  refine wpAnyH_take (i := 0) (oi := { dst := some 9, op := Go.Op.move (Go.Operand.tmp 1), type := 39, pos := "law.go:58", after := #[], guard := none }) (v := ?_) rfl (by kernel_rfl) (by kernel_rfl) (by kernel_rfl) (fun _ _ _ h => h) (Or.inl ⟨by rfl, ?_⟩) (by assumption) ?_
  rotate_left
  · intro wz hSw; (try dsimp only at hSw); go_simp; (try with_reducible rfl)
  try simp only [Act.put, List.setIfInBounds_toArray, List.set_cons_zero, List.set_cons_succ]
  refine wpAnyH_take (i := 2) (oi := { dst := some 11, op := Go.Op.move (Go.Operand.tmp 3), type := 3, pos := "law.go:58", after := #[], guard := none }) (v := ?_) rfl (by kernel_rfl) (by kernel_rfl) (by kernel_rfl) (fun _ _ _ h => h) (Or.inl ⟨by rfl, ?_⟩) (by assumption) ?_
  rotate_left
  · intro wz hSw; (try dsimp only at hSw); go_simp; (try with_reducible rfl)
  try simp only [Act.put, List.setIfInBounds_toArray, List.set_cons_zero, List.set_cons_succ]
  refine wpAnyH_ready (rs := [1]) (by kernel_rfl) (by simp) ?_
  refine (AllReadyH.cons (o := { dst := some 10, op := Go.Op.call { callee := Go.Callee.value (Go.Operand.func 36), args := #[Go.Operand.tmp 9], argTypes := #[39] }, type := 3, pos := "law.go:58", after := #[{ on := 0, ground := Go.Ground.data }], guard := none }) rfl (fun K hK => ?_) AllReadyH.nil)
  go_simp
  refine (num_any er W0.drew (HH.out.1.belowA HB0.out.drew)).mono ?_
  rintro e w1 ⟨rfl, hb1⟩
  have HB1 : Hid (Below W0.heap.size W0 w1) := (Below.refl _ W0).drew.trans hb1
  clear hb1
  refine hK.out _ _ (HR.out w1 HB1.out) (fun _ => ?_)
  clear hK K
  refine wpAnyH_take (i := 3) (oi := { dst := some 12, op := Go.Op.binOp Go.BinOp.eql 3 (Go.Operand.tmp 10) (Go.Operand.tmp 11) 3, type := 4, pos := "law.go:58", after := #[{ on := 1, ground := Go.Ground.data }, { on := 2, ground := Go.Ground.data }], guard := none }) (v := ?_) rfl (by kernel_rfl) (by kernel_rfl) (by kernel_rfl) (fun _ _ _ h => h) (Or.inl ⟨by rfl, ?_⟩) (by assumption) ?_
  rotate_left
  · intro wz hSw; (try dsimp only at hSw); go_simp; (try with_reducible rfl)
  try simp only [Act.put, List.setIfInBounds_toArray, List.set_cons_zero, List.set_cons_succ]
  refine wpAnyH_take (i := 4) (oi := { dst := some 13, op := Go.Op.move (Go.Operand.tmp 12), type := 4, pos := "law.go:58", after := #[{ on := 3, ground := Go.Ground.data }, { on := 1, ground := Go.Ground.chain }], guard := none }) (v := ?_) rfl (by kernel_rfl) (by kernel_rfl) (by kernel_rfl) (fun _ _ _ h => h) (Or.inl ⟨by rfl, ?_⟩) (by assumption) ?_
  rotate_left
  · intro wz hSw; (try dsimp only at hSw); go_simp; (try with_reducible rfl)
  try simp only [Act.put, List.setIfInBounds_toArray, List.set_cons_zero, List.set_cons_succ]
  refine wpAnyH_take (i := 5) (oi := { dst := some 14, op := Go.Op.load 35 (Go.Operand.tmp 4), type := 35, pos := "law.go:58", after := #[{ on := 4, ground := Go.Ground.guard }], guard := some (4, true) }) rfl (by kernel_rfl) (by kernel_rfl) (by kernel_rfl) (fun _ _ _ h => h) (yieldsIf_load_mid (by rfl) _ _ rfl w.heap.size 0 rfl (svl s p) _ (fun _ h => h.1) Tryd.underlying35 rfl szS) (by assumption) ?_
  try simp only [Act.put, List.setIfInBounds_toArray, List.set_cons_zero, List.set_cons_succ]
  refine wpAnyH_take (i := 8) (oi := { dst := some 17, op := Go.Op.load 26 (Go.Operand.tmp 6), type := 26, pos := "law.go:58", after := #[{ on := 4, ground := Go.Ground.guard }], guard := some (4, true) }) rfl (by kernel_rfl) (by kernel_rfl) (by kernel_rfl) (fun _ _ _ h => h) (yieldsIf_load_mid (by rfl) _ _ rfl (w.heap.size + 1) 0 rfl (svl s p') _ (fun _ h => h.2) Tryd.underlying26 rfl szSr) (by assumption) ?_
  try simp only [Act.put, List.setIfInBounds_toArray, List.set_cons_zero, List.set_cons_succ]
  refine wpAnyH_ready (rs := [6]) (by kernel_rfl) (by simp) ?_
  refine (AllReadyH.cons (o := { dst := some 15, op := Go.Op.call { callee := Go.Callee.value (Go.Operand.func 15), args := #[Go.Operand.tmp 14], argTypes := #[35] }, type := 47, pos := "law.go:58", after := #[{ on := 5, ground := Go.Ground.data }, { on := 4, ground := Go.Ground.chain }, { on := 4, ground := Go.Ground.guard }], guard := some (4, true) }) rfl (fun K hK => ?_) AllReadyH.nil)
  go_simp
  have hbw1 : Below w.heap.size w w1 := HB0.out.trans (HB1.out.mono HB0.out.size)
  refine (encode_any s p w1 (HH.out.2.1.below hbw1) HH.out.2.2.2).mono ?_
  rintro e w2 ⟨ad, cap, rfl, hsl, hnil, hb2⟩
  have HB2 : Hid (Below W0.heap.size W0 w2) := Below.transS HB1.out hb2
  have HS2 : Hid (SlAt w2 ad (laidS s).length (fn (laidS s)) ∧ (ad = none → (laidS s).length = 0 ∧ cap = 0)) := ⟨hsl, hnil⟩
  clear hsl hnil hb2 hbw1 HB1
  obtain ⟨L, hL⟩ : ∃ L, laidS s = L := ⟨_, rfl⟩
  have HL : Hid (laidS s = L) := hL
  rw [hL] at HS2
  simp only [hL]
  clear hL
  refine hK.out _ _ (HR.out w2 HB2.out) (fun _ => ?_)
  clear hK K
  have S2 : (w2.rangeAt w.heap.size 0 (svl s p) ∧ w2.rangeAt (w.heap.size + 1) 0 (svl s p')) ∧ (convert 47 9 (.slice ad L.length cap)).run Tryd.prog w2 = .ok (.string (strB (fn L) L.length)) w2 := ⟨HR.out w2 HB2.out, conv_any ad _ cap _ w2 HS2.out.1 HS2.out.2⟩
  refine wpAnyH_more (S' := fun w' => (w'.rangeAt w.heap.size 0 (svl s p) ∧ w'.rangeAt (w.heap.size + 1) 0 (svl s p')) ∧ (convert 47 9 (.slice ad L.length cap)).run Tryd.prog w' = .ok (.string (strB (fn L) L.length)) w') (fun _ h => h.1) _ _ _ _ ?_
  refine wpAnyH_take (i := 7) (oi := { dst := some 16, op := Go.Op.convert 47 9 (Go.Operand.tmp 15), type := 9, pos := "law.go:58", after := #[{ on := 6, ground := Go.Ground.data }, { on := 4, ground := Go.Ground.guard }], guard := some (4, true) }) (v := ?_) rfl (by kernel_rfl) (by kernel_rfl) (by kernel_rfl) (fun _ _ _ h => h) (Or.inl ⟨by rfl, ?_⟩) (by assumption) ?_
  rotate_left
  · intro wz hSw; (try dsimp only at hSw); go_simp; (try with_reducible rfl)
  try simp only [Act.put, List.setIfInBounds_toArray, List.set_cons_zero, List.set_cons_succ]
  refine wpAnyH_ready (rs := [9]) (by kernel_rfl) (by simp) ?_
  refine (AllReadyH.cons (o := { dst := some 18, op := Go.Op.call { callee := Go.Callee.value (Go.Operand.func 16), args := #[Go.Operand.tmp 17], argTypes := #[26] }, type := 47, pos := "law.go:58", after := #[{ on := 8, ground := Go.Ground.data }, { on := 6, ground := Go.Ground.chain }, { on := 4, ground := Go.Ground.guard }], guard := some (4, true) }) rfl (fun K hK => ?_) AllReadyH.nil)
  go_simp
  have hbw2 : Below w.heap.size w w2 := HB0.out.trans (HB2.out.mono HB0.out.size)
  refine (rencode_any s p' w2 (HH.out.2.2.1.below hbw2) HH.out.2.2.2).mono ?_
  rintro e w3 ⟨v3, rfl, hO3⟩
  rw [HL.out] at hO3
  have HB3 : Hid (Below W0.heap.size W0 w3) := Below.transS HB2.out hO3.below
  have S3 : (w3.rangeAt w.heap.size 0 (svl s p) ∧ w3.rangeAt (w.heap.size + 1) 0 (svl s p')) ∧ (convert 47 9 (.slice ad L.length cap)).run Tryd.prog w3 = .ok (.string (strB (fn L) L.length)) w3 := ⟨HR.out w3 HB3.out, conv_any ad _ cap _ w3 (HS2.out.1.below hO3.below) HS2.out.2⟩
  have hcv := conv_ow hO3
  clear hO3 hbw2 S2
  refine hK.out _ _ S3 (fun _ => ?_)
  clear hK K
  refine wpAnyH_ready (rs := [10]) (by kernel_rfl) (by simp) ?_
  refine (AllReadyH.cons (o := { dst := some 19, op := Go.Op.convert 47 9 (Go.Operand.tmp 18), type := 9, pos := "law.go:58", after := #[{ on := 9, ground := Go.Ground.data }, { on := 4, ground := Go.Ground.guard }], guard := some (4, true) }) rfl (fun K hK => ?_) AllReadyH.nil)
  go_simp
  refine hK.out _ _ S3 (fun _ => ?_)
  clear hK K hcv
  try simp only [Act.put, List.setIfInBounds_toArray, List.set_cons_zero, List.set_cons_succ]
  refine wpAnyH_take (i := 11) (oi := { dst := some 20, op := Go.Op.binOp Go.BinOp.eql 9 (Go.Operand.tmp 16) (Go.Operand.tmp 19) 9, type := 4, pos := "law.go:58", after := #[{ on := 7, ground := Go.Ground.data }, { on := 10, ground := Go.Ground.data }, { on := 4, ground := Go.Ground.guard }], guard := some (4, true) }) (v := ?_) rfl (by kernel_rfl) (by kernel_rfl) (by kernel_rfl) (fun _ _ _ h => h) (Or.inl ⟨by rfl, ?_⟩) (by assumption) ?_
  rotate_left
  · intro wz hSw; (try dsimp only at hSw); go_simp; (try with_reducible rfl)
  try simp only [Act.put, List.setIfInBounds_toArray, List.set_cons_zero, List.set_cons_succ]
  refine wpAnyH_take (i := 12) (oi := { dst := some 21, op := Go.Op.pick (Go.Operand.tmp 13) (Go.Operand.tmp 20) (Go.Operand.const (Go.Value.bool false)), type := 4, pos := "law.go:58", after := #[{ on := 4, ground := Go.Ground.data }, { on := 11, ground := Go.Ground.data }], guard := none }) (v := ?_) rfl (by kernel_rfl) (by kernel_rfl) (by kernel_rfl) (fun _ _ _ h => h) (Or.inl ⟨by rfl, ?_⟩) (by assumption) ?_
  rotate_left
  · intro wz hSw; (try dsimp only at hSw); go_simp; (try with_reducible rfl)
  try simp only [Act.put, List.setIfInBounds_toArray, List.set_cons_zero, List.set_cons_succ]
  refine wpAnyH_take (i := 13) (oi := { dst := some 8, op := Go.Op.assign (Go.Operand.tmp 21), type := 4, pos := "law.go:58", after := #[{ on := 12, ground := Go.Ground.data }, { on := 9, ground := Go.Ground.chain }, { on := 0, ground := Go.Ground.phase }, { on := 1, ground := Go.Ground.phase }, { on := 2, ground := Go.Ground.phase }, { on := 3, ground := Go.Ground.phase }, { on := 4, ground := Go.Ground.phase }, { on := 5, ground := Go.Ground.phase }, { on := 6, ground := Go.Ground.phase }, { on := 7, ground := Go.Ground.phase }, { on := 8, ground := Go.Ground.phase }, { on := 9, ground := Go.Ground.phase }, { on := 10, ground := Go.Ground.phase }, { on := 11, ground := Go.Ground.phase }, { on := 12, ground := Go.Ground.phase }], guard := none }) (v := ?_) rfl (by kernel_rfl) (by kernel_rfl) (by kernel_rfl) (fun _ _ _ h => h) (Or.inl ⟨by rfl, ?_⟩) (by assumption) ?_
  rotate_left
  · intro wz hSw; (try dsimp only at hSw); go_simp; (try with_reducible rfl)
  try simp only [Act.put, List.setIfInBounds_toArray, List.set_cons_zero, List.set_cons_succ]
  refine wpAnyH_done (by kernel_rfl) (NoPanic.normal ?_) _
  try simp only [Act.put, List.setIfInBounds_toArray, List.set_cons_zero, List.set_cons_succ]
  clear hHeld S3 S0
  have HE := HB0.out.trans (HB3.out.mono HB0.out.size)
  go_wp2
  go_ret
  exact ⟨rfl, HE⟩
end Go.Proofs.YtchiapnhkhbigaaDoor
/- same, of two states that are laid alike. -/
namespace Go.Proofs.YtchiapnhkhbigaaDoor
open Go.RowKit

set_option maxRecDepth 100000 in
set_option maxHeartbeats 3200000 in
theorem same2_any (s t : Sv) (p p' : Pl) (er : Int) (w : World) (hg : Glob w) (h1 : SvAt w s p) (h2 : SvAt w t p') (hs : s.Small) (ht : t.Small) (hLL : laidS t = laidS s) :
    Calls Tryd.prog 14 #[.agg (svv s p), errV er, .agg (svv t p'), .int .i64 er] w fun e w' => e = .returned (.bool true) ∧ Below w.heap.size w w' := by
  have hb0 : Below w.heap.size w ((w.alloc (.cells (svv s p) 35)).alloc (.cells (svv t p') 26)) := ((Below.refl _ w).alloc (Nat.le_refl _) _).alloc (by simp) _
  have r1 : ((w.alloc (.cells (svv s p) 35)).alloc (.cells (svv t p') 26)).rangeAt w.heap.size 0 (svl s p) := svl_range (by rw [Below.heap_alloc _ _ _ (by simp)]; exact heap_alloc_new w _)
  have r2 : ((w.alloc (.cells (svv s p) 35)).alloc (.cells (svv t p') 26)).rangeAt (w.heap.size + 1) 0 (svl t p') := by
    have := heap_alloc_new (w.alloc (.cells (svv s p) 35)) (.cells (svv t p') 26)
    exact svl_range (by simpa using this)
  have HH : Hid (Glob w ∧ SvAt w s p ∧ SvAt w t p' ∧ s.Small ∧ t.Small ∧ laidS t = laidS s) := ⟨hg, h1, h2, hs, ht, hLL⟩
  clear hg h1 h2 hs ht hLL
  go_enter Tryd.func14, Tryd.ntmps14
  go_wp2_with (first | (refine Go.Great.wpList_boxTo rfl _ _ rfl _ rfl _ rfl (svv s p) rfl ?_) | (refine Go.Great.wpList_boxTo rfl _ _ rfl _ rfl _ rfl (svv t p') rfl ?_) | fail)
  generalize (w.alloc (.cells (svv s p) 35)).alloc (.cells (svv t p') 26) = W0 at *
  have HR : Hid (∀ w', Below W0.heap.size W0 w' → w'.rangeAt w.heap.size 0 (svl s p) ∧ w'.rangeAt (w.heap.size + 1) 0 (svl t p')) := fun w' hb => ⟨range_below r1 hb, range_below r2 hb⟩
  have HB0 : Hid (Below w.heap.size w W0) := hb0
  clear hb0 r1 r2
  have S0 := HR.out W0.drew (Below.refl _ W0).drew
  have eer : (er == er) = true := by simp
  refine wp_region_noPanic ?_
  refine wp_region_held_drew (S := fun w' => w'.rangeAt w.heap.size 0 (svl s p) ∧ w'.rangeAt (w.heap.size + 1) 0 (svl t p')) (by kernel_rfl) S0 (fun hHeld => ?_)
  refine wpAnyH_take (i := 0) (oi := { dst := some 9, op := Go.Op.move (Go.Operand.tmp 1), type := 39, pos := "law.go:58", after := #[], guard := none }) (v := ?_) rfl (by kernel_rfl) (by kernel_rfl) (by kernel_rfl) (fun _ _ _ h => h) (Or.inl ⟨by rfl, ?_⟩) (by assumption) ?_
  rotate_left
  · intro wz hSw; (try dsimp only at hSw); go_simp; (try with_reducible rfl)
  try simp only [Act.put, List.setIfInBounds_toArray, List.set_cons_zero, List.set_cons_succ]
  refine wpAnyH_take (i := 2) (oi := { dst := some 11, op := Go.Op.move (Go.Operand.tmp 3), type := 3, pos := "law.go:58", after := #[], guard := none }) (v := ?_) rfl (by kernel_rfl) (by kernel_rfl) (by kernel_rfl) (fun _ _ _ h => h) (Or.inl ⟨by rfl, ?_⟩) (by assumption) ?_
  rotate_left
  · intro wz hSw; (try dsimp only at hSw); go_simp; (try with_reducible rfl)
  try simp only [Act.put, List.setIfInBounds_toArray, List.set_cons_zero, List.set_cons_succ]
  refine wpAnyH_ready (rs := [1]) (by kernel_rfl) (by simp) ?_
  refine (AllReadyH.cons (o := { dst := some 10, op := Go.Op.call { callee := Go.Callee.value (Go.Operand.func 36), args := #[Go.Operand.tmp 9], argTypes := #[39] }, type := 3, pos := "law.go:58", after := #[{ on := 0, ground := Go.Ground.data }], guard := none }) rfl (fun K hK => ?_) AllReadyH.nil)
  go_simp
  refine (num_any er W0.drew (HH.out.1.belowA HB0.out.drew)).mono ?_
  rintro e w1 ⟨rfl, hb1⟩
  have HB1 : Hid (Below W0.heap.size W0 w1) := (Below.refl _ W0).drew.trans hb1
  clear hb1
  refine hK.out _ _ (HR.out w1 HB1.out) (fun _ => ?_)
  clear hK K
  refine wpAnyH_take (i := 3) (oi := { dst := some 12, op := Go.Op.binOp Go.BinOp.eql 3 (Go.Operand.tmp 10) (Go.Operand.tmp 11) 3, type := 4, pos := "law.go:58", after := #[{ on := 1, ground := Go.Ground.data }, { on := 2, ground := Go.Ground.data }], guard := none }) (v := ?_) rfl (by kernel_rfl) (by kernel_rfl) (by kernel_rfl) (fun _ _ _ h => h) (Or.inl ⟨by rfl, ?_⟩) (by assumption) ?_
  rotate_left
  · intro wz hSw; (try dsimp only at hSw); go_simp; (try with_reducible rfl)
  try simp only [Act.put, List.setIfInBounds_toArray, List.set_cons_zero, List.set_cons_succ]
  refine wpAnyH_take (i := 4) (oi := { dst := some 13, op := Go.Op.move (Go.Operand.tmp 12), type := 4, pos := "law.go:58", after := #[{ on := 3, ground := Go.Ground.data }, { on := 1, ground := Go.Ground.chain }], guard := none }) (v := ?_) rfl (by kernel_rfl) (by kernel_rfl) (by kernel_rfl) (fun _ _ _ h => h) (Or.inl ⟨by rfl, ?_⟩) (by assumption) ?_
  rotate_left
  · intro wz hSw; (try dsimp only at hSw); go_simp; (try with_reducible rfl)
  try simp only [Act.put, List.setIfInBounds_toArray, List.set_cons_zero, List.set_cons_succ]
  refine wpAnyH_take (i := 5) (oi := { dst := some 14, op := Go.Op.load 35 (Go.Operand.tmp 4), type := 35, pos := "law.go:58", after := #[{ on := 4, ground := Go.Ground.guard }], guard := some (4, true) }) rfl (by kernel_rfl) (by kernel_rfl) (by kernel_rfl) (fun _ _ _ h => h) (yieldsIf_load_mid (by rfl) _ _ rfl w.heap.size 0 rfl (svl s p) _ (fun _ h => h.1) Tryd.underlying35 rfl szS) (by assumption) ?_
  try simp only [Act.put, List.setIfInBounds_toArray, List.set_cons_zero, List.set_cons_succ]
  refine wpAnyH_take (i := 8) (oi := { dst := some 17, op := Go.Op.load 26 (Go.Operand.tmp 6), type := 26, pos := "law.go:58", after := #[{ on := 4, ground := Go.Ground.guard }], guard := some (4, true) }) rfl (by kernel_rfl) (by kernel_rfl) (by kernel_rfl) (fun _ _ _ h => h) (yieldsIf_load_mid (by rfl) _ _ rfl (w.heap.size + 1) 0 rfl (svl t p') _ (fun _ h => h.2) Tryd.underlying26 rfl szSr) (by assumption) ?_
  try simp only [Act.put, List.setIfInBounds_toArray, List.set_cons_zero, List.set_cons_succ]
  refine wpAnyH_ready (rs := [6]) (by kernel_rfl) (by simp) ?_
  refine (AllReadyH.cons (o := { dst := some 15, op := Go.Op.call { callee := Go.Callee.value (Go.Operand.func 15), args := #[Go.Operand.tmp 14], argTypes := #[35] }, type := 47, pos := "law.go:58", after := #[{ on := 5, ground := Go.Ground.data }, { on := 4, ground := Go.Ground.chain }, { on := 4, ground := Go.Ground.guard }], guard := some (4, true) }) rfl (fun K hK => ?_) AllReadyH.nil)
  go_simp
  have hbw1 : Below w.heap.size w w1 := HB0.out.trans (HB1.out.mono HB0.out.size)
  refine (encode_any s p w1 (HH.out.2.1.below hbw1) HH.out.2.2.2.1).mono ?_
  rintro e w2 ⟨ad, cap, rfl, hsl, hnil, hb2⟩
  have HB2 : Hid (Below W0.heap.size W0 w2) := Below.transS HB1.out hb2
  have HS2 : Hid (SlAt w2 ad (laidS s).length (fn (laidS s)) ∧ (ad = none → (laidS s).length = 0 ∧ cap = 0)) := ⟨hsl, hnil⟩
  clear hsl hnil hb2 hbw1 HB1
  obtain ⟨L, hL⟩ : ∃ L, laidS s = L := ⟨_, rfl⟩
  have HL : Hid (laidS s = L) := hL
  rw [hL] at HS2
  simp only [hL]
  clear hL
  refine hK.out _ _ (HR.out w2 HB2.out) (fun _ => ?_)
  clear hK K
  have S2 : (w2.rangeAt w.heap.size 0 (svl s p) ∧ w2.rangeAt (w.heap.size + 1) 0 (svl t p')) ∧ (convert 47 9 (.slice ad L.length cap)).run Tryd.prog w2 = .ok (.string (strB (fn L) L.length)) w2 := ⟨HR.out w2 HB2.out, conv_any ad _ cap _ w2 HS2.out.1 HS2.out.2⟩
  refine wpAnyH_more (S' := fun w' => (w'.rangeAt w.heap.size 0 (svl s p) ∧ w'.rangeAt (w.heap.size + 1) 0 (svl t p')) ∧ (convert 47 9 (.slice ad L.length cap)).run Tryd.prog w' = .ok (.string (strB (fn L) L.length)) w') (fun _ h => h.1) _ _ _ _ ?_
  refine wpAnyH_take (i := 7) (oi := { dst := some 16, op := Go.Op.convert 47 9 (Go.Operand.tmp 15), type := 9, pos := "law.go:58", after := #[{ on := 6, ground := Go.Ground.data }, { on := 4, ground := Go.Ground.guard }], guard := some (4, true) }) (v := ?_) rfl (by kernel_rfl) (by kernel_rfl) (by kernel_rfl) (fun _ _ _ h => h) (Or.inl ⟨by rfl, ?_⟩) (by assumption) ?_
  rotate_left
  · intro wz hSw; (try dsimp only at hSw); go_simp; (try with_reducible rfl)
  try simp only [Act.put, List.setIfInBounds_toArray, List.set_cons_zero, List.set_cons_succ]
  refine wpAnyH_ready (rs := [9]) (by kernel_rfl) (by simp) ?_
  refine (AllReadyH.cons (o := { dst := some 18, op := Go.Op.call { callee := Go.Callee.value (Go.Operand.func 16), args := #[Go.Operand.tmp 17], argTypes := #[26] }, type := 47, pos := "law.go:58", after := #[{ on := 8, ground := Go.Ground.data }, { on := 6, ground := Go.Ground.chain }, { on := 4, ground := Go.Ground.guard }], guard := some (4, true) }) rfl (fun K hK => ?_) AllReadyH.nil)
  go_simp
  have hbw2 : Below w.heap.size w w2 := HB0.out.trans (HB2.out.mono HB0.out.size)
  refine (rencode_any t p' w2 (HH.out.2.2.1.below hbw2) HH.out.2.2.2.2.1).mono ?_
  rintro e w3 ⟨v3, rfl, hO3⟩
  rw [HH.out.2.2.2.2.2, HL.out] at hO3
  have HB3 : Hid (Below W0.heap.size W0 w3) := Below.transS HB2.out hO3.below
  have S3 : (w3.rangeAt w.heap.size 0 (svl s p) ∧ w3.rangeAt (w.heap.size + 1) 0 (svl t p')) ∧ (convert 47 9 (.slice ad L.length cap)).run Tryd.prog w3 = .ok (.string (strB (fn L) L.length)) w3 := ⟨HR.out w3 HB3.out, conv_any ad _ cap _ w3 (HS2.out.1.below hO3.below) HS2.out.2⟩
  have hcv := conv_ow hO3
  clear hO3 hbw2 S2
  refine hK.out _ _ S3 (fun _ => ?_)
  clear hK K
  refine wpAnyH_ready (rs := [10]) (by kernel_rfl) (by simp) ?_
  refine (AllReadyH.cons (o := { dst := some 19, op := Go.Op.convert 47 9 (Go.Operand.tmp 18), type := 9, pos := "law.go:58", after := #[{ on := 9, ground := Go.Ground.data }, { on := 4, ground := Go.Ground.guard }], guard := some (4, true) }) rfl (fun K hK => ?_) AllReadyH.nil)
  go_simp
  refine hK.out _ _ S3 (fun _ => ?_)
  clear hK K hcv
  try simp only [Act.put, List.setIfInBounds_toArray, List.set_cons_zero, List.set_cons_succ]
  refine wpAnyH_take (i := 11) (oi := { dst := some 20, op := Go.Op.binOp Go.BinOp.eql 9 (Go.Operand.tmp 16) (Go.Operand.tmp 19) 9, type := 4, pos := "law.go:58", after := #[{ on := 7, ground := Go.Ground.data }, { on := 10, ground := Go.Ground.data }, { on := 4, ground := Go.Ground.guard }], guard := some (4, true) }) (v := ?_) rfl (by kernel_rfl) (by kernel_rfl) (by kernel_rfl) (fun _ _ _ h => h) (Or.inl ⟨by rfl, ?_⟩) (by assumption) ?_
  rotate_left
  · intro wz hSw; (try dsimp only at hSw); go_simp; (try with_reducible rfl)
  try simp only [Act.put, List.setIfInBounds_toArray, List.set_cons_zero, List.set_cons_succ]
  refine wpAnyH_take (i := 12) (oi := { dst := some 21, op := Go.Op.pick (Go.Operand.tmp 13) (Go.Operand.tmp 20) (Go.Operand.const (Go.Value.bool false)), type := 4, pos := "law.go:58", after := #[{ on := 4, ground := Go.Ground.data }, { on := 11, ground := Go.Ground.data }], guard := none }) (v := ?_) rfl (by kernel_rfl) (by kernel_rfl) (by kernel_rfl) (fun _ _ _ h => h) (Or.inl ⟨by rfl, ?_⟩) (by assumption) ?_
  rotate_left
  · intro wz hSw; (try dsimp only at hSw); go_simp; (try with_reducible rfl)
  try simp only [Act.put, List.setIfInBounds_toArray, List.set_cons_zero, List.set_cons_succ]
  refine wpAnyH_take (i := 13) (oi := { dst := some 8, op := Go.Op.assign (Go.Operand.tmp 21), type := 4, pos := "law.go:58", after := #[{ on := 12, ground := Go.Ground.data }, { on := 9, ground := Go.Ground.chain }, { on := 0, ground := Go.Ground.phase }, { on := 1, ground := Go.Ground.phase }, { on := 2, ground := Go.Ground.phase }, { on := 3, ground := Go.Ground.phase }, { on := 4, ground := Go.Ground.phase }, { on := 5, ground := Go.Ground.phase }, { on := 6, ground := Go.Ground.phase }, { on := 7, ground := Go.Ground.phase }, { on := 8, ground := Go.Ground.phase }, { on := 9, ground := Go.Ground.phase }, { on := 10, ground := Go.Ground.phase }, { on := 11, ground := Go.Ground.phase }, { on := 12, ground := Go.Ground.phase }], guard := none }) (v := ?_) rfl (by kernel_rfl) (by kernel_rfl) (by kernel_rfl) (fun _ _ _ h => h) (Or.inl ⟨by rfl, ?_⟩) (by assumption) ?_
  rotate_left
  · intro wz hSw; (try dsimp only at hSw); go_simp; (try with_reducible rfl)
  try simp only [Act.put, List.setIfInBounds_toArray, List.set_cons_zero, List.set_cons_succ]
  refine wpAnyH_done (by kernel_rfl) (NoPanic.normal ?_) _
  try simp only [Act.put, List.setIfInBounds_toArray, List.set_cons_zero, List.set_cons_succ]
  clear hHeld S3 S0
  have HE := HB0.out.trans (HB3.out.mono HB0.out.size)
  go_wp2
  go_ret
  exact ⟨rfl, HE⟩
end Go.Proofs.YtchiapnhkhbigaaDoor
