/- num: the number of an error. -/
import Derived.Test.YtlnoabedcnlpoaaDoorOAs
namespace Go.Proofs.YtlnoabedcnlpoaaDoor
open Go.RowKit

/-- The library's variable that holds the type error's own handle. -/
def Glob (w : World) : Prop := w.cell? ⟨0, 0, none⟩ = some (.iface 99 (.agg #[.pointer (some ⟨1, 36, none⟩)]))
theorem Glob.below {w w' : World} {B : Nat} (h : Glob w) (hb : Below B w w') (hB : 0 < B) : Glob w' := by
  unfold Glob at *
  rw [hb.cell (p := ⟨0, 0, none⟩) hB]; exact h
theorem Glob.pos {w : World} (h : Glob w) : 0 < w.heap.size := World.block_lt_of_cell? w ⟨0, 0, none⟩ h
theorem Glob.frm {w w' : World} {S : List Nat} (h : Glob w) (hf : Frm S w w') (hS : 0 ∉ S) : Glob w' := by
  unfold Glob at *
  rw [World.cell?_of_block (a := ⟨0, 0, none⟩) (hf.block 0 (World.block_lt_of_cell? w ⟨0, 0, none⟩ h) hS)]; exact h

set_option maxHeartbeats 400000 in
theorem num_nil (w : World) :
    Calls Tryd.prog 17 #[.nilIface] w fun e w' => e = .returned (.int .i64 0) ∧ Below w.heap.size w w' := by
  go_enter Tryd.func17, Tryd.ntmps17
  go_wp2
  go_ret
  exact ⟨rfl, (by repeat (first | exact Below.refl _ _ | refine Below.alloc ?_ (by simp; try omega) _ | refine Below.setCell ?_ (by simp) _ | refine below_drewN ?_ _ | refine Below.drew ?_))⟩

set_option maxHeartbeats 400000 in
theorem num_hit (x : Int) (w : World) (hg : Glob w) :
    Calls Tryd.prog 17 #[.iface 64 (.int .i64 x)] w fun e w' => e = .returned (.int .i64 x) ∧ Below w.heap.size w w' := by
  have hp := hg.pos
  have hg1 : Glob (w.alloc (.cells #[.int .i64 0] 64)) := hg.below ((Below.refl _ w).alloc (Nat.le_refl _) _) hp
  have ht : (w.alloc (.cells #[.int .i64 0] 64)).cell? ⟨w.heap.size, 0, none⟩ = some (.int .i64 0) := by simp
  have hf : (w.alloc (.cells #[.int .i64 0] 64)).frozen? ⟨w.heap.size, 0, none⟩ = false := by simp
  go_enter Tryd.func17, Tryd.ntmps17
  go_wp2_with (go_at_call 30; refine (as_hit x _ _ _ hg1 ht hf).mono ?_; rintro e w' ⟨rfl, rfl⟩)
  go_ret
  exact ⟨rfl, (by repeat (first | exact Below.refl _ _ | refine Below.alloc ?_ (by simp; try omega) _ | refine Below.setCell ?_ (by simp) _ | refine below_drewN ?_ _ | refine Below.drew ?_))⟩

theorem num_any (x : Int) (w : World) (hg : Glob w) :
    Calls Tryd.prog 17 #[errV x] w fun e w' => e = .returned (.int .i64 x) ∧ Below w.heap.size w w' := by
  by_cases h : x = 0
  · subst h; exact num_nil w
  · rw [errV_ne h]; exact num_hit x w hg

end Go.Proofs.YtlnoabedcnlpoaaDoor
