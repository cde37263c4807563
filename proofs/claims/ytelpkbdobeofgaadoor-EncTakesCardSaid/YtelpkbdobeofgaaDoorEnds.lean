/- num: the number of an error; (*enc.Reader).Done and Left; the document's Done. -/
import Derived.Test.YtelpkbdobeofgaaDoorAs
import Derived.Test.YtelpkbdobeofgaaDoorRdInt
namespace Go.Proofs.YtelpkbdobeofgaaDoor
open Go.RowKit

/-- The library's variable that holds the type error's own handle. -/
def Glob (w : World) : Prop := w.cell? ⟨0, 0, none⟩ = some (.iface 106 (.agg #[.pointer (some ⟨1, 50, none⟩)]))
theorem Glob.below {w w' : World} {B : Nat} (h : Glob w) (hb : Below B w w') (hB : 0 < B) : Glob w' := by
  unfold Glob at *
  rw [hb.cell (p := ⟨0, 0, none⟩) hB]; exact h
theorem Glob.pos {w : World} (h : Glob w) : 0 < w.heap.size := World.block_lt_of_cell? w ⟨0, 0, none⟩ h
theorem Glob.frm {w w' : World} {S : List Nat} (h : Glob w) (hf : Frm S w w') (hS : 0 ∉ S) : Glob w' := by
  unfold Glob at *
  rw [World.cell?_of_block (a := ⟨0, 0, none⟩) (hf.block 0 (World.block_lt_of_cell? w ⟨0, 0, none⟩ h) hS)]; exact h

set_option maxHeartbeats 400000 in
theorem num_nil (w : World) :
    Calls Tryd.prog 17 #[.nilIface] w fun e w' => e = .returned (.int .i64 0) ∧ Below w.heap.size w w' := by
  go_enter Tryd.func17, Tryd.ntmps17
  go_wp2
  go_ret
  exact ⟨rfl, (by repeat (first | exact Below.refl _ _ | refine Below.alloc ?_ (by simp; try omega) _ | refine Below.setCell ?_ (by simp) _ | refine below_drewN ?_ _ | refine Below.drew ?_))⟩

set_option maxHeartbeats 400000 in
theorem num_hit (x : Int) (w : World) (hg : Glob w) :
    Calls Tryd.prog 17 #[.iface 77 (.int .i64 x)] w fun e w' => e = .returned (.int .i64 x) ∧ Below w.heap.size w w' := by
  have hp := hg.pos
  have hg1 : Glob (w.alloc (.cells #[.int .i64 0] 77)) := hg.below ((Below.refl _ w).alloc (Nat.le_refl _) _) hp
  have ht : (w.alloc (.cells #[.int .i64 0] 77)).cell? ⟨w.heap.size, 0, none⟩ = some (.int .i64 0) := by simp
  have hf : (w.alloc (.cells #[.int .i64 0] 77)).frozen? ⟨w.heap.size, 0, none⟩ = false := by simp
  go_enter Tryd.func17, Tryd.ntmps17
  go_wp2_with (go_at_call 37; refine (as_hit x _ _ _ hg1 ht hf).mono ?_; rintro e w' ⟨rfl, rfl⟩)
  go_ret
  exact ⟨rfl, (by repeat (first | exact Below.refl _ _ | refine Below.alloc ?_ (by simp; try omega) _ | refine Below.setCell ?_ (by simp) _ | refine below_drewN ?_ _ | refine Below.drew ?_))⟩

theorem num_any (x : Int) (w : World) (hg : Glob w) :
    Calls Tryd.prog 17 #[errV x] w fun e w' => e = .returned (.int .i64 x) ∧ Below w.heap.size w w' := by
  by_cases h : x = 0
  · subst h; exact num_nil w
  · rw [errV_ne h]; exact num_hit x w hg

/-- What Done answers of n bytes that are left, with an error. -/
def dn (n : Nat) (er : Int) : Int := if er = 0 ∧ 0 < n then 3 else er

set_option maxHeartbeats 400000 in
theorem done_err (rb : Nat) (x : Int) (w : World) (h1 : w.cell? ⟨rb, 1, none⟩ = some (.iface 77 (.int .i64 x))) :
    Calls Tryd.prog 18 #[.pointer (some ⟨rb, 0, none⟩)] w fun e w' => e = .returned (.iface 77 (.int .i64 x)) ∧ w' = w := by
  go_enter Tryd.func18, Tryd.ntmps18
  go_wp2
  go_ret
  exact ⟨rfl, rfl⟩
set_option maxHeartbeats 400000 in
theorem done_left (rb n cap : Nat) (ad : Option Addr) (w : World) (h0 : w.cell? ⟨rb, 0, none⟩ = some (.slice ad n cap)) (h1 : w.cell? ⟨rb, 1, none⟩ = some .nilIface) (hn : 0 < n) :
    Calls Tryd.prog 18 #[.pointer (some ⟨rb, 0, none⟩)] w fun e w' => e = .returned (.iface 77 (.int .i64 3)) ∧ w' = w := by
  go_enter Tryd.func18, Tryd.ntmps18
  go_wp2
  go_ret
  exact ⟨rfl, rfl⟩
set_option maxHeartbeats 400000 in
theorem done_nil (rb cap : Nat) (ad : Option Addr) (w : World) (h0 : w.cell? ⟨rb, 0, none⟩ = some (.slice ad 0 cap)) (h1 : w.cell? ⟨rb, 1, none⟩ = some .nilIface) :
    Calls Tryd.prog 18 #[.pointer (some ⟨rb, 0, none⟩)] w fun e w' => e = .returned .nilIface ∧ w' = w := by
  go_enter Tryd.func18, Tryd.ntmps18
  go_wp2
  go_ret
  exact ⟨rfl, rfl⟩
theorem done_any (rb n : Nat) (z : Nat → Int) (er : Int) (w : World) (h : RdAt w rb n z er) :
    Calls Tryd.prog 18 #[.pointer (some ⟨rb, 0, none⟩)] w fun e w' => e = .returned (errV (dn n er)) ∧ w' = w := by
  obtain ⟨ad, cap, hr, hlc, hs⟩ := h
  by_cases he : er = 0
  · subst he
    by_cases hn : 0 < n
    · have : dn n 0 = 3 := by simp [dn, hn]
      rw [this]
      exact done_left rb n cap ad w (two_cell0 hr) (two_cell1 hr) hn
    · have h0 : n = 0 := by omega
      subst h0
      have : dn 0 0 = 0 := by simp [dn]
      rw [this]
      exact done_nil rb cap ad w (two_cell0 hr) (two_cell1 hr)
  · have : dn n er = er := by simp [dn, he]
    rw [this, errV_ne he]
    have h1 := two_cell1 hr
    rw [errV_ne he] at h1
    exact done_err rb er w h1

set_option maxHeartbeats 400000 in
theorem left_any (rb n : Nat) (z : Nat → Int) (er : Int) (w : World) (h : RdAt w rb n z er) :
    Calls Tryd.prog 20 #[.pointer (some ⟨rb, 0, none⟩)] w fun e w' => e = .returned (.int .i64 n) ∧ w' = w := by
  obtain ⟨ad, cap, hr, hlc, hs⟩ := h
  have h0 := two_cell0 hr
  clear hr hs
  go_enter Tryd.func20, Tryd.ntmps20
  go_wp2
  go_ret
  exact ⟨rfl, rfl⟩

set_option maxHeartbeats 400000 in
theorem refDone_any (ad : Option Addr) (n cap : Nat) (er : Int) (w : World) :
    Calls Tryd.prog 19 #[.agg #[.slice ad n cap, .int .i64 er]] w fun e w' => e = .returned (.int .i64 (dn n er)) ∧ Below w.heap.size w w' := by
  by_cases he : er = 0
  · subst he
    by_cases hn : 0 < n
    · have : dn n 0 = 3 := by simp [dn, hn]
      rw [this]
      clear this
      have hn' : (0 : Int) < n := by omega
      go_enter Tryd.func19, Tryd.ntmps19
      go_wp2
      go_ret
      exact ⟨rfl, (by repeat (first | exact Below.refl _ _ | refine Below.alloc ?_ (by simp; try omega) _ | refine Below.setCell ?_ (by simp) _ | refine below_drewN ?_ _ | refine Below.drew ?_))⟩
    · have h0 : n = 0 := by omega
      subst h0
      have : dn 0 0 = 0 := by simp [dn]
      rw [this]
      clear this hn
      go_enter Tryd.func19, Tryd.ntmps19
      go_wp2
      go_ret
      exact ⟨rfl, (by repeat (first | exact Below.refl _ _ | refine Below.alloc ?_ (by simp; try omega) _ | refine Below.setCell ?_ (by simp) _ | refine below_drewN ?_ _ | refine Below.drew ?_))⟩
  · have : dn n er = er := by simp [dn, he]
    rw [this]
    have he' : (er == 0) = false := by simp [he]
    clear this he
    go_enter Tryd.func19, Tryd.ntmps19
    go_wp2
    go_ret
    exact ⟨rfl, (by repeat (first | exact Below.refl _ _ | refine Below.alloc ?_ (by simp; try omega) _ | refine Below.setCell ?_ (by simp) _ | refine below_drewN ?_ _ | refine Below.drew ?_))⟩
end Go.Proofs.YtelpkbdobeofgaaDoor
