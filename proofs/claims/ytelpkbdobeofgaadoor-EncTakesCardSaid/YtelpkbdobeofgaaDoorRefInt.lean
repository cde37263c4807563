/- The document's reader ReadInt. -/
import Derived.Test.YtelpkbdobeofgaaDoorRefRead
namespace Go.Proofs.YtelpkbdobeofgaaDoor
open Go.RowKit

set_option maxHeartbeats 400000 in
theorem refInt_nil (ad : Option Addr) (cap : Nat) (w : World) :
    Calls Tryd.prog 9 #[.agg #[.slice ad 0 cap, .int .i64 0]] w fun e w' =>
      e = .returned (.tuple #[.agg #[.slice ad 0 cap, .int .i64 12], .int .i64 0]) ∧ Below w.heap.size w w' := by
  go_enter Tryd.func9, Tryd.ntmps9
  go_wp2_with (go_at_call 23; refine (fail_0 _ _ _ _ _).mono ?_; rintro e w1 ⟨rfl, rfl⟩)
  exact bodyPost_ret (v := .tuple #[.agg #[.slice ad 0 cap, .int .i64 12], .int .i64 0]) (by simp [results, Tryd.results9, go_sem]) rfl ⟨rfl, (by repeat (first | exact Below.refl _ _ | refine Below.alloc ?_ (by simp; try omega) _ | refine Below.setCell ?_ (by simp) _ | refine below_drewN ?_ _ | refine Below.drew ?_))⟩

set_option maxHeartbeats 400000 in
theorem refInt_low (b off n cap : Nat) (z : Nat → Int) (w : World) (hn : 0 < n) (hz0 : 0 ≤ z 0 ∧ z 0 ≤ 255) (hc : w.cell? ⟨b, off, none⟩ = some (.int .u8 (z 0))) (h8 : z 0 < 119) :
    Calls Tryd.prog 9 #[.agg #[.slice (some ⟨b, off, none⟩) n cap, .int .i64 0]] w fun e w' =>
      e = .returned (.tuple #[.agg #[.slice (some ⟨b, off, none⟩) n cap, .int .i64 3], .int .i64 0]) ∧ Below w.heap.size w w' := by
  have hlt : b < w.heap.size := World.block_lt_of_cell? w _ hc
  go_enter Tryd.func9, Tryd.ntmps9
  go_wp2_with (go_at_call 23; refine (fail_0 _ _ _ _ _).mono ?_; rintro e w1 ⟨rfl, rfl⟩)
  exact bodyPost_ret (v := .tuple #[.agg #[.slice (some ⟨b, off, none⟩) n cap, .int .i64 3], .int .i64 0]) (by simp [results, Tryd.results9, go_sem]) rfl ⟨rfl, (by repeat (first | exact Below.refl _ _ | refine Below.alloc ?_ (by simp; try omega) _ | refine Below.setCell ?_ (by simp) _ | refine below_drewN ?_ _ | refine Below.drew ?_))⟩

set_option maxHeartbeats 400000 in
theorem refInt_high (b off n cap : Nat) (z : Nat → Int) (w : World) (hn : 0 < n) (hz0 : 0 ≤ z 0 ∧ z 0 ≤ 255) (hc : w.cell? ⟨b, off, none⟩ = some (.int .u8 (z 0))) (h8 : 136 < z 0) :
    Calls Tryd.prog 9 #[.agg #[.slice (some ⟨b, off, none⟩) n cap, .int .i64 0]] w fun e w' =>
      e = .returned (.tuple #[.agg #[.slice (some ⟨b, off, none⟩) n cap, .int .i64 3], .int .i64 0]) ∧ Below w.heap.size w w' := by
  have hlt : b < w.heap.size := World.block_lt_of_cell? w _ hc
  go_enter Tryd.func9, Tryd.ntmps9
  go_wp2_with (go_at_call 23; refine (fail_0 _ _ _ _ _).mono ?_; rintro e w1 ⟨rfl, rfl⟩)
  exact bodyPost_ret (v := .tuple #[.agg #[.slice (some ⟨b, off, none⟩) n cap, .int .i64 3], .int .i64 0]) (by simp [results, Tryd.results9, go_sem]) rfl ⟨rfl, (by repeat (first | exact Below.refl _ _ | refine Below.alloc ?_ (by simp; try omega) _ | refine Below.setCell ?_ (by simp) _ | refine below_drewN ?_ _ | refine Below.drew ?_))⟩

set_option maxHeartbeats 400000 in
theorem refInt_berr (b off n cap : Nat) (z : Nat → Int) (w : World) (hn : 0 < n) (hlc : n ≤ cap) (hnm : n ≤ 140737488351232) (hz : ∀ j, j < n → 0 ≤ z j ∧ z j ≤ 255) (hc : ∀ j, j < n → w.cell? ⟨b, off + j, none⟩ = some (.int .u8 (z j)))
    (hl : 119 ≤ z 0) (hh : z 0 < 128) (er : Int) (hE : numE (n - 1) (behind true z) (127 - z 0).toNat = er) (he : (er == 0) = false) :
    Calls Tryd.prog 9 #[.agg #[.slice (some ⟨b, off, none⟩) n cap, .int .i64 0]] w fun e w' =>
      e = .returned (.tuple #[.agg #[.slice (some ⟨b, off, none⟩) n cap, .int .i64 er], .int .i64 0]) ∧ Below w.heap.size w w' := by
  have c0 : w.cell? ⟨b, off, none⟩ = some (.int .u8 (z 0)) := by simpa using hc 0 hn
  have hlt : b < w.heap.size := World.block_lt_of_cell? w _ c0
  have hz0 := hz 0 hn
  have hc2 : ∀ wx : World, Below w.heap.size w wx → ∀ j, j < n → wx.cell? ⟨b, off + j, none⟩ = some (.int .u8 (z j)) := fun wx hb j hj => by rw [hb.cell (p := ⟨b, off + j, none⟩) hlt]; exact hc j hj
  have HC : Hid (∀ wx : World, Below w.heap.size w wx → ∀ j, j < n → wx.cell? ⟨b, off + j, none⟩ = some (.int .u8 (z j))) := hc2
  have HZ : Hid (∀ j, j < n → 0 ≤ z j ∧ z j ≤ 255) := hz
  clear hc hc2 hz
  have hn1 : (1 : Int) ≤ (n : Int) := by omega
  go_enter Tryd.func9, Tryd.ntmps9
  go_wp2_with (first | (go_at_call 24; refine (refnum_any b off n cap (127 - z 0) true z _ hn (by omega) (by omega) hlc hnm HZ.out (HC.out _ (by repeat (first | exact Below.refl _ _ | refine Below.alloc ?_ (by simp; try omega) _ | refine Below.setCell ?_ (by simp) _ | refine below_drewN ?_ _ | refine Below.drew ?_)))).mono ?_; rintro e w1 ⟨rfl, rfl⟩) | (go_at_call 23; refine (fail_0 _ _ _ _ _).mono ?_; rintro e w1 ⟨rfl, rfl⟩))
  exact bodyPost_ret (v := .tuple #[.agg #[.slice (some ⟨b, off, none⟩) n cap, .int .i64 er], .int .i64 0]) (by simp [results, Tryd.results9, go_sem]) rfl ⟨rfl, (by repeat (first | exact Below.refl _ _ | refine Below.alloc ?_ (by simp; try omega) _ | refine Below.setCell ?_ (by simp) _ | refine below_drewN ?_ _ | refine Below.drew ?_))⟩

set_option maxHeartbeats 400000 in
theorem refInt_brange (b off n cap : Nat) (z : Nat → Int) (w : World) (hn : 0 < n) (hlc : n ≤ cap) (hnm : n ≤ 140737488351232) (hz : ∀ j, j < n → 0 ≤ z j ∧ z j ≤ 255) (hc : ∀ j, j < n → w.cell? ⟨b, off + j, none⟩ = some (.int .u8 (z j)))
    (hl : 119 ≤ z 0) (hh : z 0 < 128) (hE : numE (n - 1) (behind true z) (127 - z 0).toNat = 0) (hm : 9223372036854775808 ≤ numV (n - 1) (behind true z) (127 - z 0).toNat) :
    Calls Tryd.prog 9 #[.agg #[.slice (some ⟨b, off, none⟩) n cap, .int .i64 0]] w fun e w' =>
      e = .returned (.tuple #[.agg #[.slice (some ⟨b, off, none⟩) n cap, .int .i64 4], .int .i64 0]) ∧ Below w.heap.size w w' := by
  have c0 : w.cell? ⟨b, off, none⟩ = some (.int .u8 (z 0)) := by simpa using hc 0 hn
  have hlt : b < w.heap.size := World.block_lt_of_cell? w _ c0
  have hz0 := hz 0 hn
  have hc2 : ∀ wx : World, Below w.heap.size w wx → ∀ j, j < n → wx.cell? ⟨b, off + j, none⟩ = some (.int .u8 (z j)) := fun wx hb j hj => by rw [hb.cell (p := ⟨b, off + j, none⟩) hlt]; exact hc j hj
  have HC : Hid (∀ wx : World, Below w.heap.size w wx → ∀ j, j < n → wx.cell? ⟨b, off + j, none⟩ = some (.int .u8 (z j))) := hc2
  have HZ : Hid (∀ j, j < n → 0 ≤ z j ∧ z j ≤ 255) := hz
  clear hc hc2 hz
  have hn1 : (1 : Int) ≤ (n : Int) := by omega
  go_enter Tryd.func9, Tryd.ntmps9
  go_wp2_with (first | (go_at_call 24; refine (refnum_any b off n cap (127 - z 0) true z _ hn (by omega) (by omega) hlc hnm HZ.out (HC.out _ (by repeat (first | exact Below.refl _ _ | refine Below.alloc ?_ (by simp; try omega) _ | refine Below.setCell ?_ (by simp) _ | refine below_drewN ?_ _ | refine Below.drew ?_)))).mono ?_; rintro e w1 ⟨rfl, rfl⟩) | (go_at_call 23; refine (fail_0 _ _ _ _ _).mono ?_; rintro e w1 ⟨rfl, rfl⟩))
  exact bodyPost_ret (v := .tuple #[.agg #[.slice (some ⟨b, off, none⟩) n cap, .int .i64 4], .int .i64 0]) (by simp [results, Tryd.results9, go_sem]) rfl ⟨rfl, (by repeat (first | exact Below.refl _ _ | refine Below.alloc ?_ (by simp; try omega) _ | refine Below.setCell ?_ (by simp) _ | refine below_drewN ?_ _ | refine Below.drew ?_))⟩

set_option maxHeartbeats 400000 in
theorem refInt_bok (b off n cap : Nat) (z : Nat → Int) (w : World) (hn : 0 < n) (hlc : n ≤ cap) (hnm : n ≤ 140737488351232) (hz : ∀ j, j < n → 0 ≤ z j ∧ z j ≤ 255) (hc : ∀ j, j < n → w.cell? ⟨b, off + j, none⟩ = some (.int .u8 (z j)))
    (hl : 119 ≤ z 0) (hh : z 0 < 128) (hE : numE (n - 1) (behind true z) (127 - z 0).toNat = 0) (hm : numV (n - 1) (behind true z) (127 - z 0).toNat < 9223372036854775808) (h0 : 0 ≤ numV (n - 1) (behind true z) (127 - z 0).toNat) (hkn : 1 + (127 - z 0) ≤ n) :
    Calls Tryd.prog 9 #[.agg #[.slice (some ⟨b, off, none⟩) n cap, .int .i64 0]] w fun e w' =>
      RefTook w (some ⟨b, off, none⟩) n cap (1 + (127 - z 0)).toNat (.int .i64 (-(numV (n - 1) (behind true z) (127 - z 0).toNat) - 1)) e w' := by
  have c0 : w.cell? ⟨b, off, none⟩ = some (.int .u8 (z 0)) := by simpa using hc 0 hn
  have hlt : b < w.heap.size := World.block_lt_of_cell? w _ c0
  have hz0 := hz 0 hn
  have hc2 : ∀ wx : World, Below w.heap.size w wx → ∀ j, j < n → wx.cell? ⟨b, off + j, none⟩ = some (.int .u8 (z j)) := fun wx hb j hj => by rw [hb.cell (p := ⟨b, off + j, none⟩) hlt]; exact hc j hj
  have HC : Hid (∀ wx : World, Below w.heap.size w wx → ∀ j, j < n → wx.cell? ⟨b, off + j, none⟩ = some (.int .u8 (z j))) := hc2
  have HZ : Hid (∀ j, j < n → 0 ≤ z j ∧ z j ≤ 255) := hz
  clear hc hc2 hz
  have hn1 : (1 : Int) ≤ (n : Int) := by omega
  have hk0 : (0 : Int) ≤ 1 + (127 - z 0) := by omega
  have hlc1 : (n : Int) ≤ (cap : Int) := by omega
  go_enter Tryd.func9, Tryd.ntmps9
  go_wp2_with (first | (go_at_call 24; refine (refnum_any b off n cap (127 - z 0) true z _ hn (by omega) (by omega) hlc hnm HZ.out (HC.out _ (by repeat (first | exact Below.refl _ _ | refine Below.alloc ?_ (by simp; try omega) _ | refine Below.setCell ?_ (by simp) _ | refine below_drewN ?_ _ | refine Below.drew ?_)))).mono ?_; rintro e w1 ⟨rfl, rfl⟩) | (go_at_call 23; refine (fail_0 _ _ _ _ _).mono ?_; rintro e w1 ⟨rfl, rfl⟩))
  · subst h
    exact bodyPost_ret (v := .tuple #[.agg #[.slice (some ⟨b, off, none⟩) (n - (1 + (127 - z 0)).toNat) 0, .int .i64 0], .int .i64 (-(numV (n - 1) (behind true z) (127 - z 0).toNat) - 1)]) (by simp [results, Tryd.results9, go_sem]) rfl (RefTook.all (by repeat (first | exact Below.refl _ _ | refine Below.alloc ?_ (by simp; try omega) _ | refine Below.setCell ?_ (by simp) _ | refine below_drewN ?_ _ | refine Below.drew ?_)))
  · exact bodyPost_ret (v := .tuple #[.agg #[.slice (some ⟨b, off + (1 + (127 - z 0)).toNat, none⟩) (n - (1 + (127 - z 0)).toNat) (cap - (1 + (127 - z 0)).toNat), .int .i64 0], .int .i64 (-(numV (n - 1) (behind true z) (127 - z 0).toNat) - 1)]) (by simp [results, Tryd.results9, go_sem]) rfl (RefTook.part (by repeat (first | exact Below.refl _ _ | refine Below.alloc ?_ (by simp; try omega) _ | refine Below.setCell ?_ (by simp) _ | refine below_drewN ?_ _ | refine Below.drew ?_)))

set_option maxHeartbeats 400000 in
theorem refInt_aerr (b off n cap : Nat) (z : Nat → Int) (w : World) (hn : 0 < n) (hlc : n ≤ cap) (hnm : n ≤ 140737488351232) (hz : ∀ j, j < n → 0 ≤ z j ∧ z j ≤ 255) (hc : ∀ j, j < n → w.cell? ⟨b, off + j, none⟩ = some (.int .u8 (z j)))
    (hl : 128 ≤ z 0) (hh : z 0 ≤ 136) (er : Int) (hE : numE (n - 1) (behind false z) (z 0 - 128).toNat = er) (he : (er == 0) = false) :
    Calls Tryd.prog 9 #[.agg #[.slice (some ⟨b, off, none⟩) n cap, .int .i64 0]] w fun e w' =>
      e = .returned (.tuple #[.agg #[.slice (some ⟨b, off, none⟩) n cap, .int .i64 er], .int .i64 0]) ∧ Below w.heap.size w w' := by
  have c0 : w.cell? ⟨b, off, none⟩ = some (.int .u8 (z 0)) := by simpa using hc 0 hn
  have hlt : b < w.heap.size := World.block_lt_of_cell? w _ c0
  have hz0 := hz 0 hn
  have hc2 : ∀ wx : World, Below w.heap.size w wx → ∀ j, j < n → wx.cell? ⟨b, off + j, none⟩ = some (.int .u8 (z j)) := fun wx hb j hj => by rw [hb.cell (p := ⟨b, off + j, none⟩) hlt]; exact hc j hj
  have HC : Hid (∀ wx : World, Below w.heap.size w wx → ∀ j, j < n → wx.cell? ⟨b, off + j, none⟩ = some (.int .u8 (z j))) := hc2
  have HZ : Hid (∀ j, j < n → 0 ≤ z j ∧ z j ≤ 255) := hz
  clear hc hc2 hz
  have hn1 : (1 : Int) ≤ (n : Int) := by omega
  have hd : decide (z 0 < 128) = false := by simp; omega
  go_enter Tryd.func9, Tryd.ntmps9
  go_wp2_with (first | (go_at_call 24; refine (refnum_any b off n cap (z 0 - 128) false z _ hn (by omega) (by omega) hlc hnm HZ.out (HC.out _ (by repeat (first | exact Below.refl _ _ | refine Below.alloc ?_ (by simp; try omega) _ | refine Below.setCell ?_ (by simp) _ | refine below_drewN ?_ _ | refine Below.drew ?_)))).mono ?_; rintro e w1 ⟨rfl, rfl⟩) | (go_at_call 23; refine (fail_0 _ _ _ _ _).mono ?_; rintro e w1 ⟨rfl, rfl⟩))
  exact bodyPost_ret (v := .tuple #[.agg #[.slice (some ⟨b, off, none⟩) n cap, .int .i64 er], .int .i64 0]) (by simp [results, Tryd.results9, go_sem]) rfl ⟨rfl, (by repeat (first | exact Below.refl _ _ | refine Below.alloc ?_ (by simp; try omega) _ | refine Below.setCell ?_ (by simp) _ | refine below_drewN ?_ _ | refine Below.drew ?_))⟩

set_option maxHeartbeats 400000 in
theorem refInt_arange (b off n cap : Nat) (z : Nat → Int) (w : World) (hn : 0 < n) (hlc : n ≤ cap) (hnm : n ≤ 140737488351232) (hz : ∀ j, j < n → 0 ≤ z j ∧ z j ≤ 255) (hc : ∀ j, j < n → w.cell? ⟨b, off + j, none⟩ = some (.int .u8 (z j)))
    (hl : 128 ≤ z 0) (hh : z 0 ≤ 136) (hE : numE (n - 1) (behind false z) (z 0 - 128).toNat = 0) (hm : 9223372036854775808 ≤ numV (n - 1) (behind false z) (z 0 - 128).toNat) :
    Calls Tryd.prog 9 #[.agg #[.slice (some ⟨b, off, none⟩) n cap, .int .i64 0]] w fun e w' =>
      e = .returned (.tuple #[.agg #[.slice (some ⟨b, off, none⟩) n cap, .int .i64 4], .int .i64 0]) ∧ Below w.heap.size w w' := by
  have c0 : w.cell? ⟨b, off, none⟩ = some (.int .u8 (z 0)) := by simpa using hc 0 hn
  have hlt : b < w.heap.size := World.block_lt_of_cell? w _ c0
  have hz0 := hz 0 hn
  have hc2 : ∀ wx : World, Below w.heap.size w wx → ∀ j, j < n → wx.cell? ⟨b, off + j, none⟩ = some (.int .u8 (z j)) := fun wx hb j hj => by rw [hb.cell (p := ⟨b, off + j, none⟩) hlt]; exact hc j hj
  have HC : Hid (∀ wx : World, Below w.heap.size w wx → ∀ j, j < n → wx.cell? ⟨b, off + j, none⟩ = some (.int .u8 (z j))) := hc2
  have HZ : Hid (∀ j, j < n → 0 ≤ z j ∧ z j ≤ 255) := hz
  clear hc hc2 hz
  have hn1 : (1 : Int) ≤ (n : Int) := by omega
  have hd : decide (z 0 < 128) = false := by simp; omega
  go_enter Tryd.func9, Tryd.ntmps9
  go_wp2_with (first | (go_at_call 24; refine (refnum_any b off n cap (z 0 - 128) false z _ hn (by omega) (by omega) hlc hnm HZ.out (HC.out _ (by repeat (first | exact Below.refl _ _ | refine Below.alloc ?_ (by simp; try omega) _ | refine Below.setCell ?_ (by simp) _ | refine below_drewN ?_ _ | refine Below.drew ?_)))).mono ?_; rintro e w1 ⟨rfl, rfl⟩) | (go_at_call 23; refine (fail_0 _ _ _ _ _).mono ?_; rintro e w1 ⟨rfl, rfl⟩))
  exact bodyPost_ret (v := .tuple #[.agg #[.slice (some ⟨b, off, none⟩) n cap, .int .i64 4], .int .i64 0]) (by simp [results, Tryd.results9, go_sem]) rfl ⟨rfl, (by repeat (first | exact Below.refl _ _ | refine Below.alloc ?_ (by simp; try omega) _ | refine Below.setCell ?_ (by simp) _ | refine below_drewN ?_ _ | refine Below.drew ?_))⟩

set_option maxHeartbeats 400000 in
theorem refInt_aok (b off n cap : Nat) (z : Nat → Int) (w : World) (hn : 0 < n) (hlc : n ≤ cap) (hnm : n ≤ 140737488351232) (hz : ∀ j, j < n → 0 ≤ z j ∧ z j ≤ 255) (hc : ∀ j, j < n → w.cell? ⟨b, off + j, none⟩ = some (.int .u8 (z j)))
    (hl : 128 ≤ z 0) (hh : z 0 ≤ 136) (hE : numE (n - 1) (behind false z) (z 0 - 128).toNat = 0) (hm : numV (n - 1) (behind false z) (z 0 - 128).toNat < 9223372036854775808) (h0 : 0 ≤ numV (n - 1) (behind false z) (z 0 - 128).toNat) (hkn : 1 + (z 0 - 128) ≤ n) :
    Calls Tryd.prog 9 #[.agg #[.slice (some ⟨b, off, none⟩) n cap, .int .i64 0]] w fun e w' =>
      RefTook w (some ⟨b, off, none⟩) n cap (1 + (z 0 - 128)).toNat (.int .i64 (numV (n - 1) (behind false z) (z 0 - 128).toNat)) e w' := by
  have c0 : w.cell? ⟨b, off, none⟩ = some (.int .u8 (z 0)) := by simpa using hc 0 hn
  have hlt : b < w.heap.size := World.block_lt_of_cell? w _ c0
  have hz0 := hz 0 hn
  have hc2 : ∀ wx : World, Below w.heap.size w wx → ∀ j, j < n → wx.cell? ⟨b, off + j, none⟩ = some (.int .u8 (z j)) := fun wx hb j hj => by rw [hb.cell (p := ⟨b, off + j, none⟩) hlt]; exact hc j hj
  have HC : Hid (∀ wx : World, Below w.heap.size w wx → ∀ j, j < n → wx.cell? ⟨b, off + j, none⟩ = some (.int .u8 (z j))) := hc2
  have HZ : Hid (∀ j, j < n → 0 ≤ z j ∧ z j ≤ 255) := hz
  clear hc hc2 hz
  have hn1 : (1 : Int) ≤ (n : Int) := by omega
  have hd : decide (z 0 < 128) = false := by simp; omega
  have hk0 : (0 : Int) ≤ 1 + (z 0 - 128) := by omega
  have hlc1 : (n : Int) ≤ (cap : Int) := by omega
  go_enter Tryd.func9, Tryd.ntmps9
  go_wp2_with (first | (go_at_call 24; refine (refnum_any b off n cap (z 0 - 128) false z _ hn (by omega) (by omega) hlc hnm HZ.out (HC.out _ (by repeat (first | exact Below.refl _ _ | refine Below.alloc ?_ (by simp; try omega) _ | refine Below.setCell ?_ (by simp) _ | refine below_drewN ?_ _ | refine Below.drew ?_)))).mono ?_; rintro e w1 ⟨rfl, rfl⟩) | (go_at_call 23; refine (fail_0 _ _ _ _ _).mono ?_; rintro e w1 ⟨rfl, rfl⟩))
  · subst h
    exact bodyPost_ret (v := .tuple #[.agg #[.slice (some ⟨b, off, none⟩) (n - (1 + (z 0 - 128)).toNat) 0, .int .i64 0], .int .i64 (numV (n - 1) (behind false z) (z 0 - 128).toNat)]) (by simp [results, Tryd.results9, go_sem]) rfl (RefTook.all (by repeat (first | exact Below.refl _ _ | refine Below.alloc ?_ (by simp; try omega) _ | refine Below.setCell ?_ (by simp) _ | refine below_drewN ?_ _ | refine Below.drew ?_)))
  · exact bodyPost_ret (v := .tuple #[.agg #[.slice (some ⟨b, off + (1 + (z 0 - 128)).toNat, none⟩) (n - (1 + (z 0 - 128)).toNat) (cap - (1 + (z 0 - 128)).toNat), .int .i64 0], .int .i64 (numV (n - 1) (behind false z) (z 0 - 128).toNat)]) (by simp [results, Tryd.results9, go_sem]) rfl (RefTook.part (by repeat (first | exact Below.refl _ _ | refine Below.alloc ?_ (by simp; try omega) _ | refine Below.setCell ?_ (by simp) _ | refine below_drewN ?_ _ | refine Below.drew ?_)))


/-- What a document's reader answers: the reader behind, its error, the value. -/
def RefPost (w : World) (n : Nat) (z : Nat → Int) (k : Nat) (er : Int) (v : Value) (e : Ending) (w' : World) : Prop :=
  ∃ ad cap, e = .returned (.tuple #[.agg #[.slice ad (n - k) cap, .int .i64 er], v]) ∧ n - k ≤ cap ∧ SlAt w ad (n - k) (fun j => z (j + k)) ∧ Below w.heap.size w w'

theorem RefTook.post {w w' : World} {b off n cap k : Nat} {z : Nat → Int} {v : Value} {e : Ending} (h : RefTook w (some ⟨b, off, none⟩) n cap k v e w') (hlc : n ≤ cap) (hkn : k ≤ n) (hs : SlAt w (some ⟨b, off, none⟩) n z) : RefPost w n z k 0 v e w' := by
  obtain ⟨ad', he, rfl, hb⟩ := h
  refine ⟨ad', cap - k, rfl, by omega, ?_, hb⟩
  rcases he with ⟨rfl, hc⟩ | rfl
  · rw [show n - k = 0 from by omega]; exact SlAt.zero _ _
  · exact hs.drop

theorem RefPost.err {w w' : World} {ad : Option Addr} {n cap : Nat} {z : Nat → Int} {er : Int} {v : Value} (hlc : n ≤ cap) (hs : SlAt w ad n z) (hb : Below w.heap.size w w') : RefPost w n z 0 er v (.returned (.tuple #[.agg #[.slice ad n cap, .int .i64 er], v])) w' :=
  ⟨ad, cap, rfl, hlc, hs, hb⟩

theorem refUint_any (ad : Option Addr) (n cap : Nat) (most : Int) (z : Nat → Int) (w : World) (hlc : n ≤ cap) (hnm : n ≤ 140737488351232) (hs : SlAt w ad n z) :
    Calls Tryd.prog 7 #[.agg #[.slice ad n cap, .int .i64 0], .int .u64 most] w fun e w' => RefPost w n z (uN n z most) (uE n z most) (.int .u64 (uV n z most)) e w' := by
  have hs0 := hs
  obtain ⟨hz, hs⟩ := hs
  by_cases hn : n = 0
  · subst hn
    have e : uE 0 z most = 12 := by simp [uE]
    rw [uV, uN, e, if_neg (by decide), if_neg (by decide)]
    exact (refUint_nil ad cap most w).mono fun e w' ⟨h1, h2⟩ => by rw [h1]; exact RefPost.err hlc hs0 h2
  · obtain ⟨b, off, rfl, hc⟩ := hs (by omega)
    have c0 : w.cell? ⟨b, off, none⟩ = some (.int .u8 (z 0)) := by simpa using hc 0 (by omega)
    by_cases h8 : 8 < z 0
    · have e : uE n z most = 3 := by simp [uE, hn, h8]
      rw [uV, uN, e, if_neg (by decide), if_neg (by decide)]
      exact (refUint_wide b off n cap most z w (by omega) c0 h8).mono fun e w' ⟨h1, h2⟩ => by rw [h1]; exact RefPost.err hlc hs0 h2
    · have hz0 := hz 0 (by omega)
      by_cases hE : numE (n - 1) (behind false z) (z 0).toNat = 0
      · by_cases hm : most < numV (n - 1) (behind false z) (z 0).toNat
        · have e : uE n z most = 4 := by simp [uE, hn, h8, hE, hm]
          rw [uV, uN, e, if_neg (by decide), if_neg (by decide)]
          exact (refUint_range b off n cap most z w (by omega) hlc hnm hz hc (by omega) hE hm).mono fun e w' ⟨h1, h2⟩ => by rw [h1]; exact RefPost.err hlc hs0 h2
        · have e : uE n z most = 0 := by simp [uE, hn, h8, hE, hm]
          have hle := uN_le e
          rw [uN, if_pos e] at hle
          rw [uV, uN, e, if_pos rfl, if_pos rfl]
          have hw : (1 + z 0).toNat = 1 + (z 0).toNat := by omega
          have := refUint_ok b off n cap most z w (by omega) hlc hnm hz hc (by omega) hE hm (by omega)
          rw [hw] at this
          exact this.mono fun e w' h => h.post hlc hle hs0
      · have e : uE n z most = numE (n - 1) (behind false z) (z 0).toNat := by simp [uE, hn, h8, hE]
        rw [uV, uN, e, if_neg hE, if_neg hE]
        exact (refUint_err b off n cap most z _ w (by omega) hlc hnm hz hc (by omega) rfl (by simp [hE])).mono fun e w' ⟨h1, h2⟩ => by rw [h1]; exact RefPost.err hlc hs0 h2

theorem refInt_any (ad : Option Addr) (n cap : Nat) (z : Nat → Int) (w : World) (hlc : n ≤ cap) (hnm : n ≤ 140737488351232) (hs : SlAt w ad n z) :
    Calls Tryd.prog 9 #[.agg #[.slice ad n cap, .int .i64 0]] w fun e w' => RefPost w n z (iN n z) (iE n z) (.int .i64 (iV n z)) e w' := by
  have hs0 := hs
  obtain ⟨hz, hs⟩ := hs
  by_cases hn : n = 0
  · subst hn
    have e : iE 0 z = 12 := by simp [iE]
    rw [iV, iN, e, if_neg (by decide), if_neg (by decide)]
    exact (refInt_nil ad cap w).mono fun e w' ⟨h1, h2⟩ => by rw [h1]; exact RefPost.err hlc hs0 h2
  · obtain ⟨b, off, rfl, hc⟩ := hs (by omega)
    have c0 : w.cell? ⟨b, off, none⟩ = some (.int .u8 (z 0)) := by simpa using hc 0 (by omega)
    have hz0 := hz 0 (by omega)
    by_cases h1 : z 0 < 119
    · have e : iE n z = 3 := by simp [iE, hn, h1]
      rw [iV, iN, e, if_neg (by decide), if_neg (by decide)]
      exact (refInt_low b off n cap z w (by omega) hz0 c0 h1).mono fun e w' ⟨h1, h2⟩ => by rw [h1]; exact RefPost.err hlc hs0 h2
    · by_cases h2 : 136 < z 0
      · have e : iE n z = 3 := by simp [iE, hn, h2]
        rw [iV, iN, e, if_neg (by decide), if_neg (by decide)]
        exact (refInt_high b off n cap z w (by omega) hz0 c0 h2).mono fun e w' ⟨h1, h2⟩ => by rw [h1]; exact RefPost.err hlc hs0 h2
      · have hb := (numV_bd (n := n - 1) (f := behind (iT z) z) (k := (iK z)) (by unfold iK; split <;> omega) (fun j hj => by unfold behind; exact trn_bd (hz _ (by omega)))).1
        by_cases h3 : z 0 < 128
        · have ht : iT z = true := by simp [iT, h3]
          have hk : iK z = (127 - z 0).toNat := by rw [iK, if_pos h3]
          by_cases hE : numE (n - 1) (behind (iT z) z) (iK z) = 0
          · by_cases hm : 9223372036854775807 < numV (n - 1) (behind (iT z) z) (iK z)
            · have e : iE n z = 4 := by simp [iE, hn, h1, h2, hE, hm]
              rw [iV, iN, e, if_neg (by decide), if_neg (by decide)]
              rw [ht, hk] at hE hm
              exact (refInt_brange b off n cap z w (by omega) hlc hnm hz hc (by omega) h3 hE (by omega)).mono fun e w' ⟨h1, h2⟩ => by rw [h1]; exact RefPost.err hlc hs0 h2
            · have e : iE n z = 0 := by simp [iE, hn, h1, h2, hE, hm]
              have hle := iN_le e
              rw [iN, if_pos e, hk] at hle
              rw [iV, iN, e, if_pos rfl, if_pos rfl, if_pos h3, hk, ht]
              rw [ht, hk] at hE hm hb
              have hw : (1 + (127 - z 0)).toNat = 1 + (127 - z 0).toNat := by omega
              have := refInt_bok b off n cap z w (by omega) hlc hnm hz hc (by omega) h3 hE (by omega) hb (by omega)
              rw [hw, show ∀ x : Int, -x - 1 = -1 - x from fun x => by omega] at this
              exact this.mono fun e w' h => h.post hlc hle hs0
          · have e : iE n z = numE (n - 1) (behind (iT z) z) (iK z) := by simp [iE, hn, h1, h2, hE]
            rw [iV, iN, e, if_neg hE, if_neg hE]
            rw [ht, hk] at hE
            rw [ht, hk]
            exact (refInt_berr b off n cap z w (by omega) hlc hnm hz hc (by omega) h3 _ rfl (by simp [hE])).mono fun e w' ⟨h1, h2⟩ => by rw [h1]; exact RefPost.err hlc hs0 h2
        · have ht : iT z = false := by simp [iT, h3]
          have hk : iK z = (z 0 - 128).toNat := by rw [iK, if_neg h3]
          by_cases hE : numE (n - 1) (behind (iT z) z) (iK z) = 0
          · by_cases hm : 9223372036854775807 < numV (n - 1) (behind (iT z) z) (iK z)
            · have e : iE n z = 4 := by simp [iE, hn, h1, h2, hE, hm]
              rw [iV, iN, e, if_neg (by decide), if_neg (by decide)]
              rw [ht, hk] at hE hm
              exact (refInt_arange b off n cap z w (by omega) hlc hnm hz hc (by omega) (by omega) hE (by omega)).mono fun e w' ⟨h1, h2⟩ => by rw [h1]; exact RefPost.err hlc hs0 h2
            · have e : iE n z = 0 := by simp [iE, hn, h1, h2, hE, hm]
              have hle := iN_le e
              rw [iN, if_pos e, hk] at hle
              rw [iV, iN, e, if_pos rfl, if_pos rfl, if_neg h3, hk, ht]
              rw [ht, hk] at hE hm hb
              have hw : (1 + (z 0 - 128)).toNat = 1 + (z 0 - 128).toNat := by omega
              have := refInt_aok b off n cap z w (by omega) hlc hnm hz hc (by omega) (by omega) hE (by omega) hb (by omega)
              rw [hw] at this
              exact this.mono fun e w' h => h.post hlc hle hs0
          · have e : iE n z = numE (n - 1) (behind (iT z) z) (iK z) := by simp [iE, hn, h1, h2, hE]
            rw [iV, iN, e, if_neg hE, if_neg hE]
            rw [ht, hk] at hE
            rw [ht, hk]
            exact (refInt_aerr b off n cap z w (by omega) hlc hnm hz hc (by omega) (by omega) _ rfl (by simp [hE])).mono fun e w' ⟨h1, h2⟩ => by rw [h1]; exact RefPost.err hlc hs0 h2
end Go.Proofs.YtelpkbdobeofgaaDoor
