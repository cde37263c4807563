/- The document's readers: ReadUint and ReadInt. -/
import Derived.Test.YtmekplaonlpfkaaGreatDoorOwnShelf36
import Derived.Deep.QuietTactic
import Derived.BigQuiet
import Derived.RegionTactic
import Derived.BigRegion
namespace Go.Proofs.YtmekplaonlpfkaaGreatDoor
open Go.RowKit

/-- What a document's reader answers that has taken k bytes off. -/
def RefTook (w : World) (ad : Option Addr) (n cap k : Nat) (v : Value) (e : Ending) (w' : World) : Prop :=
  ∃ ad', (ad' = ad ∧ cap = k ∨ ad' = Option.map (fun x => x.add k) ad) ∧ e = .returned (.tuple #[.agg #[.slice ad' (n - k) (cap - k), .int .i64 0], v]) ∧ Below w.heap.size w w'
theorem RefTook.all {w w' : World} {ad : Option Addr} {n k : Nat} {v : Value} (h : Below w.heap.size w w') : RefTook w ad n k k v (.returned (.tuple #[.agg #[.slice ad (n - k) 0, .int .i64 0], v])) w' := ⟨ad, .inl ⟨rfl, rfl⟩, by simp, h⟩
theorem RefTook.part {w w' : World} {b off n cap k : Nat} {v : Value} (h : Below w.heap.size w w') : RefTook w (some ⟨b, off, none⟩) n cap k v (.returned (.tuple #[.agg #[.slice (some ⟨b, off + k, none⟩) (n - k) (cap - k), .int .i64 0], v])) w' := ⟨_, .inr rfl, by simp [Addr.add_lit], h⟩

set_option maxHeartbeats 400000 in
theorem fail_0 (a : Option Addr) (n c : Nat) (e : Int) (w : World) :
    Calls Tryz.prog 69 #[.agg #[.slice a n c, .int .i64 0], .int .i64 e] w fun ev w' => ev = .returned (.agg #[.slice a n c, .int .i64 e]) ∧ w' = (w.alloc (.cells #[.slice a n c, .int .i64 e] 89)).alloc (.cells #[.slice a n c, .int .i64 e] 89) := by
  go_enter Tryz.func69, Tryz.ntmps69
  go_wp2
  exact bodyPost_ret (v := .agg #[.slice a n c, .int .i64 e]) (by simp [results, Tryz.results69, go_sem]) rfl ⟨rfl, rfl⟩

set_option maxHeartbeats 400000 in
theorem refUint_nil (ad : Option Addr) (cap : Nat) (most : Int) (w : World) :
    Calls Tryz.prog 39 #[.agg #[.slice ad 0 cap, .int .i64 0], .int .u64 most] w fun e w' =>
      e = .returned (.tuple #[.agg #[.slice ad 0 cap, .int .i64 12], .int .u64 0]) ∧ Below w.heap.size w w' := by
  go_enter Tryz.func39, Tryz.ntmps39
  go_wp2_with (go_at_call 69; refine (fail_0 _ _ _ _ _).mono ?_; rintro e w1 ⟨rfl, rfl⟩)
  refine bodyPost_ret (v := .tuple #[.agg #[.slice ad 0 cap, .int .i64 12], .int .u64 0]) (by simp [results, Tryz.results39, go_sem]) rfl ⟨rfl, (by repeat (first | exact Below.refl _ _ | refine Below.alloc ?_ (by simp; try omega) _ | refine Below.setCell ?_ (by simp) _ | refine below_drewN ?_ _ | refine Below.drew ?_))⟩

set_option maxHeartbeats 400000 in
theorem refUint_wide (b off n cap : Nat) (most : Int) (z : Nat → Int) (w : World) (hn : 0 < n) (hc : w.cell? ⟨b, off, none⟩ = some (.int .u8 (z 0))) (h8 : 8 < z 0) :
    Calls Tryz.prog 39 #[.agg #[.slice (some ⟨b, off, none⟩) n cap, .int .i64 0], .int .u64 most] w fun e w' =>
      e = .returned (.tuple #[.agg #[.slice (some ⟨b, off, none⟩) n cap, .int .i64 3], .int .u64 0]) ∧ Below w.heap.size w w' := by
  have hlt : b < w.heap.size := World.block_lt_of_cell? w _ hc
  go_enter Tryz.func39, Tryz.ntmps39
  go_wp2_with (go_at_call 69; refine (fail_0 _ _ _ _ _).mono ?_; rintro e w1 ⟨rfl, rfl⟩)
  refine bodyPost_ret (v := .tuple #[.agg #[.slice (some ⟨b, off, none⟩) n cap, .int .i64 3], .int .u64 0]) (by simp [results, Tryz.results39, go_sem]) rfl ⟨rfl, (by repeat (first | exact Below.refl _ _ | refine Below.alloc ?_ (by simp; try omega) _ | refine Below.setCell ?_ (by simp) _ | refine below_drewN ?_ _ | refine Below.drew ?_))⟩

set_option maxHeartbeats 400000 in
theorem refUint_err (b off n cap : Nat) (most : Int) (z : Nat → Int) (er : Int) (w : World) (hn : 0 < n) (hlc : n ≤ cap) (hnm : n ≤ 140737488351232) (hz : ∀ j, j < n → 0 ≤ z j ∧ z j ≤ 255) (hc : ∀ j, j < n → w.cell? ⟨b, off + j, none⟩ = some (.int .u8 (z j))) (h8 : z 0 ≤ 8)
    (hE : numE (n - 1) (behind false z) (z 0).toNat = er) (he : (er == 0) = false) :
    Calls Tryz.prog 39 #[.agg #[.slice (some ⟨b, off, none⟩) n cap, .int .i64 0], .int .u64 most] w fun e w' =>
      e = .returned (.tuple #[.agg #[.slice (some ⟨b, off, none⟩) n cap, .int .i64 er], .int .u64 0]) ∧ Below w.heap.size w w' := by
  have c0 : w.cell? ⟨b, off, none⟩ = some (.int .u8 (z 0)) := by simpa using hc 0 hn
  have hlt : b < w.heap.size := World.block_lt_of_cell? w _ c0
  have hz0 := hz 0 hn
  have hc2 : ∀ wx : World, Below w.heap.size w wx → ∀ j, j < n → wx.cell? ⟨b, off + j, none⟩ = some (.int .u8 (z j)) := fun wx hb j hj => by rw [hb.cell (p := ⟨b, off + j, none⟩) hlt]; exact hc j hj
  have HC : Hid (∀ wx : World, Below w.heap.size w wx → ∀ j, j < n → wx.cell? ⟨b, off + j, none⟩ = some (.int .u8 (z j))) := hc2
  have HZ : Hid (∀ j, j < n → 0 ≤ z j ∧ z j ≤ 255) := hz
  clear hc hc2 hz
  have hn1 : (1 : Int) ≤ (n : Int) := by omega
  go_enter Tryz.func39, Tryz.ntmps39
  go_wp2_with fail
  go_quiet ((go_at_call 70; exact Calls.quiet_of_same (refnum_any b off n cap (z 0) false z _ hn hz0.1 h8 hlc hnm HZ.out (HC.out _ (by repeat (first | exact Below.refl _ _ | refine Below.alloc ?_ (by simp; try omega) _ | refine Below.setCell ?_ (by simp) _ | refine below_drewN ?_ _ | refine Below.drew ?_))))))
  go_wp2_with (go_at_call 69; refine (fail_0 _ _ _ _ _).mono ?_; rintro e w1 ⟨rfl, rfl⟩)
  refine bodyPost_ret (v := .tuple #[.agg #[.slice (some ⟨b, off, none⟩) n cap, .int .i64 er], .int .u64 0]) (by simp [results, Tryz.results39, go_sem]) rfl ⟨rfl, (by repeat (first | exact Below.refl _ _ | refine Below.alloc ?_ (by simp; try omega) _ | refine Below.setCell ?_ (by simp) _ | refine below_drewN ?_ _ | refine Below.drew ?_))⟩

set_option maxHeartbeats 400000 in
theorem refUint_range (b off n cap : Nat) (most : Int) (z : Nat → Int) (w : World) (hn : 0 < n) (hlc : n ≤ cap) (hnm : n ≤ 140737488351232) (hz : ∀ j, j < n → 0 ≤ z j ∧ z j ≤ 255) (hc : ∀ j, j < n → w.cell? ⟨b, off + j, none⟩ = some (.int .u8 (z j))) (h8 : z 0 ≤ 8)
    (hE : numE (n - 1) (behind false z) (z 0).toNat = 0) (hm : most < numV (n - 1) (behind false z) (z 0).toNat) :
    Calls Tryz.prog 39 #[.agg #[.slice (some ⟨b, off, none⟩) n cap, .int .i64 0], .int .u64 most] w fun e w' =>
      e = .returned (.tuple #[.agg #[.slice (some ⟨b, off, none⟩) n cap, .int .i64 4], .int .u64 0]) ∧ Below w.heap.size w w' := by
  have c0 : w.cell? ⟨b, off, none⟩ = some (.int .u8 (z 0)) := by simpa using hc 0 hn
  have hlt : b < w.heap.size := World.block_lt_of_cell? w _ c0
  have hz0 := hz 0 hn
  have hc2 : ∀ wx : World, Below w.heap.size w wx → ∀ j, j < n → wx.cell? ⟨b, off + j, none⟩ = some (.int .u8 (z j)) := fun wx hb j hj => by rw [hb.cell (p := ⟨b, off + j, none⟩) hlt]; exact hc j hj
  have HC : Hid (∀ wx : World, Below w.heap.size w wx → ∀ j, j < n → wx.cell? ⟨b, off + j, none⟩ = some (.int .u8 (z j))) := hc2
  have HZ : Hid (∀ j, j < n → 0 ≤ z j ∧ z j ≤ 255) := hz
  clear hc hc2 hz
  have hn1 : (1 : Int) ≤ (n : Int) := by omega
  go_enter Tryz.func39, Tryz.ntmps39
  go_wp2_with fail
  go_quiet ((go_at_call 70; exact Calls.quiet_of_same (refnum_any b off n cap (z 0) false z _ hn hz0.1 h8 hlc hnm HZ.out (HC.out _ (by repeat (first | exact Below.refl _ _ | refine Below.alloc ?_ (by simp; try omega) _ | refine Below.setCell ?_ (by simp) _ | refine below_drewN ?_ _ | refine Below.drew ?_))))))
  go_wp2_with (go_at_call 69; refine (fail_0 _ _ _ _ _).mono ?_; rintro e w1 ⟨rfl, rfl⟩)
  refine bodyPost_ret (v := .tuple #[.agg #[.slice (some ⟨b, off, none⟩) n cap, .int .i64 4], .int .u64 0]) (by simp [results, Tryz.results39, go_sem]) rfl ⟨rfl, (by repeat (first | exact Below.refl _ _ | refine Below.alloc ?_ (by simp; try omega) _ | refine Below.setCell ?_ (by simp) _ | refine below_drewN ?_ _ | refine Below.drew ?_))⟩

set_option maxHeartbeats 400000 in
theorem refUint_ok (b off n cap : Nat) (most : Int) (z : Nat → Int) (w : World) (hn : 0 < n) (hlc : n ≤ cap) (hnm : n ≤ 140737488351232) (hz : ∀ j, j < n → 0 ≤ z j ∧ z j ≤ 255) (hc : ∀ j, j < n → w.cell? ⟨b, off + j, none⟩ = some (.int .u8 (z j))) (h8 : z 0 ≤ 8)
    (hE : numE (n - 1) (behind false z) (z 0).toNat = 0) (hm : ¬ most < numV (n - 1) (behind false z) (z 0).toNat) (hkn : 1 + z 0 ≤ n) :
    Calls Tryz.prog 39 #[.agg #[.slice (some ⟨b, off, none⟩) n cap, .int .i64 0], .int .u64 most] w fun e w' =>
      RefTook w (some ⟨b, off, none⟩) n cap (1 + z 0).toNat (.int .u64 (numV (n - 1) (behind false z) (z 0).toNat)) e w' := by
  have c0 : w.cell? ⟨b, off, none⟩ = some (.int .u8 (z 0)) := by simpa using hc 0 hn
  have hlt : b < w.heap.size := World.block_lt_of_cell? w _ c0
  have hz0 := hz 0 hn
  have hc2 : ∀ wx : World, Below w.heap.size w wx → ∀ j, j < n → wx.cell? ⟨b, off + j, none⟩ = some (.int .u8 (z j)) := fun wx hb j hj => by rw [hb.cell (p := ⟨b, off + j, none⟩) hlt]; exact hc j hj
  have HC : Hid (∀ wx : World, Below w.heap.size w wx → ∀ j, j < n → wx.cell? ⟨b, off + j, none⟩ = some (.int .u8 (z j))) := hc2
  have HZ : Hid (∀ j, j < n → 0 ≤ z j ∧ z j ≤ 255) := hz
  clear hc hc2 hz
  have hn1 : (1 : Int) ≤ (n : Int) := by omega
  go_enter Tryz.func39, Tryz.ntmps39
  go_wp2_with fail
  go_quiet ((go_at_call 70; exact Calls.quiet_of_same (refnum_any b off n cap (z 0) false z _ hn hz0.1 h8 hlc hnm HZ.out (HC.out _ (by repeat (first | exact Below.refl _ _ | refine Below.alloc ?_ (by simp; try omega) _ | refine Below.setCell ?_ (by simp) _ | refine below_drewN ?_ _ | refine Below.drew ?_))))))
  go_wp2
  have hk0 : (0 : Int) ≤ 1 + z 0 := by omega
  have hlc1 : (n : Int) ≤ (cap : Int) := by omega
  go_region
  all_goals go_wp2
  · subst h
    exact bodyPost_ret (v := .tuple #[.agg #[.slice (some ⟨b, off, none⟩) (n - (1 + z 0).toNat) 0, .int .i64 0], .int .u64 (numV (n - 1) (behind false z) (z 0).toNat)]) (by simp [results, Tryz.results39, go_sem]) rfl (RefTook.all (by repeat (first | exact Below.refl _ _ | refine Below.alloc ?_ (by simp; try omega) _ | refine Below.setCell ?_ (by simp) _ | refine below_drewN ?_ _ | refine Below.drew ?_)))
  · exact bodyPost_ret (v := .tuple #[.agg #[.slice (some ⟨b, off + (1 + z 0).toNat, none⟩) (n - (1 + z 0).toNat) (cap - (1 + z 0).toNat), .int .i64 0], .int .u64 (numV (n - 1) (behind false z) (z 0).toNat)]) (by simp [results, Tryz.results39, go_sem]) rfl (RefTook.part (by repeat (first | exact Below.refl _ _ | refine Below.alloc ?_ (by simp; try omega) _ | refine Below.setCell ?_ (by simp) _ | refine below_drewN ?_ _ | refine Below.drew ?_)))
end Go.Proofs.YtmekplaonlpfkaaGreatDoor
