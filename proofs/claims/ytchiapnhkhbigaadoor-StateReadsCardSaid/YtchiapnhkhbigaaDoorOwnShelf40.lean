/- The document's number: so many bytes behind the first one. -/
import Derived.Test.YtchiapnhkhbigaaDoorOwnShelf35
import Derived.WalkSmall
import Derived.Deep.QuietTactic
import Derived.BigQuiet
import Derived.RegionTactic
import Derived.BigRegion
namespace Go.Proofs.YtchiapnhkhbigaaDoor
open Go.RowKit

set_option maxHeartbeats 400000 in
theorem refnum_short (ad : Option Addr) (n cap k : Nat) (t : Bool) (w : World) (h : n < 1 + k) (_hk8 : k ≤ 8) :
    Calls Tryd.prog 94 #[.slice ad n cap, .int .i64 k, .bool t] w fun e w' => e = .returned (.tuple #[.int .u64 0, .int .i64 12]) ∧ w' = w := by
  go_enter Tryd.func94, Tryd.ntmps94
  go_wp2
  go_ret2
  exact ⟨rfl, rfl⟩

set_option maxHeartbeats 400000 in
theorem refnum_more_false (b off n cap k : Nat) (z : Nat → Int) (w : World) (hk : k < n) (hk8 : k ≤ 8) (_hlc : n ≤ cap) (_hn : n ≤ 140737488351232) (h0 : 0 < k → behind false z 0 ≠ 0)
    (hz : ∀ j, j < n → 0 ≤ z j ∧ z j ≤ 255) (hc : ∀ j, j < n → w.cell? ⟨b, off + j, none⟩ = some (.int .u8 (z j))) :
    Calls Tryd.prog 94 #[.slice (some ⟨b, off, none⟩) n cap, .int .i64 k, .bool false] w fun e w' => e = .returned (.tuple #[.int .u64 (valF (behind false z) k), .int .i64 0]) ∧ w' = w := by
  have H0 : Hid (0 < k → behind false z 0 ≠ 0) := h0
  clear h0
  go_enter Tryd.func94, Tryd.ntmps94
  go_wp2
  go_loop [8, 9] (fun m i => ∃ q : Nat, q ≤ k ∧ i = .int .i64 (q + 1) ∧ m = .int .u64 (valF (behind false z) q)) (fun _ i => k + 1 - (intOf i).toNat)
  case atStart => exact ⟨0, Nat.zero_le _, rfl, rfl⟩
  case round =>
    obtain ⟨q, hq, rfl, rfl⟩ := hrel
    by_cases hlt : q < k
    · have hcq := hc (q + 1) (by omega)
      have hzq := hz (q + 1) (by omega)
      have hb := valF_lt7 (f := behind false z) (k := q) (by omega) (fun j hj => trn_bd (hz _ (by omega)))
      have hb2 := valF_lt (f := behind false z) (k := q + 1) (by omega) (fun j hj => trn_bd (hz _ (by omega)))
      have HS : Hid (256 * valF (behind false z) q + (z (q + 1)) = valF (behind false z) (q + 1)) := rfl
      have hb3 : 256 * valF (behind false z) q + (z (q + 1)) ≤ 18446744073709551615 := by rw [HS.out]; exact hb2.2
      clear hb2
      by_cases hq0 : q = 0
      · subst hq0
        have hx : ((z (0 + 1)) == 0) = false := by
          have := H0.out (by omega)
          simp [behind, trn] at this
          simpa using this
        simp only [Nat.zero_add] at *
        go_wp2
        go_round
        case rel => exact ⟨1, by omega, rfl, rfl⟩
        case measure => simp [intOf]; omega
      · have hq1 : (((q : Int) + 1) == 1) = false := by simp; omega
        go_wp2
        go_round
        case rel => exact ⟨q + 1, by omega, by go_num, by rw [HS.out]⟩
        case measure => simp [intOf]; omega
    · have : q = k := by omega
      subst this
      go_wp2
      go_ret2
      exact ⟨rfl, rfl⟩

set_option maxHeartbeats 400000 in
theorem refnum_more_true (b off n cap k : Nat) (z : Nat → Int) (w : World) (hk : k < n) (hk8 : k ≤ 8) (_hlc : n ≤ cap) (_hn : n ≤ 140737488351232) (h0 : 0 < k → behind true z 0 ≠ 0)
    (hz : ∀ j, j < n → 0 ≤ z j ∧ z j ≤ 255) (hc : ∀ j, j < n → w.cell? ⟨b, off + j, none⟩ = some (.int .u8 (z j))) :
    Calls Tryd.prog 94 #[.slice (some ⟨b, off, none⟩) n cap, .int .i64 k, .bool true] w fun e w' => e = .returned (.tuple #[.int .u64 (valF (behind true z) k), .int .i64 0]) ∧ w' = w := by
  have H0 : Hid (0 < k → behind true z 0 ≠ 0) := h0
  clear h0
  go_enter Tryd.func94, Tryd.ntmps94
  go_wp2
  go_loop [8, 9] (fun m i => ∃ q : Nat, q ≤ k ∧ i = .int .i64 (q + 1) ∧ m = .int .u64 (valF (behind true z) q)) (fun _ i => k + 1 - (intOf i).toNat)
  case atStart => exact ⟨0, Nat.zero_le _, rfl, rfl⟩
  case round =>
    obtain ⟨q, hq, rfl, rfl⟩ := hrel
    by_cases hlt : q < k
    · have hcq := hc (q + 1) (by omega)
      have hzq := hz (q + 1) (by omega)
      have hb := valF_lt7 (f := behind true z) (k := q) (by omega) (fun j hj => trn_bd (hz _ (by omega)))
      have hb2 := valF_lt (f := behind true z) (k := q + 1) (by omega) (fun j hj => trn_bd (hz _ (by omega)))
      have HS : Hid (256 * valF (behind true z) q + (255 - z (q + 1)) = valF (behind true z) (q + 1)) := rfl
      have hb3 : 256 * valF (behind true z) q + (255 - z (q + 1)) ≤ 18446744073709551615 := by rw [HS.out]; exact hb2.2
      clear hb2
      by_cases hq0 : q = 0
      · subst hq0
        have hx : ((255 - z (0 + 1)) == 0) = false := by
          have := H0.out (by omega)
          simp [behind, trn] at this
          simpa using this
        simp only [Nat.zero_add] at *
        go_wp2
        go_round
        case rel => exact ⟨1, by omega, rfl, rfl⟩
        case measure => simp [intOf]; omega
      · have hq1 : (((q : Int) + 1) == 1) = false := by simp; omega
        go_wp2
        go_round
        case rel => exact ⟨q + 1, by omega, by go_num, by rw [HS.out]⟩
        case measure => simp [intOf]; omega
    · have : q = k := by omega
      subst this
      go_wp2
      go_ret2
      exact ⟨rfl, rfl⟩


set_option maxHeartbeats 400000 in
theorem refnum_form_false (b off n cap k : Nat) (z : Nat → Int) (w : World) (hk : k < n) (hk8 : k ≤ 8) (_hlc : n ≤ cap) (_hn : n ≤ 140737488351232) (hk0 : 0 < k) (hx : ((z 1) == 0) = true) (_hz1 : 0 ≤ z 1 ∧ z 1 ≤ 255)
    (hc : w.cell? ⟨b, off + 1, none⟩ = some (.int .u8 (z 1))) :
    Calls Tryd.prog 94 #[.slice (some ⟨b, off, none⟩) n cap, .int .i64 k, .bool false] w fun e w' => e = .returned (.tuple #[.int .u64 0, .int .i64 3]) ∧ w' = w := by
  go_enter Tryd.func94, Tryd.ntmps94
  go_wp2
  refine wp_loop_rounds 1 ?_
  rw [rounds_succ]
  go_wp2
  go_ret2
  exact ⟨rfl, rfl⟩

set_option maxHeartbeats 400000 in
theorem refnum_form_true (b off n cap k : Nat) (z : Nat → Int) (w : World) (hk : k < n) (hk8 : k ≤ 8) (_hlc : n ≤ cap) (_hn : n ≤ 140737488351232) (hk0 : 0 < k) (hx : ((255 - z 1) == 0) = true) (_hz1 : 0 ≤ z 1 ∧ z 1 ≤ 255)
    (hc : w.cell? ⟨b, off + 1, none⟩ = some (.int .u8 (z 1))) :
    Calls Tryd.prog 94 #[.slice (some ⟨b, off, none⟩) n cap, .int .i64 k, .bool true] w fun e w' => e = .returned (.tuple #[.int .u64 0, .int .i64 3]) ∧ w' = w := by
  go_enter Tryd.func94, Tryd.ntmps94
  go_wp2
  refine wp_loop_rounds 1 ?_
  rw [rounds_succ]
  go_wp2
  go_ret2
  exact ⟨rfl, rfl⟩

theorem refnum_any (b off n cap : Nat) (k : Int) (t : Bool) (z : Nat → Int) (w : World) (hn0 : 0 < n) (h0 : 0 ≤ k) (h8 : k ≤ 8) (hlc : n ≤ cap) (hn : n ≤ 140737488351232)
    (hz : ∀ j, j < n → 0 ≤ z j ∧ z j ≤ 255) (hc : ∀ j, j < n → w.cell? ⟨b, off + j, none⟩ = some (.int .u8 (z j))) :
    Calls Tryd.prog 94 #[.slice (some ⟨b, off, none⟩) n cap, .int .i64 k, .bool t] w fun e w' =>
      e = .returned (.tuple #[.int .u64 (numV (n - 1) (behind t z) k.toNat), .int .i64 (numE (n - 1) (behind t z) k.toNat)]) ∧ w' = w := by
  obtain ⟨q, rfl⟩ := Int.eq_ofNat_of_zero_le h0
  rw [Int.toNat_natCast]
  by_cases h1 : n - 1 < q
  · have e : numE (n - 1) (behind t z) q = 12 := by simp [numE, h1]
    rw [numV, e, if_neg (by decide)]
    exact refnum_short _ n cap q t w (by omega) (by omega)
  · by_cases h2 : 0 < q ∧ behind t z 0 = 0
    · have e : numE (n - 1) (behind t z) q = 3 := by simp [numE, h1, h2]
      rw [numV, e, if_neg (by decide)]
      have hb := h2.2
      cases t
      · exact refnum_form_false b off n cap q z w (by omega) (by omega) hlc hn h2.1 (by simpa [behind, trn] using hb) (hz 1 (by omega)) (hc 1 (by omega))
      · exact refnum_form_true b off n cap q z w (by omega) (by omega) hlc hn h2.1 (by simpa [behind, trn] using hb) (hz 1 (by omega)) (hc 1 (by omega))
    · have e : numE (n - 1) (behind t z) q = 0 := by simp only [numE]; rw [if_neg h1, if_neg h2]
      rw [numV, e, if_pos rfl]
      cases t
      · exact refnum_more_false b off n cap q z w (by omega) (by omega) hlc hn (fun h e => h2 ⟨h, e⟩) hz hc
      · exact refnum_more_true b off n cap q z w (by omega) (by omega) hlc hn (fun h e => h2 ⟨h, e⟩) hz hc
end Go.Proofs.YtchiapnhkhbigaaDoor
/- The document's readers: ReadUint and ReadInt. -/
namespace Go.Proofs.YtchiapnhkhbigaaDoor
open Go.RowKit

/-- What a document's reader answers that has taken k bytes off. -/
def RefTook (w : World) (ad : Option Addr) (n cap k : Nat) (v : Value) (e : Ending) (w' : World) : Prop :=
  ∃ ad', (ad' = ad ∧ cap = k ∨ ad' = Option.map (fun x => x.add k) ad) ∧ e = .returned (.tuple #[.agg #[.slice ad' (n - k) (cap - k), .int .i64 0], v]) ∧ Below w.heap.size w w'
theorem RefTook.all {w w' : World} {ad : Option Addr} {n k : Nat} {v : Value} (h : Below w.heap.size w w') : RefTook w ad n k k v (.returned (.tuple #[.agg #[.slice ad (n - k) 0, .int .i64 0], v])) w' := ⟨ad, .inl ⟨rfl, rfl⟩, by simp, h⟩
theorem RefTook.part {w w' : World} {b off n cap k : Nat} {v : Value} (h : Below w.heap.size w w') : RefTook w (some ⟨b, off, none⟩) n cap k v (.returned (.tuple #[.agg #[.slice (some ⟨b, off + k, none⟩) (n - k) (cap - k), .int .i64 0], v])) w' := ⟨_, .inr rfl, by simp [Addr.add_lit], h⟩

set_option maxHeartbeats 400000 in
theorem fail_0 (a : Option Addr) (n c : Nat) (e : Int) (w : World) :
    Calls Tryd.prog 80 #[.agg #[.slice a n c, .int .i64 0], .int .i64 e] w fun ev w' => ev = .returned (.agg #[.slice a n c, .int .i64 e]) ∧ w' = (w.alloc (.cells #[.slice a n c, .int .i64 e] 96)).alloc (.cells #[.slice a n c, .int .i64 e] 96) := by
  go_enter Tryd.func80, Tryd.ntmps80
  go_wp2
  exact bodyPost_ret (v := .agg #[.slice a n c, .int .i64 e]) (by simp [results, Tryd.results80, go_sem]) rfl ⟨rfl, rfl⟩

set_option maxHeartbeats 400000 in
theorem refUint_nil (ad : Option Addr) (cap : Nat) (most : Int) (w : World) :
    Calls Tryd.prog 79 #[.agg #[.slice ad 0 cap, .int .i64 0], .int .u64 most] w fun e w' =>
      e = .returned (.tuple #[.agg #[.slice ad 0 cap, .int .i64 12], .int .u64 0]) ∧ Below w.heap.size w w' := by
  go_enter Tryd.func79, Tryd.ntmps79
  go_wp2_with (go_at_call 80; refine (fail_0 _ _ _ _ _).mono ?_; rintro e w1 ⟨rfl, rfl⟩)
  refine bodyPost_ret (v := .tuple #[.agg #[.slice ad 0 cap, .int .i64 12], .int .u64 0]) (by simp [results, Tryd.results79, go_sem]) rfl ⟨rfl, (by repeat (first | exact Below.refl _ _ | refine Below.alloc ?_ (by simp; try omega) _ | refine Below.setCell ?_ (by simp) _ | refine Go.below_drewN ?_ _ | refine Below.drew ?_))⟩

set_option maxHeartbeats 400000 in
theorem refUint_wide (b off n cap : Nat) (most : Int) (z : Nat → Int) (w : World) (hn : 0 < n) (hc : w.cell? ⟨b, off, none⟩ = some (.int .u8 (z 0))) (h8 : 8 < z 0) :
    Calls Tryd.prog 79 #[.agg #[.slice (some ⟨b, off, none⟩) n cap, .int .i64 0], .int .u64 most] w fun e w' =>
      e = .returned (.tuple #[.agg #[.slice (some ⟨b, off, none⟩) n cap, .int .i64 3], .int .u64 0]) ∧ Below w.heap.size w w' := by
  have hlt : b < w.heap.size := World.block_lt_of_cell? w _ hc
  go_enter Tryd.func79, Tryd.ntmps79
  go_wp2_with (go_at_call 80; refine (fail_0 _ _ _ _ _).mono ?_; rintro e w1 ⟨rfl, rfl⟩)
  refine bodyPost_ret (v := .tuple #[.agg #[.slice (some ⟨b, off, none⟩) n cap, .int .i64 3], .int .u64 0]) (by simp [results, Tryd.results79, go_sem]) rfl ⟨rfl, (by repeat (first | exact Below.refl _ _ | refine Below.alloc ?_ (by simp; try omega) _ | refine Below.setCell ?_ (by simp) _ | refine Go.below_drewN ?_ _ | refine Below.drew ?_))⟩

set_option maxHeartbeats 400000 in
theorem refUint_err (b off n cap : Nat) (most : Int) (z : Nat → Int) (er : Int) (w : World) (hn : 0 < n) (hlc : n ≤ cap) (hnm : n ≤ 140737488351232) (hz : ∀ j, j < n → 0 ≤ z j ∧ z j ≤ 255) (hc : ∀ j, j < n → w.cell? ⟨b, off + j, none⟩ = some (.int .u8 (z j))) (h8 : z 0 ≤ 8)
    (hE : numE (n - 1) (behind false z) (z 0).toNat = er) (he : (er == 0) = false) :
    Calls Tryd.prog 79 #[.agg #[.slice (some ⟨b, off, none⟩) n cap, .int .i64 0], .int .u64 most] w fun e w' =>
      e = .returned (.tuple #[.agg #[.slice (some ⟨b, off, none⟩) n cap, .int .i64 er], .int .u64 0]) ∧ Below w.heap.size w w' := by
  have c0 : w.cell? ⟨b, off, none⟩ = some (.int .u8 (z 0)) := by simpa using hc 0 hn
  have hlt : b < w.heap.size := World.block_lt_of_cell? w _ c0
  have hz0 := hz 0 hn
  have hc2 : ∀ wx : World, Below w.heap.size w wx → ∀ j, j < n → wx.cell? ⟨b, off + j, none⟩ = some (.int .u8 (z j)) := fun wx hb j hj => by rw [hb.cell (p := ⟨b, off + j, none⟩) hlt]; exact hc j hj
  have HC : Hid (∀ wx : World, Below w.heap.size w wx → ∀ j, j < n → wx.cell? ⟨b, off + j, none⟩ = some (.int .u8 (z j))) := hc2
  have HZ : Hid (∀ j, j < n → 0 ≤ z j ∧ z j ≤ 255) := hz
  clear hc hc2 hz
  have hn1 : (1 : Int) ≤ (n : Int) := by omega
  go_enter Tryd.func79, Tryd.ntmps79
  go_wp2_with fail
  go_quiet ((go_at_call 94; exact Calls.quiet_of_same (refnum_any b off n cap (z 0) false z _ hn hz0.1 h8 hlc hnm HZ.out (HC.out _ (by repeat (first | exact Below.refl _ _ | refine Below.alloc ?_ (by simp; try omega) _ | refine Below.setCell ?_ (by simp) _ | refine Go.below_drewN ?_ _ | refine Below.drew ?_))))))
  go_wp2_with (go_at_call 80; refine (fail_0 _ _ _ _ _).mono ?_; rintro e w1 ⟨rfl, rfl⟩)
  refine bodyPost_ret (v := .tuple #[.agg #[.slice (some ⟨b, off, none⟩) n cap, .int .i64 er], .int .u64 0]) (by simp [results, Tryd.results79, go_sem]) rfl ⟨rfl, (by repeat (first | exact Below.refl _ _ | refine Below.alloc ?_ (by simp; try omega) _ | refine Below.setCell ?_ (by simp) _ | refine Go.below_drewN ?_ _ | refine Below.drew ?_))⟩

set_option maxHeartbeats 400000 in
theorem refUint_range (b off n cap : Nat) (most : Int) (z : Nat → Int) (w : World) (hn : 0 < n) (hlc : n ≤ cap) (hnm : n ≤ 140737488351232) (hz : ∀ j, j < n → 0 ≤ z j ∧ z j ≤ 255) (hc : ∀ j, j < n → w.cell? ⟨b, off + j, none⟩ = some (.int .u8 (z j))) (h8 : z 0 ≤ 8)
    (hE : numE (n - 1) (behind false z) (z 0).toNat = 0) (hm : most < numV (n - 1) (behind false z) (z 0).toNat) :
    Calls Tryd.prog 79 #[.agg #[.slice (some ⟨b, off, none⟩) n cap, .int .i64 0], .int .u64 most] w fun e w' =>
      e = .returned (.tuple #[.agg #[.slice (some ⟨b, off, none⟩) n cap, .int .i64 4], .int .u64 0]) ∧ Below w.heap.size w w' := by
  have c0 : w.cell? ⟨b, off, none⟩ = some (.int .u8 (z 0)) := by simpa using hc 0 hn
  have hlt : b < w.heap.size := World.block_lt_of_cell? w _ c0
  have hz0 := hz 0 hn
  have hc2 : ∀ wx : World, Below w.heap.size w wx → ∀ j, j < n → wx.cell? ⟨b, off + j, none⟩ = some (.int .u8 (z j)) := fun wx hb j hj => by rw [hb.cell (p := ⟨b, off + j, none⟩) hlt]; exact hc j hj
  have HC : Hid (∀ wx : World, Below w.heap.size w wx → ∀ j, j < n → wx.cell? ⟨b, off + j, none⟩ = some (.int .u8 (z j))) := hc2
  have HZ : Hid (∀ j, j < n → 0 ≤ z j ∧ z j ≤ 255) := hz
  clear hc hc2 hz
  have hn1 : (1 : Int) ≤ (n : Int) := by omega
  go_enter Tryd.func79, Tryd.ntmps79
  go_wp2_with fail
  go_quiet ((go_at_call 94; exact Calls.quiet_of_same (refnum_any b off n cap (z 0) false z _ hn hz0.1 h8 hlc hnm HZ.out (HC.out _ (by repeat (first | exact Below.refl _ _ | refine Below.alloc ?_ (by simp; try omega) _ | refine Below.setCell ?_ (by simp) _ | refine Go.below_drewN ?_ _ | refine Below.drew ?_))))))
  go_wp2_with (go_at_call 80; refine (fail_0 _ _ _ _ _).mono ?_; rintro e w1 ⟨rfl, rfl⟩)
  refine bodyPost_ret (v := .tuple #[.agg #[.slice (some ⟨b, off, none⟩) n cap, .int .i64 4], .int .u64 0]) (by simp [results, Tryd.results79, go_sem]) rfl ⟨rfl, (by repeat (first | exact Below.refl _ _ | refine Below.alloc ?_ (by simp; try omega) _ | refine Below.setCell ?_ (by simp) _ | refine Go.below_drewN ?_ _ | refine Below.drew ?_))⟩

set_option maxHeartbeats 400000 in
theorem refUint_ok (b off n cap : Nat) (most : Int) (z : Nat → Int) (w : World) (hn : 0 < n) (hlc : n ≤ cap) (hnm : n ≤ 140737488351232) (hz : ∀ j, j < n → 0 ≤ z j ∧ z j ≤ 255) (hc : ∀ j, j < n → w.cell? ⟨b, off + j, none⟩ = some (.int .u8 (z j))) (h8 : z 0 ≤ 8)
    (hE : numE (n - 1) (behind false z) (z 0).toNat = 0) (hm : ¬ most < numV (n - 1) (behind false z) (z 0).toNat) (hkn : 1 + z 0 ≤ n) :
    Calls Tryd.prog 79 #[.agg #[.slice (some ⟨b, off, none⟩) n cap, .int .i64 0], .int .u64 most] w fun e w' =>
      RefTook w (some ⟨b, off, none⟩) n cap (1 + z 0).toNat (.int .u64 (numV (n - 1) (behind false z) (z 0).toNat)) e w' := by
  have c0 : w.cell? ⟨b, off, none⟩ = some (.int .u8 (z 0)) := by simpa using hc 0 hn
  have hlt : b < w.heap.size := World.block_lt_of_cell? w _ c0
  have hz0 := hz 0 hn
  have hc2 : ∀ wx : World, Below w.heap.size w wx → ∀ j, j < n → wx.cell? ⟨b, off + j, none⟩ = some (.int .u8 (z j)) := fun wx hb j hj => by rw [hb.cell (p := ⟨b, off + j, none⟩) hlt]; exact hc j hj
  have HC : Hid (∀ wx : World, Below w.heap.size w wx → ∀ j, j < n → wx.cell? ⟨b, off + j, none⟩ = some (.int .u8 (z j))) := hc2
  have HZ : Hid (∀ j, j < n → 0 ≤ z j ∧ z j ≤ 255) := hz
  clear hc hc2 hz
  have hn1 : (1 : Int) ≤ (n : Int) := by omega
  go_enter Tryd.func79, Tryd.ntmps79
  go_wp2_with fail
  go_quiet ((go_at_call 94; exact Calls.quiet_of_same (refnum_any b off n cap (z 0) false z _ hn hz0.1 h8 hlc hnm HZ.out (HC.out _ (by repeat (first | exact Below.refl _ _ | refine Below.alloc ?_ (by simp; try omega) _ | refine Below.setCell ?_ (by simp) _ | refine Go.below_drewN ?_ _ | refine Below.drew ?_))))))
  go_wp2
  have hk0 : (0 : Int) ≤ 1 + z 0 := by omega
  have hlc1 : (n : Int) ≤ (cap : Int) := by omega
  go_region
  all_goals go_wp2
  · subst h
    exact bodyPost_ret (v := .tuple #[.agg #[.slice (some ⟨b, off, none⟩) (n - (1 + z 0).toNat) 0, .int .i64 0], .int .u64 (numV (n - 1) (behind false z) (z 0).toNat)]) (by simp [results, Tryd.results79, go_sem]) rfl (RefTook.all (by repeat (first | exact Below.refl _ _ | refine Below.alloc ?_ (by simp; try omega) _ | refine Below.setCell ?_ (by simp) _ | refine Go.below_drewN ?_ _ | refine Below.drew ?_)))
  · exact bodyPost_ret (v := .tuple #[.agg #[.slice (some ⟨b, off + (1 + z 0).toNat, none⟩) (n - (1 + z 0).toNat) (cap - (1 + z 0).toNat), .int .i64 0], .int .u64 (numV (n - 1) (behind false z) (z 0).toNat)]) (by simp [results, Tryd.results79, go_sem]) rfl (RefTook.part (by repeat (first | exact Below.refl _ _ | refine Below.alloc ?_ (by simp; try omega) _ | refine Below.setCell ?_ (by simp) _ | refine Go.below_drewN ?_ _ | refine Below.drew ?_)))
end Go.Proofs.YtchiapnhkhbigaaDoor
/- The document's reader ReadInt. -/
namespace Go.Proofs.YtchiapnhkhbigaaDoor
open Go.RowKit

/-- What a document's reader answers: the reader behind, its error, the value. -/
def RefPost (w : World) (ad0 : Option Addr) (n : Nat) (z : Nat → Int) (k : Nat) (er : Int) (v : Value) (e : Ending) (w' : World) : Prop :=
  ∃ ad cap, e = .returned (.tuple #[.agg #[.slice ad (n - k) cap, .int .i64 er], v]) ∧ n - k ≤ cap ∧ SlAt w ad (n - k) (fun j => z (j + k)) ∧ Below w.heap.size w w' ∧ ∀ b off, 0 < n - k → ad = some ⟨b, off, none⟩ → ∃ off0, ad0 = some ⟨b, off0, none⟩

theorem RefTook.post {w w' : World} {b off n cap k : Nat} {z : Nat → Int} {v : Value} {e : Ending} (h : RefTook w (some ⟨b, off, none⟩) n cap k v e w') (hlc : n ≤ cap) (hkn : k ≤ n) (hs : SlAt w (some ⟨b, off, none⟩) n z) : RefPost w (some ⟨b, off, none⟩) n z k 0 v e w' := by
  obtain ⟨ad', he, rfl, hb⟩ := h
  rcases he with ⟨rfl, hc⟩ | rfl
  · refine ⟨_, cap - k, rfl, by omega, ?_, hb, fun b o h0 e => by omega⟩
    rw [show n - k = 0 from by omega]; exact SlAt.zero _ _
  · refine ⟨_, cap - k, rfl, by omega, hs.drop, hb, fun b2 o h0 e => ⟨off, ?_⟩⟩
    simp only [Option.map_some, Option.some.injEq, Addr.add_lit] at e
    cases e
    rfl

theorem RefPost.err {w w' : World} {ad : Option Addr} {n cap : Nat} {z : Nat → Int} {er : Int} {v : Value} (hlc : n ≤ cap) (hs : SlAt w ad n z) (hb : Below w.heap.size w w') : RefPost w ad n z 0 er v (.returned (.tuple #[.agg #[.slice ad n cap, .int .i64 er], v])) w' :=
  ⟨ad, cap, rfl, hlc, hs, hb, fun _ off _ h => ⟨off, h⟩⟩

theorem refRdU_any (ad : Option Addr) (n cap : Nat) (most : Int) (z : Nat → Int) (w : World) (hlc : n ≤ cap) (hnm : n ≤ 140737488351232) (hs : SlAt w ad n z) :
    Calls Tryd.prog 79 #[.agg #[.slice ad n cap, .int .i64 0], .int .u64 most] w fun e w' => RefPost w ad n z (uN n z most) (uE n z most) (.int .u64 (uV n z most)) e w' := by
  have hs0 := hs
  obtain ⟨hz, hs⟩ := hs
  by_cases hn : n = 0
  · subst hn
    have e : uE 0 z most = 12 := by simp [uE]
    rw [uV, uN, e, if_neg (by decide), if_neg (by decide)]
    exact (refUint_nil ad cap most w).mono fun e w' ⟨h1, h2⟩ => by rw [h1]; exact RefPost.err hlc hs0 h2
  · obtain ⟨b, off, rfl, hc⟩ := hs (by omega)
    have c0 : w.cell? ⟨b, off, none⟩ = some (.int .u8 (z 0)) := by simpa using hc 0 (by omega)
    by_cases h8 : 8 < z 0
    · have e : uE n z most = 3 := by simp [uE, hn, h8]
      rw [uV, uN, e, if_neg (by decide), if_neg (by decide)]
      exact (refUint_wide b off n cap most z w (by omega) c0 h8).mono fun e w' ⟨h1, h2⟩ => by rw [h1]; exact RefPost.err hlc hs0 h2
    · have hz0 := hz 0 (by omega)
      by_cases hE : numE (n - 1) (behind false z) (z 0).toNat = 0
      · by_cases hm : most < numV (n - 1) (behind false z) (z 0).toNat
        · have e : uE n z most = 4 := by simp [uE, hn, h8, hE, hm]
          rw [uV, uN, e, if_neg (by decide), if_neg (by decide)]
          exact (refUint_range b off n cap most z w (by omega) hlc hnm hz hc (by omega) hE hm).mono fun e w' ⟨h1, h2⟩ => by rw [h1]; exact RefPost.err hlc hs0 h2
        · have e : uE n z most = 0 := by simp [uE, hn, h8, hE, hm]
          have hle := uN_le e
          rw [uN, if_pos e] at hle
          rw [uV, uN, e, if_pos rfl, if_pos rfl]
          have hw : (1 + z 0).toNat = 1 + (z 0).toNat := by omega
          have := refUint_ok b off n cap most z w (by omega) hlc hnm hz hc (by omega) hE hm (by omega)
          rw [hw] at this
          exact this.mono fun e w' h => h.post hlc hle hs0
      · have e : uE n z most = numE (n - 1) (behind false z) (z 0).toNat := by simp [uE, hn, h8, hE]
        rw [uV, uN, e, if_neg hE, if_neg hE]
        exact (refUint_err b off n cap most z _ w (by omega) hlc hnm hz hc (by omega) rfl (by simp [hE])).mono fun e w' ⟨h1, h2⟩ => by rw [h1]; exact RefPost.err hlc hs0 h2

end Go.Proofs.YtchiapnhkhbigaaDoor
/- The document's ReadCount. -/
namespace Go.Proofs.YtchiapnhkhbigaaDoor
open Go.RowKit
theorem hid_mk {p : Prop} (h : p) : Hid p := h
theorem fail_b (a : Option Addr) (n c : Nat) (e : Int) (w : World) :
    Calls Tryd.prog 80 #[.agg #[.slice a n c, .int .i64 0], .int .i64 e] w fun ev w' => ev = .returned (.agg #[.slice a n c, .int .i64 e]) ∧ Below w.heap.size w w' :=
  (fail_0 a n c e w).mono fun ev w' ⟨h1, h2⟩ => ⟨h1, by rw [h2]; exact ((Below.refl _ w).alloc (Nat.le_refl _) _).alloc (by simp) _⟩
theorem two_allocs_0 (w : World) (o o' : Obj) : ((w.alloc o).alloc o').heap[w.heap.size]? = some o := by
  rw [Below.heap_alloc _ _ _ (by simp)]; exact heap_alloc_new w o
theorem two_allocs_1 (w : World) (o o' : Obj) : ((w.alloc o).alloc o').heap[w.heap.size + 1]? = some o' := by
  have := heap_alloc_new (w.alloc o) o'
  simpa using this


/-- Bytes do not lie in a document's reader. -/
theorem SlAt.strip {w : World} {ad a : Option Addr} {n m c : Nat} {z : Nat → Int} {e : Int} {t : TypeId} (h : SlAt (w.alloc (.cells #[.slice a m c, .int .i64 e] t)) ad n z) : SlAt w ad n z := by
  refine ⟨h.1, fun hn => ?_⟩
  obtain ⟨b, off, rfl, hc⟩ := h.2 hn
  refine ⟨b, off, rfl, fun j hj => ?_⟩
  have hb : b ≠ w.heap.size := by
    intro e
    subst e
    have h0 := hc 0 hn
    rw [World.cell?, heap_alloc_new] at h0
    match off, h0 with
    | 0, h0 => simp at h0
    | 1, h0 => simp at h0
    | o + 2, h0 => simp at h0
  have hlt : b < w.heap.size := by
    have := World.block_lt_of_cell? _ _ (hc 0 hn)
    simp at this
    omega
  rw [← World.cell?_alloc_lt w _ ⟨b, off + j, none⟩ hlt]
  exact hc j hj

/-- Behind the document's ReadUint, called with two variables laid: they are as they were. -/
theorem cnt_mid {w w3 : World} {o1 o2 : Obj} {o3 : Obj} (hb3 : Below ((w.alloc o1).alloc o2).heap.size ((w.alloc o1).alloc o2) w3) :
    (w3.alloc o3).heap[w.heap.size]? = some o1 ∧ (w3.alloc o3).heap[w.heap.size + 1]? = some o2 ∧ Below w.heap.size w (w3.alloc o3) := by
  have hz : w.heap.size + 2 ≤ w3.heap.size := by have := hb3.size; simpa using this
  refine ⟨?_, ?_, ?_⟩
  · rw [Below.heap_alloc _ _ _ (by omega), hb3.block _ (by simp; omega)]; exact two_allocs_0 w _ _
  · rw [Below.heap_alloc _ _ _ (by omega), hb3.block _ (by simp)]; exact two_allocs_1 w _ _
  · have h1 : Below w.heap.size w w3 := (((Below.refl _ w).alloc (Nat.le_refl _) _).alloc (by simp) _).trans (hb3.mono (by simp; omega))
    exact h1.alloc h1.size _

set_option maxRecDepth 100000 in
set_option maxHeartbeats 400000 in
theorem refCount_nerr (ad : Option Addr) (n cap : Nat) (most : Int) (z : Nat → Int) (w : World) (hlc : n ≤ cap) (hn : n ≤ 140737488351232) (hs : SlAt w ad n z) (hm0 : most < 0)
    (hE : (uE n z 0 == 0) = false) :
    Calls Tryd.prog 52 #[.agg #[.slice ad n cap, .int .i64 0], .int .i64 most] w fun e w' => RefPost w ad n z 0 (uE n z 0) (.int .i64 0) e w' := by
  have hs2 : SlAt ((w.alloc (.cells #[.slice ad n cap, .int .i64 0] 96)).alloc (.cells #[.slice none 0 0, .int .i64 0] 96)) ad n z := hs.frm (((Frm.refl [] w).alloc _).alloc _) (by simp)
  have HS : Hid (SlAt w ad n z) := hs
  clear hs
  go_enter Tryd.func52, Tryd.ntmps52
  go_wp2_with fail
  refine (refRdU_any ad n cap 0 z _ hlc hn hs2).mono ?_
  rintro e w3 ⟨a1, c1, rfl, hc1, hsA, hb3, hsm⟩
  have HSm := hid_mk hsm
  clear hsm
  have HA : Hid (SlAt w a1 (n - uN n z 0) (fun j => z (j + uN n z 0))) := hsA.strip.strip
  have hm4 := cnt_mid (o3 := (.cells #[.slice a1 (n - uN n z 0) c1, .int .i64 (uE n z 0)] 96)) hb3
  have hz3 : w.heap.size + 2 ≤ w3.heap.size := by have := hb3.size; simpa using this
  have hd0 := two_cell0 hm4.2.1
  have hd1 := two_cell1 hm4.2.1
  have hdf := two_free hm4.2.1
  have hdz : w.heap.size + 1 < (w3.alloc (.cells #[.slice a1 (n - uN n z 0) c1, .int .i64 (uE n z 0)] 96)).heap.size := by simp; omega
  have hq0 := two_cell0 hm4.1
  have hq1 := two_cell1 hm4.1
  clear hsA hb3 hs2
  go_wp2_with (go_at_call 80; refine (fail_b _ _ _ _ _).mono ?_; rintro e wf ⟨rfl, hbf⟩; have hf0 := (hbf.cell (p := ⟨w.heap.size + 1, 0, none⟩) hdz).trans hd0; have hf1 := (hbf.cell (p := ⟨w.heap.size + 1, 1, none⟩) hdz).trans hd1; have hff := fun o => (hbf.frozen (p := ⟨w.heap.size + 1, o, none⟩) hdz).trans (hdf o))
  refine bodyPost_ret (v := .tuple #[.agg #[.slice ad n cap, .int .i64 (uE n z 0)], .int .i64 0]) (by simp [results, Tryd.results52, go_sem, hf0, hf1]) rfl ?_
  exact RefPost.err hlc HS.out (((hm4.2.2.trans (hbf.mono (by simp; omega))).setCell (by simp) _).setCell (by simp) _)

set_option maxRecDepth 100000 in
set_option maxHeartbeats 400000 in
theorem refCount_nlong (ad : Option Addr) (n cap : Nat) (most : Int) (z : Nat → Int) (w : World) (hlc : n ≤ cap) (hn : n ≤ 140737488351232) (hs : SlAt w ad n z) (hm0 : most < 0)
    (hE : uE n z 0 = 0) (hl : ((n - uN n z 0 : Nat) : Int) < uV n z 0) :
    Calls Tryd.prog 52 #[.agg #[.slice ad n cap, .int .i64 0], .int .i64 most] w fun e w' => RefPost w ad n z 0 2 (.int .i64 0) e w' := by
  have hs2 : SlAt ((w.alloc (.cells #[.slice ad n cap, .int .i64 0] 96)).alloc (.cells #[.slice none 0 0, .int .i64 0] 96)) ad n z := hs.frm (((Frm.refl [] w).alloc _).alloc _) (by simp)
  have HS : Hid (SlAt w ad n z) := hs
  clear hs
  go_enter Tryd.func52, Tryd.ntmps52
  go_wp2_with fail
  refine (refRdU_any ad n cap 0 z _ hlc hn hs2).mono ?_
  rintro e w3 ⟨a1, c1, rfl, hc1, hsA, hb3, hsm⟩
  have HSm := hid_mk hsm
  clear hsm
  have HA : Hid (SlAt w a1 (n - uN n z 0) (fun j => z (j + uN n z 0))) := hsA.strip.strip
  have hm4 := cnt_mid (o3 := (.cells #[.slice a1 (n - uN n z 0) c1, .int .i64 0] 96)) hb3
  have hz3 : w.heap.size + 2 ≤ w3.heap.size := by have := hb3.size; simpa using this
  have hd0 := two_cell0 hm4.2.1
  have hd1 := two_cell1 hm4.2.1
  have hdf := two_free hm4.2.1
  have hdz : w.heap.size + 1 < (w3.alloc (.cells #[.slice a1 (n - uN n z 0) c1, .int .i64 0] 96)).heap.size := by simp; omega
  have hq0 := two_cell0 hm4.1
  have hq1 := two_cell1 hm4.1
  clear hsA hb3 hs2
  go_wp2_with (go_at_call 80; refine (fail_b _ _ _ _ _).mono ?_; rintro e wf ⟨rfl, hbf⟩; have hf0 := (hbf.cell (p := ⟨w.heap.size + 1, 0, none⟩) hdz).trans hd0; have hf1 := (hbf.cell (p := ⟨w.heap.size + 1, 1, none⟩) hdz).trans hd1; have hff := fun o => (hbf.frozen (p := ⟨w.heap.size + 1, o, none⟩) hdz).trans (hdf o))
  refine bodyPost_ret (v := .tuple #[.agg #[.slice ad n cap, .int .i64 2], .int .i64 0]) (by simp [results, Tryd.results52, go_sem, hf0, hf1]) rfl ?_
  exact RefPost.err hlc HS.out (((hm4.2.2.trans (hbf.mono (by simp; omega))).setCell (by simp) _).setCell (by simp) _)

set_option maxRecDepth 100000 in
set_option maxHeartbeats 400000 in
theorem refCount_nok (ad : Option Addr) (n cap : Nat) (most : Int) (z : Nat → Int) (w : World) (hlc : n ≤ cap) (hn : n ≤ 140737488351232) (hs : SlAt w ad n z) (hm0 : most < 0)
    (hE : uE n z 0 = 0) (hv : 0 ≤ uV n z 0) (hl : ¬ ((n - uN n z 0 : Nat) : Int) < uV n z 0) :
    Calls Tryd.prog 52 #[.agg #[.slice ad n cap, .int .i64 0], .int .i64 most] w fun e w' => RefPost w ad n z (uN n z 0) 0 (.int .i64 (uV n z 0)) e w' := by
  have hs2 : SlAt ((w.alloc (.cells #[.slice ad n cap, .int .i64 0] 96)).alloc (.cells #[.slice none 0 0, .int .i64 0] 96)) ad n z := hs.frm (((Frm.refl [] w).alloc _).alloc _) (by simp)
  have HS : Hid (SlAt w ad n z) := hs
  clear hs
  go_enter Tryd.func52, Tryd.ntmps52
  go_wp2_with fail
  refine (refRdU_any ad n cap 0 z _ hlc hn hs2).mono ?_
  rintro e w3 ⟨a1, c1, rfl, hc1, hsA, hb3, hsm⟩
  have HSm := hid_mk hsm
  clear hsm
  have HA : Hid (SlAt w a1 (n - uN n z 0) (fun j => z (j + uN n z 0))) := hsA.strip.strip
  have hm4 := cnt_mid (o3 := (.cells #[.slice a1 (n - uN n z 0) c1, .int .i64 0] 96)) hb3
  have hz3 : w.heap.size + 2 ≤ w3.heap.size := by have := hb3.size; simpa using this
  have hd0 := two_cell0 hm4.2.1
  have hd1 := two_cell1 hm4.2.1
  have hdf := two_free hm4.2.1
  have hdz : w.heap.size + 1 < (w3.alloc (.cells #[.slice a1 (n - uN n z 0) c1, .int .i64 0] 96)).heap.size := by simp; omega
  have hq0 := two_cell0 hm4.1
  have hq1 := two_cell1 hm4.1
  clear hsA hb3 hs2
  go_wp2
  refine bodyPost_ret (v := .tuple #[.agg #[.slice a1 (n - uN n z 0) c1, .int .i64 0], .int .i64 (uV n z 0)]) (by simp [results, Tryd.results52, go_sem, hd0, hd1]) rfl ?_
  exact ⟨a1, c1, rfl, hc1, HA.out, (hm4.2.2.setCell (by simp) _).setCell (by simp) _, HSm.out⟩

set_option maxRecDepth 100000 in
set_option maxHeartbeats 400000 in
theorem refCount_perr (ad : Option Addr) (n cap : Nat) (most : Int) (z : Nat → Int) (w : World) (hlc : n ≤ cap) (hn : n ≤ 140737488351232) (hs : SlAt w ad n z) (hm0 : 0 ≤ most) (_hm1 : most ≤ 9223372036854775807)
    (hE : (uE n z most == 0) = false) :
    Calls Tryd.prog 52 #[.agg #[.slice ad n cap, .int .i64 0], .int .i64 most] w fun e w' => RefPost w ad n z 0 (uE n z most) (.int .i64 0) e w' := by
  have hs2 : SlAt ((w.alloc (.cells #[.slice ad n cap, .int .i64 0] 96)).alloc (.cells #[.slice none 0 0, .int .i64 0] 96)) ad n z := hs.frm (((Frm.refl [] w).alloc _).alloc _) (by simp)
  have HS : Hid (SlAt w ad n z) := hs
  clear hs
  go_enter Tryd.func52, Tryd.ntmps52
  go_wp2_with fail
  refine (refRdU_any ad n cap most z _ hlc hn hs2).mono ?_
  rintro e w3 ⟨a1, c1, rfl, hc1, hsA, hb3, hsm⟩
  have HSm := hid_mk hsm
  clear hsm
  have HA : Hid (SlAt w a1 (n - uN n z most) (fun j => z (j + uN n z most))) := hsA.strip.strip
  have hm4 := cnt_mid (o3 := (.cells #[.slice a1 (n - uN n z most) c1, .int .i64 (uE n z most)] 96)) hb3
  have hz3 : w.heap.size + 2 ≤ w3.heap.size := by have := hb3.size; simpa using this
  have hd0 := two_cell0 hm4.2.1
  have hd1 := two_cell1 hm4.2.1
  have hdf := two_free hm4.2.1
  have hdz : w.heap.size + 1 < (w3.alloc (.cells #[.slice a1 (n - uN n z most) c1, .int .i64 (uE n z most)] 96)).heap.size := by simp; omega
  have hq0 := two_cell0 hm4.1
  have hq1 := two_cell1 hm4.1
  clear hsA hb3 hs2
  go_wp2_with (go_at_call 80; refine (fail_b _ _ _ _ _).mono ?_; rintro e wf ⟨rfl, hbf⟩; have hf0 := (hbf.cell (p := ⟨w.heap.size + 1, 0, none⟩) hdz).trans hd0; have hf1 := (hbf.cell (p := ⟨w.heap.size + 1, 1, none⟩) hdz).trans hd1; have hff := fun o => (hbf.frozen (p := ⟨w.heap.size + 1, o, none⟩) hdz).trans (hdf o))
  refine bodyPost_ret (v := .tuple #[.agg #[.slice ad n cap, .int .i64 (uE n z most)], .int .i64 0]) (by simp [results, Tryd.results52, go_sem, hf0, hf1]) rfl ?_
  exact RefPost.err hlc HS.out (((hm4.2.2.trans (hbf.mono (by simp; omega))).setCell (by simp) _).setCell (by simp) _)

set_option maxRecDepth 100000 in
set_option maxHeartbeats 400000 in
theorem refCount_plong (ad : Option Addr) (n cap : Nat) (most : Int) (z : Nat → Int) (w : World) (hlc : n ≤ cap) (hn : n ≤ 140737488351232) (hs : SlAt w ad n z) (hm0 : 0 ≤ most) (_hm1 : most ≤ 9223372036854775807)
    (hE : uE n z most = 0) (hl : ((n - uN n z most : Nat) : Int) < uV n z most) :
    Calls Tryd.prog 52 #[.agg #[.slice ad n cap, .int .i64 0], .int .i64 most] w fun e w' => RefPost w ad n z 0 2 (.int .i64 0) e w' := by
  have hs2 : SlAt ((w.alloc (.cells #[.slice ad n cap, .int .i64 0] 96)).alloc (.cells #[.slice none 0 0, .int .i64 0] 96)) ad n z := hs.frm (((Frm.refl [] w).alloc _).alloc _) (by simp)
  have HS : Hid (SlAt w ad n z) := hs
  clear hs
  go_enter Tryd.func52, Tryd.ntmps52
  go_wp2_with fail
  refine (refRdU_any ad n cap most z _ hlc hn hs2).mono ?_
  rintro e w3 ⟨a1, c1, rfl, hc1, hsA, hb3, hsm⟩
  have HSm := hid_mk hsm
  clear hsm
  have HA : Hid (SlAt w a1 (n - uN n z most) (fun j => z (j + uN n z most))) := hsA.strip.strip
  have hm4 := cnt_mid (o3 := (.cells #[.slice a1 (n - uN n z most) c1, .int .i64 0] 96)) hb3
  have hz3 : w.heap.size + 2 ≤ w3.heap.size := by have := hb3.size; simpa using this
  have hd0 := two_cell0 hm4.2.1
  have hd1 := two_cell1 hm4.2.1
  have hdf := two_free hm4.2.1
  have hdz : w.heap.size + 1 < (w3.alloc (.cells #[.slice a1 (n - uN n z most) c1, .int .i64 0] 96)).heap.size := by simp; omega
  have hq0 := two_cell0 hm4.1
  have hq1 := two_cell1 hm4.1
  clear hsA hb3 hs2
  go_wp2_with (go_at_call 80; refine (fail_b _ _ _ _ _).mono ?_; rintro e wf ⟨rfl, hbf⟩; have hf0 := (hbf.cell (p := ⟨w.heap.size + 1, 0, none⟩) hdz).trans hd0; have hf1 := (hbf.cell (p := ⟨w.heap.size + 1, 1, none⟩) hdz).trans hd1; have hff := fun o => (hbf.frozen (p := ⟨w.heap.size + 1, o, none⟩) hdz).trans (hdf o))
  refine bodyPost_ret (v := .tuple #[.agg #[.slice ad n cap, .int .i64 2], .int .i64 0]) (by simp [results, Tryd.results52, go_sem, hf0, hf1]) rfl ?_
  exact RefPost.err hlc HS.out (((hm4.2.2.trans (hbf.mono (by simp; omega))).setCell (by simp) _).setCell (by simp) _)

set_option maxRecDepth 100000 in
set_option maxHeartbeats 400000 in
theorem refCount_pok (ad : Option Addr) (n cap : Nat) (most : Int) (z : Nat → Int) (w : World) (hlc : n ≤ cap) (hn : n ≤ 140737488351232) (hs : SlAt w ad n z) (hm0 : 0 ≤ most) (_hm1 : most ≤ 9223372036854775807)
    (hE : uE n z most = 0) (hv : 0 ≤ uV n z most) (hl : ¬ ((n - uN n z most : Nat) : Int) < uV n z most) :
    Calls Tryd.prog 52 #[.agg #[.slice ad n cap, .int .i64 0], .int .i64 most] w fun e w' => RefPost w ad n z (uN n z most) 0 (.int .i64 (uV n z most)) e w' := by
  have hs2 : SlAt ((w.alloc (.cells #[.slice ad n cap, .int .i64 0] 96)).alloc (.cells #[.slice none 0 0, .int .i64 0] 96)) ad n z := hs.frm (((Frm.refl [] w).alloc _).alloc _) (by simp)
  have HS : Hid (SlAt w ad n z) := hs
  clear hs
  go_enter Tryd.func52, Tryd.ntmps52
  go_wp2_with fail
  refine (refRdU_any ad n cap most z _ hlc hn hs2).mono ?_
  rintro e w3 ⟨a1, c1, rfl, hc1, hsA, hb3, hsm⟩
  have HSm := hid_mk hsm
  clear hsm
  have HA : Hid (SlAt w a1 (n - uN n z most) (fun j => z (j + uN n z most))) := hsA.strip.strip
  have hm4 := cnt_mid (o3 := (.cells #[.slice a1 (n - uN n z most) c1, .int .i64 0] 96)) hb3
  have hz3 : w.heap.size + 2 ≤ w3.heap.size := by have := hb3.size; simpa using this
  have hd0 := two_cell0 hm4.2.1
  have hd1 := two_cell1 hm4.2.1
  have hdf := two_free hm4.2.1
  have hdz : w.heap.size + 1 < (w3.alloc (.cells #[.slice a1 (n - uN n z most) c1, .int .i64 0] 96)).heap.size := by simp; omega
  have hq0 := two_cell0 hm4.1
  have hq1 := two_cell1 hm4.1
  clear hsA hb3 hs2
  go_wp2
  refine bodyPost_ret (v := .tuple #[.agg #[.slice a1 (n - uN n z most) c1, .int .i64 0], .int .i64 (uV n z most)]) (by simp [results, Tryd.results52, go_sem, hd0, hd1]) rfl ?_
  exact ⟨a1, c1, rfl, hc1, HA.out, (hm4.2.2.setCell (by simp) _).setCell (by simp) _, HSm.out⟩


theorem refCount_any (ad : Option Addr) (n cap : Nat) (most : Int) (z : Nat → Int) (w : World) (hlc : n ≤ cap) (hn : n ≤ 140737488351232) (hs : SlAt w ad n z) (hm : most ≤ 9223372036854775807) :
    Calls Tryd.prog 52 #[.agg #[.slice ad n cap, .int .i64 0], .int .i64 most] w fun e w' => RefPost w ad n z (cN n z most) (cE n z most) (.int .i64 (cV n z most)) e w' := by
  have hv := uV_bd (n := n) (z := z) (max most 0) hs.1
  by_cases hE : uE n z (max most 0) = 0
  · by_cases hl : ((n - uN n z (max most 0) : Nat) : Int) < uV n z (max most 0)
    · have e : cE n z most = 2 := by rw [cE, if_pos hE, if_pos hl]
      rw [cV, cN, e, if_neg (by decide), if_neg (by decide)]
      by_cases h0 : most < 0
      · rw [show max most 0 = 0 from by omega] at *
        exact refCount_nlong ad n cap most z w hlc hn hs h0 hE hl
      · rw [show max most 0 = most from by omega] at *
        exact refCount_plong ad n cap most z w hlc hn hs (by omega) hm hE hl
    · have e : cE n z most = 0 := by rw [cE, if_pos hE, if_neg hl]
      rw [cV, cN, e, if_pos rfl, if_pos rfl]
      by_cases h0 : most < 0
      · rw [show max most 0 = 0 from by omega] at *
        exact refCount_nok ad n cap most z w hlc hn hs h0 hE hv.1 hl
      · rw [show max most 0 = most from by omega] at *
        exact refCount_pok ad n cap most z w hlc hn hs (by omega) hm hE hv.1 hl
  · have e : cE n z most = uE n z (max most 0) := by rw [cE, if_neg hE]
    rw [cV, cN, e, if_neg hE, if_neg hE]
    by_cases h0 : most < 0
    · rw [show max most 0 = 0 from by omega] at *
      exact refCount_nerr ad n cap most z w hlc hn hs h0 (by simp [hE])
    · rw [show max most 0 = most from by omega] at *
      exact refCount_perr ad n cap most z w hlc hn hs (by omega) hm (by simp [hE])
end Go.Proofs.YtchiapnhkhbigaaDoor
