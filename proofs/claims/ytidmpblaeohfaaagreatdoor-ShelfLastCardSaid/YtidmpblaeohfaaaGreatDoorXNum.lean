/- What enc.number answers: the number of so many bytes, or the error. -/
import Derived.Test.YtidmpblaeohfaaaGreatDoorXKit
import Derived.WalkKit
import Derived.WalkSpells
import Derived.WalkLawsBesides
namespace Go.Proofs.YtidmpblaeohfaaaGreatDoor
open Go.RowKit

set_option maxHeartbeats 400000 in
theorem number_short (ad : Option Addr) (len cap : Nat) (k t : Int) (w : World) (h : (len : Int) < k) :
    Calls Tryz.prog 117 #[.slice ad len cap, .int .i64 k, .int .u8 t] w fun e w' => e = .returned (.tuple #[.int .u64 0, .iface 72 (.int .i64 12)]) ∧ w' = w := by
  go_enter Tryz.func117, Tryz.ntmps117
  go_wp2
  go_ret2
  exact ⟨rfl, rfl⟩

set_option maxHeartbeats 400000 in
theorem number_form (b off len cap : Nat) (k : Nat) (t : Int) (z : Nat → Int) (w : World) (hk : k ≤ len) (hk0 : 0 < k) (h0 : (z 0 == t) = true) 
    (hc : w.cell? ⟨b, off, none⟩ = some (.int .u8 (z 0))) :
    Calls Tryz.prog 117 #[.slice (some ⟨b, off, none⟩) len cap, .int .i64 k, .int .u8 t] w fun e w' => e = .returned (.tuple #[.int .u64 0, .iface 72 (.int .i64 3)]) ∧ w' = w := by
  go_enter Tryz.func117, Tryz.ntmps117
  go_wp2
  go_ret2
  exact ⟨rfl, rfl⟩

set_option maxHeartbeats 400000 in
theorem number_none (ad : Option Addr) (len cap : Nat) (t : Int) (w : World) (_hlc : len ≤ cap) :
    Calls Tryz.prog 117 #[.slice ad len cap, .int .i64 0, .int .u8 t] w fun e w' => e = .returned (.tuple #[.int .u64 0, .nilIface]) ∧ w' = w := by
  go_enter Tryz.func117, Tryz.ntmps117
  go_wp2
  refine wp_loop_rounds 1 ?_
  rw [rounds_succ]
  go_wp2
  go_ret2
  exact ⟨rfl, rfl⟩

set_option maxHeartbeats 400000 in
theorem number_more (b off len cap : Nat) (k : Nat) (t : Bool) (tn : Int) (htn : tn = if t then 255 else 0) (z : Nat → Int) (w : World) (hk : k ≤ len) (hk8 : k ≤ 8) (hk0 : 0 < k) (hlc : len ≤ cap) (h0 : (z 0 == tn) = false) 
    (hz : ∀ j, j < k → 0 ≤ z j ∧ z j ≤ 255)
    (hc : ∀ j, j < len → w.cell? ⟨b, off + j, none⟩ = some (.int .u8 (z j))) :
    Calls Tryz.prog 117 #[.slice (some ⟨b, off, none⟩) len cap, .int .i64 k, .int .u8 tn] w fun e w' => e = .returned (.tuple #[.int .u64 (valF (fun j => trn t (z j)) k), .nilIface]) ∧ w' = w := by
  have c0 : w.cell? ⟨b, off, none⟩ = some (.int .u8 (z 0)) := by simpa using hc 0 (by omega)
  have HT : Hid (tn = if t then 255 else 0) := htn
  clear htn
  go_enter Tryz.func117, Tryz.ntmps117
  go_wp2
  go_loop [8, 30] (fun n i => ∃ q : Nat, q ≤ k ∧ i = .int .i64 q ∧ n = .int .u64 (valF (fun j => trn t (z j)) q)) (fun _ i => k - (intOf i).toNat)
  case atStart => exact ⟨0, Nat.zero_le _, rfl, rfl⟩
  case round =>
    obtain ⟨q, hq, rfl, rfl⟩ := hrel
    by_cases hlt : q < k
    · have hcq := hc q (by omega)
      have hzq := hz q hlt
      have hb := valF_lt7 (f := fun j => trn t (z j)) (k := q) (by omega) (fun j hj => trn_bd (hz j (by omega)))
      have HS : Hid (bits .or .u64 (valF (fun j => trn t (z j)) q * 256) (IntKind.u64.wrap (bits .xor .u8 (z q) tn)) = valF (fun j => trn t (z j)) (q + 1)) := by
        show _ = _
        rw [xor_trn t tn (z q) HT.out hzq, shift_or _ _ hb (trn_bd hzq)]
        rfl
      go_wp2
      go_round
      case rel => exact ⟨q + 1, by omega, by go_num, by rw [HS.out]⟩
      case measure => simp [intOf]; omega
    · have : q = k := by omega
      subst this
      go_wp2
      go_ret2
      exact ⟨rfl, rfl⟩

/-- An error of the program's, by its number; 0: none. -/
theorem errV_0 : errV 0 = .nilIface := rfl
theorem errV_3 : errV 3 = .iface 72 (.int .i64 3) := rfl
theorem errV_12 : errV 12 = .iface 72 (.int .i64 12) := rfl

theorem number_any (ad : Option Addr) (n cap k : Nat) (t : Bool) (tn : Int) (z : Nat → Int) (w : World) (htn : tn = if t then 255 else 0) (hk8 : k ≤ 8) (hlc : n ≤ cap) (hs : SlAt w ad n z) :
    Calls Tryz.prog 117 #[.slice ad n cap, .int .i64 k, .int .u8 tn] w fun e w' =>
      e = .returned (.tuple #[.int .u64 (numV n (fun j => trn t (z j)) k), errV (numE n (fun j => trn t (z j)) k)]) ∧ w' = w := by
  obtain ⟨hz, hs⟩ := hs
  by_cases h1 : n < k
  · have e : numE n (fun j => trn t (z j)) k = 12 := by simp [numE, h1]
    rw [numV, e, if_neg (by decide), errV_12]
    exact number_short ad n cap k tn w (by omega)
  · by_cases h2 : k = 0
    · subst h2
      have e : numE n (fun j => trn t (z j)) 0 = 0 := by simp [numE]
      rw [numV, e, if_pos rfl, errV_0]
      exact number_none ad n cap tn w hlc
    · obtain ⟨b, off, rfl, hc⟩ := hs (by omega)
      have hz0 := hz 0 (by omega)
      by_cases h3 : z 0 = tn
      · have e : numE n (fun j => trn t (z j)) k = 3 := by
          have : trn t (z 0) = 0 := by rw [h3, htn]; cases t <;> simp [trn]
          simp [numE, h1, this]; omega
        rw [numV, e, if_neg (by decide), errV_3]
        exact number_form b off n cap k tn z w (by omega) (by omega) (by simp [h3]) (by simpa using hc 0 (by omega))
      · have e : numE n (fun j => trn t (z j)) k = 0 := by
          have : trn t (z 0) ≠ 0 := by
            rw [htn] at h3; cases t <;> simp [trn] at h3 ⊢ <;> omega
          simp [numE, h1, this]
        rw [numV, e, if_pos rfl, errV_0]
        exact number_more b off n cap k t tn htn z w (by omega) hk8 (by omega) hlc (by simp [h3]) (fun j hj => hz j (by omega)) hc

theorem number_int (ad : Option Addr) (n cap : Nat) (k : Int) (t : Bool) (tn : Int) (z : Nat → Int) (w : World) (htn : tn = if t then 255 else 0) (h0 : 0 ≤ k) (h8 : k ≤ 8) (hlc : n ≤ cap) (hs : SlAt w ad n z) :
    Calls Tryz.prog 117 #[.slice ad n cap, .int .i64 k, .int .u8 tn] w fun e w' =>
      e = .returned (.tuple #[.int .u64 (numV n (fun j => trn t (z j)) k.toNat), errV (numE n (fun j => trn t (z j)) k.toNat)]) ∧ w' = w := by
  obtain ⟨q, rfl⟩ := Int.eq_ofNat_of_zero_le h0
  exact number_any ad n cap q t tn z w htn (by omega) hlc hs

end Go.Proofs.YtidmpblaeohfaaaGreatDoor
