/- What (*enc.Reader).Count does. -/
import Derived.Test.YtbfajoeilpkofaaGreatDoorOwnShelf06
namespace Go.Proofs.YtbfajoeilpkofaaGreatDoor
open Go.RowKit

/-- The error of the count that n bytes z begin with, up to a bound; its value; how many bytes it stands on. -/
def cE (n : Nat) (z : Nat → Int) (most : Int) : Int := if uE n z (max most 0) = 0 then (if ((n - uN n z (max most 0) : Nat) : Int) < uV n z (max most 0) then 2 else 0) else uE n z (max most 0)
def cV (n : Nat) (z : Nat → Int) (most : Int) : Int := if cE n z most = 0 then uV n z (max most 0) else 0
def cN (n : Nat) (z : Nat → Int) (most : Int) : Nat := if cE n z most = 0 then uN n z (max most 0) else 0
theorem cE_u {n : Nat} {z : Nat → Int} {most : Int} (h : cE n z most = 0) : uE n z (max most 0) = 0 := by
  unfold cE at h
  split at h
  · assumption
  · exact h
theorem cN_le {n : Nat} {z : Nat → Int} {most : Int} (h : cE n z most = 0) : cN n z most ≤ n := by
  rw [cN, if_pos h]; exact uN_le (cE_u h)
theorem uV_bd {n : Nat} {z : Nat → Int} (most : Int) (hz : ∀ j, j < n → 0 ≤ z j ∧ z j ≤ 255) : 0 ≤ uV n z most ∧ uV n z most ≤ 18446744073709551615 := by
  unfold uV
  split
  · rename_i h
    by_cases hn : n = 0
    · subst hn; simp [uE] at h
    · have h0 := hz 0 (by omega)
      have h8 : z 0 ≤ 8 := by
        unfold uE at h
        rw [if_neg hn] at h
        split at h
        · simp at h
        · omega
      exact numV_bd (by omega) (fun j hj => by unfold behind; exact trn_bd (hz _ (by omega)))
  · simp

set_option maxHeartbeats 400000 in
theorem frontCount_nerr (ad : Option Addr) (n cap : Nat) (most : Int) (z : Nat → Int) (w : World) (hlc : n ≤ cap) (hs : SlAt w ad n z) (hm0 : most < 0)
    (er : Int) (hE : errV (uE n z 0) = .iface 72 (.int .i64 er)) :
    Calls Tryz.prog 93 #[.slice ad n cap, .int .i64 most] w fun e w' => e = .returned (.tuple #[.int .i64 0, .int .i64 0, .iface 72 (.int .i64 er)]) ∧ ∃ q, w' = w.drewN q := by
  have hmx : max most 0 = 0 := by omega
  go_enter Tryz.func93, Tryz.ntmps93
  go_wp2_with (go_at_call 96; refine (frontUint_any _ _ _ _ z _ hlc hs).mono ?_; rintro e w1 ⟨rfl, q, rfl⟩)
  go_ret3
  exact ⟨rfl, _, rfl⟩

set_option maxHeartbeats 400000 in
theorem frontCount_nlong (ad : Option Addr) (n cap : Nat) (most : Int) (z : Nat → Int) (w : World) (hlc : n ≤ cap) (hs : SlAt w ad n z) (hm0 : most < 0)
    (hE : errV (uE n z 0) = .nilIface) (hk : uN n z 0 ≤ n) (hn : n ≤ 140737488351232) (hl : ((n : Int) - (uN n z 0 : Int)) < uV n z 0) :
    Calls Tryz.prog 93 #[.slice ad n cap, .int .i64 most] w fun e w' => e = .returned (.tuple #[.int .i64 0, .int .i64 0, .iface 72 (.int .i64 2)]) ∧ ∃ q, w' = w.drewN q := by
  have hmx : max most 0 = 0 := by omega
  go_enter Tryz.func93, Tryz.ntmps93
  go_wp2_with (go_at_call 96; refine (frontUint_any _ _ _ _ z _ hlc hs).mono ?_; rintro e w1 ⟨rfl, q, rfl⟩)
  go_ret3
  exact ⟨rfl, _, rfl⟩

set_option maxHeartbeats 400000 in
theorem frontCount_nok (ad : Option Addr) (n cap : Nat) (most : Int) (z : Nat → Int) (w : World) (hlc : n ≤ cap) (hs : SlAt w ad n z) (hm0 : most < 0)
    (hE : errV (uE n z 0) = .nilIface) (hk : uN n z 0 ≤ n) (hn : n ≤ 140737488351232) (hv : 0 ≤ uV n z 0) (hl : ¬ ((n : Int) - (uN n z 0 : Int)) < uV n z 0) :
    Calls Tryz.prog 93 #[.slice ad n cap, .int .i64 most] w fun e w' => e = .returned (.tuple #[.int .i64 (uV n z 0), .int .i64 (uN n z 0), .nilIface]) ∧ ∃ q, w' = w.drewN q := by
  have hmx : max most 0 = 0 := by omega
  go_enter Tryz.func93, Tryz.ntmps93
  go_wp2_with (go_at_call 96; refine (frontUint_any _ _ _ _ z _ hlc hs).mono ?_; rintro e w1 ⟨rfl, q, rfl⟩)
  go_ret3
  exact ⟨rfl, _, rfl⟩

set_option maxHeartbeats 400000 in
theorem frontCount_perr (ad : Option Addr) (n cap : Nat) (most : Int) (z : Nat → Int) (w : World) (hlc : n ≤ cap) (hs : SlAt w ad n z) (hm0 : 0 ≤ most) (_hm1 : most ≤ 9223372036854775807)
    (er : Int) (hE : errV (uE n z most) = .iface 72 (.int .i64 er)) :
    Calls Tryz.prog 93 #[.slice ad n cap, .int .i64 most] w fun e w' => e = .returned (.tuple #[.int .i64 0, .int .i64 0, .iface 72 (.int .i64 er)]) ∧ ∃ q, w' = w.drewN q := by
  have hmx : max most 0 = most := by omega
  go_enter Tryz.func93, Tryz.ntmps93
  go_wp2_with (go_at_call 96; refine (frontUint_any _ _ _ _ z _ hlc hs).mono ?_; rintro e w1 ⟨rfl, q, rfl⟩)
  go_ret3
  exact ⟨rfl, _, rfl⟩

set_option maxHeartbeats 400000 in
theorem frontCount_plong (ad : Option Addr) (n cap : Nat) (most : Int) (z : Nat → Int) (w : World) (hlc : n ≤ cap) (hs : SlAt w ad n z) (hm0 : 0 ≤ most) (_hm1 : most ≤ 9223372036854775807)
    (hE : errV (uE n z most) = .nilIface) (hk : uN n z most ≤ n) (hn : n ≤ 140737488351232) (hl : ((n : Int) - (uN n z most : Int)) < uV n z most) :
    Calls Tryz.prog 93 #[.slice ad n cap, .int .i64 most] w fun e w' => e = .returned (.tuple #[.int .i64 0, .int .i64 0, .iface 72 (.int .i64 2)]) ∧ ∃ q, w' = w.drewN q := by
  have hmx : max most 0 = most := by omega
  go_enter Tryz.func93, Tryz.ntmps93
  go_wp2_with (go_at_call 96; refine (frontUint_any _ _ _ _ z _ hlc hs).mono ?_; rintro e w1 ⟨rfl, q, rfl⟩)
  go_ret3
  exact ⟨rfl, _, rfl⟩

set_option maxHeartbeats 400000 in
theorem frontCount_pok (ad : Option Addr) (n cap : Nat) (most : Int) (z : Nat → Int) (w : World) (hlc : n ≤ cap) (hs : SlAt w ad n z) (hm0 : 0 ≤ most) (_hm1 : most ≤ 9223372036854775807)
    (hE : errV (uE n z most) = .nilIface) (hk : uN n z most ≤ n) (hn : n ≤ 140737488351232) (hv : 0 ≤ uV n z most) (hl : ¬ ((n : Int) - (uN n z most : Int)) < uV n z most) :
    Calls Tryz.prog 93 #[.slice ad n cap, .int .i64 most] w fun e w' => e = .returned (.tuple #[.int .i64 (uV n z most), .int .i64 (uN n z most), .nilIface]) ∧ ∃ q, w' = w.drewN q := by
  have hmx : max most 0 = most := by omega
  go_enter Tryz.func93, Tryz.ntmps93
  go_wp2_with (go_at_call 96; refine (frontUint_any _ _ _ _ z _ hlc hs).mono ?_; rintro e w1 ⟨rfl, q, rfl⟩)
  go_ret3
  exact ⟨rfl, _, rfl⟩


theorem errV_2c : errV 2 = .iface 72 (.int .i64 2) := rfl

theorem frontCount_any (ad : Option Addr) (n cap : Nat) (most : Int) (z : Nat → Int) (w : World) (hlc : n ≤ cap) (hn : n ≤ 140737488351232) (hs : SlAt w ad n z) (hm : most ≤ 9223372036854775807) :
    Calls Tryz.prog 93 #[.slice ad n cap, .int .i64 most] w fun e w' => e = .returned (.tuple #[.int .i64 (cV n z most), .int .i64 (cN n z most), errV (cE n z most)]) ∧ ∃ q, w' = w.drewN q := by
  have hv := uV_bd (n := n) (z := z) (max most 0) hs.1
  by_cases hE : uE n z (max most 0) = 0
  · have hk := uN_le hE
    by_cases hl : ((n - uN n z (max most 0) : Nat) : Int) < uV n z (max most 0)
    · have e : cE n z most = 2 := by rw [cE, if_pos hE, if_pos hl]
      rw [cV, cN, e, if_neg (by decide), if_neg (by decide), errV_2c]
      by_cases h0 : most < 0
      · rw [show max most 0 = 0 from by omega] at *
        exact frontCount_nlong ad n cap most z w hlc hs h0 (by rw [hE, errV_0]) hk hn (by omega)
      · rw [show max most 0 = most from by omega] at *
        exact frontCount_plong ad n cap most z w hlc hs (by omega) hm (by rw [hE, errV_0]) hk hn (by omega)
    · have e : cE n z most = 0 := by rw [cE, if_pos hE, if_neg hl]
      rw [cV, cN, e, if_pos rfl, if_pos rfl, errV_0]
      by_cases h0 : most < 0
      · rw [show max most 0 = 0 from by omega] at *
        exact frontCount_nok ad n cap most z w hlc hs h0 (by rw [hE, errV_0]) hk hn hv.1 (by omega)
      · rw [show max most 0 = most from by omega] at *
        exact frontCount_pok ad n cap most z w hlc hs (by omega) hm (by rw [hE, errV_0]) hk hn hv.1 (by omega)
  · have e : cE n z most = uE n z (max most 0) := by rw [cE, if_neg hE]
    rw [cV, cN, e, if_neg hE, if_neg hE]
    by_cases h0 : most < 0
    · rw [show max most 0 = 0 from by omega] at *
      rw [errV_ne hE]
      exact frontCount_nerr ad n cap most z w hlc hs h0 _ (errV_ne hE)
    · rw [show max most 0 = most from by omega] at *
      rw [errV_ne hE]
      exact frontCount_perr ad n cap most z w hlc hs (by omega) hm _ (errV_ne hE)

set_option maxHeartbeats 400000 in
theorem rdCount_err (rb n cap : Nat) (ad : Option Addr) (z : Nat → Int) (er most : Int) (w : World) (h0 : w.cell? ⟨rb, 0, none⟩ = some (.slice ad n cap)) (h1 : w.cell? ⟨rb, 1, none⟩ = some .nilIface) (hf : w.frozen? ⟨rb, 1, none⟩ = false)
    (hlc : n ≤ cap) (hn : n ≤ 140737488351232) (hm : most ≤ 9223372036854775807) (hs : SlAt w ad n z) (hE : errV (cE n z most) = .iface 72 (.int .i64 er)) :
    Calls Tryz.prog 60 #[.pointer (some ⟨rb, 0, none⟩), .int .i64 most] w fun e w' =>
      e = .returned (.int .i64 0) ∧ ∃ q, w' = ((w.alloc (.cells #[.int .i64 most] 3)).drewN q).setCell ⟨rb, 1, none⟩ (.iface 72 (.int .i64 er)) := by
  have hs1 : SlAt (w.alloc (.cells #[.int .i64 most] 3)) ad n z := hs.frm ((Frm.refl [] w).alloc _) (by simp)
  have hlt : rb < w.heap.size := World.block_lt_of_cell? w ⟨rb, 0, none⟩ h0
  have HM : Hid (most ≤ 9223372036854775807) := hm
  clear hm
  go_enter Tryz.func60, Tryz.ntmps60
  go_wp2_with (first | (go_at_call 93; refine (frontCount_any _ _ _ most z _ hlc hn hs1 HM.out).mono ?_; rintro e w' ⟨rfl, q, rfl⟩) | go_in)
  go_ret3
  go_wp2
  go_ret
  exact ⟨rfl, q, rfl⟩

set_option maxHeartbeats 400000 in
theorem rdCount_ok (rb n cap k : Nat) (ad : Option Addr) (z : Nat → Int) (most : Int) (w : World) (h0 : w.cell? ⟨rb, 0, none⟩ = some (.slice ad n cap)) (h1 : w.cell? ⟨rb, 1, none⟩ = some .nilIface) (hf : w.frozen? ⟨rb, 0, none⟩ = false)
    (hlc : n ≤ cap) (hn : n ≤ 140737488351232) (hm : most ≤ 9223372036854775807) (hs : SlAt w ad n z) (hE : errV (cE n z most) = .nilIface) (hk : cN n z most = k) (hkn : k ≤ n) :
    Calls Tryz.prog 60 #[.pointer (some ⟨rb, 0, none⟩), .int .i64 most] w fun e w' =>
      e = .returned (.int .i64 (cV n z most)) ∧ Took (w.alloc (.cells #[.int .i64 most] 3)) w' rb n cap k ad := by
  have hs1 : SlAt (w.alloc (.cells #[.int .i64 most] 3)) ad n z := hs.frm ((Frm.refl [] w).alloc _) (by simp)
  have hlt : rb < w.heap.size := World.block_lt_of_cell? w ⟨rb, 0, none⟩ h0
  have hkn1 : (k : Int) ≤ (n : Int) := by omega
  have hlc1 : (n : Int) ≤ (cap : Int) := by omega
  have hk0 : (0 : Int) ≤ (k : Int) := by omega
  have HM : Hid (most ≤ 9223372036854775807) := hm
  clear hm
  go_enter Tryz.func60, Tryz.ntmps60
  go_wp2_with (first | (go_at_call 93; refine (frontCount_any _ _ _ most z _ hlc hn hs1 HM.out).mono ?_; rintro e w' ⟨rfl, q, rfl⟩) | go_in)
  go_ret3
  go_wp2
  · subst h
    go_ret
    exact ⟨rfl, Took.all _ _ _ _ _ _⟩
  · go_ret
    exact ⟨rfl, Took.some _ _ _ _ _ _ _⟩

theorem rdCount_any (rb n : Nat) (z : Nat → Int) (most : Int) (w : World) (hn : n ≤ 140737488351232) (hm : most ≤ 9223372036854775807) (h : RdAt w rb n z 0) :
    Calls Tryz.prog 60 #[.pointer (some ⟨rb, 0, none⟩), .int .i64 most] w fun e w' =>
      e = .returned (.int .i64 (cV n z most)) ∧ Frm [rb] w w' ∧ RdAt w' rb (n - cN n z most) (fun j => z (j + cN n z most)) (cE n z most) := by
  obtain ⟨ad, cap, hr, hlc, hs, hlb⟩ := h
  by_cases hE : cE n z most = 0
  · have hk : cN n z most ≤ n := cN_le hE
    refine (rdCount_ok rb n cap (cN n z most) ad z most w (two_cell0 hr) (two_cell1 hr) (two_free hr 0) hlc hn hm hs (by rw [hE]; rfl) rfl hk).mono ?_
    rintro e w' ⟨rfl, ht⟩
    rw [hE]
    have := ht.rd hr hlc hs hlb hk ((Frm.refl [] w).alloc _)
    exact ⟨rfl, this.2, this.1⟩
  · have hN : cN n z most = 0 := by simp [cN, hE]
    have hV : cV n z most = 0 := by simp [cV, hE]
    refine (rdCount_err rb n cap ad z (cE n z most) most w (two_cell0 hr) (two_cell1 hr) (two_free hr 1) hlc hn hm hs (errV_ne hE)).mono ?_
    rintro e w' ⟨rfl, q, rfl⟩
    rw [hN, hV, ← errV_ne hE]
    have := RdAt.fail (er := cE n z most) hr hlc hs hlb (((Frm.refl [] w).alloc (.cells #[.int .i64 most] 3)).drewN q)
    exact ⟨rfl, this.2, this.1⟩
end Go.Proofs.YtbfajoeilpkofaaGreatDoor
