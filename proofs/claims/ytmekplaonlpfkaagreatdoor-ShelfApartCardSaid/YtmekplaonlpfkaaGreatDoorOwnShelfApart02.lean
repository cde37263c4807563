/- What enc.frontUint and enc.frontInt answer. -/
import Derived.Test.YtmekplaonlpfkaaGreatDoorOwnShelfApart01
import Derived.Deep.QuietTactic
import Derived.BigQuiet
import Derived.Test.YtmekplaonlpfkaaGreatDoorProg
import Derived.Lib.Strings
import Derived.Lib.Slices
import Derived.Lib.Small
import Derived.Lib.Walk
import Derived.Lib.BitFns
import Derived.Deep.RegionLaw
import Derived.Deep.AppendLies
import Derived.Deep.DrawnRows
namespace Go.Proofs.YtmekplaonlpfkaaGreatDoor
open Go.RowKit

theorem errV_4 : errV 4 = .iface 72 (.int .i64 4) := rfl

set_option maxHeartbeats 400000 in
theorem frontUint_nil (ad : Option Addr) (cap : Nat) (most : Int) (w : World) :
    Calls Tryz.prog 96 #[.slice ad 0 cap, .int .u64 most] w fun e w' =>
      e = .returned (.tuple #[.int .u64 0, .int .i64 0, .iface 72 (.int .i64 12)]) ∧ w' = w := by
  go_enter Tryz.func96, Tryz.ntmps96
  go_wp2
  go_ret3
  exact ⟨rfl, rfl⟩

set_option maxHeartbeats 400000 in
theorem frontUint_wide (b off n cap : Nat) (most : Int) (z : Nat → Int) (w : World) (hn : 0 < n) (hc : w.cell? ⟨b, off, none⟩ = some (.int .u8 (z 0))) (h8 : 8 < z 0) :
    Calls Tryz.prog 96 #[.slice (some ⟨b, off, none⟩) n cap, .int .u64 most] w fun e w' =>
      e = .returned (.tuple #[.int .u64 0, .int .i64 0, .iface 72 (.int .i64 3)]) ∧ w' = w := by
  go_enter Tryz.func96, Tryz.ntmps96
  go_wp2
  go_ret3
  exact ⟨rfl, rfl⟩

set_option maxHeartbeats 400000 in
theorem frontUint_err (b off n cap : Nat) (most : Int) (z : Nat → Int) (w : World) (hn : 0 < n) (hlc : n ≤ cap) (hz : ∀ j, j < n → 0 ≤ z j ∧ z j ≤ 255) (hc : ∀ j, j < n → w.cell? ⟨b, off + j, none⟩ = some (.int .u8 (z j))) (h8 : z 0 ≤ 8)
    (er : Int) (hE : errV (numE (n - 1) (fun j => trn false (z (j + 1))) (z 0).toNat) = .iface 72 (.int .i64 er)) :
    Calls Tryz.prog 96 #[.slice (some ⟨b, off, none⟩) n cap, .int .u64 most] w fun e w' =>
      e = .returned (.tuple #[.int .u64 0, .int .i64 0, .iface 72 (.int .i64 er)]) ∧ ∃ q, w' = w.drewN q := by
  have c0 : w.cell? ⟨b, off, none⟩ = some (.int .u8 (z 0)) := by simpa using hc 0 hn
  have hz0 := hz 0 hn
  have hn1 : (1 : Int) ≤ (n : Int) := by omega
  have hnc : (n : Int) ≤ (cap : Int) := by omega
  have hs := SlAt.tail hz hc hlc
  clear hc hz
  go_enter Tryz.func96, Tryz.ntmps96
  go_wp2_with fail
  go_quiet ((go_at_call 117; exact Calls.quiet_of_same (number_int _ _ _ (z 0) false 0 (fun j => z (j + 1)) _ rfl hz0.1 h8 (by omega) (hs.drewN _))))
  go_wp2
  all_goals (go_ret3; exact ⟨rfl, _, rfl⟩)

set_option maxHeartbeats 400000 in
theorem frontUint_range (b off n cap : Nat) (most : Int) (z : Nat → Int) (w : World) (hn : 0 < n) (hlc : n ≤ cap) (hz : ∀ j, j < n → 0 ≤ z j ∧ z j ≤ 255) (hc : ∀ j, j < n → w.cell? ⟨b, off + j, none⟩ = some (.int .u8 (z j))) (h8 : z 0 ≤ 8)
    (hE : errV (numE (n - 1) (fun j => trn false (z (j + 1))) (z 0).toNat) = .nilIface) (hm : most < numV (n - 1) (fun j => trn false (z (j + 1))) (z 0).toNat) :
    Calls Tryz.prog 96 #[.slice (some ⟨b, off, none⟩) n cap, .int .u64 most] w fun e w' =>
      e = .returned (.tuple #[.int .u64 0, .int .i64 0, .iface 72 (.int .i64 4)]) ∧ ∃ q, w' = w.drewN q := by
  have c0 : w.cell? ⟨b, off, none⟩ = some (.int .u8 (z 0)) := by simpa using hc 0 hn
  have hz0 := hz 0 hn
  have hn1 : (1 : Int) ≤ (n : Int) := by omega
  have hnc : (n : Int) ≤ (cap : Int) := by omega
  have hs := SlAt.tail hz hc hlc
  clear hc hz
  go_enter Tryz.func96, Tryz.ntmps96
  go_wp2_with fail
  go_quiet ((go_at_call 117; exact Calls.quiet_of_same (number_int _ _ _ (z 0) false 0 (fun j => z (j + 1)) _ rfl hz0.1 h8 (by omega) (hs.drewN _))))
  go_wp2
  all_goals (go_ret3; exact ⟨rfl, _, rfl⟩)

set_option maxHeartbeats 400000 in
theorem frontUint_ok (b off n cap : Nat) (most : Int) (z : Nat → Int) (w : World) (hn : 0 < n) (hlc : n ≤ cap) (hz : ∀ j, j < n → 0 ≤ z j ∧ z j ≤ 255) (hc : ∀ j, j < n → w.cell? ⟨b, off + j, none⟩ = some (.int .u8 (z j))) (h8 : z 0 ≤ 8)
    (hE : errV (numE (n - 1) (fun j => trn false (z (j + 1))) (z 0).toNat) = .nilIface) (hm : ¬ most < numV (n - 1) (fun j => trn false (z (j + 1))) (z 0).toNat) :
    Calls Tryz.prog 96 #[.slice (some ⟨b, off, none⟩) n cap, .int .u64 most] w fun e w' =>
      e = .returned (.tuple #[.int .u64 (numV (n - 1) (fun j => trn false (z (j + 1))) (z 0).toNat), .int .i64 (1 + z 0), .nilIface]) ∧ ∃ q, w' = w.drewN q := by
  have c0 : w.cell? ⟨b, off, none⟩ = some (.int .u8 (z 0)) := by simpa using hc 0 hn
  have hz0 := hz 0 hn
  have hn1 : (1 : Int) ≤ (n : Int) := by omega
  have hnc : (n : Int) ≤ (cap : Int) := by omega
  have hs := SlAt.tail hz hc hlc
  clear hc hz
  go_enter Tryz.func96, Tryz.ntmps96
  go_wp2_with fail
  go_quiet ((go_at_call 117; exact Calls.quiet_of_same (number_int _ _ _ (z 0) false 0 (fun j => z (j + 1)) _ rfl hz0.1 h8 (by omega) (hs.drewN _))))
  go_wp2
  all_goals (go_quiet (fail); go_wp2; go_ret3; exact ⟨rfl, _, World.drewN_drewN _ _ _⟩)


theorem frontUint_any (ad : Option Addr) (n cap : Nat) (most : Int) (z : Nat → Int) (w : World) (hlc : n ≤ cap) (hs : SlAt w ad n z) :
    Calls Tryz.prog 96 #[.slice ad n cap, .int .u64 most] w fun e w' =>
      e = .returned (.tuple #[.int .u64 (uV n z most), .int .i64 (uN n z most), errV (uE n z most)]) ∧ ∃ q, w' = w.drewN q := by
  obtain ⟨hz, hs⟩ := hs
  by_cases hn : n = 0
  · subst hn
    have e : uE 0 z most = 12 := by simp [uE]
    rw [uV, uN, e, if_neg (by decide), if_neg (by decide), errV_12]
    exact (frontUint_nil ad cap most w).mono fun e w' ⟨h1, h2⟩ => ⟨h1, 0, h2⟩
  · obtain ⟨b, off, rfl, hc⟩ := hs (by omega)
    by_cases h8 : 8 < z 0
    · have e : uE n z most = 3 := by simp [uE, hn, h8]
      rw [uV, uN, e, if_neg (by decide), if_neg (by decide), errV_3]
      exact (frontUint_wide b off n cap most z w (by omega) (by simpa using hc 0 (by omega)) h8).mono fun e w' ⟨h1, h2⟩ => ⟨h1, 0, h2⟩
    · have hz0 := hz 0 (by omega)
      rcases numE_cases (n - 1) (behind false z) (z 0).toNat with hE | hE | hE
      · by_cases hm : most < numV (n - 1) (behind false z) (z 0).toNat
        · have e : uE n z most = 4 := by simp [uE, hn, h8, hE, hm]
          rw [uV, uN, e, if_neg (by decide), if_neg (by decide), errV_4]
          exact frontUint_range b off n cap most z w (by omega) hlc hz hc (by omega) (by show errV (numE (n - 1) (behind false z) (z 0).toNat) = _; rw [hE, errV_0]) hm
        · have e : uE n z most = 0 := by simp [uE, hn, h8, hE, hm]
          rw [uV, uN, e, if_pos rfl, if_pos rfl, errV_0]
          have hw : ((1 + (z 0).toNat : Nat) : Int) = 1 + z 0 := by omega
          rw [hw]
          exact frontUint_ok b off n cap most z w (by omega) hlc hz hc (by omega) (by show errV (numE (n - 1) (behind false z) (z 0).toNat) = _; rw [hE, errV_0]) hm
      · have e : uE n z most = 3 := by simp [uE, hn, h8, hE]
        rw [uV, uN, e, if_neg (by decide), if_neg (by decide), errV_3]
        exact frontUint_err b off n cap most z w (by omega) hlc hz hc (by omega) 3 (by show errV (numE (n - 1) (behind false z) (z 0).toNat) = _; rw [hE, errV_3])
      · have e : uE n z most = 12 := by simp [uE, hn, h8, hE]
        rw [uV, uN, e, if_neg (by decide), if_neg (by decide), errV_12]
        exact frontUint_err b off n cap most z w (by omega) hlc hz hc (by omega) 12 (by show errV (numE (n - 1) (behind false z) (z 0).toNat) = _; rw [hE, errV_12])

end Go.Proofs.YtmekplaonlpfkaaGreatDoor
/- What (*enc.Reader).Int and (*enc.Reader).Uint do: the value, what is left, the first error. -/
namespace Go.Proofs.YtmekplaonlpfkaaGreatDoor
open Go.RowKit

/-- A reader at block rb: n bytes z are left, er is the number of its first error (0: none). -/
def RdAt (w : World) (rb n : Nat) (z : Nat → Int) (er : Int) : Prop :=
  ∃ ad cap, w.heap[rb]? = some (.cells #[.slice ad n cap, errV er] 165 (0, 0)) ∧ n ≤ cap ∧ SlAt w ad n z ∧ ∀ b off, 0 < n → ad = some ⟨b, off, none⟩ → b < rb


theorem RdAt.fail {w w1 : World} {rb n cap : Nat} {z : Nat → Int} {er : Int} {ad : Option Addr} (hr : w.heap[rb]? = some (.cells #[.slice ad n cap, errV 0] 165 (0, 0))) (hlc : n ≤ cap) (hs : SlAt w ad n z) (hlb : ∀ b off, 0 < n → ad = some ⟨b, off, none⟩ → b < rb)
    (hf : Frm [] w w1) : RdAt (w1.setCell ⟨rb, 1, none⟩ (errV er)) rb n z er ∧ Frm [rb] w (w1.setCell ⟨rb, 1, none⟩ (errV er)) := by
  have hF : Frm [rb] w (w1.setCell ⟨rb, 1, none⟩ (errV er)) := (hf.mono (fun _ h => by cases h)).setCell _ _ (by simp)
  refine ⟨⟨ad, cap, two_set1 (hf.heap hr (by simp)), hlc, (hs.frm hF fun b off hn e => ?_), hlb⟩, hF⟩
  have := hs.ne_two hr hn e
  simpa using this

theorem RdAt.took {w w1 : World} {rb n cap k : Nat} {z : Nat → Int} {ad ad' : Option Addr} (hr : w.heap[rb]? = some (.cells #[.slice ad n cap, errV 0] 165 (0, 0))) (hlc : n ≤ cap)
    (hs' : SlAt w ad' (n - k) (fun j => z (j + k))) (hlb : ∀ b off, 0 < n - k → ad' = some ⟨b, off, none⟩ → b < rb)
    (hf : Frm [] w w1) : RdAt (w1.setCell ⟨rb, 0, none⟩ (.slice ad' (n - k) (cap - k))) rb (n - k) (fun j => z (j + k)) 0 ∧ Frm [rb] w (w1.setCell ⟨rb, 0, none⟩ (.slice ad' (n - k) (cap - k))) := by
  have hF : Frm [rb] w (w1.setCell ⟨rb, 0, none⟩ (.slice ad' (n - k) (cap - k))) := (hf.mono (fun _ h => by cases h)).setCell _ _ (by simp)
  refine ⟨⟨ad', cap - k, two_set0 (hf.heap hr (by simp)), by omega, (hs'.frm hF fun b off hn e => ?_), hlb⟩, hF⟩
  have := hs'.ne_two hr hn e
  simpa using this

/-- What a reader has left behind k bytes that were taken off. -/
def Took (w w' : World) (rb n cap k : Nat) (ad : Option Addr) : Prop :=
  ∃ ad' q, (ad' = ad ∧ cap = k ∨ ad' = Option.map (fun x => x.add k) ad) ∧ w' = (w.drewN q).setCell ⟨rb, 0, none⟩ (.slice ad' (n - k) (cap - k))
theorem Took.all (w : World) (rb n cap q : Nat) (ad : Option Addr) : Took w ((w.drewN q).setCell ⟨rb, 0, none⟩ (.slice ad (n - cap) 0)) rb n cap cap ad := ⟨ad, q, .inl ⟨rfl, rfl⟩, by simp⟩
theorem Took.some (w : World) (rb n cap k q : Nat) (ad : Option Addr) : Took w ((w.drewN q).setCell ⟨rb, 0, none⟩ (.slice (Option.map (fun x => x.add k) ad) (n - k) (cap - k))) rb n cap k ad := ⟨_, q, .inr rfl, rfl⟩
theorem Took.rd {w0 w w' : World} {rb n cap k : Nat} {ad : Option Addr} {z : Nat → Int} (h : Took w w' rb n cap k ad) (hr : w0.heap[rb]? = Option.some (.cells #[.slice ad n cap, errV 0] 165 (0, 0))) (hlc : n ≤ cap) (hs : SlAt w0 ad n z) (hlb : ∀ b off, 0 < n → ad = Option.some ⟨b, off, none⟩ → b < rb) (hkn : k ≤ n) (hf : Frm [] w0 w) :
    RdAt w' rb (n - k) (fun j => z (j + k)) 0 ∧ Frm [rb] w0 w' := by
  obtain ⟨ad', q, he, rfl⟩ := h
  have hs' : SlAt w0 ad' (n - k) (fun j => z (j + k)) := by
    rcases he with ⟨rfl, hc⟩ | rfl
    · rw [show n - k = 0 from by omega]; exact SlAt.zero _ _
    · exact hs.drop
  refine RdAt.took hr hlc hs' (fun b off hn e => ?_) (hf.drewN q)
  rcases he with ⟨rfl, hc⟩ | rfl
  · exact hlb b off (by omega) e
  · obtain ⟨b0, off0, e0, _⟩ := hs.2 (by omega)
    subst e0
    have hbk : ((⟨b0, off0, none⟩ : Addr).add k).block = b0 := by rw [Addr.add_lit]
    simp only [Option.map_some, Option.some.injEq] at e
    have : b = b0 := by rw [← hbk, e]
    subst this
    exact hlb b off0 (by omega) rfl

set_option maxHeartbeats 400000 in
theorem rdUint_err (rb n cap : Nat) (ad : Option Addr) (z : Nat → Int) (er most : Int) (w : World) (h0 : w.cell? ⟨rb, 0, none⟩ = some (.slice ad n cap)) (h1 : w.cell? ⟨rb, 1, none⟩ = some .nilIface) (hf : w.frozen? ⟨rb, 1, none⟩ = false)
    (hlc : n ≤ cap) (hs : SlAt w ad n z) (hE : errV (uE n z most) = .iface 72 (.int .i64 er)) :
    Calls Tryz.prog 61 #[.pointer (some ⟨rb, 0, none⟩), .int .u64 most] w fun e w' =>
      e = .returned (.int .u64 0) ∧ ∃ q, w' = ((w.alloc (.cells #[.int .u64 most] 92)).drewN q).setCell ⟨rb, 1, none⟩ (.iface 72 (.int .i64 er)) := by
  have hs1 : SlAt (w.alloc (.cells #[.int .u64 most] 92)) ad n z := hs.frm ((Frm.refl [] w).alloc _) (by simp)
  have hlt : rb < w.heap.size := World.block_lt_of_cell? w ⟨rb, 0, none⟩ h0
  go_enter Tryz.func61, Tryz.ntmps61
  go_wp2_with (first | (go_at_call 96; refine (frontUint_any _ _ _ most z _ hlc hs1).mono ?_; rintro e w' ⟨rfl, q, rfl⟩) | go_in)
  go_ret3
  go_wp2
  go_ret
  exact ⟨rfl, q, rfl⟩

set_option maxHeartbeats 400000 in
theorem rdUint_ok (rb n cap k : Nat) (ad : Option Addr) (z : Nat → Int) (most : Int) (w : World) (h0 : w.cell? ⟨rb, 0, none⟩ = some (.slice ad n cap)) (h1 : w.cell? ⟨rb, 1, none⟩ = some .nilIface) (hf : w.frozen? ⟨rb, 0, none⟩ = false)
    (hlc : n ≤ cap) (hs : SlAt w ad n z) (hE : errV (uE n z most) = .nilIface) (hk : uN n z most = k) (hkn : k ≤ n) :
    Calls Tryz.prog 61 #[.pointer (some ⟨rb, 0, none⟩), .int .u64 most] w fun e w' =>
      e = .returned (.int .u64 (uV n z most)) ∧ Took (w.alloc (.cells #[.int .u64 most] 92)) w' rb n cap k ad := by
  have hs1 : SlAt (w.alloc (.cells #[.int .u64 most] 92)) ad n z := hs.frm ((Frm.refl [] w).alloc _) (by simp)
  have hlt : rb < w.heap.size := World.block_lt_of_cell? w ⟨rb, 0, none⟩ h0
  have hkn1 : (k : Int) ≤ (n : Int) := by omega
  have hlc1 : (n : Int) ≤ (cap : Int) := by omega
  have hk0 : (0 : Int) ≤ (k : Int) := by omega
  go_enter Tryz.func61, Tryz.ntmps61
  go_wp2_with (first | (go_at_call 96; refine (frontUint_any _ _ _ most z _ hlc hs1).mono ?_; rintro e w' ⟨rfl, q, rfl⟩) | go_in)
  go_ret3
  go_wp2
  · subst h
    go_ret
    exact ⟨rfl, Took.all _ _ _ _ _ _⟩
  · go_ret
    exact ⟨rfl, Took.some _ _ _ _ _ _ _⟩

theorem rdUint_any (rb n : Nat) (z : Nat → Int) (most : Int) (w : World) (h : RdAt w rb n z 0) :
    Calls Tryz.prog 61 #[.pointer (some ⟨rb, 0, none⟩), .int .u64 most] w fun e w' =>
      e = .returned (.int .u64 (uV n z most)) ∧ Frm [rb] w w' ∧ RdAt w' rb (n - uN n z most) (fun j => z (j + uN n z most)) (uE n z most) := by
  obtain ⟨ad, cap, hr, hlc, hs, hlb⟩ := h
  by_cases hE : uE n z most = 0
  · have hk : uN n z most ≤ n := uN_le hE
    refine (rdUint_ok rb n cap (uN n z most) ad z most w (two_cell0 hr) (two_cell1 hr) (two_free hr 0) hlc hs (by rw [hE]; rfl) rfl hk).mono ?_
    rintro e w' ⟨rfl, ht⟩
    rw [hE]
    have := ht.rd hr hlc hs hlb hk ((Frm.refl [] w).alloc _)
    exact ⟨rfl, this.2, this.1⟩
  · have hN : uN n z most = 0 := by simp [uN, hE]
    have hV : uV n z most = 0 := by simp [uV, hE]
    refine (rdUint_err rb n cap ad z (uE n z most) most w (two_cell0 hr) (two_cell1 hr) (two_free hr 1) hlc hs (errV_ne hE)).mono ?_
    rintro e w' ⟨rfl, q, rfl⟩
    rw [hN, hV, ← errV_ne hE]
    have := RdAt.fail (er := uE n z most) hr hlc hs hlb (((Frm.refl [] w).alloc (.cells #[.int .u64 most] 92)).drewN q)
    exact ⟨rfl, this.2, this.1⟩
end Go.Proofs.YtmekplaonlpfkaaGreatDoor
/- What (*enc.Reader).Count does. -/
namespace Go.Proofs.YtmekplaonlpfkaaGreatDoor
open Go.RowKit

/-- The error of the count that n bytes z begin with, up to a bound; its value; how many bytes it stands on. -/
def cE (n : Nat) (z : Nat → Int) (most : Int) : Int := if uE n z (max most 0) = 0 then (if ((n - uN n z (max most 0) : Nat) : Int) < uV n z (max most 0) then 2 else 0) else uE n z (max most 0)
def cV (n : Nat) (z : Nat → Int) (most : Int) : Int := if cE n z most = 0 then uV n z (max most 0) else 0
def cN (n : Nat) (z : Nat → Int) (most : Int) : Nat := if cE n z most = 0 then uN n z (max most 0) else 0
theorem cE_u {n : Nat} {z : Nat → Int} {most : Int} (h : cE n z most = 0) : uE n z (max most 0) = 0 := by
  unfold cE at h
  split at h
  · assumption
  · exact h
theorem cN_le {n : Nat} {z : Nat → Int} {most : Int} (h : cE n z most = 0) : cN n z most ≤ n := by
  rw [cN, if_pos h]; exact uN_le (cE_u h)
theorem uV_bd {n : Nat} {z : Nat → Int} (most : Int) (hz : ∀ j, j < n → 0 ≤ z j ∧ z j ≤ 255) : 0 ≤ uV n z most ∧ uV n z most ≤ 18446744073709551615 := by
  unfold uV
  split
  · rename_i h
    by_cases hn : n = 0
    · subst hn; simp [uE] at h
    · have h0 := hz 0 (by omega)
      have h8 : z 0 ≤ 8 := by
        unfold uE at h
        rw [if_neg hn] at h
        split at h
        · simp at h
        · omega
      exact numV_bd (by omega) (fun j hj => by unfold behind; exact trn_bd (hz _ (by omega)))
  · simp

set_option maxHeartbeats 400000 in
theorem frontCount_nerr (ad : Option Addr) (n cap : Nat) (most : Int) (z : Nat → Int) (w : World) (hlc : n ≤ cap) (hs : SlAt w ad n z) (hm0 : most < 0)
    (er : Int) (hE : errV (uE n z 0) = .iface 72 (.int .i64 er)) :
    Calls Tryz.prog 93 #[.slice ad n cap, .int .i64 most] w fun e w' => e = .returned (.tuple #[.int .i64 0, .int .i64 0, .iface 72 (.int .i64 er)]) ∧ ∃ q, w' = w.drewN q := by
  have hmx : max most 0 = 0 := by omega
  go_enter Tryz.func93, Tryz.ntmps93
  go_wp2_with (go_at_call 96; refine (frontUint_any _ _ _ _ z _ hlc hs).mono ?_; rintro e w1 ⟨rfl, q, rfl⟩)
  go_ret3
  exact ⟨rfl, _, rfl⟩

set_option maxHeartbeats 400000 in
theorem frontCount_nlong (ad : Option Addr) (n cap : Nat) (most : Int) (z : Nat → Int) (w : World) (hlc : n ≤ cap) (hs : SlAt w ad n z) (hm0 : most < 0)
    (hE : errV (uE n z 0) = .nilIface) (hk : uN n z 0 ≤ n) (hn : n ≤ 140737488351232) (hl : ((n : Int) - (uN n z 0 : Int)) < uV n z 0) :
    Calls Tryz.prog 93 #[.slice ad n cap, .int .i64 most] w fun e w' => e = .returned (.tuple #[.int .i64 0, .int .i64 0, .iface 72 (.int .i64 2)]) ∧ ∃ q, w' = w.drewN q := by
  have hmx : max most 0 = 0 := by omega
  go_enter Tryz.func93, Tryz.ntmps93
  go_wp2_with (go_at_call 96; refine (frontUint_any _ _ _ _ z _ hlc hs).mono ?_; rintro e w1 ⟨rfl, q, rfl⟩)
  go_ret3
  exact ⟨rfl, _, rfl⟩

set_option maxHeartbeats 400000 in
theorem frontCount_nok (ad : Option Addr) (n cap : Nat) (most : Int) (z : Nat → Int) (w : World) (hlc : n ≤ cap) (hs : SlAt w ad n z) (hm0 : most < 0)
    (hE : errV (uE n z 0) = .nilIface) (hk : uN n z 0 ≤ n) (hn : n ≤ 140737488351232) (hv : 0 ≤ uV n z 0) (hl : ¬ ((n : Int) - (uN n z 0 : Int)) < uV n z 0) :
    Calls Tryz.prog 93 #[.slice ad n cap, .int .i64 most] w fun e w' => e = .returned (.tuple #[.int .i64 (uV n z 0), .int .i64 (uN n z 0), .nilIface]) ∧ ∃ q, w' = w.drewN q := by
  have hmx : max most 0 = 0 := by omega
  go_enter Tryz.func93, Tryz.ntmps93
  go_wp2_with (go_at_call 96; refine (frontUint_any _ _ _ _ z _ hlc hs).mono ?_; rintro e w1 ⟨rfl, q, rfl⟩)
  go_ret3
  exact ⟨rfl, _, rfl⟩

set_option maxHeartbeats 400000 in
theorem frontCount_perr (ad : Option Addr) (n cap : Nat) (most : Int) (z : Nat → Int) (w : World) (hlc : n ≤ cap) (hs : SlAt w ad n z) (hm0 : 0 ≤ most) (_hm1 : most ≤ 9223372036854775807)
    (er : Int) (hE : errV (uE n z most) = .iface 72 (.int .i64 er)) :
    Calls Tryz.prog 93 #[.slice ad n cap, .int .i64 most] w fun e w' => e = .returned (.tuple #[.int .i64 0, .int .i64 0, .iface 72 (.int .i64 er)]) ∧ ∃ q, w' = w.drewN q := by
  have hmx : max most 0 = most := by omega
  go_enter Tryz.func93, Tryz.ntmps93
  go_wp2_with (go_at_call 96; refine (frontUint_any _ _ _ _ z _ hlc hs).mono ?_; rintro e w1 ⟨rfl, q, rfl⟩)
  go_ret3
  exact ⟨rfl, _, rfl⟩

set_option maxHeartbeats 400000 in
theorem frontCount_plong (ad : Option Addr) (n cap : Nat) (most : Int) (z : Nat → Int) (w : World) (hlc : n ≤ cap) (hs : SlAt w ad n z) (hm0 : 0 ≤ most) (_hm1 : most ≤ 9223372036854775807)
    (hE : errV (uE n z most) = .nilIface) (hk : uN n z most ≤ n) (hn : n ≤ 140737488351232) (hl : ((n : Int) - (uN n z most : Int)) < uV n z most) :
    Calls Tryz.prog 93 #[.slice ad n cap, .int .i64 most] w fun e w' => e = .returned (.tuple #[.int .i64 0, .int .i64 0, .iface 72 (.int .i64 2)]) ∧ ∃ q, w' = w.drewN q := by
  have hmx : max most 0 = most := by omega
  go_enter Tryz.func93, Tryz.ntmps93
  go_wp2_with (go_at_call 96; refine (frontUint_any _ _ _ _ z _ hlc hs).mono ?_; rintro e w1 ⟨rfl, q, rfl⟩)
  go_ret3
  exact ⟨rfl, _, rfl⟩

set_option maxHeartbeats 400000 in
theorem frontCount_pok (ad : Option Addr) (n cap : Nat) (most : Int) (z : Nat → Int) (w : World) (hlc : n ≤ cap) (hs : SlAt w ad n z) (hm0 : 0 ≤ most) (_hm1 : most ≤ 9223372036854775807)
    (hE : errV (uE n z most) = .nilIface) (hk : uN n z most ≤ n) (hn : n ≤ 140737488351232) (hv : 0 ≤ uV n z most) (hl : ¬ ((n : Int) - (uN n z most : Int)) < uV n z most) :
    Calls Tryz.prog 93 #[.slice ad n cap, .int .i64 most] w fun e w' => e = .returned (.tuple #[.int .i64 (uV n z most), .int .i64 (uN n z most), .nilIface]) ∧ ∃ q, w' = w.drewN q := by
  have hmx : max most 0 = most := by omega
  go_enter Tryz.func93, Tryz.ntmps93
  go_wp2_with (go_at_call 96; refine (frontUint_any _ _ _ _ z _ hlc hs).mono ?_; rintro e w1 ⟨rfl, q, rfl⟩)
  go_ret3
  exact ⟨rfl, _, rfl⟩


theorem errV_2c : errV 2 = .iface 72 (.int .i64 2) := rfl

theorem frontCount_any (ad : Option Addr) (n cap : Nat) (most : Int) (z : Nat → Int) (w : World) (hlc : n ≤ cap) (hn : n ≤ 140737488351232) (hs : SlAt w ad n z) (hm : most ≤ 9223372036854775807) :
    Calls Tryz.prog 93 #[.slice ad n cap, .int .i64 most] w fun e w' => e = .returned (.tuple #[.int .i64 (cV n z most), .int .i64 (cN n z most), errV (cE n z most)]) ∧ ∃ q, w' = w.drewN q := by
  have hv := uV_bd (n := n) (z := z) (max most 0) hs.1
  by_cases hE : uE n z (max most 0) = 0
  · have hk := uN_le hE
    by_cases hl : ((n - uN n z (max most 0) : Nat) : Int) < uV n z (max most 0)
    · have e : cE n z most = 2 := by rw [cE, if_pos hE, if_pos hl]
      rw [cV, cN, e, if_neg (by decide), if_neg (by decide), errV_2c]
      by_cases h0 : most < 0
      · rw [show max most 0 = 0 from by omega] at *
        exact frontCount_nlong ad n cap most z w hlc hs h0 (by rw [hE, errV_0]) hk hn (by omega)
      · rw [show max most 0 = most from by omega] at *
        exact frontCount_plong ad n cap most z w hlc hs (by omega) hm (by rw [hE, errV_0]) hk hn (by omega)
    · have e : cE n z most = 0 := by rw [cE, if_pos hE, if_neg hl]
      rw [cV, cN, e, if_pos rfl, if_pos rfl, errV_0]
      by_cases h0 : most < 0
      · rw [show max most 0 = 0 from by omega] at *
        exact frontCount_nok ad n cap most z w hlc hs h0 (by rw [hE, errV_0]) hk hn hv.1 (by omega)
      · rw [show max most 0 = most from by omega] at *
        exact frontCount_pok ad n cap most z w hlc hs (by omega) hm (by rw [hE, errV_0]) hk hn hv.1 (by omega)
  · have e : cE n z most = uE n z (max most 0) := by rw [cE, if_neg hE]
    rw [cV, cN, e, if_neg hE, if_neg hE]
    by_cases h0 : most < 0
    · rw [show max most 0 = 0 from by omega] at *
      rw [errV_ne hE]
      exact frontCount_nerr ad n cap most z w hlc hs h0 _ (errV_ne hE)
    · rw [show max most 0 = most from by omega] at *
      rw [errV_ne hE]
      exact frontCount_perr ad n cap most z w hlc hs (by omega) hm _ (errV_ne hE)

set_option maxHeartbeats 400000 in
theorem rdCount_err (rb n cap : Nat) (ad : Option Addr) (z : Nat → Int) (er most : Int) (w : World) (h0 : w.cell? ⟨rb, 0, none⟩ = some (.slice ad n cap)) (h1 : w.cell? ⟨rb, 1, none⟩ = some .nilIface) (hf : w.frozen? ⟨rb, 1, none⟩ = false)
    (hlc : n ≤ cap) (hn : n ≤ 140737488351232) (hm : most ≤ 9223372036854775807) (hs : SlAt w ad n z) (hE : errV (cE n z most) = .iface 72 (.int .i64 er)) :
    Calls Tryz.prog 60 #[.pointer (some ⟨rb, 0, none⟩), .int .i64 most] w fun e w' =>
      e = .returned (.int .i64 0) ∧ ∃ q, w' = ((w.alloc (.cells #[.int .i64 most] 3)).drewN q).setCell ⟨rb, 1, none⟩ (.iface 72 (.int .i64 er)) := by
  have hs1 : SlAt (w.alloc (.cells #[.int .i64 most] 3)) ad n z := hs.frm ((Frm.refl [] w).alloc _) (by simp)
  have hlt : rb < w.heap.size := World.block_lt_of_cell? w ⟨rb, 0, none⟩ h0
  have HM : Hid (most ≤ 9223372036854775807) := hm
  clear hm
  go_enter Tryz.func60, Tryz.ntmps60
  go_wp2_with (first | (go_at_call 93; refine (frontCount_any _ _ _ most z _ hlc hn hs1 HM.out).mono ?_; rintro e w' ⟨rfl, q, rfl⟩) | go_in)
  go_ret3
  go_wp2
  go_ret
  exact ⟨rfl, q, rfl⟩

set_option maxHeartbeats 400000 in
theorem rdCount_ok (rb n cap k : Nat) (ad : Option Addr) (z : Nat → Int) (most : Int) (w : World) (h0 : w.cell? ⟨rb, 0, none⟩ = some (.slice ad n cap)) (h1 : w.cell? ⟨rb, 1, none⟩ = some .nilIface) (hf : w.frozen? ⟨rb, 0, none⟩ = false)
    (hlc : n ≤ cap) (hn : n ≤ 140737488351232) (hm : most ≤ 9223372036854775807) (hs : SlAt w ad n z) (hE : errV (cE n z most) = .nilIface) (hk : cN n z most = k) (hkn : k ≤ n) :
    Calls Tryz.prog 60 #[.pointer (some ⟨rb, 0, none⟩), .int .i64 most] w fun e w' =>
      e = .returned (.int .i64 (cV n z most)) ∧ Took (w.alloc (.cells #[.int .i64 most] 3)) w' rb n cap k ad := by
  have hs1 : SlAt (w.alloc (.cells #[.int .i64 most] 3)) ad n z := hs.frm ((Frm.refl [] w).alloc _) (by simp)
  have hlt : rb < w.heap.size := World.block_lt_of_cell? w ⟨rb, 0, none⟩ h0
  have hkn1 : (k : Int) ≤ (n : Int) := by omega
  have hlc1 : (n : Int) ≤ (cap : Int) := by omega
  have hk0 : (0 : Int) ≤ (k : Int) := by omega
  have HM : Hid (most ≤ 9223372036854775807) := hm
  clear hm
  go_enter Tryz.func60, Tryz.ntmps60
  go_wp2_with (first | (go_at_call 93; refine (frontCount_any _ _ _ most z _ hlc hn hs1 HM.out).mono ?_; rintro e w' ⟨rfl, q, rfl⟩) | go_in)
  go_ret3
  go_wp2
  · subst h
    go_ret
    exact ⟨rfl, Took.all _ _ _ _ _ _⟩
  · go_ret
    exact ⟨rfl, Took.some _ _ _ _ _ _ _⟩

theorem rdCount_any (rb n : Nat) (z : Nat → Int) (most : Int) (w : World) (hn : n ≤ 140737488351232) (hm : most ≤ 9223372036854775807) (h : RdAt w rb n z 0) :
    Calls Tryz.prog 60 #[.pointer (some ⟨rb, 0, none⟩), .int .i64 most] w fun e w' =>
      e = .returned (.int .i64 (cV n z most)) ∧ Frm [rb] w w' ∧ RdAt w' rb (n - cN n z most) (fun j => z (j + cN n z most)) (cE n z most) := by
  obtain ⟨ad, cap, hr, hlc, hs, hlb⟩ := h
  by_cases hE : cE n z most = 0
  · have hk : cN n z most ≤ n := cN_le hE
    refine (rdCount_ok rb n cap (cN n z most) ad z most w (two_cell0 hr) (two_cell1 hr) (two_free hr 0) hlc hn hm hs (by rw [hE]; rfl) rfl hk).mono ?_
    rintro e w' ⟨rfl, ht⟩
    rw [hE]
    have := ht.rd hr hlc hs hlb hk ((Frm.refl [] w).alloc _)
    exact ⟨rfl, this.2, this.1⟩
  · have hN : cN n z most = 0 := by simp [cN, hE]
    have hV : cV n z most = 0 := by simp [cV, hE]
    refine (rdCount_err rb n cap ad z (cE n z most) most w (two_cell0 hr) (two_cell1 hr) (two_free hr 1) hlc hn hm hs (errV_ne hE)).mono ?_
    rintro e w' ⟨rfl, q, rfl⟩
    rw [hN, hV, ← errV_ne hE]
    have := RdAt.fail (er := cE n z most) hr hlc hs hlb (((Frm.refl [] w).alloc (.cells #[.int .i64 most] 3)).drewN q)
    exact ⟨rfl, this.2, this.1⟩
end Go.Proofs.YtmekplaonlpfkaaGreatDoor
/- math/bits.Len64 answers how many bits a number has. -/
namespace Go.Proofs.YtmekplaonlpfkaaGreatDoor

theorem len_close (x k : Nat) (y : Int) (hy : y = ((x / 2 ^ k : Nat) : Int)) (h : 2 ^ k ≤ x ∨ k = 0) (hx : x < 18446744073709551616) (h255 : y ≤ 255) : Lib.len8 y + k = (Lib.bitLen x : Int) := by
  have hy0 : 0 ≤ y := by rw [hy]; exact Int.natCast_nonneg _
  rw [Lib.len8_of y hy0 h255, hy, Int.toNat_natCast]
  rcases h with h | h
  · rw [Lib.bitLen_shift k x h hx]; omega
  · subst h; simp

set_option maxHeartbeats 4000000 in
set_option maxRecDepth 100000 in
theorem len64_any (x : Int) (w : World) (h0 : 0 ≤ x) (h1 : x ≤ 18446744073709551615) :
    Calls Tryz.prog 131 #[.int .u64 x] w fun e w' => e = .returned (.int .i64 (Lib.bitLen x.toNat)) ∧ w' = w := by
  go_enter Tryz.func131, Tryz.ntmps131
  go_wp2
  all_goals go_ret
  all_goals refine ⟨congrArg (fun i => Ending.returned (Value.int IntKind.i64 i)) ?_, rfl⟩
  all_goals first
    | (have := len_close x.toNat 56 (x / 4294967296 / 65536 / 256 % 256) (by omega) (by omega) (by omega) (by omega); have := Lib.bitLen_le x.toNat 64 (by omega) (by omega); omega)
    | (have := len_close x.toNat 48 (x / 4294967296 / 65536 % 256) (by omega) (by omega) (by omega) (by omega); have := Lib.bitLen_le x.toNat 64 (by omega) (by omega); omega)
    | (have := len_close x.toNat 40 (x / 4294967296 / 256 % 256) (by omega) (by omega) (by omega) (by omega); have := Lib.bitLen_le x.toNat 64 (by omega) (by omega); omega)
    | (have := len_close x.toNat 32 (x / 4294967296 % 256) (by omega) (by omega) (by omega) (by omega); have := Lib.bitLen_le x.toNat 64 (by omega) (by omega); omega)
    | (have := len_close x.toNat 24 (x / 65536 / 256 % 256) (by omega) (by omega) (by omega) (by omega); have := Lib.bitLen_le x.toNat 64 (by omega) (by omega); omega)
    | (have := len_close x.toNat 16 (x / 65536 % 256) (by omega) (by omega) (by omega) (by omega); have := Lib.bitLen_le x.toNat 64 (by omega) (by omega); omega)
    | (have := len_close x.toNat 8 (x / 256 % 256) (by omega) (by omega) (by omega) (by omega); have := Lib.bitLen_le x.toNat 64 (by omega) (by omega); omega)
    | (have := len_close x.toNat 0 (x % 256) (by omega) (by omega) (by omega) (by omega); have := Lib.bitLen_le x.toNat 64 (by omega) (by omega); omega)

end Go.Proofs.YtmekplaonlpfkaaGreatDoor
/- How many bytes a number has: math/bits.Len64 and enc.size. -/
namespace Go.Proofs.YtmekplaonlpfkaaGreatDoor
open Go.RowKit

/-- How many bytes a number has without needless noughts. -/
def sz (n : Int) : Nat :=
  if n < 1 then 0 else if n < 256 then 1 else if n < 65536 then 2 else if n < 16777216 then 3 else if n < 4294967296 then 4
  else if n < 1099511627776 then 5 else if n < 281474976710656 then 6 else if n < 72057594037927936 then 7 else 8

theorem bitLen_byte (y : Nat) (h1 : 1 ≤ y) (h2 : y < 256) : 1 ≤ Lib.bitLen y ∧ Lib.bitLen y ≤ 8 := by
  refine ⟨?_, Lib.bitLen_le y 8 (by omega) (by omega)⟩
  rw [Lib.bitLen_half y (by omega) (by omega)]; omega

theorem sz_close (x k : Nat) (h : 2 ^ (8 * k) ≤ x) (h2 : x / 2 ^ (8 * k) < 256) (hx : x < 18446744073709551616) : (Lib.bitLen x + 7) / 8 = k + 1 := by
  have e := Lib.bitLen_shift (8 * k) x h hx
  have b := bitLen_byte (x / 2 ^ (8 * k)) (Nat.div_pos h (Nat.two_pow_pos _)) h2
  omega

theorem sz_bitLen (x : Int) (h0 : 0 ≤ x) (h1 : x ≤ 18446744073709551615) : (Lib.bitLen x.toNat + 7) / 8 = sz x := by
  unfold sz
  split
  · have : x.toNat = 0 := by omega
    rw [this]; rfl
  · split
    · exact sz_close x.toNat 0 (by omega) (by omega) (by omega)
    · split
      · exact sz_close x.toNat 1 (by omega) (by omega) (by omega)
      · split
        · exact sz_close x.toNat 2 (by omega) (by omega) (by omega)
        · split
          · exact sz_close x.toNat 3 (by omega) (by omega) (by omega)
          · split
            · exact sz_close x.toNat 4 (by omega) (by omega) (by omega)
            · split
              · exact sz_close x.toNat 5 (by omega) (by omega) (by omega)
              · split
                · exact sz_close x.toNat 6 (by omega) (by omega) (by omega)
                · exact sz_close x.toNat 7 (by omega) (by omega) (by omega)

theorem sz_le (n : Int) : sz n ≤ 8 := by unfold sz; repeat' split
                                         all_goals omega

set_option maxHeartbeats 400000 in
theorem size_any (x : Int) (w : World) (h0 : 0 ≤ x) (h1 : x ≤ 18446744073709551615) :
    Calls Tryz.prog 112 #[.int .u64 x] w fun e w' => e = .returned (.int .i64 (sz x)) ∧ w' = w := by
  have hb := Lib.bitLen_le x.toNat 64 (by omega) (by omega)
  have hs := sz_bitLen x h0 h1
  have HS : Hid ((Lib.bitLen x.toNat + 7) / 8 = sz x) := hs
  clear hs
  generalize hB : Lib.bitLen x.toNat = B at *
  have HB := (show Hid (Lib.bitLen x.toNat = B) from hB)
  clear hB
  go_enter Tryz.func112, Tryz.ntmps112
  go_wp2_with (go_at_call 131; refine (len64_any _ _ h0 h1).mono ?_; rintro e w' ⟨rfl, rfl⟩; rw [HB.out])
  go_ret
  refine ⟨congrArg (fun i => Ending.returned (Value.int IntKind.i64 i)) ?_, rfl⟩
  have := HS.out
  omega
end Go.Proofs.YtmekplaonlpfkaaGreatDoor
/- The writer's digits: a number's bytes, the highest first. -/
namespace Go.Proofs.YtmekplaonlpfkaaGreatDoor
open Go.RowKit

attribute [local go_sem ↓] Go.wp_at_zero Go.wp_at_succ

/-- A writer at block p has laid the bytes l; g: the block of them. -/
def WrAt (w : World) (B p : Nat) (g : Option Nat) (l : List Int) : Prop :=
  ∃ v, w.heap[p]? = some (.cells #[v] 195 (0, 0)) ∧ w.ownsRow B 5 1 v l.length (l.map (Value.int .u8)) ∧ v.ownBlock = g ∧ B ≤ p ∧ (∀ x, x ∈ l → 0 ≤ x ∧ x ≤ 255)

/-- The byte j of k of a number, the highest first. -/
def dgt (t : Bool) (n : Int) (k j : Nat) : Int := trn t (n / 256 ^ (k - 1 - j) % 256)
def dgs (t : Bool) (n : Int) (k q : Nat) : List Int := (List.range q).map (dgt t n k)
theorem dgs_succ (t : Bool) (n : Int) (k q : Nat) : dgs t n k (q + 1) = dgs t n k q ++ [dgt t n k q] := by simp [dgs, List.range_succ]
theorem dgs_length (t : Bool) (n : Int) (k q : Nat) : (dgs t n k q).length = q := by simp [dgs]


theorem wrap_u8 (x : Int) : IntKind.u8.wrap x = x % 256 := by simp [IntKind.wrap, IntKind.bits, IntKind.signed]
theorem wrap_u8_bd (x : Int) : 0 ≤ IntKind.u8.wrap x ∧ IntKind.u8.wrap x ≤ 255 := by rw [wrap_u8]; omega
theorem dgt_bd (t : Bool) (n : Int) (k j : Nat) : 0 ≤ dgt t n k j ∧ dgt t n k j ≤ 255 := trn_bd (by omega)

/-- A writer that has grown from w on: what it has laid; the rest is as it was. -/
def WrGrown (w wr : World) (B p : Nat) (g : Option Nat) (l : List Int) : Prop :=
  ∃ g', WrAt wr B p g' l ∧ Frm (p :: g.toList) w wr ∧ (g' = g ∨ ∃ b, g' = some b ∧ w.heap.size ≤ b)

/-- The block of bytes is not the writer's own. -/
theorem own_ne {w : World} {B p n : Nat} {v u : Value} {xs : List Value} (h : w.ownsRow B 5 1 v n xs) (hp : w.heap[p]? = some (.cells #[u] 195 (0, 0))) : v.ownBlock ≠ some p := by
  intro e
  rcases h.2 with ⟨rfl, _⟩ | ⟨g, cap, cur, rfl, _, hg, _⟩
  · simp [Value.ownBlock] at e
  · simp [Value.ownBlock] at e
    subst e
    rw [hg] at hp
    simp at hp

/-- Behind an append to the bytes the writer's own block is as it was. -/
theorem grown_keep {w w0 w1 : World} {ob : Obj} {p : Nat} {row : Option Nat} (h0 : Frm [] w w0) (hg : w0.grownBy w1 row) (hp : w.heap[p]? = some ob) (hne : some p ≠ row) : w1.heap[p]? = some ob := by
  have hlt := lt_of_block hp
  have := h0.size
  rw [hg.block p (by omega) hne, h0.block p hlt (by simp)]
  exact hp

theorem Frm.grown2 {S : List Nat} {a b c : World} {row : Option Nat} (h : Frm S a b) (hg : b.grownBy c row) (hr : ∀ k, row = some k → k ∈ S ∨ a.heap.size ≤ k) : Frm S a c :=
  ⟨hg.os.trans h.os, hg.tape.trans h.tape, hg.output.trans h.output, Nat.le_trans h.size hg.size, fun k hk hn => by
    have := h.size
    rw [hg.block k (by omega) (fun e => by rcases hr k e.symm with h | h; exact hn h; omega)]
    exact h.block k hk hn⟩

/-- One append of a writer, part by part: the block, the row, what is kept. -/
theorem wr_parts {w wr w0 w1 : World} {B p gg cap : Nat} {g g1 : Option Nat} {v : Value} {L ys : List Int}
    (hp : wr.heap[p]? = some (.cells #[v] 195 (0, 0))) (h0 : Frm [] wr w0) 
    (hown1 : w1.ownsRow B 5 1 (.slice (some ⟨gg, 0, none⟩) (L.length + ys.length) cap) (L.length + ys.length) (L.map (Value.int .u8) ++ ys.map (Value.int .u8)))
    (hgrow : w0.grownBy w1 v.ownBlock) (hat : v.ownBlock = some gg ∨ gg = wr.heap.size + 1) (hg : v.ownBlock = g1) (hg1 : g1 = g ∨ ∃ b, g1 = some b ∧ w.heap.size ≤ b)
    (hF : Frm (p :: g.toList) w wr) (hB : B ≤ p) (hx : ∀ x, x ∈ L → 0 ≤ x ∧ x ≤ 255) (hy : ∀ y, y ∈ ys → 0 ≤ y ∧ y ≤ 255) (hne : some p ≠ v.ownBlock) :
    (w1.setCell ⟨p, 0, none⟩ (.slice (some ⟨gg, 0, none⟩) (L.length + ys.length) cap)).heap[p]? = some (.cells #[.slice (some ⟨gg, 0, none⟩) (L.length + ys.length) cap] 195 (0, 0)) ∧
    (w1.setCell ⟨p, 0, none⟩ (.slice (some ⟨gg, 0, none⟩) (L.length + ys.length) cap)).ownsRow B 5 1 (.slice (some ⟨gg, 0, none⟩) (L.length + ys.length) cap) (L ++ ys).length ((L ++ ys).map (Value.int .u8)) ∧
    (∀ x, x ∈ L ++ ys → 0 ≤ x ∧ x ≤ 255) ∧ gg ≠ p ∧
    Frm (p :: g.toList) w (w1.setCell ⟨p, 0, none⟩ (.slice (some ⟨gg, 0, none⟩) (L.length + ys.length) cap)) ∧ (some gg = g ∨ ∃ b, some gg = some b ∧ w.heap.size ≤ b) ∧ B ≤ p := by
  have hplt := lt_of_block hp
  have hgp : gg ≠ p := by
    rcases hat with h | h
    · intro e; subst e; exact hne h.symm
    · omega
  refine ⟨one_setCell (grown_keep h0 hgrow hp hne), ?_, ?_, hgp, ?_, ?_, hB⟩
  · have := ownsRow_setCell_other hown1 (a := ⟨p, 0, none⟩) (by simp [Value.ownBlock, hgp]) (.slice (some ⟨gg, 0, none⟩) (L.length + ys.length) cap)
    simpa using this
  · intro x hxx
    rcases List.mem_append.1 hxx with h | h
    · exact hx x h
    · exact hy x h
  · refine Frm.setCell ?_ _ _ (by simp)
    refine ((hF.trans (h0.mono (fun _ h => by cases h))).grown2 hgrow fun k hk => ?_)
    rw [hg] at hk
    rcases hg1 with h | ⟨b, h, hb⟩
    · left; rw [← h, hk]; simp
    · right; rw [h] at hk; cases hk; exact hb
  · rcases hat with h | h
    · rcases hg1 with h1 | ⟨b, h1, hb⟩
      · left; rw [← h1, ← hg, h]
      · right; refine ⟨gg, rfl, ?_⟩; rw [h1, h] at hg; cases hg; exact hb
    · right; have := hF.size; exact ⟨gg, rfl, by omega⟩

/-- One append of a writer: bytes behind what was laid. -/
theorem wr_step {w wr w0 w1 : World} {B p gg cap : Nat} {g g1 : Option Nat} {v : Value} {L ys : List Int}
    (hp : wr.heap[p]? = some (.cells #[v] 195 (0, 0))) (h0 : Frm [] wr w0) 
    (hown1 : w1.ownsRow B 5 1 (.slice (some ⟨gg, 0, none⟩) (L.length + ys.length) cap) (L.length + ys.length) (L.map (Value.int .u8) ++ ys.map (Value.int .u8)))
    (hgrow : w0.grownBy w1 v.ownBlock) (hat : v.ownBlock = some gg ∨ gg = wr.heap.size + 1) (hg : v.ownBlock = g1) (hg1 : g1 = g ∨ ∃ b, g1 = some b ∧ w.heap.size ≤ b)
    (hF : Frm (p :: g.toList) w wr) (hB : B ≤ p) (hx : ∀ x, x ∈ L → 0 ≤ x ∧ x ≤ 255) (hy : ∀ y, y ∈ ys → 0 ≤ y ∧ y ≤ 255) (hne : some p ≠ v.ownBlock) :
    WrGrown w (w1.setCell ⟨p, 0, none⟩ (.slice (some ⟨gg, 0, none⟩) (L.length + ys.length) cap)) B p g (L ++ ys) := by
  obtain ⟨h1, h2, h3, _, h5, h6, h7⟩ := wr_parts hp h0 hown1 hgrow hat hg hg1 hF hB hx hy hne
  exact ⟨some gg, ⟨_, h1, h2, rfl, h7, h3⟩, h5, h6⟩

theorem shr_byte (n : Int) (i : Nat) (hi : i < 8) : Op.shift .shr .u64 n .i64 (IntKind.i64.wrap (8 * (i : Int))) = pure (.int .u64 (n / 256 ^ i)) := by
  have h : i = 0 ∨ i = 1 ∨ i = 2 ∨ i = 3 ∨ i = 4 ∨ i = 5 ∨ i = 6 ∨ i = 7 := by omega
  have e : IntKind.i64.wrap (8 * (i : Int)) = 8 * (i : Int) := by
    rcases h with h | h | h | h | h | h | h | h <;> subst h <;> decide
  rw [e, shift_shr .u64 .i64 n _ (by omega) (by simp [IntKind.bits]; omega)]
  rcases h with h | h | h | h | h | h | h | h <;> subst h <;> rfl

set_option maxRecDepth 100000 in
set_option maxHeartbeats 1600000 in
theorem digits_any (p B k : Nat) (g : Option Nat) (l : List Int) (n tn : Int) (t : Bool) (w : World) (hk : sz n = k) (htn : tn = if t then 255 else 0)
    (hw : WrAt w B p g l) (hl : l.length + 8 ≤ 140737488355328) (hn : 0 ≤ n ∧ n ≤ 18446744073709551615) :
    Calls Tryz.prog 113 #[.pointer (some ⟨p, 0, none⟩), .int .u64 n, .int .u8 tn] w fun e w' => e = .returned (.tuple #[]) ∧ WrGrown w w' B p g (l ++ dgs t n k k) := by
  obtain ⟨i0, hi0, hz0, hz1, hz2⟩ := info_parts Tryz.infoB
  have H : Hid (Tryz.prog.info? 5 = some i0 ∧ i0.zero = some (.int .u8 0) ∧ i0.size = 1 ∧ i0.bytes = 1) := ⟨hi0, hz0, hz1, hz2⟩
  clear hi0 hz0 hz1 hz2
  have hk8 : k ≤ 8 := by rw [← hk]; exact sz_le n
  have HT : Hid (tn = if t then 255 else 0) := htn
  clear htn
  have HW : Hid (WrAt w B p g l) := hw
  clear hw
  go_enter Tryz.func113, Tryz.ntmps113
  go_wp2_with (go_at_call 112; refine (size_any _ _ hn.1 hn.2).mono ?_; rintro e wx ⟨rfl, rfl⟩; rw [hk])
  clear hk
  go_loopw [6] (fun iv wr => ∃ q : Nat, q ≤ k ∧ iv = .int .i64 ((k : Int) - 1 - q) ∧ WrGrown wx wr B p g (l ++ dgs t n k q)) (fun iv _ => (intOf iv + 1).toNat)
  case atStart => exact ⟨0, Nat.zero_le _, by go_num, g, by simpa [dgs] using HW.out, Frm.refl _ _, .inl rfl⟩
  case round =>
    obtain ⟨q, hq, rfl, g1, hW1, hF1, hg1⟩ := hrel
    by_cases hlt : q < k
    · obtain ⟨i, hi⟩ : ∃ i : Nat, k = i + 1 + q := ⟨k - 1 - q, by omega⟩
      obtain ⟨v, hp, hown, hg, hB, hx⟩ := hW1
      have hc := cell_of_one hp
      have hf := free_of_one hp
      have hplt := lt_of_block hp
      rw [show ((k : Int) - 1 - q) = (i : Int) from by omega]
      have hi0 : (0 : Int) ≤ (i : Int) := by omega
      have hi8 : (i : Int) < 8 := by omega
      have HO : Hid (wr.ownsRow B 5 1 v (l ++ dgs t n k q).length ((l ++ dgs t n k q).map (Value.int .u8))) := hown
      have HP : Hid (wr.heap[p]? = some (.cells #[v] 195 (0, 0))) := hp
      have HF : Hid (Frm (p :: g.toList) wx wr) := hF1
      have hne : some p ≠ v.ownBlock := by
        intro e
        exact own_ne hown hp e.symm
      clear hown hp hF1
      have HI : Hid (k = i + 1 + q) := hi
      have hsh : Op.shift .shr .u64 n .i64 (IntKind.i64.wrap (8 * (i : Int))) = pure (.int .u64 (n / 256 ^ i)) := shr_byte n i (by omega)
      clear hi
      generalize hX : n / 256 ^ i = X at *
      have HX : Hid (n / 256 ^ i = X) := hX
      clear hX
      go_wp2_with fail
      go_region_law
        ((refine step_append_lies _ (by rfl) _ _ _ (by rfl) B 5 i0 _ 1 1 Tryz.underlying29 H.out.1 H.out.2.1 H.out.2.2.1 H.out.2.2.2 rfl (by omega) v (l ++ dgs t n k q).length ((l ++ dgs t n k q).map (Value.int .u8)) (by rfl) ((HO.out.alloc _).drew) ⟨wr.heap.size, 0, none⟩ 1 1 [_] (by rfl) (by rfl) (World.news_of_block (cs := #[_]) (t := 5) (fr := (0, 0)) (heap_alloc_new wr _)) (by simp [Value.oneCell']) (by omega) (by simp [dgs_length, maxLen]; omega) (by simp [dgs_length]; omega) (by simp; omega) (wr.heap.size + 1) (by simp) ?_; intro gg cap w1 hown1 hgrow hat hlt1; have hp1 := grown_keep (((Frm.refl [] wr).alloc _).drew) hgrow HP.out hne; have hc1 := cell_of_one hp1; have hf1 := free_of_one hp1))
      all_goals
        have R : WrGrown wx (w1.setCell ⟨p, 0, none⟩ (.slice (some ⟨gg, 0, none⟩) (l.length + (dgs t n k q).length + 1) cap)) B p g (l ++ dgs t n k (q + 1)) := by
          have hd : bits .xor .u8 (IntKind.u8.wrap X) tn = dgt t n k q := by
            rw [xor_trn t tn _ HT.out (wrap_u8_bd X), wrap_u8 X, dgt, show k - 1 - q = i from by have := HI.out; omega, HX.out]
          rw [hd] at hown1
          rw [dgs_succ, ← List.append_assoc]
          have := wr_step (ys := [dgt t n k q]) HP.out (((Frm.refl [] wr).alloc _).drew) (by simpa using hown1) hgrow hat hg hg1 HF.out hB hx (by intro y hy; rw [List.mem_singleton.1 hy]; exact dgt_bd t n k q) hne
          simpa using this
        clear hown1 hgrow hp1 hc1 hf1
        go_wp2
        go_roundw
        case rel => exact ⟨q + 1, by omega, by have := HI.out; go_num, R⟩
        case measure => simp [intOf]
    · have : q = k := by omega
      subst this
      go_wp2
      go_end0
      exact ⟨rfl, g1, hW1, hF1, hg1⟩
end Go.Proofs.YtmekplaonlpfkaaGreatDoor
/- The writer's Uint and Int. -/
namespace Go.Proofs.YtmekplaonlpfkaaGreatDoor
open Go.RowKit

attribute [local go_sem ↓] Go.wp_at_zero Go.wp_at_succ

/-- A number's bytes as it is laid. -/
def uB (n : Int) : List Int := (sz n : Int) :: dgs false n (sz n) (sz n)

theorem WrGrown.trans {w w1 w2 : World} {B p : Nat} {g : Option Nat} {l l' : List Int} (h : WrGrown w w1 B p g l) (h2 : ∀ g', WrAt w1 B p g' l → WrGrown w1 w2 B p g' l') : WrGrown w w2 B p g l' := by
  obtain ⟨g1, ha, hf, hg⟩ := h
  obtain ⟨g2, ha2, hf2, hg2⟩ := h2 g1 ha
  refine ⟨g2, ha2, ?_, ?_⟩
  · have hsz := hf.size
    refine ⟨hf2.os.trans hf.os, hf2.tape.trans hf.tape, hf2.output.trans hf.output, Nat.le_trans hf.size hf2.size, fun k hk hn => ?_⟩
    rw [hf2.block k (by omega) ?_]
    · exact hf.block k hk hn
    · intro hm
      rcases hg with rfl | ⟨b, rfl, hb⟩
      · exact hn hm
      · simp at hm hn
        rcases hm with h | h
        · exact hn.1 h
        · omega
  · have hsz := hf.size
    rcases hg2 with rfl | ⟨b, rfl, hb⟩
    · exact hg
    · exact .inr ⟨b, rfl, by omega⟩

theorem WrAt.same {w : World} {B p : Nat} {g g' : Option Nat} {l l' : List Int} (h : WrAt w B p g l) (h' : WrAt w B p g' l') : g = g' := by
  obtain ⟨v, hp, _, hg, _⟩ := h
  obtain ⟨v', hp', _, hg', _⟩ := h'
  rw [hp] at hp'
  have : v = v' := by simpa using hp'
  rw [← hg, ← hg', this]

set_option maxRecDepth 100000 in
set_option maxHeartbeats 1600000 in
theorem wrUint_any (p B : Nat) (g : Option Nat) (l : List Int) (n : Int) (w : World) (hw : WrAt w B p g l) (hl : l.length + 16 ≤ 140737488355328) (hn : 0 ≤ n ∧ n ≤ 18446744073709551615) :
    Calls Tryz.prog 84 #[.pointer (some ⟨p, 0, none⟩), .int .u64 n] w fun e w' => e = .returned (.pointer (some ⟨p, 0, none⟩)) ∧ WrGrown w w' B p g (l ++ uB n) := by
  obtain ⟨i0, hi0, hz0, hz1, hz2⟩ := info_parts Tryz.infoB
  have H : Hid (Tryz.prog.info? 5 = some i0 ∧ i0.zero = some (.int .u8 0) ∧ i0.size = 1 ∧ i0.bytes = 1) := ⟨hi0, hz0, hz1, hz2⟩
  clear hi0 hz0 hz1 hz2
  obtain ⟨v, hp, hown, hg, hB, hx⟩ := hw
  have hc := cell_of_one hp
  have hf := free_of_one hp
  have hplt := lt_of_block hp
  have hne : some p ≠ v.ownBlock := fun e => own_ne hown hp e.symm
  have HO : Hid (w.ownsRow B 5 1 v l.length (l.map (Value.int .u8))) := hown
  have HP : Hid (w.heap[p]? = some (.cells #[v] 195 (0, 0))) := hp
  clear hown hp
  obtain ⟨k, hk⟩ : ∃ k, sz n = k := ⟨_, rfl⟩
  have hk8 : k ≤ 8 := by rw [← hk]; exact sz_le n
  have HK : Hid (sz n = k) := hk
  clear hk
  go_enter Tryz.func84, Tryz.ntmps84
  go_wp2_with fail
  go_region_law (first | (refine step_append_lies _ (by rfl) _ _ _ (by rfl) B 5 i0 _ 1 1 Tryz.underlying29 H.out.1 H.out.2.1 H.out.2.2.1 H.out.2.2.2 rfl (by omega) v l.length (l.map (Value.int .u8)) (by rfl) ((HO.out.alloc _).drew) ⟨w.heap.size, 0, none⟩ 1 1 [_] (by rfl) (by rfl) (World.news_of_block (cs := #[_]) (t := 5) (fr := (0, 0)) (heap_alloc_new w _)) (by simp [Value.oneCell']) (by omega) (by simp [maxLen]; omega) (by simp; omega) (by simp; omega) (w.heap.size + 1) (by simp) ?_; intro gg cap w1 hown1 hgrow hat hlt1; have hp1 := grown_keep (((Frm.refl [] w).alloc _).drew) hgrow HP.out hne; have hc1 := cell_of_one hp1; have hf1 := free_of_one hp1) | (go_simp; go_at_call 112; refine (size_any _ _ hn.1 hn.2).mono ?_; rintro e wx ⟨rfl, rfl⟩; rw [HK.out]))
  all_goals
    have hk1 : IntKind.u8.wrap ((k : Int)) = (k : Int) := by rw [wrap_u8]; omega
    rw [hk1] at hown1
    have R := wr_step (ys := [(k : Int)]) HP.out (((Frm.refl [] w).alloc _).drew) (by simpa using hown1) hgrow hat hg (.inl rfl) (Frm.refl _ w) hB hx (by intro y hy; rw [List.mem_singleton.1 hy]; omega) hne
    have R1 : WrGrown w (w1.setCell ⟨p, 0, none⟩ (.slice (some ⟨gg, 0, none⟩) (l.length + 1) cap)) B p g (l ++ [(k : Int)]) := by simpa using R
    have HR : Hid (WrGrown w (w1.setCell ⟨p, 0, none⟩ (.slice (some ⟨gg, 0, none⟩) (l.length + 1) cap)) B p g (l ++ [(k : Int)])) := R1
    clear R R1 hown1 hgrow hp1 hc1 hf1 hk1
    obtain ⟨g1, ha, hF1, hg1⟩ := HR.out
    have HA : Hid (WrAt (w1.setCell ⟨p, 0, none⟩ (.slice (some ⟨gg, 0, none⟩) (l.length + 1) cap)) B p g1 (l ++ [(k : Int)])) := ha
    clear ha hF1 hg1
    go_wp2_with (go_at_call 113; refine (digits_any p B k g1 (l ++ [(k : Int)]) n 0 false _ HK.out rfl HA.out (by simp; omega) hn).mono ?_; rintro e w2 ⟨rfl, hG⟩)
    go_ret
    refine ⟨rfl, ?_⟩
    have hG2 : ∀ g', WrAt (w1.setCell ⟨p, 0, none⟩ (.slice (some ⟨gg, 0, none⟩) (l.length + 1) cap)) B p g' (l ++ [(k : Int)]) → WrGrown (w1.setCell ⟨p, 0, none⟩ (.slice (some ⟨gg, 0, none⟩) (l.length + 1) cap)) w2 B p g' (l ++ [(k : Int)] ++ dgs false n k k) := by
      intro g' h'
      rw [WrAt.same h' HA.out]; exact hG
    have := HR.out.trans hG2
    rw [List.append_assoc] at this
    have hkk := HK.out
    subst hkk
    exact this

end Go.Proofs.YtmekplaonlpfkaaGreatDoor
