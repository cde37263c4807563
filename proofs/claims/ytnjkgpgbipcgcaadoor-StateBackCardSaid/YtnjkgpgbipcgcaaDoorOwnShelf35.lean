/- What enc.frontHash answers. -/
import Derived.Test.YtnjkgpgbipcgcaaDoorOwnShelf04
import Derived.WalkKit
import Derived.WalkSpells
import Derived.WalkLawsBesides
import Derived.Deep.QuietTactic
import Derived.BigQuiet
namespace Go.Proofs.YtnjkgpgbipcgcaaDoor
open Go.RowKit

theorem two_allocs_a (w : World) (o o' : Obj) : ((w.alloc o).alloc o').heap[w.heap.size]? = some o := by
  rw [Below.heap_alloc _ _ _ (by simp)]; exact heap_alloc_new w o

set_option maxHeartbeats 400000 in
theorem frontHash_short (ad : Option Addr) (n cap : Nat) (w : World) (hn : n < 32) :
    Calls Tryd.prog 86 #[.slice ad n cap] w fun e w' => e = .returned (.tuple #[.agg (hv nz), .int .i64 0, .iface 72 (.int .i64 12)]) ∧ Below w.heap.size w w' := by
  go_enter Tryd.func86, Tryd.ntmps86
  go_wp2_with (first | (refine wpList_allocH rfl rfl ?_) | (refine wpList_loadH rfl _ rfl (w.heap.size + 1) rfl nz 31 (0, 0) (by have := heap_alloc_new (w.alloc (.cells (hv nz) 31)) (.cells (hv nz) 31); simpa using this) ?_) | (refine wpList_storeH rfl _ _ rfl w.heap.size rfl nz nz 31 rfl (by rw [Below.heap_alloc _ _ _ (by simp)]; exact heap_alloc_new w _) ?_; intro w1 hg1 hF1))
  refine bodyPost_ret (results_H3 Tryd.results86 _ _ w.heap.size 31 nz (0, 0) rfl hg1) rfl ⟨rfl, ?_⟩
  exact (((Below.refl _ w).alloc (Nat.le_refl _) _).alloc (by simp) _).trans (hF1.below (by simp; omega) (by simp))

set_option maxRecDepth 100000 in
set_option maxHeartbeats 400000 in
theorem frontHash_long (b off n cap : Nat) (z : Nat → Int) (w : World) (hn : 32 ≤ n) (hc : ∀ j, j < n → w.cell? ⟨b, off + j, none⟩ = some (.int .u8 (z j))) :
    Calls Tryd.prog 86 #[.slice (some ⟨b, off, none⟩) n cap] w fun e w' => e = .returned (.tuple #[.agg (hv z), .int .i64 32, .nilIface]) ∧ Below w.heap.size w w' := by
  have hblt : b < w.heap.size := World.block_lt_of_cell? w ⟨b, off + 0, none⟩ (hc 0 (by omega))
  have hnews : ∀ j u, (bl z 32)[j]? = some u → ((w.alloc (.cells (hv nz) 31)).alloc (.cells (hv nz) 31)).cell? ((⟨b, off, none⟩ : Addr).add j) = some u := by
    intro j u h
    obtain ⟨hj, rfl⟩ := bl_get h
    rw [Addr.add_lit, World.cell?_alloc_lt _ _ _ (by simp; omega), World.cell?_alloc_lt _ _ _ (by simpa using hblt)]
    exact hc j (by omega)
  have HN : Hid (∀ j u, (bl z 32)[j]? = some u → ((w.alloc (.cells (hv nz) 31)).alloc (.cells (hv nz) 31)).cell? ((⟨b, off, none⟩ : Addr).add j) = some u) := hnews
  clear hnews hc
  go_enter Tryd.func86, Tryd.ntmps86
  go_wp2_with (first | (refine wpList_allocH rfl rfl ?_) | (refine wpList_copyH (z := z) (u := nz) rfl _ _ rfl (w.heap.size + 1) ⟨b, off, none⟩ n cap rfl rfl 31 (by have := heap_alloc_new (w.alloc (.cells (hv nz) 31)) (.cells (hv nz) 31); simpa using this) hn HN.out ?_; intro w1 hg1 hF1; have hg0 := hF1.heap (two_allocs_a w _ _) (by simp)) | (refine wpList_loadH rfl _ rfl (w.heap.size + 1) rfl z 31 (0, 0) hg1 ?_) | (refine wpList_storeH rfl _ _ rfl w.heap.size rfl z nz 31 rfl hg0 ?_; intro w2 hg2 hF2))
  refine bodyPost_ret (results_H3 Tryd.results86 _ _ w.heap.size 31 z (0, 0) rfl hg2) rfl ⟨rfl, ?_⟩
  have hb1 : Below w.heap.size w w1 := (((Below.refl _ w).alloc (Nat.le_refl _) _).alloc (by simp) _).trans (hF1.below (by simp; omega) (by simp))
  exact hb1.trans (hF2.below hb1.size (by simp))
end Go.Proofs.YtnjkgpgbipcgcaaDoor
/- What enc.number answers: the number of so many bytes, or the error. -/
namespace Go.Proofs.YtnjkgpgbipcgcaaDoor
open Go.RowKit

set_option maxHeartbeats 400000 in
theorem number_short (ad : Option Addr) (len cap : Nat) (k t : Int) (w : World) (h : (len : Int) < k) :
    Calls Tryd.prog 93 #[.slice ad len cap, .int .i64 k, .int .u8 t] w fun e w' => e = .returned (.tuple #[.int .u64 0, .iface 72 (.int .i64 12)]) ∧ w' = w := by
  go_enter Tryd.func93, Tryd.ntmps93
  go_wp2
  go_ret2
  exact ⟨rfl, rfl⟩

set_option maxHeartbeats 400000 in
theorem number_form (b off len cap : Nat) (k : Nat) (t : Int) (z : Nat → Int) (w : World) (hk : k ≤ len) (hk0 : 0 < k) (h0 : (z 0 == t) = true) 
    (hc : w.cell? ⟨b, off, none⟩ = some (.int .u8 (z 0))) :
    Calls Tryd.prog 93 #[.slice (some ⟨b, off, none⟩) len cap, .int .i64 k, .int .u8 t] w fun e w' => e = .returned (.tuple #[.int .u64 0, .iface 72 (.int .i64 3)]) ∧ w' = w := by
  go_enter Tryd.func93, Tryd.ntmps93
  go_wp2
  go_ret2
  exact ⟨rfl, rfl⟩

set_option maxHeartbeats 400000 in
theorem number_none (ad : Option Addr) (len cap : Nat) (t : Int) (w : World) (_hlc : len ≤ cap) :
    Calls Tryd.prog 93 #[.slice ad len cap, .int .i64 0, .int .u8 t] w fun e w' => e = .returned (.tuple #[.int .u64 0, .nilIface]) ∧ w' = w := by
  go_enter Tryd.func93, Tryd.ntmps93
  go_wp2
  refine wp_loop_rounds 1 ?_
  rw [rounds_succ]
  go_wp2
  go_ret2
  exact ⟨rfl, rfl⟩

set_option maxHeartbeats 400000 in
theorem number_more (b off len cap : Nat) (k : Nat) (t : Bool) (tn : Int) (htn : tn = if t then 255 else 0) (z : Nat → Int) (w : World) (hk : k ≤ len) (hk8 : k ≤ 8) (hk0 : 0 < k) (hlc : len ≤ cap) (h0 : (z 0 == tn) = false) 
    (hz : ∀ j, j < k → 0 ≤ z j ∧ z j ≤ 255)
    (hc : ∀ j, j < len → w.cell? ⟨b, off + j, none⟩ = some (.int .u8 (z j))) :
    Calls Tryd.prog 93 #[.slice (some ⟨b, off, none⟩) len cap, .int .i64 k, .int .u8 tn] w fun e w' => e = .returned (.tuple #[.int .u64 (valF (fun j => trn t (z j)) k), .nilIface]) ∧ w' = w := by
  have c0 : w.cell? ⟨b, off, none⟩ = some (.int .u8 (z 0)) := by simpa using hc 0 (by omega)
  have HT : Hid (tn = if t then 255 else 0) := htn
  clear htn
  go_enter Tryd.func93, Tryd.ntmps93
  go_wp2
  go_loop [8, 30] (fun n i => ∃ q : Nat, q ≤ k ∧ i = .int .i64 q ∧ n = .int .u64 (valF (fun j => trn t (z j)) q)) (fun _ i => k - (intOf i).toNat)
  case atStart => exact ⟨0, Nat.zero_le _, rfl, rfl⟩
  case round =>
    obtain ⟨q, hq, rfl, rfl⟩ := hrel
    by_cases hlt : q < k
    · have hcq := hc q (by omega)
      have hzq := hz q hlt
      have hb := valF_lt7 (f := fun j => trn t (z j)) (k := q) (by omega) (fun j hj => trn_bd (hz j (by omega)))
      have HS : Hid (bits .or .u64 (valF (fun j => trn t (z j)) q * 256) (IntKind.u64.wrap (bits .xor .u8 (z q) tn)) = valF (fun j => trn t (z j)) (q + 1)) := by
        show _ = _
        rw [xor_trn t tn (z q) HT.out hzq, shift_or _ _ hb (trn_bd hzq)]
        rfl
      go_wp2
      go_round
      case rel => exact ⟨q + 1, by omega, by go_num, by rw [HS.out]⟩
      case measure => simp [intOf]; omega
    · have : q = k := by omega
      subst this
      go_wp2
      go_ret2
      exact ⟨rfl, rfl⟩

/-- An error of the program's, by its number; 0: none. -/
theorem errV_0 : errV 0 = .nilIface := rfl
theorem errV_3 : errV 3 = .iface 72 (.int .i64 3) := rfl
theorem errV_12 : errV 12 = .iface 72 (.int .i64 12) := rfl

theorem number_any (ad : Option Addr) (n cap k : Nat) (t : Bool) (tn : Int) (z : Nat → Int) (w : World) (htn : tn = if t then 255 else 0) (hk8 : k ≤ 8) (hlc : n ≤ cap) (hs : SlAt w ad n z) :
    Calls Tryd.prog 93 #[.slice ad n cap, .int .i64 k, .int .u8 tn] w fun e w' =>
      e = .returned (.tuple #[.int .u64 (numV n (fun j => trn t (z j)) k), errV (numE n (fun j => trn t (z j)) k)]) ∧ w' = w := by
  obtain ⟨hz, hs⟩ := hs
  by_cases h1 : n < k
  · have e : numE n (fun j => trn t (z j)) k = 12 := by simp [numE, h1]
    rw [numV, e, if_neg (by decide), errV_12]
    exact number_short ad n cap k tn w (by omega)
  · by_cases h2 : k = 0
    · subst h2
      have e : numE n (fun j => trn t (z j)) 0 = 0 := by simp [numE]
      rw [numV, e, if_pos rfl, errV_0]
      exact number_none ad n cap tn w hlc
    · obtain ⟨b, off, rfl, hc⟩ := hs (by omega)
      have hz0 := hz 0 (by omega)
      by_cases h3 : z 0 = tn
      · have e : numE n (fun j => trn t (z j)) k = 3 := by
          have : trn t (z 0) = 0 := by rw [h3, htn]; cases t <;> simp [trn]
          simp [numE, h1, this]; omega
        rw [numV, e, if_neg (by decide), errV_3]
        exact number_form b off n cap k tn z w (by omega) (by omega) (by simp [h3]) (by simpa using hc 0 (by omega))
      · have e : numE n (fun j => trn t (z j)) k = 0 := by
          have : trn t (z 0) ≠ 0 := by
            rw [htn] at h3; cases t <;> simp [trn] at h3 ⊢ <;> omega
          simp [numE, h1, this]
        rw [numV, e, if_pos rfl, errV_0]
        exact number_more b off n cap k t tn htn z w (by omega) hk8 (by omega) hlc (by simp [h3]) (fun j hj => hz j (by omega)) hc

theorem number_int (ad : Option Addr) (n cap : Nat) (k : Int) (t : Bool) (tn : Int) (z : Nat → Int) (w : World) (htn : tn = if t then 255 else 0) (h0 : 0 ≤ k) (h8 : k ≤ 8) (hlc : n ≤ cap) (hs : SlAt w ad n z) :
    Calls Tryd.prog 93 #[.slice ad n cap, .int .i64 k, .int .u8 tn] w fun e w' =>
      e = .returned (.tuple #[.int .u64 (numV n (fun j => trn t (z j)) k.toNat), errV (numE n (fun j => trn t (z j)) k.toNat)]) ∧ w' = w := by
  obtain ⟨q, rfl⟩ := Int.eq_ofNat_of_zero_le h0
  exact number_any ad n cap q t tn z w htn (by omega) hlc hs

end Go.Proofs.YtnjkgpgbipcgcaaDoor
/- What enc.frontUint and enc.frontInt answer. -/
namespace Go.Proofs.YtnjkgpgbipcgcaaDoor
open Go.RowKit

theorem errV_4 : errV 4 = .iface 72 (.int .i64 4) := rfl

set_option maxHeartbeats 400000 in
theorem frontUint_nil (ad : Option Addr) (cap : Nat) (most : Int) (w : World) :
    Calls Tryd.prog 84 #[.slice ad 0 cap, .int .u64 most] w fun e w' =>
      e = .returned (.tuple #[.int .u64 0, .int .i64 0, .iface 72 (.int .i64 12)]) ∧ w' = w := by
  go_enter Tryd.func84, Tryd.ntmps84
  go_wp2
  go_ret3
  exact ⟨rfl, rfl⟩

set_option maxHeartbeats 400000 in
theorem frontUint_wide (b off n cap : Nat) (most : Int) (z : Nat → Int) (w : World) (hn : 0 < n) (hc : w.cell? ⟨b, off, none⟩ = some (.int .u8 (z 0))) (h8 : 8 < z 0) :
    Calls Tryd.prog 84 #[.slice (some ⟨b, off, none⟩) n cap, .int .u64 most] w fun e w' =>
      e = .returned (.tuple #[.int .u64 0, .int .i64 0, .iface 72 (.int .i64 3)]) ∧ w' = w := by
  go_enter Tryd.func84, Tryd.ntmps84
  go_wp2
  go_ret3
  exact ⟨rfl, rfl⟩

set_option maxHeartbeats 400000 in
theorem frontUint_err (b off n cap : Nat) (most : Int) (z : Nat → Int) (w : World) (hn : 0 < n) (hlc : n ≤ cap) (hz : ∀ j, j < n → 0 ≤ z j ∧ z j ≤ 255) (hc : ∀ j, j < n → w.cell? ⟨b, off + j, none⟩ = some (.int .u8 (z j))) (h8 : z 0 ≤ 8)
    (er : Int) (hE : errV (numE (n - 1) (fun j => trn false (z (j + 1))) (z 0).toNat) = .iface 72 (.int .i64 er)) :
    Calls Tryd.prog 84 #[.slice (some ⟨b, off, none⟩) n cap, .int .u64 most] w fun e w' =>
      e = .returned (.tuple #[.int .u64 0, .int .i64 0, .iface 72 (.int .i64 er)]) ∧ ∃ q, w' = w.drewN q := by
  have c0 : w.cell? ⟨b, off, none⟩ = some (.int .u8 (z 0)) := by simpa using hc 0 hn
  have hz0 := hz 0 hn
  have hn1 : (1 : Int) ≤ (n : Int) := by omega
  have hnc : (n : Int) ≤ (cap : Int) := by omega
  have hs := SlAt.tail hz hc hlc
  clear hc hz
  go_enter Tryd.func84, Tryd.ntmps84
  go_wp2_with fail
  go_quiet ((go_at_call 93; exact Calls.quiet_of_same (number_int _ _ _ (z 0) false 0 (fun j => z (j + 1)) _ rfl hz0.1 h8 (by omega) (hs.drewN _))))
  go_wp2
  all_goals (go_ret3; exact ⟨rfl, _, rfl⟩)

set_option maxHeartbeats 400000 in
theorem frontUint_range (b off n cap : Nat) (most : Int) (z : Nat → Int) (w : World) (hn : 0 < n) (hlc : n ≤ cap) (hz : ∀ j, j < n → 0 ≤ z j ∧ z j ≤ 255) (hc : ∀ j, j < n → w.cell? ⟨b, off + j, none⟩ = some (.int .u8 (z j))) (h8 : z 0 ≤ 8)
    (hE : errV (numE (n - 1) (fun j => trn false (z (j + 1))) (z 0).toNat) = .nilIface) (hm : most < numV (n - 1) (fun j => trn false (z (j + 1))) (z 0).toNat) :
    Calls Tryd.prog 84 #[.slice (some ⟨b, off, none⟩) n cap, .int .u64 most] w fun e w' =>
      e = .returned (.tuple #[.int .u64 0, .int .i64 0, .iface 72 (.int .i64 4)]) ∧ ∃ q, w' = w.drewN q := by
  have c0 : w.cell? ⟨b, off, none⟩ = some (.int .u8 (z 0)) := by simpa using hc 0 hn
  have hz0 := hz 0 hn
  have hn1 : (1 : Int) ≤ (n : Int) := by omega
  have hnc : (n : Int) ≤ (cap : Int) := by omega
  have hs := SlAt.tail hz hc hlc
  clear hc hz
  go_enter Tryd.func84, Tryd.ntmps84
  go_wp2_with fail
  go_quiet ((go_at_call 93; exact Calls.quiet_of_same (number_int _ _ _ (z 0) false 0 (fun j => z (j + 1)) _ rfl hz0.1 h8 (by omega) (hs.drewN _))))
  go_wp2
  all_goals (go_ret3; exact ⟨rfl, _, rfl⟩)

set_option maxHeartbeats 400000 in
theorem frontUint_ok (b off n cap : Nat) (most : Int) (z : Nat → Int) (w : World) (hn : 0 < n) (hlc : n ≤ cap) (hz : ∀ j, j < n → 0 ≤ z j ∧ z j ≤ 255) (hc : ∀ j, j < n → w.cell? ⟨b, off + j, none⟩ = some (.int .u8 (z j))) (h8 : z 0 ≤ 8)
    (hE : errV (numE (n - 1) (fun j => trn false (z (j + 1))) (z 0).toNat) = .nilIface) (hm : ¬ most < numV (n - 1) (fun j => trn false (z (j + 1))) (z 0).toNat) :
    Calls Tryd.prog 84 #[.slice (some ⟨b, off, none⟩) n cap, .int .u64 most] w fun e w' =>
      e = .returned (.tuple #[.int .u64 (numV (n - 1) (fun j => trn false (z (j + 1))) (z 0).toNat), .int .i64 (1 + z 0), .nilIface]) ∧ ∃ q, w' = w.drewN q := by
  have c0 : w.cell? ⟨b, off, none⟩ = some (.int .u8 (z 0)) := by simpa using hc 0 hn
  have hz0 := hz 0 hn
  have hn1 : (1 : Int) ≤ (n : Int) := by omega
  have hnc : (n : Int) ≤ (cap : Int) := by omega
  have hs := SlAt.tail hz hc hlc
  clear hc hz
  go_enter Tryd.func84, Tryd.ntmps84
  go_wp2_with fail
  go_quiet ((go_at_call 93; exact Calls.quiet_of_same (number_int _ _ _ (z 0) false 0 (fun j => z (j + 1)) _ rfl hz0.1 h8 (by omega) (hs.drewN _))))
  go_wp2
  all_goals (go_quiet (fail); go_wp2; go_ret3; exact ⟨rfl, _, World.drewN_drewN _ _ _⟩)


theorem frontUint_any (ad : Option Addr) (n cap : Nat) (most : Int) (z : Nat → Int) (w : World) (hlc : n ≤ cap) (hs : SlAt w ad n z) :
    Calls Tryd.prog 84 #[.slice ad n cap, .int .u64 most] w fun e w' =>
      e = .returned (.tuple #[.int .u64 (uV n z most), .int .i64 (uN n z most), errV (uE n z most)]) ∧ ∃ q, w' = w.drewN q := by
  obtain ⟨hz, hs⟩ := hs
  by_cases hn : n = 0
  · subst hn
    have e : uE 0 z most = 12 := by simp [uE]
    rw [uV, uN, e, if_neg (by decide), if_neg (by decide), errV_12]
    exact (frontUint_nil ad cap most w).mono fun e w' ⟨h1, h2⟩ => ⟨h1, 0, h2⟩
  · obtain ⟨b, off, rfl, hc⟩ := hs (by omega)
    by_cases h8 : 8 < z 0
    · have e : uE n z most = 3 := by simp [uE, hn, h8]
      rw [uV, uN, e, if_neg (by decide), if_neg (by decide), errV_3]
      exact (frontUint_wide b off n cap most z w (by omega) (by simpa using hc 0 (by omega)) h8).mono fun e w' ⟨h1, h2⟩ => ⟨h1, 0, h2⟩
    · have hz0 := hz 0 (by omega)
      rcases numE_cases (n - 1) (behind false z) (z 0).toNat with hE | hE | hE
      · by_cases hm : most < numV (n - 1) (behind false z) (z 0).toNat
        · have e : uE n z most = 4 := by simp [uE, hn, h8, hE, hm]
          rw [uV, uN, e, if_neg (by decide), if_neg (by decide), errV_4]
          exact frontUint_range b off n cap most z w (by omega) hlc hz hc (by omega) (by show errV (numE (n - 1) (behind false z) (z 0).toNat) = _; rw [hE, errV_0]) hm
        · have e : uE n z most = 0 := by simp [uE, hn, h8, hE, hm]
          rw [uV, uN, e, if_pos rfl, if_pos rfl, errV_0]
          have hw : ((1 + (z 0).toNat : Nat) : Int) = 1 + z 0 := by omega
          rw [hw]
          exact frontUint_ok b off n cap most z w (by omega) hlc hz hc (by omega) (by show errV (numE (n - 1) (behind false z) (z 0).toNat) = _; rw [hE, errV_0]) hm
      · have e : uE n z most = 3 := by simp [uE, hn, h8, hE]
        rw [uV, uN, e, if_neg (by decide), if_neg (by decide), errV_3]
        exact frontUint_err b off n cap most z w (by omega) hlc hz hc (by omega) 3 (by show errV (numE (n - 1) (behind false z) (z 0).toNat) = _; rw [hE, errV_3])
      · have e : uE n z most = 12 := by simp [uE, hn, h8, hE]
        rw [uV, uN, e, if_neg (by decide), if_neg (by decide), errV_12]
        exact frontUint_err b off n cap most z w (by omega) hlc hz hc (by omega) 12 (by show errV (numE (n - 1) (behind false z) (z 0).toNat) = _; rw [hE, errV_12])

end Go.Proofs.YtnjkgpgbipcgcaaDoor
