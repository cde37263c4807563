/- Bytes that lie somewhere; bytes cloned; sums copied. (Parts of Num, Kit, Clone and HashKit, beside OKit.) -/
import Derived.Test.YtbfajoeilpkofaaGreatDoorOwnShelf03
import Derived.Test.YtbfajoeilpkofaaGreatDoorOwnShelf05
import Derived.WalkKit
import Derived.WalkSpells
import Derived.WalkLawsBesides
import Derived.Maps.AppendAt
import Derived.Laws.CopyOwn
import Derived.Deep.MidRow
import Derived.Stop.BytesEq
import Derived.Deep.QuietTactic
import Derived.BigQuiet
namespace Go.Proofs.YtbfajoeilpkofaaGreatDoor
open Go.RowKit
/-- Bytes lie in no block of two cells of which none is a byte. -/
theorem SlAt.ne_two {w : World} {ad : Option Addr} {n : Nat} {z : Nat → Int} (h : SlAt w ad n z) {rb : Nat} {a' : Option Addr} {n' cap' : Nat} {er : Int} {t : TypeId}
    (hr : w.heap[rb]? = some (.cells #[.slice a' n' cap', errV er] t (0, 0))) {b off : Nat} (hn : 0 < n) (e : ad = some ⟨b, off, none⟩) : b ≠ rb := by
  intro hbr
  subst hbr
  obtain ⟨b', off', e', hc⟩ := h.2 hn
  rw [e] at e'; cases e'
  have h0 := hc 0 hn
  rw [World.cell?, hr] at h0
  match off, h0 with
  | 0, h0 => simp at h0
  | 1, h0 => simp [errV] at h0; split at h0 <;> simp at h0
  | o + 2, h0 => simp at h0
/-- Bytes lie in no block of one cell that is a slice. -/
theorem SlAt.ne_one {w : World} {ad : Option Addr} {n : Nat} {z : Nat → Int} (h : SlAt w ad n z) {rb : Nat} {a' : Option Addr} {n' cap' : Nat} {t : TypeId}
    (hr : w.heap[rb]? = some (.cells #[.slice a' n' cap'] t (0, 0))) {b off : Nat} (hn : 0 < n) (e : ad = some ⟨b, off, none⟩) : b ≠ rb := by
  intro hbr
  subst hbr
  obtain ⟨b', off', e', hc⟩ := h.2 hn
  rw [e] at e'; cases e'
  have h0 := hc 0 hn
  rw [World.cell?, hr] at h0
  match off, h0 with
  | 0, h0 => simp at h0
  | o + 1, h0 => simp at h0
set_option maxHeartbeats 400000 in
theorem cloneE_nil (w : World) :
    Calls Tryz.prog 31 #[.slice none 0 0] w fun e w' => e = .returned (.slice none 0 0) ∧ w' = w := by
  have hnil := fun wx => Lib.run_eql_slice_nil (P := Tryz.prog) wx 29 5 none 0 0 0 0 Tryz.underlying29
  go_enter Tryz.func31, Tryz.ntmps31
  go_wp2
  go_ret
  exact ⟨rfl, rfl⟩

set_option maxHeartbeats 400000 in
theorem cloneE_some (a : Addr) (n cap : Nat) (z : Nat → Int) (w : World) (hc : ∀ j u, (bl z n)[j]? = some u → w.cell? (a.add j) = some u) (hn : n ≤ 140737488351232) (hlt : 0 < n → a.block < w.heap.size) :
    Calls Tryz.prog 31 #[.slice (some a) n cap] w fun e w' => ∃ v, e = .returned v ∧ w'.ownsRow w.heap.size 5 1 v n (bl z n) ∧ Below w.heap.size w w' := by
  have hnil : ∀ wx, (binOp .eql 29 (.slice (some a) n cap) (.slice none 0 0)).run Tryz.prog wx = .ok (.bool false) wx := fun wx => Lib.run_eql_slice_nil (P := Tryz.prog) wx 29 5 (some a) n cap 0 0 Tryz.underlying29
  obtain ⟨i0, hi, hz0, hz1, hz2⟩ := info_parts Tryz.infoB
  have H : Hid (Tryz.prog.info? 5 = some i0 ∧ i0.zero = some (.int .u8 0) ∧ i0.size = 1 ∧ i0.bytes = 1) := ⟨hi, hz0, hz1, hz2⟩
  clear hi hz0 hz1 hz2
  have hnews : ∀ j u, (bl z n)[j]? = some u → (w.alloc (.cells #[] 5)).cell? (a.add j) = some u := by
    intro j u h
    have hj := (bl_get h).1
    rw [World.cell?_alloc_lt _ _ _ (by have := hlt (by omega); unfold Addr.add; split <;> exact this)]
    exact hc j u h
  have HC : Hid (∀ j u, (bl z n)[j]? = some u → (w.alloc (.cells #[] 5)).cell? (a.add j) = some u) := hnews
  clear hc hnews
  go_enter Tryz.func31, Tryz.ntmps31
  go_wp2_with (at_builtin; refine wpList_append_own_at _ rfl _ _ 29 rfl w.heap.size 5 i0 (.int .u8 0) 1 1 Tryz.underlying29 H.out.1 H.out.2.1 H.out.2.2.1 H.out.2.2.2 rfl (by decide) _ 0 [] rfl (World.ownsRow_made w #[] 0 (Nat.le_refl _) (Nat.zero_le _) rfl) a n cap (bl z n) rfl (by simp [bl_length]) HC.out (bl_one z n) (by unfold maxLen; omega) (by omega) (by simp) ?_; intro v' w1 hown hgrow _ _)
  go_ret
  refine ⟨v', rfl, by simpa using hown, ?_⟩
  exact ((Below.refl _ _).alloc (Nat.le_refl _) _).grown hgrow (by simp) (fun k hk => Nat.le_of_eq (Option.some.inj (show some w.heap.size = some k from hk)))

theorem cloneE_any (ad : Option Addr) (n cap : Nat) (z : Nat → Int) (w : World) (hs : SlAt w ad n z) (hnil : ad = none → n = 0 ∧ cap = 0) (hn : n ≤ 140737488351232) :
    Calls Tryz.prog 31 #[.slice ad n cap] w fun e w' => ∃ ad' cap', e = .returned (.slice ad' n cap') ∧ n ≤ cap' ∧ SlAt w' ad' n z ∧ (ad' = none → n = 0 ∧ cap' = 0) ∧ (∀ a, ad' = some a → w.heap.size ≤ a.block) ∧ Below w.heap.size w w' := by
  cases ad with
  | none =>
    obtain ⟨rfl, rfl⟩ := hnil rfl
    refine (cloneE_nil w).mono ?_
    rintro e w' ⟨rfl, rfl⟩
    exact ⟨none, 0, rfl, Nat.le_refl _, SlAt.zero _ _, (fun _ => ⟨rfl, rfl⟩), (fun _ h => by cases h), Below.refl _ _⟩
  | some a =>
    refine (cloneE_some a n cap z w ?_ hn ?_).mono ?_
    · intro j u h
      have hj := (bl_get h).1
      obtain ⟨b, off, e, hc⟩ := hs.2 (by omega)
      cases e
      exact bl_cells hc j u h
    · intro h0
      obtain ⟨b, off, e, hc⟩ := hs.2 h0
      cases e
      exact World.block_lt_of_cell? w ⟨b, off + 0, none⟩ (hc 0 h0)
    · rintro e w' ⟨v, rfl, hown, hbel⟩
      obtain ⟨ad', cap', rfl, h1, h2, h3, h4⟩ := own_SlAt hs.1 hown
      exact ⟨ad', cap', rfl, h1, h2, h3, h4, hbel⟩
end Go.Proofs.YtbfajoeilpkofaaGreatDoor
/- What enc.number answers: the number of so many bytes, or the error. -/
namespace Go.Proofs.YtbfajoeilpkofaaGreatDoor
open Go.RowKit

set_option maxHeartbeats 400000 in
theorem number_short (ad : Option Addr) (len cap : Nat) (k t : Int) (w : World) (h : (len : Int) < k) :
    Calls Tryz.prog 117 #[.slice ad len cap, .int .i64 k, .int .u8 t] w fun e w' => e = .returned (.tuple #[.int .u64 0, .iface 72 (.int .i64 12)]) ∧ w' = w := by
  go_enter Tryz.func117, Tryz.ntmps117
  go_wp2
  go_ret2
  exact ⟨rfl, rfl⟩

set_option maxHeartbeats 400000 in
theorem number_form (b off len cap : Nat) (k : Nat) (t : Int) (z : Nat → Int) (w : World) (hk : k ≤ len) (hk0 : 0 < k) (h0 : (z 0 == t) = true) 
    (hc : w.cell? ⟨b, off, none⟩ = some (.int .u8 (z 0))) :
    Calls Tryz.prog 117 #[.slice (some ⟨b, off, none⟩) len cap, .int .i64 k, .int .u8 t] w fun e w' => e = .returned (.tuple #[.int .u64 0, .iface 72 (.int .i64 3)]) ∧ w' = w := by
  go_enter Tryz.func117, Tryz.ntmps117
  go_wp2
  go_ret2
  exact ⟨rfl, rfl⟩

set_option maxHeartbeats 400000 in
theorem number_none (ad : Option Addr) (len cap : Nat) (t : Int) (w : World) (_hlc : len ≤ cap) :
    Calls Tryz.prog 117 #[.slice ad len cap, .int .i64 0, .int .u8 t] w fun e w' => e = .returned (.tuple #[.int .u64 0, .nilIface]) ∧ w' = w := by
  go_enter Tryz.func117, Tryz.ntmps117
  go_wp2
  refine wp_loop_rounds 1 ?_
  rw [rounds_succ]
  go_wp2
  go_ret2
  exact ⟨rfl, rfl⟩

set_option maxHeartbeats 400000 in
theorem number_more (b off len cap : Nat) (k : Nat) (t : Bool) (tn : Int) (htn : tn = if t then 255 else 0) (z : Nat → Int) (w : World) (hk : k ≤ len) (hk8 : k ≤ 8) (hk0 : 0 < k) (hlc : len ≤ cap) (h0 : (z 0 == tn) = false) 
    (hz : ∀ j, j < k → 0 ≤ z j ∧ z j ≤ 255)
    (hc : ∀ j, j < len → w.cell? ⟨b, off + j, none⟩ = some (.int .u8 (z j))) :
    Calls Tryz.prog 117 #[.slice (some ⟨b, off, none⟩) len cap, .int .i64 k, .int .u8 tn] w fun e w' => e = .returned (.tuple #[.int .u64 (valF (fun j => trn t (z j)) k), .nilIface]) ∧ w' = w := by
  have c0 : w.cell? ⟨b, off, none⟩ = some (.int .u8 (z 0)) := by simpa using hc 0 (by omega)
  have HT : Hid (tn = if t then 255 else 0) := htn
  clear htn
  go_enter Tryz.func117, Tryz.ntmps117
  go_wp2
  go_loop [8, 30] (fun n i => ∃ q : Nat, q ≤ k ∧ i = .int .i64 q ∧ n = .int .u64 (valF (fun j => trn t (z j)) q)) (fun _ i => k - (intOf i).toNat)
  case atStart => exact ⟨0, Nat.zero_le _, rfl, rfl⟩
  case round =>
    obtain ⟨q, hq, rfl, rfl⟩ := hrel
    by_cases hlt : q < k
    · have hcq := hc q (by omega)
      have hzq := hz q hlt
      have hb := valF_lt7 (f := fun j => trn t (z j)) (k := q) (by omega) (fun j hj => trn_bd (hz j (by omega)))
      have HS : Hid (bits .or .u64 (valF (fun j => trn t (z j)) q * 256) (IntKind.u64.wrap (bits .xor .u8 (z q) tn)) = valF (fun j => trn t (z j)) (q + 1)) := by
        show _ = _
        rw [xor_trn t tn (z q) HT.out hzq, shift_or _ _ hb (trn_bd hzq)]
        rfl
      go_wp2
      go_round
      case rel => exact ⟨q + 1, by omega, by go_num, by rw [HS.out]⟩
      case measure => simp [intOf]; omega
    · have : q = k := by omega
      subst this
      go_wp2
      go_ret2
      exact ⟨rfl, rfl⟩

/-- An error of the program's, by its number; 0: none. -/
theorem errV_0 : errV 0 = .nilIface := rfl
theorem errV_3 : errV 3 = .iface 72 (.int .i64 3) := rfl
theorem errV_12 : errV 12 = .iface 72 (.int .i64 12) := rfl

theorem number_any (ad : Option Addr) (n cap k : Nat) (t : Bool) (tn : Int) (z : Nat → Int) (w : World) (htn : tn = if t then 255 else 0) (hk8 : k ≤ 8) (hlc : n ≤ cap) (hs : SlAt w ad n z) :
    Calls Tryz.prog 117 #[.slice ad n cap, .int .i64 k, .int .u8 tn] w fun e w' =>
      e = .returned (.tuple #[.int .u64 (numV n (fun j => trn t (z j)) k), errV (numE n (fun j => trn t (z j)) k)]) ∧ w' = w := by
  obtain ⟨hz, hs⟩ := hs
  by_cases h1 : n < k
  · have e : numE n (fun j => trn t (z j)) k = 12 := by simp [numE, h1]
    rw [numV, e, if_neg (by decide), errV_12]
    exact number_short ad n cap k tn w (by omega)
  · by_cases h2 : k = 0
    · subst h2
      have e : numE n (fun j => trn t (z j)) 0 = 0 := by simp [numE]
      rw [numV, e, if_pos rfl, errV_0]
      exact number_none ad n cap tn w hlc
    · obtain ⟨b, off, rfl, hc⟩ := hs (by omega)
      have hz0 := hz 0 (by omega)
      by_cases h3 : z 0 = tn
      · have e : numE n (fun j => trn t (z j)) k = 3 := by
          have : trn t (z 0) = 0 := by rw [h3, htn]; cases t <;> simp [trn]
          simp [numE, h1, this]; omega
        rw [numV, e, if_neg (by decide), errV_3]
        exact number_form b off n cap k tn z w (by omega) (by omega) (by simp [h3]) (by simpa using hc 0 (by omega))
      · have e : numE n (fun j => trn t (z j)) k = 0 := by
          have : trn t (z 0) ≠ 0 := by
            rw [htn] at h3; cases t <;> simp [trn] at h3 ⊢ <;> omega
          simp [numE, h1, this]
        rw [numV, e, if_pos rfl, errV_0]
        exact number_more b off n cap k t tn htn z w (by omega) hk8 (by omega) hlc (by simp [h3]) (fun j hj => hz j (by omega)) hc

theorem number_int (ad : Option Addr) (n cap : Nat) (k : Int) (t : Bool) (tn : Int) (z : Nat → Int) (w : World) (htn : tn = if t then 255 else 0) (h0 : 0 ≤ k) (h8 : k ≤ 8) (hlc : n ≤ cap) (hs : SlAt w ad n z) :
    Calls Tryz.prog 117 #[.slice ad n cap, .int .i64 k, .int .u8 tn] w fun e w' =>
      e = .returned (.tuple #[.int .u64 (numV n (fun j => trn t (z j)) k.toNat), errV (numE n (fun j => trn t (z j)) k.toNat)]) ∧ w' = w := by
  obtain ⟨q, rfl⟩ := Int.eq_ofNat_of_zero_le h0
  exact number_any ad n cap q t tn z w htn (by omega) hlc hs

end Go.Proofs.YtbfajoeilpkofaaGreatDoor
/- What enc.frontUint and enc.frontInt answer. -/
namespace Go.Proofs.YtbfajoeilpkofaaGreatDoor
open Go.RowKit

theorem errV_4 : errV 4 = .iface 72 (.int .i64 4) := rfl

set_option maxHeartbeats 400000 in
theorem frontUint_nil (ad : Option Addr) (cap : Nat) (most : Int) (w : World) :
    Calls Tryz.prog 96 #[.slice ad 0 cap, .int .u64 most] w fun e w' =>
      e = .returned (.tuple #[.int .u64 0, .int .i64 0, .iface 72 (.int .i64 12)]) ∧ w' = w := by
  go_enter Tryz.func96, Tryz.ntmps96
  go_wp2
  go_ret3
  exact ⟨rfl, rfl⟩

set_option maxHeartbeats 400000 in
theorem frontUint_wide (b off n cap : Nat) (most : Int) (z : Nat → Int) (w : World) (hn : 0 < n) (hc : w.cell? ⟨b, off, none⟩ = some (.int .u8 (z 0))) (h8 : 8 < z 0) :
    Calls Tryz.prog 96 #[.slice (some ⟨b, off, none⟩) n cap, .int .u64 most] w fun e w' =>
      e = .returned (.tuple #[.int .u64 0, .int .i64 0, .iface 72 (.int .i64 3)]) ∧ w' = w := by
  go_enter Tryz.func96, Tryz.ntmps96
  go_wp2
  go_ret3
  exact ⟨rfl, rfl⟩

set_option maxHeartbeats 400000 in
theorem frontUint_err (b off n cap : Nat) (most : Int) (z : Nat → Int) (w : World) (hn : 0 < n) (hlc : n ≤ cap) (hz : ∀ j, j < n → 0 ≤ z j ∧ z j ≤ 255) (hc : ∀ j, j < n → w.cell? ⟨b, off + j, none⟩ = some (.int .u8 (z j))) (h8 : z 0 ≤ 8)
    (er : Int) (hE : errV (numE (n - 1) (fun j => trn false (z (j + 1))) (z 0).toNat) = .iface 72 (.int .i64 er)) :
    Calls Tryz.prog 96 #[.slice (some ⟨b, off, none⟩) n cap, .int .u64 most] w fun e w' =>
      e = .returned (.tuple #[.int .u64 0, .int .i64 0, .iface 72 (.int .i64 er)]) ∧ ∃ q, w' = w.drewN q := by
  have c0 : w.cell? ⟨b, off, none⟩ = some (.int .u8 (z 0)) := by simpa using hc 0 hn
  have hz0 := hz 0 hn
  have hn1 : (1 : Int) ≤ (n : Int) := by omega
  have hnc : (n : Int) ≤ (cap : Int) := by omega
  have hs := SlAt.tail hz hc hlc
  clear hc hz
  go_enter Tryz.func96, Tryz.ntmps96
  go_wp2_with fail
  go_quiet ((go_at_call 117; exact Calls.quiet_of_same (number_int _ _ _ (z 0) false 0 (fun j => z (j + 1)) _ rfl hz0.1 h8 (by omega) (hs.drewN _))))
  go_wp2
  all_goals (go_ret3; exact ⟨rfl, _, rfl⟩)

set_option maxHeartbeats 400000 in
theorem frontUint_range (b off n cap : Nat) (most : Int) (z : Nat → Int) (w : World) (hn : 0 < n) (hlc : n ≤ cap) (hz : ∀ j, j < n → 0 ≤ z j ∧ z j ≤ 255) (hc : ∀ j, j < n → w.cell? ⟨b, off + j, none⟩ = some (.int .u8 (z j))) (h8 : z 0 ≤ 8)
    (hE : errV (numE (n - 1) (fun j => trn false (z (j + 1))) (z 0).toNat) = .nilIface) (hm : most < numV (n - 1) (fun j => trn false (z (j + 1))) (z 0).toNat) :
    Calls Tryz.prog 96 #[.slice (some ⟨b, off, none⟩) n cap, .int .u64 most] w fun e w' =>
      e = .returned (.tuple #[.int .u64 0, .int .i64 0, .iface 72 (.int .i64 4)]) ∧ ∃ q, w' = w.drewN q := by
  have c0 : w.cell? ⟨b, off, none⟩ = some (.int .u8 (z 0)) := by simpa using hc 0 hn
  have hz0 := hz 0 hn
  have hn1 : (1 : Int) ≤ (n : Int) := by omega
  have hnc : (n : Int) ≤ (cap : Int) := by omega
  have hs := SlAt.tail hz hc hlc
  clear hc hz
  go_enter Tryz.func96, Tryz.ntmps96
  go_wp2_with fail
  go_quiet ((go_at_call 117; exact Calls.quiet_of_same (number_int _ _ _ (z 0) false 0 (fun j => z (j + 1)) _ rfl hz0.1 h8 (by omega) (hs.drewN _))))
  go_wp2
  all_goals (go_ret3; exact ⟨rfl, _, rfl⟩)

set_option maxHeartbeats 400000 in
theorem frontUint_ok (b off n cap : Nat) (most : Int) (z : Nat → Int) (w : World) (hn : 0 < n) (hlc : n ≤ cap) (hz : ∀ j, j < n → 0 ≤ z j ∧ z j ≤ 255) (hc : ∀ j, j < n → w.cell? ⟨b, off + j, none⟩ = some (.int .u8 (z j))) (h8 : z 0 ≤ 8)
    (hE : errV (numE (n - 1) (fun j => trn false (z (j + 1))) (z 0).toNat) = .nilIface) (hm : ¬ most < numV (n - 1) (fun j => trn false (z (j + 1))) (z 0).toNat) :
    Calls Tryz.prog 96 #[.slice (some ⟨b, off, none⟩) n cap, .int .u64 most] w fun e w' =>
      e = .returned (.tuple #[.int .u64 (numV (n - 1) (fun j => trn false (z (j + 1))) (z 0).toNat), .int .i64 (1 + z 0), .nilIface]) ∧ ∃ q, w' = w.drewN q := by
  have c0 : w.cell? ⟨b, off, none⟩ = some (.int .u8 (z 0)) := by simpa using hc 0 hn
  have hz0 := hz 0 hn
  have hn1 : (1 : Int) ≤ (n : Int) := by omega
  have hnc : (n : Int) ≤ (cap : Int) := by omega
  have hs := SlAt.tail hz hc hlc
  clear hc hz
  go_enter Tryz.func96, Tryz.ntmps96
  go_wp2_with fail
  go_quiet ((go_at_call 117; exact Calls.quiet_of_same (number_int _ _ _ (z 0) false 0 (fun j => z (j + 1)) _ rfl hz0.1 h8 (by omega) (hs.drewN _))))
  go_wp2
  all_goals (go_quiet (fail); go_wp2; go_ret3; exact ⟨rfl, _, World.drewN_drewN _ _ _⟩)


theorem frontUint_any (ad : Option Addr) (n cap : Nat) (most : Int) (z : Nat → Int) (w : World) (hlc : n ≤ cap) (hs : SlAt w ad n z) :
    Calls Tryz.prog 96 #[.slice ad n cap, .int .u64 most] w fun e w' =>
      e = .returned (.tuple #[.int .u64 (uV n z most), .int .i64 (uN n z most), errV (uE n z most)]) ∧ ∃ q, w' = w.drewN q := by
  obtain ⟨hz, hs⟩ := hs
  by_cases hn : n = 0
  · subst hn
    have e : uE 0 z most = 12 := by simp [uE]
    rw [uV, uN, e, if_neg (by decide), if_neg (by decide), errV_12]
    exact (frontUint_nil ad cap most w).mono fun e w' ⟨h1, h2⟩ => ⟨h1, 0, h2⟩
  · obtain ⟨b, off, rfl, hc⟩ := hs (by omega)
    by_cases h8 : 8 < z 0
    · have e : uE n z most = 3 := by simp [uE, hn, h8]
      rw [uV, uN, e, if_neg (by decide), if_neg (by decide), errV_3]
      exact (frontUint_wide b off n cap most z w (by omega) (by simpa using hc 0 (by omega)) h8).mono fun e w' ⟨h1, h2⟩ => ⟨h1, 0, h2⟩
    · have hz0 := hz 0 (by omega)
      rcases numE_cases (n - 1) (behind false z) (z 0).toNat with hE | hE | hE
      · by_cases hm : most < numV (n - 1) (behind false z) (z 0).toNat
        · have e : uE n z most = 4 := by simp [uE, hn, h8, hE, hm]
          rw [uV, uN, e, if_neg (by decide), if_neg (by decide), errV_4]
          exact frontUint_range b off n cap most z w (by omega) hlc hz hc (by omega) (by show errV (numE (n - 1) (behind false z) (z 0).toNat) = _; rw [hE, errV_0]) hm
        · have e : uE n z most = 0 := by simp [uE, hn, h8, hE, hm]
          rw [uV, uN, e, if_pos rfl, if_pos rfl, errV_0]
          have hw : ((1 + (z 0).toNat : Nat) : Int) = 1 + z 0 := by omega
          rw [hw]
          exact frontUint_ok b off n cap most z w (by omega) hlc hz hc (by omega) (by show errV (numE (n - 1) (behind false z) (z 0).toNat) = _; rw [hE, errV_0]) hm
      · have e : uE n z most = 3 := by simp [uE, hn, h8, hE]
        rw [uV, uN, e, if_neg (by decide), if_neg (by decide), errV_3]
        exact frontUint_err b off n cap most z w (by omega) hlc hz hc (by omega) 3 (by show errV (numE (n - 1) (behind false z) (z 0).toNat) = _; rw [hE, errV_3])
      · have e : uE n z most = 12 := by simp [uE, hn, h8, hE]
        rw [uV, uN, e, if_neg (by decide), if_neg (by decide), errV_12]
        exact frontUint_err b off n cap most z w (by omega) hlc hz hc (by omega) 12 (by show errV (numE (n - 1) (behind false z) (z 0).toNat) = _; rw [hE, errV_12])

end Go.Proofs.YtbfajoeilpkofaaGreatDoor
/- What (*enc.Reader).Int and (*enc.Reader).Uint do: the value, what is left, the first error. -/
namespace Go.Proofs.YtbfajoeilpkofaaGreatDoor
open Go.RowKit

/-- A reader at block rb: n bytes z are left, er is the number of its first error (0: none). -/
def RdAt (w : World) (rb n : Nat) (z : Nat → Int) (er : Int) : Prop :=
  ∃ ad cap, w.heap[rb]? = some (.cells #[.slice ad n cap, errV er] 165 (0, 0)) ∧ n ≤ cap ∧ SlAt w ad n z ∧ ∀ b off, 0 < n → ad = some ⟨b, off, none⟩ → b < rb


theorem RdAt.fail {w w1 : World} {rb n cap : Nat} {z : Nat → Int} {er : Int} {ad : Option Addr} (hr : w.heap[rb]? = some (.cells #[.slice ad n cap, errV 0] 165 (0, 0))) (hlc : n ≤ cap) (hs : SlAt w ad n z) (hlb : ∀ b off, 0 < n → ad = some ⟨b, off, none⟩ → b < rb)
    (hf : Frm [] w w1) : RdAt (w1.setCell ⟨rb, 1, none⟩ (errV er)) rb n z er ∧ Frm [rb] w (w1.setCell ⟨rb, 1, none⟩ (errV er)) := by
  have hF : Frm [rb] w (w1.setCell ⟨rb, 1, none⟩ (errV er)) := (hf.mono (fun _ h => by cases h)).setCell _ _ (by simp)
  refine ⟨⟨ad, cap, two_set1 (hf.heap hr (by simp)), hlc, (hs.frm hF fun b off hn e => ?_), hlb⟩, hF⟩
  have := hs.ne_two hr hn e
  simpa using this

theorem RdAt.took {w w1 : World} {rb n cap k : Nat} {z : Nat → Int} {ad ad' : Option Addr} (hr : w.heap[rb]? = some (.cells #[.slice ad n cap, errV 0] 165 (0, 0))) (hlc : n ≤ cap)
    (hs' : SlAt w ad' (n - k) (fun j => z (j + k))) (hlb : ∀ b off, 0 < n - k → ad' = some ⟨b, off, none⟩ → b < rb)
    (hf : Frm [] w w1) : RdAt (w1.setCell ⟨rb, 0, none⟩ (.slice ad' (n - k) (cap - k))) rb (n - k) (fun j => z (j + k)) 0 ∧ Frm [rb] w (w1.setCell ⟨rb, 0, none⟩ (.slice ad' (n - k) (cap - k))) := by
  have hF : Frm [rb] w (w1.setCell ⟨rb, 0, none⟩ (.slice ad' (n - k) (cap - k))) := (hf.mono (fun _ h => by cases h)).setCell _ _ (by simp)
  refine ⟨⟨ad', cap - k, two_set0 (hf.heap hr (by simp)), by omega, (hs'.frm hF fun b off hn e => ?_), hlb⟩, hF⟩
  have := hs'.ne_two hr hn e
  simpa using this

/-- What a reader has left behind k bytes that were taken off. -/
def Took (w w' : World) (rb n cap k : Nat) (ad : Option Addr) : Prop :=
  ∃ ad' q, (ad' = ad ∧ cap = k ∨ ad' = Option.map (fun x => x.add k) ad) ∧ w' = (w.drewN q).setCell ⟨rb, 0, none⟩ (.slice ad' (n - k) (cap - k))
theorem Took.all (w : World) (rb n cap q : Nat) (ad : Option Addr) : Took w ((w.drewN q).setCell ⟨rb, 0, none⟩ (.slice ad (n - cap) 0)) rb n cap cap ad := ⟨ad, q, .inl ⟨rfl, rfl⟩, by simp⟩
theorem Took.some (w : World) (rb n cap k q : Nat) (ad : Option Addr) : Took w ((w.drewN q).setCell ⟨rb, 0, none⟩ (.slice (Option.map (fun x => x.add k) ad) (n - k) (cap - k))) rb n cap k ad := ⟨_, q, .inr rfl, rfl⟩
theorem Took.rd {w0 w w' : World} {rb n cap k : Nat} {ad : Option Addr} {z : Nat → Int} (h : Took w w' rb n cap k ad) (hr : w0.heap[rb]? = Option.some (.cells #[.slice ad n cap, errV 0] 165 (0, 0))) (hlc : n ≤ cap) (hs : SlAt w0 ad n z) (hlb : ∀ b off, 0 < n → ad = Option.some ⟨b, off, none⟩ → b < rb) (hkn : k ≤ n) (hf : Frm [] w0 w) :
    RdAt w' rb (n - k) (fun j => z (j + k)) 0 ∧ Frm [rb] w0 w' := by
  obtain ⟨ad', q, he, rfl⟩ := h
  have hs' : SlAt w0 ad' (n - k) (fun j => z (j + k)) := by
    rcases he with ⟨rfl, hc⟩ | rfl
    · rw [show n - k = 0 from by omega]; exact SlAt.zero _ _
    · exact hs.drop
  refine RdAt.took hr hlc hs' (fun b off hn e => ?_) (hf.drewN q)
  rcases he with ⟨rfl, hc⟩ | rfl
  · exact hlb b off (by omega) e
  · obtain ⟨b0, off0, e0, _⟩ := hs.2 (by omega)
    subst e0
    have hbk : ((⟨b0, off0, none⟩ : Addr).add k).block = b0 := by rw [Addr.add_lit]
    simp only [Option.map_some, Option.some.injEq] at e
    have : b = b0 := by rw [← hbk, e]
    subst this
    exact hlb b off0 (by omega) rfl

set_option maxHeartbeats 400000 in
theorem rdUint_err (rb n cap : Nat) (ad : Option Addr) (z : Nat → Int) (er most : Int) (w : World) (h0 : w.cell? ⟨rb, 0, none⟩ = some (.slice ad n cap)) (h1 : w.cell? ⟨rb, 1, none⟩ = some .nilIface) (hf : w.frozen? ⟨rb, 1, none⟩ = false)
    (hlc : n ≤ cap) (hs : SlAt w ad n z) (hE : errV (uE n z most) = .iface 72 (.int .i64 er)) :
    Calls Tryz.prog 61 #[.pointer (some ⟨rb, 0, none⟩), .int .u64 most] w fun e w' =>
      e = .returned (.int .u64 0) ∧ ∃ q, w' = ((w.alloc (.cells #[.int .u64 most] 92)).drewN q).setCell ⟨rb, 1, none⟩ (.iface 72 (.int .i64 er)) := by
  have hs1 : SlAt (w.alloc (.cells #[.int .u64 most] 92)) ad n z := hs.frm ((Frm.refl [] w).alloc _) (by simp)
  have hlt : rb < w.heap.size := World.block_lt_of_cell? w ⟨rb, 0, none⟩ h0
  go_enter Tryz.func61, Tryz.ntmps61
  go_wp2_with (first | (go_at_call 96; refine (frontUint_any _ _ _ most z _ hlc hs1).mono ?_; rintro e w' ⟨rfl, q, rfl⟩) | go_in)
  go_ret3
  go_wp2
  go_ret
  exact ⟨rfl, q, rfl⟩

set_option maxHeartbeats 400000 in
theorem rdUint_ok (rb n cap k : Nat) (ad : Option Addr) (z : Nat → Int) (most : Int) (w : World) (h0 : w.cell? ⟨rb, 0, none⟩ = some (.slice ad n cap)) (h1 : w.cell? ⟨rb, 1, none⟩ = some .nilIface) (hf : w.frozen? ⟨rb, 0, none⟩ = false)
    (hlc : n ≤ cap) (hs : SlAt w ad n z) (hE : errV (uE n z most) = .nilIface) (hk : uN n z most = k) (hkn : k ≤ n) :
    Calls Tryz.prog 61 #[.pointer (some ⟨rb, 0, none⟩), .int .u64 most] w fun e w' =>
      e = .returned (.int .u64 (uV n z most)) ∧ Took (w.alloc (.cells #[.int .u64 most] 92)) w' rb n cap k ad := by
  have hs1 : SlAt (w.alloc (.cells #[.int .u64 most] 92)) ad n z := hs.frm ((Frm.refl [] w).alloc _) (by simp)
  have hlt : rb < w.heap.size := World.block_lt_of_cell? w ⟨rb, 0, none⟩ h0
  have hkn1 : (k : Int) ≤ (n : Int) := by omega
  have hlc1 : (n : Int) ≤ (cap : Int) := by omega
  have hk0 : (0 : Int) ≤ (k : Int) := by omega
  go_enter Tryz.func61, Tryz.ntmps61
  go_wp2_with (first | (go_at_call 96; refine (frontUint_any _ _ _ most z _ hlc hs1).mono ?_; rintro e w' ⟨rfl, q, rfl⟩) | go_in)
  go_ret3
  go_wp2
  · subst h
    go_ret
    exact ⟨rfl, Took.all _ _ _ _ _ _⟩
  · go_ret
    exact ⟨rfl, Took.some _ _ _ _ _ _ _⟩

theorem rdUint_any (rb n : Nat) (z : Nat → Int) (most : Int) (w : World) (h : RdAt w rb n z 0) :
    Calls Tryz.prog 61 #[.pointer (some ⟨rb, 0, none⟩), .int .u64 most] w fun e w' =>
      e = .returned (.int .u64 (uV n z most)) ∧ Frm [rb] w w' ∧ RdAt w' rb (n - uN n z most) (fun j => z (j + uN n z most)) (uE n z most) := by
  obtain ⟨ad, cap, hr, hlc, hs, hlb⟩ := h
  by_cases hE : uE n z most = 0
  · have hk : uN n z most ≤ n := uN_le hE
    refine (rdUint_ok rb n cap (uN n z most) ad z most w (two_cell0 hr) (two_cell1 hr) (two_free hr 0) hlc hs (by rw [hE]; rfl) rfl hk).mono ?_
    rintro e w' ⟨rfl, ht⟩
    rw [hE]
    have := ht.rd hr hlc hs hlb hk ((Frm.refl [] w).alloc _)
    exact ⟨rfl, this.2, this.1⟩
  · have hN : uN n z most = 0 := by simp [uN, hE]
    have hV : uV n z most = 0 := by simp [uV, hE]
    refine (rdUint_err rb n cap ad z (uE n z most) most w (two_cell0 hr) (two_cell1 hr) (two_free hr 1) hlc hs (errV_ne hE)).mono ?_
    rintro e w' ⟨rfl, q, rfl⟩
    rw [hN, hV, ← errV_ne hE]
    have := RdAt.fail (er := uE n z most) hr hlc hs hlb (((Frm.refl [] w).alloc (.cells #[.int .u64 most] 92)).drewN q)
    exact ⟨rfl, this.2, this.1⟩
end Go.Proofs.YtbfajoeilpkofaaGreatDoor
