/- The document's Spends, Clash, Less and ID. -/
import Derived.Test.YtanchjfodcjlmaaGreatDoorOwnShelf20
import Derived.Test.YtanchjfodcjlmaaGreatDoorOwnShelf17
import Derived.Test.YtanchjfodcjlmaaGreatDoorOwnShelf18
import Derived.Test.YtanchjfodcjlmaaGreatDoorOwnShelf21
import Derived.Test.YtanchjfodcjlmaaGreatDoorOwnShelf25
namespace Go.Proofs.YtanchjfodcjlmaaGreatDoor
open Go.RowKit

theorem isPt_dec (x : Ti) (z : Nat → Int) (k : Int) : decide ((x.n, ub x.pt) = (k, ub z)) = isPt x z k := bool_iff (by
 rw [isPt_iff, decide_eq_true_eq]
 exact ⟨fun h => h.symm, fun h => h.symm⟩)
theorem szTxS : (Tryz.prog.info? 25).map (·.size) = some 3 := by kernel_rfl
theorem szPtS (z : Nat → Int) (n : Int) : (Tryz.prog.info? 45).map (·.size) = some (ptl z n).length := by rw [ptl_length]; kernel_rfl
/-- Bytes that are the same up to a place, and differ there. -/
theorem cb_at : ∀ (i : Nat) (a b : List UInt8) (x y : UInt8), (∀ j, j < i → a[j]? = b[j]?) → a[i]? = some x → b[i]? = some y → x ≠ y → (Lib.compareBytes a b < 0 ↔ x < y)
 | _, [], _, _, _, _, h, _, _ => by simp at h
 | _, _ :: _, [], _, _, _, _, h, _ => by simp at h
 | 0, a :: u, b :: v, x, y, _, h1, h2, hne => by
  simp at h1 h2
  subst h1 h2
  unfold Lib.compareBytes
  by_cases h : a < b
  ·simp [h]
  ·have h3 : b < a := by
    have := UInt8.lt_of_le_of_ne (UInt8.not_lt.1 h) (Ne.symm hne)
    exact this
   simp [h, h3]
 | i + 1, a :: u, b :: v, x, y, h0, h1, h2, hne => by
  have e : a = b := by simpa using h0 0 (by omega)
  subst e
  have ih := cb_at i u v x y (fun j hj => by simpa using h0 (j + 1) (by omega)) (by simpa using h1) (by simpa using h2) hne
  unfold Lib.compareBytes
  have hn : ¬ a < a := UInt8.lt_irrefl a
  simp only [if_neg hn]
  exact ih
theorem ub_at {z : Nat → Int} {i : Nat} (hi : i < 32) : (ub z)[i]? = some (UInt8.ofNat (z i).toNat) := by simp [ub, hi]
theorem less_at {z1 z2 : Nat → Int} {n1 n2 : Int} {i : Nat} (h1 : Hb z1) (h2 : Hb z2) (hi : i < 32) (h : ∀ j, j < i → z1 j = z2 j) (hne : z1 i ≠ z2 i) : lessB z1 n1 z2 n2 = decide (z1 i < z2 i) := by
 have a1 := h1 i hi
 have a2 := h2 i hi
 have hnq : hq z1 z2 = false := by
  simp only [hq, beq_eq_false_iff_ne, ne_eq]
  intro e
  have := congrArg (fun l => l[i]?) e
  simp only [ub_at hi] at this
  exact hne (u8_inj a1 a2 (Option.some.inj this))
 unfold lessB
 rw [hnq]
 simp only [if_neg (show ¬ (false = true) by decide)]
 refine decide_eq_decide.2 ?_
 rw [cb_at i (ub z1) (ub z2) _ _ (fun j hj => by rw [ub_at (by omega), ub_at (by omega), h j hj]) (ub_at hi) (ub_at hi) (fun e => hne (u8_inj a1 a2 e))]
 rw [UInt8.lt_iff_toNat_lt]
 simp
 omega
theorem less_same {z1 z2 : Nat → Int} {n1 n2 : Int} (h : ∀ j, j < 32 → z1 j = z2 j) : lessB z1 n1 z2 n2 = decide (n1 < n2) := by
 have : hq z1 z2 = true := by
  simp only [hq, beq_iff_eq, ub]
  exact List.map_congr_left fun j hj => by rw [h j (List.mem_range.1 hj)]
 unfold lessB
 rw [if_pos this]
set_option maxRecDepth 100000 in
set_option maxHeartbeats 3200000 in
theorem rspends_any (lk : Int) (ia : Option Addr) (n ic : Nat) (oa : Option Addr) (m oc : Nat) (X : Nat → Ti) (S : Nat → Option Addr × Nat) (z : Nat → Int) (k : Int) (w : World) (h : TiAt w ia n X S) (hn : n ≤ 1000000) (hX : ∀ i, i < n → Kp.Ib (X i).n) (hz : Hb z) (hk : Kp.Ib k) :
  Calls Tryz.prog 15 #[.agg (txv lk ia n ic oa m oc), .agg (ptv z k)] w fun e w' => e = .returned (.bool (spB X n z k)) ∧ Below w.heap.size w w' := by
 have HI := hidV (And.intro h (And.intro hX (And.intro hz hk)))
 clear h hX hz hk
 go_enter Tryz.func15, Tryz.ntmps15
 go_upto_region 1 with (first | (refine wpList_boxN rfl _ _ rfl (txv lk ia n ic oa m oc) rfl ?_; intro v1 N1) | (refine wpList_boxN rfl _ _ rfl (ptv z k) rfl ?_; intro v2 N2) | fail)
 have HB : Hid (Below w.heap.size w v2) := Below.transS N1.below N2.below
 have HP : Hid (∀ w', Below v2.heap.size v2 w' → w'.rangeAt v1.heap.size 0 (ptl z k) ∧ w'.cell? ⟨w.heap.size, 1, none⟩ = some (.slice ia n ic)) := fun w' hb => ⟨ptl_range (heap_below hb N2.blk), by rw [cell_of_row _ _ 1 _ _ _ (heap_below hb (N2.old N1.blk))]; rfl⟩
 clear N1 N2
 generalize v1.heap.size = P at *
 go_wp2
 have hb0 := Below.refl v2.heap.size v2
 go_loopw [5] (fun iv wr => ∃ i : Nat, i ≤ n ∧ iv = .int .i64 i ∧ (∀ j, j < i → isPt (X j) z k = false) ∧ Below v2.heap.size v2 wr) (fun iv _ => n + 1 - (intOf iv).toNat)
 case atStart => exact ⟨0, by omega, rfl, fun j hj => by omega, hb0⟩
 case round =>
  clear hb0
  obtain ⟨i, hi, rfl, hk, hb⟩ := hrel
  have HK := hidV (And.intro hk hb)
  clear hk hb
  have c1 := (HP.out wr HK.out.2).2
  by_cases hlt : i < n
  ·have hlt' : (i : Int) < n := by omega
   obtain ⟨b, off, rfl, hc⟩ := HI.out.1.at_ (by omega)
   have HR : Hid (∀ w', Below v2.heap.size v2 w' → w'.rangeAt b (off + i * 35) (ptl (X i).pt (X i).n)) := fun w' hb' => pt_range (range_below (hc i hlt) (Below.transS HB.out hb'))
   clear hc
   go_upto_region 4 with fail
   clear c1
   refine wp_region_noPanic ?_
   refine wp_region_held_drew (S := fun w' => w'.rangeAt P 0 (ptl z k) ∧ w'.cell? ⟨w.heap.size, 1, none⟩ = some (.slice (some ⟨b, off, none⟩) n ic) ∧ w'.rangeAt b (off + i * 35) (ptl (X i).pt (X i).n)) (by kernel_rfl) ⟨(HP.out wr.drew HK.out.2.drew).1, (HP.out wr.drew HK.out.2.drew).2, HR.out wr.drew HK.out.2.drew⟩ (fun hHeld => ?_)
   have HD := hidV HK.out.2.drew
   generalize wr.drew = wd at *
   refine wpT (i := 0) (oi := ⟨some 13, .fieldAddr 25 (.tmp 2) 1, 0, _, _, none⟩) (v := ?_) rfl (by kernel_rfl) (fun _ _ _ h => h) (Or.inl ⟨by rfl, ?_⟩) (by assumption) ?_
   rotate_left
   ·intro wz hSw; (try dsimp only at hSw); go_simp; (try with_reducible rfl)
   try simp only [Act.put, sqA, sqB, sqC]
   refine wpT (i := 1) (oi := ⟨some 14, .load 22 (.tmp 13), 22, _, _, none⟩) (v := ?_) rfl (by kernel_rfl) (fun _ _ _ h => h) (Or.inl ⟨by rfl, ?_⟩) (by assumption) ?_
   rotate_left
   ·intro wz hSw; (try dsimp only at hSw); go_simp; (try with_reducible rfl)
   try simp only [Act.put, sqA, sqB, sqC]
   refine wpT (i := 2) (oi := ⟨some 15, .move (.tmp 5), 3, _, _, none⟩) (v := ?_) rfl (by kernel_rfl) (fun _ _ _ h => h) (Or.inl ⟨by rfl, ?_⟩) (by assumption) ?_
   rotate_left
   ·intro wz hSw; (try dsimp only at hSw); go_simp; (try with_reducible rfl)
   try simp only [Act.put, sqA, sqB, sqC]
   refine wpT (i := 3) (oi := ⟨some 16, .indexAddr 22 (.tmp 14) (.tmp 15), 0, _, _, none⟩) (v := ?_) rfl (by kernel_rfl) (fun _ _ _ h => h) (Or.inl ⟨by rfl, ?_⟩) (by assumption) ?_
   rotate_left
   ·intro wz hSw; (try dsimp only at hSw); go_simp; (try with_reducible rfl)
   try simp only [Act.put, sqA, sqB, sqC]
   refine wpT (i := 4) (oi := ⟨some 17, .fieldAddr 65 (.tmp 16) 0, 0, _, _, none⟩) (v := ?_) rfl (by kernel_rfl) (fun _ _ _ h => h) (Or.inl ⟨by rfl, ?_⟩) (by assumption) ?_
   rotate_left
   ·intro wz hSw; (try dsimp only at hSw); go_simp; (try with_reducible rfl)
   try simp only [Act.put, sqA, sqB, sqC]
   refine wpAnyH_take (i := 5) (oi := ⟨some 18, .load 45 (.tmp 17), 45, _, _, none⟩) rfl (by kernel_rfl) (by kernel_rfl) (by kernel_rfl) (fun _ _ _ h => h) (yieldsIf_load_mid (by rfl) _ _ rfl b (off + i * 35) rfl (ptl (X i).pt (X i).n) _ (fun _ h => h.2.2) Tryz.underlying45 rfl (szPtS _ _)) (by assumption) ?_
   try simp only [Act.put, sqA, sqB, sqC]
   refine wpAnyH_take (i := 6) (oi := ⟨some 19, .load 45 (.tmp 3), 45, _, _, none⟩) rfl (by kernel_rfl) (by kernel_rfl) (by kernel_rfl) (fun _ _ _ h => h) (yieldsIf_load_mid (by rfl) _ _ rfl P 0 rfl (ptl z k) _ (fun _ h => h.1) Tryz.underlying45 rfl (szPtS _ _)) (by assumption) ?_
   try simp only [Act.put, sqA, sqB, sqC]
   have HZ := hidV (And.intro (HI.out.1.pt i hlt) (HI.out.2.1 i hlt))
   cases hqi : isPt (X i) z k with
   | false =>
    have HE := hidV hqi
    refine wpT (i := 7) (oi := ⟨some 20, .binOp .eql 45 (.tmp 18) (.tmp 19) 45, 4, _, _, none⟩) (v := .bool false) rfl (by kernel_rfl) (fun _ _ _ h => h) (Or.inl ⟨by rfl, ?_⟩) (by assumption) ?_
    ·intro wz hSw; (try dsimp only at hSw); exact exec_eqPt _ _ rfl HZ.out.2 HZ.out.1 HI.out.2.2.2 HI.out.2.2.1 false ((isPt_dec _ _ _).trans HE.out) rfl rfl wz
    try simp only [Act.put, sqA, sqB, sqC]
    refine wpAnyH_done (by kernel_rfl) (NoPanic.normal ?_) _
    try simp only [Act.put, sqA, sqB, sqC]
    clear hHeld
    have HN : Hid (∀ j, j < i + 1 → isPt (X j) z k = false) := fun j hj => by
     by_cases e : j = i
     ·subst e; exact hqi
     ·exact HK.out.1 j (by omega)
    clear hqi
    go_wp2
    go_roundw
    case rel => exact ⟨i + 1, by omega, by go_num, HN.out, HD.out⟩
    case measure => simp [intOf]; omega
   | true =>
    have HE := hidV hqi
    refine wpT (i := 7) (oi := ⟨some 20, .binOp .eql 45 (.tmp 18) (.tmp 19) 45, 4, _, _, none⟩) (v := .bool true) rfl (by kernel_rfl) (fun _ _ _ h => h) (Or.inl ⟨by rfl, ?_⟩) (by assumption) ?_
    ·intro wz hSw; (try dsimp only at hSw); exact exec_eqPt _ _ rfl HZ.out.2 HZ.out.1 HI.out.2.2.2 HI.out.2.2.1 true ((isPt_dec _ _ _).trans HE.out) rfl rfl wz
    try simp only [Act.put, sqA, sqB, sqC]
    refine wpAnyH_done (by kernel_rfl) (NoPanic.normal ?_) _
    try simp only [Act.put, sqA, sqB, sqC]
    clear hHeld
    have HN : Hid (spB X n z k = true) := anyB_yes hlt hqi
    clear hqi
    go_wp2
    go_ret
    exact ⟨by rw [HN.out]; rfl, Below.transS HB.out HD.out⟩
  ·obtain rfl : i = n := by omega
   have hnn : ¬ ((i : Int) < i) := by omega
   have HN : Hid (spB X i z k = false) := anyB_no HK.out.1
   go_wp2
   go_ret
   exact ⟨by rw [HN.out]; rfl, Below.transS HB.out HK.out.2⟩
set_option maxRecDepth 100000 in
set_option maxHeartbeats 3200000 in
theorem rclash_any (lk : Int) (ia : Option Addr) (n ic : Nat) (oa : Option Addr) (m oc : Nat) (X : Nat → Ti) (S : Nat → Option Addr × Nat) (lk' : Int) (ja : Option Addr) (n' jc : Nat) (pa : Option Addr) (m' pc : Nat) (Y : Nat → Ti) (S' : Nat → Option Addr × Nat) (w : World)
  (h : TiAt w ia n X S) (h' : TiAt w ja n' Y S') (hn : n ≤ 1000000) (hn' : n' ≤ 1000000) (hX : ∀ i, i < n → Kp.Ib (X i).n) (hY : ∀ i, i < n' → Kp.Ib (Y i).n) :
  Calls Tryz.prog 17 #[.agg (txv lk ia n ic oa m oc), .agg (txv lk' ja n' jc pa m' pc)] w fun e w' => e = .returned (.bool (clB X n Y n')) ∧ Below w.heap.size w w' := by
 have HI := hidV (And.intro h (And.intro h' (And.intro hX hY)))
 clear h h' hX hY
 go_enter Tryz.func17, Tryz.ntmps17
 go_upto_region 1 with (first | (refine wpList_boxN rfl _ _ rfl (txv lk ia n ic oa m oc) rfl ?_; intro v1 N1) | (refine wpList_boxN rfl _ _ rfl (txv lk' ja n' jc pa m' pc) rfl ?_; intro v2 N2) | fail)
 have HB : Hid (Below w.heap.size w v2) := Below.transS N1.below N2.below
 have HP : Hid (∀ w', Below v2.heap.size v2 w' → w'.rangeAt v1.heap.size 0 (txl lk' ja n' jc pa m' pc) ∧ w'.cell? ⟨w.heap.size, 1, none⟩ = some (.slice ia n ic)) := fun w' hb => ⟨txl_range (heap_below hb N2.blk), by rw [cell_of_row _ _ 1 _ _ _ (heap_below hb (N2.old N1.blk))]; rfl⟩
 clear N1 N2
 generalize v1.heap.size = P at *
 go_wp2
 have hb0 := Below.refl v2.heap.size v2
 go_loopw [5] (fun iv wr => ∃ i : Nat, i ≤ n ∧ iv = .int .i64 i ∧ (∀ j, j < i → spB Y n' (X j).pt (X j).n = false) ∧ Below v2.heap.size v2 wr) (fun iv _ => n + 1 - (intOf iv).toNat)
 case atStart => exact ⟨0, by omega, rfl, fun j hj => by omega, hb0⟩
 case round =>
  clear hb0
  obtain ⟨i, hi, rfl, hk, hb⟩ := hrel
  have HK := hidV (And.intro hk hb)
  clear hk hb
  have c1 := (HP.out wr HK.out.2).2
  by_cases hlt : i < n
  ·have hlt' : (i : Int) < n := by omega
   obtain ⟨b, off, rfl, hc⟩ := HI.out.1.at_ (by omega)
   have HR : Hid (∀ w', Below v2.heap.size v2 w' → w'.rangeAt b (off + i * 35) (ptl (X i).pt (X i).n)) := fun w' hb' => pt_range (range_below (hc i hlt) (Below.transS HB.out hb'))
   clear hc
   go_upto_region 4 with fail
   clear c1
   have HS : Hid (∀ w' : World, Below v2.heap.size v2 w' → w'.rangeAt P 0 (txl lk' ja n' jc pa m' pc) ∧ w'.cell? ⟨w.heap.size, 1, none⟩ = some (.slice (some ⟨b, off, none⟩) n ic) ∧ w'.rangeAt b (off + i * 35) (ptl (X i).pt (X i).n)) := fun w' hb' => ⟨(HP.out w' hb').1, (HP.out w' hb').2, HR.out w' hb'⟩
   refine wp_region_noPanic ?_
   refine wp_region_held_drew (S := fun w' => w'.rangeAt P 0 (txl lk' ja n' jc pa m' pc) ∧ w'.cell? ⟨w.heap.size, 1, none⟩ = some (.slice (some ⟨b, off, none⟩) n ic) ∧ w'.rangeAt b (off + i * 35) (ptl (X i).pt (X i).n)) (by kernel_rfl) (HS.out wr.drew HK.out.2.drew) (fun hHeld => ?_)
   have HD := hidV HK.out.2.drew
   generalize wr.drew = wd at *
   refine wpAnyH_take (i := 0) (oi := ⟨some 13, .load 25 (.tmp 3), 25, _, _, none⟩) rfl (by kernel_rfl) (by kernel_rfl) (by kernel_rfl) (fun _ _ _ h => h) (yieldsIf_load_mid (by rfl) _ _ rfl P 0 rfl (txl lk' ja n' jc pa m' pc) _ (fun _ h => h.1) Tryz.underlying25 rfl szTxS) (by assumption) ?_
   try simp only [Act.put, sqA, sqB, sqC]
   refine wpT (i := 1) (oi := ⟨some 14, .fieldAddr 25 (.tmp 2) 1, 0, _, _, none⟩) (v := ?_) rfl (by kernel_rfl) (fun _ _ _ h => h) (Or.inl ⟨by rfl, ?_⟩) (by assumption) ?_
   rotate_left
   ·intro wz hSw; (try dsimp only at hSw); go_simp; (try with_reducible rfl)
   try simp only [Act.put, sqA, sqB, sqC]
   refine wpT (i := 2) (oi := ⟨some 15, .load 22 (.tmp 14), 22, _, _, none⟩) (v := ?_) rfl (by kernel_rfl) (fun _ _ _ h => h) (Or.inl ⟨by rfl, ?_⟩) (by assumption) ?_
   rotate_left
   ·intro wz hSw; (try dsimp only at hSw); go_simp; (try with_reducible rfl)
   try simp only [Act.put, sqA, sqB, sqC]
   refine wpT (i := 3) (oi := ⟨some 16, .move (.tmp 5), 3, _, _, none⟩) (v := ?_) rfl (by kernel_rfl) (fun _ _ _ h => h) (Or.inl ⟨by rfl, ?_⟩) (by assumption) ?_
   rotate_left
   ·intro wz hSw; (try dsimp only at hSw); go_simp; (try with_reducible rfl)
   try simp only [Act.put, sqA, sqB, sqC]
   refine wpT (i := 4) (oi := ⟨some 17, .indexAddr 22 (.tmp 15) (.tmp 16), 0, _, _, none⟩) (v := ?_) rfl (by kernel_rfl) (fun _ _ _ h => h) (Or.inl ⟨by rfl, ?_⟩) (by assumption) ?_
   rotate_left
   ·intro wz hSw; (try dsimp only at hSw); go_simp; (try with_reducible rfl)
   try simp only [Act.put, sqA, sqB, sqC]
   refine wpT (i := 5) (oi := ⟨some 18, .fieldAddr 65 (.tmp 17) 0, 0, _, _, none⟩) (v := ?_) rfl (by kernel_rfl) (fun _ _ _ h => h) (Or.inl ⟨by rfl, ?_⟩) (by assumption) ?_
   rotate_left
   ·intro wz hSw; (try dsimp only at hSw); go_simp; (try with_reducible rfl)
   try simp only [Act.put, sqA, sqB, sqC]
   refine wpAnyH_take (i := 6) (oi := ⟨some 19, .load 45 (.tmp 18), 45, _, _, none⟩) rfl (by kernel_rfl) (by kernel_rfl) (by kernel_rfl) (fun _ _ _ h => h) (yieldsIf_load_mid (by rfl) _ _ rfl b (off + i * 35) rfl (ptl (X i).pt (X i).n) _ (fun _ h => h.2.2) Tryz.underlying45 rfl (szPtS _ _)) (by assumption) ?_
   try simp only [Act.put, sqA, sqB, sqC]
   refine wpAnyH_ready (rs := [7]) (by kernel_rfl) (by simp) ?_
   refine (AllReadyH.cons (o := ⟨some 20, .call { callee := Go.Callee.value (.func 15), args := #[.tmp 13, .tmp 19], argTypes := #[25, 45] }, 4, _, _, none⟩) rfl (fun K hK => ?_) AllReadyH.nil)
   go_simp
   refine (rspends_any lk' ja n' jc pa m' pc Y S' (X i).pt (X i).n wd (HI.out.2.1.below (Below.transS HB.out HD.out)) hn' HI.out.2.2.2 (HI.out.1.pt i hlt) (HI.out.2.2.1 i hlt)).mono ?_
   rintro e we ⟨rfl, hb⟩
   have HD2 := hidV (Below.transS HD.out hb)
   clear hb
   refine hK.out _ _ (HS.out we HD2.out) (fun _ => ?_)
   clear hK K
   try simp only [List.setIfInBounds_toArray, List.set_cons_zero, List.set_cons_succ]
   refine wpAnyH_done (by kernel_rfl) (NoPanic.normal ?_) _
   try simp only [Act.put, sqA, sqB, sqC]
   clear hHeld
   cases hqi : spB Y n' (X i).pt (X i).n with
   | false =>
    have HN : Hid (∀ j, j < i + 1 → spB Y n' (X j).pt (X j).n = false) := fun j hj => by
     by_cases e : j = i
     ·subst e; exact hqi
     ·exact HK.out.1 j (by omega)
    clear hqi
    go_wp2
    go_roundw
    case rel => exact ⟨i + 1, by omega, by go_num, HN.out, HD2.out⟩
    case measure => simp [intOf]; omega
   | true =>
    have HN : Hid (clB X n Y n' = true) := anyB_yes hlt hqi
    clear hqi
    go_wp2
    go_ret
    exact ⟨by rw [HN.out]; rfl, Below.transS HB.out HD2.out⟩
  ·obtain rfl : i = n := by omega
   have hnn : ¬ ((i : Int) < i) := by omega
   have HN : Hid (clB X i Y n' = false) := anyB_no HK.out.1
   go_wp2
   go_ret
   exact ⟨by rw [HN.out]; rfl, Below.transS HB.out HK.out.2⟩
set_option maxRecDepth 100000 in
set_option maxHeartbeats 3200000 in
theorem rless_any (z1 : Nat → Int) (n1 : Int) (z2 : Nat → Int) (n2 : Int) (w : World) (hz1 : Hb z1) (hz2 : Hb z2) :
  Calls Tryz.prog 19 #[.agg (ptv z1 n1), .agg (ptv z2 n2)] w fun e w' => e = .returned (.bool (lessB z1 n1 z2 n2)) ∧ Below w.heap.size w w' := by
 have HZ := hidV (And.intro hz1 hz2)
 clear hz1 hz2
 go_enter Tryz.func19, Tryz.ntmps19
 go_upto_region 1 with (first | (refine wpList_boxN rfl _ _ rfl (ptv z1 n1) rfl ?_; intro v1 N1) | (refine wpList_boxN rfl _ _ rfl (ptv z2 n2) rfl ?_; intro v2 N2) | fail)
 have HB : Hid (Below w.heap.size w v2) := Below.transS N1.below N2.below
 have HP : Hid (∀ w', Below v2.heap.size v2 w' → w'.rangeAt w.heap.size 0 (ptl z1 n1) ∧ w'.rangeAt v1.heap.size 0 (ptl z2 n2)) := fun w' hb => ⟨ptl_range (heap_below hb (N2.old N1.blk)), ptl_range (heap_below hb N2.blk)⟩
 clear N1 N2
 generalize v1.heap.size = P at *
 go_wp2
 have hb0 := Below.refl v2.heap.size v2
 go_loopw [5] (fun iv wr => ∃ i : Nat, i ≤ 32 ∧ iv = .int .i64 i ∧ (∀ j, j < i → z1 j = z2 j) ∧ Below v2.heap.size v2 wr) (fun iv _ => 33 - (intOf iv).toNat)
 case atStart => exact ⟨0, by omega, rfl, fun j hj => by omega, hb0⟩
 case round =>
  clear hb0
  obtain ⟨i, hi, rfl, hk, hb⟩ := hrel
  have HK := hidV (And.intro hk hb)
  clear hk hb
  by_cases hlt : i < 32
  ·have hlt' : (i : Int) < 32 := by omega
   have HS : Hid (∀ w', Below v2.heap.size v2 w' → w'.cell? ⟨w.heap.size, i, none⟩ = some (.int .u8 (z1 i)) ∧ w'.cell? ⟨P, i, none⟩ = some (.int .u8 (z2 i))) := fun w' hb' => ⟨by have := hash_range (HP.out w' hb').1 i _ (bl_at hlt); simpa using this, by have := hash_range (HP.out w' hb').2 i _ (bl_at hlt); simpa using this⟩
   go_upto_region 4 with fail
   refine wp_region_noPanic ?_
   refine wp_region_held_drew (S := fun w' => w'.cell? ⟨w.heap.size, i, none⟩ = some (.int .u8 (z1 i)) ∧ w'.cell? ⟨P, i, none⟩ = some (.int .u8 (z2 i))) (by kernel_rfl) (HS.out wr.drew HK.out.2.drew) (fun hHeld => ?_)
   have HD := hidV HK.out.2.drew
   generalize wr.drew = wd at *
   refine wpT (i := 0) (oi := ⟨some 10, .move (.tmp 5), 3, _, _, none⟩) (v := ?_) rfl (by kernel_rfl) (fun _ _ _ h => h) (Or.inl ⟨by rfl, ?_⟩) (by assumption) ?_
   rotate_left
   ·intro wz hSw; (try dsimp only at hSw); go_simp; (try with_reducible rfl)
   try simp only [Act.put, sqA, sqB, sqC]
   refine wpT (i := 1) (oi := ⟨some 11, .fieldAddr 45 (.tmp 2) 0, 0, _, _, none⟩) (v := ?_) rfl (by kernel_rfl) (fun _ _ _ h => h) (Or.inl ⟨by rfl, ?_⟩) (by assumption) ?_
   rotate_left
   ·intro wz hSw; (try dsimp only at hSw); go_simp; (try with_reducible rfl)
   try simp only [Act.put, sqA, sqB, sqC]
   refine wpT (i := 2) (oi := ⟨some 12, .indexAddr 43 (.tmp 11) (.tmp 10), 0, _, _, none⟩) (v := ?_) rfl (by kernel_rfl) (fun _ _ _ h => h) (Or.inl ⟨by rfl, ?_⟩) (by assumption) ?_
   rotate_left
   ·intro wz hSw; (try dsimp only at hSw); go_simp; (try with_reducible rfl)
   try simp only [Act.put, sqA, sqB, sqC]
   refine wpT (i := 3) (oi := ⟨some 13, .load 5 (.tmp 12), 5, _, _, none⟩) (v := ?_) rfl (by kernel_rfl) (fun _ _ _ h => h) (Or.inl ⟨by rfl, ?_⟩) (by assumption) ?_
   rotate_left
   ·intro wz hSw; (try dsimp only at hSw); go_simp; (try with_reducible rfl)
   try simp only [Act.put, sqA, sqB, sqC]
   refine wpT (i := 4) (oi := ⟨some 14, .move (.tmp 5), 3, _, _, none⟩) (v := ?_) rfl (by kernel_rfl) (fun _ _ _ h => h) (Or.inl ⟨by rfl, ?_⟩) (by assumption) ?_
   rotate_left
   ·intro wz hSw; (try dsimp only at hSw); go_simp; (try with_reducible rfl)
   try simp only [Act.put, sqA, sqB, sqC]
   refine wpT (i := 5) (oi := ⟨some 15, .fieldAddr 45 (.tmp 3) 0, 0, _, _, none⟩) (v := ?_) rfl (by kernel_rfl) (fun _ _ _ h => h) (Or.inl ⟨by rfl, ?_⟩) (by assumption) ?_
   rotate_left
   ·intro wz hSw; (try dsimp only at hSw); go_simp; (try with_reducible rfl)
   try simp only [Act.put, sqA, sqB, sqC]
   refine wpT (i := 6) (oi := ⟨some 16, .indexAddr 43 (.tmp 15) (.tmp 14), 0, _, _, none⟩) (v := ?_) rfl (by kernel_rfl) (fun _ _ _ h => h) (Or.inl ⟨by rfl, ?_⟩) (by assumption) ?_
   rotate_left
   ·intro wz hSw; (try dsimp only at hSw); go_simp; (try with_reducible rfl)
   try simp only [Act.put, sqA, sqB, sqC]
   refine wpT (i := 7) (oi := ⟨some 17, .load 5 (.tmp 16), 5, _, _, none⟩) (v := ?_) rfl (by kernel_rfl) (fun _ _ _ h => h) (Or.inl ⟨by rfl, ?_⟩) (by assumption) ?_
   rotate_left
   ·intro wz hSw; (try dsimp only at hSw); go_simp; (try with_reducible rfl)
   try simp only [Act.put, sqA, sqB, sqC]
   by_cases hne : z1 i = z2 i
   ·skip
    refine wpT (i := 8) (oi := ⟨some 18, .binOp .neq 5 (.tmp 13) (.tmp 17) 5, 4, _, _, none⟩) (v := .bool false) rfl (by kernel_rfl) (fun _ _ _ h => h) (Or.inl ⟨by rfl, ?_⟩) (by assumption) ?_
    ·intro wz hSw; (try dsimp only at hSw); go_simp; try simp [hne]
    try simp only [Act.put, sqA, sqB, sqC]
    refine wpAnyH_done (by kernel_rfl) (NoPanic.normal ?_) _
    try simp only [Act.put, sqA, sqB, sqC]
    clear hHeld
    have HN : Hid (∀ j, j < i + 1 → z1 j = z2 j) := fun j hj => by
     by_cases e : j = i
     ·subst e; exact hne
     ·exact HK.out.1 j (by omega)
    clear hne
    go_wp2
    go_roundw
    case rel => exact ⟨i + 1, by omega, by go_num, HN.out, HD.out⟩
    case measure => simp [intOf]; omega
   ·skip
    refine wpT (i := 8) (oi := ⟨some 18, .binOp .neq 5 (.tmp 13) (.tmp 17) 5, 4, _, _, none⟩) (v := .bool true) rfl (by kernel_rfl) (fun _ _ _ h => h) (Or.inl ⟨by rfl, ?_⟩) (by assumption) ?_
    ·intro wz hSw; (try dsimp only at hSw); go_simp; try simp [hne]
    try simp only [Act.put, sqA, sqB, sqC]
    refine wpAnyH_done (by kernel_rfl) (NoPanic.normal ?_) _
    try simp only [Act.put, sqA, sqB, sqC]
    clear hHeld
    have HN : Hid (lessB z1 n1 z2 n2 = decide (z1 i < z2 i)) := less_at HZ.out.1 HZ.out.2 hlt HK.out.1 hne
    clear hne
    go_upto_region 5 with fail
    refine wp_region_noPanic ?_
    refine wp_region_held_drew (S := fun w' => w'.cell? ⟨w.heap.size, i, none⟩ = some (.int .u8 (z1 i)) ∧ w'.cell? ⟨P, i, none⟩ = some (.int .u8 (z2 i))) (by kernel_rfl) (HS.out wd.drew HD.out.drew) (fun hHeld => ?_)
    have HD2 := hidV HD.out.drew
    generalize wd.drew = we at *
    refine wpT (i := 0) (oi := ⟨some 19, .move (.tmp 5), 3, _, _, none⟩) (v := ?_) rfl (by kernel_rfl) (fun _ _ _ h => h) (Or.inl ⟨by rfl, ?_⟩) (by assumption) ?_
    rotate_left
    ·intro wz hSw; (try dsimp only at hSw); go_simp; (try with_reducible rfl)
    try simp only [Act.put, sqA, sqB, sqC]
    refine wpT (i := 1) (oi := ⟨some 20, .fieldAddr 45 (.tmp 2) 0, 0, _, _, none⟩) (v := ?_) rfl (by kernel_rfl) (fun _ _ _ h => h) (Or.inl ⟨by rfl, ?_⟩) (by assumption) ?_
    rotate_left
    ·intro wz hSw; (try dsimp only at hSw); go_simp; (try with_reducible rfl)
    try simp only [Act.put, sqA, sqB, sqC]
    refine wpT (i := 2) (oi := ⟨some 21, .indexAddr 43 (.tmp 20) (.tmp 19), 0, _, _, none⟩) (v := ?_) rfl (by kernel_rfl) (fun _ _ _ h => h) (Or.inl ⟨by rfl, ?_⟩) (by assumption) ?_
    rotate_left
    ·intro wz hSw; (try dsimp only at hSw); go_simp; (try with_reducible rfl)
    try simp only [Act.put, sqA, sqB, sqC]
    refine wpT (i := 3) (oi := ⟨some 22, .load 5 (.tmp 21), 5, _, _, none⟩) (v := ?_) rfl (by kernel_rfl) (fun _ _ _ h => h) (Or.inl ⟨by rfl, ?_⟩) (by assumption) ?_
    rotate_left
    ·intro wz hSw; (try dsimp only at hSw); go_simp; (try with_reducible rfl)
    try simp only [Act.put, sqA, sqB, sqC]
    refine wpT (i := 4) (oi := ⟨some 23, .move (.tmp 5), 3, _, _, none⟩) (v := ?_) rfl (by kernel_rfl) (fun _ _ _ h => h) (Or.inl ⟨by rfl, ?_⟩) (by assumption) ?_
    rotate_left
    ·intro wz hSw; (try dsimp only at hSw); go_simp; (try with_reducible rfl)
    try simp only [Act.put, sqA, sqB, sqC]
    refine wpT (i := 5) (oi := ⟨some 24, .fieldAddr 45 (.tmp 3) 0, 0, _, _, none⟩) (v := ?_) rfl (by kernel_rfl) (fun _ _ _ h => h) (Or.inl ⟨by rfl, ?_⟩) (by assumption) ?_
    rotate_left
    ·intro wz hSw; (try dsimp only at hSw); go_simp; (try with_reducible rfl)
    try simp only [Act.put, sqA, sqB, sqC]
    refine wpT (i := 6) (oi := ⟨some 25, .indexAddr 43 (.tmp 24) (.tmp 23), 0, _, _, none⟩) (v := ?_) rfl (by kernel_rfl) (fun _ _ _ h => h) (Or.inl ⟨by rfl, ?_⟩) (by assumption) ?_
    rotate_left
    ·intro wz hSw; (try dsimp only at hSw); go_simp; (try with_reducible rfl)
    try simp only [Act.put, sqA, sqB, sqC]
    refine wpT (i := 7) (oi := ⟨some 26, .load 5 (.tmp 25), 5, _, _, none⟩) (v := ?_) rfl (by kernel_rfl) (fun _ _ _ h => h) (Or.inl ⟨by rfl, ?_⟩) (by assumption) ?_
    rotate_left
    ·intro wz hSw; (try dsimp only at hSw); go_simp; (try with_reducible rfl)
    try simp only [Act.put, sqA, sqB, sqC]
    refine wpT (i := 8) (oi := ⟨some 27, .binOp .lss 5 (.tmp 22) (.tmp 26) 5, 4, _, _, none⟩) (v := .bool (decide (z1 i < z2 i))) rfl (by kernel_rfl) (fun _ _ _ h => h) (Or.inl ⟨by rfl, ?_⟩) (by assumption) ?_
    ·intro wz hSw; (try dsimp only at hSw); go_simp; try rfl
    try simp only [Act.put, sqA, sqB, sqC]
    refine wpT (i := 9) (oi := ⟨some 4, .assign (.tmp 27), 4, _, _, none⟩) (v := ?_) rfl (by kernel_rfl) (fun _ _ _ h => h) (Or.inl ⟨by rfl, ?_⟩) (by assumption) ?_
    rotate_left
    ·intro wz hSw; (try dsimp only at hSw); go_simp; (try with_reducible rfl)
    try simp only [Act.put, sqA, sqB, sqC]
    refine wpAnyH_done (by kernel_rfl) (NoPanic.normal ?_) _
    try simp only [Act.put, sqA, sqB, sqC]
    clear hHeld
    go_wp2
    go_ret
    exact ⟨by rw [HN.out]; rfl, Below.transS HB.out HD2.out⟩
  ·obtain rfl : i = 32 := by omega
   have c1 := num_cell (HP.out wr HK.out.2).1
   have c2 := num_cell (HP.out wr HK.out.2).2
   have HN : Hid (lessB z1 n1 z2 n2 = decide (n1 < n2)) := less_same HK.out.1
   have hnn : ¬ (((32 : Nat) : Int) < 32) := by omega
   go_wp2
   go_ret
   exact ⟨by rw [HN.out]; rfl, Below.transS HB.out HK.out.2⟩
set_option maxRecDepth 100000 in
set_option maxHeartbeats 3200000 in
theorem rid_any (lk : Int) (ia : Option Addr) (n ic : Nat) (oa : Option Addr) (m oc : Nat) (X : Nat → Ti) (S : Nat → Option Addr × Nat) (Z : Nat → Nat → Int) (O : Nat → To) (w : World) (h : TiAt w ia n X S) (ho : ToAt w oa m O)
  (hz : ∀ i, i < n → SlAt w (S i).1 (X i).sn (Z i) ∧ (X i).sn ≤ 1000000) (hs : ∀ i, i < m → (O i).cn ≤ 1000 ∧ ∀ j, j < (O i).cn → ((O i).X j).n ≤ 1048576) (hn : n ≤ 1000) (hm : m ≤ 1000) :
  Calls Tryz.prog 21 #[.agg (txv lk ia n ic oa m oc)] w fun e w' => e = .returned (.agg (sv (sumF (nb (idB lk n X Z m O))))) ∧ Below w.heap.size w w' := by
 have hb0 : Below w.heap.size w ((w.alloc (.cells #[.int .i64 lk, .slice ia n ic, .slice oa m oc] 25)).alloc (.cells (sv z32) 43)) := ((Below.refl _ w).alloc (Nat.le_refl _) _).alloc (by simp) _
 have hr0 : ((w.alloc (.cells #[.int .i64 lk, .slice ia n ic, .slice oa m oc] 25)).alloc (.cells (sv z32) 43)).heap[w.heap.size]? = some (.cells #[.int .i64 lk, .slice ia n ic, .slice oa m oc] 25 (0, 0)) := by rw [Below.heap_alloc _ _ _ (by simp)]; exact heap_alloc_new w _
 have hz0 : ((w.alloc (.cells #[.int .i64 lk, .slice ia n ic, .slice oa m oc] 25)).alloc (.cells (sv z32) 43)).heap[w.heap.size + 1]? = some (.cells (sv z32) 43 (0, 0)) := by
  have := heap_alloc_new (w.alloc (.cells #[.int .i64 lk, .slice ia n ic, .slice oa m oc] 25)) (.cells (sv z32) 43)
  simpa using this
 have hc := rtputI_any lk ia n ic oa m oc X S Z O _ (h.below hb0) (ho.below hb0) (fun i hi => ⟨(hz i hi).1.below hb0, (hz i hi).2⟩) hs hn hm
 have HL := idB_len (lk := lk) (X := X) (Z := Z) hn hm hs
 have HL2 : (idB lk n X Z m O).length ≤ 140737488351232 := by
  have h1 := Cd.uB_len (Cd.u64 lk)
  have h2 := Cd.uB_len (Cd.u64 (n : Int))
  have h3 := Cd.uB_len (Cd.u64 (m : Int))
  have h4 := laidIns_len (noS X) Z n (fun j _ => by simp [noS])
  have h5 := laidOuts_len O m hs
  simp only [idB, laidT, laidTx0, List.length_append]
  omega
 obtain ⟨L, hL⟩ : ∃ L, idB lk n X Z m O = L := ⟨_, rfl⟩
 have hRl : (sumF (nb L)).length = 32 := endL_len _
 have HR : Hid (((w.alloc (.cells #[.int .i64 lk, .slice ia n ic, .slice oa m oc] 25)).alloc (.cells (sv z32) 43)).rangeAt w.heap.size 0 (txl lk ia n ic oa m oc)) := txl_range hr0
 rw [show laidT lk n (noS X) Z m O = L from hL] at hc
 rw [hL] at HL2 ⊢
 clear h ho hz hs hL hr0 HL
 unfold txv at hc ⊢
 go_enter Tryz.func21, Tryz.ntmps21
 go_wp2_with (first | (refine wpList_allocHs rfl rfl ?_) | (refine wpList_load_mid rfl 25 _ rfl w.heap.size 0 rfl (txl lk ia n ic oa m oc) _ HR.out Tryz.underlying25 rfl szTxS ?_) | fail)
 generalize (w.alloc (.cells #[.int .i64 lk, .slice ia n ic, .slice oa m oc] 25)).alloc (.cells (sv z32) 43) = W0 at *
 refine hc.mono ?_
 rintro e w1 ⟨v, rfl, hO⟩
 have hOn := hO.own.2
 obtain ⟨ad, cap, rfl, hcap, hsl⟩ := hO.sl
 have hb1 := hO.below
 have hbw : Below w.heap.size w w1 := hb0.trans (hb1.mono hb0.size)
 have hcall := rsum_any ad cap (nb L) w1 (slB_of hsl) (fun e => by
  rw [nb_length]
  rcases hOn with ⟨_, hl⟩ | ⟨g, cp, cu, e2, _⟩
  ·exact hl
  ·rw [e] at e2; cases e2) (nb_lt hsl.1) (by rw [nb_length]; omega)
 rw [nb_length] at hcall
 have hz1 : w1.heap[w.heap.size + 1]? = some (.cells (sv z32) 43 (0, 0)) := by rw [hb1.block _ (lt_of_block hz0)]; exact hz0
 obtain ⟨R, hR⟩ : ∃ R, R = sumF (nb L) := ⟨_, rfl⟩
 have HRR : Hid (R = sumF (nb L)) := hR
 rw [← hR] at hcall hRl
 clear hc hb0 hb1 hz0 hsl hcap hR hO hOn
 go_wp2_with fail
 refine hcall.mono ?_
 rintro e w2 ⟨rfl, hb2⟩
 have hz2 : w2.heap[w.heap.size + 1]? = some (.cells (sv z32) 43 (0, 0)) := by rw [hb2.block _ (lt_of_block hz1)]; exact hz1
 have hb2' : Below w.heap.size w w2 := hbw.trans (hb2.mono hbw.size)
 clear hcall hz1 hb2 hbw
 go_wp2_with (first | (refine wpList_storeRow 43 hsz rfl _ _ rfl (w.heap.size + 1) rfl (sv R) (sv z32) (by rw [sv_size, hRl]) (by simp [sv_size, z32]) (sv_one _) 43 rfl hz2 ?_; intro w3 hg3 hf3) | fail)
 refine bodyPost_ret (results_cell_row Tryz.results21 _ w3 (w.heap.size + 1) 43 (sv R) (0, 0) _ rfl hg3 Tryz.underlying43 rfl (by rw [sv_size, hRl]; exact hsz)) rfl ⟨by rw [HRR.out], hb2'.trans (hf3.below (by have := hb2'.size; omega) (by simp))⟩
end Go.Proofs.YtanchjfodcjlmaaGreatDoor
/- TxPoints: two transactions that are given, two points, and the boxes they lie in. -/
namespace Go.Proofs.YtanchjfodcjlmaaGreatDoor
open Go.RowKit

section
variable {t u : Tc5} {v w w1 : World} {g p q : Gt} {a b : Option Nat} {P Q : Option Gt} {k : Nat}
/-- On the way: two new boxes, two given transactions. -/
structure SyW (t u : Tc5) (v w : World) (a b : Option Nat) (P Q : Option Gt) : Prop where
 below : Below v.heap.size v w
 bx : ∀ k, (a = some k ∨ b = some k) → w.heap[k]? = some (.cells txZ 35 (0, 0)) ∧ v.heap.size ≤ k
 ab : ∀ k l, a = some k → b = some l → k ≠ l
 ip : ∀ g, P = some g → TxIv w t g ∧ g.hi ≤ w.heap.size ∧ ∀ k, (a = some k ∨ b = some k) → k < g.lo ∨ g.hi ≤ k
 iq : ∀ g, Q = some g → TxIv w u g ∧ g.hi ≤ w.heap.size ∧ ∀ k, (a = some k ∨ b = some k) → k < g.lo ∨ g.hi ≤ k
theorem SyW.init (t u : Tc5) (v : World) : SyW t u v v.drew none none none none :=
 ⟨(Below.refl _ _).drew, (fun _ h => by rcases h with h | h <;> cases h), (fun _ _ h => by cases h), (fun _ h => by cases h), (fun _ h => by cases h)⟩
theorem SyW.keep (h : SyW t u v w a b P Q) (hb : Below w.heap.size w w1) : SyW t u v w1 a b P Q :=
 ⟨Below.transS h.below hb, fun k e => ⟨heap_below hb (h.bx k e).1, (h.bx k e).2⟩, h.ab, fun g e => by
  obtain ⟨h1, h3, h4⟩ := h.ip g e
  exact ⟨h1.keep (fun k _ h6 => hb.block k (by omega)), by have := hb.size; omega, h4⟩, fun g e => by
  obtain ⟨h1, h3, h4⟩ := h.iq g e
  exact ⟨h1.keep (fun k _ h6 => hb.block k (by omega)), by have := hb.size; omega, h4⟩⟩
theorem SyW.lt (h : SyW t u v w a b P Q) : ∀ k, (a = some k ∨ b = some k) → k < w.heap.size := fun k e => lt_of_block (h.bx k e).1
theorem SyW.newA (h : SyW t u v w none b P Q) (hk : w1.heap[k]? = some (.cells txZ 35 (0, 0))) (hl : w.heap.size ≤ k) (hb : Below w.heap.size w w1) : SyW t u v w1 (some k) b P Q := by
 have h' := h.keep hb
 refine ⟨h'.below, fun l e => ?_, fun l m e1 e2 => ?_, fun g e => ?_, fun g e => ?_⟩
 ·rcases e with e | e
  ·cases e; exact ⟨hk, by have := h.below.size; omega⟩
  ·exact h'.bx l (.inr e)
 ·cases e1; have := h.lt m (.inr e2); omega
 ·obtain ⟨h1, h3, h4⟩ := h'.ip g e
  refine ⟨h1, h3, fun l e2 => ?_⟩
  rcases e2 with e2 | e2
  ·cases e2; have := (h.ip g e).2.1; omega
  ·exact h4 l (.inr e2)
 ·obtain ⟨h1, h3, h4⟩ := h'.iq g e
  refine ⟨h1, h3, fun l e2 => ?_⟩
  rcases e2 with e2 | e2
  ·cases e2; have := (h.iq g e).2.1; omega
  ·exact h4 l (.inr e2)
theorem SyW.newB (h : SyW t u v w a none P Q) (hk : w1.heap[k]? = some (.cells txZ 35 (0, 0))) (hl : w.heap.size ≤ k) (hb : Below w.heap.size w w1) : SyW t u v w1 a (some k) P Q := by
 have h' := h.keep hb
 refine ⟨h'.below, fun l e => ?_, fun l m e1 e2 => ?_, fun g e => ?_, fun g e => ?_⟩
 ·rcases e with e | e
  ·exact h'.bx l (.inl e)
  ·cases e; exact ⟨hk, by have := h.below.size; omega⟩
 ·cases e2; have := h.lt l (.inl e1); omega
 ·obtain ⟨h1, h3, h4⟩ := h'.ip g e
  refine ⟨h1, h3, fun l e2 => ?_⟩
  rcases e2 with e2 | e2
  ·exact h4 l (.inl e2)
  ·cases e2; have := (h.ip g e).2.1; omega
 ·obtain ⟨h1, h3, h4⟩ := h'.iq g e
  refine ⟨h1, h3, fun l e2 => ?_⟩
  rcases e2 with e2 | e2
  ·exact h4 l (.inl e2)
  ·cases e2; have := (h.iq g e).2.1; omega
theorem SyW.giveP (h : SyW t u v w a b none Q) (hg : TxIv w1 t g) (hlo : g.lo = w.heap.size) (hhi : g.hi = w1.heap.size) (hb : Below w.heap.size w w1) : SyW t u v w1 a b (some g) Q := by
 have h' := h.keep hb
 refine ⟨h'.below, h'.bx, h'.ab, fun l e => ?_, h'.iq⟩
 cases e; exact ⟨hg, by omega, fun k e => .inl (by have := h.lt k e; omega)⟩
theorem SyW.giveQ (h : SyW t u v w a b P none) (hg : TxIv w1 u g) (hlo : g.lo = w.heap.size) (hhi : g.hi = w1.heap.size) (hb : Below w.heap.size w w1) : SyW t u v w1 a b P (some g) := by
 have h' := h.keep hb
 refine ⟨h'.below, h'.bx, h'.ab, h'.ip, fun l e => ?_⟩
 cases e; exact ⟨hg, by omega, fun k e => .inl (by have := h.lt k e; omega)⟩
/-- Behind the stores. -/
structure SyQ (t u : Tc5) (v w : World) (A B : Nat) (p q : Gt) : Prop where
 below : Below v.heap.size v w
 pa : w.rangeAt A 0 (txl t.lk p.ia t.n p.ic p.oa t.m p.oc)
 pb : w.rangeAt B 0 (txl u.lk q.ia u.n q.ic q.oa u.m q.oc)
 xa : TxAt w t.lk t.n t.X t.Z t.m t.O p.ia p.oa p.S
 xb : TxAt w u.lk u.n u.X u.Z u.m u.O q.ia q.oa q.S
theorem SyQ.keep {A B : Nat} (h : SyQ t u v w A B p q) (hb : Below w.heap.size w w1) : SyQ t u v w1 A B p q :=
 ⟨Below.transS h.below hb, range_below h.pa hb, range_below h.pb hb, h.xa.below hb, h.xb.below hb⟩
/-- What a transaction must be for that. -/
def TxLim (t : Tc5) : Prop := ∀ k, k < t.n → Hb (t.X k).pt ∧ (t.X k).sn ≤ 1000000
theorem SyW.stored {w2 : World} {A B : Nat} (h : SyW t u v w (some A) (some B) (some p) (some q)) (ht : TxLim t) (hu : TxLim u)
  (hg1 : w1.heap[A]? = some (.cells (txvG t t.lk p) 35 (0, 0))) (hf1 : Frm [A] w w1)
  (hg2 : w2.heap[B]? = some (.cells (txvG u u.lk q) 35 (0, 0))) (hf2 : Frm [B] w1 w2) : SyQ t u v w2 A B p q := by
 have hA := h.bx A (.inl rfl)
 have hB := h.bx B (.inr rfl)
 have nab := h.ab A B rfl rfl
 have b1 : Below v.heap.size v w1 := h.below.trans (hf1.below h.below.size (by simp; omega))
 have b2 : Below v.heap.size v w2 := b1.trans (hf2.below b1.size (by simp; omega))
 have hk : ∀ k, k < w.heap.size → k ≠ A → k ≠ B → w2.heap[k]? = w.heap[k]? := fun k h1 h2 h3 => by
  rw [hf2.block k (by have := hf1.size; omega) (by simp; omega), hf1.block k h1 (by simp; omega)]
 obtain ⟨i1, i2, i3⟩ := h.ip p rfl
 obtain ⟨j1, j2, j3⟩ := h.iq q rfl
 have a1 := i3 A (.inl rfl)
 have a2 := i3 B (.inr rfl)
 have c1 := j3 A (.inl rfl)
 have c2 := j3 B (.inr rfl)
 have hA2 : w2.heap[A]? = some (.cells (txvG t t.lk p) 35 (0, 0)) := by
  rw [hf2.block A (by have := lt_of_block hA.1; have := hf1.size; omega) (by simp; omega)]; exact hg1
 exact ⟨b2, txl_range hA2, txl_range hg2, (i1.keep (fun k k1 k2 => hk k (by omega) (by omega) (by omega))).tx (fun k e => (ht k e).1) (fun k e => (ht k e).2), (j1.keep (fun k k1 k2 => hk k (by omega) (by omega) (by omega))).tx (fun k e => (hu k e).1) (fun k e => (hu k e).2)⟩
def ptZ : Array Value := ptv (fun _ => 0) 0
/-- Two new boxes for points. -/
structure PzW (v w : World) (a b : Option Nat) : Prop where
 below : Below v.heap.size v w
 bx : ∀ k, (a = some k ∨ b = some k) → w.heap[k]? = some (.cells ptZ 47 (0, 0)) ∧ v.heap.size ≤ k
 ab : ∀ k l, a = some k → b = some l → k ≠ l
theorem PzW.init (v : World) : PzW v v.drew none none := ⟨(Below.refl _ _).drew, (fun _ h => by rcases h with h | h <;> cases h), (fun _ _ h => by cases h)⟩
theorem PzW.newA (h : PzW v w none b) (hk : w1.heap[k]? = some (.cells ptZ 47 (0, 0))) (hl : w.heap.size ≤ k) (hb : Below w.heap.size w w1) : PzW v w1 (some k) b := by
 refine ⟨Below.transS h.below hb, fun l e => ?_, fun l m e1 e2 => ?_⟩
 ·rcases e with e | e
  ·cases e; exact ⟨hk, by have := h.below.size; omega⟩
  ·exact ⟨heap_below hb (h.bx l (.inr e)).1, (h.bx l (.inr e)).2⟩
 ·cases e1; have := lt_of_block (h.bx m (.inr e2)).1; omega
theorem PzW.newB (h : PzW v w a none) (hk : w1.heap[k]? = some (.cells ptZ 47 (0, 0))) (hl : w.heap.size ≤ k) (hb : Below w.heap.size w w1) : PzW v w1 a (some k) := by
 refine ⟨Below.transS h.below hb, fun l e => ?_, fun l m e1 e2 => ?_⟩
 ·rcases e with e | e
  ·exact ⟨heap_below hb (h.bx l (.inl e)).1, (h.bx l (.inl e)).2⟩
  ·cases e; exact ⟨hk, by have := h.below.size; omega⟩
 ·cases e2; have := lt_of_block (h.bx l (.inl e1)).1; omega
theorem PzW.stored {w2 : World} {A B : Nat} {z y : Nat → Int} {n m : Int} (h : PzW v w (some A) (some B))
  (hg1 : w1.heap[A]? = some (.cells (ptv z n) 47 (0, 0))) (hf1 : Frm [A] w w1)
  (hg2 : w2.heap[B]? = some (.cells (ptv y m) 47 (0, 0))) (hf2 : Frm [B] w1 w2) : Below v.heap.size v w2 ∧ w2.rangeAt A 0 (ptl z n) ∧ w2.rangeAt B 0 (ptl y m) := by
 have hA := h.bx A (.inl rfl)
 have hB := h.bx B (.inr rfl)
 have nab := h.ab A B rfl rfl
 have b1 : Below v.heap.size v w1 := h.below.trans (hf1.below h.below.size (by simp; omega))
 have hA2 : w2.heap[A]? = some (.cells (ptv z n) 47 (0, 0)) := by
  rw [hf2.block A (by have := lt_of_block hA.1; have := hf1.size; omega) (by simp; omega)]; exact hg1
 exact ⟨b1.trans (hf2.below b1.size (by simp; omega)), ptl_range hA2, ptl_range hg2⟩
end
section
variable {ops : Array Oper} {rest : List Oper} {o : Oper} {a : Act} {w : World} {Q : Exit → Act → World → Prop} {K : Act → World → Prop} {E : Prop}
theorem wpList_loadWq (hw : Region.wanted o (yielded ops a.tmps) = true) (ty : TypeId) (x : Operand) (ho : o.op = .load ty x)
  (b f : Nat) (hx : a.eval x = .pointer (some ⟨b, f, none⟩)) (cs : List Value) (d : TypeDesc) (hc : w.rangeAt b f cs)
  (hu : Tryz.prog.underlying ty = some d) (hd : d.isRow = true) (hi : (Tryz.prog.info? ty).map (·.size) = some cs.length)
  (h : wpList Tryz.prog ops Q rest (a.put o.dst (.agg cs.toArray)) w) : wpList Tryz.prog ops Q (o :: rest) a w :=
 wpList_step fun K hK => by
  rw [if_pos hw]
  exact wp_load_mid ty x ho b f hx cs d hc hu hd hi (hK _ _ h)
theorem run_allocTxP (w : World) : (Instr.alloc 35 true (.tuple #[])).run Tryz.prog w = .ok (.pointer (some ⟨w.heap.size, 0, none⟩)) (w.alloc (.cells txZ 35)) := by kernel_rfl
theorem step_allocTP (hgd : o.guard = none) (ho : o.op = .alloc 35)
  (h : ∀ k w1, w1.heap[k]? = some (.cells txZ 35 (0, 0)) → w.heap.size ≤ k → Below w.heap.size w w1 → K (a.put o.dst (.pointer (some ⟨k, 0, none⟩))) w1) : if Region.wanted o (yielded ops a.tmps) = true then Oper.wp Tryz.prog o a w K Q else E := by
 have hw : Region.wanted o (yielded ops a.tmps) = true := by simp [Region.wanted, hgd]
 rw [if_pos hw]
 have hr : (execOp a.eval o).run Tryz.prog w = .ok (.value (.pointer (some ⟨w.heap.size, 0, none⟩))) (w.alloc (.cells txZ 35)) := by
  have h1 := run_allocTxP w
  unfold execOp
  simp only [ho] at h1 ⊢
  simp only [Sem.run_bind] at h1 ⊢
  rw [h1]
  rfl
 unfold Oper.wp
 rw [hr]
 have N := new_alloc w txZ 35
 exact h _ _ N.blk (Nat.le_refl _) N.below
theorem step_storeTP (hgd : o.guard = none) (x y : Operand) (ho : o.op = .store 35 x y) (g : Nat) (hx : a.eval x = .pointer (some ⟨g, 0, none⟩)) (t : Tc5) (lk : Int) (q : Gt) (hy : a.eval y = .agg (txv lk q.ia t.n q.ic q.oa t.m q.oc)) (hg : w.heap[g]? = some (.cells txZ 35 (0, 0)))
  (h : ∀ w', w'.heap[g]? = some (.cells (txvG t lk q) 35 (0, 0)) → Frm [g] w w' → K (a.put o.dst undef) w') : if Region.wanted o (yielded ops a.tmps) = true then Oper.wp Tryz.prog o a w K Q else E := by
 have hw : Region.wanted o (yielded ops a.tmps) = true := by simp [Region.wanted, hgd]
 rw [if_pos hw]
 refine wp_store_mid 35 x y ho g 0 (txvG t lk q) hx hy ?_ szTx (txvG_one t lk q) (h _ ?_ (setCells_frm g _ 0 w))
 ·intro j hj
  have hj3 : j < 3 := hj
  refine ⟨?_, ?_⟩
  ·rw [Nat.zero_add, cell_of_row w g j _ _ _ hg]
   have : j < txZ.size := hj3
   simp [this]
  ·rw [Nat.zero_add]; exact frozen_of_row w g j _ _ hg
 ·have := setCells_at g (txvG t lk q).toList 0 w [] txZ.toList 35 (by simpa using hg) rfl (by show (3 : Nat) ≤ 3; exact Nat.le_refl _)
  rw [this]
  rfl
theorem step_allocPP (hgd : o.guard = none) (ho : o.op = .alloc 47)
  (h : ∀ k w1, w1.heap[k]? = some (.cells ptZ 47 (0, 0)) → w.heap.size ≤ k → Below w.heap.size w w1 → K (a.put o.dst (.pointer (some ⟨k, 0, none⟩))) w1) : if Region.wanted o (yielded ops a.tmps) = true then Oper.wp Tryz.prog o a w K Q else E := by
 have hw : Region.wanted o (yielded ops a.tmps) = true := by simp [Region.wanted, hgd]
 rw [if_pos hw]
 have hr : (execOp a.eval o).run Tryz.prog w = .ok (.value (.pointer (some ⟨w.heap.size, 0, none⟩))) (w.alloc (.cells ptZ 47)) := by
  have h1 := run_allocPt w
  unfold execOp
  simp only [ho] at h1 ⊢
  simp only [Sem.run_bind] at h1 ⊢
  rw [h1]
  rfl
 unfold Oper.wp
 rw [hr]
 have N := new_alloc w ptZ 47
 exact h _ _ N.blk (Nat.le_refl _) N.below
theorem step_storePP (hgd : o.guard = none) (x y : Operand) (ho : o.op = .store 47 x y) (g : Nat) (hx : a.eval x = .pointer (some ⟨g, 0, none⟩)) (z : Nat → Int) (n : Int) (hy : a.eval y = .agg (ptv z n)) (hg : w.heap[g]? = some (.cells ptZ 47 (0, 0)))
  (h : ∀ w', w'.heap[g]? = some (.cells (ptv z n) 47 (0, 0)) → Frm [g] w w' → K (a.put o.dst undef) w') : if Region.wanted o (yielded ops a.tmps) = true then Oper.wp Tryz.prog o a w K Q else E := by
 have hw : Region.wanted o (yielded ops a.tmps) = true := by simp [Region.wanted, hgd]
 have hu : ptZ.size = 33 := ptv_size _ _
 rw [if_pos hw]
 refine wp_store_mid 47 x y ho g 0 (ptv z n) hx hy ?_ (by rw [ptv_size]; exact szPt) (all_oneCell_toArray (ptl_one' _ _)) (h _ ?_ (setCells_frm g _ 0 w))
 ·intro j hj
  rw [ptv_size] at hj
  refine ⟨?_, ?_⟩
  ·rw [Nat.zero_add, cell_of_row w g j _ _ _ hg]
   simp [hu, hj]
  ·rw [Nat.zero_add]; exact frozen_of_row w g j _ _ hg
 ·have := setCells_at g (ptv z n).toList 0 w [] ptZ.toList 47 (by simpa using hg) rfl (by simp [hu, ptv_size])
  rw [this]
  simp [ptv_size, hu, List.drop_eq_nil_of_le]
end
/-- Two points' 66 cells. -/
def ppl (z : Nat → Int) (n : Int) (y : Nat → Int) (m : Int) : List Value := ptl z n ++ ptl y m
def ppv (z : Nat → Int) (n : Int) (y : Nat → Int) (m : Int) : Array Value := (ppl z n y m).toArray
theorem ppl_range {w : World} {g : Nat} {z y : Nat → Int} {n m : Int} {t : TypeId} {fr : Nat × Nat} (h : w.heap[g]? = some (.cells (ppv z n y m) t fr)) : w.rangeAt g 0 (ptl z n) ∧ w.rangeAt g 33 (ptl y m) := by
 have h0 : w.rangeAt g 0 (ptl z n ++ ptl y m) := fun j v hv => by
  rw [Nat.zero_add, cell_of_row _ _ j _ _ _ h]
  simpa [ppv, ppl] using hv
 obtain ⟨h1, h2⟩ := range_app h0
 rw [ptl_length] at h2
 exact ⟨h1, h2⟩
/-- What the last statement reads. -/
structure PnR (t u : Tc5) (z : Nat → Int) (n : Int) (y : Nat → Int) (m : Int) (v w : World) (T3 T4 T5 A B C D : Nat) (p q : Gt) : Prop where
 below : Below v.heap.size v w
 r3 : w.rangeAt T3 0 (txl t.lk t.ia t.n t.ic t.oa t.m t.oc)
 r4 : w.rangeAt T4 0 (txl u.lk u.ia u.n u.ic u.oa u.m u.oc)
 r5 : w.rangeAt T5 0 (ptl z n)
 r6 : w.rangeAt T5 33 (ptl y m)
 a : w.rangeAt A 0 (txl t.lk p.ia t.n p.ic p.oa t.m p.oc)
 b : w.rangeAt B 0 (txl u.lk q.ia u.n q.ic q.oa u.m q.oc)
 c : w.rangeAt C 0 (ptl z n)
 d : w.rangeAt D 0 (ptl y m)
 xa : TxAt w t.lk t.n t.X t.Z t.m t.O p.ia p.oa p.S
 xb : TxAt w u.lk u.n u.X u.Z u.m u.O q.ia q.oa q.S
theorem PnR.keep {t u : Tc5} {z y : Nat → Int} {n m : Int} {v w w1 : World} {T3 T4 T5 A B C D : Nat} {p q : Gt} (h : PnR t u z n y m v w T3 T4 T5 A B C D p q) (hb : Below w.heap.size w w1) : PnR t u z n y m v w1 T3 T4 T5 A B C D p q :=
 ⟨Below.transS h.below hb, range_below h.r3 hb, range_below h.r4 hb, range_below h.r5 hb, range_below h.r6 hb, range_below h.a hb, range_below h.b hb, range_below h.c hb, range_below h.d hb, h.xa.below hb, h.xb.below hb⟩
end Go.Proofs.YtanchjfodcjlmaaGreatDoor
