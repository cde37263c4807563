/- StateChecks: the walk. -/
import Derived.Test.YthmmmkldmhjogaaGreatDoorOwnShelf24
import Derived.Test.YthmmmkldmhjogaaGreatDoorOwnShelf25
import Derived.Test.YthmmmkldmhjogaaGreatDoorOwnShelf15
import Derived.Test.YthmmmkldmhjogaaGreatDoorOwnShelf01
import Derived.Test.YthmmmkldmhjogaaGreatDoorOwnShelf22
import Derived.Test.YthmmmkldmhjogaaGreatDoorOwnShelf18
import Derived.Test.YthmmmkldmhjogaaGreatDoorOwnShelf29
import Derived.Test.YthmmmkldmhjogaaGreatDoorOwnShelf17
namespace Go.Proofs.YthmmmkldmhjogaaGreatDoor
open Go.RowKit

theorem Ow.slC {w0 w : World} {v : Value} {L : List Int} (h : Ow w0 w v L) : ∃ ad cap, v = .slice ad L.length cap ∧ SlAt w ad L.length (fn L) ∧ (ad = none → L.length = 0 ∧ cap = 0) := by
 obtain ⟨ad, cp, rfl⟩ := h.form
 obtain ⟨_, hs, hn, _, _⟩ := h.fresh
 exact ⟨ad, cp, rfl, hs, hn⟩
theorem hidC {p : Prop} (h : p) : Hid p := h
theorem svv_row {w : World} {g : Nat} {s : Sv} {p : Pl} {t : TypeId} {fr : Nat × Nat} (h : w.heap[g]? = some (.cells (svv s p) t fr)) : w.rangeAt g 0 (svv s p).toList := fun j v hv => by
 rw [Nat.zero_add, cell_of_row _ _ j _ _ _ h]
 simpa using hv
/-- What the last statement reads, and what lies there. -/
structure Ck (w0 w : World) (s D T : Sv) (p q pd pt : Pl) (B V X Y : Nat) : Prop where
 below : Below w0.heap.size w0 w
 b : w.rangeAt B 0 (svv s p).toList
 v : w.rangeAt V 0 (svv s q).toList
 x : w.rangeAt X 0 (svv D pd).toList
 y : w.rangeAt Y 0 (svv T pt).toList
 sb : SvAt w s p
 sv : SvAt w s q
 sx : SvAt w D pd
 sy : SvAt w T pt
theorem Ck.keep {w0 w w1 : World} {s D T : Sv} {p q pd pt : Pl} {B V X Y : Nat} (h : Ck w0 w s D T p q pd pt B V X Y) (hb : Below w.heap.size w w1) : Ck w0 w1 s D T p q pd pt B V X Y :=
 ⟨h.below.trans (hb.mono h.below.size), range_below h.b hb, range_below h.v hb, range_below h.x hb, range_below h.y hb, h.sb.below hb, h.sv.below hb, h.sx.below hb, h.sy.below hb⟩
set_option maxRecDepth 100000 in
set_option maxHeartbeats 6400000 in
theorem checks_any13 (s : Sv) (p : Pl) (ad : Option Addr) (cap : Nat) (l : List Int) (w : World) (hg : Glob w) (hT : Tab w) (hgl : 3 ≤ w.heap.size) (h : SvAt w s p) (h1 : s.pn ≤ 140737488355328) (h2 : s.hn ≤ 140737488355328) (h3 : ∀ i, i < s.hn → (s.H i).n ≤ 140737488355328)
  (hs : SlAt w ad l.length (fn l)) (hnil : ad = none → l.length = 0 ∧ cap = 0) (hcap : l.length ≤ cap) (hn : l.length ≤ 140737488351232) :
  Calls Tryz.prog 3 #[.agg (svv s p), .slice ad l.length cap] w fun e w' => e = .returned (.bool true) ∧ Below w.heap.size w w' := by
 have hb0 : Below w.heap.size w (w.alloc (.cells (svv s p) 26)) := (Below.refl _ w).alloc (Nat.le_refl _) _
 have hr0 := heap_alloc_new w (.cells (svv s p) 26)
 have hl := long_any s p _ (h.below hb0) h1 h2 h3
 have HF : Hid (∀ w', Below w.heap.size w w' → Glob w' ∧ Tab w' ∧ 3 ≤ w'.heap.size) := fun w' hb => ⟨hg.below hb hg.pos, hT.frm (S := []) (Frm.ofBelow hb) (fun k hk => by cases hk), by have := hb.size; omega⟩
 have HA : Hid (∀ w', Below w.heap.size w w' → SvAt w' s p ∧ SlAt w' ad l.length (fn l)) := fun w' hb => ⟨h.below hb, hs.keepB hb⟩
 have HR0 : Hid ((w.alloc (.cells (svv s p) 26)).rangeAt w.heap.size 0 (svv s p).toList) := svv_row hr0
 have hby : ByQ (some l) := by
  rintro l' h j hj
  cases h
  exact hs.1 j hj
 have HL : Hid (laidS (docT l) = laidS (decT l)) := (laid_T hby).symm
 have HSD : Hid ((decT l).Small ∧ (docT l).Small) := ⟨decT_small l, docT_small l⟩
 have HE : Hid (decE l = docE l) := decE_doc l
 have HG : Hid ((ad = none → l.length = 0 ∧ cap = 0) ∧ l.length ≤ cap ∧ l.length ≤ 140737488351232) := ⟨hnil, hcap, hn⟩
 clear hg hT hgl h h1 h2 h3 hs hnil hcap hn hby
 by_cases hlg : lngS s = true
 ·rw [hlg] at hl
  clear hlg hr0
  go_enter Tryz.func3, Tryz.ntmps3
  go_wp2_with (first | (refine Go.Great.wpList_boxTo rfl _ _ rfl _ rfl _ rfl (svv s p) rfl ?_) | (refine wpList_load_mid rfl 26 _ rfl w.heap.size 0 rfl (svv s p).toList _ HR0.out Tryz.underlying26 rfl szSr ?_) | fail)
  refine hl.mono ?_
  rintro e w1 ⟨rfl, hb1⟩
  clear hl
  go_wp2_with fail
  refine (sure_any w1).mono ?_
  rintro e w2 ⟨rfl, hb2⟩
  have HE2 : Hid (Below w.heap.size w w2) := (hb0.trans (hb1.mono hb0.size)).trans (hb2.mono (by have := hb0.size; have := hb1.size; omega))
  clear hb0 hb1 hb2
  go_wp2
  go_ret
  exact ⟨rfl, HE2.out⟩
 ·have hlf : lngS s = false := by simpa using hlg
  rw [hlf] at hl
  have HSM : Hid s.Small := lngS_no hlf
  clear hlg hlf
  go_enter Tryz.func3, Tryz.ntmps3
  go_wp2_with (first | (refine Go.Great.wpList_boxTo rfl _ _ rfl _ rfl _ rfl (svv s p) rfl ?_) | (refine wpList_load_mid rfl 26 _ rfl w.heap.size 0 rfl (svv s p).toList _ HR0.out Tryz.underlying26 rfl szSr ?_) | fail)
  generalize w.alloc (.cells (svv s p) 26) = W0 at *
  refine hl.mono ?_
  rintro e w1 ⟨rfl, hb1⟩
  have HB1 : Hid (Below w.heap.size w w1) := hb0.trans (hb1.mono hb0.size)
  have HR1 : Hid (∀ w', Below w1.heap.size w1 w' → w'.rangeAt w.heap.size 0 (svv s p).toList) := fun w' hb => range_below (range_below HR0.out hb1) hb
  clear hl hr0 hb0 hb1 HR0
  have k1 := decode_any ad cap l w1 (HA.out w1 HB1.out).2 HG.out.1 HG.out.2.2
  obtain ⟨D, hD⟩ : ∃ D, decT l = D := ⟨_, rfl⟩
  obtain ⟨T, hTT⟩ : ∃ T, docT l = T := ⟨_, rfl⟩
  obtain ⟨er, her⟩ : ∃ er, decE l = er := ⟨_, rfl⟩
  rw [hD, her] at k1
  rw [hD, hTT] at HL HSD
  rw [her] at HE
  have HTT := hidC hTT
  clear hD hTT her
  go_wp2_with fail
  refine k1.mono ?_
  rintro e w2 ⟨pd, rfl, hA2, hb2⟩
  clear k1
  have N2 := heap_alloc_new w2 (.cells (svv D pd) 33)
  have HB2 : Hid (Below w1.heap.size w1 (w2.alloc (.cells (svv D pd) 33))) := hb2.alloc hb2.size _
  have HX2 : Hid ((w2.alloc (.cells (svv D pd) 33)).rangeAt w2.heap.size 0 (svv D pd).toList ∧ SvAt (w2.alloc (.cells (svv D pd) 33)) D pd) := ⟨svv_row N2, hA2.below ((Below.refl _ w2).alloc (Nat.le_refl _) _)⟩
  clear hA2 hb2 N2
  unfold svv at HB2 HX2 ⊢
  go_wp2_with fail
  have k2 := rdecode_any ad cap l (w2.alloc (.cells #[.int .i64 D.nu, .int .i64 D.a, .int .i64 D.b, .slice pd.pa D.pn pd.pc, .slice pd.ha D.hn pd.hc] 33)) (HA.out _ (HB1.out.trans (HB2.out.mono HB1.out.size))).2 HG.out.2.1 HG.out.2.2
  generalize w2.alloc (.cells #[.int .i64 D.nu, .int .i64 D.a, .int .i64 D.b, .slice pd.pa D.pn pd.pc, .slice pd.ha D.hn pd.hc] 33) = W2 at *
  generalize w2.heap.size = X at *
  rw [← HE.out, HTT.out] at k2
  refine k2.mono ?_
  rintro e w3 ⟨pt, rfl, hA3, hb3⟩
  clear k2
  have N3 := heap_alloc_new w3 (.cells (svv T pt) 26)
  have HB3 : Hid (Below W2.heap.size W2 (w3.alloc (.cells (svv T pt) 26))) := hb3.alloc hb3.size _
  have HX3 : Hid ((w3.alloc (.cells (svv T pt) 26)).rangeAt w3.heap.size 0 (svv T pt).toList ∧ SvAt (w3.alloc (.cells (svv T pt) 26)) T pt) := ⟨svv_row N3, hA3.below ((Below.refl _ w3).alloc (Nat.le_refl _) _)⟩
  clear hA3 hb3 N3
  unfold svv at HB3 HX3 ⊢
  have HR3 : Hid ((w3.alloc (.cells #[.int .i64 T.nu, .int .i64 T.a, .int .i64 T.b, .slice pt.pa T.pn pt.pc, .slice pt.ha T.hn pt.hc] 26)).rangeAt w.heap.size 0 (svv s p).toList) := HR1.out _ (HB2.out.trans (HB3.out.mono HB2.out.size))
  go_wp2_with (first | (refine wpList_load_mid rfl 26 _ rfl w.heap.size 0 rfl (svv s p).toList _ HR3.out Tryz.underlying26 rfl szSr ?_) | fail)
  generalize w3.alloc (.cells #[.int .i64 T.nu, .int .i64 T.a, .int .i64 T.b, .slice pt.pa T.pn pt.pc, .slice pt.ha T.hn pt.hc] 26) = W3 at *
  generalize w3.heap.size = Y at *
  have HBW3 : Hid (Below w.heap.size w W3) := (HB1.out.trans (HB2.out.mono HB1.out.size)).trans (HB3.out.mono (by have := HB1.out.size; have := HB2.out.size; omega))
  refine (give_any s p W3 (HA.out W3 HBW3.out).1 HSM.out).mono ?_
  rintro e w4 ⟨⟨q, A, rfl, hO⟩, hb4⟩
  have N4 := heap_alloc_new w4 (.cells (svv s q) 33)
  have HB4 : Hid (Below W3.heap.size W3 (w4.alloc (.cells (svv s q) 33))) := hb4.alloc hb4.size _
  have HX4 : Hid ((w4.alloc (.cells (svv s q) 33)).rangeAt w4.heap.size 0 (svv s q).toList ∧ SvAt (w4.alloc (.cells (svv s q) 33)) s q) := ⟨svv_row N4, hO.at.below ((Below.refl _ w4).alloc (Nat.le_refl _) _)⟩
  clear hO hb4 N4
  unfold svv at HB4 HX4 ⊢
  go_upto_region 6 with fail
  generalize w4.alloc (.cells #[.int .i64 s.nu, .int .i64 s.a, .int .i64 s.b, .slice q.pa s.pn q.pc, .slice q.ha s.hn q.hc] 33) = W4 at *
  generalize w4.heap.size = V at *
  have HC : Hid (Ck w W4 s D T p q pd pt w.heap.size V X Y) := by
   have h34 := HB4.out
   have h24 : Below W2.heap.size W2 W4 := HB3.out.trans (h34.mono HB3.out.size)
   have h14 : Below w1.heap.size w1 W4 := HB2.out.trans (h24.mono HB2.out.size)
   have hw4 : Below w.heap.size w W4 := HBW3.out.trans (h34.mono HBW3.out.size)
   exact ⟨hw4, HR1.out _ h14, HX4.out.1, range_below HX2.out.1 h24, range_below HX3.out.1 h34, (HA.out _ hw4).1, HX4.out.2, HX2.out.2.below h24, HX3.out.2.below h34⟩
  clear HR1 HX2 HX3 HX4 HR3 HB2 HB3 HB4 HBW3
  refine wp_region_noPanic ?_
  refine wp_region_held_drew (S := fun w' => Ck w w' s D T p q pd pt w.heap.size V X Y) (by kernel_rfl) (HC.out.keep (Below.refl _ W4).drew) (fun hHeld => ?_)
  have M0 := hidC (HC.out.keep (Below.refl _ W4).drew)
  clear HC
  generalize W4.drew = z0 at *
  refine wpAnyH_take (i := 0) (oi := ⟨some 25, .load 33 (.tmp 9), 33, _, _, none⟩) rfl (by kernel_rfl) (by kernel_rfl) (by kernel_rfl) (fun _ _ _ h => h) (yieldsIf_load_mid (by rfl) _ _ rfl V 0 rfl (svv s q).toList _ (fun _ h => h.v) Tryz.underlying33 rfl szS) (by assumption) ?_
  try simp only [Act.put, sqA, sqB, sqC]
  refine wpAnyH_take (i := 3) (oi := ⟨some 28, .load 26 (.tmp 2), 26, _, _, none⟩) rfl (by kernel_rfl) (by kernel_rfl) (by kernel_rfl) (fun _ _ _ h => h) (yieldsIf_load_mid (by rfl) _ _ rfl w.heap.size 0 rfl (svv s p).toList _ (fun _ h => h.b) Tryz.underlying26 rfl szSr) (by assumption) ?_
  try simp only [Act.put, sqA, sqB, sqC]
  refine wpAnyH_ready (rs := [1]) (by kernel_rfl) (by simp) ?_
  refine (AllReadyH.cons (o := ⟨some 26, .call { callee := Go.Callee.value (.func 10), args := #[.tmp 25], argTypes := #[33] }, 35, _, _, none⟩) rfl (fun K hK => ?_) AllReadyH.nil)
  go_simp
  refine (check_any s q z0 M0.out.sv HSM.out).mono ?_
  rintro e z1 ⟨rfl, hb⟩
  have M1 := hidC (M0.out.keep hb)
  clear hb M0
  refine hK.out _ _ M1.out (fun _ => ?_)
  clear hK K
  try simp only [List.setIfInBounds_toArray, List.set_cons_zero, List.set_cons_succ]
  refine wpAnyH_ready (rs := [2]) (by kernel_rfl) (by simp) ?_
  refine (AllReadyH.cons (o := ⟨some 27, .call { callee := Go.Callee.value (.func 9), args := #[.tmp 26], argTypes := #[35] }, 3, _, _, none⟩) rfl (fun K hK => ?_) AllReadyH.nil)
  go_simp
  refine (num_any (chkE s) z1 (HF.out z1 M1.out.below).1).mono ?_
  rintro e z2 ⟨rfl, hb⟩
  have M2 := hidC (M1.out.keep hb)
  clear hb M1
  refine hK.out _ _ M2.out (fun _ => ?_)
  clear hK K
  try simp only [List.setIfInBounds_toArray, List.set_cons_zero, List.set_cons_succ]
  refine wpAnyH_ready (rs := [4]) (by kernel_rfl) (by simp) ?_
  refine (AllReadyH.cons (o := ⟨some 29, .call { callee := Go.Callee.value (.func 11), args := #[.tmp 28], argTypes := #[26] }, 3, _, _, none⟩) rfl (fun K hK => ?_) AllReadyH.nil)
  go_simp
  refine (rcheck_any s p z2 M2.out.sb HSM.out).mono ?_
  rintro e z3 ⟨rfl, hb⟩
  have M3 := hidC (M2.out.keep hb)
  clear hb M2
  refine hK.out _ _ M3.out (fun _ => ?_)
  clear hK K
  try simp only [List.setIfInBounds_toArray, List.set_cons_zero, List.set_cons_succ]
  refine wpT (i := 5) (oi := ⟨some 30, .binOp .eql 3 (.tmp 27) (.tmp 29) 3, 4, _, _, none⟩) (v := .bool true) rfl (by kernel_rfl) (fun _ _ _ h => h) (Or.inl ⟨by rfl, ?_⟩) (by assumption) ?_
  ·intro wz hSw; (try dsimp only at hSw); go_simp; try simp
  try simp only [Act.put, sqA, sqB, sqC]
  refine wpT (i := 6) (oi := ⟨some 31, .move (.tmp 30), 4, _, _, none⟩) (v := ?_) rfl (by kernel_rfl) (fun _ _ _ h => h) (Or.inl ⟨by rfl, ?_⟩) (by assumption) ?_
  rotate_left
  ·intro wz hSw; (try dsimp only at hSw); go_simp; (try with_reducible rfl)
  try simp only [Act.put, sqA, sqB, sqC]
  refine wpAnyH_take (i := 7) (oi := ⟨some 32, .load 33 (.tmp 9), 33, _, _, some (6, true)⟩) rfl (by kernel_rfl) (by kernel_rfl) (by kernel_rfl) (fun _ _ _ h => h) (yieldsIf_load_mid (by rfl) _ _ rfl V 0 rfl (svv s q).toList _ (fun _ h => h.v) Tryz.underlying33 rfl szS) (by assumption) ?_
  try simp only [Act.put, sqA, sqB, sqC]
  refine wpAnyH_take (i := 9) (oi := ⟨some 34, .load 26 (.tmp 2), 26, _, _, some (6, true)⟩) rfl (by kernel_rfl) (by kernel_rfl) (by kernel_rfl) (fun _ _ _ h => h) (yieldsIf_load_mid (by rfl) _ _ rfl w.heap.size 0 rfl (svv s p).toList _ (fun _ h => h.b) Tryz.underlying26 rfl szSr) (by assumption) ?_
  try simp only [Act.put, sqA, sqB, sqC]
  refine wpAnyH_ready (rs := [8]) (by kernel_rfl) (by simp) ?_
  refine (AllReadyH.cons (o := ⟨some 33, .call { callee := Go.Callee.value (.func 12), args := #[.tmp 32], argTypes := #[33] }, 3, _, _, some (6, true)⟩) rfl (fun K hK => ?_) AllReadyH.nil)
  go_simp
  refine (total_any s q z3 M3.out.sv HSM.out).mono ?_
  rintro e z4 ⟨rfl, hb⟩
  have M4 := hidC (M3.out.keep hb)
  clear hb M3
  refine hK.out _ _ M4.out (fun _ => ?_)
  clear hK K
  try simp only [List.setIfInBounds_toArray, List.set_cons_zero, List.set_cons_succ]
  refine wpAnyH_ready (rs := [10]) (by kernel_rfl) (by simp) ?_
  refine (AllReadyH.cons (o := ⟨some 35, .call { callee := Go.Callee.value (.func 13), args := #[.tmp 34], argTypes := #[26] }, 3, _, _, some (6, true)⟩) rfl (fun K hK => ?_) AllReadyH.nil)
  go_simp
  refine (rtotal_any s p z4 M4.out.sb HSM.out).mono ?_
  rintro e z5 ⟨rfl, hb⟩
  have M5 := hidC (M4.out.keep hb)
  clear hb M4
  refine hK.out _ _ M5.out (fun _ => ?_)
  clear hK K
  try simp only [List.setIfInBounds_toArray, List.set_cons_zero, List.set_cons_succ]
  refine wpT (i := 11) (oi := ⟨some 36, .binOp .eql 3 (.tmp 33) (.tmp 35) 3, 4, _, _, some (6, true)⟩) (v := .bool true) rfl (by kernel_rfl) (fun _ _ _ h => h) (Or.inl ⟨by rfl, ?_⟩) (by assumption) ?_
  ·intro wz hSw; (try dsimp only at hSw); go_simp; try simp
  try simp only [Act.put, sqA, sqB, sqC]
  refine wpT (i := 12) (oi := ⟨some 37, .pick (.tmp 31) (.tmp 36) (.const (.bool false)), 4, _, _, none⟩) (v := ?_) rfl (by kernel_rfl) (fun _ _ _ h => h) (Or.inl ⟨by rfl, ?_⟩) (by assumption) ?_
  rotate_left
  ·intro wz hSw; (try dsimp only at hSw); go_simp; (try with_reducible rfl)
  try simp only [Act.put, sqA, sqB, sqC]
  refine wpT (i := 13) (oi := ⟨some 38, .move (.tmp 37), 4, _, _, none⟩) (v := ?_) rfl (by kernel_rfl) (fun _ _ _ h => h) (Or.inl ⟨by rfl, ?_⟩) (by assumption) ?_
  rotate_left
  ·intro wz hSw; (try dsimp only at hSw); go_simp; (try with_reducible rfl)
  try simp only [Act.put, sqA, sqB, sqC]
  refine wpAnyH_take (i := 14) (oi := ⟨some 39, .load 33 (.tmp 9), 33, _, _, some (13, true)⟩) rfl (by kernel_rfl) (by kernel_rfl) (by kernel_rfl) (fun _ _ _ h => h) (yieldsIf_load_mid (by rfl) _ _ rfl V 0 rfl (svv s q).toList _ (fun _ h => h.v) Tryz.underlying33 rfl szS) (by assumption) ?_
  try simp only [Act.put, sqA, sqB, sqC]
  refine wpAnyH_take (i := 17) (oi := ⟨some 42, .load 26 (.tmp 2), 26, _, _, some (13, true)⟩) rfl (by kernel_rfl) (by kernel_rfl) (by kernel_rfl) (fun _ _ _ h => h) (yieldsIf_load_mid (by rfl) _ _ rfl w.heap.size 0 rfl (svv s p).toList _ (fun _ h => h.b) Tryz.underlying26 rfl szSr) (by assumption) ?_
  try simp only [Act.put, sqA, sqB, sqC]
  refine wpAnyH_ready (rs := [15]) (by kernel_rfl) (by simp) ?_
  refine (AllReadyH.cons (o := ⟨some 40, .call { callee := Go.Callee.value (.func 14), args := #[.tmp 39], argTypes := #[33] }, 27, _, _, some (13, true)⟩) rfl (fun K hK => ?_) AllReadyH.nil)
  go_simp
  refine (encode_any s q z5 M5.out.sv HSM.out).mono ?_
  rintro e z6 ⟨ea, ec, rfl, hsl, hnl, hb⟩
  obtain ⟨L, hL⟩ : ∃ L, laidS s = L := ⟨_, rfl⟩
  have HLS := hidC hL
  rw [hL] at hsl hnl ⊢
  have M6 := hidC (And.intro (M5.out.keep hb) (And.intro hsl hnl))
  clear hb hsl hnl hL M5
  refine hK.out _ _ M6.out.1 (fun _ => ?_)
  clear hK K
  try simp only [List.setIfInBounds_toArray, List.set_cons_zero, List.set_cons_succ]
  have S3 : Ck w z6 s D T p q pd pt w.heap.size V X Y ∧ (convert 27 9 (.slice ea L.length ec)).run Tryz.prog z6 = .ok (.string (strB (fn L) L.length)) z6 := ⟨M6.out.1, conv_any ea _ ec _ z6 M6.out.2.1 M6.out.2.2⟩
  refine wpAnyH_more (S' := fun w' => Ck w w' s D T p q pd pt w.heap.size V X Y ∧ (convert 27 9 (.slice ea L.length ec)).run Tryz.prog w' = .ok (.string (strB (fn L) L.length)) w') (fun _ h => h.1) _ _ _ _ ?_
  refine wpT (i := 16) (oi := ⟨some 41, .convert 27 9 (.tmp 40), 9, _, _, some (13, true)⟩) (v := .string (strB (fn L) L.length)) rfl (by kernel_rfl) (fun _ _ _ h => h) (Or.inl ⟨by rfl, ?_⟩) (by assumption) ?_
  ·intro wz hSw; (try dsimp only at hSw); have h1 := hSw.2; go_simp; try rfl
  try simp only [Act.put, sqA, sqB, sqC]
  refine wpAnyH_ready (rs := [18]) (by kernel_rfl) (by simp) ?_
  refine (AllReadyH.cons (o := ⟨some 43, .call { callee := Go.Callee.value (.func 15), args := #[.tmp 42], argTypes := #[26] }, 27, _, _, some (13, true)⟩) rfl (fun K hK => ?_) AllReadyH.nil)
  go_simp
  have kr := rencode_any s p z6 M6.out.1.sb HSM.out
  rw [HLS.out] at kr
  refine kr.mono ?_
  rintro e z7 ⟨v2, rfl, hO⟩
  obtain ⟨ra, rc, rfl, hrs, hrn⟩ := hO.slC
  have M7 := hidC (And.intro (M6.out.1.keep hO.below) (And.intro (And.intro (M6.out.2.1.keepB hO.below) M6.out.2.2) (And.intro hrs hrn)))
  clear hO kr hrs hrn S3 M6
  refine hK.out _ _ ⟨M7.out.1, conv_any ea _ ec _ z7 M7.out.2.1.1 M7.out.2.1.2⟩ (fun _ => ?_)
  clear hK K
  try simp only [List.setIfInBounds_toArray, List.set_cons_zero, List.set_cons_succ]
  have S4 : (Ck w z7 s D T p q pd pt w.heap.size V X Y ∧ (convert 27 9 (.slice ea L.length ec)).run Tryz.prog z7 = .ok (.string (strB (fn L) L.length)) z7) ∧ (convert 27 9 (.slice ra L.length rc)).run Tryz.prog z7 = .ok (.string (strB (fn L) L.length)) z7 := ⟨⟨M7.out.1, conv_any ea _ ec _ z7 M7.out.2.1.1 M7.out.2.1.2⟩, conv_any ra _ rc _ z7 M7.out.2.2.1 M7.out.2.2.2⟩
  refine wpAnyH_more (S' := fun w' => (Ck w w' s D T p q pd pt w.heap.size V X Y ∧ (convert 27 9 (.slice ea L.length ec)).run Tryz.prog w' = .ok (.string (strB (fn L) L.length)) w') ∧ (convert 27 9 (.slice ra L.length rc)).run Tryz.prog w' = .ok (.string (strB (fn L) L.length)) w') (fun _ h => h.1) _ _ _ _ ?_
  refine wpT (i := 19) (oi := ⟨some 44, .convert 27 9 (.tmp 43), 9, _, _, some (13, true)⟩) (v := .string (strB (fn L) L.length)) rfl (by kernel_rfl) (fun _ _ _ h => h) (Or.inl ⟨by rfl, ?_⟩) (by assumption) ?_
  ·intro wz hSw; (try dsimp only at hSw); have h1 := hSw.2; go_simp; try rfl
  try simp only [Act.put, sqA, sqB, sqC]
  refine wpT (i := 20) (oi := ⟨some 45, .binOp .eql 9 (.tmp 41) (.tmp 44) 9, 4, _, _, some (13, true)⟩) (v := .bool true) rfl (by kernel_rfl) (fun _ _ _ h => h) (Or.inl ⟨by rfl, ?_⟩) (by assumption) ?_
  ·intro wz hSw; (try dsimp only at hSw); go_simp; try simp
  try simp only [Act.put, sqA, sqB, sqC]
  refine wpT (i := 21) (oi := ⟨some 46, .pick (.tmp 38) (.tmp 45) (.const (.bool false)), 4, _, _, none⟩) (v := ?_) rfl (by kernel_rfl) (fun _ _ _ h => h) (Or.inl ⟨by rfl, ?_⟩) (by assumption) ?_
  rotate_left
  ·intro wz hSw; (try dsimp only at hSw); go_simp; (try with_reducible rfl)
  try simp only [Act.put, sqA, sqB, sqC]
  refine wpT (i := 22) (oi := ⟨some 47, .move (.tmp 46), 4, _, _, none⟩) (v := ?_) rfl (by kernel_rfl) (fun _ _ _ h => h) (Or.inl ⟨by rfl, ?_⟩) (by assumption) ?_
  rotate_left
  ·intro wz hSw; (try dsimp only at hSw); go_simp; (try with_reducible rfl)
  try simp only [Act.put, sqA, sqB, sqC]
  refine wpAnyH_take (i := 23) (oi := ⟨some 48, .load 33 (.tmp 9), 33, _, _, some (22, true)⟩) rfl (by kernel_rfl) (by kernel_rfl) (by kernel_rfl) (fun _ _ _ h => h) (yieldsIf_load_mid (by rfl) _ _ rfl V 0 rfl (svv s q).toList _ (fun _ h => h.1.1.v) Tryz.underlying33 rfl szS) (by assumption) ?_
  try simp only [Act.put, sqA, sqB, sqC]
  refine wpAnyH_take (i := 25) (oi := ⟨some 50, .load 26 (.tmp 2), 26, _, _, some (22, true)⟩) rfl (by kernel_rfl) (by kernel_rfl) (by kernel_rfl) (fun _ _ _ h => h) (yieldsIf_load_mid (by rfl) _ _ rfl w.heap.size 0 rfl (svv s p).toList _ (fun _ h => h.1.1.b) Tryz.underlying26 rfl szSr) (by assumption) ?_
  try simp only [Act.put, sqA, sqB, sqC]
  refine wpAnyH_ready (rs := [24]) (by kernel_rfl) (by simp) ?_
  refine (AllReadyH.cons (o := ⟨some 49, .call { callee := Go.Callee.value (.func 16), args := #[.tmp 48], argTypes := #[33] }, 48, _, _, some (22, true)⟩) rfl (fun K hK => ?_) AllReadyH.nil)
  go_simp
  have ks := stSum_any s q z7 M7.out.1.sv HSM.out (HF.out z7 M7.out.1.below).2.1 (HF.out z7 M7.out.1.below).2.2
  rw [HLS.out] at ks
  refine (ks).mono ?_
  rintro e z8 ⟨rfl, hb⟩
  clear ks
  have M8 := hidC (And.intro (M7.out.1.keep hb) (And.intro (And.intro (M7.out.2.1.1.keepB hb) M7.out.2.1.2) (And.intro (M7.out.2.2.1.keepB hb) M7.out.2.2.2)))
  clear hb M7 S4
  refine hK.out _ _ ⟨⟨M8.out.1, conv_any ea _ ec _ z8 M8.out.2.1.1 M8.out.2.1.2⟩, conv_any ra _ rc _ z8 M8.out.2.2.1 M8.out.2.2.2⟩ (fun _ => ?_)
  clear hK K
  try simp only [List.setIfInBounds_toArray, List.set_cons_zero, List.set_cons_succ]
  refine wpAnyH_ready (rs := [26]) (by kernel_rfl) (by simp) ?_
  refine (AllReadyH.cons (o := ⟨some 51, .call { callee := Go.Callee.value (.func 15), args := #[.tmp 50], argTypes := #[26] }, 27, _, _, some (22, true)⟩) rfl (fun K hK => ?_) AllReadyH.nil)
  go_simp
  have kr := rencode_any s p z8 M8.out.1.sb HSM.out
  rw [HLS.out] at kr
  refine (kr).mono ?_
  rintro e z9 ⟨v3, rfl, hO⟩
  clear kr
  have hb := hO.below
  obtain ⟨sa, sc, rfl, hss, hsn⟩ := hO.slC
  have HS3 := hidC (And.intro hss (And.intro hsn hO.bd))
  clear hO hss hsn
  have M9 := hidC (And.intro (M8.out.1.keep hb) (And.intro (And.intro (M8.out.2.1.1.keepB hb) M8.out.2.1.2) (And.intro (M8.out.2.2.1.keepB hb) M8.out.2.2.2)))
  clear hb M8
  refine hK.out _ _ ⟨⟨M9.out.1, conv_any ea _ ec _ z9 M9.out.2.1.1 M9.out.2.1.2⟩, conv_any ra _ rc _ z9 M9.out.2.2.1 M9.out.2.2.2⟩ (fun _ => ?_)
  clear hK K
  try simp only [List.setIfInBounds_toArray, List.set_cons_zero, List.set_cons_succ]
  have ks := rbsum_any sa sc (nb L) z9 (slB_of HS3.out.1) (fun e => by rw [nb_length]; exact (HS3.out.2.1 e).1) (nb_lt (fun j hj => by rw [fn_get L j hj]; exact HS3.out.2.2 _ (List.getElem_mem hj))) (by rw [nb_length, ← HLS.out]; have := laidS_len s HSM.out; omega)
  rw [nb_length] at ks
  refine wpAnyH_ready (rs := [27]) (by kernel_rfl) (by simp) ?_
  refine (AllReadyH.cons (o := ⟨some 52, .call { callee := Go.Callee.value (.func 17), args := #[.tmp 51], argTypes := #[27] }, 48, _, _, some (22, true)⟩) rfl (fun K hK => ?_) AllReadyH.nil)
  go_simp
  refine (ks).mono ?_
  rintro e z10 ⟨rfl, hb⟩
  clear ks
  have M10 := hidC (And.intro (M9.out.1.keep hb) (And.intro (And.intro (M9.out.2.1.1.keepB hb) M9.out.2.1.2) (And.intro (M9.out.2.2.1.keepB hb) M9.out.2.2.2)))
  clear hb M9
  refine hK.out _ _ ⟨⟨M10.out.1, conv_any ea _ ec _ z10 M10.out.2.1.1 M10.out.2.1.2⟩, conv_any ra _ rc _ z10 M10.out.2.2.1 M10.out.2.2.2⟩ (fun _ => ?_)
  clear hK K
  try simp only [List.setIfInBounds_toArray, List.set_cons_zero, List.set_cons_succ]
  refine wpT (i := 28) (oi := ⟨some 53, .binOp .eql 48 (.tmp 49) (.tmp 52) 48, 4, _, _, some (22, true)⟩) (v := .bool true) rfl (by kernel_rfl) (fun _ _ _ h => h) (Or.inl ⟨by rfl, ?_⟩) (by assumption) ?_
  ·intro wz hSw; (try dsimp only at hSw); exact exec_eqS _ _ rfl (nb L) rfl rfl wz
  try simp only [Act.put, sqA, sqB, sqC]
  refine wpT (i := 29) (oi := ⟨some 54, .pick (.tmp 47) (.tmp 53) (.const (.bool false)), 4, _, _, none⟩) (v := ?_) rfl (by kernel_rfl) (fun _ _ _ h => h) (Or.inl ⟨by rfl, ?_⟩) (by assumption) ?_
  rotate_left
  ·intro wz hSw; (try dsimp only at hSw); go_simp; (try with_reducible rfl)
  try simp only [Act.put, sqA, sqB, sqC]
  refine wpT (i := 30) (oi := ⟨some 55, .move (.tmp 54), 4, _, _, none⟩) (v := ?_) rfl (by kernel_rfl) (fun _ _ _ h => h) (Or.inl ⟨by rfl, ?_⟩) (by assumption) ?_
  rotate_left
  ·intro wz hSw; (try dsimp only at hSw); go_simp; (try with_reducible rfl)
  try simp only [Act.put, sqA, sqB, sqC]
  refine wpAnyH_take (i := 31) (oi := ⟨some 56, .load 33 (.tmp 5), 33, _, _, some (30, true)⟩) rfl (by kernel_rfl) (by kernel_rfl) (by kernel_rfl) (fun _ _ _ h => h) (yieldsIf_load_mid (by rfl) _ _ rfl X 0 rfl (svv D pd).toList _ (fun _ h => h.1.1.x) Tryz.underlying33 rfl szS) (by assumption) ?_
  try simp only [Act.put, sqA, sqB, sqC]
  refine wpT (i := 32) (oi := ⟨some 57, .move (.tmp 6), 35, _, _, some (30, true)⟩) (v := ?_) rfl (by kernel_rfl) (fun _ _ _ h => h) (Or.inl ⟨by rfl, ?_⟩) (by assumption) ?_
  rotate_left
  ·intro wz hSw; (try dsimp only at hSw); go_simp; (try with_reducible rfl)
  try simp only [Act.put, sqA, sqB, sqC]
  refine wpAnyH_take (i := 33) (oi := ⟨some 58, .load 26 (.tmp 7), 26, _, _, some (30, true)⟩) rfl (by kernel_rfl) (by kernel_rfl) (by kernel_rfl) (fun _ _ _ h => h) (yieldsIf_load_mid (by rfl) _ _ rfl Y 0 rfl (svv T pt).toList _ (fun _ h => h.1.1.y) Tryz.underlying26 rfl szSr) (by assumption) ?_
  try simp only [Act.put, sqA, sqB, sqC]
  refine wpT (i := 34) (oi := ⟨some 59, .move (.tmp 8), 3, _, _, some (30, true)⟩) (v := ?_) rfl (by kernel_rfl) (fun _ _ _ h => h) (Or.inl ⟨by rfl, ?_⟩) (by assumption) ?_
  rotate_left
  ·intro wz hSw; (try dsimp only at hSw); go_simp; (try with_reducible rfl)
  try simp only [Act.put, sqA, sqB, sqC]
  refine wpAnyH_ready (rs := [35]) (by kernel_rfl) (by simp) ?_
  refine (AllReadyH.cons (o := ⟨some 60, .call { callee := Go.Callee.value (.func 18), args := #[.tmp 56, .tmp 57, .tmp 58, .tmp 59], argTypes := #[33, 35, 26, 3] }, 4, _, _, some (30, true)⟩) rfl (fun K hK => ?_) AllReadyH.nil)
  go_simp
  refine (same2_any D T pd pt er z10 (HF.out z10 M10.out.1.below).1 M10.out.1.sx M10.out.1.sy HSD.out.1 HSD.out.2 HL.out).mono ?_
  rintro e z11 ⟨rfl, hb⟩
  have M11 := hidC (And.intro (M10.out.1.keep hb) (And.intro (And.intro (M10.out.2.1.1.keepB hb) M10.out.2.1.2) (And.intro (M10.out.2.2.1.keepB hb) M10.out.2.2.2)))
  clear hb M10
  refine hK.out _ _ ⟨⟨M11.out.1, conv_any ea _ ec _ z11 M11.out.2.1.1 M11.out.2.1.2⟩, conv_any ra _ rc _ z11 M11.out.2.2.1 M11.out.2.2.2⟩ (fun _ => ?_)
  clear hK K
  try simp only [List.setIfInBounds_toArray, List.set_cons_zero, List.set_cons_succ]
  refine wpT (i := 36) (oi := ⟨some 61, .pick (.tmp 55) (.tmp 60) (.const (.bool false)), 4, _, _, none⟩) (v := ?_) rfl (by kernel_rfl) (fun _ _ _ h => h) (Or.inl ⟨by rfl, ?_⟩) (by assumption) ?_
  rotate_left
  ·intro wz hSw; (try dsimp only at hSw); go_simp; (try with_reducible rfl)
  try simp only [Act.put, sqA, sqB, sqC]
  refine wpT (i := 37) (oi := ⟨some 62, .move (.tmp 61), 4, _, _, none⟩) (v := ?_) rfl (by kernel_rfl) (fun _ _ _ h => h) (Or.inl ⟨by rfl, ?_⟩) (by assumption) ?_
  rotate_left
  ·intro wz hSw; (try dsimp only at hSw); go_simp; (try with_reducible rfl)
  try simp only [Act.put, sqA, sqB, sqC]
  refine wpAnyH_ready (rs := [38]) (by kernel_rfl) (by simp) ?_
  refine (AllReadyH.cons (o := ⟨some 63, .call { callee := Go.Callee.value (.func 5), args := #[], argTypes := #[] }, 4, _, _, some (37, true)⟩) rfl (fun K hK => ?_) AllReadyH.nil)
  go_simp
  refine (sure_any z11).mono ?_
  rintro e z12 ⟨rfl, hb⟩
  have M12 := hidC (And.intro (M11.out.1.keep hb) (And.intro (And.intro (M11.out.2.1.1.keepB hb) M11.out.2.1.2) (And.intro (M11.out.2.2.1.keepB hb) M11.out.2.2.2)))
  clear hb M11
  refine hK.out _ _ ⟨⟨M12.out.1, conv_any ea _ ec _ z12 M12.out.2.1.1 M12.out.2.1.2⟩, conv_any ra _ rc _ z12 M12.out.2.2.1 M12.out.2.2.2⟩ (fun _ => ?_)
  clear hK K
  try simp only [List.setIfInBounds_toArray, List.set_cons_zero, List.set_cons_succ]
  refine wpT (i := 39) (oi := ⟨some 64, .pick (.tmp 62) (.tmp 63) (.const (.bool false)), 4, _, _, none⟩) (v := ?_) rfl (by kernel_rfl) (fun _ _ _ h => h) (Or.inl ⟨by rfl, ?_⟩) (by assumption) ?_
  rotate_left
  ·intro wz hSw; (try dsimp only at hSw); go_simp; (try with_reducible rfl)
  try simp only [Act.put, sqA, sqB, sqC]
  refine wpT (i := 40) (oi := ⟨some 4, .assign (.tmp 64), 4, _, _, none⟩) (v := ?_) rfl (by kernel_rfl) (fun _ _ _ h => h) (Or.inl ⟨by rfl, ?_⟩) (by assumption) ?_
  rotate_left
  ·intro wz hSw; (try dsimp only at hSw); go_simp; (try with_reducible rfl)
  try simp only [Act.put, sqA, sqB, sqC]
  refine wpAnyH_done (by kernel_rfl) (NoPanic.normal ?_) _
  try simp only [Act.put, sqA, sqB, sqC]
  clear hHeld
  have HZ := hidC M12.out.1.below
  go_wp2
  go_ret
  exact ⟨rfl, HZ.out⟩
end Go.Proofs.YthmmmkldmhjogaaGreatDoor
/- StateChecks: the walk, of a state and bytes that came in. -/
namespace Go.Proofs.YthmmmkldmhjogaaGreatDoor
open Go.RowKit

theorem checks_card13 (s : Sv) (p : Pl) (ad : Option Addr) (len cap : Nat) (z : Nat → Int) (w : World) (hg : Glob w) (hT : Tab w) (hS : StIn w s p) (_ : s.Ib) (hcap : len ≤ cap) (hn : len ≤ 140737488351232) (hs : SlAt w ad len z) (hnil : ad = none → len = 0 ∧ cap = 0) :
  Calls Tryz.prog 3 #[.agg (svv s p), .slice ad len cap] w fun e w' => e = .returned (.bool true) ∧ Below w.heap.size w w' := by
 have hl : ((List.range len).map z).length = len := by simp
 have hz : ∀ j, j < len → z j = fn ((List.range len).map z) j := fun j hj => by
  rw [fn_get _ _ (by rw [hl]; exact hj)]
  simp
 have := checks_any13 s p ad cap ((List.range len).map z) w hg hT hT.size hS.at_ hS.pn hS.hn hS.ks (by rw [hl]; exact hs.congr hz) (by rw [hl]; exact hnil) (by rw [hl]; exact hcap) (by rw [hl]; exact hn)
 rw [hl] at this
 exact this
end Go.Proofs.YthmmmkldmhjogaaGreatDoor
