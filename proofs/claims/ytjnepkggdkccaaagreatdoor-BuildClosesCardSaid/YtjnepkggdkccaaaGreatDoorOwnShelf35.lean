/- bayoulaw14's same: an error's number, and a transaction's bytes on both sides. -/
import Derived.Test.YtjnepkggdkccaaaGreatDoorOwnShelf34
import Derived.Test.YtjnepkggdkccaaaGreatDoorOwnShelf07
import Derived.Test.YtjnepkggdkccaaaGreatDoorOwnShelf29
import Derived.Test.YtjnepkggdkccaaaGreatDoorOwnShelf06
import Derived.Test.YtjnepkggdkccaaaGreatDoorOwnShelf33
import Derived.Test.YtjnepkggdkccaaaGreatDoorOwnShelf20
namespace Go.Proofs.YtjnepkggdkccaaaGreatDoor
open Go.RowKit

theorem conv_row {w0 w : World} {v : Value} {L : List Int} (h : Ow w0 w v L) : (convert 33 9 v).run Tryz.prog w = .ok (.string (strB (fn L) L.length)) w := by
 obtain ⟨ad, cp, rfl⟩ := h.form
 obtain ⟨_, hs, hn, _, _⟩ := h.fresh
 exact conv_any ad _ cp _ w hs hn
/-- A transaction lies in a world: what it says, where its bytes are. -/
structure TxAt (w : World) (lk : Int) (n : Nat) (X : Nat → Ti) (Z : Nat → Nat → Int) (m : Nat) (O : Nat → To) (ia : Option Addr) (oa : Option Addr) (S : Nat → Option Addr × Nat) : Prop where
 ti : TiAt w ia n X S
 ou : ToAt w oa m O
 sc : ∀ i, i < n → SlAt w (S i).1 (X i).sn (Z i) ∧ (X i).sn ≤ 1000000
theorem TxAt.below {w w' : World} {lk : Int} {n : Nat} {X : Nat → Ti} {Z : Nat → Nat → Int} {m : Nat} {O : Nat → To} {ia oa : Option Addr} {S : Nat → Option Addr × Nat} (h : TxAt w lk n X Z m O ia oa S) (hb : Below w.heap.size w w') : TxAt w' lk n X Z m O ia oa S := ⟨h.ti.below hb, h.ou.below hb, fun i hi => ⟨(h.sc i hi).1.below hb, (h.sc i hi).2⟩⟩
/-- Few inputs and outputs. -/
structure Few (n m : Nat) (O : Nat → To) : Prop where
 ln : n ≤ 1000
 lm : m ≤ 1000
 lo : ∀ i, i < m → (O i).cn ≤ 1000 ∧ ∀ j, j < (O i).cn → ((O i).X j).n ≤ 1000
set_option maxRecDepth 100000 in
set_option maxHeartbeats 6400000 in
theorem same14_any (x : Int) (lk : Int) (n : Nat) (X : Nat → Ti) (Z : Nat → Nat → Int) (m : Nat) (O : Nat → To) (ia oa : Option Addr) (ic oc : Nat) (S : Nat → Option Addr × Nat) (ia' oa' : Option Addr) (ic' oc' : Nat) (S' : Nat → Option Addr × Nat) (w : World) (hg : Cd.Glob w) (h : TxAt w lk n X Z m O ia oa S) (h' : TxAt w lk n X Z m O ia' oa' S') (hf : Few n m O) :
  Calls Tryz.prog 18 #[.agg (txv lk ia n ic oa m oc), errV x, .agg (txv lk ia' n ic' oa' m oc'), .int .i64 x] w fun e w' => e = .returned (.bool true) ∧ Below w.heap.size w w' := by
 have hbA : Below w.heap.size w (w.alloc (.cells #[.int .i64 lk, .slice ia n ic, .slice oa m oc] 50)) := (Below.refl _ w).alloc (Nat.le_refl _) _
 have hb0 : Below w.heap.size w ((w.alloc (.cells #[.int .i64 lk, .slice ia n ic, .slice oa m oc] 50)).alloc (.cells #[.int .i64 lk, .slice ia' n ic', .slice oa' m oc'] 58)) := hbA.alloc hbA.size _
 have hr1 : ((w.alloc (.cells #[.int .i64 lk, .slice ia n ic, .slice oa m oc] 50)).alloc (.cells #[.int .i64 lk, .slice ia' n ic', .slice oa' m oc'] 58)).heap[w.heap.size]? = some (.cells #[.int .i64 lk, .slice ia n ic, .slice oa m oc] 50 (0, 0)) := by
  rw [Below.heap_alloc _ _ _ (by simp)]; exact heap_alloc_new w _
 have hr2 : ((w.alloc (.cells #[.int .i64 lk, .slice ia n ic, .slice oa m oc] 50)).alloc (.cells #[.int .i64 lk, .slice ia' n ic', .slice oa' m oc'] 58)).heap[w.heap.size + 1]? = some (.cells #[.int .i64 lk, .slice ia' n ic', .slice oa' m oc'] 58 (0, 0)) := by
  have := heap_alloc_new (w.alloc (.cells #[.int .i64 lk, .slice ia n ic, .slice oa m oc] 50)) (.cells #[.int .i64 lk, .slice ia' n ic', .slice oa' m oc'] 58)
  simpa using this
 have HH : Hid (Cd.Glob w ∧ TxAt w lk n X Z m O ia oa S ∧ TxAt w lk n X Z m O ia' oa' S' ∧ Few n m O) := ⟨hg, h, h', hf⟩
 clear hg h h' hf hbA
 unfold txv
 go_enter Tryz.func18, Tryz.ntmps18
 go_upto_region 1 with fail
 generalize (w.alloc (.cells #[.int .i64 lk, .slice ia n ic, .slice oa m oc] 50)).alloc (.cells #[.int .i64 lk, .slice ia' n ic', .slice oa' m oc'] 58) = W0 at *
 have HB0 := yhid hb0
 have HS : Hid (∀ w' : World, Below W0.heap.size W0 w' → w'.rangeAt w.heap.size 0 (txl lk ia n ic oa m oc) ∧ w'.rangeAt (w.heap.size + 1) 0 (txl lk ia' n ic' oa' m oc')) := fun w' hb => ⟨txl_range (heap_below hb hr1), txl_range (heap_below hb hr2)⟩
 clear hb0 hr1 hr2
 obtain ⟨LT, hLT⟩ : ∃ L, laidT lk n X Z m O = L := ⟨_, rfl⟩
 have HLT := yhid hLT
 refine wp_region_noPanic ?_
 refine wp_region_held_drew (S := fun w' => w'.rangeAt w.heap.size 0 (txl lk ia n ic oa m oc) ∧ w'.rangeAt (w.heap.size + 1) 0 (txl lk ia' n ic' oa' m oc')) (by kernel_rfl) (HS.out W0.drew (Below.refl _ _).drew) (fun hHeld => ?_)
 have HB1 : Hid (Below W0.heap.size W0 W0.drew) := (Below.refl _ _).drew
 generalize W0.drew = w1 at *
 refine wpAnyH_take (i := 0) (oi := ⟨some 9, .move (.tmp 1), 52, _, _, none⟩) (v := ?_) rfl (by kernel_rfl) (by kernel_rfl) (by kernel_rfl) (fun _ _ _ h => h) (Or.inl ⟨by rfl, ?_⟩) (by assumption) ?_
 rotate_left
 ·intro wz hSw; (try dsimp only at hSw); go_simp; (try with_reducible rfl)
 try simp only [Act.put, zA, zB, zC]
 refine wpAnyH_take (i := 2) (oi := ⟨some 11, .move (.tmp 3), 3, _, _, none⟩) (v := ?_) rfl (by kernel_rfl) (by kernel_rfl) (by kernel_rfl) (fun _ _ _ h => h) (Or.inl ⟨by rfl, ?_⟩) (by assumption) ?_
 rotate_left
 ·intro wz hSw; (try dsimp only at hSw); go_simp; (try with_reducible rfl)
 try simp only [Act.put, zA, zB, zC]
 refine wpAnyH_ready (rs := [1]) (by kernel_rfl) (by simp) ?_
 refine (AllReadyH.cons (o := ⟨some 10, .call { callee := Go.Callee.value (.func 15), args := #[.tmp 9], argTypes := #[52] }, 3, _, _, none⟩) rfl (fun K hK => ?_) AllReadyH.nil)
 go_simp
 refine (Cd.num_any x w1 (HH.out.1.below (Below.transS HB0.out HB1.out) HH.out.1.pos)).mono ?_
 rintro e w2 ⟨rfl, hb2⟩
 have HB2 : Hid (Below W0.heap.size W0 w2) := Below.transS HB1.out hb2
 clear hb2
 refine hK.out _ _ (HS.out w2 HB2.out) (fun _ => ?_)
 clear hK K
 try simp only [Act.put, zA, zB, zC]
 refine wpAnyH_take (i := 3) (oi := ⟨some 12, .binOp .eql 3 (.tmp 10) (.tmp 11) 3, 4, _, _, none⟩) (v := .bool true) rfl (by kernel_rfl) (by kernel_rfl) (by kernel_rfl) (fun _ _ _ h => h) (Or.inl ⟨by rfl, ?_⟩) (by assumption) ?_
 ·intro wz hSw; (try dsimp only at hSw); go_simp; try simp
 try simp only [Act.put, zA, zB, zC]
 refine wpAnyH_take (i := 4) (oi := ⟨some 13, .move (.tmp 12), 4, _, _, none⟩) (v := ?_) rfl (by kernel_rfl) (by kernel_rfl) (by kernel_rfl) (fun _ _ _ h => h) (Or.inl ⟨by rfl, ?_⟩) (by assumption) ?_
 rotate_left
 ·intro wz hSw; (try dsimp only at hSw); go_simp; (try with_reducible rfl)
 try simp only [Act.put, zA, zB, zC]
 refine wpAnyH_take (i := 5) (oi := ⟨some 14, .load 50 (.tmp 4), 50, _, _, some (4, true)⟩) rfl (by kernel_rfl) (by kernel_rfl) (by kernel_rfl) (fun _ _ _ h => h) (yieldsIf_load_mid (by rfl) _ _ rfl w.heap.size 0 rfl (txl lk ia n ic oa m oc) _ (fun _ h => h.1) Tryz.underlying50 rfl szTx) (by assumption) ?_
 try simp only [Act.put, zA, zB, zC]
 refine wpAnyH_take (i := 8) (oi := ⟨some 17, .load 58 (.tmp 6), 58, _, _, some (4, true)⟩) rfl (by kernel_rfl) (by kernel_rfl) (by kernel_rfl) (fun _ _ _ h => h) (yieldsIf_load_mid (by rfl) _ _ rfl (w.heap.size + 1) 0 rfl (txl lk ia' n ic' oa' m oc') _ (fun _ h => h.2) Tryz.underlying58 rfl szTxR) (by assumption) ?_
 try simp only [Act.put, zA, zB, zC]
 refine wpAnyH_ready (rs := [6]) (by kernel_rfl) (by simp) ?_
 refine (AllReadyH.cons (o := ⟨some 15, .call { callee := Go.Callee.value (.func 39), args := #[.tmp 14], argTypes := #[50] }, 33, _, _, some (4, true)⟩) rfl (fun K hK => ?_) AllReadyH.nil)
 go_simp
 have h2 := HH.out.2.1.below (Below.transS HB0.out HB2.out)
 refine (kencode_any lk ia n ic oa m oc X S Z O w2 h2.ti h2.ou h2.sc HH.out.2.2.2.lo HH.out.2.2.2.ln HH.out.2.2.2.lm).mono ?_
 rintro e w3 ⟨v3, rfl, hO3⟩
 rw [HLT.out] at hO3
 have HB3 : Hid (Below W0.heap.size W0 w3 ∧ Ow w2 w3 v3 LT) := ⟨Below.transS HB2.out hO3.below, hO3⟩
 clear hO3 h2
 refine hK.out _ _ (HS.out w3 HB3.out.1) (fun _ => ?_)
 clear hK K
 try simp only [Act.put, zA, zB, zC]
 have S3 : (w3.rangeAt w.heap.size 0 (txl lk ia n ic oa m oc) ∧ w3.rangeAt (w.heap.size + 1) 0 (txl lk ia' n ic' oa' m oc')) ∧ (convert 33 9 v3).run Tryz.prog w3 = .ok (.string (strB (fn LT) LT.length)) w3 := ⟨HS.out w3 HB3.out.1, conv_row HB3.out.2⟩
 refine kwpAnyH_more (S' := fun w' => (w'.rangeAt w.heap.size 0 (txl lk ia n ic oa m oc) ∧ w'.rangeAt (w.heap.size + 1) 0 (txl lk ia' n ic' oa' m oc')) ∧ (convert 33 9 v3).run Tryz.prog w' = .ok (.string (strB (fn LT) LT.length)) w') (fun _ h => h.1) _ _ _ _ ?_
 refine wpAnyH_take (i := 7) (oi := ⟨some 16, .convert 33 9 (.tmp 15), 9, _, _, some (4, true)⟩) (v := .string (strB (fn LT) LT.length)) rfl (by kernel_rfl) (by kernel_rfl) (by kernel_rfl) (fun _ _ _ h => h) (Or.inl ⟨by rfl, ?_⟩) (by assumption) ?_
 ·intro wz hSw; (try dsimp only at hSw); have h1 := hSw.2; go_simp; try rfl
 try simp only [Act.put, zA, zB, zC]
 refine wpAnyH_ready (rs := [9]) (by kernel_rfl) (by simp) ?_
 refine (AllReadyH.cons (o := ⟨some 18, .call { callee := Go.Callee.value (.func 40), args := #[.tmp 17], argTypes := #[58] }, 33, _, _, some (4, true)⟩) rfl (fun K hK => ?_) AllReadyH.nil)
 go_simp
 have h3 := HH.out.2.2.1.below (Below.transS HB0.out HB3.out.1)
 refine (rtencode_any lk ia' n ic' oa' m oc' X S' Z O w3 h3.ti h3.ou h3.sc HH.out.2.2.2.lo HH.out.2.2.2.ln HH.out.2.2.2.lm).mono ?_
 rintro e w4 ⟨v4, rfl, hO4⟩
 rw [HLT.out] at hO4
 have HB4 : Hid (Below W0.heap.size W0 w4 ∧ Ow w2 w4 v3 LT ∧ Ow w3 w4 v4 LT) := ⟨Below.transS HB3.out.1 hO4.below, HB3.out.2.keep hO4.below, hO4⟩
 clear hO4 h3
 refine hK.out _ _ ⟨HS.out w4 HB4.out.1, conv_row HB4.out.2.1⟩ (fun _ => ?_)
 clear hK K S3
 try simp only [Act.put, zA, zB, zC]
 have hcv4 := conv_row HB4.out.2.2
 refine wpAnyH_ready (rs := [10]) (by kernel_rfl) (by simp) ?_
 refine (AllReadyH.cons (o := ⟨some 19, .convert 33 9 (.tmp 18), 9, _, _, some (4, true)⟩) rfl (fun K hK => ?_) AllReadyH.nil)
 go_simp
 refine hK.out _ _ ⟨HS.out w4 HB4.out.1, conv_row HB4.out.2.1⟩ (fun _ => ?_)
 clear hK K hcv4
 try simp only [Act.put, zA, zB, zC]
 refine wpAnyH_take (i := 11) (oi := ⟨some 20, .binOp .eql 9 (.tmp 16) (.tmp 19) 9, 4, _, _, some (4, true)⟩) (v := .bool true) rfl (by kernel_rfl) (by kernel_rfl) (by kernel_rfl) (fun _ _ _ h => h) (Or.inl ⟨by rfl, ?_⟩) (by assumption) ?_
 ·intro wz hSw; (try dsimp only at hSw); go_simp; try simp
 try simp only [Act.put, zA, zB, zC]
 refine wpAnyH_take (i := 12) (oi := ⟨some 21, .pick (.tmp 13) (.tmp 20) (.const (.bool false)), 4, _, _, none⟩) (v := ?_) rfl (by kernel_rfl) (by kernel_rfl) (by kernel_rfl) (fun _ _ _ h => h) (Or.inl ⟨by rfl, ?_⟩) (by assumption) ?_
 rotate_left
 ·intro wz hSw; (try dsimp only at hSw); go_simp; (try with_reducible rfl)
 try simp only [Act.put, zA, zB, zC]
 refine wpAnyH_take (i := 13) (oi := ⟨some 8, .assign (.tmp 21), 4, _, _, none⟩) (v := ?_) rfl (by kernel_rfl) (by kernel_rfl) (by kernel_rfl) (fun _ _ _ h => h) (Or.inl ⟨by rfl, ?_⟩) (by assumption) ?_
 rotate_left
 ·intro wz hSw; (try dsimp only at hSw); go_simp; (try with_reducible rfl)
 try simp only [Act.put, zA, zB, zC]
 refine wpAnyH_done (by kernel_rfl) (NoPanic.normal ?_) _
 try simp only [Act.put, zA, zB, zC]
 clear hHeld
 have HE : Hid (Below w.heap.size w w4) := Below.transS HB0.out HB4.out.1
 go_wp2
 go_ret
 exact ⟨rfl, HE.out⟩
end Go.Proofs.YtjnepkggdkccaaaGreatDoor
/- The document's done of layer 14. -/
namespace Go.Proofs.YtjnepkggdkccaaaGreatDoor
open Go.RowKit

theorem run_allocTxR (w : World) : (Instr.alloc 58 true (.tuple #[])).run Tryz.prog w = .ok (.pointer (some ⟨w.heap.size, 0, none⟩)) (w.alloc (.cells #[.int .i64 0, .slice none 0 0, .slice none 0 0] 58)) := by kernel_rfl
theorem results_T2R {fn : Func} {p u : Tmp} (h : fn.results = #[.cell p 58, .tmp u]) (tmps : Array Value) (w : World) (g : Nat) (t : TypeId) (c0 c1 c2 : Value) (fr : Nat × Nat)
  (hp : tmps.getD p undef = .pointer (some ⟨g, 0, none⟩)) (hg : w.heap[g]? = some (.cells #[c0, c1, c2] t fr)) :
  (results fn tmps).run Tryz.prog w = .ok (.tuple #[.agg #[c0, c1, c2], tmps.getD u undef]) w := by
 have hp' : tmps[p]?.getD undef = .pointer (some ⟨g, 0, none⟩) := by simpa using hp
 simp [results, h, hp', asAddr, run_loadVar_row w g t 58 #[c0, c1, c2] fr _ hg Tryz.underlying58 rfl szTxR]
/-- What done answers: the transaction, or the error alone. -/
def DoneR (lk : Int) (ia : Option Addr) (n ic : Nat) (oa : Option Addr) (m oc : Nat) (E : Int) : Value := if E = 0 then .tuple #[.agg (txv lk ia n ic oa m oc), .int .i64 0] else .tuple #[.agg #[.int .i64 0, .slice none 0 0, .slice none 0 0], .int .i64 E]
set_option maxRecDepth 100000 in
set_option maxHeartbeats 3200000 in
theorem rdone_any (lk : Int) (ia : Option Addr) (n ic : Nat) (oa : Option Addr) (m oc : Nat) (X : Nat → Ti) (S : Nat → Option Addr × Nat) (O : Nat → To) (w : World) (h : TiAt w ia n X S) (ho : ToAt w oa m O) (hs : ∀ i, i < m → (O i).Small) (hn : n ≤ 1000000) (hm : m ≤ 1000000) :
  Calls Tryz.prog 30 #[.agg (txv lk ia n ic oa m oc)] w fun e w' => e = .returned (DoneR lk ia n ic oa m oc (txE lk n X m O)) ∧ Below w.heap.size w w' := by
 have HH : Hid (TiAt w ia n X S ∧ ToAt w oa m O ∧ ∀ i, i < m → (O i).Small) := ⟨h, ho, hs⟩
 clear h ho hs
 unfold txv
 go_enter Tryz.func30, Tryz.ntmps30
 go_upto_region 1 with (first | (refine wpList_boxN rfl _ _ rfl #[.int .i64 lk, .slice ia n ic, .slice oa m oc] rfl ?_; intro v1 N1) | (refine wpList_allocN 58 #[.int .i64 0, .slice none 0 0, .slice none 0 0] run_allocTxR rfl rfl ?_; intro v2 N2) | fail)
 have HB2 := hidV (Below.transS N1.below N2.below)
 have HQ : Hid (w.heap.size < v1.heap.size ∧ v1.heap.size < v2.heap.size) := ⟨by have := N1.size; omega, by have := N2.size; omega⟩
 have HX : Hid (v2.heap[v1.heap.size]? = some (.cells #[.int .i64 0, .slice none 0 0, .slice none 0 0] 58 (0, 0)) ∧ v2.heap[w.heap.size]? = some (.cells #[.int .i64 lk, .slice ia n ic, .slice oa m oc] 58 (0, 0))) := ⟨N2.blk, N2.old N1.blk⟩
 clear N1 N2
 have HR2 := hidV (txl_range HX.out.2)
 go_wp2_with (first | (refine wpList_load_mid rfl 58 _ rfl w.heap.size 0 rfl (txl lk ia n ic oa m oc) _ HR2.out Tryz.underlying58 rfl szTxR ?_) | fail)
 refine (rkcheck_any lk ia n ic oa m oc X S O v2 (HH.out.1.below HB2.out) (HH.out.2.1.below HB2.out) HH.out.2.2 hn hm).mono ?_
 rintro e v3 ⟨rfl, hb3⟩
 have HR3 := hidV (txl_range (heap_below hb3 HX.out.2))
 have hr3 := heap_below hb3 HX.out.1
 have HB3 := hidV (And.intro (Below.transS HB2.out hb3) (show v1.heap.size < v3.heap.size by have := HQ.out; have := hb3.size; omega))
 clear hb3 HR2
 generalize hE0 : txE lk n X m O = E at *
 have HE := hidV hE0
 clear hE0
 by_cases hE : E = 0
 ·subst hE
  go_wp2_with (first | (refine wpList_load_mid rfl 58 _ rfl w.heap.size 0 rfl (txl lk ia n ic oa m oc) _ HR3.out Tryz.underlying58 rfl szTxR ?_) | (refine wpList_storeG 58 szTxR rfl _ _ rfl v1.heap.size rfl #[.int .i64 lk, .slice ia n ic, .slice oa m oc] #[.int .i64 0, .slice none 0 0, .slice none 0 0] rfl rfl (by kernel_rfl) 58 rfl hr3 ?_; intro v4 hg4 hf4) | fail)
  refine bodyPost_ret (results_T2R Tryz.results30 _ v4 v1.heap.size 58 _ _ _ (0, 0) rfl hg4) rfl ⟨?_, HB3.out.1.trans (hf4.below HB3.out.1.size (by have := HQ.out; simp; omega))⟩
  rw [HE.out]
  simp [DoneR, txv]
 ·have e1 : (E == 0) = false := by simpa using hE
  go_wp2_with (first | (refine wpList_storeG 58 szTxR rfl _ _ rfl v1.heap.size rfl #[.int .i64 0, .slice none 0 0, .slice none 0 0] #[.int .i64 0, .slice none 0 0, .slice none 0 0] rfl rfl (by kernel_rfl) 58 rfl hr3 ?_; intro v4 hg4 hf4) | fail)
  refine bodyPost_ret (results_T2R Tryz.results30 _ v4 v1.heap.size 58 _ _ _ (0, 0) rfl hg4) rfl ⟨?_, HB3.out.1.trans (hf4.below HB3.out.1.size (by have := HQ.out; simp; omega))⟩
  rw [HE.out]
  simp [DoneR, hE]
end Go.Proofs.YtjnepkggdkccaaaGreatDoor
