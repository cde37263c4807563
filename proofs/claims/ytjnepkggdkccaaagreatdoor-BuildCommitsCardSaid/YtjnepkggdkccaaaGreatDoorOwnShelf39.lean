/- bayoulaw14's same: an error's number, and a transaction's bytes on both sides. -/
import Derived.Test.YtjnepkggdkccaaaGreatDoorOwnShelf38
import Derived.Test.YtjnepkggdkccaaaGreatDoorOwnShelf07
import Derived.Test.YtjnepkggdkccaaaGreatDoorOwnShelf33
import Derived.Test.YtjnepkggdkccaaaGreatDoorOwnShelf06
import Derived.Test.YtjnepkggdkccaaaGreatDoorOwnShelf37
import Derived.Test.YtjnepkggdkccaaaGreatDoorOwnShelf20
import Derived.Test.YtjnepkggdkccaaaGreatDoorOwnShelf22
import Derived.Test.YtjnepkggdkccaaaGreatDoorOwnShelf23
import Derived.Test.YtjnepkggdkccaaaGreatDoorOwnShelf28
namespace Go.Proofs.YtjnepkggdkccaaaGreatDoor
open Go.RowKit

theorem conv_row {w0 w : World} {v : Value} {L : List Int} (h : Ow w0 w v L) : (convert 33 9 v).run Tryz.prog w = .ok (.string (strB (fn L) L.length)) w := by
 obtain ⟨ad, cp, rfl⟩ := h.form
 obtain ⟨_, hs, hn, _, _⟩ := h.fresh
 exact conv_any ad _ cp _ w hs hn
/-- A transaction lies in a world: what it says, where its bytes are. -/
structure TxAt (w : World) (lk : Int) (n : Nat) (X : Nat → Ti) (Z : Nat → Nat → Int) (m : Nat) (O : Nat → To) (ia : Option Addr) (oa : Option Addr) (S : Nat → Option Addr × Nat) : Prop where
 ti : TiAt w ia n X S
 ou : ToAt w oa m O
 sc : ∀ i, i < n → SlAt w (S i).1 (X i).sn (Z i) ∧ (X i).sn ≤ 1000000
theorem TxAt.below {w w' : World} {lk : Int} {n : Nat} {X : Nat → Ti} {Z : Nat → Nat → Int} {m : Nat} {O : Nat → To} {ia oa : Option Addr} {S : Nat → Option Addr × Nat} (h : TxAt w lk n X Z m O ia oa S) (hb : Below w.heap.size w w') : TxAt w' lk n X Z m O ia oa S := ⟨h.ti.below hb, h.ou.below hb, fun i hi => ⟨(h.sc i hi).1.below hb, (h.sc i hi).2⟩⟩
/-- Few inputs and outputs. -/
structure Few (n m : Nat) (O : Nat → To) : Prop where
 ln : n ≤ 1000
 lm : m ≤ 1000
 lo : ∀ i, i < m → (O i).cn ≤ 1000 ∧ ∀ j, j < (O i).cn → ((O i).X j).n ≤ 1000
set_option maxRecDepth 100000 in
set_option maxHeartbeats 6400000 in
theorem same14_any (x : Int) (lk : Int) (n : Nat) (X : Nat → Ti) (Z : Nat → Nat → Int) (m : Nat) (O : Nat → To) (ia oa : Option Addr) (ic oc : Nat) (S : Nat → Option Addr × Nat) (ia' oa' : Option Addr) (ic' oc' : Nat) (S' : Nat → Option Addr × Nat) (w : World) (hg : Cd.Glob w) (h : TxAt w lk n X Z m O ia oa S) (h' : TxAt w lk n X Z m O ia' oa' S') (hf : Few n m O) :
  Calls Tryz.prog 18 #[.agg (txv lk ia n ic oa m oc), errV x, .agg (txv lk ia' n ic' oa' m oc'), .int .i64 x] w fun e w' => e = .returned (.bool true) ∧ Below w.heap.size w w' := by
 have hbA : Below w.heap.size w (w.alloc (.cells #[.int .i64 lk, .slice ia n ic, .slice oa m oc] 50)) := (Below.refl _ w).alloc (Nat.le_refl _) _
 have hb0 : Below w.heap.size w ((w.alloc (.cells #[.int .i64 lk, .slice ia n ic, .slice oa m oc] 50)).alloc (.cells #[.int .i64 lk, .slice ia' n ic', .slice oa' m oc'] 58)) := hbA.alloc hbA.size _
 have hr1 : ((w.alloc (.cells #[.int .i64 lk, .slice ia n ic, .slice oa m oc] 50)).alloc (.cells #[.int .i64 lk, .slice ia' n ic', .slice oa' m oc'] 58)).heap[w.heap.size]? = some (.cells #[.int .i64 lk, .slice ia n ic, .slice oa m oc] 50 (0, 0)) := by
  rw [Below.heap_alloc _ _ _ (by simp)]; exact heap_alloc_new w _
 have hr2 : ((w.alloc (.cells #[.int .i64 lk, .slice ia n ic, .slice oa m oc] 50)).alloc (.cells #[.int .i64 lk, .slice ia' n ic', .slice oa' m oc'] 58)).heap[w.heap.size + 1]? = some (.cells #[.int .i64 lk, .slice ia' n ic', .slice oa' m oc'] 58 (0, 0)) := by
  have := heap_alloc_new (w.alloc (.cells #[.int .i64 lk, .slice ia n ic, .slice oa m oc] 50)) (.cells #[.int .i64 lk, .slice ia' n ic', .slice oa' m oc'] 58)
  simpa using this
 have HH : Hid (Cd.Glob w ∧ TxAt w lk n X Z m O ia oa S ∧ TxAt w lk n X Z m O ia' oa' S' ∧ Few n m O) := ⟨hg, h, h', hf⟩
 clear hg h h' hf hbA
 unfold txv
 go_enter Tryz.func18, Tryz.ntmps18
 go_upto_region 1 with fail
 generalize (w.alloc (.cells #[.int .i64 lk, .slice ia n ic, .slice oa m oc] 50)).alloc (.cells #[.int .i64 lk, .slice ia' n ic', .slice oa' m oc'] 58) = W0 at *
 have HB0 := yhid hb0
 have HS : Hid (∀ w' : World, Below W0.heap.size W0 w' → w'.rangeAt w.heap.size 0 (txl lk ia n ic oa m oc) ∧ w'.rangeAt (w.heap.size + 1) 0 (txl lk ia' n ic' oa' m oc')) := fun w' hb => ⟨txl_range (heap_below hb hr1), txl_range (heap_below hb hr2)⟩
 clear hb0 hr1 hr2
 obtain ⟨LT, hLT⟩ : ∃ L, laidT lk n X Z m O = L := ⟨_, rfl⟩
 have HLT := yhid hLT
 refine wp_region_noPanic ?_
 refine wp_region_held_drew (S := fun w' => w'.rangeAt w.heap.size 0 (txl lk ia n ic oa m oc) ∧ w'.rangeAt (w.heap.size + 1) 0 (txl lk ia' n ic' oa' m oc')) (by kernel_rfl) (HS.out W0.drew (Below.refl _ _).drew) (fun hHeld => ?_)
 have HB1 : Hid (Below W0.heap.size W0 W0.drew) := (Below.refl _ _).drew
 generalize W0.drew = w1 at *
 refine wpAnyH_take (i := 0) (oi := ⟨some 9, .move (.tmp 1), 52, _, _, none⟩) (v := ?_) rfl (by kernel_rfl) (by kernel_rfl) (by kernel_rfl) (fun _ _ _ h => h) (Or.inl ⟨by rfl, ?_⟩) (by assumption) ?_
 rotate_left
 ·intro wz hSw; (try dsimp only at hSw); go_simp; (try with_reducible rfl)
 try simp only [Act.put, zA, zB, zC]
 refine wpAnyH_take (i := 2) (oi := ⟨some 11, .move (.tmp 3), 3, _, _, none⟩) (v := ?_) rfl (by kernel_rfl) (by kernel_rfl) (by kernel_rfl) (fun _ _ _ h => h) (Or.inl ⟨by rfl, ?_⟩) (by assumption) ?_
 rotate_left
 ·intro wz hSw; (try dsimp only at hSw); go_simp; (try with_reducible rfl)
 try simp only [Act.put, zA, zB, zC]
 refine wpAnyH_ready (rs := [1]) (by kernel_rfl) (by simp) ?_
 refine (AllReadyH.cons (o := ⟨some 10, .call { callee := Go.Callee.value (.func 15), args := #[.tmp 9], argTypes := #[52] }, 3, _, _, none⟩) rfl (fun K hK => ?_) AllReadyH.nil)
 go_simp
 refine (Cd.num_any x w1 (HH.out.1.below (Below.transS HB0.out HB1.out) HH.out.1.pos)).mono ?_
 rintro e w2 ⟨rfl, hb2⟩
 have HB2 : Hid (Below W0.heap.size W0 w2) := Below.transS HB1.out hb2
 clear hb2
 refine hK.out _ _ (HS.out w2 HB2.out) (fun _ => ?_)
 clear hK K
 try simp only [Act.put, zA, zB, zC]
 refine wpAnyH_take (i := 3) (oi := ⟨some 12, .binOp .eql 3 (.tmp 10) (.tmp 11) 3, 4, _, _, none⟩) (v := .bool true) rfl (by kernel_rfl) (by kernel_rfl) (by kernel_rfl) (fun _ _ _ h => h) (Or.inl ⟨by rfl, ?_⟩) (by assumption) ?_
 ·intro wz hSw; (try dsimp only at hSw); go_simp; try simp
 try simp only [Act.put, zA, zB, zC]
 refine wpAnyH_take (i := 4) (oi := ⟨some 13, .move (.tmp 12), 4, _, _, none⟩) (v := ?_) rfl (by kernel_rfl) (by kernel_rfl) (by kernel_rfl) (fun _ _ _ h => h) (Or.inl ⟨by rfl, ?_⟩) (by assumption) ?_
 rotate_left
 ·intro wz hSw; (try dsimp only at hSw); go_simp; (try with_reducible rfl)
 try simp only [Act.put, zA, zB, zC]
 refine wpAnyH_take (i := 5) (oi := ⟨some 14, .load 50 (.tmp 4), 50, _, _, some (4, true)⟩) rfl (by kernel_rfl) (by kernel_rfl) (by kernel_rfl) (fun _ _ _ h => h) (yieldsIf_load_mid (by rfl) _ _ rfl w.heap.size 0 rfl (txl lk ia n ic oa m oc) _ (fun _ h => h.1) Tryz.underlying50 rfl szTx) (by assumption) ?_
 try simp only [Act.put, zA, zB, zC]
 refine wpAnyH_take (i := 8) (oi := ⟨some 17, .load 58 (.tmp 6), 58, _, _, some (4, true)⟩) rfl (by kernel_rfl) (by kernel_rfl) (by kernel_rfl) (fun _ _ _ h => h) (yieldsIf_load_mid (by rfl) _ _ rfl (w.heap.size + 1) 0 rfl (txl lk ia' n ic' oa' m oc') _ (fun _ h => h.2) Tryz.underlying58 rfl szTxR) (by assumption) ?_
 try simp only [Act.put, zA, zB, zC]
 refine wpAnyH_ready (rs := [6]) (by kernel_rfl) (by simp) ?_
 refine (AllReadyH.cons (o := ⟨some 15, .call { callee := Go.Callee.value (.func 39), args := #[.tmp 14], argTypes := #[50] }, 33, _, _, some (4, true)⟩) rfl (fun K hK => ?_) AllReadyH.nil)
 go_simp
 have h2 := HH.out.2.1.below (Below.transS HB0.out HB2.out)
 refine (kencode_any lk ia n ic oa m oc X S Z O w2 h2.ti h2.ou h2.sc HH.out.2.2.2.lo HH.out.2.2.2.ln HH.out.2.2.2.lm).mono ?_
 rintro e w3 ⟨v3, rfl, hO3⟩
 rw [HLT.out] at hO3
 have HB3 : Hid (Below W0.heap.size W0 w3 ∧ Ow w2 w3 v3 LT) := ⟨Below.transS HB2.out hO3.below, hO3⟩
 clear hO3 h2
 refine hK.out _ _ (HS.out w3 HB3.out.1) (fun _ => ?_)
 clear hK K
 try simp only [Act.put, zA, zB, zC]
 have S3 : (w3.rangeAt w.heap.size 0 (txl lk ia n ic oa m oc) ∧ w3.rangeAt (w.heap.size + 1) 0 (txl lk ia' n ic' oa' m oc')) ∧ (convert 33 9 v3).run Tryz.prog w3 = .ok (.string (strB (fn LT) LT.length)) w3 := ⟨HS.out w3 HB3.out.1, conv_row HB3.out.2⟩
 refine kwpAnyH_more (S' := fun w' => (w'.rangeAt w.heap.size 0 (txl lk ia n ic oa m oc) ∧ w'.rangeAt (w.heap.size + 1) 0 (txl lk ia' n ic' oa' m oc')) ∧ (convert 33 9 v3).run Tryz.prog w' = .ok (.string (strB (fn LT) LT.length)) w') (fun _ h => h.1) _ _ _ _ ?_
 refine wpAnyH_take (i := 7) (oi := ⟨some 16, .convert 33 9 (.tmp 15), 9, _, _, some (4, true)⟩) (v := .string (strB (fn LT) LT.length)) rfl (by kernel_rfl) (by kernel_rfl) (by kernel_rfl) (fun _ _ _ h => h) (Or.inl ⟨by rfl, ?_⟩) (by assumption) ?_
 ·intro wz hSw; (try dsimp only at hSw); have h1 := hSw.2; go_simp; try rfl
 try simp only [Act.put, zA, zB, zC]
 refine wpAnyH_ready (rs := [9]) (by kernel_rfl) (by simp) ?_
 refine (AllReadyH.cons (o := ⟨some 18, .call { callee := Go.Callee.value (.func 40), args := #[.tmp 17], argTypes := #[58] }, 33, _, _, some (4, true)⟩) rfl (fun K hK => ?_) AllReadyH.nil)
 go_simp
 have h3 := HH.out.2.2.1.below (Below.transS HB0.out HB3.out.1)
 refine (rtencode_any lk ia' n ic' oa' m oc' X S' Z O w3 h3.ti h3.ou h3.sc HH.out.2.2.2.lo HH.out.2.2.2.ln HH.out.2.2.2.lm).mono ?_
 rintro e w4 ⟨v4, rfl, hO4⟩
 rw [HLT.out] at hO4
 have HB4 : Hid (Below W0.heap.size W0 w4 ∧ Ow w2 w4 v3 LT ∧ Ow w3 w4 v4 LT) := ⟨Below.transS HB3.out.1 hO4.below, HB3.out.2.keep hO4.below, hO4⟩
 clear hO4 h3
 refine hK.out _ _ ⟨HS.out w4 HB4.out.1, conv_row HB4.out.2.1⟩ (fun _ => ?_)
 clear hK K S3
 try simp only [Act.put, zA, zB, zC]
 have hcv4 := conv_row HB4.out.2.2
 refine wpAnyH_ready (rs := [10]) (by kernel_rfl) (by simp) ?_
 refine (AllReadyH.cons (o := ⟨some 19, .convert 33 9 (.tmp 18), 9, _, _, some (4, true)⟩) rfl (fun K hK => ?_) AllReadyH.nil)
 go_simp
 refine hK.out _ _ ⟨HS.out w4 HB4.out.1, conv_row HB4.out.2.1⟩ (fun _ => ?_)
 clear hK K hcv4
 try simp only [Act.put, zA, zB, zC]
 refine wpAnyH_take (i := 11) (oi := ⟨some 20, .binOp .eql 9 (.tmp 16) (.tmp 19) 9, 4, _, _, some (4, true)⟩) (v := .bool true) rfl (by kernel_rfl) (by kernel_rfl) (by kernel_rfl) (fun _ _ _ h => h) (Or.inl ⟨by rfl, ?_⟩) (by assumption) ?_
 ·intro wz hSw; (try dsimp only at hSw); go_simp; try simp
 try simp only [Act.put, zA, zB, zC]
 refine wpAnyH_take (i := 12) (oi := ⟨some 21, .pick (.tmp 13) (.tmp 20) (.const (.bool false)), 4, _, _, none⟩) (v := ?_) rfl (by kernel_rfl) (by kernel_rfl) (by kernel_rfl) (fun _ _ _ h => h) (Or.inl ⟨by rfl, ?_⟩) (by assumption) ?_
 rotate_left
 ·intro wz hSw; (try dsimp only at hSw); go_simp; (try with_reducible rfl)
 try simp only [Act.put, zA, zB, zC]
 refine wpAnyH_take (i := 13) (oi := ⟨some 8, .assign (.tmp 21), 4, _, _, none⟩) (v := ?_) rfl (by kernel_rfl) (by kernel_rfl) (by kernel_rfl) (fun _ _ _ h => h) (Or.inl ⟨by rfl, ?_⟩) (by assumption) ?_
 rotate_left
 ·intro wz hSw; (try dsimp only at hSw); go_simp; (try with_reducible rfl)
 try simp only [Act.put, zA, zB, zC]
 refine wpAnyH_done (by kernel_rfl) (NoPanic.normal ?_) _
 try simp only [Act.put, zA, zB, zC]
 clear hHeld
 have HE : Hid (Below w.heap.size w w4) := Below.transS HB0.out HB4.out.1
 go_wp2
 go_ret
 exact ⟨rfl, HE.out⟩
end Go.Proofs.YtjnepkggdkccaaaGreatDoor
/- A transaction that lies stays when a block of noughts beside it is overwritten by another one of Lock 0. -/
namespace Go.Proofs.YtjnepkggdkccaaaGreatDoor
open Go.RowKit

/-- Each output has a branch, and each branch a key. -/
def Keyed (m : Nat) (O : Nat → To) : Prop := ∀ i, i < m → 0 < (O i).cn ∧ ∀ j, j < (O i).cn → 0 < ((O i).X j).n
end Go.Proofs.YtjnepkggdkccaaaGreatDoor
/- The document's done of layer 14. -/
namespace Go.Proofs.YtjnepkggdkccaaaGreatDoor
open Go.RowKit

theorem run_allocTxR (w : World) : (Instr.alloc 58 true (.tuple #[])).run Tryz.prog w = .ok (.pointer (some ⟨w.heap.size, 0, none⟩)) (w.alloc (.cells #[.int .i64 0, .slice none 0 0, .slice none 0 0] 58)) := by kernel_rfl
theorem results_T2R {fn : Func} {p u : Tmp} (h : fn.results = #[.cell p 58, .tmp u]) (tmps : Array Value) (w : World) (g : Nat) (t : TypeId) (c0 c1 c2 : Value) (fr : Nat × Nat)
  (hp : tmps.getD p undef = .pointer (some ⟨g, 0, none⟩)) (hg : w.heap[g]? = some (.cells #[c0, c1, c2] t fr)) :
  (results fn tmps).run Tryz.prog w = .ok (.tuple #[.agg #[c0, c1, c2], tmps.getD u undef]) w := by
 have hp' : tmps[p]?.getD undef = .pointer (some ⟨g, 0, none⟩) := by simpa using hp
 simp [results, h, hp', asAddr, run_loadVar_row w g t 58 #[c0, c1, c2] fr _ hg Tryz.underlying58 rfl szTxR]
/-- What done answers: the transaction, or the error alone. -/
def DoneR (lk : Int) (ia : Option Addr) (n ic : Nat) (oa : Option Addr) (m oc : Nat) (E : Int) : Value := if E = 0 then .tuple #[.agg (txv lk ia n ic oa m oc), .int .i64 0] else .tuple #[.agg #[.int .i64 0, .slice none 0 0, .slice none 0 0], .int .i64 E]
set_option maxRecDepth 100000 in
set_option maxHeartbeats 3200000 in
theorem rdone_any (lk : Int) (ia : Option Addr) (n ic : Nat) (oa : Option Addr) (m oc : Nat) (X : Nat → Ti) (S : Nat → Option Addr × Nat) (O : Nat → To) (w : World) (h : TiAt w ia n X S) (ho : ToAt w oa m O) (hs : ∀ i, i < m → (O i).Small) (hn : n ≤ 1000000) (hm : m ≤ 1000000) :
  Calls Tryz.prog 30 #[.agg (txv lk ia n ic oa m oc)] w fun e w' => e = .returned (DoneR lk ia n ic oa m oc (txE lk n X m O)) ∧ Below w.heap.size w w' := by
 have HH : Hid (TiAt w ia n X S ∧ ToAt w oa m O ∧ ∀ i, i < m → (O i).Small) := ⟨h, ho, hs⟩
 clear h ho hs
 unfold txv
 go_enter Tryz.func30, Tryz.ntmps30
 go_upto_region 1 with (first | (refine wpList_boxN rfl _ _ rfl #[.int .i64 lk, .slice ia n ic, .slice oa m oc] rfl ?_; intro v1 N1) | (refine wpList_allocN 58 #[.int .i64 0, .slice none 0 0, .slice none 0 0] run_allocTxR rfl rfl ?_; intro v2 N2) | fail)
 have HB2 := hidV (Below.transS N1.below N2.below)
 have HQ : Hid (w.heap.size < v1.heap.size ∧ v1.heap.size < v2.heap.size) := ⟨by have := N1.size; omega, by have := N2.size; omega⟩
 have HX : Hid (v2.heap[v1.heap.size]? = some (.cells #[.int .i64 0, .slice none 0 0, .slice none 0 0] 58 (0, 0)) ∧ v2.heap[w.heap.size]? = some (.cells #[.int .i64 lk, .slice ia n ic, .slice oa m oc] 58 (0, 0))) := ⟨N2.blk, N2.old N1.blk⟩
 clear N1 N2
 have HR2 := hidV (txl_range HX.out.2)
 go_wp2_with (first | (refine wpList_load_mid rfl 58 _ rfl w.heap.size 0 rfl (txl lk ia n ic oa m oc) _ HR2.out Tryz.underlying58 rfl szTxR ?_) | fail)
 refine (rkcheck_any lk ia n ic oa m oc X S O v2 (HH.out.1.below HB2.out) (HH.out.2.1.below HB2.out) HH.out.2.2 hn hm).mono ?_
 rintro e v3 ⟨rfl, hb3⟩
 have HR3 := hidV (txl_range (heap_below hb3 HX.out.2))
 have hr3 := heap_below hb3 HX.out.1
 have HB3 := hidV (And.intro (Below.transS HB2.out hb3) (show v1.heap.size < v3.heap.size by have := HQ.out; have := hb3.size; omega))
 clear hb3 HR2
 generalize hE0 : txE lk n X m O = E at *
 have HE := hidV hE0
 clear hE0
 by_cases hE : E = 0
 ·subst hE
  go_wp2_with (first | (refine wpList_load_mid rfl 58 _ rfl w.heap.size 0 rfl (txl lk ia n ic oa m oc) _ HR3.out Tryz.underlying58 rfl szTxR ?_) | (refine wpList_storeG 58 szTxR rfl _ _ rfl v1.heap.size rfl #[.int .i64 lk, .slice ia n ic, .slice oa m oc] #[.int .i64 0, .slice none 0 0, .slice none 0 0] rfl rfl (by kernel_rfl) 58 rfl hr3 ?_; intro v4 hg4 hf4) | fail)
  refine bodyPost_ret (results_T2R Tryz.results30 _ v4 v1.heap.size 58 _ _ _ (0, 0) rfl hg4) rfl ⟨?_, HB3.out.1.trans (hf4.below HB3.out.1.size (by have := HQ.out; simp; omega))⟩
  rw [HE.out]
  simp [DoneR, txv]
 ·have e1 : (E == 0) = false := by simpa using hE
  go_wp2_with (first | (refine wpList_storeG 58 szTxR rfl _ _ rfl v1.heap.size rfl #[.int .i64 0, .slice none 0 0, .slice none 0 0] #[.int .i64 0, .slice none 0 0, .slice none 0 0] rfl rfl (by kernel_rfl) 58 rfl hr3 ?_; intro v4 hg4 hf4) | fail)
  refine bodyPost_ret (results_T2R Tryz.results30 _ v4 v1.heap.size 58 _ _ _ (0, 0) rfl hg4) rfl ⟨?_, HB3.out.1.trans (hf4.below HB3.out.1.size (by have := HQ.out; simp; omega))⟩
  rw [HE.out]
  simp [DoneR, hE]
end Go.Proofs.YtjnepkggdkccaaaGreatDoor
/- build.Close. -/
namespace Go.Proofs.YtjnepkggdkccaaaGreatDoor
open Go.RowKit

/-- A side's output of a close. -/
def clsO (P : Pm) (s : Sv) (i : Nat) : To := ⟨leftF P s i, 1, fun _ => Cd.kb [keyS P i]⟩
/-- The outputs of the first i sides. -/
def outsC (P : Pm) (s : Sv) : Nat → List To
 | 0 => []
 | i + 1 => outsC P s i ++ ifL (leftF P s i) (clsO P s i)
/-- The outputs laid so far. -/
structure ClsR (w : World) (B : Nat) (os : List To) (va : Option Addr) (vc : Nat) (A : Nat → Option Addr × Nat) (I : Nat → Nat × Nat) : Prop where
 outs : w.ownsRow B 95 2 (.slice va os.length vc) os.length (flatL (oL os A) os.length)
 cond : ∀ j, j < os.length → ∀ w' : World, (∀ k, (I j).1 ≤ k → k < (I j).2 → w'.heap[k]? = w.heap[k]?) → Cd.BrAt w' (A j).1 (os.getD j default).cn (os.getD j default).X
 int : ∀ j, j < os.length → B ≤ (I j).1 ∧ (I j).2 ≤ w.heap.size ∧ (A j).1 ≠ none
 apO : ∀ j, j < os.length → ∀ g, (Value.slice va os.length vc).ownBlock = some g → g < (I j).1 ∨ (I j).2 ≤ g
 low : B ≤ w.heap.size
theorem ClsR.nil {w : World} {B : Nat} (hB : B ≤ w.heap.size) : ClsR w B [] none 0 (fun _ => (none, 0)) (fun _ => (0, 0)) :=
 ⟨World.ownsRow_nil _ _ _ _, fun j hj => by simp at hj, fun j hj => by simp at hj, fun j hj => by simp at hj, hB⟩
theorem ClsR.below {w w1 : World} {B : Nat} {os : List To} {va : Option Addr} {vc : Nat} {A : Nat → Option Addr × Nat} {I : Nat → Nat × Nat} (h : ClsR w B os va vc A I) (hb : Below w.heap.size w w1) : ClsR w1 B os va vc A I := by
 have hs := hb.size
 refine ⟨own_below h.outs hb, fun j hj w' hw => h.cond j hj w' (fun k h1 h2 => ?_), fun j hj => ⟨(h.int j hj).1, by have := (h.int j hj).2.1; omega, (h.int j hj).2.2⟩, h.apO, by have := h.low; omega⟩
 rw [hw k h1 h2]
 exact hb.block k (by have := (h.int j hj).2.1; omega)
section
variable {ops : Array Oper} {rest : List Oper} {o : Oper} {a : Act} {w : World} {Q : Exit → Act → World → Prop}
end
/-- Close's error. -/
def clsE (P : Pm) (s : Sv) : Int := if bchkE P s ≠ 0 then bchkE P s else if 0 < s.pn ∨ 0 < s.hn then 31 else finE 1 (fun _ => (P.pt, P.n)) (outsC P s 2) 0
structure ClsP (P : Pm) (s : Sv) (w : World) (e : Ending) (w' : World) : Prop where
 bad : clsE P s ≠ 0 → e = .returned (.tuple #[zeroTx, errV (clsE P s)])
 ok : clsE P s = 0 → ∃ ia ic oa oc, e = .returned (.tuple #[.agg (txv 0 ia 1 ic oa (outsC P s 2).length oc), .nilIface]) ∧ TxR w' ia ic 1 (fun _ => (P.pt, P.n)) oa oc (outsC P s 2)
 below : Below w.heap.size w w'
end Go.Proofs.YtjnepkggdkccaaaGreatDoor
/- The document's Close of layer 14. -/
namespace Go.Proofs.YtjnepkggdkccaaaGreatDoor
open Go.RowKit

/-- The document's transaction on the way: it lies in block tb; its input in a row of one; the outputs laid so far. -/
structure DocT (w : World) (B tb gi : Nat) (z : (Nat → Int) × Int) (os : List To) (va : Option Addr) (vc : Nat) (A : Nat → Option Addr × Nat) (I : Nat → Nat × Nat) : Prop where
 ft : w.heap[tb]? = some (.cells #[.int .i64 0, .slice (some ⟨gi, 0, none⟩) 1 1, .slice va os.length vc] 58 (0, 0))
 fi : w.heap[gi]? = some (.cells (tiv (tiOf z) none 0) 79 (0, 0))
 lt : tb < B ∧ gi < B ∧ tb ≠ gi ∧ B ≤ w.heap.size
 outs : w.ownsRow B 124 2 (.slice va os.length vc) os.length (flatL (oL os A) os.length)
 cond : ∀ j, j < os.length → ∀ w' : World, (∀ k, (I j).1 ≤ k → k < (I j).2 → w'.heap[k]? = w.heap[k]?) → Cd.BrAt w' (A j).1 (os.getD j default).cn (os.getD j default).X
 int : ∀ j, j < os.length → B ≤ (I j).1 ∧ (I j).2 ≤ w.heap.size ∧ (A j).1 ≠ none
 apO : ∀ j, j < os.length → ∀ g, (Value.slice va os.length vc).ownBlock = some g → g < (I j).1 ∨ (I j).2 ≤ g
section
variable {w w1 : World} {B tb gi : Nat} {z : (Nat → Int) × Int} {os : List To} {va : Option Addr} {vc : Nat} {A : Nat → Option Addr × Nat} {I : Nat → Nat × Nat}
theorem DocT.below (h : DocT w B tb gi z os va vc A I) (hb : Below w.heap.size w w1) : DocT w1 B tb gi z os va vc A I := by
 have hs := hb.size
 refine ⟨heap_below hb h.ft, heap_below hb h.fi, ⟨h.lt.1, h.lt.2.1, h.lt.2.2.1, by have := h.lt.2.2.2; omega⟩, own_below h.outs hb, fun j hj w' hw => h.cond j hj w' (fun k h1 h2 => ?_), fun j hj => ⟨(h.int j hj).1, by have := (h.int j hj).2.1; omega, (h.int j hj).2.2⟩, h.apO⟩
 rw [hw k h1 h2]
 exact hb.block k (by have := (h.int j hj).2.1; omega)
theorem DocT.frm (h : DocT w B tb gi z os va vc A I) {q : Nat} (hf : Frm [q] w w1) (hq : q < B) (hg : q ≠ gi) (ht : q ≠ tb) : DocT w1 B tb gi z os va vc A I := by
 have hs := hf.size
 obtain ⟨l1, l2, l3, l4⟩ := h.lt
 refine ⟨hf.heap h.ft (by simp; omega), hf.heap h.fi (by simp; omega), ⟨l1, l2, l3, by omega⟩, own_keep h.outs (fun g e => hf.block g (h.outs.lt g e).2 (by have := (h.outs.lt g e).1; simp; omega)), fun j hj w' hw => h.cond j hj w' (fun k h1 h2 => ?_), fun j hj => ⟨(h.int j hj).1, by have := (h.int j hj).2.1; omega, (h.int j hj).2.2⟩, h.apO⟩
 rw [hw k h1 h2]
 have := h.int j hj
 exact hf.block k (by omega) (by simp; omega)
theorem DocT.tin (h : DocT w B tb gi z os va vc A I) (hz : Hb z.1) : TiAt w (some ⟨gi, 0, none⟩) 1 (tF (fun _ => z)) (fun _ => (none, 0)) := ⟨fun _ _ => hz, fun _ => ⟨gi, 0, rfl, fun i hi => by
 obtain rfl : i = 0 := by omega
 intro j v hv
 simp only [Nat.zero_mul, Nat.zero_add]
 exact cell_list h.fi hv⟩⟩
theorem DocT.tout (h : DocT w B tb gi z os va vc A I) : ToAt w va os.length (oF os) := by
 refine ⟨fun hn => ?_⟩
 obtain ⟨g, rfl, _, _, hr⟩ := own_range h.outs hn
 refine ⟨g, 0, rfl, fun j hj => ⟨(A j).1, (A j).2, ?_, h.cond j hj w (fun _ _ _ => rfl), fun e => absurd e (h.int j hj).2.2⟩⟩
 exact (flatL_range os.length (f := oL os A) (k := 2) (fun i _ => rfl)).1 hr j hj
end
theorem build_inR (z : Nat → Int) (n : Int) (w : World) : (Instr.build 79 #[(0, .agg (ptl z n).toArray)]).run Tryz.prog w = .ok (.agg (tiv (tiOf (z, n)) none 0)) w := by kernel_rfl
theorem slice_inR (z : Nat → Int) (n : Int) (w : World) : (Instr.buildSlice 55 1 #[(0, .agg (tiv (tiOf (z, n)) none 0))]).run Tryz.prog w = .ok (.slice (some ⟨w.heap.size, 0, none⟩) 1 1) (w.alloc (.cells (tiv (tiOf (z, n)) none 0) 79)) := by kernel_rfl
section
variable {ops : Array Oper} {rest : List Oper} {o : Oper} {a : Act} {w : World} {Q : Exit → Act → World → Prop} {K : Act → World → Prop} {E : Prop}
theorem wpList_buildInR (z : Nat → Int) (n : Int) (hgd : o.guard = none) (x : Operand) (ho : o.op = .build 79 #[(0, x)]) (hx : a.eval x = .agg (ptl z n).toArray)
  (h : wpList Tryz.prog ops Q rest (a.put o.dst (.agg (tiv (tiOf (z, n)) none 0))) w) : wpList Tryz.prog ops Q (o :: rest) a w := by
 refine wpList_plain hgd fun K hK => ?_
 unfold Oper.wp execOp
 simp only [ho, List.map_toArray, List.map_cons, List.map_nil, hx, Sem.run_bind, build_inR, Result.andThen]
 exact hK _ _ h
theorem wpList_sliceInR (z : Nat → Int) (n : Int) (hgd : o.guard = none) (x : Operand) (ho : o.op = .buildSlice 55 1 #[(0, x)]) (hx : a.eval x = .agg (tiv (tiOf (z, n)) none 0))
  (h : ∀ w1, New w w1 (tiv (tiOf (z, n)) none 0) 79 → wpList Tryz.prog ops Q rest (a.put o.dst (.slice (some ⟨w.heap.size, 0, none⟩) 1 1)) w1) : wpList Tryz.prog ops Q (o :: rest) a w := by
 refine wpList_plain hgd fun K hK => ?_
 unfold Oper.wp execOp
 simp only [ho, List.map_toArray, List.map_cons, List.map_nil, hx, Sem.run_bind, slice_inR, Result.andThen]
 exact hK _ _ (h _ (new_alloc w _ _))
end
structure RClsP (P : Pm) (s : Sv) (w : World) (e : Ending) (w' : World) : Prop where
 bad : clsE P s ≠ 0 → e = .returned (.tuple #[zeroTx, .int .i64 (clsE P s)])
 ok : clsE P s = 0 → ∃ ia ic oa oc, e = .returned (.tuple #[.agg (txv 0 ia 1 ic oa (outsC P s 2).length oc), .int .i64 0]) ∧ TiAt w' ia 1 (tF (fun _ => (P.pt, P.n))) (fun _ => (none, 0)) ∧ ToAt w' oa (outsC P s 2).length (oF (outsC P s 2))
 below : Below w.heap.size w w'
end Go.Proofs.YtjnepkggdkccaaaGreatDoor
/- The document's Commit of layer 14. -/
namespace Go.Proofs.YtjnepkggdkccaaaGreatDoor
open Go.RowKit

section
variable {w w1 : World} {B kx : Nat} {x : Int} {os : List To} {zs : List (Int × Int)} {va : Option Addr} {vc : Nat} {ua : Option Addr} {uc : Nat} {A : Nat → Option Addr × Nat} {I : Nat → Nat × Nat}
theorem LayD.tout (h : LayD w B kx x os zs va vc ua uc A I) : ToAt w va os.length (oF os) := by
 refine ⟨fun hn => ?_⟩
 obtain ⟨g, rfl, _, _, hr⟩ := own_range h.outs hn
 refine ⟨g, 0, rfl, fun j hj => ⟨(A j).1, (A j).2, ?_, h.cond j hj w rfl (fun _ _ _ => rfl), fun e => absurd e (h.int j hj).2.2⟩⟩
 exact (flatL_range os.length (f := oL os A) (k := 2) (fun i _ => rfl)).1 hr j hj
theorem LayD.frm (h : LayD w B kx x os zs va vc ua uc A I) {q : Nat} (hf : Frm [q] w w1) (hq : q < kx) : LayD w1 B kx x os zs va vc ua uc A I := by
 have hs := hf.size
 obtain ⟨l1, l2⟩ := h.lt
 refine ⟨hf.heap h.fx (by simp; omega), ⟨l1, by omega⟩, own_keep h.outs (fun g e => hf.block g (h.outs.lt g e).2 (by have := (h.outs.lt g e).1; simp; omega)), own_keep h.pls (fun g e => hf.block g (h.pls.lt g e).2 (by have := (h.pls.lt g e).1; simp; omega)), fun j hj w' hx hw => h.cond j hj w' ?_ (fun k h1 h2 => ?_), fun j hj => ⟨(h.int j hj).1, by have := (h.int j hj).2.1; omega, (h.int j hj).2.2⟩, h.apO, h.apP⟩
 ·rw [hx]; exact hf.block kx (by omega) (by simp; omega)
 ·rw [hw k h1 h2]
  have := h.int j hj
  exact hf.block k (by omega) (by simp; omega)
end
theorem tiAt_new {w : World} {g : Nat} {z : (Nat → Int) × Int} (h : w.heap[g]? = some (.cells (tiv (tiOf z) none 0) 79 (0, 0))) (hz : Hb z.1) : TiAt w (some ⟨g, 0, none⟩) 1 (tF (fun _ => z)) (fun _ => (none, 0)) := ⟨fun _ _ => hz, fun _ => ⟨g, 0, rfl, fun i hi => by
 obtain rfl : i = 0 := by omega
 intro j v hv
 simp only [Nat.zero_mul, Nat.zero_add]
 exact cell_list h hv⟩⟩
structure RCmP (P : Pm) (s : Sv) (o : Int) (lk : Nat → Int) (w : World) (e : Ending) (w' : World) : Prop where
 bad : cmtE P s o lk ≠ 0 → e = .returned (.tuple #[zeroTx, .int .i64 (cmtE P s o lk)])
 ok : cmtE P s o lk = 0 → ∃ ia ic oa oc, e = .returned (.tuple #[.agg (txv 0 ia 1 ic oa (outsO (cm0 P o lk) s s.hn).length oc), .int .i64 0]) ∧ TiAt w' ia 1 (tF (fun _ => (P.pt, P.n))) (fun _ => (none, 0)) ∧ ToAt w' oa (outsO (cm0 P o lk) s s.hn).length (oF (outsO (cm0 P o lk) s s.hn))
 below : Below w.heap.size w w'
set_option maxRecDepth 100000 in
set_option maxHeartbeats 6400000 in
theorem rcommit_any (P : Pm) (s : Sv) (p : Pl) (o : Int) (lk : Nat → Int) (w : World) (h : SvAt w s p) (hs : s.Small) (hl : Zb lk) (hpt : Hb P.pt) :
  Calls Tryz.prog 12 #[.agg (pmv P), .agg (svv s p), .int .i64 o, .agg (hv lk)] w (RCmP P s o lk w) := by
 have HH : Hid (SvAt w s p ∧ s.Small ∧ Zb lk ∧ Hb P.pt) := ⟨h, hs, hl, hpt⟩
 clear h hs hl hpt
 go_enter Tryz.func12, Tryz.ntmps12
 go_upto_region 1 with (first | (refine wpList_boxN rfl _ _ rfl (pmv P) rfl ?_; intro v1 N1) | (refine wpList_boxN rfl _ _ rfl (svv s p) rfl ?_; intro v2 N2) | (refine wpList_boxN rfl _ _ rfl (hv lk) rfl ?_; intro v3 N3) | (refine wpList_allocN 58 #[.int .i64 0, .slice none 0 0, .slice none 0 0] run_allocTxR rfl rfl ?_; intro v4 N4) | fail)
 have HQ : Hid (w.heap.size < v1.heap.size ∧ v1.heap.size < v2.heap.size ∧ v2.heap.size < v3.heap.size ∧ v3.heap.size < v4.heap.size) := ⟨by have := N1.size; omega, by have := N2.size; omega, by have := N3.size; omega, by have := N4.size; omega⟩
 have HX : Hid (Below w.heap.size w v4 ∧ v4.heap[v3.heap.size]? = some (.cells #[.int .i64 0, .slice none 0 0, .slice none 0 0] 58 (0, 0)) ∧ (∀ w' : World, Below v4.heap.size v4 w' → w'.rangeAt w.heap.size 0 (pml P) ∧ w'.rangeAt v1.heap.size 0 (svv s p).toList ∧ w'.rangeAt v2.heap.size 0 (bl lk 32))) := by
  refine ⟨Below.transS N1.below (Below.transS N2.below (Below.transS N3.below N4.below)), N4.blk, fun w' hb => ⟨pml_range (heap_below hb (N4.old (N3.old (N2.old N1.blk)))), sv_range (heap_below hb (N4.old (N3.old N2.blk))), fun j v h1 => ?_⟩⟩
  rw [Nat.zero_add, cell_of_row _ _ j _ _ _ (heap_below hb (N4.old N3.blk))]
  simpa [hv] using h1
 clear N1 N2 N3 N4
 generalize v1.heap.size = bs at *
 generalize v2.heap.size = lb at *
 generalize v3.heap.size = rb at *
 have HP4 := hidV (HX.out.2.2 v4 (Below.refl _ _)).1
 have HS4 := hidV (HX.out.2.2 v4 (Below.refl _ _)).2.1
 go_wp2_with (first | (refine wpList_load_mid rfl 28 _ rfl w.heap.size 0 rfl (pml P) _ HP4.out Tryz.underlying28 rfl (szPmrl P) ?_) | (refine wpList_load_mid rfl 32 _ rfl bs 0 rfl (svv s p).toList _ HS4.out Tryz.underlying32 rfl szSr ?_) | fail)
 refine (rbcheck_any P s p v4 (HH.out.1.below HX.out.1) HH.out.2.1).mono ?_
 rintro e v5 ⟨rfl, hb5⟩
 have HB5 := hidV hb5
 have hr5 := heap_below hb5 HX.out.2.1
 have HE5 : Hid (∀ v6 : World, Frm [rb] v5 v6 → Below w.heap.size w v6) := fun v6 hf6 => (Below.transS HX.out.1 HB5.out).trans (hf6.below (by have := HX.out.1.size; have := HB5.out.size; omega) (by have := HQ.out; simp; omega))
 clear hb5 HP4 HS4
 by_cases h0 : bchkE P s = 0
 ·rw [h0]
  by_cases ho : 0 ≤ o ∧ o ≤ 1
  ·have hw0 : ownE P s o = 0 := by unfold ownE; rw [if_neg (by simpa using h0), if_pos ho]
   obtain ⟨o1, o2⟩ := id ho
   have n1 : ¬ o < 0 := by omega
   have n2 : ¬ 1 < o := by omega
   have b1 : decide (o < 0) = false := decide_eq_false n1
   have b2 : decide (1 < o) = false := decide_eq_false n2
   have HL5 := hidV (HX.out.2.2 v5 HB5.out).2.2
   have HZL := hidV HH.out.2.2.1
   by_cases h1 : hq lk nz = true
   ·have HE : Hid (cmtE P s o lk = 1) := by unfold cmtE; rw [if_neg (by simpa using hw0), if_pos h1]; exact rfl
    clear h0 ho o1 o2 hw0
    go_wp2_with (first | (refine wpList_loadHG (by rfl) _ rfl lb 0 rfl lk HL5.out ?_) | (refine wpList_buildHG (by rfl) rfl ?_) | (refine wpList_eqHG (by rfl) _ _ rfl lk nz rfl rfl HZL.out nz_bd ?_; rw [h1]) | (refine wpList_storeG 58 szTxR rfl _ _ rfl rb rfl #[.int .i64 0, .slice none 0 0, .slice none 0 0] #[.int .i64 0, .slice none 0 0, .slice none 0 0] rfl rfl (by kernel_rfl) 58 rfl hr5 ?_; intro v6 hg6 hf6) | fail)
    refine bodyPost_ret (results_T2R Tryz.results12 _ v6 rb 58 _ _ _ (0, 0) rfl hg6) rfl ⟨fun _ => by rw [HE.out]; rfl, fun h => absurd h (by rw [HE.out]; decide), HE5.out v6 hf6⟩
   ·have h1' : hq lk nz = false := by simpa using h1
    have HE : Hid (cmtE P s o lk = finE 1 (fun _ => (P.pt, P.n)) (outsO (cm0 P o lk) s s.hn) 0) := by unfold cmtE; rw [if_neg (by simpa using hw0), if_neg h1]; exact rfl
    have HC := hidV (cm0_ok hw0 HH.out.2.2.1)
    have HSO := hidV (ownE_ok hw0).1
    have HP5 := hidV (HX.out.2.2 v5 HB5.out).1
    have HS5 := hidV (HX.out.2.2 v5 HB5.out).2.1
    clear h0 ho o1 o2 hw0 h1 hr5
    go_wp2_with (first | (refine wpList_loadHG (by rfl) _ rfl lb 0 rfl lk HL5.out ?_) | (refine wpList_buildHG (by rfl) rfl ?_) | (refine wpList_eqHG (by rfl) _ _ rfl lk nz rfl rfl HZL.out nz_bd ?_; rw [h1']) | (refine wpList_load_mid rfl 28 _ rfl w.heap.size 0 rfl (pml P) _ HP5.out Tryz.underlying28 rfl (szPmrl P) ?_) | (refine wpList_load_mid rfl 32 _ rfl bs 0 rfl (svv s p).toList _ HS5.out Tryz.underlying32 rfl szSr ?_) | fail)
    refine (routs_any P s p o lk v5 HC.out ((HH.out.1.below HX.out.1).below HB5.out) HSO.out HH.out.2.1.k).mono ?_
    rintro e v6 ⟨va, vc, ua, uc, B, kx, A, I, rfl, hO, hkx, hb6⟩
    have HO6 := hidV (And.intro hO (And.intro hkx hb6))
    clear hO hkx hb6 HP5 HS5 HL5 HZL h1' n1 n2
    have HPT := hidV (pm_pt (HX.out.2.2 v6 (Below.transS HB5.out HO6.out.2.2)).1)
    have HMI := hidV (outsO_small (c := cm0 P o lk) HSO.out)
    have HML : Hid ((outsO (cm0 P o lk) s s.hn).length ≤ 10) := by have h1 := (outsO_len (cm0 P o lk) s s.hn).1; have h2 := HSO.out.2.1.1; show _ ≤ _; omega
    generalize hos : outsO (cm0 P o lk) s s.hn = os at *
    have HOS := hidV hos
    clear hos
    go_wp2_with (first | (refine wpList_load_mid rfl 25 _ rfl w.heap.size 0 rfl (ptl P.pt P.n) _ HPT.out Tryz.underlying25 rfl (szPtlR _ _) ?_) | (refine wpList_buildInR P.pt P.n rfl _ rfl rfl ?_) | (refine wpList_sliceInR P.pt P.n rfl _ rfl rfl ?_; intro v7 N7) | fail)
    have H7 : Hid (v7.heap[v6.heap.size]? = some (.cells (tiv (tiOf (P.pt, P.n)) none 0) 79 (0, 0)) ∧ LayD v7 B kx (keyS P (1 - o)) os (outsZ (cm0 P o lk) s s.hn) va vc ua uc A I ∧ Below v5.heap.size v5 v7) := ⟨N7.blk, HO6.out.1.below N7.below, Below.transS HO6.out.2.2 N7.below⟩
    have HLT : Hid (rb < v5.heap.size ∧ v5.heap.size ≤ kx ∧ v5.heap.size ≤ v6.heap.size) := ⟨by have := HQ.out; have := HB5.out.size; omega, HO6.out.2.1, HO6.out.2.2.size⟩
    clear N7 HPT
    refine (rdone_any 0 (some ⟨v6.heap.size, 0, none⟩) 1 1 va os.length vc (tF (fun _ => (P.pt, P.n))) (fun _ => (none, 0)) (oF os) v7 (tiAt_new H7.out.1 HH.out.2.2.2) H7.out.2.1.tout HMI.out (by decide) (by have := HML.out; omega)).mono ?_
    rintro e y3 ⟨rfl, hb3⟩
    have hr3 := heap_below hb3 (heap_below (Below.transS HB5.out H7.out.2.2) HX.out.2.1)
    have HW3 : Hid (Below v5.heap.size v5 y3 ∧ y3.heap[v6.heap.size]? = some (.cells (tiv (tiOf (P.pt, P.n)) none 0) 79 (0, 0)) ∧ LayD y3 B kx (keyS P (1 - o)) os (outsZ (cm0 P o lk) s s.hn) va vc ua uc A I) := ⟨Below.transS H7.out.2.2 hb3, heap_below hb3 H7.out.1, H7.out.2.1.below hb3⟩
    have HE2 : Hid (cmtE P s o lk = txE 0 1 (tF (fun _ => (P.pt, P.n))) os.length (oF os)) := HE
    have HE3 : Hid (∀ y4 : World, Frm [rb] y3 y4 → Below w.heap.size w y4) := fun y4 hf4 => (Below.transS (Below.transS HX.out.1 HB5.out) HW3.out.1).trans (hf4.below (by have := HX.out.1.size; have := HB5.out.size; have := HW3.out.1.size; omega) (by have := HQ.out; simp; omega))
    clear hb3 H7
    generalize hec : txE 0 1 (tF (fun _ => (P.pt, P.n))) os.length (oF os) = ec at *
    clear hec
    by_cases hf : ec = 0
    ·subst hf
     have e1 : DoneR 0 (some ⟨v6.heap.size, 0, none⟩) 1 1 va os.length vc 0 = .tuple #[.agg #[.int .i64 0, .slice (some ⟨v6.heap.size, 0, none⟩) 1 1, .slice va os.length vc], .int .i64 0] := rfl
     rw [e1]
     clear e1
     go_wp2_with (first | (refine wpList_storeG 58 szTxR rfl _ _ rfl rb rfl #[.int .i64 0, .slice (some ⟨v6.heap.size, 0, none⟩) 1 1, .slice va os.length vc] #[.int .i64 0, .slice none 0 0, .slice none 0 0] rfl rfl (by kernel_rfl) 58 rfl hr3 ?_; intro y4 hg4 hf4) | fail)
     have hD4 := HW3.out.2.2.frm hf4 (by have := HLT.out; omega)
     have hI4 := hf4.heap HW3.out.2.1 (by have := HLT.out; simp; omega)
     refine bodyPost_ret (results_T2R Tryz.results12 _ y4 rb 58 _ _ _ (0, 0) rfl hg4) rfl ⟨fun h => absurd HE2.out h, fun _ => ⟨some ⟨v6.heap.size, 0, none⟩, 1, va, vc, ?_, tiAt_new hI4 HH.out.2.2.2, ?_⟩, HE3.out y4 hf4⟩
     ·rw [HOS.out]; rfl
     ·rw [HOS.out]; exact hD4.tout
    ·have e1 : DoneR 0 (some ⟨v6.heap.size, 0, none⟩) 1 1 va os.length vc ec = .tuple #[.agg #[.int .i64 0, .slice none 0 0, .slice none 0 0], .int .i64 ec] := if_neg hf
     rw [e1]
     clear e1
     go_wp2_with (first | (refine wpList_storeG 58 szTxR rfl _ _ rfl rb rfl #[.int .i64 0, .slice none 0 0, .slice none 0 0] #[.int .i64 0, .slice none 0 0, .slice none 0 0] rfl rfl (by kernel_rfl) 58 rfl hr3 ?_; intro y4 hg4 hf4) | fail)
     refine bodyPost_ret (results_T2R Tryz.results12 _ y4 rb 58 _ _ _ (0, 0) rfl hg4) rfl ⟨fun _ => by rw [HE2.out]; rfl, fun h => absurd h (by rw [HE2.out]; exact hf), HE3.out y4 hf4⟩
  ·have hw0 : ownE P s o = 1 := by unfold ownE; rw [if_neg (by simpa using h0), if_neg ho]
   have HE : Hid (cmtE P s o lk = 1) := by unfold cmtE; rw [hw0]; rfl
   clear h0 hw0
   by_cases o1 : o < 0
   ·clear ho
    go_wp2_with (first | (refine wpList_storeG 58 szTxR rfl _ _ rfl rb rfl #[.int .i64 0, .slice none 0 0, .slice none 0 0] #[.int .i64 0, .slice none 0 0, .slice none 0 0] rfl rfl (by kernel_rfl) 58 rfl hr5 ?_; intro v6 hg6 hf6) | fail)
    refine bodyPost_ret (results_T2R Tryz.results12 _ v6 rb 58 _ _ _ (0, 0) rfl hg6) rfl ⟨fun _ => by rw [HE.out]; rfl, fun h => absurd h (by rw [HE.out]; decide), HE5.out v6 hf6⟩
   ·have o2 : 1 < o := by omega
    clear ho
    go_wp2_with (first | (refine wpList_storeG 58 szTxR rfl _ _ rfl rb rfl #[.int .i64 0, .slice none 0 0, .slice none 0 0] #[.int .i64 0, .slice none 0 0, .slice none 0 0] rfl rfl (by kernel_rfl) 58 rfl hr5 ?_; intro v6 hg6 hf6) | fail)
    refine bodyPost_ret (results_T2R Tryz.results12 _ v6 rb 58 _ _ _ (0, 0) rfl hg6) rfl ⟨fun _ => by rw [HE.out]; rfl, fun h => absurd h (by rw [HE.out]; decide), HE5.out v6 hf6⟩
 ·have h1 : ownE P s o = bchkE P s := if_pos h0
  have HE : Hid (cmtE P s o lk = bchkE P s ∧ cmtE P s o lk ≠ 0) := ⟨by unfold cmtE; rw [h1]; exact if_pos h0, by unfold cmtE; rw [h1, if_pos h0]; exact h0⟩
  have e1 : (bchkE P s == 0) = false := by simpa using h0
  clear h0 h1
  generalize bchkE P s = ec at *
  go_wp2_with (first | (refine wpList_storeG 58 szTxR rfl _ _ rfl rb rfl #[.int .i64 0, .slice none 0 0, .slice none 0 0] #[.int .i64 0, .slice none 0 0, .slice none 0 0] rfl rfl (by kernel_rfl) 58 rfl hr5 ?_; intro v6 hg6 hf6) | fail)
  refine bodyPost_ret (results_T2R Tryz.results12 _ v6 rb 58 _ _ _ (0, 0) rfl hg6) rfl ⟨fun _ => by rw [HE.out.1]; rfl, fun h => absurd h HE.out.2, HE5.out v6 hf6⟩
end Go.Proofs.YtjnepkggdkccaaaGreatDoor
