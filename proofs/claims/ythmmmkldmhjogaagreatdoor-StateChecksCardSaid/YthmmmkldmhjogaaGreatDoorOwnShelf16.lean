/- state.readHold: the walk. -/
import Derived.Test.YthmmmkldmhjogaaGreatDoorOwnShelf15
import Derived.Test.YthmmmkldmhjogaaGreatDoorOwnShelf14
import Derived.Test.YthmmmkldmhjogaaGreatDoorOwnShelf09
import Derived.Laws.IdiomStrings
import Derived.Lib.BufferRead
import Derived.Test.YthmmmkldmhjogaaGreatDoorOwnShelf12
import Derived.Test.YthmmmkldmhjogaaGreatDoorOwnShelf13
namespace Go.Proofs.YthmmmkldmhjogaaGreatDoor
open Go.RowKit

set_option maxRecDepth 100000 in
set_option maxHeartbeats 3200000 in
theorem rdHold_any (rb : Nat) (q : Option (List Int)) (w : World) (h : RS w rb q) :
  Calls Tryz.prog 24 #[.pointer (some ⟨rb, 0, none⟩)] w fun e w' => ∃ ka kc, e = .returned (.agg (hdv (hdS q).1 ka kc)) ∧ Frm [rb] w w' ∧ RS w' rb (hdS q).2 ∧ w'.ownsRow w.heap.size 3 1 (.slice ka (hdS q).1.n kc) (hdS q).1.n (kL (hdS q).1) := by
 have hrb := h.lt
 have hb0 : Below w.heap.size w (w.alloc (.cells #[.int .i64 0, .int .i64 0, .slice none 0 0] 64)) := (Below.refl _ w).alloc (Nat.le_refl _) _
 have h0 := h.keep hb0
 have hp0 : (w.alloc (.cells #[.int .i64 0, .int .i64 0, .slice none 0 0] 64)).heap[w.heap.size]? = some (.cells #[.int .i64 0, .int .i64 0, .slice none 0 0] 64 (0, 0)) := heap_alloc_new w _
 have hs0 : (w.alloc (.cells #[.int .i64 0, .int .i64 0, .slice none 0 0] 64)).heap.size = w.heap.size + 1 := by simp
 unfold hdS
 dsimp only
 obtain ⟨x1, e1⟩ : ∃ x, numS q = x := ⟨_, rfl⟩
 rw [e1]
 obtain ⟨x2, e2⟩ : ∃ x, numS x1.2 = x := ⟨_, rfl⟩
 rw [e2]
 obtain ⟨x3, e3⟩ : ∃ x, cntS 16 x2.2 = x := ⟨_, rfl⟩
 rw [e3]
 have E1 : Hid (numS q = x1) := e1
 have E2 : Hid (numS x1.2 = x2) := e2
 have E3 : Hid (cntS 16 x2.2 = x3) := e3
 clear e1 e2 e3
 unfold hdv
 dsimp only
 go_enter Tryz.func24, Tryz.ntmps24
 go_wp2_with fail
 generalize w.alloc (.cells #[.int .i64 0, .int .i64 0, .slice none 0 0] 64) = W0 at *
 have k1 := snum_any rb q W0 h0
 rw [E1.out] at k1
 refine k1.mono ?_
 rintro e w1 ⟨rfl, hF1, h1⟩
 clear k1
 go_wp2_with fail
 have k2 := snum_any rb x1.2 w1 h1
 rw [E2.out] at k2
 refine k2.mono ?_
 rintro e w2 ⟨rfl, hF2, h2⟩
 clear k2
 have hF : Frm [rb] W0 w2 := hF1.trans hF2
 have hp2 : w2.heap[w.heap.size]? = some (.cells #[.int .i64 0, .int .i64 0, .slice none 0 0] 64 (0, 0)) := hF.heap hp0 (by simp; omega)
 have hFw : Frm [rb] w w2 := (Frm.ofBelow hb0).trans hF
 have hs2 : w.heap.size + 1 ≤ w2.heap.size := by have := hF.size; omega
 have hxb := cntS_bd (most := 16) h2.by (by decide)
 rw [E3.out] at hxb
 obtain ⟨m, hm⟩ : ∃ m : Nat, x3.1 = m := ⟨x3.1.toNat, by omega⟩
 have hm16 : m ≤ 16 := by omega
 have HM : Hid (x3.1.toNat = m) := by rw [hm]; rfl
 clear hF1 hF2 hF h0 h1 hb0 hp0 hs0 h hxb
 have HH : Hid (Frm [rb] w w2 ∧ w2.heap[w.heap.size]? = some (.cells #[.int .i64 0, .int .i64 0, .slice none 0 0] 64 (0, 0)) ∧ w.heap.size + 1 ≤ w2.heap.size ∧ RS w2 rb x2.2) := ⟨hFw, hp2, hs2, h2⟩
 clear hFw hp2 hs2 h2
 go_wp2_with fail
 have hb3 : Below w2.heap.size w2 (w2.alloc (.cells #[.int .i64 x1.1, .int .i64 x2.1, .slice none 0 0] 64)) := (Below.refl _ _).alloc (Nat.le_refl _) _
 have hp3 : (w2.alloc (.cells #[.int .i64 x1.1, .int .i64 x2.1, .slice none 0 0] 64)).heap[w2.heap.size]? = some (.cells #[.int .i64 x1.1, .int .i64 x2.1, .slice none 0 0] 64 (0, 0)) := heap_alloc_new w2 _
 have k3 := count_rs rb 16 x2.2 _ (HH.out.2.2.2.keep hb3) (by decide)
 rw [E3.out, hm] at k3
 generalize w2.alloc (.cells #[.int .i64 x1.1, .int .i64 x2.1, .slice none 0 0] 64) = W3 at *
 refine k3.mono ?_
 rintro e w3 ⟨rfl, hF3, h3⟩
 clear k3
 have hl2 : w.heap.size < w2.heap.size := HH.out.2.2.1
 have hg0 : RhS w w3 rb w2.heap.size x1.1 x2.1 x3.2 none 0 0 := by
  refine ⟨(HH.out.1.trans (Frm.ofBelow hb3)).trans hF3, hl2, hF3.heap ?_ (by simp; omega), hF3.heap hp3 (by simp; omega), World.ownsRow_nil _ _ _ _, h3⟩
  rw [hb3.block _ hl2]
  exact HH.out.2.1
 clear hb3 hp3 hF3 h3 HH
 generalize w2.heap.size = g at *
 clear hm
 go_wp2_with fail
 go_loopw [11] (fun iv wr => ∃ (j : Nat) (ka : Option Addr) (kc : Nat), j ≤ m ∧ iv = .int .i64 j ∧ RhS w wr rb g x1.1 x2.1 x3.2 ka kc j) (fun iv _ => m + 1 - (intOf iv).toNat)
 case atStart => exact ⟨0, none, 0, by omega, rfl, hg0⟩
 case round =>
  clear hg0
  obtain ⟨j, ka, kc, hj, rfl, hG⟩ := hrel
  have HG : Hid (RhS w wr rb g x1.1 x2.1 x3.2 ka kc j) := hG
  have hbig := hG.big
  clear hG
  by_cases hlt : j < m
  ·have hlt' : (j : Int) < m := by omega
   have c2 : wr.cell? ⟨g, 2, none⟩ = some (.slice ka j kc) := by rw [cell_of_row _ _ 2 _ _ _ HG.out.box]; rfl
   have hf2 : ∀ o, wr.frozen? ⟨g, o, none⟩ = false := fun o => frozen_of_row _ _ o _ _ HG.out.box
   have S0 : wr.drew.cell? ⟨g, 2, none⟩ = some (.slice ka j kc) := c2
   have HRd : Hid (RS wr.drew rb (stN x3.2 j)) := HG.out.rs.upto (fun _ _ => rfl)
   go_wp2_with fail
   refine wp_region_noPanic ?_
   refine wp_region_K (S := fun w' => w'.cell? ⟨g, 2, none⟩ = some (.slice ka j kc)) 7 (by kernel_rfl) S0 (fun hHeld => ?_)
   generalize hWd : wr.drew = Wd at *
   refine wpAnyK_take (by kernel_rfl) (i := 0) (oi := ⟨some 13, .fieldAddr 64 (.tmp 3) 2, 0, _, _, none⟩) (v := ?_) rfl (by kernel_rfl) (by kernel_rfl) (by kernel_rfl) (fun _ _ _ h => h) (Or.inl ⟨by rfl, ?_⟩) (by assumption) ?_
   rotate_left
   ·intro wz hSw; (try dsimp only at hSw); go_simp; (try with_reducible rfl)
   try simp only [Act.put, sqA, sqB, sqC]
   refine wpAnyK_take (by kernel_rfl) (i := 1) (oi := ⟨some 14, .load 53 (.tmp 13), 53, _, _, none⟩) (v := ?_) rfl (by kernel_rfl) (by kernel_rfl) (by kernel_rfl) (fun _ _ _ h => h) (Or.inl ⟨by rfl, ?_⟩) (by assumption) ?_
   rotate_left
   ·intro wz hSw; (try dsimp only at hSw); go_simp; (try with_reducible rfl)
   try simp only [Act.put, sqA, sqB, sqC]
   refine wpAnyK_take (by kernel_rfl) (i := 2) (oi := ⟨some 15, .move (.tmp 0), 57, _, _, none⟩) (v := ?_) rfl (by kernel_rfl) (by kernel_rfl) (by kernel_rfl) (fun _ _ _ h => h) (Or.inl ⟨by rfl, ?_⟩) (by assumption) ?_
   rotate_left
   ·intro wz hSw; (try dsimp only at hSw); go_simp; (try with_reducible rfl)
   try simp only [Act.put, sqA, sqB, sqC]
   refine wpAnyK_ready (rs := [3]) (by kernel_rfl) (by simp) ?_
   refine (AllReadyK.cons (o := ⟨some 16, .call { callee := Go.Callee.value (.func 21), args := #[.tmp 15], argTypes := #[57] }, 3, _, _, none⟩) rfl (fun K hK => ?_) AllReadyK.nil)
   go_simp
   refine (snum_any rb (stN x3.2 j) Wd HRd.out).mono ?_
   rintro e w5 ⟨rfl, hF5, h5⟩
   have hF0 : Frm [rb] w Wd := by subst hWd; exact ⟨HG.out.frm.os, HG.out.frm.tape, HG.out.frm.output, HG.out.frm.size, HG.out.frm.block⟩
   have hlg := HG.out.lt
   have hres5 : w5.heap[w.heap.size]? = some (.cells #[.int .i64 0, .int .i64 0, .slice none 0 0] 64 (0, 0)) := hF5.heap (by subst hWd; exact HG.out.res) (by simp; omega)
   have hbox5 : w5.heap[g]? = some (.cells #[.int .i64 x1.1, .int .i64 x2.1, .slice ka j kc] 64 (0, 0)) := hF5.heap (by subst hWd; exact HG.out.box) (by simp; omega)
   have hown5 : w5.ownsRow (g + 1) 3 1 (.slice ka j kc) j (kL ⟨x1.1, x2.1, j, fun i => (numS (stN x3.2 i)).1⟩) := own_frm (own_keep HG.out.own fun g' _ => by subst hWd; rfl) hF5 (fun k hk => by simp at hk; omega)
   have S5 : w5.cell? ⟨g, 2, none⟩ = some (.slice ka j kc) := by rw [cell_of_row _ _ 2 _ _ _ hbox5]; rfl
   have H5 : Hid (Frm [rb] w w5 ∧ RS w5 rb (numS (stN x3.2 j)).2 ∧ w5.heap[w.heap.size]? = some (.cells #[.int .i64 0, .int .i64 0, .slice none 0 0] 64 (0, 0)) ∧ w5.heap[g]? = some (.cells #[.int .i64 x1.1, .int .i64 x2.1, .slice ka j kc] 64 (0, 0)) ∧ w5.ownsRow (g + 1) 3 1 (.slice ka j kc) j (kL ⟨x1.1, x2.1, j, fun i => (numS (stN x3.2 i)).1⟩)) := ⟨hF0.trans hF5, h5, hres5, hbox5, hown5⟩
   clear hF5 h5 hF0 hres5 hbox5 hown5 HRd
   refine hK.out _ _ (fun _ => S5) (fun _ => ?_)
   clear hK K
   try simp only [Act.put, sqA, sqB, sqC]
   refine wpAnyK_ready (rs := [4]) (by kernel_rfl) (by simp) ?_
   refine (AllReadyK.cons (o := ⟨some 17, .buildSlice 53 1 #[(0, .tmp 16)], 53, _, _, none⟩) rfl (fun K hK => ?_) AllReadyK.nil)
   refine step_sliceK rfl (.tmp 16) rfl (numS (stN x3.2 j)).1 (by rfl) ?_
   have hb6 : Below w5.heap.size w5 (w5.alloc (.cells #[.int .i64 (numS (stN x3.2 j)).1] 3)) := (Below.refl _ _).alloc (Nat.le_refl _) _
   have hq6 : (w5.alloc (.cells #[.int .i64 (numS (stN x3.2 j)).1] 3)).heap[w5.heap.size]? = some (.cells #[.int .i64 (numS (stN x3.2 j)).1] 3 (0, 0)) := heap_alloc_new w5 _
   generalize w5.alloc (.cells #[.int .i64 (numS (stN x3.2 j)).1] 3) = w6 at *
   have hbox6 : w6.heap[g]? = some (.cells #[.int .i64 x1.1, .int .i64 x2.1, .slice ka j kc] 64 (0, 0)) := by rw [hb6.block _ (lt_of_block H5.out.2.2.2.1)]; exact H5.out.2.2.2.1
   have hres6 : w6.heap[w.heap.size]? = some (.cells #[.int .i64 0, .int .i64 0, .slice none 0 0] 64 (0, 0)) := by rw [hb6.block _ (lt_of_block H5.out.2.2.1)]; exact H5.out.2.2.1
   have S6 : w6.cell? ⟨g, 2, none⟩ = some (.slice ka j kc) := by rw [cell_of_row _ _ 2 _ _ _ hbox6]; rfl
   have H6 : Hid (Frm [rb] w w6 ∧ RS w6 rb (numS (stN x3.2 j)).2 ∧ w6.heap[w.heap.size]? = some (.cells #[.int .i64 0, .int .i64 0, .slice none 0 0] 64 (0, 0)) ∧ w6.heap[g]? = some (.cells #[.int .i64 x1.1, .int .i64 x2.1, .slice ka j kc] 64 (0, 0)) ∧ w6.ownsRow (g + 1) 3 1 (.slice ka j kc) j (kL ⟨x1.1, x2.1, j, fun i => (numS (stN x3.2 i)).1⟩)) := ⟨H5.out.1.trans (Frm.ofBelow hb6), H5.out.2.1.keep hb6, hres6, hbox6, own_below H5.out.2.2.2.2 hb6⟩
   clear hb6 hres6 H5
   refine hK.out _ _ (fun _ => S6) (fun _ => ?_)
   clear hK K
   try simp only [Act.put, sqA, sqB, sqC]
   refine wpAnyK_ready (rs := [5]) (by kernel_rfl) (by simp) ?_
   refine (AllReadyK.cons (o := ⟨some 18, .call { callee := Go.Callee.builtin Go.Builtin.append, args := #[.tmp 14, .tmp 17], argTypes := #[53, 53] }, 53, _, _, none⟩) rfl (fun K hK => ?_) AllReadyK.nil)
   refine step_append_K rfl (.tmp 14) (.tmp 17) rfl (g + 1) w5.heap.size (.slice ka j kc) j (kL ⟨x1.1, x2.1, j, fun i => (numS (stN x3.2 i)).1⟩) (numS (stN x3.2 j)).1 (by rfl) (by rfl) H6.out.2.2.2.2 (lt_of_block H6.out.2.2.2.1) hq6 (by omega) ?_
   intro va vc w7 hown hgrow
   have hlo := grown_low H6.out.2.2.2.2 hgrow (lt_of_block H6.out.2.2.2.1)
   have hbox7 : w7.heap[g]? = some (.cells #[.int .i64 x1.1, .int .i64 x2.1, .slice ka j kc] 64 (0, 0)) := by rw [hlo _ (by omega)]; exact hbox6
   have S7 : w7.cell? ⟨g, 2, none⟩ = some (.slice ka j kc) := by rw [cell_of_row _ _ 2 _ _ _ hbox7]; rfl
   have f7 : ∀ o, w7.frozen? ⟨g, o, none⟩ = false := fun o => frozen_of_row _ _ o _ _ hbox7
   have HN : Hid (RhS w (w7.setCell ⟨g, 2, none⟩ (.slice va (j + 1) vc)) rb g x1.1 x2.1 x3.2 va vc (j + 1)) := RhS.push hrb hlg H6.out.1 H6.out.2.2.1 H6.out.2.2.2.1 H6.out.2.2.2.2 H6.out.2.1 hown hgrow
   refine hK.out _ _ (fun _ => S7) (fun _ => ?_)
   clear hK K hown hgrow hlo hbox6 hbox7 H6 hq6 S5 S6 HG c2 hf2 S0
   try simp only [Act.put, sqA, sqB, sqC]
   refine wpAnyK_take (by kernel_rfl) (i := 6) (oi := ⟨some 19, .fieldAddr 64 (.tmp 3) 2, 0, _, _, none⟩) (v := ?_) rfl (by kernel_rfl) (by kernel_rfl) (by kernel_rfl) (fun _ _ _ h => h) (Or.inl ⟨by rfl, ?_⟩) (by assumption) ?_
   rotate_left
   ·intro wz hSw; (try dsimp only at hSw); go_simp; (try with_reducible rfl)
   try simp only [Act.put, sqA, sqB, sqC]
   refine wpAnyK_ready (rs := [7]) (by kernel_rfl) (by simp) ?_
   refine (AllReadyK.cons (o := ⟨none, .store 53 (.tmp 19) (.tmp 18), 0, _, _, none⟩) rfl (fun K hK => ?_) AllReadyK.nil)
   go_simp
   refine hK.out _ _ (fun h => absurd rfl h) (fun _ => ?_)
   clear hK K
   refine wpAnyK_done (by kernel_rfl) (NoPanic.normal ?_) _
   try simp only [Act.put, sqA, sqB, sqC]
   clear hHeld S7 f7
   go_wp2
   go_roundw
   case rel => exact ⟨j + 1, _, _, by omega, by go_num, HN.out⟩
   case measure => simp [intOf]; omega
  ·have hin : j = m := by omega
   have hnn : ¬ ((j : Int) < m) := by omega
   have HG2 : Hid (RhS w wr rb g x1.1 x2.1 x3.2 ka kc m) := by rw [← hin]; exact HG.out
   have b0 : wr.cell? ⟨g, 0, none⟩ = some (.int .i64 x1.1) := by rw [cell_of_row _ _ 0 _ _ _ HG2.out.box]; rfl
   have b1 : wr.cell? ⟨g, 1, none⟩ = some (.int .i64 x2.1) := by rw [cell_of_row _ _ 1 _ _ _ HG2.out.box]; rfl
   have b2 : wr.cell? ⟨g, 2, none⟩ = some (.slice ka m kc) := by rw [cell_of_row _ _ 2 _ _ _ HG2.out.box]; rfl
   have d0 : wr.cell? ⟨w.heap.size, 0, none⟩ = some (.int .i64 0) := by rw [cell_of_row _ _ 0 _ _ _ HG2.out.res]; rfl
   have d1 : wr.cell? ⟨w.heap.size, 1, none⟩ = some (.int .i64 0) := by rw [cell_of_row _ _ 1 _ _ _ HG2.out.res]; rfl
   have d2 : wr.cell? ⟨w.heap.size, 2, none⟩ = some (.slice none 0 0) := by rw [cell_of_row _ _ 2 _ _ _ HG2.out.res]; rfl
   have df : ∀ o, wr.frozen? ⟨w.heap.size, o, none⟩ = false := fun o => frozen_of_row _ _ o _ _ HG2.out.res
   have hlg := HG2.out.lt
   clear HG hin
   go_wp2
   have hE : (((wr.setCell ⟨w.heap.size, 0, none⟩ (.int .i64 x1.1)).setCell ⟨w.heap.size, 1, none⟩ (.int .i64 x2.1)).setCell ⟨w.heap.size, 2, none⟩ (.slice ka m kc)).heap[w.heap.size]? = some (.cells #[.int .i64 x1.1, .int .i64 x2.1, .slice ka m kc] 64 (0, 0)) := three_set2 (three_set1 (three_set0 HG2.out.res))
   have ho : ∀ k, k ≠ w.heap.size → (((wr.setCell ⟨w.heap.size, 0, none⟩ (.int .i64 x1.1)).setCell ⟨w.heap.size, 1, none⟩ (.int .i64 x2.1)).setCell ⟨w.heap.size, 2, none⟩ (.slice ka m kc)).heap[k]? = wr.heap[k]? := fun k hk => by
    rw [Below.heap_setCell _ _ _ _ (by exact hk), Below.heap_setCell _ _ _ _ (by exact hk), Below.heap_setCell _ _ _ _ (by exact hk)]
   refine bodyPost_ret (results_cell_row Tryz.results24 _ _ w.heap.size 64 _ (0, 0) _ rfl hE Tryz.underlying64 rfl szH) rfl ⟨ka, kc, ?_, ?_, ?_, ?_⟩
   ·rw [HM.out]
   ·refine ⟨HG2.out.frm.os, HG2.out.frm.tape, HG2.out.frm.output, by simpa [World.setCell] using HG2.out.frm.size, fun k hk hk2 => ?_⟩
    rw [ho _ (by omega)]
    exact HG2.out.frm.block k hk hk2
   ·rw [HM.out]
    exact HG2.out.rs.upto (fun k hk => ho k (by omega))
   ·rw [HM.out]
    exact own_low (own_keep HG2.out.own fun g' e => ho g' (by have := (HG2.out.own.lt g' e).1; omega)) (by omega)
end Go.Proofs.YthmmmkldmhjogaaGreatDoor
/- state.Decode: what it has on the way. -/
namespace Go.Proofs.YthmmmkldmhjogaaGreatDoor
open Go.RowKit

/-- What is left behind i payments; behind j holds. -/
def stP (q : Option (List Int)) : Nat → Option (List Int)
 | 0 => q
 | i + 1 => (pyS (stP q i)).2
def stH (q : Option (List Int)) : Nat → Option (List Int)
 | 0 => q
 | i + 1 => (hdS (stH q i)).2
/-- The state that bytes tell, whether it may be or not, and what is left of them. -/
def dS (x1 x2 x3 x4 : Int × Option (List Int)) (x5 : Int × Option (List Int)) : Sv :=
 ⟨x1.1, x2.1, x3.1, x4.1.toNat, fun i => (pyS (stP x4.2 i)).1, x5.1.toNat, fun j => (hdS (stH x5.2 j)).1⟩
def d1 (l : List Int) := numS (some l)
def d2 (l : List Int) := numS (d1 l).2
def d3 (l : List Int) := numS (d2 l).2
def d4 (l : List Int) := cntS 8 (d3 l).2
def d5 (l : List Int) := cntS 8 (stP (d4 l).2 (d4 l).1.toNat)
def decS (l : List Int) : Sv := dS (d1 l) (d2 l) (d3 l) (d4 l) (d5 l)
def decQ (l : List Int) : Option (List Int) := stH (d5 l).2 (d5 l).1.toNat
def decOk (l : List Int) : Prop := decQ l = some [] ∧ SOk (decS l)
instance (l : List Int) : Decidable (decOk l) := inferInstanceAs (Decidable (_ ∧ _))
def decT (l : List Int) : Sv := if decOk l then decS l else sv0
def decE (l : List Int) : Int := if decOk l then 0 else 3
/-- A state on the way: i payments and j holds of s are there; block g is the variable, rb the reader. -/
structure DcS (w wr : World) (rb g : Nat) (s : Sv) (p : Pl) (A : Nat → Option Addr × Nat) (i j : Nat) (q : Option (List Int)) : Prop where
 below : Below w.heap.size w wr
 l1 : w.heap.size < rb
 l2 : rb < g
 res : wr.heap[w.heap.size]? = some (.cells #[.int .i64 0, .int .i64 0, .int .i64 0, .slice none 0 0, .slice none 0 0] 33 (0, 0))
 box : wr.heap[g]? = some (.cells #[.int .i64 s.nu, .int .i64 s.a, .int .i64 s.b, .slice p.pa i p.pc, .slice p.ha j p.hc] 33 (0, 0))
 py : wr.ownsRow (g + 1) 62 36 (.slice p.pa i p.pc) i (flatL (pf s.P) i)
 hd : wr.ownsRow (g + 1) 64 3 (.slice p.ha j p.hc) j (flatL (hf s.H A) j)
 ks : ∀ k, k < j → wr.ownsRow (g + 1) 3 1 (.slice (A k).1 (s.H k).n (A k).2) (s.H k).n (kL (s.H k))
 lk : ∀ k, k < i → Zb (s.P k).lk
 rs : RS wr rb q
theorem DcS.big {w wr : World} {rb g : Nat} {s : Sv} {p : Pl} {A : Nat → Option Addr × Nat} {i j : Nat} {q : Option (List Int)} (h : DcS w wr rb g s p A i j q) : g + 1 ≤ wr.heap.size := lt_of_block h.box
theorem DcS.frm {w wr w' : World} {rb g : Nat} {s : Sv} {p : Pl} {A : Nat → Option Addr × Nat} {i j : Nat} {q q' : Option (List Int)} (h : DcS w wr rb g s p A i j q) (hf : Frm [rb] wr w') (hr : RS w' rb q') : DcS w w' rb g s p A i j q' := by
 have l1 := h.l1
 have l2 := h.l2
 refine ⟨h.below.trans (hf.below (by have := h.below.size; omega) (by simp; omega)), h.l1, h.l2, hf.heap h.res (by simp; omega), hf.heap h.box (by simp; omega), own_frm h.py hf (fun k hk => by simp at hk; omega), own_frm h.hd hf (fun k hk => by simp at hk; omega), fun k hk => own_frm (h.ks k hk) hf (fun k hk => by simp at hk; omega), h.lk, hr⟩
theorem DcS.keep {w wr w' : World} {rb g : Nat} {s : Sv} {p : Pl} {A : Nat → Option Addr × Nat} {i j : Nat} {q : Option (List Int)} (h : DcS w wr rb g s p A i j q) (hb : Below wr.heap.size wr w') : DcS w w' rb g s p A i j q := h.frm (Frm.ofBelow hb) (h.rs.keep hb)
theorem DcS.pushP {w w1 w2 : World} {rb g : Nat} {s : Sv} {p : Pl} {A : Nat → Option Addr × Nat} {i j : Nat} {q : Option (List Int)} {va : Option Addr} {vc : Nat} (h : DcS w w1 rb g s p A i j q) (hz : Zb (s.P i).lk) (hown : w2.ownsRow (g + 1) 62 36 (.slice va (i + 1) vc) (i + 1) (flatL (pf s.P) i ++ pyl (s.P i))) (hg : w1.grownBy w2 (Value.slice p.pa i p.pc).ownBlock) :
  DcS w (w2.setCell ⟨g, 3, none⟩ (.slice va (i + 1) vc)) rb g s ⟨va, vc, p.ha, p.hc⟩ A (i + 1) j q := by
 have l1 := h.l1
 have l2 := h.l2
 have hl := grown_low h.py hg h.big
 have hs : ∀ k, k ≠ g → (w2.setCell ⟨g, 3, none⟩ (.slice va (i + 1) vc)).heap[k]? = w2.heap[k]? := fun k hk => Below.heap_setCell _ _ _ _ (by exact hk)
 refine ⟨?_, l1, l2, ?_, ?_, ?_, ?_, fun k hk => ?_, fun k hk => ?_, ?_⟩
 ·exact (grown_below h.py hg h.below (by omega)).setCell (by show w.heap.size ≤ g; omega) _
 ·rw [hs _ (by omega), hl _ (by omega)]; exact h.res
 ·exact five_set3 (by rw [hl _ (by omega)]; exact h.box)
 ·exact own_keep hown fun g' e => hs g' (by have := (hown.lt g' e).1; omega)
 ·have := grown_keepV h.py h.hd (by decide) hg
  exact own_keep this fun g' e => hs g' (by have := (this.lt g' e).1; omega)
 ·have := grown_keepV h.py (h.ks k hk) (by decide) hg
  exact own_keep this fun g' e => hs g' (by have := (this.lt g' e).1; omega)
 ·by_cases e : k = i
  ·rw [e]; exact hz
  ·exact h.lk k (by omega)
 ·exact h.rs.upto (fun k hk => by rw [hs _ (by omega), hl _ (by omega)])
theorem DcS.pushH {w w1 w2 : World} {rb g : Nat} {s : Sv} {p : Pl} {A : Nat → Option Addr × Nat} {i j : Nat} {q : Option (List Int)} {va ka : Option Addr} {vc kc : Nat} (h : DcS w w1 rb g s p A i j q) (hk : w1.ownsRow (g + 1) 3 1 (.slice ka (s.H j).n kc) (s.H j).n (kL (s.H j))) (hown : w2.ownsRow (g + 1) 64 3 (.slice va (j + 1) vc) (j + 1) (flatL (hf s.H A) j ++ hdl (s.H j) ka kc)) (hg : w1.grownBy w2 (Value.slice p.ha j p.hc).ownBlock) :
  DcS w (w2.setCell ⟨g, 4, none⟩ (.slice va (j + 1) vc)) rb g s ⟨p.pa, p.pc, va, vc⟩ (fun k => if k = j then (ka, kc) else A k) i (j + 1) q := by
 have l1 := h.l1
 have l2 := h.l2
 have hl := grown_low h.hd hg h.big
 have hs : ∀ k, k ≠ g → (w2.setCell ⟨g, 4, none⟩ (.slice va (j + 1) vc)).heap[k]? = w2.heap[k]? := fun k hk => Below.heap_setCell _ _ _ _ (by exact hk)
 refine ⟨?_, l1, l2, ?_, ?_, ?_, ?_, fun k hkj => ?_, h.lk, ?_⟩
 ·exact (grown_below h.hd hg h.below (by omega)).setCell (by show w.heap.size ≤ g; omega) _
 ·rw [hs _ (by omega), hl _ (by omega)]; exact h.res
 ·exact five_set4 (by rw [hl _ (by omega)]; exact h.box)
 ·have := grown_keepV h.hd h.py (by decide) hg
  exact own_keep this fun g' e => hs g' (by have := (this.lt g' e).1; omega)
 ·rw [flatL, flatL_congr j (g := hf s.H A) (fun k hk => by simp [hf, show ¬ k = j by omega])]
  have e : hf s.H (fun k => if k = j then (ka, kc) else A k) j = hdl (s.H j) ka kc := by simp [hf]
  rw [e]
  exact own_keep hown fun g' e => hs g' (by have := (hown.lt g' e).1; omega)
 ·by_cases e : k = j
  ·subst e
   simp only [if_true]
   have := grown_keepV h.hd hk (by decide) hg
   exact own_keep this fun g' e => hs g' (by have := (this.lt g' e).1; omega)
  ·simp only [if_neg e]
   have := grown_keepV h.hd (h.ks k (by omega)) (by decide) hg
   exact own_keep this fun g' e => hs g' (by have := (this.lt g' e).1; omega)
 ·exact h.rs.upto (fun k hk => by rw [hs _ (by omega), hl _ (by omega)])
theorem uintR_le {most v : Int} {l r : List Int} (h : uintR most l = some (v, r)) : v ≤ most := by
 unfold uintR at h
 split at h
 ·rename_i hE
  cases h
  unfold uV
  rw [if_pos hE]
  unfold uE at hE
  split at hE
  ·simp at hE
  ·split at hE
   ·simp at hE
   ·split at hE
    ·split at hE
     ·simp at hE
     ·omega
    ·rename_i h2
     exact absurd hE h2
 ·cases h
theorem cntS_le (q : Option (List Int)) {most : Int} (hm : 0 ≤ most) : (cntS most q).1 ≤ most := by
 unfold cntS tk
 cases q with
 | none => exact hm
 | some l =>
  dsimp only [countR]
  by_cases hE : cE l.length (fn l) most = 0
  ·rw [if_pos hE]
   dsimp only
   have hu := cE_u hE
   have hmx : max most 0 = most := by omega
   rw [hmx] at hu
   have : uintR most l = some (uV l.length (fn l) most, l.drop (uN l.length (fn l) most)) := by unfold uintR; rw [if_pos hu]
   rw [cV, if_pos hE, hmx]
   exact uintR_le this
  ·rw [if_neg hE]; exact hm
theorem hdS_n (q : Option (List Int)) : (hdS q).1.n ≤ 16 := by
 show (cntS 16 (numS (numS q).2).2).1.toNat ≤ 16
 have := cntS_le (numS (numS q).2).2 (most := 16) (by decide)
 omega
theorem decS_pn (l : List Int) : (decS l).pn ≤ 8 := by
 show (d4 l).1.toNat ≤ 8
 have : (d4 l).1 ≤ 8 := cntS_le _ (by decide)
 omega
theorem decS_hn (l : List Int) : (decS l).hn ≤ 8 := by
 show (d5 l).1.toNat ≤ 8
 have : (d5 l).1 ≤ 8 := cntS_le _ (by decide)
 omega
theorem decS_small (l : List Int) : (decS l).Small :=
 ⟨by have := decS_pn l; have := decS_hn l; omega, fun j _ => by have : ((decS l).H j).n ≤ 16 := hdS_n _; omega⟩
theorem decT_small (l : List Int) : (decT l).Small := by
 unfold decT
 split
 ·exact decS_small l
 ·exact sv0_small
end Go.Proofs.YthmmmkldmhjogaaGreatDoor
/- Bytes as a string. -/
namespace Go.Proofs.YthmmmkldmhjogaaGreatDoor
open Go.RowKit

/-- n bytes z as a string. -/
def strB (z : Nat → Int) (n : Nat) : ByteArray := ⟨((List.range n).map fun j => UInt8.ofNat (z j).toNat).toArray⟩

theorem conv_any (ad : Option Addr) (n cap : Nat) (z : Nat → Int) (w : World) (hs : SlAt w ad n z) (hnil : ad = none → n = 0 ∧ cap = 0) :
  (convert 27 9 (.slice ad n cap)).run Tryz.prog w = .ok (.string (strB z n)) w := by
 cases ad with
 | none =>
  obtain ⟨rfl, rfl⟩ := hnil rfl
  exact Lib.run_convert_nil_bytes w 27 9 5 0 Tryz.underlying27 Tryz.underlying5 Tryz.underlying9
 | some a =>
  have h := run_convert_bytes_back (P := Tryz.prog) w 27 9 5 a cap ((List.range n).map fun j => UInt8.ofNat (z j).toNat) Tryz.underlying27 Tryz.underlying5 Tryz.underlying9 ?_
  ·simpa [strB] using h
  ·intro j hj
   simp at hj
   obtain ⟨b, off, e, hc⟩ := hs.2 (by omega)
   cases e
   have hz := hs.1 j hj
   rw [Addr.add_lit, hc j hj]
   simp
   omega
end Go.Proofs.YthmmmkldmhjogaaGreatDoor
/- state.Encode's closure; a writer with blocks beside it that stay. -/
namespace Go.Proofs.YthmmmkldmhjogaaGreatDoor
open Go.RowKit

/-- An int as a number from 0 on. -/
def u64 (n : Int) : Int := IntKind.u64.wrap n
theorem u64_bd (n : Int) : 0 ≤ u64 n ∧ u64 n ≤ 18446744073709551615 := by
 unfold u64
 simp [IntKind.wrap, IntKind.bits, IntKind.signed]
 omega
theorem u64_nat (n : Nat) (h : n ≤ 9223372036854775807) : u64 (n : Int) = n := by
 unfold u64
 simp [IntKind.wrap, IntKind.bits, IntKind.signed]
 omega
/-- Ints as they are laid. -/
def laidK (z : Nat → Int) : Nat → List Int
 | 0 => []
 | j + 1 => laidK z j ++ uB (u64 (z j))
theorem uB_len (n : Int) : (uB n).length ≤ 9 := by
 have := sz_le n
 simp [uB, dgs_length]
 omega
theorem laidK_len (z : Nat → Int) : ∀ j, (laidK z j).length ≤ 9 * j
 | 0 => by simp [laidK]
 | j + 1 => by
  have h1 := laidK_len z j
  have h2 := uB_len (u64 (z j))
  simp only [laidK, List.length_append]
  omega
theorem WrGrown.refl {w : World} {B p : Nat} {g : Option Nat} {l : List Int} (h : WrAt w B p g l) : WrGrown w w B p g l := ⟨g, h, Frm.refl _ _, .inl rfl⟩
theorem WrGrown.next {w w1 w2 : World} {B p : Nat} {g g1 : Option Nat} {l l' : List Int} (h : WrGrown w w1 B p g l) (h1 : WrAt w1 B p g1 l) (h2 : WrGrown w1 w2 B p g1 l') : WrGrown w w2 B p g l' :=
 h.trans fun g' hg' => by rw [hg'.same h1]; exact h2
theorem isAt_frm {S : List Nat} {w w' : World} {ad : Option Addr} {n : Nat} {z : Nat → Int} (h : IsAt w ad n z) (hf : Frm S w w') (ha : ∀ a, ad = some a → a.block ∉ S) : IsAt w' ad n z := by
 intro hn
 obtain ⟨b, off, e, hc⟩ := h hn
 refine ⟨b, off, e, fun j hj => ?_⟩
 have h1 := hc j hj
 rw [World.cell?_of_block (a := ⟨b, off + j, none⟩) (hf.block b (World.block_lt_of_cell? w ⟨b, off + j, none⟩ h1) (ha _ e))]
 exact h1


theorem WrAt.glt {w : World} {B p : Nat} {g : Option Nat} {l : List Int} (h : WrAt w B p g l) : ∀ k, k ∈ p :: g.toList → B ≤ k ∧ k < w.heap.size := by
 obtain ⟨v, hp, hown, hg, hB, _⟩ := h
 intro k hk
 rcases List.mem_cons.1 hk with rfl | hk
 ·exact ⟨hB, lt_of_block hp⟩
 ·subst hg
  have hk' : v.ownBlock = some k := by simpa using hk
  exact hown.lt k hk'
theorem WrAt.keep {w w' : World} {B p : Nat} {g : Option Nat} {l : List Int} (h : WrAt w B p g l) (hb : Below w.heap.size w w') : WrAt w' B p g l := by
 obtain ⟨v, hp, hown, hg, hB, hx⟩ := h
 refine ⟨v, by rw [hb.block _ (lt_of_block hp)]; exact hp, ⟨hown.1, ?_⟩, hg, hB, hx⟩
 rcases hown.2 with hn | ⟨g', cap, cur, e, hbs, hgc, rest⟩
 ·exact .inl hn
 ·exact .inr ⟨g', cap, cur, e, hbs, by rw [hb.block _ (lt_of_block hgc)]; exact hgc, rest⟩

/-- A writer made since W0, at its first new block, has laid L; what was there in W0 is as it was; K: blocks beside it that hold something. -/
structure PutL (W0 wr : World) (L : List Int) (K : List (Nat × Obj)) : Prop where
 at_ : ∃ g, WrAt wr W0.heap.size W0.heap.size g L ∧ ∀ x, x ∈ K → wr.heap[x.1]? = some x.2 ∧ x.1 ∉ W0.heap.size :: g.toList
 below : Below W0.heap.size W0 wr
theorem PutL.keep {W0 wr w' : World} {L : List Int} {K : List (Nat × Obj)} (h : PutL W0 wr L K) (hb : Below wr.heap.size wr w') : PutL W0 w' L K := by
 obtain ⟨g, hg, hk⟩ := h.at_
 exact ⟨⟨g, hg.keep hb, fun x e => ⟨by rw [hb.block _ (lt_of_block (hk x e).1)]; exact (hk x e).1, (hk x e).2⟩⟩, h.below.trans (hb.mono h.below.size)⟩
theorem PutL.sub {W0 wr : World} {L : List Int} {K K' : List (Nat × Obj)} (h : PutL W0 wr L K) (hs : ∀ x, x ∈ K' → x ∈ K) : PutL W0 wr L K' := by
 obtain ⟨g, hg, hk⟩ := h.at_
 exact ⟨⟨g, hg, fun x e => hk x (hs x e)⟩, h.below⟩
/-- One more block beside it. -/
theorem PutL.hold {W0 wr w' : World} {L : List Int} {K : List (Nat × Obj)} {o : Obj} (h : PutL W0 wr L K) (hb : Below wr.heap.size wr w') (ho : w'.heap[wr.heap.size]? = some o) : PutL W0 w' L ((wr.heap.size, o) :: K) := by
 obtain ⟨g, hg, hk⟩ := h.at_
 refine ⟨⟨g, hg.keep hb, fun x e => ?_⟩, h.below.trans (hb.mono h.below.size)⟩
 rcases List.mem_cons.1 e with rfl | e
 ·exact ⟨ho, fun hk => by have := (hg.glt _ hk).2; simp at this⟩
 ·exact ⟨by rw [hb.block _ (lt_of_block (hk x e).1)]; exact (hk x e).1, (hk x e).2⟩
theorem PutL.held {W0 wr : World} {L : List Int} {K : List (Nat × Obj)} (h : PutL W0 wr L K) {k : Nat} {o : Obj} (hm : (k, o) ∈ K) : wr.heap[k]? = some o := by
 obtain ⟨g, _, hk⟩ := h.at_
 exact (hk _ hm).1
theorem PutL.grown {W0 wr w' : World} {L L' : List Int} {g : Option Nat} {K : List (Nat × Obj)} (h : PutL W0 wr L K) (hA : WrAt wr W0.heap.size W0.heap.size g L) (hk : ∀ x, x ∈ K → wr.heap[x.1]? = some x.2 ∧ x.1 ∉ W0.heap.size :: g.toList) (hW : WrGrown wr w' W0.heap.size W0.heap.size g L') : PutL W0 w' L' K := by
 obtain ⟨g', hA', hF, hg'⟩ := hW
 refine ⟨⟨g', hA', fun x e => ?_⟩, h.below.trans (hF.below h.below.size (fun k hk => (hA.glt k hk).1))⟩
 obtain ⟨h1, h2⟩ := hk x e
 have hl := lt_of_block h1
 refine ⟨by rw [hF.block x.1 hl h2]; exact h1, ?_⟩
 rcases hg' with rfl | ⟨b, rfl, hb⟩
 ·exact h2
 ·intro hm
  rcases List.mem_cons.1 hm with e | hm
  ·exact h2 (by simp [e])
  ·have : x.1 = b := by simpa using hm
   omega

set_option maxHeartbeats 1600000 in
/-- 'lay(numbers...)', the writer's variable at q. -/
theorem lay_any (p q B : Nat) (g : Option Nat) (l : List Int) (ad : Option Addr) (n cap : Nat) (z : Nat → Int) (w : World) (hw : WrAt w B p g l) (hq : w.heap[q]? = some (.cells #[.pointer (some ⟨p, 0, none⟩)] 85 (0, 0))) (hqn : q ∉ p :: g.toList) (hl : l.length + 9 * n + 16 ≤ 140737488355328) (hI : IsAt w ad n z) (ha : 0 < n → ∀ a, ad = some a → a.block ∉ p :: g.toList) (hn : n ≤ 1000000) :
  Calls Tryz.prog 41 #[.slice ad n cap, .pointer (some ⟨q, 0, none⟩)] w fun e w' => e = .returned (.tuple #[]) ∧ WrGrown w w' B p g (l ++ laidK z n) := by
 have HI : Hid (IsAt w ad n z ∧ (0 < n → ∀ a, ad = some a → a.block ∉ p :: g.toList)) := ⟨hI, ha⟩
 have HQ : Hid (w.heap[q]? = some (.cells #[.pointer (some ⟨p, 0, none⟩)] 85 (0, 0)) ∧ q ∉ p :: g.toList) := ⟨hq, hqn⟩
 have h0 : WrGrown w w B p g (l ++ laidK z 0) := by simpa [laidK] using WrGrown.refl hw
 clear hI ha hw hq hqn
 go_enter Tryz.func41, Tryz.ntmps41
 go_wp2
 go_loopw [4, 7] (fun _ iv wr => ∃ i : Nat, i ≤ n ∧ iv = .int .i64 i ∧ WrGrown w wr B p g (l ++ laidK z i)) (fun _ iv _ => n + 1 - (intOf iv).toNat)
 case atStart => exact ⟨0, by omega, rfl, h0⟩
 case round =>
  clear h0
  obtain ⟨i, hi, rfl, hW⟩ := hrel
  have HW : Hid (WrGrown w wr B p g (l ++ laidK z i)) := hW
  clear hW
  by_cases hlt : i < n
  ·have hlt' : (i : Int) < n := by omega
   obtain ⟨g1, hA1, hF1, -⟩ := HW.out
   obtain ⟨b, off, rfl, hc⟩ := (isAt_frm HI.out.1 hF1 (HI.out.2 (by omega))) (by omega)
   have hci := hc i hlt
   have hcq : wr.cell? ⟨q, 0, none⟩ = some (.pointer (some ⟨p, 0, none⟩)) := by
    have := hF1.heap HQ.out.1 HQ.out.2
    rw [cell_of_row _ _ 0 _ _ _ this]; rfl
   have hbd := u64_bd (z i)
   have hll := laidK_len z i
   have hcall := wrUint_any p B g1 (l ++ laidK z i) (u64 (z i)) wr hA1 (by simp; omega) hbd
   have HA : Hid (WrAt wr B p g1 (l ++ laidK z i)) := hA1
   clear hc hF1 hA1
   unfold u64 at hcall
   go_wp2_with (go_at_call 42; refine hcall.mono ?_; rintro e w1 ⟨rfl, hW1⟩)
   have HN : Hid (WrGrown w w1 B p g (l ++ laidK z (i + 1))) := by
    have := HW.out.next HA.out hW1
    rw [List.append_assoc] at this
    exact this
   clear hW1 hcall
   go_roundw
   case rel => exact ⟨i + 1, by omega, by go_num, HN.out⟩
   case measure => simp [intOf]; omega
  ·obtain rfl : i = n := by omega
   have hnn : ¬ ((i : Int) < i) := by omega
   have hW := HW.out
   go_wp2
   go_end0
   exact ⟨rfl, hW⟩
/-- The same by PutL; the numbers lie in W0, or in blocks that are new. -/
theorem lay_put (W0 wr : World) (q : Nat) (L : List Int) (K : List (Nat × Obj)) (ad : Option Addr) (n cap : Nat) (z : Nat → Int) (h : PutL W0 wr L K) (hq : (q, .cells #[.pointer (some ⟨W0.heap.size, 0, none⟩)] 85 (0, 0)) ∈ K) (hl : L.length + 9 * n + 16 ≤ 140737488355328) (hI : IsAt W0 ad n z) (hn : n ≤ 1000000) :
  Calls Tryz.prog 41 #[.slice ad n cap, .pointer (some ⟨q, 0, none⟩)] wr fun e w' => e = .returned (.tuple #[]) ∧ PutL W0 w' (L ++ laidK z n) K := by
 obtain ⟨g, hg, hk0⟩ := h.at_
 refine (lay_any _ q _ g L ad n cap z wr hg (hk0 _ hq).1 (hk0 _ hq).2 hl (hI.below h.below) (fun hp a e hk => ?_) hn).mono ?_
 ·obtain ⟨b, off, e2, hc⟩ := hI hp
  rw [e2] at e
  cases e
  have h1 := World.block_lt_of_cell? W0 ⟨b, off + 0, none⟩ (hc 0 hp)
  have h2 : W0.heap.size ≤ b := (hg.glt _ hk).1
  have h3 : b < W0.heap.size := h1
  omega
 ·rintro e w' ⟨rfl, hW⟩
  exact ⟨rfl, h.grown hg hk0 hW⟩
theorem lay_new (W0 wr w1 : World) (q : Nat) (L : List Int) (K : List (Nat × Obj)) (r n cap : Nat) (z : Nat → Int) (h : PutL W0 wr L K) (hq : (q, .cells #[.pointer (some ⟨W0.heap.size, 0, none⟩)] 85 (0, 0)) ∈ K) (hb : Below wr.heap.size wr w1) (hl : L.length + 9 * n + 16 ≤ 140737488355328) (hI : IsAt w1 (some ⟨r, 0, none⟩) n z) (hr : wr.heap.size ≤ r) (hn : n ≤ 1000000) :
  Calls Tryz.prog 41 #[.slice (some ⟨r, 0, none⟩) n cap, .pointer (some ⟨q, 0, none⟩)] w1 fun e w' => e = .returned (.tuple #[]) ∧ PutL W0 w' (L ++ laidK z n) K := by
 obtain ⟨g, hg, hk0⟩ := h.at_
 have h1 := h.keep hb
 have hk1 : ∀ x, x ∈ K → w1.heap[x.1]? = some x.2 ∧ x.1 ∉ W0.heap.size :: g.toList := fun x e => ⟨by rw [hb.block _ (lt_of_block (hk0 x e).1)]; exact (hk0 x e).1, (hk0 x e).2⟩
 refine (lay_any _ q _ g L (some ⟨r, 0, none⟩) n cap z w1 (hg.keep hb) (hk1 _ hq).1 (hk1 _ hq).2 hl hI (fun _ a e hk => ?_) hn).mono ?_
 ·cases e
  have h2 : r < wr.heap.size := (hg.glt _ hk).2
  omega
 ·rintro e w' ⟨rfl, hW⟩
  exact ⟨rfl, h1.grown (hg.keep hb) hk1 hW⟩
theorem hash_put (W0 wr : World) (L : List Int) (K : List (Nat × Obj)) (z : Nat → Int) (h : PutL W0 wr L K) (hl : L.length + 32 ≤ 140737488355328) (hz : Zb z) :
  Calls Tryz.prog 43 #[.pointer (some ⟨W0.heap.size, 0, none⟩), .agg (hv z)] wr fun e w' => e = .returned (.pointer (some ⟨W0.heap.size, 0, none⟩)) ∧ PutL W0 w' (L ++ hB z) K := by
 obtain ⟨g, hg, hk0⟩ := h.at_
 refine (wrHash_any _ _ g L z wr hg hl hz).mono ?_
 rintro e w' ⟨rfl, hW⟩
 exact ⟨rfl, h.grown hg hk0 hW⟩
end Go.Proofs.YthmmmkldmhjogaaGreatDoor
/- state.Encode. -/
namespace Go.Proofs.YthmmmkldmhjogaaGreatDoor
open Go.RowKit

def z4 (x : Py) : Nat → Int := fun j => if j = 0 then x.id else if j = 1 then x.fr else if j = 2 then x.am else x.af
def z3 (x : Hd) : Nat → Int := fun j => if j = 0 then x.id else if j = 1 then x.am else (x.n : Int)
def z2 (a b : Int) : Nat → Int := fun j => if j = 0 then a else b
/-- A payment as it is laid. -/
def laidP (x : Py) : List Int := laidK (z4 x) 4 ++ hB x.lk
def laidPs (X : Nat → Py) : Nat → List Int
 | 0 => []
 | i + 1 => laidPs X i ++ laidP (X i)
def laidH (x : Hd) : List Int := laidK (z3 x) 3 ++ laidK x.z x.n
def laidHs (X : Nat → Hd) : Nat → List Int
 | 0 => []
 | i + 1 => laidHs X i ++ laidH (X i)
/-- A state as it is laid, up to its holds. -/
def laidA (s : Sv) : List Int := laidK (fun _ => s.nu) 1 ++ (laidK (z2 s.a s.b) 2 ++ laidK (fun _ => (s.pn : Int)) 1)
def laidS (s : Sv) : List Int := (laidA s ++ laidPs s.P s.pn ++ laidK (fun _ => (s.hn : Int)) 1) ++ laidHs s.H s.hn
theorem laidP_len (x : Py) : (laidP x).length ≤ 68 := by
 have := laidK_len (z4 x) 4
 simp only [laidP, List.length_append, hB_length]
 omega
theorem laidPs_len (X : Nat → Py) : ∀ i, (laidPs X i).length ≤ 68 * i
 | 0 => by simp [laidPs]
 | i + 1 => by
  have h1 := laidPs_len X i
  have h2 := laidP_len (X i)
  simp only [laidPs, List.length_append]
  omega
theorem laidH_len (x : Hd) : (laidH x).length ≤ 27 + 9 * x.n := by
 have := laidK_len (z3 x) 3
 have := laidK_len x.z x.n
 simp only [laidH, List.length_append]
 omega
theorem laidHs_len (X : Nat → Hd) : ∀ i, (∀ j, j < i → (X j).n ≤ 300) → (laidHs X i).length ≤ 2727 * i
 | 0, _ => by simp [laidHs]
 | i + 1, h => by
  have h1 := laidHs_len X i (fun j hj => h j (by omega))
  have h2 := laidH_len (X i)
  have h3 := h i (by omega)
  simp only [laidHs, List.length_append]
  omega
theorem laidA_len (s : Sv) : (laidA s).length ≤ 36 := by
 have h1 := laidK_len (fun _ => s.nu) 1
 have h2 := laidK_len (z2 s.a s.b) 2
 have h3 := laidK_len (fun _ => (s.pn : Int)) 1
 simp only [laidA, List.length_append]
 omega
theorem one_is (w : World) (x : Int) : IsAt (w.alloc (.cells #[.int .i64 x] 3)) (some ⟨w.heap.size, 0, none⟩) 1 (fun _ => x) := fun _ => ⟨_, _, rfl, fun j hj => by
 obtain rfl : j = 0 := by omega
 rw [cell_of_row _ _ _ _ _ _ (heap_alloc_new w _)]; rfl⟩
theorem three_is (w : World) (x : Hd) : IsAt (w.alloc (.cells #[.int .i64 x.id, .int .i64 x.am, .int .i64 (x.n : Int)] 3)) (some ⟨w.heap.size, 0, none⟩) 3 (z3 x) := fun _ => ⟨_, _, rfl, fun j hj => by
 rw [cell_of_row _ _ _ _ _ _ (heap_alloc_new w _)]
 match j, hj with
 | 0, _ => rfl
 | 1, _ => rfl
 | 2, _ => rfl⟩
theorem four_is (w : World) (x : Py) : IsAt (w.alloc (.cells #[.int .i64 x.id, .int .i64 x.fr, .int .i64 x.am, .int .i64 x.af] 3)) (some ⟨w.heap.size, 0, none⟩) 4 (z4 x) := fun _ => ⟨_, _, rfl, fun j hj => by
 rw [cell_of_row _ _ _ _ _ _ (heap_alloc_new w _)]
 match j, hj with
 | 0, _ => rfl
 | 1, _ => rfl
 | 2, _ => rfl
 | 3, _ => rfl⟩
theorem al1 (w : World) (o : Obj) : Below w.heap.size w (w.alloc o) := (Below.refl _ w).alloc (Nat.le_refl _) _

set_option maxRecDepth 100000 in
set_option maxHeartbeats 3200000 in
theorem encode_cap (s : Sv) (p : Pl) (w : World) (h : SvAt w s p) (hs : s.Small) :
  Calls Tryz.prog 14 #[.agg (svv s p)] w fun e w' => ∃ ad cap, e = .returned (.slice ad (laidS s).length cap) ∧ (laidS s).length ≤ cap ∧ SlAt w' ad (laidS s).length (fn (laidS s)) ∧ (ad = none → (laidS s).length = 0 ∧ cap = 0) ∧ Below w.heap.size w w' := by
 obtain ⟨nu, a, b, pn, P, hn, H⟩ := s
 obtain ⟨pa, pc, ha, hc⟩ := p
 obtain ⟨py, hd, _, _, _, _⟩ := h
 simp only at py hd
 have hsn : pn + hn ≤ 100 := hs.n
 have HSK : Hid (∀ i, i < hn → (H i).n ≤ 300) := hs.k
 have eg : ∀ args w, (callFunc 41 args).run Tryz.prog w = .ok (.enter 41 args) w := enters_of Tryz.func41 (by kernel_rfl) rfl
 have hb0 := al1 w (.cells #[.int .i64 nu, .int .i64 a, .int .i64 b, .slice pa pn pc, .slice ha hn hc] 33)
 have HPY : Hid (PyAt (w.alloc (.cells #[.int .i64 nu, .int .i64 a, .int .i64 b, .slice pa pn pc, .slice ha hn hc] 33)) pa pn P) := py.below hb0
 have HHD : Hid (HdAt (w.alloc (.cells #[.int .i64 nu, .int .i64 a, .int .i64 b, .slice pa pn pc, .slice ha hn hc] 33)) ha hn H) := hd.below hb0
 have hr0 := heap_alloc_new w (.cells #[.int .i64 nu, .int .i64 a, .int .i64 b, .slice pa pn pc, .slice ha hn hc] 33)
 have HLA : Hid (laidA ⟨nu, a, b, pn, P, hn, H⟩ = laidK (fun _ => nu) 1 ++ (laidK (z2 a b) 2 ++ laidK (fun _ => (pn : Int)) 1)) := rfl
 have HLS : Hid (laidS ⟨nu, a, b, pn, P, hn, H⟩ = (laidA ⟨nu, a, b, pn, P, hn, H⟩ ++ laidPs P pn ++ laidK (fun _ => (hn : Int)) 1) ++ laidHs H hn) := rfl
 have hla := laidA_len ⟨nu, a, b, pn, P, hn, H⟩
 generalize laidA ⟨nu, a, b, pn, P, hn, H⟩ = LA at *
 generalize laidS ⟨nu, a, b, pn, P, hn, H⟩ = LS at *
 clear py hd hs
 unfold svv
 simp only
 go_enter Tryz.func14, Tryz.ntmps14
 go_wp2_with fail
 generalize w.alloc (.cells #[.int .i64 nu, .int .i64 a, .int .i64 b, .slice pa pn pc, .slice ha hn hc] 33) = W0 at *
 have hl0 := lt_of_block hr0
 have HB0 : Hid (Below w.heap.size w W0) := hb0
 have HR0 : Hid (W0.heap[w.heap.size]? = some (.cells #[.int .i64 nu, .int .i64 a, .int .i64 b, .slice pa pn pc, .slice ha hn hc] 33 (0, 0))) := hr0
 have HC : Hid (∀ w', Below W0.heap.size W0 w' → w'.cell? ⟨w.heap.size, 0, none⟩ = some (.int .i64 nu) ∧ w'.cell? ⟨w.heap.size, 3, none⟩ = some (.slice pa pn pc) ∧ w'.cell? ⟨w.heap.size, 4, none⟩ = some (.slice ha hn hc)) := fun w' hb => by
  have := hb.block _ hl0
  rw [hr0] at this
  exact ⟨by rw [cell_of_row _ _ 0 _ _ _ this]; rfl, by rw [cell_of_row _ _ 3 _ _ _ this]; rfl, by rw [cell_of_row _ _ 4 _ _ _ this]; rfl⟩
 clear hb0 hr0
 refine (new_any W0).mono ?_
 rintro e w1 ⟨rfl, hw1⟩
 have hP1 : PutL W0 w1 [] [] := by
  subst hw1
  exact ⟨⟨none, new_wr W0, fun x h => by cases h⟩, al1 _ _⟩
 have hs1 : w1.heap.size = W0.heap.size + 1 := by rw [hw1]; simp
 clear hw1
 have hP2 := hP1.hold (al1 w1 (.cells #[.pointer (some ⟨W0.heap.size, 0, none⟩)] 85)) (heap_alloc_new w1 _)
 have hs2 : (w1.alloc (.cells #[.pointer (some ⟨W0.heap.size, 0, none⟩)] 85)).heap.size = W0.heap.size + 2 := by simp [hs1]
 rw [hs1] at hP2
 have HQ : Hid ((W0.heap.size + 1, Obj.cells #[.pointer (some ⟨W0.heap.size, 0, none⟩)] 85 (0, 0)) ∈ [(W0.heap.size + 1, Obj.cells #[.pointer (some ⟨W0.heap.size, 0, none⟩)] 85 (0, 0))]) := by simp [Hid]
 obtain ⟨c0, c3, c4⟩ := HC.out _ hP2.below
 have HP2 : Hid _ := hP2
 clear hP1 hP2
 go_wp2_with fail
 generalize w1.alloc (.cells #[.pointer (some ⟨W0.heap.size, 0, none⟩)] 85) = w2 at *
 generalize [(W0.heap.size + 1, Obj.cells #[.pointer (some ⟨W0.heap.size, 0, none⟩)] 85 (0, 0))] = KQ at *
 have hcall := lay_new W0 w2 (w2.alloc (.cells #[.int .i64 nu] 3)) (W0.heap.size + 1) [] KQ (W0.heap.size + 2) 1 1 (fun _ => nu) HP2.out HQ.out (al1 _ _) (by simp) (by have := one_is w2 nu; rw [hs2] at this; exact this) (by omega) (by omega)
 refine hcall.mono ?_
 rintro e w3 ⟨rfl, hP3⟩
 rw [List.nil_append] at hP3
 clear hcall HP2 c0 c3 c4 hs1 hs2
 have l1 := laidK_len (fun _ => nu) 1
 have l2 := laidK_len (z2 a b) 2
 have hI2 : IsAt W0 (some ⟨w.heap.size, 1, none⟩) 2 (z2 a b) := fun _ => ⟨_, _, rfl, fun j hj => by
  rw [cell_of_row _ _ _ _ _ _ HR0.out]
  match j, hj with
  | 0, _ => rfl
  | 1, _ => rfl⟩
 obtain ⟨c0, c3, c4⟩ := HC.out _ hP3.below
 have hcall := lay_put W0 w3 (W0.heap.size + 1) _ KQ (some ⟨w.heap.size, 1, none⟩) 2 2 (z2 a b) hP3 HQ.out (by omega) hI2 (by omega)
 clear hP3 hI2
 go_wp2_with fail
 refine hcall.mono ?_
 rintro e w4 ⟨rfl, hP4⟩
 clear hcall c0 c3 c4
 obtain ⟨c0, c3, c4⟩ := HC.out _ hP4.below
 have HP4 : Hid (PutL W0 w4 (laidK (fun _ => nu) 1 ++ laidK (z2 a b) 2) KQ) := hP4
 clear hP4
 go_wp2_with fail
 have hcall := lay_new W0 w4 (w4.alloc (.cells #[.int .i64 (pn : Int)] 3)) (W0.heap.size + 1) _ KQ w4.heap.size 1 1 (fun _ => (pn : Int)) HP4.out HQ.out (al1 _ _) (by simp only [List.length_append]; omega) (one_is w4 (pn : Int)) (Nat.le_refl _) (by omega)
 refine hcall.mono ?_
 rintro e w5 ⟨rfl, hP5⟩
 rw [List.append_assoc, ← HLA.out] at hP5
 clear hcall c0 c3 c4 HP4 HLA l1 l2
 obtain ⟨c0, c3, c4⟩ := HC.out _ hP5.below
 have HP5 : Hid (PutL W0 w5 LA KQ) := hP5
 clear hP5
 go_wp2_with fail
 clear c0 c3 c4
 have h50 : PutL W0 w5 (LA ++ laidPs P 0) KQ := by simpa [laidPs] using HP5.out
 clear HP5
 go_loopw [6, 29] (fun _ iv wr => ∃ i : Nat, i ≤ pn ∧ iv = .int .i64 i ∧ PutL W0 wr (LA ++ laidPs P i) KQ) (fun _ iv _ => pn + 1 - (intOf iv).toNat)
 case atStart => exact ⟨0, by omega, rfl, h50⟩
 case round =>
  clear h50
  obtain ⟨i, hi, rfl, hP⟩ := hrel
  have HP : Hid (PutL W0 wr (LA ++ laidPs P i) KQ) := hP
  clear hP
  have ll := laidPs_len P i
  by_cases hlt : i < pn
  ·have hlt' : (i : Int) < pn := by omega
   have HZ : Hid (Zb (P i).lk) := HPY.out.lk i hlt
   obtain ⟨bl0, off, rfl, hc0⟩ := HPY.out.at_ (by omega)
   have HR : Hid (wr.rangeAt bl0 (off + i * 36) (pyl (P i))) := range_below (hc0 i hlt) HP.out.below
   have HE : Hid (LA ++ laidPs P (i + 1) = (LA ++ laidPs P i ++ laidK (z4 (P i)) 4) ++ hB (P i).lk) := by show _ = _; simp [laidPs, laidP]
   clear hc0
   obtain ⟨x, hx⟩ : ∃ x, P i = x := ⟨_, rfl⟩
   rw [hx] at HZ HR HE
   clear hx
   obtain ⟨L, hL⟩ : ∃ L, LA ++ laidPs P i = L := ⟨_, rfl⟩
   have hlL : L.length ≤ 6836 := by rw [← hL]; simp only [List.length_append]; omega
   rw [hL] at HP HE
   clear hL ll
   go_wp2_with (first | (refine wpList_load_mid rfl 62 _ rfl bl0 (off + i * 36) rfl (pyl x) _ HR.out Tryz.underlying62 rfl (szPl _) ?_) | (refine wpList_allocP rfl rfl ?_) | (refine wpList_storeP _ szP rfl _ _ rfl wr.heap.size rfl x p0 62 rfl (heap_alloc_new wr _) ?_; intro w6 hg6 hf6; have HP6 : Hid (PutL W0 w6 L ((wr.heap.size, .cells (pyv x) 62 (0, 0)) :: KQ)) := HP.out.hold (frm_new hf6) hg6; obtain ⟨c0, c1, c2, c3, _⟩ := pbox_of hg6; clear hf6 hg6) | fail)
   have hcall := lay_new W0 w6 (w6.alloc (.cells #[.int .i64 x.id, .int .i64 x.fr, .int .i64 x.am, .int .i64 x.af] 3)) (W0.heap.size + 1) L _ w6.heap.size 4 4 (z4 x) HP6.out (List.mem_cons_of_mem _ HQ.out) (al1 _ _) (by omega) (four_is w6 x) (Nat.le_refl _) (by omega)
   refine hcall.mono ?_
   rintro e w7 ⟨rfl, hP7⟩
   clear hcall HP6 c0 c1 c2 c3
   have HCL : Hid (w7.rangeAt wr.heap.size 4 (bl x.lk 32)) := (pbox_of (hP7.held (List.mem_cons_self))).lk
   have cq : w7.cell? ⟨W0.heap.size + 1, 0, none⟩ = some (.pointer (some ⟨W0.heap.size, 0, none⟩)) := by
    rw [cell_of_row _ _ 0 _ _ _ (hP7.held (List.mem_cons_of_mem _ HQ.out))]; rfl
   have l4 := laidK_len (z4 x) 4
   have hcall := hash_put W0 w7 (L ++ laidK (z4 x) 4) _ x.lk hP7 (by simp only [List.length_append]; omega) HZ.out
   clear hP7
   go_wp2_with (first | (refine wpList_loadHG (by rfl) _ rfl wr.heap.size 4 rfl x.lk HCL.out ?_) | fail)
   refine hcall.mono ?_
   rintro e w8 ⟨rfl, hP8⟩
   have HP8 : Hid (PutL W0 w8 (LA ++ laidPs P (i + 1)) KQ) := by
    show PutL _ _ _ _
    rw [HE.out]
    exact hP8.sub (fun y hy => List.mem_cons_of_mem _ hy)
   clear hcall hP8 cq
   go_wp2
   go_roundw
   case rel => exact ⟨i + 1, by omega, by go_num, HP8.out⟩
   case measure => simp [intOf]; omega
  ·obtain rfl : i = pn := by omega
   have hnn : ¬ ((i : Int) < i) := by omega
   obtain ⟨L, hL⟩ : ∃ L, LA ++ laidPs P i = L := ⟨_, rfl⟩
   have hlL : L.length ≤ 6836 := by rw [← hL]; simp only [List.length_append]; omega
   rw [hL] at HP HLS
   clear hL ll
   obtain ⟨c0, c3, c4⟩ := HC.out _ HP.out.below
   generalize wr = wo at *
   go_wp2_with fail
   have hcall := lay_new W0 wo (wo.alloc (.cells #[.int .i64 (hn : Int)] 3)) (W0.heap.size + 1) L KQ wo.heap.size 1 1 (fun _ => (hn : Int)) HP.out HQ.out (al1 _ _) (by omega) (one_is wo (hn : Int)) (Nat.le_refl _) (by omega)
   refine hcall.mono ?_
   rintro e w6 ⟨rfl, hP6⟩
   have l1 := laidK_len (fun _ => (hn : Int)) 1
   obtain ⟨M, hM⟩ : ∃ M, L ++ laidK (fun _ => (hn : Int)) 1 = M := ⟨_, rfl⟩
   have hlM : M.length ≤ 6845 := by rw [← hM]; simp only [List.length_append]; omega
   rw [hM] at hP6 HLS
   clear hcall c0 c3 c4 HP hM l1 hlL
   obtain ⟨c0, c3, c4⟩ := HC.out _ hP6.below
   have HP6 : Hid (PutL W0 w6 M KQ) := hP6
   clear hP6
   go_wp2_with fail
   clear c0 c3 c4
   have h60 : PutL W0 w6 (M ++ laidHs H 0) KQ := by simpa [laidHs] using HP6.out
   clear HP6
   go_loopw [8, 58] (fun _ iv wr => ∃ j : Nat, j ≤ hn ∧ iv = .int .i64 j ∧ PutL W0 wr (M ++ laidHs H j) KQ) (fun _ iv _ => hn + 1 - (intOf iv).toNat)
   case atStart => exact ⟨0, by omega, rfl, h60⟩
   case round =>
    clear h60
    obtain ⟨j, hj, rfl, hP⟩ := hrel
    have HP : Hid (PutL W0 wr (M ++ laidHs H j) KQ) := hP
    clear hP
    have ll := laidHs_len H j (fun i hi => HSK.out i (by omega))
    by_cases hlt : j < hn
    ·have hlt' : (j : Int) < hn := by omega
     obtain ⟨bl0, off, rfl, hc0⟩ := HHD.out.at_ (by omega)
     obtain ⟨ka, kc, hr, hI, _⟩ := hc0 j hlt
     obtain ⟨d0, d1, d2⟩ := hd_cells (range_below hr HP.out.below)
     have HI : Hid (IsAt W0 ka (H j).n (H j).z) := hI
     have hxk := HSK.out j hlt
     have HE : Hid (M ++ laidHs H (j + 1) = (M ++ laidHs H j ++ laidK (z3 (H j)) 3) ++ laidK (H j).z (H j).n) := by show _ = _; simp [laidHs, laidH]
     clear hc0 hr hI
     obtain ⟨x, hx⟩ : ∃ x, H j = x := ⟨_, rfl⟩
     rw [hx] at HI HE d0 d1 d2 hxk
     clear hx
     obtain ⟨L, hL⟩ : ∃ L, M ++ laidHs H j = L := ⟨_, rfl⟩
     have hlL : L.length ≤ 279545 := by rw [← hL]; simp only [List.length_append]; omega
     rw [hL] at HP HE
     clear hL ll
     have hb7 := al1 wr (.cells #[.int .i64 x.id, .int .i64 x.am, .slice ka x.n kc] 64)
     have hP7 := HP.out.hold hb7 (heap_alloc_new wr _)
     have HP7 : Hid _ := hP7
     clear hb7 hP7
     go_wp2_with fail
     have hsz7 : (wr.alloc (.cells #[.int .i64 x.id, .int .i64 x.am, .slice ka x.n kc] 64)).heap.size = wr.heap.size + 1 := by simp
     generalize wr.alloc (.cells #[.int .i64 x.id, .int .i64 x.am, .slice ka x.n kc] 64) = w7 at *
     have h3 := three_is w7 x
     rw [hsz7] at h3
     have hcall := lay_new W0 w7 (w7.alloc (.cells #[.int .i64 x.id, .int .i64 x.am, .int .i64 (x.n : Int)] 3)) (W0.heap.size + 1) L _ (wr.heap.size + 1) 3 3 (z3 x) HP7.out (List.mem_cons_of_mem _ HQ.out) (al1 _ _) (by omega) h3 (by omega) (by omega)
     refine hcall.mono ?_
     rintro e w8 ⟨rfl, hP8⟩
     clear hcall HP7 d0 d1 d2 h3 hsz7
     have d2 : w8.cell? ⟨wr.heap.size, 2, none⟩ = some (.slice ka x.n kc) := by rw [cell_of_row _ _ 2 _ _ _ (hP8.held List.mem_cons_self)]; rfl
     have l3 := laidK_len (z3 x) 3
     have hcall := lay_put W0 w8 (W0.heap.size + 1) (L ++ laidK (z3 x) 3) _ ka x.n kc x.z hP8 (List.mem_cons_of_mem _ HQ.out) (by simp only [List.length_append]; omega) HI.out (by omega)
     clear hP8
     go_wp2_with fail
     refine hcall.mono ?_
     rintro e w9 ⟨rfl, hP9⟩
     have HP9 : Hid (PutL W0 w9 (M ++ laidHs H (j + 1)) KQ) := by
      show PutL _ _ _ _
      rw [HE.out]
      exact hP9.sub (fun y hy => List.mem_cons_of_mem _ hy)
     clear hcall hP9 d2
     go_wp2
     go_roundw
     case rel => exact ⟨j + 1, by omega, by go_num, HP9.out⟩
     case measure => simp [intOf]; omega
    ·obtain rfl : j = hn := by omega
     have hnn : ¬ ((j : Int) < j) := by omega
     have hll : (M ++ laidHs H j).length ≤ 279545 := by simp only [List.length_append]; omega
     rw [← HLS.out] at HP hll
     have cq : wr.cell? ⟨W0.heap.size + 1, 0, none⟩ = some (.pointer (some ⟨W0.heap.size, 0, none⟩)) := by
      rw [cell_of_row _ _ 0 _ _ _ (HP.out.held HQ.out)]; rfl
     obtain ⟨g, hg, _⟩ := HP.out.at_
     have hcall := wrDone_any W0.heap.size W0.heap.size g LS wr hg (by omega)
     clear hg
     go_wp2_with fail
     refine hcall.mono ?_
     rintro e w6 ⟨ad, cap, rfl, hcp, hS, hnil, _, hb⟩
     clear hcall cq
     go_wp2
     go_ret
     refine ⟨ad, cap, rfl, hcp, hS, hnil, ?_⟩
     have hb1 := HB0.out.trans (HP.out.below.mono HB0.out.size)
     exact hb1.trans (hb.mono hb1.size)
theorem encode_any (s : Sv) (p : Pl) (w : World) (h : SvAt w s p) (hs : s.Small) :
  Calls Tryz.prog 14 #[.agg (svv s p)] w fun e w' => ∃ ad cap, e = .returned (.slice ad (laidS s).length cap) ∧ SlAt w' ad (laidS s).length (fn (laidS s)) ∧ (ad = none → (laidS s).length = 0 ∧ cap = 0) ∧ Below w.heap.size w w' :=
 (encode_cap s p w h hs).mono fun _ _ ⟨ad, cap, h1, _, h3, h4, h5⟩ => ⟨ad, cap, h1, h3, h4, h5⟩
/-- A state's bytes are not too many. -/
theorem laidS_len (s : Sv) (hs : s.Small) : (laidS s).length ≤ 279545 := by
 have h1 := laidA_len s
 have h2 := laidPs_len s.P s.pn
 have h3 := laidHs_len s.H s.hn hs.k
 have h4 := laidK_len (fun _ => (s.hn : Int)) 1
 have h5 := hs.n
 simp only [laidS, List.length_append]
 omega
end Go.Proofs.YthmmmkldmhjogaaGreatDoor
/- What is read is laid by the same bytes: payments, holds. -/
namespace Go.Proofs.YthmmmkldmhjogaaGreatDoor
open Go.RowKit

theorem u64_pos {v : Int} (h : 0 ≤ v) (h2 : v ≤ 9223372036854775807) : u64 v = v := by
 have := u64_nat v.toNat (by omega)
 rw [show ((v.toNat : Nat) : Int) = v from by omega] at this
 exact this
theorem numM_laid {M : Int} {q : Option (List Int)} {r : List Int} (hb : ByQ q) (h : (numM M q).2 = some r) : q = some (uB (numM M q).1 ++ r) ∧ ByQ (some r) ∧ 0 ≤ (numM M q).1 ∧ (numM M q).1 ≤ M := by
 obtain ⟨l, rfl, e⟩ := tk_some h
 have h1 := uintR_laid (hb l rfl) e
 have h2 := uintR_bd (hb l rfl) e
 refine ⟨?_, ?_, h2⟩
 ·conv => lhs; rw [h1]
  rfl
 ·rw [h1] at hb; exact byq_right hb
theorem cntS_laid {M : Int} {q : Option (List Int)} {r : List Int} (hM : 0 ≤ M) (hb : ByQ q) (h : (cntS M q).2 = some r) : q = some (uB (cntS M q).1 ++ r) ∧ ByQ (some r) ∧ 0 ≤ (cntS M q).1 ∧ (cntS M q).1 ≤ M := by
 obtain ⟨l, rfl, e⟩ := tk_some h
 have e' := countR_u e
 have h1 := uintR_laid (hb l rfl) e'
 have h2 := uintR_bd (hb l rfl) e'
 refine ⟨?_, ?_, h2.1, ?_⟩
 ·conv => lhs; rw [h1]
  rfl
 ·rw [h1] at hb; exact byq_right hb
 ·have h3 : (cntS M (some l)).1 ≤ max M 0 := h2.2
  omega
theorem hshS_laid {q : Option (List Int)} {r : List Int} (hb : ByQ q) (h : (hshS q).2 = some r) : q = some (hB (hshS q).1 ++ r) ∧ ByQ (some r) := by
 obtain ⟨l, rfl, e⟩ := tk_some h
 have h1 := hashR_laid e
 refine ⟨?_, ?_⟩
 ·conv => lhs; rw [h1]
  rfl
 ·rw [h1] at hb; exact byq_right hb
/-- With numbers up to any bound: a payment, keys. -/
def pyM (M : Int) (q : Option (List Int)) : Py × Option (List Int) :=
 (⟨(numM M q).1, (numM M (numM M q).2).1, (numM M (numM M (numM M q).2).2).1, (numM M (numM M (numM M (numM M q).2).2).2).1, (hshS (numM M (numM M (numM M (numM M q).2).2).2).2).1⟩, (hshS (numM M (numM M (numM M (numM M q).2).2).2).2).2)
theorem pyS_M (q : Option (List Int)) : pyS q = pyM 9223372036854775807 q := rfl
def stM (M : Int) (q : Option (List Int)) : Nat → Option (List Int)
 | 0 => q
 | j + 1 => (numM M (stM M q j)).2
theorem stN_M (q : Option (List Int)) : ∀ j, stN q j = stM 9223372036854775807 q j
 | 0 => rfl
 | j + 1 => by rw [stN, stM, stN_M q j]; rfl
theorem pyM_laid {M : Int} (hM : M ≤ 9223372036854775807) {q : Option (List Int)} {r : List Int} (hb : ByQ q) (h : (pyM M q).2 = some r) : q = some (laidP (pyM M q).1 ++ r) ∧ ByQ (some r) := by
 unfold pyM at h ⊢
 dsimp only at h ⊢
 have e1 : ∃ y, (numM M (numM M (numM M (numM M q).2).2).2).2 = some y := by
  cases e : (numM M (numM M (numM M (numM M q).2).2).2).2 with
  | none => rw [e] at h; cases h
  | some y => exact ⟨y, rfl⟩
 obtain ⟨y4, e4⟩ := e1
 have e1 : ∃ y, (numM M (numM M (numM M q).2).2).2 = some y := by
  cases e : (numM M (numM M (numM M q).2).2).2 with
  | none => rw [e] at e4; cases e4
  | some y => exact ⟨y, rfl⟩
 obtain ⟨y3, e3⟩ := e1
 have e1 : ∃ y, (numM M (numM M q).2).2 = some y := by
  cases e : (numM M (numM M q).2).2 with
  | none => rw [e] at e3; cases e3
  | some y => exact ⟨y, rfl⟩
 obtain ⟨y2, e2⟩ := e1
 have e1 : ∃ y, (numM M q).2 = some y := by
  cases e : (numM M q).2 with
  | none => rw [e] at e2; cases e2
  | some y => exact ⟨y, rfl⟩
 obtain ⟨y1, e1⟩ := e1
 obtain ⟨a1, b1, c1⟩ := numM_laid hb e1
 rw [e1] at h e4 e3 e2 ⊢
 obtain ⟨a2, b2, c2⟩ := numM_laid b1 e2
 rw [e2] at h e4 e3 ⊢
 obtain ⟨a3, b3, c3⟩ := numM_laid b2 e3
 rw [e3] at h e4 ⊢
 obtain ⟨a4, b4, c4⟩ := numM_laid b3 e4
 rw [e4] at h ⊢
 obtain ⟨a5, b5⟩ := hshS_laid b4 h
 refine ⟨?_, b5⟩
 refine a1.trans ?_
 rw [Option.some.injEq] at a2 a3 a4 a5 ⊢
 conv => lhs; rw [a2, a3, a4, a5]
 simp only [laidP, laidK, z4, Nat.reduceEqDiff, if_true, if_false, Nat.one_ne_zero, List.nil_append, List.append_assoc]
 rw [u64_pos c1.1 (by omega), u64_pos c2.1 (by omega), u64_pos c3.1 (by omega), u64_pos c4.1 (by omega)]
theorem stM_laid {M : Int} (hM : M ≤ 9223372036854775807) {q : Option (List Int)} (hb : ByQ q) : ∀ (n : Nat) {r : List Int}, stM M q n = some r → q = some (laidK (fun j => (numM M (stM M q j)).1) n ++ r) ∧ ByQ (some r)
 | 0, r, h => by
  have h' : q = some r := h
  subst h'
  exact ⟨rfl, hb⟩
 | n + 1, r, h => by
  have h' : (numM M (stM M q n)).2 = some r := h
  obtain ⟨y, e⟩ : ∃ y, stM M q n = some y := by
   cases e : stM M q n with
   | none => rw [e] at h'; cases h'
   | some y => exact ⟨y, rfl⟩
  obtain ⟨h1, h2⟩ := stM_laid hM hb n e
  have hb' : ByQ (stM M q n) := by rw [e]; exact h2
  obtain ⟨a1, b1, c1⟩ := numM_laid hb' h'
  refine ⟨?_, b1⟩
  conv => lhs; rw [h1]
  rw [e, Option.some.injEq] at a1
  rw [laidK, u64_pos c1.1 (by omega), e]
  conv => lhs; rw [a1]
  rw [List.append_assoc]
theorem none_up {f : Nat → Option (List Int)} (hf : ∀ i, f i = none → f (i + 1) = none) : ∀ (n i : Nat), i ≤ n → f n ≠ none → f i ≠ none
 | 0, i, hi, h => by obtain rfl : i = 0 := (by omega); exact h
 | n + 1, i, hi, h => by
  by_cases e : i = n + 1
  ·rw [e]; exact h
  ·exact none_up hf n i (by omega) (fun h0 => h (hf n h0))
theorem stM_dead {M : Int} {q : Option (List Int)} (i : Nat) (h : stM M q i = none) : stM M q (i + 1) = none := by rw [stM, h]; rfl
theorem stP_dead {q : Option (List Int)} (i : Nat) (h : stP q i = none) : stP q (i + 1) = none := by rw [stP, h]; rfl
theorem stH_dead {q : Option (List Int)} (i : Nat) (h : stH q i = none) : stH q (i + 1) = none := by rw [stH, h]; rfl
/-- A hold with m keys, numbers up to M. -/
def hdM (M : Int) (q : Option (List Int)) (m : Nat) : Hd × Option (List Int) :=
 (⟨(numM M q).1, (numM M (numM M q).2).1, m, fun j => (numM M (stM M (cntS 16 (numM M (numM M q).2).2).2 j)).1⟩, stM M (cntS 16 (numM M (numM M q).2).2).2 m)
theorem hdS_M (q : Option (List Int)) : hdS q = hdM 9223372036854775807 q (cntS 16 (numM 9223372036854775807 (numM 9223372036854775807 q).2).2).1.toNat := by
 unfold hdS hdM
 simp only [stN_M]
 rfl
theorem hdM_laid {M : Int} (hM : M ≤ 9223372036854775807) {q : Option (List Int)} {m : Nat} {r : List Int} (hb : ByQ q) (hm : m = (cntS 16 (numM M (numM M q).2).2).1.toNat) (h : (hdM M q m).2 = some r) : q = some (laidH (hdM M q m).1 ++ r) ∧ ByQ (some r) := by
 unfold hdM at h ⊢
 dsimp only at h ⊢
 have e0 : ∃ y, (cntS 16 (numM M (numM M q).2).2).2 = some y := by
  cases e : (cntS 16 (numM M (numM M q).2).2).2 with
  | none => rw [e] at h; exact absurd rfl (none_up (fun i => stM_dead i) m 0 (by omega) (by rw [h]; exact fun h0 => by cases h0))
  | some y => exact ⟨y, rfl⟩
 obtain ⟨y3, e3⟩ := e0
 have e0 : ∃ y, (numM M (numM M q).2).2 = some y := by
  cases e : (numM M (numM M q).2).2 with
  | none => rw [e] at e3; cases e3
  | some y => exact ⟨y, rfl⟩
 obtain ⟨y2, e2⟩ := e0
 have e0 : ∃ y, (numM M q).2 = some y := by
  cases e : (numM M q).2 with
  | none => rw [e] at e2; cases e2
  | some y => exact ⟨y, rfl⟩
 obtain ⟨y1, e1⟩ := e0
 obtain ⟨a1, b1, c1⟩ := numM_laid hb e1
 rw [e1] at h hm e3 e2 ⊢
 obtain ⟨a2, b2, c2⟩ := numM_laid b1 e2
 rw [e2] at h hm e3 ⊢
 obtain ⟨a3, b3, c3⟩ := cntS_laid (by decide) b2 e3
 rw [e3] at h ⊢
 obtain ⟨a4, b4⟩ := stM_laid hM b3 m h
 refine ⟨?_, b4⟩
 have hm' : ((m : Nat) : Int) = (cntS 16 (some y2)).1 := by omega
 refine a1.trans ?_
 rw [Option.some.injEq] at a2 a3 a4 ⊢
 have a4' := a4
 generalize hK : laidK (fun j => (numM M (stM M (some y3) j)).1) m = LK at a4' ⊢
 conv => lhs; rw [a2, a3, a4']
 simp only [laidH, laidK, z3, Nat.reduceEqDiff, if_true, if_false, Nat.one_ne_zero, List.nil_append, List.append_assoc]
 rw [u64_pos c1.1 (by omega), u64_pos c2.1 (by omega), u64_pos (v := (m : Int)) (by omega) (by omega), hm', hK]
end Go.Proofs.YthmmmkldmhjogaaGreatDoor
