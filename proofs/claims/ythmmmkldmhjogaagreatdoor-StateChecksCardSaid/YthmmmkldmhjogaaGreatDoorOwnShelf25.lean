/- What is in a state together. -/
import Derived.Test.YthmmmkldmhjogaaGreatDoorOwnShelf14
import Derived.Test.YthmmmkldmhjogaaGreatDoorOwnShelf23
import Derived.Test.YthmmmkldmhjogaaGreatDoorOwnShelf16
import Derived.Test.YthmmmkldmhjogaaGreatDoorOwnShelf06
import Derived.Test.YthmmmkldmhjogaaGreatDoorOwnShelf13
namespace Go.Proofs.YthmmmkldmhjogaaGreatDoor
open Go.RowKit
theorem chkV_ok {s : Sv} (h : SOk s) : errV (chkE s) = .nilIface := by rw [chkE, if_pos h]; rfl
theorem chkV_bad {s : Sv} (h : ¬ SOk s) : errV (chkE s) = .iface 67 (.int .i64 1) := by rw [chkE, if_neg h]; rfl
def totF (s : Sv) : Int := if SOk s then tot s else 0
set_option maxRecDepth 100000 in
set_option maxHeartbeats 1600000 in
theorem total_any (s : Sv) (p : Pl) (w : World) (h : SvAt w s p) (hs : s.Small) :
  Calls Tryz.prog 12 #[.agg (svv s p)] w fun e w' => e = .returned (.int .i64 (totF s)) ∧ Below w.heap.size w w' := by
 have hb0 : Below w.heap.size w (w.alloc (.cells (svv s p) 33)) := (Below.refl _ w).alloc (Nat.le_refl _) _
 have hr0 := heap_alloc_new w (.cells (svv s p) 33)
 have hc := check_any s p _ (h.below hb0) hs
 by_cases hk : SOk s
 ·have ht : ∀ w1, Below w.heap.size w w1 → Calls Tryz.prog 35 #[.agg (svv s p)] w1 fun e w' => e = .returned (.int .i64 (tot s)) ∧ Below w1.heap.size w1 w' := fun w1 hb => together_any s p w1 (h.below hb) hk.1 hk.2.1
  have e : totF s = tot s := if_pos hk
  rw [chkV_ok hk] at hc
  rw [e]
  clear h hs e
  unfold svv at hb0 hr0 hc ht ⊢
  go_enter Tryz.func12, Tryz.ntmps12
  go_wp2_with fail
  generalize w.alloc (.cells #[.int .i64 s.nu, .int .i64 s.a, .int .i64 s.b, .slice p.pa s.pn p.pc, .slice p.ha s.hn p.hc] 33) = W0 at *
  refine hc.mono ?_
  rintro e w1 ⟨rfl, hb1⟩
  have k0 := hb1.block _ (lt_of_block hr0)
  rw [hr0] at k0
  have c0 := cell_of_row _ _ 0 _ _ _ k0
  have e0 : #[Value.int .i64 s.nu, .int .i64 s.a, .int .i64 s.b, .slice p.pa s.pn p.pc, .slice p.ha s.hn p.hc][0]? = some (.int .i64 s.nu) := rfl
  rw [e0] at c0
  clear e0
  have c1 := cell_of_row _ _ 1 _ _ _ k0
  have e1 : #[Value.int .i64 s.nu, .int .i64 s.a, .int .i64 s.b, .slice p.pa s.pn p.pc, .slice p.ha s.hn p.hc][1]? = some (.int .i64 s.a) := rfl
  rw [e1] at c1
  clear e1
  have c2 := cell_of_row _ _ 2 _ _ _ k0
  have e2 : #[Value.int .i64 s.nu, .int .i64 s.a, .int .i64 s.b, .slice p.pa s.pn p.pc, .slice p.ha s.hn p.hc][2]? = some (.int .i64 s.b) := rfl
  rw [e2] at c2
  clear e2
  have c3 := cell_of_row _ _ 3 _ _ _ k0
  have e3 : #[Value.int .i64 s.nu, .int .i64 s.a, .int .i64 s.b, .slice p.pa s.pn p.pc, .slice p.ha s.hn p.hc][3]? = some (.slice p.pa s.pn p.pc) := rfl
  rw [e3] at c3
  clear e3
  have c4 := cell_of_row _ _ 4 _ _ _ k0
  have e4 : #[Value.int .i64 s.nu, .int .i64 s.a, .int .i64 s.b, .slice p.pa s.pn p.pc, .slice p.ha s.hn p.hc][4]? = some (.slice p.ha s.hn p.hc) := rfl
  rw [e4] at c4
  clear e4
  have HB : Hid (Below w.heap.size w w1) := hb0.trans (hb1.mono hb0.size)
  have ht1 := ht w1 HB.out
  clear hc hb0 hb1 hr0 k0 ht hk
  go_wp2_with fail
  refine ht1.mono ?_
  rintro e w2 ⟨rfl, hb2⟩
  have HB2 : Hid (Below w.heap.size w w2) := HB.out.trans (hb2.mono HB.out.size)
  clear ht1 hb2 c0 c1 c2 c3 c4
  go_wp2
  go_ret
  exact ⟨rfl, HB2.out⟩
 ·have e : totF s = 0 := if_neg hk
  rw [chkV_bad hk] at hc
  rw [e]
  clear h hs e hk
  unfold svv at hb0 hr0 hc ⊢
  go_enter Tryz.func12, Tryz.ntmps12
  go_wp2_with fail
  generalize w.alloc (.cells #[.int .i64 s.nu, .int .i64 s.a, .int .i64 s.b, .slice p.pa s.pn p.pc, .slice p.ha s.hn p.hc] 33) = W0 at *
  refine hc.mono ?_
  rintro e w1 ⟨rfl, hb1⟩
  have HB : Hid (Below w.heap.size w w1) := hb0.trans (hb1.mono hb0.size)
  clear hc hb0 hb1 hr0
  go_wp2
  go_ret
  exact ⟨rfl, HB.out⟩
end Go.Proofs.YthmmmkldmhjogaaGreatDoor
/- What is in a state together, the document's. -/
namespace Go.Proofs.YthmmmkldmhjogaaGreatDoor
open Go.RowKit
set_option maxRecDepth 100000 in
set_option maxHeartbeats 1600000 in
theorem rtotal_any (s : Sv) (p : Pl) (w : World) (h : SvAt w s p) (hs : s.Small) :
  Calls Tryz.prog 13 #[.agg (svv s p)] w fun e w' => e = .returned (.int .i64 (totF s)) ∧ Below w.heap.size w w' := by
 have hb0 : Below w.heap.size w (w.alloc (.cells (svv s p) 26)) := (Below.refl _ w).alloc (Nat.le_refl _) _
 have hr0 := heap_alloc_new w (.cells (svv s p) 26)
 have hc := rcheck_any s p _ (h.below hb0) hs
 by_cases hk : SOk s
 ·have ht : ∀ w1, Below w.heap.size w w1 → Calls Tryz.prog 39 #[.agg (svv s p)] w1 fun e w' => e = .returned (.int .i64 (tot s)) ∧ Below w1.heap.size w1 w' := fun w1 hb => rsum_any s p w1 (h.below hb) hk.1 hk.2.1
  have e : totF s = tot s := if_pos hk
  have e0 : chkE s = 0 := if_pos hk
  rw [e0] at hc
  rw [e]
  clear h hs e e0
  unfold svv at hb0 hr0 hc ht ⊢
  go_enter Tryz.func13, Tryz.ntmps13
  go_wp2_with fail
  generalize w.alloc (.cells #[.int .i64 s.nu, .int .i64 s.a, .int .i64 s.b, .slice p.pa s.pn p.pc, .slice p.ha s.hn p.hc] 26) = W0 at *
  refine hc.mono ?_
  rintro e w1 ⟨rfl, hb1⟩
  have k0 := hb1.block _ (lt_of_block hr0)
  rw [hr0] at k0
  obtain ⟨c0, c1, c2, c3, c4, cf⟩ := five_of k0
  have HB : Hid (Below w.heap.size w w1) := hb0.trans (hb1.mono hb0.size)
  have ht1 := ht w1 HB.out
  clear hc hb0 hb1 hr0 k0 ht hk
  go_wp2_with fail
  refine ht1.mono ?_
  rintro e w2 ⟨rfl, hb2⟩
  have HB2 : Hid (Below w.heap.size w w2) := HB.out.trans (hb2.mono HB.out.size)
  clear ht1 hb2 c0 c1 c2 c3 c4 cf
  go_wp2
  go_ret
  exact ⟨rfl, HB2.out⟩
 ·have e : totF s = 0 := if_neg hk
  have e0 : chkE s = 1 := if_neg hk
  rw [e0] at hc
  rw [e]
  clear h hs e hk e0
  unfold svv at hb0 hr0 hc ⊢
  go_enter Tryz.func13, Tryz.ntmps13
  go_wp2_with fail
  generalize w.alloc (.cells #[.int .i64 s.nu, .int .i64 s.a, .int .i64 s.b, .slice p.pa s.pn p.pc, .slice p.ha s.hn p.hc] 26) = W0 at *
  refine hc.mono ?_
  rintro e w1 ⟨rfl, hb1⟩
  have HB : Hid (Below w.heap.size w w1) := hb0.trans (hb1.mono hb0.size)
  clear hc hb0 hb1 hr0
  go_wp2
  go_ret
  exact ⟨rfl, HB.out⟩
end Go.Proofs.YthmmmkldmhjogaaGreatDoor
/- state.Sum. -/
namespace Go.Proofs.YthmmmkldmhjogaaGreatDoor
open Go.RowKit

/-- Bytes as numbers. -/
def nb (L : List Int) : List Nat := L.map Int.toNat
theorem nb_length (L : List Int) : (nb L).length = L.length := by simp [nb]
theorem nb_lt {L : List Int} (h : ∀ j, j < L.length → 0 ≤ fn L j ∧ fn L j ≤ 255) (i : Nat) : (nb L).getD i 0 < 256 := by
 by_cases hi : i < L.length
 ·have := h i hi
  rw [fn_get L i hi] at this
  simp only [nb, List.getD_eq_getElem?_getD, List.getElem?_map, List.getElem?_eq_getElem hi, Option.map_some, Option.getD_some]
  omega
 ·simp [nb, List.getD_eq_getElem?_getD, List.getElem?_eq_none (Nat.le_of_not_lt hi)]
theorem slB_of {w : World} {ad : Option Addr} {L : List Int} (h : SlAt w ad L.length (fn L)) : SlB w ad (nb L) := by
 intro hn
 rw [nb_length] at hn
 obtain ⟨b, off, e, hc⟩ := h.2 hn
 refine ⟨b, off, e, fun j v hv => ?_⟩
 simp only [sl8, nb, List.map_map, List.getElem?_map] at hv
 obtain ⟨x, hx, rfl⟩ := Option.map_eq_some_iff.1 hv
 obtain ⟨hj, rfl⟩ := List.getElem?_eq_some_iff.1 hx
 rw [hc j hj, fn_get L j hj]
 have := h.1 j hj
 rw [fn_get L j hj] at this
 simp only [Function.comp]
 congr 2
 omega
set_option maxRecDepth 20000 in
set_option maxHeartbeats 1600000 in
theorem stSum_any (s : Sv) (p : Pl) (w : World) (h : SvAt w s p) (hs : s.Small) (hT : Tab w) (hgl : 3 ≤ w.heap.size) :
  Calls Tryz.prog 16 #[.agg (svv s p)] w fun e w' => e = .returned (.agg (sv (sumF (nb (laidS s))))) ∧ Below w.heap.size w w' := by
 have hRl : (sumF (nb (laidS s))).length = 32 := endL_len _
 have hb0 : Below w.heap.size w ((w.alloc (.cells (svv s p) 33)).alloc (.cells (sv z32) 48)) := ((Below.refl _ w).alloc (Nat.le_refl _) _).alloc (by simp) _
 have hr0 : ((w.alloc (.cells (svv s p) 33)).alloc (.cells (sv z32) 48)).heap[w.heap.size]? = some (.cells (svv s p) 33 (0, 0)) := by rw [Below.heap_alloc _ _ _ (by simp)]; exact heap_alloc_new w _
 have hz0 : ((w.alloc (.cells (svv s p) 33)).alloc (.cells (sv z32) 48)).heap[w.heap.size + 1]? = some (.cells (sv z32) 48 (0, 0)) := by
  have := heap_alloc_new (w.alloc (.cells (svv s p) 33)) (.cells (sv z32) 48)
  simpa using this
 have hc := encode_cap s p _ (h.below hb0) hs
 have HL := laidS_len s hs
 have c0 := cell_of_row _ _ 0 _ _ _ hr0
 have c1 := cell_of_row _ _ 1 _ _ _ hr0
 have c2 := cell_of_row _ _ 2 _ _ _ hr0
 have c3 := cell_of_row _ _ 3 _ _ _ hr0
 have c4 := cell_of_row _ _ 4 _ _ _ hr0
 simp only [svv] at c0 c1 c2 c3 c4
 have HT : Hid (Tab w) := hT
 obtain ⟨L, hL⟩ : ∃ L, laidS s = L := ⟨_, rfl⟩
 rw [hL] at hc hRl HL ⊢
 clear h hs hT hL
 have HR : Hid (((w.alloc (.cells (svv s p) 33)).alloc (.cells (sv z32) 48)).rangeAt w.heap.size 0 (svv s p).toList) := fun j v hv => by
  rw [Nat.zero_add, cell_of_row _ _ j _ _ _ hr0]
  simpa using hv
 clear c0 c1 c2 c3 c4 hr0
 go_enter Tryz.func16, Tryz.ntmps16
 go_wp2_with (first | (refine Go.Great.wpList_boxTo rfl _ _ rfl _ rfl _ rfl (svv s p) rfl ?_) | (refine wpList_allocHs rfl rfl ?_) | (refine wpList_load_mid rfl 33 _ rfl w.heap.size 0 rfl (svv s p).toList _ HR.out Tryz.underlying33 rfl szS ?_) | fail)
 generalize (w.alloc (.cells (svv s p) 33)).alloc (.cells (sv z32) 48) = W0 at *
 refine hc.mono ?_
 rintro e w1 ⟨ad, cap, rfl, hcap, hsl, _, hb1⟩
 have hbw : Below w.heap.size w w1 := hb0.trans (hb1.mono hb0.size)
 have hcall := sum_any ad cap (nb L) w1 (HT.out.frm (S := []) (Frm.ofBelow hbw) (fun k hk => by cases hk)) (by have := hbw.size; omega) (slB_of hsl) (nb_lt hsl.1) (by rw [nb_length]; exact hcap) (by rw [nb_length]; omega)
 rw [nb_length] at hcall
 have hz1 : w1.heap[w.heap.size + 1]? = some (.cells (sv z32) 48 (0, 0)) := by rw [hb1.block _ (lt_of_block hz0)]; exact hz0
 obtain ⟨R, hR⟩ : ∃ R, R = sumF (nb L) := ⟨_, rfl⟩
 have HRR : Hid (R = sumF (nb L)) := hR
 rw [← hR] at hcall hRl
 clear hc hb0 hb1 hz0 hsl hcap hR
 go_wp2_with fail
 refine hcall.mono ?_
 rintro e w2 ⟨rfl, hb2⟩
 have hz2 : w2.heap[w.heap.size + 1]? = some (.cells (sv z32) 48 (0, 0)) := by rw [hb2.block _ (lt_of_block hz1)]; exact hz1
 have hb2' : Below w.heap.size w w2 := hbw.trans (hb2.mono hbw.size)
 clear hcall hz1 hb2 hbw
 go_wp2_with (first | (refine wpList_storeRow 48 hsz rfl _ _ rfl (w.heap.size + 1) rfl (sv R) (sv z32) (by rw [sv_size, hRl]) (by simp [sv_size, z32]) (sv_one _) 48 rfl hz2 ?_; intro w3 hg3 hf3) | fail)
 refine bodyPost_ret (results_cell_row Tryz.results16 _ w3 (w.heap.size + 1) 48 (sv R) (0, 0) _ rfl hg3 Tryz.underlying48 rfl (by rw [sv_size, hRl]; exact hsz)) rfl ⟨by rw [HRR.out], hb2'.trans (hf3.below (by have := hb2'.size; omega) (by simp))⟩
/-- A sum's bytes as ints. -/
def sZ (R : List Nat) : Nat → Int := fun j => (R.getD j 0 : Nat)
theorem sv_sZ {R : List Nat} (h : R.length = 32) : sv R = hv (sZ R) := by
 unfold sv sl8 hv bl sZ
 congr 1
 apply List.ext_getElem?
 intro j
 by_cases hj : j < 32
 ·simp [List.getElem?_map, List.getElem?_range hj, List.getElem?_eq_getElem (show j < R.length by omega), List.getD_eq_getElem?_getD]
 ·rw [List.getElem?_eq_none (by simp; omega), List.getElem?_eq_none (by simp; omega)]
theorem sZ_bd (b : List Nat) : ∀ j, j < 32 → 0 ≤ sZ (sumF b) j ∧ sZ (sumF b) j ≤ 255 := fun j _ => by have h2 : (sumF b).getD j 0 < 256 := endL_lt _ j; unfold sZ; omega
theorem guardHs2 : Tryz.prog.eqGuardType Tryz.prog.depth 48 = false := by kernel_rfl
theorem exec_eqS {a : Act} {o : Oper} (x y : Operand) (ho : o.op = .binOp .eql 48 x y 48) (b : List Nat) (hx : a.eval x = .agg (sv (sumF b))) (hy : a.eval y = .agg (sv (sumF b))) (w : World) :
  (execOp a.eval o).run Tryz.prog w = .ok (.value (.bool true)) w := by
 have hl : (sumF b).length = 32 := endL_len _
 have e1 := eql_hv (sZ_bd b) (sZ_bd b) w
 rw [hq_same] at e1
 rw [sv_sZ hl] at hx hy
 unfold execOp
 simp only [ho, hx, hy, Sem.run_bind, run_eqGuard_agg w .eql 48 x y _ _ guardHs2, e1, Result.andThen_ok, Sem.run_pure]
end Go.Proofs.YthmmmkldmhjogaaGreatDoor
/- longState: whether a state has more than is gone through. -/
namespace Go.Proofs.YthmmmkldmhjogaaGreatDoor
open Go.RowKit

/-- The keys of the first holds together. -/
def sumN (X : Nat → Hd) : Nat → Nat
 | 0 => 0
 | i + 1 => sumN X i + (X i).n
theorem sumN_le {X : Nat → Hd} {i n : Nat} (h : i < n) : (X i).n ≤ sumN X n := by
 induction n with
 | zero => omega
 | succ n ih =>
  simp only [sumN]
  by_cases e : i = n
  ·subst e; omega
  ·have := ih (by omega); omega
theorem sumN_bd {X : Nat → Hd} {m n : Nat} (hx : ∀ i, i < n → (X i).n ≤ m) : ∀ i, i ≤ n → sumN X i ≤ i * m
 | 0, _ => by simp [sumN]
 | i + 1, hi => by
  have h1 := sumN_bd hx i (by omega)
  have h2 := hx i (by omega)
  simp only [sumN]
  rw [Nat.succ_mul]; omega
def lngS (s : Sv) : Bool := decide (100 < s.pn + s.hn ∨ 300 < s.pn + s.hn + sumN s.H s.hn)
theorem lngS_no {s : Sv} (h : lngS s = false) : s.Small := by
 simp only [lngS, decide_eq_false_iff_not] at h
 refine ⟨by omega, fun i hi => ?_⟩
 have := sumN_le (X := s.H) hi
 omega

set_option maxRecDepth 100000 in
set_option maxHeartbeats 1600000 in
theorem long_any (s : Sv) (p : Pl) (w : World) (h : SvAt w s p) (hp : s.pn ≤ 140737488355328) (hh : s.hn ≤ 140737488355328) (hx : ∀ i, i < s.hn → (s.H i).n ≤ 140737488355328) :
  Calls Tryz.prog 4 #[.agg (svv s p)] w fun e w' => e = .returned (.bool (lngS s)) ∧ Below w.heap.size w w' := by
 obtain ⟨nu, a, b, pn, P, hn, H⟩ := s
 obtain ⟨pa, pc, ha, hc⟩ := p
 obtain ⟨_, hd, _, _, _, _⟩ := h
 simp only at hd hp hh hx
 have HL : Hid (lngS ⟨nu, a, b, pn, P, hn, H⟩ = decide (100 < pn + hn ∨ 300 < pn + hn + sumN H hn)) := rfl
 generalize lngS ⟨nu, a, b, pn, P, hn, H⟩ = LL at *
 unfold svv
 simp only
 have hb0 : Below w.heap.size w (w.alloc (.cells #[.int .i64 nu, .int .i64 a, .int .i64 b, .slice pa pn pc, .slice ha hn hc] 26)) := (Below.refl _ w).alloc (Nat.le_refl _) _
 have HHD : Hid (HdAt (w.alloc (.cells #[.int .i64 nu, .int .i64 a, .int .i64 b, .slice pa pn pc, .slice ha hn hc] 26)) ha hn H) := hd.below hb0
 have hr0 := heap_alloc_new w (.cells #[.int .i64 nu, .int .i64 a, .int .i64 b, .slice pa pn pc, .slice ha hn hc] 26)
 have HX : Hid (∀ i, i < hn → (H i).n ≤ 140737488355328) := hx
 clear hd hx
 have ew : wrap64 ((pn : Int) + hn) = (pn : Int) + hn := by simp [wrap64]; omega
 have HB : Hid (Below w.heap.size w (w.alloc (.cells #[.int .i64 nu, .int .i64 a, .int .i64 b, .slice pa pn pc, .slice ha hn hc] 26))) := hb0
 clear hb0
 by_cases h1 : 100 < pn + hn
 ·have h1' : (100 : Int) < (pn : Int) + hn := by omega
  have HE : Hid (LL = true) := by rw [HL.out]; exact decide_eq_true (.inl h1)
  clear hr0
  go_enter Tryz.func4, Tryz.ntmps4
  go_wp2
  go_ret
  exact ⟨by rw [HE.out]; rfl, HB.out⟩
 ·have h1'' : ¬ (100 : Int) < (pn : Int) + hn := by omega
  go_enter Tryz.func4, Tryz.ntmps4
  go_wp2
  generalize w.alloc (.cells #[.int .i64 nu, .int .i64 a, .int .i64 b, .slice pa pn pc, .slice ha hn hc] 26) = W0 at *
  have c4 : W0.cell? ⟨w.heap.size, 4, none⟩ = some (.slice ha hn hc) := by rw [cell_of_row _ _ 4 _ _ _ hr0]; rfl
  clear hr0
  go_loop [3, 4] (fun sv iv => ∃ i : Nat, i ≤ hn ∧ sv = .int .i64 ((pn : Int) + hn + (sumN H i : Nat)) ∧ iv = .int .i64 i) (fun _ iv => hn + 1 - (intOf iv).toNat)
  case atStart => exact ⟨0, by omega, by simp [sumN], rfl⟩
  case round =>
   obtain ⟨i, hi, rfl, rfl⟩ := hrel
   have hs := sumN_bd HX.out i hi
   by_cases hlt : i < hn
   ·have hlt' : (i : Int) < hn := by omega
    have hxi := HX.out i hlt
    obtain ⟨bl0, off, rfl, hc0⟩ := HHD.out.at_ (by omega)
    obtain ⟨ka, kc, hr, _, _⟩ := hc0 i hlt
    obtain ⟨_, _, d2⟩ := hd_cells hr
    have HW : Hid ((pn : Int) + hn + (sumN H i : Nat) + (H i).n = (pn : Int) + hn + (sumN H (i + 1) : Nat)) := by show _ = _; simp only [sumN]; omega
    have hq : 0 ≤ (pn : Int) + hn + (sumN H i : Nat) ∧ (pn : Int) + hn + (sumN H i : Nat) ≤ 14073748835532900 := by omega
    clear hc0 hr hs
    generalize (pn : Int) + hn + (sumN H i : Nat) = q at *
    obtain ⟨x, hx⟩ : ∃ x, H i = x := ⟨_, rfl⟩
    rw [hx] at hxi HW d2
    clear hx
    have e2 : wrap64 (q + (x.n : Int)) = q + (x.n : Int) := by simp [wrap64]; omega
    go_wp2
    go_round
    case rel => exact ⟨i + 1, by omega, by first | rw [HW.out] | (rw [e2, HW.out]) | (rw [← HW.out]), by go_num⟩
    case measure => simp [intOf]; omega
   ·obtain rfl : i = hn := by omega
    have hnn : ¬ ((i : Int) < i) := by omega
    have HE : Hid (LL = decide ((300 : Int) < (pn : Int) + i + (sumN H i : Nat))) := by
     show _ = _
     rw [HL.out]
     exact decide_eq_decide.2 (by omega)
    generalize (pn : Int) + i + (sumN H i : Nat) = q at *
    go_wp2
    go_ret
    exact ⟨by rw [HE.out]; rfl, HB.out⟩
end Go.Proofs.YthmmmkldmhjogaaGreatDoor
