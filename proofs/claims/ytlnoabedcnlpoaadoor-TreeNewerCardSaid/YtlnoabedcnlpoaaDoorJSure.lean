/- What must come whatever the input is; ints held against each other. -/
import Derived.Test.YtlnoabedcnlpoaaDoorJGive
import Derived.Test.YtlnoabedcnlpoaaDoorJRep
import Derived.Test.YtlnoabedcnlpoaaDoorJNext
import Derived.Test.YtlnoabedcnlpoaaDoorJNew
import Derived.Test.YtlnoabedcnlpoaaDoorJRIs
namespace Go.Proofs.YtlnoabedcnlpoaaDoor
open Go.RowKit

set_option maxHeartbeats 800000 in
theorem ints_same (a1 a2 : Option Addr) (n c1 c2 : Nat) (z : Nat → Int) (w : World) (h1 : IsAt w a1 n z) (h2 : IsAt w a2 n z) (hn : n ≤ 1000000) :
    Calls Tryd.prog 19 #[.slice a1 n c1, .slice a2 n c2] w fun e w' => e = .returned (.bool true) ∧ Below w.heap.size w w' := by
  have HH : Hid (IsAt w a1 n z ∧ IsAt w a2 n z) := ⟨h1, h2⟩
  have hb0 := Below.refl w.heap.size w
  clear h1 h2
  go_enter Tryd.func19, Tryd.ntmps19
  go_wp2
  go_loopw [5] (fun iv wr => ∃ i : Nat, i ≤ n ∧ iv = .int .i64 i ∧ Below w.heap.size w wr) (fun iv _ => n + 1 - (intOf iv).toNat)
  case atStart => exact ⟨0, by omega, rfl, hb0⟩
  case round =>
    clear hb0
    obtain ⟨i, hi, rfl, hb⟩ := hrel
    have HB := hidV hb
    clear hb
    by_cases hlt : i < n
    · have hlt' : (i : Int) < n := by omega
      obtain ⟨b, off, rfl, hc⟩ := (HH.out.1.below HB.out) (by omega)
      obtain ⟨b2, off2, rfl, hd⟩ := (HH.out.2.below HB.out) (by omega)
      have hci := hc i hlt
      have hdi := hd i hlt
      clear hc hd
      go_wp2_with fail
      go_quiet (fail)
      go_wp2
      go_roundw
      case rel => exact ⟨i + 1, by omega, by go_num, belowD HB.out _⟩
      case measure => simp [intOf]; omega
    · obtain rfl : i = n := by omega
      have hnn : ¬ ((i : Int) < i) := by omega
      go_wp2
      go_ret
      exact ⟨rfl, HB.out⟩
def kS : Nat → Int := fun j => (j : Int) + 1
def cS : Tc := ⟨nz, 0, 100, 2, kS, 2, 10, 6, 2, 0⟩
theorem cS_chk : chkT cS = 0 := by kernel_rfl
theorem build_cS (ka : Option Addr) (w : World) : (Instr.build 32 #[(1, .int .i64 100), (2, .slice ka 2 2), (3, .int .i64 2), (4, .int .i64 10), (5, .int .i64 6), (6, .int .i64 2)]).run Tryd.prog w = .ok (.agg (tcv cS ka 2)) w := by kernel_rfl
theorem cS_is : isE cS (fun _ => 10) 2 = 0 := by kernel_rfl
theorem cS_left : leftF cS (fun _ => 10) 2 = 8 := by kernel_rfl
theorem cS_nx : isE cS (nextZ cS (fun _ => 10) 1) 2 = 0 := by kernel_rfl
theorem cS_new : newerF cS (nextZ cS (fun _ => 10) 1) 2 (fun _ => 10) 2 = true := by
  unfold newerF
  rw [if_pos ⟨cS_nx, cS_is⟩]
  exact nwB_pos (nw_here (i := 1) (by decide) (fun j hj => by obtain rfl : j = 0 := (by omega); rfl) (by decide))
theorem cS_two {k : Nat} (h : (k : Int) = cS.dp) : k = 2 := by have : cS.dp = 2 := rfl; omega
theorem wpList_buildS {ops : Array Oper} {rest : List Oper} {o : Oper} {a : Act} {w : World} {Q : Exit → Act → World → Prop} (ka : Option Addr) (hgd : o.guard = none) (x1 x2 x3 x4 x5 x6 : Operand) (ho : o.op = .build 32 #[(1, x1), (2, x2), (3, x3), (4, x4), (5, x5), (6, x6)]) (h1 : a.eval x1 = .int .i64 100) (h2 : a.eval x2 = .slice ka 2 2) (h3 : a.eval x3 = .int .i64 2) (h4 : a.eval x4 = .int .i64 10) (h5 : a.eval x5 = .int .i64 6) (h6 : a.eval x6 = .int .i64 2)
    (h : wpList Tryd.prog ops Q rest (a.put o.dst (.agg (tcv cS ka 2))) w) : wpList Tryd.prog ops Q (o :: rest) a w := by
  refine wpList_plain hgd fun K hK => ?_
  unfold Oper.wp execOp
  simp only [ho, List.map_toArray, List.map_cons, List.map_nil, h1, h2, h3, h4, h5, h6, Sem.run_bind, build_cS, Result.andThen]
  exact hK _ _ h
theorem two_is {w w1 : World} {a b : Int} {z : Nat → Int} (h : New w w1 #[.int .i64 a, .int .i64 b] 3) (hz : ∀ j, j < 2 → [a, b][j]? = some (z j)) : IsAt w1 (some ⟨w.heap.size, 0, none⟩) 2 z := fun _ => ⟨w.heap.size, 0, rfl, fun j hj => by
  rw [cell_of_row _ _ _ _ _ _ h.blk, Nat.zero_add]
  have := hz j hj
  match j, hj with
  | 0, _ => simp at this; simp [this]
  | 1, _ => simp at this; simp [this]⟩
theorem sure_start {w v1 v2 : World} (hK : New w (w.alloc (.cells #[.int .i64 1, .int .i64 2] 3)) #[.int .i64 1, .int .i64 2] 3) (h1 : New (w.alloc (.cells #[.int .i64 1, .int .i64 2] 3)) v1 (tcv tc0 none 0) 32)
    (hg : v2.heap[w.heap.size + 1]? = some (.cells (tcv cS (some ⟨w.heap.size, 0, none⟩) 2) 32 (0, 0))) (hf : Frm [w.heap.size + 1] v1 v2) :
    (∀ w', Below v2.heap.size v2 w' → w'.rangeAt (w.heap.size + 1) 0 (tcl cS (some ⟨w.heap.size, 0, none⟩) 2)) ∧ TcIn v2 cS (some ⟨w.heap.size, 0, none⟩) ∧ Below w.heap.size w v2 := by
  have hs : v1.heap.size = w.heap.size + 2 := by have := h1.size; simp at this; exact this
  refine ⟨fun w' hb => tcl_range (heap_below hb hg), ⟨fun hn => ?_, by decide, by simp [Ib, cS]⟩, (Below.transS hK.below h1.below).trans (hf.below (by omega) (by simp))⟩
  obtain ⟨b, off, e, hc⟩ := two_is (z := kS) hK (fun j hj => by match j, hj with | 0, _ => rfl | 1, _ => rfl) (by decide)
  refine ⟨b, off, e, fun j hj => ?_⟩
  have h2 := hc j hj
  cases e
  rw [World.cell?_of_block (a := ⟨w.heap.size, 0 + j, none⟩) (hf.block w.heap.size (by omega) (by simp)), World.cell?_of_block (a := ⟨w.heap.size, 0 + j, none⟩) (h1.below.block w.heap.size (by simp))]
  exact h2
set_option maxRecDepth 100000 in
set_option maxHeartbeats 3200000 in
theorem sure_any (w : World) :
    Calls Tryd.prog 7 #[] w fun e w' => e = .returned (.bool true) ∧ Below w.heap.size w w' := by
  have NK := new_alloc w #[.int .i64 1, .int .i64 2] 3
  go_enter Tryd.func7, Tryd.ntmps7
  go_upto_region 2 with (first | (refine wpList_buildS (some ⟨w.heap.size, 0, none⟩) rfl _ _ _ _ _ _ rfl rfl rfl rfl rfl rfl rfl ?_) | (refine wpList_allocN 32 (tcv tc0 none 0) run_allocTc rfl rfl ?_; intro v1 N1) | (refine wpList_storeG 32 szT rfl _ _ rfl _ rfl (tcv cS (some ⟨w.heap.size, 0, none⟩) 2) (tcv tc0 none 0) (tcv_size _ _ _) (tcv_size _ _ _) (all_oneCell_toArray (tcl_one _ _ _)) 32 rfl N1.blk ?_; intro v2 hg2 hf2; have HV := hidV (sure_start NK N1 (by simpa using hg2) (by simpa using hf2)); clear hg2 hf2 N1 NK; have HR := hidV (HV.out.1 v2 (Below.refl _ _))) | fail)
  simp only [World.size_alloc]
  go_wp2_with (first | (refine wpList_loadT (by rfl) _ rfl (w.heap.size + 1) rfl cS (some ⟨w.heap.size, 0, none⟩) 2 HR.out ?_) | fail)
  refine (begin_any cS (some ⟨w.heap.size, 0, none⟩) 2 v2 HV.out.2.1).mono ?_
  intro e v3 hB
  obtain ⟨g, k, hk, rfl, hA⟩ := hB.ok cS_chk
  obtain rfl := cS_two hk
  have HA := hidV hA
  have HB3 := hidV hB.below
  have HR3 := hidV (HV.out.1 v3 hB.below)
  clear hA hB hk HR
  go_wp2_with (first | (refine wpList_loadT (by rfl) _ rfl (w.heap.size + 1) rfl cS (some ⟨w.heap.size, 0, none⟩) 2 HR3.out ?_) | fail)
  refine (next_any cS (some ⟨w.heap.size, 0, none⟩) 2 (some ⟨g, 0, none⟩) 2 2 (fun _ => 10) v3 HA.out (by omega) (HV.out.2.1.below HB3.out)).mono ?_
  intro e v4 hN
  obtain ⟨q, cq, rfl, hQ⟩ := hN.ok cS_is 1 (by omega) (by decide) (fun i h1 h2 => by omega)
  have HQ := hidV hQ
  have HB4 := hidV (Below.transS HB3.out hN.below)
  have HA4 := hidV (HA.out.below hN.below)
  have HR4 := hidV (HV.out.1 v4 HB4.out)
  clear hQ hN HR3
  go_wp2_with (first | (refine wpList_loadT (by rfl) _ rfl (w.heap.size + 1) rfl cS (some ⟨w.heap.size, 0, none⟩) 2 HR4.out ?_) | fail)
  refine (left_any cS (some ⟨w.heap.size, 0, none⟩) 2 (some ⟨g, 0, none⟩) 2 2 (fun _ => 10) v4 HA4.out (by omega) (HV.out.2.1.below HB4.out)).mono ?_
  rintro e v5 ⟨rfl, hb5⟩
  rw [cS_left, cS_is, errV_zero]
  have HB5 := hidV (Below.transS HB4.out hb5)
  have HA5 := hidV (HA4.out.below hb5)
  have HQ5 := hidV (HQ.out.below hb5)
  clear hb5 HR4
  have N5 := new_alloc v5 #[.int .i64 10, .int .i64 10] 3
  have HT5 : Hid (IsAt (v5.alloc (.cells #[.int .i64 10, .int .i64 10] 3)) (some ⟨v5.heap.size, 0, none⟩) 2 (fun _ => 10)) := two_is N5 (fun j hj => by match j, hj with | 0, _ => rfl | 1, _ => rfl)
  have hi5 := ints_same (some ⟨g, 0, none⟩) (some ⟨v5.heap.size, 0, none⟩) 2 2 2 (fun _ => 10) (v5.alloc (.cells #[.int .i64 10, .int .i64 10] 3)) (HA5.out.below N5.below) HT5.out (by omega)
  have HN5 := hidV N5.below
  clear N5
  go_wp2_with fail
  refine hi5.mono ?_
  rintro e v6 ⟨rfl, hb6⟩
  have HB6 := hidV (Below.transS HN5.out hb6)
  clear hb6 hi5 HT5
  have N6 := new_alloc v6 #[.int .i64 10, .int .i64 8] 3
  have HT6 : Hid (IsAt (v6.alloc (.cells #[.int .i64 10, .int .i64 8] 3)) (some ⟨v6.heap.size, 0, none⟩) 2 (nextZ cS (fun _ => 10) 1)) := two_is N6 (fun j hj => by match j, hj with | 0, _ => rfl | 1, _ => rfl)
  have hi6 := ints_same (some ⟨q, 0, none⟩) (some ⟨v6.heap.size, 0, none⟩) 2 cq 2 (nextZ cS (fun _ => 10) 1) (v6.alloc (.cells #[.int .i64 10, .int .i64 8] 3)) ((HQ5.out.below HB6.out).below N6.below) HT6.out (by omega)
  have HN6 := hidV N6.below
  clear N6
  go_wp2_with fail
  refine hi6.mono ?_
  rintro e v7 ⟨rfl, hb7⟩
  have HB7 := hidV (Below.transS HB6.out (Below.transS HN6.out hb7))
  clear hb7 hi6 HT6
  have HR7 := hidV (HV.out.1 v7 (Below.transS HB5.out HB7.out))
  go_wp2_with (first | (refine wpList_loadT (by rfl) _ rfl (w.heap.size + 1) rfl cS (some ⟨w.heap.size, 0, none⟩) 2 HR7.out ?_) | fail)
  refine (newer_any cS (some ⟨w.heap.size, 0, none⟩) 2 (some ⟨q, 0, none⟩) (some ⟨g, 0, none⟩) 2 2 cq 2 (nextZ cS (fun _ => 10) 1) (fun _ => 10) v7 (HQ5.out.below HB7.out) (HA5.out.below HB7.out) (by omega) (by omega) (HV.out.2.1.below (Below.transS HB5.out HB7.out))).mono ?_
  rintro e v8 ⟨rfl, hb8⟩
  rw [cS_new]
  have HE := hidV (HV.out.2.2.trans ((Below.transS (Below.transS HB5.out HB7.out) hb8).mono HV.out.2.2.size))
  clear hb8 HR7
  go_wp2
  go_ret
  exact ⟨rfl, HE.out⟩
end Go.Proofs.YtlnoabedcnlpoaaDoor
