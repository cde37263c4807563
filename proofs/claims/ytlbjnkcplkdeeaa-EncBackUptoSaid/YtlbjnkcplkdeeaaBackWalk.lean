/- EncBack: the walk. -/
import Derived.Test.YtlbjnkcplkdeeaaBackKit
import Derived.Deep.RegionHeld3
import Derived.Deep.DrawnRows
import Derived.Deep.RegionWith
namespace Go.Proofs.Ytlbjnkcplkdeeaa
open Go.RowKit

attribute [local go_sem ↓] Go.wp_at_zero Go.wp_at_succ

set_option maxRecDepth 100000 in
set_option maxHeartbeats 6400000 in
theorem back_any (ad : Option Addr) (len cap : Nat) (X : Nat → Th) (W : World) (hT : ThAt W ad len X) (hX : ∀ i, i < len → (X i).len ≤ 1048576) (hlen : len ≤ 1048576) :
    Calls Try.prog 4 #[.slice ad len cap] W fun e w' => e = .returned (.bool true) ∧ Below W.heap.size W w' := by
  have HT : Hid (ThAt W ad len X) := hT
  have HX : Hid (∀ i, i < len → (X i).len ≤ 1048576) := hX
  clear hT hX
  go_enter Try.func4, Try.ntmps4
  go_wp2_with fail
  refine (new_any W).mono ?_
  rintro e w0 ⟨rfl, rfl⟩
  have h0 : BkW W (W.alloc (.cells #[.slice none 0 0] 49)) (laidL X 0) := BkW.begin W
  go_wp2_with fail
  generalize (W.alloc (.cells #[.slice none 0 0] 49)) = W0 at *
  go_loopw [3, 4] (fun pv iv wr => ∃ q : Nat, q ≤ len ∧ q ≤ 200 ∧ pv = .pointer (some ⟨W.heap.size, 0, none⟩) ∧ iv = .int .i64 q ∧ BkW W wr (laidL X q)) (fun _ iv _ => 201 - (intOf iv).toNat)
  case atStart => exact ⟨0, by omega, by omega, rfl, rfl, h0⟩
  case round =>
    clear h0
    obtain ⟨q, hq1, hq2, rfl, rfl, hB⟩ := hrel
    by_cases hlt : q < 200 ∧ q < len
    · obtain ⟨hk1, hk2⟩ := hlt
      have hk200 : (q : Int) < 200 := by omega
      obtain ⟨b, off, rfl, hcl⟩ := HT.out.at_ (by omega)
      have HR : Hid (wr.rangeAt b (off + q * 35) (X q).l) := range_below (hcl q hk2) hB.below
      obtain ⟨⟨g, hW⟩, hb⟩ := hB
      have HW : Hid (WrAt wr W.heap.size W.heap.size g (laidL X q)) := hW
      have hll := laidL_len X q (fun i hi => HX.out i (by omega))
      have hxl := HX.out q hk2
      clear hW hcl
      go_wp2_with (first | (refine wpList_load_mid rfl 30 _ rfl b (off + q * 35) rfl (X q).l _ HR.out Try.underlying30 rfl (tszv _) ?_) | fail)
      refine (lay_any W.heap.size W.heap.size g (laidL X q) (X q) wr HW.out (by omega) ((HT.out.ok q hk2).below hb) ((HT.out.ok q hk2).apart HW.out)).mono ?_
      rintro e w1 ⟨rfl, hG⟩
      have hN : BkW W w1 (laidL X (q + 1)) := BkW.next HW.out hb hG
      clear hG
      go_wp2
      go_roundw
      case rel => exact ⟨q + 1, by omega, by omega, rfl, by go_num, hN⟩
      case measure => simp [intOf]; omega
    · have hll := laidL_len X q (fun i hi => HX.out i (by omega))
      obtain ⟨⟨g, hW⟩, hb⟩ := hB
      have HW : Hid (WrAt wr W.heap.size W.heap.size g (laidL X q)) := hW
      clear hW
      by_cases h1 : q < len
      · have hn200 : (200 : Int) ≤ q := by omega
        have hnlen : (q : Int) < len := by omega
        clear hlt
        go_wp2_with fail
        refine (wrDone_any W.heap.size W.heap.size g (laidL X q) wr HW.out (by omega)).mono ?_
        rintro e w1 ⟨ad1, cap1, rfl, k1, k2, k3, k4, hb1⟩
        go_wp2_with fail
        refine (read_any ad1 _ cap1 (fn (laidL X q)) w1 k2 k3 (by omega)).mono ?_
        rintro e w2 ⟨rb, rfl, hr, hrb, hb2⟩
        have hBw : Below W.heap.size W w2 := (hb.trans (hb1.mono hb.size)).trans (hb2.mono (by have := hb1.size; have := hb.size; omega))
        have hR0 : BkR W w2 rb X q 0 := ⟨by simpa [laidL] using hr, hBw, by have := hb1.size; have := hb.size; omega⟩
        clear k1 k2 k3 k4 hb1 hb2 hr hrb hb HW hBw
        go_wp2_with fail
        go_loopw [6] (fun iv wr => ∃ i : Nat, i ≤ q ∧ iv = .int .i64 i ∧ BkR W wr rb X q i) (fun iv _ => q + 1 - (intOf iv).toNat)
        case atStart => exact ⟨0, by omega, rfl, hR0⟩
        case round =>
          clear hR0
          obtain ⟨i, hi, rfl, hR⟩ := hrel
          by_cases hlt2 : i < q
          · have hi200 : (i : Int) < 200 := by omega
            have hilen : (i : Int) < len := by omega
            obtain ⟨b, off, rfl, hcl⟩ := HT.out.at_ (by omega)
            have HRx : Hid (wr.rangeAt b (off + i * 35) (X i).l) := range_below (hcl i (by omega)) hR.below
            have HR : Hid (BkR W wr rb X q i) := hR
            have HOk : Hid (ThOk W (X i)) := HT.out.ok i (by omega)
            clear hcl hR
            rcases (X i).kd_cases with hk | hk | hk | hk
            all_goals
              have c0 : (wrap64 ((IntKind.u64.wrap (X i).k).tmod 4) == 0) = decide ((X i).kd = 0) := rfl
              have c1 : (wrap64 ((IntKind.u64.wrap (X i).k).tmod 4) == 1) = decide ((X i).kd = 1) := rfl
              have c2 : (wrap64 ((IntKind.u64.wrap (X i).k).tmod 4) == 2) = decide ((X i).kd = 2) := rfl
              have HK : Hid ((X i).kd = _) := hk
              rw [hk] at c0 c1 c2
              simp only [Int.reduceEq, decide_true, decide_false] at c0 c1 c2
              clear hk
              go_wp2_with (first | (refine wpList_load_mid rfl 30 _ rfl b (off + i * 35) rfl (X i).l _ HRx.out Try.underlying30 rfl (tszv _) ?_) | (refine wpList_allocT rfl rfl ?_) | (refine wpList_storeT rfl _ _ rfl wr.heap.size rfl (X i) default 30 rfl (heap_alloc_new wr _) ?_; intro w3 hx3 hF3; have hx0 := th_cell hx3 0 _ rfl) | fail)
              have hB3 : Below wr.heap.size wr w3 := (Below.allocS (Below.refl _ wr) _).trans (hF3.below (by simp) (by simp))
              have H3 : Hid (BkR W w3 rb X q i) := HR.out.keep hB3
              have hne : rb ≠ wr.heap.size := by have := HR.out.rd.lt; omega
              have hx1 := th_cell hx3 1 _ rfl
              have hx2 := th_cell hx3 2 _ rfl
              have HX3 : Hid (w3.heap[wr.heap.size]? = some (.cells (X i).v 30 (0, 0))) := hx3
              clear hF3 hB3 HR hx0 hx3 HRx
              generalize wr.heap.size = gx at *
            · go_region_held3 (fun w' => w'.cell? ⟨gx, 1, none⟩ = some (.int .i64 (X i).n))
                (first
                  | exact hx1
                  | exact th_cell (hFx.heap HX3.out (by simpa using hne.symm)) 1 _ rfl
                  | fail)
                (first | (go_at_call 12; refine (bkUint (W := W) (X := X) (m := q) (q := i) (H3.out.keep (Below.refl _ _).drew) hlt2 HK.out).mono ?_; rintro e w4 ⟨rfl, hF4, hN⟩; have hFx : Frm [rb] w3 w4 := (Frm.refl [rb] w3).drew.trans hF4))
              go_wp2
              go_roundw
              case rel => exact ⟨i + 1, by omega, by go_num, hN⟩
              case measure => simp [intOf]; omega
            · go_region_held3 (fun w' => w'.cell? ⟨gx, 1, none⟩ = some (.int .i64 (X i).n))
                (first
                  | exact hx1
                  | exact th_cell (hFx.heap HX3.out (by simpa using hne.symm)) 1 _ rfl
                  | fail)
                (first | (go_at_call 13; refine (bkInt (W := W) (X := X) (m := q) (q := i) (H3.out.keep (Below.refl _ _).drew) hlt2 HK.out HOk.out.n).mono ?_; rintro e w4 ⟨rfl, hF4, hN⟩; have hFx : Frm [rb] w3 w4 := (Frm.refl [rb] w3).drew.trans hF4))
              go_wp2
              go_roundw
              case rel => exact ⟨i + 1, by omega, by go_num, hN⟩
              case measure => simp [intOf]; omega
            · have hS0 := bk_conv HOk.out H3.out hx2 (Frm.refl [rb] w3).drew (by simpa using hne.symm) HX3.out
              obtain ⟨hS00, hS01⟩ := hS0
              go_region_with (first | (go_at_call 14; refine (bkBytes (W := W) (X := X) (m := q) (q := i) (H3.out.keep (Below.refl _ _).drew) hlt2 HK.out HOk.out.b.1 (by omega)).mono ?_; rintro e w4 ⟨ay, cy, rfl, hO, hF4, hN⟩; have hFx : Frm [rb] w3 w4 := (Frm.refl [rb] w3).drew.trans hF4; have hcv := conv_any ay _ cy _ w4 hO.1 hO.2; have hS1 := bk_conv HOk.out H3.out hx2 hFx (by simpa using hne.symm) HX3.out; obtain ⟨hS10, hS11⟩ := hS1; clear hO))
              all_goals
                go_wp2
                go_roundw
                case rel => exact ⟨i + 1, by omega, by go_num, hN⟩
                case measure => simp [intOf]; omega
            · have heq := eqIn_same HOk.out.h
              have hu := Try.underlying28
              have hi : (Try.prog.info? 28).map (·.size) = some (bl (X i).h 32).length := by rw [bl_length]; exact hsz
              go_region_held3 (fun w' => w'.rangeAt gx 3 (bl (X i).h 32))
                (first
                  | exact th_range HX3.out
                  | exact th_range (hFx.heap HX3.out (by simpa using hne.symm))
                  | fail)
                (first | (go_at_call 15; refine (bkHash (W := W) (X := X) (m := q) (q := i) (H3.out.keep (Below.refl _ _).drew) hlt2 HK.out).mono ?_; rintro e w4 ⟨rfl, hF4, hN⟩; have hFx : Frm [rb] w3 w4 := (Frm.refl [rb] w3).drew.trans hF4))
              clear heq hu hi
              go_wp2
              go_roundw
              case rel => exact ⟨i + 1, by omega, by go_num, hN⟩
              case measure => simp [intOf]; omega
          · obtain rfl : i = q := by omega
            clear hlt2
            have hD := hR.rd.congr (n' := 0) (by omega) (fun _ _ => rfl)
            have hB := hR.below
            clear hR
            go_wp2_with (first
              | (go_at_call 16; refine (done_ok rb _ _ hD).mono ?_; rintro e v1 ⟨rfl, rfl⟩)
              | (go_at_call 17; refine (left_any rb 0 _ 0 _ hD).mono ?_; rintro e v2 ⟨rfl, rfl⟩)
              | (go_at_call 10; refine (sure_any _).mono ?_; rintro e v3 ⟨rfl, hb3⟩))
            go_ret
            exact ⟨rfl, Below.transS hB hb3⟩
      · obtain rfl : q = len := by omega
        go_wp2_with fail
        refine (wrDone_any W.heap.size W.heap.size g (laidL X q) wr HW.out (by omega)).mono ?_
        rintro e w1 ⟨ad1, cap1, rfl, k1, k2, k3, k4, hb1⟩
        go_wp2_with fail
        refine (read_any ad1 _ cap1 (fn (laidL X q)) w1 k2 k3 (by omega)).mono ?_
        rintro e w2 ⟨rb, rfl, hr, hrb, hb2⟩
        have hBw : Below W.heap.size W w2 := (hb.trans (hb1.mono hb.size)).trans (hb2.mono (by have := hb1.size; have := hb.size; omega))
        have hR0 : BkR W w2 rb X q 0 := ⟨by simpa [laidL] using hr, hBw, by have := hb1.size; have := hb.size; omega⟩
        clear k1 k2 k3 k4 hb1 hb2 hr hrb hb HW hBw
        go_wp2_with fail
        go_loopw [6] (fun iv wr => ∃ i : Nat, i ≤ q ∧ iv = .int .i64 i ∧ BkR W wr rb X q i) (fun iv _ => q + 1 - (intOf iv).toNat)
        case atStart => exact ⟨0, by omega, rfl, hR0⟩
        case round =>
          clear hR0
          obtain ⟨i, hi, rfl, hR⟩ := hrel
          by_cases hlt2 : i < q
          · have hi200 : (i : Int) < 200 := by omega
            have hilen : (i : Int) < q := by omega
            obtain ⟨b, off, rfl, hcl⟩ := HT.out.at_ (by omega)
            have HRx : Hid (wr.rangeAt b (off + i * 35) (X i).l) := range_below (hcl i (by omega)) hR.below
            have HR : Hid (BkR W wr rb X q i) := hR
            have HOk : Hid (ThOk W (X i)) := HT.out.ok i (by omega)
            clear hcl hR
            rcases (X i).kd_cases with hk | hk | hk | hk
            all_goals
              have c0 : (wrap64 ((IntKind.u64.wrap (X i).k).tmod 4) == 0) = decide ((X i).kd = 0) := rfl
              have c1 : (wrap64 ((IntKind.u64.wrap (X i).k).tmod 4) == 1) = decide ((X i).kd = 1) := rfl
              have c2 : (wrap64 ((IntKind.u64.wrap (X i).k).tmod 4) == 2) = decide ((X i).kd = 2) := rfl
              have HK : Hid ((X i).kd = _) := hk
              rw [hk] at c0 c1 c2
              simp only [Int.reduceEq, decide_true, decide_false] at c0 c1 c2
              clear hk
              go_wp2_with (first | (refine wpList_load_mid rfl 30 _ rfl b (off + i * 35) rfl (X i).l _ HRx.out Try.underlying30 rfl (tszv _) ?_) | (refine wpList_allocT rfl rfl ?_) | (refine wpList_storeT rfl _ _ rfl wr.heap.size rfl (X i) default 30 rfl (heap_alloc_new wr _) ?_; intro w3 hx3 hF3; have hx0 := th_cell hx3 0 _ rfl) | fail)
              have hB3 : Below wr.heap.size wr w3 := (Below.allocS (Below.refl _ wr) _).trans (hF3.below (by simp) (by simp))
              have H3 : Hid (BkR W w3 rb X q i) := HR.out.keep hB3
              have hne : rb ≠ wr.heap.size := by have := HR.out.rd.lt; omega
              have hx1 := th_cell hx3 1 _ rfl
              have hx2 := th_cell hx3 2 _ rfl
              have HX3 : Hid (w3.heap[wr.heap.size]? = some (.cells (X i).v 30 (0, 0))) := hx3
              clear hF3 hB3 HR hx0 hx3 HRx
              generalize wr.heap.size = gx at *
            · go_region_held3 (fun w' => w'.cell? ⟨gx, 1, none⟩ = some (.int .i64 (X i).n))
                (first
                  | exact hx1
                  | exact th_cell (hFx.heap HX3.out (by simpa using hne.symm)) 1 _ rfl
                  | fail)
                (first | (go_at_call 12; refine (bkUint (W := W) (X := X) (m := q) (q := i) (H3.out.keep (Below.refl _ _).drew) hlt2 HK.out).mono ?_; rintro e w4 ⟨rfl, hF4, hN⟩; have hFx : Frm [rb] w3 w4 := (Frm.refl [rb] w3).drew.trans hF4))
              go_wp2
              go_roundw
              case rel => exact ⟨i + 1, by omega, by go_num, hN⟩
              case measure => simp [intOf]; omega
            · go_region_held3 (fun w' => w'.cell? ⟨gx, 1, none⟩ = some (.int .i64 (X i).n))
                (first
                  | exact hx1
                  | exact th_cell (hFx.heap HX3.out (by simpa using hne.symm)) 1 _ rfl
                  | fail)
                (first | (go_at_call 13; refine (bkInt (W := W) (X := X) (m := q) (q := i) (H3.out.keep (Below.refl _ _).drew) hlt2 HK.out HOk.out.n).mono ?_; rintro e w4 ⟨rfl, hF4, hN⟩; have hFx : Frm [rb] w3 w4 := (Frm.refl [rb] w3).drew.trans hF4))
              go_wp2
              go_roundw
              case rel => exact ⟨i + 1, by omega, by go_num, hN⟩
              case measure => simp [intOf]; omega
            · have hS0 := bk_conv HOk.out H3.out hx2 (Frm.refl [rb] w3).drew (by simpa using hne.symm) HX3.out
              obtain ⟨hS00, hS01⟩ := hS0
              go_region_with (first | (go_at_call 14; refine (bkBytes (W := W) (X := X) (m := q) (q := i) (H3.out.keep (Below.refl _ _).drew) hlt2 HK.out HOk.out.b.1 (by omega)).mono ?_; rintro e w4 ⟨ay, cy, rfl, hO, hF4, hN⟩; have hFx : Frm [rb] w3 w4 := (Frm.refl [rb] w3).drew.trans hF4; have hcv := conv_any ay _ cy _ w4 hO.1 hO.2; have hS1 := bk_conv HOk.out H3.out hx2 hFx (by simpa using hne.symm) HX3.out; obtain ⟨hS10, hS11⟩ := hS1; clear hO))
              all_goals
                go_wp2
                go_roundw
                case rel => exact ⟨i + 1, by omega, by go_num, hN⟩
                case measure => simp [intOf]; omega
            · have heq := eqIn_same HOk.out.h
              have hu := Try.underlying28
              have hi : (Try.prog.info? 28).map (·.size) = some (bl (X i).h 32).length := by rw [bl_length]; exact hsz
              go_region_held3 (fun w' => w'.rangeAt gx 3 (bl (X i).h 32))
                (first
                  | exact th_range HX3.out
                  | exact th_range (hFx.heap HX3.out (by simpa using hne.symm))
                  | fail)
                (first | (go_at_call 15; refine (bkHash (W := W) (X := X) (m := q) (q := i) (H3.out.keep (Below.refl _ _).drew) hlt2 HK.out).mono ?_; rintro e w4 ⟨rfl, hF4, hN⟩; have hFx : Frm [rb] w3 w4 := (Frm.refl [rb] w3).drew.trans hF4))
              clear heq hu hi
              go_wp2
              go_roundw
              case rel => exact ⟨i + 1, by omega, by go_num, hN⟩
              case measure => simp [intOf]; omega
          · obtain rfl : i = q := by omega
            clear hlt2
            have hD := hR.rd.congr (n' := 0) (by omega) (fun _ _ => rfl)
            have hB := hR.below
            clear hR
            go_wp2_with (first
              | (go_at_call 16; refine (done_ok rb _ _ hD).mono ?_; rintro e v1 ⟨rfl, rfl⟩)
              | (go_at_call 17; refine (left_any rb 0 _ 0 _ hD).mono ?_; rintro e v2 ⟨rfl, rfl⟩)
              | (go_at_call 10; refine (sure_any _).mono ?_; rintro e v3 ⟨rfl, hb3⟩))
            go_ret
            exact ⟨rfl, Below.transS hB hb3⟩
end Go.Proofs.Ytlbjnkcplkdeeaa
