/- tx.lay with nothing shown for secrets. -/
import Derived.Test.YtanchjfodcjlmaaGreatDoorOwnShelf16
import Derived.Test.YtanchjfodcjlmaaGreatDoorOwnShelf06
import Derived.OrdersHeld
import Derived.Deep.RegionHeld3
import Derived.Test.YtanchjfodcjlmaaGreatDoorOwnShelf07
import Derived.Test.YtanchjfodcjlmaaGreatDoorOwnShelf01
import Derived.Deep.CutBlock
import Derived.Deep.DeepCutAuto
namespace Go.Proofs.YtanchjfodcjlmaaGreatDoor
open Go.RowKit

/-- Inputs without their secrets. -/
def noS (X : Nat → Ti) : Nat → Ti := fun i => { X i with sn := 0 }
set_option maxRecDepth 100000 in
set_option maxHeartbeats 1600000 in
theorem kid1_any (x : Ti) (sa : Option Addr) (sc : Nat) (w : World) :
  Calls Tryz.prog 41 #[.agg (tiv x sa sc)] w fun e w' => e = .returned (.slice none 0 0) ∧ Below w.heap.size w w' := by
 have HB : Hid (Below w.heap.size w (w.alloc (.cells (tiv x sa sc) 59))) := (Below.refl _ w).alloc (Nat.le_refl _) _
 go_enter Tryz.func41, Tryz.ntmps41
 go_wp2
 go_ret
 exact ⟨rfl, HB.out⟩
set_option maxRecDepth 100000 in
set_option maxHeartbeats 6400000 in
theorem klayI_any (lk : Int) (ia : Option Addr) (n ic : Nat) (oa : Option Addr) (m oc : Nat) (X : Nat → Ti) (S : Nat → Option Addr × Nat) (Z : Nat → Nat → Int) (O : Nat → To) (w : World) (h : TiAt w ia n X S) (ho : ToAt w oa m O)
  (hz : ∀ i, i < n → SlAt w (S i).1 (X i).sn (Z i) ∧ (X i).sn ≤ 1000000) (hs : ∀ i, i < m → (O i).cn ≤ 1000 ∧ ∀ j, j < (O i).cn → ((O i).X j).n ≤ 1048576) (hn : n ≤ 1000) (hm : m ≤ 1000) :
  Calls Tryz.prog 40 #[.agg (txv lk ia n ic oa m oc), .func (.func 41) #[] #[]] w fun e w' => ∃ v, e = .returned v ∧ Ow w w' v (laidT lk n (noS X) Z m O) := by
 have hb0 : Below w.heap.size w (w.alloc (.cells #[.int .i64 lk, .slice ia n ic, .slice oa m oc] 35)) := (Below.refl _ w).alloc (Nat.le_refl _) _
 have hr0 := heap_alloc_new w (.cells #[.int .i64 lk, .slice ia n ic, .slice oa m oc] 35)
 have HH : Hid ((TiAt w ia n X S ∧ ToAt w oa m O) ∧ (∀ i, i < n → SlAt w (S i).1 (X i).sn (Z i) ∧ (X i).sn ≤ 1000000) ∧ (∀ i, i < m → (O i).cn ≤ 1000 ∧ ∀ j, j < (O i).cn → ((O i).X j).n ≤ 1048576)) := ⟨⟨h, ho⟩, hz, hs⟩
 have eg : ∀ args w, (callFunc 41 args).run Tryz.prog w = .ok (.enter 41 args) w := enters_of Tryz.func41 (by kernel_rfl) rfl
 clear h ho hz hs
 unfold txv
 go_enter Tryz.func40, Tryz.ntmps40
 go_wp2_with fail
 generalize w.alloc (.cells #[.int .i64 lk, .slice ia n ic, .slice oa m oc] 35) = W0 at *
 have HC : Hid (∀ w', Below W0.heap.size W0 w' → w'.cell? ⟨w.heap.size, 0, none⟩ = some (.int .i64 lk) ∧ w'.cell? ⟨w.heap.size, 1, none⟩ = some (.slice ia n ic) ∧ w'.cell? ⟨w.heap.size, 2, none⟩ = some (.slice oa m oc)) := fun w' hb => by
  have := hb.block _ (lt_of_block hr0)
  rw [hr0] at this
  exact ⟨by rw [cell_of_row _ _ 0 _ _ _ this]; rfl, by rw [cell_of_row _ _ 1 _ _ _ this]; rfl, by rw [cell_of_row _ _ 2 _ _ _ this]; rfl⟩
 have HB0 : Hid (Below w.heap.size w W0) := hb0
 clear hr0 hb0
 refine (new_any W0).mono ?_
 rintro e w1 ⟨rfl, hw1⟩
 have hb1 : Below W0.heap.size W0 w1 := by rw [hw1]; exact (Below.refl _ _).alloc (Nat.le_refl _) _
 have HP1 : Hid (Cd.PutR W0 w1 [] none) := ⟨⟨none, by rw [hw1]; exact new_wr W0, fun k o e => by cases e⟩, hb1⟩
 clear hw1 hb1
 have hcall := number_put W0 w1 [] none lk HP1.out (by simp)
 obtain ⟨c0, c1, c2⟩ := HC.out w1 HP1.out.below
 go_wp2_with fail
 refine hcall.mono ?_
 rintro e w2 ⟨rfl, hP2⟩
 rw [List.nil_append] at hP2
 clear hcall c0 c1 c2 HP1
 have hle1 := Cd.uB_len (Cd.u64 lk)
 have hle2 := Cd.uB_len (Cd.u64 (n : Int))
 have hle3 := Cd.uB_len (Cd.u64 (m : Int))
 obtain ⟨c0, c1, c2⟩ := HC.out w2 hP2.below
 have hcall := number_put W0 w2 _ none n hP2 (by omega)
 clear hP2
 go_wp2_with fail
 refine hcall.mono ?_
 rintro e w3 ⟨rfl, hP3⟩
 clear hcall c0 c1 c2
 obtain ⟨c0, c1, c2⟩ := HC.out w3 hP3.below
 obtain ⟨L0, hL0⟩ : ∃ L, uB (Cd.u64 lk) ++ uB (Cd.u64 (n : Int)) = L := ⟨_, rfl⟩
 have hlL : L0.length ≤ 18 := by rw [← hL0, List.length_append]; omega
 have HL0 : Hid (uB (Cd.u64 lk) ++ uB (Cd.u64 (n : Int)) = L0) := hL0
 rw [hL0] at hP3
 clear hL0 hle1 hle2
 have HP3 : Hid (Cd.PutR W0 w3 (L0 ++ laidIns (noS X) Z 0) none) := by show Cd.PutR _ _ _ _; simpa [laidIns] using hP3
 clear hP3
 go_wp2
 have hP3 := HP3.out
 clear HP3 c0 c1 c2
 go_loopw [7, 24] (fun _ iv wr => ∃ i : Nat, i ≤ n ∧ iv = .int .i64 i ∧ Cd.PutR W0 wr (L0 ++ laidIns (noS X) Z i) none) (fun _ iv _ => n + 1 - (intOf iv).toNat)
 case atStart => exact ⟨0, by omega, rfl, hP3⟩
 case round =>
  clear hP3
  obtain ⟨i, hi, rfl, hP⟩ := hrel
  have HP : Hid (Cd.PutR W0 wr (L0 ++ laidIns (noS X) Z i) none) := hP
  clear hP
  have hll : (L0 ++ laidIns (noS X) Z i).length ≤ 18 + 2000052 * 1000 := by
   have := laidIns_len (noS X) Z i (fun j _ => by simp [noS])
   rw [List.length_append]; omega
  by_cases hlt : i < n
  ·have hlt' : (i : Int) < n := by omega
   obtain ⟨b, off, rfl, hc⟩ := HH.out.1.1.at_ (by omega)
   have HR : Hid (wr.rangeAt b (off + i * 35) (til (X i) (S i).1 (S i).2)) := range_below (range_below (hc i hlt) HB0.out) HP.out.below
   have HZ : Hid (Hb (X i).pt ∧ SlAt W0 (S i).1 (X i).sn (Z i)) := ⟨HH.out.1.1.pt i hlt, (HH.out.2.1 i hlt).1.below HB0.out⟩
   have hsn := (HH.out.2.1 i hlt).2
   have HI : Hid (L0 ++ laidIns (noS X) Z (i + 1) = L0 ++ laidIns (noS X) Z i ++ hB (X i).pt ++ uB (Cd.u64 (X i).n) ++ uB (Cd.u64 (X i).br) ++ (escF (Z i) 0 ++ [0, 0])) := by show _ = _; simp only [laidIns, laidIn, noS, List.append_assoc]
   obtain ⟨L, hL⟩ : ∃ L, L0 ++ laidIns (noS X) Z i = L := ⟨_, rfl⟩
   rw [hL] at HP HI hll
   obtain ⟨x, hx⟩ : ∃ x, X i = x := ⟨_, rfl⟩
   rw [hx] at HR HZ HI hsn
   obtain ⟨⟨sa, sc⟩, hsc⟩ : ∃ s, S i = s := ⟨_, rfl⟩
   rw [hsc] at HR HZ
   clear hc hL hx hsc
   have hle1 := Cd.uB_len (Cd.u64 x.n)
   have hle2 := Cd.uB_len (Cd.u64 x.br)
   have hlh := hB_length x.pt
   go_wp2_with (first | (refine wpList_load_mid rfl 59 _ rfl b (off + i * 35) rfl (til x sa sc) _ HR.out Tryz.underlying59 rfl (szTil _ _ _) ?_) | (refine wpList_allocG 59 (tiv ti0 none 0) run_allocTi rfl rfl ?_) | (refine wpList_storeG 59 szTi rfl _ _ rfl wr.heap.size rfl (tiv x sa sc) (tiv ti0 none 0) (tiv_size _ _ _) (tiv_size _ _ _) (tiv_one _ _ _) 59 rfl (heap_alloc_new wr _) ?_; intro w4 hg4 hf4; have HP4 : Hid (Cd.PutR W0 w4 L (some (wr.heap.size, .cells (tiv x sa sc) 59 (0, 0)))) := HP.out.hold (kfrm_new hf4) hg4; have HR4 : Hid (w4.rangeAt wr.heap.size 0 (bl x.pt 32)) := til_pt hg4; clear hg4 hf4) | (refine wpList_load_mid rfl 43 _ rfl wr.heap.size 0 rfl (bl x.pt 32) _ HR4.out Tryz.underlying43 rfl (Cd.szHl _) ?_) | fail)
   refine (Cd.hash_put W0 w4 L _ x.pt HP4.out (by omega) HZ.out.1).mono ?_
   rintro e w5 ⟨rfl, hP5⟩
   have c32 := cell_list hP5.held (til_32 x sa sc)
   have HP5 : Hid _ := hP5
   clear hP5 HP4 HR4
   have hcall := number_put W0 w5 _ _ x.n HP5.out (by simp only [List.length_append]; omega)
   go_wp2_with fail
   refine hcall.mono ?_
   rintro e w6 ⟨rfl, hP6⟩
   have c33 := cell_list hP6.held (til_33 x sa sc)
   have HP6 : Hid _ := hP6
   clear hP6 HP5 hcall c32
   have hcall := number_put W0 w6 _ _ x.br HP6.out (by simp only [List.length_append]; omega)
   go_wp2_with fail
   refine hcall.mono ?_
   rintro e w7 ⟨rfl, hP7⟩
   have HP7 : Hid _ := hP7
   have HR7 : Hid (w7.rangeAt wr.heap.size 0 (til x sa sc)) := til_range hP7.held
   clear hP7 HP6 hcall c33
   have hcall := kid1_any x sa sc w7
   unfold tiv at hcall
   go_wp2_with (first | (refine wpList_load_mid rfl 59 _ rfl wr.heap.size 0 rfl (til x sa sc) _ HR7.out Tryz.underlying59 rfl (szTil _ _ _) ?_) | (go_at_fn 41; refine hcall.mono ?_; rintro e w8 ⟨rfl, hb8⟩) | fail)
   have HP8 : Hid _ := HP7.out.keep hb8
   clear hb8 hcall HP7 HR7
   refine (bytes_put W0 w8 _ _ none 0 0 (Z i) HP8.out (by simp only [List.length_append]; omega) (SlAt.zero _ _)).mono ?_
   rintro e w9 ⟨rfl, hP9⟩
   have HP9 : Hid (Cd.PutR W0 w9 (L0 ++ laidIns (noS X) Z (i + 1)) none) := by
    show Cd.PutR _ _ _ _
    rw [HI.out]
    exact hP9.drop
   clear hP9 HP8
   go_wp2
   go_roundw
   case rel => exact ⟨i + 1, by omega, by go_num, HP9.out⟩
   case measure => simp [intOf]; omega
  ·obtain rfl : i = n := by omega
   have hnn : ¬ ((i : Int) < i) := by omega
   obtain ⟨c0, c1, c2⟩ := HC.out wr HP.out.below
   have HLA : Hid (laidTx0 lk i (noS X) Z m = (L0 ++ laidIns (noS X) Z i) ++ uB (Cd.u64 (m : Int))) := by show _ = _; rw [← HL0.out]; simp only [laidTx0, List.append_assoc]
   have HLT : Hid (laidT lk i (noS X) Z m O = laidTx0 lk i (noS X) Z m ++ laidOuts O m) := rfl
   obtain ⟨LA, hLA⟩ : ∃ L, laidTx0 lk i (noS X) Z m = L := ⟨_, rfl⟩
   rw [hLA] at HLA HLT
   obtain ⟨LT, hLT⟩ : ∃ L, laidT lk i (noS X) Z m O = L := ⟨_, rfl⟩
   have HLE : Hid (laidT lk i (noS X) Z m O = LT) := hLT
   rw [hLT] at HLT
   have hlA : LA.length ≤ 27 + 2000052 * 1000 := by rw [HLA.out, List.length_append]; omega
   have hcall := number_put W0 wr _ none m HP.out (by omega)
   rw [← HLA.out] at hcall
   clear hLA hLT HLA HL0 hll hle3
   generalize wr = wo at *
   go_wp2_with fail
   refine hcall.mono ?_
   rintro e w4 ⟨rfl, hP4⟩
   clear hcall c0 c1 c2 HP
   obtain ⟨c0, c1, c2⟩ := HC.out w4 hP4.below
   obtain ⟨g, hg, -⟩ := hP4.at_
   have hcall := wrDoneO_any _ _ g LA w4 hg (by omega)
   have HB4 : Hid (Below W0.heap.size W0 w4) := hP4.below
   clear hP4 hg
   go_wp2_with fail
   refine hcall.mono ?_
   rintro e w5 ⟨v5, rfl, hO5⟩
   clear hcall c0 c1 c2
   have HO5 : Hid (Ow W0 w5 v5 (LA ++ laidOuts O 0)) := by show Ow _ _ _ _; simpa [laidOuts] using hO5.mono HB4.out
   clear hO5 HB4
   obtain ⟨c0, c1, c2⟩ := HC.out w5 HO5.out.below
   go_wp2
   have hO5 := HO5.out
   clear HO5 c0 c1 c2
   obtain ⟨a5, k5, c5, rfl⟩ := hO5.form3
   go_loopw [8, 10, 58] (fun bv _ iv wr => ∃ (q : Nat) (ad : Option Addr) (k c : Nat), q ≤ m ∧ iv = .int .i64 q ∧ bv = .slice ad k c ∧ Ow W0 wr (.slice ad k c) (LA ++ laidOuts O q)) (fun _ _ iv _ => m + 1 - (intOf iv).toNat)
   case atStart => exact ⟨0, a5, k5, c5, by omega, rfl, rfl, hO5⟩
   case round =>
    clear hO5
    obtain ⟨q, ad, k, c, hq, rfl, rfl, hO⟩ := hrel
    have HO : Hid (Ow W0 wr (.slice ad k c) (LA ++ laidOuts O q)) := hO
    clear hO
    have hll := laidOuts_len O q (fun j hj => HH.out.2.2 j (by omega))
    have hll2 : (LA ++ laidOuts O q).length ≤ 2000053000 + 9447284 * 1000 * 1000 := by rw [List.length_append]; omega
    by_cases hlt : q < m
    ·have hlt' : (q : Int) < m := by omega
     obtain ⟨b, off, rfl, hc⟩ := HH.out.1.2.at_ (by omega)
     obtain ⟨ca, cc, hr0, hbr, _⟩ := hc q hlt
     have HR : Hid (wr.rangeAt b (off + q * 2) (tol (O q) ca cc)) := range_below (range_below hr0 HB0.out) HO.out.below
     have HX : Hid (Cd.BrAt wr ca (O q).cn (O q).X) := (hbr.below HB0.out).below HO.out.below
     have HQ : Hid (LA ++ laidOuts O (q + 1) = LA ++ laidOuts O q ++ laidO (O q)) := by show _ = _; simp only [laidOuts, List.append_assoc]
     have hsm := HH.out.2.2 q hlt
     have hlo := laidO_len (O q) hsm
     obtain ⟨L, hL⟩ : ∃ L, LA ++ laidOuts O q = L := ⟨_, rfl⟩
     rw [hL] at HO HQ hll2
     obtain ⟨x, hx⟩ : ∃ x, O q = x := ⟨_, rfl⟩
     rw [hx] at HR HX HQ hsm hlo
     clear hc hr0 hbr hL hx hll
     have c0 : wr.cell? ⟨b, off + q * 2, none⟩ = some (.int .i64 x.am) := by simpa using HR.out 0 _ rfl
     have c1 : wr.cell? ⟨b, off + q * 2 + 1, none⟩ = some (.slice ca x.cn cc) := HR.out 1 _ rfl
     have HA : Hid (Below wr.heap.size wr (wr.alloc (.cells #[.int .i64 x.am, .slice ca x.cn cc] 79))) := (Below.refl _ _).alloc (Nat.le_refl _) _
     have hcall := layOut_any x ca cc (wr.alloc (.cells #[.int .i64 x.am, .slice ca x.cn cc] 79)) (HX.out.below HA.out) hsm.1 (fun j hj => by have := hsm.2 j hj; omega)
     unfold tov at hcall
     have HO1 := yhid (HO.out.keepB HA.out)
     clear HO
     go_wp2_with fail
     generalize wr.alloc (.cells #[.int .i64 x.am, .slice ca x.cn cc] 79) = w6 at *
     refine hcall.mono ?_
     rintro e w7 ⟨u, rfl, hU⟩
     have HO7 := yhid (And.intro (HO1.out.keepB hU.below) (And.intro (hU.src (Below.refl _ _)) hU.bd))
     clear hcall hU HO1
     go_wp2_with (at_builtin; refine wpList_append_B rfl _ _ rfl W0 _ _ L (laidO x) rfl rfl HO7.out.1 HO7.out.2.1 HO7.out.2.2 (by omega) ?_; intro v8 w8 hO8)
     have HO8 : Hid (Ow W0 w8 v8 (LA ++ laidOuts O (q + 1))) := by show Ow _ _ _ _; rw [HQ.out]; exact hO8
     obtain ⟨a8, k8, c8, rfl⟩ := HO8.out.form3
     go_roundw
     case rel => exact ⟨q + 1, a8, k8, c8, by omega, by go_num, rfl, HO8.out⟩
     case measure => simp [intOf]; omega
    ·obtain rfl : q = m := by omega
     have hnn : ¬ ((q : Int) < q) := by omega
     have HE : Hid (Ow w wr (.slice ad k c) LT) := by show Ow _ _ _ _; rw [HLT.out]; exact HO.out.mono HB0.out
     go_wp2
     go_ret
     exact ⟨_, rfl, by rw [HLE.out]; exact HE.out⟩
end Go.Proofs.YtanchjfodcjlmaaGreatDoor
/- tx.ID, tx.At. -/
namespace Go.Proofs.YtanchjfodcjlmaaGreatDoor
open Go.RowKit

/-- Bytes as numbers. -/
def nb (L : List Int) : List Nat := L.map Int.toNat
theorem nb_length (L : List Int) : (nb L).length = L.length := by simp [nb]
theorem nb_lt {L : List Int} (h : ∀ j, j < L.length → 0 ≤ fn L j ∧ fn L j ≤ 255) (i : Nat) : (nb L).getD i 0 < 256 := by
 by_cases hi : i < L.length
 ·have := h i hi
  rw [fn_get L i hi] at this
  simp only [nb, List.getD_eq_getElem?_getD, List.getElem?_map, List.getElem?_eq_getElem hi, Option.map_some, Option.getD_some]
  omega
 ·simp [nb, List.getD_eq_getElem?_getD, List.getElem?_eq_none (Nat.le_of_not_lt hi)]
theorem slB_of {w : World} {ad : Option Addr} {L : List Int} (h : SlAt w ad L.length (fn L)) : SlB w ad (nb L) := by
 intro hn
 rw [nb_length] at hn
 obtain ⟨b, off, e, hc⟩ := h.2 hn
 refine ⟨b, off, e, fun j v hv => ?_⟩
 simp only [sl8, nb, List.map_map, List.getElem?_map] at hv
 obtain ⟨x, hx, rfl⟩ := Option.map_eq_some_iff.1 hv
 obtain ⟨hj, rfl⟩ := List.getElem?_eq_some_iff.1 hx
 rw [hc j hj, fn_get L j hj]
 have := h.1 j hj
 rw [fn_get L j hj] at this
 simp only [Function.comp]
 congr 2
 omega
theorem Ow.sl {w0 w : World} {v : Value} {L : List Int} (h : Ow w0 w v L) : ∃ ad cap, v = .slice ad L.length cap ∧ L.length ≤ cap ∧ SlAt w ad L.length (fn L) := by
 have hbd : ∀ j, j < L.length → 0 ≤ fn L j ∧ fn L j ≤ 255 := fun j hj => by rw [fn_get L j hj]; exact h.bd _ (List.getElem_mem hj)
 have hown := h.own
 rcases h.own.2 with ⟨rfl, hl⟩ | ⟨g, cap, cur, rfl, hbs, hg, hcap, rest⟩
 ·exact ⟨none, 0, by rw [hl], by omega, hbd, fun hn => by omega⟩
 ·refine ⟨some ⟨g, 0, none⟩, cap, rfl, hcap, hbd, fun _ => ⟨g, 0, rfl, fun j hj => ?_⟩⟩
  have h1 := hown.cells (g := g) rfl j (.int .u8 (fn L j)) (by rw [fn_get L j hj, List.getElem?_map, List.getElem?_eq_getElem hj]; rfl)
  first | exact h1 | (rw [Addr.add_lit] at h1; exact h1) | simpa using h1
/-- A transaction's bytes for its ID; its ID. -/
def idB (lk : Int) (n : Nat) (X : Nat → Ti) (Z : Nat → Nat → Int) (m : Nat) (O : Nat → To) : List Int := laidT lk n (noS X) Z m O
theorem idB_len {lk : Int} {n : Nat} {X : Nat → Ti} {Z : Nat → Nat → Int} {m : Nat} {O : Nat → To} (hn : n ≤ 1000) (hm : m ≤ 1000) (hs : ∀ i, i < m → (O i).cn ≤ 1000 ∧ ∀ j, j < (O i).cn → ((O i).X j).n ≤ 1048576) : (idB lk n X Z m O).length ≤ 140737488355328 := by
 have h1 := Cd.uB_len (Cd.u64 lk)
 have h2 := Cd.uB_len (Cd.u64 (n : Int))
 have h3 := Cd.uB_len (Cd.u64 (m : Int))
 have h4 := laidIns_len (noS X) Z n (fun j _ => by simp [noS])
 have h5 := laidOuts_len O m hs
 simp only [idB, laidT, laidTx0, List.length_append]
 omega
set_option maxRecDepth 100000 in
set_option maxHeartbeats 3200000 in
theorem kid_any (lk : Int) (ia : Option Addr) (n ic : Nat) (oa : Option Addr) (m oc : Nat) (X : Nat → Ti) (S : Nat → Option Addr × Nat) (Z : Nat → Nat → Int) (O : Nat → To) (w : World) (h : TiAt w ia n X S) (ho : ToAt w oa m O)
  (hz : ∀ i, i < n → SlAt w (S i).1 (X i).sn (Z i) ∧ (X i).sn ≤ 1000000) (hs : ∀ i, i < m → (O i).cn ≤ 1000 ∧ ∀ j, j < (O i).cn → ((O i).X j).n ≤ 1048576) (hn : n ≤ 1000) (hm : m ≤ 1000) (hT : Tab w) (hgl : 4 ≤ w.heap.size) :
  Calls Tryz.prog 22 #[.agg (txv lk ia n ic oa m oc)] w fun e w' => e = .returned (.agg (sv (sumF (nb (idB lk n X Z m O))))) ∧ Below w.heap.size w w' := by
 have hb0 : Below w.heap.size w ((w.alloc (.cells #[.int .i64 lk, .slice ia n ic, .slice oa m oc] 35)).alloc (.cells (sv z32) 43)) := ((Below.refl _ w).alloc (Nat.le_refl _) _).alloc (by simp) _
 have hr0 : ((w.alloc (.cells #[.int .i64 lk, .slice ia n ic, .slice oa m oc] 35)).alloc (.cells (sv z32) 43)).heap[w.heap.size]? = some (.cells #[.int .i64 lk, .slice ia n ic, .slice oa m oc] 35 (0, 0)) := by rw [Below.heap_alloc _ _ _ (by simp)]; exact heap_alloc_new w _
 have hz0 : ((w.alloc (.cells #[.int .i64 lk, .slice ia n ic, .slice oa m oc] 35)).alloc (.cells (sv z32) 43)).heap[w.heap.size + 1]? = some (.cells (sv z32) 43 (0, 0)) := by
  have := heap_alloc_new (w.alloc (.cells #[.int .i64 lk, .slice ia n ic, .slice oa m oc] 35)) (.cells (sv z32) 43)
  simpa using this
 have hc := klayI_any lk ia n ic oa m oc X S Z O _ (h.below hb0) (ho.below hb0) (fun i hi => ⟨(hz i hi).1.below hb0, (hz i hi).2⟩) hs hn hm
 have HL := idB_len (lk := lk) (X := X) (Z := Z) hn hm hs
 obtain ⟨L, hL⟩ : ∃ L, idB lk n X Z m O = L := ⟨_, rfl⟩
 have hRl : (sumF (nb L)).length = 32 := endL_len _
 have HT : Hid (Tab w) := hT
 have HR : Hid (((w.alloc (.cells #[.int .i64 lk, .slice ia n ic, .slice oa m oc] 35)).alloc (.cells (sv z32) 43)).rangeAt w.heap.size 0 (txl lk ia n ic oa m oc)) := txl_range hr0
 rw [show laidT lk n (noS X) Z m O = L from hL] at hc
 rw [hL] at HL ⊢
 clear h ho hz hs hT hL hr0
 unfold txv at hc ⊢
 go_enter Tryz.func22, Tryz.ntmps22
 go_wp2_with (first | (refine wpList_allocHs rfl rfl ?_) | (refine wpList_load_mid rfl 35 _ rfl w.heap.size 0 rfl (txl lk ia n ic oa m oc) _ HR.out Tryz.underlying35 rfl szTx ?_) | fail)
 generalize (w.alloc (.cells #[.int .i64 lk, .slice ia n ic, .slice oa m oc] 35)).alloc (.cells (sv z32) 43) = W0 at *
 refine hc.mono ?_
 rintro e w1 ⟨v, rfl, hO⟩
 obtain ⟨ad, cap, rfl, hcap, hsl⟩ := hO.sl
 have hb1 := hO.below
 have hbw : Below w.heap.size w w1 := hb0.trans (hb1.mono hb0.size)
 have hcall := sum_any ad cap (nb L) w1 (HT.out.frm (S := []) (Frm.ofBelow hbw) (fun k hk => by cases hk)) (by have := hbw.size; omega) (slB_of hsl) (nb_lt hsl.1) (by rw [nb_length]; exact hcap) (by rw [nb_length]; omega)
 rw [nb_length] at hcall
 have hz1 : w1.heap[w.heap.size + 1]? = some (.cells (sv z32) 43 (0, 0)) := by rw [hb1.block _ (lt_of_block hz0)]; exact hz0
 obtain ⟨R, hR⟩ : ∃ R, R = sumF (nb L) := ⟨_, rfl⟩
 have HRR : Hid (R = sumF (nb L)) := hR
 rw [← hR] at hcall hRl
 clear hc hb0 hb1 hz0 hsl hcap hR hO
 go_wp2_with fail
 refine hcall.mono ?_
 rintro e w2 ⟨rfl, hb2⟩
 have hz2 : w2.heap[w.heap.size + 1]? = some (.cells (sv z32) 43 (0, 0)) := by rw [hb2.block _ (lt_of_block hz1)]; exact hz1
 have hb2' : Below w.heap.size w w2 := hbw.trans (hb2.mono hbw.size)
 clear hcall hz1 hb2 hbw
 go_wp2_with (first | (refine wpList_storeRow 43 hsz rfl _ _ rfl (w.heap.size + 1) rfl (sv R) (sv z32) (by rw [sv_size, hRl]) (by simp [sv_size, z32]) (sv_one _) 43 rfl hz2 ?_; intro w3 hg3 hf3) | fail)
 refine bodyPost_ret (results_cell_row Tryz.results22 _ w3 (w.heap.size + 1) 43 (sv R) (0, 0) _ rfl hg3 Tryz.underlying43 rfl (by rw [sv_size, hRl]; exact hsz)) rfl ⟨by rw [HRR.out], hb2'.trans (hf3.below (by have := hb2'.size; omega) (by simp))⟩
/-- A sum's bytes as ints. -/
def sZ (R : List Nat) : Nat → Int := fun j => (R.getD j 0 : Nat)
theorem sv_sZ {R : List Nat} (h : R.length = 32) : sv R = hv (sZ R) := by
 unfold sv sl8 hv bl sZ
 congr 1
 apply List.ext_getElem?
 intro j
 by_cases hj : j < 32
 ·simp [List.getElem?_map, List.getElem?_range hj, List.getElem?_eq_getElem (show j < R.length by omega), List.getD_eq_getElem?_getD]
 ·rw [List.getElem?_eq_none (by simp; omega), List.getElem?_eq_none (by simp; omega)]
theorem sZ_bd (b : List Nat) : ∀ j, j < 32 → 0 ≤ sZ (sumF b) j ∧ sZ (sumF b) j ≤ 255 := fun j _ => by have h2 : (sumF b).getD j 0 < 256 := endL_lt _ j; unfold sZ; omega
theorem guardHs2 : Tryz.prog.eqGuardType Tryz.prog.depth 43 = false := by kernel_rfl
theorem exec_eqS {a : Act} {o : Oper} (x y : Operand) (ho : o.op = .binOp .eql 43 x y 43) (b : List Nat) (hx : a.eval x = .agg (sv (sumF b))) (hy : a.eval y = .agg (sv (sumF b))) (w : World) :
  (execOp a.eval o).run Tryz.prog w = .ok (.value (.bool true)) w := by
 have hl : (sumF b).length = 32 := endL_len _
 have e1 := eql_hv (sZ_bd b) (sZ_bd b) w
 rw [hq_same] at e1
 rw [sv_sZ hl] at hx hy
 unfold execOp
 simp only [ho, hx, hy, Sem.run_bind, run_eqGuard_agg w .eql 43 x y _ _ guardHs2, e1, Result.andThen_ok, Sem.run_pure]
def ptv (z : Nat → Int) (n : Int) : Array Value := (ptl z n).toArray
theorem ptv_size (z : Nat → Int) (n : Int) : (ptv z n).size = 33 := by simp [ptv, ptl_length]
theorem ptl_one' (z : Nat → Int) (n : Int) : ∀ u ∈ ptl z n, u.oneCell' = true := by
 intro u hu
 simp only [ptl, List.mem_append] at hu
 rcases hu with hu | hu
 ·exact bl_one _ _ _ hu
 ·simp at hu
  rcases hu with rfl
  rfl
theorem ptl_range {w : World} {g : Nat} {z : Nat → Int} {n : Int} {t : TypeId} {fr : Nat × Nat} (h : w.heap[g]? = some (.cells (ptv z n) t fr)) : w.rangeAt g 0 (ptl z n) := fun j v hv => by
 rw [Nat.zero_add, cell_of_row _ _ j _ _ _ h]
 simpa [ptv] using hv
theorem build_Pt (z : Nat → Int) (n : Int) (w : World) : (Instr.build 47 #[(0, .agg (hv z)), (1, .int .i64 n)]).run Tryz.prog w = .ok (.agg (ptv z n)) w := by kernel_rfl
section
variable {ops : Array Oper} {rest : List Oper} {o : Oper} {a : Act} {w : World} {Q : Exit → Act → World → Prop}
theorem wpList_buildPt (hgd : o.guard = none) (x y : Operand) (ho : o.op = .build 47 #[(0, x), (1, y)]) (z : Nat → Int) (n : Int) (hx : a.eval x = .agg (hv z)) (hy : a.eval y = .int .i64 n)
  (h : wpList Tryz.prog ops Q rest (a.put o.dst (.agg (ptv z n))) w) : wpList Tryz.prog ops Q (o :: rest) a w := by
 refine wpList_plain hgd fun K hK => ?_
 unfold Oper.wp execOp
 simp only [ho, List.map_toArray, List.map_cons, List.map_nil, hx, hy, Sem.run_bind, build_Pt, Result.andThen]
 exact hK _ _ h
end
theorem run_allocPt (w : World) : (Instr.alloc 47 true (.tuple #[])).run Tryz.prog w = .ok (.pointer (some ⟨w.heap.size, 0, none⟩)) (w.alloc (.cells (ptv (fun _ => 0) 0) 47)) := by kernel_rfl
set_option maxRecDepth 100000 in
set_option maxHeartbeats 3200000 in
theorem kat_any (lk : Int) (ia : Option Addr) (n ic : Nat) (oa : Option Addr) (m oc : Nat) (X : Nat → Ti) (S : Nat → Option Addr × Nat) (Z : Nat → Nat → Int) (O : Nat → To) (k : Int) (w : World) (h : TiAt w ia n X S) (ho : ToAt w oa m O)
  (hz : ∀ i, i < n → SlAt w (S i).1 (X i).sn (Z i) ∧ (X i).sn ≤ 1000000) (hs : ∀ i, i < m → (O i).cn ≤ 1000 ∧ ∀ j, j < (O i).cn → ((O i).X j).n ≤ 1048576) (hn : n ≤ 1000) (hm : m ≤ 1000) (hT : Tab w) (hgl : 4 ≤ w.heap.size) :
  Calls Tryz.prog 20 #[.agg (txv lk ia n ic oa m oc), .int .i64 k] w fun e w' => e = .returned (.agg (ptv (sZ (sumF (nb (idB lk n X Z m O)))) k)) ∧ Below w.heap.size w w' := by
 have hb0 : Below w.heap.size w (w.alloc (.cells #[.int .i64 lk, .slice ia n ic, .slice oa m oc] 35)) := (Below.refl _ w).alloc (Nat.le_refl _) _
 have hr0 := heap_alloc_new w (.cells #[.int .i64 lk, .slice ia n ic, .slice oa m oc] 35)
 have hc : ∀ w', Below w.heap.size w w' → _ := fun w' hb => kid_any lk ia n ic oa m oc X S Z O w' (h.below hb) (ho.below hb) (fun i hi => ⟨(hz i hi).1.below hb, (hz i hi).2⟩) hs hn hm (hT.frm (S := []) (Frm.ofBelow hb) (fun k hk => by cases hk)) (by have := hb.size; omega)
 obtain ⟨R, hR⟩ : ∃ R, sumF (nb (idB lk n X Z m O)) = R := ⟨_, rfl⟩
 have hRl : R.length = 32 := by rw [← hR]; exact endL_len _
 rw [hR] at hc ⊢
 rw [sv_sZ hRl] at hc
 have HC := hidV hc
 have HB0 := hidV hb0
 have HR0 : Hid (((w.alloc (.cells #[.int .i64 lk, .slice ia n ic, .slice oa m oc] 35))).rangeAt w.heap.size 0 (txl lk ia n ic oa m oc)) := txl_range hr0
 clear h ho hz hs hT hr0 hR hc hb0
 unfold txv at HC ⊢
 go_enter Tryz.func20, Tryz.ntmps20
 go_wp2_with (first | (refine wpList_allocN 47 (ptv (fun _ => 0) 0) run_allocPt rfl rfl ?_; intro v1 N1; have HR := hidV (range_below HR0.out N1.below); have HB := hidV (HB0.out.trans (N1.below.mono HB0.out.size)); have HK := hidV N1.blk; clear N1) | (refine wpList_load_mid rfl 35 _ rfl w.heap.size 0 rfl (txl lk ia n ic oa m oc) _ HR.out Tryz.underlying35 rfl szTx ?_) | fail)
 refine (HC.out v1 HB.out).mono ?_
 rintro e w1 ⟨rfl, hb1⟩
 have hbw : Below w.heap.size w w1 := HB.out.trans (hb1.mono HB.out.size)
 have hz1 : w1.heap[w.heap.size + 1]? = some (.cells (ptv (fun _ => 0) 0) 47 (0, 0)) := by
  have h2 : v1.heap[w.heap.size + 1]? = some (.cells (ptv (fun _ => 0) 0) 47 (0, 0)) := by simpa using HK.out
  rw [hb1.block _ (lt_of_block h2)]; exact h2
 clear HC hb1 HR HR0 HB HB0 HK
 go_wp2_with (first | (refine wpList_buildPt rfl _ _ rfl (sZ R) k rfl rfl ?_) | (refine wpList_storeRow 47 szPt rfl _ _ rfl (w.heap.size + 1) rfl (ptv (sZ R) k) (ptv (fun _ => 0) 0) (ptv_size _ _) (ptv_size _ _) (all_oneCell_toArray (ptl_one' _ _)) 47 rfl hz1 ?_; intro w3 hg3 hf3) | fail)
 refine bodyPost_ret (results_cell_row Tryz.results20 _ w3 (w.heap.size + 1) 47 (ptv (sZ R) k) (0, 0) _ rfl hg3 Tryz.underlying47 rfl (by rw [ptv_size]; exact szPt)) rfl ⟨rfl, hbw.trans (hf3.below (by have := hbw.size; omega) (by simp))⟩
end Go.Proofs.YtanchjfodcjlmaaGreatDoor
/- A region that draws its order and whose last operation (c, which waits for all others) writes a cell that the others load: S need not hold behind it. -/
namespace Go.Proofs.YtanchjfodcjlmaaGreatDoor
open Go

section
variable {P : Program} {ops : Array Oper} {md : Region.Mode} {Q : Exit → Act → World → Prop} {S : World → Prop} {c : Nat}

/-- Whatever order is picked from here on; S holds behind every operation but c. -/
def wpAnyK (P : Program) (md : Region.Mode) (ops : Array Oper) (Q : Exit → Act → World → Prop) (S : World → Prop) (c : Nat) : Nat → Array Bool → Act → World → Prop
 | 0, l, a, w => Region.ready md ops l = [] ∧ Q .normal a w
 | n + 1, l, a, w => (Region.ready md ops l = [] → Q .normal a w) ∧
  ∀ i ∈ Region.ready md ops l, wpOp P ops Q i (fun a' w' => (i ≠ c → S w') ∧ wpAnyK P md ops Q S c n (l.setIfInBounds i true) a' w') a w

theorem wpAny_of_K : ∀ (n : Nat) (l : Array Bool) (a : Act) (w : World), wpAnyK P md ops Q S c n l a w → wpAny P md ops Q n l a w
 | 0, _, _, _, h => h
 | n + 1, _, _, _, h => ⟨h.1, fun i hi => wpOp_mono (fun a' w' h' => wpAny_of_K n _ a' w' h'.2) (h.2 i hi)⟩

/-- c waits for i. -/
def waitsK (md : Region.Mode) (ops : Array Oper) (c i : Nat) : Bool := match ops[c]? with
 | some oc => oc.after.any fun e => Region.binds md e && e.on == i
 | none => false

theorem wpAnyK_first {i : Nat} {oi : Oper} {v : Value} (hce : waitsK md ops c i = true) (hi : ops[i]? = some oi) (hsel : ∀ (j : Nat) (o : Oper) cs b, ops[j]? = some o → o.op ≠ .select cs b)
  (hQ : ∀ ch a w, Q (.panic ch) (a.put oi.dst v) w → Q (.panic ch) a w) :
  ∀ (n : Nat) (l : Array Bool) (a : Act) (w : World),
   (∀ j oj, ops[j]? = some oj → j ≠ i → l.getD j true = false → (∀ e ∈ oj.after, Region.binds md e = true → e.on ≠ i) → oi.apart ops oj = true) →
   i ∈ Region.ready md ops l → YieldsIf P ops S oi v a → S w →
   wpAnyK P md ops Q S c n (l.setIfInBounds i true) (a.put oi.dst v) w → wpAnyK P md ops Q S c (n + 1) l a w := by
 intro n
 induction n with
 | zero =>
  intro l a w _ hr hy hS H
  refine ⟨fun h => (by rw [h] at hr; cases hr), fun j hj => ?_⟩
  by_cases hji : j = i
  ·subst hji; exact hy.wpOp hi hS ⟨fun _ => hS, H⟩
  ·have := ready_mono hj hji
   rw [H.1] at this
   cases this
 | succ n ih =>
  intro l a w hfree hr hy hS H
  refine ⟨fun h => (by rw [h] at hr; cases hr), fun j hj => ?_⟩
  by_cases hji : j = i
  ·subst hji; exact hy.wpOp hi hS ⟨fun _ => hS, H⟩
  ·have h1 := H.2 j (ready_mono hj hji)
   obtain ⟨hjun, oj, hoj, hall⟩ := mem_ready.1 hj
   have hnot : ∀ e ∈ oj.after, Region.binds md e = true → e.on ≠ i := fun e he hb heq => by
    have h1 := hall e he hb
    have h0 := (mem_ready.1 hr).1
    rw [heq] at h1
    rcases Nat.lt_or_ge i l.size with h' | h'
    ·simp [h'] at h0 h1; rw [h0] at h1; cases h1
    ·simp [Array.getElem?_eq_none h'] at h1
   have hjc : j ≠ c := fun e => by
    subst e
    unfold waitsK at hce
    rw [hoj] at hce
    obtain ⟨e, he, hh⟩ := Array.any_eq_true'.1 hce
    simp only [Bool.and_eq_true, beq_iff_eq] at hh
    exact hnot e he hh.1 hh.2
   have h2 := wpOp_putIf hoj (hfree j oj hoj hji hjun hnot) (fun cs b => hsel i oi cs b hi) (fun cs b => hsel j oj cs b hoj) hQ hy h1
   have hfree' : ∀ k ok, ops[k]? = some ok → k ≠ i → (l.setIfInBounds j true).getD k true = false →
     (∀ e ∈ ok.after, Region.binds md e = true → e.on ≠ i) → oi.apart ops ok = true := fun k ok hk hki hun hno => by
    refine hfree k ok hk hki ?_ hno
    by_cases hjk : j = k
    ·subst hjk; exact hjun
    ·rw [getD_set_ne true hjk] at hun; exact hun
   refine wpOp_mono (fun a' w' h3 => ⟨h3.2.1, ih (l.setIfInBounds j true) a' w' hfree' (ready_mono hr (Ne.symm hji)) h3.1 (h3.2.1 hjc) ?_⟩) h2
   rw [Array.setIfInBounds_comm _ _ hji]
   exact h3.2.2

theorem wpAnyK_take {i : Nat} {oi : Oper} {v : Value} {n : Nat} {l : Array Bool} {a : Act} {w : World} (hce : waitsK md ops c i = true) (hi : ops[i]? = some oi)
  (hs : Region.noSelect ops = true) (hf : Region.free md ops l i = true) (hr : (Region.ready md ops l).contains i = true)
  (hQ : ∀ ch a w, Q (.panic ch) (a.put oi.dst v) w → Q (.panic ch) a w) (hy : YieldsIf P ops S oi v a) (hS : S w)
  (h : wpAnyK P md ops Q S c n (l.setIfInBounds i true) (a.put oi.dst v) w) : wpAnyK P md ops Q S c (n + 1) l a w :=
 wpAnyK_first hce hi (Region.noSelect_spec hs) hQ n l a w (Region.free_spec hi hf) (by simpa using hr) hy hS h

def AllReadyK (P : Program) (md : Region.Mode) (ops : Array Oper) (Q : Exit → Act → World → Prop) (S : World → Prop) (c n : Nat) (l : Array Bool) (a : Act) (w : World) (rs : List Nat) : Prop :=
 ∀ i ∈ rs, wpOp P ops Q i (fun a' w' => (i ≠ c → S w') ∧ wpAnyK P md ops Q S c n (l.setIfInBounds i true) a' w') a w
theorem AllReadyK.nil {n : Nat} {l : Array Bool} {a : Act} {w : World} : AllReadyK P md ops Q S c n l a w [] := fun _ h => by cases h
theorem AllReadyK.cons {n : Nat} {l : Array Bool} {a : Act} {w : World} {i : Nat} {o : Oper} {rs : List Nat} (ho : ops[i]? = some o)
  (h : ∀ K' : Act → World → Prop, Shut (∀ a w, (i ≠ c → S w) → ((i ≠ c → S w) → wpAnyK P md ops Q S c n (l.setIfInBounds i true) a w) → K' a w) → if Region.wanted o (yielded ops a.tmps) = true then Oper.wp P o a w K' Q else K' (a.put o.dst undef) w)
  (hs : AllReadyK P md ops Q S c n l a w rs) : AllReadyK P md ops Q S c n l a w (i :: rs) := fun j hj => by
 rcases List.mem_cons.1 hj with rfl | hj
 ·exact wpOp_step ho (fun K' hK => h K' (fun a w hS hW => hK a w ⟨hS, hW hS⟩))
 ·exact hs j hj
theorem wpAnyK_ready {rs : List Nat} {n : Nat} {l : Array Bool} {a : Act} {w : World} (hr : Region.ready md ops l = rs) (hne : rs ≠ [])
  (h : AllReadyK P md ops Q S c n l a w rs) : wpAnyK P md ops Q S c (n + 1) l a w := ⟨fun h0 => absurd (hr ▸ h0) hne, hr ▸ h⟩
theorem wpAnyK_done {l : Array Bool} {a : Act} {w : World} (hr : Region.ready md ops l = []) (h : Q .normal a w) : ∀ n, wpAnyK P md ops Q S c n l a w
 | 0 => ⟨hr, h⟩
 | _ + 1 => ⟨fun _ => h, by rw [hr]; simp⟩
theorem wp_region_K {id : Nat} {a : Act} {w : World} (c : Nat) (hm : P.follows .mixedOrders = true) (hS : S w.drew)
  (h : S w.drew → wpAnyK P .any ops Q S c ops.size (Array.replicate ops.size false) a w.drew) : (Code.region id ops true).wp P Q a w :=
 wp_region_any hm (wpAny_of_K _ _ _ _ (h hS))
end
end Go.Proofs.YtanchjfodcjlmaaGreatDoor
/- The document's Total of layer 5. -/
namespace Go.Proofs.YtanchjfodcjlmaaGreatDoor
open Go.RowKit

end Go.Proofs.YtanchjfodcjlmaaGreatDoor
/- Points held against each other, on the document's side. -/
namespace Go.Proofs.YtanchjfodcjlmaaGreatDoor
open Go.RowKit

theorem rktS : Tryz.prog.keyTypeAt 3 45 = true := by kernel_rfl
theorem rcellsS : Tryz.prog.cellsOf 45 = 33 := by kernel_rfl
theorem formedPt (n : Int) (z : Nat → Int) : (Value.agg (Kp.kv n z)).formed Tryz.prog 45 = true := by
 simp only [Value.formed, Tryz.underlying45, rcellsS]
 simp [Kp.kv, bl_length]
theorem rlits_sig (d : Nat) {n : Int} {z : Nat → Int} (hn : Kp.Ib n) (h : Hb z) : Tryz.prog.keyLits (d + 3) 45 (Kp.kv n z).toList = some (((List.range 32).map fun j => Lit.int .u8 (z j)) ++ [Lit.int .i64 n]) := by
 have hl : (Kp.kv n z).toList = bl z 32 ++ [.int .i64 n] := by simp [Kp.kv]
 rw [hl]
 unfold Program.keyLits
 rw [Tryz.underlying45]
 simp only [List.length_append, List.length_cons, List.length_nil, bl_length, rcellsS]
 have e1 : List.take 32 (bl z 32 ++ [Value.int .i64 n]) = bl z 32 := by rw [← bl_length z 32]; exact List.take_left
 have e2 : List.drop 32 (bl z 32 ++ [Value.int .i64 n]) = [.int .i64 n] := by rw [← bl_length z 32]; exact List.drop_left
 simp [Kp.cellsI, Kp.cellsH, e1, e2, Kp.lits_int (d + 1) hn, Kp.lits_hash d h]
theorem lits_iff {n m : Int} {z y : Nat → Int} (hn : Kp.Ib n) (hz : Hb z) (hm : Kp.Ib m) (hy : Hb y) : ((((List.range 32).map fun j => Lit.int .u8 (z j)) ++ [Lit.int .i64 n]) = (((List.range 32).map fun j => Lit.int .u8 (y j)) ++ [Lit.int .i64 m])) ↔ (n, ub z) = (m, ub y) := by
 constructor
 ·intro h
  have h1 : Kp.kl n z = Kp.kl m y := by unfold Kp.kl; rw [h]
  obtain ⟨e1, e2⟩ := Kp.kl_inj hn hz hm hy h1
  rw [e1, e2]
 ·intro h
  simp only [Prod.mk.injEq] at h
  obtain ⟨rfl, h⟩ := h
  have h1 : hv z = hv y := by rw [hv_ub hz, hv_ub hy, h]
  have h2 : bl z 32 = bl y 32 := by rw [← hv_list, ← hv_list, h1]
  have h3 : ∀ j, j < 32 → z j = y j := fun j hj => by
   have e1 : (bl z 32)[j]? = (bl y 32)[j]? := by rw [h2]
   rw [bl_at hj, bl_at hj] at e1
   simpa using e1
  have h4 : ((List.range 32).map fun j => Lit.int .u8 (z j)) = ((List.range 32).map fun j => Lit.int .u8 (y j)) := List.map_congr_left (fun j hj => by rw [h3 j (List.mem_range.1 hj)])
  rw [h4]
set_option maxRecDepth 20000 in
theorem eqPt {n m : Int} {z y : Nat → Int} (hn : Kp.Ib n) (hz : Hb z) (hm : Kp.Ib m) (hy : Hb y) (w : World) : (binOp .eql 45 (.agg (Kp.kv n z)) (.agg (Kp.kv m y))).run Tryz.prog w = .ok (.bool (decide ((n, ub z) = (m, ub y)))) w := by
 obtain ⟨r, h1, h2⟩ := run_equalIn_deep (P := Tryz.prog) 9997 3 45 rktS w 3 3 (.agg (Kp.kv n z)) (.agg (Kp.kv m y)) _ _ (formedPt n z) (formedPt m y) (by simpa [Value.cells] using rlits_sig 0 hn hz) (by simpa [Value.cells] using rlits_sig 0 hm hy)
 rw [run_eql_struct, show (10000 : Nat) = 9997 + 3 from rfl, h1]
 have e : r = decide ((n, ub z) = (m, ub y)) := by
  rw [lits_iff hn hz hm hy] at h2
  cases r
  ·have : ¬ ((n, ub z) = (m, ub y)) := fun h => by have := h2.2 h; cases this
   simp [this]
  ·simp [h2.1 rfl]
 rw [← e]
 rfl
theorem guardPtR : Tryz.prog.eqGuardType Tryz.prog.depth 45 = false := by kernel_rfl
theorem exec_eqPt {a : Act} {o : Oper} (x y : Operand) (ho : o.op = .binOp .eql 45 x y 45) {n m : Int} {u v : Nat → Int} (hn : Kp.Ib n) (hz : Hb u) (hm : Kp.Ib m) (hy : Hb v) (r : Bool) (hr : decide ((n, ub u) = (m, ub v)) = r) (hx : a.eval x = .agg (ptl u n).toArray) (hy2 : a.eval y = .agg (ptl v m).toArray) (w : World) :
  (execOp a.eval o).run Tryz.prog w = .ok (.value (.bool r)) w := by
 have e1 : (binOp .eql 45 (.agg (ptl u n).toArray) (.agg (ptl v m).toArray)).run Tryz.prog w = .ok (.bool (decide ((n, ub u) = (m, ub v)))) w := eqPt hn hz hm hy w
 unfold execOp
 simp only [ho, hx, hy2, Sem.run_bind, run_eqGuard_agg w .eql 45 x y _ _ guardPtR, e1, hr, Result.andThen_ok, Sem.run_pure]
end Go.Proofs.YtanchjfodcjlmaaGreatDoor
/- The document's Check of layer 5. -/
namespace Go.Proofs.YtanchjfodcjlmaaGreatDoor
open Go.RowKit

theorem run_allocTiR (w : World) : (Instr.alloc 65 true (.tuple #[])).run Tryz.prog w = .ok (.pointer (some ⟨w.heap.size, 0, none⟩)) (w.alloc (.cells (tiv ti0 none 0) 65)) := by kernel_rfl
theorem szTiR : (Tryz.prog.info? 65).map (·.size) = some 35 := by kernel_rfl
theorem szTilR (x : Ti) (sa : Option Addr) (sc : Nat) : (Tryz.prog.info? 65).map (·.size) = some (til x sa sc).length := by rw [til_length]; exact szTiR
theorem szPtlR (z : Nat → Int) (n : Int) : (Tryz.prog.info? 45).map (·.size) = some (ptl z n).length := by rw [ptl_length]; kernel_rfl
end Go.Proofs.YtanchjfodcjlmaaGreatDoor
