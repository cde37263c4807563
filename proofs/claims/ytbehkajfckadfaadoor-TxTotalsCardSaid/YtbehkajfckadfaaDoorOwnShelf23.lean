/- tx.lay with nothing shown for secrets. -/
import Derived.Test.YtbehkajfckadfaaDoorOwnShelf22
import Derived.Test.YtbehkajfckadfaaDoorOwnShelf10
import Derived.Test.YtbehkajfckadfaaDoorOwnShelf01
import Derived.Test.YtbehkajfckadfaaDoorOwnShelf21
import Derived.Deep.AppendSrc
import Derived.Maps.AppendAt
import Derived.Deep.AppendLies
import Derived.Shelf.Slices.In.SortNone
namespace Go.Proofs.YtbehkajfckadfaaDoor
open Go.RowKit

/-- Inputs without their secrets. -/
def noS (X : Nat → Ti) : Nat → Ti := fun i => { X i with sn := 0 }
set_option maxRecDepth 100000 in
set_option maxHeartbeats 1600000 in
theorem kid1_any (x : Ti) (sa : Option Addr) (sc : Nat) (w : World) :
    Calls Tryd.prog 24 #[.agg (tiv x sa sc)] w fun e w' => e = .returned (.slice none 0 0) ∧ Below w.heap.size w w' := by
  have HB : Hid (Below w.heap.size w (w.alloc (.cells (tiv x sa sc) 56))) := (Below.refl _ w).alloc (Nat.le_refl _) _
  go_enter Tryd.func24, Tryd.ntmps24
  go_wp2
  go_ret
  exact ⟨rfl, HB.out⟩
set_option maxRecDepth 100000 in
set_option maxHeartbeats 6400000 in
theorem klayI_any (lk : Int) (ia : Option Addr) (n ic : Nat) (oa : Option Addr) (m oc : Nat) (X : Nat → Ti) (S : Nat → Option Addr × Nat) (Z : Nat → Nat → Int) (O : Nat → To) (w : World) (h : TiAt w ia n X S) (ho : ToAt w oa m O)
    (hz : ∀ i, i < n → SlAt w (S i).1 (X i).sn (Z i) ∧ (X i).sn ≤ 1000000) (hs : ∀ i, i < m → (O i).cn ≤ 1000 ∧ ∀ j, j < (O i).cn → ((O i).X j).n ≤ 1000) (hn : n ≤ 1000) (hm : m ≤ 1000) :
    Calls Tryd.prog 23 #[.agg (txv lk ia n ic oa m oc), .func (.func 24) #[] #[]] w fun e w' => ∃ v, e = .returned v ∧ Ow w w' v (laidT lk n (noS X) Z m O) := by
  have hb0 : Below w.heap.size w (w.alloc (.cells #[.int .i64 lk, .slice ia n ic, .slice oa m oc] 27)) := (Below.refl _ w).alloc (Nat.le_refl _) _
  have hr0 := heap_alloc_new w (.cells #[.int .i64 lk, .slice ia n ic, .slice oa m oc] 27)
  have HH : Hid ((TiAt w ia n X S ∧ ToAt w oa m O) ∧ (∀ i, i < n → SlAt w (S i).1 (X i).sn (Z i) ∧ (X i).sn ≤ 1000000) ∧ (∀ i, i < m → (O i).cn ≤ 1000 ∧ ∀ j, j < (O i).cn → ((O i).X j).n ≤ 1000)) := ⟨⟨h, ho⟩, hz, hs⟩
  have eg : ∀ args w, (callFunc 24 args).run Tryd.prog w = .ok (.enter 24 args) w := enters_of Tryd.func24 (by kernel_rfl) rfl
  clear h ho hz hs
  unfold txv
  go_enter Tryd.func23, Tryd.ntmps23
  go_wp2_with fail
  generalize w.alloc (.cells #[.int .i64 lk, .slice ia n ic, .slice oa m oc] 27) = W0 at *
  have HC : Hid (∀ w', Below W0.heap.size W0 w' → w'.cell? ⟨w.heap.size, 0, none⟩ = some (.int .i64 lk) ∧ w'.cell? ⟨w.heap.size, 1, none⟩ = some (.slice ia n ic) ∧ w'.cell? ⟨w.heap.size, 2, none⟩ = some (.slice oa m oc)) := fun w' hb => by
    have := hb.block _ (lt_of_block hr0)
    rw [hr0] at this
    exact ⟨by rw [cell_of_row _ _ 0 _ _ _ this]; rfl, by rw [cell_of_row _ _ 1 _ _ _ this]; rfl, by rw [cell_of_row _ _ 2 _ _ _ this]; rfl⟩
  have HB0 : Hid (Below w.heap.size w W0) := hb0
  clear hr0 hb0
  refine (new_any W0).mono ?_
  rintro e w1 ⟨rfl, hw1⟩
  have hb1 : Below W0.heap.size W0 w1 := by rw [hw1]; exact (Below.refl _ _).alloc (Nat.le_refl _) _
  have HP1 : Hid (Cd.PutR W0 w1 [] none) := ⟨⟨none, by rw [hw1]; exact new_wr W0, fun k o e => by cases e⟩, hb1⟩
  clear hw1 hb1
  have hcall := number_put W0 w1 [] none lk HP1.out (by simp)
  obtain ⟨c0, c1, c2⟩ := HC.out w1 HP1.out.below
  go_wp2_with fail
  refine hcall.mono ?_
  rintro e w2 ⟨rfl, hP2⟩
  rw [List.nil_append] at hP2
  clear hcall c0 c1 c2 HP1
  have hle1 := Cd.uB_len (Cd.u64 lk)
  have hle2 := Cd.uB_len (Cd.u64 (n : Int))
  have hle3 := Cd.uB_len (Cd.u64 (m : Int))
  obtain ⟨c0, c1, c2⟩ := HC.out w2 hP2.below
  have hcall := number_put W0 w2 _ none n hP2 (by omega)
  clear hP2
  go_wp2_with fail
  refine hcall.mono ?_
  rintro e w3 ⟨rfl, hP3⟩
  clear hcall c0 c1 c2
  obtain ⟨c0, c1, c2⟩ := HC.out w3 hP3.below
  obtain ⟨L0, hL0⟩ : ∃ L, uB (Cd.u64 lk) ++ uB (Cd.u64 (n : Int)) = L := ⟨_, rfl⟩
  have hlL : L0.length ≤ 18 := by rw [← hL0, List.length_append]; omega
  have HL0 : Hid (uB (Cd.u64 lk) ++ uB (Cd.u64 (n : Int)) = L0) := hL0
  rw [hL0] at hP3
  clear hL0 hle1 hle2
  have HP3 : Hid (Cd.PutR W0 w3 (L0 ++ laidIns (noS X) Z 0) none) := by show Cd.PutR _ _ _ _; simpa [laidIns] using hP3
  clear hP3
  go_wp2
  have hP3 := HP3.out
  clear HP3 c0 c1 c2
  go_loopw [7, 24] (fun _ iv wr => ∃ i : Nat, i ≤ n ∧ iv = .int .i64 i ∧ Cd.PutR W0 wr (L0 ++ laidIns (noS X) Z i) none) (fun _ iv _ => n + 1 - (intOf iv).toNat)
  case atStart => exact ⟨0, by omega, rfl, hP3⟩
  case round =>
    clear hP3
    obtain ⟨i, hi, rfl, hP⟩ := hrel
    have HP : Hid (Cd.PutR W0 wr (L0 ++ laidIns (noS X) Z i) none) := hP
    clear hP
    have hll : (L0 ++ laidIns (noS X) Z i).length ≤ 18 + 2000052 * 1000 := by
      have := laidIns_len (noS X) Z i (fun j _ => by simp [noS])
      rw [List.length_append]; omega
    by_cases hlt : i < n
    · have hlt' : (i : Int) < n := by omega
      obtain ⟨b, off, rfl, hc⟩ := HH.out.1.1.at_ (by omega)
      have HR : Hid (wr.rangeAt b (off + i * 35) (til (X i) (S i).1 (S i).2)) := range_below (range_below (hc i hlt) HB0.out) HP.out.below
      have HZ : Hid (Hb (X i).pt ∧ SlAt W0 (S i).1 (X i).sn (Z i)) := ⟨HH.out.1.1.pt i hlt, (HH.out.2.1 i hlt).1.below HB0.out⟩
      have hsn := (HH.out.2.1 i hlt).2
      have HI : Hid (L0 ++ laidIns (noS X) Z (i + 1) = L0 ++ laidIns (noS X) Z i ++ hB (X i).pt ++ uB (Cd.u64 (X i).n) ++ uB (Cd.u64 (X i).br) ++ (escF (Z i) 0 ++ [0, 0])) := by show _ = _; simp only [laidIns, laidIn, noS, List.append_assoc]
      obtain ⟨L, hL⟩ : ∃ L, L0 ++ laidIns (noS X) Z i = L := ⟨_, rfl⟩
      rw [hL] at HP HI hll
      obtain ⟨x, hx⟩ : ∃ x, X i = x := ⟨_, rfl⟩
      rw [hx] at HR HZ HI hsn
      obtain ⟨⟨sa, sc⟩, hsc⟩ : ∃ s, S i = s := ⟨_, rfl⟩
      rw [hsc] at HR HZ
      clear hc hL hx hsc
      have hle1 := Cd.uB_len (Cd.u64 x.n)
      have hle2 := Cd.uB_len (Cd.u64 x.br)
      have hlh := hB_length x.pt
      go_wp2_with (first | (refine wpList_load_mid rfl 56 _ rfl b (off + i * 35) rfl (til x sa sc) _ HR.out Tryd.underlying56 rfl (szTil _ _ _) ?_) | (refine wpList_allocG 56 (tiv ti0 none 0) run_allocTi rfl rfl ?_) | (refine wpList_storeG 56 szTi rfl _ _ rfl wr.heap.size rfl (tiv x sa sc) (tiv ti0 none 0) (tiv_size _ _ _) (tiv_size _ _ _) (tiv_one _ _ _) 56 rfl (heap_alloc_new wr _) ?_; intro w4 hg4 hf4; have HP4 : Hid (Cd.PutR W0 w4 L (some (wr.heap.size, .cells (tiv x sa sc) 56 (0, 0)))) := HP.out.hold (kfrm_new hf4) hg4; have HR4 : Hid (w4.rangeAt wr.heap.size 0 (bl x.pt 32)) := til_pt hg4; clear hg4 hf4) | (refine wpList_load_mid rfl 51 _ rfl wr.heap.size 0 rfl (bl x.pt 32) _ HR4.out Tryd.underlying51 rfl (Cd.szHl _) ?_) | fail)
      refine (Cd.hash_put W0 w4 L _ x.pt HP4.out (by omega) HZ.out.1).mono ?_
      rintro e w5 ⟨rfl, hP5⟩
      have c32 := cell_list hP5.held (til_32 x sa sc)
      have HP5 : Hid _ := hP5
      clear hP5 HP4 HR4
      have hcall := number_put W0 w5 _ _ x.n HP5.out (by simp only [List.length_append]; omega)
      go_wp2_with fail
      refine hcall.mono ?_
      rintro e w6 ⟨rfl, hP6⟩
      have c33 := cell_list hP6.held (til_33 x sa sc)
      have HP6 : Hid _ := hP6
      clear hP6 HP5 hcall c32
      have hcall := number_put W0 w6 _ _ x.br HP6.out (by simp only [List.length_append]; omega)
      go_wp2_with fail
      refine hcall.mono ?_
      rintro e w7 ⟨rfl, hP7⟩
      have HP7 : Hid _ := hP7
      have HR7 : Hid (w7.rangeAt wr.heap.size 0 (til x sa sc)) := til_range hP7.held
      clear hP7 HP6 hcall c33
      have hcall := kid1_any x sa sc w7
      unfold tiv at hcall
      go_wp2_with (first | (refine wpList_load_mid rfl 56 _ rfl wr.heap.size 0 rfl (til x sa sc) _ HR7.out Tryd.underlying56 rfl (szTil _ _ _) ?_) | (go_at_fn 24; refine hcall.mono ?_; rintro e w8 ⟨rfl, hb8⟩) | fail)
      have HP8 : Hid _ := HP7.out.keep hb8
      clear hb8 hcall HP7 HR7
      refine (bytes_put W0 w8 _ _ none 0 0 (Z i) HP8.out (by simp only [List.length_append]; omega) (SlAt.zero _ _)).mono ?_
      rintro e w9 ⟨rfl, hP9⟩
      have HP9 : Hid (Cd.PutR W0 w9 (L0 ++ laidIns (noS X) Z (i + 1)) none) := by
        show Cd.PutR _ _ _ _
        rw [HI.out]
        exact hP9.drop
      clear hP9 HP8
      go_wp2
      go_roundw
      case rel => exact ⟨i + 1, by omega, by go_num, HP9.out⟩
      case measure => simp [intOf]; omega
    · obtain rfl : i = n := by omega
      have hnn : ¬ ((i : Int) < i) := by omega
      obtain ⟨c0, c1, c2⟩ := HC.out wr HP.out.below
      have HLA : Hid (laidTx0 lk i (noS X) Z m = (L0 ++ laidIns (noS X) Z i) ++ uB (Cd.u64 (m : Int))) := by show _ = _; rw [← HL0.out]; simp only [laidTx0, List.append_assoc]
      have HLT : Hid (laidT lk i (noS X) Z m O = laidTx0 lk i (noS X) Z m ++ laidOuts O m) := rfl
      obtain ⟨LA, hLA⟩ : ∃ L, laidTx0 lk i (noS X) Z m = L := ⟨_, rfl⟩
      rw [hLA] at HLA HLT
      obtain ⟨LT, hLT⟩ : ∃ L, laidT lk i (noS X) Z m O = L := ⟨_, rfl⟩
      have HLE : Hid (laidT lk i (noS X) Z m O = LT) := hLT
      rw [hLT] at HLT
      have hlA : LA.length ≤ 27 + 2000052 * 1000 := by rw [HLA.out, List.length_append]; omega
      have hcall := number_put W0 wr _ none m HP.out (by omega)
      rw [← HLA.out] at hcall
      clear hLA hLT HLA HL0 hll hle3
      generalize wr = wo at *
      go_wp2_with fail
      refine hcall.mono ?_
      rintro e w4 ⟨rfl, hP4⟩
      clear hcall c0 c1 c2 HP
      obtain ⟨c0, c1, c2⟩ := HC.out w4 hP4.below
      obtain ⟨g, hg, -⟩ := hP4.at_
      have hcall := wrDoneO_any _ _ g LA w4 hg (by omega)
      have HB4 : Hid (Below W0.heap.size W0 w4) := hP4.below
      clear hP4 hg
      go_wp2_with fail
      refine hcall.mono ?_
      rintro e w5 ⟨v5, rfl, hO5⟩
      clear hcall c0 c1 c2
      have HO5 : Hid (Ow W0 w5 v5 (LA ++ laidOuts O 0)) := by show Ow _ _ _ _; simpa [laidOuts] using hO5.mono HB4.out
      clear hO5 HB4
      obtain ⟨c0, c1, c2⟩ := HC.out w5 HO5.out.below
      go_wp2
      have hO5 := HO5.out
      clear HO5 c0 c1 c2
      obtain ⟨a5, k5, c5, rfl⟩ := hO5.form3
      go_loopw [8, 10, 58] (fun bv _ iv wr => ∃ (q : Nat) (ad : Option Addr) (k c : Nat), q ≤ m ∧ iv = .int .i64 q ∧ bv = .slice ad k c ∧ Ow W0 wr (.slice ad k c) (LA ++ laidOuts O q)) (fun _ _ iv _ => m + 1 - (intOf iv).toNat)
      case atStart => exact ⟨0, a5, k5, c5, by omega, rfl, rfl, hO5⟩
      case round =>
        clear hO5
        obtain ⟨q, ad, k, c, hq, rfl, rfl, hO⟩ := hrel
        have HO : Hid (Ow W0 wr (.slice ad k c) (LA ++ laidOuts O q)) := hO
        clear hO
        have hll := laidOuts_len O q (fun j hj => HH.out.2.2 j (by omega))
        have hll2 : (LA ++ laidOuts O q).length ≤ 2000053000 + 9010100 * 1000 * 1000 := by rw [List.length_append]; omega
        by_cases hlt : q < m
        · have hlt' : (q : Int) < m := by omega
          obtain ⟨b, off, rfl, hc⟩ := HH.out.1.2.at_ (by omega)
          obtain ⟨ca, cc, hr0, hbr, _⟩ := hc q hlt
          have HR : Hid (wr.rangeAt b (off + q * 2) (tol (O q) ca cc)) := range_below (range_below hr0 HB0.out) HO.out.below
          have HX : Hid (Cd.BrAt wr ca (O q).cn (O q).X) := (hbr.below HB0.out).below HO.out.below
          have HQ : Hid (LA ++ laidOuts O (q + 1) = LA ++ laidOuts O q ++ laidO (O q)) := by show _ = _; simp only [laidOuts, List.append_assoc]
          have hsm := HH.out.2.2 q hlt
          have hlo := laidO_len (O q) hsm
          obtain ⟨L, hL⟩ : ∃ L, LA ++ laidOuts O q = L := ⟨_, rfl⟩
          rw [hL] at HO HQ hll2
          obtain ⟨x, hx⟩ : ∃ x, O q = x := ⟨_, rfl⟩
          rw [hx] at HR HX HQ hsm hlo
          clear hc hr0 hbr hL hx hll
          have c0 : wr.cell? ⟨b, off + q * 2, none⟩ = some (.int .i64 x.am) := by simpa using HR.out 0 _ rfl
          have c1 : wr.cell? ⟨b, off + q * 2 + 1, none⟩ = some (.slice ca x.cn cc) := HR.out 1 _ rfl
          have HA : Hid (Below wr.heap.size wr (wr.alloc (.cells #[.int .i64 x.am, .slice ca x.cn cc] 36))) := (Below.refl _ _).alloc (Nat.le_refl _) _
          have hcall := layOut_any x ca cc (wr.alloc (.cells #[.int .i64 x.am, .slice ca x.cn cc] 36)) (HX.out.below HA.out) hsm.1 (fun j hj => by have := hsm.2 j hj; omega)
          unfold tov at hcall
          have HO1 := yhid (HO.out.keepB HA.out)
          clear HO
          go_wp2_with fail
          generalize wr.alloc (.cells #[.int .i64 x.am, .slice ca x.cn cc] 36) = w6 at *
          refine hcall.mono ?_
          rintro e w7 ⟨u, rfl, hU⟩
          have HO7 := yhid (And.intro (HO1.out.keepB hU.below) (And.intro (hU.src (Below.refl _ _)) hU.bd))
          clear hcall hU HO1
          go_wp2_with (at_builtin; refine wpList_append_B rfl _ _ rfl W0 _ _ L (laidO x) rfl rfl HO7.out.1 HO7.out.2.1 HO7.out.2.2 (by omega) ?_; intro v8 w8 hO8)
          have HO8 : Hid (Ow W0 w8 v8 (LA ++ laidOuts O (q + 1))) := by show Ow _ _ _ _; rw [HQ.out]; exact hO8
          obtain ⟨a8, k8, c8, rfl⟩ := HO8.out.form3
          go_roundw
          case rel => exact ⟨q + 1, a8, k8, c8, by omega, by go_num, rfl, HO8.out⟩
          case measure => simp [intOf]; omega
        · obtain rfl : q = m := by omega
          have hnn : ¬ ((q : Int) < q) := by omega
          have HE : Hid (Ow w wr (.slice ad k c) LT) := by show Ow _ _ _ _; rw [HLT.out]; exact HO.out.mono HB0.out
          go_wp2
          go_ret
          exact ⟨_, rfl, by rw [HLE.out]; exact HE.out⟩
end Go.Proofs.YtbehkajfckadfaaDoor
/- tx.ID, tx.At. -/
namespace Go.Proofs.YtbehkajfckadfaaDoor
open Go.RowKit

/-- Bytes as numbers. -/
def nb (L : List Int) : List Nat := L.map Int.toNat
theorem nb_length (L : List Int) : (nb L).length = L.length := by simp [nb]
theorem nb_lt {L : List Int} (h : ∀ j, j < L.length → 0 ≤ fn L j ∧ fn L j ≤ 255) (i : Nat) : (nb L).getD i 0 < 256 := by
  by_cases hi : i < L.length
  · have := h i hi
    rw [fn_get L i hi] at this
    simp only [nb, List.getD_eq_getElem?_getD, List.getElem?_map, List.getElem?_eq_getElem hi, Option.map_some, Option.getD_some]
    omega
  · simp [nb, List.getD_eq_getElem?_getD, List.getElem?_eq_none (Nat.le_of_not_lt hi)]
theorem slB_of {w : World} {ad : Option Addr} {L : List Int} (h : SlAt w ad L.length (fn L)) : SlB w ad (nb L) := by
  intro hn
  rw [nb_length] at hn
  obtain ⟨b, off, e, hc⟩ := h.2 hn
  refine ⟨b, off, e, fun j v hv => ?_⟩
  simp only [sl8, nb, List.map_map, List.getElem?_map] at hv
  obtain ⟨x, hx, rfl⟩ := Option.map_eq_some_iff.1 hv
  obtain ⟨hj, rfl⟩ := List.getElem?_eq_some_iff.1 hx
  rw [hc j hj, fn_get L j hj]
  have := h.1 j hj
  rw [fn_get L j hj] at this
  simp only [Function.comp]
  congr 2
  omega
theorem Ow.sl {w0 w : World} {v : Value} {L : List Int} (h : Ow w0 w v L) : ∃ ad cap, v = .slice ad L.length cap ∧ L.length ≤ cap ∧ SlAt w ad L.length (fn L) := by
  have hbd : ∀ j, j < L.length → 0 ≤ fn L j ∧ fn L j ≤ 255 := fun j hj => by rw [fn_get L j hj]; exact h.bd _ (List.getElem_mem hj)
  have hown := h.own
  rcases h.own.2 with ⟨rfl, hl⟩ | ⟨g, cap, cur, rfl, hbs, hg, hcap, rest⟩
  · exact ⟨none, 0, by rw [hl], by omega, hbd, fun hn => by omega⟩
  · refine ⟨some ⟨g, 0, none⟩, cap, rfl, hcap, hbd, fun _ => ⟨g, 0, rfl, fun j hj => ?_⟩⟩
    have h1 := hown.cells (g := g) rfl j (.int .u8 (fn L j)) (by rw [fn_get L j hj, List.getElem?_map, List.getElem?_eq_getElem hj]; rfl)
    first | exact h1 | (rw [Addr.add_lit] at h1; exact h1) | simpa using h1
/-- A transaction's bytes for its ID; its ID. -/
def idB (lk : Int) (n : Nat) (X : Nat → Ti) (Z : Nat → Nat → Int) (m : Nat) (O : Nat → To) : List Int := laidT lk n (noS X) Z m O
theorem idB_len {lk : Int} {n : Nat} {X : Nat → Ti} {Z : Nat → Nat → Int} {m : Nat} {O : Nat → To} (hn : n ≤ 1000) (hm : m ≤ 1000) (hs : ∀ i, i < m → (O i).cn ≤ 1000 ∧ ∀ j, j < (O i).cn → ((O i).X j).n ≤ 1000) : (idB lk n X Z m O).length ≤ 140737488355328 := by
  have h1 := Cd.uB_len (Cd.u64 lk)
  have h2 := Cd.uB_len (Cd.u64 (n : Int))
  have h3 := Cd.uB_len (Cd.u64 (m : Int))
  have h4 := laidIns_len (noS X) Z n (fun j _ => by simp [noS])
  have h5 := laidOuts_len O m hs
  simp only [idB, laidT, laidTx0, List.length_append]
  omega
set_option maxRecDepth 100000 in
set_option maxHeartbeats 3200000 in
theorem kid_any (lk : Int) (ia : Option Addr) (n ic : Nat) (oa : Option Addr) (m oc : Nat) (X : Nat → Ti) (S : Nat → Option Addr × Nat) (Z : Nat → Nat → Int) (O : Nat → To) (w : World) (h : TiAt w ia n X S) (ho : ToAt w oa m O)
    (hz : ∀ i, i < n → SlAt w (S i).1 (X i).sn (Z i) ∧ (X i).sn ≤ 1000000) (hs : ∀ i, i < m → (O i).cn ≤ 1000 ∧ ∀ j, j < (O i).cn → ((O i).X j).n ≤ 1000) (hn : n ≤ 1000) (hm : m ≤ 1000) (hT : Tab w) (hgl : 3 ≤ w.heap.size) :
    Calls Tryd.prog 10 #[.agg (txv lk ia n ic oa m oc)] w fun e w' => e = .returned (.agg (sv (sumF (nb (idB lk n X Z m O))))) ∧ Below w.heap.size w w' := by
  have hb0 : Below w.heap.size w ((w.alloc (.cells #[.int .i64 lk, .slice ia n ic, .slice oa m oc] 27)).alloc (.cells (sv z32) 51)) := ((Below.refl _ w).alloc (Nat.le_refl _) _).alloc (by simp) _
  have hr0 : ((w.alloc (.cells #[.int .i64 lk, .slice ia n ic, .slice oa m oc] 27)).alloc (.cells (sv z32) 51)).heap[w.heap.size]? = some (.cells #[.int .i64 lk, .slice ia n ic, .slice oa m oc] 27 (0, 0)) := by rw [Below.heap_alloc _ _ _ (by simp)]; exact heap_alloc_new w _
  have hz0 : ((w.alloc (.cells #[.int .i64 lk, .slice ia n ic, .slice oa m oc] 27)).alloc (.cells (sv z32) 51)).heap[w.heap.size + 1]? = some (.cells (sv z32) 51 (0, 0)) := by
    have := heap_alloc_new (w.alloc (.cells #[.int .i64 lk, .slice ia n ic, .slice oa m oc] 27)) (.cells (sv z32) 51)
    simpa using this
  have hc := klayI_any lk ia n ic oa m oc X S Z O _ (h.below hb0) (ho.below hb0) (fun i hi => ⟨(hz i hi).1.below hb0, (hz i hi).2⟩) hs hn hm
  have HL := idB_len (lk := lk) (X := X) (Z := Z) hn hm hs
  obtain ⟨L, hL⟩ : ∃ L, idB lk n X Z m O = L := ⟨_, rfl⟩
  have hRl : (sumF (nb L)).length = 32 := endL_len _
  have HT : Hid (Tab w) := hT
  have HR : Hid (((w.alloc (.cells #[.int .i64 lk, .slice ia n ic, .slice oa m oc] 27)).alloc (.cells (sv z32) 51)).rangeAt w.heap.size 0 (txl lk ia n ic oa m oc)) := txl_range hr0
  rw [show laidT lk n (noS X) Z m O = L from hL] at hc
  rw [hL] at HL ⊢
  clear h ho hz hs hT hL hr0
  unfold txv at hc ⊢
  go_enter Tryd.func10, Tryd.ntmps10
  go_wp2_with (first | (refine wpList_allocHs rfl rfl ?_) | (refine wpList_load_mid rfl 27 _ rfl w.heap.size 0 rfl (txl lk ia n ic oa m oc) _ HR.out Tryd.underlying27 rfl szTx ?_) | fail)
  generalize (w.alloc (.cells #[.int .i64 lk, .slice ia n ic, .slice oa m oc] 27)).alloc (.cells (sv z32) 51) = W0 at *
  refine hc.mono ?_
  rintro e w1 ⟨v, rfl, hO⟩
  obtain ⟨ad, cap, rfl, hcap, hsl⟩ := hO.sl
  have hb1 := hO.below
  have hbw : Below w.heap.size w w1 := hb0.trans (hb1.mono hb0.size)
  have hcall := sum_any ad cap (nb L) w1 (HT.out.frm (S := []) (Frm.ofBelow hbw) (fun k hk => by cases hk)) (by have := hbw.size; omega) (slB_of hsl) (nb_lt hsl.1) (by rw [nb_length]; exact hcap) (by rw [nb_length]; omega)
  rw [nb_length] at hcall
  have hz1 : w1.heap[w.heap.size + 1]? = some (.cells (sv z32) 51 (0, 0)) := by rw [hb1.block _ (lt_of_block hz0)]; exact hz0
  obtain ⟨R, hR⟩ : ∃ R, R = sumF (nb L) := ⟨_, rfl⟩
  have HRR : Hid (R = sumF (nb L)) := hR
  rw [← hR] at hcall hRl
  clear hc hb0 hb1 hz0 hsl hcap hR hO
  go_wp2_with fail
  refine hcall.mono ?_
  rintro e w2 ⟨rfl, hb2⟩
  have hz2 : w2.heap[w.heap.size + 1]? = some (.cells (sv z32) 51 (0, 0)) := by rw [hb2.block _ (lt_of_block hz1)]; exact hz1
  have hb2' : Below w.heap.size w w2 := hbw.trans (hb2.mono hbw.size)
  clear hcall hz1 hb2 hbw
  go_wp2_with (first | (refine wpList_storeRow 51 hsz rfl _ _ rfl (w.heap.size + 1) rfl (sv R) (sv z32) (by rw [sv_size, hRl]) (by simp [sv_size, z32]) (sv_one _) 51 rfl hz2 ?_; intro w3 hg3 hf3) | fail)
  refine bodyPost_ret (results_cell_row Tryd.results10 _ w3 (w.heap.size + 1) 51 (sv R) (0, 0) _ rfl hg3 Tryd.underlying51 rfl (by rw [sv_size, hRl]; exact hsz)) rfl ⟨by rw [HRR.out], hb2'.trans (hf3.below (by have := hb2'.size; omega) (by simp))⟩
/-- A sum's bytes as ints. -/
def sZ (R : List Nat) : Nat → Int := fun j => (R.getD j 0 : Nat)
theorem sv_sZ {R : List Nat} (h : R.length = 32) : sv R = hv (sZ R) := by
  unfold sv sl8 hv bl sZ
  congr 1
  apply List.ext_getElem?
  intro j
  by_cases hj : j < 32
  · simp [List.getElem?_map, List.getElem?_range hj, List.getElem?_eq_getElem (show j < R.length by omega), List.getD_eq_getElem?_getD]
  · rw [List.getElem?_eq_none (by simp; omega), List.getElem?_eq_none (by simp; omega)]
theorem sZ_bd (b : List Nat) : ∀ j, j < 32 → 0 ≤ sZ (sumF b) j ∧ sZ (sumF b) j ≤ 255 := fun j _ => by have h2 : (sumF b).getD j 0 < 256 := endL_lt _ j; unfold sZ; omega
theorem guardHs2 : Tryd.prog.eqGuardType Tryd.prog.depth 51 = false := by kernel_rfl
theorem exec_eqS {a : Act} {o : Oper} (x y : Operand) (ho : o.op = .binOp .eql 51 x y 51) (b : List Nat) (hx : a.eval x = .agg (sv (sumF b))) (hy : a.eval y = .agg (sv (sumF b))) (w : World) :
    (execOp a.eval o).run Tryd.prog w = .ok (.value (.bool true)) w := by
  have hl : (sumF b).length = 32 := endL_len _
  have e1 := eql_hv (sZ_bd b) (sZ_bd b) w
  rw [hq_same] at e1
  rw [sv_sZ hl] at hx hy
  unfold execOp
  simp only [ho, hx, hy, Sem.run_bind, run_eqGuard_agg w .eql 51 x y _ _ guardHs2, e1, Result.andThen_ok, Sem.run_pure]
def ptv (z : Nat → Int) (n : Int) : Array Value := (ptl z n).toArray
theorem ptv_size (z : Nat → Int) (n : Int) : (ptv z n).size = 33 := by simp [ptv, ptl_length]
theorem ptl_one' (z : Nat → Int) (n : Int) : ∀ u ∈ ptl z n, u.oneCell' = true := by
  intro u hu
  simp only [ptl, List.mem_append] at hu
  rcases hu with hu | hu
  · exact bl_one _ _ _ hu
  · simp at hu
    rcases hu with rfl
    rfl
theorem ptl_range {w : World} {g : Nat} {z : Nat → Int} {n : Int} {t : TypeId} {fr : Nat × Nat} (h : w.heap[g]? = some (.cells (ptv z n) t fr)) : w.rangeAt g 0 (ptl z n) := fun j v hv => by
  rw [Nat.zero_add, cell_of_row _ _ j _ _ _ h]
  simpa [ptv] using hv
theorem build_Pt (z : Nat → Int) (n : Int) (w : World) : (Instr.build 53 #[(0, .agg (hv z)), (1, .int .i64 n)]).run Tryd.prog w = .ok (.agg (ptv z n)) w := by kernel_rfl
section
variable {ops : Array Oper} {rest : List Oper} {o : Oper} {a : Act} {w : World} {Q : Exit → Act → World → Prop}
theorem wpList_buildPt (hgd : o.guard = none) (x y : Operand) (ho : o.op = .build 53 #[(0, x), (1, y)]) (z : Nat → Int) (n : Int) (hx : a.eval x = .agg (hv z)) (hy : a.eval y = .int .i64 n)
    (h : wpList Tryd.prog ops Q rest (a.put o.dst (.agg (ptv z n))) w) : wpList Tryd.prog ops Q (o :: rest) a w := by
  refine wpList_plain hgd fun K hK => ?_
  unfold Oper.wp execOp
  simp only [ho, List.map_toArray, List.map_cons, List.map_nil, hx, hy, Sem.run_bind, build_Pt, Result.andThen]
  exact hK _ _ h
end
theorem run_allocPt (w : World) : (Instr.alloc 53 true (.tuple #[])).run Tryd.prog w = .ok (.pointer (some ⟨w.heap.size, 0, none⟩)) (w.alloc (.cells (ptv (fun _ => 0) 0) 53)) := by kernel_rfl
set_option maxRecDepth 100000 in
set_option maxHeartbeats 3200000 in
theorem kat_any (lk : Int) (ia : Option Addr) (n ic : Nat) (oa : Option Addr) (m oc : Nat) (X : Nat → Ti) (S : Nat → Option Addr × Nat) (Z : Nat → Nat → Int) (O : Nat → To) (k : Int) (w : World) (h : TiAt w ia n X S) (ho : ToAt w oa m O)
    (hz : ∀ i, i < n → SlAt w (S i).1 (X i).sn (Z i) ∧ (X i).sn ≤ 1000000) (hs : ∀ i, i < m → (O i).cn ≤ 1000 ∧ ∀ j, j < (O i).cn → ((O i).X j).n ≤ 1000) (hn : n ≤ 1000) (hm : m ≤ 1000) (hT : Tab w) (hgl : 3 ≤ w.heap.size) :
    Calls Tryd.prog 11 #[.agg (txv lk ia n ic oa m oc), .int .i64 k] w fun e w' => e = .returned (.agg (ptv (sZ (sumF (nb (idB lk n X Z m O)))) k)) ∧ Below w.heap.size w w' := by
  have hb0 : Below w.heap.size w (w.alloc (.cells #[.int .i64 lk, .slice ia n ic, .slice oa m oc] 27)) := (Below.refl _ w).alloc (Nat.le_refl _) _
  have hr0 := heap_alloc_new w (.cells #[.int .i64 lk, .slice ia n ic, .slice oa m oc] 27)
  have hc : ∀ w', Below w.heap.size w w' → _ := fun w' hb => kid_any lk ia n ic oa m oc X S Z O w' (h.below hb) (ho.below hb) (fun i hi => ⟨(hz i hi).1.below hb, (hz i hi).2⟩) hs hn hm (hT.frm (S := []) (Frm.ofBelow hb) (fun k hk => by cases hk)) (by have := hb.size; omega)
  obtain ⟨R, hR⟩ : ∃ R, sumF (nb (idB lk n X Z m O)) = R := ⟨_, rfl⟩
  have hRl : R.length = 32 := by rw [← hR]; exact endL_len _
  rw [hR] at hc ⊢
  rw [sv_sZ hRl] at hc
  have HC := hidV hc
  have HB0 := hidV hb0
  have HR0 : Hid (((w.alloc (.cells #[.int .i64 lk, .slice ia n ic, .slice oa m oc] 27))).rangeAt w.heap.size 0 (txl lk ia n ic oa m oc)) := txl_range hr0
  clear h ho hz hs hT hr0 hR hc hb0
  unfold txv at HC ⊢
  go_enter Tryd.func11, Tryd.ntmps11
  go_wp2_with (first | (refine wpList_allocN 53 (ptv (fun _ => 0) 0) run_allocPt rfl rfl ?_; intro v1 N1; have HR := hidV (range_below HR0.out N1.below); have HB := hidV (HB0.out.trans (N1.below.mono HB0.out.size)); have HK := hidV N1.blk; clear N1) | (refine wpList_load_mid rfl 27 _ rfl w.heap.size 0 rfl (txl lk ia n ic oa m oc) _ HR.out Tryd.underlying27 rfl szTx ?_) | fail)
  refine (HC.out v1 HB.out).mono ?_
  rintro e w1 ⟨rfl, hb1⟩
  have hbw : Below w.heap.size w w1 := HB.out.trans (hb1.mono HB.out.size)
  have hz1 : w1.heap[w.heap.size + 1]? = some (.cells (ptv (fun _ => 0) 0) 53 (0, 0)) := by
    have h2 : v1.heap[w.heap.size + 1]? = some (.cells (ptv (fun _ => 0) 0) 53 (0, 0)) := by simpa using HK.out
    rw [hb1.block _ (lt_of_block h2)]; exact h2
  clear HC hb1 HR HR0 HB HB0 HK
  go_wp2_with (first | (refine wpList_buildPt rfl _ _ rfl (sZ R) k rfl rfl ?_) | (refine wpList_storeRow 53 szPt rfl _ _ rfl (w.heap.size + 1) rfl (ptv (sZ R) k) (ptv (fun _ => 0) 0) (ptv_size _ _) (ptv_size _ _) (all_oneCell_toArray (ptl_one' _ _)) 53 rfl hz1 ?_; intro w3 hg3 hf3) | fail)
  refine bodyPost_ret (results_cell_row Tryd.results11 _ w3 (w.heap.size + 1) 53 (ptv (sZ R) k) (0, 0) _ rfl hg3 Tryd.underlying53 rfl (by rw [ptv_size]; exact szPt)) rfl ⟨rfl, hbw.trans (hf3.below (by have := hbw.size; omega) (by simp))⟩
end Go.Proofs.YtbehkajfckadfaaDoor
/- What several texts share. -/
namespace Go.Proofs.YtbehkajfckadfaaDoor.Cd
open Go.RowKit

/-- How many of a row are below k, from its begin on. -/
def atK : List Int → Int → Nat
  | [], _ => 0
  | x :: r, k => if x < k then atK r k + 1 else 0
/-- k laid in where it belongs, if it is not there. -/
def insK (L : List Int) (k : Int) : List Int := if L.contains k then L else L.take (atK L k) ++ [k] ++ L.drop (atK L k)
def insL (z : Nat → Int) : Nat → List Int
  | 0 => []
  | i + 1 => insK (insL z i) (z i)

section
variable {ops : Array Oper} {rest : List Oper} {o : Oper} {a : Act} {w : World} {Q : Exit → Act → World → Prop}
end
section
variable {ops : Array Oper} {o : Oper} {a : Act} {w : World} {K : Act → World → Prop} {Q : Exit → Act → World → Prop} {E : Prop}
end

end Go.Proofs.YtbehkajfckadfaaDoor.Cd
/- Sorted and made single: what the program's All and the document's have in common. -/
namespace Go.Proofs.YtbehkajfckadfaaDoor.Cd
open Go.RowKit

/-- Ascending, each once. -/
def Asc (L : List Int) : Prop := L.Pairwise (· < ·)
theorem asc_ext {L M : List Int} (hL : Asc L) (hM : Asc M) (h : ∀ x, x ∈ L ↔ x ∈ M) : L = M := by
  induction L generalizing M with
  | nil =>
    cases M with
    | nil => rfl
    | cons y r => have := (h y).2 (by simp); simp at this
  | cons x l ih =>
    cases M with
    | nil => have := (h x).1 (by simp); simp at this
    | cons y r =>
      have hx := List.pairwise_cons.1 hL
      have hy := List.pairwise_cons.1 hM
      have e : x = y := by
        rcases List.mem_cons.1 ((h x).1 (by simp)) with e | e
        · exact e
        · rcases List.mem_cons.1 ((h y).2 (by simp)) with e2 | e2
          · exact e2.symm
          · have := hy.1 x e; have := hx.1 y e2; omega
      subst e
      rw [ih hx.2 hy.2 (fun z => ?_)]
      constructor
      · intro hz
        rcases List.mem_cons.1 ((h z).1 (List.mem_cons_of_mem _ hz)) with e | e
        · subst e; have := hx.1 z hz; omega
        · exact e
      · intro hz
        rcases List.mem_cons.1 ((h z).2 (List.mem_cons_of_mem _ hz)) with e | e
        · subst e; have := hy.1 z hz; omega
        · exact e
theorem insK_asc {L : List Int} (k : Int) (h : Asc L) : Asc (insK L k) ∧ ∀ x, x ∈ insK L k ↔ x ∈ L ∨ x = k := by
  induction L with
  | nil => simp [insK, Asc, atK]
  | cons y r ih =>
    have hy := List.pairwise_cons.1 h
    obtain ⟨i1, i2⟩ := ih hy.2
    by_cases hm : (y :: r).contains k = true
    · unfold insK
      rw [if_pos hm]
      refine ⟨h, fun x => ⟨.inl, fun hx => ?_⟩⟩
      rcases hx with hx | hx
      · exact hx
      · subst hx; simpa using hm
    · have hm0 : insK (y :: r) k = if y < k then y :: insK r k else k :: y :: r := by
        unfold insK
        rw [if_neg hm]
        have hmr : ¬ r.contains k = true := fun e => hm (by simp at e ⊢; exact .inr e)
        rw [if_neg hmr]
        simp only [atK]
        split <;> simp
      rw [hm0]
      have hne : y ≠ k := fun e => hm (by simp [e])
      split
      · rename_i hlt
        refine ⟨List.pairwise_cons.2 ⟨fun x hx => ?_, i1⟩, fun x => ?_⟩
        · rcases (i2 x).1 hx with h1 | h1
          · exact hy.1 x h1
          · rw [h1]; exact hlt
        · simp only [List.mem_cons, i2 x]
          constructor
          · rintro (h | h | h) <;> simp [h]
          · rintro ((h | h) | h) <;> simp [h]
      · rename_i hlt
        refine ⟨List.pairwise_cons.2 ⟨fun x hx => ?_, h⟩, fun x => ?_⟩
        · rcases List.mem_cons.1 hx with e | e
          · rw [e]; omega
          · have := hy.1 x e; omega
        · simp only [List.mem_cons]
          constructor
          · rintro (h | h | h) <;> simp [h]
          · rintro ((h | h) | h) <;> simp [h]
theorem insL_asc (z : Nat → Int) : ∀ n, Asc (insL z n) ∧ ∀ x, x ∈ insL z n ↔ x ∈ keysL z n
  | 0 => by simp [insL, Asc, keysL]
  | n + 1 => by
    obtain ⟨h1, h2⟩ := insL_asc z n
    obtain ⟨h3, h4⟩ := insK_asc (z n) h1
    refine ⟨h3, fun x => ?_⟩
    simp only [insL, h4 x, h2 x, keysL, List.range_succ, List.map_append, List.mem_append, List.map_cons, List.map_nil, List.mem_singleton]
theorem srt_sorted (l : List Int) : (srt l).Pairwise (· ≤ ·) := by
  have := List.pairwise_mergeSort (le := fun (x y : Int) => decide (x ≤ y)) (by intro a b c; simp; omega) (by intro a b; simp; omega) l
  simpa [srt] using this
theorem sorted_le {l : List Int} (h : l.Pairwise (· ≤ ·)) {i j : Nat} (hij : i ≤ j) (hj : j < l.length) : l.toArray[i]! ≤ l.toArray[j]! := by
  have hi : i < l.length := by omega
  rw [getElem!_pos _ i (by simpa using hi), getElem!_pos _ j (by simpa using hj)]
  rcases Nat.lt_or_eq_of_le hij with h1 | h1
  · exact List.pairwise_iff_getElem.1 h i j hi hj h1
  · subst h1; exact Int.le_refl _
theorem kept {l : List Int} : ∀ j, j < l.length → ∃ q, q ≤ j ∧ Lib.keeps l.toArray q = true ∧ l.toArray[q]! = l.toArray[j]!
  | 0, _ => ⟨0, Nat.le_refl _, Lib.keeps_lt_one _ 0 (by omega), rfl⟩
  | j + 1, h => by
    by_cases e : l.toArray[j + 1]! = l.toArray[j]!
    · obtain ⟨q, h1, h2, h3⟩ := kept (l := l) j (by omega)
      exact ⟨q, by omega, h2, by rw [h3, e]⟩
    · exact ⟨j + 1, Nat.le_refl _, Lib.keeps_pos (by simpa using e), rfl⟩
theorem comp_all (l : List Int) (h : l.Pairwise (· ≤ ·)) : Asc (Lib.compact l) ∧ ∀ x, x ∈ Lib.compact l ↔ x ∈ l := by
  refine ⟨?_, fun x => ⟨compact_mem, fun hx => ?_⟩⟩
  · unfold Asc Lib.compact Lib.compactUpTo
    rw [List.pairwise_map]
    have hr : (List.range l.length).Pairwise (· < ·) := List.pairwise_lt_range
    refine (hr.filter (Lib.keeps l.toArray)).imp_of_mem (fun {a b} ha hb hab => ?_)
    have hb1 := List.mem_filter.1 hb
    have hbl : b < l.length := List.mem_range.1 hb1.1
    have hne : l.toArray[b]! ≠ l.toArray[b - 1]! := fun e => by
      have := Lib.keeps_neg (by omega) e
      rw [this] at hb1
      exact absurd hb1.2 (by simp)
    have h1 := sorted_le h (show a ≤ b - 1 by omega) (by omega)
    have h2 := sorted_le h (show b - 1 ≤ b by omega) hbl
    omega
  · obtain ⟨j, hj, rfl⟩ := List.mem_iff_getElem.1 hx
    obtain ⟨q, h1, h2, h3⟩ := kept j hj
    unfold Lib.compact Lib.compactUpTo
    refine List.mem_map.2 ⟨q, List.mem_filter.2 ⟨List.mem_range.2 (by omega), h2⟩, ?_⟩
    show l.toArray[q]! = l[j]
    rw [h3, getElem!_pos _ j (by simpa using hj)]
    simp
theorem all_same (z : Nat → Int) (n : Nat) : Lib.compact (srt (keysL z n)) = insL z n := by
  obtain ⟨h1, h2⟩ := comp_all _ (srt_sorted (keysL z n))
  obtain ⟨h3, h4⟩ := insL_asc z n
  refine asc_ext h1 h3 (fun x => ?_)
  rw [h2 x, h4 x]
  simp [srt]
end Go.Proofs.YtbehkajfckadfaaDoor.Cd
/- cond.All of no ints. -/
namespace Go.Proofs.YtbehkajfckadfaaDoor.Cd
open Go.RowKit Go.Shelf Go.Sort

theorem clone_zero (ad : Option Addr) (cap : Nat) (w : World) :
    Calls Tryd.prog 14 #[.slice ad 0 cap] w fun e w' => ∃ ga c', e = .returned (.slice ga 0 c') ∧ (∀ a, ga = some a → w.heap.size ≤ a.block) ∧ Below w.heap.size w w' := by
  cases ad with
  | none =>
    have hcon := Any.slices_Clone_int_nil Tryd.lClone 0 cap w
    change Calls Tryd.prog 14 _ _ _ at hcon
    refine hcon.mono ?_
    rintro e w' ⟨rfl, rfl⟩
    exact ⟨none, 0, rfl, fun a h => (by cases h), Below.refl _ _⟩
  | some a =>
    have hcon := Any.slices_Clone_int_zero Tryd.lClone a cap w
    change Calls Tryd.prog 14 _ _ _ at hcon
    refine hcon.mono ?_
    rintro e w' ⟨v', rfl, hown, hne, hb⟩
    rcases hown.2 with ⟨e, _⟩ | ⟨g, c', cur, rfl, hg, _⟩
    · exact absurd e hne
    · exact ⟨_, c', rfl, fun a h => by cases h; exact hg, hb⟩

set_option maxRecDepth 100000 in
set_option maxHeartbeats 1600000 in
theorem all_zeroI (ad : Option Addr) (cap : Nat) (w : World) :
    Calls Tryd.prog 8 #[.slice ad 0 cap] w fun e w' => ∃ g, e = .returned (.agg #[.slice (some ⟨g, 0, none⟩) 1 1]) ∧ BrIn w' w.heap.size (some ⟨g, 0, none⟩) 1 (fun _ => kb []) ∧ Below w.heap.size w w' := by
  have HOK : (kb []).Ok := kb_ok (fun x h => by cases h)
  have hb0 : Below w.heap.size w (w.alloc (.cells #[.slice none 0 0] 34)) := (Below.refl _ w).alloc (Nat.le_refl _) _
  have hr0 : (w.alloc (.cells #[.slice none 0 0] 34)).heap[w.heap.size]? = some (.cells #[.slice none 0 0] 34 (0, 0)) := heap_alloc_new w _
  have hc := clone_zero ad cap (w.alloc (.cells #[.slice none 0 0] 34))
  have hs0 : w.heap.size < (w.alloc (.cells #[.slice none 0 0] 34)).heap.size := by simp
  go_enter Tryd.func8, Tryd.ntmps8
  go_wp2_with fail
  generalize w.alloc (.cells #[.slice none 0 0] 34) = W0 at *
  refine hc.mono ?_
  rintro e w3 ⟨ga, cap1, rfl, hga, hbw⟩
  clear hc
  have hsort := Any.slices_Sort_int_none Tryd.lSort ga cap1 w3
  change Calls Tryd.prog 15 _ _ _ at hsort
  have hcom := Any.slices_Compact_int_empty Tryd.lCompact ga cap1 w3
  change Calls Tryd.prog 16 _ _ _ at hcom
  have hr3 : w3.heap[w.heap.size]? = some (.cells #[.slice none 0 0] 34 (0, 0)) := by rw [hbw.block _ hs0]; exact hr0
  have hlt := hbw.size
  have hn4 := heap_alloc_new w3 (.cells (bv (kb []) ga cap1) 68)
  have hb4 : Below w3.heap.size w3 (w3.alloc (.cells (bv (kb []) ga cap1) 68)) := (Below.refl _ _).alloc (Nat.le_refl _) _
  have hr4 : (w3.alloc (.cells (bv (kb []) ga cap1) 68)).heap[w.heap.size]? = some (.cells #[.slice none 0 0] 34 (0, 0)) := by rw [hb4.block _ (by omega)]; exact hr3
  have c4 : (w3.alloc (.cells (bv (kb []) ga cap1) 68)).cell? ⟨w.heap.size, 0, none⟩ = some (.slice none 0 0) := by rw [cell_of_row _ _ 0 _ _ _ hr4]; rfl
  have f4 : (w3.alloc (.cells (bv (kb []) ga cap1) 68)).frozen? ⟨w.heap.size, 0, none⟩ = false := frozen_of_row _ _ 0 _ _ hr4
  have HE : Hid (((w3.alloc (.cells (bv (kb []) ga cap1) 68)).setCell ⟨w.heap.size, 0, none⟩ (.slice (some ⟨w3.heap.size, 0, none⟩) 1 1)).heap[w.heap.size]? = some (.cells #[.slice (some ⟨w3.heap.size, 0, none⟩) 1 1] 34 (0, 0))
      ∧ BrIn ((w3.alloc (.cells (bv (kb []) ga cap1) 68)).setCell ⟨w.heap.size, 0, none⟩ (.slice (some ⟨w3.heap.size, 0, none⟩) 1 1)) w.heap.size (some ⟨w3.heap.size, 0, none⟩) 1 (fun _ => kb [])
      ∧ Below w.heap.size w ((w3.alloc (.cells (bv (kb []) ga cap1) 68)).setCell ⟨w.heap.size, 0, none⟩ (.slice (some ⟨w3.heap.size, 0, none⟩) 1 1))) := by
    refine ⟨heap_setCell_same _ _ 0 _ _ _ hr4, fun w' hw => ⟨fun _ _ => HOK, fun _ => ⟨w3.heap.size, 0, rfl, fun i hi => ⟨ga, cap1, fun j u hu => ?_, fun h => by cases h⟩⟩⟩, ?_⟩
    · obtain rfl : i = 0 := by omega
      rw [World.cell?_of_block (a := ⟨w3.heap.size, 0 + 0 * 35 + j, none⟩) (hw w3.heap.size (by omega) (by simp [World.setCell])), World.cell?_of_block (a := ⟨w3.heap.size, 0 + 0 * 35 + j, none⟩) (Below.heap_setCell _ _ _ _ (by show w3.heap.size ≠ w.heap.size; omega)), cell_of_row _ _ _ _ _ _ hn4]
      simpa [bv] using hu
    · exact ((hb0.trans (hbw.mono (by omega))).trans (hb4.mono (by omega))).setCell (Nat.le_refl _) _
  clear hn4 hr4 hr3 hb4 hbw hb0 hga
  go_wp2_with fail
  refine hsort.mono ?_
  rintro e w4 ⟨rfl, rfl⟩
  go_wp2_with fail
  refine hcom.mono ?_
  rintro e w5 ⟨rfl, rfl⟩
  clear hsort hcom
  go_wp2_with (first | (refine wpList_buildB rfl _ rfl [] ga cap1 rfl ?_) | (refine wpList_sliceB rfl _ rfl (kb []) ga cap1 rfl ?_) | fail)
  exact bodyPost_ret (results_cell_row Tryd.results8 _ _ w.heap.size 34 #[.slice (some ⟨_, 0, none⟩) 1 1] (0, 0) _ rfl HE.out.1 Tryd.underlying34 rfl szC) rfl ⟨_, rfl, HE.out.2⟩
theorem all_zero (ad : Option Addr) (cap : Nat) (w : World) :
    Calls Tryd.prog 8 #[.slice ad 0 cap] w fun e w' => ∃ g, e = .returned (.agg #[.slice (some ⟨g, 0, none⟩) 1 1]) ∧ BrAt w' (some ⟨g, 0, none⟩) 1 (fun _ => kb []) ∧ Below w.heap.size w w' := by
  refine (all_zeroI ad cap w).mono ?_
  rintro e w' ⟨g, rfl, h1, h2⟩
  exact ⟨g, rfl, h1.brAt, h2⟩
/-- All of whatever ints, in blocks of its own. -/
theorem all_in (ad : Option Addr) (n cap : Nat) (z : Nat → Int) (w : World) (hI : IsAt w ad n z) (hz : ∀ j, j < n → Ib (z j)) (hn : n ≤ 1000000) :
    Calls Tryd.prog 8 #[.slice ad n cap] w fun e w' => ∃ g, e = .returned (.agg #[.slice (some ⟨g, 0, none⟩) 1 1]) ∧ BrIn w' w.heap.size (some ⟨g, 0, none⟩) 1 (fun _ => kb (insL z n)) ∧ Below w.heap.size w w' := by
  rcases Nat.eq_zero_or_pos n with h0 | hp
  · subst h0
    exact all_zeroI ad cap w
  · obtain ⟨b, off, rfl, hc⟩ := hI hp
    rw [← all_same]
    exact all_posI b off n cap z w hc hz hn
/-- All of whatever ints. -/
theorem all_any (ad : Option Addr) (n cap : Nat) (z : Nat → Int) (w : World) (hI : IsAt w ad n z) (hz : ∀ j, j < n → Ib (z j)) (hn : n ≤ 1000000) :
    Calls Tryd.prog 8 #[.slice ad n cap] w fun e w' => ∃ g, e = .returned (.agg #[.slice (some ⟨g, 0, none⟩) 1 1]) ∧ BrAt w' (some ⟨g, 0, none⟩) 1 (fun _ => kb (insL z n)) ∧ Below w.heap.size w w' := by
  rcases Nat.eq_zero_or_pos n with h0 | hp
  · subst h0
    exact all_zero ad cap w
  · obtain ⟨b, off, rfl, hc⟩ := hI hp
    rw [← all_same]
    exact all_pos b off n cap z w hc hz hn
end Go.Proofs.YtbehkajfckadfaaDoor.Cd
