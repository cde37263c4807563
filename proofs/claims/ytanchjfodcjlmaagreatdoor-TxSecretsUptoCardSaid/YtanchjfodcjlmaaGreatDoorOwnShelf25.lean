/- tx.Encode: a transaction as bytes. -/
import Derived.Test.YtanchjfodcjlmaaGreatDoorOwnShelf24
import Derived.Test.YtanchjfodcjlmaaGreatDoorOwnShelf13
namespace Go.Proofs.YtanchjfodcjlmaaGreatDoor
open Go.RowKit

theorem Ow.keepB {w0 w w' : World} {v : Value} {L : List Int} (h : Ow w0 w v L) (hb : Below w.heap.size w w') : Ow w0 w' v L := by
  refine ⟨⟨h.own.1, ?_⟩, h.below.trans (hb.mono h.below.size), h.bd⟩
  rcases h.own.2 with hn | ⟨g', cap, cur, e, hbs, hgc, rest⟩
  · exact .inl hn
  · exact .inr ⟨g', cap, cur, e, hbs, by rw [hb.block _ (lt_of_block hgc)]; exact hgc, rest⟩
theorem Ow.form3 {w0 w : World} {v : Value} {L : List Int} (h : Ow w0 w v L) : ∃ ad k cp, v = .slice ad k cp := by
  obtain ⟨ad, cp, e⟩ := h.form
  exact ⟨ad, _, cp, e⟩
theorem yhid {p : Prop} (h : p) : Hid p := h
theorem number_put (W0 wr : World) (L : List Int) (K : Option (Nat × Obj)) (x : Int) (h : Cd.PutR W0 wr L K) (hl : L.length + 16 ≤ 140737488355328) :
    Calls Tryz.prog 60 #[.pointer (some ⟨W0.heap.size, 0, none⟩), .int .i64 x] wr fun e w' => e = .returned (.tuple #[]) ∧ Cd.PutR W0 w' (L ++ uB (Cd.u64 x)) K := by
  obtain ⟨g, hg, hk0⟩ := h.at_
  refine (number_any _ _ g L x wr hg hl).mono ?_
  rintro e w' ⟨rfl, hW⟩
  exact ⟨rfl, h.grown hg hk0 hW⟩
theorem bytes_put (W0 wr : World) (L : List Int) (K : Option (Nat × Obj)) (ad : Option Addr) (n cap : Nat) (z : Nat → Int) (h : Cd.PutR W0 wr L K) (hl : L.length + 2 * n + 2 ≤ 140737488355328) (hs : SlAt W0 ad n z) :
    Calls Tryz.prog 62 #[.pointer (some ⟨W0.heap.size, 0, none⟩), .slice ad n cap] wr fun e w' => e = .returned (.pointer (some ⟨W0.heap.size, 0, none⟩)) ∧ Cd.PutR W0 w' (L ++ (escF z n ++ [0, 0])) K := by
  obtain ⟨g, hg, hk0⟩ := h.at_
  refine (wrBytes_any _ _ g L ad n cap z wr hg hl (hs.below h.below) (fun b off hn e hk => ?_)).mono ?_
  · have h1 := hs.lt hn e
    have h2 : W0.heap.size ≤ b := (hg.glt b (by rw [← hk]; simp)).1
    omega
  · rintro e w' ⟨rfl, hW⟩
    exact ⟨rfl, h.grown hg hk0 hW⟩
theorem til_pt {w : World} {g : Nat} {x : Ti} {sa : Option Addr} {sc : Nat} {t : TypeId} {fr : Nat × Nat} (h : w.heap[g]? = some (.cells (tiv x sa sc) t fr)) : w.rangeAt g 0 (bl x.pt 32) := by
  intro j u hu
  have hj : j < 32 := (bl_get hu).1
  rw [Nat.zero_add, cell_of_row _ _ j _ _ _ h]
  simp only [tiv, List.getElem?_toArray, til]
  rw [List.getElem?_append_left (by simpa [bl_length] using hj)]
  exact hu
set_option maxRecDepth 100000 in
set_option maxHeartbeats 6400000 in
theorem klay_any (lk : Int) (ia : Option Addr) (n ic : Nat) (oa : Option Addr) (m oc : Nat) (X : Nat → Ti) (S : Nat → Option Addr × Nat) (Z : Nat → Nat → Int) (O : Nat → To) (w : World) (h : TiAt w ia n X S) (ho : ToAt w oa m O)
    (hz : ∀ i, i < n → SlAt w (S i).1 (X i).sn (Z i) ∧ (X i).sn ≤ 1000000) (hs : ∀ i, i < m → (O i).cn ≤ 1000 ∧ ∀ j, j < (O i).cn → ((O i).X j).n ≤ 1048576) (hn : n ≤ 1000) (hm : m ≤ 1000) :
    Calls Tryz.prog 40 #[.agg (txv lk ia n ic oa m oc), .func (.func 42) #[] #[]] w fun e w' => ∃ v, e = .returned v ∧ Ow w w' v (laidT lk n X Z m O) := by
  have hb0 : Below w.heap.size w (w.alloc (.cells #[.int .i64 lk, .slice ia n ic, .slice oa m oc] 35)) := (Below.refl _ w).alloc (Nat.le_refl _) _
  have hr0 := heap_alloc_new w (.cells #[.int .i64 lk, .slice ia n ic, .slice oa m oc] 35)
  have HH : Hid ((TiAt w ia n X S ∧ ToAt w oa m O) ∧ (∀ i, i < n → SlAt w (S i).1 (X i).sn (Z i) ∧ (X i).sn ≤ 1000000) ∧ (∀ i, i < m → (O i).cn ≤ 1000 ∧ ∀ j, j < (O i).cn → ((O i).X j).n ≤ 1048576)) := ⟨⟨h, ho⟩, hz, hs⟩
  have eg : ∀ args w, (callFunc 42 args).run Tryz.prog w = .ok (.enter 42 args) w := enters_of Tryz.func42 (by kernel_rfl) rfl
  clear h ho hz hs
  unfold txv
  go_enter Tryz.func40, Tryz.ntmps40
  go_wp2_with fail
  generalize w.alloc (.cells #[.int .i64 lk, .slice ia n ic, .slice oa m oc] 35) = W0 at *
  have HC : Hid (∀ w', Below W0.heap.size W0 w' → w'.cell? ⟨w.heap.size, 0, none⟩ = some (.int .i64 lk) ∧ w'.cell? ⟨w.heap.size, 1, none⟩ = some (.slice ia n ic) ∧ w'.cell? ⟨w.heap.size, 2, none⟩ = some (.slice oa m oc)) := fun w' hb => by
    have := hb.block _ (lt_of_block hr0)
    rw [hr0] at this
    exact ⟨by rw [cell_of_row _ _ 0 _ _ _ this]; rfl, by rw [cell_of_row _ _ 1 _ _ _ this]; rfl, by rw [cell_of_row _ _ 2 _ _ _ this]; rfl⟩
  have HB0 : Hid (Below w.heap.size w W0) := hb0
  clear hr0 hb0
  refine (new_any W0).mono ?_
  rintro e w1 ⟨rfl, hw1⟩
  have hb1 : Below W0.heap.size W0 w1 := by rw [hw1]; exact (Below.refl _ _).alloc (Nat.le_refl _) _
  have HP1 : Hid (Cd.PutR W0 w1 [] none) := ⟨⟨none, by rw [hw1]; exact new_wr W0, fun k o e => by cases e⟩, hb1⟩
  clear hw1 hb1
  have hcall := number_put W0 w1 [] none lk HP1.out (by simp)
  obtain ⟨c0, c1, c2⟩ := HC.out w1 HP1.out.below
  go_wp2_with fail
  refine hcall.mono ?_
  rintro e w2 ⟨rfl, hP2⟩
  rw [List.nil_append] at hP2
  clear hcall c0 c1 c2 HP1
  have hle1 := Cd.uB_len (Cd.u64 lk)
  have hle2 := Cd.uB_len (Cd.u64 (n : Int))
  have hle3 := Cd.uB_len (Cd.u64 (m : Int))
  obtain ⟨c0, c1, c2⟩ := HC.out w2 hP2.below
  have hcall := number_put W0 w2 _ none n hP2 (by omega)
  clear hP2
  go_wp2_with fail
  refine hcall.mono ?_
  rintro e w3 ⟨rfl, hP3⟩
  clear hcall c0 c1 c2
  obtain ⟨c0, c1, c2⟩ := HC.out w3 hP3.below
  obtain ⟨L0, hL0⟩ : ∃ L, uB (Cd.u64 lk) ++ uB (Cd.u64 (n : Int)) = L := ⟨_, rfl⟩
  have hlL : L0.length ≤ 18 := by rw [← hL0, List.length_append]; omega
  have HL0 : Hid (uB (Cd.u64 lk) ++ uB (Cd.u64 (n : Int)) = L0) := hL0
  rw [hL0] at hP3
  clear hL0 hle1 hle2
  have HP3 : Hid (Cd.PutR W0 w3 (L0 ++ laidIns X Z 0) none) := by show Cd.PutR _ _ _ _; simpa [laidIns] using hP3
  clear hP3
  go_wp2
  have hP3 := HP3.out
  clear HP3 c0 c1 c2
  go_loopw [7, 24] (fun _ iv wr => ∃ i : Nat, i ≤ n ∧ iv = .int .i64 i ∧ Cd.PutR W0 wr (L0 ++ laidIns X Z i) none) (fun _ iv _ => n + 1 - (intOf iv).toNat)
  case atStart => exact ⟨0, by omega, rfl, hP3⟩
  case round =>
    clear hP3
    obtain ⟨i, hi, rfl, hP⟩ := hrel
    have HP : Hid (Cd.PutR W0 wr (L0 ++ laidIns X Z i) none) := hP
    clear hP
    have hll : (L0 ++ laidIns X Z i).length ≤ 18 + 2000052 * 1000 := by
      have := laidIns_len X Z i (fun j hj => (HH.out.2.1 j (by omega)).2)
      rw [List.length_append]; omega
    by_cases hlt : i < n
    · have hlt' : (i : Int) < n := by omega
      obtain ⟨b, off, rfl, hc⟩ := HH.out.1.1.at_ (by omega)
      have HR : Hid (wr.rangeAt b (off + i * 35) (til (X i) (S i).1 (S i).2)) := range_below (range_below (hc i hlt) HB0.out) HP.out.below
      have HZ : Hid (Hb (X i).pt ∧ SlAt W0 (S i).1 (X i).sn (Z i)) := ⟨HH.out.1.1.pt i hlt, (HH.out.2.1 i hlt).1.below HB0.out⟩
      have hsn := (HH.out.2.1 i hlt).2
      have HI : Hid (L0 ++ laidIns X Z (i + 1) = L0 ++ laidIns X Z i ++ hB (X i).pt ++ uB (Cd.u64 (X i).n) ++ uB (Cd.u64 (X i).br) ++ (escF (Z i) (X i).sn ++ [0, 0])) := by show _ = _; simp only [laidIns, laidIn, List.append_assoc]
      obtain ⟨L, hL⟩ : ∃ L, L0 ++ laidIns X Z i = L := ⟨_, rfl⟩
      rw [hL] at HP HI hll
      obtain ⟨x, hx⟩ : ∃ x, X i = x := ⟨_, rfl⟩
      rw [hx] at HR HZ HI hsn
      obtain ⟨⟨sa, sc⟩, hsc⟩ : ∃ s, S i = s := ⟨_, rfl⟩
      rw [hsc] at HR HZ
      clear hc hL hx hsc
      have hle1 := Cd.uB_len (Cd.u64 x.n)
      have hle2 := Cd.uB_len (Cd.u64 x.br)
      have hlh := hB_length x.pt
      go_wp2_with (first | (refine wpList_load_mid rfl 59 _ rfl b (off + i * 35) rfl (til x sa sc) _ HR.out Tryz.underlying59 rfl (szTil _ _ _) ?_) | (refine wpList_allocG 59 (tiv ti0 none 0) run_allocTi rfl rfl ?_) | (refine wpList_storeG 59 szTi rfl _ _ rfl wr.heap.size rfl (tiv x sa sc) (tiv ti0 none 0) (tiv_size _ _ _) (tiv_size _ _ _) (tiv_one _ _ _) 59 rfl (heap_alloc_new wr _) ?_; intro w4 hg4 hf4; have HP4 : Hid (Cd.PutR W0 w4 L (some (wr.heap.size, .cells (tiv x sa sc) 59 (0, 0)))) := HP.out.hold (kfrm_new hf4) hg4; have HR4 : Hid (w4.rangeAt wr.heap.size 0 (bl x.pt 32)) := til_pt hg4; clear hg4 hf4) | (refine wpList_load_mid rfl 43 _ rfl wr.heap.size 0 rfl (bl x.pt 32) _ HR4.out Tryz.underlying43 rfl (Cd.szHl _) ?_) | fail)
      refine (Cd.hash_put W0 w4 L _ x.pt HP4.out (by omega) HZ.out.1).mono ?_
      rintro e w5 ⟨rfl, hP5⟩
      have c32 := cell_list hP5.held (til_32 x sa sc)
      have HP5 : Hid _ := hP5
      clear hP5 HP4 HR4
      have hcall := number_put W0 w5 _ _ x.n HP5.out (by simp only [List.length_append]; omega)
      go_wp2_with fail
      refine hcall.mono ?_
      rintro e w6 ⟨rfl, hP6⟩
      have c33 := cell_list hP6.held (til_33 x sa sc)
      have HP6 : Hid _ := hP6
      clear hP6 HP5 hcall c32
      have hcall := number_put W0 w6 _ _ x.br HP6.out (by simp only [List.length_append]; omega)
      go_wp2_with fail
      refine hcall.mono ?_
      rintro e w7 ⟨rfl, hP7⟩
      have HP7 : Hid _ := hP7
      have HR7 : Hid (w7.rangeAt wr.heap.size 0 (til x sa sc)) := til_range hP7.held
      clear hP7 HP6 hcall c33
      have hcall := kshown_any x sa sc w7
      unfold tiv at hcall
      go_wp2_with (first | (refine wpList_load_mid rfl 59 _ rfl wr.heap.size 0 rfl (til x sa sc) _ HR7.out Tryz.underlying59 rfl (szTil _ _ _) ?_) | (go_at_fn 42; refine hcall.mono ?_; rintro e w8 ⟨rfl, hb8⟩) | fail)
      have HP8 : Hid _ := HP7.out.keep hb8
      clear hb8 hcall HP7 HR7
      refine (bytes_put W0 w8 _ _ sa x.sn sc (Z i) HP8.out (by simp only [List.length_append]; omega) HZ.out.2).mono ?_
      rintro e w9 ⟨rfl, hP9⟩
      have HP9 : Hid (Cd.PutR W0 w9 (L0 ++ laidIns X Z (i + 1)) none) := by
        show Cd.PutR _ _ _ _
        rw [HI.out]
        exact hP9.drop
      clear hP9 HP8
      go_wp2
      go_roundw
      case rel => exact ⟨i + 1, by omega, by go_num, HP9.out⟩
      case measure => simp [intOf]; omega
    · obtain rfl : i = n := by omega
      have hnn : ¬ ((i : Int) < i) := by omega
      obtain ⟨c0, c1, c2⟩ := HC.out wr HP.out.below
      have HLA : Hid (laidTx0 lk i X Z m = (L0 ++ laidIns X Z i) ++ uB (Cd.u64 (m : Int))) := by show _ = _; rw [← HL0.out]; simp only [laidTx0, List.append_assoc]
      have HLT : Hid (laidT lk i X Z m O = laidTx0 lk i X Z m ++ laidOuts O m) := rfl
      obtain ⟨LA, hLA⟩ : ∃ L, laidTx0 lk i X Z m = L := ⟨_, rfl⟩
      rw [hLA] at HLA HLT
      obtain ⟨LT, hLT⟩ : ∃ L, laidT lk i X Z m O = L := ⟨_, rfl⟩
      have HLE : Hid (laidT lk i X Z m O = LT) := hLT
      rw [hLT] at HLT
      have hlA : LA.length ≤ 27 + 2000052 * 1000 := by rw [HLA.out, List.length_append]; omega
      have hcall := number_put W0 wr _ none m HP.out (by omega)
      rw [← HLA.out] at hcall
      clear hLA hLT HLA HL0 hll hle3
      generalize wr = wo at *
      go_wp2_with fail
      refine hcall.mono ?_
      rintro e w4 ⟨rfl, hP4⟩
      clear hcall c0 c1 c2 HP
      obtain ⟨c0, c1, c2⟩ := HC.out w4 hP4.below
      obtain ⟨g, hg, -⟩ := hP4.at_
      have hcall := wrDoneO_any _ _ g LA w4 hg (by omega)
      have HB4 : Hid (Below W0.heap.size W0 w4) := hP4.below
      clear hP4 hg
      go_wp2_with fail
      refine hcall.mono ?_
      rintro e w5 ⟨v5, rfl, hO5⟩
      clear hcall c0 c1 c2
      have HO5 : Hid (Ow W0 w5 v5 (LA ++ laidOuts O 0)) := by show Ow _ _ _ _; simpa [laidOuts] using hO5.mono HB4.out
      clear hO5 HB4
      obtain ⟨c0, c1, c2⟩ := HC.out w5 HO5.out.below
      go_wp2
      have hO5 := HO5.out
      clear HO5 c0 c1 c2
      obtain ⟨a5, k5, c5, rfl⟩ := hO5.form3
      go_loopw [8, 10, 58] (fun bv _ iv wr => ∃ (q : Nat) (ad : Option Addr) (k c : Nat), q ≤ m ∧ iv = .int .i64 q ∧ bv = .slice ad k c ∧ Ow W0 wr (.slice ad k c) (LA ++ laidOuts O q)) (fun _ _ iv _ => m + 1 - (intOf iv).toNat)
      case atStart => exact ⟨0, a5, k5, c5, by omega, rfl, rfl, hO5⟩
      case round =>
        clear hO5
        obtain ⟨q, ad, k, c, hq, rfl, rfl, hO⟩ := hrel
        have HO : Hid (Ow W0 wr (.slice ad k c) (LA ++ laidOuts O q)) := hO
        clear hO
        have hll := laidOuts_len O q (fun j hj => HH.out.2.2 j (by omega))
        have hll2 : (LA ++ laidOuts O q).length ≤ 2000053000 + 9447284 * 1000 * 1000 := by rw [List.length_append]; omega
        by_cases hlt : q < m
        · have hlt' : (q : Int) < m := by omega
          obtain ⟨b, off, rfl, hc⟩ := HH.out.1.2.at_ (by omega)
          obtain ⟨ca, cc, hr0, hbr, _⟩ := hc q hlt
          have HR : Hid (wr.rangeAt b (off + q * 2) (tol (O q) ca cc)) := range_below (range_below hr0 HB0.out) HO.out.below
          have HX : Hid (Cd.BrAt wr ca (O q).cn (O q).X) := (hbr.below HB0.out).below HO.out.below
          have HQ : Hid (LA ++ laidOuts O (q + 1) = LA ++ laidOuts O q ++ laidO (O q)) := by show _ = _; simp only [laidOuts, List.append_assoc]
          have hsm := HH.out.2.2 q hlt
          have hlo := laidO_len (O q) hsm
          obtain ⟨L, hL⟩ : ∃ L, LA ++ laidOuts O q = L := ⟨_, rfl⟩
          rw [hL] at HO HQ hll2
          obtain ⟨x, hx⟩ : ∃ x, O q = x := ⟨_, rfl⟩
          rw [hx] at HR HX HQ hsm hlo
          clear hc hr0 hbr hL hx hll
          have c0 : wr.cell? ⟨b, off + q * 2, none⟩ = some (.int .i64 x.am) := by simpa using HR.out 0 _ rfl
          have c1 : wr.cell? ⟨b, off + q * 2 + 1, none⟩ = some (.slice ca x.cn cc) := HR.out 1 _ rfl
          have HA : Hid (Below wr.heap.size wr (wr.alloc (.cells #[.int .i64 x.am, .slice ca x.cn cc] 79))) := (Below.refl _ _).alloc (Nat.le_refl _) _
          have hcall := layOut_any x ca cc (wr.alloc (.cells #[.int .i64 x.am, .slice ca x.cn cc] 79)) (HX.out.below HA.out) hsm.1 (fun j hj => by have := hsm.2 j hj; omega)
          unfold tov at hcall
          have HO1 := yhid (HO.out.keepB HA.out)
          clear HO
          go_wp2_with fail
          generalize wr.alloc (.cells #[.int .i64 x.am, .slice ca x.cn cc] 79) = w6 at *
          refine hcall.mono ?_
          rintro e w7 ⟨u, rfl, hU⟩
          have HO7 := yhid (And.intro (HO1.out.keepB hU.below) (And.intro (hU.src (Below.refl _ _)) hU.bd))
          clear hcall hU HO1
          go_wp2_with (at_builtin; refine wpList_append_B rfl _ _ rfl W0 _ _ L (laidO x) rfl rfl HO7.out.1 HO7.out.2.1 HO7.out.2.2 (by omega) ?_; intro v8 w8 hO8)
          have HO8 : Hid (Ow W0 w8 v8 (LA ++ laidOuts O (q + 1))) := by show Ow _ _ _ _; rw [HQ.out]; exact hO8
          obtain ⟨a8, k8, c8, rfl⟩ := HO8.out.form3
          go_roundw
          case rel => exact ⟨q + 1, a8, k8, c8, by omega, by go_num, rfl, HO8.out⟩
          case measure => simp [intOf]; omega
        · obtain rfl : q = m := by omega
          have hnn : ¬ ((q : Int) < q) := by omega
          have HE : Hid (Ow w wr (.slice ad k c) LT) := by show Ow _ _ _ _; rw [HLT.out]; exact HO.out.mono HB0.out
          go_wp2
          go_ret
          exact ⟨_, rfl, by rw [HLE.out]; exact HE.out⟩
theorem kencode_any (lk : Int) (ia : Option Addr) (n ic : Nat) (oa : Option Addr) (m oc : Nat) (X : Nat → Ti) (S : Nat → Option Addr × Nat) (Z : Nat → Nat → Int) (O : Nat → To) (w : World) (h : TiAt w ia n X S) (ho : ToAt w oa m O)
    (hz : ∀ i, i < n → SlAt w (S i).1 (X i).sn (Z i) ∧ (X i).sn ≤ 1000000) (hs : ∀ i, i < m → (O i).cn ≤ 1000 ∧ ∀ j, j < (O i).cn → ((O i).X j).n ≤ 1048576) (hn : n ≤ 1000) (hm : m ≤ 1000) :
    Calls Tryz.prog 23 #[.agg (txv lk ia n ic oa m oc)] w fun e w' => ∃ v, e = .returned v ∧ Ow w w' v (laidT lk n X Z m O) := by
  have hb0 : Below w.heap.size w (w.alloc (.cells #[.int .i64 lk, .slice ia n ic, .slice oa m oc] 35)) := (Below.refl _ w).alloc (Nat.le_refl _) _
  have hr0 := txl_range (heap_alloc_new w (.cells #[.int .i64 lk, .slice ia n ic, .slice oa m oc] 35))
  have hcall := klay_any lk ia n ic oa m oc X S Z O (w.alloc (.cells #[.int .i64 lk, .slice ia n ic, .slice oa m oc] 35)) (h.below hb0) (ho.below hb0) (fun i hi => ⟨(hz i hi).1.below hb0, (hz i hi).2⟩) hs hn hm
  clear h ho hz hs
  generalize laidT lk n X Z m O = LT at *
  have HB0 := yhid hb0
  have HR0 := yhid hr0
  clear hb0 hr0
  unfold txv at *
  go_enter Tryz.func23, Tryz.ntmps23
  go_wp2_with (first | (refine wpList_load_mid rfl 35 _ rfl w.heap.size 0 rfl (txl lk ia n ic oa m oc) _ HR0.out Tryz.underlying35 rfl szTx ?_) | fail)
  refine hcall.mono ?_
  rintro e w1 ⟨v, rfl, hO⟩
  have HO := yhid (hO.mono HB0.out)
  clear hO hcall
  go_wp2
  go_ret
  exact ⟨_, rfl, HO.out⟩
end Go.Proofs.YtanchjfodcjlmaaGreatDoor
/- tx.lay with nothing shown for secrets. -/
namespace Go.Proofs.YtanchjfodcjlmaaGreatDoor
open Go.RowKit

/-- Inputs without their secrets. -/
def noS (X : Nat → Ti) : Nat → Ti := fun i => { X i with sn := 0 }
set_option maxRecDepth 100000 in
set_option maxHeartbeats 1600000 in
theorem kid1_any (x : Ti) (sa : Option Addr) (sc : Nat) (w : World) :
    Calls Tryz.prog 41 #[.agg (tiv x sa sc)] w fun e w' => e = .returned (.slice none 0 0) ∧ Below w.heap.size w w' := by
  have HB : Hid (Below w.heap.size w (w.alloc (.cells (tiv x sa sc) 59))) := (Below.refl _ w).alloc (Nat.le_refl _) _
  go_enter Tryz.func41, Tryz.ntmps41
  go_wp2
  go_ret
  exact ⟨rfl, HB.out⟩
set_option maxRecDepth 100000 in
set_option maxHeartbeats 6400000 in
theorem klayI_any (lk : Int) (ia : Option Addr) (n ic : Nat) (oa : Option Addr) (m oc : Nat) (X : Nat → Ti) (S : Nat → Option Addr × Nat) (Z : Nat → Nat → Int) (O : Nat → To) (w : World) (h : TiAt w ia n X S) (ho : ToAt w oa m O)
    (hz : ∀ i, i < n → SlAt w (S i).1 (X i).sn (Z i) ∧ (X i).sn ≤ 1000000) (hs : ∀ i, i < m → (O i).cn ≤ 1000 ∧ ∀ j, j < (O i).cn → ((O i).X j).n ≤ 1048576) (hn : n ≤ 1000) (hm : m ≤ 1000) :
    Calls Tryz.prog 40 #[.agg (txv lk ia n ic oa m oc), .func (.func 41) #[] #[]] w fun e w' => ∃ v, e = .returned v ∧ Ow w w' v (laidT lk n (noS X) Z m O) := by
  have hb0 : Below w.heap.size w (w.alloc (.cells #[.int .i64 lk, .slice ia n ic, .slice oa m oc] 35)) := (Below.refl _ w).alloc (Nat.le_refl _) _
  have hr0 := heap_alloc_new w (.cells #[.int .i64 lk, .slice ia n ic, .slice oa m oc] 35)
  have HH : Hid ((TiAt w ia n X S ∧ ToAt w oa m O) ∧ (∀ i, i < n → SlAt w (S i).1 (X i).sn (Z i) ∧ (X i).sn ≤ 1000000) ∧ (∀ i, i < m → (O i).cn ≤ 1000 ∧ ∀ j, j < (O i).cn → ((O i).X j).n ≤ 1048576)) := ⟨⟨h, ho⟩, hz, hs⟩
  have eg : ∀ args w, (callFunc 41 args).run Tryz.prog w = .ok (.enter 41 args) w := enters_of Tryz.func41 (by kernel_rfl) rfl
  clear h ho hz hs
  unfold txv
  go_enter Tryz.func40, Tryz.ntmps40
  go_wp2_with fail
  generalize w.alloc (.cells #[.int .i64 lk, .slice ia n ic, .slice oa m oc] 35) = W0 at *
  have HC : Hid (∀ w', Below W0.heap.size W0 w' → w'.cell? ⟨w.heap.size, 0, none⟩ = some (.int .i64 lk) ∧ w'.cell? ⟨w.heap.size, 1, none⟩ = some (.slice ia n ic) ∧ w'.cell? ⟨w.heap.size, 2, none⟩ = some (.slice oa m oc)) := fun w' hb => by
    have := hb.block _ (lt_of_block hr0)
    rw [hr0] at this
    exact ⟨by rw [cell_of_row _ _ 0 _ _ _ this]; rfl, by rw [cell_of_row _ _ 1 _ _ _ this]; rfl, by rw [cell_of_row _ _ 2 _ _ _ this]; rfl⟩
  have HB0 : Hid (Below w.heap.size w W0) := hb0
  clear hr0 hb0
  refine (new_any W0).mono ?_
  rintro e w1 ⟨rfl, hw1⟩
  have hb1 : Below W0.heap.size W0 w1 := by rw [hw1]; exact (Below.refl _ _).alloc (Nat.le_refl _) _
  have HP1 : Hid (Cd.PutR W0 w1 [] none) := ⟨⟨none, by rw [hw1]; exact new_wr W0, fun k o e => by cases e⟩, hb1⟩
  clear hw1 hb1
  have hcall := number_put W0 w1 [] none lk HP1.out (by simp)
  obtain ⟨c0, c1, c2⟩ := HC.out w1 HP1.out.below
  go_wp2_with fail
  refine hcall.mono ?_
  rintro e w2 ⟨rfl, hP2⟩
  rw [List.nil_append] at hP2
  clear hcall c0 c1 c2 HP1
  have hle1 := Cd.uB_len (Cd.u64 lk)
  have hle2 := Cd.uB_len (Cd.u64 (n : Int))
  have hle3 := Cd.uB_len (Cd.u64 (m : Int))
  obtain ⟨c0, c1, c2⟩ := HC.out w2 hP2.below
  have hcall := number_put W0 w2 _ none n hP2 (by omega)
  clear hP2
  go_wp2_with fail
  refine hcall.mono ?_
  rintro e w3 ⟨rfl, hP3⟩
  clear hcall c0 c1 c2
  obtain ⟨c0, c1, c2⟩ := HC.out w3 hP3.below
  obtain ⟨L0, hL0⟩ : ∃ L, uB (Cd.u64 lk) ++ uB (Cd.u64 (n : Int)) = L := ⟨_, rfl⟩
  have hlL : L0.length ≤ 18 := by rw [← hL0, List.length_append]; omega
  have HL0 : Hid (uB (Cd.u64 lk) ++ uB (Cd.u64 (n : Int)) = L0) := hL0
  rw [hL0] at hP3
  clear hL0 hle1 hle2
  have HP3 : Hid (Cd.PutR W0 w3 (L0 ++ laidIns (noS X) Z 0) none) := by show Cd.PutR _ _ _ _; simpa [laidIns] using hP3
  clear hP3
  go_wp2
  have hP3 := HP3.out
  clear HP3 c0 c1 c2
  go_loopw [7, 24] (fun _ iv wr => ∃ i : Nat, i ≤ n ∧ iv = .int .i64 i ∧ Cd.PutR W0 wr (L0 ++ laidIns (noS X) Z i) none) (fun _ iv _ => n + 1 - (intOf iv).toNat)
  case atStart => exact ⟨0, by omega, rfl, hP3⟩
  case round =>
    clear hP3
    obtain ⟨i, hi, rfl, hP⟩ := hrel
    have HP : Hid (Cd.PutR W0 wr (L0 ++ laidIns (noS X) Z i) none) := hP
    clear hP
    have hll : (L0 ++ laidIns (noS X) Z i).length ≤ 18 + 2000052 * 1000 := by
      have := laidIns_len (noS X) Z i (fun j _ => by simp [noS])
      rw [List.length_append]; omega
    by_cases hlt : i < n
    · have hlt' : (i : Int) < n := by omega
      obtain ⟨b, off, rfl, hc⟩ := HH.out.1.1.at_ (by omega)
      have HR : Hid (wr.rangeAt b (off + i * 35) (til (X i) (S i).1 (S i).2)) := range_below (range_below (hc i hlt) HB0.out) HP.out.below
      have HZ : Hid (Hb (X i).pt ∧ SlAt W0 (S i).1 (X i).sn (Z i)) := ⟨HH.out.1.1.pt i hlt, (HH.out.2.1 i hlt).1.below HB0.out⟩
      have hsn := (HH.out.2.1 i hlt).2
      have HI : Hid (L0 ++ laidIns (noS X) Z (i + 1) = L0 ++ laidIns (noS X) Z i ++ hB (X i).pt ++ uB (Cd.u64 (X i).n) ++ uB (Cd.u64 (X i).br) ++ (escF (Z i) 0 ++ [0, 0])) := by show _ = _; simp only [laidIns, laidIn, noS, List.append_assoc]
      obtain ⟨L, hL⟩ : ∃ L, L0 ++ laidIns (noS X) Z i = L := ⟨_, rfl⟩
      rw [hL] at HP HI hll
      obtain ⟨x, hx⟩ : ∃ x, X i = x := ⟨_, rfl⟩
      rw [hx] at HR HZ HI hsn
      obtain ⟨⟨sa, sc⟩, hsc⟩ : ∃ s, S i = s := ⟨_, rfl⟩
      rw [hsc] at HR HZ
      clear hc hL hx hsc
      have hle1 := Cd.uB_len (Cd.u64 x.n)
      have hle2 := Cd.uB_len (Cd.u64 x.br)
      have hlh := hB_length x.pt
      go_wp2_with (first | (refine wpList_load_mid rfl 59 _ rfl b (off + i * 35) rfl (til x sa sc) _ HR.out Tryz.underlying59 rfl (szTil _ _ _) ?_) | (refine wpList_allocG 59 (tiv ti0 none 0) run_allocTi rfl rfl ?_) | (refine wpList_storeG 59 szTi rfl _ _ rfl wr.heap.size rfl (tiv x sa sc) (tiv ti0 none 0) (tiv_size _ _ _) (tiv_size _ _ _) (tiv_one _ _ _) 59 rfl (heap_alloc_new wr _) ?_; intro w4 hg4 hf4; have HP4 : Hid (Cd.PutR W0 w4 L (some (wr.heap.size, .cells (tiv x sa sc) 59 (0, 0)))) := HP.out.hold (kfrm_new hf4) hg4; have HR4 : Hid (w4.rangeAt wr.heap.size 0 (bl x.pt 32)) := til_pt hg4; clear hg4 hf4) | (refine wpList_load_mid rfl 43 _ rfl wr.heap.size 0 rfl (bl x.pt 32) _ HR4.out Tryz.underlying43 rfl (Cd.szHl _) ?_) | fail)
      refine (Cd.hash_put W0 w4 L _ x.pt HP4.out (by omega) HZ.out.1).mono ?_
      rintro e w5 ⟨rfl, hP5⟩
      have c32 := cell_list hP5.held (til_32 x sa sc)
      have HP5 : Hid _ := hP5
      clear hP5 HP4 HR4
      have hcall := number_put W0 w5 _ _ x.n HP5.out (by simp only [List.length_append]; omega)
      go_wp2_with fail
      refine hcall.mono ?_
      rintro e w6 ⟨rfl, hP6⟩
      have c33 := cell_list hP6.held (til_33 x sa sc)
      have HP6 : Hid _ := hP6
      clear hP6 HP5 hcall c32
      have hcall := number_put W0 w6 _ _ x.br HP6.out (by simp only [List.length_append]; omega)
      go_wp2_with fail
      refine hcall.mono ?_
      rintro e w7 ⟨rfl, hP7⟩
      have HP7 : Hid _ := hP7
      have HR7 : Hid (w7.rangeAt wr.heap.size 0 (til x sa sc)) := til_range hP7.held
      clear hP7 HP6 hcall c33
      have hcall := kid1_any x sa sc w7
      unfold tiv at hcall
      go_wp2_with (first | (refine wpList_load_mid rfl 59 _ rfl wr.heap.size 0 rfl (til x sa sc) _ HR7.out Tryz.underlying59 rfl (szTil _ _ _) ?_) | (go_at_fn 41; refine hcall.mono ?_; rintro e w8 ⟨rfl, hb8⟩) | fail)
      have HP8 : Hid _ := HP7.out.keep hb8
      clear hb8 hcall HP7 HR7
      refine (bytes_put W0 w8 _ _ none 0 0 (Z i) HP8.out (by simp only [List.length_append]; omega) (SlAt.zero _ _)).mono ?_
      rintro e w9 ⟨rfl, hP9⟩
      have HP9 : Hid (Cd.PutR W0 w9 (L0 ++ laidIns (noS X) Z (i + 1)) none) := by
        show Cd.PutR _ _ _ _
        rw [HI.out]
        exact hP9.drop
      clear hP9 HP8
      go_wp2
      go_roundw
      case rel => exact ⟨i + 1, by omega, by go_num, HP9.out⟩
      case measure => simp [intOf]; omega
    · obtain rfl : i = n := by omega
      have hnn : ¬ ((i : Int) < i) := by omega
      obtain ⟨c0, c1, c2⟩ := HC.out wr HP.out.below
      have HLA : Hid (laidTx0 lk i (noS X) Z m = (L0 ++ laidIns (noS X) Z i) ++ uB (Cd.u64 (m : Int))) := by show _ = _; rw [← HL0.out]; simp only [laidTx0, List.append_assoc]
      have HLT : Hid (laidT lk i (noS X) Z m O = laidTx0 lk i (noS X) Z m ++ laidOuts O m) := rfl
      obtain ⟨LA, hLA⟩ : ∃ L, laidTx0 lk i (noS X) Z m = L := ⟨_, rfl⟩
      rw [hLA] at HLA HLT
      obtain ⟨LT, hLT⟩ : ∃ L, laidT lk i (noS X) Z m O = L := ⟨_, rfl⟩
      have HLE : Hid (laidT lk i (noS X) Z m O = LT) := hLT
      rw [hLT] at HLT
      have hlA : LA.length ≤ 27 + 2000052 * 1000 := by rw [HLA.out, List.length_append]; omega
      have hcall := number_put W0 wr _ none m HP.out (by omega)
      rw [← HLA.out] at hcall
      clear hLA hLT HLA HL0 hll hle3
      generalize wr = wo at *
      go_wp2_with fail
      refine hcall.mono ?_
      rintro e w4 ⟨rfl, hP4⟩
      clear hcall c0 c1 c2 HP
      obtain ⟨c0, c1, c2⟩ := HC.out w4 hP4.below
      obtain ⟨g, hg, -⟩ := hP4.at_
      have hcall := wrDoneO_any _ _ g LA w4 hg (by omega)
      have HB4 : Hid (Below W0.heap.size W0 w4) := hP4.below
      clear hP4 hg
      go_wp2_with fail
      refine hcall.mono ?_
      rintro e w5 ⟨v5, rfl, hO5⟩
      clear hcall c0 c1 c2
      have HO5 : Hid (Ow W0 w5 v5 (LA ++ laidOuts O 0)) := by show Ow _ _ _ _; simpa [laidOuts] using hO5.mono HB4.out
      clear hO5 HB4
      obtain ⟨c0, c1, c2⟩ := HC.out w5 HO5.out.below
      go_wp2
      have hO5 := HO5.out
      clear HO5 c0 c1 c2
      obtain ⟨a5, k5, c5, rfl⟩ := hO5.form3
      go_loopw [8, 10, 58] (fun bv _ iv wr => ∃ (q : Nat) (ad : Option Addr) (k c : Nat), q ≤ m ∧ iv = .int .i64 q ∧ bv = .slice ad k c ∧ Ow W0 wr (.slice ad k c) (LA ++ laidOuts O q)) (fun _ _ iv _ => m + 1 - (intOf iv).toNat)
      case atStart => exact ⟨0, a5, k5, c5, by omega, rfl, rfl, hO5⟩
      case round =>
        clear hO5
        obtain ⟨q, ad, k, c, hq, rfl, rfl, hO⟩ := hrel
        have HO : Hid (Ow W0 wr (.slice ad k c) (LA ++ laidOuts O q)) := hO
        clear hO
        have hll := laidOuts_len O q (fun j hj => HH.out.2.2 j (by omega))
        have hll2 : (LA ++ laidOuts O q).length ≤ 2000053000 + 9447284 * 1000 * 1000 := by rw [List.length_append]; omega
        by_cases hlt : q < m
        · have hlt' : (q : Int) < m := by omega
          obtain ⟨b, off, rfl, hc⟩ := HH.out.1.2.at_ (by omega)
          obtain ⟨ca, cc, hr0, hbr, _⟩ := hc q hlt
          have HR : Hid (wr.rangeAt b (off + q * 2) (tol (O q) ca cc)) := range_below (range_below hr0 HB0.out) HO.out.below
          have HX : Hid (Cd.BrAt wr ca (O q).cn (O q).X) := (hbr.below HB0.out).below HO.out.below
          have HQ : Hid (LA ++ laidOuts O (q + 1) = LA ++ laidOuts O q ++ laidO (O q)) := by show _ = _; simp only [laidOuts, List.append_assoc]
          have hsm := HH.out.2.2 q hlt
          have hlo := laidO_len (O q) hsm
          obtain ⟨L, hL⟩ : ∃ L, LA ++ laidOuts O q = L := ⟨_, rfl⟩
          rw [hL] at HO HQ hll2
          obtain ⟨x, hx⟩ : ∃ x, O q = x := ⟨_, rfl⟩
          rw [hx] at HR HX HQ hsm hlo
          clear hc hr0 hbr hL hx hll
          have c0 : wr.cell? ⟨b, off + q * 2, none⟩ = some (.int .i64 x.am) := by simpa using HR.out 0 _ rfl
          have c1 : wr.cell? ⟨b, off + q * 2 + 1, none⟩ = some (.slice ca x.cn cc) := HR.out 1 _ rfl
          have HA : Hid (Below wr.heap.size wr (wr.alloc (.cells #[.int .i64 x.am, .slice ca x.cn cc] 79))) := (Below.refl _ _).alloc (Nat.le_refl _) _
          have hcall := layOut_any x ca cc (wr.alloc (.cells #[.int .i64 x.am, .slice ca x.cn cc] 79)) (HX.out.below HA.out) hsm.1 (fun j hj => by have := hsm.2 j hj; omega)
          unfold tov at hcall
          have HO1 := yhid (HO.out.keepB HA.out)
          clear HO
          go_wp2_with fail
          generalize wr.alloc (.cells #[.int .i64 x.am, .slice ca x.cn cc] 79) = w6 at *
          refine hcall.mono ?_
          rintro e w7 ⟨u, rfl, hU⟩
          have HO7 := yhid (And.intro (HO1.out.keepB hU.below) (And.intro (hU.src (Below.refl _ _)) hU.bd))
          clear hcall hU HO1
          go_wp2_with (at_builtin; refine wpList_append_B rfl _ _ rfl W0 _ _ L (laidO x) rfl rfl HO7.out.1 HO7.out.2.1 HO7.out.2.2 (by omega) ?_; intro v8 w8 hO8)
          have HO8 : Hid (Ow W0 w8 v8 (LA ++ laidOuts O (q + 1))) := by show Ow _ _ _ _; rw [HQ.out]; exact hO8
          obtain ⟨a8, k8, c8, rfl⟩ := HO8.out.form3
          go_roundw
          case rel => exact ⟨q + 1, a8, k8, c8, by omega, by go_num, rfl, HO8.out⟩
          case measure => simp [intOf]; omega
        · obtain rfl : q = m := by omega
          have hnn : ¬ ((q : Int) < q) := by omega
          have HE : Hid (Ow w wr (.slice ad k c) LT) := by show Ow _ _ _ _; rw [HLT.out]; exact HO.out.mono HB0.out
          go_wp2
          go_ret
          exact ⟨_, rfl, by rw [HLE.out]; exact HE.out⟩
end Go.Proofs.YtanchjfodcjlmaaGreatDoor
