/- TimerOnce, on a queue's contracts. -/
import Derived.Test.YthnobkiiaflelaaTOnM
import Derived.Deep.CutBlock
import Derived.Deep.DeepCutAuto
import Derived.Deep.QuietTactic
import Derived.BigQuiet
namespace Go.Proofs.Ythnobkiiaflelaa
open Go.RowKit Go.Maps Go.Sort

attribute [local go_sem ↓] Go.wp_at_zero Go.wp_at_succ

set_option maxRecDepth 100000 in
set_option maxHeartbeats 6400000 in
theorem once_any {QS : World → (Nat → Prop) → Nat → List Ev → Int → Prop} (hK : QK0 QS) (ad td : Option Addr) (cap cap2 : Nat) (ks ts : List Int) (w : World) (hk : IsL w ad ks) (hks : ks.length ≤ 140737488355328) (ht : IsL w td ts) (hts : ts.length ≤ 140737488355328) :
    Calls Try.prog 3 #[.slice ad ks.length cap, .slice td ts.length cap2] w fun e w' => e = .returned (.bool true) ∧ Below w.heap.size w w' := by
  have HK : Hid (QK0 QS) := hK
  have HI : Hid (IsL w ad ks ∧ IsL w td ts) := ⟨hk, ht⟩
  clear hK hk ht
  go_enter Try.func3, Try.ntmps3
  go_wp2_with fail
  refine (HK.out.new w).mono ?_
  rintro e w1 ⟨p, A1, rfl, hq1, hA1, hb1⟩
  have HC1 : Hid (OnI QS w w1 A1 p 0 (.slice none 0 0) [] []) := ⟨⟨hq1, hA1⟩, World.ownsRow_nil _ _ _ _, (fun k e => by cases e), hb1⟩
  clear hq1 hA1 hb1
  go_wp2_with fail
  go_loopw [6, 7, 8, 9, 10] (fun wv iv _ _ _ wr => ∃ (i : Nat) (A : Nat → Prop) (W : List Int) (L : List Ev), i ≤ ks.length ∧ i ≤ 60 ∧ iv = .int .i64 i ∧ W.length = i ∧ L.length = i ∧ OnI QS w wr A p i wv W L ∧ OnM W L) (fun _ iv _ _ _ _ => ks.length - (intOf iv).toNat)
  case atStart => exact ⟨0, A1, [], [], Nat.zero_le _, Nat.zero_le _, rfl, rfl, rfl, HC1.out, OnM.nil⟩
  case round =>
    clear HC1
    obtain ⟨i, A, W, L, hi, hi6, rfl, hWl, hLl, hO, hM⟩ := hrel
    obtain ⟨ad6, cap6, hv6⟩ := ints_form hO.row
    subst hv6
    have HO : Hid (OnI QS w wr A p i (.slice ad6 W.length cap6) W L) := hO
    have HM : Hid (OnM W L ∧ W.length = i ∧ L.length = i) := ⟨hM, hWl, hLl⟩
    rw [hWl] at HO ⊢
    clear hO hM hLl
    go_upto_region 6 with fail
    go_cut [28] (fun v wd => v = .bool (decide (i < ks.length ∧ i < 60)) ∧ wd = wr)
    case first =>
      by_cases h1 : i < ks.length
      · have h1' : (i : Int) < ks.length := by omega
        by_cases h2 : i < 60
        · have h2' : (i : Int) < 60 := by omega
          go_wp2_with fail
          go_meet
          exact ⟨by simp [h1, h2], rfl⟩
        · have h2' : ¬ ((i : Int) < 60) := by omega
          go_wp2_with fail
          go_meet
          exact ⟨by simp [h2], rfl⟩
      · have h1' : ¬ ((i : Int) < ks.length) := by omega
        go_wp2_with fail
        go_meet
        exact ⟨by simp [h1], rfl⟩
    case rest =>
    obtain ⟨rfl, rfl⟩ := hcut
    by_cases hlt : i < ks.length ∧ i < 60
    · rw [decide_eq_true hlt]
      obtain ⟨hlt, hlt6⟩ := hlt
      have hlt' : (i : Int) < ks.length := by omega
      have hlt6' : (i : Int) < 60 := by omega
      have hx : ks[i]? = some ks[i] := List.getElem?_eq_getElem hlt
      obtain ⟨bb, off, rfl, hc⟩ := (HI.out.1.below HO.out.below) (by omega)
      have c0 := hc i _ hx
      obtain ⟨d, hd, hrem⟩ := rem_ix ks[i] 1000 (by omega) (by omega)
      clear hc hx hWl
      generalize ks[i] = x at *
      have hrem' : wrap64 ((IntKind.u64.wrap x).tmod 1000) = (d : Int) := hrem
      clear hrem
      have hE : addE (d : Int) [] = 0 := addE_ok (by omega) (by omega) (by simp)
      have hI : addI (i : Int) (d : Int) [] = (i : Int) + 1 := by simp [addI, hE]
      go_wp2_with fail
      refine (HK.out.add (d : Int) [] HO.out.q.q (by omega) ⟨by omega, by omega⟩ (by decide)).mono ?_
      rintro e w2 ⟨A2, rfl, hr2⟩
      rw [hE, hI]
      have hO2 : OnI QS w w2 A2 p ((i + 1 : Nat) : Int) (.slice ad6 i cap6) W (insE ⟨W.length + 1, d, []⟩ L) := by
        have h1 := HO.out.call hr2
        simp only [addL, addN, hE, if_true] at h1
        rw [HM.out.2.1]
        exact h1
      have hnl : errV 0 = .nilIface := rfl
      rw [hnl]
      obtain ⟨w3, hw3⟩ : ∃ w3, w2.alloc (.cells #[.int .i64 (d : Int)] 3) = w3 := ⟨_, rfl⟩
      have hb3 : Below w2.heap.size w2 w3 := by rw [← hw3]; exact (Below.refl _ w2).alloc (Nat.le_refl _) _
      have hO3 := hO2.keepB HK.out hb3
      have c3 : w3.cell? ⟨w2.heap.size, 0, none⟩ = some (.int .i64 (d : Int)) := by rw [← hw3]; simp
      have HN : Hid (∀ v' w4, w4.ownsRow w.heap.size 3 1 v' (W ++ [(d : Int)]).length (iC (W ++ [(d : Int)])) → w3.grownBy w4 (Value.slice ad6 i cap6).ownBlock → (v'.ownBlock = (Value.slice ad6 i cap6).ownBlock ∨ v'.ownBlock = some w3.heap.size) → OnI QS w w4 A2 p ((i + 1 : Nat) : Int) v' (W ++ [(d : Int)]) (insE ⟨W.length + 1, d, []⟩ L)) := fun v' w4 h1 h2 h3 => hO3.grow HK.out h2 h1 h3
      have HR3 : Hid (w3.ownsRow w.heap.size 3 1 (.slice ad6 i cap6) W.length (iC W) ∧ w.heap.size ≤ w3.heap.size ∧ W.length ≤ 100000) := ⟨hO3.row, hO3.below.size, by have := HM.out.2.1; omega⟩
      clear hr2 hE hI c0 hnl hO2 hb3 hO3 HO
      go_wp2_with (first | (at_builtin; refine wpList_append_Ir rfl _ _ rfl w.heap.size (.slice ad6 i cap6) W w2.heap.size 1 (d : Int) rfl rfl HR3.out.1 c3 HR3.out.2.2 HR3.out.2.1 ?_; intro v' w4 h1 h2 h3; have HP : Hid (OnI QS w w4 A2 p ((i + 1 : Nat) : Int) v' (W ++ [(d : Int)]) (insE ⟨W.length + 1, d, []⟩ L)) := HN.out v' w4 h1 h2 h3; clear h1 h2 h3) | fail)
      exact ⟨⟨i + 1, A2, W ++ [(d : Int)], _, by omega, by omega, by go_num, by have := HM.out.2.1; simp; omega, by have := HM.out.2.2; rw [(insE_perm _ L).length_eq, List.length_cons]; omega, HP.out, HM.out.1.ins _ (by omega)⟩, by simp [intOf]; omega⟩
    · rw [decide_eq_false hlt]
      clear hlt
      obtain ⟨wv, hwv⟩ : ∃ wv, Value.slice ad6 i cap6 = wv := ⟨_, rfl⟩
      have HO0 : Hid (OnI QS w wc A p i (.slice ad6 i cap6) W L ∧ OnM W L ∧ W.length = i ∧ L.length = i) := ⟨HO.out, HM.out⟩
      clear HO HM hwv hWl
      go_wp2_with fail
      go_loopw [11, 12, 13] (fun nv sv jv wr => ∃ (j nw sn : Nat) (A : Nat → Prop) (W : List Int) (L : List Ev), j ≤ ts.length ∧ j ≤ 40 ∧ nv = .int .i64 nw ∧ sv = .int .i64 sn ∧ jv = .int .i64 j ∧ nw < 1000 ∧ sn + L.length ≤ i ∧ W.length = i ∧ OnI QS w wr A p i (.slice ad6 i cap6) W L ∧ OnM W L ∧ (0 < j → ∀ x ∈ L, (nw : Int) < x.due)) (fun _ _ jv _ => ts.length + 1 - (intOf jv).toNat)
      case atStart => exact ⟨0, 0, 0, A, W, L, Nat.zero_le _, Nat.zero_le _, rfl, rfl, rfl, by omega, by have := HO0.out.2.2.2; omega, HO0.out.2.2.1, HO0.out.1, HO0.out.2.1, (fun h => by omega)⟩
      case round =>
        clear HO0
        clear W L A
        obtain ⟨j, nw, sn, A, W, L, hj, hj4, rfl, rfl, rfl, hnw, hsn, hWl, hO, hM, hfrom⟩ := hrel
        have HO : Hid (OnI QS w wr A p i (.slice ad6 i cap6) W L) := hO
        have HM : Hid (OnM W L ∧ W.length = i ∧ (0 < j → ∀ x ∈ L, (nw : Int) < x.due)) := ⟨hM, hWl, hfrom⟩
        have hj' : (j : Int) ≤ ts.length := by omega
        have hj4' : (j : Int) ≤ 40 := by omega
        clear hO hM hfrom hWl
        go_upto_region 18 with fail
        go_cut [74] (fun v wd => v = .bool (decide (j < ts.length ∧ j < 40)) ∧ wd = wr)
        case first =>
          by_cases h1 : j < ts.length
          · have h1' : (j : Int) < ts.length := by omega
            by_cases h2 : j < 40
            · have h2' : (j : Int) < 40 := by omega
              go_wp2_with fail
              go_meet
              exact ⟨by simp [h1, h2], rfl⟩
            · have h2' : ¬ ((j : Int) < 40) := by omega
              go_wp2_with fail
              go_meet
              exact ⟨by simp [h2], rfl⟩
          · have h1' : ¬ ((j : Int) < ts.length) := by omega
            go_wp2_with fail
            go_meet
            exact ⟨by simp [h1], rfl⟩
        case rest =>
        obtain ⟨rfl, rfl⟩ := hcut
        go_upto_if 74 with fail
        go_cut [11] (fun v wd => wd = wc ∧ ∃ nn : Nat, v = .int .i64 nn ∧ nw ≤ nn ∧ nn < 1200 ∧ ((j < ts.length ∧ j < 40) ∨ nn = 1000))
        case first =>
          by_cases h12 : j < ts.length ∧ j < 40
          · rw [decide_eq_true h12]
            obtain ⟨h1, h2⟩ := h12
            have hx : ts[j]? = some ts[j] := List.getElem?_eq_getElem h1
            obtain ⟨bb, off, rfl, hc⟩ := (HI.out.2.below HO.out.below) (by omega)
            have c0 := hc j _ hx
            obtain ⟨d, hd, hrem⟩ := rem_ix ts[j] 200 (by omega) (by omega)
            have h1' : (j : Int) < ts.length := by omega
            clear hc hx
            generalize ts[j] = x at *
            have hrem' : wrap64 ((IntKind.u64.wrap x).tmod 200) = (d : Int) := hrem
            clear hrem
            go_wp2_with fail
            go_meet
            exact ⟨rfl, nw + d, by simp, by omega, by omega, .inl ⟨h1, h2⟩⟩
          · rw [decide_eq_false h12]
            go_wp2_with fail
            go_meet
            exact ⟨rfl, 1000, rfl, by omega, by omega, .inr rfl⟩
        case rest =>
        obtain ⟨rfl, nn, rfl, hnn, hnn2, hnn3⟩ := hcut
        go_wp2_with fail
        refine (HK.out.pop (nn : Int) HO.out.q.q (by omega) ⟨by omega, by omega⟩).mono ?_
        rintro e w2 ⟨A2, ld, lc, rfl, hr2, hev, hfar, hcap⟩
        have hup := (HK.out.ok HO.out.q.q).up
        have hO2 := HO.out.call hr2
        have hpl := due_len (nn : Int) L
        have HP : Hid (OnM W (dueE nn L ++ restE nn L) ∧ (∀ x ∈ dueE nn L, x.due ≤ (nn : Int)) ∧ (0 < j → ∀ x ∈ dueE nn L, (nw : Int) < x.due) ∧ UpE (dueE nn L) ∧ (∀ x ∈ restE nn L, (nn : Int) < x.due) ∧ ∀ x ∈ restE nn L, x ∈ L) :=
          ⟨by rw [dueE_rest]; exact HM.out.1, fun x hx => due_due x hx, fun h0 x hx => HM.out.2.2 h0 x (by rw [← dueE_rest nn L]; exact List.mem_append_left _ hx), due_up hup, fun x hx => rest_due hup x hx, fun x hx => by rw [← dueE_rest nn L]; exact List.mem_append_right _ hx⟩
        have HF : Hid (∀ a k, ld = some a → (Value.slice ad6 i cap6).ownBlock = some k → k ≠ a.block) := fun a k e1 e2 => by
          have := (hfar a e1).2
          have := (HO.out.row.lt k e2).2
          omega
        have HL0 : Hid (OnI QS w w2 A2 p i (.slice ad6 i cap6) W (restE nn L) ∧ EvAt w2 ld (dueE nn L) ∧ W.length = i) := ⟨hO2, hev, HM.out.2.1⟩
        generalize dueE nn L = P at *
        generalize restE nn L = Rr at *
        clear hr2 hev hfar hup hO2 HO HM
        go_wp2_with fail
        go_loopw [12, 16, 17] (fun sv kv _ wr => ∃ (k : Nat) (W : List Int), k ≤ P.length ∧ kv = .int .i64 k ∧ sv = .int .i64 ((sn + k : Nat) : Int) ∧ W.length = i ∧ OnI QS w wr A2 p i (.slice ad6 i cap6) W Rr ∧ OnM W (P.drop k ++ Rr) ∧ EvAt wr ld P) (fun _ kv _ _ => P.length - (intOf kv).toNat)
        case atStart => exact ⟨0, W, Nat.zero_le _, rfl, rfl, HL0.out.2.2, HL0.out.1, HP.out.1, HL0.out.2.1⟩
        case round =>
          have HP' : Hid ((∀ x ∈ P, x.due ≤ (nn : Int)) ∧ (0 < j → ∀ x ∈ P, (nw : Int) < x.due) ∧ UpE P ∧ (∀ x ∈ Rr, (nn : Int) < x.due)) := ⟨HP.out.2.1, HP.out.2.2.1, HP.out.2.2.2.1, HP.out.2.2.2.2.1⟩
          clear HL0 HP
          clear W
          obtain ⟨k, W, hk, rfl, rfl, hWl, hO, hM, hE⟩ := hrel
          have HO : Hid (OnI QS w wr A2 p i (.slice ad6 i cap6) W Rr ∧ OnM W (P.drop k ++ Rr) ∧ EvAt wr ld P ∧ W.length = i) := ⟨hO, hM, hE, hWl⟩
          clear hO hM hE hWl
          by_cases hkP : k < P.length
          · have hkP' : (k : Int) < P.length := by omega
            have hx : P[k]? = some P[k] := List.getElem?_eq_getElem hkP
            obtain ⟨lb, lo, rfl, hc⟩ := HO.out.2.2.1 (by omega)
            obtain ⟨c0, c1, c2⟩ := hc k _ hx
            have hdr : P.drop k ++ Rr = P[k] :: (P.drop (k + 1) ++ Rr) := by rw [List.drop_eq_getElem_cons hkP]; rfl
            have hM1 := HO.out.2.1
            rw [hdr] at hM1
            obtain ⟨i1, i2, i3⟩ := hM1.ids _ (List.mem_cons_self ..)
            have hW2 := hM1.step
            have hdu := HP'.out.1 _ (List.getElem_mem hkP)
            have hfr : 0 < j → (nw : Int) < P[k].due := fun h0 => HP'.out.2.1 h0 _ (List.getElem_mem hkP)
            have hpv : 0 < k → ∃ y : Ev, wr.cell? ⟨lb, lo + (k - 1) * 3, none⟩ = some (.int .i64 y.id) ∧ wr.cell? ⟨lb, lo + (k - 1) * 3 + 1, none⟩ = some (.int .i64 y.due) ∧ (y.due < P[k].due ∨ (y.due = P[k].due ∧ y.id < P[k].id)) := fun h0 => by
              have hk1 : k - 1 < P.length := by omega
              obtain ⟨d0, d1, _⟩ := hc (k - 1) P[k - 1] (List.getElem?_eq_getElem hk1)
              exact ⟨P[k - 1], d0, d1, ltE_iff.1 (List.pairwise_iff_getElem.1 HP'.out.2.2.1 (k - 1) k hk1 hkP (by omega))⟩
            rw [HO.out.2.2.2] at i2
            have hlow := HO.out.1.row
            obtain ⟨g, rfl, -, hcap6, hgl, hgB, hgc, hgf⟩ := ints_at hlow (by have := HO.out.2.2.2; omega)
            have wc0 := hgc _ _ i3
            have hgne : g ≠ lb := HF.out ⟨lb, lo, none⟩ g rfl rfl
            have hlbl : lb < wr.heap.size := World.block_lt_of_cell? wr _ c0
            obtain ⟨xd, hxd⟩ : ∃ z, P[k].due = z := ⟨_, rfl⟩
            obtain ⟨xn, hxn⟩ : ∃ z, P[k].nm = z := ⟨_, rfl⟩
            rw [hxd] at c1 wc0 hdu
            rw [hxn] at c2
            obtain ⟨xi, hxi⟩ : ∃ z : Int, P[k].id = z := ⟨_, rfl⟩
            rw [hxi] at c0 wc0 i1 i2 hW2
            rw [hxd, hxi] at hpv
            rw [hxd] at hfr
            obtain ⟨we, hwe⟩ : ∃ we, wr.alloc (.cells #[.int .i64 xi, .int .i64 xd, .string ⟨xn.toArray⟩] 33) = we := ⟨_, rfl⟩
            have hbe : Below wr.heap.size wr we := by rw [← hwe]; exact (Below.refl _ wr).alloc (Nat.le_refl _) _
            have hwb : we.heap[wr.heap.size]? = some (.cells #[.int .i64 xi, .int .i64 xd, .string ⟨xn.toArray⟩] 33 (0, 0)) := by
              rw [← hwe]; exact heap_alloc_new wr _
            have e0 : we.cell? ⟨wr.heap.size, 0, none⟩ = some (.int .i64 xi) := by rw [cell_of_row _ _ 0 _ _ _ hwb]; rfl
            have e1 : we.cell? ⟨wr.heap.size, 1, none⟩ = some (.int .i64 xd) := by rw [cell_of_row _ _ 1 _ _ _ hwb]; rfl
            have wc1 : we.cell? ⟨g, (xi - 1).toNat, none⟩ = some (.int .i64 xd) := by rw [hbe.cell (p := ⟨g, (xi - 1).toNat, none⟩) hgl]; exact wc0
            have wf1 : we.frozen? ⟨g, (xi - 1).toNat, none⟩ = false := by rw [hbe.frozen (p := ⟨g, (xi - 1).toNat, none⟩) hgl]; exact hgf _
            have HN : Hid (∀ z, OnI QS w ((we.drewN z).setCell ⟨g, (xi - 1).toNat, none⟩ (.int .i64 (-1))) A2 p i (.slice (some ⟨g, 0, none⟩) i cap6) (W.set (xi - 1).toNat (-1)) Rr ∧ EvAt ((we.drewN z).setCell ⟨g, (xi - 1).toNat, none⟩ (.int .i64 (-1))) (some ⟨lb, lo, none⟩) P) := fun z => by
              have h1 := HO.out.1.keepB HK.out (below_drewN hbe z)
              have hr1 := h1.row
              rw [← HO.out.2.2.2] at hr1
              refine ⟨h1.grow HK.out (v' := .slice (some ⟨g, 0, none⟩) i cap6) ⟨rfl, rfl, rfl, by simp [World.setCell], fun m hm hne => setc _ _ _ _ (fun e => hne (by rw [e]; rfl))⟩ ?_ (.inl rfl), ?_⟩
              · have := ints_set hr1 (-1) (j := (xi - 1).toNat) (by have := HO.out.2.2.2; omega)
                rw [List.length_set, HO.out.2.2.2] at this
                rw [List.length_set, HO.out.2.2.2]
                exact this
              · refine HO.out.2.2.1.keep fun a e _ => ?_
                cases e
                rw [setc _ _ _ _ (Ne.symm hgne)]
                exact hbe.block lb hlbl
            have HN2 : Hid (OnM (W.set (xi - 1).toNat (-1)) (P.drop (k + 1) ++ Rr) ∧ (W.set (xi - 1).toNat (-1)).length = i) := ⟨hW2, by rw [List.length_set]; exact HO.out.2.2.2⟩
            obtain ⟨q, hqt⟩ : ∃ q : Nat, (xi - 1).toNat = q := ⟨_, rfl⟩
            have hwq : IntKind.i64.wrap (q : Int) = (q : Int) := by rw [IntKind.wrap_i64]; omega
            have hwx : IntKind.i64.wrap (xi - 1) = (q : Int) := by rw [IntKind.wrap_i64]; omega
            have hwx2 : wrap64 (xi - 1) = (q : Int) := by unfold wrap64; omega
            have hqi : (q : Int) < i := by omega
            rw [hqt] at wc1 wf1 HN HN2
            clear hqt
            have b1 : decide (xi < 1) = false := decide_eq_false (by omega)
            have b2 : decide ((i : Int) < xi) = false := decide_eq_false (by omega)
            have b4 : decide ((nn : Int) < xd) = false := decide_eq_false (by omega)
            have b3 : (xd != xd) = false := by simp
            have HBE : Hid (Below wr.heap.size wr we) := hbe
            clear hc hx hdr hM1 i1 i2 i3 hW2 hxi hlow hgc hgf hxd hxn hbe hwb wc0 hgne HF HP' HO
            by_cases hj0 : j = 0
            · have hj0' : ¬ ((0 : Int) < j) := by omega
              have b5 : decide ((0 : Int) < j) = false := decide_eq_false hj0'
              have b5' : decide (0 < j) = false := decide_eq_false (by omega)
              clear hj0
              by_cases hk0 : k = 0
              · have hk0' : ¬ ((0 : Int) < k) := by omega
                have b7 : decide ((0 : Int) < k) = false := decide_eq_false hk0'
                have b7' : decide (0 < k) = false := decide_eq_false (by omega)
                clear hpv hfr hk0
                as_aux_lemma =>
                  go_upto_region 26 with fail
                  try rw [hwe]
                  simp only [List.append_eq, List.cons_append, List.nil_append]
  
                  go_quiet (fail)
                  go_wp2
                  go_roundw
                  case rel => exact ⟨k + 1, W.set q (-1), hkP, by go_num, by go_num, HN2.out.2, (HN.out _).1, HN2.out.1, (HN.out _).2⟩
                  case measure => simp [intOf]; omega
              · clear hfr
                obtain ⟨y, d0, d1, hy⟩ := hpv (by omega)
                have d0' : we.cell? ⟨lb, lo + (k - 1) * 3, none⟩ = some (.int .i64 y.id) := by rw [HBE.out.cell (p := ⟨lb, lo + (k - 1) * 3, none⟩) hlbl]; exact d0
                have d1' : we.cell? ⟨lb, lo + (k - 1) * 3 + 1, none⟩ = some (.int .i64 y.due) := by rw [HBE.out.cell (p := ⟨lb, lo + (k - 1) * 3 + 1, none⟩) hlbl]; exact d1
                clear d0 d1
                have hk1 : (k : Int) - 1 = ((k - 1 : Nat) : Int) := by omega
                have hk1w : IntKind.i64.wrap ((k : Int) - 1) = ((k - 1 : Nat) : Int) := by rw [IntKind.wrap_i64]; omega
                have hk1l : ((k - 1 : Nat) : Int) < P.length := by omega
                have hk0 : (0 : Int) < k := by omega
                have b7 : decide ((0 : Int) < k) = true := decide_eq_true hk0
                have b7' : decide (0 < k) = true := decide_eq_true (by omega)
                generalize y.id = yi at *
                generalize y.due = yd at *
                by_cases hyd : yd = xd
                · have b10 : decide (xi ≤ yi) = false := decide_eq_false (by omega)
                  subst hyd
                  have b8 : decide (yd < yd) = false := decide_eq_false (by omega)
                  have b9 : (yd == yd) = true := by simp
                  as_aux_lemma =>
                    go_upto_region 26 with fail
                    try rw [hwe]
                    simp only [List.append_eq, List.cons_append, List.nil_append]
  
                    go_quiet (fail)
                    go_wp2
                    go_roundw
                    case rel => exact ⟨k + 1, W.set q (-1), hkP, by go_num, by go_num, HN2.out.2, (HN.out _).1, HN2.out.1, (HN.out _).2⟩
                    case measure => simp [intOf]; omega
                · have hyd' : yd < xd := by omega
                  have hyb : (yd == xd) = false := by simpa using hyd
                  have b8 : decide (xd < yd) = false := decide_eq_false (by omega)
                  as_aux_lemma =>
                    go_upto_region 26 with fail
                    try rw [hwe]
                    simp only [List.append_eq, List.cons_append, List.nil_append]
  
                    go_quiet (fail)
                    go_wp2
                    go_roundw
                    case rel => exact ⟨k + 1, W.set q (-1), hkP, by go_num, by go_num, HN2.out.2, (HN.out _).1, HN2.out.1, (HN.out _).2⟩
                    case measure => simp [intOf]; omega
            · have hj0' : (0 : Int) < j := by omega
              have b5 : decide ((0 : Int) < j) = true := decide_eq_true hj0'
              have b5' : decide (0 < j) = true := decide_eq_true (by omega)
              have hfr' := hfr (by omega)
              have b6 : decide (xd ≤ (nw : Int)) = false := decide_eq_false (by omega)
              by_cases hk0 : k = 0
              · have hk0' : ¬ ((0 : Int) < k) := by omega
                have b7 : decide ((0 : Int) < k) = false := decide_eq_false hk0'
                have b7' : decide (0 < k) = false := decide_eq_false (by omega)
                clear hpv hfr hk0
                as_aux_lemma =>
                  go_upto_region 26 with fail
                  try rw [hwe]
                  simp only [List.append_eq, List.cons_append, List.nil_append]
  
                  go_quiet (fail)
                  go_wp2
                  go_roundw
                  case rel => exact ⟨k + 1, W.set q (-1), hkP, by go_num, by go_num, HN2.out.2, (HN.out _).1, HN2.out.1, (HN.out _).2⟩
                  case measure => simp [intOf]; omega
              · clear hfr
                obtain ⟨y, d0, d1, hy⟩ := hpv (by omega)
                have d0' : we.cell? ⟨lb, lo + (k - 1) * 3, none⟩ = some (.int .i64 y.id) := by rw [HBE.out.cell (p := ⟨lb, lo + (k - 1) * 3, none⟩) hlbl]; exact d0
                have d1' : we.cell? ⟨lb, lo + (k - 1) * 3 + 1, none⟩ = some (.int .i64 y.due) := by rw [HBE.out.cell (p := ⟨lb, lo + (k - 1) * 3 + 1, none⟩) hlbl]; exact d1
                clear d0 d1
                have hk1 : (k : Int) - 1 = ((k - 1 : Nat) : Int) := by omega
                have hk1w : IntKind.i64.wrap ((k : Int) - 1) = ((k - 1 : Nat) : Int) := by rw [IntKind.wrap_i64]; omega
                have hk1l : ((k - 1 : Nat) : Int) < P.length := by omega
                have hk0 : (0 : Int) < k := by omega
                have b7 : decide ((0 : Int) < k) = true := decide_eq_true hk0
                have b7' : decide (0 < k) = true := decide_eq_true (by omega)
                generalize y.id = yi at *
                generalize y.due = yd at *
                by_cases hyd : yd = xd
                · have b10 : decide (xi ≤ yi) = false := decide_eq_false (by omega)
                  subst hyd
                  have b8 : decide (yd < yd) = false := decide_eq_false (by omega)
                  have b9 : (yd == yd) = true := by simp
                  as_aux_lemma =>
                    go_upto_region 26 with fail
                    try rw [hwe]
                    simp only [List.append_eq, List.cons_append, List.nil_append]
  
                    go_quiet (fail)
                    go_wp2
                    go_roundw
                    case rel => exact ⟨k + 1, W.set q (-1), hkP, by go_num, by go_num, HN2.out.2, (HN.out _).1, HN2.out.1, (HN.out _).2⟩
                    case measure => simp [intOf]; omega
                · have hyd' : yd < xd := by omega
                  have hyb : (yd == xd) = false := by simpa using hyd
                  have b8 : decide (xd < yd) = false := decide_eq_false (by omega)
                  as_aux_lemma =>
                    go_upto_region 26 with fail
                    try rw [hwe]
                    simp only [List.append_eq, List.cons_append, List.nil_append]
  
                    go_quiet (fail)
                    go_wp2
                    go_roundw
                    case rel => exact ⟨k + 1, W.set q (-1), hkP, by go_num, by go_num, HN2.out.2, (HN.out _).1, HN2.out.1, (HN.out _).2⟩
                    case measure => simp [intOf]; omega
          · obtain rfl : k = P.length := by omega
            have hkP' : ¬ ((P.length : Int) < P.length) := by omega
            have hM1 := HO.out.2.1
            rw [List.drop_length, List.nil_append] at hM1
            have HM1 : Hid (OnM W Rr) := hM1
            clear hM1 hkP
            by_cases hge : 1000 ≤ nn
            · have hge' : (1000 : Int) ≤ nn := by omega
              have hnd := dueE_all (now := 1073741824) (L := Rr) (fun x hx => by have := HM1.out.lo x hx; omega)
              go_wp2_with fail
              refine (HK.out.pop 1073741824 HO.out.1.q.q (by omega) ⟨by omega, by omega⟩).mono ?_
              rintro e w3 ⟨A3, ld3, lc3, rfl, hr3, -, -, -⟩
              rw [hnd.2] at hr3
              have HO3 : Hid (OnI QS w w3 A3 p i (.slice ad6 i cap6) W []) := HO.out.1.call hr3
              clear hr3 hnd
              go_wp2_with fail
              refine (HK.out.len HO3.out.q.q (by omega)).mono ?_
              rintro e w4 ⟨A4, rfl, hr4⟩
              have HO4 : Hid (OnI QS w w4 A4 p i (.slice ad6 i cap6) W []) := HO3.out.call hr4
              have hl0 : (([] : List Ev).length : Int) = 0 := rfl
              rw [hl0]
              have hse : (((sn + P.length : Nat) : Int)) ≤ (i : Int) := by omega
              clear hr4 hl0 HO3
              go_wp2_with fail
              refine (sure0_any HK.out w4).mono ?_
              rintro e w5 ⟨rfl, hb5⟩
              go_wp2
              go_ret
              exact ⟨rfl, Below.transS HO4.out.below hb5⟩
            · have hge' : ¬ ((1000 : Int) ≤ nn) := by omega
              have hjj : j < ts.length ∧ j < 40 := by
                rcases hnn3 with h | h
                · exact h
                · omega
              go_wp2_with fail
              go_roundw
              case rel => exact ⟨j + 1, nn, sn + P.length, A2, W, Rr, by omega, by omega, rfl, by go_num, by go_num, by omega, by omega, HO.out.2.2.2, HO.out.1, HM1.out, fun _ => HP'.out.2.2.2⟩
              case measure => simp [intOf]; omega
end Go.Proofs.Ythnobkiiaflelaa
