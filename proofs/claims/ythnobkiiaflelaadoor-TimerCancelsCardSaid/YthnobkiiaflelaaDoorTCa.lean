/- TimerCancels, on a queue's contracts. -/
import Derived.Test.YthnobkiiaflelaaDoorTCaM
import Derived.Test.YthnobkiiaflelaaDoorTQj
import Derived.Test.YthnobkiiaflelaaDoorTNum
import Derived.Deep.CutBlock
namespace Go.Proofs.YthnobkiiaflelaaDoor
open Go.RowKit Go.Maps Go.Sort

/-- While events are laid in, and cancelled. -/
structure CaI (QS : World → (Nat → Prop) → Nat → List Ev → Int → Prop) (w wr : World) (p : Nat) (last : Nat) (len : Nat) (P : Int → Prop) : Prop where
  mk :: (out : ∃ A L, QAt QS w.heap.size wr A p L last ∧ Below w.heap.size w wr ∧ IdI L P ∧ (∀ x ∈ L, x.due < 100) ∧ L.length = len)

set_option maxRecDepth 100000 in
set_option maxHeartbeats 3200000 in
theorem cancels_any {QS : World → (Nat → Prop) → Nat → List Ev → Int → Prop} (hK : QK1 QS) (ad bd : Option Addr) (cap cap2 : Nat) (ks : List Int) (gs : List Bool) (w : World) (hg : Glob w) (hk : IsL w ad ks) (hks : ks.length ≤ 140737488355328) (hb : BlL w bd gs) (hgs : gs.length ≤ 140737488355328) :
    Calls Tryd.prog 5 #[.slice ad ks.length cap, .slice bd gs.length cap2] w fun e w' => e = .returned (.bool true) ∧ Below w.heap.size w w' := by
  have HK : Hid (QK1 QS) := hK
  have HG : Hid (∀ W : World, Below w.heap.size w W → Glob W) := fun W hb => hg.below hb hg.pos
  have HI : Hid (IsL w ad ks ∧ BlL w bd gs) := ⟨hk, hb⟩
  obtain ⟨n, hn⟩ : ∃ n : Nat, n = min ks.length 40 := ⟨_, rfl⟩
  have hn40 : n ≤ 40 := by omega
  have hnk : n ≤ ks.length := by omega
  clear hK hg hk hb
  go_enter Tryd.func5, Tryd.ntmps5
  go_wp2_with fail
  refine (HK.out.new w).mono ?_
  rintro e w1 ⟨p, A1, rfl, hq1, hA1, hb1⟩
  have HC1 : Hid (CaI QS w w1 p 0 0 (fun _ => False)) := ⟨⟨A1, [], ⟨hq1, hA1⟩, hb1, IdI.nil, (fun x hx => by cases hx), rfl⟩⟩
  clear hq1 hA1 hb1
  go_upto_region 5 with fail
  have hmin : (if (40 : Int) < (ks.length : Int) then (40 : Int) else (ks.length : Int)) = (n : Int) := by split <;> omega
  rw [hmin]
  clear hn hmin
  go_wp2_with fail
  go_loopw [7, 8, 9] (fun iv _ _ wr => ∃ i : Nat, i ≤ n ∧ iv = .int .i64 i ∧ CaI QS w wr p i i (fun j => 1 ≤ j ∧ j ≤ (i : Int))) (fun iv _ _ _ => n - (intOf iv).toNat)
  case atStart => exact ⟨0, Nat.zero_le _, rfl, ⟨by
    obtain ⟨A, L, h1, h2, h3, h4, h5⟩ := HC1.out.out
    exact ⟨A, L, h1, h2, h3.of (fun j => ⟨fun h => h.elim, fun h => by omega⟩), h4, h5⟩⟩⟩
  case round =>
    clear HC1
    obtain ⟨i, hi, rfl, hC⟩ := hrel
    have HC : Hid (CaI QS w wr p i i (fun j => 1 ≤ j ∧ j ≤ (i : Int))) := hC
    clear hC
    by_cases hlt : i < n
    · have hlt' : (i : Int) < n := by omega
      have hik : i < ks.length := by omega
      have hx : ks[i]? = some ks[i] := List.getElem?_eq_getElem hik
      obtain ⟨A, L, hq, hbw, hid, hdu, hll⟩ := HC.out.out
      obtain ⟨bb, off, rfl, hc⟩ := (HI.out.1.below hbw) (by omega)
      have c0 := hc i _ hx
      obtain ⟨d, hd, hrem⟩ := rem_ix ks[i] 100 (by omega) (by omega)
      have HQ : Hid (QAt QS w.heap.size wr A p L i ∧ Below w.heap.size w wr ∧ IdI L (fun j => 1 ≤ j ∧ j ≤ (i : Int)) ∧ (∀ x ∈ L, x.due < 100) ∧ L.length = i) := ⟨hq, hbw, hid, hdu, hll⟩
      clear hc hx hq hbw hid hdu hll HC
      generalize ks[i] = x at *
      have hrem' : wrap64 ((IntKind.u64.wrap x).tmod 100) = (d : Int) := hrem
      clear hrem
      have hE : addE (d : Int) [] = 0 := addE_ok (by omega) (by omega) (by simp)
      go_wp2_with fail
      refine (HK.out.add (d : Int) [] HQ.out.1.q (by omega) ⟨by omega, by omega⟩ (by decide)).mono ?_
      rintro e w2 ⟨A2, rfl, hr2⟩
      rw [hE]
      have HN : Hid (CaI QS w w2 p (i + 1) (i + 1) (fun j => 1 ≤ j ∧ j ≤ ((i + 1 : Nat) : Int))) := ⟨by
        have h1 := hr2.at HQ.out.1 HQ.out.2.1.size
        simp only [addL, addN, hE, if_true] at h1
        refine ⟨A2, insE ⟨i + 1, d, []⟩ L, ⟨by simpa using h1.1.q, h1.1.up⟩, HQ.out.2.1.trans h1.2, (HQ.out.2.2.1.ins ⟨i + 1, d, []⟩ (by simp; omega)).of (fun j => by simp; omega), fun y hy => ?_, ?_⟩
        · rcases mem_insE.1 hy with rfl | hy
          · simp; omega
          · exact HQ.out.2.2.2.1 y hy
        · rw [(insE_perm _ L).length_eq, List.length_cons, HQ.out.2.2.2.2]⟩
      have hnl : errV 0 = .nilIface := rfl
      rw [hnl]
      clear hr2 hE hrem' c0 HQ hnl
      go_wp2
      exact ⟨⟨i + 1, by omega, by go_num, HN.out⟩, by simp [intOf]; omega⟩
    · obtain rfl : i = n := by omega
      have hlt' : ¬ ((i : Int) < i) := by omega
      have HC2 : Hid (CaI QS w wr p i i (fun j => 1 ≤ j ∧ j ≤ (i : Int) ∧ ¬ (j ≤ ((0 : Nat) : Int) ∧ gs[(j - 1).toNat]? = some true))) := ⟨by
        obtain ⟨A, L, h1, h2, h3, h4, h5⟩ := HC.out.out
        exact ⟨A, L, h1, h2, h3.of (fun j => by simp; omega), h4, h5⟩⟩
      clear HC
      go_wp2_with fail
      go_loopw [10, 11] (fun lv iv wr => ∃ m len : Nat, m ≤ i ∧ m ≤ gs.length ∧ iv = .int .i64 m ∧ lv = .int .i64 len ∧ len ≤ i ∧ CaI QS w wr p i len (fun j => 1 ≤ j ∧ j ≤ (i : Int) ∧ ¬ (j ≤ (m : Int) ∧ gs[(j - 1).toNat]? = some true))) (fun _ iv _ => i - (intOf iv).toNat)
      case atStart => exact ⟨0, i, Nat.zero_le _, Nat.zero_le _, rfl, rfl, Nat.le_refl _, HC2.out⟩
      case round =>
        clear HC2
        obtain ⟨m, len, hm1, hm2, rfl, rfl, hln, hC⟩ := hrel
        have HC : Hid (CaI QS w wr p i len (fun j => 1 ≤ j ∧ j ≤ (i : Int) ∧ ¬ (j ≤ (m : Int) ∧ gs[(j - 1).toNat]? = some true))) := hC
        clear hC
        by_cases hmn : m < i
        · have hmn' : (m : Int) < i := by omega
          by_cases hmg : m < gs.length
          · have hmg' : (m : Int) < gs.length := by omega
            have hx : gs[m]? = some gs[m] := List.getElem?_eq_getElem hmg
            obtain ⟨A, L, hq, hbw, hid, hdu, hll⟩ := HC.out.out
            obtain ⟨bb, off, rfl, hc⟩ := (HI.out.2.below hbw) (by omega)
            have c0 := hc m _ hx
            have HQ : Hid (QAt QS w.heap.size wr A p L i ∧ Below w.heap.size w wr ∧ IdI L (fun j => 1 ≤ j ∧ j ≤ (i : Int) ∧ ¬ (j ≤ (m : Int) ∧ gs[(j - 1).toNat]? = some true)) ∧ (∀ x ∈ L, x.due < 100) ∧ L.length = len) := ⟨hq, hbw, hid, hdu, hll⟩
            have HX : Hid (gs[m]? = some gs[m]) := hx
            clear hc hx hq hbw hid hdu hll HC
            generalize gs[m] = g at *
            cases g with
            | false =>
              have HN : Hid (CaI QS w wr p i len (fun j => 1 ≤ j ∧ j ≤ (i : Int) ∧ ¬ (j ≤ ((m + 1 : Nat) : Int) ∧ gs[(j - 1).toNat]? = some true))) := ⟨A, L, HQ.out.1, HQ.out.2.1, HQ.out.2.2.1.of (fun j => by
                have hX := HX.out
                constructor
                · rintro ⟨h1, h2, h3⟩
                  refine ⟨h1, h2, fun h4 => h3 ⟨?_, h4.2⟩⟩
                  have h5 := h4.1
                  rcases Int.lt_or_le (m : Int) j with h6 | h6
                  · have h7 : (j - 1).toNat = m := by omega
                    rw [h7, hX] at h4
                    cases h4.2
                  · exact h6
                · rintro ⟨h1, h2, h3⟩
                  exact ⟨h1, h2, fun h4 => h3 ⟨by omega, h4.2⟩⟩), HQ.out.2.2.2.1, HQ.out.2.2.2.2⟩
              go_wp2
              exact ⟨⟨m + 1, len, by omega, by omega, by go_num, rfl, hln, HN.out⟩, by simp [intOf]; omega⟩
            | true =>
              have hPm : 1 ≤ ((m : Int) + 1) ∧ ((m : Int) + 1) ≤ (i : Int) ∧ ¬ (((m : Int) + 1) ≤ (m : Int) ∧ gs[(((m : Int) + 1) - 1).toNat]? = some true) := ⟨by omega, by omega, fun h => by omega⟩
              have hcl := HQ.out.2.2.1.cut_len hPm
              have hce := canE_hit hcl
              have hid2 := HQ.out.2.2.1.cut ((m : Int) + 1)
              have hno := hid2.cut_none (id := (m : Int) + 1) (fun h => h.2 rfl)
              have hce2 := canE_miss hno
              have HM : Hid ((cutE ((m : Int) + 1) L).length + 1 = L.length ∧ IdI (cutE ((m : Int) + 1) L) (fun j => (1 ≤ j ∧ j ≤ (i : Int) ∧ ¬ (j ≤ (m : Int) ∧ gs[(j - 1).toNat]? = some true)) ∧ j ≠ (m : Int) + 1) ∧ cutE ((m : Int) + 1) (cutE ((m : Int) + 1) L) = cutE ((m : Int) + 1) L) := ⟨hcl, hid2, hno⟩
              have hl1 : 1 ≤ len := by have := HQ.out.2.2.2.2; omega
              clear hPm hcl hid2 hno
              go_wp2_with fail
              refine (HK.out.cancel ((m : Int) + 1) HQ.out.1.q (by omega) ⟨by omega, by omega⟩).mono ?_
              rintro e w2 ⟨A2, rfl, hr2⟩
              rw [hce]
              have HQ2 : Hid (QAt QS w.heap.size w2 A2 p (cutE ((m : Int) + 1) L) i ∧ Below w.heap.size w w2) := ⟨(hr2.at HQ.out.1 HQ.out.2.1.size).1, HQ.out.2.1.trans (hr2.at HQ.out.1 HQ.out.2.1.size).2⟩
              have hnl : errV 0 = .nilIface := rfl
              rw [hnl]
              clear hr2 hnl c0
              go_wp2_with fail
              refine (HK.out.cancel ((m : Int) + 1) HQ2.out.1.q (by omega) ⟨by omega, by omega⟩).mono ?_
              rintro e w3 ⟨A3, rfl, hr3⟩
              rw [hce2]
              have HQ3 : Hid (QAt QS w.heap.size w3 A3 p (cutE ((m : Int) + 1) L) i ∧ Below w.heap.size w w3) := by
                have h1 := hr3.at HQ2.out.1 HQ2.out.2.size
                rw [HM.out.2.2] at h1
                exact ⟨h1.1, HQ2.out.2.trans h1.2⟩
              clear hr3 hce hce2
              go_wp2_with fail
              refine (num_any 8 w3 (HG.out w3 HQ3.out.2)).mono ?_
              rintro e w4 ⟨rfl, hb4⟩
              have HN : Hid (CaI QS w w4 p i (len - 1) (fun j => 1 ≤ j ∧ j ≤ (i : Int) ∧ ¬ (j ≤ ((m + 1 : Nat) : Int) ∧ gs[(j - 1).toNat]? = some true))) := ⟨A3, cutE ((m : Int) + 1) L, ⟨HK.out.keep HQ3.out.1.q hb4.size (fun k hk => hb4.block k (HK.out.low HQ3.out.1.q k hk)), HQ3.out.1.up⟩, Below.transS HQ3.out.2 hb4, HM.out.2.1.of (fun j => by
                have hX := HX.out
                constructor
                · rintro ⟨⟨h1, h2, h3⟩, h4⟩
                  exact ⟨h1, h2, fun h5 => h3 ⟨by have := h5.1; omega, h5.2⟩⟩
                · rintro ⟨h1, h2, h3⟩
                  refine ⟨⟨h1, h2, fun h4 => h3 ⟨by omega, h4.2⟩⟩, fun e => h3 ⟨by omega, ?_⟩⟩
                  have h7 : (j - 1).toNat = m := by omega
                  rw [h7, hX]), (fun x hx => HQ.out.2.2.2.1 x (List.mem_filter.1 hx).1), by have h1 := HM.out.1; have h2 := HQ.out.2.2.2.2; omega⟩
              clear hb4
              go_wp2
              exact ⟨⟨m + 1, len - 1, by omega, by omega, by go_num, by go_num, by omega, HN.out⟩, by simp [intOf]; omega⟩
          · have hmg' : ¬ ((m : Int) < gs.length) := by omega
            obtain ⟨A, L, hq, hbw, hid, hdu, hll⟩ := HC.out.out
            have HQ : Hid (QAt QS w.heap.size wr A p L i ∧ Below w.heap.size w wr) := ⟨hq, hbw⟩
            have HP : Hid (∀ x ∈ L, 1 ≤ x.id ∧ (x.id ≤ (gs.length : Int) → gs[(x.id - 1).toNat]? ≠ some true)) := fun x hx => by
              have h1 := (hid.mem x.id).1 (List.mem_map.2 ⟨x, hx, rfl⟩)
              exact ⟨h1.1, fun h2 h3 => h1.2.2 ⟨by omega, h3⟩⟩
            obtain ⟨hda, hra⟩ := dueE_all (now := 100) (L := L) (fun x hx => by have := hdu x hx; omega)
            clear hq hbw hid hdu HC
            go_wp2_with fail
            refine (HK.out.pop 100 HQ.out.1.q (by omega) (by decide)).mono ?_
            rintro e w2 ⟨A2, pd, pc, rfl, hr2, hev, hfar, hcap⟩
            rw [hda] at hev hcap ⊢
            rw [hra] at hr2
            have HQ2 : Hid (QAt QS w.heap.size w2 A2 p [] i ∧ Below w.heap.size w w2) := ⟨(hr2.at HQ.out.1 HQ.out.2.size).1, HQ.out.2.trans (hr2.at HQ.out.1 HQ.out.2.size).2⟩
            have HE : Hid (EvAt w2 pd L) := hev
            have HB2 : Hid (BlL w2 bd gs) := HI.out.2.below HQ2.out.2
            clear hr2 hev hfar hda hra HQ
            subst hll
            go_wp2_with fail
            go_loopw [13] (fun iv wr => ∃ k : Nat, k ≤ L.length ∧ iv = .int .i64 k ∧ wr = w2) (fun iv _ => L.length - (intOf iv).toNat)
            case atStart => exact ⟨0, Nat.zero_le _, rfl, rfl⟩
            case round =>
              obtain ⟨k, hk, rfl, rfl⟩ := hrel
              by_cases hkl : k < L.length
              · have hkl' : (k : Int) < L.length := by omega
                have hx : L[k]? = some L[k] := List.getElem?_eq_getElem hkl
                obtain ⟨bb, off, rfl, hc⟩ := HE.out (by omega)
                have c0 := (hc k _ hx).1
                have hp := HP.out L[k] (List.getElem_mem hkl)
                clear hc hx
                generalize L[k].id = y at *
                by_cases hyg : y ≤ (gs.length : Int)
                · have hyl : (y - 1).toNat < gs.length := by omega
                  have hgx : gs[(y - 1).toNat]? = some gs[(y - 1).toNat] := List.getElem?_eq_getElem hyl
                  have hgf : gs[(y - 1).toNat] = false := by
                    have := hp.2 hyg
                    rw [hgx] at this
                    cases hh : gs[(y - 1).toNat] with
                    | false => rfl
                    | true => rw [hh] at this; exact absurd rfl this
                  obtain ⟨b2, off2, rfl, hc2⟩ := HB2.out (by omega)
                  have c1 := hc2 _ _ hgx
                  rw [hgf] at c1
                  obtain ⟨t, ht⟩ : ∃ t : Nat, y = (t : Int) + 1 := ⟨(y - 1).toNat, by omega⟩
                  subst ht
                  have ht2 : ((t : Int) + 1 - 1).toNat = t := by omega
                  rw [ht2] at c1 hyl
                  clear hgx hgf hc2 hp ht2
                  have hts : ((t : Int) + 1 - 1) = (t : Int) := by omega
                  go_wp2
                  exact ⟨⟨k + 1, by omega, by go_num, trivial⟩, by simp [intOf]; omega⟩
                · clear hp
                  go_wp2
                  exact ⟨⟨k + 1, by omega, by go_num, trivial⟩, by simp [intOf]; omega⟩
              · obtain rfl : k = L.length := by omega
                have hkl' : ¬ ((L.length : Int) < L.length) := by omega
                go_wp2_with fail
                refine (HK.out.len HQ2.out.1.q (by omega)).mono ?_
                rintro e w3 ⟨A3, rfl, hr3⟩
                have HB3 : Hid (Below w.heap.size w w3) := HQ2.out.2.trans (hr3.at HQ2.out.1 HQ2.out.2.size).2
                clear hr3
                have hz : (([] : List Ev).length : Int) = 0 := rfl
                rw [hz]
                clear hz
                go_wp2_with fail
                refine (sure0_any HK.out.toQK0 w3).mono ?_
                rintro e w4 ⟨rfl, hb4⟩
                have HB4 : Hid (Below w.heap.size w w4) := Below.transS HB3.out hb4
                clear hb4
                go_wp2
                go_ret
                exact ⟨rfl, HB4.out⟩
        · have hmn' : ¬ ((m : Int) < i) := by omega
          obtain ⟨A, L, hq, hbw, hid, hdu, hll⟩ := HC.out.out
          have HQ : Hid (QAt QS w.heap.size wr A p L i ∧ Below w.heap.size w wr) := ⟨hq, hbw⟩
          have HP : Hid (∀ x ∈ L, 1 ≤ x.id ∧ (x.id ≤ (gs.length : Int) → gs[(x.id - 1).toNat]? ≠ some true)) := fun x hx => by
            have h1 := (hid.mem x.id).1 (List.mem_map.2 ⟨x, hx, rfl⟩)
            exact ⟨h1.1, fun h2 h3 => h1.2.2 ⟨by omega, h3⟩⟩
          obtain ⟨hda, hra⟩ := dueE_all (now := 100) (L := L) (fun x hx => by have := hdu x hx; omega)
          clear hq hbw hid hdu HC
          go_wp2_with fail
          refine (HK.out.pop 100 HQ.out.1.q (by omega) (by decide)).mono ?_
          rintro e w2 ⟨A2, pd, pc, rfl, hr2, hev, hfar, hcap⟩
          rw [hda] at hev hcap ⊢
          rw [hra] at hr2
          have HQ2 : Hid (QAt QS w.heap.size w2 A2 p [] i ∧ Below w.heap.size w w2) := ⟨(hr2.at HQ.out.1 HQ.out.2.size).1, HQ.out.2.trans (hr2.at HQ.out.1 HQ.out.2.size).2⟩
          have HE : Hid (EvAt w2 pd L) := hev
          have HB2 : Hid (BlL w2 bd gs) := HI.out.2.below HQ2.out.2
          clear hr2 hev hfar hda hra HQ
          subst hll
          go_wp2_with fail
          go_loopw [13] (fun iv wr => ∃ k : Nat, k ≤ L.length ∧ iv = .int .i64 k ∧ wr = w2) (fun iv _ => L.length - (intOf iv).toNat)
          case atStart => exact ⟨0, Nat.zero_le _, rfl, rfl⟩
          case round =>
            obtain ⟨k, hk, rfl, rfl⟩ := hrel
            by_cases hkl : k < L.length
            · have hkl' : (k : Int) < L.length := by omega
              have hx : L[k]? = some L[k] := List.getElem?_eq_getElem hkl
              obtain ⟨bb, off, rfl, hc⟩ := HE.out (by omega)
              have c0 := (hc k _ hx).1
              have hp := HP.out L[k] (List.getElem_mem hkl)
              clear hc hx
              generalize L[k].id = y at *
              by_cases hyg : y ≤ (gs.length : Int)
              · have hyl : (y - 1).toNat < gs.length := by omega
                have hgx : gs[(y - 1).toNat]? = some gs[(y - 1).toNat] := List.getElem?_eq_getElem hyl
                have hgf : gs[(y - 1).toNat] = false := by
                  have := hp.2 hyg
                  rw [hgx] at this
                  cases hh : gs[(y - 1).toNat] with
                  | false => rfl
                  | true => rw [hh] at this; exact absurd rfl this
                obtain ⟨b2, off2, rfl, hc2⟩ := HB2.out (by omega)
                have c1 := hc2 _ _ hgx
                rw [hgf] at c1
                obtain ⟨t, ht⟩ : ∃ t : Nat, y = (t : Int) + 1 := ⟨(y - 1).toNat, by omega⟩
                subst ht
                have ht2 : ((t : Int) + 1 - 1).toNat = t := by omega
                rw [ht2] at c1 hyl
                clear hgx hgf hc2 hp ht2
                have hts : ((t : Int) + 1 - 1) = (t : Int) := by omega
                go_wp2
                exact ⟨⟨k + 1, by omega, by go_num, trivial⟩, by simp [intOf]; omega⟩
              · clear hp
                go_wp2
                exact ⟨⟨k + 1, by omega, by go_num, trivial⟩, by simp [intOf]; omega⟩
            · obtain rfl : k = L.length := by omega
              have hkl' : ¬ ((L.length : Int) < L.length) := by omega
              go_wp2_with fail
              refine (HK.out.len HQ2.out.1.q (by omega)).mono ?_
              rintro e w3 ⟨A3, rfl, hr3⟩
              have HB3 : Hid (Below w.heap.size w w3) := HQ2.out.2.trans (hr3.at HQ2.out.1 HQ2.out.2.size).2
              clear hr3
              have hz : (([] : List Ev).length : Int) = 0 := rfl
              rw [hz]
              clear hz
              go_wp2_with fail
              refine (sure0_any HK.out.toQK0 w3).mono ?_
              rintro e w4 ⟨rfl, hb4⟩
              have HB4 : Hid (Below w.heap.size w w4) := Below.transS HB3.out hb4
              clear hb4
              go_wp2
              go_ret
              exact ⟨rfl, HB4.out⟩
end Go.Proofs.YthnobkiiaflelaaDoor
