/- ShelfOpens: what it stands on. -/
import Derived.Test.YtmekplaonlpfkaaGreatDoorOwnShelf52
import Derived.Test.YtmekplaonlpfkaaGreatDoorOwnShelf48
namespace Go.Proofs.YtmekplaonlpfkaaGreatDoor
open Go.RowKit Go.Maps Go.Sort

/-- Pages, one behind the other. -/
def zipL : Int → List Bs → List (Int × List Int)
  | _, [] => []
  | a, x :: r => (a, x.l) :: zipL (a + 1) r
theorem zipL_length : ∀ (a : Int) (P : List Bs), (zipL a P).length = P.length
  | _, [] => rfl
  | a, x :: r => by simp [zipL, zipL_length (a + 1) r]
theorem zipL_snoc (x : Bs) : ∀ (a : Int) (P : List Bs), zipL a (P ++ [x]) = zipL a P ++ [(a + (P.length : Int), x.l)]
  | a, [] => by simp [zipL]
  | a, y :: r => by
    simp only [List.cons_append, zipL, zipL_snoc x (a + 1) r, List.length_cons]
    congr 2
    simp only [List.cons.injEq, Prod.mk.injEq, and_true]
    omega
theorem zipL_ge : ∀ (a : Int) (P : List Bs) (x : Int × List Int), x ∈ zipL a P → a ≤ x.1
  | _, [], x, h => by cases h
  | a, y :: r, x, h => by
    rcases List.mem_cons.1 h with rfl | h
    · exact Int.le_refl _
    · have := zipL_ge (a + 1) r x h; omega
theorem zipL_find : ∀ (a : Int) (P : List Bs) (j : Nat) (x : Bs), P[j]? = some x → ((zipL a P).reverse.find? fun y => y.1 == a + (j : Int)) = some (a + (j : Int), x.l)
  | a, y :: r, 0, x, h => by
    simp at h
    subst h
    rw [zipL, List.reverse_cons, List.find?_append]
    have hn : ((zipL (a + 1) r).reverse.find? fun z => z.1 == a + ((0 : Nat) : Int)) = none := by
      rw [List.find?_eq_none]
      intro z hz
      have := zipL_ge (a + 1) r z (List.mem_reverse.1 hz)
      simp only [beq_iff_eq]
      omega
    rw [hn]
    simp
  | a, y :: r, j + 1, x, h => by
    have ih := zipL_find (a + 1) r j x h
    have e : a + 1 + (j : Int) = a + ((j + 1 : Nat) : Int) := by omega
    rw [e] at ih
    rw [zipL, List.reverse_cons, List.find?_append, ih]
    rfl
/-- A store with so many pages, of which the first have been written. -/
def wcP (N : Nat) (P : List Bs) : Ct := ⟨List.replicate N [], zipL 0 P, false, 0, false⟩
theorem wcP_nil (N : Nat) : wcP N [] = newC N := rfl
theorem wcP_put (N : Nat) (P : List Bs) (x : Bs) : ((wcP N P).put (P.length : Int) x.l).step = wcP N (P ++ [x]) := by
  unfold wcP Ct.put Ct.step
  simp [zipL_snoc]
theorem wcP_last {N : Nat} {P : List Bs} {j : Nat} {x : Bs} (h : P[j]? = some x) : (wcP N P).last (j : Int) = x.l := by
  have := zipL_find 0 P j x h
  rw [Int.zero_add] at this
  unfold Ct.last wcP
  simp only [this]
theorem wcP_ok (N : Nat) (P : List Bs) (h : P.length ≤ 1000) : (wcP N P).Ok N := ⟨by simp [wcP], by simp [wcP], rfl, by simp [wcP, zipL_length]; omega⟩
theorem readD_congr {last : Int} {rd rd' : Int → List Int} (h0 : 0 ≤ last) (h : ∀ x, 0 ≤ x → x ≤ last → rd x = rd' x) : ∀ (k : Nat) (q : Option (List Int)) (b : Int) (M : List Lf), QBd q → readD last rd k q b M = readD last rd' k q b M
  | 0, _, _, _, _ => rfl
  | k + 1, q, b, M, hq => by
    have hv := vlN_bd h0 hq 0
    rw [readD, readD, h _ hv.1 hv.2]
    split
    · rfl
    · split
      · exact readD_congr h0 h k _ _ _ (nxt_bd hq)
      · rfl
theorem readR_congr {last : Int} {rd rd' : Int → List Int} (h0 : 0 ≤ last) (h : ∀ x, 0 ≤ x → x ≤ last → rd x = rd' x) (hb : ∀ y, y ∈ rd 0 → 0 ≤ y ∧ y ≤ 255) : readR last rd = readR last rd' := by
  have h00 := h 0 (Int.le_refl 0) h0
  unfold readR
  rw [← h00]
  split
  · rfl
  · refine readD_congr h0 h _ _ _ _ ?_
    intro l e
    cases hc : countR last (rd 0) with
    | none => rw [hc] at e; cases e
    | some v =>
      rw [hc] at e
      simp at e
      subst e
      exact (countR_bd (most := last) h0 hb (r := v.2) (v := v.1) (by rw [hc])).2.2
/-- What Open reads of such a store is what the document reads of the pages. -/
theorem open_read {N : Nat} {P : List Bs} {fr n : Nat} (hn : 2 ≤ n) (hN : fr + n ≤ P.length) (hb : ∀ x ∈ P, ∀ y, y ∈ x.l → 0 ≤ y ∧ y ≤ 255) : openR (wcP N P) fr n = readR ((n - 1 : Nat) : Int) (rdB ((P.drop fr).take n)) := by
  rw [openR_read]
  have hat : ∀ j, j < n → ∃ x, P[fr + j]? = some x ∧ ((P.drop fr).take n)[j]? = some x := fun j hj => by
    refine ⟨P[fr + j], List.getElem?_eq_getElem (by omega), ?_⟩
    rw [List.getElem?_take, if_pos hj, List.getElem?_drop, List.getElem?_eq_getElem (by omega)]
  refine readR_congr (by omega) (fun x h0 h1 => ?_) (fun y hy => ?_)
  · obtain ⟨j, rfl⟩ : ∃ j : Nat, x = (j : Int) := ⟨x.toNat, by omega⟩
    obtain ⟨z, h2, h3⟩ := hat j (by omega)
    rw [Int.toNat_natCast, wcP_last h2, rdB_at h3]
  · obtain ⟨z, h2, _⟩ := hat 0 (by omega)
    have e : (wcP N P).last ((fr + (0 : Int).toNat : Nat) : Int) = z.l := wcP_last h2
    rw [e] at hy
    exact hb z (List.mem_of_getElem? h2) y hy
theorem PgIn.below {w w' : World} {ad : Option Addr} {P : List Bs} (h : PgIn w ad P) (hb : Below w.heap.size w w') : PgIn w' ad P := by
  refine ⟨fun hn => ?_, fun x hx => ?_⟩
  · obtain ⟨b, off, e, hc⟩ := h.at_ hn
    exact ⟨b, off, e, fun j x hx => (hb.cell (p := ⟨b, off + j, none⟩) (World.block_lt_of_cell? w _ (hc j x hx))).trans (hc j x hx)⟩
  · obtain ⟨h1, h2⟩ := h.each x hx
    exact ⟨h1.keepB hb, h2⟩
theorem PgIn.part {w : World} {b off : Nat} {P : List Bs} (h : PgIn w (some ⟨b, off, none⟩) P) (fr n : Nat) : PgIn w (some ⟨b, off + fr, none⟩) ((P.drop fr).take n) := by
  refine ⟨fun hn => ?_, fun x hx => h.each x (List.mem_of_mem_drop (List.mem_of_mem_take hx))⟩
  have hp : 0 < P.length := by rw [List.length_take, List.length_drop] at hn; omega
  obtain ⟨b', off', e, hc⟩ := h.at_ hp
  cases e
  refine ⟨b, off + fr, rfl, fun j x hx => ?_⟩
  rw [List.getElem?_take] at hx
  split at hx
  · rw [List.getElem?_drop] at hx
    have := hc (fr + j) x hx
    rwa [← Nat.add_assoc] at this
  · cases hx
/-- A store on its way, beside what came in. -/
def OpW (w wr : World) (p : Nat) (c : Ct) : Prop := ∃ G : Nat → Prop, CtAt wr G p c ∧ (∀ k, G k → w.heap.size ≤ k ∧ k < wr.heap.size) ∧ Below w.heap.size w wr
theorem OpW.write {w wr : World} {p : Nat} {N : Nat} {P : List Bs} {x : Bs} (h : OpW w wr p (wcP N P)) (hP : P.length < N) (hN : N ≤ 1000) (hs : SlAt wr x.ad x.l.length (fn x.l)) (hn : x.ad = none → x.l.length = 0 ∧ x.cap = 0) (hy : ∀ y, y ∈ x.l → 0 ≤ y ∧ y ≤ 255) (hl : x.l.length ≤ 4096) :
    Calls Tryz.prog 10 #[.pointer (some ⟨p, 0, none⟩), .int .i64 (P.length : Int), .slice x.ad x.l.length x.cap] wr fun e w' => e = .returned .nilIface ∧ OpW w w' p (wcP N (P ++ [x])) := by
  obtain ⟨G, h1, h2, h3⟩ := h
  refine (write_ct G p (wcP N P) N (P.length : Int) x.ad x.cap x.l wr h1 (wcP_ok N P (by omega)) (by omega) hs hn hy hl).mono ?_
  rintro e w' ⟨rfl, G', g1, g2, g3⟩
  rw [wcP_put] at g1
  refine ⟨rfl, G', g1, fun k hk => ?_, h3.trans (g3.below h3.size fun k hk => (h2 k hk).1)⟩
  have hs := g3.size
  rcases g2 k hk with h | h
  · have := h2 k h; omega
  · have := h3.size; omega
end Go.Proofs.YtmekplaonlpfkaaGreatDoor
/- ShelfOpens: the walk. -/
namespace Go.Proofs.YtmekplaonlpfkaaGreatDoor
open Go.RowKit Go.Maps Go.Sort

attribute [local go_sem ↓] Go.wp_at_zero Go.wp_at_succ

set_option maxRecDepth 100000 in
set_option maxHeartbeats 6400000 in
theorem shelfOpens_any (a0 : Option Addr) (cap0 : Nat) (P : List Bs) (x1 x2 : Int) (w : World) (hg : Glob w) (hl0 : P.length ≤ maxLen) (hc0 : P.length ≤ cap0) (hx0 : PgIn w a0 P) :
    Calls Tryz.prog 3 #[.slice a0 P.length cap0, .int .i64 x1, .int .i64 x2] w fun e w' => e = .returned (.bool true) ∧ Below w.heap.size w w' := by
  have HG : Hid (∀ W : World, Below w.heap.size w W → Glob W) := fun W hb => hg.below hb hg.pos
  have HX : Hid (PgIn w a0 P) := hx0
  have hml : maxLen = 9223372036854775807 := rfl
  rw [hml] at hl0
  have HSU : Hid (∀ W : World, Below w.heap.size w W → Calls Tryz.prog 8 #[] W fun e w' => e = .returned (.bool true) ∧ Below w.heap.size w w') := fun W hb =>
    (sure_any W (HG.out W hb)).mono fun e w' h => ⟨h.1, Below.transS hb h.2⟩
  have e1 : errV 1 = .iface 72 (.int .i64 1) := errV_ne (by decide)
  have e14 : errV 14 = .iface 72 (.int .i64 14) := errV_ne (by decide)
  have HE1 : Hid (errV 1 = .iface 72 (.int .i64 1) ∧ errV 14 = .iface 72 (.int .i64 14)) := ⟨e1, e14⟩
  clear hx0 hml hg e1 e14
  by_cases hsm : 1 ≤ P.length ∧ P.length ≤ 40
  · obtain ⟨hN1, hN2⟩ := hsm
    have hq1 : ¬ ((P.length : Int) < 1) := by omega
    have hq2 : ¬ ((40 : Int) < P.length) := by omega
    have hnew := new_ct P.length hN1 (by omega) w
    obtain ⟨b, off, hab, _⟩ := HX.out.at_ (by omega)
    subst hab
    go_enter Tryz.func3, Tryz.ntmps3
    go_wp2_with fail
    refine hnew.mono ?_
    rintro e w1 ⟨p, rfl, ⟨G1, hc1, hg1, _⟩, hb1⟩
    have HI0 : Hid (OpW w w1 p (wcP P.length (P.take 0))) := ⟨G1, hc1, fun k hk => (hg1 k hk).elim (fun h => h.elim) id, hb1⟩
    clear hnew hc1 hg1 hb1
    go_wp2
    go_loopw [9] (fun iv wr => ∃ i : Nat, i ≤ P.length ∧ iv = .int .i64 i ∧ OpW w wr p (wcP P.length (P.take i)) ∧ ∀ x ∈ P.take i, x.l.length ≤ 4096) (fun iv _ => P.length + 1 - (intOf iv).toNat)
    case atStart => exact ⟨0, Nat.zero_le _, rfl, HI0.out, fun x hx => by simp at hx⟩
    case round =>
      clear HI0
      obtain ⟨i, hi, rfl, hI, hle⟩ := hrel
      have HI : Hid (OpW w wr p (wcP P.length (P.take i))) := hI
      have HLE : Hid (∀ x ∈ P.take i, x.l.length ≤ 4096) := hle
      obtain ⟨_, _, _, hbw⟩ := hI
      have HBW : Hid (Below w.heap.size w wr) := hbw
      clear hle hbw
      by_cases hlt : i < P.length
      · have hlt' : (i : Int) < P.length := by omega
        obtain ⟨x, hx⟩ : ∃ x, P[i]? = some x := ⟨_, List.getElem?_eq_getElem hlt⟩
        obtain ⟨cx, sx, nx, bx, kx⟩ := HX.out.get HBW.out hx
        have HTK : Hid (P.take (i + 1) = P.take i ++ [x]) := by rw [List.take_add_one, hx]; exact rfl
        have hti : (P.take i).length = i := by rw [List.length_take]; omega
        clear hx
        by_cases hbig : 4096 < x.l.length
        · have hbig' : (4096 : Int) < x.l.length := by omega
          have hsu := HSU.out wr HBW.out
          clear sx nx bx kx
          go_wp2_with fail
          refine hsu.mono ?_
          rintro e w4 ⟨rfl, hb4⟩
          have HE : Hid (Below w.heap.size w w4) := hb4
          clear hsu hb4
          go_wp2
          go_ret
          exact ⟨rfl, HE.out⟩
        · have hbig' : ¬ ((4096 : Int) < x.l.length) := by omega
          have hwr := HI.out.write (x := x) (by omega) (by omega) sx nx bx (by omega)
          rw [hti] at hwr
          have HLX : Hid (x.l.length ≤ 4096) := by show _ ≤ _; omega
          clear sx nx bx kx hti
          go_wp2_with fail
          refine hwr.mono ?_
          rintro e w4 ⟨rfl, hI4⟩
          have HN : Hid (OpW w w4 p (wcP P.length (P.take (i + 1)))) := by rw [HTK.out]; exact hI4
          have HNL : Hid (∀ x ∈ P.take (i + 1), x.l.length ≤ 4096) := fun z hz => by
            rw [HTK.out] at hz
            rcases List.mem_append.1 hz with hz | hz
            · exact HLE.out z hz
            · rw [List.mem_singleton.1 hz]; exact HLX.out
          clear hwr hI4
          go_wp2
          exact ⟨⟨i + 1, by omega, by go_num, HN.out, HNL.out⟩, by simp [intOf]; omega⟩
      · obtain rfl : i = P.length := by omega
        have hnn : ¬ ((P.length : Int) < P.length) := by omega
        have hI2 := HI.out
        rw [List.take_length] at hI2
        have hle2 := HLE.out
        rw [List.take_length] at hle2
        have HLE2 : Hid (∀ x ∈ P, x.l.length ≤ 4096) := hle2
        obtain ⟨G, hc, hgk, _⟩ := hI2
        have HGK : Hid (∀ k, G k → w.heap.size ≤ k ∧ k < wr.heap.size) := hgk
        have HCT : Hid (CtAt wr G p (wcP P.length P)) := hc
        clear HI HLE hle2 hc hgk
        by_cases hbad : x1 < 0 ∨ x2 < 2 ∨ (P.length : Int) < x1 ∨ (P.length : Int) - x1 < x2
        · have hli : liesB x1 x2 (P.length : Int) = false := by
            unfold liesB
            exact decide_eq_false (by omega)
          have hop := open_arg G p (wcP P.length P) P.length x1 x2 wr HCT.out (by simp [wcP]) hli
          clear hli
          go_wp2_with fail
          refine hop.mono ?_
          rintro e w2 ⟨rfl, hb2⟩
          have HB2 : Hid (Below w.heap.size w w2) := Below.transS HBW.out hb2
          clear hop hb2
          go_upto_region 14 with fail
          go_cut [83] (fun v wd => v = .bool true ∧ wd = w2)
          case first =>
            by_cases h1 : x1 < 0
            · have d1 : decide (x1 < 0) = true := decide_eq_true h1
              go_wp2_with fail
              go_meet
              exact ⟨rfl, rfl⟩
            · have d1 : decide (x1 < 0) = false := decide_eq_false h1
              by_cases h2 : x2 < 2
              · have d2 : decide (x2 < 2) = true := decide_eq_true h2
                go_wp2_with fail
                go_meet
                exact ⟨rfl, rfl⟩
              · have d2 : decide (x2 < 2) = false := decide_eq_false h2
                by_cases h3 : (P.length : Int) < x1
                · have d3 : decide ((P.length : Int) < x1) = true := decide_eq_true h3
                  go_wp2_with fail
                  go_meet
                  exact ⟨rfl, rfl⟩
                · have d3 : decide ((P.length : Int) < x1) = false := decide_eq_false h3
                  have h4 : (P.length : Int) - x1 < x2 := by omega
                  have d4 : decide ((P.length : Int) - x1 < x2) = true := decide_eq_true h4
                  have hw4 : wrap64 ((P.length : Int) - x1) = (P.length : Int) - x1 := by unfold wrap64; omega
                  go_wp2_with fail
                  go_meet
                  exact ⟨rfl, rfl⟩
          case rest =>
          obtain ⟨rfl, hwc⟩ := hcut
          rw [hwc]
          clear hwc wc
          have hnum := num_any 1 w2 (HG.out w2 HB2.out)
          rw [HE1.out.1] at hnum
          go_wp2_with fail
          refine hnum.mono ?_
          rintro e w3 ⟨rfl, hb3⟩
          have hsu := HSU.out w3 (Below.transS HB2.out hb3)
          clear hnum hb3
          go_wp2_with fail
          refine hsu.mono ?_
          rintro e w4 ⟨rfl, hb4⟩
          have HE : Hid (Below w.heap.size w w4) := hb4
          clear hsu hb4
          go_wp2
          go_ret
          exact ⟨rfl, HE.out⟩
        · obtain ⟨fr, hfr⟩ : ∃ fr : Nat, x1 = (fr : Int) := ⟨x1.toNat, by omega⟩
          obtain ⟨n, hn⟩ : ∃ n : Nat, x2 = (n : Int) := ⟨x2.toNat, by omega⟩
          have hfn : 2 ≤ n ∧ fr + n ≤ P.length := by omega
          rw [hfr, hn]
          have hop := open_any G p fr n P.length (wcP P.length P) wr HCT.out (wcP_ok _ _ (by omega)) hfn.2 (by omega)
          have hbd : ∀ x ∈ P, ∀ y, y ∈ x.l → 0 ≤ y ∧ y ≤ 255 := fun x hx => (HX.out.each x hx).2.2.1
          rw [open_read hfn.1 hfn.2 hbd] at hop
          obtain ⟨RR, hRR⟩ : ∃ RR, readR ((n - 1 : Nat) : Int) (rdB ((P.drop fr).take n)) = RR := ⟨_, rfl⟩
          rw [hRR] at hop
          have HRR : Hid (readR ((n - 1 : Nat) : Int) (rdB ((P.drop fr).take n)) = RR) := hRR
          have hbad' : ¬ ((fr : Int) < 0 ∨ (n : Int) < 2 ∨ (P.length : Int) < (fr : Int) ∨ (P.length : Int) - (fr : Int) < (n : Int)) := by omega
          clear hbad hfr hn hbd hRR x1 x2
          have hlenT : ((P.drop fr).take n).length = n := by rw [List.length_take, List.length_drop]; omega
          have hn40 : n ≤ 40 := by omega
          go_wp2_with fail
          refine hop.mono ?_
          rintro e w2 ⟨⟨hR2, rfl⟩ | ⟨L, sh, m, hR2, rfl, hS2, hs1, hs2⟩, hb2⟩
          · have HB2 : Hid (Below w.heap.size w w2) := Below.transS HBW.out hb2
            clear hop hb2
            go_upto_region 14 with fail
            go_cut [83] (fun v wd => v = .bool false ∧ wd = w2)
            case first =>
              have d1 : decide ((fr : Int) < 0) = false := decide_eq_false (by omega)
              have d2 : decide ((n : Int) < 2) = false := decide_eq_false (by omega)
              have d3 : decide ((P.length : Int) < (fr : Int)) = false := decide_eq_false (by omega)
              have h2 : ¬ (n : Int) < 2 := by omega
              have h3 : ¬ (P.length : Int) < (fr : Int) := by omega
              have h4 : ¬ (P.length : Int) - (fr : Int) < (n : Int) := by omega
              have d4 : decide ((P.length : Int) - (fr : Int) < (n : Int)) = false := decide_eq_false h4
              have hw4 : wrap64 ((P.length : Int) - (fr : Int)) = (P.length : Int) - (fr : Int) := by unfold wrap64; omega
              go_wp2_with fail
              go_meet
              exact ⟨rfl, rfl⟩
            case rest =>
            obtain ⟨rfl, hwc⟩ := hcut
            rw [hwc]
            clear hwc wc
            have hwn : wrap64 ((fr : Int) + (n : Int)) = (fr : Int) + (n : Int) := by unfold wrap64; omega
            have hrd := read_doc (some ⟨b, off + fr, none⟩) (cap0 - fr) ((P.drop fr).take n) w2 ((HX.out.below HB2.out).part fr n) (by rw [hlenT]; omega) (fun x hx => HLE2.out x (List.mem_of_mem_drop (List.mem_of_mem_take hx)))
            rw [hlenT, HRR.out] at hrd
            have hcf : ¬ cap0 = fr := by omega
            go_wp2_with fail
            refine hrd.mono ?_
            rintro e w3 ⟨hr3, hb3⟩
            have he : e = .returned (.tuple #[.slice none 0 0, .int .i64 14]) := by
              rcases hr3 with ⟨_, h⟩ | ⟨L, v, h, _⟩
              · exact h
              · rw [hR2] at h; cases h
            subst he
            have HB3 : Hid (Below w.heap.size w w3) := Below.transS HB2.out hb3
            have hnum := num_any 14 w3 (HG.out w3 HB3.out)
            rw [HE1.out.2] at hnum
            clear hrd hr3 hb3 hR2
            go_wp2_with fail
            refine hnum.mono ?_
            rintro e w4 ⟨rfl, hb4⟩
            have hsu := HSU.out w4 (Below.transS HB3.out hb4)
            clear hnum hb4
            go_wp2_with fail
            refine hsu.mono ?_
            rintro e w5 ⟨rfl, hb5⟩
            have HE : Hid (Below w.heap.size w w5) := hb5
            clear hsu hb5
            go_wp2
            go_ret
            exact ⟨rfl, HE.out⟩
          · have HB2 : Hid (Below w.heap.size w w2) := Below.transS HBW.out hb2
            have HS2 : Hid (ShAt w2 sh m p fr n L 0) := hS2
            clear hop hb2 hS2 hs1 hs2
            go_upto_region 14 with fail
            go_cut [83] (fun v wd => v = .bool false ∧ wd = w2)
            case first =>
              have d1 : decide ((fr : Int) < 0) = false := decide_eq_false (by omega)
              have d2 : decide ((n : Int) < 2) = false := decide_eq_false (by omega)
              have d3 : decide ((P.length : Int) < (fr : Int)) = false := decide_eq_false (by omega)
              have h2 : ¬ (n : Int) < 2 := by omega
              have h3 : ¬ (P.length : Int) < (fr : Int) := by omega
              have h4 : ¬ (P.length : Int) - (fr : Int) < (n : Int) := by omega
              have d4 : decide ((P.length : Int) - (fr : Int) < (n : Int)) = false := decide_eq_false h4
              have hw4 : wrap64 ((P.length : Int) - (fr : Int)) = (P.length : Int) - (fr : Int) := by unfold wrap64; omega
              go_wp2_with fail
              go_meet
              exact ⟨rfl, rfl⟩
            case rest =>
            obtain ⟨rfl, hwc⟩ := hcut
            rw [hwc]
            clear hwc wc
            have hwn : wrap64 ((fr : Int) + (n : Int)) = (fr : Int) + (n : Int) := by unfold wrap64; omega
            have hrd := read_doc (some ⟨b, off + fr, none⟩) (cap0 - fr) ((P.drop fr).take n) w2 ((HX.out.below HB2.out).part fr n) (by rw [hlenT]; omega) (fun x hx => HLE2.out x (List.mem_of_mem_drop (List.mem_of_mem_take hx)))
            rw [hlenT, HRR.out] at hrd
            have hcf : ¬ cap0 = fr := by omega
            go_wp2_with fail
            refine hrd.mono ?_
            rintro e w3 ⟨hr3, hb3⟩
            obtain ⟨v3, he, hrow⟩ : ∃ v, e = .returned (.tuple #[v, .int .i64 0]) ∧ LrB (w2.heap.size ≤ ·) w3 v L := by
              rcases hr3 with ⟨h, _⟩ | ⟨L', v, h, h1, h2⟩
              · rw [hR2] at h; cases h
              · rw [hR2] at h; cases h; exact ⟨v, h1, h2⟩
            subst he
            have HB3 : Hid (Below w.heap.size w w3) := Below.transS HB2.out hb3
            have HS3 : Hid (ShAt w3 sh m p fr n L 0) := HS2.out.below hb3
            have HROW : Hid (LrB (w2.heap.size ≤ ·) w3 v3 L) := hrow
            have hnum := num_nil w3
            clear hrd hr3 hb3 hR2 hrow
            go_wp2_with fail
            refine hnum.mono ?_
            rintro e w4 ⟨rfl, hb4⟩
            have HB4 : Hid (Below w.heap.size w w4) := Below.transS HB3.out hb4
            obtain ⟨va, vc, hv3, _, _, _, hva⟩ := HROW.out.below hb4
            have hsm := same_any sh m p fr n L 0 va vc L w4 (HS3.out.below hb4) hva (by have := HS3.out.few; omega) (fun y hy => by have := HS3.out.ok.len y hy; unfold maxLen; omega)
            rw [decide_eq_true rfl] at hsm
            subst hv3
            clear hnum hb4 hva
            go_wp2_with fail
            refine hsm.mono ?_
            rintro e w5 ⟨rfl, hb5⟩
            have hsu := HSU.out w5 (Below.transS HB4.out hb5)
            clear hsm hb5
            go_wp2_with fail
            refine hsu.mono ?_
            rintro e w6 ⟨rfl, hb6⟩
            have HE : Hid (Below w.heap.size w w6) := hb6
            clear hsu hb6
            go_wp2
            go_ret
            exact ⟨rfl, HE.out⟩
  · have hsu := HSU.out w (Below.refl _ _)
    by_cases h1 : P.length < 1
    · have h1' : (P.length : Int) < 1 := by omega
      go_enter Tryz.func3, Tryz.ntmps3
      go_wp2_with fail
      refine hsu.mono ?_
      rintro e w4 ⟨rfl, hb4⟩
      have HE : Hid (Below w.heap.size w w4) := hb4
      clear hsu hb4
      go_wp2
      go_ret
      exact ⟨rfl, HE.out⟩
    · have h1' : ¬ ((P.length : Int) < 1) := by omega
      have h2' : (40 : Int) < P.length := by omega
      go_enter Tryz.func3, Tryz.ntmps3
      go_wp2_with fail
      refine hsu.mono ?_
      rintro e w4 ⟨rfl, hb4⟩
      have HE : Hid (Below w.heap.size w w4) := hb4
      clear hsu hb4
      go_wp2
      go_ret
      exact ⟨rfl, HE.out⟩
end Go.Proofs.YtmekplaonlpfkaaGreatDoor
