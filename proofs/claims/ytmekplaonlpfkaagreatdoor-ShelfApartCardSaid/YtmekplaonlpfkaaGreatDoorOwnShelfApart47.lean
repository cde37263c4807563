/- ShelfApart: the walk. -/
import Derived.Test.YtmekplaonlpfkaaGreatDoorOwnShelfApart46
namespace Go.Proofs.YtmekplaonlpfkaaGreatDoor
open Go.RowKit Go.Maps Go.Sort

attribute [local go_sem ↓] Go.wp_at_zero Go.wp_at_succ

theorem openNew20a : openR (newC 20) 0 10 = some [] := by kernel_rfl
theorem openNew20b : openR (newC 20) 10 10 = some [] := by kernel_rfl
set_option maxRecDepth 100000 in
set_option maxHeartbeats 6400000 in
theorem shelfApart_any (a0 : Option Addr) (len0 cap0 : Nat) (X : Nat → List Cg) (a1 : Option Addr) (len1 cap1 : Nat) (Y : Nat → List Cg) (w : World) (hg : Glob w) (hl0 : len0 ≤ maxLen) (hx0 : RwIn w a0 len0 X) (hl1 : len1 ≤ maxLen) (hx1 : RwIn w a1 len1 Y) :
    Calls Tryz.prog 6 #[.slice a0 len0 cap0, .slice a1 len1 cap1] w fun e w' => e = .returned (.bool true) ∧ Below w.heap.size w w' := by
  have HG : Hid (Glob w) := hg
  have hpos := hg.pos
  have HX0 : Hid (RwIn w a0 len0 X) := hx0
  have HX1 : Hid (RwIn w a1 len1 Y) := hx1
  have hml : maxLen = 9223372036854775807 := rfl
  rw [hml] at hl0 hl1
  have hnew := newU 20 (by omega) (by omega) w
  have HSU : Hid (∀ W : World, Below w.heap.size w W → Calls Tryz.prog 8 #[] W fun e w' => e = .returned (.bool true) ∧ Below w.heap.size w w') := fun W hb =>
    (sure_any W (HG.out.below hb hpos)).mono fun e w' h => ⟨h.1, Below.transS hb h.2⟩
  clear hg hx0 hx1 hml
  go_enter Tryz.func6, Tryz.ntmps6
  go_wp2_with fail
  refine hnew.mono ?_
  rintro e w1 ⟨p, rfl, hS1, hb1⟩
  have ho1 := openA (fun k => w.heap.size ≤ k ∧ k < w1.heap.size) p 0 10 20 (newC 20) [] w1 (hS1.mono fun k h1 h2 => ⟨h2, h1⟩) (by omega) (by omega) openNew20a
  have HB1 : Hid (Below w.heap.size w w1) := hb1
  clear hnew hS1 hb1
  go_wp2_with fail
  refine ho1.mono ?_
  rintro e w2 ⟨s, rfl, hS2, hb2⟩
  have ho2 := open2 _ s p 0 10 10 10 20 (newC 20) [] [] w2 hS2 (by omega) (by omega) openNew20b
  have HB2 : Hid (Below w.heap.size w w2) := Below.transS HB1.out hb2
  have HL2 : Hid (LowA (upA (fun k => w.heap.size ≤ k ∧ k < w1.heap.size) w1 w2) w.heap.size w2) := LowA.up (fun k hk => hk) HB1.out.size hb2.size
  clear ho1 hS2 hb2
  go_wp2_with fail
  refine ho2.mono ?_
  rintro e w3 ⟨t, rfl, hT3, hb3⟩
  have HI0 : Hid (∃ A c, ApI w w3 A p s t c [] [] [] [] (.slice none 0 0) (.slice none 0 0)) := ⟨_, _, hT3, newC_laid 0 10 20, newC_laid 10 10 20, LrB.nil _ _, LrB.nil _ _, HL2.out.up HB2.out.size hb3.size, Below.transS HB2.out hb3⟩
  clear ho2 hT3 hb3 HL2 HB1 HB2
  go_wp2
  go_loopw [11, 12, 13] (fun av bv iv wr => ∃ (i : Nat) (La Lb : List Lf), i ≤ 12 ∧ iv = .int .i64 i ∧ ∃ A c, ApI w wr A p s t c La Lb La Lb av bv) (fun _ _ iv _ => 13 - (intOf iv).toNat)
  case atStart => exact ⟨0, [], [], by omega, rfl, HI0.out⟩
  case round =>
    clear HI0
    obtain ⟨i, La, Lb, hi, rfl, A, c, hI⟩ := hrel
    have HI : Hid (ApI w wr A p s t c La Lb La Lb u11 u12) := hI
    clear hI
    by_cases hlt : i < 12
    · have hlt' : (i : Int) < 12 := by omega
      go_upto_region 10 with fail
      go_cut [67] (fun v wd => v = .bool (decide (i < len0) && !longB (X i)) ∧ Below wr.heap.size wr wd)
      case first =>
        by_cases hl : i < len0
        · have hl' : (i : Int) < len0 := by omega
          obtain ⟨b, off, hab, _⟩ := HX0.out.at_ (by omega)
          subst hab
          obtain ⟨a, ca, hcell, hcg⟩ := HX0.out.get HI.out.below hl
          have hsz := HX0.out.size i hl
          have hlo := long_any a ca (X i) wr hcg hsz.1 hsz.2
          have hd : decide (i < len0) = true := decide_eq_true hl
          clear hcg hsz
          obtain ⟨xl, hxl⟩ : ∃ xl, (X i).length = xl := ⟨_, rfl⟩
          rw [hxl] at hcell hlo
          obtain ⟨lo, hlob⟩ : ∃ lo, longB (X i) = lo := ⟨_, rfl⟩
          rw [hlob] at hlo
          have HD : Hid ((decide (i < len0) && !longB (X i)) = !lo) := by rw [hd, hlob]; rfl
          clear hxl hd hlob
          go_wp2_with fail
          refine hlo.mono ?_
          rintro e w5 ⟨rfl, hb5⟩
          have HB5 : Hid (Below wr.heap.size wr w5) := hb5
          clear hlo hb5
          cases lo with
          | true =>
            go_wp2_with fail
            go_meet
            exact ⟨by rw [HD.out]; rfl, HB5.out⟩
          | false =>
            go_wp2_with fail
            go_meet
            exact ⟨by rw [HD.out]; rfl, HB5.out⟩
        · have hl' : ¬ ((i : Int) < len0) := by omega
          have HD : Hid ((decide (i < len0) && !longB (X i)) = false) := by rw [decide_eq_false hl]; rfl
          go_wp2_with fail
          go_meet
          exact ⟨by rw [HD.out], Below.refl _ _⟩
      case rest =>
      obtain ⟨rfl, hbc⟩ := hcut
      generalize hwm : wc = wm at *
      clear hwm wc
      have HIm : Hid (ApI w wm A p s t c La Lb La Lb u11 u12) := HI.out.next hbc
      clear hbc
      obtain ⟨go1, hgo⟩ : ∃ go1, (decide (i < len0) && !longB (X i)) = go1 := ⟨_, rfl⟩
      rw [hgo]
      cases go1 with
      | false =>
        clear hgo
        generalize hwn : wm = wm0 at *
        clear hwn wm
        go_upto_region 13 with fail
        go_cut [97] (fun v wd => v = .bool (decide (i < len1) && !longB (Y i)) ∧ Below wm0.heap.size wm0 wd)
        case first =>
          by_cases hl : i < len1
          · have hl' : (i : Int) < len1 := by omega
            obtain ⟨b, off, hab, _⟩ := HX1.out.at_ (by omega)
            subst hab
            obtain ⟨a, ca, hcell, hcg⟩ := HX1.out.get HIm.out.below hl
            have hsz := HX1.out.size i hl
            have hlo := long_any a ca (Y i) wm0 hcg hsz.1 hsz.2
            have hd : decide (i < len1) = true := decide_eq_true hl
            clear hcg hsz
            obtain ⟨xl, hxl⟩ : ∃ xl, (Y i).length = xl := ⟨_, rfl⟩
            rw [hxl] at hcell hlo
            obtain ⟨lo, hlob⟩ : ∃ lo, longB (Y i) = lo := ⟨_, rfl⟩
            rw [hlob] at hlo
            have HD : Hid ((decide (i < len1) && !longB (Y i)) = !lo) := by rw [hd, hlob]; rfl
            clear hxl hd hlob
            go_wp2_with fail
            refine hlo.mono ?_
            rintro e w5 ⟨rfl, hb5⟩
            have HB5 : Hid (Below wm0.heap.size wm0 w5) := hb5
            clear hlo hb5
            cases lo with
            | true =>
              go_wp2_with fail
              go_meet
              exact ⟨by rw [HD.out]; rfl, HB5.out⟩
            | false =>
              go_wp2_with fail
              go_meet
              exact ⟨by rw [HD.out]; rfl, HB5.out⟩
          · have hl' : ¬ ((i : Int) < len1) := by omega
            have HD : Hid ((decide (i < len1) && !longB (Y i)) = false) := by rw [decide_eq_false hl]; rfl
            go_wp2_with fail
            go_meet
            exact ⟨by rw [HD.out], Below.refl _ _⟩
        case rest =>
        obtain ⟨rfl, hbc⟩ := hcut
        generalize hwm : wc = wm at *
        clear hwm wc
        have HIn : Hid (ApI w wm A p s t c La Lb La Lb u11 u12) := HIm.out.next hbc
        clear hbc
        obtain ⟨go1, hgo⟩ : ∃ go1, (decide (i < len1) && !longB (Y i)) = go1 := ⟨_, rfl⟩
        rw [hgo]
        cases go1 with
        | false =>
          clear hgo
          have HE : Hid (∃ A c, ApI w wm A p s t c La Lb La Lb u11 u12) := ⟨_, _, HIn.out⟩
          go_wp2
          go_roundw
          case rel => exact ⟨i + 1, _, _, by omega, by go_num, HE.out⟩
          case measure => simp [intOf]; omega
        | true =>
          have hl : i < len1 := by
            by_cases h : i < len1
            · exact h
            · rw [decide_eq_false h] at hgo; cases hgo
          have hlb : longB (Y i) = false := by
            cases h : longB (Y i) with
            | false => rfl
            | true => rw [h] at hgo; simp at hgo
          clear hgo
          have hl' : (i : Int) < len1 := by omega
          have HLB : Hid (longB (Y i) = false) := hlb
          obtain ⟨hok, hlen⟩ := COk.of_long hlb
          have HOK : Hid (COk (Y i)) := hok
          obtain ⟨b, off, hab, _⟩ := HX1.out.at_ (by omega)
          subst hab
          obtain ⟨a, ca, hcell, hcg⟩ := HX1.out.get HIn.out.below hl
          have hgv := give_any a ca (Y i) wm hcg (by omega)
          clear hcg hok hlb
          obtain ⟨C, hC⟩ : ∃ C, Y i = C := ⟨_, rfl⟩
          have HC : Hid (Y i = C) := hC
          rw [hC] at hcell hgv hlen
          clear hC
          go_wp2_with fail
          refine hgv.mono ?_
          rintro e w6 ⟨gv, rfl, hG6⟩
          obtain ⟨ga, gc, hgv6, hga6, _⟩ := hG6.sl
          subst hgv6
          have HI6 : Hid (ApI w w6 A p s t c La Lb La Lb u11 u12) := HIn.out.next hG6.below
          have hset := HI6.out.setB ga gc C hga6 (by rw [← HC.out]; exact HOK.out)
          clear hgv hG6 hga6 hcell
          go_wp2_with fail
          refine hset.mono ?_
          rintro e w7 ⟨⟨x7, rfl⟩, A9, c9, hI7⟩
          have HI7 : Hid (ApI w w7 A9 p s t c9 La (setD 10 Lb C).1 La Lb u11 u12) := hI7
          obtain ⟨a7, ca7, hcell7, hcg7⟩ := HX1.out.get HI7.out.below hl
          rw [HC.out] at hcell7 hcg7
          have hdoc := HI7.out.docB (HIn.out.tw.symm.first.ok.1) a7 ca7 C hcg7 (by rw [← HC.out]; exact HLB.out)
          clear hset hI7 hcg7
          go_wp2_with fail
          refine hdoc.mono ?_
          rintro e w8 ⟨v8, y8, z8, q8, rfl, hI8⟩
          have HI8 : Hid (ApI w w8 A9 p s t c9 La (setD 10 Lb C).1 La (setD 10 Lb C).1 u11 v8) := hI8
          clear hdoc hI8 hcell7
          have HE : Hid (∃ A c, ApI w w8 A p s t c La (setD 10 Lb C).1 La (setD 10 Lb C).1 u11 v8) := ⟨_, _, HI8.out⟩
          go_wp2
          go_roundw
          case rel => exact ⟨i + 1, _, _, by omega, by go_num, HE.out⟩
          case measure => simp [intOf]; omega
      | true =>
        have hl : i < len0 := by
          by_cases h : i < len0
          · exact h
          · rw [decide_eq_false h] at hgo; cases hgo
        have hlb : longB (X i) = false := by
          cases h : longB (X i) with
          | false => rfl
          | true => rw [h] at hgo; simp at hgo
        clear hgo
        have hl' : (i : Int) < len0 := by omega
        have HLB : Hid (longB (X i) = false) := hlb
        obtain ⟨hok, hlen⟩ := COk.of_long hlb
        have HOK : Hid (COk (X i)) := hok
        obtain ⟨b, off, hab, _⟩ := HX0.out.at_ (by omega)
        subst hab
        obtain ⟨a, ca, hcell, hcg⟩ := HX0.out.get HIm.out.below hl
        have hgv := give_any a ca (X i) wm hcg (by omega)
        clear hcg hok hlb
        obtain ⟨C, hC⟩ : ∃ C, X i = C := ⟨_, rfl⟩
        have HC : Hid (X i = C) := hC
        rw [hC] at hcell hgv hlen
        clear hC
        go_wp2_with fail
        refine hgv.mono ?_
        rintro e w6 ⟨gv, rfl, hG6⟩
        obtain ⟨ga, gc, hgv6, hga6, _⟩ := hG6.sl
        subst hgv6
        have HI6 : Hid (ApI w w6 A p s t c La Lb La Lb u11 u12) := HIm.out.next hG6.below
        have hset := HI6.out.setA ga gc C hga6 (by rw [← HC.out]; exact HOK.out)
        clear hgv hG6 hga6 hcell
        go_wp2_with fail
        refine hset.mono ?_
        rintro e w7 ⟨⟨x7, rfl⟩, A7, c7, hI7⟩
        have HI7 : Hid (ApI w w7 A7 p s t c7 (setD 10 La C).1 Lb La Lb u11 u12) := hI7
        obtain ⟨a7, ca7, hcell7, hcg7⟩ := HX0.out.get HI7.out.below hl
        rw [HC.out] at hcell7 hcg7
        have hdoc := HI7.out.docA (HIm.out.tw.first.ok.1) a7 ca7 C hcg7 (by rw [← HC.out]; exact HLB.out)
        clear hset hI7 hcg7
        go_wp2_with fail
        refine hdoc.mono ?_
        rintro e w8 ⟨v8, y8, z8, q8, rfl, hI8⟩
        have HI8 : Hid (ApI w w8 A7 p s t c7 (setD 10 La C).1 Lb (setD 10 La C).1 Lb v8 u12) := hI8
        clear hdoc hI8 hcell7
        generalize hwn : w8 = w8a at *
        clear hwn w8
        generalize hvn : v8 = v8a at *
        clear hvn v8
        generalize hcn : C = C0 at *
        clear hcn C
        go_upto_region 13 with fail
        go_cut [97] (fun v wd => v = .bool (decide (i < len1) && !longB (Y i)) ∧ Below w8a.heap.size w8a wd)
        case first =>
          by_cases hl : i < len1
          · have hl' : (i : Int) < len1 := by omega
            obtain ⟨b, off, hab, _⟩ := HX1.out.at_ (by omega)
            subst hab
            obtain ⟨a, ca, hcell, hcg⟩ := HX1.out.get HI8.out.below hl
            have hsz := HX1.out.size i hl
            have hlo := long_any a ca (Y i) w8a hcg hsz.1 hsz.2
            have hd : decide (i < len1) = true := decide_eq_true hl
            clear hcg hsz
            obtain ⟨xl, hxl⟩ : ∃ xl, (Y i).length = xl := ⟨_, rfl⟩
            rw [hxl] at hcell hlo
            obtain ⟨lo, hlob⟩ : ∃ lo, longB (Y i) = lo := ⟨_, rfl⟩
            rw [hlob] at hlo
            have HD : Hid ((decide (i < len1) && !longB (Y i)) = !lo) := by rw [hd, hlob]; rfl
            clear hxl hd hlob
            go_wp2_with fail
            refine hlo.mono ?_
            rintro e w5 ⟨rfl, hb5⟩
            have HB5 : Hid (Below w8a.heap.size w8a w5) := hb5
            clear hlo hb5
            cases lo with
            | true =>
              go_wp2_with fail
              go_meet
              exact ⟨by rw [HD.out]; rfl, HB5.out⟩
            | false =>
              go_wp2_with fail
              go_meet
              exact ⟨by rw [HD.out]; rfl, HB5.out⟩
          · have hl' : ¬ ((i : Int) < len1) := by omega
            have HD : Hid ((decide (i < len1) && !longB (Y i)) = false) := by rw [decide_eq_false hl]; rfl
            go_wp2_with fail
            go_meet
            exact ⟨by rw [HD.out], Below.refl _ _⟩
        case rest =>
        obtain ⟨rfl, hbc⟩ := hcut
        generalize hwm : wc = wm at *
        clear hwm wc
        have HIn : Hid (ApI w wm A7 p s t c7 (setD 10 La C0).1 Lb (setD 10 La C0).1 Lb v8a u12) := HI8.out.next hbc
        clear hbc
        obtain ⟨go1, hgo⟩ : ∃ go1, (decide (i < len1) && !longB (Y i)) = go1 := ⟨_, rfl⟩
        rw [hgo]
        cases go1 with
        | false =>
          clear hgo
          have HE : Hid (∃ A c, ApI w wm A p s t c (setD 10 La C0).1 Lb (setD 10 La C0).1 Lb v8a u12) := ⟨_, _, HIn.out⟩
          go_wp2
          go_roundw
          case rel => exact ⟨i + 1, _, _, by omega, by go_num, HE.out⟩
          case measure => simp [intOf]; omega
        | true =>
          have hl : i < len1 := by
            by_cases h : i < len1
            · exact h
            · rw [decide_eq_false h] at hgo; cases hgo
          have hlb : longB (Y i) = false := by
            cases h : longB (Y i) with
            | false => rfl
            | true => rw [h] at hgo; simp at hgo
          clear hgo
          have hl' : (i : Int) < len1 := by omega
          have HLB : Hid (longB (Y i) = false) := hlb
          obtain ⟨hok, hlen⟩ := COk.of_long hlb
          have HOK : Hid (COk (Y i)) := hok
          obtain ⟨b, off, hab, _⟩ := HX1.out.at_ (by omega)
          subst hab
          obtain ⟨a, ca, hcell, hcg⟩ := HX1.out.get HIn.out.below hl
          have hgv := give_any a ca (Y i) wm hcg (by omega)
          clear hcg hok hlb
          obtain ⟨C, hC⟩ : ∃ C, Y i = C := ⟨_, rfl⟩
          have HC : Hid (Y i = C) := hC
          rw [hC] at hcell hgv hlen
          clear hC
          go_wp2_with fail
          refine hgv.mono ?_
          rintro e w6 ⟨gv, rfl, hG6⟩
          obtain ⟨ga, gc, hgv6, hga6, _⟩ := hG6.sl
          subst hgv6
          have HI6 : Hid (ApI w w6 A7 p s t c7 (setD 10 La C0).1 Lb (setD 10 La C0).1 Lb v8a u12) := HIn.out.next hG6.below
          have hset := HI6.out.setB ga gc C hga6 (by rw [← HC.out]; exact HOK.out)
          clear hgv hG6 hga6 hcell
          go_wp2_with fail
          refine hset.mono ?_
          rintro e w7 ⟨⟨x7, rfl⟩, A9, c9, hI7⟩
          have HI7 : Hid (ApI w w7 A9 p s t c9 (setD 10 La C0).1 (setD 10 Lb C).1 (setD 10 La C0).1 Lb v8a u12) := hI7
          obtain ⟨a7, ca7, hcell7, hcg7⟩ := HX1.out.get HI7.out.below hl
          rw [HC.out] at hcell7 hcg7
          have hdoc := HI7.out.docB (HIn.out.tw.symm.first.ok.1) a7 ca7 C hcg7 (by rw [← HC.out]; exact HLB.out)
          clear hset hI7 hcg7
          go_wp2_with fail
          refine hdoc.mono ?_
          rintro e w8 ⟨v8, y8, z8, q8, rfl, hI8⟩
          have HI8 : Hid (ApI w w8 A9 p s t c9 (setD 10 La C0).1 (setD 10 Lb C).1 (setD 10 La C0).1 (setD 10 Lb C).1 v8a v8) := hI8
          clear hdoc hI8 hcell7
          have HE : Hid (∃ A c, ApI w w8 A p s t c (setD 10 La C0).1 (setD 10 Lb C).1 (setD 10 La C0).1 (setD 10 Lb C).1 v8a v8) := ⟨_, _, HI8.out⟩
          go_wp2
          go_roundw
          case rel => exact ⟨i + 1, _, _, by omega, by go_num, HE.out⟩
          case measure => simp [intOf]; omega
    · obtain rfl : i = 12 := by omega
      obtain ⟨oa, hidl, hlen⟩ := HI.out.tw.first.ok
      obtain ⟨ob, _, _⟩ := HI.out.tw.symm.first.ok
      have hla : La.length ≤ 1000 := by have := frN_length oa; omega
      have hlb : Lb.length ≤ 1000 := by have := frN_length ob; omega
      have HKA : Hid (∀ y ∈ La, y.k.length ≤ 100000) := fun y hy => by have := oa.len y hy; omega
      have HKB : Hid (∀ y ∈ Lb, y.k.length ≤ 100000) := fun y hy => by have := ob.len y hy; omega
      have ho1 := openA A p 0 10 20 c La wr HI.out.tw.first.store (by omega) (by omega) (open_back HI.out.la oa (by omega))
      have HO2 : Hid (openR c 10 10 = some Lb) := open_back HI.out.lb ob (by omega)
      clear oa ob hidl hlen
      go_wp2_with fail
      refine ho1.mono ?_
      rintro e w1 ⟨u, rfl, hU1, hb1⟩
      have HI1 : Hid (ApI w w1 A p s t c La Lb La Lb u11 u12) := HI.out.next hb1
      have HU1 : Hid (ShU (upA A wr w1) w1 u p 0 10 20 La c) := hU1
      have ho2 := openA A p 10 10 20 c Lb w1 HI1.out.tw.first.store (by omega) (by omega) HO2.out
      clear ho1 hU1 hb1
      go_wp2_with fail
      refine ho2.mono ?_
      rintro e w2 ⟨v, rfl, hV2, hb2⟩
      have HI2 : Hid (ApI w w2 A p s t c La Lb La Lb u11 u12) := HI1.out.next hb2
      have HU2 : Hid (ShU (upA A wr w1) w2 u p 0 10 20 La c) := HU1.out.below hb2
      have HV2 : Hid (ShU (upA A w1 w2) w2 v p 10 10 20 Lb c) := hV2
      have hs1 := sameT A s p 0 10 20 La c _ u11 La w2 HI2.out.tw.first HI2.out.ra hla HKA.out rfl
      clear ho2 hV2 hb2
      go_wp2_with fail
      refine hs1.mono ?_
      rintro e w3 ⟨rfl, hb3⟩
      have HI3 : Hid (ApI w w3 A p s t c La Lb La Lb u11 u12) := HI2.out.next hb3
      have HU3 : Hid (ShU (upA A wr w1) w3 u p 0 10 20 La c) := HU2.out.below hb3
      have HV3 : Hid (ShU (upA A w1 w2) w3 v p 10 10 20 Lb c) := HV2.out.below hb3
      have hs2 := sameT A t p 10 10 20 Lb c _ u12 Lb w3 HI3.out.tw.symm.first HI3.out.rb hlb HKB.out rfl
      clear hs1 hb3
      go_wp2_with fail
      refine hs2.mono ?_
      rintro e w4 ⟨rfl, hb4⟩
      have HI4 : Hid (ApI w w4 A p s t c La Lb La Lb u11 u12) := HI3.out.next hb4
      have HU4 : Hid (ShU (upA A wr w1) w4 u p 0 10 20 La c) := HU3.out.below hb4
      have HV4 : Hid (ShU (upA A w1 w2) w4 v p 10 10 20 Lb c) := HV3.out.below hb4
      have hs3 := sameT _ u p 0 10 20 La c _ u11 La w4 HU4.out HI4.out.ra hla HKA.out rfl
      clear hs2 hb4
      go_wp2_with fail
      refine hs3.mono ?_
      rintro e w5 ⟨rfl, hb5⟩
      have HI5 : Hid (ApI w w5 A p s t c La Lb La Lb u11 u12) := HI4.out.next hb5
      have HV5 : Hid (ShU (upA A w1 w2) w5 v p 10 10 20 Lb c) := HV4.out.below hb5
      have hs4 := sameT _ v p 10 10 20 Lb c _ u12 Lb w5 HV5.out HI5.out.rb hlb HKB.out rfl
      clear hs3 hb5
      go_wp2_with fail
      refine hs4.mono ?_
      rintro e w6 ⟨rfl, hb6⟩
      have HI6 : Hid (ApI w w6 A p s t c La Lb La Lb u11 u12) := HI5.out.next hb6
      have hsu := HSU.out w6 HI6.out.below
      clear hs4 hb6
      go_wp2_with fail
      refine hsu.mono ?_
      rintro e w7 ⟨rfl, hb7⟩
      have HE : Hid (Below w.heap.size w w7) := hb7
      clear hsu hb7
      go_wp2
      go_ret
      exact ⟨rfl, HE.out⟩
end Go.Proofs.YtmekplaonlpfkaaGreatDoor
