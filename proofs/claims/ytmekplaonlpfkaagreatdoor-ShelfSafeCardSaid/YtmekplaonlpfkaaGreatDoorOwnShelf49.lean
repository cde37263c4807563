/- ShelfSafe: the walk. -/
import Derived.Test.YtmekplaonlpfkaaGreatDoorOwnShelf48
namespace Go.Proofs.YtmekplaonlpfkaaGreatDoor
open Go.RowKit Go.Maps Go.Sort

attribute [local go_sem ↓] Go.wp_at_zero Go.wp_at_succ

/-- The shelf, its store, and the document's row, between two rounds. -/
structure SfI (w wr : World) (A : Nat → Prop) (ab p s : Nat) (c : Ct) (S R : List Lf) (v : Value) : Prop where
  sh : ShX A wr s p S 0 c
  rest : c.Rest 12
  laid : Laid c 0 12 S
  kv : kvs S = kvs R
  rok : LOk 12 R
  rows : SfW w wr A ab R v R v
theorem SfI.next {w wr w' : World} {A : Nat → Prop} {ab p s : Nat} {c : Ct} {S R : List Lf} {v : Value} (h : SfI w wr A ab p s c S R v) (hb : Below wr.heap.size wr w') : SfI w w' A ab p s c S R v := ⟨h.sh.below hb, h.rest, h.laid, h.kv, h.rok, h.rows.next hb⟩
theorem SfI.arm {w wr w' : World} {A : Nat → Prop} {ab p s : Nat} {c : Ct} {S R : List Lf} {v : Value} {r : Nat} (h : SfI w wr A ab p s c S R v) (hr : r < 9) (hx : ShX A w' s p S 0 (c.arm r)) (hf : Fr A wr w') : SfI w w' A ab p s (c.arm r) S R v :=
  ⟨hx, ⟨h.rest.len, h.rest.loose, h.rest.down, by simp only [Ct.arm]; omega⟩, h.laid.off h.rest.loose h.rest.loose (fun _ _ => rfl), h.kv, h.rok, h.rows.fr' hf⟩
theorem openNew12 : openR (newC 12) 0 12 = some [] := by kernel_rfl
set_option maxRecDepth 100000 in
set_option maxHeartbeats 6400000 in
theorem shelfSafe_any (a0 : Option Addr) (len0 cap0 : Nat) (X : Nat → List Cg) (a1 : Option Addr) (cap1 : Nat) (ks1 : List Int) (a2 : Option Addr) (cap2 : Nat) (ks2 : List Int) (w : World) (hg : Glob w) (hl0 : len0 ≤ maxLen) (hx0 : RwIn w a0 len0 X) (hk1 : ks1.length * 8 ≤ 140737488355328) (hi1 : IsL w a1 ks1) (_hn1 : a1 = none → ks1.length = 0 ∧ cap1 = 0) (hk2 : ks2.length * 8 ≤ 140737488355328) (hi2 : IsL w a2 ks2) (hn2 : a2 = none → ks2.length = 0 ∧ cap2 = 0) :
    Calls Tryz.prog 5 #[.slice a0 len0 cap0, .slice a1 ks1.length cap1, .slice a2 ks2.length cap2] w fun e w' => e = .returned (.bool true) ∧ Below w.heap.size w w' := by
  have HG : Hid (∀ W : World, Below w.heap.size w W → Glob W) := fun W hb => hg.below hb hg.pos
  have HX0 : Hid (RwIn w a0 len0 X) := hx0
  have HI1 : Hid (IsL w a1 ks1) := hi1
  have HI2 : Hid (IsL w a2 ks2) := hi2
  have HN2 : Hid (a2 = none → ks2.length = 0 ∧ cap2 = 0) := hn2
  have hml : maxLen = 9223372036854775807 := rfl
  rw [hml] at hl0
  have hnew := newU 12 (by omega) (by omega) w
  have HSU : Hid (∀ W : World, Below w.heap.size w W → Calls Tryz.prog 8 #[] W fun e w' => e = .returned (.bool true) ∧ Below w.heap.size w w') := fun W hb =>
    (sure_any W (HG.out W hb)).mono fun e w' h => ⟨h.1, Below.transS hb h.2⟩
  clear hg hx0 hi1 hi2 hn2 _hn1 hml
  go_enter Tryz.func5, Tryz.ntmps5
  go_wp2_with fail
  refine hnew.mono ?_
  rintro e w1 ⟨p, rfl, hS1, hb1⟩
  obtain ⟨w2, hw2⟩ : ∃ w2, w1.alloc (.cells #[.int .i64 0, .int .i64 12] 35) = w2 := ⟨_, rfl⟩
  have hb2 : Below w1.heap.size w1 w2 := by rw [← hw2]; exact (Below.refl _ w1).alloc (Nat.le_refl _) _
  have hbox : w2.heap[w1.heap.size]? = some (.cells #[.int .i64 0, .int .i64 12] 35 (0, 0)) := by rw [← hw2]; exact heap_alloc_new w1 _
  have ho1 := openA (fun k => w.heap.size ≤ k ∧ k < w1.heap.size) p 0 12 12 (newC 12) [] w2 ((hS1.mono fun k h1 h2 => ⟨h2, h1⟩).below hb2) (by omega) (by omega) openNew12
  have HB2 : Hid (Below w.heap.size w w2) := Below.transS hb1 hb2
  have HW2 : Hid (SfW w w2 (fun k => w.heap.size ≤ k ∧ k < w1.heap.size) w1.heap.size [] (.slice none 0 0) [] (.slice none 0 0)) := ⟨LrB.nil _ _, LrB.nil _ _, hbox, fun h => by omega, fun k hk => ⟨hk.1, by have := hb2.size; omega⟩, HB2.out⟩
  have k0 : w2.cell? ⟨w1.heap.size, 0, none⟩ = some (.int .i64 0) := by rw [cell_of_row _ _ 0 _ _ _ hbox]; rfl
  have k1 : w2.cell? ⟨w1.heap.size, 1, none⟩ = some (.int .i64 12) := by rw [cell_of_row _ _ 1 _ _ _ hbox]; rfl
  clear hnew hS1 hb1 hb2 hbox
  go_wp2_with fail
  clear hw2 k0 k1
  refine ho1.mono ?_
  rintro e w3 ⟨s0, rfl, hS3, hb3⟩
  obtain ⟨ab, hab⟩ : ∃ ab, w1.heap.size = ab := ⟨_, rfl⟩
  rw [hab] at HW2 hS3 ⊢
  have HI0 : Hid (∃ A c, SfI w w3 A ab p s0 c [] [] (.slice none 0 0)) := by
    obtain ⟨G, m, h1, h2, h3, h4, h5⟩ := hS3
    exact ⟨_, _, ⟨G, m, h1, h2, h3, h4⟩, newC_rest 12, newC_laid 0 12 12, rfl, LOk.nil 12, HW2.out.more hb3⟩
  clear ho1 hS3 hb3 HW2 HB2 hab
  go_wp2
  go_loopw [10, 12, 13, 14, 15, 16, 17, 18, 19, 20] (fun sv nv iv _ _ _ _ _ _ _ wr => ∃ (i s : Nat) (S R : List Lf), i ≤ len0 ∧ i ≤ 20 ∧ iv = .int .i64 i ∧ sv = .pointer (some ⟨s, 0, none⟩) ∧ ∃ A c, SfI w wr A ab p s c S R nv) (fun _ _ iv _ _ _ _ _ _ _ _ => 21 - (intOf iv).toNat)
  case atStart => exact ⟨0, s0, [], [], by omega, by omega, rfl, rfl, HI0.out⟩
  case round =>
    clear HI0
    obtain ⟨i, s, S, R, hi, hi20, rfl, rfl, A, c, hI⟩ := hrel
    have HI : Hid (SfI w wr A ab p s c S R u12) := hI
    clear hI
    by_cases hlt : i < len0 ∧ i < 20
    · have h1' : (i : Int) < len0 := by omega
      have h2' : (i : Int) < 20 := by omega
      obtain ⟨b, off, hab, _⟩ := HX0.out.at_ (by omega)
      subst hab
      obtain ⟨a, ca, hcell, hcg⟩ := HX0.out.get HI.out.rows.below hlt.1
      have hsz := HX0.out.size i hlt.1
      have hlo := long_any a ca (X i) wr hcg hsz.1 hsz.2
      obtain ⟨C, hC⟩ : ∃ C, X i = C := ⟨_, rfl⟩
      have HC : Hid (X i = C) := hC
      rw [hC] at hcell hlo
      obtain ⟨lo, hlob⟩ : ∃ lo, longB C = lo := ⟨_, rfl⟩
      have HLO : Hid (longB C = lo) := hlob
      rw [hlob] at hlo
      clear hcg hsz hC hlob
      go_wp2_with fail
      refine hlo.mono ?_
      rintro e w5 ⟨rfl, hb5⟩
      have HI5 : Hid (SfI w w5 A ab p s c S R u12) := HI.out.next hb5
      clear hlo hb5 hcell HI
      cases lo with
      | true =>
        have HE : Hid (∃ A c, SfI w w5 A ab p s c S R u12) := ⟨_, _, HI5.out⟩
        go_wp2
        exact ⟨⟨i + 1, s, S, R, by omega, by omega, by go_num, rfl, HE.out⟩, by simp [intOf]; omega⟩
      | false =>
      obtain ⟨hok, hlen⟩ := COk.of_long HLO.out
      have HOK : Hid (COk C) := hok
      clear hok
      go_upto_region 11 with fail
      go_cut [72] (fun v wd => v = .bool false ∧ ∃ c', SfI w wd A ab p s c' S R u12)
      case first =>
        by_cases hst : i < ks1.length
        · have hst' : (i : Int) < ks1.length := by omega
          obtain ⟨b1, off1, hab1, hcc1⟩ := (HI1.out.below HI5.out.rows.below) (by omega)
          subst hab1
          have hx1 := hcc1 i _ (List.getElem?_eq_getElem hst)
          generalize ks1[i] = x at *
          obtain ⟨r, hr, hrem⟩ := rem_ix x 9 (by omega) (by omega)
          have harm := armX A s p S 0 c (r : Int) w5 HI5.out.sh (by omega)
          have HRM : Hid (wrap64 ((IntKind.u64.wrap x).tmod 9) = (r : Int)) := hrem
          clear hcc1 hrem
          go_wp2_with fail
          rw [HRM.out]
          refine harm.mono ?_
          rintro e w6 ⟨rfl, hX6, hF6⟩
          have HE : Hid (∃ c', SfI w w6 A ab p s c' S R u12) := ⟨_, HI5.out.arm hr hX6 hF6⟩
          clear harm hX6 hF6 hx1
          go_wp2_with fail
          go_meet
          exact ⟨rfl, HE.out⟩
        · have hst' : ¬ ((i : Int) < ks1.length) := by omega
          go_wp2_with fail
          go_meet
          exact ⟨rfl, c, HI5.out⟩
      case rest =>
      obtain ⟨rfl, c2, hI2⟩ := hcut
      have HIa : Hid (SfI w wc A ab p s c2 S R u12) := hI2
      obtain ⟨a, ca, hcell, hcg⟩ := HX0.out.get HIa.out.rows.below hlt.1
      rw [HC.out] at hcell hcg
      have hgv := give_any a ca C wc hcg (by omega)
      clear hcg hI2 HI5
      go_wp2_with fail
      refine hgv.mono ?_
      rintro e w6 ⟨gv, rfl, hG6⟩
      obtain ⟨ga, gc, hgv6, hga6, _⟩ := hG6.sl
      subst hgv6
      have HI6 : Hid (SfI w w6 A ab p s c2 S R u12) := HIa.out.next hG6.below
      have hset := setX A s p S c2 ga gc C w6 HI6.out.sh HI6.out.rest hga6 HOK.out
      have hso := setO_rest C HI6.out.rest (fr := 0) (n := 12) (by omega) HI6.out.sh.ok (by omega) HI6.out.laid
      have hkv := setD_kvs (n := 12) HI6.out.kv C
      have HKV : Hid (kvs (setD 12 S C).1 = kvs (setD 12 R C).1) := hkv.1
      have HRK : Hid (LOk 12 (setD 12 R C).1) := setD_ok HI6.out.rok C
      clear hgv hG6 hga6 hcell
      go_wp2_with fail
      refine hset.mono ?_
      rintro e w7 ⟨rfl, hX7, hF7⟩
      have HW7 : Hid (SfW w w7 (upA A w6 w7) ab R u12 R u12) := HI6.out.rows.fr hF7
      obtain ⟨a7, ca7, hcell7, hcg7⟩ := HX0.out.get HW7.out.below hlt.1
      rw [HC.out] at hcell7 hcg7
      have hdoc := docX HW7.out HI6.out.rok a7 ca7 C hcg7 HLO.out
      obtain ⟨er, her⟩ : ∃ er, (setD 12 R C).2.2.2 = er := ⟨_, rfl⟩
      have HER : Hid ((setD 12 S C).2.2.2 = er) := hkv.2.trans her
      rw [her] at hdoc
      obtain ⟨ro, hro⟩ : ∃ ro, setO 0 12 S 0 c2 C = ro := ⟨_, rfl⟩
      rw [hro] at hX7 hso
      rw [hro]
      clear hset hF7 hcg7 hkv her hro
      obtain ⟨c7, hc7⟩ : ∃ c7, ro.2.2.2 = c7 := ⟨_, rfl⟩
      rcases hso with ⟨h1, h2, h3, h4, h5⟩ | ⟨h1, h2, h3, h4, h5, h6⟩
      · rw [h2, h3, hc7] at hX7
        rw [hc7] at h4 h5
        rw [h1, HER.out]
        have HX7 : Hid (ShX (upA A w6 w7) w7 s p (setD 12 S C).1 0 c7) := hX7
        have HR7 : Hid (c7.Rest 12) := h4
        have HL7 : Hid (Laid c7 0 12 (setD 12 S C).1) := h5
        clear h1 h2 h3 h4 h5 hX7 hc7 HIa HI6
        go_wp2_with fail
        refine hdoc.mono ?_
        rintro e w8 ⟨v8, x8, y8, rfl, hW8, hb8⟩
        have HX8 : Hid (ShX (upA A w6 w7) w8 s p (setD 12 S C).1 0 c7) := HX7.out.below hb8
        have HW8 : Hid (SfW w w8 (upA A w6 w7) ab R u12 (setD 12 R C).1 v8) := hW8
        have hdn := downX _ s p _ 0 c7 w8 HX8.out
        rw [HR7.out.down] at hdn
        clear hdoc hW8 hb8 hcell7
        go_wp2_with fail
        refine hdn.mono ?_
        rintro e w9 ⟨rfl, hw9⟩
        subst hw9
        have hnum := num_any er w9 (HG.out w9 HW8.out.below)
        clear hdn
        go_wp2_with fail
        refine hnum.mono ?_
        rintro e w10 ⟨rfl, hb10⟩
        have HE : Hid (∃ A c, SfI w w10 A ab p s c (setD 12 S C).1 (setD 12 R C).1 v8) := ⟨_, _, HX8.out.below hb10, HR7.out, HL7.out, HKV.out, HRK.out, (HW8.out.turn).next hb10⟩
        clear hnum hb10
        go_wp2
        go_roundw
        case rel => exact ⟨i + 1, s, _, _, by omega, by omega, by go_num, rfl, HE.out⟩
        case measure => simp [intOf]; omega
      · rw [h2, h3, hc7] at hX7
        rw [hc7] at h4 h5 h6
        rw [h1]
        have HX7 : Hid (ShX (upA A w6 w7) w7 s p S 13 c7) := hX7
        have HD7 : Hid (c7.down = true) := h4
        have HK7 : Hid (∀ K, (c7.started K).Rest 12 ∧ (Laid (c7.started K) 0 12 S ∨ Laid (c7.started K) 0 12 (setD 12 S C).1)) := h6
        have HOS : Hid (LOk 12 S) := HI6.out.sh.ok
        have HKS : Hid (kvs S = kvs R) := HI6.out.kv
        have HRR : Hid (LOk 12 R) := HI6.out.rok
        clear h1 h2 h3 h4 h5 h6 hX7 hc7 HIa HI6
        have e13 : errV 13 = .iface 72 (.int .i64 13) := errV_ne (by decide)
        go_wp2_with fail
        refine hdoc.mono ?_
        rintro e w8 ⟨v8, x8, y8, rfl, hW8, hb8⟩
        have HX8 : Hid (ShX (upA A w6 w7) w8 s p S 13 c7) := HX7.out.below hb8
        have HW8 : Hid (SfW w w8 (upA A w6 w7) ab R u12 (setD 12 R C).1 v8) := hW8
        have hdn := downX _ s p _ 13 c7 w8 HX8.out
        rw [HD7.out] at hdn
        clear hdoc hW8 hb8 hcell7
        go_wp2_with fail
        refine hdn.mono ?_
        rintro e w9 ⟨rfl, hw9⟩
        subst hw9
        have hnum := num_any 13 w9 (HG.out w9 HW8.out.below)
        rw [e13] at hnum
        clear hdn
        go_wp2_with fail
        refine hnum.mono ?_
        rintro e w10 ⟨rfl, hb10⟩
        have HX10 : Hid (ShX (upA A w6 w7) w10 s p S 13 c7) := HX8.out.below hb10
        have HW10 : Hid (SfW w w10 (upA A w6 w7) ab R u12 (setD 12 R C).1 v8) := HW8.out.next hb10
        have hds := deadX _ s p S 13 c7 (.slice none 0 0) w10 HX10.out (by decide)
        rw [e13] at hds
        clear hnum hb10 HX8 HW8
        go_wp2_with fail
        refine hds.mono ?_
        rintro e w11 ⟨rfl, hX11, hF11⟩
        obtain ⟨A11, hA11⟩ : ∃ A11, upA (upA A w6 w7) w10 w11 = A11 := ⟨_, rfl⟩
        have HW11 : Hid (SfW w w11 A11 ab R u12 (setD 12 R C).1 v8) := by rw [← hA11]; exact HW10.out.fr hF11
        rw [hA11] at hX11
        have HX11 : Hid (ShX A11 w11 s p S 13 c7) := hX11
        have hnum := num_any 13 w11 (HG.out w11 HW11.out.below)
        rw [e13] at hnum
        clear hds hX11 hF11 hA11 HX10 HW10
        go_wp2_with fail
        refine hnum.mono ?_
        rintro e w12 ⟨rfl, hb12⟩
        have HX12 : Hid (ShX A11 w12 s p S 13 c7) := HX11.out.below hb12
        have HW12 : Hid (SfW w w12 A11 ab R u12 (setD 12 R C).1 v8) := HW11.out.next hb12
        have hown := ownI_any a2 cap2 ks2 w12 (HI2.out.below HW12.out.below) HN2.out hk2
        clear hnum hb12 HX11 HW11
        go_wp2_with fail
        refine hown.mono ?_
        rintro e w13 ⟨oa, oc, rfl, hio, hb13⟩
        have HX13 : Hid (ShX A11 w13 s p S 13 c7) := HX12.out.below hb13
        have HW13 : Hid (SfW w w13 A11 ab R u12 (setD 12 R C).1 v8) := HW12.out.next hb13
        have hsta := startX A11 s p S 13 c7 oa oc ks2 w13 HX13.out hio (by omega)
        clear hown hio hb13 HX12 HW12
        go_wp2_with fail
        refine hsta.mono ?_
        rintro e w14 ⟨rfl, hX14, hF14⟩
        obtain ⟨c9, hc9⟩ : ∃ c9, c7.started (toldK ks2) = c9 := ⟨_, rfl⟩
        have hk9 := HK7.out (toldK ks2)
        rw [hc9] at hX14 hk9
        have HX14 : Hid (ShX A11 w14 s p S 13 c9) := hX14
        have HW14 : Hid (SfW w w14 A11 ab R u12 (setD 12 R C).1 v8) := HW13.out.fr' hF14
        have hT : ∃ T, openR c9 0 12 = some T ∧ Laid c9 0 12 T ∧ (kvs T = kvs R ∨ kvs T = kvs (setD 12 R C).1) := by
          rcases hk9.2 with h | h
          · exact ⟨S, open_back h HOS.out (by omega), h, .inl HKS.out⟩
          · exact ⟨(setD 12 S C).1, open_back h (setD_ok HOS.out C) (by omega), h, .inr HKV.out⟩
        obtain ⟨T, hT1, hT2, hT3⟩ := hT
        have HT2 : Hid (Laid c9 0 12 T) := hT2
        have HT3 : Hid (kvs T = kvs R ∨ kvs T = kvs (setD 12 R C).1) := hT3
        have HR9 : Hid (c9.Rest 12) := hk9.1
        have hopn := openX A11 s p S 13 c9 T w14 HX14.out hk9.1 hT1
        have k0 : w14.cell? ⟨ab, 0, none⟩ = some (.int .i64 0) := by rw [cell_of_row _ _ 0 _ _ _ HW14.out.box]; rfl
        have k1 : w14.cell? ⟨ab, 1, none⟩ = some (.int .i64 12) := by rw [cell_of_row _ _ 1 _ _ _ HW14.out.box]; rfl
        clear hsta hX14 hF14 hc9 hk9 hT1 hT2 hT3 HX13 HW13 HX14
        go_wp2_with fail
        clear k0 k1
        refine hopn.mono ?_
        rintro e w15 ⟨t, rfl, hX15, hb15⟩
        have HX15 : Hid (ShX (upA A11 w14 w15) w15 t p T 0 c9) := hX15
        have HW15 : Hid (SfW w w15 (upA A11 w14 w15) ab R u12 (setD 12 R C).1 v8) := HW14.out.more hb15
        have hsm := sameX _ t p T 0 c9 _ u12 R w15 HX15.out HW15.out.row HRR.out
        clear hopn hX15 hb15 HW14
        by_cases hTR : kvs T = kvs R
        · rw [decide_eq_true hTR] at hsm
          have HTR : Hid (kvs T = kvs R) := hTR
          clear hTR
          go_wp2_with fail
          refine hsm.mono ?_
          rintro e w16 ⟨rfl, hb16⟩
          have HE : Hid (∃ A c, SfI w w16 A ab p t c T R u12) := ⟨_, _, HX15.out.below hb16, HR9.out, HT2.out, HTR.out, HRR.out, (HW15.out.back).next hb16⟩
          clear hsm hb16
          go_wp2
          go_roundw
          case rel => exact ⟨i + 1, t, _, _, by omega, by omega, by go_num, rfl, HE.out⟩
          case measure => simp [intOf]; omega
        · rw [decide_eq_false hTR] at hsm
          have HTM : Hid (kvs T = kvs (setD 12 R C).1) := HT3.out.resolve_left hTR
          clear hTR
          go_wp2_with fail
          refine hsm.mono ?_
          rintro e w16 ⟨rfl, hb16⟩
          have HX16 : Hid (ShX (upA A11 w14 w15) w16 t p T 0 c9) := HX15.out.below hb16
          have HW16 : Hid (SfW w w16 (upA A11 w14 w15) ab R u12 (setD 12 R C).1 v8) := HW15.out.next hb16
          have hsm2 := sameX _ t p T 0 c9 _ v8 (setD 12 R C).1 w16 HX16.out HW16.out.row2 HRK.out
          rw [decide_eq_true HTM.out] at hsm2
          clear hsm hb16
          go_wp2_with fail
          refine hsm2.mono ?_
          rintro e w17 ⟨rfl, hb17⟩
          have HE : Hid (∃ A c, SfI w w17 A ab p t c T (setD 12 R C).1 v8) := ⟨_, _, HX16.out.below hb17, HR9.out, HT2.out, HTM.out, HRK.out, (HW16.out.turn).next hb17⟩
          clear hsm2 hb17
          go_wp2
          go_roundw
          case rel => exact ⟨i + 1, t, _, _, by omega, by omega, by go_num, rfl, HE.out⟩
          case measure => simp [intOf]; omega
    · have hsu := HSU.out wr HI.out.rows.below
      by_cases h1 : i < len0
      · have h1' : (i : Int) < len0 := by omega
        have h2' : ¬ ((i : Int) < 20) := by omega
        go_wp2_with fail
        refine hsu.mono ?_
        rintro e w3 ⟨rfl, hb3⟩
        have HE : Hid (Below w.heap.size w w3) := hb3
        clear hsu hb3
        go_wp2
        go_ret
        exact ⟨rfl, HE.out⟩
      · have h1' : ¬ ((i : Int) < len0) := by omega
        go_wp2_with fail
        refine hsu.mono ?_
        rintro e w3 ⟨rfl, hb3⟩
        have HE : Hid (Below w.heap.size w w3) := hb3
        clear hsu hb3
        go_wp2
        go_ret
        exact ⟨rfl, HE.out⟩
end Go.Proofs.YtmekplaonlpfkaaGreatDoor
