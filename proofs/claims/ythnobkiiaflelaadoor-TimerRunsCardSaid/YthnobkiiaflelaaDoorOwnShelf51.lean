/- TimerRuns, on a queue's contracts (made by tools/mkrun2.py). -/
import Derived.Test.YthnobkiiaflelaaDoorOwnShelf17
namespace Go.Proofs.YthnobkiiaflelaaDoor
open Go.RowKit Go.Maps Go.Sort

/-- An act: its kind, its number, its name. -/
structure Ac where
  k : Int
  n : Int
  nm : List UInt8
/-- Acts that lie somewhere. -/
def AcL (w : World) (ad : Option Addr) (xs : List Ac) : Prop := 0 < xs.length → ∃ b off, ad = some ⟨b, off, none⟩ ∧ ∀ j x, xs[j]? = some x →
  w.cell? ⟨b, off + j * 3, none⟩ = some (.int .i64 x.k) ∧ w.cell? ⟨b, off + j * 3 + 1, none⟩ = some (.int .i64 x.n) ∧ w.cell? ⟨b, off + j * 3 + 2, none⟩ = some (encStr x.nm)
theorem AcL.below {w w' : World} {ad : Option Addr} {xs : List Ac} (h : AcL w ad xs) (hb : Below w.heap.size w w') : AcL w' ad xs := fun hn => by
  obtain ⟨b, off, rfl, hc⟩ := h hn
  have hlt : b < w.heap.size := World.block_lt_of_cell? w _ (hc 0 _ (List.getElem?_eq_getElem hn)).1
  refine ⟨b, off, rfl, fun j x hx => ?_⟩
  obtain ⟨h1, h2, h3⟩ := hc j x hx
  exact ⟨by rw [World.cell?_of_block (a := ⟨b, off + j * 3, none⟩) (hb.block b hlt)]; exact h1, by rw [World.cell?_of_block (a := ⟨b, off + j * 3 + 1, none⟩) (hb.block b hlt)]; exact h2, by rw [World.cell?_of_block (a := ⟨b, off + j * 3 + 2, none⟩) (hb.block b hlt)]; exact h3⟩

theorem fst_due {w : World} {bb off : Nat} {M : List Ev} {yd : Int} (hyd : hdE M = yd) (h : EvAt w (some ⟨bb, off, none⟩) M) (hM : M ≠ []) : w.cell? ⟨bb, off + 1, none⟩ = some (.int .i64 yd) := by
  cases M with
  | nil => exact absurd rfl hM
  | cons y r =>
    obtain ⟨b', off', e, hc⟩ := h (by simp)
    cases e
    have := (hc 0 y rfl).2.1
    rw [Nat.zero_mul, Nat.add_zero] at this
    rw [← hyd]
    exact this
theorem due_len' (now : Int) (L : List Ev) : (dueE now L).length ≤ L.length := by
  have : (dueE now L).length + (restE now L).length = L.length := by rw [← List.length_append, dueE_rest]
  omega
set_option maxRecDepth 100000 in
set_option maxHeartbeats 6400000 in
theorem runs_any {QS : World → (Nat → Prop) → Nat → List Ev → Int → Prop} (hK : QK QS) (xd : Option Addr) (xcap : Nat) (xs : List Ac) (w : World) (hg : Glob w) (hx : AcL w xd xs) (hxl : xs.length ≤ 140737488355328) (hxb : ∀ x ∈ xs, (-9223372036854775808 ≤ x.n ∧ x.n ≤ 9223372036854775807) ∧ x.nm.length ≤ maxLen) :
    Calls Tryd.prog 3 #[.slice xd xs.length xcap] w fun e w' => e = .returned (.bool true) ∧ Below w.heap.size w w' := by
  have HK : Hid (QK QS) := hK
  have HG : Hid (∀ W : World, Below w.heap.size w W → Glob W) := fun W hb => hg.below hb hg.pos
  have HI : Hid (AcL w xd xs) := hx
  have HBD : Hid (∀ x ∈ xs, (-9223372036854775808 ≤ x.n ∧ x.n ≤ 9223372036854775807) ∧ x.nm.length ≤ maxLen) := hxb
  clear hK hg hx hxb
  go_enter Tryd.func3, Tryd.ntmps3
  go_wp2_with fail
  refine (HK.out.nAdd 1 [] w).mono ?_
  rintro e w1 ⟨n1, rfl, hb1⟩
  have HB1 : Hid (Below w.heap.size w w1) := hb1
  clear hb1
  go_wp2_with fail
  refine (HK.out.nNext w1).mono ?_
  rintro e w2 ⟨n2, rfl, hb2⟩
  have HB2 : Hid (Below w.heap.size w w2) := Below.transS HB1.out hb2
  clear hb2
  go_wp2_with fail
  refine (HK.out.new w2).mono ?_
  rintro e w3 ⟨p, A3, rfl, hq3, hA3, hb3⟩
  have HQ3 : Hid (QAt QS w.heap.size w3 A3 p [] 0 ∧ Below w.heap.size w w3) := ⟨⟨hq3, fun k hk => Nat.le_trans HB2.out.size (hA3 k hk)⟩, Below.transS HB2.out hb3⟩
  clear hq3 hA3 hb3
  go_wp2_with fail
  refine (num_any 1 w3 (HG.out _ HQ3.out.2)).mono ?_
  rintro e w4 ⟨rfl, hb4⟩
  have HB4 : Hid (Below w3.heap.size w3 w4) := hb4
  clear hb4
  go_wp2_with fail
  refine (HK.out.nCancel 1 w4).mono ?_
  rintro e w5 ⟨rfl, hb5⟩
  have HB5 : Hid (Below w3.heap.size w3 w5) := Below.transS HB4.out hb5
  clear hb5
  go_wp2_with fail
  refine (num_any 1 w5 (HG.out _ (Below.transS HQ3.out.2 HB5.out))).mono ?_
  rintro e w6 ⟨rfl, hb6⟩
  have HB6 : Hid (Below w3.heap.size w3 w6) := Below.transS HB5.out hb6
  clear hb6
  go_wp2_with fail
  refine (HK.out.nLen w6).mono ?_
  rintro e w7 ⟨rfl, hb7⟩
  have HB7 : Hid (Below w3.heap.size w3 w7) := Below.transS HB6.out hb7
  clear hb7
  go_wp2_with fail
  refine (HK.out.nPop 9 w7).mono ?_
  rintro e w8 ⟨d8, c8, rfl, hb8⟩
  have HB8 : Hid (Below w3.heap.size w3 w8) := Below.transS HB7.out hb8
  clear hb8
  go_wp2_with fail
  refine (HK.out.nEvents w8).mono ?_
  rintro e w9 ⟨d9, c9, rfl, hb9⟩
  have HB9 : Hid (Below w3.heap.size w3 w9) := Below.transS HB8.out hb9
  clear hb9
  have HQ9 : Hid (QAt QS w.heap.size w9 A3 p [] 0 ∧ Below w.heap.size w w9) := ⟨HQ3.out.1.keep HK.out HB9.out.size (fun k hk => HB9.out.block k (HK.out.low HQ3.out.1.q k hk)), Below.transS HQ3.out.2 HB9.out⟩
  have HC1 : Hid (AdI QS w (w9.alloc (.cells #[.slice none 0 0, .int .i64 0] 39)) p w9.heap.size 0) := by
    have h2 := heap_alloc_new w9 (.cells #[.slice none 0 0, .int .i64 0] 39)
    have hbW : Below w9.heap.size w9 (w9.alloc (.cells #[.slice none 0 0, .int .i64 0] 39)) := (Below.refl _ w9).alloc (Nat.le_refl _) _
    have hlow := HK.out.low HQ9.out.1.q
    exact ⟨⟨A3, none, 0, [], 0, ⟨Below.transS HQ9.out.2 hbW, HQ9.out.1.keep HK.out hbW.size (fun k hk => hbW.block k (hlow k hk)), ⟨h2, (fun hn => by simp at hn), (fun h => by have := hlow _ h; omega), HQ9.out.2.size, (fun a e => by cases e), Nat.le_refl _, (fun _ => ⟨rfl, rfl⟩), (fun a e => by cases e)⟩⟩, by simp⟩⟩
  clear HB1 HB2 HQ3 HB4 HB5 HB6 HB7 HB8 HB9 HQ9
  go_wp2_with fail
  generalize w9.heap.size = R at *
  go_loopw [10, 11, 12, 13, 14, 15, 16, 17, 18, 19, 20, 21, 22, 23, 24] (fun iv _ _ _ _ _ _ _ _ _ _ _ _ _ _ wr => ∃ i : Nat, i ≤ xs.length ∧ i ≤ 80 ∧ iv = .int .i64 i ∧ AdI QS w wr p R i) (fun iv _ _ _ _ _ _ _ _ _ _ _ _ _ _ _ => xs.length - (intOf iv).toNat)
  case atStart => exact ⟨0, Nat.zero_le _, Nat.zero_le _, rfl, HC1.out⟩
  case round =>
    clear HC1
    obtain ⟨i, hi, hi8, rfl, hC⟩ := hrel
    by_cases hlt : i < xs.length ∧ i < 80
    · obtain ⟨hlt, hlt8⟩ := hlt
      have hlt' : (i : Int) < xs.length := by omega
      have hlt8' : (i : Int) < 80 := by omega
      obtain ⟨A, ad, cap, M, last, hT, hla⟩ := hC.out
      have HT : Hid (Below w.heap.size w wr ∧ QAt QS w.heap.size wr A p M last ∧ DR w.heap.size A R wr ad cap M last) := hT
      have hlok := HK.out.ok hT.2.1.q
      have hl0 := hlok.nn
      have hlen := hlok.le
      clear hT hC hlok
      have hx : xs[i]? = some xs[i] := List.getElem?_eq_getElem hlt
      have hxb := HBD.out xs[i] (List.getElem_mem hlt)
      obtain ⟨xb, xoff, rfl, hc⟩ := (HI.out.below HT.out.1) (by omega)
      obtain ⟨x0, x1, x2⟩ := hc i _ hx
      obtain ⟨rm, hrm, hrem⟩ := rem_ix xs[i].k 7 (by omega) (by omega)
      clear hc hx
      obtain ⟨xk, hxk⟩ : ∃ z, xs[i].k = z := ⟨_, rfl⟩
      obtain ⟨xn, hxn⟩ : ∃ z, xs[i].n = z := ⟨_, rfl⟩
      obtain ⟨xm, hxm⟩ : ∃ z, xs[i].nm = z := ⟨_, rfl⟩
      rw [hxk] at x0 hrem
      rw [hxn] at x1 hxb
      rw [hxm] at x2 hxb
      have hrem' : wrap64 ((IntKind.u64.wrap xk).tmod 7) = (rm : Int) := hrem
      clear hxk hxn hxm hrem
      obtain ⟨wa, hwa⟩ : ∃ wa, wr.alloc (.cells #[.int .i64 xk, .int .i64 xn, encStr xm] 41) = wa := ⟨_, rfl⟩
      obtain ⟨X, hX⟩ : ∃ X, wr.heap.size = X := ⟨_, rfl⟩
      go_upto_region 12 with fail
      have HTa : Hid (Below w.heap.size w wa ∧ QAt QS w.heap.size wa A p M last ∧ DR w.heap.size A R wa ad cap M last ∧ wa.heap[X]? = some (.cells #[.int .i64 xk, .int .i64 xn, encStr xm] 41 (0, 0)) ∧ ¬ A X) := by
        have hb : Below wr.heap.size wr wa := by rw [← hwa]; exact (Below.refl _ wr).alloc (Nat.le_refl _) _
        have hlow := HK.out.low HT.out.2.1.q
        refine ⟨Below.transS HT.out.1 hb, HT.out.2.1.keep HK.out hb.size (fun k hk => hb.block k (hlow k hk)), HT.out.2.2.below hb, ?_, fun h => by have := hlow _ h; omega⟩
        rw [← hwa, ← hX]; exact heap_alloc_new wr _
      have a0 : wa.cell? ⟨X, 0, none⟩ = some (.int .i64 xk) := by rw [cell_of_row _ _ 0 _ _ _ HTa.out.2.2.2.1]; rfl
      have a1 : wa.cell? ⟨X, 1, none⟩ = some (.int .i64 xn) := by rw [cell_of_row _ _ 1 _ _ _ HTa.out.2.2.2.1]; rfl
      have a2 : wa.cell? ⟨X, 2, none⟩ = some (encStr xm) := by rw [cell_of_row _ _ 2 _ _ _ HTa.out.2.2.2.1]; rfl
      clear hwa hX HT x0 x1 x2
      obtain ⟨hxn, hxm⟩ := hxb
      have HOKM0 : Hid (∀ y ∈ M, y.Ok) := fun y hy => by
        have hlok := HK.out.ok HTa.out.2.1.q
        have h1 := hlok.id y hy
        have h2 := hlok.due y hy
        have h3 := hlok.nm y hy
        exact ⟨⟨by omega, by omega⟩, ⟨by omega, by omega⟩, Nat.le_trans h3 (by decide)⟩
      go_upto_block 2 with fail
      go_cut [86] (fun _ wd => AdI QS w wd p R (i + 1))
      case first =>
        by_cases h4 : rm = 4
        · subst h4
          have hrem4 : wrap64 ((IntKind.u64.wrap xk).tmod 7) = 4 := hrem'
          clear hrem'
          go_wp2_with fail
          refine (HK.out.cancel xn HTa.out.2.1.q (by omega) hxn).mono ?_
          rintro e w1 ⟨A1, rfl, hr1⟩
          have HQ1 : Hid (QAt QS w.heap.size w1 A1 p (cutE xn M) last ∧ Below w.heap.size w w1) := ⟨(hr1.at HTa.out.2.1 HTa.out.1.size).1, HTa.out.1.trans (hr1.at HTa.out.2.1 HTa.out.1.size).2⟩
          have HD1 : Hid (DR w.heap.size A1 R w1 ad cap M last) := HTa.out.2.2.1.queue hr1
          have hXb := (hr1.fr.block X (lt_of_block HTa.out.2.2.2.1) HTa.out.2.2.2.2).trans HTa.out.2.2.2.1
          have a1' : w1.cell? ⟨X, 1, none⟩ = some (.int .i64 xn) := by rw [cell_of_row _ _ 1 _ _ _ hXb]; rfl
          have r0 := HD1.out.cells.1
          have r1 := HD1.out.cells.2
          clear hr1 a0 a1 a2 hXb
          go_wp2_with fail
          refine (rcancel_any ad cap M last xn w1 HD1.out.row (by omega)).mono ?_
          rintro e w2 h2
          obtain ⟨v, rfl, hv⟩ := h2.uni
          clear h2 r0 r1 a1'
          obtain ⟨va, vc, rfl⟩ : ∃ va vc, v = .slice va (cutE xn M).length vc := by
            rcases hv.2 with ⟨h1, h2⟩ | h1
            · exact ⟨ad, cap, by rw [h1, h2]⟩
            · obtain ⟨b1, b2, h2, _⟩ := h1.sl
              exact ⟨b1, b2, h2⟩
          have HV2 : Hid (RowV w1 w2 ad cap M (cutE xn M) (.slice va (cutE xn M).length vc)) := hv
          clear hv
          have HD2 : Hid (∀ o : Obj, DR w.heap.size A1 R (w2.alloc o) ad cap M last) := fun o => (HD1.out.below HV2.out.1).below ((Below.refl _ w2).alloc (Nat.le_refl _) _)
          have q0 := fun o => (HD2.out o).cells.1
          have q1 := fun o => (HD2.out o).cells.2
          have g0 := fun o => (HD2.out o).free.1
          have g1 := fun o => (HD2.out o).free.2
          go_wp2_with fail
          have HP := HD1.out.put (lm' := last) (HV2.out.keep ((Below.refl _ w2).alloc (Nat.le_refl _) (.cells #[.slice va (cutE xn M).length vc, .int .i64 last] 39))) HQ1.out.2.size (HK.out.low HQ1.out.1.q)
          obtain ⟨ad', cap', hv', hD'⟩ := HP
          cases hv'
          have HBx : Hid (Below w1.heap.size w1 (w2.alloc (.cells #[.slice va (cutE xn M).length vc, .int .i64 last] 39))) := Below.transS HV2.out.1 ((Below.refl _ w2).alloc (Nat.le_refl _) _)
          generalize w2.alloc (.cells #[.slice va (cutE xn M).length vc, .int .i64 last] 39) = wx at *
          have HQ' := HQ1.out.1.keep (w' := (wx.setCell ⟨R, 0, none⟩ (.slice va (cutE xn M).length vc)).setCell ⟨R, 1, none⟩ (.int .i64 last)) HK.out (by simpa using HBx.out.size) (fun k hk => by
            have hkR : k ≠ R := fun e => HD1.out.nR (e ▸ hk)
            rw [Below.heap_setCell _ _ _ _ (by simpa using hkR), Below.heap_setCell _ _ _ _ (by simpa using hkR)]
            exact HBx.out.block k (HK.out.low HQ1.out.1.q k hk))
          have HB' : Below w.heap.size w ((wx.setCell ⟨R, 0, none⟩ (.slice va (cutE xn M).length vc)).setCell ⟨R, 1, none⟩ (.int .i64 last)) := (Below.transS HQ1.out.2 HBx.out).trans (((Below.refl _ wx).setCell HD1.out.R0 _).setCell HD1.out.R0 _)
          refine (num_any _ _ (HG.out _ HB')).mono ?_
          rintro e w4 ⟨rfl, hb4⟩
          have HJ : Hid (Below w.heap.size w w4 ∧ QAt QS w.heap.size w4 A1 p (cutE xn M) last ∧ DR w.heap.size A1 R w4 va vc (cutE xn M) last) := ⟨Below.transS HB' hb4, HQ'.keep HK.out hb4.size (fun k hk => hb4.block k (HK.out.low HQ'.q k hk)), hD'.below hb4⟩
          have hlz : last ≤ ((i + 1 : Nat) : Int) := by omega
          clear hb4 HB' HQ' hD' HBx HV2 HD2 q0 q1 g0 g1 HD1 HQ1 HTa hlen
          generalize cutE xn M = M' at *
          generalize canE xn M = re at *
          go_wp2_with fail
          go_meet
          exact ⟨⟨A1, va, vc, M', last, HJ.out, hlz⟩⟩
        · have h4b : (((rm : Int)) == 4) = false := by simpa using (by omega : ¬ (rm : Int) = 4)
          by_cases h5 : rm = 5 ∨ rm = 6
          · rcases h5 with h5 | h5
            · subst h5
              have hrem4 : wrap64 ((IntKind.u64.wrap xk).tmod 7) = 5 := hrem'
              clear hrem' h4b
              go_wp2_with fail
              refine (HK.out.pop xn HTa.out.2.1.q (by omega) hxn).mono ?_
              rintro e w1 ⟨A1, pd, pc, rfl, hr1, hev1, hfar1, hcap1⟩
              have HQ1 : Hid (QAt QS w.heap.size w1 A1 p (restE xn M) last ∧ Below w.heap.size w w1) := ⟨(hr1.at HTa.out.2.1 HTa.out.1.size).1, HTa.out.1.trans (hr1.at HTa.out.2.1 HTa.out.1.size).2⟩
              have HD1 : Hid (DR w.heap.size A1 R w1 ad cap M last) := HTa.out.2.2.1.queue hr1
              have HEV : Hid (EvAt w1 pd (dueE xn M) ∧ (∀ a, pd = some a → ¬ A1 a.block ∧ wa.heap.size ≤ a.block)) := ⟨hev1, hfar1⟩
              have hXb := (hr1.fr.block X (lt_of_block HTa.out.2.2.2.1) HTa.out.2.2.2.2).trans HTa.out.2.2.2.1
              have a1' : w1.cell? ⟨X, 1, none⟩ = some (.int .i64 xn) := by rw [cell_of_row _ _ 1 _ _ _ hXb]; rfl
              have hRa : R < wa.heap.size := lt_of_block HTa.out.2.2.1.box
              have HOKM : Hid (∀ y ∈ M, y.Ok) := HOKM0.out
              have r0 := HD1.out.cells.1
              have r1 := HD1.out.cells.2
              clear hr1 a0 a1 a2 hXb hev1 hfar1 hcap1
              go_wp2_with fail
              refine (show Calls Tryd.prog 15 #[.agg #[.slice ad M.length cap, .int .i64 last], .int .i64 xn] w1 _ from rpop_any ad cap M last xn w1 HD1.out.row (by omega) HD1.out.capL HD1.out.nil HD1.out.spot).mono ?_
              rintro e w2 h2
              obtain ⟨va, vc, c2, rfl, hb2, hr2, hd2, hc2, hvc, hnil2, hsp2, hblk2⟩ := h2.out
              have HV2 : Hid (Below w1.heap.size w1 w2 ∧ EvAt w2 va (restE xn M) ∧ EvAt w2 ad (dueE xn M)) := ⟨hb2, hr2, hd2⟩
              have HV3 : Hid ((restE xn M).length ≤ vc ∧ (va = none → (restE xn M).length = 0 ∧ vc = 0) ∧ (∀ a, va = some a → ∃ bb off, a = ⟨bb, off, none⟩) ∧ (∀ a, va = some a → ∃ c, ad = some c ∧ c.block = a.block)) := ⟨hvc, hnil2, hsp2, hblk2⟩
              unfold qV
              clear h2 r0 r1 a1' hb2 hr2 hd2 hc2 hvc hnil2 hsp2 hblk2
              have HD2 : Hid (∀ o : Obj, DR w.heap.size A1 R (w2.alloc o) ad cap M last) := fun o => (HD1.out.below HV2.out.1).below ((Below.refl _ w2).alloc (Nat.le_refl _) _)
              have q0 := fun o => (HD2.out o).cells.1
              have q1 := fun o => (HD2.out o).cells.2
              have g0 := fun o => (HD2.out o).free.1
              have g1 := fun o => (HD2.out o).free.2
              go_wp2_with fail
              have HBx : Hid (Below w1.heap.size w1 (w2.alloc (.cells #[.slice va (restE xn M).length vc, .int .i64 last] 39))) := Below.transS HV2.out.1 ((Below.refl _ w2).alloc (Nat.le_refl _) _)
              have HB2x : Hid (Below w2.heap.size w2 (w2.alloc (.cells #[.slice va (restE xn M).length vc, .int .i64 last] 39))) := (Below.refl _ w2).alloc (Nat.le_refl _) _
              have HDx : Hid (DR w.heap.size A1 R ((((w2.alloc (.cells #[.slice va (restE xn M).length vc, .int .i64 last] 39))).setCell ⟨R, 0, none⟩ (.slice va (restE xn M).length vc)).setCell ⟨R, 1, none⟩ (.int .i64 last)) va vc (restE xn M) last) := HD1.out.pop HBx.out (HV2.out.2.1.below HB2x.out) HV3.out.1 HV3.out.2.1 HV3.out.2.2.1 HV3.out.2.2.2
              have HEx : Hid (EvAt (w2.alloc (.cells #[.slice va (restE xn M).length vc, .int .i64 last] 39)) ad (dueE xn M)) := HV2.out.2.2.below HB2x.out
              generalize w2.alloc (.cells #[.slice va (restE xn M).length vc, .int .i64 last] 39) = wx at *
              have HSt : Hid (∀ k, k ≠ R → ((wx.setCell ⟨R, 0, none⟩ (.slice va (restE xn M).length vc)).setCell ⟨R, 1, none⟩ (.int .i64 last)).heap[k]? = wx.heap[k]?) := fun k hk => by
                rw [Below.heap_setCell _ _ _ _ (by simpa using hk), Below.heap_setCell _ _ _ _ (by simpa using hk)]
              have HQ' := HQ1.out.1.keep (w' := (wx.setCell ⟨R, 0, none⟩ (.slice va (restE xn M).length vc)).setCell ⟨R, 1, none⟩ (.int .i64 last)) HK.out (by simpa using HBx.out.size) (fun k hk => by
                have hkR : k ≠ R := fun e => HD1.out.nR (e ▸ hk)
                rw [HSt.out k hkR]
                exact HBx.out.block k (HK.out.low HQ1.out.1.q k hk))
              have HB' : Below w.heap.size w ((wx.setCell ⟨R, 0, none⟩ (.slice va (restE xn M).length vc)).setCell ⟨R, 1, none⟩ (.int .i64 last)) := (Below.transS HQ1.out.2 HBx.out).trans (((Below.refl _ wx).setCell HD1.out.R0 _).setCell HD1.out.R0 _)
              have hE1 : EvAt ((wx.setCell ⟨R, 0, none⟩ (.slice va (restE xn M).length vc)).setCell ⟨R, 1, none⟩ (.int .i64 last)) pd (dueE xn M) := (HEV.out.1.below HBx.out).keep fun b e _ => HSt.out _ (fun e2 => by have := (HEV.out.2 b e).2; omega)
              have hE2 : EvAt ((wx.setCell ⟨R, 0, none⟩ (.slice va (restE xn M).length vc)).setCell ⟨R, 1, none⟩ (.int .i64 last)) ad (dueE xn M) := HEx.out.keep fun b e _ => HSt.out _ ((HD1.out.far b e).2.2.2)
              have hdl := due_len' xn M
              have hdo : ∀ y ∈ dueE xn M, y.Ok := fun y hy => HOKM.out y (by rw [← dueE_rest xn M]; exact List.mem_append_left _ hy)
              refine (events_any pd ad pc c2 (dueE xn M) (dueE xn M) _ hE1 hE2 (by omega) hdo hdo).mono ?_
              rintro e w4 h4
              obtain ⟨r4, rfl, hr4, hb4⟩ := h4.out
              obtain rfl : r4 = true := hr4.2 rfl
              have HJ : Hid (Below w.heap.size w w4 ∧ QAt QS w.heap.size w4 A1 p (restE xn M) last ∧ DR w.heap.size A1 R w4 va vc (restE xn M) last) := ⟨Below.transS HB' hb4, HQ'.keep HK.out hb4.size (fun k hk => hb4.block k (HK.out.low HQ'.q k hk)), HDx.out.below hb4⟩
              have hlz : last ≤ ((i + 1 : Nat) : Int) := by omega
              clear h4 hr4 hb4 HB' HQ' HDx HEx HBx HB2x HV2 HV3 HD2 q0 q1 g0 g1 HD1 HQ1 HTa hlen hE1 hE2 hdl hdo HSt HEV
              generalize restE xn M = M' at *
              go_wp2_with fail
              go_meet
              exact ⟨⟨A1, va, vc, M', last, HJ.out, hlz⟩⟩
            · subst h5
              have hrem4 : wrap64 ((IntKind.u64.wrap xk).tmod 7) = 6 := hrem'
              clear hrem' h4b
              go_wp2_with fail
              refine (HK.out.pop xn HTa.out.2.1.q (by omega) hxn).mono ?_
              rintro e w1 ⟨A1, pd, pc, rfl, hr1, hev1, hfar1, hcap1⟩
              have HQ1 : Hid (QAt QS w.heap.size w1 A1 p (restE xn M) last ∧ Below w.heap.size w w1) := ⟨(hr1.at HTa.out.2.1 HTa.out.1.size).1, HTa.out.1.trans (hr1.at HTa.out.2.1 HTa.out.1.size).2⟩
              have HD1 : Hid (DR w.heap.size A1 R w1 ad cap M last) := HTa.out.2.2.1.queue hr1
              have HEV : Hid (EvAt w1 pd (dueE xn M) ∧ (∀ a, pd = some a → ¬ A1 a.block ∧ wa.heap.size ≤ a.block)) := ⟨hev1, hfar1⟩
              have hXb := (hr1.fr.block X (lt_of_block HTa.out.2.2.2.1) HTa.out.2.2.2.2).trans HTa.out.2.2.2.1
              have a1' : w1.cell? ⟨X, 1, none⟩ = some (.int .i64 xn) := by rw [cell_of_row _ _ 1 _ _ _ hXb]; rfl
              have hRa : R < wa.heap.size := lt_of_block HTa.out.2.2.1.box
              have HOKM : Hid (∀ y ∈ M, y.Ok) := HOKM0.out
              have r0 := HD1.out.cells.1
              have r1 := HD1.out.cells.2
              clear hr1 a0 a1 a2 hXb hev1 hfar1 hcap1
              go_wp2_with fail
              refine (show Calls Tryd.prog 15 #[.agg #[.slice ad M.length cap, .int .i64 last], .int .i64 xn] w1 _ from rpop_any ad cap M last xn w1 HD1.out.row (by omega) HD1.out.capL HD1.out.nil HD1.out.spot).mono ?_
              rintro e w2 h2
              obtain ⟨va, vc, c2, rfl, hb2, hr2, hd2, hc2, hvc, hnil2, hsp2, hblk2⟩ := h2.out
              have HV2 : Hid (Below w1.heap.size w1 w2 ∧ EvAt w2 va (restE xn M) ∧ EvAt w2 ad (dueE xn M)) := ⟨hb2, hr2, hd2⟩
              have HV3 : Hid ((restE xn M).length ≤ vc ∧ (va = none → (restE xn M).length = 0 ∧ vc = 0) ∧ (∀ a, va = some a → ∃ bb off, a = ⟨bb, off, none⟩) ∧ (∀ a, va = some a → ∃ c, ad = some c ∧ c.block = a.block)) := ⟨hvc, hnil2, hsp2, hblk2⟩
              unfold qV
              clear h2 r0 r1 a1' hb2 hr2 hd2 hc2 hvc hnil2 hsp2 hblk2
              have HD2 : Hid (∀ o : Obj, DR w.heap.size A1 R (w2.alloc o) ad cap M last) := fun o => (HD1.out.below HV2.out.1).below ((Below.refl _ w2).alloc (Nat.le_refl _) _)
              have q0 := fun o => (HD2.out o).cells.1
              have q1 := fun o => (HD2.out o).cells.2
              have g0 := fun o => (HD2.out o).free.1
              have g1 := fun o => (HD2.out o).free.2
              go_wp2_with fail
              have HBx : Hid (Below w1.heap.size w1 (w2.alloc (.cells #[.slice va (restE xn M).length vc, .int .i64 last] 39))) := Below.transS HV2.out.1 ((Below.refl _ w2).alloc (Nat.le_refl _) _)
              have HB2x : Hid (Below w2.heap.size w2 (w2.alloc (.cells #[.slice va (restE xn M).length vc, .int .i64 last] 39))) := (Below.refl _ w2).alloc (Nat.le_refl _) _
              have HDx : Hid (DR w.heap.size A1 R ((((w2.alloc (.cells #[.slice va (restE xn M).length vc, .int .i64 last] 39))).setCell ⟨R, 0, none⟩ (.slice va (restE xn M).length vc)).setCell ⟨R, 1, none⟩ (.int .i64 last)) va vc (restE xn M) last) := HD1.out.pop HBx.out (HV2.out.2.1.below HB2x.out) HV3.out.1 HV3.out.2.1 HV3.out.2.2.1 HV3.out.2.2.2
              have HEx : Hid (EvAt (w2.alloc (.cells #[.slice va (restE xn M).length vc, .int .i64 last] 39)) ad (dueE xn M)) := HV2.out.2.2.below HB2x.out
              generalize w2.alloc (.cells #[.slice va (restE xn M).length vc, .int .i64 last] 39) = wx at *
              have HSt : Hid (∀ k, k ≠ R → ((wx.setCell ⟨R, 0, none⟩ (.slice va (restE xn M).length vc)).setCell ⟨R, 1, none⟩ (.int .i64 last)).heap[k]? = wx.heap[k]?) := fun k hk => by
                rw [Below.heap_setCell _ _ _ _ (by simpa using hk), Below.heap_setCell _ _ _ _ (by simpa using hk)]
              have HQ' := HQ1.out.1.keep (w' := (wx.setCell ⟨R, 0, none⟩ (.slice va (restE xn M).length vc)).setCell ⟨R, 1, none⟩ (.int .i64 last)) HK.out (by simpa using HBx.out.size) (fun k hk => by
                have hkR : k ≠ R := fun e => HD1.out.nR (e ▸ hk)
                rw [HSt.out k hkR]
                exact HBx.out.block k (HK.out.low HQ1.out.1.q k hk))
              have HB' : Below w.heap.size w ((wx.setCell ⟨R, 0, none⟩ (.slice va (restE xn M).length vc)).setCell ⟨R, 1, none⟩ (.int .i64 last)) := (Below.transS HQ1.out.2 HBx.out).trans (((Below.refl _ wx).setCell HD1.out.R0 _).setCell HD1.out.R0 _)
              have hE1 : EvAt ((wx.setCell ⟨R, 0, none⟩ (.slice va (restE xn M).length vc)).setCell ⟨R, 1, none⟩ (.int .i64 last)) pd (dueE xn M) := (HEV.out.1.below HBx.out).keep fun b e _ => HSt.out _ (fun e2 => by have := (HEV.out.2 b e).2; omega)
              have hE2 : EvAt ((wx.setCell ⟨R, 0, none⟩ (.slice va (restE xn M).length vc)).setCell ⟨R, 1, none⟩ (.int .i64 last)) ad (dueE xn M) := HEx.out.keep fun b e _ => HSt.out _ ((HD1.out.far b e).2.2.2)
              have hdl := due_len' xn M
              have hdo : ∀ y ∈ dueE xn M, y.Ok := fun y hy => HOKM.out y (by rw [← dueE_rest xn M]; exact List.mem_append_left _ hy)
              refine (events_any pd ad pc c2 (dueE xn M) (dueE xn M) _ hE1 hE2 (by omega) hdo hdo).mono ?_
              rintro e w4 h4
              obtain ⟨r4, rfl, hr4, hb4⟩ := h4.out
              obtain rfl : r4 = true := hr4.2 rfl
              have HJ : Hid (Below w.heap.size w w4 ∧ QAt QS w.heap.size w4 A1 p (restE xn M) last ∧ DR w.heap.size A1 R w4 va vc (restE xn M) last) := ⟨Below.transS HB' hb4, HQ'.keep HK.out hb4.size (fun k hk => hb4.block k (HK.out.low HQ'.q k hk)), HDx.out.below hb4⟩
              have hlz : last ≤ ((i + 1 : Nat) : Int) := by omega
              clear h4 hr4 hb4 HB' HQ' HDx HEx HBx HB2x HV2 HV3 HD2 q0 q1 g0 g1 HD1 HQ1 HTa hlen hE1 hE2 hdl hdo HSt HEV
              generalize restE xn M = M' at *
              go_wp2_with fail
              go_meet
              exact ⟨⟨A1, va, vc, M', last, HJ.out, hlz⟩⟩
          · clear h4b
            have hn4 : ¬ (rm : Int) = 4 := by omega
            have hn5 : ¬ (rm : Int) = 5 := by omega
            have hn6 : ¬ (rm : Int) = 6 := by omega
            generalize (rm : Int) = rz at *
            have hb4 : (rz == 4) = false := by simpa using hn4
            have hb5 : (rz == 5) = false := by simpa using hn5
            have hb6 : (rz == 6) = false := by simpa using hn6
            go_wp2_with fail
            refine (HK.out.add xn xm HTa.out.2.1.q (by omega) hxn hxm).mono ?_
            rintro e w1 ⟨A1, rfl, hr1⟩
            have HQ1 : Hid (QAt QS w.heap.size w1 A1 p (addL last xn xm M) (addN last xn xm) ∧ Below w.heap.size w w1) := ⟨(hr1.at HTa.out.2.1 HTa.out.1.size).1, HTa.out.1.trans (hr1.at HTa.out.2.1 HTa.out.1.size).2⟩
            have HD1 : Hid (DR w.heap.size A1 R w1 ad cap M last) := HTa.out.2.2.1.queue hr1
            have hXb := (hr1.fr.block X (lt_of_block HTa.out.2.2.2.1) HTa.out.2.2.2.2).trans HTa.out.2.2.2.1
            have a1' : w1.cell? ⟨X, 1, none⟩ = some (.int .i64 xn) := by rw [cell_of_row _ _ 1 _ _ _ hXb]; rfl
            have a2' : w1.cell? ⟨X, 2, none⟩ = some (encStr xm) := by rw [cell_of_row _ _ 2 _ _ _ hXb]; rfl
            have r0 := HD1.out.cells.1
            have r1 := HD1.out.cells.2
            clear hr1 a0 a1 a2 hXb hn4 hn5 hn6 hb4 hb5 hb6
            go_wp2_with fail
            refine (show Calls Tryd.prog 17 #[.agg #[.slice ad M.length cap, .int .i64 last], .int .i64 xn, encStr xm] w1 _ from radd_any ad cap M last xn xm w1 HD1.out.row (by omega) HD1.out.capL HD1.out.nil HD1.out.spot (by omega) (by omega) hxm).mono ?_
            rintro e w2 h2
            obtain ⟨v, rfl, hv⟩ := h2.uni
            clear h2 r0 r1 a1' a2'
            obtain ⟨va, vc, rfl⟩ : ∃ va vc, v = .slice va (addL last xn xm M).length vc := by
              rcases hv.2 with ⟨h1, h2⟩ | h1
              · exact ⟨ad, cap, by rw [h1, h2]⟩
              · obtain ⟨b1, b2, h2, _⟩ := h1.sl
                exact ⟨b1, b2, h2⟩
            have HV2 : Hid (RowV w1 w2 ad cap M (addL last xn xm M) (.slice va (addL last xn xm M).length vc)) := hv
            clear hv
            have HD2 : Hid (∀ o : Obj, DR w.heap.size A1 R (w2.alloc o) ad cap M last) := fun o => (HD1.out.below HV2.out.1).below ((Below.refl _ w2).alloc (Nat.le_refl _) _)
            have q0 := fun o => (HD2.out o).cells.1
            have q1 := fun o => (HD2.out o).cells.2
            have g0 := fun o => (HD2.out o).free.1
            have g1 := fun o => (HD2.out o).free.2
            try unfold qV
            go_wp2_with fail
            have HP := HD1.out.put (lm' := addN last xn xm) (HV2.out.keep ((Below.refl _ w2).alloc (Nat.le_refl _) (.cells #[.slice va (addL last xn xm M).length vc, .int .i64 (addN last xn xm)] 39))) HQ1.out.2.size (HK.out.low HQ1.out.1.q)
            obtain ⟨ad', cap', hv', hD'⟩ := HP
            cases hv'
            have HBx : Hid (Below w1.heap.size w1 (w2.alloc (.cells #[.slice va (addL last xn xm M).length vc, .int .i64 (addN last xn xm)] 39))) := Below.transS HV2.out.1 ((Below.refl _ w2).alloc (Nat.le_refl _) _)
            generalize w2.alloc (.cells #[.slice va (addL last xn xm M).length vc, .int .i64 (addN last xn xm)] 39) = wx at *
            have HQ' := HQ1.out.1.keep (w' := (wx.setCell ⟨R, 0, none⟩ (.slice va (addL last xn xm M).length vc)).setCell ⟨R, 1, none⟩ (.int .i64 (addN last xn xm))) HK.out (by simpa using HBx.out.size) (fun k hk => by
              have hkR : k ≠ R := fun e => HD1.out.nR (e ▸ hk)
              rw [Below.heap_setCell _ _ _ _ (by simpa using hkR), Below.heap_setCell _ _ _ _ (by simpa using hkR)]
              exact HBx.out.block k (HK.out.low HQ1.out.1.q k hk))
            have HB' : Below w.heap.size w ((wx.setCell ⟨R, 0, none⟩ (.slice va (addL last xn xm M).length vc)).setCell ⟨R, 1, none⟩ (.int .i64 (addN last xn xm))) := (Below.transS HQ1.out.2 HBx.out).trans (((Below.refl _ wx).setCell HD1.out.R0 _).setCell HD1.out.R0 _)
            refine (num_any _ _ (HG.out _ HB')).mono ?_
            rintro e w4 ⟨rfl, hb4⟩
            have HJ : Hid (Below w.heap.size w w4 ∧ QAt QS w.heap.size w4 A1 p (addL last xn xm M) (addN last xn xm) ∧ DR w.heap.size A1 R w4 va vc (addL last xn xm M) (addN last xn xm)) := ⟨Below.transS HB' hb4, HQ'.keep HK.out hb4.size (fun k hk => hb4.block k (HK.out.low HQ'.q k hk)), hD'.below hb4⟩
            have hlz : addN last xn xm ≤ ((i + 1 : Nat) : Int) := by
              have : addN last xn xm ≤ (i : Int) + 1 := by
                unfold addN; split <;> omega
              omega
            clear hb4 HB' HQ' hD' HBx HV2 HD2 q0 q1 g0 g1 HD1 HQ1 HTa hlen
            generalize addL last xn xm M = M' at *
            generalize addN last xn xm = lz at *
            generalize addI last xn xm = ri at *
            generalize addE xn xm = re at *
            go_wp2_with fail
            go_meet
            exact ⟨⟨A1, va, vc, M', lz, HJ.out, hlz⟩⟩
      case rest =>
        obtain ⟨A4, va, vc, M', lz, hJ, hlz⟩ := hcut.out
        have HJ : Hid (Below w.heap.size w wc ∧ QAt QS w.heap.size wc A4 p M' lz ∧ DR w.heap.size A4 R wc va vc M' lz) := hJ
        clear hJ hcut HTa a0 a1 a2 hrem' hxn hxm hlen hl0 hla HOKM0
        have hlok := HK.out.ok HJ.out.2.1.q
        have hlen := hlok.le
        have HOK : Hid (∀ y ∈ M', y.Ok) := fun y hy => by
          have h1 := hlok.id y hy
          have h2 := hlok.due y hy
          have h3 := hlok.nm y hy
          exact ⟨⟨by omega, by omega⟩, ⟨by omega, by omega⟩, Nat.le_trans h3 (by decide)⟩
        clear hlok
        go_wp2_with fail
        refine (HK.out.next HJ.out.2.1.q (by omega)).mono ?_
        rintro e w5 ⟨A5, rfl, hr5⟩
        have HJ1 : Hid (Below w.heap.size w w5 ∧ QAt QS w.heap.size w5 A5 p M' lz ∧ DR w.heap.size A5 R w5 va vc M' lz) := ⟨HJ.out.1.trans (hr5.at HJ.out.2.1 HJ.out.1.size).2, (hr5.at HJ.out.2.1 HJ.out.1.size).1, HJ.out.2.2.queue hr5⟩
        clear hr5 HJ
        by_cases hM : M' = []
        · have HM0 : Hid (M'.length = 0) := by rw [hM]; rfl
          have hhd : hdE M' = 0 := by rw [hM]; rfl
          have hdc : decide (0 < M'.length) = false := by rw [hM]; rfl
          rw [hhd, hdc]
          have HM : Hid (M' = []) := hM
          clear hM hhd hdc
          go_upto_region 32 with fail
          have HJ2 : Hid (Below w.heap.size w w5.drew ∧ QAt QS w.heap.size w5.drew A5 p M' lz ∧ DR w.heap.size A5 R w5.drew va vc M' lz) := ⟨HJ1.out.1.drew, HJ1.out.2.1.keep HK.out (Nat.le_refl _) (fun _ _ => rfl), HJ1.out.2.2.below (Below.refl _ w5).drew⟩
          refine wp_region_noPanic ?_
          refine wp_region_held_drew (S := fun w' => w'.cell? ⟨R, 0, none⟩ = some (.slice va M'.length vc)) (by kernel_rfl) (HJ2.out.2.2.cells.1) (fun hHeld => ?_)
          obtain ⟨wd, hwd⟩ : ∃ wd, w5.drew = wd := ⟨_, rfl⟩
          rw [hwd] at hHeld HJ2 ⊢
          clear hwd HJ1
          refine wpAnyH_take (i := 0) (oi := { dst := some 158, op := Go.Op.move (Go.Operand.tmp 8), type := 23, pos := "law.go:92", after := #[], guard := none }) (v := ?_) rfl (by kernel_rfl) (by kernel_rfl) (by kernel_rfl) (fun _ _ _ h => h) (Or.inl ⟨by rfl, ?_⟩) (by assumption) ?_
          rotate_left
          · intro wz hSw; (try dsimp only at hSw); go_simp; (try with_reducible rfl)
          try simp only [Act.put, List.setIfInBounds_toArray, List.set_cons_zero, List.set_cons_succ]
          refine wpAnyH_take (i := 2) (oi := { dst := some 160, op := Go.Op.fieldAddr 39 (Go.Operand.tmp 9) 0, type := 0, pos := "law.go:92", after := #[], guard := none }) (v := ?_) rfl (by kernel_rfl) (by kernel_rfl) (by kernel_rfl) (fun _ _ _ h => h) (Or.inl ⟨by rfl, ?_⟩) (by assumption) ?_
          rotate_left
          · intro wz hSw; (try dsimp only at hSw); go_simp; (try with_reducible rfl)
          try simp only [Act.put, List.setIfInBounds_toArray, List.set_cons_zero, List.set_cons_succ]
          refine wpAnyH_take (i := 3) (oi := { dst := some 161, op := Go.Op.load 37 (Go.Operand.tmp 160), type := 37, pos := "law.go:92", after := #[{ on := 2, ground := Go.Ground.data }], guard := none }) (v := .slice va M'.length vc) rfl (by kernel_rfl) (by kernel_rfl) (by kernel_rfl) (fun _ _ _ h => h) (Or.inl ⟨by rfl, ?_⟩) (by assumption) ?_
          · intro wz hSw; (try dsimp only at hSw); have h1 := hSw; go_simp; try rfl
          try simp only [Act.put, List.setIfInBounds_toArray, List.set_cons_zero, List.set_cons_succ]
          refine wpAnyH_ready (rs := [1]) (by kernel_rfl) (by simp) ?_
          refine (AllReadyH.cons (o := { dst := some 159, op := Go.Op.call { callee := Go.Callee.value (Go.Operand.func 13), args := #[Go.Operand.tmp 158], argTypes := #[23] }, type := 34, pos := "law.go:92", after := #[{ on := 0, ground := Go.Ground.data }], guard := none }) rfl (fun K hK => ?_) AllReadyH.nil)
          go_simp
          refine (HK.out.events HJ2.out.2.1.q (by omega)).mono ?_
          rintro e w6 ⟨A6, pd, pc, rfl, hr6, hev6, hfar6, hcap6⟩
          have HJ6 : Hid (Below w.heap.size w w6 ∧ QAt QS w.heap.size w6 A6 p M' lz ∧ DR w.heap.size A6 R w6 va vc M' lz) := ⟨HJ2.out.1.trans (hr6.at HJ2.out.2.1 HJ2.out.1.size).2, (hr6.at HJ2.out.2.1 HJ2.out.1.size).1, HJ2.out.2.2.queue hr6⟩
          have HE6 : Hid (EvAt w6 pd M') := hev6
          clear hr6 hev6 hfar6 hcap6
          refine hK.out _ _ (HJ6.out.2.2.cells.1) (fun _ => ?_)
          clear hK K
          try simp only [Act.put, List.setIfInBounds_toArray, List.set_cons_zero, List.set_cons_succ]
          refine wpAnyH_ready (rs := [4]) (by kernel_rfl) (by simp) ?_
          refine (AllReadyH.cons (o := { dst := some 162, op := Go.Op.call { callee := Go.Callee.value (Go.Operand.func 16), args := #[Go.Operand.tmp 159, Go.Operand.tmp 161], argTypes := #[34, 37] }, type := 4, pos := "law.go:92", after := #[{ on := 1, ground := Go.Ground.data }, { on := 3, ground := Go.Ground.data }, { on := 1, ground := Go.Ground.chain }], guard := none }) rfl (fun K hK => ?_) AllReadyH.nil)
          go_simp
          refine (events_any pd va pc vc M' M' w6 HE6.out HJ6.out.2.2.row (by omega) HOK.out HOK.out).mono ?_
          rintro e w7 h7
          obtain ⟨r7, rfl, hr7, hb7⟩ := h7.out
          obtain rfl : r7 = true := hr7.2 rfl
          have HJ7 : Hid (Below w.heap.size w w7 ∧ QAt QS w.heap.size w7 A6 p M' lz ∧ DR w.heap.size A6 R w7 va vc M' lz) := ⟨Below.transS HJ6.out.1 hb7, HJ6.out.2.1.keep HK.out hb7.size (fun k hk => hb7.block k (HK.out.low HJ6.out.2.1.q k hk)), HJ6.out.2.2.below hb7⟩
          clear h7 hr7 hb7
          refine hK.out _ _ (HJ7.out.2.2.cells.1) (fun _ => ?_)
          clear hK K
          try simp only [Act.put, List.setIfInBounds_toArray, List.set_cons_zero, List.set_cons_succ]
          refine wpAnyH_take (i := 5) (oi := { dst := some 163, op := Go.Op.unOp Go.UnOp.not 4 (Go.Operand.tmp 162), type := 4, pos := "law.go:92", after := #[{ on := 4, ground := Go.Ground.data }], guard := none }) (v := ?_) rfl (by kernel_rfl) (by kernel_rfl) (by kernel_rfl) (fun _ _ _ h => h) (Or.inl ⟨by rfl, ?_⟩) (by assumption) ?_
          rotate_left
          · intro wz hSw; (try dsimp only at hSw); go_simp; (try with_reducible rfl)
          try simp only [Act.put, List.setIfInBounds_toArray, List.set_cons_zero, List.set_cons_succ]
          refine wpAnyH_take (i := 6) (oi := { dst := some 164, op := Go.Op.move (Go.Operand.tmp 163), type := 4, pos := "law.go:92", after := #[{ on := 5, ground := Go.Ground.data }, { on := 4, ground := Go.Ground.chain }], guard := none }) (v := ?_) rfl (by kernel_rfl) (by kernel_rfl) (by kernel_rfl) (fun _ _ _ h => h) (Or.inl ⟨by rfl, ?_⟩) (by assumption) ?_
          rotate_left
          · intro wz hSw; (try dsimp only at hSw); go_simp; (try with_reducible rfl)
          try simp only [Act.put, List.setIfInBounds_toArray, List.set_cons_zero, List.set_cons_succ]
          refine wpAnyH_take (i := 7) (oi := { dst := some 165, op := Go.Op.move (Go.Operand.tmp 8), type := 23, pos := "law.go:92", after := #[{ on := 6, ground := Go.Ground.guard }], guard := some (6, false) }) (v := ?_) rfl (by kernel_rfl) (by kernel_rfl) (by kernel_rfl) (fun _ _ _ h => h) (Or.inl ⟨by rfl, ?_⟩) (by assumption) ?_
          rotate_left
          · intro wz hSw; (try dsimp only at hSw); go_simp; (try with_reducible rfl)
          try simp only [Act.put, List.setIfInBounds_toArray, List.set_cons_zero, List.set_cons_succ]
          refine wpAnyH_take (i := 9) (oi := { dst := some 167, op := Go.Op.fieldAddr 39 (Go.Operand.tmp 9) 0, type := 0, pos := "law.go:92", after := #[{ on := 6, ground := Go.Ground.guard }], guard := some (6, false) }) (v := ?_) rfl (by kernel_rfl) (by kernel_rfl) (by kernel_rfl) (fun _ _ _ h => h) (Or.inl ⟨by rfl, ?_⟩) (by assumption) ?_
          rotate_left
          · intro wz hSw; (try dsimp only at hSw); go_simp; (try with_reducible rfl)
          try simp only [Act.put, List.setIfInBounds_toArray, List.set_cons_zero, List.set_cons_succ]
          refine wpAnyH_take (i := 10) (oi := { dst := some 168, op := Go.Op.load 37 (Go.Operand.tmp 167), type := 37, pos := "law.go:92", after := #[{ on := 9, ground := Go.Ground.data }, { on := 6, ground := Go.Ground.guard }], guard := some (6, false) }) (v := .slice va M'.length vc) rfl (by kernel_rfl) (by kernel_rfl) (by kernel_rfl) (fun _ _ _ h => h) (Or.inl ⟨by rfl, ?_⟩) (by assumption) ?_
          · intro wz hSw; (try dsimp only at hSw); have h1 := hSw; go_simp; try rfl
          try simp only [Act.put, List.setIfInBounds_toArray, List.set_cons_zero, List.set_cons_succ]
          refine wpAnyH_take (i := 11) (oi := { dst := some 169, op := Go.Op.call { callee := Go.Callee.builtin Go.Builtin.len, args := #[Go.Operand.tmp 168], argTypes := #[37] }, type := 3, pos := "law.go:92", after := #[{ on := 10, ground := Go.Ground.data }, { on := 6, ground := Go.Ground.guard }], guard := some (6, false) }) (v := ?_) rfl (by kernel_rfl) (by kernel_rfl) (by kernel_rfl) (fun _ _ _ h => h) (Or.inl ⟨by rfl, ?_⟩) (by assumption) ?_
          rotate_left
          · intro wz hSw; (try dsimp only at hSw); go_simp; (try with_reducible rfl)
          try simp only [Act.put, List.setIfInBounds_toArray, List.set_cons_zero, List.set_cons_succ]
          refine wpAnyH_ready (rs := [8]) (by kernel_rfl) (by simp) ?_
          refine (AllReadyH.cons (o := { dst := some 166, op := Go.Op.call { callee := Go.Callee.value (Go.Operand.func 11), args := #[Go.Operand.tmp 165], argTypes := #[23] }, type := 3, pos := "law.go:92", after := #[{ on := 7, ground := Go.Ground.data }, { on := 6, ground := Go.Ground.chain }, { on := 6, ground := Go.Ground.guard }], guard := some (6, false) }) rfl (fun K hK => ?_) AllReadyH.nil)
          go_simp
          refine (HK.out.len HJ7.out.2.1.q (by omega)).mono ?_
          rintro e w8 ⟨A8, rfl, hr8⟩
          have HJ8 : Hid (Below w.heap.size w w8 ∧ QAt QS w.heap.size w8 A8 p M' lz ∧ DR w.heap.size A8 R w8 va vc M' lz) := ⟨HJ7.out.1.trans (hr8.at HJ7.out.2.1 HJ7.out.1.size).2, (hr8.at HJ7.out.2.1 HJ7.out.1.size).1, HJ7.out.2.2.queue hr8⟩
          clear hr8
          refine hK.out _ _ (HJ8.out.2.2.cells.1) (fun _ => ?_)
          clear hK K
          try simp only [Act.put, List.setIfInBounds_toArray, List.set_cons_zero, List.set_cons_succ]
          refine wpAnyH_take (i := 12) (oi := { dst := some 170, op := Go.Op.binOp Go.BinOp.neq 3 (Go.Operand.tmp 166) (Go.Operand.tmp 169) 3, type := 4, pos := "law.go:92", after := #[{ on := 8, ground := Go.Ground.data }, { on := 11, ground := Go.Ground.data }, { on := 6, ground := Go.Ground.guard }], guard := some (6, false) }) (v := ?_) rfl (by kernel_rfl) (by kernel_rfl) (by kernel_rfl) (fun _ _ _ h => h) (Or.inl ⟨by rfl, ?_⟩) (by assumption) ?_
          rotate_left
          · intro wz hSw; (try dsimp only at hSw); go_simp; (try with_reducible rfl)
          try simp only [Act.put, List.setIfInBounds_toArray, List.set_cons_zero, List.set_cons_succ]
          refine wpAnyH_take (i := 13) (oi := { dst := some 171, op := Go.Op.pick (Go.Operand.tmp 164) (Go.Operand.const (Go.Value.bool true)) (Go.Operand.tmp 170), type := 4, pos := "law.go:92", after := #[{ on := 6, ground := Go.Ground.data }, { on := 12, ground := Go.Ground.data }], guard := none }) (v := ?_) rfl (by kernel_rfl) (by kernel_rfl) (by kernel_rfl) (fun _ _ _ h => h) (Or.inl ⟨by rfl, ?_⟩) (by assumption) ?_
          rotate_left
          · intro wz hSw; (try dsimp only at hSw); go_simp; (try with_reducible rfl)
          try simp only [Act.put, List.setIfInBounds_toArray, List.set_cons_zero, List.set_cons_succ]
          refine wpAnyH_take (i := 14) (oi := { dst := some 172, op := Go.Op.move (Go.Operand.tmp 171), type := 4, pos := "law.go:92", after := #[{ on := 13, ground := Go.Ground.data }, { on := 8, ground := Go.Ground.chain }], guard := none }) (v := ?_) rfl (by kernel_rfl) (by kernel_rfl) (by kernel_rfl) (fun _ _ _ h => h) (Or.inl ⟨by rfl, ?_⟩) (by assumption) ?_
          rotate_left
          · intro wz hSw; (try dsimp only at hSw); go_simp; (try with_reducible rfl)
          try simp only [Act.put, List.setIfInBounds_toArray, List.set_cons_zero, List.set_cons_succ]
          refine wpAnyH_take (i := 15) (oi := { dst := some 173, op := Go.Op.move (Go.Operand.tmp 24), type := 4, pos := "law.go:92", after := #[{ on := 14, ground := Go.Ground.guard }], guard := some (14, false) }) (v := ?_) rfl (by kernel_rfl) (by kernel_rfl) (by kernel_rfl) (fun _ _ _ h => h) (Or.inl ⟨by rfl, ?_⟩) (by assumption) ?_
          rotate_left
          · intro wz hSw; (try dsimp only at hSw); go_simp; (try with_reducible rfl)
          try simp only [Act.put, List.setIfInBounds_toArray, List.set_cons_zero, List.set_cons_succ]
          refine wpAnyH_take (i := 16) (oi := { dst := some 174, op := Go.Op.fieldAddr 39 (Go.Operand.tmp 9) 0, type := 0, pos := "law.go:92", after := #[{ on := 14, ground := Go.Ground.guard }], guard := some (14, false) }) (v := ?_) rfl (by kernel_rfl) (by kernel_rfl) (by kernel_rfl) (fun _ _ _ h => h) (Or.inl ⟨by rfl, ?_⟩) (by assumption) ?_
          rotate_left
          · intro wz hSw; (try dsimp only at hSw); go_simp; (try with_reducible rfl)
          try simp only [Act.put, List.setIfInBounds_toArray, List.set_cons_zero, List.set_cons_succ]
          refine wpAnyH_take (i := 17) (oi := { dst := some 175, op := Go.Op.load 37 (Go.Operand.tmp 174), type := 37, pos := "law.go:92", after := #[{ on := 16, ground := Go.Ground.data }, { on := 14, ground := Go.Ground.guard }], guard := some (14, false) }) (v := .slice va M'.length vc) rfl (by kernel_rfl) (by kernel_rfl) (by kernel_rfl) (fun _ _ _ h => h) (Or.inl ⟨by rfl, ?_⟩) (by assumption) ?_
          · intro wz hSw; (try dsimp only at hSw); have h1 := hSw; go_simp; try rfl
          try simp only [Act.put, List.setIfInBounds_toArray, List.set_cons_zero, List.set_cons_succ]
          refine wpAnyH_take (i := 18) (oi := { dst := some 176, op := Go.Op.call { callee := Go.Callee.builtin Go.Builtin.len, args := #[Go.Operand.tmp 175], argTypes := #[37] }, type := 3, pos := "law.go:92", after := #[{ on := 17, ground := Go.Ground.data }, { on := 14, ground := Go.Ground.guard }], guard := some (14, false) }) (v := ?_) rfl (by kernel_rfl) (by kernel_rfl) (by kernel_rfl) (fun _ _ _ h => h) (Or.inl ⟨by rfl, ?_⟩) (by assumption) ?_
          rotate_left
          · intro wz hSw; (try dsimp only at hSw); go_simp; (try with_reducible rfl)
          try simp only [Act.put, List.setIfInBounds_toArray, List.set_cons_zero, List.set_cons_succ]
          refine wpAnyH_take (i := 19) (oi := { dst := some 177, op := Go.Op.binOp Go.BinOp.gtr 3 (Go.Operand.tmp 176) (Go.Operand.const (Go.Value.int Go.IntKind.i64 0)) 3, type := 4, pos := "law.go:92", after := #[{ on := 18, ground := Go.Ground.data }, { on := 14, ground := Go.Ground.guard }], guard := some (14, false) }) (v := .bool false) rfl (by kernel_rfl) (by kernel_rfl) (by kernel_rfl) (fun _ _ _ h => h) (Or.inl ⟨by rfl, ?_⟩) (by assumption) ?_
          · intro wz hSw; (try dsimp only at hSw); have h0 : (M'.length : Int) = 0 := (by have := HM0.out; omega); have h9 : ¬ ((0 : Int) < (M'.length : Int)) := (by omega); go_simp; try rfl
          try simp only [Act.put, List.setIfInBounds_toArray, List.set_cons_zero, List.set_cons_succ]
          refine wpAnyH_take (i := 20) (oi := { dst := some 178, op := Go.Op.binOp Go.BinOp.neq 4 (Go.Operand.tmp 173) (Go.Operand.tmp 177) 4, type := 4, pos := "law.go:92", after := #[{ on := 15, ground := Go.Ground.data }, { on := 19, ground := Go.Ground.data }, { on := 14, ground := Go.Ground.guard }], guard := some (14, false) }) (v := ?_) rfl (by kernel_rfl) (by kernel_rfl) (by kernel_rfl) (fun _ _ _ h => h) (Or.inl ⟨by rfl, ?_⟩) (by assumption) ?_
          rotate_left
          · intro wz hSw; (try dsimp only at hSw); go_simp; (try with_reducible rfl)
          try simp only [Act.put, List.setIfInBounds_toArray, List.set_cons_zero, List.set_cons_succ]
          refine wpAnyH_take (i := 21) (oi := { dst := some 179, op := Go.Op.pick (Go.Operand.tmp 172) (Go.Operand.const (Go.Value.bool true)) (Go.Operand.tmp 178), type := 4, pos := "law.go:92", after := #[{ on := 14, ground := Go.Ground.data }, { on := 20, ground := Go.Ground.data }], guard := none }) (v := ?_) rfl (by kernel_rfl) (by kernel_rfl) (by kernel_rfl) (fun _ _ _ h => h) (Or.inl ⟨by rfl, ?_⟩) (by assumption) ?_
          rotate_left
          · intro wz hSw; (try dsimp only at hSw); go_simp; (try with_reducible rfl)
          try simp only [Act.put, List.setIfInBounds_toArray, List.set_cons_zero, List.set_cons_succ]
          refine wpAnyH_take (i := 22) (oi := { dst := some 180, op := Go.Op.move (Go.Operand.tmp 179), type := 4, pos := "law.go:92", after := #[{ on := 21, ground := Go.Ground.data }, { on := 14, ground := Go.Ground.chain }], guard := none }) (v := ?_) rfl (by kernel_rfl) (by kernel_rfl) (by kernel_rfl) (fun _ _ _ h => h) (Or.inl ⟨by rfl, ?_⟩) (by assumption) ?_
          rotate_left
          · intro wz hSw; (try dsimp only at hSw); go_simp; (try with_reducible rfl)
          try simp only [Act.put, List.setIfInBounds_toArray, List.set_cons_zero, List.set_cons_succ]
          refine wpAnyH_take (i := 23) (oi := { dst := some 181, op := Go.Op.move (Go.Operand.tmp 24), type := 4, pos := "law.go:92", after := #[{ on := 22, ground := Go.Ground.guard }], guard := some (22, false) }) (v := ?_) rfl (by kernel_rfl) (by kernel_rfl) (by kernel_rfl) (fun _ _ _ h => h) (Or.inl ⟨by rfl, ?_⟩) (by assumption) ?_
          rotate_left
          · intro wz hSw; (try dsimp only at hSw); go_simp; (try with_reducible rfl)
          try simp only [Act.put, List.setIfInBounds_toArray, List.set_cons_zero, List.set_cons_succ]
          refine wpAnyH_take (i := 24) (oi := { dst := some 182, op := Go.Op.move (Go.Operand.tmp 181), type := 4, pos := "law.go:92", after := #[{ on := 23, ground := Go.Ground.data }, { on := 22, ground := Go.Ground.chain }, { on := 22, ground := Go.Ground.guard }], guard := some (22, false) }) (v := ?_) rfl (by kernel_rfl) (by kernel_rfl) (by kernel_rfl) (fun _ _ _ h => h) (Or.inl ⟨by rfl, ?_⟩) (by assumption) ?_
          rotate_left
          · intro wz hSw; (try dsimp only at hSw); go_simp; (try with_reducible rfl)
          try simp only [Act.put, List.setIfInBounds_toArray, List.set_cons_zero, List.set_cons_succ]
          refine wpAnyH_take (i := 25) (oi := { dst := some 183, op := Go.Op.move (Go.Operand.tmp 23), type := 3, pos := "law.go:92", after := #[{ on := 24, ground := Go.Ground.guard }], guard := some (24, true) }) (v := undef) rfl (by kernel_rfl) (by kernel_rfl) (by kernel_rfl) (fun _ _ _ h => h) (Or.inr ⟨by rfl, rfl⟩) (by assumption) ?_
          try simp only [Act.put, List.setIfInBounds_toArray, List.set_cons_zero, List.set_cons_succ]
          refine wpAnyH_take (i := 26) (oi := { dst := some 184, op := Go.Op.fieldAddr 39 (Go.Operand.tmp 9) 0, type := 0, pos := "law.go:92", after := #[{ on := 24, ground := Go.Ground.guard }], guard := some (24, true) }) (v := undef) rfl (by kernel_rfl) (by kernel_rfl) (by kernel_rfl) (fun _ _ _ h => h) (Or.inr ⟨by rfl, rfl⟩) (by assumption) ?_
          try simp only [Act.put, List.setIfInBounds_toArray, List.set_cons_zero, List.set_cons_succ]
          refine wpAnyH_take (i := 27) (oi := { dst := some 185, op := Go.Op.load 37 (Go.Operand.tmp 184), type := 37, pos := "law.go:92", after := #[{ on := 26, ground := Go.Ground.data }, { on := 24, ground := Go.Ground.guard }], guard := some (24, true) }) (v := undef) rfl (by kernel_rfl) (by kernel_rfl) (by kernel_rfl) (fun _ _ _ h => h) (Or.inr ⟨by rfl, rfl⟩) (by assumption) ?_
          try simp only [Act.put, List.setIfInBounds_toArray, List.set_cons_zero, List.set_cons_succ]
          refine wpAnyH_take (i := 28) (oi := { dst := some 186, op := Go.Op.indexAddr 37 (Go.Operand.tmp 185) (Go.Operand.const (Go.Value.int Go.IntKind.i64 0)), type := 0, pos := "law.go:92", after := #[{ on := 27, ground := Go.Ground.data }, { on := 24, ground := Go.Ground.guard }], guard := some (24, true) }) (v := undef) rfl (by kernel_rfl) (by kernel_rfl) (by kernel_rfl) (fun _ _ _ h => h) (Or.inr ⟨by rfl, rfl⟩) (by assumption) ?_
          try simp only [Act.put, List.setIfInBounds_toArray, List.set_cons_zero, List.set_cons_succ]
          refine wpAnyH_take (i := 29) (oi := { dst := some 187, op := Go.Op.fieldAddr 51 (Go.Operand.tmp 186) 1, type := 0, pos := "law.go:92", after := #[{ on := 28, ground := Go.Ground.data }, { on := 24, ground := Go.Ground.guard }], guard := some (24, true) }) (v := undef) rfl (by kernel_rfl) (by kernel_rfl) (by kernel_rfl) (fun _ _ _ h => h) (Or.inr ⟨by rfl, rfl⟩) (by assumption) ?_
          try simp only [Act.put, List.setIfInBounds_toArray, List.set_cons_zero, List.set_cons_succ]
          refine wpAnyH_take (i := 30) (oi := { dst := some 188, op := Go.Op.load 3 (Go.Operand.tmp 187), type := 3, pos := "law.go:92", after := #[{ on := 29, ground := Go.Ground.data }, { on := 24, ground := Go.Ground.guard }], guard := some (24, true) }) (v := undef) rfl (by kernel_rfl) (by kernel_rfl) (by kernel_rfl) (fun _ _ _ h => h) (Or.inr ⟨by rfl, rfl⟩) (by assumption) ?_
          try simp only [Act.put, List.setIfInBounds_toArray, List.set_cons_zero, List.set_cons_succ]
          refine wpAnyH_take (i := 31) (oi := { dst := some 189, op := Go.Op.binOp Go.BinOp.neq 3 (Go.Operand.tmp 183) (Go.Operand.tmp 188) 3, type := 4, pos := "law.go:92", after := #[{ on := 25, ground := Go.Ground.data }, { on := 30, ground := Go.Ground.data }, { on := 24, ground := Go.Ground.guard }], guard := some (24, true) }) (v := undef) rfl (by kernel_rfl) (by kernel_rfl) (by kernel_rfl) (fun _ _ _ h => h) (Or.inr ⟨by rfl, rfl⟩) (by assumption) ?_
          try simp only [Act.put, List.setIfInBounds_toArray, List.set_cons_zero, List.set_cons_succ]
          refine wpAnyH_take (i := 32) (oi := { dst := some 190, op := Go.Op.pick (Go.Operand.tmp 182) (Go.Operand.tmp 189) (Go.Operand.const (Go.Value.bool false)), type := 4, pos := "law.go:92", after := #[{ on := 24, ground := Go.Ground.data }, { on := 31, ground := Go.Ground.data }, { on := 22, ground := Go.Ground.guard }], guard := some (22, false) }) (v := ?_) rfl (by kernel_rfl) (by kernel_rfl) (by kernel_rfl) (fun _ _ _ h => h) (Or.inl ⟨by rfl, ?_⟩) (by assumption) ?_
          rotate_left
          · intro wz hSw; (try dsimp only at hSw); go_simp; (try with_reducible rfl)
          try simp only [Act.put, List.setIfInBounds_toArray, List.set_cons_zero, List.set_cons_succ]
          refine wpAnyH_take (i := 33) (oi := { dst := some 191, op := Go.Op.pick (Go.Operand.tmp 180) (Go.Operand.const (Go.Value.bool true)) (Go.Operand.tmp 190), type := 4, pos := "law.go:92", after := #[{ on := 22, ground := Go.Ground.data }, { on := 32, ground := Go.Ground.data }], guard := none }) (v := ?_) rfl (by kernel_rfl) (by kernel_rfl) (by kernel_rfl) (fun _ _ _ h => h) (Or.inl ⟨by rfl, ?_⟩) (by assumption) ?_
          rotate_left
          · intro wz hSw; (try dsimp only at hSw); go_simp; (try with_reducible rfl)
          try simp only [Act.put, List.setIfInBounds_toArray, List.set_cons_zero, List.set_cons_succ]
          refine wpAnyH_take (i := 34) (oi := { dst := some 192, op := Go.Op.move (Go.Operand.tmp 191), type := 4, pos := "law.go:92", after := #[{ on := 33, ground := Go.Ground.data }, { on := 24, ground := Go.Ground.chain }], guard := none }) (v := ?_) rfl (by kernel_rfl) (by kernel_rfl) (by kernel_rfl) (fun _ _ _ h => h) (Or.inl ⟨by rfl, ?_⟩) (by assumption) ?_
          rotate_left
          · intro wz hSw; (try dsimp only at hSw); go_simp; (try with_reducible rfl)
          try simp only [Act.put, List.setIfInBounds_toArray, List.set_cons_zero, List.set_cons_succ]
          refine wpAnyH_take (i := 35) (oi := { dst := some 193, op := Go.Op.move (Go.Operand.tmp 24), type := 4, pos := "law.go:92", after := #[{ on := 34, ground := Go.Ground.guard }], guard := some (34, false) }) (v := ?_) rfl (by kernel_rfl) (by kernel_rfl) (by kernel_rfl) (fun _ _ _ h => h) (Or.inl ⟨by rfl, ?_⟩) (by assumption) ?_
          rotate_left
          · intro wz hSw; (try dsimp only at hSw); go_simp; (try with_reducible rfl)
          try simp only [Act.put, List.setIfInBounds_toArray, List.set_cons_zero, List.set_cons_succ]
          refine wpAnyH_take (i := 36) (oi := { dst := some 194, op := Go.Op.unOp Go.UnOp.not 4 (Go.Operand.tmp 193), type := 4, pos := "law.go:92", after := #[{ on := 35, ground := Go.Ground.data }, { on := 34, ground := Go.Ground.guard }], guard := some (34, false) }) (v := ?_) rfl (by kernel_rfl) (by kernel_rfl) (by kernel_rfl) (fun _ _ _ h => h) (Or.inl ⟨by rfl, ?_⟩) (by assumption) ?_
          rotate_left
          · intro wz hSw; (try dsimp only at hSw); go_simp; (try with_reducible rfl)
          try simp only [Act.put, List.setIfInBounds_toArray, List.set_cons_zero, List.set_cons_succ]
          refine wpAnyH_take (i := 37) (oi := { dst := some 195, op := Go.Op.move (Go.Operand.tmp 194), type := 4, pos := "law.go:92", after := #[{ on := 36, ground := Go.Ground.data }, { on := 34, ground := Go.Ground.chain }, { on := 34, ground := Go.Ground.guard }], guard := some (34, false) }) (v := ?_) rfl (by kernel_rfl) (by kernel_rfl) (by kernel_rfl) (fun _ _ _ h => h) (Or.inl ⟨by rfl, ?_⟩) (by assumption) ?_
          rotate_left
          · intro wz hSw; (try dsimp only at hSw); go_simp; (try with_reducible rfl)
          try simp only [Act.put, List.setIfInBounds_toArray, List.set_cons_zero, List.set_cons_succ]
          refine wpAnyH_take (i := 38) (oi := { dst := some 196, op := Go.Op.move (Go.Operand.tmp 23), type := 3, pos := "law.go:92", after := #[{ on := 37, ground := Go.Ground.guard }], guard := some (37, true) }) (v := ?_) rfl (by kernel_rfl) (by kernel_rfl) (by kernel_rfl) (fun _ _ _ h => h) (Or.inl ⟨by rfl, ?_⟩) (by assumption) ?_
          rotate_left
          · intro wz hSw; (try dsimp only at hSw); go_simp; (try with_reducible rfl)
          try simp only [Act.put, List.setIfInBounds_toArray, List.set_cons_zero, List.set_cons_succ]
          refine wpAnyH_take (i := 39) (oi := { dst := some 197, op := Go.Op.binOp Go.BinOp.neq 3 (Go.Operand.tmp 196) (Go.Operand.const (Go.Value.int Go.IntKind.i64 0)) 3, type := 4, pos := "law.go:92", after := #[{ on := 38, ground := Go.Ground.data }, { on := 37, ground := Go.Ground.guard }], guard := some (37, true) }) (v := ?_) rfl (by kernel_rfl) (by kernel_rfl) (by kernel_rfl) (fun _ _ _ h => h) (Or.inl ⟨by rfl, ?_⟩) (by assumption) ?_
          rotate_left
          · intro wz hSw; (try dsimp only at hSw); go_simp; (try with_reducible rfl)
          try simp only [Act.put, List.setIfInBounds_toArray, List.set_cons_zero, List.set_cons_succ]
          refine wpAnyH_take (i := 40) (oi := { dst := some 198, op := Go.Op.pick (Go.Operand.tmp 195) (Go.Operand.tmp 197) (Go.Operand.const (Go.Value.bool false)), type := 4, pos := "law.go:92", after := #[{ on := 37, ground := Go.Ground.data }, { on := 39, ground := Go.Ground.data }, { on := 34, ground := Go.Ground.guard }], guard := some (34, false) }) (v := ?_) rfl (by kernel_rfl) (by kernel_rfl) (by kernel_rfl) (fun _ _ _ h => h) (Or.inl ⟨by rfl, ?_⟩) (by assumption) ?_
          rotate_left
          · intro wz hSw; (try dsimp only at hSw); go_simp; (try with_reducible rfl)
          try simp only [Act.put, List.setIfInBounds_toArray, List.set_cons_zero, List.set_cons_succ]
          refine wpAnyH_take (i := 41) (oi := { dst := some 199, op := Go.Op.pick (Go.Operand.tmp 192) (Go.Operand.const (Go.Value.bool true)) (Go.Operand.tmp 198), type := 4, pos := "law.go:92", after := #[{ on := 34, ground := Go.Ground.data }, { on := 40, ground := Go.Ground.data }], guard := none }) (v := ?_) rfl (by kernel_rfl) (by kernel_rfl) (by kernel_rfl) (fun _ _ _ h => h) (Or.inl ⟨by rfl, ?_⟩) (by assumption) ?_
          rotate_left
          · intro wz hSw; (try dsimp only at hSw); go_simp; (try with_reducible rfl)
          try simp only [Act.put, List.setIfInBounds_toArray, List.set_cons_zero, List.set_cons_succ]
          refine wpAnyH_done (by kernel_rfl) (NoPanic.normal ?_) _
          try simp only [Act.put, List.setIfInBounds_toArray, List.set_cons_zero, List.set_cons_succ]
          have HN : Hid (AdI QS w w8 p R (i + 1)) := ⟨⟨A8, va, vc, M', lz, HJ8.out, hlz⟩⟩
          clear hHeld
          go_wp2
          exact ⟨⟨i + 1, by omega, by omega, by go_num, HN.out⟩, by simp [intOf]; omega⟩
        · have hm1 : 0 < M'.length := List.length_pos_iff.2 hM
          have hm1' : (0 : Int) < (M'.length : Int) := by omega
          have hdc : decide (0 < M'.length) = true := decide_eq_true hm1
          rw [hdc]
          generalize hyd : hdE M' = yd at *
          obtain ⟨bb, off, rfl, -⟩ := HJ1.out.2.2.row hm1
          have hMM := hM
          go_upto_region 32 with fail
          have HJ2 : Hid (Below w.heap.size w w5.drew ∧ QAt QS w.heap.size w5.drew A5 p M' lz ∧ DR w.heap.size A5 R w5.drew (some ⟨bb, off, none⟩) vc M' lz) := ⟨HJ1.out.1.drew, HJ1.out.2.1.keep HK.out (Nat.le_refl _) (fun _ _ => rfl), HJ1.out.2.2.below (Below.refl _ w5).drew⟩
          refine wp_region_noPanic ?_
          refine wp_region_held_drew (S := fun w' => w'.cell? ⟨R, 0, none⟩ = some (.slice (some ⟨bb, off, none⟩) M'.length vc) ∧ w'.cell? ⟨bb, off + 1, none⟩ = some (.int .i64 yd)) (by kernel_rfl) (⟨HJ2.out.2.2.cells.1, fst_due hyd HJ2.out.2.2.row hM⟩) (fun hHeld => ?_)
          obtain ⟨wd, hwd⟩ : ∃ wd, w5.drew = wd := ⟨_, rfl⟩
          rw [hwd] at hHeld HJ2 ⊢
          clear hwd HJ1
          refine wpAnyH_take (i := 0) (oi := { dst := some 158, op := Go.Op.move (Go.Operand.tmp 8), type := 23, pos := "law.go:92", after := #[], guard := none }) (v := ?_) rfl (by kernel_rfl) (by kernel_rfl) (by kernel_rfl) (fun _ _ _ h => h) (Or.inl ⟨by rfl, ?_⟩) (by assumption) ?_
          rotate_left
          · intro wz hSw; (try dsimp only at hSw); go_simp; (try with_reducible rfl)
          try simp only [Act.put, List.setIfInBounds_toArray, List.set_cons_zero, List.set_cons_succ]
          refine wpAnyH_take (i := 2) (oi := { dst := some 160, op := Go.Op.fieldAddr 39 (Go.Operand.tmp 9) 0, type := 0, pos := "law.go:92", after := #[], guard := none }) (v := ?_) rfl (by kernel_rfl) (by kernel_rfl) (by kernel_rfl) (fun _ _ _ h => h) (Or.inl ⟨by rfl, ?_⟩) (by assumption) ?_
          rotate_left
          · intro wz hSw; (try dsimp only at hSw); go_simp; (try with_reducible rfl)
          try simp only [Act.put, List.setIfInBounds_toArray, List.set_cons_zero, List.set_cons_succ]
          refine wpAnyH_take (i := 3) (oi := { dst := some 161, op := Go.Op.load 37 (Go.Operand.tmp 160), type := 37, pos := "law.go:92", after := #[{ on := 2, ground := Go.Ground.data }], guard := none }) (v := .slice (some ⟨bb, off, none⟩) M'.length vc) rfl (by kernel_rfl) (by kernel_rfl) (by kernel_rfl) (fun _ _ _ h => h) (Or.inl ⟨by rfl, ?_⟩) (by assumption) ?_
          · intro wz hSw; (try dsimp only at hSw); have h1 := hSw.1; go_simp; try rfl
          try simp only [Act.put, List.setIfInBounds_toArray, List.set_cons_zero, List.set_cons_succ]
          refine wpAnyH_ready (rs := [1]) (by kernel_rfl) (by simp) ?_
          refine (AllReadyH.cons (o := { dst := some 159, op := Go.Op.call { callee := Go.Callee.value (Go.Operand.func 13), args := #[Go.Operand.tmp 158], argTypes := #[23] }, type := 34, pos := "law.go:92", after := #[{ on := 0, ground := Go.Ground.data }], guard := none }) rfl (fun K hK => ?_) AllReadyH.nil)
          go_simp
          refine (HK.out.events HJ2.out.2.1.q (by omega)).mono ?_
          rintro e w6 ⟨A6, pd, pc, rfl, hr6, hev6, hfar6, hcap6⟩
          have HJ6 : Hid (Below w.heap.size w w6 ∧ QAt QS w.heap.size w6 A6 p M' lz ∧ DR w.heap.size A6 R w6 (some ⟨bb, off, none⟩) vc M' lz) := ⟨HJ2.out.1.trans (hr6.at HJ2.out.2.1 HJ2.out.1.size).2, (hr6.at HJ2.out.2.1 HJ2.out.1.size).1, HJ2.out.2.2.queue hr6⟩
          have HE6 : Hid (EvAt w6 pd M') := hev6
          clear hr6 hev6 hfar6 hcap6
          refine hK.out _ _ (⟨HJ6.out.2.2.cells.1, fst_due hyd HJ6.out.2.2.row hM⟩) (fun _ => ?_)
          clear hK K
          try simp only [Act.put, List.setIfInBounds_toArray, List.set_cons_zero, List.set_cons_succ]
          refine wpAnyH_ready (rs := [4]) (by kernel_rfl) (by simp) ?_
          refine (AllReadyH.cons (o := { dst := some 162, op := Go.Op.call { callee := Go.Callee.value (Go.Operand.func 16), args := #[Go.Operand.tmp 159, Go.Operand.tmp 161], argTypes := #[34, 37] }, type := 4, pos := "law.go:92", after := #[{ on := 1, ground := Go.Ground.data }, { on := 3, ground := Go.Ground.data }, { on := 1, ground := Go.Ground.chain }], guard := none }) rfl (fun K hK => ?_) AllReadyH.nil)
          go_simp
          refine (events_any pd (some ⟨bb, off, none⟩) pc vc M' M' w6 HE6.out HJ6.out.2.2.row (by omega) HOK.out HOK.out).mono ?_
          rintro e w7 h7
          obtain ⟨r7, rfl, hr7, hb7⟩ := h7.out
          obtain rfl : r7 = true := hr7.2 rfl
          have HJ7 : Hid (Below w.heap.size w w7 ∧ QAt QS w.heap.size w7 A6 p M' lz ∧ DR w.heap.size A6 R w7 (some ⟨bb, off, none⟩) vc M' lz) := ⟨Below.transS HJ6.out.1 hb7, HJ6.out.2.1.keep HK.out hb7.size (fun k hk => hb7.block k (HK.out.low HJ6.out.2.1.q k hk)), HJ6.out.2.2.below hb7⟩
          clear h7 hr7 hb7
          refine hK.out _ _ (⟨HJ7.out.2.2.cells.1, fst_due hyd HJ7.out.2.2.row hM⟩) (fun _ => ?_)
          clear hK K
          try simp only [Act.put, List.setIfInBounds_toArray, List.set_cons_zero, List.set_cons_succ]
          refine wpAnyH_take (i := 5) (oi := { dst := some 163, op := Go.Op.unOp Go.UnOp.not 4 (Go.Operand.tmp 162), type := 4, pos := "law.go:92", after := #[{ on := 4, ground := Go.Ground.data }], guard := none }) (v := ?_) rfl (by kernel_rfl) (by kernel_rfl) (by kernel_rfl) (fun _ _ _ h => h) (Or.inl ⟨by rfl, ?_⟩) (by assumption) ?_
          rotate_left
          · intro wz hSw; (try dsimp only at hSw); go_simp; (try with_reducible rfl)
          try simp only [Act.put, List.setIfInBounds_toArray, List.set_cons_zero, List.set_cons_succ]
          refine wpAnyH_take (i := 6) (oi := { dst := some 164, op := Go.Op.move (Go.Operand.tmp 163), type := 4, pos := "law.go:92", after := #[{ on := 5, ground := Go.Ground.data }, { on := 4, ground := Go.Ground.chain }], guard := none }) (v := ?_) rfl (by kernel_rfl) (by kernel_rfl) (by kernel_rfl) (fun _ _ _ h => h) (Or.inl ⟨by rfl, ?_⟩) (by assumption) ?_
          rotate_left
          · intro wz hSw; (try dsimp only at hSw); go_simp; (try with_reducible rfl)
          try simp only [Act.put, List.setIfInBounds_toArray, List.set_cons_zero, List.set_cons_succ]
          refine wpAnyH_take (i := 7) (oi := { dst := some 165, op := Go.Op.move (Go.Operand.tmp 8), type := 23, pos := "law.go:92", after := #[{ on := 6, ground := Go.Ground.guard }], guard := some (6, false) }) (v := ?_) rfl (by kernel_rfl) (by kernel_rfl) (by kernel_rfl) (fun _ _ _ h => h) (Or.inl ⟨by rfl, ?_⟩) (by assumption) ?_
          rotate_left
          · intro wz hSw; (try dsimp only at hSw); go_simp; (try with_reducible rfl)
          try simp only [Act.put, List.setIfInBounds_toArray, List.set_cons_zero, List.set_cons_succ]
          refine wpAnyH_take (i := 9) (oi := { dst := some 167, op := Go.Op.fieldAddr 39 (Go.Operand.tmp 9) 0, type := 0, pos := "law.go:92", after := #[{ on := 6, ground := Go.Ground.guard }], guard := some (6, false) }) (v := ?_) rfl (by kernel_rfl) (by kernel_rfl) (by kernel_rfl) (fun _ _ _ h => h) (Or.inl ⟨by rfl, ?_⟩) (by assumption) ?_
          rotate_left
          · intro wz hSw; (try dsimp only at hSw); go_simp; (try with_reducible rfl)
          try simp only [Act.put, List.setIfInBounds_toArray, List.set_cons_zero, List.set_cons_succ]
          refine wpAnyH_take (i := 10) (oi := { dst := some 168, op := Go.Op.load 37 (Go.Operand.tmp 167), type := 37, pos := "law.go:92", after := #[{ on := 9, ground := Go.Ground.data }, { on := 6, ground := Go.Ground.guard }], guard := some (6, false) }) (v := .slice (some ⟨bb, off, none⟩) M'.length vc) rfl (by kernel_rfl) (by kernel_rfl) (by kernel_rfl) (fun _ _ _ h => h) (Or.inl ⟨by rfl, ?_⟩) (by assumption) ?_
          · intro wz hSw; (try dsimp only at hSw); have h1 := hSw.1; go_simp; try rfl
          try simp only [Act.put, List.setIfInBounds_toArray, List.set_cons_zero, List.set_cons_succ]
          refine wpAnyH_take (i := 11) (oi := { dst := some 169, op := Go.Op.call { callee := Go.Callee.builtin Go.Builtin.len, args := #[Go.Operand.tmp 168], argTypes := #[37] }, type := 3, pos := "law.go:92", after := #[{ on := 10, ground := Go.Ground.data }, { on := 6, ground := Go.Ground.guard }], guard := some (6, false) }) (v := ?_) rfl (by kernel_rfl) (by kernel_rfl) (by kernel_rfl) (fun _ _ _ h => h) (Or.inl ⟨by rfl, ?_⟩) (by assumption) ?_
          rotate_left
          · intro wz hSw; (try dsimp only at hSw); go_simp; (try with_reducible rfl)
          try simp only [Act.put, List.setIfInBounds_toArray, List.set_cons_zero, List.set_cons_succ]
          refine wpAnyH_ready (rs := [8]) (by kernel_rfl) (by simp) ?_
          refine (AllReadyH.cons (o := { dst := some 166, op := Go.Op.call { callee := Go.Callee.value (Go.Operand.func 11), args := #[Go.Operand.tmp 165], argTypes := #[23] }, type := 3, pos := "law.go:92", after := #[{ on := 7, ground := Go.Ground.data }, { on := 6, ground := Go.Ground.chain }, { on := 6, ground := Go.Ground.guard }], guard := some (6, false) }) rfl (fun K hK => ?_) AllReadyH.nil)
          go_simp
          refine (HK.out.len HJ7.out.2.1.q (by omega)).mono ?_
          rintro e w8 ⟨A8, rfl, hr8⟩
          have HJ8 : Hid (Below w.heap.size w w8 ∧ QAt QS w.heap.size w8 A8 p M' lz ∧ DR w.heap.size A8 R w8 (some ⟨bb, off, none⟩) vc M' lz) := ⟨HJ7.out.1.trans (hr8.at HJ7.out.2.1 HJ7.out.1.size).2, (hr8.at HJ7.out.2.1 HJ7.out.1.size).1, HJ7.out.2.2.queue hr8⟩
          clear hr8
          refine hK.out _ _ (⟨HJ8.out.2.2.cells.1, fst_due hyd HJ8.out.2.2.row hM⟩) (fun _ => ?_)
          clear hK K
          try simp only [Act.put, List.setIfInBounds_toArray, List.set_cons_zero, List.set_cons_succ]
          refine wpAnyH_take (i := 12) (oi := { dst := some 170, op := Go.Op.binOp Go.BinOp.neq 3 (Go.Operand.tmp 166) (Go.Operand.tmp 169) 3, type := 4, pos := "law.go:92", after := #[{ on := 8, ground := Go.Ground.data }, { on := 11, ground := Go.Ground.data }, { on := 6, ground := Go.Ground.guard }], guard := some (6, false) }) (v := ?_) rfl (by kernel_rfl) (by kernel_rfl) (by kernel_rfl) (fun _ _ _ h => h) (Or.inl ⟨by rfl, ?_⟩) (by assumption) ?_
          rotate_left
          · intro wz hSw; (try dsimp only at hSw); go_simp; (try with_reducible rfl)
          try simp only [Act.put, List.setIfInBounds_toArray, List.set_cons_zero, List.set_cons_succ]
          refine wpAnyH_take (i := 13) (oi := { dst := some 171, op := Go.Op.pick (Go.Operand.tmp 164) (Go.Operand.const (Go.Value.bool true)) (Go.Operand.tmp 170), type := 4, pos := "law.go:92", after := #[{ on := 6, ground := Go.Ground.data }, { on := 12, ground := Go.Ground.data }], guard := none }) (v := ?_) rfl (by kernel_rfl) (by kernel_rfl) (by kernel_rfl) (fun _ _ _ h => h) (Or.inl ⟨by rfl, ?_⟩) (by assumption) ?_
          rotate_left
          · intro wz hSw; (try dsimp only at hSw); go_simp; (try with_reducible rfl)
          try simp only [Act.put, List.setIfInBounds_toArray, List.set_cons_zero, List.set_cons_succ]
          refine wpAnyH_take (i := 14) (oi := { dst := some 172, op := Go.Op.move (Go.Operand.tmp 171), type := 4, pos := "law.go:92", after := #[{ on := 13, ground := Go.Ground.data }, { on := 8, ground := Go.Ground.chain }], guard := none }) (v := ?_) rfl (by kernel_rfl) (by kernel_rfl) (by kernel_rfl) (fun _ _ _ h => h) (Or.inl ⟨by rfl, ?_⟩) (by assumption) ?_
          rotate_left
          · intro wz hSw; (try dsimp only at hSw); go_simp; (try with_reducible rfl)
          try simp only [Act.put, List.setIfInBounds_toArray, List.set_cons_zero, List.set_cons_succ]
          refine wpAnyH_take (i := 15) (oi := { dst := some 173, op := Go.Op.move (Go.Operand.tmp 24), type := 4, pos := "law.go:92", after := #[{ on := 14, ground := Go.Ground.guard }], guard := some (14, false) }) (v := ?_) rfl (by kernel_rfl) (by kernel_rfl) (by kernel_rfl) (fun _ _ _ h => h) (Or.inl ⟨by rfl, ?_⟩) (by assumption) ?_
          rotate_left
          · intro wz hSw; (try dsimp only at hSw); go_simp; (try with_reducible rfl)
          try simp only [Act.put, List.setIfInBounds_toArray, List.set_cons_zero, List.set_cons_succ]
          refine wpAnyH_take (i := 16) (oi := { dst := some 174, op := Go.Op.fieldAddr 39 (Go.Operand.tmp 9) 0, type := 0, pos := "law.go:92", after := #[{ on := 14, ground := Go.Ground.guard }], guard := some (14, false) }) (v := ?_) rfl (by kernel_rfl) (by kernel_rfl) (by kernel_rfl) (fun _ _ _ h => h) (Or.inl ⟨by rfl, ?_⟩) (by assumption) ?_
          rotate_left
          · intro wz hSw; (try dsimp only at hSw); go_simp; (try with_reducible rfl)
          try simp only [Act.put, List.setIfInBounds_toArray, List.set_cons_zero, List.set_cons_succ]
          refine wpAnyH_take (i := 17) (oi := { dst := some 175, op := Go.Op.load 37 (Go.Operand.tmp 174), type := 37, pos := "law.go:92", after := #[{ on := 16, ground := Go.Ground.data }, { on := 14, ground := Go.Ground.guard }], guard := some (14, false) }) (v := .slice (some ⟨bb, off, none⟩) M'.length vc) rfl (by kernel_rfl) (by kernel_rfl) (by kernel_rfl) (fun _ _ _ h => h) (Or.inl ⟨by rfl, ?_⟩) (by assumption) ?_
          · intro wz hSw; (try dsimp only at hSw); have h1 := hSw.1; go_simp; try rfl
          try simp only [Act.put, List.setIfInBounds_toArray, List.set_cons_zero, List.set_cons_succ]
          refine wpAnyH_take (i := 18) (oi := { dst := some 176, op := Go.Op.call { callee := Go.Callee.builtin Go.Builtin.len, args := #[Go.Operand.tmp 175], argTypes := #[37] }, type := 3, pos := "law.go:92", after := #[{ on := 17, ground := Go.Ground.data }, { on := 14, ground := Go.Ground.guard }], guard := some (14, false) }) (v := ?_) rfl (by kernel_rfl) (by kernel_rfl) (by kernel_rfl) (fun _ _ _ h => h) (Or.inl ⟨by rfl, ?_⟩) (by assumption) ?_
          rotate_left
          · intro wz hSw; (try dsimp only at hSw); go_simp; (try with_reducible rfl)
          try simp only [Act.put, List.setIfInBounds_toArray, List.set_cons_zero, List.set_cons_succ]
          refine wpAnyH_take (i := 19) (oi := { dst := some 177, op := Go.Op.binOp Go.BinOp.gtr 3 (Go.Operand.tmp 176) (Go.Operand.const (Go.Value.int Go.IntKind.i64 0)) 3, type := 4, pos := "law.go:92", after := #[{ on := 18, ground := Go.Ground.data }, { on := 14, ground := Go.Ground.guard }], guard := some (14, false) }) (v := ?_) rfl (by kernel_rfl) (by kernel_rfl) (by kernel_rfl) (fun _ _ _ h => h) (Or.inl ⟨by rfl, ?_⟩) (by assumption) ?_
          rotate_left
          · intro wz hSw; (try dsimp only at hSw); go_simp; (try with_reducible rfl)
          try simp only [Act.put, List.setIfInBounds_toArray, List.set_cons_zero, List.set_cons_succ]
          refine wpAnyH_take (i := 20) (oi := { dst := some 178, op := Go.Op.binOp Go.BinOp.neq 4 (Go.Operand.tmp 173) (Go.Operand.tmp 177) 4, type := 4, pos := "law.go:92", after := #[{ on := 15, ground := Go.Ground.data }, { on := 19, ground := Go.Ground.data }, { on := 14, ground := Go.Ground.guard }], guard := some (14, false) }) (v := ?_) rfl (by kernel_rfl) (by kernel_rfl) (by kernel_rfl) (fun _ _ _ h => h) (Or.inl ⟨by rfl, ?_⟩) (by assumption) ?_
          rotate_left
          · intro wz hSw; (try dsimp only at hSw); go_simp; (try with_reducible rfl)
          try simp only [Act.put, List.setIfInBounds_toArray, List.set_cons_zero, List.set_cons_succ]
          refine wpAnyH_take (i := 21) (oi := { dst := some 179, op := Go.Op.pick (Go.Operand.tmp 172) (Go.Operand.const (Go.Value.bool true)) (Go.Operand.tmp 178), type := 4, pos := "law.go:92", after := #[{ on := 14, ground := Go.Ground.data }, { on := 20, ground := Go.Ground.data }], guard := none }) (v := ?_) rfl (by kernel_rfl) (by kernel_rfl) (by kernel_rfl) (fun _ _ _ h => h) (Or.inl ⟨by rfl, ?_⟩) (by assumption) ?_
          rotate_left
          · intro wz hSw; (try dsimp only at hSw); go_simp; (try with_reducible rfl)
          try simp only [Act.put, List.setIfInBounds_toArray, List.set_cons_zero, List.set_cons_succ]
          refine wpAnyH_take (i := 22) (oi := { dst := some 180, op := Go.Op.move (Go.Operand.tmp 179), type := 4, pos := "law.go:92", after := #[{ on := 21, ground := Go.Ground.data }, { on := 14, ground := Go.Ground.chain }], guard := none }) (v := ?_) rfl (by kernel_rfl) (by kernel_rfl) (by kernel_rfl) (fun _ _ _ h => h) (Or.inl ⟨by rfl, ?_⟩) (by assumption) ?_
          rotate_left
          · intro wz hSw; (try dsimp only at hSw); go_simp; (try with_reducible rfl)
          try simp only [Act.put, List.setIfInBounds_toArray, List.set_cons_zero, List.set_cons_succ]
          refine wpAnyH_take (i := 23) (oi := { dst := some 181, op := Go.Op.move (Go.Operand.tmp 24), type := 4, pos := "law.go:92", after := #[{ on := 22, ground := Go.Ground.guard }], guard := some (22, false) }) (v := ?_) rfl (by kernel_rfl) (by kernel_rfl) (by kernel_rfl) (fun _ _ _ h => h) (Or.inl ⟨by rfl, ?_⟩) (by assumption) ?_
          rotate_left
          · intro wz hSw; (try dsimp only at hSw); go_simp; (try with_reducible rfl)
          try simp only [Act.put, List.setIfInBounds_toArray, List.set_cons_zero, List.set_cons_succ]
          refine wpAnyH_take (i := 24) (oi := { dst := some 182, op := Go.Op.move (Go.Operand.tmp 181), type := 4, pos := "law.go:92", after := #[{ on := 23, ground := Go.Ground.data }, { on := 22, ground := Go.Ground.chain }, { on := 22, ground := Go.Ground.guard }], guard := some (22, false) }) (v := ?_) rfl (by kernel_rfl) (by kernel_rfl) (by kernel_rfl) (fun _ _ _ h => h) (Or.inl ⟨by rfl, ?_⟩) (by assumption) ?_
          rotate_left
          · intro wz hSw; (try dsimp only at hSw); go_simp; (try with_reducible rfl)
          try simp only [Act.put, List.setIfInBounds_toArray, List.set_cons_zero, List.set_cons_succ]
          refine wpAnyH_take (i := 25) (oi := { dst := some 183, op := Go.Op.move (Go.Operand.tmp 23), type := 3, pos := "law.go:92", after := #[{ on := 24, ground := Go.Ground.guard }], guard := some (24, true) }) (v := ?_) rfl (by kernel_rfl) (by kernel_rfl) (by kernel_rfl) (fun _ _ _ h => h) (Or.inl ⟨by rfl, ?_⟩) (by assumption) ?_
          rotate_left
          · intro wz hSw; (try dsimp only at hSw); go_simp; (try with_reducible rfl)
          try simp only [Act.put, List.setIfInBounds_toArray, List.set_cons_zero, List.set_cons_succ]
          refine wpAnyH_take (i := 26) (oi := { dst := some 184, op := Go.Op.fieldAddr 39 (Go.Operand.tmp 9) 0, type := 0, pos := "law.go:92", after := #[{ on := 24, ground := Go.Ground.guard }], guard := some (24, true) }) (v := ?_) rfl (by kernel_rfl) (by kernel_rfl) (by kernel_rfl) (fun _ _ _ h => h) (Or.inl ⟨by rfl, ?_⟩) (by assumption) ?_
          rotate_left
          · intro wz hSw; (try dsimp only at hSw); go_simp; (try with_reducible rfl)
          try simp only [Act.put, List.setIfInBounds_toArray, List.set_cons_zero, List.set_cons_succ]
          refine wpAnyH_take (i := 27) (oi := { dst := some 185, op := Go.Op.load 37 (Go.Operand.tmp 184), type := 37, pos := "law.go:92", after := #[{ on := 26, ground := Go.Ground.data }, { on := 24, ground := Go.Ground.guard }], guard := some (24, true) }) (v := .slice (some ⟨bb, off, none⟩) M'.length vc) rfl (by kernel_rfl) (by kernel_rfl) (by kernel_rfl) (fun _ _ _ h => h) (Or.inl ⟨by rfl, ?_⟩) (by assumption) ?_
          · intro wz hSw; (try dsimp only at hSw); have h1 := hSw.1; go_simp; try rfl
          try simp only [Act.put, List.setIfInBounds_toArray, List.set_cons_zero, List.set_cons_succ]
          refine wpAnyH_take (i := 28) (oi := { dst := some 186, op := Go.Op.indexAddr 37 (Go.Operand.tmp 185) (Go.Operand.const (Go.Value.int Go.IntKind.i64 0)), type := 0, pos := "law.go:92", after := #[{ on := 27, ground := Go.Ground.data }, { on := 24, ground := Go.Ground.guard }], guard := some (24, true) }) (v := ?_) rfl (by kernel_rfl) (by kernel_rfl) (by kernel_rfl) (fun _ _ _ h => h) (Or.inl ⟨by rfl, ?_⟩) (by assumption) ?_
          rotate_left
          · intro wz hSw; (try dsimp only at hSw); go_simp; (try with_reducible rfl)
          try simp only [Act.put, List.setIfInBounds_toArray, List.set_cons_zero, List.set_cons_succ]
          refine wpAnyH_take (i := 29) (oi := { dst := some 187, op := Go.Op.fieldAddr 51 (Go.Operand.tmp 186) 1, type := 0, pos := "law.go:92", after := #[{ on := 28, ground := Go.Ground.data }, { on := 24, ground := Go.Ground.guard }], guard := some (24, true) }) (v := ?_) rfl (by kernel_rfl) (by kernel_rfl) (by kernel_rfl) (fun _ _ _ h => h) (Or.inl ⟨by rfl, ?_⟩) (by assumption) ?_
          rotate_left
          · intro wz hSw; (try dsimp only at hSw); go_simp; (try with_reducible rfl)
          try simp only [Act.put, List.setIfInBounds_toArray, List.set_cons_zero, List.set_cons_succ]
          refine wpAnyH_take (i := 30) (oi := { dst := some 188, op := Go.Op.load 3 (Go.Operand.tmp 187), type := 3, pos := "law.go:92", after := #[{ on := 29, ground := Go.Ground.data }, { on := 24, ground := Go.Ground.guard }], guard := some (24, true) }) (v := .int .i64 yd) rfl (by kernel_rfl) (by kernel_rfl) (by kernel_rfl) (fun _ _ _ h => h) (Or.inl ⟨by rfl, ?_⟩) (by assumption) ?_
          · intro wz hSw; (try dsimp only at hSw); have h1 := hSw.2; go_simp; try rfl
          try simp only [Act.put, List.setIfInBounds_toArray, List.set_cons_zero, List.set_cons_succ]
          refine wpAnyH_take (i := 31) (oi := { dst := some 189, op := Go.Op.binOp Go.BinOp.neq 3 (Go.Operand.tmp 183) (Go.Operand.tmp 188) 3, type := 4, pos := "law.go:92", after := #[{ on := 25, ground := Go.Ground.data }, { on := 30, ground := Go.Ground.data }, { on := 24, ground := Go.Ground.guard }], guard := some (24, true) }) (v := ?_) rfl (by kernel_rfl) (by kernel_rfl) (by kernel_rfl) (fun _ _ _ h => h) (Or.inl ⟨by rfl, ?_⟩) (by assumption) ?_
          rotate_left
          · intro wz hSw; (try dsimp only at hSw); go_simp; (try with_reducible rfl)
          try simp only [Act.put, List.setIfInBounds_toArray, List.set_cons_zero, List.set_cons_succ]
          refine wpAnyH_take (i := 32) (oi := { dst := some 190, op := Go.Op.pick (Go.Operand.tmp 182) (Go.Operand.tmp 189) (Go.Operand.const (Go.Value.bool false)), type := 4, pos := "law.go:92", after := #[{ on := 24, ground := Go.Ground.data }, { on := 31, ground := Go.Ground.data }, { on := 22, ground := Go.Ground.guard }], guard := some (22, false) }) (v := ?_) rfl (by kernel_rfl) (by kernel_rfl) (by kernel_rfl) (fun _ _ _ h => h) (Or.inl ⟨by rfl, ?_⟩) (by assumption) ?_
          rotate_left
          · intro wz hSw; (try dsimp only at hSw); go_simp; (try with_reducible rfl)
          try simp only [Act.put, List.setIfInBounds_toArray, List.set_cons_zero, List.set_cons_succ]
          refine wpAnyH_take (i := 33) (oi := { dst := some 191, op := Go.Op.pick (Go.Operand.tmp 180) (Go.Operand.const (Go.Value.bool true)) (Go.Operand.tmp 190), type := 4, pos := "law.go:92", after := #[{ on := 22, ground := Go.Ground.data }, { on := 32, ground := Go.Ground.data }], guard := none }) (v := ?_) rfl (by kernel_rfl) (by kernel_rfl) (by kernel_rfl) (fun _ _ _ h => h) (Or.inl ⟨by rfl, ?_⟩) (by assumption) ?_
          rotate_left
          · intro wz hSw; (try dsimp only at hSw); go_simp; (try with_reducible rfl)
          try simp only [Act.put, List.setIfInBounds_toArray, List.set_cons_zero, List.set_cons_succ]
          refine wpAnyH_take (i := 34) (oi := { dst := some 192, op := Go.Op.move (Go.Operand.tmp 191), type := 4, pos := "law.go:92", after := #[{ on := 33, ground := Go.Ground.data }, { on := 24, ground := Go.Ground.chain }], guard := none }) (v := ?_) rfl (by kernel_rfl) (by kernel_rfl) (by kernel_rfl) (fun _ _ _ h => h) (Or.inl ⟨by rfl, ?_⟩) (by assumption) ?_
          rotate_left
          · intro wz hSw; (try dsimp only at hSw); go_simp; (try with_reducible rfl)
          try simp only [Act.put, List.setIfInBounds_toArray, List.set_cons_zero, List.set_cons_succ]
          refine wpAnyH_take (i := 35) (oi := { dst := some 193, op := Go.Op.move (Go.Operand.tmp 24), type := 4, pos := "law.go:92", after := #[{ on := 34, ground := Go.Ground.guard }], guard := some (34, false) }) (v := ?_) rfl (by kernel_rfl) (by kernel_rfl) (by kernel_rfl) (fun _ _ _ h => h) (Or.inl ⟨by rfl, ?_⟩) (by assumption) ?_
          rotate_left
          · intro wz hSw; (try dsimp only at hSw); go_simp; (try with_reducible rfl)
          try simp only [Act.put, List.setIfInBounds_toArray, List.set_cons_zero, List.set_cons_succ]
          refine wpAnyH_take (i := 36) (oi := { dst := some 194, op := Go.Op.unOp Go.UnOp.not 4 (Go.Operand.tmp 193), type := 4, pos := "law.go:92", after := #[{ on := 35, ground := Go.Ground.data }, { on := 34, ground := Go.Ground.guard }], guard := some (34, false) }) (v := ?_) rfl (by kernel_rfl) (by kernel_rfl) (by kernel_rfl) (fun _ _ _ h => h) (Or.inl ⟨by rfl, ?_⟩) (by assumption) ?_
          rotate_left
          · intro wz hSw; (try dsimp only at hSw); go_simp; (try with_reducible rfl)
          try simp only [Act.put, List.setIfInBounds_toArray, List.set_cons_zero, List.set_cons_succ]
          refine wpAnyH_take (i := 37) (oi := { dst := some 195, op := Go.Op.move (Go.Operand.tmp 194), type := 4, pos := "law.go:92", after := #[{ on := 36, ground := Go.Ground.data }, { on := 34, ground := Go.Ground.chain }, { on := 34, ground := Go.Ground.guard }], guard := some (34, false) }) (v := ?_) rfl (by kernel_rfl) (by kernel_rfl) (by kernel_rfl) (fun _ _ _ h => h) (Or.inl ⟨by rfl, ?_⟩) (by assumption) ?_
          rotate_left
          · intro wz hSw; (try dsimp only at hSw); go_simp; (try with_reducible rfl)
          try simp only [Act.put, List.setIfInBounds_toArray, List.set_cons_zero, List.set_cons_succ]
          refine wpAnyH_take (i := 38) (oi := { dst := some 196, op := Go.Op.move (Go.Operand.tmp 23), type := 3, pos := "law.go:92", after := #[{ on := 37, ground := Go.Ground.guard }], guard := some (37, true) }) (v := undef) rfl (by kernel_rfl) (by kernel_rfl) (by kernel_rfl) (fun _ _ _ h => h) (Or.inr ⟨by rfl, rfl⟩) (by assumption) ?_
          try simp only [Act.put, List.setIfInBounds_toArray, List.set_cons_zero, List.set_cons_succ]
          refine wpAnyH_take (i := 39) (oi := { dst := some 197, op := Go.Op.binOp Go.BinOp.neq 3 (Go.Operand.tmp 196) (Go.Operand.const (Go.Value.int Go.IntKind.i64 0)) 3, type := 4, pos := "law.go:92", after := #[{ on := 38, ground := Go.Ground.data }, { on := 37, ground := Go.Ground.guard }], guard := some (37, true) }) (v := undef) rfl (by kernel_rfl) (by kernel_rfl) (by kernel_rfl) (fun _ _ _ h => h) (Or.inr ⟨by rfl, rfl⟩) (by assumption) ?_
          try simp only [Act.put, List.setIfInBounds_toArray, List.set_cons_zero, List.set_cons_succ]
          refine wpAnyH_take (i := 40) (oi := { dst := some 198, op := Go.Op.pick (Go.Operand.tmp 195) (Go.Operand.tmp 197) (Go.Operand.const (Go.Value.bool false)), type := 4, pos := "law.go:92", after := #[{ on := 37, ground := Go.Ground.data }, { on := 39, ground := Go.Ground.data }, { on := 34, ground := Go.Ground.guard }], guard := some (34, false) }) (v := ?_) rfl (by kernel_rfl) (by kernel_rfl) (by kernel_rfl) (fun _ _ _ h => h) (Or.inl ⟨by rfl, ?_⟩) (by assumption) ?_
          rotate_left
          · intro wz hSw; (try dsimp only at hSw); go_simp; (try with_reducible rfl)
          try simp only [Act.put, List.setIfInBounds_toArray, List.set_cons_zero, List.set_cons_succ]
          refine wpAnyH_take (i := 41) (oi := { dst := some 199, op := Go.Op.pick (Go.Operand.tmp 192) (Go.Operand.const (Go.Value.bool true)) (Go.Operand.tmp 198), type := 4, pos := "law.go:92", after := #[{ on := 34, ground := Go.Ground.data }, { on := 40, ground := Go.Ground.data }], guard := none }) (v := ?_) rfl (by kernel_rfl) (by kernel_rfl) (by kernel_rfl) (fun _ _ _ h => h) (Or.inl ⟨by rfl, ?_⟩) (by assumption) ?_
          rotate_left
          · intro wz hSw; (try dsimp only at hSw); go_simp; (try with_reducible rfl)
          try simp only [Act.put, List.setIfInBounds_toArray, List.set_cons_zero, List.set_cons_succ]
          refine wpAnyH_done (by kernel_rfl) (NoPanic.normal ?_) _
          try simp only [Act.put, List.setIfInBounds_toArray, List.set_cons_zero, List.set_cons_succ]
          have HN : Hid (AdI QS w w8 p R (i + 1)) := ⟨⟨A8, (some ⟨bb, off, none⟩), vc, M', lz, HJ8.out, hlz⟩⟩
          clear hHeld
          go_wp2
          exact ⟨⟨i + 1, by omega, by omega, by go_num, HN.out⟩, by simp [intOf]; omega⟩
    · obtain ⟨A, ad, cap, M, last, hT, hla⟩ := hC.out
      have HT : Hid (Below w.heap.size w wr) := hT.1
      clear hT hC hla
      by_cases hk1 : i < xs.length
      · have hk1' : (i : Int) < xs.length := by omega
        have hk2' : ¬ ((i : Int) < 80) := by omega
        go_wp2_with fail
        refine (sure_any HK.out wr).mono ?_
        rintro e w7 ⟨rfl, hb7⟩
        have HQ7 : Hid (Below w.heap.size w w7) := Below.transS HT.out hb7
        clear hb7
        go_wp2
        go_ret
        exact ⟨rfl, HQ7.out⟩
      · have hk1' : ¬ ((i : Int) < xs.length) := by omega
        go_wp2_with fail
        refine (sure_any HK.out wr).mono ?_
        rintro e w7 ⟨rfl, hb7⟩
        have HQ7 : Hid (Below w.heap.size w w7) := Below.transS HT.out hb7
        clear hb7
        go_wp2
        go_ret
        exact ⟨rfl, HQ7.out⟩
end Go.Proofs.YthnobkiiaflelaaDoor
