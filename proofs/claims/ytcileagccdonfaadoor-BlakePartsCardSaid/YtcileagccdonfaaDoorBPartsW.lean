/- BlakeParts, walked. -/
import Derived.Test.YtcileagccdonfaaDoorBPKit
namespace Go.Proofs.YtcileagccdonfaaDoor
open Go.RowKit

/-- n rows of bytes lie at an address. -/
structure RowsIn (w : World) (ad : Option Addr) (n : Nat) (A : Nat → Option Addr) (C : Nat → Nat) (B : Nat → List Nat) : Prop where
  cell : 0 < n → ∃ g o, ad = some ⟨g, o, none⟩ ∧ ∀ i, i < n → w.cell? ⟨g, o + i, none⟩ = some (.slice (A i) (B i).length (C i))
  ok : ∀ i, i < n → SlB w (A i) (B i) ∧ (∀ j, (B i).getD j 0 < 256) ∧ (B i).length ≤ C i ∧ (A i = none → (B i).length = 0)
theorem StAt.blk {w w' : World} {p : Nat} {s : Sm} {wn : Int} (h : StAt w p s wn) (e : w'.heap[p]? = w.heap[p]?) : StAt w' p s wn := by
  obtain ⟨blk, fl, h1, hr⟩ := h
  exact ⟨blk, fl, by rw [e]; exact h1, hr⟩
theorem StAt.lt {w : World} {p : Nat} {s : Sm} {wn : Int} (h : StAt w p s wn) : p < w.heap.size := by
  obtain ⟨blk, fl, h1, _⟩ := h
  exact lt_of_block h1
theorem guardN : Tryd.prog.eqGuardType Tryd.prog.depth 25 = false := by kernel_rfl
theorem eqIn_sv {R : List Nat} (h : By 32 R) (w : World) : (Op.equalIn 10000 25 (.agg (sv R)) (.agg (sv R))).run Tryd.prog w = .ok true w := by
  have hz : ∀ j, j < 32 → 0 ≤ ((R.getD j 0 : Nat) : Int) ∧ ((R.getD j 0 : Nat) : Int) ≤ 255 := fun j _ => by have := h.2 j; omega
  rw [sv_hv h.1, hv_ub hz]
  have := run_equalIn_bytes w 9998 25 5 32 Tryd.underlying25 Tryd.underlying5 hsz1 (ub fun j => ((R.getD j 0 : Nat) : Int)) (ub fun j => ((R.getD j 0 : Nat) : Int)) (by simp [ub]) (by simp [ub])
  simpa using this

theorem exec_neH {a : Act} {o : Oper} (x y : Operand) (ho : o.op = .binOp .neq 25 x y 25) {R : List Nat} (h : By 32 R) (hx : a.eval x = .agg (sv R)) (hy : a.eval y = .agg (sv R)) (w : World) :
    (execOp a.eval o).run Tryd.prog w = .ok (.value (.bool false)) w := by
  have e1 : (binOp .neq 25 (.agg (sv R)) (.agg (sv R))).run Tryd.prog w = .ok (.bool false) w := by
    go_simp
    simp [eqIn_sv h, Result.andThen]
  unfold execOp
  simp only [ho, hx, hy, Sem.run_bind, run_eqGuard_agg w .neq 25 x y _ _ guardHs, e1, Result.andThen_ok, Sem.run_pure]

set_option maxRecDepth 20000 in
set_option maxHeartbeats 4000000 in
theorem partsW_any (kd : Option Addr) (kc : Nat) (Ky : List Nat) (ad : Option Addr) (n cap : Nat) (w : World) (hT : Tab w) (hG : Glob w) (hgl : 3 ≤ w.heap.size)
    (hK : SlB w kd Ky) (hkb : ∀ i, Ky.getD i 0 < 256) (h2 : Ky.length ≤ 32) (A : Nat → Option Addr) (C : Nat → Nat) (B : Nat → List Nat) (hR : RowsIn w ad n A C B) (hnl : n ≤ 9223372036854775807) :
    Calls Tryd.prog 5 #[.slice kd Ky.length kc, .slice ad n cap] w fun e w' => e = .returned (.bool true) ∧ Below w.heap.size w w' := by
  have i2 : (Ky.length : Int) ≤ 32 := by omega
  have i2' : decide ((32 : Int) < (Ky.length : Int)) = false := by simp; omega
  have HK : Hid (SlB w kd Ky ∧ (∀ i, Ky.getD i 0 < 256) ∧ Ky.length ≤ 32 ∧ Tab w ∧ 3 ≤ w.heap.size) := ⟨hK, hkb, h2, hT, hgl⟩
  have HRI : Hid (RowsIn w ad n A C B) := hR
  clear hK hkb h2 hT hgl hR
  have eq0 := eqIn_sv zero_by
  go_enter Tryd.func5, Tryd.ntmps5
  go_wp2_with fail
  refine (write_nil kd Ky.length kc w).mono ?_
  rintro e W1 ⟨rfl, hW1⟩
  rw [hW1]
  clear hW1
  go_wp2_with fail
  refine (sumSt_nil w).mono ?_
  rintro e W2 ⟨rfl, hb2⟩
  go_wp2_with (first | (refine wpList_buildHs rfl rfl ?_) | fail)
  refine (lenSt_nil W2).mono ?_
  rintro e W1 ⟨rfl, hW1⟩
  rw [hW1]
  clear hW1
  go_wp2_with fail
  refine (new_any kd kc Ky W2 (HK.out.2.2.2.1.frm (Frm.ofBelow (S := []) hb2) (by simp)) (HK.out.1.below (Frm.ofBelow hb2)) HK.out.2.2.1 HK.out.2.1).mono ?_
  rintro e W3 ⟨rfl, hst3, hf3⟩
  have HW3 : Hid (Frm [] w W3 ∧ w.heap.size ≤ W2.heap.size ∧ StAt W3 W2.heap.size (new0 Ky) 0) := ⟨(Frm.ofBelow hb2).trans hf3, hb2.size, hst3⟩
  clear hb2 hst3 hf3
  generalize W2.heap.size = p at *
  go_wp2_with fail
  clear eq0
  go_loopw [8, 9] (fun av iv (w' : World) => ∃ (i : Nat) (D : List Nat), i ≤ n ∧ i ≤ 12 ∧ D.length ≤ 2500 ∧ iv = .int .i64 i ∧ OwN W3.heap.size w' av D ∧ StAt w' p (feed (new0 Ky) D) D.length ∧ Frm [p] W3 w') (fun _ iv _ => 12 - (intOf iv).toNat)
  case atStart => exact ⟨0, [], by omega, by omega, by simp, rfl, OwN.nil _ _, HW3.out.2.2, Frm.refl _ _⟩
  case round =>
    obtain ⟨i, D, hin, hi12, hD, rfl, hO, hst, hF⟩ := hrel
    obtain ⟨adv, cpv, rfl, hcv, hsv, hnv, hgv⟩ := hO.form
    have hp3 := HW3.out.2.2.lt
    have hFw : Frm [p] w wr := (HW3.out.1.mono (by simp)).trans hF
    have hD' : (D.length : Int) ≤ 2500 := by omega
    by_cases hc : i < n ∧ i < 12 ∧ D.length < 1500
    · obtain ⟨hc1, hc2, hc3⟩ := hc
      have j1 : (i : Int) < n := by omega
      have j2 : (i : Int) < 12 := by omega
      have j3 : (D.length : Int) < 1500 := by omega
      obtain ⟨g, o, rfl, hce⟩ := HRI.out.cell (by omega)
      have hce' := hce i hc1
      obtain ⟨rS, rB, rC, rN⟩ := HRI.out.ok i hc1
      have hgw : g < w.heap.size := World.block_lt_of_cell? w _ hce'
      generalize A i = a at *
      generalize C i = c at *
      generalize B i = bb at *
      have hgp : g ≠ p := by have := HW3.out.2.1; omega
      have cr : wr.cell? ⟨g, o + i, none⟩ = some (.slice a bb.length c) := by rw [World.cell?_of_block (a := ⟨g, o + i, none⟩) (hFw.block g hgw (by simp; omega))]; exact hce'
      by_cases hbl : 1000 < bb.length
      · have hbl' : 1000 < (bb.length : Int) := by omega
        have HI : Hid (OwN W3.heap.size wr (.slice adv D.length cpv) D ∧ StAt wr p (feed (new0 Ky) D) D.length ∧ Frm [p] W3 wr) := ⟨hO, hst, hF⟩
        clear hO hst hF hcv hsv hnv hgv hce hce' rS rB rC rN hFw
        go_wp2
        go_roundw
        case rel => exact ⟨i + 1, D, by omega, by omega, hD, by go_num, HI.out.1, HI.out.2.1, HI.out.2.2⟩
        case measure => simp [intOf]; omega
      · have hbl' : (bb.length : Int) ≤ 1000 := by omega
        have hbl2 : decide ((1000 : Int) < (bb.length : Int)) = false := by simp; omega
        have hs := feed_ok D _ (new0_ok HK.out.2.2.1 HK.out.2.1) hO.bd
        have hpw := HW3.out.2.1
        have hhb := HK.out.2.2.2.2
        have hTr : Tab wr := HK.out.2.2.2.1.frm hFw (by simp; omega)
        have hft := feed_t D (new0 Ky)
        have hnt := new0_t Ky HK.out.2.2.1
        have hsr : SlB wr a bb := rS.keep hFw (fun g' o' e hl => by have := rS.lt e hl; simp; omega)
        have hcall := write_any p (feed (new0 Ky) D) D.length a c bb wr hst hs hTr (by omega) hsr rC rB (fun g' o' e hl => by have := rS.lt e hl; omega) (by omega) (by omega) (by omega)
        rw [← feed_append, show (D.length : Int) + bb.length = ((D ++ bb).length : Nat) by simp] at hcall
        have HX : Hid (OwN W3.heap.size wr (.slice adv D.length cpv) D ∧ Frm [p] W3 wr ∧ SlB wr a bb ∧ g < wr.heap.size ∧ p < W3.heap.size) := ⟨hO, hF, hsr, World.block_lt_of_cell? wr _ cr, hp3⟩
        have HY : Hid ((∀ j, bb.getD j 0 < 256) ∧ bb.length ≤ c ∧ (a = none → bb.length = 0) ∧ g ≠ p ∧ (∀ g' o', a = some ⟨g', o', none⟩ → 0 < bb.length → g' ≠ p)) := ⟨rB, rC, rN, hgp, fun g' o' e hl => by have := rS.lt e hl; omega⟩
        clear hO hst hF hcv hsv hnv hgv hce hce' rS rB rC rN hFw hs hTr hft hnt hsr hgp hpw hhb
        go_wp2_with fail
        refine hcall.mono ?_
        rintro e W5 ⟨rfl, hst5, hf5⟩
        clear hcall
        have hO5 := HX.out.1.keep hf5 (by simp; exact HX.out.2.2.2.2)
        have hF5 : Frm [p] W3 W5 := HX.out.2.1.trans hf5
        have c5 : W5.cell? ⟨g, o + i, none⟩ = some (.slice a bb.length c) := by rw [World.cell?_of_block (a := ⟨g, o + i, none⟩) (hf5.block g HX.out.2.2.2.1 (by have := HY.out.2.2.2.1; simp; omega))]; exact cr
        have hs5 : BSrc W5 (.slice a bb.length c) (iL bb) := (HX.out.2.2.1.keep hf5 (fun g' o' e hl => by have := HY.out.2.2.2.2 g' o' e hl; simp; omega)).src c HY.out.2.2.1
        have hOw := hO5.ow hF5.size
        have ll : (iL D).length + (iL bb).length ≤ 140737488355328 := by rw [iL_len, iL_len]; omega
        have HZ : Hid (StAt W5 p (feed (new0 Ky) (D ++ bb)) ((D ++ bb).length : Nat) ∧ Frm [p] W3 W5 ∧ (∀ j, (D ++ bb).getD j 0 < 256) ∧ (D ++ bb).length ≤ 2500) := ⟨hst5, hF5, fun _ => getD_append_lt hO5.bd HY.out.1, by rw [List.length_append]; omega⟩
        clear hst5 hf5 hO5 hF5 cr
        go_upto_region 17 with (first | (at_builtin; refine wpList_append_B rfl _ _ rfl (cutW W5 W3.heap.size) _ _ (iL D) (iL bb) rfl rfl hOw hs5 (iL_bd HY.out.1) ll ?_; intro v6 W6 hO6; rw [iL_app] at hO6; obtain ⟨hP6, hF6, hk6⟩ := OwN.of rfl HZ.out.2.1 hO6 HZ.out.2.2.1; clear hO6; have hst6 := HZ.out.1.blk (hk6 p HX.out.2.2.2.2); have hl6 := HZ.out.2.2.2; obtain ⟨E, hE⟩ : ∃ E, E = D ++ bb := ⟨_, rfl⟩; rw [← hE] at hP6 hst6 hl6; have HP6 : Hid (OwN W3.heap.size W6 v6 E ∧ StAt W6 p (feed (new0 Ky) E) E.length ∧ Frm [p] W3 W6 ∧ E.length ≤ 2500) := ⟨hP6, hst6, hF6, hl6⟩; clear hE hF6 hk6 hst6; obtain ⟨ad6, cp6, hv6, hrest⟩ := hP6.form; subst hv6; clear hP6 hrest) | fail)
        have hE' : (E.length : Int) ≤ 2500 := by have := HP6.out.2.2.2; omega
        clear hOw hs5 ll c5 HX HY HZ
        have hrc : i % 2 = 0 ∨ i % 2 = 1 := by omega
        rcases hrc with h2 | h2
        · have h2' : (i : Int) % 2 = 0 := by omega
          go_wp2
          go_roundw
          case rel => exact ⟨i + 1, E, by omega, by omega, HP6.out.2.2.2, by go_num, HP6.out.1, HP6.out.2.1, HP6.out.2.2.1⟩
          case measure => simp [intOf]; omega
        · have h2' : (i : Int) % 2 = 1 := by omega
          have hFw6 : Frm [p] w W6 := (HW3.out.1.mono (by simp)).trans HP6.out.2.2.1
          have hpw := HW3.out.2.1
          have hhb := HK.out.2.2.2.2
          have hK6 : SlB W6 kd Ky := HK.out.1.keep hFw6 (fun g' o' e hl => by have := HK.out.1.lt e hl; simp; omega)
          obtain ⟨a', c', e', hc6, hs6, hn6, _⟩ := HP6.out.1.form
          cases e'
          have hcall := rkeyed_any kd ad6 kc cp6 Ky E W6 hK6 HK.out.2.1 HK.out.2.2.1 hs6 hn6 HP6.out.1.bd (by omega)
          have oR := key_by Ky E
          obtain ⟨R, hR⟩ : ∃ R, R = keyedF Ky E := ⟨_, rfl⟩
          rw [← hR] at oR hcall
          have HR : Hid (sumS (feed (new0 Ky) E) = R) := hR.symm
          clear hR hc6 hs6 hn6 hK6
          have hR32 := oR.1
          have hT6 : Tab W6 := HK.out.2.2.2.1.frm hFw6 (by simp; omega)
          have hs := feed_ok E _ (new0_ok HK.out.2.2.1 HK.out.2.1) HP6.out.1.bd
          have hft := feed_t E (new0 Ky)
          have hnt := new0_t Ky HK.out.2.2.1
          have HS : Hid (Tab W6 ∧ (feed (new0 Ky) E).Ok ∧ 3 ≤ p ∧ (feed (new0 Ky) E).t + (feed (new0 Ky) E).b.length < 18446744073709551616) := ⟨hT6, hs, by omega, by omega⟩
          clear hT6 hs hft hnt hpw hhb hFw6
          go_wp2_with fail
          refine hcall.mono ?_
          rintro e W7 ⟨rfl, hb7⟩
          clear hcall
          have hn0 := heap_alloc_new W7 (.cells (sv z32) 25)
          go_upto_region 19 with (first | (refine wpList_allocHs rfl rfl ?_) | (refine wpList_storeRow 25 hsz rfl _ _ rfl W7.heap.size rfl (sv R) (sv z32) (by rw [sv_size, hR32]) (by simp [sv_size, z32]) (sv_one _) 25 rfl hn0 ?_; intro W8 hg8 hf8) | fail)
          try simp only [Act.put, List.setIfInBounds_toArray, List.set_cons_zero, List.set_cons_succ]
          have hb8 : Below W6.heap.size W6 W8.drew := ((((Frm.ofBelow (S := [W7.heap.size]) hb7).alloc _).trans hf8).below (Nat.le_refl _) (by have := hb7.size; simp; omega)).drew
          have S8 : W8.drew.rangeAt W7.heap.size 0 (sl8 R) := sv_range (w := W8.drew) hg8
          generalize W7.heap.size = gg at *
          clear hn0 hg8 hf8 hb7
          refine wp_region_noPanic ?_
          refine wp_region_held_drew (S := fun w' => w'.rangeAt gg 0 (sl8 R)) (by kernel_rfl) S8 (fun hHeld => ?_)
          refine wpAnyH_take (i := 2) (oi := { dst := some 96, op := Go.Op.load 25 (Go.Operand.tmp 10), type := 25, pos := "law.go:71", after := #[], guard := none }) rfl (by kernel_rfl) (by kernel_rfl) (by kernel_rfl) (fun _ _ _ h => h) (yieldsIf_load_mid (by rfl) _ _ rfl gg 0 rfl (sl8 R) _ (fun _ h => h) Tryd.underlying25 rfl (szHs oR.1)) (by assumption) ?_
          try simp only [Act.put, List.setIfInBounds_toArray, List.set_cons_zero, List.set_cons_succ]
          refine wpAnyH_take (i := 0) (oi := { dst := some 94, op := Go.Op.move (Go.Operand.tmp 6), type := 38, pos := "law.go:71", after := #[], guard := none }) (v := ?_) rfl (by kernel_rfl) (by kernel_rfl) (by kernel_rfl) (fun _ _ _ h => h) (Or.inl ⟨by rfl, ?_⟩) (by assumption) ?_
          rotate_left
          · intro wz hSw; (try dsimp only at hSw); go_simp; (try with_reducible rfl)
          try simp only [Act.put, List.setIfInBounds_toArray, List.set_cons_zero, List.set_cons_succ]
          refine wpAnyH_ready (rs := [1]) (by kernel_rfl) (by simp) ?_
          refine (AllReadyH.cons (o := { dst := some 95, op := Go.Op.call { callee := Go.Callee.value (Go.Operand.func 16), args := #[Go.Operand.tmp 94], argTypes := #[38] }, type := 25, pos := "law.go:71", after := #[{ on := 0, ground := Go.Ground.data }], guard := none }) rfl (fun K hK => ?_) AllReadyH.nil)
          go_simp
          have hcall := sumSt_any p (feed (new0 Ky) E) E.length W8.drew (HP6.out.2.1.keep (Frm.ofBelow (S := []) hb8) (by simp)) HS.out.2.1 (HS.out.1.frm (Frm.ofBelow (S := []) hb8) (by simp)) HS.out.2.2.1 HS.out.2.2.2
          rw [HR.out] at hcall
          refine hcall.mono ?_
          clear hcall
          rintro e W9 ⟨rfl, hb9⟩
          have S9 := range_keep S8 (Frm.ofBelow (S := []) hb9) (by simp)
          have hb9' := Below.transS hb8 hb9
          refine hK.out _ _ S9 (fun _ => ?_)
          clear hK K
          try simp only [Act.put, List.setIfInBounds_toArray, List.set_cons_zero, List.set_cons_succ]
          refine wpAnyH_take (i := 3) (oi := { dst := some 97, op := Go.Op.binOp Go.BinOp.neq 25 (Go.Operand.tmp 95) (Go.Operand.tmp 96) 25, type := 4, pos := "law.go:71", after := #[{ on := 1, ground := Go.Ground.data }, { on := 2, ground := Go.Ground.data }], guard := none }) (v := .bool false) rfl (by kernel_rfl) (by kernel_rfl) (by kernel_rfl) (fun _ _ _ h => h) (Or.inl ⟨by rfl, ?_⟩) (by assumption) ?_
          · intro wz hSw; (try dsimp only at hSw); exact exec_neH _ _ rfl oR rfl rfl wz
          try simp only [Act.put, List.setIfInBounds_toArray, List.set_cons_zero, List.set_cons_succ]
          refine wpAnyH_take (i := 4) (oi := { dst := some 98, op := Go.Op.move (Go.Operand.tmp 97), type := 4, pos := "law.go:71", after := #[{ on := 3, ground := Go.Ground.data }, { on := 1, ground := Go.Ground.chain }], guard := none }) (v := ?_) rfl (by kernel_rfl) (by kernel_rfl) (by kernel_rfl) (fun _ _ _ h => h) (Or.inl ⟨by rfl, ?_⟩) (by assumption) ?_
          rotate_left
          · intro wz hSw; (try dsimp only at hSw); go_simp; (try with_reducible rfl)
          try simp only [Act.put, List.setIfInBounds_toArray, List.set_cons_zero, List.set_cons_succ]
          refine wpAnyH_take (i := 5) (oi := { dst := some 99, op := Go.Op.move (Go.Operand.tmp 6), type := 38, pos := "law.go:71", after := #[{ on := 4, ground := Go.Ground.guard }], guard := some (4, false) }) (v := ?_) rfl (by kernel_rfl) (by kernel_rfl) (by kernel_rfl) (fun _ _ _ h => h) (Or.inl ⟨by rfl, ?_⟩) (by assumption) ?_
          rotate_left
          · intro wz hSw; (try dsimp only at hSw); go_simp; (try with_reducible rfl)
          try simp only [Act.put, List.setIfInBounds_toArray, List.set_cons_zero, List.set_cons_succ]
          refine wpAnyH_take (i := 7) (oi := { dst := some 101, op := Go.Op.load 25 (Go.Operand.tmp 10), type := 25, pos := "law.go:71", after := #[{ on := 4, ground := Go.Ground.guard }], guard := some (4, false) }) rfl (by kernel_rfl) (by kernel_rfl) (by kernel_rfl) (fun _ _ _ h => h) (yieldsIf_load_mid (by rfl) _ _ rfl gg 0 rfl (sl8 R) _ (fun _ h => h) Tryd.underlying25 rfl (szHs oR.1)) (by assumption) ?_
          try simp only [Act.put, List.setIfInBounds_toArray, List.set_cons_zero, List.set_cons_succ]
          refine wpAnyH_ready (rs := [6]) (by kernel_rfl) (by simp) ?_
          refine (AllReadyH.cons (o := { dst := some 100, op := Go.Op.call { callee := Go.Callee.value (Go.Operand.func 16), args := #[Go.Operand.tmp 99], argTypes := #[38] }, type := 25, pos := "law.go:71", after := #[{ on := 5, ground := Go.Ground.data }, { on := 4, ground := Go.Ground.chain }, { on := 4, ground := Go.Ground.guard }], guard := some (4, false) }) rfl (fun K hK => ?_) AllReadyH.nil)
          go_simp
          have hcall := sumSt_any p (feed (new0 Ky) E) E.length W9 (HP6.out.2.1.keep (Frm.ofBelow (S := []) hb9') (by simp)) HS.out.2.1 (HS.out.1.frm (Frm.ofBelow (S := []) hb9') (by simp)) HS.out.2.2.1 HS.out.2.2.2
          rw [HR.out] at hcall
          refine hcall.mono ?_
          clear hcall
          rintro e W10 ⟨rfl, hb10⟩
          have S10 := range_keep S9 (Frm.ofBelow (S := []) hb10) (by simp)
          have hb10' := Below.transS hb9' hb10
          refine hK.out _ _ S10 (fun _ => ?_)
          clear hK K
          try simp only [Act.put, List.setIfInBounds_toArray, List.set_cons_zero, List.set_cons_succ]
          refine wpAnyH_take (i := 8) (oi := { dst := some 102, op := Go.Op.binOp Go.BinOp.neq 25 (Go.Operand.tmp 100) (Go.Operand.tmp 101) 25, type := 4, pos := "law.go:71", after := #[{ on := 6, ground := Go.Ground.data }, { on := 7, ground := Go.Ground.data }, { on := 4, ground := Go.Ground.guard }], guard := some (4, false) }) (v := .bool false) rfl (by kernel_rfl) (by kernel_rfl) (by kernel_rfl) (fun _ _ _ h => h) (Or.inl ⟨by rfl, ?_⟩) (by assumption) ?_
          · intro wz hSw; (try dsimp only at hSw); exact exec_neH _ _ rfl oR rfl rfl wz
          try simp only [Act.put, List.setIfInBounds_toArray, List.set_cons_zero, List.set_cons_succ]
          refine wpAnyH_take (i := 9) (oi := { dst := some 103, op := Go.Op.pick (Go.Operand.tmp 98) (Go.Operand.const (Go.Value.bool true)) (Go.Operand.tmp 102), type := 4, pos := "law.go:71", after := #[{ on := 4, ground := Go.Ground.data }, { on := 8, ground := Go.Ground.data }], guard := none }) (v := ?_) rfl (by kernel_rfl) (by kernel_rfl) (by kernel_rfl) (fun _ _ _ h => h) (Or.inl ⟨by rfl, ?_⟩) (by assumption) ?_
          rotate_left
          · intro wz hSw; (try dsimp only at hSw); go_simp; (try with_reducible rfl)
          try simp only [Act.put, List.setIfInBounds_toArray, List.set_cons_zero, List.set_cons_succ]
          refine wpAnyH_done (by kernel_rfl) (NoPanic.normal ?_) _
          try simp only [Act.put, List.setIfInBounds_toArray, List.set_cons_zero, List.set_cons_succ]
          have HQ : Hid (OwN W3.heap.size W10 (.slice ad6 E.length cp6) E ∧ StAt W10 p (feed (new0 Ky) E) E.length ∧ Frm [p] W3 W10) := ⟨HP6.out.1.keep (Frm.ofBelow (S := []) hb10') (by simp), HP6.out.2.1.keep (Frm.ofBelow (S := []) hb10') (by simp), HP6.out.2.2.1.trans (Frm.ofBelow hb10')⟩
          clear hHeld S8 S9 S10 hb8 hb9 hb9' hb10 hb10' HS HR
          go_wp2
          go_roundw
          case rel => exact ⟨i + 1, E, by omega, by omega, HP6.out.2.2.2, by go_num, HQ.out.1, HQ.out.2.1, HQ.out.2.2⟩
          case measure => simp [intOf]; omega
    · have hx : ¬ (i < n) ∨ (i < n ∧ ¬ (i < 12)) ∨ (i < n ∧ i < 12 ∧ ¬ (D.length < 1500)) := by omega
      have hpw := HW3.out.2.1
      have hhb := HK.out.2.2.2.2
      have hKr : SlB wr kd Ky := HK.out.1.keep hFw (fun g' o' e hl => by have := HK.out.1.lt e hl; simp; omega)
      have hTr : Tab wr := HK.out.2.2.2.1.frm hFw (by simp; omega)
      have hs := feed_ok D _ (new0_ok HK.out.2.2.1 HK.out.2.1) hO.bd
      have hft := feed_t D (new0 Ky)
      have hnt := new0_t Ky HK.out.2.2.1
      have hGr : Glob wr := hG.frm hFw (by simp; omega)
      have HX : Hid (SlB wr kd Ky ∧ Tab wr ∧ (feed (new0 Ky) D).Ok ∧ (feed (new0 Ky) D).t + (feed (new0 Ky) D).b.length < 18446744073709551616 ∧ 3 ≤ p ∧ StAt wr p (feed (new0 Ky) D) D.length ∧ SlB wr adv D ∧ (adv = none → D.length = 0) ∧ D.length ≤ cpv ∧ (∀ j, D.getD j 0 < 256) ∧ Frm [p] w wr ∧ w.heap.size ≤ p ∧ p < wr.heap.size) :=
        ⟨hKr, hTr, hs, by omega, by omega, hst, hsv, hnv, hcv, hO.bd, hFw, hpw, hst.lt⟩
      clear hO hst hF hcv hsv hnv hgv hFw hpw hhb hKr hTr hs hft hnt hc hGr
      have hcall := rkeyed_any kd adv kc cpv Ky D wr HX.out.1 HK.out.2.1 HK.out.2.2.1 HX.out.2.2.2.2.2.2.1 HX.out.2.2.2.2.2.2.2.1 HX.out.2.2.2.2.2.2.2.2.2.1 (by omega)
      have oR := key_by Ky D
      obtain ⟨R, hR⟩ : ∃ R, R = keyedF Ky D := ⟨_, rfl⟩
      have hcall2 := fun (W : World) (hb : Below wr.heap.size wr W) => keyed_any kd adv kc cpv Ky D W (HX.out.2.1.frm (Frm.ofBelow (S := []) hb) (by simp)) (by have := HK.out.2.2.2.2; have := HX.out.2.2.2.2.2.2.2.2.2.2.2; have := hb.size; omega) (HX.out.1.below (Frm.ofBelow hb)) HK.out.2.1 HK.out.2.2.1 (HX.out.2.2.2.2.2.2.1.below (Frm.ofBelow hb)) HX.out.2.2.2.2.2.2.2.2.2.1 HX.out.2.2.2.2.2.2.2.2.1 (by omega)
      rw [← hR] at oR hcall
      have HC2 : Hid (∀ (W : World), Below wr.heap.size wr W → Calls Tryd.prog 12 #[.slice kd Ky.length kc, .slice adv D.length cpv] W fun e w' => e = .returned (.tuple #[.agg (sv R), .nilIface]) ∧ Below W.heap.size W w') := by rw [hR]; exact hcall2
      have HR : Hid (sumS (feed (new0 Ky) D) = R) := hR.symm
      clear hR hcall2
      have hR32 := oR.1
      have hx' : (n : Int) ≤ i ∨ ((i : Int) < n ∧ (12 : Int) ≤ i) ∨ ((i : Int) < n ∧ (i : Int) < 12 ∧ (1500 : Int) ≤ D.length) := by omega
      clear hx
      rcases hx' with h1 | ⟨h1, h2⟩ | ⟨h1, h2, h3⟩
      · go_wp2_with fail
        refine hcall.mono ?_
        rintro e W7 ⟨rfl, hb7⟩
        clear hcall
        have hn0 := heap_alloc_new W7 (.cells (sv z32) 25)
        go_wp2_with (first | (refine wpList_allocHs rfl rfl ?_) | (refine wpList_storeRow 25 hsz rfl _ _ rfl W7.heap.size rfl (sv R) (sv z32) (by rw [sv_size, hR32]) (by simp [sv_size, z32]) (sv_one _) 25 rfl hn0 ?_; intro W8 hg8 hf8) | fail)
        have hb8 : Below wr.heap.size wr W8 := (((Frm.ofBelow (S := [W7.heap.size]) hb7).alloc _).trans hf8).below (Nat.le_refl _) (by have := hb7.size; simp; omega)
        generalize W7.heap.size = gg at *
        clear hn0 hf8 hb7
        refine (HC2.out W8 hb8).mono ?_
        rintro e W9 ⟨rfl, hb9⟩
        clear HC2
        have hg9 : W9.heap[gg]? = some (.cells (sv R) 25 (0, 0)) := by rw [hb9.block _ (lt_of_block hg8)]; exact hg8
        have hb9' := Below.transS hb8 hb9
        clear hg8 hb8 hb9
        have hn0 := heap_alloc_new W9 (.cells (sv z32) 25)
        have hg10 : (W9.alloc (.cells (sv z32) 25)).heap[gg]? = some (.cells (sv R) 25 (0, 0)) := by rw [Below.heap_alloc _ _ _ (lt_of_block hg9)]; exact hg9
        go_wp2_with (first | (refine wpList_allocHs rfl rfl ?_) | (refine wpList_storeRow 25 hsz rfl _ _ rfl W9.heap.size rfl (sv R) (sv z32) (by rw [sv_size, hR32]) (by simp [sv_size, z32]) (sv_one _) 25 rfl hn0 ?_; intro W10 hg11 hf11) | fail)
        try simp only [Act.put, List.setIfInBounds_toArray, List.set_cons_zero, List.set_cons_succ]
        have hne : gg < W9.heap.size := lt_of_block hg9
        have hg12 : W10.heap[gg]? = some (.cells (sv R) 25 (0, 0)) := hf11.heap hg10 (by simp; omega)
        have hb10' : Below wr.heap.size wr W10.drew := ((((Frm.ofBelow (S := [W9.heap.size]) hb9').alloc _).trans hf11).below (Nat.le_refl _) (by have := hb9'.size; simp; omega)).drew
        have S10 : W10.drew.rangeAt gg 0 (sl8 R) ∧ W10.drew.rangeAt W9.heap.size 0 (sl8 R) := ⟨sv_range (w := W10.drew) hg12, sv_range (w := W10.drew) hg11⟩
        generalize W9.heap.size = gk at *
        clear hg9 hg10 hg11 hg12 hf11 hn0 hb9'
        refine wp_region_noPanic ?_
        refine wp_region_held_drew (S := fun w' => w'.rangeAt gg 0 (sl8 R) ∧ w'.rangeAt gk 0 (sl8 R)) (by kernel_rfl) S10 (fun hHeld => ?_)
        refine wpAnyH_take (i := 0) (oi := { dst := some 116, op := Go.Op.move (Go.Operand.tmp 6), type := 38, pos := "law.go:78", after := #[], guard := none }) (v := ?_) rfl (by kernel_rfl) (by kernel_rfl) (by kernel_rfl) (fun _ _ _ h => h) (Or.inl ⟨by rfl, ?_⟩) (by assumption) ?_
        rotate_left
        · intro wz hSw; (try dsimp only at hSw); go_simp; (try with_reducible rfl)
        try simp only [Act.put, List.setIfInBounds_toArray, List.set_cons_zero, List.set_cons_succ]
        refine wpAnyH_take (i := 2) (oi := { dst := some 118, op := Go.Op.load 25 (Go.Operand.tmp 12), type := 25, pos := "law.go:78", after := #[], guard := none }) rfl (by kernel_rfl) (by kernel_rfl) (by kernel_rfl) (fun _ _ _ h => h) (yieldsIf_load_mid (by rfl) _ _ rfl gg 0 rfl (sl8 R) _ (fun _ h => h.1) Tryd.underlying25 rfl (szHs oR.1)) (by assumption) ?_
        try simp only [Act.put, List.setIfInBounds_toArray, List.set_cons_zero, List.set_cons_succ]
        refine wpAnyH_ready (rs := [1]) (by kernel_rfl) (by simp) ?_
        refine (AllReadyH.cons (o := { dst := some 117, op := Go.Op.call { callee := Go.Callee.value (Go.Operand.func 16), args := #[Go.Operand.tmp 116], argTypes := #[38] }, type := 25, pos := "law.go:78", after := #[{ on := 0, ground := Go.Ground.data }], guard := none }) rfl (fun K hK => ?_) AllReadyH.nil)
        go_simp
        have hcall := sumSt_any p (feed (new0 Ky) D) D.length W10.drew (HX.out.2.2.2.2.2.1.keep (Frm.ofBelow (S := []) hb10') (by simp)) HX.out.2.2.1 (HX.out.2.1.frm (Frm.ofBelow (S := []) hb10') (by simp)) HX.out.2.2.2.2.1 HX.out.2.2.2.1
        rw [HR.out] at hcall
        refine hcall.mono ?_
        clear hcall
        rintro e W11 ⟨rfl, hb11⟩
        have S11 := And.intro (range_keep S10.1 (Frm.ofBelow (S := []) hb11) (by simp)) (range_keep S10.2 (Frm.ofBelow (S := []) hb11) (by simp))
        have hb11' := Below.transS hb10' hb11
        refine hK.out _ _ S11 (fun _ => ?_)
        clear hK K
        try simp only [Act.put, List.setIfInBounds_toArray, List.set_cons_zero, List.set_cons_succ]
        refine wpAnyH_take (i := 3) (oi := { dst := some 119, op := Go.Op.binOp Go.BinOp.eql 25 (Go.Operand.tmp 117) (Go.Operand.tmp 118) 25, type := 4, pos := "law.go:78", after := #[{ on := 1, ground := Go.Ground.data }, { on := 2, ground := Go.Ground.data }], guard := none }) (v := .bool true) rfl (by kernel_rfl) (by kernel_rfl) (by kernel_rfl) (fun _ _ _ h => h) (Or.inl ⟨by rfl, ?_⟩) (by assumption) ?_
        · intro wz hSw; (try dsimp only at hSw); exact exec_eqH _ _ rfl oR rfl rfl wz
        try simp only [Act.put, List.setIfInBounds_toArray, List.set_cons_zero, List.set_cons_succ]
        refine wpAnyH_take (i := 4) (oi := { dst := some 120, op := Go.Op.move (Go.Operand.tmp 119), type := 4, pos := "law.go:78", after := #[{ on := 3, ground := Go.Ground.data }, { on := 1, ground := Go.Ground.chain }], guard := none }) (v := ?_) rfl (by kernel_rfl) (by kernel_rfl) (by kernel_rfl) (fun _ _ _ h => h) (Or.inl ⟨by rfl, ?_⟩) (by assumption) ?_
        rotate_left
        · intro wz hSw; (try dsimp only at hSw); go_simp; (try with_reducible rfl)
        try simp only [Act.put, List.setIfInBounds_toArray, List.set_cons_zero, List.set_cons_succ]
        refine wpAnyH_take (i := 5) (oi := { dst := some 121, op := Go.Op.move (Go.Operand.tmp 15), type := 30, pos := "law.go:78", after := #[{ on := 4, ground := Go.Ground.guard }], guard := some (4, true) }) (v := ?_) rfl (by kernel_rfl) (by kernel_rfl) (by kernel_rfl) (fun _ _ _ h => h) (Or.inl ⟨by rfl, ?_⟩) (by assumption) ?_
        rotate_left
        · intro wz hSw; (try dsimp only at hSw); go_simp; (try with_reducible rfl)
        try simp only [Act.put, List.setIfInBounds_toArray, List.set_cons_zero, List.set_cons_succ]
        refine wpAnyH_take (i := 6) (oi := { dst := some 122, op := Go.Op.binOp Go.BinOp.eql 30 (Go.Operand.tmp 121) (Go.Operand.const Go.Value.nilIface) 30, type := 4, pos := "law.go:78", after := #[{ on := 5, ground := Go.Ground.data }, { on := 4, ground := Go.Ground.guard }], guard := some (4, true) }) (v := ?_) rfl (by kernel_rfl) (by kernel_rfl) (by kernel_rfl) (fun _ _ _ h => h) (Or.inl ⟨by rfl, ?_⟩) (by assumption) ?_
        rotate_left
        · intro wz hSw; (try dsimp only at hSw); go_simp; (try with_reducible rfl)
        try simp only [Act.put, List.setIfInBounds_toArray, List.set_cons_zero, List.set_cons_succ]
        refine wpAnyH_take (i := 7) (oi := { dst := some 123, op := Go.Op.pick (Go.Operand.tmp 120) (Go.Operand.tmp 122) (Go.Operand.const (Go.Value.bool false)), type := 4, pos := "law.go:78", after := #[{ on := 4, ground := Go.Ground.data }, { on := 6, ground := Go.Ground.data }], guard := none }) (v := ?_) rfl (by kernel_rfl) (by kernel_rfl) (by kernel_rfl) (fun _ _ _ h => h) (Or.inl ⟨by rfl, ?_⟩) (by assumption) ?_
        rotate_left
        · intro wz hSw; (try dsimp only at hSw); go_simp; (try with_reducible rfl)
        try simp only [Act.put, List.setIfInBounds_toArray, List.set_cons_zero, List.set_cons_succ]
        refine wpAnyH_take (i := 8) (oi := { dst := some 124, op := Go.Op.move (Go.Operand.tmp 123), type := 4, pos := "law.go:78", after := #[{ on := 7, ground := Go.Ground.data }, { on := 4, ground := Go.Ground.chain }], guard := none }) (v := ?_) rfl (by kernel_rfl) (by kernel_rfl) (by kernel_rfl) (fun _ _ _ h => h) (Or.inl ⟨by rfl, ?_⟩) (by assumption) ?_
        rotate_left
        · intro wz hSw; (try dsimp only at hSw); go_simp; (try with_reducible rfl)
        try simp only [Act.put, List.setIfInBounds_toArray, List.set_cons_zero, List.set_cons_succ]
        refine wpAnyH_take (i := 9) (oi := { dst := some 125, op := Go.Op.load 25 (Go.Operand.tmp 14), type := 25, pos := "law.go:78", after := #[{ on := 8, ground := Go.Ground.guard }], guard := some (8, true) }) rfl (by kernel_rfl) (by kernel_rfl) (by kernel_rfl) (fun _ _ _ h => h) (yieldsIf_load_mid (by rfl) _ _ rfl gk 0 rfl (sl8 R) _ (fun _ h => h.2) Tryd.underlying25 rfl (szHs oR.1)) (by assumption) ?_
        try simp only [Act.put, List.setIfInBounds_toArray, List.set_cons_zero, List.set_cons_succ]
        refine wpAnyH_take (i := 10) (oi := { dst := some 126, op := Go.Op.load 25 (Go.Operand.tmp 12), type := 25, pos := "law.go:78", after := #[{ on := 8, ground := Go.Ground.guard }], guard := some (8, true) }) rfl (by kernel_rfl) (by kernel_rfl) (by kernel_rfl) (fun _ _ _ h => h) (yieldsIf_load_mid (by rfl) _ _ rfl gg 0 rfl (sl8 R) _ (fun _ h => h.1) Tryd.underlying25 rfl (szHs oR.1)) (by assumption) ?_
        try simp only [Act.put, List.setIfInBounds_toArray, List.set_cons_zero, List.set_cons_succ]
        refine wpAnyH_take (i := 11) (oi := { dst := some 127, op := Go.Op.binOp Go.BinOp.eql 25 (Go.Operand.tmp 125) (Go.Operand.tmp 126) 25, type := 4, pos := "law.go:78", after := #[{ on := 9, ground := Go.Ground.data }, { on := 10, ground := Go.Ground.data }, { on := 8, ground := Go.Ground.guard }], guard := some (8, true) }) (v := .bool true) rfl (by kernel_rfl) (by kernel_rfl) (by kernel_rfl) (fun _ _ _ h => h) (Or.inl ⟨by rfl, ?_⟩) (by assumption) ?_
        · intro wz hSw; (try dsimp only at hSw); exact exec_eqH _ _ rfl oR rfl rfl wz
        try simp only [Act.put, List.setIfInBounds_toArray, List.set_cons_zero, List.set_cons_succ]
        refine wpAnyH_take (i := 12) (oi := { dst := some 128, op := Go.Op.pick (Go.Operand.tmp 124) (Go.Operand.tmp 127) (Go.Operand.const (Go.Value.bool false)), type := 4, pos := "law.go:78", after := #[{ on := 8, ground := Go.Ground.data }, { on := 11, ground := Go.Ground.data }], guard := none }) (v := ?_) rfl (by kernel_rfl) (by kernel_rfl) (by kernel_rfl) (fun _ _ _ h => h) (Or.inl ⟨by rfl, ?_⟩) (by assumption) ?_
        rotate_left
        · intro wz hSw; (try dsimp only at hSw); go_simp; (try with_reducible rfl)
        try simp only [Act.put, List.setIfInBounds_toArray, List.set_cons_zero, List.set_cons_succ]
        refine wpAnyH_take (i := 13) (oi := { dst := some 129, op := Go.Op.move (Go.Operand.tmp 128), type := 4, pos := "law.go:78", after := #[{ on := 12, ground := Go.Ground.data }, { on := 8, ground := Go.Ground.chain }], guard := none }) (v := ?_) rfl (by kernel_rfl) (by kernel_rfl) (by kernel_rfl) (fun _ _ _ h => h) (Or.inl ⟨by rfl, ?_⟩) (by assumption) ?_
        rotate_left
        · intro wz hSw; (try dsimp only at hSw); go_simp; (try with_reducible rfl)
        try simp only [Act.put, List.setIfInBounds_toArray, List.set_cons_zero, List.set_cons_succ]
        refine wpAnyH_take (i := 14) (oi := { dst := some 130, op := Go.Op.move (Go.Operand.tmp 6), type := 38, pos := "law.go:78", after := #[{ on := 13, ground := Go.Ground.guard }], guard := some (13, true) }) (v := ?_) rfl (by kernel_rfl) (by kernel_rfl) (by kernel_rfl) (fun _ _ _ h => h) (Or.inl ⟨by rfl, ?_⟩) (by assumption) ?_
        rotate_left
        · intro wz hSw; (try dsimp only at hSw); go_simp; (try with_reducible rfl)
        try simp only [Act.put, List.setIfInBounds_toArray, List.set_cons_zero, List.set_cons_succ]
        refine wpAnyH_take (i := 16) (oi := { dst := some 132, op := Go.Op.move (Go.Operand.tmp 8), type := 22, pos := "law.go:78", after := #[{ on := 13, ground := Go.Ground.guard }], guard := some (13, true) }) (v := ?_) rfl (by kernel_rfl) (by kernel_rfl) (by kernel_rfl) (fun _ _ _ h => h) (Or.inl ⟨by rfl, ?_⟩) (by assumption) ?_
        rotate_left
        · intro wz hSw; (try dsimp only at hSw); go_simp; (try with_reducible rfl)
        try simp only [Act.put, List.setIfInBounds_toArray, List.set_cons_zero, List.set_cons_succ]
        refine wpAnyH_take (i := 17) (oi := { dst := some 133, op := Go.Op.call { callee := Go.Callee.builtin Go.Builtin.len, args := #[Go.Operand.tmp 132], argTypes := #[22] }, type := 3, pos := "law.go:78", after := #[{ on := 16, ground := Go.Ground.data }, { on := 13, ground := Go.Ground.guard }], guard := some (13, true) }) (v := ?_) rfl (by kernel_rfl) (by kernel_rfl) (by kernel_rfl) (fun _ _ _ h => h) (Or.inl ⟨by rfl, ?_⟩) (by assumption) ?_
        rotate_left
        · intro wz hSw; (try dsimp only at hSw); go_simp; (try with_reducible rfl)
        try simp only [Act.put, List.setIfInBounds_toArray, List.set_cons_zero, List.set_cons_succ]
        refine wpAnyH_ready (rs := [15]) (by kernel_rfl) (by simp) ?_
        refine (AllReadyH.cons (o := { dst := some 131, op := Go.Op.call { callee := Go.Callee.value (Go.Operand.func 17), args := #[Go.Operand.tmp 130], argTypes := #[38] }, type := 3, pos := "law.go:78", after := #[{ on := 14, ground := Go.Ground.data }, { on := 13, ground := Go.Ground.chain }, { on := 13, ground := Go.Ground.guard }], guard := some (13, true) }) rfl (fun K hK => ?_) AllReadyH.nil)
        go_simp
        refine (lenSt_any p (feed (new0 Ky) D) D.length W11 (HX.out.2.2.2.2.2.1.keep (Frm.ofBelow (S := []) hb11') (by simp)) HX.out.2.2.1).mono ?_
        rintro e W12 ⟨rfl, hW12⟩
        rw [hW12]
        refine hK.out _ _ S11 (fun _ => ?_)
        clear hK K hW12
        try simp only [Act.put, List.setIfInBounds_toArray, List.set_cons_zero, List.set_cons_succ]
        refine wpAnyH_take (i := 18) (oi := { dst := some 134, op := Go.Op.binOp Go.BinOp.eql 3 (Go.Operand.tmp 131) (Go.Operand.tmp 133) 3, type := 4, pos := "law.go:78", after := #[{ on := 15, ground := Go.Ground.data }, { on := 17, ground := Go.Ground.data }, { on := 13, ground := Go.Ground.guard }], guard := some (13, true) }) (v := ?_) rfl (by kernel_rfl) (by kernel_rfl) (by kernel_rfl) (fun _ _ _ h => h) (Or.inl ⟨by rfl, ?_⟩) (by assumption) ?_
        rotate_left
        · intro wz hSw; (try dsimp only at hSw); go_simp; (try with_reducible rfl)
        try simp only [Act.put, List.setIfInBounds_toArray, List.set_cons_zero, List.set_cons_succ]
        refine wpAnyH_take (i := 19) (oi := { dst := some 135, op := Go.Op.pick (Go.Operand.tmp 129) (Go.Operand.tmp 134) (Go.Operand.const (Go.Value.bool false)), type := 4, pos := "law.go:78", after := #[{ on := 13, ground := Go.Ground.data }, { on := 18, ground := Go.Ground.data }], guard := none }) (v := ?_) rfl (by kernel_rfl) (by kernel_rfl) (by kernel_rfl) (fun _ _ _ h => h) (Or.inl ⟨by rfl, ?_⟩) (by assumption) ?_
        rotate_left
        · intro wz hSw; (try dsimp only at hSw); go_simp; (try with_reducible rfl)
        try simp only [Act.put, List.setIfInBounds_toArray, List.set_cons_zero, List.set_cons_succ]
        refine wpAnyH_take (i := 20) (oi := { dst := some 136, op := Go.Op.move (Go.Operand.tmp 135), type := 4, pos := "law.go:78", after := #[{ on := 19, ground := Go.Ground.data }, { on := 15, ground := Go.Ground.chain }], guard := none }) (v := ?_) rfl (by kernel_rfl) (by kernel_rfl) (by kernel_rfl) (fun _ _ _ h => h) (Or.inl ⟨by rfl, ?_⟩) (by assumption) ?_
        rotate_left
        · intro wz hSw; (try dsimp only at hSw); go_simp; (try with_reducible rfl)
        try simp only [Act.put, List.setIfInBounds_toArray, List.set_cons_zero, List.set_cons_succ]
        refine wpAnyH_ready (rs := [21]) (by kernel_rfl) (by simp) ?_
        refine (AllReadyH.cons (o := { dst := some 137, op := Go.Op.call { callee := Go.Callee.value (Go.Operand.func 7), args := #[], argTypes := #[] }, type := 4, pos := "law.go:78", after := #[{ on := 20, ground := Go.Ground.chain }, { on := 20, ground := Go.Ground.guard }], guard := some (20, true) }) rfl (fun K hK => ?_) AllReadyH.nil)
        go_simp
        refine (sure_any W11 (HX.out.2.1.frm (Frm.ofBelow (S := []) hb11') (by simp)) (by have := HX.out.2.2.2.2.1; have := HX.out.2.2.2.2.2.2.2.2.2.2.2; have := hb11'.size; omega)).mono ?_
        rintro e W13 ⟨rfl, hb13⟩
        have S13 := And.intro (range_keep S11.1 (Frm.ofBelow (S := []) hb13) (by simp)) (range_keep S11.2 (Frm.ofBelow (S := []) hb13) (by simp))
        have hb13' := Below.transS hb11' hb13
        refine hK.out _ _ S13 (fun _ => ?_)
        clear hK K
        try simp only [Act.put, List.setIfInBounds_toArray, List.set_cons_zero, List.set_cons_succ]
        refine wpAnyH_take (i := 22) (oi := { dst := some 138, op := Go.Op.pick (Go.Operand.tmp 136) (Go.Operand.tmp 137) (Go.Operand.const (Go.Value.bool false)), type := 4, pos := "law.go:78", after := #[{ on := 20, ground := Go.Ground.data }, { on := 21, ground := Go.Ground.data }], guard := none }) (v := ?_) rfl (by kernel_rfl) (by kernel_rfl) (by kernel_rfl) (fun _ _ _ h => h) (Or.inl ⟨by rfl, ?_⟩) (by assumption) ?_
        rotate_left
        · intro wz hSw; (try dsimp only at hSw); go_simp; (try with_reducible rfl)
        try simp only [Act.put, List.setIfInBounds_toArray, List.set_cons_zero, List.set_cons_succ]
        refine wpAnyH_take (i := 23) (oi := { dst := some 4, op := Go.Op.assign (Go.Operand.tmp 138), type := 4, pos := "law.go:78", after := #[{ on := 22, ground := Go.Ground.data }, { on := 21, ground := Go.Ground.chain }, { on := 0, ground := Go.Ground.phase }, { on := 1, ground := Go.Ground.phase }, { on := 2, ground := Go.Ground.phase }, { on := 3, ground := Go.Ground.phase }, { on := 4, ground := Go.Ground.phase }, { on := 5, ground := Go.Ground.phase }, { on := 6, ground := Go.Ground.phase }, { on := 7, ground := Go.Ground.phase }, { on := 8, ground := Go.Ground.phase }, { on := 9, ground := Go.Ground.phase }, { on := 10, ground := Go.Ground.phase }, { on := 11, ground := Go.Ground.phase }, { on := 12, ground := Go.Ground.phase }, { on := 13, ground := Go.Ground.phase }, { on := 14, ground := Go.Ground.phase }, { on := 15, ground := Go.Ground.phase }, { on := 16, ground := Go.Ground.phase }, { on := 17, ground := Go.Ground.phase }, { on := 18, ground := Go.Ground.phase }, { on := 19, ground := Go.Ground.phase }, { on := 20, ground := Go.Ground.phase }, { on := 21, ground := Go.Ground.phase }, { on := 22, ground := Go.Ground.phase }], guard := none }) (v := ?_) rfl (by kernel_rfl) (by kernel_rfl) (by kernel_rfl) (fun _ _ _ h => h) (Or.inl ⟨by rfl, ?_⟩) (by assumption) ?_
        rotate_left
        · intro wz hSw; (try dsimp only at hSw); go_simp; (try with_reducible rfl)
        try simp only [Act.put, List.setIfInBounds_toArray, List.set_cons_zero, List.set_cons_succ]
        refine wpAnyH_done (by kernel_rfl) (NoPanic.normal ?_) _
        try simp only [Act.put, List.setIfInBounds_toArray, List.set_cons_zero, List.set_cons_succ]
        have HQ : Hid (Below w.heap.size w W13) := (HX.out.2.2.2.2.2.2.2.2.2.2.1.below (Nat.le_refl _) (by have := HX.out.2.2.2.2.2.2.2.2.2.2.2.1; simp; omega)).trans (hb13'.mono HX.out.2.2.2.2.2.2.2.2.2.2.1.size)
        clear hHeld S10 S11 S13 hb10' hb11 hb11' hb13 hb13' HX HR HK HW3
        go_wp2
        go_ret
        exact ⟨rfl, HQ.out⟩
      · go_wp2_with fail
        refine hcall.mono ?_
        rintro e W7 ⟨rfl, hb7⟩
        clear hcall
        have hn0 := heap_alloc_new W7 (.cells (sv z32) 25)
        go_wp2_with (first | (refine wpList_allocHs rfl rfl ?_) | (refine wpList_storeRow 25 hsz rfl _ _ rfl W7.heap.size rfl (sv R) (sv z32) (by rw [sv_size, hR32]) (by simp [sv_size, z32]) (sv_one _) 25 rfl hn0 ?_; intro W8 hg8 hf8) | fail)
        have hb8 : Below wr.heap.size wr W8 := (((Frm.ofBelow (S := [W7.heap.size]) hb7).alloc _).trans hf8).below (Nat.le_refl _) (by have := hb7.size; simp; omega)
        generalize W7.heap.size = gg at *
        clear hn0 hf8 hb7
        refine (HC2.out W8 hb8).mono ?_
        rintro e W9 ⟨rfl, hb9⟩
        clear HC2
        have hg9 : W9.heap[gg]? = some (.cells (sv R) 25 (0, 0)) := by rw [hb9.block _ (lt_of_block hg8)]; exact hg8
        have hb9' := Below.transS hb8 hb9
        clear hg8 hb8 hb9
        have hn0 := heap_alloc_new W9 (.cells (sv z32) 25)
        have hg10 : (W9.alloc (.cells (sv z32) 25)).heap[gg]? = some (.cells (sv R) 25 (0, 0)) := by rw [Below.heap_alloc _ _ _ (lt_of_block hg9)]; exact hg9
        go_wp2_with (first | (refine wpList_allocHs rfl rfl ?_) | (refine wpList_storeRow 25 hsz rfl _ _ rfl W9.heap.size rfl (sv R) (sv z32) (by rw [sv_size, hR32]) (by simp [sv_size, z32]) (sv_one _) 25 rfl hn0 ?_; intro W10 hg11 hf11) | fail)
        try simp only [Act.put, List.setIfInBounds_toArray, List.set_cons_zero, List.set_cons_succ]
        have hne : gg < W9.heap.size := lt_of_block hg9
        have hg12 : W10.heap[gg]? = some (.cells (sv R) 25 (0, 0)) := hf11.heap hg10 (by simp; omega)
        have hb10' : Below wr.heap.size wr W10.drew := ((((Frm.ofBelow (S := [W9.heap.size]) hb9').alloc _).trans hf11).below (Nat.le_refl _) (by have := hb9'.size; simp; omega)).drew
        have S10 : W10.drew.rangeAt gg 0 (sl8 R) ∧ W10.drew.rangeAt W9.heap.size 0 (sl8 R) := ⟨sv_range (w := W10.drew) hg12, sv_range (w := W10.drew) hg11⟩
        generalize W9.heap.size = gk at *
        clear hg9 hg10 hg11 hg12 hf11 hn0 hb9'
        refine wp_region_noPanic ?_
        refine wp_region_held_drew (S := fun w' => w'.rangeAt gg 0 (sl8 R) ∧ w'.rangeAt gk 0 (sl8 R)) (by kernel_rfl) S10 (fun hHeld => ?_)
        refine wpAnyH_take (i := 0) (oi := { dst := some 116, op := Go.Op.move (Go.Operand.tmp 6), type := 38, pos := "law.go:78", after := #[], guard := none }) (v := ?_) rfl (by kernel_rfl) (by kernel_rfl) (by kernel_rfl) (fun _ _ _ h => h) (Or.inl ⟨by rfl, ?_⟩) (by assumption) ?_
        rotate_left
        · intro wz hSw; (try dsimp only at hSw); go_simp; (try with_reducible rfl)
        try simp only [Act.put, List.setIfInBounds_toArray, List.set_cons_zero, List.set_cons_succ]
        refine wpAnyH_take (i := 2) (oi := { dst := some 118, op := Go.Op.load 25 (Go.Operand.tmp 12), type := 25, pos := "law.go:78", after := #[], guard := none }) rfl (by kernel_rfl) (by kernel_rfl) (by kernel_rfl) (fun _ _ _ h => h) (yieldsIf_load_mid (by rfl) _ _ rfl gg 0 rfl (sl8 R) _ (fun _ h => h.1) Tryd.underlying25 rfl (szHs oR.1)) (by assumption) ?_
        try simp only [Act.put, List.setIfInBounds_toArray, List.set_cons_zero, List.set_cons_succ]
        refine wpAnyH_ready (rs := [1]) (by kernel_rfl) (by simp) ?_
        refine (AllReadyH.cons (o := { dst := some 117, op := Go.Op.call { callee := Go.Callee.value (Go.Operand.func 16), args := #[Go.Operand.tmp 116], argTypes := #[38] }, type := 25, pos := "law.go:78", after := #[{ on := 0, ground := Go.Ground.data }], guard := none }) rfl (fun K hK => ?_) AllReadyH.nil)
        go_simp
        have hcall := sumSt_any p (feed (new0 Ky) D) D.length W10.drew (HX.out.2.2.2.2.2.1.keep (Frm.ofBelow (S := []) hb10') (by simp)) HX.out.2.2.1 (HX.out.2.1.frm (Frm.ofBelow (S := []) hb10') (by simp)) HX.out.2.2.2.2.1 HX.out.2.2.2.1
        rw [HR.out] at hcall
        refine hcall.mono ?_
        clear hcall
        rintro e W11 ⟨rfl, hb11⟩
        have S11 := And.intro (range_keep S10.1 (Frm.ofBelow (S := []) hb11) (by simp)) (range_keep S10.2 (Frm.ofBelow (S := []) hb11) (by simp))
        have hb11' := Below.transS hb10' hb11
        refine hK.out _ _ S11 (fun _ => ?_)
        clear hK K
        try simp only [Act.put, List.setIfInBounds_toArray, List.set_cons_zero, List.set_cons_succ]
        refine wpAnyH_take (i := 3) (oi := { dst := some 119, op := Go.Op.binOp Go.BinOp.eql 25 (Go.Operand.tmp 117) (Go.Operand.tmp 118) 25, type := 4, pos := "law.go:78", after := #[{ on := 1, ground := Go.Ground.data }, { on := 2, ground := Go.Ground.data }], guard := none }) (v := .bool true) rfl (by kernel_rfl) (by kernel_rfl) (by kernel_rfl) (fun _ _ _ h => h) (Or.inl ⟨by rfl, ?_⟩) (by assumption) ?_
        · intro wz hSw; (try dsimp only at hSw); exact exec_eqH _ _ rfl oR rfl rfl wz
        try simp only [Act.put, List.setIfInBounds_toArray, List.set_cons_zero, List.set_cons_succ]
        refine wpAnyH_take (i := 4) (oi := { dst := some 120, op := Go.Op.move (Go.Operand.tmp 119), type := 4, pos := "law.go:78", after := #[{ on := 3, ground := Go.Ground.data }, { on := 1, ground := Go.Ground.chain }], guard := none }) (v := ?_) rfl (by kernel_rfl) (by kernel_rfl) (by kernel_rfl) (fun _ _ _ h => h) (Or.inl ⟨by rfl, ?_⟩) (by assumption) ?_
        rotate_left
        · intro wz hSw; (try dsimp only at hSw); go_simp; (try with_reducible rfl)
        try simp only [Act.put, List.setIfInBounds_toArray, List.set_cons_zero, List.set_cons_succ]
        refine wpAnyH_take (i := 5) (oi := { dst := some 121, op := Go.Op.move (Go.Operand.tmp 15), type := 30, pos := "law.go:78", after := #[{ on := 4, ground := Go.Ground.guard }], guard := some (4, true) }) (v := ?_) rfl (by kernel_rfl) (by kernel_rfl) (by kernel_rfl) (fun _ _ _ h => h) (Or.inl ⟨by rfl, ?_⟩) (by assumption) ?_
        rotate_left
        · intro wz hSw; (try dsimp only at hSw); go_simp; (try with_reducible rfl)
        try simp only [Act.put, List.setIfInBounds_toArray, List.set_cons_zero, List.set_cons_succ]
        refine wpAnyH_take (i := 6) (oi := { dst := some 122, op := Go.Op.binOp Go.BinOp.eql 30 (Go.Operand.tmp 121) (Go.Operand.const Go.Value.nilIface) 30, type := 4, pos := "law.go:78", after := #[{ on := 5, ground := Go.Ground.data }, { on := 4, ground := Go.Ground.guard }], guard := some (4, true) }) (v := ?_) rfl (by kernel_rfl) (by kernel_rfl) (by kernel_rfl) (fun _ _ _ h => h) (Or.inl ⟨by rfl, ?_⟩) (by assumption) ?_
        rotate_left
        · intro wz hSw; (try dsimp only at hSw); go_simp; (try with_reducible rfl)
        try simp only [Act.put, List.setIfInBounds_toArray, List.set_cons_zero, List.set_cons_succ]
        refine wpAnyH_take (i := 7) (oi := { dst := some 123, op := Go.Op.pick (Go.Operand.tmp 120) (Go.Operand.tmp 122) (Go.Operand.const (Go.Value.bool false)), type := 4, pos := "law.go:78", after := #[{ on := 4, ground := Go.Ground.data }, { on := 6, ground := Go.Ground.data }], guard := none }) (v := ?_) rfl (by kernel_rfl) (by kernel_rfl) (by kernel_rfl) (fun _ _ _ h => h) (Or.inl ⟨by rfl, ?_⟩) (by assumption) ?_
        rotate_left
        · intro wz hSw; (try dsimp only at hSw); go_simp; (try with_reducible rfl)
        try simp only [Act.put, List.setIfInBounds_toArray, List.set_cons_zero, List.set_cons_succ]
        refine wpAnyH_take (i := 8) (oi := { dst := some 124, op := Go.Op.move (Go.Operand.tmp 123), type := 4, pos := "law.go:78", after := #[{ on := 7, ground := Go.Ground.data }, { on := 4, ground := Go.Ground.chain }], guard := none }) (v := ?_) rfl (by kernel_rfl) (by kernel_rfl) (by kernel_rfl) (fun _ _ _ h => h) (Or.inl ⟨by rfl, ?_⟩) (by assumption) ?_
        rotate_left
        · intro wz hSw; (try dsimp only at hSw); go_simp; (try with_reducible rfl)
        try simp only [Act.put, List.setIfInBounds_toArray, List.set_cons_zero, List.set_cons_succ]
        refine wpAnyH_take (i := 9) (oi := { dst := some 125, op := Go.Op.load 25 (Go.Operand.tmp 14), type := 25, pos := "law.go:78", after := #[{ on := 8, ground := Go.Ground.guard }], guard := some (8, true) }) rfl (by kernel_rfl) (by kernel_rfl) (by kernel_rfl) (fun _ _ _ h => h) (yieldsIf_load_mid (by rfl) _ _ rfl gk 0 rfl (sl8 R) _ (fun _ h => h.2) Tryd.underlying25 rfl (szHs oR.1)) (by assumption) ?_
        try simp only [Act.put, List.setIfInBounds_toArray, List.set_cons_zero, List.set_cons_succ]
        refine wpAnyH_take (i := 10) (oi := { dst := some 126, op := Go.Op.load 25 (Go.Operand.tmp 12), type := 25, pos := "law.go:78", after := #[{ on := 8, ground := Go.Ground.guard }], guard := some (8, true) }) rfl (by kernel_rfl) (by kernel_rfl) (by kernel_rfl) (fun _ _ _ h => h) (yieldsIf_load_mid (by rfl) _ _ rfl gg 0 rfl (sl8 R) _ (fun _ h => h.1) Tryd.underlying25 rfl (szHs oR.1)) (by assumption) ?_
        try simp only [Act.put, List.setIfInBounds_toArray, List.set_cons_zero, List.set_cons_succ]
        refine wpAnyH_take (i := 11) (oi := { dst := some 127, op := Go.Op.binOp Go.BinOp.eql 25 (Go.Operand.tmp 125) (Go.Operand.tmp 126) 25, type := 4, pos := "law.go:78", after := #[{ on := 9, ground := Go.Ground.data }, { on := 10, ground := Go.Ground.data }, { on := 8, ground := Go.Ground.guard }], guard := some (8, true) }) (v := .bool true) rfl (by kernel_rfl) (by kernel_rfl) (by kernel_rfl) (fun _ _ _ h => h) (Or.inl ⟨by rfl, ?_⟩) (by assumption) ?_
        · intro wz hSw; (try dsimp only at hSw); exact exec_eqH _ _ rfl oR rfl rfl wz
        try simp only [Act.put, List.setIfInBounds_toArray, List.set_cons_zero, List.set_cons_succ]
        refine wpAnyH_take (i := 12) (oi := { dst := some 128, op := Go.Op.pick (Go.Operand.tmp 124) (Go.Operand.tmp 127) (Go.Operand.const (Go.Value.bool false)), type := 4, pos := "law.go:78", after := #[{ on := 8, ground := Go.Ground.data }, { on := 11, ground := Go.Ground.data }], guard := none }) (v := ?_) rfl (by kernel_rfl) (by kernel_rfl) (by kernel_rfl) (fun _ _ _ h => h) (Or.inl ⟨by rfl, ?_⟩) (by assumption) ?_
        rotate_left
        · intro wz hSw; (try dsimp only at hSw); go_simp; (try with_reducible rfl)
        try simp only [Act.put, List.setIfInBounds_toArray, List.set_cons_zero, List.set_cons_succ]
        refine wpAnyH_take (i := 13) (oi := { dst := some 129, op := Go.Op.move (Go.Operand.tmp 128), type := 4, pos := "law.go:78", after := #[{ on := 12, ground := Go.Ground.data }, { on := 8, ground := Go.Ground.chain }], guard := none }) (v := ?_) rfl (by kernel_rfl) (by kernel_rfl) (by kernel_rfl) (fun _ _ _ h => h) (Or.inl ⟨by rfl, ?_⟩) (by assumption) ?_
        rotate_left
        · intro wz hSw; (try dsimp only at hSw); go_simp; (try with_reducible rfl)
        try simp only [Act.put, List.setIfInBounds_toArray, List.set_cons_zero, List.set_cons_succ]
        refine wpAnyH_take (i := 14) (oi := { dst := some 130, op := Go.Op.move (Go.Operand.tmp 6), type := 38, pos := "law.go:78", after := #[{ on := 13, ground := Go.Ground.guard }], guard := some (13, true) }) (v := ?_) rfl (by kernel_rfl) (by kernel_rfl) (by kernel_rfl) (fun _ _ _ h => h) (Or.inl ⟨by rfl, ?_⟩) (by assumption) ?_
        rotate_left
        · intro wz hSw; (try dsimp only at hSw); go_simp; (try with_reducible rfl)
        try simp only [Act.put, List.setIfInBounds_toArray, List.set_cons_zero, List.set_cons_succ]
        refine wpAnyH_take (i := 16) (oi := { dst := some 132, op := Go.Op.move (Go.Operand.tmp 8), type := 22, pos := "law.go:78", after := #[{ on := 13, ground := Go.Ground.guard }], guard := some (13, true) }) (v := ?_) rfl (by kernel_rfl) (by kernel_rfl) (by kernel_rfl) (fun _ _ _ h => h) (Or.inl ⟨by rfl, ?_⟩) (by assumption) ?_
        rotate_left
        · intro wz hSw; (try dsimp only at hSw); go_simp; (try with_reducible rfl)
        try simp only [Act.put, List.setIfInBounds_toArray, List.set_cons_zero, List.set_cons_succ]
        refine wpAnyH_take (i := 17) (oi := { dst := some 133, op := Go.Op.call { callee := Go.Callee.builtin Go.Builtin.len, args := #[Go.Operand.tmp 132], argTypes := #[22] }, type := 3, pos := "law.go:78", after := #[{ on := 16, ground := Go.Ground.data }, { on := 13, ground := Go.Ground.guard }], guard := some (13, true) }) (v := ?_) rfl (by kernel_rfl) (by kernel_rfl) (by kernel_rfl) (fun _ _ _ h => h) (Or.inl ⟨by rfl, ?_⟩) (by assumption) ?_
        rotate_left
        · intro wz hSw; (try dsimp only at hSw); go_simp; (try with_reducible rfl)
        try simp only [Act.put, List.setIfInBounds_toArray, List.set_cons_zero, List.set_cons_succ]
        refine wpAnyH_ready (rs := [15]) (by kernel_rfl) (by simp) ?_
        refine (AllReadyH.cons (o := { dst := some 131, op := Go.Op.call { callee := Go.Callee.value (Go.Operand.func 17), args := #[Go.Operand.tmp 130], argTypes := #[38] }, type := 3, pos := "law.go:78", after := #[{ on := 14, ground := Go.Ground.data }, { on := 13, ground := Go.Ground.chain }, { on := 13, ground := Go.Ground.guard }], guard := some (13, true) }) rfl (fun K hK => ?_) AllReadyH.nil)
        go_simp
        refine (lenSt_any p (feed (new0 Ky) D) D.length W11 (HX.out.2.2.2.2.2.1.keep (Frm.ofBelow (S := []) hb11') (by simp)) HX.out.2.2.1).mono ?_
        rintro e W12 ⟨rfl, hW12⟩
        rw [hW12]
        refine hK.out _ _ S11 (fun _ => ?_)
        clear hK K hW12
        try simp only [Act.put, List.setIfInBounds_toArray, List.set_cons_zero, List.set_cons_succ]
        refine wpAnyH_take (i := 18) (oi := { dst := some 134, op := Go.Op.binOp Go.BinOp.eql 3 (Go.Operand.tmp 131) (Go.Operand.tmp 133) 3, type := 4, pos := "law.go:78", after := #[{ on := 15, ground := Go.Ground.data }, { on := 17, ground := Go.Ground.data }, { on := 13, ground := Go.Ground.guard }], guard := some (13, true) }) (v := ?_) rfl (by kernel_rfl) (by kernel_rfl) (by kernel_rfl) (fun _ _ _ h => h) (Or.inl ⟨by rfl, ?_⟩) (by assumption) ?_
        rotate_left
        · intro wz hSw; (try dsimp only at hSw); go_simp; (try with_reducible rfl)
        try simp only [Act.put, List.setIfInBounds_toArray, List.set_cons_zero, List.set_cons_succ]
        refine wpAnyH_take (i := 19) (oi := { dst := some 135, op := Go.Op.pick (Go.Operand.tmp 129) (Go.Operand.tmp 134) (Go.Operand.const (Go.Value.bool false)), type := 4, pos := "law.go:78", after := #[{ on := 13, ground := Go.Ground.data }, { on := 18, ground := Go.Ground.data }], guard := none }) (v := ?_) rfl (by kernel_rfl) (by kernel_rfl) (by kernel_rfl) (fun _ _ _ h => h) (Or.inl ⟨by rfl, ?_⟩) (by assumption) ?_
        rotate_left
        · intro wz hSw; (try dsimp only at hSw); go_simp; (try with_reducible rfl)
        try simp only [Act.put, List.setIfInBounds_toArray, List.set_cons_zero, List.set_cons_succ]
        refine wpAnyH_take (i := 20) (oi := { dst := some 136, op := Go.Op.move (Go.Operand.tmp 135), type := 4, pos := "law.go:78", after := #[{ on := 19, ground := Go.Ground.data }, { on := 15, ground := Go.Ground.chain }], guard := none }) (v := ?_) rfl (by kernel_rfl) (by kernel_rfl) (by kernel_rfl) (fun _ _ _ h => h) (Or.inl ⟨by rfl, ?_⟩) (by assumption) ?_
        rotate_left
        · intro wz hSw; (try dsimp only at hSw); go_simp; (try with_reducible rfl)
        try simp only [Act.put, List.setIfInBounds_toArray, List.set_cons_zero, List.set_cons_succ]
        refine wpAnyH_ready (rs := [21]) (by kernel_rfl) (by simp) ?_
        refine (AllReadyH.cons (o := { dst := some 137, op := Go.Op.call { callee := Go.Callee.value (Go.Operand.func 7), args := #[], argTypes := #[] }, type := 4, pos := "law.go:78", after := #[{ on := 20, ground := Go.Ground.chain }, { on := 20, ground := Go.Ground.guard }], guard := some (20, true) }) rfl (fun K hK => ?_) AllReadyH.nil)
        go_simp
        refine (sure_any W11 (HX.out.2.1.frm (Frm.ofBelow (S := []) hb11') (by simp)) (by have := HX.out.2.2.2.2.1; have := HX.out.2.2.2.2.2.2.2.2.2.2.2; have := hb11'.size; omega)).mono ?_
        rintro e W13 ⟨rfl, hb13⟩
        have S13 := And.intro (range_keep S11.1 (Frm.ofBelow (S := []) hb13) (by simp)) (range_keep S11.2 (Frm.ofBelow (S := []) hb13) (by simp))
        have hb13' := Below.transS hb11' hb13
        refine hK.out _ _ S13 (fun _ => ?_)
        clear hK K
        try simp only [Act.put, List.setIfInBounds_toArray, List.set_cons_zero, List.set_cons_succ]
        refine wpAnyH_take (i := 22) (oi := { dst := some 138, op := Go.Op.pick (Go.Operand.tmp 136) (Go.Operand.tmp 137) (Go.Operand.const (Go.Value.bool false)), type := 4, pos := "law.go:78", after := #[{ on := 20, ground := Go.Ground.data }, { on := 21, ground := Go.Ground.data }], guard := none }) (v := ?_) rfl (by kernel_rfl) (by kernel_rfl) (by kernel_rfl) (fun _ _ _ h => h) (Or.inl ⟨by rfl, ?_⟩) (by assumption) ?_
        rotate_left
        · intro wz hSw; (try dsimp only at hSw); go_simp; (try with_reducible rfl)
        try simp only [Act.put, List.setIfInBounds_toArray, List.set_cons_zero, List.set_cons_succ]
        refine wpAnyH_take (i := 23) (oi := { dst := some 4, op := Go.Op.assign (Go.Operand.tmp 138), type := 4, pos := "law.go:78", after := #[{ on := 22, ground := Go.Ground.data }, { on := 21, ground := Go.Ground.chain }, { on := 0, ground := Go.Ground.phase }, { on := 1, ground := Go.Ground.phase }, { on := 2, ground := Go.Ground.phase }, { on := 3, ground := Go.Ground.phase }, { on := 4, ground := Go.Ground.phase }, { on := 5, ground := Go.Ground.phase }, { on := 6, ground := Go.Ground.phase }, { on := 7, ground := Go.Ground.phase }, { on := 8, ground := Go.Ground.phase }, { on := 9, ground := Go.Ground.phase }, { on := 10, ground := Go.Ground.phase }, { on := 11, ground := Go.Ground.phase }, { on := 12, ground := Go.Ground.phase }, { on := 13, ground := Go.Ground.phase }, { on := 14, ground := Go.Ground.phase }, { on := 15, ground := Go.Ground.phase }, { on := 16, ground := Go.Ground.phase }, { on := 17, ground := Go.Ground.phase }, { on := 18, ground := Go.Ground.phase }, { on := 19, ground := Go.Ground.phase }, { on := 20, ground := Go.Ground.phase }, { on := 21, ground := Go.Ground.phase }, { on := 22, ground := Go.Ground.phase }], guard := none }) (v := ?_) rfl (by kernel_rfl) (by kernel_rfl) (by kernel_rfl) (fun _ _ _ h => h) (Or.inl ⟨by rfl, ?_⟩) (by assumption) ?_
        rotate_left
        · intro wz hSw; (try dsimp only at hSw); go_simp; (try with_reducible rfl)
        try simp only [Act.put, List.setIfInBounds_toArray, List.set_cons_zero, List.set_cons_succ]
        refine wpAnyH_done (by kernel_rfl) (NoPanic.normal ?_) _
        try simp only [Act.put, List.setIfInBounds_toArray, List.set_cons_zero, List.set_cons_succ]
        have HQ : Hid (Below w.heap.size w W13) := (HX.out.2.2.2.2.2.2.2.2.2.2.1.below (Nat.le_refl _) (by have := HX.out.2.2.2.2.2.2.2.2.2.2.2.1; simp; omega)).trans (hb13'.mono HX.out.2.2.2.2.2.2.2.2.2.2.1.size)
        clear hHeld S10 S11 S13 hb10' hb11 hb11' hb13 hb13' HX HR HK HW3
        go_wp2
        go_ret
        exact ⟨rfl, HQ.out⟩
      · go_wp2_with fail
        refine hcall.mono ?_
        rintro e W7 ⟨rfl, hb7⟩
        clear hcall
        have hn0 := heap_alloc_new W7 (.cells (sv z32) 25)
        go_wp2_with (first | (refine wpList_allocHs rfl rfl ?_) | (refine wpList_storeRow 25 hsz rfl _ _ rfl W7.heap.size rfl (sv R) (sv z32) (by rw [sv_size, hR32]) (by simp [sv_size, z32]) (sv_one _) 25 rfl hn0 ?_; intro W8 hg8 hf8) | fail)
        have hb8 : Below wr.heap.size wr W8 := (((Frm.ofBelow (S := [W7.heap.size]) hb7).alloc _).trans hf8).below (Nat.le_refl _) (by have := hb7.size; simp; omega)
        generalize W7.heap.size = gg at *
        clear hn0 hf8 hb7
        refine (HC2.out W8 hb8).mono ?_
        rintro e W9 ⟨rfl, hb9⟩
        clear HC2
        have hg9 : W9.heap[gg]? = some (.cells (sv R) 25 (0, 0)) := by rw [hb9.block _ (lt_of_block hg8)]; exact hg8
        have hb9' := Below.transS hb8 hb9
        clear hg8 hb8 hb9
        have hn0 := heap_alloc_new W9 (.cells (sv z32) 25)
        have hg10 : (W9.alloc (.cells (sv z32) 25)).heap[gg]? = some (.cells (sv R) 25 (0, 0)) := by rw [Below.heap_alloc _ _ _ (lt_of_block hg9)]; exact hg9
        go_wp2_with (first | (refine wpList_allocHs rfl rfl ?_) | (refine wpList_storeRow 25 hsz rfl _ _ rfl W9.heap.size rfl (sv R) (sv z32) (by rw [sv_size, hR32]) (by simp [sv_size, z32]) (sv_one _) 25 rfl hn0 ?_; intro W10 hg11 hf11) | fail)
        try simp only [Act.put, List.setIfInBounds_toArray, List.set_cons_zero, List.set_cons_succ]
        have hne : gg < W9.heap.size := lt_of_block hg9
        have hg12 : W10.heap[gg]? = some (.cells (sv R) 25 (0, 0)) := hf11.heap hg10 (by simp; omega)
        have hb10' : Below wr.heap.size wr W10.drew := ((((Frm.ofBelow (S := [W9.heap.size]) hb9').alloc _).trans hf11).below (Nat.le_refl _) (by have := hb9'.size; simp; omega)).drew
        have S10 : W10.drew.rangeAt gg 0 (sl8 R) ∧ W10.drew.rangeAt W9.heap.size 0 (sl8 R) := ⟨sv_range (w := W10.drew) hg12, sv_range (w := W10.drew) hg11⟩
        generalize W9.heap.size = gk at *
        clear hg9 hg10 hg11 hg12 hf11 hn0 hb9'
        refine wp_region_noPanic ?_
        refine wp_region_held_drew (S := fun w' => w'.rangeAt gg 0 (sl8 R) ∧ w'.rangeAt gk 0 (sl8 R)) (by kernel_rfl) S10 (fun hHeld => ?_)
        refine wpAnyH_take (i := 0) (oi := { dst := some 116, op := Go.Op.move (Go.Operand.tmp 6), type := 38, pos := "law.go:78", after := #[], guard := none }) (v := ?_) rfl (by kernel_rfl) (by kernel_rfl) (by kernel_rfl) (fun _ _ _ h => h) (Or.inl ⟨by rfl, ?_⟩) (by assumption) ?_
        rotate_left
        · intro wz hSw; (try dsimp only at hSw); go_simp; (try with_reducible rfl)
        try simp only [Act.put, List.setIfInBounds_toArray, List.set_cons_zero, List.set_cons_succ]
        refine wpAnyH_take (i := 2) (oi := { dst := some 118, op := Go.Op.load 25 (Go.Operand.tmp 12), type := 25, pos := "law.go:78", after := #[], guard := none }) rfl (by kernel_rfl) (by kernel_rfl) (by kernel_rfl) (fun _ _ _ h => h) (yieldsIf_load_mid (by rfl) _ _ rfl gg 0 rfl (sl8 R) _ (fun _ h => h.1) Tryd.underlying25 rfl (szHs oR.1)) (by assumption) ?_
        try simp only [Act.put, List.setIfInBounds_toArray, List.set_cons_zero, List.set_cons_succ]
        refine wpAnyH_ready (rs := [1]) (by kernel_rfl) (by simp) ?_
        refine (AllReadyH.cons (o := { dst := some 117, op := Go.Op.call { callee := Go.Callee.value (Go.Operand.func 16), args := #[Go.Operand.tmp 116], argTypes := #[38] }, type := 25, pos := "law.go:78", after := #[{ on := 0, ground := Go.Ground.data }], guard := none }) rfl (fun K hK => ?_) AllReadyH.nil)
        go_simp
        have hcall := sumSt_any p (feed (new0 Ky) D) D.length W10.drew (HX.out.2.2.2.2.2.1.keep (Frm.ofBelow (S := []) hb10') (by simp)) HX.out.2.2.1 (HX.out.2.1.frm (Frm.ofBelow (S := []) hb10') (by simp)) HX.out.2.2.2.2.1 HX.out.2.2.2.1
        rw [HR.out] at hcall
        refine hcall.mono ?_
        clear hcall
        rintro e W11 ⟨rfl, hb11⟩
        have S11 := And.intro (range_keep S10.1 (Frm.ofBelow (S := []) hb11) (by simp)) (range_keep S10.2 (Frm.ofBelow (S := []) hb11) (by simp))
        have hb11' := Below.transS hb10' hb11
        refine hK.out _ _ S11 (fun _ => ?_)
        clear hK K
        try simp only [Act.put, List.setIfInBounds_toArray, List.set_cons_zero, List.set_cons_succ]
        refine wpAnyH_take (i := 3) (oi := { dst := some 119, op := Go.Op.binOp Go.BinOp.eql 25 (Go.Operand.tmp 117) (Go.Operand.tmp 118) 25, type := 4, pos := "law.go:78", after := #[{ on := 1, ground := Go.Ground.data }, { on := 2, ground := Go.Ground.data }], guard := none }) (v := .bool true) rfl (by kernel_rfl) (by kernel_rfl) (by kernel_rfl) (fun _ _ _ h => h) (Or.inl ⟨by rfl, ?_⟩) (by assumption) ?_
        · intro wz hSw; (try dsimp only at hSw); exact exec_eqH _ _ rfl oR rfl rfl wz
        try simp only [Act.put, List.setIfInBounds_toArray, List.set_cons_zero, List.set_cons_succ]
        refine wpAnyH_take (i := 4) (oi := { dst := some 120, op := Go.Op.move (Go.Operand.tmp 119), type := 4, pos := "law.go:78", after := #[{ on := 3, ground := Go.Ground.data }, { on := 1, ground := Go.Ground.chain }], guard := none }) (v := ?_) rfl (by kernel_rfl) (by kernel_rfl) (by kernel_rfl) (fun _ _ _ h => h) (Or.inl ⟨by rfl, ?_⟩) (by assumption) ?_
        rotate_left
        · intro wz hSw; (try dsimp only at hSw); go_simp; (try with_reducible rfl)
        try simp only [Act.put, List.setIfInBounds_toArray, List.set_cons_zero, List.set_cons_succ]
        refine wpAnyH_take (i := 5) (oi := { dst := some 121, op := Go.Op.move (Go.Operand.tmp 15), type := 30, pos := "law.go:78", after := #[{ on := 4, ground := Go.Ground.guard }], guard := some (4, true) }) (v := ?_) rfl (by kernel_rfl) (by kernel_rfl) (by kernel_rfl) (fun _ _ _ h => h) (Or.inl ⟨by rfl, ?_⟩) (by assumption) ?_
        rotate_left
        · intro wz hSw; (try dsimp only at hSw); go_simp; (try with_reducible rfl)
        try simp only [Act.put, List.setIfInBounds_toArray, List.set_cons_zero, List.set_cons_succ]
        refine wpAnyH_take (i := 6) (oi := { dst := some 122, op := Go.Op.binOp Go.BinOp.eql 30 (Go.Operand.tmp 121) (Go.Operand.const Go.Value.nilIface) 30, type := 4, pos := "law.go:78", after := #[{ on := 5, ground := Go.Ground.data }, { on := 4, ground := Go.Ground.guard }], guard := some (4, true) }) (v := ?_) rfl (by kernel_rfl) (by kernel_rfl) (by kernel_rfl) (fun _ _ _ h => h) (Or.inl ⟨by rfl, ?_⟩) (by assumption) ?_
        rotate_left
        · intro wz hSw; (try dsimp only at hSw); go_simp; (try with_reducible rfl)
        try simp only [Act.put, List.setIfInBounds_toArray, List.set_cons_zero, List.set_cons_succ]
        refine wpAnyH_take (i := 7) (oi := { dst := some 123, op := Go.Op.pick (Go.Operand.tmp 120) (Go.Operand.tmp 122) (Go.Operand.const (Go.Value.bool false)), type := 4, pos := "law.go:78", after := #[{ on := 4, ground := Go.Ground.data }, { on := 6, ground := Go.Ground.data }], guard := none }) (v := ?_) rfl (by kernel_rfl) (by kernel_rfl) (by kernel_rfl) (fun _ _ _ h => h) (Or.inl ⟨by rfl, ?_⟩) (by assumption) ?_
        rotate_left
        · intro wz hSw; (try dsimp only at hSw); go_simp; (try with_reducible rfl)
        try simp only [Act.put, List.setIfInBounds_toArray, List.set_cons_zero, List.set_cons_succ]
        refine wpAnyH_take (i := 8) (oi := { dst := some 124, op := Go.Op.move (Go.Operand.tmp 123), type := 4, pos := "law.go:78", after := #[{ on := 7, ground := Go.Ground.data }, { on := 4, ground := Go.Ground.chain }], guard := none }) (v := ?_) rfl (by kernel_rfl) (by kernel_rfl) (by kernel_rfl) (fun _ _ _ h => h) (Or.inl ⟨by rfl, ?_⟩) (by assumption) ?_
        rotate_left
        · intro wz hSw; (try dsimp only at hSw); go_simp; (try with_reducible rfl)
        try simp only [Act.put, List.setIfInBounds_toArray, List.set_cons_zero, List.set_cons_succ]
        refine wpAnyH_take (i := 9) (oi := { dst := some 125, op := Go.Op.load 25 (Go.Operand.tmp 14), type := 25, pos := "law.go:78", after := #[{ on := 8, ground := Go.Ground.guard }], guard := some (8, true) }) rfl (by kernel_rfl) (by kernel_rfl) (by kernel_rfl) (fun _ _ _ h => h) (yieldsIf_load_mid (by rfl) _ _ rfl gk 0 rfl (sl8 R) _ (fun _ h => h.2) Tryd.underlying25 rfl (szHs oR.1)) (by assumption) ?_
        try simp only [Act.put, List.setIfInBounds_toArray, List.set_cons_zero, List.set_cons_succ]
        refine wpAnyH_take (i := 10) (oi := { dst := some 126, op := Go.Op.load 25 (Go.Operand.tmp 12), type := 25, pos := "law.go:78", after := #[{ on := 8, ground := Go.Ground.guard }], guard := some (8, true) }) rfl (by kernel_rfl) (by kernel_rfl) (by kernel_rfl) (fun _ _ _ h => h) (yieldsIf_load_mid (by rfl) _ _ rfl gg 0 rfl (sl8 R) _ (fun _ h => h.1) Tryd.underlying25 rfl (szHs oR.1)) (by assumption) ?_
        try simp only [Act.put, List.setIfInBounds_toArray, List.set_cons_zero, List.set_cons_succ]
        refine wpAnyH_take (i := 11) (oi := { dst := some 127, op := Go.Op.binOp Go.BinOp.eql 25 (Go.Operand.tmp 125) (Go.Operand.tmp 126) 25, type := 4, pos := "law.go:78", after := #[{ on := 9, ground := Go.Ground.data }, { on := 10, ground := Go.Ground.data }, { on := 8, ground := Go.Ground.guard }], guard := some (8, true) }) (v := .bool true) rfl (by kernel_rfl) (by kernel_rfl) (by kernel_rfl) (fun _ _ _ h => h) (Or.inl ⟨by rfl, ?_⟩) (by assumption) ?_
        · intro wz hSw; (try dsimp only at hSw); exact exec_eqH _ _ rfl oR rfl rfl wz
        try simp only [Act.put, List.setIfInBounds_toArray, List.set_cons_zero, List.set_cons_succ]
        refine wpAnyH_take (i := 12) (oi := { dst := some 128, op := Go.Op.pick (Go.Operand.tmp 124) (Go.Operand.tmp 127) (Go.Operand.const (Go.Value.bool false)), type := 4, pos := "law.go:78", after := #[{ on := 8, ground := Go.Ground.data }, { on := 11, ground := Go.Ground.data }], guard := none }) (v := ?_) rfl (by kernel_rfl) (by kernel_rfl) (by kernel_rfl) (fun _ _ _ h => h) (Or.inl ⟨by rfl, ?_⟩) (by assumption) ?_
        rotate_left
        · intro wz hSw; (try dsimp only at hSw); go_simp; (try with_reducible rfl)
        try simp only [Act.put, List.setIfInBounds_toArray, List.set_cons_zero, List.set_cons_succ]
        refine wpAnyH_take (i := 13) (oi := { dst := some 129, op := Go.Op.move (Go.Operand.tmp 128), type := 4, pos := "law.go:78", after := #[{ on := 12, ground := Go.Ground.data }, { on := 8, ground := Go.Ground.chain }], guard := none }) (v := ?_) rfl (by kernel_rfl) (by kernel_rfl) (by kernel_rfl) (fun _ _ _ h => h) (Or.inl ⟨by rfl, ?_⟩) (by assumption) ?_
        rotate_left
        · intro wz hSw; (try dsimp only at hSw); go_simp; (try with_reducible rfl)
        try simp only [Act.put, List.setIfInBounds_toArray, List.set_cons_zero, List.set_cons_succ]
        refine wpAnyH_take (i := 14) (oi := { dst := some 130, op := Go.Op.move (Go.Operand.tmp 6), type := 38, pos := "law.go:78", after := #[{ on := 13, ground := Go.Ground.guard }], guard := some (13, true) }) (v := ?_) rfl (by kernel_rfl) (by kernel_rfl) (by kernel_rfl) (fun _ _ _ h => h) (Or.inl ⟨by rfl, ?_⟩) (by assumption) ?_
        rotate_left
        · intro wz hSw; (try dsimp only at hSw); go_simp; (try with_reducible rfl)
        try simp only [Act.put, List.setIfInBounds_toArray, List.set_cons_zero, List.set_cons_succ]
        refine wpAnyH_take (i := 16) (oi := { dst := some 132, op := Go.Op.move (Go.Operand.tmp 8), type := 22, pos := "law.go:78", after := #[{ on := 13, ground := Go.Ground.guard }], guard := some (13, true) }) (v := ?_) rfl (by kernel_rfl) (by kernel_rfl) (by kernel_rfl) (fun _ _ _ h => h) (Or.inl ⟨by rfl, ?_⟩) (by assumption) ?_
        rotate_left
        · intro wz hSw; (try dsimp only at hSw); go_simp; (try with_reducible rfl)
        try simp only [Act.put, List.setIfInBounds_toArray, List.set_cons_zero, List.set_cons_succ]
        refine wpAnyH_take (i := 17) (oi := { dst := some 133, op := Go.Op.call { callee := Go.Callee.builtin Go.Builtin.len, args := #[Go.Operand.tmp 132], argTypes := #[22] }, type := 3, pos := "law.go:78", after := #[{ on := 16, ground := Go.Ground.data }, { on := 13, ground := Go.Ground.guard }], guard := some (13, true) }) (v := ?_) rfl (by kernel_rfl) (by kernel_rfl) (by kernel_rfl) (fun _ _ _ h => h) (Or.inl ⟨by rfl, ?_⟩) (by assumption) ?_
        rotate_left
        · intro wz hSw; (try dsimp only at hSw); go_simp; (try with_reducible rfl)
        try simp only [Act.put, List.setIfInBounds_toArray, List.set_cons_zero, List.set_cons_succ]
        refine wpAnyH_ready (rs := [15]) (by kernel_rfl) (by simp) ?_
        refine (AllReadyH.cons (o := { dst := some 131, op := Go.Op.call { callee := Go.Callee.value (Go.Operand.func 17), args := #[Go.Operand.tmp 130], argTypes := #[38] }, type := 3, pos := "law.go:78", after := #[{ on := 14, ground := Go.Ground.data }, { on := 13, ground := Go.Ground.chain }, { on := 13, ground := Go.Ground.guard }], guard := some (13, true) }) rfl (fun K hK => ?_) AllReadyH.nil)
        go_simp
        refine (lenSt_any p (feed (new0 Ky) D) D.length W11 (HX.out.2.2.2.2.2.1.keep (Frm.ofBelow (S := []) hb11') (by simp)) HX.out.2.2.1).mono ?_
        rintro e W12 ⟨rfl, hW12⟩
        rw [hW12]
        refine hK.out _ _ S11 (fun _ => ?_)
        clear hK K hW12
        try simp only [Act.put, List.setIfInBounds_toArray, List.set_cons_zero, List.set_cons_succ]
        refine wpAnyH_take (i := 18) (oi := { dst := some 134, op := Go.Op.binOp Go.BinOp.eql 3 (Go.Operand.tmp 131) (Go.Operand.tmp 133) 3, type := 4, pos := "law.go:78", after := #[{ on := 15, ground := Go.Ground.data }, { on := 17, ground := Go.Ground.data }, { on := 13, ground := Go.Ground.guard }], guard := some (13, true) }) (v := ?_) rfl (by kernel_rfl) (by kernel_rfl) (by kernel_rfl) (fun _ _ _ h => h) (Or.inl ⟨by rfl, ?_⟩) (by assumption) ?_
        rotate_left
        · intro wz hSw; (try dsimp only at hSw); go_simp; (try with_reducible rfl)
        try simp only [Act.put, List.setIfInBounds_toArray, List.set_cons_zero, List.set_cons_succ]
        refine wpAnyH_take (i := 19) (oi := { dst := some 135, op := Go.Op.pick (Go.Operand.tmp 129) (Go.Operand.tmp 134) (Go.Operand.const (Go.Value.bool false)), type := 4, pos := "law.go:78", after := #[{ on := 13, ground := Go.Ground.data }, { on := 18, ground := Go.Ground.data }], guard := none }) (v := ?_) rfl (by kernel_rfl) (by kernel_rfl) (by kernel_rfl) (fun _ _ _ h => h) (Or.inl ⟨by rfl, ?_⟩) (by assumption) ?_
        rotate_left
        · intro wz hSw; (try dsimp only at hSw); go_simp; (try with_reducible rfl)
        try simp only [Act.put, List.setIfInBounds_toArray, List.set_cons_zero, List.set_cons_succ]
        refine wpAnyH_take (i := 20) (oi := { dst := some 136, op := Go.Op.move (Go.Operand.tmp 135), type := 4, pos := "law.go:78", after := #[{ on := 19, ground := Go.Ground.data }, { on := 15, ground := Go.Ground.chain }], guard := none }) (v := ?_) rfl (by kernel_rfl) (by kernel_rfl) (by kernel_rfl) (fun _ _ _ h => h) (Or.inl ⟨by rfl, ?_⟩) (by assumption) ?_
        rotate_left
        · intro wz hSw; (try dsimp only at hSw); go_simp; (try with_reducible rfl)
        try simp only [Act.put, List.setIfInBounds_toArray, List.set_cons_zero, List.set_cons_succ]
        refine wpAnyH_ready (rs := [21]) (by kernel_rfl) (by simp) ?_
        refine (AllReadyH.cons (o := { dst := some 137, op := Go.Op.call { callee := Go.Callee.value (Go.Operand.func 7), args := #[], argTypes := #[] }, type := 4, pos := "law.go:78", after := #[{ on := 20, ground := Go.Ground.chain }, { on := 20, ground := Go.Ground.guard }], guard := some (20, true) }) rfl (fun K hK => ?_) AllReadyH.nil)
        go_simp
        refine (sure_any W11 (HX.out.2.1.frm (Frm.ofBelow (S := []) hb11') (by simp)) (by have := HX.out.2.2.2.2.1; have := HX.out.2.2.2.2.2.2.2.2.2.2.2; have := hb11'.size; omega)).mono ?_
        rintro e W13 ⟨rfl, hb13⟩
        have S13 := And.intro (range_keep S11.1 (Frm.ofBelow (S := []) hb13) (by simp)) (range_keep S11.2 (Frm.ofBelow (S := []) hb13) (by simp))
        have hb13' := Below.transS hb11' hb13
        refine hK.out _ _ S13 (fun _ => ?_)
        clear hK K
        try simp only [Act.put, List.setIfInBounds_toArray, List.set_cons_zero, List.set_cons_succ]
        refine wpAnyH_take (i := 22) (oi := { dst := some 138, op := Go.Op.pick (Go.Operand.tmp 136) (Go.Operand.tmp 137) (Go.Operand.const (Go.Value.bool false)), type := 4, pos := "law.go:78", after := #[{ on := 20, ground := Go.Ground.data }, { on := 21, ground := Go.Ground.data }], guard := none }) (v := ?_) rfl (by kernel_rfl) (by kernel_rfl) (by kernel_rfl) (fun _ _ _ h => h) (Or.inl ⟨by rfl, ?_⟩) (by assumption) ?_
        rotate_left
        · intro wz hSw; (try dsimp only at hSw); go_simp; (try with_reducible rfl)
        try simp only [Act.put, List.setIfInBounds_toArray, List.set_cons_zero, List.set_cons_succ]
        refine wpAnyH_take (i := 23) (oi := { dst := some 4, op := Go.Op.assign (Go.Operand.tmp 138), type := 4, pos := "law.go:78", after := #[{ on := 22, ground := Go.Ground.data }, { on := 21, ground := Go.Ground.chain }, { on := 0, ground := Go.Ground.phase }, { on := 1, ground := Go.Ground.phase }, { on := 2, ground := Go.Ground.phase }, { on := 3, ground := Go.Ground.phase }, { on := 4, ground := Go.Ground.phase }, { on := 5, ground := Go.Ground.phase }, { on := 6, ground := Go.Ground.phase }, { on := 7, ground := Go.Ground.phase }, { on := 8, ground := Go.Ground.phase }, { on := 9, ground := Go.Ground.phase }, { on := 10, ground := Go.Ground.phase }, { on := 11, ground := Go.Ground.phase }, { on := 12, ground := Go.Ground.phase }, { on := 13, ground := Go.Ground.phase }, { on := 14, ground := Go.Ground.phase }, { on := 15, ground := Go.Ground.phase }, { on := 16, ground := Go.Ground.phase }, { on := 17, ground := Go.Ground.phase }, { on := 18, ground := Go.Ground.phase }, { on := 19, ground := Go.Ground.phase }, { on := 20, ground := Go.Ground.phase }, { on := 21, ground := Go.Ground.phase }, { on := 22, ground := Go.Ground.phase }], guard := none }) (v := ?_) rfl (by kernel_rfl) (by kernel_rfl) (by kernel_rfl) (fun _ _ _ h => h) (Or.inl ⟨by rfl, ?_⟩) (by assumption) ?_
        rotate_left
        · intro wz hSw; (try dsimp only at hSw); go_simp; (try with_reducible rfl)
        try simp only [Act.put, List.setIfInBounds_toArray, List.set_cons_zero, List.set_cons_succ]
        refine wpAnyH_done (by kernel_rfl) (NoPanic.normal ?_) _
        try simp only [Act.put, List.setIfInBounds_toArray, List.set_cons_zero, List.set_cons_succ]
        have HQ : Hid (Below w.heap.size w W13) := (HX.out.2.2.2.2.2.2.2.2.2.2.1.below (Nat.le_refl _) (by have := HX.out.2.2.2.2.2.2.2.2.2.2.2.1; simp; omega)).trans (hb13'.mono HX.out.2.2.2.2.2.2.2.2.2.2.1.size)
        clear hHeld S10 S11 S13 hb10' hb11 hb11' hb13 hb13' HX HR HK HW3
        go_wp2
        go_ret
        exact ⟨rfl, HQ.out⟩
end Go.Proofs.YtcileagccdonfaaDoor
