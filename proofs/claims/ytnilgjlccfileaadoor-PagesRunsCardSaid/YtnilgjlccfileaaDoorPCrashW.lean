/- PagesCrash: the store crashes within the step that was told. -/
import Derived.Test.YtnilgjlccfileaaDoorPArm
import Derived.Test.YtnilgjlccfileaaDoorPNum
namespace Go.Proofs.YtnilgjlccfileaaDoor
open Go.RowKit

attribute [local go_sem ↓] Go.wp_at_zero Go.wp_at_succ

/-- Behind i steps of a store that crashes behind n. -/
structure CrI (w : World) (n p : Nat) (wr : World) (i : Nat) : Prop where
  st : ∃ S, StAt wr (w.heap.size ≤ ·) p S ∧ S.safe.length = 2 ∧ S.loose.length ≤ i ∧ (i ≤ n → S.armed = true ∧ S.steps = (n : Int) - i ∧ S.down = false) ∧ (n < i → S.down = true)
  bel : Below w.heap.size w wr
def crE (n i : Nat) : Int := if i < n then 0 else 13
theorem CrI.below {w wr w' : World} {n p i : Nat} (h : CrI w n p wr i) (hb : Below wr.heap.size wr w') : CrI w n p w' i := by
  obtain ⟨S, h1, h2⟩ := h.st
  exact ⟨⟨S, h1.below hb, h2⟩, h.bel.trans (hb.mono h.bel.size)⟩
/-- A step: the state behind it. -/
theorem cr_step {n i : Nat} {S : St} (hi : i ≤ n) (h : S.armed = true ∧ S.steps = (n : Int) - i ∧ S.down = false) :
    stepE S = crE n i ∧ (i + 1 ≤ n → (stepS S).armed = true ∧ (stepS S).steps = (n : Int) - (i + 1 : Nat) ∧ (stepS S).down = false) ∧ (n < i + 1 → (stepS S).down = true) := by
  obtain ⟨h1, h2, h3⟩ := h
  have hE : stepE S = if 0 < S.steps then 0 else 13 := by simp [stepE, h1]
  have hS : stepS S = if 0 < S.steps then { S with steps := S.steps - 1 } else { S with down := true } := by simp [stepS, h1]
  rw [hE, hS, crE]
  by_cases hp : 0 < S.steps
  · rw [if_pos hp, if_pos hp, if_pos (by omega)]
    exact ⟨rfl, fun _ => ⟨h1, by simp only [h2]; omega, h3⟩, fun _ => by omega⟩
  · rw [if_neg hp, if_neg hp, if_neg (by omega)]
    exact ⟨rfl, fun _ => by omega, fun _ => rfl⟩
theorem cr_write {w wr : World} {n p i : Nat} (h : CrI w n p wr i) (hi : i ≤ 30) (hn : n < 15) (ad : Option Addr) (cap : Nat) (l : List Int) (hb : SlAt wr ad l.length (fn l)) (hnl : ad = none → l.length = 0 ∧ cap = 0) (hy : ∀ y, y ∈ l → 0 ≤ y ∧ y ≤ 255) (hl : l.length ≤ 4096) :
    Calls Tryd.prog 8 #[.pointer (some ⟨p, 0, none⟩), .int .i64 1, .slice ad l.length cap] wr fun e w' => e = .returned (errV (crE n i)) ∧ CrI w n p w' (i + 1) := by
  obtain ⟨S, h1, h2, h3, h4, h5⟩ := h.st
  by_cases hin : i ≤ n
  · obtain ⟨a1, a2, a3⟩ := h4 hin
    refine (write_st _ p S 1 ad cap l wr h1 (by omega) (by rw [h2]; omega) a3 (by omega) hb hnl hy hl).mono ?_
    rintro e w' ⟨rfl, y, _, hS, hF⟩
    obtain ⟨b1, b2, b3⟩ := cr_step (S := S.put 1 y) hin ⟨a1, a2, a3⟩
    refine ⟨by rw [← b1]; rfl, ⟨_, hS.up h.bel.size, ?_, ?_, b2, b3⟩, h.bel.trans (hF.up h.bel.size)⟩
    · rw [(stepS_down _).1]; exact h2
    · rw [(stepS_down _).2]; simp [St.put]; omega
  · have hd := h5 (by omega)
    have he : wrE S 1 l.length = 13 := by
      unfold wrE
      rw [if_neg (by rw [h2]; omega), if_neg (by omega), if_pos hd]
    refine (writeB_st _ p S 1 ad l.length cap wr h1 (by rw [he]; decide)).mono ?_
    rintro e w' ⟨rfl, rfl⟩
    exact ⟨by rw [he, crE, if_neg (by omega)], ⟨S, h1, h2, by omega, fun _ => by omega, fun _ => hd⟩, h.bel⟩
theorem cr_sync {w wr : World} {n p i : Nat} (h : CrI w n p wr i) (hi : i ≤ 30) (hn : n < 15) :
    Calls Tryd.prog 9 #[.pointer (some ⟨p, 0, none⟩)] wr fun e w' => e = .returned (errV (crE n i)) ∧ CrI w n p w' (i + 1) := by
  obtain ⟨S, h1, h2, h3, h4, h5⟩ := h.st
  by_cases hin : i ≤ n
  · obtain ⟨a1, a2, a3⟩ := h4 hin
    refine (sync_st _ p S wr h1 (by omega) a3).mono ?_
    rintro e w' ⟨rfl, hS, hF⟩
    obtain ⟨b1, b2, b3⟩ := cr_step (S := S) hin ⟨a1, a2, a3⟩
    refine ⟨by rw [← b1], ⟨_, hS, ?_, ?_, ?_, ?_⟩, h.bel.trans (hF.up h.bel.size)⟩
    · unfold syncS; split
      · simp only [St.settled, setF_length, (stepS_down S).1]; exact h2
      · rw [(stepS_down _).1]; exact h2
    · unfold syncS; split
      · simp [St.settled]
      · rw [(stepS_down _).2]; omega
    · unfold syncS; split
      · exact b2
      · exact b2
    · unfold syncS; split
      · exact b3
      · exact b3
  · have hd := h5 (by omega)
    refine (syncB_st _ p S wr h1 hd).mono ?_
    rintro e w' ⟨rfl, rfl⟩
    exact ⟨by rw [crE, if_neg (by omega)], ⟨S, h1, h2, by omega, fun _ => by omega, fun _ => hd⟩, h.bel⟩
theorem cr_down {w wr : World} {n p i : Nat} (h : CrI w n p wr (i + 1)) : Calls Tryd.prog 13 #[.pointer (some ⟨p, 0, none⟩)] wr fun e w' => e = .returned (.bool (decide (n ≤ i))) ∧ w' = wr := by
  obtain ⟨S, h1, h2, h3, h4, h5⟩ := h.st
  have : S.down = decide (n ≤ i) := by
    by_cases hin : n ≤ i
    · rw [h5 (by omega)]; simp [hin]
    · rw [(h4 (by omega)).2.2]; simp [hin]
  rw [← this]
  exact down_st _ p S wr h1
theorem cr_read {w wr : World} {n p i : Nat} (h : CrI w n p wr (i + 1)) (hin : n ≤ i) : Calls Tryd.prog 5 #[.pointer (some ⟨p, 0, none⟩), .int .i64 0] wr fun e w' => e = .returned (.tuple #[.slice none 0 0, errV 13]) ∧ w' = wr := by
  obtain ⟨S, h1, h2, h3, h4, h5⟩ := h.st
  have he : rdE S 0 = 13 := by
    unfold rdE
    rw [if_neg (by rw [h2]; omega), if_pos (h5 (by omega))]
  have := readB_st _ p S 0 wr h1 (by rw [he]; decide)
  rw [he] at this
  exact this
/-- Bools that lie somewhere. -/
def BlAt (w : World) (ad : Option Addr) (n : Nat) (kb : Nat → Bool) : Prop := 0 < n → ∃ b off, ad = some ⟨b, off, none⟩ ∧ ∀ j, j < n → w.cell? ⟨b, off + j, none⟩ = some (.bool (kb j))
theorem rem_ix (br : Int) (n : Nat) (h1 : 1 ≤ n) (h2 : n ≤ 1000000) : ∃ i : Nat, i < n ∧ wrap64 ((IntKind.u64.wrap br).tmod n) = (i : Int) := by
  have h0 : 0 ≤ IntKind.u64.wrap br := by rw [IntKind.wrap_u64]; omega
  have e : (IntKind.u64.wrap br).tmod n = IntKind.u64.wrap br % n := Int.tmod_eq_emod_of_nonneg h0
  have h3 := Int.emod_nonneg (IntKind.u64.wrap br) (b := (n : Int)) (by omega)
  have h4 := Int.emod_lt_of_pos (IntKind.u64.wrap br) (b := (n : Int)) (by omega)
  refine ⟨(IntKind.u64.wrap br % n).toNat, by omega, ?_⟩
  rw [e]
  unfold wrap64
  omega
set_option maxRecDepth 100000 in
set_option maxHeartbeats 1600000 in
theorem crash_any (st : Int) (ad : Option Addr) (len cap : Nat) (kb : Nat → Bool) (w : World) (hk : BlAt w ad len kb) (hlen : len ≤ 9223372036854775807) (hg : Glob w) :
    Calls Tryd.prog 4 #[.int .i64 st, .slice ad len cap] w fun e w' => e = .returned (.bool true) ∧ Below w.heap.size w w' := by
  have kc := fun (w : World) (C : Array Value) (n c : Nat) => Lib.run_convert_bytes_const (P := Tryd.prog) w 24 5 C n c Tryd.underlying24 Tryd.underlying5
  obtain ⟨n, hn, hrem⟩ := rem_ix st 15 (by omega) (by omega)
  have HK : Hid (BlAt w ad len kb) := hk
  have HG : Hid (∀ w', Below w.heap.size w w' → Glob w') := fun w' hb => hg.below hb hg.pos
  clear hk
  go_enter Tryd.func4, Tryd.ntmps4
  go_wp2_with fail
  refine (new_st 2 (by omega) (by omega) w).mono ?_
  rintro e w1 ⟨rfl, hS1', hb1⟩
  have hS1 : StAt w1 (w.heap.size ≤ ·) (w.heap.size + 1) (newS 2) := hS1'.mono fun k hk => by
    rcases hk with hk | hk
    · exact hk.elim
    · exact hk.1
  clear hS1'
  go_wp2_with fail
  rw [show wrap64 ((IntKind.u64.wrap st).tmod 15) = (n : Int) from hrem]
  refine (arm_st _ _ (newS 2) n w1 hS1 (by omega)).mono ?_
  rintro e w2 ⟨rfl, hS2, hF2⟩
  have HI0 : CrI w n (w.heap.size + 1) w2 0 := ⟨⟨_, hS2, by simp [newS, St.arm], by simp [newS, St.arm], fun _ => ⟨rfl, by simp [St.arm], rfl⟩, fun h => by omega⟩, hb1.trans (hF2.up hb1.size)⟩
  clear hS1 hS2 hF2 hb1
  go_wp2
  go_loopw [8, 9, 10, 11] (fun iv _ _ _ wr => ∃ i : Nat, i ≤ len ∧ i ≤ 25 ∧ iv = .int .i64 i ∧ CrI w n (w.heap.size + 1) wr i) (fun iv _ _ _ _ => len + 1 - (intOf iv).toNat)
  case atStart => exact ⟨0, by omega, by omega, rfl, HI0⟩
  case round =>
    clear HI0
    obtain ⟨i, hi, hi25, rfl, hI⟩ := hrel
    by_cases hlt : i < len ∧ i < 25
    · have hl1 : (i : Int) < len := by omega
      have hl2 : (i : Int) < 25 := by omega
      obtain ⟨b, off, rfl, hc⟩ := HK.out (by omega)
      have hci : wr.cell? ⟨b, off + i, none⟩ = some (.bool (kb i)) := by
        have := hc i hlt.1
        rw [hI.bel.cell (p := ⟨b, off + i, none⟩) (World.block_lt_of_cell? w _ this)]; exact this
      clear hc
      cases hkb : kb i with
      | true =>
        rw [hkb] at hci
        have hbA := (Below.refl wr.heap.size wr).alloc (Nat.le_refl _) (.cells #[.int .u8 120] 5 (1, 2))
        have hsA := one_sl 120 (by omega) wr (1, 2)
        have hIA := hI.below hbA
        have hwr := cr_write hIA (by omega) hn _ 1 [120] hsA (by simp) (by simp) (by simp)
        clear hbA hsA hI hIA
        go_wp2_with fail
        refine hwr.mono ?_
        rintro e w3 ⟨rfl, hJ⟩
        clear hwr
        by_cases hin : i < n
        · have hinI : (i : Int) < n := by omega
          have hge : ¬ ((n : Int) ≤ i) := by omega
          have hd := cr_down hJ
          have e1 : decide (n ≤ i) = false := by simp; omega
          rw [e1] at hd
          have e2 : errV (crE n i) = .nilIface := by rw [crE, if_pos hin]; rfl
          rw [e2]
          have HJ : Hid (CrI w n (w.heap.size + 1) w3 (i + 1)) := hJ
          clear e1 e2 hJ
          go_wp2_with fail
          refine hd.mono ?_
          rintro e w4 ⟨rfl, hw4⟩
          rw [hw4]
          clear hw4 w4
          go_wp2_with fail
          refine hd.mono ?_
          rintro e w4 ⟨rfl, hw4⟩
          rw [hw4]
          clear hw4 w4 hd
          go_wp2
          go_roundw
          case rel => exact ⟨i + 1, by omega, by omega, by go_num, HJ.out⟩
          case measure => simp [intOf]; omega
        · have hinI : ¬ (i : Int) < n := by omega
          have hge : (n : Int) ≤ i := by omega
          have e2 : errV (crE n i) = .iface 59 (.int .i64 13) := by rw [crE, if_neg hin]; rfl
          rw [e2]
          have hnum := num_hit 13 w3 (HG.out w3 hJ.bel)
          clear e2
          go_wp2_with fail
          refine hnum.mono ?_
          rintro e w4 ⟨rfl, hb4⟩
          have hJ4 := hJ.below hb4
          have hd := cr_down hJ4
          have e1 : decide (n ≤ i) = true := by simp; omega
          rw [e1] at hd
          have hrd := cr_read hJ4 (by omega)
          rw [errV_ne (by decide)] at hrd
          have hnum4 := num_hit 13 w4 (HG.out w4 hJ4.bel)
          clear hnum hb4 hJ e1
          go_wp2_with fail
          refine hd.mono ?_
          rintro e w5 ⟨rfl, hw5⟩
          rw [hw5]
          clear hw5 w5
          go_wp2_with fail
          refine hd.mono ?_
          rintro e w5 ⟨rfl, hw5⟩
          rw [hw5]
          clear hw5 w5 hd
          go_wp2_with fail
          refine hrd.mono ?_
          rintro e w5 ⟨rfl, hw5⟩
          rw [hw5]
          clear hw5 w5 hrd
          go_wp2_with fail
          refine hnum4.mono ?_
          rintro e w5 ⟨rfl, hb5⟩
          have HJ : Hid (CrI w n (w.heap.size + 1) w5 (i + 1)) := hJ4.below hb5
          clear hnum4 hb5 hJ4
          go_wp2
          go_roundw
          case rel => exact ⟨i + 1, by omega, by omega, by go_num, HJ.out⟩
          case measure => simp [intOf]; omega
      | false =>
        rw [hkb] at hci
        have hwr := cr_sync hI (by omega) hn
        clear hI
        go_wp2_with fail
        refine hwr.mono ?_
        rintro e w3 ⟨rfl, hJ⟩
        clear hwr
        by_cases hin : i < n
        · have hinI : (i : Int) < n := by omega
          have hge : ¬ ((n : Int) ≤ i) := by omega
          have hd := cr_down hJ
          have e1 : decide (n ≤ i) = false := by simp; omega
          rw [e1] at hd
          have e2 : errV (crE n i) = .nilIface := by rw [crE, if_pos hin]; rfl
          rw [e2]
          have HJ : Hid (CrI w n (w.heap.size + 1) w3 (i + 1)) := hJ
          clear e1 e2 hJ
          go_wp2_with fail
          refine hd.mono ?_
          rintro e w4 ⟨rfl, hw4⟩
          rw [hw4]
          clear hw4 w4
          go_wp2_with fail
          refine hd.mono ?_
          rintro e w4 ⟨rfl, hw4⟩
          rw [hw4]
          clear hw4 w4 hd
          go_wp2
          go_roundw
          case rel => exact ⟨i + 1, by omega, by omega, by go_num, HJ.out⟩
          case measure => simp [intOf]; omega
        · have hinI : ¬ (i : Int) < n := by omega
          have hge : (n : Int) ≤ i := by omega
          have e2 : errV (crE n i) = .iface 59 (.int .i64 13) := by rw [crE, if_neg hin]; rfl
          rw [e2]
          have hnum := num_hit 13 w3 (HG.out w3 hJ.bel)
          clear e2
          go_wp2_with fail
          refine hnum.mono ?_
          rintro e w4 ⟨rfl, hb4⟩
          have hJ4 := hJ.below hb4
          have hd := cr_down hJ4
          have e1 : decide (n ≤ i) = true := by simp; omega
          rw [e1] at hd
          have hrd := cr_read hJ4 (by omega)
          rw [errV_ne (by decide)] at hrd
          have hnum4 := num_hit 13 w4 (HG.out w4 hJ4.bel)
          clear hnum hb4 hJ e1
          go_wp2_with fail
          refine hd.mono ?_
          rintro e w5 ⟨rfl, hw5⟩
          rw [hw5]
          clear hw5 w5
          go_wp2_with fail
          refine hd.mono ?_
          rintro e w5 ⟨rfl, hw5⟩
          rw [hw5]
          clear hw5 w5 hd
          go_wp2_with fail
          refine hrd.mono ?_
          rintro e w5 ⟨rfl, hw5⟩
          rw [hw5]
          clear hw5 w5 hrd
          go_wp2_with fail
          refine hnum4.mono ?_
          rintro e w5 ⟨rfl, hb5⟩
          have HJ : Hid (CrI w n (w.heap.size + 1) w5 (i + 1)) := hJ4.below hb5
          clear hnum4 hb5 hJ4
          go_wp2
          go_roundw
          case rel => exact ⟨i + 1, by omega, by omega, by go_num, HJ.out⟩
          case measure => simp [intOf]; omega
    · have hex : (i : Int) < len → ¬ (i : Int) < 25 := by omega
      obtain ⟨S, h1, h2, h3, h4, h5⟩ := hI.st
      have hsta := start_st _ _ S none 0 [] wr h1 (fun h => by simp at h) (by simp)
      have hz := hI.bel.size
      have hbr := hI.bel
      clear hI h1 h4 h5
      by_cases hl1 : (i : Int) < len
      · have hl2 := hex hl1
        go_wp2_with fail
        refine hsta.mono ?_
        rintro e w3 ⟨rfl, hS3, hF3⟩
        have hb3 := hbr.trans (hF3.up hz)
        have hrd := read_st _ _ _ 0 w3 hS3 (by simp [St.started, St.settled, setF_length, h2]) rfl
        have hS3' : Hid (StAt w3 (w.heap.size ≤ ·) (w.heap.size + 1) (S.started (toldK []))) := hS3
        clear hsta hF3 hS3 hbr
        go_wp2_with fail
        refine hrd.mono ?_
        rintro e w4 ⟨ra, rc, rfl, how⟩
        have hlo := loose_st _ _ _ w4 (hS3'.out.below how.below)
        rw [show (S.started (toldK [])).loose.length = 0 from rfl] at hlo
        have hb4 := hb3.trans (how.up hb3.size)
        have hsu := sure_any w4
        clear hrd how hb3
        generalize (lastB (S.started (toldK [])) 0).l.length = rl at *
        go_wp2_with fail
        refine hlo.mono ?_
        rintro e w5 ⟨rfl, hw5⟩
        rw [hw5]
        clear hw5 w5 hlo
        go_wp2_with fail
        refine hsu.mono ?_
        rintro e w5 ⟨rfl, hb5⟩
        have HE := hb4.trans (hb5.mono hb4.size)
        clear hsu
        go_wp2
        go_ret
        exact ⟨rfl, HE⟩
      · clear hex
        go_wp2_with fail
        refine hsta.mono ?_
        rintro e w3 ⟨rfl, hS3, hF3⟩
        have hb3 := hbr.trans (hF3.up hz)
        have hrd := read_st _ _ _ 0 w3 hS3 (by simp [St.started, St.settled, setF_length, h2]) rfl
        have hS3' : Hid (StAt w3 (w.heap.size ≤ ·) (w.heap.size + 1) (S.started (toldK []))) := hS3
        clear hsta hF3 hS3 hbr
        go_wp2_with fail
        refine hrd.mono ?_
        rintro e w4 ⟨ra, rc, rfl, how⟩
        have hlo := loose_st _ _ _ w4 (hS3'.out.below how.below)
        rw [show (S.started (toldK [])).loose.length = 0 from rfl] at hlo
        have hb4 := hb3.trans (how.up hb3.size)
        have hsu := sure_any w4
        clear hrd how hb3
        generalize (lastB (S.started (toldK [])) 0).l.length = rl at *
        go_wp2_with fail
        refine hlo.mono ?_
        rintro e w5 ⟨rfl, hw5⟩
        rw [hw5]
        clear hw5 w5 hlo
        go_wp2_with fail
        refine hsu.mono ?_
        rintro e w5 ⟨rfl, hb5⟩
        have HE := hb4.trans (hb5.mono hb4.size)
        clear hsu
        go_wp2
        go_ret
        exact ⟨rfl, HE⟩
end Go.Proofs.YtnilgjlccfileaaDoor
