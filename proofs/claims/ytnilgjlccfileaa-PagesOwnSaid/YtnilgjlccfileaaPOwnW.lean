/- PagesOwn: what was written, and what is read, is the store's own. -/
import Derived.Test.YtnilgjlccfileaaPSure
import Derived.Deep.CutBlock
import Derived.Deep.DeepCutAuto
namespace Go.Proofs.Ytnilgjlccfileaa
open Go.RowKit

attribute [local go_sem ↓] Go.wp_at_zero Go.wp_at_succ

/-- A row that is being overwritten: all but its block, which is of M, is as it was. -/
structure OvI (M : Nat → Prop) (ad : Option Addr) (n : Nat) (w wr : World) : Prop where
  fr : Fr M w wr
  row : 0 < n → ∃ b, ad = some ⟨b, 0, none⟩ ∧ M b ∧ ∃ cs, wr.heap[b]? = some (.cells cs 5 (0, 0)) ∧ n ≤ cs.size
theorem OvI.set {M : Nat → Prop} {b n : Nat} {w wr : World} (h : OvI M (some ⟨b, 0, none⟩) n w wr) (i : Nat) (hi : i < n) (u : Value) : OvI M (some ⟨b, 0, none⟩) n w (wr.setCell ⟨b, i, none⟩ u) := by
  obtain ⟨b', e, hM, cs, hc, hn⟩ := h.row (by omega)
  cases e
  refine ⟨h.fr.setCell _ _ hM, fun _ => ⟨b, rfl, hM, _, heap_setCell_same _ b i _ _ u hc, by simpa using hn⟩⟩
theorem OvI.ofOw {w0 w w1 : World} {ad : Option Addr} {cap : Nat} {l : List Int} {M : Nat → Prop} (h : Ow w0 w (.slice ad l.length cap) l) (hk : ∀ k, w0.heap.size ≤ k → k < w.heap.size → w1.heap[k]? = w.heap[k]? ∧ M k) : OvI M ad l.length w1 w1 := by
  refine ⟨Fr.refl _ _, fun hn => ?_⟩
  rcases h.own.2 with ⟨_, e⟩ | ⟨g, c, cur, e, hb, hg, hc, hm, hs, ht⟩
  · omega
  · cases e
    have := hk g hb (lt_of_block hg)
    exact ⟨g, rfl, this.2, cur, by rw [this.1]; exact hg, by omega⟩
theorem Gn_false {w w' : World} {k : Nat} (h : Gn (fun _ => False) w w' k) : w.heap.size ≤ k ∧ k < w'.heap.size := by
  rcases h with h | h
  · exact h.elim
  · exact h
theorem lastB_put {n : Nat} {y : Bs} : lastB (stepS ((newS n).put 0 y)) 0 = y := rfl
set_option maxRecDepth 20000 in
set_option maxHeartbeats 1600000 in
theorem own_long (ad : Option Addr) (n cap : Nat) (w : World) (hl : 4096 < n) :
    Calls Try.prog 4 #[.slice ad n cap] w fun e w' => e = .returned (.bool true) ∧ Below w.heap.size w w' := by
  have hlI : (4096 : Int) < (n : Int) := by omega
  go_enter Try.func4, Try.ntmps4
  go_wp2_with fail
  refine (new_st 2 (by omega) (by omega) w).mono ?_
  rintro e w1 ⟨rfl, hS1', hb1⟩
  clear hS1'
  go_wp2_with fail
  refine (sure_any w1).mono ?_
  rintro e w2 ⟨rfl, hb2⟩
  go_wp2
  go_ret
  exact ⟨rfl, Below.transS hb1 hb2⟩
set_option maxRecDepth 20000 in
set_option maxHeartbeats 3200000 in
theorem own_short (ad : Option Addr) (cap : Nat) (l : List Int) (w : World) (hb : SlAt w ad l.length (fn l)) (hn : ad = none → l.length = 0 ∧ cap = 0) (hy : ∀ y, y ∈ l → 0 ≤ y ∧ y ≤ 255) (hl : l.length ≤ 4096) :
    Calls Try.prog 4 #[.slice ad l.length cap] w fun e w' => e = .returned (.bool true) ∧ Below w.heap.size w w' := by
  have hlI : ¬ (4096 : Int) < (l.length : Int) := by omega
  have hlD : decide ((4096 : Int) < (l.length : Int)) = false := by simp; omega
  have HB : Hid (SlAt w ad l.length (fn l)) := hb
  have HL : Hid (l.length ≤ 4096) := hl
  have HY : Hid (∀ y, y ∈ l → 0 ≤ y ∧ y ≤ 255) := hy
  have HN : Hid (ad = none → l.length = 0 ∧ cap = 0) := hn
  clear hb hl hy hn
  go_enter Try.func4, Try.ntmps4
  go_wp2_with fail
  refine (new_st 2 (by omega) (by omega) w).mono ?_
  rintro e w1 ⟨rfl, hS1, hb1⟩
  have hz1 := hb1.size
  have hbW : ∀ w', Below w.heap.size w w' → SlAt w' ad l.length (fn l) := fun w' hb => HB.out.block fun b off hn e => hb.block b (HB.out.lt hn e)
  obtain ⟨vx, w2, hrun, how⟩ := run_append_B w1 w1 30 (.slice none 0 0) (.slice ad l.length cap) [] l (Ow.nil _) ((hbW w1 hb1).src HN.out) HY.out (by have := HL.out; simp; omega)
  rw [List.nil_append] at how
  obtain ⟨xa, xc, rfl⟩ := how.form
  have HS1 : Hid (StAt w1 (Gn (fun _ => False) w w1) (w.heap.size + 1) (newS 2)) := hS1
  clear hS1
  go_wp2_with (first | (at_builtin; refine wpList_append_run rfl _ _ _ rfl rfl rfl hrun ?_) | fail)
  have hz2 := how.below.size
  have hb2 : Below w.heap.size w w2 := hb1.trans (how.up hz1)
  have hS2 : StAt w2 (Gn (fun _ => False) w w1) (w.heap.size + 1) (newS 2) := HS1.out.below how.below
  refine (write_st _ _ (newS 2) 0 xa xc l w2 hS2 (by simp [newS]) (by simp [newS]) rfl (by simp [newS]) how.fresh.2.1 how.fresh.2.2.1 HY.out HL.out).mono ?_
  rintro e w3 ⟨rfl, y, hyl, hS3, hF3⟩
  have e1 : errV (stepE (newS 2)) = .nilIface := rfl
  rw [e1]
  have hb3 : Below w.heap.size w w3 := hb2.trans (hF3.below (by omega) (fun k hk => (Gn_false hk).1))
  have hz3 := hF3.size
  have hO3 : OvI (fun k => w1.heap.size ≤ k ∧ k < w2.heap.size) xa l.length w3 w3 := OvI.ofOw how (fun k h1 h2 => ⟨hF3.block k h2 (fun h => by have := Gn_false h; omega), h1, h2⟩)
  have HS3 : Hid (∀ wr, OvI (fun k => w1.heap.size ≤ k ∧ k < w2.heap.size) xa l.length w3 wr → StAt wr (Gn (Gn (fun _ => False) w w1) w2 w3) (w.heap.size + 1) (stepS ((newS 2).put 0 y))) := fun wr hO => hS3.keep hO.fr.size fun k hk hG => hO.fr.block k hk (fun h => by
    rcases hG with h1 | h1
    · have := Gn_false h1; omega
    · omega)
  have HB3 : Hid (∀ wr, OvI (fun k => w1.heap.size ≤ k ∧ k < w2.heap.size) xa l.length w3 wr → Below w.heap.size w wr) := fun wr hO => hb3.trans (hO.fr.below (by omega) (fun k hk => by omega))
  clear HS1 hS2 hS3 hF3 how hrun hb2 hb3 hb1 e1
  go_wp2
  go_loopw [6] (fun iv wr => ∃ i : Nat, i ≤ l.length ∧ iv = .int .i64 i ∧ OvI (fun k => w1.heap.size ≤ k ∧ k < w2.heap.size) xa l.length w3 wr) (fun iv _ => l.length + 1 - (intOf iv).toNat)
  case atStart => exact ⟨0, by omega, rfl, hO3⟩
  case round =>
    clear hO3
    obtain ⟨i, hi, rfl, hO⟩ := hrel
    by_cases hlt : i < l.length
    · have hlt' : (i : Int) < l.length := by omega
      obtain ⟨b, rfl, hM, cs, hc, hn⟩ := hO.row (by omega)
      have HN2 : Hid (OvI (fun k => w1.heap.size ≤ k ∧ k < w2.heap.size) (some ⟨b, 0, none⟩) l.length w3 (wr.setCell ⟨b, i, none⟩ (.int .u8 33))) := hO.set i hlt _
      have hci : ∃ u, wr.cell? ⟨b, i, none⟩ = some u := by
        rw [cell_of_row wr b i _ _ _ hc]
        exact ⟨_, Array.getElem?_eq_getElem (by omega)⟩
      obtain ⟨u, hci⟩ := hci
      have hfi : wr.frozen? ⟨b, i, none⟩ = false := frozen_of_row wr b i _ _ hc
      clear hO hc hM hn
      go_wp2
      go_roundw
      case rel => exact ⟨i + 1, by omega, by go_num, HN2.out⟩
      case measure => simp [intOf]; omega
    · obtain rfl : i = l.length := by omega
      have hnn : ¬ ((l.length : Int) < l.length) := by omega
      have hS4 := HS3.out wr hO
      have hb4 := HB3.out wr hO
      have hz4 := hb4.size
      have hrd := read_st _ _ _ 0 wr hS4 (by simp [newS, St.put, stepS]) rfl
      rw [lastB_put, hyl] at hrd
      have HS4 : Hid (StAt wr (Gn (Gn (fun _ => False) w w1) w2 w3) (w.heap.size + 1) (stepS ((newS 2).put 0 y))) := hS4
      have hz34 : w3.heap.size ≤ wr.heap.size := hO.fr.size
      clear hO hS4 HS3 HB3
      go_wp2_with fail
      refine hrd.mono ?_
      rintro e w5 ⟨ya, yc, rfl, how5⟩
      have hb5 : Below w.heap.size w w5 := hb4.trans (how5.up hz4)
      have hz5 := how5.below.size
      have c1 := conv_any ya l.length yc (fn l) w5 how5.fresh.2.1 how5.fresh.2.2.1
      have c2 := conv_any ad l.length cap (fn l) w5 (hbW w5 hb5) HN.out
      have hO5 : OvI (fun k => wr.heap.size ≤ k ∧ k < w5.heap.size) ya l.length w5 w5 := OvI.ofOw how5 (fun k h1 h2 => ⟨rfl, h1, h2⟩)
      have HS5 : Hid (∀ wz, OvI (fun k => wr.heap.size ≤ k ∧ k < w5.heap.size) ya l.length w5 wz → StAt wz (Gn (Gn (fun _ => False) w w1) w2 w3) (w.heap.size + 1) (stepS ((newS 2).put 0 y))) := fun wz hO => (HS4.out.below how5.below).keep hO.fr.size fun k hk hG => hO.fr.block k hk (fun h => by
        rcases hG with h1 | h1
        · have := Gn_false h1; omega
        · omega)
      have HB5 : Hid (∀ wz, OvI (fun k => wr.heap.size ≤ k ∧ k < w5.heap.size) ya l.length w5 wz → Below w.heap.size w wz) := fun wz hO => hb5.trans (hO.fr.below (by omega) (fun k hk => by omega))
      clear hrd how5 HS4 hb4 hb5
      generalize wr = wo at *
      clear hlt hi
      go_wp2
      go_loopw [10] (fun iv wz => ∃ i : Nat, i ≤ l.length ∧ iv = .int .i64 i ∧ OvI (fun k => wo.heap.size ≤ k ∧ k < w5.heap.size) ya l.length w5 wz) (fun iv _ => l.length + 1 - (intOf iv).toNat)
      case atStart => exact ⟨0, by omega, rfl, hO5⟩
      case round =>
        clear hO5
        obtain ⟨i, hi, rfl, hO⟩ := hrel
        by_cases hlt : i < l.length
        · have hlt' : (i : Int) < l.length := by omega
          obtain ⟨b, rfl, hM, cs, hc, hn⟩ := hO.row (by omega)
          have HN2 : Hid (OvI (fun k => wo.heap.size ≤ k ∧ k < w5.heap.size) (some ⟨b, 0, none⟩) l.length w5 (wr.setCell ⟨b, i, none⟩ (.int .u8 63))) := hO.set i hlt _
          have hci : ∃ u, wr.cell? ⟨b, i, none⟩ = some u := by
            rw [cell_of_row wr b i _ _ _ hc]
            exact ⟨_, Array.getElem?_eq_getElem (by omega)⟩
          obtain ⟨u, hci⟩ := hci
          have hfi : wr.frozen? ⟨b, i, none⟩ = false := frozen_of_row wr b i _ _ hc
          clear hO hc hM hn
          go_wp2
          go_roundw
          case rel => exact ⟨i + 1, by omega, by go_num, HN2.out⟩
          case measure => simp [intOf]; omega
        · obtain rfl : i = l.length := by omega
          have hnn : ¬ ((l.length : Int) < l.length) := by omega
          have hS6 := HS5.out wr hO
          have hb6 := HB5.out wr hO
          have hz6 := hb6.size
          have hrd := read_st _ _ _ 0 wr hS6 (by simp [newS, St.put, stepS]) rfl
          rw [lastB_put, hyl] at hrd
          clear hO hS6 HS5 HB5 c1 c2
          go_wp2_with fail
          refine hrd.mono ?_
          rintro e w7 ⟨za, zc, rfl, how7⟩
          have hb7 : Below w.heap.size w w7 := hb6.trans (how7.up hz6)
          have c1 := conv_any za l.length zc (fn l) w7 how7.fresh.2.1 how7.fresh.2.2.1
          have c2 := conv_any ad l.length cap (fn l) w7 (hbW w7 hb7) HN.out
          clear hrd how7 hb6 hz6
          go_wp2_with fail
          refine (sure_any w7).mono ?_
          rintro e w8 ⟨rfl, hb8⟩
          have HE := hb7.trans (hb8.mono hb7.size)
          clear c1 c2
          go_wp2
          go_ret
          exact ⟨rfl, HE⟩
end Go.Proofs.Ytnilgjlccfileaa
