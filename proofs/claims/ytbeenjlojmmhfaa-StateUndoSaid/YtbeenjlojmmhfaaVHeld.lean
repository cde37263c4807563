/- state.mayBeHeld and (State).together. -/
import Derived.Test.YtbeenjlojmmhfaaVChk
namespace Go.Proofs.Ytbeenjlojmmhfaa
open Go.RowKit

theorem hd_new {w w' : World} {x : Hd} {ka : Option Addr} {kc g : Nat} {t : TypeId} {fr : Nat × Nat} (h : w.heap[g]? = some (.cells (hdv x ka kc) t fr)) (e : w' = w) :
    w'.cell? ⟨g, 0, none⟩ = some (.int .i64 x.id) ∧ w'.cell? ⟨g, 1, none⟩ = some (.int .i64 x.am) ∧ w'.cell? ⟨g, 2, none⟩ = some (.slice ka x.n kc) := by
  subst e
  exact ⟨by rw [cell_of_row _ g 0 _ _ _ h]; rfl, by rw [cell_of_row _ g 1 _ _ _ h]; rfl, by rw [cell_of_row _ g 2 _ _ _ h]; rfl⟩

set_option maxRecDepth 100000 in
set_option maxHeartbeats 3200000 in
theorem mayBeHeld_any (ad : Option Addr) (n cap : Nat) (X : Nat → Hd) (w : World) (h : HdAt w ad n X) (hn : n ≤ 1000000) (hk : ∀ i, i < n → (X i).n ≤ 1000000) :
    Calls Try.prog 31 #[.slice ad n cap] w fun e w' => e = .returned (.bool (decide (HsOk X n))) ∧ Below w.heap.size w w' := by
  have HB : Hid (HdAt w ad n X) := h
  have hb0 := Below.refl w.heap.size w
  clear h
  go_enter Try.func31, Try.ntmps31
  go_wp2
  go_loopw [3, 5, 8] (fun lv _ iv wr => ∃ i : Nat, i ≤ n ∧ lv = .int .i64 (lastH X i) ∧ iv = .int .i64 i ∧ HsOk X i ∧ Below w.heap.size w wr) (fun _ _ iv _ => n + 1 - (intOf iv).toNat)
  case atStart => exact ⟨0, by omega, rfl, rfl, fun j hj => by omega, hb0⟩
  case round =>
    clear hb0
    obtain ⟨i, hi, rfl, rfl, hk0, hb⟩ := hrel
    have HK : Hid (HsOk X i) := hk0
    clear hk0
    by_cases hlt : i < n
    · have hlt' : (i : Int) < n := by omega
      have hkn := hk i hlt
      obtain ⟨b, off, rfl, hc⟩ := HB.out.at_ (by omega)
      obtain ⟨ka, kc, hr, hI, _⟩ := hc i hlt
      have HI : Hid (IsAt wr ka (X i).n (X i).z) := hI.below hb
      obtain ⟨d0, d1, d2⟩ := hd_cells (range_below hr hb)
      clear hc hr hI hk
      have HS : Hid (lastH X i < (X i).id ∧ HOne (X i) → HsOk X (i + 1)) := fun hx j hj => by
        by_cases e : j = i
        · subst e; exact hx
        · exact HK.out j (by omega)
      have HN : Hid (HsOk X n → lastH X i < (X i).id ∧ HOne (X i)) := fun hk => hk i hlt
      have HE : Hid (lastH X (i + 1) = (X i).id) := lastH_succ X i
      clear HK
      generalize lastH X i = q at *
      obtain ⟨x, hx⟩ : ∃ x, X i = x := ⟨_, rfl⟩
      rw [hx] at HN HE HS HI d0 d1 d2 hkn
      clear hx
      have hbn : Below wr.heap.size wr (wr.alloc (.cells (hdv x ka kc) 49)) := (Below.refl _ wr).alloc (Nat.le_refl _) _
      have hm := mayHold_any ka x.n kc x.z _ (HI.out.below hbn) hkn
      have HBN : Hid (Below w.heap.size w (wr.alloc (.cells (hdv x ka kc) 49))) := hb.trans (hbn.mono hb.size)
      clear hbn HI
      unfold hdv at HBN hm
      by_cases h1 : q < x.id
      · have h1' : ¬ x.id ≤ q := by omega
        by_cases h2 : x.id ≤ 4294967296
        · have h2' : ¬ 4294967296 < x.id := by omega
          by_cases h3 : 10 ≤ x.am ∧ x.am ≤ 1125899906842624
          · have hw1 := within_any x.am 10 1125899906842624
            rw [decide_eq_true h3] at hw1
            by_cases h4 : KOk x.z x.n ∧ 0 < x.n
            · rw [decide_eq_true h4] at hm
              have HO := HS.out ⟨h1, h2, h3, h4⟩
              clear h3 h4 HN HS
              go_wp2_with fail
              refine (hw1 _).mono ?_
              rintro e w5 ⟨rfl, rfl⟩
              clear hw1
              go_wp2_with fail
              refine hm.mono ?_
              rintro e w6 ⟨rfl, hb6⟩
              have hb7 := HBN.out.trans (hb6.mono HBN.out.size)
              have c0 : w6.cell? ⟨wr.heap.size, 0, none⟩ = some (.int .i64 x.id) := by
                rw [hb6.cell (p := ⟨wr.heap.size, 0, none⟩) (by simp)]; simp
              clear hb6 hm d0 d1 d2
              go_wp2
              go_roundw
              case rel => exact ⟨i + 1, by omega, by rw [HE.out], by go_num, HO, hb7⟩
              case measure => simp [intOf]; omega
            · rw [decide_eq_false h4] at hm
              have HF : Hid (decide (HsOk X n) = false) := by
                show _ = _
                simp only [decide_eq_false_iff_not]
                exact fun hk => h4 (HN.out hk).2.2.2
              clear h3 h4 HN HS
              go_wp2_with fail
              refine (hw1 _).mono ?_
              rintro e w5 ⟨rfl, rfl⟩
              clear hw1
              go_wp2_with fail
              refine hm.mono ?_
              rintro e w6 ⟨rfl, hb6⟩
              have hb7 := HBN.out.trans (hb6.mono HBN.out.size)
              clear hb6 hm d0 d1 d2
              go_wp2
              go_ret
              exact ⟨by rw [HF.out]; rfl, hb7⟩
          · have hw1 := within_any x.am 10 1125899906842624
            rw [decide_eq_false h3] at hw1
            have HF : Hid (decide (HsOk X n) = false) := by
              show _ = _
              simp only [decide_eq_false_iff_not]
              exact fun hk => h3 (HN.out hk).2.2.1
            clear h3 HN HS hm
            go_wp2_with fail
            refine (hw1 _).mono ?_
            rintro e w5 ⟨rfl, rfl⟩
            clear hw1
            go_wp2
            go_ret
            exact ⟨by rw [HF.out]; rfl, HBN.out⟩
        · have h2' : 4294967296 < x.id := by omega
          have HF : Hid (decide (HsOk X n) = false) := by
            show _ = _
            simp only [decide_eq_false_iff_not]
            exact fun hk => h2 (HN.out hk).2.1
          clear HN HS hm
          go_wp2
          go_ret
          exact ⟨by rw [HF.out]; rfl, HBN.out⟩
      · have h1' : x.id ≤ q := by omega
        have HF : Hid (decide (HsOk X n) = false) := by
          show _ = _
          simp only [decide_eq_false_iff_not]
          exact fun hk => h1 (HN.out hk).1
        clear HN HS hm
        go_wp2
        go_ret
        exact ⟨by rw [HF.out]; rfl, HBN.out⟩
    · obtain rfl : i = n := by omega
      have hnn : ¬ ((i : Int) < i) := by omega
      have hk := HK.out
      go_wp2
      go_ret
      exact ⟨by simp, hb⟩
end Go.Proofs.Ytbeenjlojmmhfaa
