/- state.mayWait: payments that can wait together. -/
import Derived.Test.YtbeenjlojmmhfaaVChk
namespace Go.Proofs.Ytbeenjlojmmhfaa
open Go.RowKit

set_option maxRecDepth 100000 in
set_option maxHeartbeats 3200000 in
theorem mayWait_any (ad : Option Addr) (n cap : Nat) (X : Nat → Py) (w : World) (h : PyAt w ad n X) (hn : n ≤ 1000000) :
    Calls Try.prog 12 #[.slice ad n cap] w fun e w' => e = .returned (.bool (decide (PsOk X n))) ∧ Below w.heap.size w w' := by
  have HB : Hid (PyAt w ad n X) := h
  have hb0 := Below.refl w.heap.size w
  clear h
  go_enter Try.func12, Try.ntmps12
  go_wp2
  go_loopw [3, 5, 8] (fun lv _ iv wr => ∃ i : Nat, i ≤ n ∧ lv = .int .i64 (lastP X i) ∧ iv = .int .i64 i ∧ PsOk X i ∧ Below w.heap.size w wr) (fun _ _ iv _ => n + 1 - (intOf iv).toNat)
  case atStart => exact ⟨0, by omega, rfl, rfl, fun j hj => by omega, hb0⟩
  case round =>
    clear hb0
    obtain ⟨i, hi, rfl, rfl, hk, hb⟩ := hrel
    have HK : Hid (PsOk X i) := hk
    clear hk
    by_cases hlt : i < n
    · have hlt' : (i : Int) < n := by omega
      have HLK : Hid (Zb (X i).lk) := HB.out.lk i hlt
      obtain ⟨b, off, rfl, hc⟩ := HB.out.at_ (by omega)
      have HR : Hid (wr.rangeAt b (off + i * 36) (pyl (X i))) := range_below (hc i hlt) hb
      clear hc
      have HS : Hid (lastP X i < (X i).id ∧ POne (X i) → PsOk X (i + 1)) := fun hx j hj => by
        by_cases e : j = i
        · subst e; exact hx
        · exact HK.out j (by omega)
      have HN : Hid (PsOk X n → lastP X i < (X i).id ∧ POne (X i)) := fun hk => hk i hlt
      have HE : Hid (lastP X (i + 1) = (X i).id) := lastP_succ X i
      clear HK
      generalize lastP X i = q at *
      obtain ⟨x, hx⟩ : ∃ x, X i = x := ⟨_, rfl⟩
      rw [hx] at HR HN HE HLK HS
      clear hx
      by_cases h1 : q < x.id
      · have h1' : ¬ x.id ≤ q := by omega
        by_cases h2 : x.id ≤ 4294967296
        · have h2' : ¬ 4294967296 < x.id := by omega
          by_cases h3 : x.fr = 0 ∨ x.fr = 1
          · have hs := isSide_any x.fr
            rw [decide_eq_true h3] at hs
            by_cases h4 : 10 ≤ x.am ∧ x.am ≤ 1125899906842624
            · have hw1 := within_any x.am 10 1125899906842624
              rw [decide_eq_true h4] at hw1
              by_cases h5 : 0 ≤ x.af ∧ x.af ≤ 1099511627776
              · have hw2 := within_any x.af 0 1099511627776
                rw [decide_eq_true h5] at hw2
                by_cases h6 : hq x.lk nz = false
                · have HO := HS.out ⟨h1, h2, h3, h4, h5, h6⟩
                  clear h3 h4 h5 HN HS
                  go_wp2_with (first | (refine wpList_load_mid rfl 42 _ rfl b (off + i * 36) rfl (pyl x) _ HR.out Try.underlying42 rfl (szPl _) ?_) | (refine wpList_allocP rfl rfl ?_) | (refine wpList_storeP _ szP rfl _ _ rfl wr.heap.size rfl x p0 42 rfl (heap_alloc_new wr _) ?_; intro w3 hg3 hf3; obtain ⟨c0, c1, c2, c3, cl⟩ := pbox_of hg3; have HB3 : Hid (Below wr.heap.size wr w3) := frm_new hf3; have HC : Hid (w3.rangeAt wr.heap.size 4 (bl x.lk 32)) := cl; clear hf3 cl) | fail)
                  refine (hs _).mono ?_
                  rintro e w4 ⟨rfl, rfl⟩
                  clear hs
                  go_wp2_with fail
                  refine (hw1 _).mono ?_
                  rintro e w5 ⟨rfl, rfl⟩
                  clear hw1
                  go_wp2_with fail
                  refine (hw2 _).mono ?_
                  rintro e w6 ⟨rfl, rfl⟩
                  clear hw2
                  go_wp2_with (first | (refine wpList_loadHG (by rfl) _ rfl wr.heap.size 4 rfl x.lk HC.out ?_) | (refine wpList_buildHG (by rfl) rfl ?_) | (refine wpList_eqHG (by rfl) _ _ rfl x.lk nz rfl rfl HLK.out nz_bd ?_) | fail)
                  go_roundw
                  case rel => exact ⟨i + 1, by omega, by rw [HE.out], by go_num, HO, hb.trans (HB3.out.mono hb.size)⟩
                  case measure => simp [intOf]; omega
                · have h6' : hq x.lk nz = true := by simpa using h6
                  have HF : Hid (decide (PsOk X n) = false) := by
                    show _ = _
                    simp only [decide_eq_false_iff_not]
                    exact fun hk => h6 (HN.out hk).2.2.2.2.2
                  clear h3 h4 h5 h6 HN HS
                  go_wp2_with (first | (refine wpList_load_mid rfl 42 _ rfl b (off + i * 36) rfl (pyl x) _ HR.out Try.underlying42 rfl (szPl _) ?_) | (refine wpList_allocP rfl rfl ?_) | (refine wpList_storeP _ szP rfl _ _ rfl wr.heap.size rfl x p0 42 rfl (heap_alloc_new wr _) ?_; intro w3 hg3 hf3; obtain ⟨c0, c1, c2, c3, cl⟩ := pbox_of hg3; have HB3 : Hid (Below wr.heap.size wr w3) := frm_new hf3; have HC : Hid (w3.rangeAt wr.heap.size 4 (bl x.lk 32)) := cl; clear hf3 cl) | fail)
                  refine (hs _).mono ?_
                  rintro e w4 ⟨rfl, rfl⟩
                  clear hs
                  go_wp2_with fail
                  refine (hw1 _).mono ?_
                  rintro e w5 ⟨rfl, rfl⟩
                  clear hw1
                  go_wp2_with fail
                  refine (hw2 _).mono ?_
                  rintro e w6 ⟨rfl, rfl⟩
                  clear hw2
                  go_wp2_with (first | (refine wpList_loadHG (by rfl) _ rfl wr.heap.size 4 rfl x.lk HC.out ?_) | (refine wpList_buildHG (by rfl) rfl ?_) | (refine wpList_eqHG (by rfl) _ _ rfl x.lk nz rfl rfl HLK.out nz_bd ?_) | fail)
                  go_ret
                  exact ⟨by rw [HF.out]; rfl, hb.trans (HB3.out.mono hb.size)⟩
              · have hw2 := within_any x.af 0 1099511627776
                rw [decide_eq_false h5] at hw2
                have HF : Hid (decide (PsOk X n) = false) := by
                  show _ = _
                  simp only [decide_eq_false_iff_not]
                  exact fun hk => h5 (HN.out hk).2.2.2.2.1
                clear h3 h4 h5 HN HS
                go_wp2_with (first | (refine wpList_load_mid rfl 42 _ rfl b (off + i * 36) rfl (pyl x) _ HR.out Try.underlying42 rfl (szPl _) ?_) | (refine wpList_allocP rfl rfl ?_) | (refine wpList_storeP _ szP rfl _ _ rfl wr.heap.size rfl x p0 42 rfl (heap_alloc_new wr _) ?_; intro w3 hg3 hf3; obtain ⟨c0, c1, c2, c3, cl⟩ := pbox_of hg3; have HB3 : Hid (Below wr.heap.size wr w3) := frm_new hf3; have HC : Hid (w3.rangeAt wr.heap.size 4 (bl x.lk 32)) := cl; clear hf3 cl) | fail)
                refine (hs _).mono ?_
                rintro e w4 ⟨rfl, rfl⟩
                clear hs
                go_wp2_with fail
                refine (hw1 _).mono ?_
                rintro e w5 ⟨rfl, rfl⟩
                clear hw1
                go_wp2_with fail
                refine (hw2 _).mono ?_
                rintro e w6 ⟨rfl, rfl⟩
                clear hw2
                go_wp2
                go_ret
                exact ⟨by rw [HF.out]; rfl, hb.trans (HB3.out.mono hb.size)⟩
            · have hw1 := within_any x.am 10 1125899906842624
              rw [decide_eq_false h4] at hw1
              have HF : Hid (decide (PsOk X n) = false) := by
                show _ = _
                simp only [decide_eq_false_iff_not]
                exact fun hk => h4 (HN.out hk).2.2.2.1
              clear h3 h4 HN HS
              go_wp2_with (first | (refine wpList_load_mid rfl 42 _ rfl b (off + i * 36) rfl (pyl x) _ HR.out Try.underlying42 rfl (szPl _) ?_) | (refine wpList_allocP rfl rfl ?_) | (refine wpList_storeP _ szP rfl _ _ rfl wr.heap.size rfl x p0 42 rfl (heap_alloc_new wr _) ?_; intro w3 hg3 hf3; obtain ⟨c0, c1, c2, c3, cl⟩ := pbox_of hg3; have HB3 : Hid (Below wr.heap.size wr w3) := frm_new hf3; have HC : Hid (w3.rangeAt wr.heap.size 4 (bl x.lk 32)) := cl; clear hf3 cl) | fail)
              refine (hs _).mono ?_
              rintro e w4 ⟨rfl, rfl⟩
              clear hs
              go_wp2_with fail
              refine (hw1 _).mono ?_
              rintro e w5 ⟨rfl, rfl⟩
              clear hw1
              go_wp2
              go_ret
              exact ⟨by rw [HF.out]; rfl, hb.trans (HB3.out.mono hb.size)⟩
          · have hs := isSide_any x.fr
            rw [decide_eq_false h3] at hs
            have HF : Hid (decide (PsOk X n) = false) := by
              show _ = _
              simp only [decide_eq_false_iff_not]
              exact fun hk => h3 (HN.out hk).2.2.1
            clear h3 HN HS
            go_wp2_with (first | (refine wpList_load_mid rfl 42 _ rfl b (off + i * 36) rfl (pyl x) _ HR.out Try.underlying42 rfl (szPl _) ?_) | (refine wpList_allocP rfl rfl ?_) | (refine wpList_storeP _ szP rfl _ _ rfl wr.heap.size rfl x p0 42 rfl (heap_alloc_new wr _) ?_; intro w3 hg3 hf3; obtain ⟨c0, c1, c2, c3, cl⟩ := pbox_of hg3; have HB3 : Hid (Below wr.heap.size wr w3) := frm_new hf3; have HC : Hid (w3.rangeAt wr.heap.size 4 (bl x.lk 32)) := cl; clear hf3 cl) | fail)
            refine (hs _).mono ?_
            rintro e w4 ⟨rfl, rfl⟩
            clear hs
            go_wp2
            go_ret
            exact ⟨by rw [HF.out]; rfl, hb.trans (HB3.out.mono hb.size)⟩
        · have h2' : 4294967296 < x.id := by omega
          have HF : Hid (decide (PsOk X n) = false) := by
            show _ = _
            simp only [decide_eq_false_iff_not]
            exact fun hk => h2 (HN.out hk).2.1
          clear HN HS
          go_wp2_with (first | (refine wpList_load_mid rfl 42 _ rfl b (off + i * 36) rfl (pyl x) _ HR.out Try.underlying42 rfl (szPl _) ?_) | (refine wpList_allocP rfl rfl ?_) | (refine wpList_storeP _ szP rfl _ _ rfl wr.heap.size rfl x p0 42 rfl (heap_alloc_new wr _) ?_; intro w3 hg3 hf3; obtain ⟨c0, c1, c2, c3, cl⟩ := pbox_of hg3; have HB3 : Hid (Below wr.heap.size wr w3) := frm_new hf3; have HC : Hid (w3.rangeAt wr.heap.size 4 (bl x.lk 32)) := cl; clear hf3 cl) | fail)
          go_ret
          exact ⟨by rw [HF.out]; rfl, hb.trans (HB3.out.mono hb.size)⟩
      · have h1' : x.id ≤ q := by omega
        have HF : Hid (decide (PsOk X n) = false) := by
          show _ = _
          simp only [decide_eq_false_iff_not]
          exact fun hk => h1 (HN.out hk).1
        clear HN HS
        go_wp2_with (first | (refine wpList_load_mid rfl 42 _ rfl b (off + i * 36) rfl (pyl x) _ HR.out Try.underlying42 rfl (szPl _) ?_) | (refine wpList_allocP rfl rfl ?_) | (refine wpList_storeP _ szP rfl _ _ rfl wr.heap.size rfl x p0 42 rfl (heap_alloc_new wr _) ?_; intro w3 hg3 hf3; obtain ⟨c0, c1, c2, c3, cl⟩ := pbox_of hg3; have HB3 : Hid (Below wr.heap.size wr w3) := frm_new hf3; have HC : Hid (w3.rangeAt wr.heap.size 4 (bl x.lk 32)) := cl; clear hf3 cl) | fail)
        go_ret
        exact ⟨by rw [HF.out]; rfl, hb.trans (HB3.out.mono hb.size)⟩
    · obtain rfl : i = n := by omega
      have hnn : ¬ ((i : Int) < i) := by omega
      have hk := HK.out
      go_wp2
      go_ret
      exact ⟨by simp, hb⟩
end Go.Proofs.Ytbeenjlojmmhfaa
