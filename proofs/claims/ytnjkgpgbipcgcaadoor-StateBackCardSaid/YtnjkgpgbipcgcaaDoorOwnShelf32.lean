/- state.mayWait: payments that can wait together. -/
import Derived.Test.YtnjkgpgbipcgcaaDoorOwnShelf13
namespace Go.Proofs.YtnjkgpgbipcgcaaDoor
open Go.RowKit

set_option maxRecDepth 100000 in
set_option maxHeartbeats 3200000 in
theorem mayWait_any (ad : Option Addr) (n cap : Nat) (X : Nat → Py) (w : World) (h : PyAt w ad n X) (hn : n ≤ 1000000) :
    Calls Tryd.prog 23 #[.slice ad n cap] w fun e w' => e = .returned (.bool (decide (PsOk X n))) ∧ Below w.heap.size w w' := by
  have HB : Hid (PyAt w ad n X) := h
  have hb0 := Below.refl w.heap.size w
  clear h
  go_enter Tryd.func23, Tryd.ntmps23
  go_wp2
  go_loopw [3, 5, 8] (fun lv _ iv wr => ∃ i : Nat, i ≤ n ∧ lv = .int .i64 (lastP X i) ∧ iv = .int .i64 i ∧ PsOk X i ∧ Below w.heap.size w wr) (fun _ _ iv _ => n + 1 - (intOf iv).toNat)
  case atStart => exact ⟨0, by omega, rfl, rfl, fun j hj => by omega, hb0⟩
  case round =>
    clear hb0
    obtain ⟨i, hi, rfl, rfl, hk, hb⟩ := hrel
    have HK : Hid (PsOk X i) := hk
    clear hk
    by_cases hlt : i < n
    · have hlt' : (i : Int) < n := by omega
      have HLK : Hid (Zb (X i).lk) := HB.out.lk i hlt
      obtain ⟨b, off, rfl, hc⟩ := HB.out.at_ (by omega)
      have HR : Hid (wr.rangeAt b (off + i * 36) (pyl (X i))) := range_below (hc i hlt) hb
      clear hc
      have HS : Hid (lastP X i < (X i).id ∧ POne (X i) → PsOk X (i + 1)) := fun hx j hj => by
        by_cases e : j = i
        · subst e; exact hx
        · exact HK.out j (by omega)
      have HN : Hid (PsOk X n → lastP X i < (X i).id ∧ POne (X i)) := fun hk => hk i hlt
      have HE : Hid (lastP X (i + 1) = (X i).id) := lastP_succ X i
      clear HK
      generalize lastP X i = q at *
      obtain ⟨x, hx⟩ : ∃ x, X i = x := ⟨_, rfl⟩
      rw [hx] at HR HN HE HLK HS
      clear hx
      by_cases h1 : q < x.id
      · have h1' : ¬ x.id ≤ q := by omega
        by_cases h2 : x.id ≤ 4294967296
        · have h2' : ¬ 4294967296 < x.id := by omega
          by_cases h3 : x.fr = 0 ∨ x.fr = 1
          · have hs := isSide_any x.fr
            rw [decide_eq_true h3] at hs
            by_cases h4 : 10 ≤ x.am ∧ x.am ≤ 1125899906842624
            · have hw1 := within_any x.am 10 1125899906842624
              rw [decide_eq_true h4] at hw1
              by_cases h5 : 0 ≤ x.af ∧ x.af ≤ 1099511627776
              · have hw2 := within_any x.af 0 1099511627776
                rw [decide_eq_true h5] at hw2
                by_cases h6 : hq x.lk nz = false
                · have HO := HS.out ⟨h1, h2, h3, h4, h5, h6⟩
                  clear h3 h4 h5 HN HS
                  go_wp2_with (first | (refine wpList_load_mid rfl 44 _ rfl b (off + i * 36) rfl (pyl x) _ HR.out Tryd.underlying44 rfl (szPl _) ?_) | (refine wpList_allocP rfl rfl ?_) | (refine wpList_storeP _ szP rfl _ _ rfl wr.heap.size rfl x p0 44 rfl (heap_alloc_new wr _) ?_; intro w3 hg3 hf3; obtain ⟨c0, c1, c2, c3, cl⟩ := pbox_of hg3; have HB3 : Hid (Below wr.heap.size wr w3) := frm_new hf3; have HC : Hid (w3.rangeAt wr.heap.size 4 (bl x.lk 32)) := cl; clear hf3 cl) | fail)
                  refine (hs _).mono ?_
                  rintro e w4 ⟨rfl, rfl⟩
                  clear hs
                  go_wp2_with fail
                  refine (hw1 _).mono ?_
                  rintro e w5 ⟨rfl, rfl⟩
                  clear hw1
                  go_wp2_with fail
                  refine (hw2 _).mono ?_
                  rintro e w6 ⟨rfl, rfl⟩
                  clear hw2
                  go_wp2_with (first | (refine wpList_loadHG (by rfl) _ rfl wr.heap.size 4 rfl x.lk HC.out ?_) | (refine wpList_buildHG (by rfl) rfl ?_) | (refine wpList_eqHG (by rfl) _ _ rfl x.lk nz rfl rfl HLK.out nz_bd ?_) | fail)
                  go_roundw
                  case rel => exact ⟨i + 1, by omega, by rw [HE.out], by go_num, HO, hb.trans (HB3.out.mono hb.size)⟩
                  case measure => simp [intOf]; omega
                · have h6' : hq x.lk nz = true := by simpa using h6
                  have HF : Hid (decide (PsOk X n) = false) := by
                    show _ = _
                    simp only [decide_eq_false_iff_not]
                    exact fun hk => h6 (HN.out hk).2.2.2.2.2
                  clear h3 h4 h5 h6 HN HS
                  go_wp2_with (first | (refine wpList_load_mid rfl 44 _ rfl b (off + i * 36) rfl (pyl x) _ HR.out Tryd.underlying44 rfl (szPl _) ?_) | (refine wpList_allocP rfl rfl ?_) | (refine wpList_storeP _ szP rfl _ _ rfl wr.heap.size rfl x p0 44 rfl (heap_alloc_new wr _) ?_; intro w3 hg3 hf3; obtain ⟨c0, c1, c2, c3, cl⟩ := pbox_of hg3; have HB3 : Hid (Below wr.heap.size wr w3) := frm_new hf3; have HC : Hid (w3.rangeAt wr.heap.size 4 (bl x.lk 32)) := cl; clear hf3 cl) | fail)
                  refine (hs _).mono ?_
                  rintro e w4 ⟨rfl, rfl⟩
                  clear hs
                  go_wp2_with fail
                  refine (hw1 _).mono ?_
                  rintro e w5 ⟨rfl, rfl⟩
                  clear hw1
                  go_wp2_with fail
                  refine (hw2 _).mono ?_
                  rintro e w6 ⟨rfl, rfl⟩
                  clear hw2
                  go_wp2_with (first | (refine wpList_loadHG (by rfl) _ rfl wr.heap.size 4 rfl x.lk HC.out ?_) | (refine wpList_buildHG (by rfl) rfl ?_) | (refine wpList_eqHG (by rfl) _ _ rfl x.lk nz rfl rfl HLK.out nz_bd ?_) | fail)
                  go_ret
                  exact ⟨by rw [HF.out]; rfl, hb.trans (HB3.out.mono hb.size)⟩
              · have hw2 := within_any x.af 0 1099511627776
                rw [decide_eq_false h5] at hw2
                have HF : Hid (decide (PsOk X n) = false) := by
                  show _ = _
                  simp only [decide_eq_false_iff_not]
                  exact fun hk => h5 (HN.out hk).2.2.2.2.1
                clear h3 h4 h5 HN HS
                go_wp2_with (first | (refine wpList_load_mid rfl 44 _ rfl b (off + i * 36) rfl (pyl x) _ HR.out Tryd.underlying44 rfl (szPl _) ?_) | (refine wpList_allocP rfl rfl ?_) | (refine wpList_storeP _ szP rfl _ _ rfl wr.heap.size rfl x p0 44 rfl (heap_alloc_new wr _) ?_; intro w3 hg3 hf3; obtain ⟨c0, c1, c2, c3, cl⟩ := pbox_of hg3; have HB3 : Hid (Below wr.heap.size wr w3) := frm_new hf3; have HC : Hid (w3.rangeAt wr.heap.size 4 (bl x.lk 32)) := cl; clear hf3 cl) | fail)
                refine (hs _).mono ?_
                rintro e w4 ⟨rfl, rfl⟩
                clear hs
                go_wp2_with fail
                refine (hw1 _).mono ?_
                rintro e w5 ⟨rfl, rfl⟩
                clear hw1
                go_wp2_with fail
                refine (hw2 _).mono ?_
                rintro e w6 ⟨rfl, rfl⟩
                clear hw2
                go_wp2
                go_ret
                exact ⟨by rw [HF.out]; rfl, hb.trans (HB3.out.mono hb.size)⟩
            · have hw1 := within_any x.am 10 1125899906842624
              rw [decide_eq_false h4] at hw1
              have HF : Hid (decide (PsOk X n) = false) := by
                show _ = _
                simp only [decide_eq_false_iff_not]
                exact fun hk => h4 (HN.out hk).2.2.2.1
              clear h3 h4 HN HS
              go_wp2_with (first | (refine wpList_load_mid rfl 44 _ rfl b (off + i * 36) rfl (pyl x) _ HR.out Tryd.underlying44 rfl (szPl _) ?_) | (refine wpList_allocP rfl rfl ?_) | (refine wpList_storeP _ szP rfl _ _ rfl wr.heap.size rfl x p0 44 rfl (heap_alloc_new wr _) ?_; intro w3 hg3 hf3; obtain ⟨c0, c1, c2, c3, cl⟩ := pbox_of hg3; have HB3 : Hid (Below wr.heap.size wr w3) := frm_new hf3; have HC : Hid (w3.rangeAt wr.heap.size 4 (bl x.lk 32)) := cl; clear hf3 cl) | fail)
              refine (hs _).mono ?_
              rintro e w4 ⟨rfl, rfl⟩
              clear hs
              go_wp2_with fail
              refine (hw1 _).mono ?_
              rintro e w5 ⟨rfl, rfl⟩
              clear hw1
              go_wp2
              go_ret
              exact ⟨by rw [HF.out]; rfl, hb.trans (HB3.out.mono hb.size)⟩
          · have hs := isSide_any x.fr
            rw [decide_eq_false h3] at hs
            have HF : Hid (decide (PsOk X n) = false) := by
              show _ = _
              simp only [decide_eq_false_iff_not]
              exact fun hk => h3 (HN.out hk).2.2.1
            clear h3 HN HS
            go_wp2_with (first | (refine wpList_load_mid rfl 44 _ rfl b (off + i * 36) rfl (pyl x) _ HR.out Tryd.underlying44 rfl (szPl _) ?_) | (refine wpList_allocP rfl rfl ?_) | (refine wpList_storeP _ szP rfl _ _ rfl wr.heap.size rfl x p0 44 rfl (heap_alloc_new wr _) ?_; intro w3 hg3 hf3; obtain ⟨c0, c1, c2, c3, cl⟩ := pbox_of hg3; have HB3 : Hid (Below wr.heap.size wr w3) := frm_new hf3; have HC : Hid (w3.rangeAt wr.heap.size 4 (bl x.lk 32)) := cl; clear hf3 cl) | fail)
            refine (hs _).mono ?_
            rintro e w4 ⟨rfl, rfl⟩
            clear hs
            go_wp2
            go_ret
            exact ⟨by rw [HF.out]; rfl, hb.trans (HB3.out.mono hb.size)⟩
        · have h2' : 4294967296 < x.id := by omega
          have HF : Hid (decide (PsOk X n) = false) := by
            show _ = _
            simp only [decide_eq_false_iff_not]
            exact fun hk => h2 (HN.out hk).2.1
          clear HN HS
          go_wp2_with (first | (refine wpList_load_mid rfl 44 _ rfl b (off + i * 36) rfl (pyl x) _ HR.out Tryd.underlying44 rfl (szPl _) ?_) | (refine wpList_allocP rfl rfl ?_) | (refine wpList_storeP _ szP rfl _ _ rfl wr.heap.size rfl x p0 44 rfl (heap_alloc_new wr _) ?_; intro w3 hg3 hf3; obtain ⟨c0, c1, c2, c3, cl⟩ := pbox_of hg3; have HB3 : Hid (Below wr.heap.size wr w3) := frm_new hf3; have HC : Hid (w3.rangeAt wr.heap.size 4 (bl x.lk 32)) := cl; clear hf3 cl) | fail)
          go_ret
          exact ⟨by rw [HF.out]; rfl, hb.trans (HB3.out.mono hb.size)⟩
      · have h1' : x.id ≤ q := by omega
        have HF : Hid (decide (PsOk X n) = false) := by
          show _ = _
          simp only [decide_eq_false_iff_not]
          exact fun hk => h1 (HN.out hk).1
        clear HN HS
        go_wp2_with (first | (refine wpList_load_mid rfl 44 _ rfl b (off + i * 36) rfl (pyl x) _ HR.out Tryd.underlying44 rfl (szPl _) ?_) | (refine wpList_allocP rfl rfl ?_) | (refine wpList_storeP _ szP rfl _ _ rfl wr.heap.size rfl x p0 44 rfl (heap_alloc_new wr _) ?_; intro w3 hg3 hf3; obtain ⟨c0, c1, c2, c3, cl⟩ := pbox_of hg3; have HB3 : Hid (Below wr.heap.size wr w3) := frm_new hf3; have HC : Hid (w3.rangeAt wr.heap.size 4 (bl x.lk 32)) := cl; clear hf3 cl) | fail)
        go_ret
        exact ⟨by rw [HF.out]; rfl, hb.trans (HB3.out.mono hb.size)⟩
    · obtain rfl : i = n := by omega
      have hnn : ¬ ((i : Int) < i) := by omega
      have hk := HK.out
      go_wp2
      go_ret
      exact ⟨by simp, hb⟩
end Go.Proofs.YtnjkgpgbipcgcaaDoor
/- state.mayBeHeld and (State).together. -/
namespace Go.Proofs.YtnjkgpgbipcgcaaDoor
open Go.RowKit

theorem hd_new {w w' : World} {x : Hd} {ka : Option Addr} {kc g : Nat} {t : TypeId} {fr : Nat × Nat} (h : w.heap[g]? = some (.cells (hdv x ka kc) t fr)) (e : w' = w) :
    w'.cell? ⟨g, 0, none⟩ = some (.int .i64 x.id) ∧ w'.cell? ⟨g, 1, none⟩ = some (.int .i64 x.am) ∧ w'.cell? ⟨g, 2, none⟩ = some (.slice ka x.n kc) := by
  subst e
  exact ⟨by rw [cell_of_row _ g 0 _ _ _ h]; rfl, by rw [cell_of_row _ g 1 _ _ _ h]; rfl, by rw [cell_of_row _ g 2 _ _ _ h]; rfl⟩

set_option maxRecDepth 100000 in
set_option maxHeartbeats 3200000 in
theorem mayBeHeld_any (ad : Option Addr) (n cap : Nat) (X : Nat → Hd) (w : World) (h : HdAt w ad n X) (hn : n ≤ 1000000) (hk : ∀ i, i < n → (X i).n ≤ 1000000) :
    Calls Tryd.prog 28 #[.slice ad n cap] w fun e w' => e = .returned (.bool (decide (HsOk X n))) ∧ Below w.heap.size w w' := by
  have HB : Hid (HdAt w ad n X) := h
  have hb0 := Below.refl w.heap.size w
  clear h
  go_enter Tryd.func28, Tryd.ntmps28
  go_wp2
  go_loopw [3, 5, 8] (fun lv _ iv wr => ∃ i : Nat, i ≤ n ∧ lv = .int .i64 (lastH X i) ∧ iv = .int .i64 i ∧ HsOk X i ∧ Below w.heap.size w wr) (fun _ _ iv _ => n + 1 - (intOf iv).toNat)
  case atStart => exact ⟨0, by omega, rfl, rfl, fun j hj => by omega, hb0⟩
  case round =>
    clear hb0
    obtain ⟨i, hi, rfl, rfl, hk0, hb⟩ := hrel
    have HK : Hid (HsOk X i) := hk0
    clear hk0
    by_cases hlt : i < n
    · have hlt' : (i : Int) < n := by omega
      have hkn := hk i hlt
      obtain ⟨b, off, rfl, hc⟩ := HB.out.at_ (by omega)
      obtain ⟨ka, kc, hr, hI, _⟩ := hc i hlt
      have HI : Hid (IsAt wr ka (X i).n (X i).z) := hI.below hb
      obtain ⟨d0, d1, d2⟩ := hd_cells (range_below hr hb)
      clear hc hr hI hk
      have HS : Hid (lastH X i < (X i).id ∧ HOne (X i) → HsOk X (i + 1)) := fun hx j hj => by
        by_cases e : j = i
        · subst e; exact hx
        · exact HK.out j (by omega)
      have HN : Hid (HsOk X n → lastH X i < (X i).id ∧ HOne (X i)) := fun hk => hk i hlt
      have HE : Hid (lastH X (i + 1) = (X i).id) := lastH_succ X i
      clear HK
      generalize lastH X i = q at *
      obtain ⟨x, hx⟩ : ∃ x, X i = x := ⟨_, rfl⟩
      rw [hx] at HN HE HS HI d0 d1 d2 hkn
      clear hx
      have hbn : Below wr.heap.size wr (wr.alloc (.cells (hdv x ka kc) 48)) := (Below.refl _ wr).alloc (Nat.le_refl _) _
      have hm := mayHold_any ka x.n kc x.z _ (HI.out.below hbn) hkn
      have HBN : Hid (Below w.heap.size w (wr.alloc (.cells (hdv x ka kc) 48))) := hb.trans (hbn.mono hb.size)
      clear hbn HI
      unfold hdv at HBN hm
      by_cases h1 : q < x.id
      · have h1' : ¬ x.id ≤ q := by omega
        by_cases h2 : x.id ≤ 4294967296
        · have h2' : ¬ 4294967296 < x.id := by omega
          by_cases h3 : 10 ≤ x.am ∧ x.am ≤ 1125899906842624
          · have hw1 := within_any x.am 10 1125899906842624
            rw [decide_eq_true h3] at hw1
            by_cases h4 : KOk x.z x.n ∧ 0 < x.n
            · rw [decide_eq_true h4] at hm
              have HO := HS.out ⟨h1, h2, h3, h4⟩
              clear h3 h4 HN HS
              go_wp2_with fail
              refine (hw1 _).mono ?_
              rintro e w5 ⟨rfl, rfl⟩
              clear hw1
              go_wp2_with fail
              refine hm.mono ?_
              rintro e w6 ⟨rfl, hb6⟩
              have hb7 := HBN.out.trans (hb6.mono HBN.out.size)
              have c0 : w6.cell? ⟨wr.heap.size, 0, none⟩ = some (.int .i64 x.id) := by
                rw [hb6.cell (p := ⟨wr.heap.size, 0, none⟩) (by simp)]; simp
              clear hb6 hm d0 d1 d2
              go_wp2
              go_roundw
              case rel => exact ⟨i + 1, by omega, by rw [HE.out], by go_num, HO, hb7⟩
              case measure => simp [intOf]; omega
            · rw [decide_eq_false h4] at hm
              have HF : Hid (decide (HsOk X n) = false) := by
                show _ = _
                simp only [decide_eq_false_iff_not]
                exact fun hk => h4 (HN.out hk).2.2.2
              clear h3 h4 HN HS
              go_wp2_with fail
              refine (hw1 _).mono ?_
              rintro e w5 ⟨rfl, rfl⟩
              clear hw1
              go_wp2_with fail
              refine hm.mono ?_
              rintro e w6 ⟨rfl, hb6⟩
              have hb7 := HBN.out.trans (hb6.mono HBN.out.size)
              clear hb6 hm d0 d1 d2
              go_wp2
              go_ret
              exact ⟨by rw [HF.out]; rfl, hb7⟩
          · have hw1 := within_any x.am 10 1125899906842624
            rw [decide_eq_false h3] at hw1
            have HF : Hid (decide (HsOk X n) = false) := by
              show _ = _
              simp only [decide_eq_false_iff_not]
              exact fun hk => h3 (HN.out hk).2.2.1
            clear h3 HN HS hm
            go_wp2_with fail
            refine (hw1 _).mono ?_
            rintro e w5 ⟨rfl, rfl⟩
            clear hw1
            go_wp2
            go_ret
            exact ⟨by rw [HF.out]; rfl, HBN.out⟩
        · have h2' : 4294967296 < x.id := by omega
          have HF : Hid (decide (HsOk X n) = false) := by
            show _ = _
            simp only [decide_eq_false_iff_not]
            exact fun hk => h2 (HN.out hk).2.1
          clear HN HS hm
          go_wp2
          go_ret
          exact ⟨by rw [HF.out]; rfl, HBN.out⟩
      · have h1' : x.id ≤ q := by omega
        have HF : Hid (decide (HsOk X n) = false) := by
          show _ = _
          simp only [decide_eq_false_iff_not]
          exact fun hk => h1 (HN.out hk).1
        clear HN HS hm
        go_wp2
        go_ret
        exact ⟨by rw [HF.out]; rfl, HBN.out⟩
    · obtain rfl : i = n := by omega
      have hnn : ¬ ((i : Int) < i) := by omega
      have hk := HK.out
      go_wp2
      go_ret
      exact ⟨by simp, hb⟩
end Go.Proofs.YtnjkgpgbipcgcaaDoor
/- (State).together. -/
namespace Go.Proofs.YtnjkgpgbipcgcaaDoor
open Go.RowKit

theorem sumP_pre {X : Nat → Py} {n : Nat} (h : PsOk X n) (hn : n ≤ 8) : ∀ i, i ≤ n → 0 ≤ sumP X i ∧ sumP X i ≤ 9007199254740992 := fun i hi => by
  have := sumP_bd X i (fun j hj => h j (by omega))
  omega
theorem sumH_pre {X : Nat → Hd} {n : Nat} (h : HsOk X n) (hn : n ≤ 8) : ∀ i, i ≤ n → 0 ≤ sumH X i ∧ sumH X i ≤ 9007199254740992 := fun i hi => by
  have := sumH_bd X i (fun j hj => h j (by omega))
  omega

set_option maxRecDepth 100000 in
set_option maxHeartbeats 3200000 in
theorem together_any (s : Sv) (p : Pl) (w : World) (h : SvAt w s p) (h1 : SNum s) (h2 : SRows s) :
    Calls Tryd.prog 20 #[.agg (svv s p)] w fun e w' => e = .returned (.int .i64 (tot s)) ∧ Below w.heap.size w w' := by
  obtain ⟨nu, a, b, pn, P, hn, H⟩ := s
  obtain ⟨pa, pc, ha, hc⟩ := p
  obtain ⟨py, hd, _, _, _, _⟩ := h
  simp only at py hd
  have HT : Hid (tot ⟨nu, a, b, pn, P, hn, H⟩ = a + b + sumP P pn + sumH H hn) := rfl
  unfold svv
  simp only
  have hab : (0 ≤ a ∧ a ≤ 1125899906842624) ∧ (0 ≤ b ∧ b ≤ 1125899906842624) := ⟨h1.2.1, h1.2.2⟩
  have hp8 : pn + hn ≤ 8 := h2.1
  have HP : Hid (∀ i, i ≤ pn → 0 ≤ sumP P i ∧ sumP P i ≤ 9007199254740992) := sumP_pre h2.2.1 (by omega)
  have HH : Hid (∀ i, i ≤ hn → 0 ≤ sumH H i ∧ sumH H i ≤ 9007199254740992) := sumH_pre h2.2.2 (by omega)
  clear h1 h2
  have hb0 : Below w.heap.size w (w.alloc (.cells #[.int .i64 nu, .int .i64 a, .int .i64 b, .slice pa pn pc, .slice ha hn hc] 28)) := (Below.refl _ w).alloc (Nat.le_refl _) _
  have HPY : Hid (PyAt (w.alloc (.cells #[.int .i64 nu, .int .i64 a, .int .i64 b, .slice pa pn pc, .slice ha hn hc] 28)) pa pn P) := py.below hb0
  have HHD : Hid (HdAt (w.alloc (.cells #[.int .i64 nu, .int .i64 a, .int .i64 b, .slice pa pn pc, .slice ha hn hc] 28)) ha hn H) := hd.below hb0
  clear py hd
  have hr0 := heap_alloc_new w (.cells #[.int .i64 nu, .int .i64 a, .int .i64 b, .slice pa pn pc, .slice ha hn hc] 28)
  go_enter Tryd.func20, Tryd.ntmps20
  go_wp2
  generalize w.alloc (.cells #[.int .i64 nu, .int .i64 a, .int .i64 b, .slice pa pn pc, .slice ha hn hc] 28) = W0 at *
  have hl0 := lt_of_block hr0
  have HB0 : Hid (Below w.heap.size w W0) := hb0
  have hs0 := hb0.size
  have hbr : Below W0.heap.size W0 W0 := Below.refl _ _
  have eab : wrap64 (a + b) = a + b + sumP P 0 := by simp [sumP, wrap64]; omega
  clear hb0
  go_loopw [3, 5, 18] (fun sv _ iv wr => ∃ i : Nat, i ≤ pn ∧ sv = .int .i64 (a + b + sumP P i) ∧ iv = .int .i64 i ∧ Below W0.heap.size W0 wr) (fun _ _ iv _ => pn + 1 - (intOf iv).toNat)
  case atStart => exact ⟨0, by omega, by first | rw [eab] | (simp [sumP]), rfl, hbr⟩
  case round =>
    clear hbr eab
    obtain ⟨i, hi, rfl, rfl, hb⟩ := hrel
    by_cases hlt : i < pn
    · have hlt' : (i : Int) < pn := by omega
      obtain ⟨bl0, off, rfl, hc0⟩ := HPY.out.at_ (by omega)
      have HR : Hid (wr.rangeAt bl0 (off + i * 36) (pyl (P i))) := range_below (hc0 i hlt) hb
      have b1 := HP.out i (by omega)
      have b2 := HP.out (i + 1) (by omega)
      have HE : Hid (sumP P (i + 1) = sumP P i + (P i).am) := rfl
      have b2' : 0 ≤ sumP P i + (P i).am ∧ sumP P i + (P i).am ≤ 9007199254740992 := b2
      clear b2 hc0
      have HW : Hid (a + b + sumP P i + (P i).am = a + b + sumP P (i + 1)) := by show _ = _; rw [HE.out]; omega
      generalize sumP P i = q at *
      obtain ⟨x, hx⟩ : ∃ x, P i = x := ⟨_, rfl⟩
      rw [hx] at HR HE b2' HW
      clear hx
      go_wp2_with (first | (refine wpList_load_mid rfl 44 _ rfl bl0 (off + i * 36) rfl (pyl x) _ HR.out Tryd.underlying44 rfl (szPl _) ?_) | (refine wpList_allocP rfl rfl ?_) | (refine wpList_storeP _ szP rfl _ _ rfl wr.heap.size rfl x p0 44 rfl (heap_alloc_new wr _) ?_; intro w3 hg3 hf3; have c2 := (pbox_of hg3).c2; have HB3 : Hid (Below wr.heap.size wr w3) := frm_new hf3; clear hf3 hg3) | fail)
      have ew : wrap64 (a + b + q + x.am) = a + b + q + x.am := by simp [wrap64]; omega
      go_roundw
      case rel => exact ⟨i + 1, by omega, by first | rw [HW.out] | (rw [ew, HW.out]) | (rw [← HW.out]), by go_num, hb.trans (HB3.out.mono hb.size)⟩
      case measure => simp [intOf]; omega
    · obtain rfl : i = pn := by omega
      have hnn : ¬ ((i : Int) < i) := by omega
      have hrb : wr.heap[w.heap.size]? = some (.cells #[.int .i64 nu, .int .i64 a, .int .i64 b, .slice pa i pc, .slice ha hn hc] 28 (0, 0)) := by rw [hb.block _ hl0]; exact hr0
      have c4 : wr.cell? ⟨w.heap.size, 4, none⟩ = some (.slice ha hn hc) := by rw [cell_of_row wr _ 4 _ _ _ hrb]; rfl
      have HB1 : Hid (Below W0.heap.size W0 wr) := hb
      have HHD1 : Hid (HdAt wr ha hn H) := HHD.out.below hb
      have b1 := HP.out i (by omega)
      have hbr : Below wr.heap.size wr wr := Below.refl _ _
      have HQ : Hid (tot ⟨nu, a, b, i, P, hn, H⟩ = a + b + sumP P i + sumH H hn) := HT.out
      generalize sumP P i = q at *
      have e0 : Hid (a + b + q = a + b + q + sumH H 0) := by show _ = _; simp [sumH]
      clear hb hrb HT HP HPY hr0
      generalize wr = wo at *
      go_wp2
      go_loopw [3, 7, 30] (fun sv _ iv wr => ∃ j : Nat, j ≤ hn ∧ sv = .int .i64 (a + b + q + sumH H j) ∧ iv = .int .i64 j ∧ Below wo.heap.size wo wr) (fun _ _ iv _ => hn + 1 - (intOf iv).toNat)
      case atStart => exact ⟨0, by omega, by rw [← e0.out], rfl, hbr⟩
      case round =>
        clear hbr e0
        obtain ⟨j, hj, rfl, rfl, hb⟩ := hrel
        by_cases hlt : j < hn
        · have hlt' : (j : Int) < hn := by omega
          obtain ⟨bl0, off, rfl, hc0⟩ := HHD1.out.at_ (by omega)
          obtain ⟨ka, kc, hr, _, _⟩ := hc0 j hlt
          obtain ⟨d0, d1, d2⟩ := hd_cells (range_below hr hb)
          have b3 := HH.out j (by omega)
          have b2 := HH.out (j + 1) (by omega)
          have HE : Hid (sumH H (j + 1) = sumH H j + (H j).am) := rfl
          have b2' : 0 ≤ sumH H j + (H j).am ∧ sumH H j + (H j).am ≤ 9007199254740992 := b2
          clear b2 hc0 hr
          have HW : Hid (a + b + q + sumH H j + (H j).am = a + b + q + sumH H (j + 1)) := by show _ = _; rw [HE.out]; omega
          generalize sumH H j = r at *
          obtain ⟨x, hx⟩ : ∃ x, H j = x := ⟨_, rfl⟩
          rw [hx] at HE b2' HW d0 d1 d2
          clear hx
          have hb' := hb.alloc hb.size (.cells #[.int .i64 x.id, .int .i64 x.am, .slice ka x.n kc] 48)
          have ew : wrap64 (a + b + q + r + x.am) = a + b + q + r + x.am := by simp [wrap64]; omega
          go_wp2
          go_roundw
          case rel => exact ⟨j + 1, by omega, by first | rw [HW.out] | (rw [ew, HW.out]) | (rw [← HW.out]), by go_num, hb'⟩
          case measure => simp [intOf]; omega
        · obtain rfl : j = hn := by omega
          have hnn : ¬ ((j : Int) < j) := by omega
          go_wp2
          go_ret
          refine ⟨by rw [HQ.out]; rfl, ?_⟩
          exact (HB0.out.trans (HB1.out.mono hs0)).trans (hb.mono (by have := HB1.out.size; omega))
end Go.Proofs.YtnjkgpgbipcgcaaDoor
