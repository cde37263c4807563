/- The document's ReadCount. -/
import Derived.Test.YtmekplaonlpfkaaGreatDoorOwnShelf07
import Derived.Test.YtmekplaonlpfkaaGreatDoorOwnShelf39
namespace Go.Proofs.YtmekplaonlpfkaaGreatDoor
open Go.RowKit

/-- Bytes do not lie in a document's reader. -/
theorem SlAt.strip {w : World} {ad a : Option Addr} {n m c : Nat} {z : Nat → Int} {e : Int} {t : TypeId} (h : SlAt (w.alloc (.cells #[.slice a m c, .int .i64 e] t)) ad n z) : SlAt w ad n z := by
  refine ⟨h.1, fun hn => ?_⟩
  obtain ⟨b, off, rfl, hc⟩ := h.2 hn
  refine ⟨b, off, rfl, fun j hj => ?_⟩
  have hb : b ≠ w.heap.size := by
    intro e
    subst e
    have h0 := hc 0 hn
    rw [World.cell?, heap_alloc_new] at h0
    match off, h0 with
    | 0, h0 => simp at h0
    | 1, h0 => simp at h0
    | o + 2, h0 => simp at h0
  have hlt : b < w.heap.size := by
    have := World.block_lt_of_cell? _ _ (hc 0 hn)
    simp at this
    omega
  rw [← World.cell?_alloc_lt w _ ⟨b, off + j, none⟩ hlt]
  exact hc j hj

/-- Behind the document's ReadUint, called with two variables laid: they are as they were. -/
theorem cnt_mid {w w3 : World} {o1 o2 : Obj} {o3 : Obj} (hb3 : Below ((w.alloc o1).alloc o2).heap.size ((w.alloc o1).alloc o2) w3) :
    (w3.alloc o3).heap[w.heap.size]? = some o1 ∧ (w3.alloc o3).heap[w.heap.size + 1]? = some o2 ∧ Below w.heap.size w (w3.alloc o3) := by
  have hz : w.heap.size + 2 ≤ w3.heap.size := by have := hb3.size; simpa using this
  refine ⟨?_, ?_, ?_⟩
  · rw [Below.heap_alloc _ _ _ (by omega), hb3.block _ (by simp; omega)]; exact two_allocs_0 w _ _
  · rw [Below.heap_alloc _ _ _ (by omega), hb3.block _ (by simp)]; exact two_allocs_1 w _ _
  · have h1 : Below w.heap.size w w3 := (((Below.refl _ w).alloc (Nat.le_refl _) _).alloc (by simp) _).trans (hb3.mono (by simp; omega))
    exact h1.alloc h1.size _

set_option maxRecDepth 100000 in
set_option maxHeartbeats 400000 in
theorem refCount_nerr (ad : Option Addr) (n cap : Nat) (most : Int) (z : Nat → Int) (w : World) (hlc : n ≤ cap) (hn : n ≤ 140737488351232) (hs : SlAt w ad n z) (hm0 : most < 0)
    (hE : (uE n z 0 == 0) = false) :
    Calls Tryz.prog 38 #[.agg #[.slice ad n cap, .int .i64 0], .int .i64 most] w fun e w' => RefPost w n z 0 (uE n z 0) (.int .i64 0) e w' := by
  have hs2 : SlAt ((w.alloc (.cells #[.slice ad n cap, .int .i64 0] 89)).alloc (.cells #[.slice none 0 0, .int .i64 0] 89)) ad n z := hs.frm (((Frm.refl [] w).alloc _).alloc _) (by simp)
  have HS : Hid (SlAt w ad n z) := hs
  clear hs
  go_enter Tryz.func38, Tryz.ntmps38
  go_wp2_with fail
  refine (refUint_any ad n cap 0 z _ hlc hn hs2).mono ?_
  rintro e w3 ⟨a1, c1, rfl, hc1, hsA, hb3⟩
  have HA : Hid (SlAt w a1 (n - uN n z 0) (fun j => z (j + uN n z 0))) := hsA.strip.strip
  have hm4 := cnt_mid (o3 := (.cells #[.slice a1 (n - uN n z 0) c1, .int .i64 (uE n z 0)] 89)) hb3
  have hz3 : w.heap.size + 2 ≤ w3.heap.size := by have := hb3.size; simpa using this
  have hd0 := two_cell0 hm4.2.1
  have hd1 := two_cell1 hm4.2.1
  have hdf := two_free hm4.2.1
  have hdz : w.heap.size + 1 < (w3.alloc (.cells #[.slice a1 (n - uN n z 0) c1, .int .i64 (uE n z 0)] 89)).heap.size := by simp; omega
  have hq0 := two_cell0 hm4.1
  have hq1 := two_cell1 hm4.1
  clear hsA hb3 hs2
  go_wp2_with (go_at_call 69; refine (fail_b _ _ _ _ _).mono ?_; rintro e wf ⟨rfl, hbf⟩; have hf0 := (hbf.cell (p := ⟨w.heap.size + 1, 0, none⟩) hdz).trans hd0; have hf1 := (hbf.cell (p := ⟨w.heap.size + 1, 1, none⟩) hdz).trans hd1; have hff := fun o => (hbf.frozen (p := ⟨w.heap.size + 1, o, none⟩) hdz).trans (hdf o))
  refine bodyPost_ret (v := .tuple #[.agg #[.slice ad n cap, .int .i64 (uE n z 0)], .int .i64 0]) (by simp [results, Tryz.results38, go_sem, hf0, hf1]) rfl ?_
  exact RefPost.err hlc HS.out (((hm4.2.2.trans (hbf.mono (by simp; omega))).setCell (by simp) _).setCell (by simp) _)

set_option maxRecDepth 100000 in
set_option maxHeartbeats 400000 in
theorem refCount_nlong (ad : Option Addr) (n cap : Nat) (most : Int) (z : Nat → Int) (w : World) (hlc : n ≤ cap) (hn : n ≤ 140737488351232) (hs : SlAt w ad n z) (hm0 : most < 0)
    (hE : uE n z 0 = 0) (hl : ((n - uN n z 0 : Nat) : Int) < uV n z 0) :
    Calls Tryz.prog 38 #[.agg #[.slice ad n cap, .int .i64 0], .int .i64 most] w fun e w' => RefPost w n z 0 2 (.int .i64 0) e w' := by
  have hs2 : SlAt ((w.alloc (.cells #[.slice ad n cap, .int .i64 0] 89)).alloc (.cells #[.slice none 0 0, .int .i64 0] 89)) ad n z := hs.frm (((Frm.refl [] w).alloc _).alloc _) (by simp)
  have HS : Hid (SlAt w ad n z) := hs
  clear hs
  go_enter Tryz.func38, Tryz.ntmps38
  go_wp2_with fail
  refine (refUint_any ad n cap 0 z _ hlc hn hs2).mono ?_
  rintro e w3 ⟨a1, c1, rfl, hc1, hsA, hb3⟩
  have HA : Hid (SlAt w a1 (n - uN n z 0) (fun j => z (j + uN n z 0))) := hsA.strip.strip
  have hm4 := cnt_mid (o3 := (.cells #[.slice a1 (n - uN n z 0) c1, .int .i64 0] 89)) hb3
  have hz3 : w.heap.size + 2 ≤ w3.heap.size := by have := hb3.size; simpa using this
  have hd0 := two_cell0 hm4.2.1
  have hd1 := two_cell1 hm4.2.1
  have hdf := two_free hm4.2.1
  have hdz : w.heap.size + 1 < (w3.alloc (.cells #[.slice a1 (n - uN n z 0) c1, .int .i64 0] 89)).heap.size := by simp; omega
  have hq0 := two_cell0 hm4.1
  have hq1 := two_cell1 hm4.1
  clear hsA hb3 hs2
  go_wp2_with (go_at_call 69; refine (fail_b _ _ _ _ _).mono ?_; rintro e wf ⟨rfl, hbf⟩; have hf0 := (hbf.cell (p := ⟨w.heap.size + 1, 0, none⟩) hdz).trans hd0; have hf1 := (hbf.cell (p := ⟨w.heap.size + 1, 1, none⟩) hdz).trans hd1; have hff := fun o => (hbf.frozen (p := ⟨w.heap.size + 1, o, none⟩) hdz).trans (hdf o))
  refine bodyPost_ret (v := .tuple #[.agg #[.slice ad n cap, .int .i64 2], .int .i64 0]) (by simp [results, Tryz.results38, go_sem, hf0, hf1]) rfl ?_
  exact RefPost.err hlc HS.out (((hm4.2.2.trans (hbf.mono (by simp; omega))).setCell (by simp) _).setCell (by simp) _)

set_option maxRecDepth 100000 in
set_option maxHeartbeats 400000 in
theorem refCount_nok (ad : Option Addr) (n cap : Nat) (most : Int) (z : Nat → Int) (w : World) (hlc : n ≤ cap) (hn : n ≤ 140737488351232) (hs : SlAt w ad n z) (hm0 : most < 0)
    (hE : uE n z 0 = 0) (hv : 0 ≤ uV n z 0) (hl : ¬ ((n - uN n z 0 : Nat) : Int) < uV n z 0) :
    Calls Tryz.prog 38 #[.agg #[.slice ad n cap, .int .i64 0], .int .i64 most] w fun e w' => RefPost w n z (uN n z 0) 0 (.int .i64 (uV n z 0)) e w' := by
  have hs2 : SlAt ((w.alloc (.cells #[.slice ad n cap, .int .i64 0] 89)).alloc (.cells #[.slice none 0 0, .int .i64 0] 89)) ad n z := hs.frm (((Frm.refl [] w).alloc _).alloc _) (by simp)
  have HS : Hid (SlAt w ad n z) := hs
  clear hs
  go_enter Tryz.func38, Tryz.ntmps38
  go_wp2_with fail
  refine (refUint_any ad n cap 0 z _ hlc hn hs2).mono ?_
  rintro e w3 ⟨a1, c1, rfl, hc1, hsA, hb3⟩
  have HA : Hid (SlAt w a1 (n - uN n z 0) (fun j => z (j + uN n z 0))) := hsA.strip.strip
  have hm4 := cnt_mid (o3 := (.cells #[.slice a1 (n - uN n z 0) c1, .int .i64 0] 89)) hb3
  have hz3 : w.heap.size + 2 ≤ w3.heap.size := by have := hb3.size; simpa using this
  have hd0 := two_cell0 hm4.2.1
  have hd1 := two_cell1 hm4.2.1
  have hdf := two_free hm4.2.1
  have hdz : w.heap.size + 1 < (w3.alloc (.cells #[.slice a1 (n - uN n z 0) c1, .int .i64 0] 89)).heap.size := by simp; omega
  have hq0 := two_cell0 hm4.1
  have hq1 := two_cell1 hm4.1
  clear hsA hb3 hs2
  go_wp2
  refine bodyPost_ret (v := .tuple #[.agg #[.slice a1 (n - uN n z 0) c1, .int .i64 0], .int .i64 (uV n z 0)]) (by simp [results, Tryz.results38, go_sem, hd0, hd1]) rfl ?_
  exact ⟨a1, c1, rfl, hc1, HA.out, (hm4.2.2.setCell (by simp) _).setCell (by simp) _⟩

set_option maxRecDepth 100000 in
set_option maxHeartbeats 400000 in
theorem refCount_perr (ad : Option Addr) (n cap : Nat) (most : Int) (z : Nat → Int) (w : World) (hlc : n ≤ cap) (hn : n ≤ 140737488351232) (hs : SlAt w ad n z) (hm0 : 0 ≤ most) (_hm1 : most ≤ 9223372036854775807)
    (hE : (uE n z most == 0) = false) :
    Calls Tryz.prog 38 #[.agg #[.slice ad n cap, .int .i64 0], .int .i64 most] w fun e w' => RefPost w n z 0 (uE n z most) (.int .i64 0) e w' := by
  have hs2 : SlAt ((w.alloc (.cells #[.slice ad n cap, .int .i64 0] 89)).alloc (.cells #[.slice none 0 0, .int .i64 0] 89)) ad n z := hs.frm (((Frm.refl [] w).alloc _).alloc _) (by simp)
  have HS : Hid (SlAt w ad n z) := hs
  clear hs
  go_enter Tryz.func38, Tryz.ntmps38
  go_wp2_with fail
  refine (refUint_any ad n cap most z _ hlc hn hs2).mono ?_
  rintro e w3 ⟨a1, c1, rfl, hc1, hsA, hb3⟩
  have HA : Hid (SlAt w a1 (n - uN n z most) (fun j => z (j + uN n z most))) := hsA.strip.strip
  have hm4 := cnt_mid (o3 := (.cells #[.slice a1 (n - uN n z most) c1, .int .i64 (uE n z most)] 89)) hb3
  have hz3 : w.heap.size + 2 ≤ w3.heap.size := by have := hb3.size; simpa using this
  have hd0 := two_cell0 hm4.2.1
  have hd1 := two_cell1 hm4.2.1
  have hdf := two_free hm4.2.1
  have hdz : w.heap.size + 1 < (w3.alloc (.cells #[.slice a1 (n - uN n z most) c1, .int .i64 (uE n z most)] 89)).heap.size := by simp; omega
  have hq0 := two_cell0 hm4.1
  have hq1 := two_cell1 hm4.1
  clear hsA hb3 hs2
  go_wp2_with (go_at_call 69; refine (fail_b _ _ _ _ _).mono ?_; rintro e wf ⟨rfl, hbf⟩; have hf0 := (hbf.cell (p := ⟨w.heap.size + 1, 0, none⟩) hdz).trans hd0; have hf1 := (hbf.cell (p := ⟨w.heap.size + 1, 1, none⟩) hdz).trans hd1; have hff := fun o => (hbf.frozen (p := ⟨w.heap.size + 1, o, none⟩) hdz).trans (hdf o))
  refine bodyPost_ret (v := .tuple #[.agg #[.slice ad n cap, .int .i64 (uE n z most)], .int .i64 0]) (by simp [results, Tryz.results38, go_sem, hf0, hf1]) rfl ?_
  exact RefPost.err hlc HS.out (((hm4.2.2.trans (hbf.mono (by simp; omega))).setCell (by simp) _).setCell (by simp) _)

set_option maxRecDepth 100000 in
set_option maxHeartbeats 400000 in
theorem refCount_plong (ad : Option Addr) (n cap : Nat) (most : Int) (z : Nat → Int) (w : World) (hlc : n ≤ cap) (hn : n ≤ 140737488351232) (hs : SlAt w ad n z) (hm0 : 0 ≤ most) (_hm1 : most ≤ 9223372036854775807)
    (hE : uE n z most = 0) (hl : ((n - uN n z most : Nat) : Int) < uV n z most) :
    Calls Tryz.prog 38 #[.agg #[.slice ad n cap, .int .i64 0], .int .i64 most] w fun e w' => RefPost w n z 0 2 (.int .i64 0) e w' := by
  have hs2 : SlAt ((w.alloc (.cells #[.slice ad n cap, .int .i64 0] 89)).alloc (.cells #[.slice none 0 0, .int .i64 0] 89)) ad n z := hs.frm (((Frm.refl [] w).alloc _).alloc _) (by simp)
  have HS : Hid (SlAt w ad n z) := hs
  clear hs
  go_enter Tryz.func38, Tryz.ntmps38
  go_wp2_with fail
  refine (refUint_any ad n cap most z _ hlc hn hs2).mono ?_
  rintro e w3 ⟨a1, c1, rfl, hc1, hsA, hb3⟩
  have HA : Hid (SlAt w a1 (n - uN n z most) (fun j => z (j + uN n z most))) := hsA.strip.strip
  have hm4 := cnt_mid (o3 := (.cells #[.slice a1 (n - uN n z most) c1, .int .i64 0] 89)) hb3
  have hz3 : w.heap.size + 2 ≤ w3.heap.size := by have := hb3.size; simpa using this
  have hd0 := two_cell0 hm4.2.1
  have hd1 := two_cell1 hm4.2.1
  have hdf := two_free hm4.2.1
  have hdz : w.heap.size + 1 < (w3.alloc (.cells #[.slice a1 (n - uN n z most) c1, .int .i64 0] 89)).heap.size := by simp; omega
  have hq0 := two_cell0 hm4.1
  have hq1 := two_cell1 hm4.1
  clear hsA hb3 hs2
  go_wp2_with (go_at_call 69; refine (fail_b _ _ _ _ _).mono ?_; rintro e wf ⟨rfl, hbf⟩; have hf0 := (hbf.cell (p := ⟨w.heap.size + 1, 0, none⟩) hdz).trans hd0; have hf1 := (hbf.cell (p := ⟨w.heap.size + 1, 1, none⟩) hdz).trans hd1; have hff := fun o => (hbf.frozen (p := ⟨w.heap.size + 1, o, none⟩) hdz).trans (hdf o))
  refine bodyPost_ret (v := .tuple #[.agg #[.slice ad n cap, .int .i64 2], .int .i64 0]) (by simp [results, Tryz.results38, go_sem, hf0, hf1]) rfl ?_
  exact RefPost.err hlc HS.out (((hm4.2.2.trans (hbf.mono (by simp; omega))).setCell (by simp) _).setCell (by simp) _)

set_option maxRecDepth 100000 in
set_option maxHeartbeats 400000 in
theorem refCount_pok (ad : Option Addr) (n cap : Nat) (most : Int) (z : Nat → Int) (w : World) (hlc : n ≤ cap) (hn : n ≤ 140737488351232) (hs : SlAt w ad n z) (hm0 : 0 ≤ most) (_hm1 : most ≤ 9223372036854775807)
    (hE : uE n z most = 0) (hv : 0 ≤ uV n z most) (hl : ¬ ((n - uN n z most : Nat) : Int) < uV n z most) :
    Calls Tryz.prog 38 #[.agg #[.slice ad n cap, .int .i64 0], .int .i64 most] w fun e w' => RefPost w n z (uN n z most) 0 (.int .i64 (uV n z most)) e w' := by
  have hs2 : SlAt ((w.alloc (.cells #[.slice ad n cap, .int .i64 0] 89)).alloc (.cells #[.slice none 0 0, .int .i64 0] 89)) ad n z := hs.frm (((Frm.refl [] w).alloc _).alloc _) (by simp)
  have HS : Hid (SlAt w ad n z) := hs
  clear hs
  go_enter Tryz.func38, Tryz.ntmps38
  go_wp2_with fail
  refine (refUint_any ad n cap most z _ hlc hn hs2).mono ?_
  rintro e w3 ⟨a1, c1, rfl, hc1, hsA, hb3⟩
  have HA : Hid (SlAt w a1 (n - uN n z most) (fun j => z (j + uN n z most))) := hsA.strip.strip
  have hm4 := cnt_mid (o3 := (.cells #[.slice a1 (n - uN n z most) c1, .int .i64 0] 89)) hb3
  have hz3 : w.heap.size + 2 ≤ w3.heap.size := by have := hb3.size; simpa using this
  have hd0 := two_cell0 hm4.2.1
  have hd1 := two_cell1 hm4.2.1
  have hdf := two_free hm4.2.1
  have hdz : w.heap.size + 1 < (w3.alloc (.cells #[.slice a1 (n - uN n z most) c1, .int .i64 0] 89)).heap.size := by simp; omega
  have hq0 := two_cell0 hm4.1
  have hq1 := two_cell1 hm4.1
  clear hsA hb3 hs2
  go_wp2
  refine bodyPost_ret (v := .tuple #[.agg #[.slice a1 (n - uN n z most) c1, .int .i64 0], .int .i64 (uV n z most)]) (by simp [results, Tryz.results38, go_sem, hd0, hd1]) rfl ?_
  exact ⟨a1, c1, rfl, hc1, HA.out, (hm4.2.2.setCell (by simp) _).setCell (by simp) _⟩


theorem refCount_any (ad : Option Addr) (n cap : Nat) (most : Int) (z : Nat → Int) (w : World) (hlc : n ≤ cap) (hn : n ≤ 140737488351232) (hs : SlAt w ad n z) (hm : most ≤ 9223372036854775807) :
    Calls Tryz.prog 38 #[.agg #[.slice ad n cap, .int .i64 0], .int .i64 most] w fun e w' => RefPost w n z (cN n z most) (cE n z most) (.int .i64 (cV n z most)) e w' := by
  have hv := uV_bd (n := n) (z := z) (max most 0) hs.1
  by_cases hE : uE n z (max most 0) = 0
  · by_cases hl : ((n - uN n z (max most 0) : Nat) : Int) < uV n z (max most 0)
    · have e : cE n z most = 2 := by rw [cE, if_pos hE, if_pos hl]
      rw [cV, cN, e, if_neg (by decide), if_neg (by decide)]
      by_cases h0 : most < 0
      · rw [show max most 0 = 0 from by omega] at *
        exact refCount_nlong ad n cap most z w hlc hn hs h0 hE hl
      · rw [show max most 0 = most from by omega] at *
        exact refCount_plong ad n cap most z w hlc hn hs (by omega) hm hE hl
    · have e : cE n z most = 0 := by rw [cE, if_pos hE, if_neg hl]
      rw [cV, cN, e, if_pos rfl, if_pos rfl]
      by_cases h0 : most < 0
      · rw [show max most 0 = 0 from by omega] at *
        exact refCount_nok ad n cap most z w hlc hn hs h0 hE hv.1 hl
      · rw [show max most 0 = most from by omega] at *
        exact refCount_pok ad n cap most z w hlc hn hs (by omega) hm hE hv.1 hl
  · have e : cE n z most = uE n z (max most 0) := by rw [cE, if_neg hE]
    rw [cV, cN, e, if_neg hE, if_neg hE]
    by_cases h0 : most < 0
    · rw [show max most 0 = 0 from by omega] at *
      exact refCount_nerr ad n cap most z w hlc hn hs h0 (by simp [hE])
    · rw [show max most 0 = most from by omega] at *
      exact refCount_perr ad n cap most z w hlc hn hs (by omega) hm (by simp [hE])
end Go.Proofs.YtmekplaonlpfkaaGreatDoor
