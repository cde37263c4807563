/- The document's ReadCount. -/
import Derived.Test.YtmekplaonlpfkaaGreatDoorOwnShelfApart02
import Derived.Test.YtmekplaonlpfkaaGreatDoorOwnShelfApart17
import Derived.Test.YtmekplaonlpfkaaGreatDoorOwnShelfApart16
import Derived.Test.YtmekplaonlpfkaaGreatDoorOwnShelfApart14
namespace Go.Proofs.YtmekplaonlpfkaaGreatDoor
open Go.RowKit

/-- Bytes do not lie in a document's reader. -/
theorem SlAt.strip {w : World} {ad a : Option Addr} {n m c : Nat} {z : Nat → Int} {e : Int} {t : TypeId} (h : SlAt (w.alloc (.cells #[.slice a m c, .int .i64 e] t)) ad n z) : SlAt w ad n z := by
  refine ⟨h.1, fun hn => ?_⟩
  obtain ⟨b, off, rfl, hc⟩ := h.2 hn
  refine ⟨b, off, rfl, fun j hj => ?_⟩
  have hb : b ≠ w.heap.size := by
    intro e
    subst e
    have h0 := hc 0 hn
    rw [World.cell?, heap_alloc_new] at h0
    match off, h0 with
    | 0, h0 => simp at h0
    | 1, h0 => simp at h0
    | o + 2, h0 => simp at h0
  have hlt : b < w.heap.size := by
    have := World.block_lt_of_cell? _ _ (hc 0 hn)
    simp at this
    omega
  rw [← World.cell?_alloc_lt w _ ⟨b, off + j, none⟩ hlt]
  exact hc j hj

/-- Behind the document's ReadUint, called with two variables laid: they are as they were. -/
theorem cnt_mid {w w3 : World} {o1 o2 : Obj} {o3 : Obj} (hb3 : Below ((w.alloc o1).alloc o2).heap.size ((w.alloc o1).alloc o2) w3) :
    (w3.alloc o3).heap[w.heap.size]? = some o1 ∧ (w3.alloc o3).heap[w.heap.size + 1]? = some o2 ∧ Below w.heap.size w (w3.alloc o3) := by
  have hz : w.heap.size + 2 ≤ w3.heap.size := by have := hb3.size; simpa using this
  refine ⟨?_, ?_, ?_⟩
  · rw [Below.heap_alloc _ _ _ (by omega), hb3.block _ (by simp; omega)]; exact two_allocs_0 w _ _
  · rw [Below.heap_alloc _ _ _ (by omega), hb3.block _ (by simp)]; exact two_allocs_1 w _ _
  · have h1 : Below w.heap.size w w3 := (((Below.refl _ w).alloc (Nat.le_refl _) _).alloc (by simp) _).trans (hb3.mono (by simp; omega))
    exact h1.alloc h1.size _

set_option maxRecDepth 100000 in
set_option maxHeartbeats 400000 in
theorem refCount_nerr (ad : Option Addr) (n cap : Nat) (most : Int) (z : Nat → Int) (w : World) (hlc : n ≤ cap) (hn : n ≤ 140737488351232) (hs : SlAt w ad n z) (hm0 : most < 0)
    (hE : (uE n z 0 == 0) = false) :
    Calls Tryz.prog 38 #[.agg #[.slice ad n cap, .int .i64 0], .int .i64 most] w fun e w' => RefPost w n z 0 (uE n z 0) (.int .i64 0) e w' := by
  have hs2 : SlAt ((w.alloc (.cells #[.slice ad n cap, .int .i64 0] 89)).alloc (.cells #[.slice none 0 0, .int .i64 0] 89)) ad n z := hs.frm (((Frm.refl [] w).alloc _).alloc _) (by simp)
  have HS : Hid (SlAt w ad n z) := hs
  clear hs
  go_enter Tryz.func38, Tryz.ntmps38
  go_wp2_with fail
  refine (refUint_any ad n cap 0 z _ hlc hn hs2).mono ?_
  rintro e w3 ⟨a1, c1, rfl, hc1, hsA, hb3⟩
  have HA : Hid (SlAt w a1 (n - uN n z 0) (fun j => z (j + uN n z 0))) := hsA.strip.strip
  have hm4 := cnt_mid (o3 := (.cells #[.slice a1 (n - uN n z 0) c1, .int .i64 (uE n z 0)] 89)) hb3
  have hz3 : w.heap.size + 2 ≤ w3.heap.size := by have := hb3.size; simpa using this
  have hd0 := two_cell0 hm4.2.1
  have hd1 := two_cell1 hm4.2.1
  have hdf := two_free hm4.2.1
  have hdz : w.heap.size + 1 < (w3.alloc (.cells #[.slice a1 (n - uN n z 0) c1, .int .i64 (uE n z 0)] 89)).heap.size := by simp; omega
  have hq0 := two_cell0 hm4.1
  have hq1 := two_cell1 hm4.1
  clear hsA hb3 hs2
  go_wp2_with (go_at_call 69; refine (fail_b _ _ _ _ _).mono ?_; rintro e wf ⟨rfl, hbf⟩; have hf0 := (hbf.cell (p := ⟨w.heap.size + 1, 0, none⟩) hdz).trans hd0; have hf1 := (hbf.cell (p := ⟨w.heap.size + 1, 1, none⟩) hdz).trans hd1; have hff := fun o => (hbf.frozen (p := ⟨w.heap.size + 1, o, none⟩) hdz).trans (hdf o))
  refine bodyPost_ret (v := .tuple #[.agg #[.slice ad n cap, .int .i64 (uE n z 0)], .int .i64 0]) (by simp [results, Tryz.results38, go_sem, hf0, hf1]) rfl ?_
  exact RefPost.err hlc HS.out (((hm4.2.2.trans (hbf.mono (by simp; omega))).setCell (by simp) _).setCell (by simp) _)

set_option maxRecDepth 100000 in
set_option maxHeartbeats 400000 in
theorem refCount_nlong (ad : Option Addr) (n cap : Nat) (most : Int) (z : Nat → Int) (w : World) (hlc : n ≤ cap) (hn : n ≤ 140737488351232) (hs : SlAt w ad n z) (hm0 : most < 0)
    (hE : uE n z 0 = 0) (hl : ((n - uN n z 0 : Nat) : Int) < uV n z 0) :
    Calls Tryz.prog 38 #[.agg #[.slice ad n cap, .int .i64 0], .int .i64 most] w fun e w' => RefPost w n z 0 2 (.int .i64 0) e w' := by
  have hs2 : SlAt ((w.alloc (.cells #[.slice ad n cap, .int .i64 0] 89)).alloc (.cells #[.slice none 0 0, .int .i64 0] 89)) ad n z := hs.frm (((Frm.refl [] w).alloc _).alloc _) (by simp)
  have HS : Hid (SlAt w ad n z) := hs
  clear hs
  go_enter Tryz.func38, Tryz.ntmps38
  go_wp2_with fail
  refine (refUint_any ad n cap 0 z _ hlc hn hs2).mono ?_
  rintro e w3 ⟨a1, c1, rfl, hc1, hsA, hb3⟩
  have HA : Hid (SlAt w a1 (n - uN n z 0) (fun j => z (j + uN n z 0))) := hsA.strip.strip
  have hm4 := cnt_mid (o3 := (.cells #[.slice a1 (n - uN n z 0) c1, .int .i64 0] 89)) hb3
  have hz3 : w.heap.size + 2 ≤ w3.heap.size := by have := hb3.size; simpa using this
  have hd0 := two_cell0 hm4.2.1
  have hd1 := two_cell1 hm4.2.1
  have hdf := two_free hm4.2.1
  have hdz : w.heap.size + 1 < (w3.alloc (.cells #[.slice a1 (n - uN n z 0) c1, .int .i64 0] 89)).heap.size := by simp; omega
  have hq0 := two_cell0 hm4.1
  have hq1 := two_cell1 hm4.1
  clear hsA hb3 hs2
  go_wp2_with (go_at_call 69; refine (fail_b _ _ _ _ _).mono ?_; rintro e wf ⟨rfl, hbf⟩; have hf0 := (hbf.cell (p := ⟨w.heap.size + 1, 0, none⟩) hdz).trans hd0; have hf1 := (hbf.cell (p := ⟨w.heap.size + 1, 1, none⟩) hdz).trans hd1; have hff := fun o => (hbf.frozen (p := ⟨w.heap.size + 1, o, none⟩) hdz).trans (hdf o))
  refine bodyPost_ret (v := .tuple #[.agg #[.slice ad n cap, .int .i64 2], .int .i64 0]) (by simp [results, Tryz.results38, go_sem, hf0, hf1]) rfl ?_
  exact RefPost.err hlc HS.out (((hm4.2.2.trans (hbf.mono (by simp; omega))).setCell (by simp) _).setCell (by simp) _)

set_option maxRecDepth 100000 in
set_option maxHeartbeats 400000 in
theorem refCount_nok (ad : Option Addr) (n cap : Nat) (most : Int) (z : Nat → Int) (w : World) (hlc : n ≤ cap) (hn : n ≤ 140737488351232) (hs : SlAt w ad n z) (hm0 : most < 0)
    (hE : uE n z 0 = 0) (hv : 0 ≤ uV n z 0) (hl : ¬ ((n - uN n z 0 : Nat) : Int) < uV n z 0) :
    Calls Tryz.prog 38 #[.agg #[.slice ad n cap, .int .i64 0], .int .i64 most] w fun e w' => RefPost w n z (uN n z 0) 0 (.int .i64 (uV n z 0)) e w' := by
  have hs2 : SlAt ((w.alloc (.cells #[.slice ad n cap, .int .i64 0] 89)).alloc (.cells #[.slice none 0 0, .int .i64 0] 89)) ad n z := hs.frm (((Frm.refl [] w).alloc _).alloc _) (by simp)
  have HS : Hid (SlAt w ad n z) := hs
  clear hs
  go_enter Tryz.func38, Tryz.ntmps38
  go_wp2_with fail
  refine (refUint_any ad n cap 0 z _ hlc hn hs2).mono ?_
  rintro e w3 ⟨a1, c1, rfl, hc1, hsA, hb3⟩
  have HA : Hid (SlAt w a1 (n - uN n z 0) (fun j => z (j + uN n z 0))) := hsA.strip.strip
  have hm4 := cnt_mid (o3 := (.cells #[.slice a1 (n - uN n z 0) c1, .int .i64 0] 89)) hb3
  have hz3 : w.heap.size + 2 ≤ w3.heap.size := by have := hb3.size; simpa using this
  have hd0 := two_cell0 hm4.2.1
  have hd1 := two_cell1 hm4.2.1
  have hdf := two_free hm4.2.1
  have hdz : w.heap.size + 1 < (w3.alloc (.cells #[.slice a1 (n - uN n z 0) c1, .int .i64 0] 89)).heap.size := by simp; omega
  have hq0 := two_cell0 hm4.1
  have hq1 := two_cell1 hm4.1
  clear hsA hb3 hs2
  go_wp2
  refine bodyPost_ret (v := .tuple #[.agg #[.slice a1 (n - uN n z 0) c1, .int .i64 0], .int .i64 (uV n z 0)]) (by simp [results, Tryz.results38, go_sem, hd0, hd1]) rfl ?_
  exact ⟨a1, c1, rfl, hc1, HA.out, (hm4.2.2.setCell (by simp) _).setCell (by simp) _⟩

set_option maxRecDepth 100000 in
set_option maxHeartbeats 400000 in
theorem refCount_perr (ad : Option Addr) (n cap : Nat) (most : Int) (z : Nat → Int) (w : World) (hlc : n ≤ cap) (hn : n ≤ 140737488351232) (hs : SlAt w ad n z) (hm0 : 0 ≤ most) (_hm1 : most ≤ 9223372036854775807)
    (hE : (uE n z most == 0) = false) :
    Calls Tryz.prog 38 #[.agg #[.slice ad n cap, .int .i64 0], .int .i64 most] w fun e w' => RefPost w n z 0 (uE n z most) (.int .i64 0) e w' := by
  have hs2 : SlAt ((w.alloc (.cells #[.slice ad n cap, .int .i64 0] 89)).alloc (.cells #[.slice none 0 0, .int .i64 0] 89)) ad n z := hs.frm (((Frm.refl [] w).alloc _).alloc _) (by simp)
  have HS : Hid (SlAt w ad n z) := hs
  clear hs
  go_enter Tryz.func38, Tryz.ntmps38
  go_wp2_with fail
  refine (refUint_any ad n cap most z _ hlc hn hs2).mono ?_
  rintro e w3 ⟨a1, c1, rfl, hc1, hsA, hb3⟩
  have HA : Hid (SlAt w a1 (n - uN n z most) (fun j => z (j + uN n z most))) := hsA.strip.strip
  have hm4 := cnt_mid (o3 := (.cells #[.slice a1 (n - uN n z most) c1, .int .i64 (uE n z most)] 89)) hb3
  have hz3 : w.heap.size + 2 ≤ w3.heap.size := by have := hb3.size; simpa using this
  have hd0 := two_cell0 hm4.2.1
  have hd1 := two_cell1 hm4.2.1
  have hdf := two_free hm4.2.1
  have hdz : w.heap.size + 1 < (w3.alloc (.cells #[.slice a1 (n - uN n z most) c1, .int .i64 (uE n z most)] 89)).heap.size := by simp; omega
  have hq0 := two_cell0 hm4.1
  have hq1 := two_cell1 hm4.1
  clear hsA hb3 hs2
  go_wp2_with (go_at_call 69; refine (fail_b _ _ _ _ _).mono ?_; rintro e wf ⟨rfl, hbf⟩; have hf0 := (hbf.cell (p := ⟨w.heap.size + 1, 0, none⟩) hdz).trans hd0; have hf1 := (hbf.cell (p := ⟨w.heap.size + 1, 1, none⟩) hdz).trans hd1; have hff := fun o => (hbf.frozen (p := ⟨w.heap.size + 1, o, none⟩) hdz).trans (hdf o))
  refine bodyPost_ret (v := .tuple #[.agg #[.slice ad n cap, .int .i64 (uE n z most)], .int .i64 0]) (by simp [results, Tryz.results38, go_sem, hf0, hf1]) rfl ?_
  exact RefPost.err hlc HS.out (((hm4.2.2.trans (hbf.mono (by simp; omega))).setCell (by simp) _).setCell (by simp) _)

set_option maxRecDepth 100000 in
set_option maxHeartbeats 400000 in
theorem refCount_plong (ad : Option Addr) (n cap : Nat) (most : Int) (z : Nat → Int) (w : World) (hlc : n ≤ cap) (hn : n ≤ 140737488351232) (hs : SlAt w ad n z) (hm0 : 0 ≤ most) (_hm1 : most ≤ 9223372036854775807)
    (hE : uE n z most = 0) (hl : ((n - uN n z most : Nat) : Int) < uV n z most) :
    Calls Tryz.prog 38 #[.agg #[.slice ad n cap, .int .i64 0], .int .i64 most] w fun e w' => RefPost w n z 0 2 (.int .i64 0) e w' := by
  have hs2 : SlAt ((w.alloc (.cells #[.slice ad n cap, .int .i64 0] 89)).alloc (.cells #[.slice none 0 0, .int .i64 0] 89)) ad n z := hs.frm (((Frm.refl [] w).alloc _).alloc _) (by simp)
  have HS : Hid (SlAt w ad n z) := hs
  clear hs
  go_enter Tryz.func38, Tryz.ntmps38
  go_wp2_with fail
  refine (refUint_any ad n cap most z _ hlc hn hs2).mono ?_
  rintro e w3 ⟨a1, c1, rfl, hc1, hsA, hb3⟩
  have HA : Hid (SlAt w a1 (n - uN n z most) (fun j => z (j + uN n z most))) := hsA.strip.strip
  have hm4 := cnt_mid (o3 := (.cells #[.slice a1 (n - uN n z most) c1, .int .i64 0] 89)) hb3
  have hz3 : w.heap.size + 2 ≤ w3.heap.size := by have := hb3.size; simpa using this
  have hd0 := two_cell0 hm4.2.1
  have hd1 := two_cell1 hm4.2.1
  have hdf := two_free hm4.2.1
  have hdz : w.heap.size + 1 < (w3.alloc (.cells #[.slice a1 (n - uN n z most) c1, .int .i64 0] 89)).heap.size := by simp; omega
  have hq0 := two_cell0 hm4.1
  have hq1 := two_cell1 hm4.1
  clear hsA hb3 hs2
  go_wp2_with (go_at_call 69; refine (fail_b _ _ _ _ _).mono ?_; rintro e wf ⟨rfl, hbf⟩; have hf0 := (hbf.cell (p := ⟨w.heap.size + 1, 0, none⟩) hdz).trans hd0; have hf1 := (hbf.cell (p := ⟨w.heap.size + 1, 1, none⟩) hdz).trans hd1; have hff := fun o => (hbf.frozen (p := ⟨w.heap.size + 1, o, none⟩) hdz).trans (hdf o))
  refine bodyPost_ret (v := .tuple #[.agg #[.slice ad n cap, .int .i64 2], .int .i64 0]) (by simp [results, Tryz.results38, go_sem, hf0, hf1]) rfl ?_
  exact RefPost.err hlc HS.out (((hm4.2.2.trans (hbf.mono (by simp; omega))).setCell (by simp) _).setCell (by simp) _)

set_option maxRecDepth 100000 in
set_option maxHeartbeats 400000 in
theorem refCount_pok (ad : Option Addr) (n cap : Nat) (most : Int) (z : Nat → Int) (w : World) (hlc : n ≤ cap) (hn : n ≤ 140737488351232) (hs : SlAt w ad n z) (hm0 : 0 ≤ most) (_hm1 : most ≤ 9223372036854775807)
    (hE : uE n z most = 0) (hv : 0 ≤ uV n z most) (hl : ¬ ((n - uN n z most : Nat) : Int) < uV n z most) :
    Calls Tryz.prog 38 #[.agg #[.slice ad n cap, .int .i64 0], .int .i64 most] w fun e w' => RefPost w n z (uN n z most) 0 (.int .i64 (uV n z most)) e w' := by
  have hs2 : SlAt ((w.alloc (.cells #[.slice ad n cap, .int .i64 0] 89)).alloc (.cells #[.slice none 0 0, .int .i64 0] 89)) ad n z := hs.frm (((Frm.refl [] w).alloc _).alloc _) (by simp)
  have HS : Hid (SlAt w ad n z) := hs
  clear hs
  go_enter Tryz.func38, Tryz.ntmps38
  go_wp2_with fail
  refine (refUint_any ad n cap most z _ hlc hn hs2).mono ?_
  rintro e w3 ⟨a1, c1, rfl, hc1, hsA, hb3⟩
  have HA : Hid (SlAt w a1 (n - uN n z most) (fun j => z (j + uN n z most))) := hsA.strip.strip
  have hm4 := cnt_mid (o3 := (.cells #[.slice a1 (n - uN n z most) c1, .int .i64 0] 89)) hb3
  have hz3 : w.heap.size + 2 ≤ w3.heap.size := by have := hb3.size; simpa using this
  have hd0 := two_cell0 hm4.2.1
  have hd1 := two_cell1 hm4.2.1
  have hdf := two_free hm4.2.1
  have hdz : w.heap.size + 1 < (w3.alloc (.cells #[.slice a1 (n - uN n z most) c1, .int .i64 0] 89)).heap.size := by simp; omega
  have hq0 := two_cell0 hm4.1
  have hq1 := two_cell1 hm4.1
  clear hsA hb3 hs2
  go_wp2
  refine bodyPost_ret (v := .tuple #[.agg #[.slice a1 (n - uN n z most) c1, .int .i64 0], .int .i64 (uV n z most)]) (by simp [results, Tryz.results38, go_sem, hd0, hd1]) rfl ?_
  exact ⟨a1, c1, rfl, hc1, HA.out, (hm4.2.2.setCell (by simp) _).setCell (by simp) _⟩


theorem refCount_any (ad : Option Addr) (n cap : Nat) (most : Int) (z : Nat → Int) (w : World) (hlc : n ≤ cap) (hn : n ≤ 140737488351232) (hs : SlAt w ad n z) (hm : most ≤ 9223372036854775807) :
    Calls Tryz.prog 38 #[.agg #[.slice ad n cap, .int .i64 0], .int .i64 most] w fun e w' => RefPost w n z (cN n z most) (cE n z most) (.int .i64 (cV n z most)) e w' := by
  have hv := uV_bd (n := n) (z := z) (max most 0) hs.1
  by_cases hE : uE n z (max most 0) = 0
  · by_cases hl : ((n - uN n z (max most 0) : Nat) : Int) < uV n z (max most 0)
    · have e : cE n z most = 2 := by rw [cE, if_pos hE, if_pos hl]
      rw [cV, cN, e, if_neg (by decide), if_neg (by decide)]
      by_cases h0 : most < 0
      · rw [show max most 0 = 0 from by omega] at *
        exact refCount_nlong ad n cap most z w hlc hn hs h0 hE hl
      · rw [show max most 0 = most from by omega] at *
        exact refCount_plong ad n cap most z w hlc hn hs (by omega) hm hE hl
    · have e : cE n z most = 0 := by rw [cE, if_pos hE, if_neg hl]
      rw [cV, cN, e, if_pos rfl, if_pos rfl]
      by_cases h0 : most < 0
      · rw [show max most 0 = 0 from by omega] at *
        exact refCount_nok ad n cap most z w hlc hn hs h0 hE hv.1 hl
      · rw [show max most 0 = most from by omega] at *
        exact refCount_pok ad n cap most z w hlc hn hs (by omega) hm hE hv.1 hl
  · have e : cE n z most = uE n z (max most 0) := by rw [cE, if_neg hE]
    rw [cV, cN, e, if_neg hE, if_neg hE]
    by_cases h0 : most < 0
    · rw [show max most 0 = 0 from by omega] at *
      exact refCount_nerr ad n cap most z w hlc hn hs h0 (by simp [hE])
    · rw [show max most 0 = most from by omega] at *
      exact refCount_perr ad n cap most z w hlc hn hs (by omega) hm (by simp [hE])
end Go.Proofs.YtmekplaonlpfkaaGreatDoor
/- The document's reader by lists. -/
namespace Go.Proofs.YtmekplaonlpfkaaGreatDoor
open Go.RowKit

attribute [local go_sem ↓] Go.wp_at_zero Go.wp_at_succ

set_option maxRecDepth 100000 in
set_option maxHeartbeats 400000 in
theorem refStopUint (ad : Option Addr) (n cap : Nat) (most : Int) (er : Int) (w : World) (he : (er == 0) = false) :
    Calls Tryz.prog 39 #[.agg #[.slice ad n cap, .int .i64 er], .int .u64 most] w fun e w' => e = .returned (.tuple #[.agg #[.slice ad n cap, .int .i64 er], .int .u64 0]) ∧ Below w.heap.size w w' := by
  go_enter Tryz.func39, Tryz.ntmps39
  go_wp2
  exact bodyPost_ret (v := .tuple #[.agg #[.slice ad n cap, .int .i64 er], .int .u64 0]) (by simp [results, Tryz.results39, go_sem]) rfl ⟨rfl, (by repeat (first | exact Below.refl _ _ | refine Below.alloc ?_ (by simp; try omega) _ | refine Below.setCell ?_ (by simp) _ | refine below_drewN ?_ _ | refine Below.drew ?_))⟩
set_option maxRecDepth 100000 in
set_option maxHeartbeats 400000 in
theorem refStopBytes (ad : Option Addr) (n cap : Nat) (most : Int) (er : Int) (w : World) (he : (er == 0) = false) :
    Calls Tryz.prog 40 #[.agg #[.slice ad n cap, .int .i64 er], .int .i64 most] w fun e w' => e = .returned (.tuple #[.agg #[.slice ad n cap, .int .i64 er], .slice none 0 0]) ∧ Below w.heap.size w w' := by
  go_enter Tryz.func40, Tryz.ntmps40
  go_wp2
  exact bodyPost_ret (v := .tuple #[.agg #[.slice ad n cap, .int .i64 er], .slice none 0 0]) (by simp [results, Tryz.results40, go_sem]) rfl ⟨rfl, (by repeat (first | exact Below.refl _ _ | refine Below.alloc ?_ (by simp; try omega) _ | refine Below.setCell ?_ (by simp) _ | refine below_drewN ?_ _ | refine Below.drew ?_))⟩
set_option maxHeartbeats 400000 in
theorem refDone_any (ad : Option Addr) (n cap : Nat) (er : Int) (w : World) :
    Calls Tryz.prog 41 #[.agg #[.slice ad n cap, .int .i64 er]] w fun e w' => e = .returned (.int .i64 (dn n er)) ∧ Below w.heap.size w w' := by
  by_cases he : er = 0
  · subst he
    by_cases hn : 0 < n
    · have : dn n 0 = 3 := by simp [dn, hn]
      rw [this]
      clear this
      have hn' : (0 : Int) < n := by omega
      go_enter Tryz.func41, Tryz.ntmps41
      go_wp2
      go_ret
      exact ⟨rfl, (by repeat (first | exact Below.refl _ _ | refine Below.alloc ?_ (by simp; try omega) _ | refine Below.setCell ?_ (by simp) _ | refine below_drewN ?_ _ | refine Below.drew ?_))⟩
    · have h0 : n = 0 := by omega
      subst h0
      have : dn 0 0 = 0 := by simp [dn]
      rw [this]
      clear this hn
      go_enter Tryz.func41, Tryz.ntmps41
      go_wp2
      go_ret
      exact ⟨rfl, (by repeat (first | exact Below.refl _ _ | refine Below.alloc ?_ (by simp; try omega) _ | refine Below.setCell ?_ (by simp) _ | refine below_drewN ?_ _ | refine Below.drew ?_))⟩
  · have : dn n er = er := by simp [dn, he]
    rw [this]
    have he' : (er == 0) = false := by simp [he]
    clear this he
    go_enter Tryz.func41, Tryz.ntmps41
    go_wp2
    go_ret
    exact ⟨rfl, (by repeat (first | exact Below.refl _ _ | refine Below.alloc ?_ (by simp; try omega) _ | refine Below.setCell ?_ (by simp) _ | refine below_drewN ?_ _ | refine Below.drew ?_))⟩

/-- The document's reader as a value: what is left, or that it has stopped. -/
def DV (w : World) (v : Value) : Option (List Int) → Prop
  | some l => ∃ ad cap, v = .agg #[.slice ad l.length cap, .int .i64 0] ∧ l.length ≤ cap ∧ SlAt w ad l.length (fn l) ∧ l.length ≤ 140737488351232
  | none => ∃ ad n cap er, v = .agg #[.slice ad n cap, .int .i64 er] ∧ er ≠ 0
theorem DV.below {w w' : World} {v : Value} {q : Option (List Int)} (h : DV w v q) (hb : Below w.heap.size w w') : DV w' v q := by
  cases q with
  | some l => obtain ⟨ad, cap, h1, h2, h3, h4⟩ := h; exact ⟨ad, cap, h1, h2, h3.keepB hb, h4⟩
  | none => exact h
theorem SlAt.dropL {w : World} {ad : Option Addr} {l : List Int} {k : Nat} (h : SlAt w ad (l.length - k) (fun j => fn l (j + k))) : SlAt w ad (l.drop k).length (fn (l.drop k)) := by
  rw [List.length_drop]
  exact h.congr fun j _ => (fn_drop l k j).symm
theorem uint_dv (v : Value) (most : Int) (q : Option (List Int)) (w : World) (h : DV w v q) :
    Calls Tryz.prog 39 #[v, .int .u64 most] w fun e w' => ∃ v', e = .returned (.tuple #[v', .int .u64 (((q.bind (uintR most)).map Prod.fst).getD 0)]) ∧ DV w' v' ((q.bind (uintR most)).map Prod.snd) ∧ Below w.heap.size w w' := by
  cases q with
  | none =>
    obtain ⟨ad, n, cap, er, rfl, he⟩ := h
    refine (refStopUint ad n cap most er w (by simpa using he)).mono ?_
    rintro e w' ⟨rfl, hb⟩
    exact ⟨_, rfl, ⟨ad, n, cap, er, rfl, he⟩, hb⟩
  | some l =>
    obtain ⟨ad, cap, rfl, hc, hs, hl⟩ := h
    refine (refUint_any ad l.length cap most (fn l) w hc hl hs).mono ?_
    rintro e w' ⟨ad', cap', rfl, hc', hs', hb⟩
    simp only [Option.bind_some, uintR]
    by_cases hE : uE l.length (fn l) most = 0
    · rw [if_pos hE]
      refine ⟨_, rfl, ⟨ad', cap', ?_, by simpa using hc', hs'.dropL.keepB hb, by simp; omega⟩, hb⟩
      rw [hE, List.length_drop]
    · rw [if_neg hE]
      have hv : uV l.length (fn l) most = 0 := by simp [uV, hE]
      rw [hv]
      exact ⟨_, rfl, ⟨ad', _, cap', _, rfl, hE⟩, hb⟩
theorem count_dv (v : Value) (most : Int) (l : List Int) (w : World) (h : DV w v (some l)) (hm : most ≤ 9223372036854775807) :
    Calls Tryz.prog 38 #[v, .int .i64 most] w fun e w' => ∃ v', e = .returned (.tuple #[v', .int .i64 (((countR most l).map Prod.fst).getD 0)]) ∧ DV w' v' ((countR most l).map Prod.snd) ∧ Below w.heap.size w w' := by
  obtain ⟨ad, cap, rfl, hc, hs, hl⟩ := h
  refine (refCount_any ad l.length cap most (fn l) w hc hl hs hm).mono ?_
  rintro e w' ⟨ad', cap', rfl, hc', hs', hb⟩
  simp only [countR]
  by_cases hE : cE l.length (fn l) most = 0
  · rw [if_pos hE]
    refine ⟨_, rfl, ⟨ad', cap', ?_, by simpa using hc', hs'.dropL.keepB hb, by simp; omega⟩, hb⟩
    rw [hE, List.length_drop]
  · rw [if_neg hE]
    have hv : cV l.length (fn l) most = 0 := by simp [cV, hE]
    rw [hv]
    exact ⟨_, rfl, ⟨ad', _, cap', _, rfl, hE⟩, hb⟩
theorem bytes_dv (v : Value) (most : Int) (q : Option (List Int)) (w : World) (h : DV w v q) :
    Calls Tryz.prog 40 #[v, .int .i64 most] w fun e w' => ∃ v' ad cap, e = .returned (.tuple #[v', .slice ad (((q.bind (bytesR most)).map Prod.fst).getD []).length cap]) ∧ Fresh w w' ad cap (((q.bind (bytesR most)).map Prod.fst).getD []) ∧ DV w' v' ((q.bind (bytesR most)).map Prod.snd) := by
  cases q with
  | none =>
    obtain ⟨ad, n, cap, er, rfl, he⟩ := h
    refine (refStopBytes ad n cap most er w (by simpa using he)).mono ?_
    rintro e w' ⟨rfl, hb⟩
    exact ⟨_, none, 0, rfl, Fresh.nil hb, ⟨ad, n, cap, er, rfl, he⟩⟩
  | some l =>
    obtain ⟨ad, cap, rfl, hc, hs, hl⟩ := h
    refine (refBytes_any ad l.length cap (fn l) most w hc hl hs).mono ?_
    rintro e w' ⟨ad', cap', ad1, cap1, rfl, hc', hs', hF⟩
    have hb : Below w.heap.size w w' := hF.2.2.2.2
    simp only [Option.bind_some, bytesR]
    by_cases hE : (bR l.length (fn l) most).2.2 = 0
    · rw [if_pos hE]
      refine ⟨_, ad1, cap1, rfl, hF, ad', cap', ?_, by simpa using hc', hs'.dropL.keepB hb, by simp; omega⟩
      rw [hE, List.length_drop]
    · rw [if_neg hE]
      have hcs := (bR_cases l.length (fn l) most).2 hE
      rw [hcs.1] at hF ⊢
      exact ⟨_, ad1, cap1, rfl, hF, ad', _, cap', _, rfl, hE⟩
theorem done_dv (v : Value) (q : Option (List Int)) (w : World) (h : DV w v q) :
    Calls Tryz.prog 41 #[v] w fun e w' => (∃ x : Int, e = .returned (.int .i64 x) ∧ (endsR q = true ↔ x = 0)) ∧ Below w.heap.size w w' := by
  cases q with
  | none =>
    obtain ⟨ad, n, cap, er, rfl, he⟩ := h
    refine (refDone_any ad n cap er w).mono ?_
    rintro e w' ⟨rfl, hb⟩
    exact ⟨⟨_, rfl, by simp [endsR, dn, he]⟩, hb⟩
  | some l =>
    obtain ⟨ad, cap, rfl, hc, hs, hl⟩ := h
    refine (refDone_any ad l.length cap 0 w).mono ?_
    rintro e w' ⟨rfl, hb⟩
    exact ⟨⟨_, rfl, by cases l <;> simp [endsR, dn]⟩, hb⟩
end Go.Proofs.YtmekplaonlpfkaaGreatDoor
/- The document's Read, and what Open tells: one and the same. -/
namespace Go.Proofs.YtmekplaonlpfkaaGreatDoor
open Go.RowKit

/-- What is left behind one number. -/
def nxt (most : Int) (q : Option (List Int)) : Option (List Int) := (q.bind (uintR most)).map Prod.snd
theorem stN_front (most : Int) : ∀ (i : Nat) (q : Option (List Int)), stN most (i + 1) q = stN most i (nxt most q)
  | 0, _ => rfl
  | i + 1, q => by
    rw [stN, stN_front most i q]
    rfl
theorem vlN_front (most : Int) (i : Nat) (q : Option (List Int)) : vlN most (i + 1) q = vlN most i (nxt most q) := by
  unfold vlN
  rw [stN_front]
theorem vals_front (most : Int) (k : Nat) (q : Option (List Int)) : vals most (k + 1) q = vlN most 0 q :: vals most k (nxt most q) := by
  unfold vals
  rw [List.range_succ_eq_map, List.map_cons, List.map_map]
  congr 1
  apply List.map_congr_left
  intro i _
  exact vlN_front most i q
/-- The document's Read, from the count on. -/
def readD (last : Int) (rd : Int → List Int) : Nat → Option (List Int) → Int → List Lf → Option (List Lf)
  | 0, q, _, M => if endsR q = true then some M else none
  | k + 1, q, b, M => if vlN last 0 q ≤ b then none else if leafOk M (rd (vlN last 0 q)) = true then readD last rd k (nxt last q) (vlN last 0 q) (putK Lf.k ⟨leafK (rd (vlN last 0 q)), (vlN last 0 q).toNat, leafV (rd (vlN last 0 q))⟩ M) else none
theorem readD_eq (last : Int) (rd : Int → List Int) : ∀ (k : Nat) (q : Option (List Int)) (b : Int) (M : List Lf), readD last rd k q b M = if endsR (stN last k q) = true ∧ riseI b (vals last k q) = true then takeL rd (vals last k q) M else none
  | 0, q, b, M => by
    have e : vals last 0 q = [] := rfl
    rw [readD, e, stN, riseI, takeL]
    simp
  | k + 1, q, b, M => by
    rw [readD, vals_front, stN_front, riseI, takeL]
    by_cases h1 : vlN last 0 q ≤ b
    · simp [h1]
    · rw [if_neg h1, if_neg h1]
      by_cases h2 : leafOk M (rd (vlN last 0 q)) = true
      · rw [if_pos h2, if_pos h2, readD_eq last rd k]
      · rw [if_neg h2, if_neg h2]
        simp
/-- The document's Read of an area. -/
def readR (last : Int) (rd : Int → List Int) : Option (List Lf) :=
  if (rd 0).length = 0 then some [] else readD last rd (((countR last (rd 0)).map Prod.fst).getD 0).toNat ((countR last (rd 0)).map Prod.snd) 0 []
theorem readR_open (last : Int) (rd : Int → List Int) : readR last rd = (rootR last (rd 0)).bind fun ps => takeL rd ps [] := by
  unfold readR rootR
  by_cases h : (rd 0).length = 0
  · rw [if_pos h, if_pos h]; rfl
  · rw [if_neg h, if_neg h, readD_eq]
    split
    · rfl
    · rfl
theorem openR_read (c : Ct) (fr n : Nat) : openR c fr n = readR ((n - 1 : Nat) : Int) (fun x => c.last ((fr + x.toNat : Nat) : Int)) := by
  rw [readR_open]
  rfl
end Go.Proofs.YtmekplaonlpfkaaGreatDoor
/- The root and the leaves are read back. -/
namespace Go.Proofs.YtmekplaonlpfkaaGreatDoor
open Go.RowKit Go.Maps Go.Sort

theorem nums_back {last : Int} (hl : last ≤ 18446744073709551615) : ∀ (ps t : List Int), (∀ x ∈ ps, 0 ≤ x ∧ x ≤ last) → stN last ps.length (some (uBs ps ++ t)) = some t ∧ vals last ps.length (some (uBs ps ++ t)) = ps
  | [], t, _ => ⟨rfl, rfl⟩
  | x :: r, t, h => by
    have hx := h x (List.mem_cons_self ..)
    have e : uBs (x :: r) ++ t = uB x ++ (uBs r ++ t) := by simp [uBs]
    have hu : uintR last (uB x ++ (uBs r ++ t)) = some (x, uBs r ++ t) := uintR_back hx.1 (by omega) hx.2 _
    have hn : nxt last (some (uBs (x :: r) ++ t)) = some (uBs r ++ t) := by unfold nxt; rw [e, Option.bind_some, hu]; rfl
    have hv : vlN last 0 (some (uBs (x :: r) ++ t)) = x := by unfold vlN stN; rw [e, Option.bind_some, hu]; rfl
    obtain ⟨h1, h2⟩ := nums_back hl r t (fun y hy => h y (List.mem_cons_of_mem _ hy))
    rw [List.length_cons, stN_front, vals_front, hn, hv]
    exact ⟨h1, by rw [h2]⟩
theorem uBs_ge (ps : List Int) : ps.length ≤ (uBs ps).length := by
  induction ps with
  | nil => simp
  | cons x r ih =>
    simp only [uBs, List.flatMap_cons, List.length_append, List.length_cons] at *
    have : 0 < (uB x).length := by simp [uB]
    omega
theorem riseI_of : ∀ (ps : List Int) (b : Int), List.Pairwise (· < ·) (b :: ps) → riseI b ps = true
  | [], _, _ => rfl
  | x :: r, b, h => by
    rw [List.pairwise_cons] at h
    have := h.1 x (List.mem_cons_self ..)
    unfold riseI
    rw [if_neg (by omega)]
    exact riseI_of r x h.2
theorem plI_perm (L : List Lf) : (plI L).Perm (L.map fun x => (x.p : Int)) := List.mergeSort_perm _ _
theorem plI_nodup {n : Nat} {L : List Lf} (h : LOk n L) : (plI L).Nodup := by
  rw [(plI_perm L).nodup_iff]
  have h1 := h.apart
  rw [List.Nodup, List.pairwise_map] at h1 ⊢
  exact h1.imp fun {a b} hab e => hab (by omega)
theorem plI_rise {n : Nat} {L : List Lf} (h : LOk n L) : List.Pairwise (· < ·) (plI L) := by
  have hs : (plI L).Pairwise (fun x y => x ≤ y) := by
    unfold plI srtI
    exact (List.pairwise_mergeSort (le := fun x y => decide (x ≤ y)) (fun a b c h1 h2 => by simp at *; omega) (fun a b => by simp; omega) (L.map fun x => (x.p : Int))).imp fun {a b} h => of_decide_eq_true h
  exact (hs.and (plI_nodup h)).imp fun {a b} hab => by have := hab.1; have := hab.2; omega
theorem mem_plI {L : List Lf} {y : Int} : y ∈ plI L ↔ ∃ x ∈ L, (x.p : Int) = y := by
  rw [(plI_perm L).mem_iff, List.mem_map]
theorem root_back {n : Nat} {L : List Lf} (h : LOk n L) (hn : 2 ≤ n ∧ n ≤ 1024) : rootR ((n - 1 : Nat) : Int) (rootB L) = some (plI L) := by
  have hfew := h.few hn.1
  have hb : ∀ x ∈ plI L, 0 ≤ x ∧ x ≤ ((n - 1 : Nat) : Int) := fun x hx => by
    obtain ⟨y, hy, rfl⟩ := mem_plI.1 hx
    have := h.place y hy
    omega
  have hpl := plI_length L
  have hge := uBs_ge (plI L)
  have hc : countR ((n - 1 : Nat) : Int) (rootB L) = some ((L.length : Int), uBs (plI L)) := countR_back (by omega) (by omega) (by omega) _ (by omega)
  obtain ⟨h1, h2⟩ := nums_back (last := ((n - 1 : Nat) : Int)) (by omega) (plI L) [] hb
  rw [List.append_nil, hpl] at h1 h2
  have hr : riseI 0 (plI L) = true := riseI_of _ _ (List.pairwise_cons.2 ⟨fun x hx => by
    obtain ⟨y, hy, rfl⟩ := mem_plI.1 hx
    have := h.place y hy
    omega, plI_rise h⟩)
  unfold rootR
  rw [if_neg (by simp [rootB, uB]), hc]
  simp only [Option.map_some, Option.getD_some, Int.toNat_natCast, h1, h2]
  rw [if_pos ⟨rfl, hr⟩]
theorem p_inj : ∀ {L : List Lf}, (L.map Lf.p).Nodup → ∀ {z y : Lf}, z ∈ L → y ∈ L → z.p = y.p → z = y
  | a :: r, h, z, y, hz, hy, e => by
    rw [List.map_cons, List.nodup_cons] at h
    rcases List.mem_cons.1 hz with rfl | hz2
    · rcases List.mem_cons.1 hy with rfl | hy2
      · rfl
      · exact absurd (List.mem_map.2 ⟨y, hy2, e.symm⟩) h.1
    · rcases List.mem_cons.1 hy with rfl | hy2
      · exact absurd (List.mem_map.2 ⟨z, hz2, e⟩) h.1
      · exact p_inj h.2 hz2 hy2 e
theorem takeL_back {n : Nat} {L : List Lf} (hL : LOk n L) (rd : Int → List Int) : ∀ (ps : List Int) (M : List Lf), Rise Lf.k M → (∀ y ∈ M, y ∈ L ∧ (y.p : Int) ∉ ps) → ps.Nodup → (∀ x ∈ ps, ∃ y ∈ L, (y.p : Int) = x ∧ rd x = leafB y.k y.v) → ∃ M', takeL rd ps M = some M' ∧ Rise Lf.k M' ∧ ∀ y, y ∈ M' ↔ y ∈ M ∨ (y ∈ L ∧ (y.p : Int) ∈ ps)
  | [], M, hM, _, _, _ => ⟨M, rfl, hM, fun y => by simp⟩
  | x :: r, M, hM, hin, hnd, hps => by
    obtain ⟨y, hy, hyp, hrd⟩ := hps x (List.mem_cons_self ..)
    have hlen := hL.len y hy
    obtain ⟨b1, b2, b3⟩ := leaf_back hlen.1 hlen.2
    rw [List.nodup_cons] at hnd
    have hnk : getK Lf.k y.k M = none := (getK_none Lf.k).2 fun z hz e => by
      have := Rise.inj Lf.k hL.rise (hin z hz).1 hy e
      subst this
      exact (hin z hz).2 (by rw [hyp]; exact List.mem_cons_self ..)
    have hok : leafOk M (rd x) = true := by
      unfold leafOk
      rw [hrd, b1, b3, hnk]; rfl
    have ey : (⟨leafK (rd x), x.toNat, leafV (rd x)⟩ : Lf) = y := by
      rw [hrd, b1, b2, ← hyp]
      cases y; rfl
    have hput : ∀ z, z ∈ putK Lf.k y M ↔ z = y ∨ z ∈ M := fun z => by
      rw [mem_putK]
      constructor
      · rintro (h | h)
        · exact .inl h
        · exact .inr h.1
      · rintro (h | h)
        · exact .inl h
        · exact .inr ⟨h, (getK_none Lf.k).1 hnk z h⟩
    obtain ⟨M', h1, h2, h3⟩ := takeL_back hL rd r (putK Lf.k y M) (hM.put Lf.k) (fun z hz => by
      rcases (hput z).1 hz with rfl | hz
      · exact ⟨hy, by rw [hyp]; exact hnd.1⟩
      · exact ⟨(hin z hz).1, fun hr => (hin z hz).2 (List.mem_cons_of_mem _ hr)⟩) hnd.2 (fun z hz => hps z (List.mem_cons_of_mem _ hz))
    refine ⟨M', ?_, h2, fun z => ?_⟩
    · rw [takeL, if_pos hok, ey]; exact h1
    · rw [h3 z, hput z]
      constructor
      · rintro ((rfl | h) | h)
        · exact .inr ⟨hy, by rw [hyp]; exact List.mem_cons_self ..⟩
        · exact .inl h
        · exact .inr ⟨h.1, List.mem_cons_of_mem _ h.2⟩
      · rintro (h | ⟨h, hp⟩)
        · exact .inl (.inr h)
        · rcases List.mem_cons.1 hp with e | hp
          · refine .inl (.inl ?_)
            have hpp : z.p = y.p := by omega
            exact p_inj hL.apart h hy hpp
          · exact .inr ⟨h, hp⟩
/-- What the pages hold: the root and the leaves of L. -/
structure Laid (c : Ct) (fr n : Nat) (L : List Lf) : Prop where
  root : (c.last (fr : Int) = [] ∧ L = []) ∨ c.last (fr : Int) = rootB L
  leaf : ∀ x ∈ L, c.last ((fr + x.p : Nat) : Int) = leafB x.k x.v
theorem open_back {c : Ct} {fr n : Nat} {L : List Lf} (h : Laid c fr n L) (hL : LOk n L) (hn : 2 ≤ n ∧ n ≤ 1024) : openR c fr n = some L := by
  unfold openR
  rcases h.root with ⟨h1, rfl⟩ | h1
  · rw [h1]; rfl
  · rw [h1, root_back hL hn, Option.bind_some]
    obtain ⟨M', h2, h3, h4⟩ := takeL_back hL (fun x => c.last ((fr + x.toNat : Nat) : Int)) (plI L) [] List.Pairwise.nil (fun y hy => by cases hy) (plI_nodup hL) (fun x hx => by
      obtain ⟨y, hy, rfl⟩ := mem_plI.1 hx
      exact ⟨y, hy, rfl, by rw [Int.toNat_natCast]; exact h.leaf y hy⟩)
    rw [h2]
    congr 1
    refine Rise.ext Lf.k h3 hL.rise fun y => ?_
    rw [h4 y]
    constructor
    · rintro (h | h)
      · cases h
      · exact h.1
    · intro hy
      exact .inr ⟨hy, mem_plI.2 ⟨y, hy, rfl⟩⟩
end Go.Proofs.YtmekplaonlpfkaaGreatDoor
/- A Set on an idle store: what the pages hold behind it. -/
namespace Go.Proofs.YtmekplaonlpfkaaGreatDoor
open Go.RowKit Go.Maps Go.Sort

theorem setP_off : ∀ (ws : List (Int × List Int)) (s : List (List Int)) (j : Nat), (∀ x ∈ ws, x.1.toNat ≠ j) → (setP ws s)[j]? = s[j]?
  | [], _, _, _ => rfl
  | x :: r, s, j, h => by
    rw [setP, setP_off r _ j (fun y hy => h y (List.mem_cons_of_mem _ hy)), List.getElem?_set_ne (h x (List.mem_cons_self ..))]
theorem setP_on : ∀ (ws : List (Int × List Int)) (s : List (List Int)) (x : Int × List Int), (ws.map fun y => y.1.toNat).Nodup → x ∈ ws → x.1.toNat < s.length → (setP ws s)[x.1.toNat]? = some x.2
  | y :: r, s, x, hn, hx, hl => by
    rw [List.map_cons, List.nodup_cons] at hn
    rw [setP]
    rcases List.mem_cons.1 hx with rfl | hx2
    · rw [setP_off r _ _ (fun z hz e => hn.1 (List.mem_map.2 ⟨z, hz, e⟩))]
      rw [List.getElem?_set_self hl]
    · exact setP_on r _ x hn.2 hx2 (by simpa using hl)
theorem mem_wsOf {fr : Nat} {ls : List (List Int)} {f : List Nat} {x : Int × List Int} (h : x ∈ wsOf fr ls f) : ∃ q ∈ f, x.1 = ((fr + q : Nat) : Int) := by
  obtain ⟨y, hy, rfl⟩ := List.mem_map.1 h
  exact ⟨y.2, (List.of_mem_zip hy).2, rfl⟩
theorem wsOf_nodup {fr : Nat} : ∀ (ls : List (List Int)) (f : List Nat), f.Nodup → ((wsOf fr ls f).map fun y => y.1.toNat).Nodup
  | [], f, _ => by simp [wsOf]
  | l :: r, [], _ => by simp [wsOf]
  | l :: r, q :: f, h => by
    rw [List.nodup_cons] at h
    have ih := wsOf_nodup (fr := fr) r f h.2
    have e : wsOf fr (l :: r) (q :: f) = (((fr + q : Nat) : Int), l) :: wsOf fr r f := rfl
    rw [e, List.map_cons, List.nodup_cons]
    refine ⟨fun hm => ?_, ih⟩
    obtain ⟨y, hy, hye⟩ := List.mem_map.1 hm
    obtain ⟨q', hq', e'⟩ := mem_wsOf hy
    rw [e'] at hye
    simp only [Int.toNat_natCast] at hye
    have : q' = q := by omega
    subst this
    exact h.1 hq'
/-- A leaf behind some changes: it was there, or is laid. -/
theorem behL_mem {fr : Nat} : ∀ (C : List Cg) (f : List Nat) (M : List Lf) (ls : List (List Int)), layL C = some ls → ls.length ≤ f.length → ∀ y ∈ behL C f M, y ∈ M ∨ (((fr + y.p : Nat) : Int), leafB y.k y.v) ∈ wsOf fr ls f
  | [], f, M, ls, _, _, y, hy => .inl hy
  | c :: r, f, M, ls, hl, hn, y, hy => by
    unfold layL at hl
    unfold behL at hy
    cases hg : c.g with
    | true =>
      rw [hg] at hl hy
      simp only [if_true] at hl hy
      rcases behL_mem (fr := fr) r f (delK Lf.k c.k M) ls hl hn y hy with h | h
      · exact .inl ((mem_delK Lf.k).1 h).1
      · exact .inr h
    | false =>
      rw [hg] at hl hy
      simp only [Bool.false_eq_true, if_false] at hl hy
      split at hl
      · cases hl
      · cases hr : layL r with
        | none => rw [hr] at hl; cases hl
        | some lr =>
          rw [hr] at hl
          simp only [Option.map_some, Option.some.injEq] at hl
          subst hl
          cases f with
          | nil => simp at hn
          | cons q f =>
            have e : wsOf fr (leafB c.k c.v :: lr) (q :: f) = (((fr + q : Nat) : Int), leafB c.k c.v) :: wsOf fr lr f := rfl
            rw [e]
            simp only [List.tail_cons, List.headD_cons] at hy
            rcases behL_mem (fr := fr) r f _ lr hr (by simpa using hn) y hy with h | h
            · rcases (mem_putK Lf.k).1 h with rfl | h
              · exact .inr (List.mem_cons_self ..)
              · exact .inl ((mem_delK Lf.k).1 h.1).1
            · exact .inr (List.mem_cons_of_mem _ h)
theorem frN_nodup (L : List Lf) (n : Nat) : (frN L n).Nodup := List.filter_sublist.nodup List.nodup_range'
theorem mem_frN {L : List Lf} {n q : Nat} : q ∈ frN L n ↔ (1 ≤ q ∧ q < n) ∧ q ∉ L.map Lf.p := by
  unfold frN
  rw [List.mem_filter, List.mem_range'_1]
  constructor
  · rintro ⟨h1, h2⟩
    refine ⟨by omega, fun h => ?_⟩
    rw [heldB_iff.2 h] at h2; cases h2
  · rintro ⟨h1, h2⟩
    refine ⟨by omega, ?_⟩
    cases hh : heldB L q with
    | true => exact absurd (heldB_iff.1 hh) h2
    | false => rfl
/-- A Set keeps the pages in step with the leaves. -/
theorem setI_laid {c : Ct} {fr n N : Nat} {L : List Lf} (cs : List Cg) (hc : c.Idle) (hlen : c.safe.length = N) (hN : fr + n ≤ N) (hL : LOk n L) (hn : 2 ≤ n) (h : Laid c fr n L) : Laid (setI fr n L c cs).2.2 fr n (setI fr n L c cs).2.1 := by
  unfold setI
  cases hl : layL (todoL L cs) with
  | none => exact h
  | some ls =>
    simp only
    split
    · exact h
    · rename_i hfew
      split
      · exact h
      · simp only
        have hid := hc.laid (wsOf fr ls (frN L n) ++ [((fr : Int), rootB (behL (todoL L cs) (frN L n) L))])
        refine ⟨.inr ?_, fun x hx => ?_⟩
        · rw [hid.last]
          simp only [Ct.laid, Int.toNat_natCast]
          rw [setP_append, setP, setP, Int.toNat_natCast, List.getElem?_set_self (by rw [setP_length]; omega)]
          rfl
        · rw [hid.last]
          simp only [Ct.laid, Int.toNat_natCast]
          rcases behL_mem (fr := fr) _ _ _ ls hl (by omega) x hx with hx | hx
          · have hp := hL.place x hx
            rw [setP_append, setP, setP, Int.toNat_natCast, List.getElem?_set_ne (by omega), setP_off _ _ _ (fun y hy => ?_)]
            · have := h.leaf x hx
              rw [hc.last, Int.toNat_natCast] at this
              exact this
            · obtain ⟨q, hq, e⟩ := mem_wsOf hy
              rw [e, Int.toNat_natCast]
              intro e2
              have : q = x.p := by omega
              subst this
              exact (mem_frN.1 hq).2 (List.mem_map.2 ⟨x, hx, rfl⟩)
          · obtain ⟨q, hq, e⟩ := mem_wsOf hx
            have hqb := (mem_frN.1 hq).1
            have hxq : x.p = q := by simp only at e; omega
            have hon := setP_on _ c.safe _ (wsOf_nodup ls _ (frN_nodup L n)) hx (by simp only [Int.toNat_natCast]; omega)
            simp only [Int.toNat_natCast] at hon
            rw [setP_append, setP, setP, Int.toNat_natCast, List.getElem?_set_ne (by omega), hon]
            rfl
theorem newC_laid (fr n N : Nat) : Laid (newC N) fr n [] := ⟨.inl ⟨by
  rw [(newC_idle N).last]
  simp only [newC, Int.toNat_natCast, List.getElem?_replicate]
  split <;> rfl, rfl⟩, fun x hx => by cases hx⟩
end Go.Proofs.YtmekplaonlpfkaaGreatDoor
/- A Set on a store that may crash within it; leaves with the same keys and values. -/
namespace Go.Proofs.YtmekplaonlpfkaaGreatDoor
open Go.RowKit Go.Maps Go.Sort

/-- The same leaves and the same error as the program's. -/
theorem setD_setI {n : Nat} {L : List Lf} (h : LOk n L) (fr : Nat) (c : Ct) (cs : List Cg) : (setD n L cs).1 = (setI fr n L c cs).2.1 ∧ (setD n L cs).2.2.2 = (setI fr n L c cs).1 := by
  have hf := frN_length h
  have e : n - 1 - L.length = (frN L n).length := by omega
  unfold setD setI
  rw [e]
  cases layL (todoL L cs) with
  | none => exact ⟨rfl, rfl⟩
  | some ls =>
    simp only
    split
    · exact ⟨rfl, rfl⟩
    · split
      · rename_i h0
        have h1 : todoL L cs = [] := List.eq_nil_of_length_eq_zero h0
        rw [h1]
        exact ⟨rfl, rfl⟩
      · exact ⟨rfl, rfl⟩
/-- A store that is up, with nothing loose. -/
structure Ct.Rest (c : Ct) (N : Nat) : Prop where
  len : c.safe.length = N
  loose : c.loose = []
  down : c.down = false
  steps : 0 ≤ c.steps ∧ c.steps < 9223372036854775808
theorem Ct.Rest.ok {c : Ct} {N : Nat} (h : c.Rest N) : c.Ok N := ⟨h.len, h.steps, h.down, by rw [h.loose]; simp⟩
theorem newC_rest (n : Nat) : (newC n).Rest n := ⟨by simp [newC], rfl, rfl, ⟨Int.le_refl 0, by show (0 : Int) < _; decide⟩⟩
theorem last_rest {c : Ct} (h : c.loose = []) (pg : Int) : c.last pg = (c.safe[pg.toNat]?).getD [] := by
  unfold Ct.last
  rw [h]
  rfl
theorem step_ok {c : Ct} (hE : c.stepE = 0) (h0 : 0 ≤ c.steps) : ∃ s, c.step = { c with steps := s } ∧ 0 ≤ s ∧ s ≤ c.steps := by
  unfold Ct.stepE at hE
  unfold Ct.step
  by_cases h1 : c.armed = false
  · rw [if_pos h1]; exact ⟨c.steps, rfl, h0, Int.le_refl _⟩
  · rw [if_neg h1] at hE ⊢
    by_cases h2 : 0 < c.steps
    · rw [if_pos h2]; exact ⟨_, rfl, by omega, by omega⟩
    · rw [if_neg h2] at hE; cases hE
theorem step_bad {c : Ct} (hE : c.stepE ≠ 0) : c.stepE = 13 ∧ c.step = { c with down := true } := by
  unfold Ct.stepE at hE ⊢
  unfold Ct.step
  by_cases h1 : c.armed = false
  · rw [if_pos h1] at hE; exact absurd rfl hE
  · rw [if_neg h1] at hE ⊢
    rw [if_neg h1]
    by_cases h2 : 0 < c.steps
    · rw [if_pos h2] at hE; exact absurd rfl hE
    · rw [if_neg h2, if_neg h2]; exact ⟨rfl, rfl⟩
theorem wrs_cases : ∀ (ws : List (Int × List Int)) (c : Ct), 0 ≤ c.steps →
    (∃ s, c.wrs ws = (0, { c with loose := c.loose ++ ws, steps := s }) ∧ 0 ≤ s ∧ s ≤ c.steps) ∨ (∃ j s, c.wrs ws = (13, { c with loose := c.loose ++ ws.take j, steps := s, down := true }) ∧ 0 ≤ s ∧ s ≤ c.steps)
  | [], c, h0 => .inl ⟨c.steps, by simp [Ct.wrs], h0, Int.le_refl _⟩
  | x :: r, c, h0 => by
    rw [Ct.wrs]
    by_cases hE : c.stepE = 0
    · rw [if_pos hE]
      obtain ⟨s, h1, h2, h3⟩ := step_ok (c := c.put x.1 x.2) hE h0
      rw [h1]
      have h3' : s ≤ c.steps := h3
      rcases wrs_cases r { c.put x.1 x.2 with steps := s } h2 with ⟨s', h4, h5, h6⟩ | ⟨j, s', h4, h5, h6⟩
      · refine .inl ⟨s', ?_, h5, Int.le_trans h6 h3'⟩
        rw [h4]; simp [Ct.put]
      · refine .inr ⟨j + 1, s', ?_, h5, Int.le_trans h6 h3'⟩
        rw [h4]; simp [Ct.put]
    · rw [if_neg hE]
      obtain ⟨h1, h2⟩ := step_bad (c := c.put x.1 x.2) hE
      refine .inr ⟨1, c.steps, ?_, h0, Int.le_refl _⟩
      have h1' : c.stepE = 13 := h1
      rw [h2, h1']; simp [Ct.put]
theorem root_cases (c : Ct) (fr : Int) (root : List Int) (hl : c.loose = []) (h0 : 0 ≤ c.steps) :
    (∃ s, c.root fr root = (0, { c with safe := setP [(fr, root)] c.safe, steps := s }) ∧ 0 ≤ s ∧ s ≤ c.steps) ∨ (∃ s, c.root fr root = (13, { c with loose := [(fr, root)], steps := s, down := true }) ∧ 0 ≤ s ∧ s ≤ c.steps) := by
  unfold Ct.root
  by_cases hE : c.stepE = 0
  · rw [if_pos hE]
    obtain ⟨s, h1, h2, h3⟩ := step_ok (c := c.put fr root) hE h0
    have h3' : s ≤ c.steps := h3
    rw [h1]
    obtain ⟨c1, hc1⟩ : ∃ c1, ({ c.put fr root with steps := s } : Ct) = c1 := ⟨_, rfl⟩
    have hs1 : c1.steps = s := by rw [← hc1]
    by_cases hE1 : c1.stepE = 0
    · obtain ⟨s', h4, h5, h6⟩ := step_ok (c := c1) hE1 (by omega)
      refine .inl ⟨s', ?_, h5, by omega⟩
      rw [hc1]
      unfold Ct.sync
      rw [if_pos hE1, hE1, h4, ← hc1]
      simp [Ct.settled, Ct.put, setC_all, hl]
    · obtain ⟨h4, h5⟩ := step_bad (c := c1) hE1
      refine .inr ⟨s, ?_, h2, h3'⟩
      rw [hc1]
      unfold Ct.sync
      rw [if_neg hE1, h4, h5, ← hc1]
      simp [Ct.put, hl]
  · rw [if_neg hE]
    obtain ⟨h1, h2⟩ := step_bad (c := c.put fr root) hE
    have h1' : c.stepE = 13 := h1
    refine .inr ⟨c.steps, ?_, h0, Int.le_refl _⟩
    rw [h2, h1']; simp [Ct.put, hl]
theorem lay_cases (c : Ct) (ws : List (Int × List Int)) (fr : Int) (root : List Int) (hl : c.loose = []) (h0 : 0 ≤ c.steps) :
    (∃ s, c.lay ws fr root = (0, { c with safe := setP (ws ++ [(fr, root)]) c.safe, steps := s }) ∧ 0 ≤ s ∧ s ≤ c.steps)
    ∨ (∃ j s, c.lay ws fr root = (13, { c with loose := ws.take j, steps := s, down := true }) ∧ 0 ≤ s ∧ s ≤ c.steps)
    ∨ (∃ s, c.lay ws fr root = (13, { c with safe := setP ws c.safe, loose := [(fr, root)], steps := s, down := true }) ∧ 0 ≤ s ∧ s ≤ c.steps) := by
  unfold Ct.lay
  rcases wrs_cases ws c h0 with ⟨s, h1, h2, h3⟩ | ⟨j, s, h1, h2, h3⟩
  · rw [h1]
    rw [if_pos rfl]
    by_cases hw : ws = []
    · rw [if_pos hw]
      rcases root_cases { c with loose := c.loose ++ ws, steps := s } fr root (by simp [hl, hw]) h2 with ⟨s', h4, h5, h6⟩ | ⟨s', h4, h5, h6⟩
      · refine .inl ⟨s', ?_, h5, Int.le_trans h6 h3⟩
        dsimp only
        rw [h4]; simp [hl, hw]
      · refine .inr (.inr ⟨s', ?_, h5, Int.le_trans h6 h3⟩)
        dsimp only
        rw [h4]; simp [hw, setP]
    · rw [if_neg hw]
      dsimp only
      obtain ⟨c1, hc1⟩ : ∃ c1, ({ c with loose := c.loose ++ ws, steps := s } : Ct) = c1 := ⟨_, rfl⟩
      rw [hc1]
      have hs1 : c1.steps = s := by rw [← hc1]
      by_cases hE1 : c1.stepE = 0
      · rw [if_pos hE1]
        obtain ⟨s', h4, h5, h6⟩ := step_ok (c := c1) hE1 (by omega)
        have hsy : c1.sync = { c with safe := setP ws c.safe, loose := [], steps := s' } := by
          unfold Ct.sync
          rw [if_pos hE1, h4, ← hc1]
          simp [Ct.settled, setC_all, hl]
        rw [hsy]
        rcases root_cases { c with safe := setP ws c.safe, loose := [], steps := s' } fr root rfl h5 with ⟨s2, h7, h8, h9⟩ | ⟨s2, h7, h8, h9⟩
        · refine .inl ⟨s2, ?_, h8, by have : s2 ≤ s' := h9; omega⟩
          rw [h7]; simp [setP_append, hl]
        · refine .inr (.inr ⟨s2, ?_, h8, by have : s2 ≤ s' := h9; omega⟩)
          rw [h7]
      · rw [if_neg hE1]
        obtain ⟨h4, h5⟩ := step_bad (c := c1) hE1
        refine .inr (.inl ⟨ws.length, s, ?_, h2, h3⟩)
        unfold Ct.sync
        rw [if_neg hE1, h4, h5, ← hc1]
        simp [hl]
  · rw [h1]
    rw [if_neg (show ¬ ((13 : Int) = 0) by decide)]
    exact .inr (.inl ⟨j, s, by simp [hl], h2, h3⟩)
theorem setC_off (K : Nat → Bool) : ∀ (ws : List (Int × List Int)) (i : Nat) (s : List (List Int)) (j : Nat), (∀ x ∈ ws, x.1.toNat ≠ j) → (setC K i ws s)[j]? = s[j]?
  | [], _, _, _, _ => rfl
  | x :: r, i, s, j, h => by
    rw [setC, setC_off K r _ _ j (fun y hy => h y (List.mem_cons_of_mem _ hy))]
    split
    · rw [List.getElem?_set_ne (h x (List.mem_cons_self ..))]
    · rfl
theorem Laid.off {c c' : Ct} {fr n : Nat} {L : List Lf} (h : Laid c fr n L) (hl : c.loose = []) (hl' : c'.loose = []) (hs : ∀ j, (j = fr ∨ ∃ x ∈ L, j = fr + x.p) → c'.safe[j]? = c.safe[j]?) : Laid c' fr n L := by
  have e : ∀ j : Nat, (j = fr ∨ ∃ x ∈ L, j = fr + x.p) → c'.last (j : Int) = c.last (j : Int) := fun j hj => by
    rw [last_rest hl, last_rest hl', Int.toNat_natCast, hs j hj]
  refine ⟨?_, fun x hx => by rw [e _ (.inr ⟨x, hx, rfl⟩)]; exact h.leaf x hx⟩
  rw [e fr (.inl rfl)]
  exact h.root
/-- The pages behind all writes of a Set. -/
theorem laid_done {c : Ct} {fr n N : Nat} {L : List Lf} (cs : List Cg) (hl : c.loose = []) (hlen : c.safe.length = N) (hN : fr + n ≤ N) (hL : LOk n L) (hn : 2 ≤ n) (h : Laid c fr n L) {ls : List (List Int)} (hls : layL (todoL L cs) = some ls) (hf : ¬ (frN L n).length < ls.length) (h0 : ¬ (todoL L cs).length = 0) {c' : Ct} (hl' : c'.loose = []) (hs' : c'.safe = setP (wsOf fr ls (frN L n) ++ [((fr : Int), rootB (behL (todoL L cs) (frN L n) L))]) c.safe) : Laid c' fr n (behL (todoL L cs) (frN L n) L) := by
  have hi : (⟨c.safe, [], false, 0, false⟩ : Ct).Idle := ⟨rfl, rfl, rfl, rfl⟩
  have h1 : Laid ⟨c.safe, [], false, 0, false⟩ fr n L := h.off hl rfl fun _ _ => rfl
  have h2 := setI_laid cs hi hlen hN hL hn h1
  have e : setI fr n L ⟨c.safe, [], false, 0, false⟩ cs = (0, behL (todoL L cs) (frN L n) L, (⟨c.safe, [], false, 0, false⟩ : Ct).laid (wsOf fr ls (frN L n) ++ [((fr : Int), rootB (behL (todoL L cs) (frN L n) L))])) := by
    unfold setI
    rw [hls]
    simp only [if_neg hf, if_neg h0]
  rw [e] at h2
  exact h2.off rfl hl' fun j _ => by rw [hs']; rfl
theorem ws_off {fr n : Nat} {L : List Lf} {ls : List (List Int)} {x : Int × List Int} (hx : x ∈ wsOf fr ls (frN L n)) {j : Nat} (hj : j = fr ∨ ∃ y ∈ L, j = fr + y.p) : x.1.toNat ≠ j := by
  obtain ⟨q, hq, e⟩ := mem_wsOf hx
  have hq2 := mem_frN.1 hq
  rw [e, Int.toNat_natCast]
  intro e2
  rcases hj with rfl | ⟨y, hy, rfl⟩
  · omega
  · have : q = y.p := by omega
    subst this
    exact hq2.2 (List.mem_map.2 ⟨y, hy, rfl⟩)
/-- What a Set leaves, on a store that may crash. -/
theorem setO_rest {c : Ct} {fr n N : Nat} {L : List Lf} (cs : List Cg) (hr : c.Rest N) (hN : fr + n ≤ N) (hL : LOk n L) (hn : 2 ≤ n) (h : Laid c fr n L) :
    ((setO fr n L 0 c cs).1 = (setD n L cs).2.2.2 ∧ (setO fr n L 0 c cs).2.1 = (setD n L cs).1 ∧ (setO fr n L 0 c cs).2.2.1 = 0 ∧ (setO fr n L 0 c cs).2.2.2.Rest N ∧ Laid (setO fr n L 0 c cs).2.2.2 fr n (setD n L cs).1)
    ∨ ((setO fr n L 0 c cs).1 = 13 ∧ (setO fr n L 0 c cs).2.1 = L ∧ (setO fr n L 0 c cs).2.2.1 = 13 ∧ (setO fr n L 0 c cs).2.2.2.down = true ∧ (setO fr n L 0 c cs).2.2.2.safe.length = N ∧ ∀ K, ((setO fr n L 0 c cs).2.2.2.started K).Rest N ∧ (Laid ((setO fr n L 0 c cs).2.2.2.started K) fr n L ∨ Laid ((setO fr n L 0 c cs).2.2.2.started K) fr n (setD n L cs).1)) := by
  have hf := frN_length hL
  have e : n - 1 - L.length = (frN L n).length := by omega
  unfold setO setD
  rw [if_pos rfl, e]
  cases hls : layL (todoL L cs) with
  | none => exact .inl ⟨(by first | exact rfl | exact trivial), (by first | exact rfl | exact trivial), (by first | exact rfl | exact trivial), hr, h⟩
  | some ls =>
    simp only
    by_cases h1 : (frN L n).length < ls.length
    · simp only [if_pos h1]; exact .inl ⟨(by first | exact rfl | exact trivial), (by first | exact rfl | exact trivial), (by first | exact rfl | exact trivial), hr, h⟩
    · simp only [if_neg h1]
      by_cases h2 : (todoL L cs).length = 0
      · simp only [if_pos h2]
        have h3 : todoL L cs = [] := List.eq_nil_of_length_eq_zero h2
        rw [h3]
        exact .inl ⟨(by first | exact rfl | exact trivial), (by first | exact rfl | exact trivial), (by first | exact rfl | exact trivial), hr, h⟩
      · simp only [if_neg h2]
        have hk := fun c' => laid_done (c' := c') cs hr.loose hr.len hN hL hn h hls h1 h2
        obtain ⟨R, hR⟩ : ∃ R, behL (todoL L cs) (frN L n) L = R := ⟨_, rfl⟩
        obtain ⟨ws, hws⟩ : ∃ ws, wsOf fr ls (frN L n) = ws := ⟨_, rfl⟩
        have hoff : ∀ x ∈ ws, ∀ j, (j = fr ∨ ∃ y ∈ L, j = fr + y.p) → x.1.toNat ≠ j := fun x hx j hj => ws_off (hws ▸ hx) hj
        rw [hR, hws] at hk
        rw [hR, hws]
        have hst := hr.steps
        rcases lay_cases c ws (fr : Int) (rootB R) hr.loose hst.1 with ⟨s, e1, e2, e3⟩ | ⟨j, s, e1, e2, e3⟩ | ⟨s, e1, e2, e3⟩
        · rw [e1]
          simp only [if_true]
          exact .inl ⟨(by first | exact rfl | exact trivial), (by first | exact rfl | exact trivial), (by first | exact rfl | exact trivial), ⟨by rw [setP_length]; exact hr.len, hr.loose, hr.down, e2, by show s < 9223372036854775808; omega⟩, hk _ hr.loose rfl⟩
        · rw [e1]
          have h13 : ¬ ((13 : Int) = 0) := by decide
          simp only [if_neg h13]
          refine .inr ⟨(by first | exact rfl | exact trivial), (by first | exact rfl | exact trivial), (by first | exact rfl | exact trivial), (by first | exact rfl | exact trivial), hr.len, fun K => ⟨⟨by simp [Ct.started, Ct.settled, setC_length, hr.len], rfl, rfl, e2, by show s < 9223372036854775808; omega⟩, .inl ?_⟩⟩
          refine h.off hr.loose rfl fun j' hj => ?_
          simp only [Ct.started, Ct.settled]
          exact setC_off K _ _ _ _ fun x hx => hoff x (List.mem_of_mem_take hx) j' hj
        · rw [e1]
          have h13 : ¬ ((13 : Int) = 0) := by decide
          simp only [if_neg h13]
          refine .inr ⟨(by first | exact rfl | exact trivial), (by first | exact rfl | exact trivial), (by first | exact rfl | exact trivial), (by first | exact rfl | exact trivial), by rw [setP_length]; exact hr.len, fun K => ⟨⟨by simp [Ct.started, Ct.settled, setC_length, setP_length, hr.len], rfl, rfl, e2, by show s < 9223372036854775808; omega⟩, ?_⟩⟩
          by_cases hK : K 0 = true
          · refine .inr (hk _ rfl ?_)
            simp [Ct.started, Ct.settled, setC, hK, setP_append, setP]
          · refine .inl (h.off hr.loose rfl fun j' hj => ?_)
            simp only [Ct.started, Ct.settled, setC, if_neg hK]
            exact setP_off _ _ _ fun x hx => hoff x hx j' hj
theorem setD_ok {n : Nat} {L : List Lf} (h : LOk n L) (cs : List Cg) : LOk n (setD n L cs).1 := by
  have hf := frN_length h
  unfold setD
  cases hls : layL (todoL L cs) with
  | none => exact h
  | some ls =>
    simp only
    split
    · exact h
    · rename_i h1
      refine behL_ok _ _ _ (BOk.start h) ?_ (layL_len hls)
      rw [← layL_n hls]; omega
/-- Pairs alone. -/
def behP : List Cg → List (List UInt8 × List UInt8) → List (List UInt8 × List UInt8)
  | [], P => P
  | c :: r, P => if c.g then behP r (delK Prod.fst c.k P) else behP r (putK Prod.fst (c.k, c.v) (delK Prod.fst c.k P))
theorem kvs_del (k : List UInt8) (L : List Lf) : kvs (delK Lf.k k L) = delK Prod.fst k (kvs L) := by
  unfold kvs delK
  rw [List.filter_map]
  rfl
theorem kvs_ins (x : Lf) : ∀ L : List Lf, kvs (insK Lf.k x L) = insK Prod.fst (x.k, x.v) (kvs L)
  | [] => rfl
  | y :: r => by
    have ih := kvs_ins x r
    show kvs (insK Lf.k x (y :: r)) = insK Prod.fst (x.k, x.v) ((y.k, y.v) :: kvs r)
    rw [insK, insK]
    split
    · rfl
    · rw [← ih]; rfl
theorem kvs_put (x : Lf) (L : List Lf) : kvs (putK Lf.k x L) = putK Prod.fst (x.k, x.v) (kvs L) := by
  unfold putK
  rw [kvs_ins, kvs_del]
theorem kvs_beh : ∀ (C : List Cg) (f : List Nat) (L : List Lf), kvs (behL C f L) = behP C (kvs L)
  | [], _, _ => rfl
  | c :: r, f, L => by
    rw [behL, behP]
    split
    · rw [kvs_beh, kvs_del]
    · rw [kvs_beh, kvs_put, kvs_del]
theorem getK_kvs (k : List UInt8) : ∀ L : List Lf, (getK Lf.k k L).map (fun x => (x.k, x.v)) = getK Prod.fst k (kvs L)
  | [] => rfl
  | x :: r => by
    have ih := getK_kvs k r
    unfold getK kvs at *
    rw [List.map_cons, List.find?_cons, List.find?_cons]
    by_cases h : (x.k == k) = true
    · simp [h]
    · simp only [h]
      exact ih
theorem sameC_kvs {L M : List Lf} (h : kvs L = kvs M) (c : Cg) : sameC L c = sameC M c := by
  have e := getK_kvs c.k L
  rw [h, ← getK_kvs c.k M] at e
  unfold sameC
  cases h1 : getK Lf.k c.k L with
  | none =>
    cases h2 : getK Lf.k c.k M with
    | none => rfl
    | some y => rw [h1, h2] at e; cases e
  | some x =>
    cases h2 : getK Lf.k c.k M with
    | none => rw [h1, h2] at e; cases e
    | some y =>
      rw [h1, h2] at e
      simp only [Option.map_some, Option.some.injEq, Prod.mk.injEq] at e
      simp only [e.2]
theorem setD_kvs {n : Nat} {L M : List Lf} (h : kvs L = kvs M) (cs : List Cg) : kvs (setD n L cs).1 = kvs (setD n M cs).1 ∧ (setD n L cs).2.2.2 = (setD n M cs).2.2.2 := by
  have et : todoL L cs = todoL M cs := by
    unfold todoL
    congr 1
    funext c
    rw [sameC_kvs h]
  have el : L.length = M.length := by rw [← kvs_length L, h, kvs_length]
  unfold setD
  rw [et, el]
  cases layL (todoL M cs) with
  | none => exact ⟨h, rfl⟩
  | some ls =>
    simp only
    split
    · exact ⟨h, rfl⟩
    · exact ⟨by rw [kvs_beh, kvs_beh, h], rfl⟩
end Go.Proofs.YtmekplaonlpfkaaGreatDoor
