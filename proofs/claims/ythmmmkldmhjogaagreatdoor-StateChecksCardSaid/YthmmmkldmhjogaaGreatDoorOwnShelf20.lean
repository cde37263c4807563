/- The document's ReadCount. -/
import Derived.Test.YthmmmkldmhjogaaGreatDoorOwnShelf12
import Derived.Test.YthmmmkldmhjogaaGreatDoorOwnShelf19
import Derived.Deep.RegionHeld3
import Derived.Test.YthmmmkldmhjogaaGreatDoorOwnShelf16
import Derived.Test.YthmmmkldmhjogaaGreatDoorOwnShelf14
import Derived.Test.YthmmmkldmhjogaaGreatDoorOwnShelf13
import Derived.Shelf.Abstract
import Derived.Deep.LoopGhost
import Derived.Laws.IdiomCopy
import Derived.Lib.AppendZerosOnto
import Derived.Lib.Overlaps
import Derived.Laws.NewBlocks
import Derived.Lib.Walk
import Derived.Lib.SliceRun
import Derived.Deep.RegionLaw
import Derived.Deep.DrawnRows
import Derived.Shelf.Spec.SlicesInsert
import Derived.Deep.AppendSrc
import Derived.Test.YthmmmkldmhjogaaGreatDoorOwnShelf15
namespace Go.Proofs.YthmmmkldmhjogaaGreatDoor
open Go.RowKit
theorem hid_mk {p : Prop} (h : p) : Hid p := h
theorem fail_b (a : Option Addr) (n c : Nat) (e : Int) (w : World) :
  Calls Tryz.prog 58 #[.agg #[.slice a n c, .int .i64 0], .int .i64 e] w fun ev w' => ev = .returned (.agg #[.slice a n c, .int .i64 e]) ∧ Below w.heap.size w w' :=
 (fail_0 a n c e w).mono fun ev w' ⟨h1, h2⟩ => ⟨h1, by rw [h2]; exact ((Below.refl _ w).alloc (Nat.le_refl _) _).alloc (by simp) _⟩
theorem two_allocs_0 (w : World) (o o' : Obj) : ((w.alloc o).alloc o').heap[w.heap.size]? = some o := by
 rw [Below.heap_alloc _ _ _ (by simp)]; exact heap_alloc_new w o
theorem two_allocs_1 (w : World) (o o' : Obj) : ((w.alloc o).alloc o').heap[w.heap.size + 1]? = some o' := by
 have := heap_alloc_new (w.alloc o) o'
 simpa using this


/-- Bytes do not lie in a document's reader. -/
theorem SlAt.strip {w : World} {ad a : Option Addr} {n m c : Nat} {z : Nat → Int} {e : Int} {t : TypeId} (h : SlAt (w.alloc (.cells #[.slice a m c, .int .i64 e] t)) ad n z) : SlAt w ad n z := by
 refine ⟨h.1, fun hn => ?_⟩
 obtain ⟨b, off, rfl, hc⟩ := h.2 hn
 refine ⟨b, off, rfl, fun j hj => ?_⟩
 have hb : b ≠ w.heap.size := by
  intro e
  subst e
  have h0 := hc 0 hn
  rw [World.cell?, heap_alloc_new] at h0
  match off, h0 with
  | 0, h0 => simp at h0
  | 1, h0 => simp at h0
  | o + 2, h0 => simp at h0
 have hlt : b < w.heap.size := by
  have := World.block_lt_of_cell? _ _ (hc 0 hn)
  simp at this
  omega
 rw [← World.cell?_alloc_lt w _ ⟨b, off + j, none⟩ hlt]
 exact hc j hj

/-- Behind the document's ReadUint, called with two variables laid: they are as they were. -/
theorem cnt_mid {w w3 : World} {o1 o2 : Obj} {o3 : Obj} (hb3 : Below ((w.alloc o1).alloc o2).heap.size ((w.alloc o1).alloc o2) w3) :
  (w3.alloc o3).heap[w.heap.size]? = some o1 ∧ (w3.alloc o3).heap[w.heap.size + 1]? = some o2 ∧ Below w.heap.size w (w3.alloc o3) := by
 have hz : w.heap.size + 2 ≤ w3.heap.size := by have := hb3.size; simpa using this
 refine ⟨?_, ?_, ?_⟩
 ·rw [Below.heap_alloc _ _ _ (by omega), hb3.block _ (by simp; omega)]; exact two_allocs_0 w _ _
 ·rw [Below.heap_alloc _ _ _ (by omega), hb3.block _ (by simp)]; exact two_allocs_1 w _ _
 ·have h1 : Below w.heap.size w w3 := (((Below.refl _ w).alloc (Nat.le_refl _) _).alloc (by simp) _).trans (hb3.mono (by simp; omega))
  exact h1.alloc h1.size _

set_option maxRecDepth 100000 in
set_option maxHeartbeats 400000 in
theorem refCount_nerr (ad : Option Addr) (n cap : Nat) (most : Int) (z : Nat → Int) (w : World) (hlc : n ≤ cap) (hn : n ≤ 140737488351232) (hs : SlAt w ad n z) (hm0 : most < 0)
  (hE : (uE n z 0 == 0) = false) :
  Calls Tryz.prog 27 #[.agg #[.slice ad n cap, .int .i64 0], .int .i64 most] w fun e w' => RefPost w ad n z 0 (uE n z 0) (.int .i64 0) e w' := by
 have hs2 : SlAt ((w.alloc (.cells #[.slice ad n cap, .int .i64 0] 69)).alloc (.cells #[.slice none 0 0, .int .i64 0] 69)) ad n z := hs.frm (((Frm.refl [] w).alloc _).alloc _) (by simp)
 have HS : Hid (SlAt w ad n z) := hs
 clear hs
 go_enter Tryz.func27, Tryz.ntmps27
 go_wp2_with fail
 refine (refRdU_any ad n cap 0 z _ hlc hn hs2).mono ?_
 rintro e w3 ⟨a1, c1, rfl, hc1, hsA, hb3, hsm⟩
 have HSm := hid_mk hsm
 clear hsm
 have HA : Hid (SlAt w a1 (n - uN n z 0) (fun j => z (j + uN n z 0))) := hsA.strip.strip
 have hm4 := cnt_mid (o3 := (.cells #[.slice a1 (n - uN n z 0) c1, .int .i64 (uE n z 0)] 69)) hb3
 have hz3 : w.heap.size + 2 ≤ w3.heap.size := by have := hb3.size; simpa using this
 have hd0 := two_cell0 hm4.2.1
 have hd1 := two_cell1 hm4.2.1
 have hdf := two_free hm4.2.1
 have hdz : w.heap.size + 1 < (w3.alloc (.cells #[.slice a1 (n - uN n z 0) c1, .int .i64 (uE n z 0)] 69)).heap.size := by simp; omega
 have hq0 := two_cell0 hm4.1
 have hq1 := two_cell1 hm4.1
 clear hsA hb3 hs2
 go_wp2_with (go_at_call 58; refine (fail_b _ _ _ _ _).mono ?_; rintro e wf ⟨rfl, hbf⟩; have hf0 := (hbf.cell (p := ⟨w.heap.size + 1, 0, none⟩) hdz).trans hd0; have hf1 := (hbf.cell (p := ⟨w.heap.size + 1, 1, none⟩) hdz).trans hd1; have hff := fun o => (hbf.frozen (p := ⟨w.heap.size + 1, o, none⟩) hdz).trans (hdf o))
 refine bodyPost_ret (v := .tuple #[.agg #[.slice ad n cap, .int .i64 (uE n z 0)], .int .i64 0]) (by simp [results, Tryz.results27, go_sem, hf0, hf1]) rfl ?_
 exact RefPost.err hlc HS.out (((hm4.2.2.trans (hbf.mono (by simp; omega))).setCell (by simp) _).setCell (by simp) _)

set_option maxRecDepth 100000 in
set_option maxHeartbeats 400000 in
theorem refCount_nlong (ad : Option Addr) (n cap : Nat) (most : Int) (z : Nat → Int) (w : World) (hlc : n ≤ cap) (hn : n ≤ 140737488351232) (hs : SlAt w ad n z) (hm0 : most < 0)
  (hE : uE n z 0 = 0) (hl : ((n - uN n z 0 : Nat) : Int) < uV n z 0) :
  Calls Tryz.prog 27 #[.agg #[.slice ad n cap, .int .i64 0], .int .i64 most] w fun e w' => RefPost w ad n z 0 2 (.int .i64 0) e w' := by
 have hs2 : SlAt ((w.alloc (.cells #[.slice ad n cap, .int .i64 0] 69)).alloc (.cells #[.slice none 0 0, .int .i64 0] 69)) ad n z := hs.frm (((Frm.refl [] w).alloc _).alloc _) (by simp)
 have HS : Hid (SlAt w ad n z) := hs
 clear hs
 go_enter Tryz.func27, Tryz.ntmps27
 go_wp2_with fail
 refine (refRdU_any ad n cap 0 z _ hlc hn hs2).mono ?_
 rintro e w3 ⟨a1, c1, rfl, hc1, hsA, hb3, hsm⟩
 have HSm := hid_mk hsm
 clear hsm
 have HA : Hid (SlAt w a1 (n - uN n z 0) (fun j => z (j + uN n z 0))) := hsA.strip.strip
 have hm4 := cnt_mid (o3 := (.cells #[.slice a1 (n - uN n z 0) c1, .int .i64 0] 69)) hb3
 have hz3 : w.heap.size + 2 ≤ w3.heap.size := by have := hb3.size; simpa using this
 have hd0 := two_cell0 hm4.2.1
 have hd1 := two_cell1 hm4.2.1
 have hdf := two_free hm4.2.1
 have hdz : w.heap.size + 1 < (w3.alloc (.cells #[.slice a1 (n - uN n z 0) c1, .int .i64 0] 69)).heap.size := by simp; omega
 have hq0 := two_cell0 hm4.1
 have hq1 := two_cell1 hm4.1
 clear hsA hb3 hs2
 go_wp2_with (go_at_call 58; refine (fail_b _ _ _ _ _).mono ?_; rintro e wf ⟨rfl, hbf⟩; have hf0 := (hbf.cell (p := ⟨w.heap.size + 1, 0, none⟩) hdz).trans hd0; have hf1 := (hbf.cell (p := ⟨w.heap.size + 1, 1, none⟩) hdz).trans hd1; have hff := fun o => (hbf.frozen (p := ⟨w.heap.size + 1, o, none⟩) hdz).trans (hdf o))
 refine bodyPost_ret (v := .tuple #[.agg #[.slice ad n cap, .int .i64 2], .int .i64 0]) (by simp [results, Tryz.results27, go_sem, hf0, hf1]) rfl ?_
 exact RefPost.err hlc HS.out (((hm4.2.2.trans (hbf.mono (by simp; omega))).setCell (by simp) _).setCell (by simp) _)

set_option maxRecDepth 100000 in
set_option maxHeartbeats 400000 in
theorem refCount_nok (ad : Option Addr) (n cap : Nat) (most : Int) (z : Nat → Int) (w : World) (hlc : n ≤ cap) (hn : n ≤ 140737488351232) (hs : SlAt w ad n z) (hm0 : most < 0)
  (hE : uE n z 0 = 0) (hv : 0 ≤ uV n z 0) (hl : ¬ ((n - uN n z 0 : Nat) : Int) < uV n z 0) :
  Calls Tryz.prog 27 #[.agg #[.slice ad n cap, .int .i64 0], .int .i64 most] w fun e w' => RefPost w ad n z (uN n z 0) 0 (.int .i64 (uV n z 0)) e w' := by
 have hs2 : SlAt ((w.alloc (.cells #[.slice ad n cap, .int .i64 0] 69)).alloc (.cells #[.slice none 0 0, .int .i64 0] 69)) ad n z := hs.frm (((Frm.refl [] w).alloc _).alloc _) (by simp)
 have HS : Hid (SlAt w ad n z) := hs
 clear hs
 go_enter Tryz.func27, Tryz.ntmps27
 go_wp2_with fail
 refine (refRdU_any ad n cap 0 z _ hlc hn hs2).mono ?_
 rintro e w3 ⟨a1, c1, rfl, hc1, hsA, hb3, hsm⟩
 have HSm := hid_mk hsm
 clear hsm
 have HA : Hid (SlAt w a1 (n - uN n z 0) (fun j => z (j + uN n z 0))) := hsA.strip.strip
 have hm4 := cnt_mid (o3 := (.cells #[.slice a1 (n - uN n z 0) c1, .int .i64 0] 69)) hb3
 have hz3 : w.heap.size + 2 ≤ w3.heap.size := by have := hb3.size; simpa using this
 have hd0 := two_cell0 hm4.2.1
 have hd1 := two_cell1 hm4.2.1
 have hdf := two_free hm4.2.1
 have hdz : w.heap.size + 1 < (w3.alloc (.cells #[.slice a1 (n - uN n z 0) c1, .int .i64 0] 69)).heap.size := by simp; omega
 have hq0 := two_cell0 hm4.1
 have hq1 := two_cell1 hm4.1
 clear hsA hb3 hs2
 go_wp2
 refine bodyPost_ret (v := .tuple #[.agg #[.slice a1 (n - uN n z 0) c1, .int .i64 0], .int .i64 (uV n z 0)]) (by simp [results, Tryz.results27, go_sem, hd0, hd1]) rfl ?_
 exact ⟨a1, c1, rfl, hc1, HA.out, (hm4.2.2.setCell (by simp) _).setCell (by simp) _, HSm.out⟩

set_option maxRecDepth 100000 in
set_option maxHeartbeats 400000 in
theorem refCount_perr (ad : Option Addr) (n cap : Nat) (most : Int) (z : Nat → Int) (w : World) (hlc : n ≤ cap) (hn : n ≤ 140737488351232) (hs : SlAt w ad n z) (hm0 : 0 ≤ most) (_hm1 : most ≤ 9223372036854775807)
  (hE : (uE n z most == 0) = false) :
  Calls Tryz.prog 27 #[.agg #[.slice ad n cap, .int .i64 0], .int .i64 most] w fun e w' => RefPost w ad n z 0 (uE n z most) (.int .i64 0) e w' := by
 have hs2 : SlAt ((w.alloc (.cells #[.slice ad n cap, .int .i64 0] 69)).alloc (.cells #[.slice none 0 0, .int .i64 0] 69)) ad n z := hs.frm (((Frm.refl [] w).alloc _).alloc _) (by simp)
 have HS : Hid (SlAt w ad n z) := hs
 clear hs
 go_enter Tryz.func27, Tryz.ntmps27
 go_wp2_with fail
 refine (refRdU_any ad n cap most z _ hlc hn hs2).mono ?_
 rintro e w3 ⟨a1, c1, rfl, hc1, hsA, hb3, hsm⟩
 have HSm := hid_mk hsm
 clear hsm
 have HA : Hid (SlAt w a1 (n - uN n z most) (fun j => z (j + uN n z most))) := hsA.strip.strip
 have hm4 := cnt_mid (o3 := (.cells #[.slice a1 (n - uN n z most) c1, .int .i64 (uE n z most)] 69)) hb3
 have hz3 : w.heap.size + 2 ≤ w3.heap.size := by have := hb3.size; simpa using this
 have hd0 := two_cell0 hm4.2.1
 have hd1 := two_cell1 hm4.2.1
 have hdf := two_free hm4.2.1
 have hdz : w.heap.size + 1 < (w3.alloc (.cells #[.slice a1 (n - uN n z most) c1, .int .i64 (uE n z most)] 69)).heap.size := by simp; omega
 have hq0 := two_cell0 hm4.1
 have hq1 := two_cell1 hm4.1
 clear hsA hb3 hs2
 go_wp2_with (go_at_call 58; refine (fail_b _ _ _ _ _).mono ?_; rintro e wf ⟨rfl, hbf⟩; have hf0 := (hbf.cell (p := ⟨w.heap.size + 1, 0, none⟩) hdz).trans hd0; have hf1 := (hbf.cell (p := ⟨w.heap.size + 1, 1, none⟩) hdz).trans hd1; have hff := fun o => (hbf.frozen (p := ⟨w.heap.size + 1, o, none⟩) hdz).trans (hdf o))
 refine bodyPost_ret (v := .tuple #[.agg #[.slice ad n cap, .int .i64 (uE n z most)], .int .i64 0]) (by simp [results, Tryz.results27, go_sem, hf0, hf1]) rfl ?_
 exact RefPost.err hlc HS.out (((hm4.2.2.trans (hbf.mono (by simp; omega))).setCell (by simp) _).setCell (by simp) _)

set_option maxRecDepth 100000 in
set_option maxHeartbeats 400000 in
theorem refCount_plong (ad : Option Addr) (n cap : Nat) (most : Int) (z : Nat → Int) (w : World) (hlc : n ≤ cap) (hn : n ≤ 140737488351232) (hs : SlAt w ad n z) (hm0 : 0 ≤ most) (_hm1 : most ≤ 9223372036854775807)
  (hE : uE n z most = 0) (hl : ((n - uN n z most : Nat) : Int) < uV n z most) :
  Calls Tryz.prog 27 #[.agg #[.slice ad n cap, .int .i64 0], .int .i64 most] w fun e w' => RefPost w ad n z 0 2 (.int .i64 0) e w' := by
 have hs2 : SlAt ((w.alloc (.cells #[.slice ad n cap, .int .i64 0] 69)).alloc (.cells #[.slice none 0 0, .int .i64 0] 69)) ad n z := hs.frm (((Frm.refl [] w).alloc _).alloc _) (by simp)
 have HS : Hid (SlAt w ad n z) := hs
 clear hs
 go_enter Tryz.func27, Tryz.ntmps27
 go_wp2_with fail
 refine (refRdU_any ad n cap most z _ hlc hn hs2).mono ?_
 rintro e w3 ⟨a1, c1, rfl, hc1, hsA, hb3, hsm⟩
 have HSm := hid_mk hsm
 clear hsm
 have HA : Hid (SlAt w a1 (n - uN n z most) (fun j => z (j + uN n z most))) := hsA.strip.strip
 have hm4 := cnt_mid (o3 := (.cells #[.slice a1 (n - uN n z most) c1, .int .i64 0] 69)) hb3
 have hz3 : w.heap.size + 2 ≤ w3.heap.size := by have := hb3.size; simpa using this
 have hd0 := two_cell0 hm4.2.1
 have hd1 := two_cell1 hm4.2.1
 have hdf := two_free hm4.2.1
 have hdz : w.heap.size + 1 < (w3.alloc (.cells #[.slice a1 (n - uN n z most) c1, .int .i64 0] 69)).heap.size := by simp; omega
 have hq0 := two_cell0 hm4.1
 have hq1 := two_cell1 hm4.1
 clear hsA hb3 hs2
 go_wp2_with (go_at_call 58; refine (fail_b _ _ _ _ _).mono ?_; rintro e wf ⟨rfl, hbf⟩; have hf0 := (hbf.cell (p := ⟨w.heap.size + 1, 0, none⟩) hdz).trans hd0; have hf1 := (hbf.cell (p := ⟨w.heap.size + 1, 1, none⟩) hdz).trans hd1; have hff := fun o => (hbf.frozen (p := ⟨w.heap.size + 1, o, none⟩) hdz).trans (hdf o))
 refine bodyPost_ret (v := .tuple #[.agg #[.slice ad n cap, .int .i64 2], .int .i64 0]) (by simp [results, Tryz.results27, go_sem, hf0, hf1]) rfl ?_
 exact RefPost.err hlc HS.out (((hm4.2.2.trans (hbf.mono (by simp; omega))).setCell (by simp) _).setCell (by simp) _)

set_option maxRecDepth 100000 in
set_option maxHeartbeats 400000 in
theorem refCount_pok (ad : Option Addr) (n cap : Nat) (most : Int) (z : Nat → Int) (w : World) (hlc : n ≤ cap) (hn : n ≤ 140737488351232) (hs : SlAt w ad n z) (hm0 : 0 ≤ most) (_hm1 : most ≤ 9223372036854775807)
  (hE : uE n z most = 0) (hv : 0 ≤ uV n z most) (hl : ¬ ((n - uN n z most : Nat) : Int) < uV n z most) :
  Calls Tryz.prog 27 #[.agg #[.slice ad n cap, .int .i64 0], .int .i64 most] w fun e w' => RefPost w ad n z (uN n z most) 0 (.int .i64 (uV n z most)) e w' := by
 have hs2 : SlAt ((w.alloc (.cells #[.slice ad n cap, .int .i64 0] 69)).alloc (.cells #[.slice none 0 0, .int .i64 0] 69)) ad n z := hs.frm (((Frm.refl [] w).alloc _).alloc _) (by simp)
 have HS : Hid (SlAt w ad n z) := hs
 clear hs
 go_enter Tryz.func27, Tryz.ntmps27
 go_wp2_with fail
 refine (refRdU_any ad n cap most z _ hlc hn hs2).mono ?_
 rintro e w3 ⟨a1, c1, rfl, hc1, hsA, hb3, hsm⟩
 have HSm := hid_mk hsm
 clear hsm
 have HA : Hid (SlAt w a1 (n - uN n z most) (fun j => z (j + uN n z most))) := hsA.strip.strip
 have hm4 := cnt_mid (o3 := (.cells #[.slice a1 (n - uN n z most) c1, .int .i64 0] 69)) hb3
 have hz3 : w.heap.size + 2 ≤ w3.heap.size := by have := hb3.size; simpa using this
 have hd0 := two_cell0 hm4.2.1
 have hd1 := two_cell1 hm4.2.1
 have hdf := two_free hm4.2.1
 have hdz : w.heap.size + 1 < (w3.alloc (.cells #[.slice a1 (n - uN n z most) c1, .int .i64 0] 69)).heap.size := by simp; omega
 have hq0 := two_cell0 hm4.1
 have hq1 := two_cell1 hm4.1
 clear hsA hb3 hs2
 go_wp2
 refine bodyPost_ret (v := .tuple #[.agg #[.slice a1 (n - uN n z most) c1, .int .i64 0], .int .i64 (uV n z most)]) (by simp [results, Tryz.results27, go_sem, hd0, hd1]) rfl ?_
 exact ⟨a1, c1, rfl, hc1, HA.out, (hm4.2.2.setCell (by simp) _).setCell (by simp) _, HSm.out⟩


theorem refCount_any (ad : Option Addr) (n cap : Nat) (most : Int) (z : Nat → Int) (w : World) (hlc : n ≤ cap) (hn : n ≤ 140737488351232) (hs : SlAt w ad n z) (hm : most ≤ 9223372036854775807) :
  Calls Tryz.prog 27 #[.agg #[.slice ad n cap, .int .i64 0], .int .i64 most] w fun e w' => RefPost w ad n z (cN n z most) (cE n z most) (.int .i64 (cV n z most)) e w' := by
 have hv := uV_bd (n := n) (z := z) (max most 0) hs.1
 by_cases hE : uE n z (max most 0) = 0
 ·by_cases hl : ((n - uN n z (max most 0) : Nat) : Int) < uV n z (max most 0)
  ·have e : cE n z most = 2 := by rw [cE, if_pos hE, if_pos hl]
   rw [cV, cN, e, if_neg (by decide), if_neg (by decide)]
   by_cases h0 : most < 0
   ·rw [show max most 0 = 0 from by omega] at *
    exact refCount_nlong ad n cap most z w hlc hn hs h0 hE hl
   ·rw [show max most 0 = most from by omega] at *
    exact refCount_plong ad n cap most z w hlc hn hs (by omega) hm hE hl
  ·have e : cE n z most = 0 := by rw [cE, if_pos hE, if_neg hl]
   rw [cV, cN, e, if_pos rfl, if_pos rfl]
   by_cases h0 : most < 0
   ·rw [show max most 0 = 0 from by omega] at *
    exact refCount_nok ad n cap most z w hlc hn hs h0 hE hv.1 hl
   ·rw [show max most 0 = most from by omega] at *
    exact refCount_pok ad n cap most z w hlc hn hs (by omega) hm hE hv.1 hl
 ·have e : cE n z most = uE n z (max most 0) := by rw [cE, if_neg hE]
  rw [cV, cN, e, if_neg hE, if_neg hE]
  by_cases h0 : most < 0
  ·rw [show max most 0 = 0 from by omega] at *
   exact refCount_nerr ad n cap most z w hlc hn hs h0 (by simp [hE])
  ·rw [show max most 0 = most from by omega] at *
   exact refCount_perr ad n cap most z w hlc hn hs (by omega) hm (by simp [hE])
end Go.Proofs.YthmmmkldmhjogaaGreatDoor
/- The document's ReadCount of a reader that has stopped, and its ReadHash. -/
namespace Go.Proofs.YthmmmkldmhjogaaGreatDoor
open Go.RowKit
set_option maxRecDepth 100000 in
set_option maxHeartbeats 400000 in
theorem refStopUint (ad : Option Addr) (n cap : Nat) (most : Int) (er : Int) (w : World) (he : (er == 0) = false) :
  Calls Tryz.prog 57 #[.agg #[.slice ad n cap, .int .i64 er], .int .u64 most] w fun e w' => e = .returned (.tuple #[.agg #[.slice ad n cap, .int .i64 er], .int .u64 0]) ∧ Below w.heap.size w w' := by
 go_enter Tryz.func57, Tryz.ntmps57
 go_wp2
 exact bodyPost_ret (v := .tuple #[.agg #[.slice ad n cap, .int .i64 er], .int .u64 0]) (by simp [results, Tryz.results57, go_sem]) rfl ⟨rfl, (by repeat (first | exact Below.refl _ _ | refine Below.alloc ?_ (by simp; try omega) _ | refine Below.setCell ?_ (by simp) _ | refine Go.below_drewN ?_ _ | refine Below.drew ?_))⟩

set_option maxHeartbeats 400000 in
theorem fail_ne (a : Option Addr) (n c : Nat) (er e : Int) (w : World) (he : (er == 0) = false) :
  Calls Tryz.prog 58 #[.agg #[.slice a n c, .int .i64 er], .int .i64 e] w fun ev w' => ev = .returned (.agg #[.slice a n c, .int .i64 er]) ∧ Below w.heap.size w w' := by
 go_enter Tryz.func58, Tryz.ntmps58
 go_wp2
 exact bodyPost_ret (v := .agg #[.slice a n c, .int .i64 er]) (by simp [results, Tryz.results58, go_sem]) rfl ⟨rfl, (by repeat (first | exact Below.refl _ _ | refine Below.alloc ?_ (by simp; try omega) _ | refine Below.setCell ?_ (by simp) _ | refine Go.below_drewN ?_ _ | refine Below.drew ?_))⟩

set_option maxRecDepth 100000 in
set_option maxHeartbeats 400000 in
theorem refStopCount_n (ad : Option Addr) (n cap : Nat) (most er : Int) (w : World) (he : (er == 0) = false) (hm0 : most < 0) :
  Calls Tryz.prog 27 #[.agg #[.slice ad n cap, .int .i64 er], .int .i64 most] w fun e w' => e = .returned (.tuple #[.agg #[.slice ad n cap, .int .i64 er], .int .i64 0]) ∧ Below w.heap.size w w' := by
 go_enter Tryz.func27, Tryz.ntmps27
 go_wp2_with fail
 refine (refStopUint ad n cap 0 er _ he).mono ?_
 rintro e w3 ⟨rfl, hb3⟩
 have hm4 := cnt_mid (o3 := (.cells #[.slice ad n cap, .int .i64 er] 69)) hb3
 have hz3 : w.heap.size + 2 ≤ w3.heap.size := by have := hb3.size; simpa using this
 have hd0 := two_cell0 hm4.2.1
 have hd1 := two_cell1 hm4.2.1
 have hdf := two_free hm4.2.1
 have hdz : w.heap.size + 1 < (w3.alloc (.cells #[.slice ad n cap, .int .i64 er] 69)).heap.size := by simp; omega
 have hq0 := two_cell0 hm4.1
 have hq1 := two_cell1 hm4.1
 clear hb3
 go_wp2_with (go_at_call 58; refine (fail_ne _ _ _ _ _ _ he).mono ?_; rintro e wf ⟨rfl, hbf⟩; have hf0 := (hbf.cell (p := ⟨w.heap.size + 1, 0, none⟩) hdz).trans hd0; have hf1 := (hbf.cell (p := ⟨w.heap.size + 1, 1, none⟩) hdz).trans hd1; have hff := fun o => (hbf.frozen (p := ⟨w.heap.size + 1, o, none⟩) hdz).trans (hdf o))
 exact bodyPost_ret (v := .tuple #[.agg #[.slice ad n cap, .int .i64 er], .int .i64 0]) (by simp [results, Tryz.results27, go_sem, hf0, hf1]) rfl ⟨rfl, ((hm4.2.2.trans (hbf.mono (by simp; omega))).setCell (by simp) _).setCell (by simp) _⟩

set_option maxRecDepth 100000 in
set_option maxHeartbeats 400000 in
theorem refStopCount_p (ad : Option Addr) (n cap : Nat) (most er : Int) (w : World) (he : (er == 0) = false) (hm0 : 0 ≤ most) (_hm1 : most ≤ 9223372036854775807) :
  Calls Tryz.prog 27 #[.agg #[.slice ad n cap, .int .i64 er], .int .i64 most] w fun e w' => e = .returned (.tuple #[.agg #[.slice ad n cap, .int .i64 er], .int .i64 0]) ∧ Below w.heap.size w w' := by
 go_enter Tryz.func27, Tryz.ntmps27
 go_wp2_with fail
 refine (refStopUint ad n cap most er _ he).mono ?_
 rintro e w3 ⟨rfl, hb3⟩
 have hm4 := cnt_mid (o3 := (.cells #[.slice ad n cap, .int .i64 er] 69)) hb3
 have hz3 : w.heap.size + 2 ≤ w3.heap.size := by have := hb3.size; simpa using this
 have hd0 := two_cell0 hm4.2.1
 have hd1 := two_cell1 hm4.2.1
 have hdf := two_free hm4.2.1
 have hdz : w.heap.size + 1 < (w3.alloc (.cells #[.slice ad n cap, .int .i64 er] 69)).heap.size := by simp; omega
 have hq0 := two_cell0 hm4.1
 have hq1 := two_cell1 hm4.1
 clear hb3
 go_wp2_with (go_at_call 58; refine (fail_ne _ _ _ _ _ _ he).mono ?_; rintro e wf ⟨rfl, hbf⟩; have hf0 := (hbf.cell (p := ⟨w.heap.size + 1, 0, none⟩) hdz).trans hd0; have hf1 := (hbf.cell (p := ⟨w.heap.size + 1, 1, none⟩) hdz).trans hd1; have hff := fun o => (hbf.frozen (p := ⟨w.heap.size + 1, o, none⟩) hdz).trans (hdf o))
 exact bodyPost_ret (v := .tuple #[.agg #[.slice ad n cap, .int .i64 er], .int .i64 0]) (by simp [results, Tryz.results27, go_sem, hf0, hf1]) rfl ⟨rfl, ((hm4.2.2.trans (hbf.mono (by simp; omega))).setCell (by simp) _).setCell (by simp) _⟩

theorem refStopCount (ad : Option Addr) (n cap : Nat) (most er : Int) (w : World) (he : (er == 0) = false) (hm : most ≤ 9223372036854775807) :
  Calls Tryz.prog 27 #[.agg #[.slice ad n cap, .int .i64 er], .int .i64 most] w fun e w' => e = .returned (.tuple #[.agg #[.slice ad n cap, .int .i64 er], .int .i64 0]) ∧ Below w.heap.size w w' := by
 by_cases h0 : most < 0
 ·exact refStopCount_n ad n cap most er w he h0
 ·exact refStopCount_p ad n cap most er w he (by omega) hm

/-- Of the first q bytes z, noughts behind. -/
def mix (z : Nat → Int) (q : Nat) : Nat → Int := fun j => if j < q then z j else 0
theorem mix_step (z : Nat → Int) (q : Nat) : (hv (mix z q)).setIfInBounds q (.int .u8 (z q)) = hv (mix z (q + 1)) := by
 apply Array.ext
 ·simp [hv_size]
 ·intro j h1 h2
  simp [hv_size] at h1
  simp only [hv, bl, mix]
  rw [Array.getElem_setIfInBounds (by simpa [hv_size] using h1)]
  by_cases e : q = j
  ·subst e; simp
  ·rw [if_neg e]
   simp
   by_cases hj : j < q
   ·rw [if_pos hj, if_pos (by omega)]
   ·rw [if_neg hj, if_neg (by omega)]
theorem mix_32 (z : Nat → Int) : hv (mix z 32) = hv z := by
 have h : (List.range 32).map (fun j => Value.int .u8 (mix z 32 j)) = (List.range 32).map (fun j => Value.int .u8 (z j)) := List.map_congr_left (fun j hj => by simp [mix, List.mem_range.1 hj])
 simp only [hv, bl, h]




end Go.Proofs.YthmmmkldmhjogaaGreatDoor
/- The document's ReadHash. -/
namespace Go.Proofs.YthmmmkldmhjogaaGreatDoor
open Go.RowKit

/-- Within 'return r, h': a reader's variable and its result, a sum's result and its variable, one behind the other. -/
def RetS (s : Nat) (cr : Array Value) (z : Nat → Int) (w w' : World) : Prop :=
 w'.heap[s]? = some (.cells cr 69 (0, 0)) ∧ (∃ c : Array Value, c.size = 2 ∧ w'.heap[s + 1]? = some (.cells c 69 (0, 0))) ∧ (∃ u, w'.heap[s + 1 + 1]? = some (.cells (hv u) 48 (0, 0))) ∧ w'.heap[s + 1 + 1 + 1]? = some (.cells (hv z) 48 (0, 0)) ∧ Below s w w'
theorem there_row {w : World} {g : Nat} {c : Array Value} {t : TypeId} (h : w.heap[g]? = some (.cells c t (0, 0))) {n : Nat} (hn : n ≤ c.size) : w.there g 0 n := fun j hj =>
 ⟨by rw [Nat.zero_add, cell_of_row _ _ j _ _ _ h]; simp; omega, by rw [Nat.zero_add]; exact frozen_of_row _ _ j _ _ h⟩
theorem range_row {w : World} {g : Nat} {c : Array Value} {t : TypeId} {fr : Nat × Nat} (h : w.heap[g]? = some (.cells c t fr)) : w.rangeAt g 0 c.toList := fun j v hv => by
 rw [Nat.zero_add, cell_of_row _ _ j _ _ _ h]; simpa using hv
theorem setRow_at {w : World} {g : Nat} {c : Array Value} {t : TypeId} (h : w.heap[g]? = some (.cells c t (0, 0))) {c' : Array Value} (hs : c'.size = c.size) : (w.setCells g 0 c'.toList).heap[g]? = some (.cells c' t (0, 0)) := by
 have := setCells_at g c'.toList 0 w [] c.toList t (by simpa using h) rfl (by simp [hs])
 rw [this]
 simp [hs, List.drop_eq_nil_of_le]
theorem setRow_other {w : World} {g k : Nat} (hk : k ≠ g) (hlt : k < w.heap.size) (l : List Value) : (w.setCells g 0 l).heap[k]? = w.heap[k]? :=
 (setCells_frm g l 0 w).block k hlt (by simp [hk])
theorem Below.setCells {m : Nat} {w w' : World} (h : Below m w w') {g : Nat} (hg : m ≤ g) : ∀ (l : List Value) (o : Nat), Below m w (w'.setCells g o l)
 | [], _ => h
 | v :: r, o => Below.setCells (w' := w'.setCell ⟨g, o, none⟩ v) (h.setCell (by simpa using hg) _) hg r (o + 1)
theorem RetS.drew {s : Nat} {cr : Array Value} {z : Nat → Int} {w w' : World} (h : RetS s cr z w w') : RetS s cr z w w'.drew := ⟨h.1, h.2.1, h.2.2.1, h.2.2.2.1, h.2.2.2.2.drew⟩
theorem RetS.alloc {s : Nat} {cr : Array Value} {z : Nat → Int} {w w' : World} (h : RetS s cr z w w') (o : Obj) : RetS s cr z w (w'.alloc o) := by
 obtain ⟨h0, ⟨c, hc, h1⟩, ⟨u, h2⟩, h3, hb⟩ := h
 have l3 := lt_of_block h3
 exact ⟨(Below.heap_alloc _ _ _ (by omega)).trans h0, ⟨c, hc, (Below.heap_alloc _ _ _ (by omega)).trans h1⟩, ⟨u, (Below.heap_alloc _ _ _ (by omega)).trans h2⟩, (Below.heap_alloc _ _ _ (by omega)).trans h3, hb.alloc (by omega) _⟩
theorem RetS.one {s : Nat} {cr : Array Value} {z : Nat → Int} {w w' : World} (h : RetS s cr z w w') {c' : Array Value} (hs : c'.size = 2) : RetS s cr z w (w'.setCells (s + 1) 0 c'.toList) ∧ (w'.setCells (s + 1) 0 c'.toList).heap[s + 1]? = some (.cells c' 69 (0, 0)) := by
 obtain ⟨h0, ⟨c, hc, h1⟩, ⟨u, h2⟩, h3, hb⟩ := h
 have l0 := lt_of_block h0
 have l2 := lt_of_block h2
 have l3 := lt_of_block h3
 have hh := setRow_at h1 (c' := c') (by rw [hs, hc])
 exact ⟨⟨(setRow_other (by omega) l0 _).trans h0, ⟨c', hs, hh⟩, ⟨u, (setRow_other (by omega) l2 _).trans h2⟩, (setRow_other (by omega) l3 _).trans h3, Below.setCells hb (by omega) _ _⟩, hh⟩
theorem RetS.two {s : Nat} {cr : Array Value} {z : Nat → Int} {w w' : World} (h : RetS s cr z w w') {c' : Array Value} (h1 : w'.heap[s + 1]? = some (.cells c' 69 (0, 0))) (hs : c'.size = 2) : RetS s cr z w (w'.setCells (s + 1 + 1) 0 (hv z).toList) ∧ (w'.setCells (s + 1 + 1) 0 (hv z).toList).heap[s + 1]? = some (.cells c' 69 (0, 0)) ∧ (w'.setCells (s + 1 + 1) 0 (hv z).toList).heap[s + 1 + 1]? = some (.cells (hv z) 48 (0, 0)) := by
 obtain ⟨h0, _, ⟨u, h2⟩, h3, hb⟩ := h
 have l0 := lt_of_block h0
 have l1 := lt_of_block h1
 have l3 := lt_of_block h3
 have hh := setRow_at h2 (c' := hv z) (by simp [hv_size])
 have h1' := (setRow_other (by omega) l1 (hv z).toList (g := s + 1 + 1)).trans h1
 exact ⟨⟨(setRow_other (by omega) l0 _).trans h0, ⟨c', hs, h1'⟩, ⟨z, hh⟩, (setRow_other (by omega) l3 _).trans h3, Below.setCells hb (by omega) _ _⟩, h1', hh⟩
theorem four_ret (w : World) (c1 c2 : Array Value) (h2 : c2.size = 2) : RetS w.heap.size c1 nz w ((((w.alloc (.cells c1 69)).alloc (.cells c2 69)).alloc (.cells (hv nz) 48)).alloc (.cells (hv nz) 48)) := by
 refine ⟨?_, ⟨c2, h2, ?_⟩, ⟨nz, ?_⟩, ?_, ?_⟩
 ·rw [Below.heap_alloc _ _ _ (by simp; omega), Below.heap_alloc _ _ _ (by simp; omega)]
  exact two_allocs_a w _ _
 ·rw [Below.heap_alloc _ _ _ (by simp), Below.heap_alloc _ _ _ (by simp)]
  have := heap_alloc_new (w.alloc (.cells c1 69)) (.cells c2 69)
  simpa using this
 ·have := two_allocs_a ((w.alloc (.cells c1 69)).alloc (.cells c2 69)) (.cells (hv nz) 48) (.cells (hv nz) 48)
  simpa using this
 ·have := heap_alloc_new (((w.alloc (.cells c1 69)).alloc (.cells c2 69)).alloc (.cells (hv nz) 48)) (.cells (hv nz) 48)
  simpa using this
 ·repeat (first | exact Below.refl _ _ | refine Below.alloc ?_ (by simp; try omega) _)
theorem rsz : (Tryz.prog.info? 69).map (·.size) = some 2 := by kernel_rfl
theorem retS_cell {s : Nat} {cr : Array Value} {z : Nat → Int} {w w' : World} (h : RetS s cr z w w') (o : Nat) : w'.cell? ⟨s, o, none⟩ = cr[o]? := cell_of_row _ _ o _ _ _ h.1

theorem results_RH {fn : Func} {p q : Tmp} (h : fn.results = #[.cell p 69, .cell q 48]) (tmps : Array Value) (w : World) (g k : Nat) (c : Array Value) (z : Nat → Int)
  (hp : tmps.getD p undef = .pointer (some ⟨g, 0, none⟩)) (hg : w.heap[g]? = some (.cells c 69 (0, 0))) (hq : tmps.getD q undef = .pointer (some ⟨k, 0, none⟩)) (hk : w.heap[k]? = some (.cells (hv z) 48 (0, 0))) (hc : c.size = 2 := by rfl) :
  (results fn tmps).run Tryz.prog w = .ok (.tuple #[.agg c, .agg (hv z)]) w := by
 have hp' : tmps[p]?.getD undef = .pointer (some ⟨g, 0, none⟩) := by simpa using hp
 have hq' : tmps[q]?.getD undef = .pointer (some ⟨k, 0, none⟩) := by simpa using hq
 have l1 := run_loadVar_row (P := Tryz.prog) w g 69 69 c (0, 0) _ hg Tryz.underlying69 rfl (by rw [hc]; exact rsz)
 have l2 := run_loadVar_row (P := Tryz.prog) w k 48 48 (hv z) (0, 0) _ hk Tryz.underlying48 rfl (hszv z)
 simp [results, h, hp', hq', asAddr, l1, l2]

set_option maxRecDepth 100000 in
set_option maxHeartbeats 1600000 in
theorem refHash_stop (ad : Option Addr) (n cap : Nat) (er : Int) (w : World) (he : (er == 0) = false) :
  Calls Tryz.prog 28 #[.agg #[.slice ad n cap, .int .i64 er]] w fun e w' => e = .returned (.tuple #[.agg #[.slice ad n cap, .int .i64 er], .agg (hv nz)]) ∧ Below w.heap.size w w' := by
 go_enter Tryz.func28, Tryz.ntmps28
 go_wp2_with (first | (refine wpList_allocH rfl rfl ?_))
 have hR := four_ret w #[.slice ad n cap, .int .i64 er] #[.slice none 0 0, .int .i64 0] rfl
 generalize ((((w.alloc (.cells #[.slice ad n cap, .int .i64 er] 69)).alloc (.cells #[.slice none 0 0, .int .i64 0] 69)).alloc (.cells (hv nz) 48)).alloc (.cells (hv nz) 48)) = W at *
 refine wp_region_held_drew (S := RetS w.heap.size #[.slice ad n cap, .int .i64 er] nz w) (by kernel_rfl) hR.drew (fun hHeld => ?_)
 refine wpT (i := 0) (oi := ⟨some 9, .load 69 (.tmp 1), 69, _, _, none⟩) (v := .agg #[.slice ad n cap, .int .i64 er]) rfl (by kernel_rfl) (fun _ _ _ h => h) (yieldsIf_load_mid (by rfl) _ _ rfl w.heap.size 0 rfl [.slice ad n cap, .int .i64 er] _ (fun w' hS => range_row hS.1) Tryz.underlying69 rfl rsz) hHeld ?_
 simp only [Act.put, sqA, sqB, sqC]
 refine wpT (i := 1) (oi := ⟨some 10, .load 48 (.tmp 4), 48, _, _, none⟩) (v := .agg (hv nz)) rfl (by kernel_rfl) (fun _ _ _ h => h) (yieldsIf_load_mid (by rfl) _ _ rfl (w.heap.size + 1 + 1 + 1) 0 rfl (bl nz 32) _ (fun w' hS => by rw [← hv_list]; exact range_row hS.2.2.2.1) Tryz.underlying48 rfl (by rw [bl_length]; exact hsz)) hHeld ?_
 simp only [Act.put, sqA, sqB, sqC]
 refine wpAnyH_ready (rs := [2]) (by kernel_rfl) (by simp) ?_
 refine AllReadyH.cons (o := ⟨none, .store 69 (.tmp 2) (.tmp 9), 0, _, _, none⟩) rfl (fun K hK => ?_) AllReadyH.nil
 rw [if_pos (by rfl)]
 refine wp_store_mid _ _ _ rfl _ 0 #[.slice ad n cap, .int .i64 er] rfl rfl (there_row hHeld.2.1.choose_spec.2 (by rw [hHeld.2.1.choose_spec.1]; exact Nat.le_refl 2)) rsz (by simp [Value.oneCell']) ?_
 have h2 := hHeld.one (c' := #[.slice ad n cap, .int .i64 er]) rfl
 refine hK.out _ _ h2.1 (fun _ => ?_)
 clear hK K
 simp only [Act.put]
 refine wpAnyH_ready (rs := [3]) (by kernel_rfl) (by simp) ?_
 refine AllReadyH.cons (o := ⟨none, .store 48 (.tmp 3) (.tmp 10), 0, _, _, none⟩) rfl (fun K hK => ?_) AllReadyH.nil
 rw [if_pos (by rfl)]
 refine wp_store_mid _ _ _ rfl _ 0 (hv nz) rfl rfl (there_row h2.1.2.2.1.choose_spec (by simp [hv_size])) (hszv nz) (hv_one nz) ?_
 have h3 := h2.1.two h2.2 rfl
 refine hK.out _ _ h3.1 (fun _ => ?_)
 clear hK K
 refine wpAnyH_done (by kernel_rfl) ?_ _
 simp only [Act.put]
 go_wp2_with fail
 exact bodyPost_ret (v := .tuple #[.agg #[.slice ad n cap, .int .i64 er], .agg (hv nz)]) (results_RH Tryz.results28 _ _ _ _ _ _ rfl h3.2.1 rfl h3.2.2) rfl ⟨rfl, h3.1.2.2.2.2⟩
end Go.Proofs.YthmmmkldmhjogaaGreatDoor
/- The document's ReadHash of too few bytes. -/
namespace Go.Proofs.YthmmmkldmhjogaaGreatDoor
open Go.RowKit

set_option maxRecDepth 100000 in
set_option maxHeartbeats 1600000 in
theorem refHash_short (ad : Option Addr) (n cap : Nat) (w : World) (hn : n < 32) :
  Calls Tryz.prog 28 #[.agg #[.slice ad n cap, .int .i64 0]] w fun e w' => e = .returned (.tuple #[.agg #[.slice ad n cap, .int .i64 12], .agg (hv nz)]) ∧ Below w.heap.size w w' := by
 have hni : (n : Int) < 32 := by omega
 go_enter Tryz.func28, Tryz.ntmps28
 go_wp2_with (first | (refine wpList_allocH rfl rfl ?_))
 have hR := four_ret w #[.slice ad n cap, .int .i64 0] #[.slice none 0 0, .int .i64 0] rfl
 generalize ((((w.alloc (.cells #[.slice ad n cap, .int .i64 0] 69)).alloc (.cells #[.slice none 0 0, .int .i64 0] 69)).alloc (.cells (hv nz) 48)).alloc (.cells (hv nz) 48)) = W at *
 refine wp_region_held_drew (S := RetS w.heap.size #[.slice ad n cap, .int .i64 0] nz w) (by kernel_rfl) hR.drew (fun hHeld => ?_)
 refine wpT (i := 0) (oi := ⟨some 15, .load 69 (.tmp 1), 69, _, _, none⟩) (v := .agg #[.slice ad n cap, .int .i64 0]) rfl (by kernel_rfl) (fun _ _ _ h => h) (yieldsIf_load_mid (by rfl) _ _ rfl w.heap.size 0 rfl [.slice ad n cap, .int .i64 0] _ (fun w' hS => range_row hS.1) Tryz.underlying69 rfl rsz) hHeld ?_
 simp only [Act.put, sqA, sqB, sqC]
 refine wpT (i := 2) (oi := ⟨some 17, .load 48 (.tmp 4), 48, _, _, none⟩) (v := .agg (hv nz)) rfl (by kernel_rfl) (fun _ _ _ h => h) (yieldsIf_load_mid (by rfl) _ _ rfl (w.heap.size + 1 + 1 + 1) 0 rfl (bl nz 32) _ (fun w' hS => by rw [← hv_list]; exact range_row hS.2.2.2.1) Tryz.underlying48 rfl (by rw [bl_length]; exact hsz)) hHeld ?_
 simp only [Act.put, sqA, sqB, sqC]
 refine wpAnyH_ready (rs := [1]) (by kernel_rfl) (by simp) ?_
 refine AllReadyH.cons (o := ⟨some 16, .call { callee := .value (.func 58), args := #[.tmp 15, .const (.int .i64 12)], argTypes := #[69, 3] }, 69, _, _, none⟩) rfl (fun K hK => ?_) AllReadyH.nil
 go_simp
 refine (fail_0 _ _ _ _ _).mono ?_
 rintro e w1 ⟨rfl, rfl⟩
 have hHeld := (hHeld.alloc (.cells #[.slice ad n cap, .int .i64 12] 69)).alloc (.cells #[.slice ad n cap, .int .i64 12] 69)
 refine hK.out _ _ hHeld (fun _ => ?_)
 clear hK K
 generalize ((W.drew.alloc (.cells #[.slice ad n cap, .int .i64 12] 69)).alloc (.cells #[.slice ad n cap, .int .i64 12] 69)) = W1 at *
 refine wpAnyH_ready (rs := [3]) (by kernel_rfl) (by simp) ?_
 refine AllReadyH.cons (o := ⟨none, .store 69 (.tmp 2) (.tmp 16), 0, _, _, none⟩) rfl (fun K hK => ?_) AllReadyH.nil
 rw [if_pos (by rfl)]
 refine wp_store_mid _ _ _ rfl _ 0 #[.slice ad n cap, .int .i64 12] rfl rfl (there_row hHeld.2.1.choose_spec.2 (by rw [hHeld.2.1.choose_spec.1]; exact Nat.le_refl 2)) rsz (by simp [Value.oneCell']) ?_
 have h2 := hHeld.one (c' := #[.slice ad n cap, .int .i64 12]) rfl
 refine hK.out _ _ h2.1 (fun _ => ?_)
 clear hK K
 simp only [Act.put]
 refine wpAnyH_ready (rs := [4]) (by kernel_rfl) (by simp) ?_
 refine AllReadyH.cons (o := ⟨none, .store 48 (.tmp 3) (.tmp 17), 0, _, _, none⟩) rfl (fun K hK => ?_) AllReadyH.nil
 rw [if_pos (by rfl)]
 refine wp_store_mid _ _ _ rfl _ 0 (hv nz) rfl rfl (there_row h2.1.2.2.1.choose_spec (by simp [hv_size])) (hszv nz) (hv_one nz) ?_
 have h3 := h2.1.two h2.2 rfl
 refine hK.out _ _ h3.1 (fun _ => ?_)
 clear hK K
 refine wpAnyH_done (by kernel_rfl) ?_ _
 simp only [Act.put]
 go_wp2_with fail
 exact bodyPost_ret (v := .tuple #[.agg #[.slice ad n cap, .int .i64 12], .agg (hv nz)]) (results_RH Tryz.results28 _ _ _ _ _ _ rfl h3.2.1 rfl h3.2.2) rfl ⟨rfl, h3.1.2.2.2.2⟩
end Go.Proofs.YthmmmkldmhjogaaGreatDoor
/- The document's ReadHash of enough bytes. -/
namespace Go.Proofs.YthmmmkldmhjogaaGreatDoor
open Go.RowKit

theorem mix_at (z : Nat → Int) (q : Nat) (hq : q < 32) : (hv (mix z q))[q]? = some (.int .u8 0) := by
 simp [hv, bl, mix, hq]
theorem setCell_mix {w : World} {g q : Nat} {z : Nat → Int} (h : w.heap[g]? = some (.cells (hv (mix z q)) 48 (0, 0))) : (w.setCell ⟨g, q, none⟩ (.int .u8 (z q))).heap[g]? = some (.cells (hv (mix z (q + 1))) 48 (0, 0)) := by
 rw [heap_setCell_same w g q _ _ _ h, mix_step]

theorem RetS.setH {s q : Nat} {cr : Array Value} {z : Nat → Int} {w w' : World} (h : RetS s cr (mix z q) w w') : RetS s cr (mix z (q + 1)) w (w'.setCell ⟨s + 1 + 1 + 1, q, none⟩ (.int .u8 (z q))) := by
 obtain ⟨h0, ⟨c, hc, h1⟩, ⟨u, h2⟩, h3, hb⟩ := h
 exact ⟨(Below.heap_setCell _ _ _ _ (by simp; omega)).trans h0, ⟨c, hc, (Below.heap_setCell _ _ _ _ (by simp)).trans h1⟩, ⟨u, (Below.heap_setCell _ _ _ _ (by simp)).trans h2⟩, setCell_mix h3, hb.setCell (by simp; omega) _⟩
theorem RetS.set0 {s : Nat} {v0 v e : Value} {z : Nat → Int} {w w' : World} (h : RetS s #[v0, e] z w w') : RetS s #[v, e] z w (w'.setCell ⟨s, 0, none⟩ v) := by
 obtain ⟨h0, ⟨c, hc, h1⟩, ⟨u, h2⟩, h3, hb⟩ := h
 exact ⟨two_set0 h0, ⟨c, hc, (Below.heap_setCell _ _ _ _ (by simp)).trans h1⟩, ⟨u, (Below.heap_setCell _ _ _ _ (by simp; omega)).trans h2⟩, (Below.heap_setCell _ _ _ _ (by simp; omega)).trans h3, hb.setCell (by simp) _⟩
/-- The first 32. -/
def cut (z : Nat → Int) : Nat → Int := mix z 32
theorem mix_z32 (z : Nat → Int) : mix z 32 = cut z := rfl
theorem hv_cut (z : Nat → Int) : hv (cut z) = hv z := mix_32 z

/-- What is left behind a sum. -/
def RHPost (w : World) (n : Nat) (z : Nat → Int) (ad : Option Addr) (e : Ending) (w' : World) : Prop :=
 ∃ ad' cap', e = .returned (.tuple #[.agg #[.slice ad' (n - 32) cap', .int .i64 0], .agg (hv z)]) ∧ n - 32 ≤ cap' ∧ (∀ wo, SlAt wo ad n z → SlAt wo ad' (n - 32) (fun j => z (j + 32))) ∧ Below w.heap.size w w'

set_option maxRecDepth 100000 in
set_option maxHeartbeats 1600000 in
theorem refHash_long (b off n cap : Nat) (z : Nat → Int) (w : World) (hn : 32 ≤ n) (hlc : n ≤ cap) (hz : ∀ j, j < n → 0 ≤ z j ∧ z j ≤ 255) (hc : ∀ j, j < n → w.cell? ⟨b, off + j, none⟩ = some (.int .u8 (z j))) :
    Calls Tryz.prog 28 #[.agg #[.slice (some ⟨b, off, none⟩) n cap, .int .i64 0]] w fun e w' => RHPost w n z (some ⟨b, off, none⟩) e w' := by
  have hni : ¬ (n : Int) < 32 := by omega
  have hblt : b < w.heap.size := World.block_lt_of_cell? w ⟨b, off + 0, none⟩ (hc 0 (by omega))
  have HC : Hid (∀ j, j < n → w.cell? ⟨b, off + j, none⟩ = some (.int .u8 (z j))) := hc
  have HZ : Hid (∀ j, j < n → 0 ≤ z j ∧ z j ≤ 255) := hz
  clear hc hz
  go_enter Tryz.func28, Tryz.ntmps28
  go_wp2_with (first | (refine wpList_allocH rfl rfl ?_))
  have hR := four_ret w #[.slice (some ⟨b, off, none⟩) n cap, .int .i64 0] #[.slice none 0 0, .int .i64 0] rfl
  generalize ((((w.alloc (.cells #[.slice (some ⟨b, off, none⟩) n cap, .int .i64 0] 69)).alloc (.cells #[.slice none 0 0, .int .i64 0] 69)).alloc (.cells (hv nz) 48)).alloc (.cells (hv nz) 48)) = W at *
  go_loopw [5] (fun i wr => ∃ q : Nat, q ≤ 32 ∧ i = .int .i64 q ∧ RetS w.heap.size #[.slice (some ⟨b, off, none⟩) n cap, .int .i64 0] (mix z q) w wr) (fun i _ => 33 - (intOf i).toNat)
  case atStart => exact ⟨0, Nat.zero_le _, rfl, by have : mix z 0 = nz := by funext j; simp [mix, nz]
                                                   rw [this]; exact hR⟩
  case round =>
    obtain ⟨q, hq, rfl, hS⟩ := hrel
    have HH : Hid (RetS w.heap.size #[.slice (some ⟨b, off, none⟩) n cap, .int .i64 0] (mix z q) w wr) := hS
    have hc0 := (retS_cell hS 0).trans (show #[Value.slice (some ⟨b, off, none⟩) n cap, .int .i64 0][0]? = some (.slice (some ⟨b, off, none⟩) n cap) from rfl)
    clear hS hR
    by_cases hlt : q < 32
    · have hcz := (HH.out.2.2.2.2.cell (p := ⟨b, off + q, none⟩) hblt).trans (HC.out q (by omega))
      have hzq := HZ.out q (by omega)
      have hcs : wr.cell? ⟨w.heap.size + 1 + 1 + 1, q, none⟩ = some (.int .u8 0) := (cell_of_row _ _ q _ _ _ HH.out.2.2.2.1).trans (mix_at z q hlt)
      have hcf : wr.frozen? ⟨w.heap.size + 1 + 1 + 1, q, none⟩ = false := frozen_of_row _ _ q _ _ HH.out.2.2.2.1
      have hqn : (q : Int) < (n : Int) := by omega
      have hq3 : (q : Int) < 32 := by omega
      go_wp2
      refine ⟨⟨q + 1, by omega, by go_num, HH.out.setH⟩, by simp [intOf]; omega⟩
    · have : q = 32 := by omega
      subst this
      have hf0 : wr.frozen? ⟨w.heap.size, 0, none⟩ = false := frozen_of_row _ _ 0 _ _ HH.out.1
      by_cases hcap : cap = 32
      · subst hcap
        obtain rfl : n = 32 := by omega
        go_wp2
        have hR := (HH.out).set0 (v := .slice (some ⟨b, off, none⟩) 0 0)
        rw [mix_z32] at hR
        generalize (wr.setCell ⟨w.heap.size, 0, none⟩ (.slice (some ⟨b, off, none⟩) 0 0)) = W1 at *
        refine wp_region_held_drew (S := RetS w.heap.size #[.slice (some ⟨b, off, none⟩) 0 0, .int .i64 0] (cut z) w) (by kernel_rfl) hR.drew (fun hHeld => ?_)
        refine wpT (i := 0) (oi := ⟨some 33, .load 69 (.tmp 1), 69, _, _, none⟩) (v := .agg #[.slice (some ⟨b, off, none⟩) 0 0, .int .i64 0]) rfl (by kernel_rfl) (fun _ _ _ h => h) (yieldsIf_load_mid (by rfl) _ _ rfl w.heap.size 0 rfl [.slice (some ⟨b, off, none⟩) 0 0, .int .i64 0] _ (fun w' hS => range_row hS.1) Tryz.underlying69 rfl rsz) hHeld ?_
        simp only [Act.put, sqA, sqB, sqC]
        refine wpT (i := 1) (oi := ⟨some 34, .load 48 (.tmp 4), 48, _, _, none⟩) (v := .agg (hv (cut z))) rfl (by kernel_rfl) (fun _ _ _ h => h) (yieldsIf_load_mid (by rfl) _ _ rfl (w.heap.size + 1 + 1 + 1) 0 rfl (bl (cut z) 32) _ (fun w' hS => by rw [← hv_list]; exact range_row hS.2.2.2.1) Tryz.underlying48 rfl (by rw [bl_length]; exact hsz)) hHeld ?_
        simp only [Act.put, sqA, sqB, sqC]
        refine wpAnyH_ready (rs := [2]) (by kernel_rfl) (by simp) ?_
        refine AllReadyH.cons (o := ⟨none, .store 69 (.tmp 2) (.tmp 33), 0, _, _, none⟩) rfl (fun K hK => ?_) AllReadyH.nil
        rw [if_pos (by rfl)]
        refine wp_store_mid _ _ _ rfl _ 0 #[.slice (some ⟨b, off, none⟩) 0 0, .int .i64 0] rfl rfl (there_row hHeld.2.1.choose_spec.2 (by rw [hHeld.2.1.choose_spec.1]; exact Nat.le_refl 2)) rsz (by simp [Value.oneCell']) ?_
        have h2 := hHeld.one (c' := #[.slice (some ⟨b, off, none⟩) 0 0, .int .i64 0]) rfl
        refine hK.out _ _ h2.1 (fun _ => ?_)
        clear hK K
        simp only [Act.put]
        refine wpAnyH_ready (rs := [3]) (by kernel_rfl) (by simp) ?_
        refine AllReadyH.cons (o := ⟨none, .store 48 (.tmp 3) (.tmp 34), 0, _, _, none⟩) rfl (fun K hK => ?_) AllReadyH.nil
        rw [if_pos (by rfl)]
        refine wp_store_mid _ _ _ rfl _ 0 (hv (cut z)) rfl rfl (there_row h2.1.2.2.1.choose_spec (by simp [hv_size])) (hszv (cut z)) (hv_one (cut z)) ?_
        have h3 := h2.1.two h2.2 rfl
        refine hK.out _ _ h3.1 (fun _ => ?_)
        clear hK K
        refine wpAnyH_done (by kernel_rfl) ?_ _
        simp only [Act.put]
        go_wp2_with fail
        refine bodyPost_ret (v := .tuple #[.agg #[.slice (some ⟨b, off, none⟩) 0 0, .int .i64 0], .agg (hv (cut z))]) (results_RH Tryz.results28 _ _ _ _ _ _ rfl h3.2.1 rfl h3.2.2) rfl ⟨_, _, by rw [hv_cut], by omega, fun wo hwo => ?_, h3.1.2.2.2.2⟩
        exact SlAt.zero _ _
      · go_wp2
        have hR := (HH.out).set0 (v := .slice (some ⟨b, off + 32, none⟩) (n - 32) (cap - 32))
        rw [mix_z32] at hR
        generalize (wr.setCell ⟨w.heap.size, 0, none⟩ (.slice (some ⟨b, off + 32, none⟩) (n - 32) (cap - 32))) = W1 at *
        refine wp_region_held_drew (S := RetS w.heap.size #[.slice (some ⟨b, off + 32, none⟩) (n - 32) (cap - 32), .int .i64 0] (cut z) w) (by kernel_rfl) hR.drew (fun hHeld => ?_)
        refine wpT (i := 0) (oi := ⟨some 33, .load 69 (.tmp 1), 69, _, _, none⟩) (v := .agg #[.slice (some ⟨b, off + 32, none⟩) (n - 32) (cap - 32), .int .i64 0]) rfl (by kernel_rfl) (fun _ _ _ h => h) (yieldsIf_load_mid (by rfl) _ _ rfl w.heap.size 0 rfl [.slice (some ⟨b, off + 32, none⟩) (n - 32) (cap - 32), .int .i64 0] _ (fun w' hS => range_row hS.1) Tryz.underlying69 rfl rsz) hHeld ?_
        simp only [Act.put, sqA, sqB, sqC]
        refine wpT (i := 1) (oi := ⟨some 34, .load 48 (.tmp 4), 48, _, _, none⟩) (v := .agg (hv (cut z))) rfl (by kernel_rfl) (fun _ _ _ h => h) (yieldsIf_load_mid (by rfl) _ _ rfl (w.heap.size + 1 + 1 + 1) 0 rfl (bl (cut z) 32) _ (fun w' hS => by rw [← hv_list]; exact range_row hS.2.2.2.1) Tryz.underlying48 rfl (by rw [bl_length]; exact hsz)) hHeld ?_
        simp only [Act.put, sqA, sqB, sqC]
        refine wpAnyH_ready (rs := [2]) (by kernel_rfl) (by simp) ?_
        refine AllReadyH.cons (o := ⟨none, .store 69 (.tmp 2) (.tmp 33), 0, _, _, none⟩) rfl (fun K hK => ?_) AllReadyH.nil
        rw [if_pos (by rfl)]
        refine wp_store_mid _ _ _ rfl _ 0 #[.slice (some ⟨b, off + 32, none⟩) (n - 32) (cap - 32), .int .i64 0] rfl rfl (there_row hHeld.2.1.choose_spec.2 (by rw [hHeld.2.1.choose_spec.1]; exact Nat.le_refl 2)) rsz (by simp [Value.oneCell']) ?_
        have h2 := hHeld.one (c' := #[.slice (some ⟨b, off + 32, none⟩) (n - 32) (cap - 32), .int .i64 0]) rfl
        refine hK.out _ _ h2.1 (fun _ => ?_)
        clear hK K
        simp only [Act.put]
        refine wpAnyH_ready (rs := [3]) (by kernel_rfl) (by simp) ?_
        refine AllReadyH.cons (o := ⟨none, .store 48 (.tmp 3) (.tmp 34), 0, _, _, none⟩) rfl (fun K hK => ?_) AllReadyH.nil
        rw [if_pos (by rfl)]
        refine wp_store_mid _ _ _ rfl _ 0 (hv (cut z)) rfl rfl (there_row h2.1.2.2.1.choose_spec (by simp [hv_size])) (hszv (cut z)) (hv_one (cut z)) ?_
        have h3 := h2.1.two h2.2 rfl
        refine hK.out _ _ h3.1 (fun _ => ?_)
        clear hK K
        refine wpAnyH_done (by kernel_rfl) ?_ _
        simp only [Act.put]
        go_wp2_with fail
        refine bodyPost_ret (v := .tuple #[.agg #[.slice (some ⟨b, off + 32, none⟩) (n - 32) (cap - 32), .int .i64 0], .agg (hv (cut z))]) (results_RH Tryz.results28 _ _ _ _ _ _ rfl h3.2.1 rfl h3.2.2) rfl ?_
        exact ⟨some ⟨b, off + 32, none⟩, cap - 32, by rw [hv_cut], by omega, fun wo hwo => by have := hwo.drop (k := 32); simpa [Addr.add_lit] using this, h3.1.2.2.2.2⟩
end Go.Proofs.YthmmmkldmhjogaaGreatDoor
/- The document's reader by lists; its numbers up to a bound. -/
namespace Go.Proofs.YthmmmkldmhjogaaGreatDoor
open Go.RowKit

/-- The document's reader, its bytes in a world w0 that came in: what is left, or that it has stopped. -/
def DR (w0 : World) (ad : Option Addr) (n cap : Nat) (er : Int) : Option (List Int) → Prop
 | some l => er = 0 ∧ n = l.length ∧ l.length ≤ cap ∧ SlAt w0 ad l.length (fn l) ∧ l.length ≤ 140737488351232
 | none => (er == 0) = false
theorem SlAt.keepB {w w' : World} {ad : Option Addr} {n : Nat} {z : Nat → Int} (h : SlAt w ad n z) (hb : Below w.heap.size w w') : SlAt w' ad n z := h.block fun b _ hn e => hb.block b (h.lt hn e)
/-- Bytes of the same block as some that lie in w0 lie there, too. -/
theorem SlAt.back {w0 w : World} {ad ad' : Option Addr} {n n' : Nat} {z z' : Nat → Int} (h0 : SlAt w0 ad n z) (hn0 : 0 < n' → 0 < n) (h : SlAt w ad' n' z') (hs : ∀ b off, 0 < n' → ad' = some ⟨b, off, none⟩ → ∃ off0, ad = some ⟨b, off0, none⟩) (hb : Below w0.heap.size w0 w) : SlAt w0 ad' n' z' :=
 h.block fun b off hn e => by
  obtain ⟨off0, e0⟩ := hs b off hn e
  exact (hb.block b (h0.lt (hn0 hn) e0)).symm
theorem SlAt.dropL {w : World} {ad : Option Addr} {l : List Int} {k : Nat} (h : SlAt w ad (l.length - k) (fun j => fn l (j + k))) : SlAt w ad (l.drop k).length (fn (l.drop k)) := by
 rw [List.length_drop]
 exact h.congr fun j _ => (fn_drop l k j).symm
theorem uint_dr (w0 : World) (ad : Option Addr) (n cap : Nat) (er most : Int) (q : Option (List Int)) (w : World) (hb0 : Below w0.heap.size w0 w) (h : DR w0 ad n cap er q) :
  Calls Tryz.prog 57 #[.agg #[.slice ad n cap, .int .i64 er], .int .u64 most] w fun e w' => ∃ ad' n' cap' er', e = .returned (.tuple #[.agg #[.slice ad' n' cap', .int .i64 er'], .int .u64 (numM most q).1]) ∧ DR w0 ad' n' cap' er' (numM most q).2 ∧ Below w.heap.size w w' := by
 unfold numM
 cases q with
 | none =>
  refine (refStopUint ad n cap most er w h).mono ?_
  rintro e w' ⟨rfl, hb⟩
  exact ⟨_, _, _, _, rfl, h, hb⟩
 | some l =>
  obtain ⟨rfl, rfl, hc, hs, hl⟩ := h
  refine (refRdU_any ad l.length cap most (fn l) w hc hl (hs.keepB hb0)).mono ?_
  rintro e w' ⟨ad', cap', rfl, hc', hs', hb, hsm⟩
  simp only [tk, uintR]
  by_cases hE : uE l.length (fn l) most = 0
  ·rw [if_pos hE]
   refine ⟨ad', _, cap', _, rfl, ⟨hE, by rw [List.length_drop], by simpa using hc', (hs.back (by omega) hs' hsm hb0).dropL, by simp; omega⟩, hb⟩
  ·rw [if_neg hE]
   have hv : uV l.length (fn l) most = 0 := by simp [uV, hE]
   rw [hv]
   exact ⟨ad', _, cap', _, rfl, by simpa [DR] using hE, hb⟩
theorem count_dr (w0 : World) (ad : Option Addr) (n cap : Nat) (er most : Int) (q : Option (List Int)) (w : World) (hb0 : Below w0.heap.size w0 w) (h : DR w0 ad n cap er q) (hm : most ≤ 9223372036854775807) :
  Calls Tryz.prog 27 #[.agg #[.slice ad n cap, .int .i64 er], .int .i64 most] w fun e w' => ∃ ad' n' cap' er', e = .returned (.tuple #[.agg #[.slice ad' n' cap', .int .i64 er'], .int .i64 (cntS most q).1]) ∧ DR w0 ad' n' cap' er' (cntS most q).2 ∧ Below w.heap.size w w' := by
 unfold cntS
 cases q with
 | none =>
  refine (refStopCount ad n cap most er w h hm).mono ?_
  rintro e w' ⟨rfl, hb⟩
  exact ⟨_, _, _, _, rfl, h, hb⟩
 | some l =>
  obtain ⟨rfl, rfl, hc, hs, hl⟩ := h
  refine (refCount_any ad l.length cap most (fn l) w hc hl (hs.keepB hb0) hm).mono ?_
  rintro e w' ⟨ad', cap', rfl, hc', hs', hb, hsm⟩
  simp only [tk, countR]
  by_cases hE : cE l.length (fn l) most = 0
  ·rw [if_pos hE]
   refine ⟨ad', _, cap', _, rfl, ⟨hE, by rw [List.length_drop], by simpa using hc', (hs.back (by omega) hs' hsm hb0).dropL, by simp; omega⟩, hb⟩
  ·rw [if_neg hE]
   have hv : cV l.length (fn l) most = 0 := by simp [cV, hE]
   rw [hv]
   exact ⟨ad', _, cap', _, rfl, by simpa [DR] using hE, hb⟩
theorem hash_dr (w0 : World) (ad : Option Addr) (n cap : Nat) (er : Int) (q : Option (List Int)) (w : World) (hb0 : Below w0.heap.size w0 w) (h : DR w0 ad n cap er q) :
  Calls Tryz.prog 28 #[.agg #[.slice ad n cap, .int .i64 er]] w fun e w' => ∃ ad' n' cap' er', e = .returned (.tuple #[.agg #[.slice ad' n' cap', .int .i64 er'], .agg (hv (hshS q).1)]) ∧ DR w0 ad' n' cap' er' (hshS q).2 ∧ Below w.heap.size w w' := by
 unfold hshS
 cases q with
 | none =>
  refine (refHash_stop ad n cap er w h).mono ?_
  rintro e w' ⟨rfl, hb⟩
  exact ⟨_, _, _, _, rfl, h, hb⟩
 | some l =>
  obtain ⟨rfl, rfl, hc, hs, hl⟩ := h
  simp only [tk, hashR]
  by_cases hE : l.length < 32
  ·rw [if_pos hE]
   refine (refHash_short ad l.length cap w hE).mono ?_
   rintro e w' ⟨rfl, hb⟩
   exact ⟨_, _, _, 12, rfl, by simp [DR], hb⟩
  ·rw [if_neg hE]
   have hsw := hs.keepB hb0
   obtain ⟨b, off, rfl, hcs⟩ := hsw.2 (by omega)
   refine (refHash_long b off l.length cap (fn l) w (by omega) hc hsw.1 hcs).mono ?_
   rintro e w' ⟨ad', cap', rfl, hc', hwo, hb⟩
   refine ⟨ad', _, cap', 0, rfl, ⟨rfl, by rw [List.length_drop], by simpa using hc', (hwo w0 hs).dropL, by simp; omega⟩, hb⟩
theorem DR.by {w0 : World} {ad : Option Addr} {n cap : Nat} {er : Int} {q : Option (List Int)} (h : DR w0 ad n cap er q) : ByQ q := by
 rintro l rfl j hj
 exact h.2.2.2.1.1 j hj
theorem numM_bd {q : Option (List Int)} {M : Int} (h : ByQ q) (hM : 0 ≤ M) : 0 ≤ (numM M q).1 ∧ (numM M q).1 ≤ M := by
 unfold numM tk
 cases q with
 | none => exact ⟨Int.le_refl _, hM⟩
 | some l =>
  dsimp only
  cases e : uintR M l with
  | none => exact ⟨Int.le_refl _, hM⟩
  | some x => exact uintR_bd (h l rfl) e
set_option maxHeartbeats 400000 in
theorem done_dr (w0 : World) (ad : Option Addr) (n cap : Nat) (er : Int) (q : Option (List Int)) (w : World) (h : DR w0 ad n cap er q) :
  Calls Tryz.prog 29 #[.agg #[.slice ad n cap, .int .i64 er]] w fun e w' => (∃ x : Int, e = .returned (.int .i64 x) ∧ (q = some [] ↔ x = 0)) ∧ Below w.heap.size w w' := by
 have key : Calls Tryz.prog 29 #[.agg #[.slice ad n cap, .int .i64 er]] w fun e w' => e = .returned (.int .i64 (dn n er)) ∧ Below w.heap.size w w' := by
  clear h
  by_cases he : er = 0
  ·subst he
   by_cases hn : 0 < n
   ·have : dn n 0 = 3 := by simp [dn, hn]
    rw [this]
    clear this
    have hn' : (0 : Int) < n := by omega
    go_enter Tryz.func29, Tryz.ntmps29
    go_wp2
    go_ret
    exact ⟨rfl, (by repeat (first | exact Below.refl _ _ | refine Below.alloc ?_ (by simp; try omega) _ | refine Below.setCell ?_ (by simp) _ | refine Go.below_drewN ?_ _ | refine Below.drew ?_))⟩
   ·have h0 : n = 0 := by omega
    subst h0
    have : dn 0 0 = 0 := by simp [dn]
    rw [this]
    clear this hn
    go_enter Tryz.func29, Tryz.ntmps29
    go_wp2
    go_ret
    exact ⟨rfl, (by repeat (first | exact Below.refl _ _ | refine Below.alloc ?_ (by simp; try omega) _ | refine Below.setCell ?_ (by simp) _ | refine Go.below_drewN ?_ _ | refine Below.drew ?_))⟩
  ·have : dn n er = er := by simp [dn, he]
   rw [this]
   have he' : (er == 0) = false := by simp [he]
   clear this he
   go_enter Tryz.func29, Tryz.ntmps29
   go_wp2
   go_ret
   exact ⟨rfl, (by repeat (first | exact Below.refl _ _ | refine Below.alloc ?_ (by simp; try omega) _ | refine Below.setCell ?_ (by simp) _ | refine Go.below_drewN ?_ _ | refine Below.drew ?_))⟩
 refine key.mono ?_
 rintro e w' ⟨rfl, hb⟩
 refine ⟨⟨_, rfl, ?_⟩, hb⟩
 cases q with
 | none =>
  have he : er ≠ 0 := by simpa [DR] using h
  simp [dn, he]
 | some l =>
  obtain ⟨rfl, rfl, _⟩ := h
  cases l <;> simp [dn]
set_option maxRecDepth 100000 in
set_option maxHeartbeats 800000 in
theorem dnum_any (w0 : World) (ad : Option Addr) (n cap : Nat) (er : Int) (q : Option (List Int)) (w : World) (hb0 : Below w0.heap.size w0 w) (h : DR w0 ad n cap er q) :
  Calls Tryz.prog 26 #[.agg #[.slice ad n cap, .int .i64 er]] w fun e w' => ∃ ad' n' cap' er', e = .returned (.tuple #[.agg #[.slice ad' n' cap', .int .i64 er'], .int .i64 (numM 1125899906842624 q).1]) ∧ DR w0 ad' n' cap' er' (numM 1125899906842624 q).2 ∧ Below w.heap.size w w' := by
 have hbd := numM_bd (M := 1125899906842624) h.by (by decide)
 have hwr : IntKind.i64.wrap (numM 1125899906842624 q).1 = (numM 1125899906842624 q).1 := by rw [IntKind.wrap_i64]; omega
 obtain ⟨hn0, hn1, hsz, hbn⟩ : (((w.alloc (.cells #[.slice ad n cap, .int .i64 er] 69)).alloc (.cells #[.slice none 0 0, .int .i64 0] 69)).heap[w.heap.size]? = some (.cells #[.slice ad n cap, .int .i64 er] 69 (0, 0))) ∧ (((w.alloc (.cells #[.slice ad n cap, .int .i64 er] 69)).alloc (.cells #[.slice none 0 0, .int .i64 0] 69)).heap[w.heap.size + 1]? = some (.cells #[.slice none 0 0, .int .i64 0] 69 (0, 0))) ∧ ((w.alloc (.cells #[.slice ad n cap, .int .i64 er] 69)).alloc (.cells #[.slice none 0 0, .int .i64 0] 69)).heap.size = w.heap.size + 2 ∧ Below w.heap.size w ((w.alloc (.cells #[.slice ad n cap, .int .i64 er] 69)).alloc (.cells #[.slice none 0 0, .int .i64 0] 69)) := ⟨two_allocs_0 w _ _, two_allocs_1 w _ _, by simp, ((Below.refl _ w).alloc (Nat.le_refl _) _).alloc (by simp) _⟩
 have hc := uint_dr w0 ad n cap er 1125899906842624 q _ (hb0.trans (hbn.mono hb0.size)) h
 generalize (numM 1125899906842624 q).1 = x at *
 generalize (numM 1125899906842624 q).2 = q' at *
 clear hbd h hb0
 go_enter Tryz.func26, Tryz.ntmps26
 go_wp2_with fail
 generalize (w.alloc (.cells #[.slice ad n cap, .int .i64 er] 69)).alloc (.cells #[.slice none 0 0, .int .i64 0] 69) = W0 at *
 refine hc.mono ?_
 rintro e w1 ⟨ad', n', cap', er', rfl, hD, hb1⟩
 have k0 : w1.heap[w.heap.size]? = some (.cells #[.slice ad n cap, .int .i64 er] 69 (0, 0)) := by rw [hb1.block _ (lt_of_block hn0)]; exact hn0
 have k1 : w1.heap[w.heap.size + 1]? = some (.cells #[.slice none 0 0, .int .i64 0] 69 (0, 0)) := by rw [hb1.block _ (lt_of_block hn1)]; exact hn1
 have c0 := two_cell0 k0
 have c1 := two_cell1 k0
 have cf := two_free k0
 have d0 := two_cell0 k1
 have d1' := two_cell1 k1
 have df := two_free k1
 have HB : Hid (Below w.heap.size w w1) := hbn.trans (hb1.mono (by omega))
 have HD : Hid (DR w0 ad' n' cap' er' q') := hD
 clear hc hn0 hn1 hsz hbn hb1 k0 k1 hD
 go_wp2
 refine bodyPost_ret (v := .tuple #[.agg #[.slice ad' n' cap', .int .i64 er'], .int .i64 x]) (by simp [results, Tryz.results26, go_sem, d0, d1']) rfl ⟨ad', n', cap', er', rfl, HD.out, ?_⟩
 exact (((HB.out.setCell (by simp) _).setCell (by simp) _).setCell (by simp) _).setCell (by simp) _
end Go.Proofs.YthmmmkldmhjogaaGreatDoor
/- setAside. -/
namespace Go.Proofs.YthmmmkldmhjogaaGreatDoor
open Go.RowKit

end Go.Proofs.YthmmmkldmhjogaaGreatDoor
/- findHold: where an ID is among them. -/
namespace Go.Proofs.YthmmmkldmhjogaaGreatDoor
open Go.RowKit

/-- Numbers that rise. -/
def Srt (f : Nat → Int) (n : Nat) : Prop := ∀ a b, a < b → b < n → f a < f b
/-- Where a number is found. -/
structure FndR (f : Nat → Int) (n : Nat) (x : Int) (i : Nat) (b : Bool) : Prop where
 le : i ≤ n
 hit : b = decide (i < n ∧ f i = x)
 lo : Srt f n → ∀ j, j < i → f j < x
 hi : Srt f n → ∀ j, i ≤ j → j < n → x ≤ f j

end Go.Proofs.YthmmmkldmhjogaaGreatDoor
/- slices.Insert of one element at []state.Hold, into a row of one's own. -/
namespace Go.Proofs.YthmmmkldmhjogaaGreatDoor
open Go.RowKit Go.Lib


end Go.Proofs.YthmmmkldmhjogaaGreatDoor
/- slices.Delete of one element at []state.Hold, out of a row of one's own. -/
namespace Go.Proofs.YthmmmkldmhjogaaGreatDoor
open Go.RowKit Go.Lib


end Go.Proofs.YthmmmkldmhjogaaGreatDoor
/- Rows of holds with one more, one less; a state's variable. -/
namespace Go.Proofs.YthmmmkldmhjogaaGreatDoor
open Go.RowKit

section
variable {ops : Array Oper} {rest : List Oper} {o : Oper} {a : Act} {w : World} {K : Act → World → Prop} {Q : Exit → Act → World → Prop} {E : Prop}
end
/-- A row lies in another block than a state. -/
theorem own_neS {w : World} {B T k n b : Nat} {v : Value} {xs : List Value} {c : Array Value} {fr : Nat × Nat} (h : w.ownsRow B T k v n xs) (hb : w.heap[b]? = some (.cells c 33 fr)) (hT : T ≠ 33) : v.ownBlock ≠ some b := by
 intro e
 rcases h.2 with ⟨rfl, _⟩ | ⟨g, cap, cur, rfl, _, hg, _⟩
 ·cases e
 ·have e1 : g = b := by simpa [Value.ownBlock] using e
  subst e1
  rw [hg] at hb
  simp at hb
  exact hT hb.2.1
theorem SvOw.off {B b : Nat} {w w' : World} {s : Sv} {p : Pl} {A : Nat → Option Addr × Nat} {c : Array Value} {fr : Nat × Nat} (h : SvOw B w s p A) (hb : w.heap[b]? = some (.cells c 33 fr)) (hk : ∀ k, k ≠ b → w'.heap[k]? = w.heap[k]?) : SvOw B w' s p A :=
 ⟨h.lk, own_keep h.py (fun g e => hk g (fun e2 => own_neS h.py hb (by decide) (by rw [e, e2]))), own_keep h.hd (fun g e => hk g (fun e2 => own_neS h.hd hb (by decide) (by rw [e, e2]))), fun i hi => own_keep (h.ks i hi) (fun g e => hk g (fun e2 => own_neS (h.ks i hi) hb (by decide) (by rw [e, e2])))⟩
end Go.Proofs.YthmmmkldmhjogaaGreatDoor
