/- Sorted and made single: what the program's All and the document's have in common. -/
import Derived.Test.YtjnepkggdkccaaaGreatDoorOwnShelf14
import Derived.Shelf.Slices.In.SortNone
import Derived.Test.YtjnepkggdkccaaaGreatDoorOwnShelf11
import Derived.Test.YtjnepkggdkccaaaGreatDoorOwnShelf01
import Derived.Great.Ranges
import Derived.Deep.MidRow
import Derived.Shelf.Abstract
import Derived.Maps.OwnSet
import Derived.DeepKeys4
namespace Go.Proofs.YtjnepkggdkccaaaGreatDoor.Cd
open Go.RowKit

/-- Ascending, each once. -/
def Asc (L : List Int) : Prop := L.Pairwise (· < ·)
theorem asc_ext {L M : List Int} (hL : Asc L) (hM : Asc M) (h : ∀ x, x ∈ L ↔ x ∈ M) : L = M := by
 induction L generalizing M with
 | nil =>
  cases M with
  | nil => rfl
  | cons y r => have := (h y).2 (by simp); simp at this
 | cons x l ih =>
  cases M with
  | nil => have := (h x).1 (by simp); simp at this
  | cons y r =>
   have hx := List.pairwise_cons.1 hL
   have hy := List.pairwise_cons.1 hM
   have e : x = y := by
    rcases List.mem_cons.1 ((h x).1 (by simp)) with e | e
    ·exact e
    ·rcases List.mem_cons.1 ((h y).2 (by simp)) with e2 | e2
     ·exact e2.symm
     ·have := hy.1 x e; have := hx.1 y e2; omega
   subst e
   rw [ih hx.2 hy.2 (fun z => ?_)]
   constructor
   ·intro hz
    rcases List.mem_cons.1 ((h z).1 (List.mem_cons_of_mem _ hz)) with e | e
    ·subst e; have := hx.1 z hz; omega
    ·exact e
   ·intro hz
    rcases List.mem_cons.1 ((h z).2 (List.mem_cons_of_mem _ hz)) with e | e
    ·subst e; have := hy.1 z hz; omega
    ·exact e
theorem insK_asc {L : List Int} (k : Int) (h : Asc L) : Asc (insK L k) ∧ ∀ x, x ∈ insK L k ↔ x ∈ L ∨ x = k := by
 induction L with
 | nil => simp [insK, Asc, atK]
 | cons y r ih =>
  have hy := List.pairwise_cons.1 h
  obtain ⟨i1, i2⟩ := ih hy.2
  by_cases hm : (y :: r).contains k = true
  ·unfold insK
   rw [if_pos hm]
   refine ⟨h, fun x => ⟨.inl, fun hx => ?_⟩⟩
   rcases hx with hx | hx
   ·exact hx
   ·subst hx; simpa using hm
  ·have hm0 : insK (y :: r) k = if y < k then y :: insK r k else k :: y :: r := by
    unfold insK
    rw [if_neg hm]
    have hmr : ¬ r.contains k = true := fun e => hm (by simp at e ⊢; exact .inr e)
    rw [if_neg hmr]
    simp only [atK]
    split <;> simp
   rw [hm0]
   have hne : y ≠ k := fun e => hm (by simp [e])
   split
   ·rename_i hlt
    refine ⟨List.pairwise_cons.2 ⟨fun x hx => ?_, i1⟩, fun x => ?_⟩
    ·rcases (i2 x).1 hx with h1 | h1
     ·exact hy.1 x h1
     ·rw [h1]; exact hlt
    ·simp only [List.mem_cons, i2 x]
     constructor
     ·rintro (h | h | h) <;> simp [h]
     ·rintro ((h | h) | h) <;> simp [h]
   ·rename_i hlt
    refine ⟨List.pairwise_cons.2 ⟨fun x hx => ?_, h⟩, fun x => ?_⟩
    ·rcases List.mem_cons.1 hx with e | e
     ·rw [e]; omega
     ·have := hy.1 x e; omega
    ·simp only [List.mem_cons]
     constructor
     ·rintro (h | h | h) <;> simp [h]
     ·rintro ((h | h) | h) <;> simp [h]
theorem insL_asc (z : Nat → Int) : ∀ n, Asc (insL z n) ∧ ∀ x, x ∈ insL z n ↔ x ∈ keysL z n
 | 0 => by simp [insL, Asc, keysL]
 | n + 1 => by
  obtain ⟨h1, h2⟩ := insL_asc z n
  obtain ⟨h3, h4⟩ := insK_asc (z n) h1
  refine ⟨h3, fun x => ?_⟩
  simp only [insL, h4 x, h2 x, keysL, List.range_succ, List.map_append, List.mem_append, List.map_cons, List.map_nil, List.mem_singleton]
theorem srt_sorted (l : List Int) : (srt l).Pairwise (· ≤ ·) := by
 have := List.pairwise_mergeSort (le := fun (x y : Int) => decide (x ≤ y)) (by intro a b c; simp; omega) (by intro a b; simp; omega) l
 simpa [srt] using this
theorem sorted_le {l : List Int} (h : l.Pairwise (· ≤ ·)) {i j : Nat} (hij : i ≤ j) (hj : j < l.length) : l.toArray[i]! ≤ l.toArray[j]! := by
 have hi : i < l.length := by omega
 rw [getElem!_pos _ i (by simpa using hi), getElem!_pos _ j (by simpa using hj)]
 rcases Nat.lt_or_eq_of_le hij with h1 | h1
 ·exact List.pairwise_iff_getElem.1 h i j hi hj h1
 ·subst h1; exact Int.le_refl _
theorem kept {l : List Int} : ∀ j, j < l.length → ∃ q, q ≤ j ∧ Lib.keeps l.toArray q = true ∧ l.toArray[q]! = l.toArray[j]!
 | 0, _ => ⟨0, Nat.le_refl _, Lib.keeps_lt_one _ 0 (by omega), rfl⟩
 | j + 1, h => by
  by_cases e : l.toArray[j + 1]! = l.toArray[j]!
  ·obtain ⟨q, h1, h2, h3⟩ := kept (l := l) j (by omega)
   exact ⟨q, by omega, h2, by rw [h3, e]⟩
  ·exact ⟨j + 1, Nat.le_refl _, Lib.keeps_pos (by simpa using e), rfl⟩
theorem comp_all (l : List Int) (h : l.Pairwise (· ≤ ·)) : Asc (Lib.compact l) ∧ ∀ x, x ∈ Lib.compact l ↔ x ∈ l := by
 refine ⟨?_, fun x => ⟨compact_mem, fun hx => ?_⟩⟩
 ·unfold Asc Lib.compact Lib.compactUpTo
  rw [List.pairwise_map]
  have hr : (List.range l.length).Pairwise (· < ·) := List.pairwise_lt_range
  refine (hr.filter (Lib.keeps l.toArray)).imp_of_mem (fun {a b} ha hb hab => ?_)
  have hb1 := List.mem_filter.1 hb
  have hbl : b < l.length := List.mem_range.1 hb1.1
  have hne : l.toArray[b]! ≠ l.toArray[b - 1]! := fun e => by
   have := Lib.keeps_neg (by omega) e
   rw [this] at hb1
   exact absurd hb1.2 (by simp)
  have h1 := sorted_le h (show a ≤ b - 1 by omega) (by omega)
  have h2 := sorted_le h (show b - 1 ≤ b by omega) hbl
  omega
 ·obtain ⟨j, hj, rfl⟩ := List.mem_iff_getElem.1 hx
  obtain ⟨q, h1, h2, h3⟩ := kept j hj
  unfold Lib.compact Lib.compactUpTo
  refine List.mem_map.2 ⟨q, List.mem_filter.2 ⟨List.mem_range.2 (by omega), h2⟩, ?_⟩
  show l.toArray[q]! = l[j]
  rw [h3, getElem!_pos _ j (by simpa using hj)]
  simp
theorem all_same (z : Nat → Int) (n : Nat) : Lib.compact (srt (keysL z n)) = insL z n := by
 obtain ⟨h1, h2⟩ := comp_all _ (srt_sorted (keysL z n))
 obtain ⟨h3, h4⟩ := insL_asc z n
 refine asc_ext h1 h3 (fun x => ?_)
 rw [h2 x, h4 x]
 simp [srt]
end Go.Proofs.YtjnepkggdkccaaaGreatDoor.Cd
/- cond.All of no ints. -/
namespace Go.Proofs.YtjnepkggdkccaaaGreatDoor.Cd
open Go.RowKit Go.Shelf Go.Sort

theorem clone_zero (ad : Option Addr) (cap : Nat) (w : World) :
  Calls Tryz.prog 71 #[.slice ad 0 cap] w fun e w' => ∃ ga c', e = .returned (.slice ga 0 c') ∧ (∀ a, ga = some a → w.heap.size ≤ a.block) ∧ Below w.heap.size w w' := by
 cases ad with
 | none =>
  have hcon := Any.slices_Clone_int_nil Tryz.lClone 0 cap w
  change Calls Tryz.prog 71 _ _ _ at hcon
  refine hcon.mono ?_
  rintro e w' ⟨rfl, rfl⟩
  exact ⟨none, 0, rfl, fun a h => (by cases h), Below.refl _ _⟩
 | some a =>
  have hcon := Any.slices_Clone_int_zero Tryz.lClone a cap w
  change Calls Tryz.prog 71 _ _ _ at hcon
  refine hcon.mono ?_
  rintro e w' ⟨v', rfl, hown, hne, hb⟩
  rcases hown.2 with ⟨e, _⟩ | ⟨g, c', cur, rfl, hg, _⟩
  ·exact absurd e hne
  ·exact ⟨_, c', rfl, fun a h => by cases h; exact hg, hb⟩

set_option maxRecDepth 100000 in
set_option maxHeartbeats 1600000 in
theorem all_zeroI (ad : Option Addr) (cap : Nat) (w : World) :
  Calls Tryz.prog 41 #[.slice ad 0 cap] w fun e w' => ∃ g, e = .returned (.agg #[.slice (some ⟨g, 0, none⟩) 1 1]) ∧ BrIn w' w.heap.size (some ⟨g, 0, none⟩) 1 (fun _ => kb []) ∧ Below w.heap.size w w' := by
 have HOK : (kb []).Ok := kb_ok (fun x h => by cases h)
 have hb0 : Below w.heap.size w (w.alloc (.cells #[.slice none 0 0] 93)) := (Below.refl _ w).alloc (Nat.le_refl _) _
 have hr0 : (w.alloc (.cells #[.slice none 0 0] 93)).heap[w.heap.size]? = some (.cells #[.slice none 0 0] 93 (0, 0)) := heap_alloc_new w _
 have hc := clone_zero ad cap (w.alloc (.cells #[.slice none 0 0] 93))
 have hs0 : w.heap.size < (w.alloc (.cells #[.slice none 0 0] 93)).heap.size := by simp
 go_enter Tryz.func41, Tryz.ntmps41
 go_wp2_with fail
 generalize w.alloc (.cells #[.slice none 0 0] 93) = W0 at *
 refine hc.mono ?_
 rintro e w3 ⟨ga, cap1, rfl, hga, hbw⟩
 clear hc
 have hsort := Any.slices_Sort_int_none Tryz.lSort ga cap1 w3
 change Calls Tryz.prog 72 _ _ _ at hsort
 have hcom := Any.slices_Compact_int_empty Tryz.lCompact ga cap1 w3
 change Calls Tryz.prog 73 _ _ _ at hcom
 have hr3 : w3.heap[w.heap.size]? = some (.cells #[.slice none 0 0] 93 (0, 0)) := by rw [hbw.block _ hs0]; exact hr0
 have hlt := hbw.size
 have hn4 := heap_alloc_new w3 (.cells (bv (kb []) ga cap1) 164)
 have hb4 : Below w3.heap.size w3 (w3.alloc (.cells (bv (kb []) ga cap1) 164)) := (Below.refl _ _).alloc (Nat.le_refl _) _
 have hr4 : (w3.alloc (.cells (bv (kb []) ga cap1) 164)).heap[w.heap.size]? = some (.cells #[.slice none 0 0] 93 (0, 0)) := by rw [hb4.block _ (by omega)]; exact hr3
 have c4 : (w3.alloc (.cells (bv (kb []) ga cap1) 164)).cell? ⟨w.heap.size, 0, none⟩ = some (.slice none 0 0) := by rw [cell_of_row _ _ 0 _ _ _ hr4]; rfl
 have f4 : (w3.alloc (.cells (bv (kb []) ga cap1) 164)).frozen? ⟨w.heap.size, 0, none⟩ = false := frozen_of_row _ _ 0 _ _ hr4
 have HE : Hid (((w3.alloc (.cells (bv (kb []) ga cap1) 164)).setCell ⟨w.heap.size, 0, none⟩ (.slice (some ⟨w3.heap.size, 0, none⟩) 1 1)).heap[w.heap.size]? = some (.cells #[.slice (some ⟨w3.heap.size, 0, none⟩) 1 1] 93 (0, 0))
   ∧ BrIn ((w3.alloc (.cells (bv (kb []) ga cap1) 164)).setCell ⟨w.heap.size, 0, none⟩ (.slice (some ⟨w3.heap.size, 0, none⟩) 1 1)) w.heap.size (some ⟨w3.heap.size, 0, none⟩) 1 (fun _ => kb [])
   ∧ Below w.heap.size w ((w3.alloc (.cells (bv (kb []) ga cap1) 164)).setCell ⟨w.heap.size, 0, none⟩ (.slice (some ⟨w3.heap.size, 0, none⟩) 1 1))) := by
  refine ⟨heap_setCell_same _ _ 0 _ _ _ hr4, fun w' hw => ⟨fun _ _ => HOK, fun _ => ⟨w3.heap.size, 0, rfl, fun i hi => ⟨ga, cap1, fun j u hu => ?_, fun h => by cases h⟩⟩⟩, ?_⟩
  ·obtain rfl : i = 0 := by omega
   rw [World.cell?_of_block (a := ⟨w3.heap.size, 0 + 0 * 35 + j, none⟩) (hw w3.heap.size (by omega) (by simp [World.setCell])), World.cell?_of_block (a := ⟨w3.heap.size, 0 + 0 * 35 + j, none⟩) (Below.heap_setCell _ _ _ _ (by show w3.heap.size ≠ w.heap.size; omega)), cell_of_row _ _ _ _ _ _ hn4]
   simpa [bv] using hu
  ·exact ((hb0.trans (hbw.mono (by omega))).trans (hb4.mono (by omega))).setCell (Nat.le_refl _) _
 clear hn4 hr4 hr3 hb4 hbw hb0 hga
 go_wp2_with fail
 refine hsort.mono ?_
 rintro e w4 ⟨rfl, rfl⟩
 go_wp2_with fail
 refine hcom.mono ?_
 rintro e w5 ⟨rfl, rfl⟩
 clear hsort hcom
 go_wp2_with (first | (refine wpList_buildB rfl _ rfl [] ga cap1 rfl ?_) | (refine wpList_sliceB rfl _ rfl (kb []) ga cap1 rfl ?_) | fail)
 exact bodyPost_ret (results_cell_row Tryz.results41 _ _ w.heap.size 93 #[.slice (some ⟨_, 0, none⟩) 1 1] (0, 0) _ rfl HE.out.1 Tryz.underlying93 rfl szC) rfl ⟨_, rfl, HE.out.2⟩
/-- All of whatever ints, in blocks of its own. -/
theorem all_in (ad : Option Addr) (n cap : Nat) (z : Nat → Int) (w : World) (hI : IsAt w ad n z) (hz : ∀ j, j < n → Ib (z j)) (hn : n ≤ 1000000) :
  Calls Tryz.prog 41 #[.slice ad n cap] w fun e w' => ∃ g, e = .returned (.agg #[.slice (some ⟨g, 0, none⟩) 1 1]) ∧ BrIn w' w.heap.size (some ⟨g, 0, none⟩) 1 (fun _ => kb (insL z n)) ∧ Below w.heap.size w w' := by
 rcases Nat.eq_zero_or_pos n with h0 | hp
 ·subst h0
  exact all_zeroI ad cap w
 ·obtain ⟨b, off, rfl, hc⟩ := hI hp
  rw [← all_same]
  exact all_posI b off n cap z w hc hz hn
end Go.Proofs.YtjnepkggdkccaaaGreatDoor.Cd
/- build: what the other side's output asks for; what a hold's does. -/
namespace Go.Proofs.YtjnepkggdkccaaaGreatDoor
open Go.RowKit

theorem insL_one (x : Int) : Cd.insL (fun _ => x) 1 = [x] := by simp [Cd.insL, Cd.insK, Cd.atK]
theorem keyAt {w : World} {g : Nat} {x : Int} {t : TypeId} {fr : Nat × Nat} (h : w.heap[g]? = some (.cells #[.int .i64 x] t fr)) : Cd.IsAt w (some ⟨g, 0, none⟩) 1 (fun _ => x) := fun _ => ⟨g, 0, rfl, fun j hj => by
 obtain rfl : j = 0 := by omega
 rw [cell_of_row _ _ 0 _ _ _ h]; rfl⟩
set_option maxRecDepth 100000 in
set_option maxHeartbeats 1600000 in
theorem other_0 (P : Pm) (lk : Nat → Int) (y : Py) (h : Hd) (ka : Option Addr) (kc : Nat) (w : World) (hk : Ib P.k1) :
  Calls Tryz.prog 48 #[.agg (cmv ⟨P, 0, lk, y, h⟩ ka kc)] w fun e w' => ∃ g, e = .returned (.agg #[.slice (some ⟨g, 0, none⟩) 1 1]) ∧ Cd.BrIn w' w.heap.size (some ⟨g, 0, none⟩) 1 (fun _ => Cd.kb [P.k1]) ∧ Below w.heap.size w w' := by
 go_enter Tryz.func48, Tryz.ntmps48
 go_wp2_with (first | (refine wpList_boxN rfl _ _ rfl (cmv ⟨P, 0, lk, y, h⟩ ka kc) rfl ?_; intro w1 N1) | (refine wpList_allocN 93 #[.slice none 0 0] run_allocCond rfl rfl ?_; intro w2 N2; have B2 := N2.old N1.blk; have c38 := (cmBox (cml_range B2)).o; have ck := (cmBox (cml_range B2)).k1; clear B2) | (refine wpList_kSliceN rfl _ rfl P.k1 rfl ?_; intro w3 N3) | fail)
 refine (Cd.all_in (some ⟨w2.heap.size, 0, none⟩) 1 1 (fun _ => P.k1) w3 (keyAt N3.blk) (fun _ _ => hk) (by decide)).mono ?_
 rintro e w4 ⟨g, rfl, hI, hb4⟩
 have hr4 : w4.heap[w1.heap.size]? = some (.cells #[.slice none 0 0] 93 (0, 0)) := heap_below hb4 (N3.old N2.blk)
 have HS : Hid (w.heap.size + 1 = w1.heap.size ∧ w1.heap.size + 1 = w2.heap.size ∧ w2.heap.size + 1 = w3.heap.size) := ⟨N1.size.symm, N2.size.symm, N3.size.symm⟩
 have HB : Hid (Below w.heap.size w w4) := Below.transS N1.below (Below.transS N2.below (Below.transS N3.below hb4))
 clear hb4 c38 ck
 go_wp2_with (first | (refine wpList_storeG 93 szCond rfl _ _ rfl w1.heap.size rfl #[.slice (some ⟨g, 0, none⟩) 1 1] #[.slice none 0 0] rfl rfl (cond_one _ _ _) 93 rfl hr4 ?_; intro w5 hg5 hf5) | fail)
 refine bodyPost_ret (results_cell_row Tryz.results48 _ _ w1.heap.size 93 #[.slice (some ⟨g, 0, none⟩) 1 1] (0, 0) _ rfl hg5 Tryz.underlying93 rfl szCond) rfl ⟨g, rfl, ?_, HB.out.trans (hf5.below (by have := HB.out.size; omega) (by have := HS.out; simp; omega))⟩
 rw [← insL_one]
 exact (brIn_frm hI hf5 (by have := HS.out; omega)).mono (by have := HS.out; omega)
set_option maxRecDepth 100000 in
set_option maxHeartbeats 1600000 in
theorem other_1 (P : Pm) (lk : Nat → Int) (y : Py) (h : Hd) (ka : Option Addr) (kc : Nat) (w : World) (hk : Ib P.k0) :
  Calls Tryz.prog 48 #[.agg (cmv ⟨P, 1, lk, y, h⟩ ka kc)] w fun e w' => ∃ g, e = .returned (.agg #[.slice (some ⟨g, 0, none⟩) 1 1]) ∧ Cd.BrIn w' w.heap.size (some ⟨g, 0, none⟩) 1 (fun _ => Cd.kb [P.k0]) ∧ Below w.heap.size w w' := by
 go_enter Tryz.func48, Tryz.ntmps48
 go_wp2_with (first | (refine wpList_boxN rfl _ _ rfl (cmv ⟨P, 1, lk, y, h⟩ ka kc) rfl ?_; intro w1 N1) | (refine wpList_allocN 93 #[.slice none 0 0] run_allocCond rfl rfl ?_; intro w2 N2; have B2 := N2.old N1.blk; have c38 := (cmBox (cml_range B2)).o; have ck := (cmBox (cml_range B2)).k0; clear B2) | (refine wpList_kSliceN rfl _ rfl P.k0 rfl ?_; intro w3 N3) | fail)
 refine (Cd.all_in (some ⟨w2.heap.size, 0, none⟩) 1 1 (fun _ => P.k0) w3 (keyAt N3.blk) (fun _ _ => hk) (by decide)).mono ?_
 rintro e w4 ⟨g, rfl, hI, hb4⟩
 have hr4 : w4.heap[w1.heap.size]? = some (.cells #[.slice none 0 0] 93 (0, 0)) := heap_below hb4 (N3.old N2.blk)
 have HS : Hid (w.heap.size + 1 = w1.heap.size ∧ w1.heap.size + 1 = w2.heap.size ∧ w2.heap.size + 1 = w3.heap.size) := ⟨N1.size.symm, N2.size.symm, N3.size.symm⟩
 have HB : Hid (Below w.heap.size w w4) := Below.transS N1.below (Below.transS N2.below (Below.transS N3.below hb4))
 clear hb4 c38 ck
 go_wp2_with (first | (refine wpList_storeG 93 szCond rfl _ _ rfl w1.heap.size rfl #[.slice (some ⟨g, 0, none⟩) 1 1] #[.slice none 0 0] rfl rfl (cond_one _ _ _) 93 rfl hr4 ?_; intro w5 hg5 hf5) | fail)
 refine bodyPost_ret (results_cell_row Tryz.results48 _ _ w1.heap.size 93 #[.slice (some ⟨g, 0, none⟩) 1 1] (0, 0) _ rfl hg5 Tryz.underlying93 rfl szCond) rfl ⟨g, rfl, ?_, HB.out.trans (hf5.below (by have := HB.out.size; omega) (by have := HS.out; simp; omega))⟩
 rw [← insL_one]
 exact (brIn_frm hI hf5 (by have := HS.out; omega)).mono (by have := HS.out; omega)
set_option maxRecDepth 100000 in
set_option maxHeartbeats 1600000 in
theorem held_any (c : Cm) (ka : Option Addr) (kc : Nat) (w : World) (hI : IsAt w ka c.h.n c.h.z) (hz : ∀ j, j < c.h.n → Ib (c.h.z j)) (hn : c.h.n ≤ 1000000) :
  Calls Tryz.prog 50 #[.agg (cmv c ka kc)] w fun e w' => ∃ g, e = .returned (.agg #[.slice (some ⟨g, 0, none⟩) 1 1]) ∧ Cd.BrIn w' w.heap.size (some ⟨g, 0, none⟩) 1 (fun _ => Cd.kb (Cd.insL c.h.z c.h.n)) ∧ Below w.heap.size w w' := by
 go_enter Tryz.func50, Tryz.ntmps50
 go_wp2_with (first | (refine wpList_boxN rfl _ _ rfl (cmv c ka kc) rfl ?_; intro w1 N1) | (refine wpList_allocN 93 #[.slice none 0 0] run_allocCond rfl rfl ?_; intro w2 N2; have B2 := (cmBox (cml_range (N2.old N1.blk))).hd; have ck : w2.cell? ⟨w.heap.size, 109, none⟩ = some (.slice ka c.h.n kc) := B2 2 _ rfl; clear B2) | fail)
 have hI2 : Cd.IsAt w2 ka c.h.n c.h.z := (hI.below N1.below).below N2.below
 refine (Cd.all_in ka c.h.n kc c.h.z w2 hI2 hz hn).mono ?_
 rintro e w4 ⟨g, rfl, hI, hb4⟩
 have hr4 : w4.heap[w1.heap.size]? = some (.cells #[.slice none 0 0] 93 (0, 0)) := heap_below hb4 N2.blk
 have HS : Hid (w.heap.size + 1 = w1.heap.size ∧ w1.heap.size + 1 = w2.heap.size) := ⟨N1.size.symm, N2.size.symm⟩
 have HB : Hid (Below w.heap.size w w4) := Below.transS N1.below (Below.transS N2.below hb4)
 clear hb4 ck
 go_wp2_with (first | (refine wpList_storeG 93 szCond rfl _ _ rfl w1.heap.size rfl #[.slice (some ⟨g, 0, none⟩) 1 1] #[.slice none 0 0] rfl rfl (cond_one _ _ _) 93 rfl hr4 ?_; intro w5 hg5 hf5) | fail)
 refine bodyPost_ret (results_cell_row Tryz.results50 _ _ w1.heap.size 93 #[.slice (some ⟨g, 0, none⟩) 1 1] (0, 0) _ rfl hg5 Tryz.underlying93 rfl szCond) rfl ⟨g, rfl, ?_, HB.out.trans (hf5.below (by have := HB.out.size; omega) (by have := HS.out; simp; omega))⟩
 exact (brIn_frm hI hf5 (by have := HS.out; omega)).mono (by have := HS.out; omega)
end Go.Proofs.YtjnepkggdkccaaaGreatDoor
/- Transactions: how they lie; what may be an input. -/
namespace Go.Proofs.YtjnepkggdkccaaaGreatDoor
open Go.RowKit

/-- Bytes of a sum. -/
def Hb (z : Nat → Int) : Prop := ∀ j, j < 32 → 0 ≤ z j ∧ z j ≤ 255
/-- What an input says: its point, its branch, how long its secret is. -/
structure Ti where
 pt : Nat → Int
 n : Int
 br : Int
 sn : Nat
instance : Inhabited Ti := ⟨⟨fun _ => 0, 0, 0, 0⟩⟩
/-- A point's 33 cells; an input's 35. -/
def ptl (z : Nat → Int) (n : Int) : List Value := bl z 32 ++ [.int .i64 n]
theorem ptl_length (z : Nat → Int) (n : Int) : (ptl z n).length = 33 := by simp [ptl, bl_length]
def til (x : Ti) (sa : Option Addr) (sc : Nat) : List Value := bl x.pt 32 ++ [.int .i64 x.n, .int .i64 x.br, .slice sa x.sn sc]
theorem til_length (x : Ti) (sa : Option Addr) (sc : Nat) : (til x sa sc).length = 35 := by simp [til, bl_length]
def tiv (x : Ti) (sa : Option Addr) (sc : Nat) : Array Value := (til x sa sc).toArray
theorem tiv_size (x : Ti) (sa : Option Addr) (sc : Nat) : (tiv x sa sc).size = 35 := by simp [tiv, til_length]
theorem til_one (x : Ti) (sa : Option Addr) (sc : Nat) : ∀ u ∈ til x sa sc, u.oneCell' = true := by
 intro u hu
 simp only [til, List.mem_append] at hu
 rcases hu with hu | hu
 ·exact bl_one _ _ _ hu
 ·simp at hu
  rcases hu with rfl | rfl | rfl <;> rfl
theorem til_32 (x : Ti) (sa : Option Addr) (sc : Nat) : (til x sa sc)[32]? = some (.int .i64 x.n) := by
 rw [til, List.getElem?_append_right (by rw [bl_length]; exact Nat.le_refl _), bl_length]; rfl
theorem til_33 (x : Ti) (sa : Option Addr) (sc : Nat) : (til x sa sc)[33]? = some (.int .i64 x.br) := by
 rw [til, List.getElem?_append_right (by rw [bl_length]; decide), bl_length]; rfl
theorem til_34 (x : Ti) (sa : Option Addr) (sc : Nat) : (til x sa sc)[34]? = some (.slice sa x.sn sc) := by
 rw [til, List.getElem?_append_right (by rw [bl_length]; decide), bl_length]; rfl
/-- An input that may be. -/
def InOk (x : Ti) : Prop := (0 ≤ x.n ∧ x.n ≤ 63) ∧ (0 ≤ x.br ∧ x.br ≤ 7) ∧ x.sn ≤ 64
instance (x : Ti) : Decidable (InOk x) := inferInstanceAs (Decidable (_ ∧ _))
theorem kwithin_any (n l m : Int) (w : World) :
  Calls Tryz.prog 80 #[.int .i64 n, .int .i64 l, .int .i64 m] w fun e w' => e = .returned (.bool (decide (l ≤ n ∧ n ≤ m))) ∧ w' = w := by
 by_cases h : l ≤ n
 ·go_enter Tryz.func80, Tryz.ntmps80
  go_wp2
  go_ret
  simp [h]
 ·have e : decide (l ≤ n ∧ n ≤ m) = false := by simp; omega
  rw [e]
  go_enter Tryz.func80, Tryz.ntmps80
  go_wp2
  go_ret
  simp
theorem cell_list {w : World} {g k : Nat} {l : List Value} {t : TypeId} {fr : Nat × Nat} {v : Value} (h : w.heap[g]? = some (.cells l.toArray t fr)) (hk : l[k]? = some v) : w.cell? ⟨g, k, none⟩ = some v := by
 rw [cell_of_row _ _ k _ _ _ h]
 simpa using hk
set_option maxRecDepth 100000 in
set_option maxHeartbeats 1600000 in
theorem kmayBe_any (x : Ti) (sa : Option Addr) (sc : Nat) (w : World) :
  Calls Tryz.prog 79 #[.agg (tiv x sa sc)] w fun e w' => e = .returned (.bool (decide (InOk x))) ∧ Below w.heap.size w w' := by
 have hb0 : Below w.heap.size w (w.alloc (.cells (tiv x sa sc) 130)) := (Below.refl _ w).alloc (Nat.le_refl _) _
 have hr0 := heap_alloc_new w (.cells (tiv x sa sc) 130)
 have c32 := cell_list hr0 (til_32 x sa sc)
 have c33 := cell_list hr0 (til_33 x sa sc)
 have c34 := cell_list hr0 (til_34 x sa sc)
 have HB : Hid (Below w.heap.size w (w.alloc (.cells (tiv x sa sc) 130))) := hb0
 clear hr0 hb0
 go_enter Tryz.func79, Tryz.ntmps79
 go_wp2_with (first | (refine Go.Great.wpList_boxTo rfl _ _ rfl _ rfl _ rfl (tiv x sa sc) rfl ?_) | fail)
 refine (kwithin_any x.n 0 63 _).mono ?_
 rintro e w1 ⟨rfl, hW⟩
 rw [hW]
 clear hW
 by_cases h1 : 0 ≤ x.n ∧ x.n ≤ 63
 ·have d1 : decide (0 ≤ x.n ∧ x.n ≤ 63) = true := by simpa using h1
  rw [d1]
  go_wp2_with fail
  refine (kwithin_any x.br 0 7 _).mono ?_
  rintro e w1 ⟨rfl, hW⟩
  rw [hW]
  clear hW
  by_cases h2 : 0 ≤ x.br ∧ x.br ≤ 7
  ·have d2 : decide (0 ≤ x.br ∧ x.br ≤ 7) = true := by simpa using h2
   have D3 : Hid (decide (InOk x) = decide ((x.sn : Int) ≤ 64)) := decide_eq_decide.2 ⟨fun h => by have := h.2.2; omega, fun h => ⟨h1, h2, by omega⟩⟩
   rw [d2]
   clear d1 d2 h1 h2
   go_wp2
   go_ret
   exact ⟨by rw [D3.out]; rfl, HB.out⟩
  ·have d2 : decide (0 ≤ x.br ∧ x.br ≤ 7) = false := by simpa using h2
   have D3 : Hid (decide (InOk x) = false) := decide_eq_false fun h => h2 h.2.1
   rw [d2]
   clear d1 d2 h1 h2
   go_wp2
   go_ret
   exact ⟨by rw [D3.out]; rfl, HB.out⟩
 ·have d1 : decide (0 ≤ x.n ∧ x.n ≤ 63) = false := by simpa using h1
  have D3 : Hid (decide (InOk x) = false) := decide_eq_false fun h => h1 h.1
  rw [d1]
  clear d1 h1
  go_wp2
  go_ret
  exact ⟨by rw [D3.out]; rfl, HB.out⟩
theorem szTi : (Tryz.prog.info? 130).map (·.size) = some 35 := by kernel_rfl
theorem szTil (x : Ti) (sa : Option Addr) (sc : Nat) : (Tryz.prog.info? 130).map (·.size) = some (til x sa sc).length := by rw [til_length]; exact szTi
theorem til_range {w : World} {g : Nat} {x : Ti} {sa : Option Addr} {sc : Nat} {t : TypeId} {fr : Nat × Nat} (h : w.heap[g]? = some (.cells (tiv x sa sc) t fr)) : w.rangeAt g 0 (til x sa sc) := fun j v hv => by
 rw [Nat.zero_add, cell_of_row _ _ j _ _ _ h]
 simpa [tiv] using hv
/-- The closure that Check hands on. -/
theorem kbad_any (x : Ti) (sa : Option Addr) (sc : Nat) (w : World) :
  Calls Tryz.prog 78 #[.agg (tiv x sa sc)] w fun e w' => e = .returned (.bool (!decide (InOk x))) ∧ Below w.heap.size w w' := by
 have hb0 : Below w.heap.size w (w.alloc (.cells (tiv x sa sc) 130)) := (Below.refl _ w).alloc (Nat.le_refl _) _
 have HR : Hid ((w.alloc (.cells (tiv x sa sc) 130)).rangeAt w.heap.size 0 (til x sa sc)) := til_range (heap_alloc_new w (.cells (tiv x sa sc) 130))
 have hc := kmayBe_any x sa sc (w.alloc (.cells (tiv x sa sc) 130))
 unfold tiv at hc
 go_enter Tryz.func78, Tryz.ntmps78
 go_wp2_with (first | (refine Go.Great.wpList_boxTo rfl _ _ rfl _ rfl _ rfl (tiv x sa sc) rfl ?_) | (refine wpList_load_mid rfl 130 _ rfl w.heap.size 0 rfl (til x sa sc) _ HR.out Tryz.underlying130 rfl (szTil _ _ _) ?_) | fail)
 refine hc.mono ?_
 rintro e w1 ⟨rfl, hb1⟩
 have HB : Hid (Below w.heap.size w w1) := hb0.trans (hb1.mono hb0.size)
 clear hb0 hb1 hc
 go_wp2
 go_ret
 exact ⟨rfl, HB.out⟩
end Go.Proofs.YtjnepkggdkccaaaGreatDoor
/- Inputs of a transaction: whether one of them may not be. -/
namespace Go.Proofs.YtjnepkggdkccaaaGreatDoor
open Go.RowKit

/-- n inputs lie at an address; their secrets at S. -/
structure TiAt (w : World) (ad : Option Addr) (n : Nat) (X : Nat → Ti) (S : Nat → Option Addr × Nat) : Prop where
 pt : ∀ i, i < n → Hb (X i).pt
 at_ : 0 < n → ∃ b off, ad = some ⟨b, off, none⟩ ∧ ∀ i, i < n → w.rangeAt b (off + i * 35) (til (X i) (S i).1 (S i).2)
theorem TiAt.nil (w : World) (ad : Option Addr) (X : Nat → Ti) (S : Nat → Option Addr × Nat) : TiAt w ad 0 X S := ⟨fun _ h => by omega, fun h => by omega⟩
theorem TiAt.below {w w' : World} {ad : Option Addr} {n : Nat} {X : Nat → Ti} {S : Nat → Option Addr × Nat} (h : TiAt w ad n X S) (hb : Below w.heap.size w w') : TiAt w' ad n X S := by
 refine ⟨h.pt, fun hn => ?_⟩
 obtain ⟨b, off, e, hr⟩ := h.at_ hn
 exact ⟨b, off, e, fun i hi => range_below (hr i hi) hb⟩
/-- All inputs may be. -/
def InsOk (X : Nat → Ti) (n : Nat) : Prop := ∀ i, i < n → InOk (X i)
instance (X : Nat → Ti) (n : Nat) : Decidable (InsOk X n) := inferInstanceAs (Decidable (∀ i, i < n → _))
set_option maxRecDepth 100000 in
set_option maxHeartbeats 1600000 in
theorem kindex_any (ad : Option Addr) (n cap : Nat) (X : Nat → Ti) (S : Nat → Option Addr × Nat) (w : World) (h : TiAt w ad n X S) (hn : n ≤ 1000000) :
  Calls Tryz.prog 105 #[.slice ad n cap, .func (.func 78) #[] #[]] w fun e w' => (∃ q : Int, e = .returned (.int .i64 q) ∧ decide (q ≥ 0) = !decide (InsOk X n)) ∧ Below w.heap.size w w' := by
 have HB : Hid (TiAt w ad n X S) := h
 have hb0 := Below.refl w.heap.size w
 have eg : ∀ args w, (callFunc 78 args).run Tryz.prog w = .ok (.enter 78 args) w := enters_of Tryz.func78 (by kernel_rfl) rfl
 clear h
 go_enter Tryz.func105, Tryz.ntmps105
 go_wp2
 go_loopw [5, 8] (fun _ iv wr => ∃ i : Nat, i ≤ n ∧ iv = .int .i64 i ∧ InsOk X i ∧ Below w.heap.size w wr) (fun _ iv _ => n + 1 - (intOf iv).toNat)
 case atStart => exact ⟨0, by omega, rfl, fun j hj => by omega, hb0⟩
 case round =>
  clear hb0
  obtain ⟨i, hi, rfl, hk, hb⟩ := hrel
  have HK : Hid (InsOk X i) := hk
  clear hk
  by_cases hlt : i < n
  ·have hlt' : (i : Int) < n := by omega
   obtain ⟨b, off, rfl, hc⟩ := HB.out.at_ (by omega)
   have HR : Hid (wr.rangeAt b (off + i * 35) (til (X i) (S i).1 (S i).2)) := range_below (hc i hlt) hb
   have hcall := kbad_any (X i) (S i).1 (S i).2 wr
   unfold tiv at hcall
   clear hc
   by_cases hq : InOk (X i)
   ·have e1 : decide (InOk (X i)) = true := by simp [hq]
    rw [e1] at hcall
    have HN : Hid (InsOk X (i + 1)) := fun j hj => by
     by_cases e : j = i
     ·subst e; exact hq
     ·exact HK.out j (by omega)
    clear e1 hq
    go_wp2_with (first | (refine wpList_load_mid rfl 130 _ rfl b (off + i * 35) rfl (til (X i) (S i).1 (S i).2) _ HR.out Tryz.underlying130 rfl (szTil _ _ _) ?_) | (go_at_fn 78; refine hcall.mono ?_; rintro e w1 ⟨rfl, hb1⟩) | fail)
    go_roundw
    case rel => exact ⟨i + 1, by omega, by go_num, HN.out, hb.trans (hb1.mono hb.size)⟩
    case measure => simp [intOf]; omega
   ·have e1 : decide (InOk (X i)) = false := by simpa using hq
    rw [e1] at hcall
    have HN : Hid (¬ InsOk X n) := fun h => hq (h i hlt)
    clear e1 hq
    go_wp2_with (first | (refine wpList_load_mid rfl 130 _ rfl b (off + i * 35) rfl (til (X i) (S i).1 (S i).2) _ HR.out Tryz.underlying130 rfl (szTil _ _ _) ?_) | (go_at_fn 78; refine hcall.mono ?_; rintro e w1 ⟨rfl, hb1⟩) | fail)
    go_ret
    refine ⟨⟨_, rfl, ?_⟩, hb.trans (hb1.mono hb.size)⟩
    have := HN.out
    simp [this]
  ·obtain rfl : i = n := by omega
   have hnn : ¬ ((i : Int) < i) := by omega
   have hk := HK.out
   go_wp2
   go_ret
   refine ⟨⟨_, rfl, ?_⟩, hb⟩
   simp
set_option maxHeartbeats 800000 in
theorem kcontains_any (ad : Option Addr) (n cap : Nat) (X : Nat → Ti) (S : Nat → Option Addr × Nat) (w : World) (h : TiAt w ad n X S) (hn : n ≤ 1000000) :
  Calls Tryz.prog 81 #[.slice ad n cap, .func (.func 78) #[] #[]] w fun e w' => e = .returned (.bool (!decide (InsOk X n))) ∧ Below w.heap.size w w' := by
 have hi := kindex_any ad n cap X S w h hn
 clear h
 generalize (!decide (InsOk X n)) = r at *
 go_enter Tryz.func81, Tryz.ntmps81
 go_wp2_with (go_at_call 105; refine hi.mono ?_; rintro e w1 ⟨⟨q, rfl, hq⟩, hb1⟩)
 all_goals (go_ret; exact ⟨by simp_all, hb1⟩)
end Go.Proofs.YtjnepkggdkccaaaGreatDoor
/- The points of a transaction's inputs in a map. -/
namespace Go.Proofs.YtjnepkggdkccaaaGreatDoor
open Go.RowKit
namespace Kp

def Ib (n : Int) : Prop := -9223372036854775808 ≤ n ∧ n ≤ 9223372036854775807
/-- A point's 33 cells. -/
def kv (n : Int) (z : Nat → Int) : Array Value := (bl z 32 ++ [Value.int .i64 n]).toArray
theorem laidOut : laidOutB Tryz.prog = true := by kernel_rfl
theorem tsize : Tryz.prog.types.size = 277 := by kernel_rfl
theorem rowS : (38 : TypeId) < Tryz.prog.types.size := of_decide_eq_true (by kernel_rfl)
theorem wideS : (match Tryz.prog.underlying 38 with | some (.array _ _) | some (.struct _) => true | _ => false) = true := by kernel_rfl
set_option maxRecDepth 20000 in
theorem lawS : Maps.Keyed Tryz.prog 38 := Maps.Keyed.of_law (deep_law_laid laidOut (m := 4) (by omega) rowS (by kernel_rfl) wideS)
theorem ktS : Tryz.prog.keyType 38 = true := by kernel_rfl
theorem cellsS : Tryz.prog.cellsOf 38 = 33 := by kernel_rfl
theorem cellsH : Tryz.prog.cellsOf 23 = 32 := by kernel_rfl
theorem cellsI : Tryz.prog.cellsOf 3 = 1 := by kernel_rfl
theorem cellsB : Tryz.prog.cellsOf 5 = 1 := by kernel_rfl

theorem mapM_opt {α β : Type} {f : α → Option β} {g : α → β} : ∀ (l : List α), (∀ x, x ∈ l → f x = some (g x)) → l.mapM f = some (l.map g)
 | [], _ => rfl
 | x :: l, h => by
  rw [List.mapM_cons, h x (List.mem_cons_self ..), mapM_opt l (fun y hy => h y (List.mem_cons_of_mem _ hy))]
  rfl
theorem flat_one {α β : Type} (f : α → β) : ∀ l : List α, (l.map fun x => [f x]).flatten = l.map f
 | [] => rfl
 | x :: l => by rw [List.map_cons, List.flatten_cons, flat_one f l]; rfl
theorem lits_byte (d : Nat) {x : Int} (h : 0 ≤ x ∧ x ≤ 255) : Tryz.prog.keyLits (d + 1) 5 [.int .u8 x] = some [.int .u8 x] := by
 have hw : (Lit.int .u8 x).wf = true := by simp [Lit.wf, IntKind.min, IntKind.max, IntKind.signed, IntKind.bits]; omega
 unfold Program.keyLits
 rw [Tryz.underlying5]
 simp [hw]
theorem lits_int (d : Nat) {x : Int} (h : Ib x) : Tryz.prog.keyLits (d + 1) 3 [.int .i64 x] = some [.int .i64 x] := by
 have hw : (Lit.int .i64 x).wf = true := by unfold Ib at h; simp [Lit.wf, IntKind.min, IntKind.max, IntKind.signed, IntKind.bits]; omega
 unfold Program.keyLits
 rw [Tryz.underlying3]
 simp [hw]
theorem lits_hash (d : Nat) {z : Nat → Int} (h : Hb z) : Tryz.prog.keyLits (d + 2) 23 (bl z 32) = some ((List.range 32).map fun j => Lit.int .u8 (z j)) := by
 unfold Program.keyLits
 rw [Tryz.underlying23]
 simp only [bl_length, cellsH, cellsB, if_true]
 rw [mapM_opt (g := fun j => [Lit.int .u8 (z j)])]
 ·rw [Option.map_some, flat_one]
 ·intro j hj
  have hj' : j < 32 := List.mem_range.1 hj
  have e : ((bl z 32).drop (j * 1)).take 1 = [.int .u8 (z j)] := by
   rw [Nat.mul_one, List.take_one, List.head?_drop, bl_at hj']
   rfl
  rw [e]
  exact lits_byte d (h j hj')
theorem lits_sig (d : Nat) {n : Int} {z : Nat → Int} (hn : Ib n) (h : Hb z) : Tryz.prog.keyLits (d + 3) 38 (kv n z).toList = some (((List.range 32).map fun j => Lit.int .u8 (z j)) ++ [Lit.int .i64 n]) := by
 have hl : (kv n z).toList = bl z 32 ++ [.int .i64 n] := by simp [kv]
 rw [hl]
 unfold Program.keyLits
 rw [Tryz.underlying38]
 simp only [List.length_append, List.length_cons, List.length_nil, bl_length, cellsS]
 have e1 : List.take 32 (bl z 32 ++ [Value.int .i64 n]) = bl z 32 := by rw [← bl_length z 32]; exact List.take_left
 have e2 : List.drop 32 (bl z 32 ++ [Value.int .i64 n]) = [.int .i64 n] := by rw [← bl_length z 32]; exact List.drop_left
 simp [cellsI, cellsH, e1, e2, lits_int (d + 1) hn, lits_hash d h]

/-- What a point's key reads as. -/
def kl (n : Int) (z : Nat → Int) : Lit := .string (keyBytes (((List.range 32).map fun j => Lit.int .u8 (z j)) ++ [Lit.int .i64 n]))
theorem keyOfS {n : Int} {z : Nat → Int} (hn : Ib n) (h : Hb z) : keyOf Tryz.prog 38 (.agg (kv n z)) = some (kl n z) := by
 have hf : (Value.agg (kv n z)).formed Tryz.prog 38 = true := by
  simp only [Value.formed, Tryz.underlying38, cellsS]
  simp [kv, bl_length]
 have hl := lits_sig (277 - 2) hn h
 unfold keyOf
 rw [Tryz.underlying38]
 simp only [ktS, hf, Bool.and_self, if_true, tsize]
 have : (Value.agg (kv n z)).cells = kv n z := rfl
 rw [this]
 simp only [Nat.reduceAdd, Nat.reduceSub] at hl ⊢
 rw [hl]
 rfl
theorem kl_inj {n m : Int} {z y : Nat → Int} (hn : Ib n) (hz : Hb z) (hm : Ib m) (hy : Hb y) (h : kl n z = kl m y) : n = m ∧ ub z = ub y := by
 have h1 := keyOfS hn hz
 rw [h] at h1
 have := lawS.inj h1 (keyOfS hm hy)
 simp only [Value.agg.injEq] at this
 have h2 : (bl z 32 ++ [Value.int .i64 n]) = (bl y 32 ++ [.int .i64 m]) := by simpa [kv] using congrArg Array.toList this
 obtain ⟨h4, h5⟩ := List.append_inj h2 (by rw [bl_length, bl_length])
 refine ⟨by simpa using h5, ?_⟩
 have h3 : (bl z 32).map (fun v => match v with | .int _ x => UInt8.ofNat x.toNat | _ => 0) = (bl y 32).map (fun v => match v with | .int _ x => UInt8.ofNat x.toNat | _ => 0) := by rw [h4]
 simpa [bl, ub] using h3
theorem kl_key (n : Int) (z : Nat → Int) : WideAt.IsKeyLit (kl n z) := trivial

/-- The map D holds just the points S. -/
structure BkD (D : DataW Unit) (S : List (Int × List UInt8)) : Prop where
 has : ∀ n z, Ib n → Hb z → Maps.has D (kl n z) = S.contains (n, ub z)
 size : Maps.size D = S.length
theorem BkD.nil : BkD (.map []) [] := ⟨fun _ _ _ _ => rfl, rfl⟩
theorem BkD.put {D : DataW Unit} {S : List (Int × List UInt8)} (h : BkD D S) (ht : Maps.Tidy D) {n : Int} {z : Nat → Int} (hn : Ib n) (hz : Hb z) (hc : S.contains (n, ub z) = false) (u : DataW Unit) : BkD (D.put (kl n z) u) (S ++ [(n, ub z)]) := by
 refine ⟨fun m y hm hy => ?_, ?_⟩
 ·by_cases e : kl m y = kl n z
  ·have := kl_inj hm hy hn hz e
   rw [e, Maps.has_put_same ht.isMap (kl_key n z)]
   simp [this.1, this.2]
  ·rw [Maps.has_put_other e, h.has m y hm hy]
   have : ¬ ((m, ub y) = (n, ub z)) := by
    intro e2
    simp only [Prod.mk.injEq] at e2
    apply e
    have h1 := keyOfS hm hy
    have h2 := keyOfS hn hz
    have e3 : kv m y = kv n z := by
     have a1 : hv y = hv z := by rw [hv_ub hy, hv_ub hz, e2.2]
     have a2 : bl y 32 = bl z 32 := by rw [← hv_list, ← hv_list, a1]
     unfold kv
     rw [a2, e2.1]
    rw [e3, h2] at h1
    exact (Option.some.inj h1).symm
   simp [this]
 ·rw [Maps.size_put ht, h.has n z hn hz, hc]
  simp [h.size]
end Kp
end Go.Proofs.YtjnepkggdkccaaaGreatDoor
