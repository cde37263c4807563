/- A book in memory: its map, its lists; a new one; how many signatures there are; whether one is there. -/
import Derived.Test.YtlddjniofijnnaaDoorOKey
import Derived.Maps.AppendAt
import Derived.Carry
import Derived.Deep.DrawnRows
import Derived.Deep.DeepCutAuto
namespace Go.Proofs.YtlddjniofijnnaaDoor
open Go.RowKit

attribute [local go_sem ↓] Go.wp_at_zero Go.wp_at_succ

/-- A book's 17 cells. -/
def bkc (m : Nat) (sl : Nat → Value) : Array Value := (.map (some m) :: (List.range 16).map sl).toArray
theorem bkc_at (m : Nat) (sl : Nat → Value) {k : Nat} (h : k < 16) : (bkc m sl)[1 + k]? = some (sl k) := by
  rw [Nat.add_comm]
  simp [bkc, h]
theorem bkc_set (m : Nat) (sl : Nat → Value) (v : Value) (k : Nat) : (bkc m sl).setIfInBounds (1 + k) v = bkc m (fun i => if i = k then v else sl i) := by
  apply Array.toList_inj.1
  rw [Nat.add_comm]
  simp only [bkc, List.setIfInBounds_toArray, List.set_cons_succ, List.cons.injEq, true_and]
  apply List.ext_getElem
  · simp
  · intro j h1 h2
    simp only [List.length_set, List.length_map, List.length_range] at h1
    rw [List.getElem_set]
    by_cases e : k = j
    · subst e; simp
    · simp [e, Ne.symm e]

/-- A list of a book's: a row of the call's own, or nil. -/
def RowAt (w : World) (B : Nat) (v : Value) (q : Nat) : Prop := ∃ n xs, n ≤ q ∧ w.ownsRow B 32 32 v n xs ∧ ∀ u ∈ xs, u.oneCell' = true
theorem RowAt.keep {w w' : World} {B : Nat} {v : Value} {q : Nat} (h : RowAt w B v q) (hk : ∀ k, v.ownBlock = some k → w'.heap[k]? = w.heap[k]?) : RowAt w' B v q := by
  obtain ⟨n, xs, hn, ho, h1⟩ := h
  refine ⟨n, xs, hn, ⟨ho.1, ?_⟩, h1⟩
  rcases ho.2 with hnil | ⟨k, cap, cur, e, hb, hg, rest⟩
  · exact .inl hnil
  · exact .inr ⟨k, cap, cur, e, hb, by rw [hk k (by rw [e]; rfl)]; exact hg, rest⟩
theorem RowAt.mono {w : World} {B : Nat} {v : Value} {q q' : Nat} (h : RowAt w B v q) (hq : q ≤ q') : RowAt w B v q' := by
  obtain ⟨n, xs, hn, r⟩ := h
  exact ⟨n, xs, Nat.le_trans hn hq, r⟩
theorem RowAt.lt {w : World} {B : Nat} {v : Value} {q : Nat} (h : RowAt w B v q) {k : Nat} (hk : v.ownBlock = some k) : B ≤ k ∧ k < w.heap.size := by
  obtain ⟨n, xs, _, ho, _⟩ := h
  exact ho.lt k hk

/-- Block p is a book: its map in block m, its lists in the blocks g, its signatures S. -/
structure BkAt (w : World) (B p m : Nat) (g : Nat → Option Nat) (S : List (Int × List UInt8)) : Prop where
  cells : ∃ sl : Nat → Value, w.heap[p]? = some (.cells (bkc m sl) 50 (0, 0)) ∧ ∀ i, i < 16 → (sl i).ownBlock = g i ∧ RowAt w B (sl i) S.length
  map : ∃ D, w.ownsMap Tryd.prog 52 (unitElem (H := Unit)) m S.length D ∧ BkD D S
  ne : p ≠ m
  nep : ∀ i, i < 16 → g i ≠ some p ∧ g i ≠ some m
  nei : ∀ i j k, i < 16 → j < 16 → i ≠ j → g i = some k → g j ≠ some k
  lop : B ≤ p
  lom : B ≤ m
/-- A book's blocks. -/
def fpL (p m : Nat) (g : Nat → Option Nat) : List Nat := p :: m :: (List.range 16).filterMap g
theorem mem_fpL {p m k : Nat} {g : Nat → Option Nat} : k ∈ fpL p m g ↔ k = p ∨ k = m ∨ ∃ i, i < 16 ∧ g i = some k := by simp [fpL]
theorem BkAt.lt {w : World} {B p m : Nat} {g : Nat → Option Nat} {S : List (Int × List UInt8)} (h : BkAt w B p m g S) {k : Nat} (hk : k ∈ fpL p m g) : B ≤ k ∧ k < w.heap.size := by
  obtain ⟨sl, hp, hs⟩ := h.cells
  obtain ⟨D, hm, _⟩ := h.map
  rcases mem_fpL.1 hk with rfl | rfl | ⟨i, hi, e⟩
  · exact ⟨h.lop, lt_of_block hp⟩
  · exact ⟨h.lom, hm.lt⟩
  · obtain ⟨h1, h2⟩ := hs i hi
    exact h2.lt (h1.trans e)
theorem owns_keep {w w' : World} {m n : Nat} {D : DataW Unit} (h : w.ownsMap Tryd.prog 52 (unitElem (H := Unit)) m n D) (hk : w'.heap[m]? = w.heap[m]?) : w'.ownsMap Tryd.prog 52 (unitElem (H := Unit)) m n D := by
  obtain ⟨es, clock, hb, r⟩ := h
  exact ⟨es, clock, by rw [hk]; exact hb, r⟩
theorem BkAt.frm {w w' : World} {B p m : Nat} {g : Nat → Option Nat} {S : List (Int × List UInt8)} {T : List Nat} (h : BkAt w B p m g S) (hf : Frm T w w') (hn : ∀ k, k ∈ fpL p m g → k ∉ T) : BkAt w' B p m g S := by
  have hk : ∀ k, k ∈ fpL p m g → w'.heap[k]? = w.heap[k]? := fun k hk => hf.block k (h.lt hk).2 (hn k hk)
  obtain ⟨sl, hp, hs⟩ := h.cells
  obtain ⟨D, hm, hD⟩ := h.map
  refine ⟨⟨sl, by rw [hk p (mem_fpL.2 (.inl rfl))]; exact hp, fun i hi => ⟨(hs i hi).1, (hs i hi).2.keep fun k e => hk k (mem_fpL.2 (.inr (.inr ⟨i, hi, (hs i hi).1 ▸ e⟩)))⟩⟩, ⟨D, owns_keep hm (hk m (mem_fpL.2 (.inr (.inl rfl)))), hD⟩, h.ne, h.nep, h.nei, h.lop, h.lom⟩
theorem BkAt.below {w w' : World} {B p m : Nat} {g : Nat → Option Nat} {S : List (Int × List UInt8)} (h : BkAt w B p m g S) (hb : Below w.heap.size w w') : BkAt w' B p m g S :=
  h.frm (T := []) (Frm.ofBelow hb) (fun _ _ => by simp)

theorem build_book (m : Nat) (w : World) : (Instr.build 50 #[(0, .map (some m))]).run Tryd.prog w = .ok (.agg (bkc m fun _ => .slice none 0 0)) w := by kernel_rfl

set_option maxHeartbeats 400000 in
theorem new_run (w : World) :
    Calls Tryd.prog 14 #[] w fun e w' => e = .returned (.pointer (some ⟨w.heap.size + 1, 0, none⟩)) ∧ w' = (w.alloc (.map #[] 0)).alloc (.cells (bkc w.heap.size fun _ => .slice none 0 0) 50) := by
  have k1 := run_makeMap (P := Tryd.prog) 46
  have k2 := build_book
  go_enter Tryd.func14, Tryd.ntmps14
  go_wp2_with (refine Go.Great.wpList_boxTo rfl _ _ rfl _ rfl _ (by simp; rfl) (bkc w.heap.size fun _ => .slice none 0 0) rfl ?_)
  go_ret
  exact ⟨rfl, rfl⟩
theorem new_at (w : World) {B : Nat} (hB : B ≤ w.heap.size) : BkAt ((w.alloc (.map #[] 0)).alloc (.cells (bkc w.heap.size fun _ => .slice none 0 0) 50)) B (w.heap.size + 1) w.heap.size (fun _ => none) [] := by
  refine ⟨⟨fun _ => .slice none 0 0, ?_, fun i _ => ⟨rfl, 0, [], Nat.le_refl _, World.ownsRow_nil _ _ _ _, fun _ h => by cases h⟩⟩, ⟨.map [], (World.ownsMap_made w _ _ _).alloc _, BkD.nil⟩, by omega, fun _ _ => ⟨by simp, by simp⟩, (fun _ _ _ _ _ _ h => by cases h), by omega, hB⟩
  have := heap_alloc_new (w.alloc (.map #[] 0)) (.cells (bkc w.heap.size fun _ => .slice none 0 0) 50)
  simpa using this
theorem new_any (w : World) (B : Nat) (hB : B ≤ w.heap.size) :
    Calls Tryd.prog 14 #[] w fun e w' => e = .returned (.pointer (some ⟨w.heap.size + 1, 0, none⟩)) ∧ BkAt w' B (w.heap.size + 1) w.heap.size (fun _ => none) [] ∧ Below w.heap.size w w' ∧ w'.heap.size = w.heap.size + 2 := by
  refine (new_run w).mono ?_
  rintro e w' ⟨rfl, rfl⟩
  exact ⟨rfl, new_at w hB, ((Below.refl _ w).alloc (Nat.le_refl _) _).alloc (by simp) _, by simp⟩

theorem BkAt.cell0 {w : World} {B p m : Nat} {g : Nat → Option Nat} {S : List (Int × List UInt8)} (h : BkAt w B p m g S) : w.cell? ⟨p, 0, none⟩ = some (.map (some m)) := by
  obtain ⟨sl, hp, _⟩ := h.cells
  rw [cell_of_row w p 0 _ _ _ hp]
  simp [bkc]

set_option maxHeartbeats 400000 in
theorem len_any (p m B : Nat) (g : Nat → Option Nat) (S : List (Int × List UInt8)) (w : World) (h : BkAt w B p m g S) :
    Calls Tryd.prog 8 #[.pointer (some ⟨p, 0, none⟩)] w fun e w' => e = .returned (.int .i64 S.length) ∧ w' = w := by
  have h0 := h.cell0
  obtain ⟨D, hm, hD⟩ := h.map
  have hl := fun ty => hm.len (t := 46) (e := 53) Tryd.underlying46 ty
  rw [hD.size] at hl
  clear hm hD h
  go_enter Tryd.func8, Tryd.ntmps8
  go_wp2
  go_ret
  exact ⟨rfl, rfl⟩
end Go.Proofs.YtlddjniofijnnaaDoor
