/- The writer's New and Done. -/
import Derived.Test.YtnjkgpgbipcgcaaDoorOwnShelf08
namespace Go.Proofs.YtnjkgpgbipcgcaaDoor
open Go.RowKit

theorem WrAt.parts {w : World} {B p : Nat} {g : Option Nat} {l : List Int} (h : WrAt w B p g l) : ∃ v, w.heap[p]? = some (.cells #[v] 114 (0, 0)) ∧ w.ownsRow B 5 1 v l.length (l.map (Value.int .u8)) ∧ v.ownBlock = g ∧ B ≤ p ∧ (∀ x, x ∈ l → 0 ≤ x ∧ x ≤ 255) ∧ some p ≠ v.ownBlock ∧ p < w.heap.size := by
  obtain ⟨v, hp, hown, hg, hB, hx⟩ := h
  exact ⟨v, hp, hown, hg, hB, hx, fun e => own_ne hown hp e.symm, lt_of_block hp⟩

theorem alloc_set_new (w : World) (a : Addr) (u : Value) (o : Obj) : ((w.setCell a u).alloc o).heap[w.heap.size]? = some o := by
  have h : (w.setCell a u).heap.size = w.heap.size := by simp [World.setCell]
  have := heap_alloc_new (w.setCell a u) o
  rwa [h] at this

/-- Behind the first of two appends. -/
theorem wr_two {w wr w0 w1 : World} {B p gg cap : Nat} {g g1 : Option Nat} {v : Value} {L : List Int} {y : Int}
    (hp : wr.heap[p]? = some (.cells #[v] 114 (0, 0))) (h0 : Frm [] wr w0)
    (hown1 : w1.ownsRow B 5 1 (.slice (some ⟨gg, 0, none⟩) (L.length + 1) cap) (L.length + 1) (L.map (Value.int .u8) ++ [Value.int .u8 y]))
    (hgrow : w0.grownBy w1 v.ownBlock) (hat : v.ownBlock = some gg ∨ gg = wr.heap.size + 1) (hg : v.ownBlock = g1) (hg1 : g1 = g ∨ ∃ b, g1 = some b ∧ w.heap.size ≤ b)
    (hF : Frm (p :: g.toList) w wr) (hB : B ≤ p) (hx : ∀ x, x ∈ L → 0 ≤ x ∧ x ≤ 255) (hy : 0 ≤ y ∧ y ≤ 255) (hne : some p ≠ v.ownBlock) :
    Hid ((w1.setCell ⟨p, 0, none⟩ (.slice (some ⟨gg, 0, none⟩) (L.length + 1) cap)).heap[p]? = some (.cells #[.slice (some ⟨gg, 0, none⟩) (L.length + 1) cap] 114 (0, 0)) ∧
    (w1.setCell ⟨p, 0, none⟩ (.slice (some ⟨gg, 0, none⟩) (L.length + 1) cap)).ownsRow B 5 1 (.slice (some ⟨gg, 0, none⟩) (L.length + 1) cap) (L.length + 1) ((L ++ [y]).map (Value.int .u8)) ∧ gg ≠ p ∧ p < w1.heap.size ∧
    (∀ x, x ∈ L ++ [y] → 0 ≤ x ∧ x ≤ 255) ∧ Frm (p :: g.toList) w (w1.setCell ⟨p, 0, none⟩ (.slice (some ⟨gg, 0, none⟩) (L.length + 1) cap)) ∧ (some gg = g ∨ ∃ b, some gg = some b ∧ w.heap.size ≤ b)) := by
  obtain ⟨k1, k2, k3, k4, k5, k6, _⟩ := wr_parts (ys := [y]) hp h0 (by simpa using hown1) hgrow hat hg hg1 hF hB hx (by intro x hx; rw [List.mem_singleton.1 hx]; exact hy) hne
  have hl := lt_of_block k1
  simp only [List.length_singleton] at k1 k2 k5
  exact ⟨k1, by simpa using k2, k4, by simpa [World.setCell] using hl, k3, k5, k6⟩

/-- Bytes do not lie in a writer's own block. -/
def fn (l : List Int) : Nat → Int := fun j => l.getD j 0
theorem fn_get (l : List Int) (j : Nat) (h : j < l.length) : fn l j = l[j] := by simp [fn, h]
theorem map_bl (l : List Int) : l.map (Value.int .u8) = bl (fn l) l.length := by
  apply List.ext_getElem
  · simp [bl_length]
  · intro j h1 h2
    simp at h1
    simp [bl, fn, h1]

set_option maxHeartbeats 400000 in
theorem new_any (w : World) :
    Calls Tryd.prog 36 #[] w fun e w' => e = .returned (.pointer (some ⟨w.heap.size, 0, none⟩)) ∧ w' = w.alloc (.cells #[.slice none 0 0] 114) := by
  go_enter Tryd.func36, Tryd.ntmps36
  go_wp2
  go_ret
  exact ⟨rfl, rfl⟩

theorem new_wr (w : World) : WrAt (w.alloc (.cells #[.slice none 0 0] 114)) w.heap.size w.heap.size none [] :=
  ⟨.slice none 0 0, heap_alloc_new w _, World.ownsRow_nil _ _ _ _, rfl, Nat.le_refl _, fun x h => by cases h⟩

set_option maxHeartbeats 400000 in
theorem wrDone_any (p B : Nat) (g : Option Nat) (l : List Int) (w : World) (hw : WrAt w B p g l) (hl : l.length ≤ 140737488351232) :
    Calls Tryd.prog 40 #[.pointer (some ⟨p, 0, none⟩)] w fun e w' => ∃ ad cap, e = .returned (.slice ad l.length cap) ∧ l.length ≤ cap ∧ SlAt w' ad l.length (fn l) ∧ (ad = none → l.length = 0 ∧ cap = 0) ∧ (∀ a, ad = some a → w.heap.size ≤ a.block) ∧ Below w.heap.size w w' := by
  obtain ⟨v, hp, hown, hg, hB, hx⟩ := hw
  rw [map_bl] at hown
  obtain ⟨ad, cap, rfl, h1, h2, h3, h4⟩ := own_SlAt (fun j hj => by rw [fn_get l j hj]; exact hx _ (List.getElem_mem hj)) hown
  have hc := cell_of_one hp
  clear hown hp
  go_enter Tryd.func40, Tryd.ntmps40
  go_wp2_with fail
  refine (clone_any ad l.length cap (fn l) w h2 h3 hl).mono ?_
  rintro e w1 ⟨ad', cap', rfl, k1, k2, k3, k4, hb⟩
  go_wp2
  go_ret
  exact ⟨ad', cap', rfl, k1, k2, k3, k4, hb⟩
end Go.Proofs.YtnjkgpgbipcgcaaDoor
