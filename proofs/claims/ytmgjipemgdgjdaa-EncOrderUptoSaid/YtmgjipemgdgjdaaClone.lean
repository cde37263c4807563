/- slices.Clone of bytes: the same bytes, in memory of its own. -/
import Derived.Test.YtmgjipemgdgjdaaKit
import Derived.Maps.AppendAt
namespace Go.Proofs.Ytmgjipemgdgjdaa
open Go.RowKit

theorem Try.infoB : (Try.prog.info? 5).map (fun i => (i.zero, i.size, i.bytes)) = some (some (.int .u8 0), 1, 1) := by kernel_rfl

/-- n bytes as cells. -/
def bl (z : Nat → Int) (n : Nat) : List Value := (List.range n).map fun j => .int .u8 (z j)
theorem bl_length (z : Nat → Int) (n : Nat) : (bl z n).length = n := by simp [bl]
theorem bl_get {z : Nat → Int} {n j : Nat} {u : Value} (h : (bl z n)[j]? = some u) : j < n ∧ u = .int .u8 (z j) := by
  simp only [bl, List.getElem?_map, Option.map_eq_some_iff] at h
  obtain ⟨a, h1, h2⟩ := h
  have := List.getElem?_eq_some_iff.1 h1
  obtain ⟨h3, h4⟩ := this
  simp at h3 h4
  exact ⟨h3, by rw [← h2, ← h4]⟩
theorem bl_at {z : Nat → Int} {n j : Nat} (h : j < n) : (bl z n)[j]? = some (.int .u8 (z j)) := by
  simp [bl, List.getElem?_map, List.getElem?_range h]
theorem bl_one (z : Nat → Int) (n : Nat) : ∀ u ∈ bl z n, u.oneCell' = true := by
  intro u hu
  simp only [bl, List.mem_map] at hu
  obtain ⟨_, _, rfl⟩ := hu
  rfl
theorem bl_cells {w : World} {b off n : Nat} {z : Nat → Int} (hc : ∀ j, j < n → w.cell? ⟨b, off + j, none⟩ = some (.int .u8 (z j))) : ∀ j u, (bl z n)[j]? = some u → w.cell? ((⟨b, off, none⟩ : Addr).add j) = some u := by
  intro j u h
  obtain ⟨hj, rfl⟩ := bl_get h
  rw [Addr.add_lit]
  exact hc j hj

/-- What owns a row of bytes is a slice of them. -/
theorem own_SlAt {w : World} {base : Nat} {v : Value} {n : Nat} {z : Nat → Int} (hz : ∀ j, j < n → 0 ≤ z j ∧ z j ≤ 255) (h : w.ownsRow base 5 1 v n (bl z n)) :
    ∃ ad cap, v = .slice ad n cap ∧ n ≤ cap ∧ SlAt w ad n z ∧ (ad = none → n = 0 ∧ cap = 0) ∧ (∀ a, ad = some a → base ≤ a.block) := by
  rcases h.2 with ⟨rfl, rfl⟩ | ⟨g, cap, cur, rfl, hb, hg, hcap, _, hsz, htk⟩
  · exact ⟨none, 0, rfl, Nat.le_refl _, SlAt.zero _ _, fun _ => ⟨rfl, rfl⟩, fun _ h => by cases h⟩
  · refine ⟨some ⟨g, 0, none⟩, cap, rfl, hcap, ⟨hz, fun _ => ⟨g, 0, rfl, fun j hj => ?_⟩⟩, (fun h => by cases h), (fun a h => by cases h; exact hb)⟩
    have := h.cells (g := g) rfl j _ (bl_at hj)
    rwa [Addr.add_lit] at this

set_option maxHeartbeats 400000 in
theorem clone_nil (w : World) :
    Calls Try.prog 27 #[.slice none 0 0] w fun e w' => e = .returned (.slice none 0 0) ∧ w' = w := by
  have hnil := fun wx => Lib.run_eql_slice_nil (P := Try.prog) wx 25 5 none 0 0 0 0 Try.underlying25
  go_enter Try.func27, Try.ntmps27
  go_wp2
  go_ret
  exact ⟨rfl, rfl⟩

set_option maxHeartbeats 400000 in
theorem clone_some (a : Addr) (n cap : Nat) (z : Nat → Int) (w : World) (hc : ∀ j u, (bl z n)[j]? = some u → w.cell? (a.add j) = some u) (hn : n ≤ 140737488351232) (hlt : 0 < n → a.block < w.heap.size) :
    Calls Try.prog 27 #[.slice (some a) n cap] w fun e w' => ∃ v, e = .returned v ∧ w'.ownsRow w.heap.size 5 1 v n (bl z n) ∧ Below w.heap.size w w' := by
  have hnil : ∀ wx, (binOp .eql 25 (.slice (some a) n cap) (.slice none 0 0)).run Try.prog wx = .ok (.bool false) wx := fun wx => Lib.run_eql_slice_nil (P := Try.prog) wx 25 5 (some a) n cap 0 0 Try.underlying25
  obtain ⟨i0, hi, hz0, hz1, hz2⟩ := info_parts Try.infoB
  have H : Hid (Try.prog.info? 5 = some i0 ∧ i0.zero = some (.int .u8 0) ∧ i0.size = 1 ∧ i0.bytes = 1) := ⟨hi, hz0, hz1, hz2⟩
  clear hi hz0 hz1 hz2
  have hnews : ∀ j u, (bl z n)[j]? = some u → (w.alloc (.cells #[] 5)).cell? (a.add j) = some u := by
    intro j u h
    have hj := (bl_get h).1
    rw [World.cell?_alloc_lt _ _ _ (by have := hlt (by omega); unfold Addr.add; split <;> exact this)]
    exact hc j u h
  have HC : Hid (∀ j u, (bl z n)[j]? = some u → (w.alloc (.cells #[] 5)).cell? (a.add j) = some u) := hnews
  clear hc hnews
  go_enter Try.func27, Try.ntmps27
  go_wp2_with (at_builtin; refine wpList_append_own_at _ rfl _ _ 25 rfl w.heap.size 5 i0 (.int .u8 0) 1 1 Try.underlying25 H.out.1 H.out.2.1 H.out.2.2.1 H.out.2.2.2 rfl (by decide) _ 0 [] rfl (World.ownsRow_made w #[] 0 (Nat.le_refl _) (Nat.zero_le _) rfl) a n cap (bl z n) rfl (by simp [bl_length]) HC.out (bl_one z n) (by unfold maxLen; omega) (by omega) (by simp) ?_; intro v' w1 hown hgrow _ _)
  go_ret
  refine ⟨v', rfl, by simpa using hown, ?_⟩
  exact ((Below.refl _ _).alloc (Nat.le_refl _) _).grown hgrow (by simp) (fun k hk => Nat.le_of_eq (Option.some.inj (show some w.heap.size = some k from hk)))

theorem clone_any (ad : Option Addr) (n cap : Nat) (z : Nat → Int) (w : World) (hs : SlAt w ad n z) (hnil : ad = none → n = 0 ∧ cap = 0) (hn : n ≤ 140737488351232) :
    Calls Try.prog 27 #[.slice ad n cap] w fun e w' => ∃ ad' cap', e = .returned (.slice ad' n cap') ∧ n ≤ cap' ∧ SlAt w' ad' n z ∧ (ad' = none → n = 0 ∧ cap' = 0) ∧ (∀ a, ad' = some a → w.heap.size ≤ a.block) ∧ Below w.heap.size w w' := by
  cases ad with
  | none =>
    obtain ⟨rfl, rfl⟩ := hnil rfl
    refine (clone_nil w).mono ?_
    rintro e w' ⟨rfl, rfl⟩
    exact ⟨none, 0, rfl, Nat.le_refl _, SlAt.zero _ _, (fun _ => ⟨rfl, rfl⟩), (fun _ h => by cases h), Below.refl _ _⟩
  | some a =>
    refine (clone_some a n cap z w ?_ hn ?_).mono ?_
    · intro j u h
      have hj := (bl_get h).1
      obtain ⟨b, off, e, hc⟩ := hs.2 (by omega)
      cases e
      exact bl_cells hc j u h
    · intro h0
      obtain ⟨b, off, e, hc⟩ := hs.2 h0
      cases e
      exact World.block_lt_of_cell? w ⟨b, off + 0, none⟩ (hc 0 h0)
    · rintro e w' ⟨v, rfl, hown, hbel⟩
      obtain ⟨ad', cap', rfl, h1, h2, h3, h4⟩ := own_SlAt hs.1 hown
      exact ⟨ad', cap', rfl, h1, h2, h3, h4, hbel⟩
end Go.Proofs.Ytmgjipemgdgjdaa
