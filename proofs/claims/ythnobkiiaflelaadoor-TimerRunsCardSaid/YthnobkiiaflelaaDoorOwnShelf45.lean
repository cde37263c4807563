/- sort.Slice of a queue's events. -/
import Derived.Test.YthnobkiiaflelaaDoorOwnShelf36
import Derived.Test.YthnobkiiaflelaaDoorOwnShelf44
import Derived.Shelf.GgSortFunc.Tiny
namespace Go.Proofs.YthnobkiiaflelaaDoor
open Go.RowKit Go.Maps Go.Sort Go.Lib Go.Shelf

theorem sortS_any {blk bs n cap : Nat} (w : World) (d : Nat → Ev) (h : EvS blk bs n cap w d) (hn : n ≤ 1000) (hcap : n ≤ cap) (hne : bs ≠ blk) (hT : TotE n d) (h2 : 2 ≤ n) :
    Calls Tryd.prog 23 #[.iface 34 (.slice (some ⟨blk, 0, none⟩) n cap), .func (.func 24) #[] #[.pointer (some ⟨bs, 0, none⟩)]] w fun e w' => e = .returned (.tuple #[]) ∧ ∃ d', EvS blk bs n cap w' d' ∧ PermR 0 n d d' ∧ SortR 0 n d' ∧ Fr (fun k => k = blk) w w' := by
  refine Any.sort_Slice_of_pdq Tryd.lSlice 34 58 evT evE (by kernel_rfl) (by kernel_rfl) (by kernel_rfl) (by kernel_rfl) 25 (fun _ => by kernel_rfl) (some ⟨blk, 0, none⟩) n cap (by omega) 49 (by rw [evK _ h2]; kernel_rfl) (.func 24) #[] #[.pointer (some ⟨bs, 0, none⟩)] w (fun w' => ∃ d', EvS blk bs n cap w' d' ∧ PermR 0 n d d' ∧ SortR 0 n d' ∧ Fr (fun k => k = blk) w w') ?_
  have hB : sliceBound Tryd.prog 58 evE 25 (some ⟨blk, 0, none⟩) n cap = #[.slice (some ⟨blk, 0, none⟩) n cap, typeHandle Tryd.prog 58] := by
    unfold sliceBound; rw [if_neg (by rw [evK _ h2]; decide)]
  rw [hB]
  obtain ⟨W, hW⟩ : ∃ W, sliceWorld Tryd.prog Tryd.lSlice_ren 34 (some ⟨blk, 0, none⟩) n cap w = W := ⟨_, rfl⟩
  have hb : Below w.heap.size w W := by
    rw [← hW]
    exact ((Below.refl _ w).alloc (Nat.le_refl _) _).alloc (by simp) _
  rw [hW]
  have hbl : Lib.bitLen n ≤ 64 := Lib.bitLen_le n 64 (by omega) (by omega)
  have hp := pdq_any (evSr blk bs n cap (by omega) hcap hne) n 0 n (Lib.bitLen n) d W (Nat.le_refl _) (Nat.zero_le _) (Nat.le_refl _) (by omega) ((evSr blk bs n cap (by omega) hcap hne).below h hb) hT (fun h0 => by omega)
  refine Calls.mono (show Calls Tryd.prog 36 _ W _ from hp) ?_
  rintro e w' ⟨rfl, d', h1, h2, h3, h4⟩
  exact ⟨rfl, d', h1, h2, h3, (Fr.ofBelow hb).trans h4 fun _ _ e => e⟩
theorem sortS_tiny {ad : Option Addr} {bs n cap : Nat} (w : World) (h1 : n ≤ 1) :
    Calls Tryd.prog 23 #[.iface 34 (.slice ad n cap), .func (.func 24) #[] #[.pointer (some ⟨bs, 0, none⟩)]] w fun e w' => e = .returned (.tuple #[]) ∧ Below w.heap.size w w' := by
  have hk : ∀ os : Array Obj, Below w.heap.size w (Sort.grow w os) := fun os => ⟨rfl, rfl, rfl, by simp [Sort.grow], fun k hk => by simp [Sort.grow, Array.getElem?_append_left hk]⟩
  have hn : n = 0 ∨ n = 1 := by omega
  rcases hn with rfl | rfl
  · refine (Any.sort_Slice_tiny Tryd.lSlice 34 58 evT evE (by kernel_rfl) (by kernel_rfl) (by kernel_rfl) (by kernel_rfl) 25 (fun _ => by kernel_rfl) ad 0 cap (by omega) 41 (by kernel_rfl) _ _ _ w).mono ?_
    rintro e w' ⟨rfl, os, rfl⟩
    exact ⟨rfl, hk os⟩
  · refine (Any.sort_Slice_tiny Tryd.lSlice 34 58 evT evE (by kernel_rfl) (by kernel_rfl) (by kernel_rfl) (by kernel_rfl) 25 (fun _ => by kernel_rfl) ad 1 cap (by omega) 42 (by kernel_rfl) _ _ _ w).mono ?_
    rintro e w' ⟨rfl, os, rfl⟩
    exact ⟨rfl, hk os⟩
end Go.Proofs.YthnobkiiaflelaaDoor
