/- A shelf's Keys. -/
import Derived.Test.YtidmpblaeohfaaaGreatDoorSFree
import Derived.Test.YtidmpblaeohfaaaGreatDoorSLayK
namespace Go.Proofs.YtidmpblaeohfaaaGreatDoor
open Go.RowKit Go.Shelf Go.Maps Go.Sort

attribute [local go_sem ↓] Go.wp_at_zero Go.wp_at_succ

theorem sorts (m : Nat) : AnyZ.SortsIn Tryz.prog Tryz.lSorted_ren Fence.wide m :=
  ⟨fun blk off cap ss W hH hblk hsz => callsIn_wide.2 (Any.slices_Sort_string Tryz.lSortS blk off cap ss W hH hblk hsz),
   fun p cap W => callsIn_wide.2 (Any.slices_Sort_string_none Tryz.lSortS p cap W)⟩
theorem keys_any (mb : Option Nat) (w : World) :
    Calls Tryz.prog 51 #[.map mb] w fun e w' => e = .returned (.func (.func 87) #[] #[.pointer (some ⟨w.heap.size, 0, none⟩)]) ∧ w' = w.alloc (.cells #[.map mb] 81) :=
  callsIn_wide.1 (AnyZ.keys_in Tryz.lKeys Fence.wide 5 trivial rfl mb w)
theorem rise_le {l : List (List UInt8)} (h : l.Pairwise fun a b => bytesBefore a b = true) : l.mergeSort (fun x y => decide (x ≤ y)) = l := by
  apply List.mergeSort_of_pairwise
  refine h.imp fun {a b} hab => ?_
  rw [before_lt] at hab
  have := of_decide_eq_true hab
  exact decide_eq_true (List.le_of_lt this)
/-- Strings of one's own. -/
def StrR (w w' : World) (v : Value) (ks : List (List UInt8)) : Prop := w'.ownsRow w.heap.size 9 1 v ks.length (ks.map encStr) ∧ Below w.heap.size w w'
theorem sorted_any (Bm b : Nat) (L : List Lf) (hr : Rise Lf.k L) (hl : L.length ≤ 1000000) (w : World) (hm : w.cell? ⟨Bm, 0, none⟩ = some (.map (some b))) (hown : lfM w b L) :
    Calls Tryz.prog 50 #[.func (.func 87) #[] #[.pointer (some ⟨Bm, 0, none⟩)]] w fun e w' => ∃ v, e = .returned v ∧ StrR w w' v (L.map Lf.k) := by
  have hown' : w.ownsMap Tryz.prog 9 lfR b L.length (dOf Lf.k Lf.en L) := hown
  have hseq : SeqGives Fence.wide 2 Tryz.prog 87 #[.pointer (some ⟨Bm, 0, none⟩)] encStr (fun ss => ss.Perm (strKeys (dOf Lf.k Lf.en L))) (Maps.size (dOf Lf.k Lf.en L)) w :=
    AnyZ.keys_gives (ρ := Tryz.lKeys_ren) { Tryz.lKeys with } Fence.wide _ trivial rfl (by omega) Bm b L.length (dOf Lf.k Lf.en L) w (World.block_lt_of_cell? w ⟨Bm, 0, none⟩ hm) hm hown'
  have cS := AnyZ.sorted_in Tryz.lSorted Fence.wide 5 trivial trivial trivial trivial rfl (by omega) (sorts _) (enters_of Tryz.func86 (by kernel_rfl) rfl) 87 #[.pointer (some ⟨Bm, 0, none⟩)] trivial (enters_of Tryz.func87 (by kernel_rfl) rfl) _ _ (by rw [dOf_size]; unfold maxLen; omega) (by rw [dOf_size]; omega) _ hseq
  change CallsIn _ _ Tryz.prog 50 _ _ _ at cS
  refine (callsIn_wide.1 cS).mono ?_
  rintro e w' ⟨v, ss, rfl, hp, hrow, -, hb⟩
  rw [dOf_keys] at hp
  have e1 : ss.mergeSort (fun x y => decide (x ≤ y)) = L.map Lf.k := by
    rw [mergeSort_of_perm hp]
    apply rise_le
    rw [List.pairwise_map]
    exact hr
  rw [e1] at hrow
  have e2 : ss.length = (L.map Lf.k).length := hp.length_eq
  rw [e2] at hrow
  exact ⟨v, rfl, hrow, hb⟩
theorem owns_base {W : World} {base base' : Nat} {e : TypeId} {size : Nat} {v : Value} {k : Nat} {xs : List Value} (h : W.ownsRow base e size v k xs) (hb : base' ≤ base) : W.ownsRow base' e size v k xs := by
  refine ⟨h.1, ?_⟩
  rcases h.2 with hn | ⟨g, cap, cur, hv, hbg, rest⟩
  · exact .inl hn
  · exact .inr ⟨g, cap, cur, hv, Nat.le_trans hb hbg, rest⟩
set_option maxHeartbeats 800000 in
theorem keysS_any (sh m p fr n : Nat) (L : List Lf) (dead : Int) (w : World) (h : ShAt w sh m p fr n L dead) :
    Calls Tryz.prog 17 #[.pointer (some ⟨sh, 0, none⟩)] w fun e w' => ∃ v, e = .returned v ∧ StrR w w' v (L.map Lf.k) := by
  have c3 := h.c3
  have hk := keys_any (some m) w
  have hbA : Below w.heap.size w (w.alloc (.cells #[.map (some m)] 81)) := (Below.refl _ w).alloc (Nat.le_refl _) _
  have hs := sorted_any w.heap.size m L h.ok.rise (by have := h.few; have := h.count; omega) (w.alloc (.cells #[.map (some m)] 81)) (by simp) (owns_keepB h.map (hbA.block m h.ltm))
  clear h
  go_enter Tryz.func17, Tryz.ntmps17
  go_wp2_with fail
  refine hk.mono ?_
  rintro e w1 ⟨rfl, rfl⟩
  go_wp2_with fail
  refine hs.mono ?_
  rintro e w1 ⟨v, rfl, hR⟩
  go_wp2
  go_ret
  exact ⟨v, rfl, owns_base hR.1 (by simp), Below.transS hbA hR.2⟩
theorem keysS_nil (w : World) : Calls Tryz.prog 17 #[.pointer none] w fun e w' => e = .returned (.slice none 0 0) ∧ w' = w := by
  go_enter Tryz.func17, Tryz.ntmps17
  go_wp2
  go_ret
  exact ⟨rfl, rfl⟩
end Go.Proofs.YtidmpblaeohfaaaGreatDoor
