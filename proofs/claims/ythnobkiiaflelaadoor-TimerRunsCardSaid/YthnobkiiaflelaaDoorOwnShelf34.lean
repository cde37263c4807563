/- Rows that are sorted by swaps: the mathematics; what is asked of a row that sort's functions sort. -/
import Derived.Test.YthnobkiiaflelaaDoorOwnShelf24
namespace Go.Proofs.YthnobkiiaflelaaDoor
open Go.RowKit Go.Maps Go.Sort

/-- From a on, up to b. -/
def segA (a b : Nat) (d : Nat → Ev) : List Ev := (List.range (b - a)).map fun k => d (a + k)
theorem segA_len (a b : Nat) (d : Nat → Ev) : (segA a b d).length = b - a := by simp [segA]
theorem mem_segA {a b : Nat} {d : Nat → Ev} {x : Ev} : x ∈ segA a b d ↔ ∃ k, a ≤ k ∧ k < b ∧ d k = x := by
  unfold segA
  rw [List.mem_map]
  constructor
  · rintro ⟨k, hk, rfl⟩
    rw [List.mem_range] at hk
    exact ⟨a + k, by omega, by omega, rfl⟩
  · rintro ⟨k, h1, h2, rfl⟩
    exact ⟨k - a, List.mem_range.2 (by omega), by rw [show a + (k - a) = k by omega]⟩
/-- The same between a and b but for the order; elsewhere as it was. -/
structure PermR (a b : Nat) (d d' : Nat → Ev) : Prop where
  out : ∀ k, (k < a ∨ b ≤ k) → d' k = d k
  perm : (segA a b d').Perm (segA a b d)
theorem PermR.refl (a b : Nat) (d : Nat → Ev) : PermR a b d d := ⟨fun _ _ => rfl, List.Perm.refl _⟩
theorem PermR.trans {a b : Nat} {d e f : Nat → Ev} (h : PermR a b d e) (k : PermR a b e f) : PermR a b d f := ⟨fun i hi => (k.out i hi).trans (h.out i hi), k.perm.trans h.perm⟩
theorem segA_cut {a c b : Nat} (h1 : a ≤ c) (h2 : c ≤ b) (d : Nat → Ev) : segA a b d = segA a c d ++ segA c b d := by
  apply List.ext_getElem?
  intro k
  unfold segA
  by_cases hk : k < c - a
  · rw [List.getElem?_append_left (by simpa using hk), List.getElem?_map, List.getElem?_map, List.getElem?_range hk, List.getElem?_range (by omega)]
  · rw [List.getElem?_append_right (by simp; omega), List.getElem?_map, List.getElem?_map]
    by_cases hk2 : k < b - a
    · rw [List.getElem?_range hk2, List.length_map, List.length_range, List.getElem?_range (by omega)]
      simp only [Option.map_some]
      congr 2
      omega
    · rw [List.getElem?_eq_none (by simp; omega), List.getElem?_eq_none (by simp; omega)]
      rfl
theorem segA_congr {a b : Nat} {d e : Nat → Ev} (h : ∀ k, a ≤ k → k < b → d k = e k) : segA a b d = segA a b e := by
  unfold segA
  refine List.map_congr_left fun k hk => ?_
  rw [List.mem_range] at hk
  exact h _ (by omega) (by omega)
theorem PermR.wide {a b a' b' : Nat} {d e : Nat → Ev} (h : PermR a b d e) (h1 : a' ≤ a) (h2 : b ≤ b') (hab : a ≤ b) : PermR a' b' d e := by
  refine ⟨fun k hk => h.out k (by omega), ?_⟩
  rw [segA_cut h1 (by omega : a ≤ b'), segA_cut h1 (by omega : a ≤ b'), segA_cut hab h2, segA_cut hab h2]
  rw [segA_congr (a := a') (b := a) (d := e) (e := d) (fun k _ hk => h.out k (by omega)), segA_congr (a := b) (b := b') (d := e) (e := d) (fun k hk _ => h.out k (by omega))]
  exact (h.perm.append_right _).append_left _
theorem PermR.swap {a b i j : Nat} (d : Nat → Ev) (hi : a ≤ i ∧ i < b) (hj : a ≤ j ∧ j < b) : PermR a b d (swapA d i j) := by
  refine ⟨fun k hk => swapA_o d (by omega) (by omega), ?_⟩
  have h := rowA_swap (n := b - a) (fun k => d (a + k)) (i := i - a) (j := j - a) (by omega) (by omega)
  have e : rowA (b - a) (swapA (fun k => d (a + k)) (i - a) (j - a)) = segA a b (swapA d i j) := by
    unfold rowA segA
    refine List.map_congr_left fun k _ => ?_
    show d (a + tr (i - a) (j - a) k) = d (tr i j (a + k))
    congr 1
    unfold tr
    by_cases h1 : k = i - a
    · rw [if_pos h1, if_pos (by omega : a + k = i)]; omega
    · rw [if_neg h1, if_neg (by omega : ¬ a + k = i)]
      by_cases h2 : k = j - a
      · rw [if_pos h2, if_pos (by omega : a + k = j)]; omega
      · rw [if_neg h2, if_neg (by omega : ¬ a + k = j)]
  rw [e] at h
  exact h
/-- What holds of all between a and b still does. -/
theorem PermR.all {a b : Nat} {d d' : Nat → Ev} (h : PermR a b d d') {p : Ev → Prop} (hp : ∀ k, a ≤ k → k < b → p (d k)) : ∀ k, a ≤ k → k < b → p (d' k) := fun k h1 h2 => by
  have hm : d' k ∈ segA a b d' := mem_segA.2 ⟨k, h1, h2, rfl⟩
  obtain ⟨i, hi1, hi2, e⟩ := mem_segA.1 (h.perm.mem_iff.1 hm)
  rw [← e]; exact hp i hi1 hi2
/-- Nobody is ahead of somebody before. -/
def SortR (a b : Nat) (d : Nat → Ev) : Prop := ∀ i j, a ≤ i → i < j → j < b → ltE (d j) (d i) = false
theorem SortR.congr {a b : Nat} {d e : Nat → Ev} (h : SortR a b d) (hk : ∀ k, a ≤ k → k < b → e k = d k) : SortR a b e := fun i j h1 h2 h3 => by
  rw [hk i h1 (by omega), hk j (by omega) h3]; exact h i j h1 h2 h3
theorem sort_short {a b : Nat} (d : Nat → Ev) (h : b ≤ a + 1) : SortR a b d := fun i j _ _ _ => by omega
theorem ltE_tr {x y z : Ev} (h1 : ltE y x = false) (h2 : ltE z y = false) : ltE z x = false := ordE.trans x y z h1 h2
/-- Neighbours tell all. -/
theorem sort_near {a b : Nat} {d : Nat → Ev} (h : ∀ k, a < k → k < b → ltE (d k) (d (k - 1)) = false) : SortR a b d := by
  intro i j h1 h2 h3
  obtain ⟨m, rfl⟩ : ∃ m, j = i + 1 + m := ⟨j - i - 1, by omega⟩
  clear h2
  induction m with
  | zero =>
    have := h (i + 1) (by omega) h3
    rwa [Nat.add_sub_cancel] at this
  | succ m ih =>
    have h4 := ih (by omega)
    have h5 := h (i + 1 + (m + 1)) (by omega) h3
    rw [show i + 1 + (m + 1) - 1 = i + 1 + m by omega] at h5
    exact ltE_tr h4 h5
/-- A row as sort's functions see it: in block blk; how its calls go. -/
structure SrC (g : Nat) (lb : Array Value) (sf : Nat) (sb : Array Value) (n : Nat) where
  at_ : World → (Nat → Ev) → Prop
  blk : Nat
  bs : Nat
  few : n ≤ 1000000
  low : ∀ {w d}, at_ w d → blk < w.heap.size ∧ bs < w.heap.size
  keep : ∀ {w w' d}, at_ w d → (∀ k, k = blk ∨ k = bs → w'.heap[k]? = w.heap[k]?) → at_ w' d
  eg : ∀ args w, (callFunc g args).run Tryd.prog w = .ok (.enter g args) w
  less : ∀ (w : World) (d : Nat → Ev) (i j : Nat), at_ w d → i < n → j < n → Calls Tryd.prog g (#[.int .i64 (i : Int), .int .i64 (j : Int)] ++ lb) w fun e w' => e = .returned (.bool (ltE (d i) (d j))) ∧ Below w.heap.size w w'
  swap : ∀ (w : World) (d : Nat → Ev) (i j : Nat), at_ w d → i < n → j < n → ∃ w', (callFunc sf (#[.int .i64 (i : Int), .int .i64 (j : Int)] ++ sb)).run Tryd.prog w = .ok (.value (.tuple #[])) w' ∧ at_ w' (swapA d i j) ∧ Fr (fun k => k = blk) w w'
theorem SrC.below {g : Nat} {lb : Array Value} {sf : Nat} {sb : Array Value} {n : Nat} (S : SrC g lb sf sb n) {w w' : World} {d : Nat → Ev} (h : S.at_ w d) (hb : Below w.heap.size w w') : S.at_ w' d := S.keep h fun k e => by
  rcases e with rfl | rfl
  · exact hb.block _ (S.low h).1
  · exact hb.block _ (S.low h).2
def lsV (g : Nat) (lb : Array Value) (sf : Nat) (sb : Array Value) : Value := .agg #[.func (.func g) #[] lb, .func (.func sf) #[] sb]
/-- On the way: the row, and the box of the two calls. -/
structure SrI {g : Nat} {lb : Array Value} {sf : Nat} {sb : Array Value} {n : Nat} (S : SrC g lb sf sb n) (w wr : World) (bx : Nat) (d : Nat → Ev) : Prop where
  row : S.at_ wr d
  fr : Fr (fun k => k = S.blk) w wr
  box : wr.heap[bx]? = some (.cells #[.func (.func g) #[] lb, .func (.func sf) #[] sb] 101 (0, 0))
  ne : bx ≠ S.blk
section
variable {g : Nat} {lb : Array Value} {sf : Nat} {sb : Array Value} {n : Nat} {S : SrC g lb sf sb n} {w wr w' : World} {bx : Nat} {d d' : Nat → Ev}
theorem SrI.start (h : S.at_ w d) : SrI S w (w.alloc (.cells #[.func (.func g) #[] lb, .func (.func sf) #[] sb] 101)) w.heap.size d :=
  ⟨S.below h ((Below.refl _ w).alloc (Nat.le_refl _) _), Fr.ofBelow ((Below.refl _ w).alloc (Nat.le_refl _) _), heap_alloc_new w _, by have := (S.low h).1; omega⟩
theorem SrI.c0 (h : SrI S w wr bx d) : wr.cell? ⟨bx, 0, none⟩ = some (.func (.func g) #[] lb) := by rw [cell_of_row _ _ 0 _ _ _ h.box]; rfl
theorem SrI.c1 (h : SrI S w wr bx d) : wr.cell? ⟨bx, 1, none⟩ = some (.func (.func sf) #[] sb) := by rw [cell_of_row _ _ 1 _ _ _ h.box]; rfl
theorem SrI.less (h : SrI S w wr bx d) (hb : Below wr.heap.size wr w') : SrI S w w' bx d :=
  ⟨S.below h.row hb, h.fr.trans (Fr.ofBelow (M := fun k => k = S.blk) hb) (fun _ _ e => e), (hb.block bx (lt_of_block h.box)).trans h.box, h.ne⟩
theorem SrI.swap (h : SrI S w wr bx d) (ha : S.at_ w' d') (hf : Fr (fun k => k = S.blk) wr w') : SrI S w w' bx d' :=
  ⟨ha, h.fr.trans hf (fun _ _ e => e), (hf.block bx (lt_of_block h.box) h.ne).trans h.box, h.ne⟩
end
end Go.Proofs.YthnobkiiaflelaaDoor
