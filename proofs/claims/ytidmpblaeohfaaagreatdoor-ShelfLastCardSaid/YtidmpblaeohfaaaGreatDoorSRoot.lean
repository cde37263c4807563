/- The root page. -/
import Derived.Test.YtidmpblaeohfaaaGreatDoorSLfK
import Derived.Test.YtidmpblaeohfaaaGreatDoorSKeys
namespace Go.Proofs.YtidmpblaeohfaaaGreatDoor
open Go.RowKit Go.Shelf Go.Maps Go.Sort

attribute [local go_sem ↓] Go.wp_at_zero Go.wp_at_succ

def srtI (l : List Int) : List Int := l.mergeSort fun x y => decide (x ≤ y)
theorem srtI_perm {l m : List Int} (h : l.Perm m) : srtI l = srtI m := by
  have hp : (srtI l).Perm (srtI m) := ((List.mergeSort_perm l _).trans h).trans (List.mergeSort_perm m _).symm
  have hs : ∀ k : List Int, (srtI k).Pairwise (fun x y => x ≤ y) := fun k => (List.pairwise_mergeSort (le := fun x y => decide (x ≤ y)) (fun a b c h1 h2 => by simp at *; omega) (fun a b => by simp; omega) k).imp fun {a b} h => of_decide_eq_true h
  exact hp.eq_of_pairwise (fun a b _ _ h1 h2 => Int.le_antisymm h1 h2) (hs l) (hs m)
/-- The places of leaves, ascending. -/
def plI (L : List Lf) : List Int := srtI (L.map fun x => (x.p : Int))
theorem plI_length (L : List Lf) : (plI L).length = L.length := by simp [plI, srtI]
theorem plI_mem {L : List Lf} {y : Int} (h : y ∈ plI L) : ∃ x ∈ L, y = (x.p : Int) := by
  have h1 := (List.mergeSort_perm (L.map fun x => (x.p : Int)) (fun x y => decide (x ≤ y))).mem_iff.1 h
  obtain ⟨x, hx, rfl⟩ := List.mem_map.1 h1
  exact ⟨x, hx, rfl⟩
def uBs (l : List Int) : List Int := l.flatMap uB
def rootB (L : List Lf) : List Int := uB (L.length : Int) ++ uBs (plI L)
theorem uBs_snoc (l : List Int) (x : Int) : uBs (l ++ [x]) = uBs l ++ uB x := by simp [uBs]
theorem uB_le (n : Int) : (uB n).length ≤ 9 := by
  have := sz_le n
  simp [uB, dgs_length]; omega
theorem uBs_le : ∀ l : List Int, (uBs l).length ≤ 9 * l.length
  | [] => by simp [uBs]
  | x :: r => by
    have h1 := uB_le x
    have h2 := uBs_le r
    unfold uBs at h2 ⊢
    simp only [List.flatMap_cons, List.length_append, List.length_cons]
    omega
/-- The leaves that have come. -/
def CameF (L : List Lf) (left : Lit → Bool) (xs : List Lf) : Prop := (xs.map Lf.k).Nodup ∧ ∀ x, x ∈ xs ↔ (x ∈ L ∧ left (.string x.k) = false)
theorem CameF.start (L : List Lf) : CameF L (Maps.has (dOf Lf.k Lf.en L)) [] := by
  refine ⟨List.nodup_nil, fun x => ⟨(fun h => by cases h), ?_⟩⟩
  rintro ⟨h1, h2⟩
  rw [dOf_has] at h2
  cases e : getK Lf.k x.k L with
  | none => exact absurd rfl ((getK_none Lf.k).1 e x h1)
  | some y => rw [e] at h2; cases h2
theorem CameF.step {L : List Lf} (hr : Rise Lf.k L) {left : Lit → Bool} {xs : List Lf} (h : CameF L left xs) {k : List UInt8} {c : Lf} (hc : getK Lf.k k L = some c) (hl : left (.string k) = true) :
    CameF L (fun z => left z && !z.sameKey (.string k)) (xs ++ [c]) := by
  obtain ⟨hm, rfl⟩ := getK_mem Lf.k hc
  refine ⟨?_, fun x => ?_⟩
  · rw [List.map_append, List.nodup_append]
    refine ⟨h.1, by simp, ?_⟩
    intro a ha b hb e
    simp at hb
    obtain ⟨y, hy, rfl⟩ := List.mem_map.1 ha
    have h1 := ((h.2 y).1 hy)
    rw [e, hb, hl] at h1
    cases h1.2
  · rw [List.mem_append, List.mem_singleton, h.2 x]
    constructor
    · rintro (⟨h1, h2⟩ | rfl)
      · exact ⟨h1, by simp [h2]⟩
      · exact ⟨hm, by simp [Lit.sameKey]⟩
    · rintro ⟨h1, h2⟩
      by_cases e : x.k = c.k
      · exact .inr (hr.inj Lf.k h1 hm e)
      · refine .inl ⟨h1, ?_⟩
        simpa [Lit.sameKey, e] using h2
theorem CameF.perm {L : List Lf} (hr : Rise Lf.k L) {left : Lit → Bool} {xs : List Lf} (h : CameF L left xs) (hl : ∀ kl, left kl = false) : xs.Perm L := by
  have h1 : xs.Nodup := List.Pairwise.of_map (S := (· ≠ ·)) Lf.k (fun a b hab e => hab (by rw [e])) h.1
  have h2 : L.Nodup := List.Pairwise.of_map (S := (· ≠ ·)) Lf.k (fun a b hab e => hab (by rw [e])) hr.nodup
  exact (List.perm_ext_iff_of_nodup h1 h2).2 fun x => by rw [h.2 x, hl]; simp
theorem make_ints (n : Nat) (hn : n ≤ 1000000) (w : World) : ∃ v w1, (Instr.makeSlice 63 (.int .i64 0) (.int .i64 (n : Int))).run Tryz.prog w = .ok v w1 ∧ IOw w w1 v [] ∧ w1.heap.size = w.heap.size + 1 ∧ ∃ g cap, v = .slice (some ⟨g, 0, none⟩) 0 cap := by
  obtain ⟨i0, hi0, hz0, hz1, hz2⟩ := info_parts infoInt
  have h := run_make (P := Tryz.prog) w 63 3 i0 (.int .i64 0) Tryz.underlying63 hi0 hz0 .i64 .i64 0 (n : Int) (Int.le_refl _) (by omega) (by rw [hz2]; omega) (by omega)
  refine ⟨_, _, h, ⟨?_, (Below.refl _ w).alloc (Nat.le_refl _) _⟩, by simp, _, _, rfl⟩
  have := World.ownsRow_made w (base := w.heap.size) (e := 3) (size := 1) (madeCells (Value.int .i64 0).cells (n * i0.size)) n (Nat.le_refl _) (by unfold maxLen; omega) (by simp [madeCells, hz1])
  simpa [iC] using this
theorem putRowI_below {w : World} {g off n : Nat} {d : Array Int} {os : Array Obj} {B : Nat} (hB : B ≤ g) (hg : g < w.heap.size) : Below B w (grow (putRow (Value.int .i64) (Sort.ahead w n) g off d) os) := by
  refine ⟨rfl, rfl, rfl, by simp, fun k hk => ?_⟩
  rw [heap_grow_old _ _ (by simp; omega)]
  simp only [putRow, mapBlock, heap_ahead]
  rw [Array.getElem?_modify, if_neg (by omega)]
/-- Ints that lie at the front of a block. -/
theorem sortI_any (g cap : Nat) (l : List Int) (w : World) (hc : ∀ j x, l[j]? = some x → w.cell? ⟨g, 0 + j, none⟩ = some (.int .i64 x) ∧ w.frozen? ⟨g, 0 + j, none⟩ = false) (hg : g < w.heap.size) (hn : l.length ≤ 1000000) (B : Nat) (hB : B ≤ g) :
    Calls Tryz.prog 83 #[.slice (some ⟨g, 0, none⟩) l.length cap] w fun e w' => e = .returned (.tuple #[]) ∧ IsL w' (some ⟨g, 0, none⟩) (srtI l) ∧ Below B w w' := by
  have hH : Holds (Value.int .i64) w g 0 l.toArray := fun j hj => by
    have hj' : j < l.length := by simpa using hj
    have := hc j l[j] (List.getElem?_eq_getElem hj')
    simpa [hj'] using this
  have hcon := Any.slices_Sort_int Tryz.lSort g 0 cap l w hH hg (by omega)
  change Calls Tryz.prog 83 _ _ _ at hcon
  refine hcon.mono ?_
  rintro e w' ⟨rfl, n, os, rfl⟩
  have hH2 : Holds (Value.int .i64) (grow (putRow (Value.int .i64) (Sort.ahead w n) g 0 (srtI l).toArray) os) g 0 (srtI l).toArray := holds_grow _ _ _ _ _ _ (by simpa using hg) (holds_putRow _ _ _ _ _ _ (holds_ahead _ _ _ _ _ _ hH) (by simp [srtI]))
  refine ⟨rfl, fun _ => ⟨g, 0, rfl, fun j x hx => ?_⟩, putRowI_below hB hg⟩
  have hj : j < (srtI l).length := (List.getElem?_eq_some_iff.1 hx).1
  have h1 := (hH2 j (by simpa using hj)).1
  have h2 : (srtI l).toArray[j]! = x := by
    have := (List.getElem?_eq_some_iff.1 hx).2
    simp [hj, this]
  rw [h2] at h1
  exact h1
/-- While the map is gone over: the places that have come. -/
structure RtI (w wr : World) (v : Value) (L : List Lf) (left : Lit → Bool) (cnt : Nat) : Prop where
  ex : ∃ xs, CameF L left xs ∧ IOw w wr v (xs.map fun x => (x.p : Int)) ∧ xs.length + cnt ≤ L.length ∧ ∃ g n cap, v = .slice (some ⟨g, 0, none⟩) n cap
theorem iow_cells {w0 w : World} {g n cap : Nat} {L : List Int} (h : IOw w0 w (.slice (some ⟨g, 0, none⟩) n cap) L) : n = L.length ∧ g < w.heap.size ∧ w0.heap.size ≤ g ∧ ∀ j x, L[j]? = some x → w.cell? ⟨g, 0 + j, none⟩ = some (.int .i64 x) ∧ w.frozen? ⟨g, 0 + j, none⟩ = false := by
  rcases h.own.2 with ⟨e, _⟩ | ⟨g', cap', cur, e, hbs, hg, hc, hm, _⟩
  · cases e
  · cases e
    refine ⟨rfl, lt_of_block hg, hbs, fun j x hx => ⟨?_, by rw [Nat.zero_add]; exact frozen_of_row w g j _ _ hg⟩⟩
    have := h.own.cells (g := g) rfl j (.int .i64 x) (by simp [iC, hx])
    rwa [Addr.add_lit] at this
theorem wpList_append_I2 {ops : Array Oper} {rest : List Oper} {o : Oper} {a : Act} {w : World} {Q : Exit → Act → World → Prop} (hgd : o.guard = none) (s x : Operand) (ho : o.op = .call { callee := .builtin .append, args := #[s, x], argTypes := #[63, 63] })
    (w0 : World) (v u : Value) (L ys : List Int) (hs : a.eval s = v) (hx : a.eval x = u) (hown : IOw w0 w v L) (hu : ISrc w u ys) (hlen : L.length + ys.length ≤ 1000000)
    (h : ∀ v' w1, IOw w0 w1 v' (L ++ ys) → (∀ k, k < w.heap.size → v.ownBlock ≠ some k → w1.heap[k]? = w.heap[k]?) → wpList Tryz.prog ops Q rest (a.put o.dst v') w1) : wpList Tryz.prog ops Q (o :: rest) a w := by
  obtain ⟨v', w1, hr, h2, h3⟩ := run_append_I w w0 o.type v u L ys hown hu hlen
  refine wpList_plain hgd fun K hK => ?_
  unfold Oper.wp execOp
  simp only [ho, resolve, invoke, builtin, Sem.run_bind, Sem.run_pure, Result.andThen_ok, List.map_toArray, List.map_cons, List.map_nil, hs, hx, hr]
  exact hK _ _ (h v' w1 h2 h3)
theorem iow_walk {w0 w w' : World} {v : Value} {L : List Int} {r : Nat} (h : IOw w0 w v L) (hg : w.grownBy w' (some r)) (hw : ∃ o : Obj, w.heap[r]? = some o ∧ o.isWalk = true) (hr : w0.heap.size ≤ r) : IOw w0 w' v L ∧ v.ownBlock ≠ some r := by
  have hne : v.ownBlock ≠ some r := fun e => by
    rcases h.own.2 with ⟨rfl, _⟩ | ⟨g, cap, cur, rfl, hbs, hgb, _⟩
    · cases e
    · cases e
      obtain ⟨o, ho, hk⟩ := hw
      rw [hgb] at ho; cases ho; cases hk
  refine ⟨⟨owns_row_keep h.own fun k e => hg.block k (h.own.lt k e).2 (fun e2 => hne (by rw [e, e2])), h.below.grown hg h.below.size (fun k e => by cases e; exact hr)⟩, hne⟩
theorem iow_some {w0 w1 : World} {v' : Value} {L : List Int} {y : Int} (h : IOw w0 w1 v' (L ++ [y])) : ∃ g n cap, v' = .slice (some ⟨g, 0, none⟩) n cap := by
  rcases h.form with ⟨_, e⟩ | ⟨g, cap, e, _⟩
  · simp at e
  · exact ⟨g, _, cap, e⟩
theorem newW_any (u : World) : Calls Tryz.prog 77 #[] u fun e u' => ∃ p, e = .returned (.pointer (some ⟨p, 0, none⟩)) ∧ WrAt u' u.heap.size p none [] ∧ Below u.heap.size u u' := by
  refine (newE_any u).mono ?_
  rintro e u' ⟨rfl, rfl⟩
  exact ⟨_, rfl, new_wr u, (Below.refl _ u).alloc (Nat.le_refl _) _⟩
/-- A number laid by a writer made since u. -/
theorem uintW_any (u w : World) (p : Nat) (g : Option Nat) (l : List Int) (n : Int) (hw : WrAt w u.heap.size p g l) (hb : Below u.heap.size u w) (hl : l.length ≤ 1000000) (hn : 0 ≤ n ∧ n ≤ 100000) :
    Calls Tryz.prog 84 #[.pointer (some ⟨p, 0, none⟩), .int .u64 n] w fun e w' => e = .returned (.pointer (some ⟨p, 0, none⟩)) ∧ ∃ g', WrAt w' u.heap.size p g' (l ++ uB n) ∧ Below u.heap.size u w' := by
  refine (wrUint_any p u.heap.size g l n w hw (by omega) (by omega)).mono ?_
  rintro e w' ⟨rfl, g', hw', hf, -⟩
  refine ⟨rfl, g', hw', hb.trans (hf.below hb.size (fun j hj => ?_))⟩
  simp at hj
  rcases hj with rfl | hj
  · exact hw.lt.2.1
  · exact (hw.lt.2.2 j hj).2
end Go.Proofs.YtidmpblaeohfaaaGreatDoor
