/- Rows of branches of one's own; slices.Concat of two; ints cloned. -/
import Derived.Test.YtjnepkggdkccaaaGreatDoorOwnShelf13
import Derived.Test.YtjnepkggdkccaaaGreatDoorOwnShelf10
import Derived.Test.YtjnepkggdkccaaaGreatDoorOwnShelf19
import Derived.Deep.AppendSrc
import Derived.Maps.AppendAt
import Derived.Deep.Slices
import Derived.Lib.Slices
namespace Go.Proofs.YtjnepkggdkccaaaGreatDoor.Cd
open Go.RowKit Go.Shelf Go.Sort

/-- Ints cloned, whatever they are. -/
theorem clone_keys (ka : Option Addr) (n kc : Nat) (z : Nat → Int) (w : World) (h : IsAt w ka n z) (hn : n ≤ 1000000) :
  Calls Tryz.prog 71 #[.slice ka n kc] w fun e w' => ∃ ka' kc', e = .returned (.slice ka' n kc') ∧ IsAt w' ka' n z ∧ Below w.heap.size w w' ∧ (∀ a, ka' = some a → w.heap.size ≤ a.block ∧ a.block < w'.heap.size) := by
 rcases Nat.eq_zero_or_pos n with h0 | hp
 ·subst h0
  cases ka with
  | none =>
   have hcon := Any.slices_Clone_int_nil Tryz.lClone 0 kc w
   change Calls Tryz.prog 71 _ _ _ at hcon
   refine hcon.mono ?_
   rintro e w' ⟨rfl, rfl⟩
   exact ⟨none, 0, rfl, fun h => by omega, Below.refl _ _, fun a h => by cases h⟩
  | some a =>
   have hcon := Any.slices_Clone_int_zero Tryz.lClone a kc w
   change Calls Tryz.prog 71 _ _ _ at hcon
   refine hcon.mono ?_
   rintro e w' ⟨v', rfl, hown, hne, hb⟩
   rcases hown.2 with ⟨e, _⟩ | ⟨g, cap', cur, rfl, hg, hgc, _⟩
   ·exact absurd e hne
   ·exact ⟨_, cap', rfl, fun h => by omega, hb, fun a h => by cases h; exact ⟨hg, lt_of_block hgc⟩⟩
 ·obtain ⟨b, off, rfl, hc⟩ := h hp
  refine (clone_pos b off n kc z w hc hn).mono ?_
  rintro e w' ⟨g, cap', rfl, _, hH, hg, hgl, hb⟩
  refine ⟨_, cap', rfl, fun _ => ⟨g, 0, rfl, fun j hj => ?_⟩, hb, fun a h => by cases h; exact ⟨hg, hgl⟩⟩
  have h1 := (hH j (by simp [keysL_length]; exact hj)).1
  rw [h1]
  simp [keysL, hj]
/-- A row of branches of one's own, made since w0. -/
structure BrO (w0 w : World) (v : Value) (n : Nat) (cs : List Value) : Prop where
 own : w.ownsRow w0.heap.size 164 35 v n cs
 below : Below w0.heap.size w0 w
theorem BrO.nil (w : World) : BrO w w (.slice none 0 0) 0 [] := ⟨World.ownsRow_nil _ _ _ _, Below.refl _ _⟩
/-- Branches that lie somewhere, or nothing: their cells. -/
def BrSrc (w : World) (u : Value) (n : Nat) (cs : List Value) : Prop :=
 ∃ ad c, u = .slice ad n c ∧ cs.length = n * 35 ∧ (∀ x ∈ cs, x.oneCell' = true) ∧ ((ad = none ∧ n = 0) ∨ ∃ a, ad = some a ∧ ∀ j v, cs[j]? = some v → w.cell? (a.add j) = some v)
theorem BrSrc.below {w w' : World} {u : Value} {n : Nat} {cs : List Value} (h : BrSrc w u n cs) (hb : Below w.heap.size w w') : BrSrc w' u n cs := by
 obtain ⟨ad, c, rfl, h1, h2, h⟩ := h
 refine ⟨ad, c, rfl, h1, h2, ?_⟩
 rcases h with h | ⟨a, rfl, hc⟩
 ·exact .inl h
 ·refine .inr ⟨a, rfl, fun j v hv => ?_⟩
  have h1 := hc j v hv
  rw [hb.cell (p := a.add j) (World.block_lt_of_cell? w _ h1)]
  exact h1
theorem run_append_Br (w w0 : World) (ty : TypeId) (v u : Value) (n m : Nat) (xs ys : List Value) (hown : BrO w0 w v n xs) (hu : BrSrc w u m ys) (hlen : n + m ≤ 1000000) :
  ∃ v' w1, (Builtin.append_ #[91, 91] ty #[v, u]).run Tryz.prog w = .ok v' w1 ∧ BrO w0 w1 v' (n + m) (xs ++ ys) := by
 obtain ⟨i0, hi0, hz0, hz1, hz2⟩ := info_parts infoB
 obtain ⟨ad, c, rfl, hyl, hy1, ⟨rfl, rfl⟩ | ⟨a, rfl, hc⟩⟩ := hu
 ·obtain rfl : ys = [] := List.eq_nil_of_length_eq_zero (by omega)
  refine ⟨v, w, ?_, by simpa using hown⟩
  rcases hown.own.2 with ⟨rfl, hl⟩ | ⟨g, cap, cur, rfl, hbs, hg, hcap, _⟩
  ·simp [Builtin.append_, run_underlying Tryz.underlying91, sizeOf, typeInfo, hi0, Builtin.lenOf, Builtin.firstCells]
  ·have := run_append_room_src (P := Tryz.prog) w 91 91 ty 164 i0 Tryz.underlying91 hi0 g 0 n cap (.slice none 0 c) 0 [] (Src.ofNil w Tryz.underlying91 c) (by omega) (fun j hj => by simp at hj) (fun j hj => by simp at hj)
   simpa [World.setCells] using this
 ·obtain ⟨v', w1, hr, h2, h3, _, h5⟩ := run_append_own_at (P := Tryz.prog) w w0.heap.size 91 ty 164 i0 (.agg (bv b0 none 0)) 35 72 Tryz.underlying91 hi0 hz0 hz1 hz2 zero_b (by decide) v n xs hown.own a m c ys hyl hc
   hy1 (by simp only [maxLen]; omega) (by omega) hown.below.size
  refine ⟨v', w1, hr, h2, hown.below.trans ⟨h3.os, h3.tape, h3.output, h3.size, fun k hk => h3.block k (by have := hown.below.size; omega) (fun e => ?_)⟩⟩
  have := (hown.own.lt k e.symm).1
  omega
section
variable {ops : Array Oper} {rest : List Oper} {o : Oper} {a : Act} {w : World} {Q : Exit → Act → World → Prop}
theorem wpList_append_Br (hgd : o.guard = none) (s x : Operand) (ho : o.op = .call { callee := .builtin .append, args := #[s, x], argTypes := #[91, 91] })
  (w0 : World) (v u : Value) (n m : Nat) (xs ys : List Value) (hs : a.eval s = v) (hx : a.eval x = u) (hown : BrO w0 w v n xs) (hu : BrSrc w u m ys) (hlen : n + m ≤ 1000000)
  (h : ∀ v' w1, BrO w0 w1 v' (n + m) (xs ++ ys) → wpList Tryz.prog ops Q rest (a.put o.dst v') w1) : wpList Tryz.prog ops Q (o :: rest) a w := by
 obtain ⟨v', w1, hr, h2⟩ := run_append_Br w w0 o.type v u n m xs ys hown hu hlen
 refine wpList_plain hgd fun K hK => ?_
 unfold Oper.wp execOp
 simp only [ho, resolve, invoke, builtin, Sem.run_bind, Sem.run_pure, Result.andThen_ok, List.map_toArray, List.map_cons, List.map_nil, hs, hx, hr]
 exact hK _ _ (h v' w1 h2)
end
/-- Room made for n branches behind nothing. -/
theorem growB_nil (n : Nat) (w : World) (hn : n ≤ 1000000) :
  Calls Tryz.prog 107 #[.slice none 0 0, .int .i64 n] w fun e w' => ∃ v, e = .returned v ∧ BrO w w' v 0 [] := by
 rcases Nat.eq_zero_or_pos n with h0 | hp
 ·subst h0
  have hcon := Any8.slices_Grow_room Tryz.lGrowB none 0 0 0 w (Nat.le_refl _) (by omega) (by omega) (by omega)
  change Calls Tryz.prog 107 _ _ _ at hcon
  refine hcon.mono ?_
  rintro e w' ⟨rfl, rfl⟩
  exact ⟨_, rfl, BrO.nil _⟩
 ·obtain ⟨i0, hi0, hz0, hz1, hz2⟩ := info_parts infoB
  have hcon := Any8.slices_Grow_grow Tryz.lGrowB i0 (.agg (bv b0 none 0)) hi0 hz0 (by omega) none 0 0 n [] w (Nat.le_refl _) (by omega) (by rw [hz2]; omega) (by omega) (by simp) (fun _ => rfl) (fun a h => by cases h)
  change Calls Tryz.prog 107 _ _ _ at hcon
  refine hcon.mono ?_
  rintro e w' ⟨rfl, rfl⟩
  refine ⟨_, rfl, ⟨⟨by simp, .inr ⟨w.heap.size, _, _, rfl, Nat.le_refl _, heap_alloc_new w.drew _, Nat.zero_le _, ?_, ?_, by simp⟩⟩, ((Below.refl _ w).drew).alloc (Nat.le_refl _) _⟩⟩
  ·exact grownCap_le_maxLen _ _ _ _ (by unfold maxLen; omega)
  ·have := grownCap_ge w n 0 (Tryz.lGrowB_ren.t 25)
   simp [size_zeroCells, zero_b]
   omega

set_option maxRecDepth 100000 in
set_option maxHeartbeats 3200000 in
theorem concatB (q : Nat) (ad1 : Option Addr) (n1 c1 : Nat) (xs : List Value) (ad2 : Option Addr) (n2 c2 : Nat) (ys : List Value) (w : World) (h0 : w.cell? ⟨q, 0, none⟩ = some (.slice ad1 n1 c1)) (h1 : w.cell? ⟨q, 1, none⟩ = some (.slice ad2 n2 c2)) (hs1 : BrSrc w (.slice ad1 n1 c1) n1 xs) (hs2 : BrSrc w (.slice ad2 n2 c2) n2 ys) (hl : n1 + n2 ≤ 1000000) :
  Calls Tryz.prog 85 #[.slice (some ⟨q, 0, none⟩) 2 2] w fun e w' => ∃ v, e = .returned v ∧ BrO w w' v (n1 + n2) (xs ++ ys) := by
 have HS : Hid (BrSrc w (.slice ad1 n1 c1) n1 xs ∧ BrSrc w (.slice ad2 n2 c2) n2 ys) := ⟨hs1, hs2⟩
 clear hs1 hs2
 have hb0 := Below.refl w.heap.size w
 have hq := World.block_lt_of_cell? w ⟨q, 0, none⟩ h0
 have e1 : wrap64 ((n1 : Int) + n2) = ((n1 + n2 : Nat) : Int) := by unfold wrap64; omega
 have e2 : ¬ (n1 : Int) < 0 := by omega
 go_enter Tryz.func85, Tryz.ntmps85
 go_wp2
 refine wp_loop_rounds 3 ?_
 rw [rounds_succ]
 go_wp2
 rw [rounds_succ]
 go_wp2
 rw [rounds_succ]
 go_wp2_with fail
 have hgr := growB_nil (n1 + n2) w hl
 rw [Int.natCast_add] at hgr
 refine hgr.mono ?_
 rintro e w1 ⟨v, rfl, hO1⟩
 have d0 : w1.cell? ⟨q, 0, none⟩ = some (.slice ad1 n1 c1) := by rw [hO1.below.cell (p := ⟨q, 0, none⟩) hq]; exact h0
 have HO1 : Hid (BrO w w1 v 0 [] ∧ BrSrc w1 (.slice ad1 n1 c1) n1 xs) := ⟨hO1, HS.out.1.below hO1.below⟩
 have HD : Hid (∀ w' v' n L, BrO w w' v' n L → w'.cell? ⟨q, 1, none⟩ = some (.slice ad2 n2 c2) ∧ BrSrc w' (.slice ad2 n2 c2) n2 ys) := fun w' v' n L h => ⟨by rw [h.below.cell (p := ⟨q, 1, none⟩) hq]; exact h1, HS.out.2.below h.below⟩
 clear hgr hO1 h0 h1 hb0
 go_wp2
 refine wp_loop_rounds 3 ?_
 rw [rounds_succ]
 go_wp2_with (at_builtin; refine wpList_append_Br rfl _ _ rfl w _ _ 0 n1 [] xs rfl rfl HO1.out.1 HO1.out.2 (by omega) ?_; intro v2 w2 hO2; obtain ⟨d1, hs2⟩ := HD.out w2 v2 _ _ hO2; have HO2 : Hid (BrO w w2 v2 n1 xs ∧ BrSrc w2 (.slice ad2 n2 c2) n2 ys) := ⟨by simpa using hO2, hs2⟩; clear hO2 hs2)
 rw [rounds_succ]
 go_wp2_with (at_builtin; refine wpList_append_Br rfl _ _ rfl w _ _ n1 n2 xs ys rfl rfl HO2.out.1 HO2.out.2 (by omega) ?_; intro v3 w3 hO3)
 rw [rounds_succ]
 go_wp2
 go_ret
 exact ⟨_, rfl, hO3⟩

/-- Branches of two, one behind the other. -/
def joinB (X : Nat → Bv) (n : Nat) (Y : Nat → Bv) : Nat → Bv := fun i => if i < n then X i else Y (i - n)
def joinA (A : Nat → Option Addr × Nat) (n : Nat) (B : Nat → Option Addr × Nat) : Nat → Option Addr × Nat := fun i => if i < n then A i else B (i - n)
theorem joinB_l {X : Nat → Bv} {n : Nat} {Y : Nat → Bv} {i : Nat} (h : i < n) : joinB X n Y i = X i := if_pos h
theorem joinB_r (X : Nat → Bv) (n : Nat) (Y : Nat → Bv) (i : Nat) : joinB X n Y (n + i) = Y i := by unfold joinB; rw [if_neg (by omega), Nat.add_sub_cancel_left]
theorem flatB_congrX {X Y : Nat → Bv} {A B : Nat → Option Addr × Nat} : ∀ n, (∀ i, i < n → X i = Y i ∧ A i = B i) → flatB X A n = flatB Y B n
 | 0, _ => rfl
 | n + 1, h => by rw [flatB, flatB, flatB_congrX n (fun i hi => h i (by omega)), (h n (by omega)).1, (h n (by omega)).2]
theorem flatB_join (X Y : Nat → Bv) (A B : Nat → Option Addr × Nat) (n : Nat) : ∀ m, flatB (joinB X n Y) (joinA A n B) (n + m) = flatB X A n ++ flatB Y B m
 | 0 => by
  rw [Nat.add_zero, flatB_congrX (X := joinB X n Y) (A := joinA A n B) n (Y := X) (B := A) (fun i hi => ⟨if_pos hi, if_pos hi⟩)]
  simp [flatB]
 | m + 1 => by
  rw [← Nat.add_assoc, flatB, flatB_join X Y A B n m, flatB, List.append_assoc]
  congr 2
  ·rw [joinB_r]; unfold joinA; rw [if_neg (by omega), Nat.add_sub_cancel_left]
theorem flatB_one (X : Nat → Bv) (A : Nat → Option Addr × Nat) : ∀ n, ∀ u ∈ flatB X A n, u.oneCell' = true
 | 0, u, h => by cases h
 | n + 1, u, h => by
  rw [flatB, List.mem_append] at h
  rcases h with h | h
  ·exact flatB_one X A n u h
  ·exact brl_one _ _ _ u h
theorem flatB_set (X : Nat → Bv) (A : Nat → Option Addr × Nat) (i : Nat) (ka : Option Addr) (kc : Nat) : ∀ n, i < n → (flatB X A n).set (i * 35) (.slice ka (X i).n kc) = flatB X (fun j => if j = i then (ka, kc) else A j) n
 | 0, h => by omega
 | n + 1, h => by
  rw [flatB, flatB]
  by_cases e : i = n
  ·subst e
   rw [List.set_append_right _ _ (by rw [flatB_length]; omega), flatB_length, Nat.sub_self, flatB_congr i (B := A) (fun j hj => if_neg (by omega))]
   simp only [if_true]
   rfl
  ·rw [List.set_append_left _ _ (by rw [flatB_length]; omega), flatB_set X A i ka kc n (by omega), if_neg (fun e2 => e e2.symm)]
/-- A cell of a row of one's own, set. -/
theorem owns_set {w : World} {B : Nat} {t : TypeId} {size n cap g : Nat} {xs : List Value} (h : w.ownsRow B t size (.slice (some ⟨g, 0, none⟩) n cap) n xs) (k : Nat) (u : Value) : (w.setCell ⟨g, k, none⟩ u).ownsRow B t size (.slice (some ⟨g, 0, none⟩) n cap) n (xs.set k u) := by
 refine ⟨by rw [List.length_set]; exact h.1, ?_⟩
 rcases h.2 with ⟨e, _⟩ | ⟨g', cap', cur, e, hbs, hg, h1, h2, h3, h4⟩
 ·cases e
 ·cases e
  refine .inr ⟨g, cap, _, rfl, hbs, heap_setCell_same w g k _ t _ hg, h1, h2, by simpa using h3, ?_⟩
  rw [← h4]
  simp [List.take_set]
/-- The sources of a condition's branches. -/
theorem BrAt.src {w : World} {ad : Option Addr} {n : Nat} {X : Nat → Bv} (h : BrAt w ad n X) (c : Nat) : ∃ A : Nat → Option Addr × Nat, BrSrc w (.slice ad n c) n (flatB X A n) ∧ ∀ j, j < n → IsAt w (A j).1 (X j).n (X j).z := by
 rcases Nat.eq_zero_or_pos n with h0 | hp
 ·subst h0
  refine ⟨fun _ => (none, 0), ⟨ad, c, rfl, rfl, (fun x hx => absurd hx (by simp [flatB])), ?_⟩, fun j hj => by omega⟩
  cases ad with
  | none => exact .inl ⟨rfl, rfl⟩
  | some a => exact .inr ⟨a, rfl, fun j v hj => by cases hj⟩
 ·obtain ⟨b, off, rfl, hrow⟩ := h.at_ hp
  have each : ∀ i, i < n → ∃ t : Option Addr × Nat, w.rangeAt b (off + i * 35) (brl (X i) t.1 t.2) ∧ IsAt w t.1 (X i).n (X i).z := fun i hi => by
   obtain ⟨ka, kc, h1, h2⟩ := hrow i hi
   exact ⟨(ka, kc), h1, h2⟩
  obtain ⟨A, hA⟩ := Go.Deep.choose_lt each
  refine ⟨A, ⟨_, c, rfl, flatB_length X A n, flatB_one X A n, .inr ⟨_, rfl, fun j v hj => ?_⟩⟩, fun j hj => (hA j hj).2⟩
  have hl := (List.getElem?_eq_some_iff.1 hj).1
  rw [flatB_length] at hl
  have e : j = j / 35 * 35 + j % 35 := by omega
  rw [e, flatB_at X A n _ _ (by omega) (Nat.mod_lt _ (by decide))] at hj
  have := (hA (j / 35) (by omega)).1 _ _ hj
  rw [Addr.add_lit]
  rw [show off + j = off + j / 35 * 35 + j % 35 by omega]
  exact this
end Go.Proofs.YtjnepkggdkccaaaGreatDoor.Cd
/- cond.Or: the branches of both, all of them new. -/
namespace Go.Proofs.YtjnepkggdkccaaaGreatDoor.Cd
open Go.RowKit Go.Shelf Go.Sort

/-- While the keys are cloned: the first i branches have theirs. -/
structure OrR (W wr : World) (g cap N : Nat) (Z : Nat → Bv) (A A0 : Nat → Option Addr × Nat) (i : Nat) : Prop where
 below : Below W.heap.size W wr
 own : wr.ownsRow W.heap.size 164 35 (.slice (some ⟨g, 0, none⟩) N cap) N (flatB Z A N)
 new : ∀ j, j < i → IsAt wr (A j).1 (Z j).n (Z j).z
 apart : ∀ j, j < i → ∀ a, (A j).1 = some a → W.heap.size ≤ a.block ∧ a.block < wr.heap.size ∧ a.block ≠ g
 old : ∀ j, i ≤ j → j < N → A j = A0 j
theorem OrR.lt {W wr : World} {g cap N : Nat} {Z : Nat → Bv} {A A0 : Nat → Option Addr × Nat} {i : Nat} (h : OrR W wr g cap N Z A A0 i) : W.heap.size ≤ g ∧ g < wr.heap.size := by
 rcases h.own.2 with ⟨e, _⟩ | ⟨g', cap', cur, e, hbs, hg, _⟩
 ·cases e
 ·cases e; exact ⟨hbs, lt_of_block hg⟩
theorem OrR.row {W wr : World} {g cap N : Nat} {Z : Nat → Bv} {A A0 : Nat → Option Addr × Nat} {i : Nat} (h : OrR W wr g cap N Z A A0 i) {j : Nat} (hj : j < N) : wr.rangeAt g (j * 35) (brl (Z j) (A j).1 (A j).2) := by
 intro r u hu
 have hr : r < 35 := by
  have := (List.getElem?_eq_some_iff.1 hu).1
  rwa [brl_length] at this
 have := h.own.cells (g := g) rfl (j * 35 + r) u (by rw [flatB_at Z A N j r hj hr]; exact hu)
 rw [Addr.add_lit, Nat.zero_add] at this
 exact this
theorem owns_keep {w w' : World} {B : Nat} {t : TypeId} {size n : Nat} {v : Value} {xs : List Value} (h : w.ownsRow B t size v n xs) (hb : Below w.heap.size w w') : w'.ownsRow B t size v n xs := by
 refine ⟨h.1, ?_⟩
 rcases h.2 with hn | ⟨g, cap, cur, e, hbs, hg, rest⟩
 ·exact .inl hn
 ·exact .inr ⟨g, cap, cur, e, hbs, by rw [hb.block _ (lt_of_block hg)]; exact hg, rest⟩
theorem owns_frozen {w : World} {B : Nat} {t : TypeId} {size n cap g : Nat} {xs : List Value} (h : w.ownsRow B t size (.slice (some ⟨g, 0, none⟩) n cap) n xs) (k : Nat) : w.frozen? ⟨g, k, none⟩ = false := by
 rcases h.2 with ⟨e, _⟩ | ⟨g', cap', cur, e, hbs, hg, _⟩
 ·cases e
 ·cases e; exact frozen_of_row w g k _ _ hg
theorem OrR.next {W wr w2 : World} {g cap N : Nat} {Z : Nat → Bv} {A A0 : Nat → Option Addr × Nat} {i : Nat} {ka : Option Addr} {kc : Nat} (h : OrR W wr g cap N Z A A0 i) (hi : i < N) (hb : Below wr.heap.size wr w2) (hI : IsAt w2 ka (Z i).n (Z i).z) (ha : ∀ a, ka = some a → wr.heap.size ≤ a.block ∧ a.block < w2.heap.size) :
  OrR W (w2.setCell ⟨g, i * 35, none⟩ (.slice ka (Z i).n kc)) g cap N Z (fun j => if j = i then (ka, kc) else A j) A0 (i + 1) := by
 have hlt := h.lt
 have hap : ∀ j, j < i + 1 → ∀ a, (if j = i then (ka, kc) else A j).1 = some a → W.heap.size ≤ a.block ∧ a.block < w2.heap.size ∧ a.block ≠ g := by
  intro j hj a e
  by_cases ej : j = i
  ·rw [if_pos ej] at e
   have := ha a e
   have := h.below.size
   refine ⟨by omega, by omega, by omega⟩
  ·rw [if_neg ej] at e
   obtain ⟨p, q, r⟩ := h.apart j (by omega) a e
   have := hb.size
   exact ⟨p, by omega, r⟩
 refine ⟨(Below.transS h.below hb).setCell hlt.1 _, ?_, fun j hj => ?_, fun j hj a e => ?_, fun j h1 h2 => ?_⟩
 ·rw [← flatB_set Z A i ka kc N hi]
  exact owns_set (owns_keep h.own hb) _ _
 ·refine isAt_set ?_ (fun a e => (hap j hj a e).2.2)
  by_cases ej : j = i
  ·subst ej; simp only [if_true]; exact hI
  ·simp only [if_neg ej]; exact (h.new j (by omega)).below hb
 ·have := hap j hj a e
  refine ⟨this.1, ?_, this.2.2⟩
  show a.block < (w2.setCell _ _).heap.size
  simpa [World.setCell] using this.2.1
 ·rw [if_neg (by omega)]; exact h.old j (by omega) h2

set_option maxRecDepth 100000 in
set_option maxHeartbeats 3200000 in
theorem or_any (ad : Option Addr) (n cap : Nat) (X : Nat → Bv) (bd : Option Addr) (m dap : Nat) (Y : Nat → Bv) (w : World) (hB : BrAt w ad n X) (hD : BrAt w bd m Y) (hn : n + m ≤ 1000000) (hx : ∀ i, i < n → (X i).n ≤ 1000000) (hy : ∀ i, i < m → (Y i).n ≤ 1000000) :
  Calls Tryz.prog 53 #[.agg #[.slice ad n cap], .agg #[.slice bd m dap]] w fun e w' => ∃ v A, e = .returned (.agg #[v]) ∧ GivR w w' v (joinB X n Y) A (n + m) := by
 have HZ : Hid (∀ i, i < n + m → (joinB X n Y i).n ≤ 1000000) := fun i hi => by
  by_cases h : i < n
  ·rw [joinB_l h]; exact hx i h
  ·have e : i = n + (i - n) := by omega
   rw [e, joinB_r]; exact hy _ (by omega)
 obtain ⟨A1, hs1, hk1⟩ := hB.src cap
 obtain ⟨A2, hs2, hk2⟩ := hD.src dap
 have HK : Hid (∀ j, j < n + m → IsAt w (joinA A1 n A2 j).1 (joinB X n Y j).n (joinB X n Y j).z) := fun j hj => by
  by_cases h : j < n
  ·unfold joinB joinA; rw [if_pos h, if_pos h]; exact hk1 j h
  ·unfold joinB joinA; rw [if_neg h, if_neg h]; exact hk2 _ (by omega)
 have hF := flatB_join X Y A1 A2 n m
 have HF : Hid (flatB (joinB X n Y) (joinA A1 n A2) (n + m) = flatB X A1 n ++ flatB Y A2 m) := hF
 obtain ⟨N, hN⟩ : ∃ N, N = n + m := ⟨_, rfl⟩
 rw [← hN] at HZ HK HF hF ⊢
 have HN : Hid (N = n + m) := hN
 clear hN
 generalize joinB X n Y = Z at *
 generalize joinA A1 n A2 = A0 at *
 clear hF hB hD hx hy hk1 hk2
 have hb0 : Below w.heap.size w (((w.alloc (.cells #[.slice ad n cap] 93)).alloc (.cells #[.slice bd m dap] 93)).alloc (.cells #[.slice none 0 0] 93)) := (((Below.refl _ w).alloc (Nat.le_refl _) _).alloc (by simp) _).alloc (by simp; omega) _
 have hn4 : (((w.alloc (.cells #[.slice ad n cap] 93)).alloc (.cells #[.slice bd m dap] 93)).alloc (.cells #[.slice none 0 0] 93)).heap[w.heap.size + 2]? = some (.cells #[.slice none 0 0] 93 (0, 0)) := by
  have := heap_alloc_new ((w.alloc (.cells #[.slice ad n cap] 93)).alloc (.cells #[.slice bd m dap] 93)) (.cells #[.slice none 0 0] 93)
  simpa using this
 have c2 : (((w.alloc (.cells #[.slice ad n cap] 93)).alloc (.cells #[.slice bd m dap] 93)).alloc (.cells #[.slice none 0 0] 93)).cell? ⟨w.heap.size, 0, none⟩ = some (.slice ad n cap) := by
  rw [World.cell?_alloc_lt _ _ ⟨w.heap.size, 0, none⟩ (by simp; omega), World.cell?_alloc_lt _ _ ⟨w.heap.size, 0, none⟩ (by simp)]; simp
 have c3 : (((w.alloc (.cells #[.slice ad n cap] 93)).alloc (.cells #[.slice bd m dap] 93)).alloc (.cells #[.slice none 0 0] 93)).cell? ⟨w.heap.size + 1, 0, none⟩ = some (.slice bd m dap) := by
  rw [World.cell?_alloc_lt _ _ ⟨w.heap.size + 1, 0, none⟩ (by simp)]
  have := heap_alloc_new (w.alloc (.cells #[.slice ad n cap] 93)) (.cells #[.slice bd m dap] 93)
  rw [cell_of_row _ _ 0 _ _ _ (by simpa using this)]; rfl
 have HS : Hid (BrSrc w (.slice ad n cap) n (flatB X A1 n) ∧ BrSrc w (.slice bd m dap) m (flatB Y A2 m)) := ⟨hs1, hs2⟩
 have hs0 : (((w.alloc (.cells #[.slice ad n cap] 93)).alloc (.cells #[.slice bd m dap] 93)).alloc (.cells #[.slice none 0 0] 93)).heap.size = w.heap.size + 1 + 1 + 1 := by simp
 have HB0 : Hid (Below w.heap.size w (((w.alloc (.cells #[.slice ad n cap] 93)).alloc (.cells #[.slice bd m dap] 93)).alloc (.cells #[.slice none 0 0] 93)) ∧ (((w.alloc (.cells #[.slice ad n cap] 93)).alloc (.cells #[.slice bd m dap] 93)).alloc (.cells #[.slice none 0 0] 93)).heap[w.heap.size + 1 + 1]? = some (.cells #[.slice none 0 0] 93 (0, 0))) := ⟨hb0, hn4⟩
 clear hs1 hs2 hb0 hn4
 go_enter Tryz.func53, Tryz.ntmps53
 go_wp2_with fail
 generalize (((w.alloc (.cells #[.slice ad n cap] 93)).alloc (.cells #[.slice bd m dap] 93)).alloc (.cells #[.slice none 0 0] 93)) = V0 at *
 have hV1 := heap_alloc_new V0 (.cells #[.slice ad n cap, .slice bd m dap] 91)
 have hb1 : Below V0.heap.size V0 (V0.alloc (.cells #[.slice ad n cap, .slice bd m dap] 91)) := (Below.refl _ _).alloc (Nat.le_refl _) _
 rw [hs0] at hV1
 generalize V0.alloc (.cells #[.slice ad n cap, .slice bd m dap] 91) = V1 at *
 have HB1 : Hid (Below w.heap.size w V1 ∧ V1.heap[w.heap.size + 1 + 1]? = some (.cells #[.slice none 0 0] 93 (0, 0))) := ⟨Below.transS HB0.out.1 hb1, by rw [hb1.block _ (lt_of_block HB0.out.2)]; exact HB0.out.2⟩
 refine (concatB (w.heap.size + 1 + 1 + 1) ad n cap (flatB X A1 n) bd m dap (flatB Y A2 m) V1 (by rw [cell_of_row _ _ 0 _ _ _ hV1]; rfl) (by rw [cell_of_row _ _ 1 _ _ _ hV1]; rfl) (HS.out.1.below HB1.out.1) (HS.out.2.below HB1.out.1) hn).mono ?_
 rintro e V2 ⟨v, rfl, hO⟩
 rw [← HF.out, ← HN.out] at hO
 have HO : Hid (BrO V1 V2 v N (flatB Z A0 N)) := hO
 have HR2 : Hid (V2.heap[w.heap.size + 1 + 1]? = some (.cells #[.slice none 0 0] 93 (0, 0))) := by show _ = _; rw [hO.below.block _ (lt_of_block HB1.out.2)]; exact HB1.out.2
 clear hV1 hb1 HB0 hs0 c2 c3 HF
 rcases hO.own.2 with ⟨rfl, rfl⟩ | ⟨g, vc, cur, rfl, hgs, _⟩
 ·have r2 := HR2.out
  have c4 : V2.cell? ⟨w.heap.size + 1 + 1, 0, none⟩ = some (.slice none 0 0) := by rw [cell_of_row _ _ 0 _ _ _ r2]; rfl
  have f4 := frozen_of_row V2 _ 0 _ _ r2
  have HE : Hid ((V2.setCell ⟨w.heap.size + 1 + 1, 0, none⟩ (.slice none 0 0)).heap[w.heap.size + 1 + 1]? = some (.cells #[.slice none 0 0] 93 (0, 0))) := heap_setCell_same V2 _ 0 _ _ _ r2
  have HBe : Hid (Below w.heap.size w (V2.setCell ⟨w.heap.size + 1 + 1, 0, none⟩ (.slice none 0 0))) := (Below.transS HB1.out.1 HO.out.below).setCell (by show w.heap.size ≤ w.heap.size + 1 + 1; omega) _
  clear hO r2
  go_wp2
  refine wp_loop_rounds 1 ?_
  rw [rounds_succ]
  go_wp2
  exact bodyPost_ret (results_cell_row Tryz.results53 _ _ (w.heap.size + 1 + 1) 93 #[.slice none 0 0] (0, 0) _ rfl HE.out Tryz.underlying93 rfl szC) rfl ⟨_, A0, rfl, HBe.out, World.ownsRow_nil _ _ _ _, fun j hj => by omega, fun j hj => by omega⟩
 ·have hR0 : OrR V1 V2 g vc N Z A0 A0 0 := ⟨hO.below, hO.own, fun j hj => by omega, fun j hj => by omega, fun _ _ _ => rfl⟩
  have hNl : N ≤ 1000000 := by have := HN.out; omega
  have HG : Hid (V1.heap.size ≤ g) := hgs
  clear hO hgs
  go_wp2
  go_loopw [6, 7, 16] (fun _ _ iv wr => ∃ (i : Nat) (A : Nat → Option Addr × Nat), i ≤ N ∧ iv = .int .i64 i ∧ OrR V1 wr g vc N Z A A0 i) (fun _ _ iv _ => N + 1 - (intOf iv).toNat)
  case atStart => exact ⟨0, A0, by omega, rfl, hR0⟩
  case round =>
   clear hR0
   obtain ⟨i, A, hi, rfl, hR⟩ := hrel
   have HR : Hid (OrR V1 wr g vc N Z A A0 i) := hR
   clear hR
   by_cases hlt : i < N
   ·have hlt' : (i : Int) < N := by omega
    have HQ : Hid (wr.rangeAt g (i * 35) (brl (Z i) (A i).1 (A i).2)) := HR.out.row hlt
    have hIk : IsAt wr (A i).1 (Z i).n (Z i).z := by
     rw [HR.out.old i (Nat.le_refl _) hlt]
     exact ((HK.out i hlt).below HB1.out.1).below HR.out.below
    have HIk : Hid (IsAt wr (A i).1 (Z i).n (Z i).z) := hIk
    have hzi := HZ.out i hlt
    clear hIk
    generalize hka : (A i).1 = ka at *
    generalize hkc : (A i).2 = kc at *
    have HA : Hid ((A i).1 = ka ∧ (A i).2 = kc) := ⟨hka, hkc⟩
    clear hka hkc
    have HS1 : Hid (∀ w' : World, w'.heap[wr.heap.size]? = some (.cells (bv (Z i) ka kc) 164 (0, 0)) → Frm [wr.heap.size] (wr.alloc (.cells (bv b0 none 0) 164)) w' → Below wr.heap.size wr w' ∧ w'.cell? ⟨wr.heap.size, 0, none⟩ = some (.slice ka (Z i).n kc)) := by
     intro w' h1 h2
     have h3 : Below wr.heap.size (wr.alloc (.cells (bv b0 none 0) 164)) w' := h2.below (by simp) (by simp)
     exact ⟨((Below.refl _ wr).alloc (Nat.le_refl _) _).trans h3, (bbox_of h1).c0⟩
    go_wp2_with (first | (refine wpList_load_mid rfl 164 _ rfl g (i * 35) rfl (brl (Z i) ka kc) _ HQ.out Tryz.underlying164 rfl (szBl _ _ _) ?_) | (refine wpList_allocB rfl rfl ?_) | (refine wpList_storeR _ szB rfl _ _ rfl wr.heap.size rfl (Z i) b0 ka none kc 0 164 rfl (heap_alloc_new wr _) ?_; intro w1 hg1 hf1; obtain ⟨hb1, c10⟩ := HS1.out w1 hg1 hf1; clear hg1 hf1) | fail)
    refine (clone_keys ka (Z i).n kc (Z i).z w1 (HIk.out.below hb1) hzi).mono ?_
    rintro e w2 ⟨ka', kc', rfl, hI2, hb2, ha2⟩
    have hb12 : Below wr.heap.size wr w2 := Below.transS hb1 hb2
    have HN2 : Hid (OrR V1 (w2.setCell ⟨g, i * 35, none⟩ (.slice ka' (Z i).n kc')) g vc N Z (fun j => if j = i then (ka', kc') else A j) A0 (i + 1)) := HR.out.next hlt hb12 hI2 (fun a e => by have := ha2 a e; have := hb1.size; omega)
    have cq : w2.cell? ⟨g, i * 35, none⟩ = some (.slice ka (Z i).n kc) := by
     have := range_below HQ.out hb12 0 _ rfl
     simpa using this
    have fq : w2.frozen? ⟨g, i * 35, none⟩ = false := owns_frozen (owns_keep HR.out.own hb12) _
    clear hI2 hb2 ha2 hb12 hb1 c10
    go_wp2
    go_roundw
    case rel => exact ⟨i + 1, _, by omega, by go_num, HN2.out⟩
    case measure => simp [intOf]; omega
   ·obtain rfl : i = N := by omega
    have hnn : ¬ ((i : Int) < i) := by omega
    have r2 : wr.heap[w.heap.size + 1 + 1]? = some (.cells #[.slice none 0 0] 93 (0, 0)) := by rw [HR.out.below.block _ (lt_of_block HB1.out.2)]; exact HB1.out.2
    have c4 : wr.cell? ⟨w.heap.size + 1 + 1, 0, none⟩ = some (.slice none 0 0) := by rw [cell_of_row _ _ 0 _ _ _ r2]; rfl
    have f4 := frozen_of_row wr _ 0 _ _ r2
    have hp2 := lt_of_block HB1.out.2
    have HE : Hid ((wr.setCell ⟨w.heap.size + 1 + 1, 0, none⟩ (.slice (some ⟨g, 0, none⟩) i vc)).heap[w.heap.size + 1 + 1]? = some (.cells #[.slice (some ⟨g, 0, none⟩) i vc] 93 (0, 0))) := heap_setCell_same wr _ 0 _ _ _ r2
    have HGv : Hid (GivR w (wr.setCell ⟨w.heap.size + 1 + 1, 0, none⟩ (.slice (some ⟨g, 0, none⟩) i vc)) (.slice (some ⟨g, 0, none⟩) i vc) Z A i) := by
     have hsz := HB1.out.1.size
     refine ⟨(Below.transS HB1.out.1 HR.out.below).setCell (by show w.heap.size ≤ w.heap.size + 1 + 1; omega) _, ?_, fun j hj => ?_, fun j hj a e => ?_⟩
     ·have h1 := ownsRow_setCell_other HR.out.own (a := ⟨w.heap.size + 1 + 1, 0, none⟩) (by have := HR.out.lt.1; simp [Value.ownBlock]; omega) (.slice (some ⟨g, 0, none⟩) i vc)
      refine ⟨h1.1, ?_⟩
      rcases h1.2 with hn | ⟨g', cap', cur', e, hbs, rest⟩
      ·exact .inl hn
      ·exact .inr ⟨g', cap', cur', e, by omega, rest⟩
     ·exact isAt_set (HR.out.new j hj) (fun a e => by have := (HR.out.apart j hj a e).1; omega)
     ·have h2 := HR.out.apart j hj a e
      refine ⟨by omega, by simpa [World.setCell] using h2.2.1, fun e2 => ?_⟩
      have e3 : g = a.block := by simpa [Value.ownBlock] using e2
      exact h2.2.2 e3.symm
    clear r2
    go_wp2
    exact bodyPost_ret (results_cell_row Tryz.results53 _ _ (w.heap.size + 1 + 1) 93 #[.slice (some ⟨g, 0, none⟩) i vc] (0, 0) _ rfl HE.out Tryz.underlying93 rfl szC) rfl ⟨_, rfl, A, HGv.out⟩
end Go.Proofs.YtjnepkggdkccaaaGreatDoor.Cd
/- build.finish: the transaction, if it can be; its conditions anew. -/
namespace Go.Proofs.YtjnepkggdkccaaaGreatDoor
open Go.RowKit

theorem setCell_idle {w : World} {g k : Nat} {cs : Array Value} {t : TypeId} {v : Value} (h : w.heap[g]? = some (.cells cs t (0, 0))) (hk : cs[k]? = some v) : Below w.heap.size w (w.setCell ⟨g, k, none⟩ v) := by
 refine ⟨rfl, rfl, rfl, by simp [World.setCell], fun q _ => ?_⟩
 by_cases e : q = g
 ·subst e
  have e2 : cs.setIfInBounds k v = cs := by
   apply Array.ext_getElem?
   intro i
   rw [Array.getElem?_setIfInBounds]
   split
   ·rename_i e
    subst e
    rw [hk, if_pos (Array.getElem?_eq_some_iff.1 hk).1]
   ·rfl
  rw [heap_setCell_same w q k _ _ v h, h, e2]
 ·exact Below.heap_setCell _ _ _ _ (show q ≠ g from e)
set_option maxRecDepth 100000 in
theorem cloneNil (w : World) : Calls Tryz.prog 52 #[.slice none 0 0] w fun e w' => e = .returned (.slice none 0 0) ∧ w' = w := by
 have hnil := fun wx => Lib.run_eql_slice_nil (P := Tryz.prog) wx 33 5 none 0 0 0 0 Tryz.underlying33
 go_enter Tryz.func52, Tryz.ntmps52
 go_wp2
 go_ret
 exact ⟨rfl, rfl⟩
theorem results_T2 {fn : Func} {p u : Tmp} (h : fn.results = #[.cell p 50, .tmp u]) (tmps : Array Value) (w : World) (g : Nat) (t : TypeId) (c0 c1 c2 : Value) (fr : Nat × Nat)
  (hp : tmps.getD p undef = .pointer (some ⟨g, 0, none⟩)) (hg : w.heap[g]? = some (.cells #[c0, c1, c2] t fr)) :
  (results fn tmps).run Tryz.prog w = .ok (.tuple #[.agg #[c0, c1, c2], tmps.getD u undef]) w := by
 have hp' : tmps[p]?.getD undef = .pointer (some ⟨g, 0, none⟩) := by simpa using hp
 simp [results, h, hp', asAddr, run_loadVar_row w g t 50 #[c0, c1, c2] fr _ hg Tryz.underlying50 rfl szTx]
theorem run_allocTx (w : World) : (Instr.alloc 50 true (.tuple #[])).run Tryz.prog w = .ok (.pointer (some ⟨w.heap.size, 0, none⟩)) (w.alloc (.cells #[.int .i64 0, .slice none 0 0, .slice none 0 0] 50)) := by kernel_rfl
theorem run_allocTiF (w : World) : (Instr.alloc 130 true (.tuple #[])).run Tryz.prog w = .ok (.pointer (some ⟨w.heap.size, 0, none⟩)) (w.alloc (.cells (tiv ti0 none 0) 130)) := by kernel_rfl
theorem run_allocToF (w : World) : (Instr.alloc 95 true (.tuple #[])).run Tryz.prog w = .ok (.pointer (some ⟨w.heap.size, 0, none⟩)) (w.alloc (.cells #[.int .i64 0, .slice none 0 0] 95)) := by kernel_rfl
/-- Inputs without secrets, and outputs, in rows of one's own. -/
structure FinR (w : World) (B : Nat) (ia : Option Addr) (ic n : Nat) (Z : Nat → (Nat → Int) × Int) (oa : Option Addr) (oc : Nat) (os : List To) (A : Nat → Option Addr × Nat) : Prop where
 ins : w.ownsRow B 130 35 (.slice ia n ic) n (flatL (tiR Z) n)
 outs : w.ownsRow B 95 2 (.slice oa os.length oc) os.length (flatL (oL os A) os.length)
 cond : ∀ j, j < os.length → ∀ w' : World, (∀ k, k < w.heap.size → some k ≠ (Value.slice ia n ic).ownBlock → some k ≠ (Value.slice oa os.length oc).ownBlock → w'.heap[k]? = w.heap[k]?) → Cd.BrAt w' (A j).1 (os.getD j default).cn (os.getD j default).X
 nil : ∀ j, j < os.length → (A j).1 = none → (os.getD j default).cn = 0 ∧ (A j).2 = 0
 low : B ≤ w.heap.size
def oF (os : List To) : Nat → To := fun j => os.getD j default
def tF (Z : Nat → (Nat → Int) × Int) : Nat → Ti := fun i => tiOf (Z i)
theorem FinR.tin {w : World} {B : Nat} {ia : Option Addr} {ic n : Nat} {Z : Nat → (Nat → Int) × Int} {oa : Option Addr} {oc : Nat} {os : List To} {A : Nat → Option Addr × Nat} (h : FinR w B ia ic n Z oa oc os A) (hz : ∀ i, i < n → Hb (Z i).1) : TiAt w ia n (tF Z) (fun _ => (none, 0)) := by
 refine ⟨hz, fun hn => ?_⟩
 obtain ⟨g, rfl, _, _, hr⟩ := own_range h.ins hn
 exact ⟨g, 0, rfl, (flatL_range n (fun i _ => til_length (tiOf (Z i)) none 0)).1 hr⟩
theorem FinR.tout {w : World} {B : Nat} {ia : Option Addr} {ic n : Nat} {Z : Nat → (Nat → Int) × Int} {oa : Option Addr} {oc : Nat} {os : List To} {A : Nat → Option Addr × Nat} (h : FinR w B ia ic n Z oa oc os A) : ToAt w oa os.length (oF os) := by
 refine ⟨fun hn => ?_⟩
 obtain ⟨g, rfl, _, _, hr⟩ := own_range h.outs hn
 refine ⟨g, 0, rfl, fun j hj => ⟨(A j).1, (A j).2, ?_, h.cond j hj w (fun _ _ _ _ => rfl), h.nil j hj⟩⟩
 exact (flatL_range os.length (f := oL os A) (k := 2) (fun i _ => rfl)).1 hr j hj
theorem FinR.below {w w1 : World} {B : Nat} {ia : Option Addr} {ic n : Nat} {Z : Nat → (Nat → Int) × Int} {oa : Option Addr} {oc : Nat} {os : List To} {A : Nat → Option Addr × Nat} (h : FinR w B ia ic n Z oa oc os A) (hb : Below w.heap.size w w1) : FinR w1 B ia ic n Z oa oc os A :=
 ⟨own_below h.ins hb, own_below h.outs hb, fun j hj w' hw => h.cond j hj w' (fun k h1 h2 h3 => by rw [hw k (by have := hb.size; omega) h2 h3]; exact hb.block k h1), h.nil, by have := h.low; have := hb.size; omega⟩
/-- The transaction that is told. -/
structure TxR (w : World) (ia : Option Addr) (ic n : Nat) (Z : Nat → (Nat → Int) × Int) (oa : Option Addr) (oc : Nat) (os : List To) : Prop where
 tin : TiAt w ia n (tF Z) (fun _ => (none, 0))
 tout : ToAt w oa os.length (oF os)
 inil : ia = none → n = 0 ∧ ic = 0
 onil : oa = none → os.length = 0 ∧ oc = 0
 icap : n ≤ ic
 ocap : os.length ≤ oc
def finE (n : Nat) (Z : Nat → (Nat → Int) × Int) (os : List To) (lk : Int) : Int := txE lk n (tF Z) os.length (oF os)
set_option maxRecDepth 100000 in
set_option maxHeartbeats 3200000 in
theorem finish_bad (lk : Int) (B : Nat) (ia : Option Addr) (ic n : Nat) (Z : Nat → (Nat → Int) × Int) (oa : Option Addr) (oc : Nat) (os : List To) (A : Nat → Option Addr × Nat) (w : World) (h : FinR w B ia ic n Z oa oc os A) (hz : ∀ i, i < n → Hb (Z i).1) (hs : ∀ j, j < os.length → (oF os j).Small) (hn : n ≤ 1000000) (hm : os.length ≤ 1000000) (he : finE n Z os lk ≠ 0) :
  Calls Tryz.prog 27 #[.agg (txv lk ia n ic oa os.length oc)] w fun e w' => e = .returned (.tuple #[.agg #[.int .i64 0, .slice none 0 0, .slice none 0 0], errV (finE n Z os lk)]) ∧ Below w.heap.size w w' := by
 have HH : Hid (FinR w B ia ic n Z oa oc os A ∧ (∀ i, i < n → Hb (Z i).1) ∧ (∀ j, j < os.length → (oF os j).Small)) := ⟨h, hz, hs⟩
 clear h hz hs
 unfold txv
 have hev : errV (finE n Z os lk) = .iface 101 (.int .i64 (finE n Z os lk)) := kerrV_ne he
 go_enter Tryz.func27, Tryz.ntmps27
 go_wp2_with (first | (refine wpList_boxN rfl _ _ rfl #[.int .i64 lk, .slice ia n ic, .slice oa os.length oc] rfl ?_; intro v1 N1) | (refine wpList_allocN 50 #[.int .i64 0, .slice none 0 0, .slice none 0 0] run_allocTx rfl rfl ?_; intro v2 N2; have HR2 := hidV (txl_range (N2.old N1.blk)); have HX2 := hidV (And.intro N2.blk (Below.transS N1.below N2.below)); have HQ : Hid (w.heap.size < v1.heap.size ∧ v1.heap.size < v2.heap.size) := ⟨by have := N1.size; omega, by have := N2.size; omega⟩; clear N1 N2) | (refine wpList_load_mid rfl 50 _ rfl w.heap.size 0 rfl (txl lk ia n ic oa os.length oc) _ HR2.out Tryz.underlying50 rfl szTx ?_) | fail)
 have hf := HH.out.1.below HX2.out.2
 refine (kcheck_any lk ia n ic oa os.length oc (tF Z) (fun _ => (none, 0)) (oF os) v2 (hf.tin HH.out.2.1) hf.tout HH.out.2.2 hn hm).mono ?_
 rintro e v3 ⟨rfl, hb3⟩
 change Hid _ at HH
 rw [show errV (txE lk n (tF Z) os.length (oF os)) = .iface 101 (.int .i64 (finE n Z os lk)) from hev]
 have hg3 := heap_below hb3 HX2.out.1
 have hb := Below.transS HX2.out.2 hb3
 have HE := hidV (And.intro hg3 hb)
 have HV := hidV hev
 clear hf hg3 hb hb3 HX2 HR2 hev he
 go_wp2_with (first | (refine wpList_storeG 50 szTx rfl _ _ rfl v1.heap.size rfl #[.int .i64 0, .slice none 0 0, .slice none 0 0] #[.int .i64 0, .slice none 0 0, .slice none 0 0] rfl rfl (by kernel_rfl) 50 rfl HE.out.1 ?_; intro v4 hg4 hf4) | fail)
 refine bodyPost_ret (results_T2 Tryz.results27 _ v4 v1.heap.size 50 _ _ _ (0, 0) rfl hg4) rfl ⟨?_, HE.out.2.trans (hf4.below HE.out.2.size (by have := HQ.out; simp; omega))⟩
 rw [HV.out]
 rfl
end Go.Proofs.YtjnepkggdkccaaaGreatDoor
