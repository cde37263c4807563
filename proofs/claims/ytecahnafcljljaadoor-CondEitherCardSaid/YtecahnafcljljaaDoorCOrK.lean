/- Rows of branches of one's own; slices.Concat of two; ints cloned. -/
import Derived.Test.YtecahnafcljljaaDoorCSort
import Derived.Test.YtecahnafcljljaaDoorCGive
import Derived.Test.YtecahnafcljljaaDoorCShelfG
import Derived.Deep.AppendSrc
import Derived.Maps.AppendAt
import Derived.Deep.Slices
namespace Go.Proofs.YtecahnafcljljaaDoor
open Go.RowKit Go.Shelf Go.Sort

/-- Ints cloned, whatever they are. -/
theorem clone_keys (ka : Option Addr) (n kc : Nat) (z : Nat → Int) (w : World) (h : IsAt w ka n z) (hn : n ≤ 1000000) :
    Calls Tryd.prog 30 #[.slice ka n kc] w fun e w' => ∃ ka' kc', e = .returned (.slice ka' n kc') ∧ IsAt w' ka' n z ∧ Below w.heap.size w w' ∧ (∀ a, ka' = some a → w.heap.size ≤ a.block ∧ a.block < w'.heap.size) := by
  rcases Nat.eq_zero_or_pos n with h0 | hp
  · subst h0
    cases ka with
    | none =>
      have hcon := Any.slices_Clone_int_nil Tryd.lClone 0 kc w
      change Calls Tryd.prog 30 _ _ _ at hcon
      refine hcon.mono ?_
      rintro e w' ⟨rfl, rfl⟩
      exact ⟨none, 0, rfl, fun h => by omega, Below.refl _ _, fun a h => by cases h⟩
    | some a =>
      have hcon := Any.slices_Clone_int_zero Tryd.lClone a kc w
      change Calls Tryd.prog 30 _ _ _ at hcon
      refine hcon.mono ?_
      rintro e w' ⟨v', rfl, hown, hne, hb⟩
      rcases hown.2 with ⟨e, _⟩ | ⟨g, cap', cur, rfl, hg, hgc, _⟩
      · exact absurd e hne
      · exact ⟨_, cap', rfl, fun h => by omega, hb, fun a h => by cases h; exact ⟨hg, lt_of_block hgc⟩⟩
  · obtain ⟨b, off, rfl, hc⟩ := h hp
    refine (clone_pos b off n kc z w hc hn).mono ?_
    rintro e w' ⟨g, cap', rfl, _, hH, hg, hgl, hb⟩
    refine ⟨_, cap', rfl, fun _ => ⟨g, 0, rfl, fun j hj => ?_⟩, hb, fun a h => by cases h; exact ⟨hg, hgl⟩⟩
    have h1 := (hH j (by simp [keysL_length]; exact hj)).1
    rw [h1]
    simp [keysL, hj]
/-- A row of branches of one's own, made since w0. -/
structure BrO (w0 w : World) (v : Value) (n : Nat) (cs : List Value) : Prop where
  own : w.ownsRow w0.heap.size 56 35 v n cs
  below : Below w0.heap.size w0 w
theorem BrO.nil (w : World) : BrO w w (.slice none 0 0) 0 [] := ⟨World.ownsRow_nil _ _ _ _, Below.refl _ _⟩
/-- Branches that lie somewhere, or nothing: their cells. -/
def BrSrc (w : World) (u : Value) (n : Nat) (cs : List Value) : Prop :=
  ∃ ad c, u = .slice ad n c ∧ cs.length = n * 35 ∧ (∀ x ∈ cs, x.oneCell' = true) ∧ ((ad = none ∧ n = 0) ∨ ∃ a, ad = some a ∧ ∀ j v, cs[j]? = some v → w.cell? (a.add j) = some v)
theorem BrSrc.below {w w' : World} {u : Value} {n : Nat} {cs : List Value} (h : BrSrc w u n cs) (hb : Below w.heap.size w w') : BrSrc w' u n cs := by
  obtain ⟨ad, c, rfl, h1, h2, h⟩ := h
  refine ⟨ad, c, rfl, h1, h2, ?_⟩
  rcases h with h | ⟨a, rfl, hc⟩
  · exact .inl h
  · refine .inr ⟨a, rfl, fun j v hv => ?_⟩
    have h1 := hc j v hv
    rw [hb.cell (p := a.add j) (World.block_lt_of_cell? w _ h1)]
    exact h1
theorem run_append_Br (w w0 : World) (ty : TypeId) (v u : Value) (n m : Nat) (xs ys : List Value) (hown : BrO w0 w v n xs) (hu : BrSrc w u m ys) (hlen : n + m ≤ 1000000) :
    ∃ v' w1, (Builtin.append_ #[36, 36] ty #[v, u]).run Tryd.prog w = .ok v' w1 ∧ BrO w0 w1 v' (n + m) (xs ++ ys) := by
  obtain ⟨i0, hi0, hz0, hz1, hz2⟩ := info_parts infoB
  obtain ⟨ad, c, rfl, hyl, hy1, ⟨rfl, rfl⟩ | ⟨a, rfl, hc⟩⟩ := hu
  · obtain rfl : ys = [] := List.eq_nil_of_length_eq_zero (by omega)
    refine ⟨v, w, ?_, by simpa using hown⟩
    rcases hown.own.2 with ⟨rfl, hl⟩ | ⟨g, cap, cur, rfl, hbs, hg, hcap, _⟩
    · simp [Builtin.append_, run_underlying Tryd.underlying36, sizeOf, typeInfo, hi0, Builtin.lenOf, Builtin.firstCells]
    · have := run_append_room_src (P := Tryd.prog) w 36 36 ty 56 i0 Tryd.underlying36 hi0 g 0 n cap (.slice none 0 c) 0 [] (Src.ofNil w Tryd.underlying36 c) (by omega) (fun j hj => by simp at hj) (fun j hj => by simp at hj)
      simpa [World.setCells] using this
  · obtain ⟨v', w1, hr, h2, h3, _, h5⟩ := run_append_own_at (P := Tryd.prog) w w0.heap.size 36 ty 56 i0 (.agg (bv b0 none 0)) 35 72 Tryd.underlying36 hi0 hz0 hz1 hz2 zero_b (by decide) v n xs hown.own a m c ys hyl hc
      hy1 (by simp only [maxLen]; omega) (by omega) hown.below.size
    refine ⟨v', w1, hr, h2, hown.below.trans ⟨h3.os, h3.tape, h3.output, h3.size, fun k hk => h3.block k (by have := hown.below.size; omega) (fun e => ?_)⟩⟩
    have := (hown.own.lt k e.symm).1
    omega
section
variable {ops : Array Oper} {rest : List Oper} {o : Oper} {a : Act} {w : World} {Q : Exit → Act → World → Prop}
theorem wpList_append_Br (hgd : o.guard = none) (s x : Operand) (ho : o.op = .call { callee := .builtin .append, args := #[s, x], argTypes := #[36, 36] })
    (w0 : World) (v u : Value) (n m : Nat) (xs ys : List Value) (hs : a.eval s = v) (hx : a.eval x = u) (hown : BrO w0 w v n xs) (hu : BrSrc w u m ys) (hlen : n + m ≤ 1000000)
    (h : ∀ v' w1, BrO w0 w1 v' (n + m) (xs ++ ys) → wpList Tryd.prog ops Q rest (a.put o.dst v') w1) : wpList Tryd.prog ops Q (o :: rest) a w := by
  obtain ⟨v', w1, hr, h2⟩ := run_append_Br w w0 o.type v u n m xs ys hown hu hlen
  refine wpList_plain hgd fun K hK => ?_
  unfold Oper.wp execOp
  simp only [ho, resolve, invoke, builtin, Sem.run_bind, Sem.run_pure, Result.andThen_ok, List.map_toArray, List.map_cons, List.map_nil, hs, hx, hr]
  exact hK _ _ (h v' w1 h2)
end
/-- Room made for n branches behind nothing. -/
theorem growB_nil (n : Nat) (w : World) (hn : n ≤ 1000000) :
    Calls Tryd.prog 45 #[.slice none 0 0, .int .i64 n] w fun e w' => ∃ v, e = .returned v ∧ BrO w w' v 0 [] := by
  rcases Nat.eq_zero_or_pos n with h0 | hp
  · subst h0
    have hcon := Any8.slices_Grow_room Tryd.lGrowB none 0 0 0 w (Nat.le_refl _) (by omega) (by omega) (by omega)
    change Calls Tryd.prog 45 _ _ _ at hcon
    refine hcon.mono ?_
    rintro e w' ⟨rfl, rfl⟩
    exact ⟨_, rfl, BrO.nil _⟩
  · obtain ⟨i0, hi0, hz0, hz1, hz2⟩ := info_parts infoB
    have hcon := Any8.slices_Grow_grow Tryd.lGrowB i0 (.agg (bv b0 none 0)) hi0 hz0 (by omega) none 0 0 n [] w (Nat.le_refl _) (by omega) (by rw [hz2]; omega) (by omega) (by simp) (fun _ => rfl) (fun a h => by cases h)
    change Calls Tryd.prog 45 _ _ _ at hcon
    refine hcon.mono ?_
    rintro e w' ⟨rfl, rfl⟩
    refine ⟨_, rfl, ⟨⟨by simp, .inr ⟨w.heap.size, _, _, rfl, Nat.le_refl _, heap_alloc_new w.drew _, Nat.zero_le _, ?_, ?_, by simp⟩⟩, ((Below.refl _ w).drew).alloc (Nat.le_refl _) _⟩⟩
    · exact grownCap_le_maxLen _ _ _ _ (by unfold maxLen; omega)
    · have := grownCap_ge w n 0 (Tryd.lGrowB_ren.t 25)
      simp [size_zeroCells, zero_b]
      omega

set_option maxRecDepth 100000 in
set_option maxHeartbeats 3200000 in
theorem concatB (q : Nat) (ad1 : Option Addr) (n1 c1 : Nat) (xs : List Value) (ad2 : Option Addr) (n2 c2 : Nat) (ys : List Value) (w : World) (h0 : w.cell? ⟨q, 0, none⟩ = some (.slice ad1 n1 c1)) (h1 : w.cell? ⟨q, 1, none⟩ = some (.slice ad2 n2 c2)) (hs1 : BrSrc w (.slice ad1 n1 c1) n1 xs) (hs2 : BrSrc w (.slice ad2 n2 c2) n2 ys) (hl : n1 + n2 ≤ 1000000) :
    Calls Tryd.prog 29 #[.slice (some ⟨q, 0, none⟩) 2 2] w fun e w' => ∃ v, e = .returned v ∧ BrO w w' v (n1 + n2) (xs ++ ys) := by
  have HS : Hid (BrSrc w (.slice ad1 n1 c1) n1 xs ∧ BrSrc w (.slice ad2 n2 c2) n2 ys) := ⟨hs1, hs2⟩
  clear hs1 hs2
  have hb0 := Below.refl w.heap.size w
  have hq := World.block_lt_of_cell? w ⟨q, 0, none⟩ h0
  have e1 : wrap64 ((n1 : Int) + n2) = ((n1 + n2 : Nat) : Int) := by unfold wrap64; omega
  have e2 : ¬ (n1 : Int) < 0 := by omega
  go_enter Tryd.func29, Tryd.ntmps29
  go_wp2
  refine wp_loop_rounds 3 ?_
  rw [rounds_succ]
  go_wp2
  rw [rounds_succ]
  go_wp2
  rw [rounds_succ]
  go_wp2_with fail
  have hgr := growB_nil (n1 + n2) w hl
  rw [Int.natCast_add] at hgr
  refine hgr.mono ?_
  rintro e w1 ⟨v, rfl, hO1⟩
  have d0 : w1.cell? ⟨q, 0, none⟩ = some (.slice ad1 n1 c1) := by rw [hO1.below.cell (p := ⟨q, 0, none⟩) hq]; exact h0
  have HO1 : Hid (BrO w w1 v 0 [] ∧ BrSrc w1 (.slice ad1 n1 c1) n1 xs) := ⟨hO1, HS.out.1.below hO1.below⟩
  have HD : Hid (∀ w' v' n L, BrO w w' v' n L → w'.cell? ⟨q, 1, none⟩ = some (.slice ad2 n2 c2) ∧ BrSrc w' (.slice ad2 n2 c2) n2 ys) := fun w' v' n L h => ⟨by rw [h.below.cell (p := ⟨q, 1, none⟩) hq]; exact h1, HS.out.2.below h.below⟩
  clear hgr hO1 h0 h1 hb0
  go_wp2
  refine wp_loop_rounds 3 ?_
  rw [rounds_succ]
  go_wp2_with (at_builtin; refine wpList_append_Br rfl _ _ rfl w _ _ 0 n1 [] xs rfl rfl HO1.out.1 HO1.out.2 (by omega) ?_; intro v2 w2 hO2; obtain ⟨d1, hs2⟩ := HD.out w2 v2 _ _ hO2; have HO2 : Hid (BrO w w2 v2 n1 xs ∧ BrSrc w2 (.slice ad2 n2 c2) n2 ys) := ⟨by simpa using hO2, hs2⟩; clear hO2 hs2)
  rw [rounds_succ]
  go_wp2_with (at_builtin; refine wpList_append_Br rfl _ _ rfl w _ _ n1 n2 xs ys rfl rfl HO2.out.1 HO2.out.2 (by omega) ?_; intro v3 w3 hO3)
  rw [rounds_succ]
  go_wp2
  go_ret
  exact ⟨_, rfl, hO3⟩

/-- Branches of two, one behind the other. -/
def joinB (X : Nat → Bv) (n : Nat) (Y : Nat → Bv) : Nat → Bv := fun i => if i < n then X i else Y (i - n)
def joinA (A : Nat → Option Addr × Nat) (n : Nat) (B : Nat → Option Addr × Nat) : Nat → Option Addr × Nat := fun i => if i < n then A i else B (i - n)
theorem joinB_l {X : Nat → Bv} {n : Nat} {Y : Nat → Bv} {i : Nat} (h : i < n) : joinB X n Y i = X i := if_pos h
theorem joinB_r (X : Nat → Bv) (n : Nat) (Y : Nat → Bv) (i : Nat) : joinB X n Y (n + i) = Y i := by unfold joinB; rw [if_neg (by omega), Nat.add_sub_cancel_left]
theorem flatB_congrX {X Y : Nat → Bv} {A B : Nat → Option Addr × Nat} : ∀ n, (∀ i, i < n → X i = Y i ∧ A i = B i) → flatB X A n = flatB Y B n
  | 0, _ => rfl
  | n + 1, h => by rw [flatB, flatB, flatB_congrX n (fun i hi => h i (by omega)), (h n (by omega)).1, (h n (by omega)).2]
theorem flatB_join (X Y : Nat → Bv) (A B : Nat → Option Addr × Nat) (n : Nat) : ∀ m, flatB (joinB X n Y) (joinA A n B) (n + m) = flatB X A n ++ flatB Y B m
  | 0 => by
    rw [Nat.add_zero, flatB_congrX (X := joinB X n Y) (A := joinA A n B) n (Y := X) (B := A) (fun i hi => ⟨if_pos hi, if_pos hi⟩)]
    simp [flatB]
  | m + 1 => by
    rw [← Nat.add_assoc, flatB, flatB_join X Y A B n m, flatB, List.append_assoc]
    congr 2
    · rw [joinB_r]; unfold joinA; rw [if_neg (by omega), Nat.add_sub_cancel_left]
theorem flatB_one (X : Nat → Bv) (A : Nat → Option Addr × Nat) : ∀ n, ∀ u ∈ flatB X A n, u.oneCell' = true
  | 0, u, h => by cases h
  | n + 1, u, h => by
    rw [flatB, List.mem_append] at h
    rcases h with h | h
    · exact flatB_one X A n u h
    · exact brl_one _ _ _ u h
theorem flatB_set (X : Nat → Bv) (A : Nat → Option Addr × Nat) (i : Nat) (ka : Option Addr) (kc : Nat) : ∀ n, i < n → (flatB X A n).set (i * 35) (.slice ka (X i).n kc) = flatB X (fun j => if j = i then (ka, kc) else A j) n
  | 0, h => by omega
  | n + 1, h => by
    rw [flatB, flatB]
    by_cases e : i = n
    · subst e
      rw [List.set_append_right _ _ (by rw [flatB_length]; omega), flatB_length, Nat.sub_self, flatB_congr i (B := A) (fun j hj => if_neg (by omega))]
      simp only [if_true]
      rfl
    · rw [List.set_append_left _ _ (by rw [flatB_length]; omega), flatB_set X A i ka kc n (by omega), if_neg (fun e2 => e e2.symm)]
/-- A cell of a row of one's own, set. -/
theorem owns_set {w : World} {B : Nat} {t : TypeId} {size n cap g : Nat} {xs : List Value} (h : w.ownsRow B t size (.slice (some ⟨g, 0, none⟩) n cap) n xs) (k : Nat) (u : Value) : (w.setCell ⟨g, k, none⟩ u).ownsRow B t size (.slice (some ⟨g, 0, none⟩) n cap) n (xs.set k u) := by
  refine ⟨by rw [List.length_set]; exact h.1, ?_⟩
  rcases h.2 with ⟨e, _⟩ | ⟨g', cap', cur, e, hbs, hg, h1, h2, h3, h4⟩
  · cases e
  · cases e
    refine .inr ⟨g, cap, _, rfl, hbs, heap_setCell_same w g k _ t _ hg, h1, h2, by simpa using h3, ?_⟩
    rw [← h4]
    simp [List.take_set]
/-- The sources of a condition's branches. -/
theorem BrAt.src {w : World} {ad : Option Addr} {n : Nat} {X : Nat → Bv} (h : BrAt w ad n X) (c : Nat) : ∃ A : Nat → Option Addr × Nat, BrSrc w (.slice ad n c) n (flatB X A n) ∧ ∀ j, j < n → IsAt w (A j).1 (X j).n (X j).z := by
  rcases Nat.eq_zero_or_pos n with h0 | hp
  · subst h0
    refine ⟨fun _ => (none, 0), ⟨ad, c, rfl, rfl, (fun x hx => absurd hx (by simp [flatB])), ?_⟩, fun j hj => by omega⟩
    cases ad with
    | none => exact .inl ⟨rfl, rfl⟩
    | some a => exact .inr ⟨a, rfl, fun j v hj => by cases hj⟩
  · obtain ⟨b, off, rfl, hrow⟩ := h.at_ hp
    have each : ∀ i, i < n → ∃ t : Option Addr × Nat, w.rangeAt b (off + i * 35) (brl (X i) t.1 t.2) ∧ IsAt w t.1 (X i).n (X i).z := fun i hi => by
      obtain ⟨ka, kc, h1, h2⟩ := hrow i hi
      exact ⟨(ka, kc), h1, h2⟩
    obtain ⟨A, hA⟩ := Go.Deep.choose_lt each
    refine ⟨A, ⟨_, c, rfl, flatB_length X A n, flatB_one X A n, .inr ⟨_, rfl, fun j v hj => ?_⟩⟩, fun j hj => (hA j hj).2⟩
    have hl := (List.getElem?_eq_some_iff.1 hj).1
    rw [flatB_length] at hl
    have e : j = j / 35 * 35 + j % 35 := by omega
    rw [e, flatB_at X A n _ _ (by omega) (Nat.mod_lt _ (by decide))] at hj
    have := (hA (j / 35) (by omega)).1 _ _ hj
    rw [Addr.add_lit]
    rw [show off + j = off + j / 35 * 35 + j % 35 by omega]
    exact this
end Go.Proofs.YtecahnafcljljaaDoor
