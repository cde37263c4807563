/- Rows of payments, holds and ints of one's own; slices.Clone of them. -/
import Derived.Test.YtoefgfiabfkfaaaGreatDoorOwnShelf15
import Derived.Maps.AppendAt
import Derived.Deep.AppendSrc
import Derived.Deep.AppendLies
namespace Go.Proofs.YtoefgfiabfkfaaaGreatDoor
open Go.RowKit

/-- Parts laid one behind the other. -/
def flatL (f : Nat → List Value) : Nat → List Value
 | 0 => []
 | i + 1 => flatL f i ++ f i
theorem flatL_length {f : Nat → List Value} {k : Nat} : ∀ n, (∀ i, i < n → (f i).length = k) → (flatL f n).length = n * k
 | 0, _ => by simp [flatL]
 | n + 1, h => by
  simp only [flatL, List.length_append, flatL_length n (fun i hi => h i (by omega)), h n (by omega), Nat.add_mul, Nat.one_mul]
theorem flatL_congr {f g : Nat → List Value} : ∀ n, (∀ i, i < n → f i = g i) → flatL f n = flatL g n
 | 0, _ => rfl
 | n + 1, h => by rw [flatL, flatL, flatL_congr n (fun i hi => h i (by omega)), h n (by omega)]
theorem flatL_add (f : Nat → List Value) (i : Nat) : ∀ m, flatL f (i + m) = flatL f i ++ flatL (fun j => f (i + j)) m
 | 0 => by simp [flatL]
 | m + 1 => by rw [← Nat.add_assoc, flatL, flatL_add f i m, flatL, List.append_assoc]
theorem flatL_mem {f : Nat → List Value} {u : Value} : ∀ n, u ∈ flatL f n → ∃ i, i < n ∧ u ∈ f i
 | 0, h => by simp [flatL] at h
 | n + 1, h => by
  rcases List.mem_append.1 h with h | h
  ·obtain ⟨i, hi, hu⟩ := flatL_mem n h
   exact ⟨i, by omega, hu⟩
  ·exact ⟨n, by omega, h⟩
theorem range_append {w : World} {b off : Nat} {l m : List Value} : w.rangeAt b off (l ++ m) ↔ w.rangeAt b off l ∧ w.rangeAt b (off + l.length) m := by
 constructor
 ·intro h
  refine ⟨fun j v hv => h j v (by rw [List.getElem?_append_left (by have := (List.getElem?_eq_some_iff.1 hv).1; exact this)]; exact hv), fun j v hv => ?_⟩
  have := h (l.length + j) v (by rw [List.getElem?_append_right (by omega)]; simpa using hv)
  rwa [← Nat.add_assoc] at this
 ·rintro ⟨h1, h2⟩ j v hv
  by_cases hj : j < l.length
  ·rw [List.getElem?_append_left hj] at hv; exact h1 j v hv
  ·rw [List.getElem?_append_right (by omega)] at hv
   have := h2 (j - l.length) v hv
   rwa [show off + l.length + (j - l.length) = off + j from by omega] at this
theorem flatL_range {w : World} {b off k : Nat} {f : Nat → List Value} : ∀ n, (∀ i, i < n → (f i).length = k) → (w.rangeAt b off (flatL f n) ↔ ∀ i, i < n → w.rangeAt b (off + i * k) (f i))
 | 0, _ => ⟨fun _ i hi => by omega, fun _ j v hv => by simp [flatL] at hv⟩
 | n + 1, h => by
  rw [flatL, range_append, flatL_range n (fun i hi => h i (by omega)), flatL_length n (fun i hi => h i (by omega))]
  constructor
  ·rintro ⟨h1, h2⟩ i hi
   by_cases e : i = n
   ·subst e; exact h2
   ·exact h1 i (by omega)
  ·exact fun h => ⟨fun i hi => h i (by omega), h n (by omega)⟩
/-- What owns a row has its cells there. -/
theorem own_range {w : World} {B T k n : Nat} {ad : Option Addr} {cap : Nat} {xs : List Value} (h : w.ownsRow B T k (.slice ad n cap) n xs) (hn : 0 < n) : ∃ g, ad = some ⟨g, 0, none⟩ ∧ B ≤ g ∧ g < w.heap.size ∧ w.rangeAt g 0 xs := by
 rcases h.2 with ⟨_, e⟩ | ⟨g, c, cur, e, hb, hg, _⟩
 ·omega
 ·cases e
  refine ⟨g, rfl, hb, lt_of_block hg, fun j v hv => ?_⟩
  have := h.cells (g := g) rfl j v hv
  rwa [Addr.add_lit] at this
theorem own_frmV {w : World} {B T k n : Nat} {v : Value} {xs : List Value} (h : w.ownsRow B T k v n xs) : ∃ ad cap, v = .slice ad n cap ∧ n ≤ cap ∧ (ad = none → n = 0 ∧ cap = 0) := by
 rcases h.2 with ⟨rfl, rfl⟩ | ⟨g, cap, cur, rfl, _, _, hc, _⟩
 ·exact ⟨none, 0, rfl, Nat.le_refl _, fun _ => ⟨rfl, rfl⟩⟩
 ·exact ⟨_, cap, rfl, hc, fun e => by cases e⟩
theorem own_keep {w w' : World} {B T k n : Nat} {v : Value} {xs : List Value} (h : w.ownsRow B T k v n xs) (hb : ∀ g, v.ownBlock = some g → w'.heap[g]? = w.heap[g]?) : w'.ownsRow B T k v n xs := by
 refine ⟨h.1, ?_⟩
 rcases h.2 with hn | ⟨g, cap, cur, rfl, hbs, hg, rest⟩
 ·exact .inl hn
 ·exact .inr ⟨g, cap, cur, rfl, hbs, by rw [hb g rfl]; exact hg, rest⟩
theorem own_below {w w' : World} {B T k n : Nat} {v : Value} {xs : List Value} (h : w.ownsRow B T k v n xs) (hb : Below w.heap.size w w') : w'.ownsRow B T k v n xs :=
 own_keep h (fun g e => hb.block g (h.lt g e).2)
theorem own_low {w : World} {B C T k n : Nat} {v : Value} {xs : List Value} (h : w.ownsRow B T k v n xs) (hb : C ≤ B) : w.ownsRow C T k v n xs := by
 refine ⟨h.1, ?_⟩
 rcases h.2 with hn | ⟨g, cap, cur, rfl, hbs, rest⟩
 ·exact .inl hn
 ·exact .inr ⟨g, cap, cur, rfl, Nat.le_trans hb hbs, rest⟩
/-- Rows of other types lie in other blocks. -/
theorem own_apart {w : World} {B C T U k l n m : Nat} {v u : Value} {xs ys : List Value} (h : w.ownsRow B T k v n xs) (h' : w.ownsRow C U l u m ys) (hT : T ≠ U) : ∀ g, v.ownBlock = some g → u.ownBlock ≠ some g := by
 intro g e e'
 rcases h.2 with ⟨rfl, _⟩ | ⟨g1, cap, cur, rfl, _, hg, _⟩
 ·cases e
 ·rcases h'.2 with ⟨rfl, _⟩ | ⟨g2, cap2, cur2, rfl, _, hg2, _⟩
  ·cases e'
  ·have e1 : g1 = g := by simpa [Value.ownBlock] using e
   have e2 : g2 = g := by simpa [Value.ownBlock] using e'
   subst e1 e2
   rw [hg] at hg2
   simp at hg2
   exact hT hg2.2
/-- One part of a row written anew. -/
theorem own_set {w : World} {B T k n g cap i : Nat} {f : Nat → List Value} {cs : List Value} (h : w.ownsRow B T k (.slice (some ⟨g, 0, none⟩) n cap) n (flatL f n)) (hf : ∀ j, j < n → (f j).length = k) (hi : i < n) (hc : cs.length = k) :
  (w.setCells g (i * k) cs).ownsRow B T k (.slice (some ⟨g, 0, none⟩) n cap) n (flatL (fun j => if j = i then cs else f j) n) := by
 have hf' : ∀ j, j < n → (if j = i then cs else f j).length = k := fun j hj => by split <;> simp [*]
 refine ⟨flatL_length n hf', .inr ?_⟩
 rcases h.2 with ⟨e, _⟩ | ⟨g', cap', cur, e, hb, hg, h1, h2, h3, h4⟩
 ·cases e
 cases e
 obtain ⟨m, rfl⟩ : ∃ m, n = i + (1 + m) := ⟨n - i - 1, by omega⟩
 have e1 : flatL f (i + (1 + m)) = flatL f i ++ (f i ++ flatL (fun j => f (i + (1 + j))) m) := by
  rw [flatL_add, flatL_add]; simp [flatL]
 have e2 : flatL (fun j => if j = i then cs else f j) (i + (1 + m)) = flatL f i ++ (cs ++ flatL (fun j => f (i + (1 + j))) m) := by
  rw [flatL_add, flatL_add, flatL_congr i (g := f) (fun j hj => if_neg (by omega)), flatL_congr m (g := fun j => f (i + (1 + j))) (fun j _ => if_neg (by omega))]
  simp [flatL]
 have li : (flatL f i).length = i * k := flatL_length i (fun j hj => hf j (by omega))
 have lf : (f i).length = k := hf i hi
 have es : cur.toList = flatL f i ++ (f i ++ (flatL (fun j => f (i + (1 + j))) m ++ cur.toList.drop ((i + (1 + m)) * k))) := by
  have := List.take_append_drop ((i + (1 + m)) * k) cur.toList
  rw [h4, e1] at this
  simpa using this.symm
 refine ⟨g, cap, (flatL f i ++ cs ++ (flatL (fun j => f (i + (1 + j))) m ++ cur.toList.drop ((i + (1 + m)) * k))).toArray, rfl, hb, ?_, h1, h2, ?_, ?_⟩
 ·have hg' : w.heap[g]? = some (.cells (flatL f i ++ (f i ++ (flatL (fun j => f (i + (1 + j))) m ++ cur.toList.drop ((i + (1 + m)) * k)))).toArray T (0, 0)) := by rw [← es]; simpa using hg
  have := setCells_at g cs (i * k) w (flatL f i) _ T hg' li (by simp; omega)
  rw [this]
  congr 3
  rw [List.drop_append_of_le_length (by omega), List.drop_eq_nil_of_le (by omega)]
  simp
 ·have := congrArg List.length es
  simp only [List.length_append] at this
  simp only [List.size_toArray, List.length_append]
  rw [← h3]
  simp only [Array.length_toList] at this
  omega
 ·rw [e2]
  have l2 : (flatL f i ++ (cs ++ flatL (fun j => f (i + (1 + j))) m)).length = (i + (1 + m)) * k := by rw [← e2]; exact flatL_length _ hf'
  have : (flatL f i ++ cs ++ (flatL (fun j => f (i + (1 + j))) m ++ cur.toList.drop ((i + (1 + m)) * k))) = (flatL f i ++ (cs ++ flatL (fun j => f (i + (1 + j))) m)) ++ cur.toList.drop ((i + (1 + m)) * k) := by simp
  rw [this, List.take_append_of_le_length (by simp only [l2]; exact Nat.le_refl _), List.take_of_length_le (by simp only [l2]; exact Nat.le_refl _)]
/-- What a row's value reads: its parts lie there. -/
def Src (w : World) (ad : Option Addr) (n cap : Nat) (cs : List Value) : Prop := (0 < n → ∃ b off, ad = some ⟨b, off, none⟩ ∧ w.rangeAt b off cs) ∧ (ad = none → n = 0 ∧ cap = 0)
end Go.Proofs.YtoefgfiabfkfaaaGreatDoor
/- Rows of payments, holds, ints: their copies. -/
namespace Go.Proofs.YtoefgfiabfkfaaaGreatDoor
open Go.RowKit

theorem infoP : (Tryz.prog.info? 43).map (fun i => (i.zero, i.size, i.bytes)) = some (some (.agg (pyv p0)), 36, 64) := by kernel_rfl
theorem zero_p : (Value.agg (pyv p0)).cells.size = 36 := by simp [Value.cells, pyv_size]
theorem infoH : (Tryz.prog.info? 58).map (fun i => (i.zero, i.size, i.bytes)) = some (some (.agg #[.int .i64 0, .int .i64 0, .slice none 0 0]), 3, 40) := by kernel_rfl

set_option maxHeartbeats 400000 in
theorem cloneP_any (ad : Option Addr) (n cap : Nat) (cs : List Value) (w : World) (hs : Src w ad n cap cs) (hl : cs.length = n * 36) (h1 : ∀ u ∈ cs, u.oneCell' = true) (hn : n ≤ 1000000) :
  Calls Tryz.prog 59 #[.slice ad n cap] w fun e w' => ∃ v, e = .returned v ∧ w'.ownsRow w.heap.size 43 36 v n cs ∧ Below w.heap.size w w' := by
 cases ad with
 | none =>
  obtain ⟨rfl, rfl⟩ := hs.2 rfl
  have hc : cs = [] := List.eq_nil_of_length_eq_zero (by simpa using hl)
  subst hc
  have hnil := fun wx => Lib.run_eql_slice_nil (P := Tryz.prog) wx 34 43 none 0 0 0 0 Tryz.underlying34
  clear hs h1
  go_enter Tryz.func59, Tryz.ntmps59
  go_wp2
  go_ret
  exact ⟨_, rfl, World.ownsRow_nil _ _ _ _, Below.refl _ _⟩
 | some a =>
  have hnil : ∀ wx, (binOp .eql 34 (.slice (some a) n cap) (.slice none 0 0)).run Tryz.prog wx = .ok (.bool false) wx := fun wx => Lib.run_eql_slice_nil (P := Tryz.prog) wx 34 43 (some a) n cap 0 0 Tryz.underlying34
  obtain ⟨i0, hi, hz0, hz1, hz2⟩ := info_parts infoP
  have H : Hid (Tryz.prog.info? 43 = some i0 ∧ i0.zero = some (.agg (pyv p0)) ∧ i0.size = 36 ∧ i0.bytes = 64) := ⟨hi, hz0, hz1, hz2⟩
  clear hi hz0 hz1 hz2
  have HC : Hid (∀ j u, cs[j]? = some u → (w.alloc (.cells #[] 43)).cell? (a.add j) = some u) := by
   intro j u h
   have hj := (List.getElem?_eq_some_iff.1 h).1
   have hn0 : 0 < n := by
    rcases Nat.eq_zero_or_pos n with e | e
    ·subst e; rw [hl] at hj; omega
    ·exact e
   obtain ⟨b, off, e, hr⟩ := hs.1 hn0
   cases e
   rw [Addr.add_lit, World.cell?_alloc_lt _ _ _ (World.block_lt_of_cell? w _ (hr j u h))]
   exact hr j u h
  have HO : Hid (cs.length = n * 36 ∧ ∀ u ∈ cs, u.oneCell' = true) := ⟨hl, h1⟩
  clear hs hl h1
  go_enter Tryz.func59, Tryz.ntmps59
  go_wp2_with (at_builtin; refine wpList_append_own_at _ rfl _ _ 34 rfl w.heap.size 43 i0 (.agg (pyv p0)) 36 64 Tryz.underlying34 H.out.1 H.out.2.1 H.out.2.2.1 H.out.2.2.2 zero_p (by decide) _ 0 [] rfl (World.ownsRow_made w #[] 0 (Nat.le_refl _) (Nat.zero_le _) rfl) a n cap cs rfl HO.out.1 HC.out HO.out.2 (by unfold maxLen; omega) (by omega) (by simp) ?_; intro v' w1 hown hgrow _ _)
  go_ret
  refine ⟨v', rfl, by simpa using hown, ?_⟩
  exact ((Below.refl _ _).alloc (Nat.le_refl _) _).grown hgrow (by simp) (fun k hk => Nat.le_of_eq (Option.some.inj (show some w.heap.size = some k from hk)))

set_option maxHeartbeats 400000 in
theorem cloneH_any (ad : Option Addr) (n cap : Nat) (cs : List Value) (w : World) (hs : Src w ad n cap cs) (hl : cs.length = n * 3) (h1 : ∀ u ∈ cs, u.oneCell' = true) (hn : n ≤ 1000000) :
  Calls Tryz.prog 60 #[.slice ad n cap] w fun e w' => ∃ v, e = .returned v ∧ w'.ownsRow w.heap.size 58 3 v n cs ∧ Below w.heap.size w w' := by
 cases ad with
 | none =>
  obtain ⟨rfl, rfl⟩ := hs.2 rfl
  have hc : cs = [] := List.eq_nil_of_length_eq_zero (by simpa using hl)
  subst hc
  have hnil := fun wx => Lib.run_eql_slice_nil (P := Tryz.prog) wx 35 58 none 0 0 0 0 Tryz.underlying35
  clear hs h1
  go_enter Tryz.func60, Tryz.ntmps60
  go_wp2
  go_ret
  exact ⟨_, rfl, World.ownsRow_nil _ _ _ _, Below.refl _ _⟩
 | some a =>
  have hnil : ∀ wx, (binOp .eql 35 (.slice (some a) n cap) (.slice none 0 0)).run Tryz.prog wx = .ok (.bool false) wx := fun wx => Lib.run_eql_slice_nil (P := Tryz.prog) wx 35 58 (some a) n cap 0 0 Tryz.underlying35
  obtain ⟨i0, hi, hz0, hz1, hz2⟩ := info_parts infoH
  have H : Hid (Tryz.prog.info? 58 = some i0 ∧ i0.zero = some (.agg #[.int .i64 0, .int .i64 0, .slice none 0 0]) ∧ i0.size = 3 ∧ i0.bytes = 40) := ⟨hi, hz0, hz1, hz2⟩
  clear hi hz0 hz1 hz2
  have HC : Hid (∀ j u, cs[j]? = some u → (w.alloc (.cells #[] 58)).cell? (a.add j) = some u) := by
   intro j u h
   have hj := (List.getElem?_eq_some_iff.1 h).1
   have hn0 : 0 < n := by
    rcases Nat.eq_zero_or_pos n with e | e
    ·subst e; rw [hl] at hj; omega
    ·exact e
   obtain ⟨b, off, e, hr⟩ := hs.1 hn0
   cases e
   rw [Addr.add_lit, World.cell?_alloc_lt _ _ _ (World.block_lt_of_cell? w _ (hr j u h))]
   exact hr j u h
  have HO : Hid (cs.length = n * 3 ∧ ∀ u ∈ cs, u.oneCell' = true) := ⟨hl, h1⟩
  clear hs hl h1
  go_enter Tryz.func60, Tryz.ntmps60
  go_wp2_with (at_builtin; refine wpList_append_own_at _ rfl _ _ 35 rfl w.heap.size 58 i0 (.agg #[.int .i64 0, .int .i64 0, .slice none 0 0]) 3 40 Tryz.underlying35 H.out.1 H.out.2.1 H.out.2.2.1 H.out.2.2.2 rfl (by decide) _ 0 [] rfl (World.ownsRow_made w #[] 0 (Nat.le_refl _) (Nat.zero_le _) rfl) a n cap cs rfl HO.out.1 HC.out HO.out.2 (by unfold maxLen; omega) (by omega) (by simp) ?_; intro v' w1 hown hgrow _ _)
  go_ret
  refine ⟨v', rfl, by simpa using hown, ?_⟩
  exact ((Below.refl _ _).alloc (Nat.le_refl _) _).grown hgrow (by simp) (fun k hk => Nat.le_of_eq (Option.some.inj (show some w.heap.size = some k from hk)))

set_option maxHeartbeats 400000 in
theorem cloneI_any (ad : Option Addr) (n cap : Nat) (cs : List Value) (w : World) (hs : Src w ad n cap cs) (hl : cs.length = n * 1) (h1 : ∀ u ∈ cs, u.oneCell' = true) (hn : n ≤ 1000000) :
  Calls Tryz.prog 78 #[.slice ad n cap] w fun e w' => ∃ v, e = .returned v ∧ w'.ownsRow w.heap.size 3 1 v n cs ∧ Below w.heap.size w w' := by
 cases ad with
 | none =>
  obtain ⟨rfl, rfl⟩ := hs.2 rfl
  have hc : cs = [] := List.eq_nil_of_length_eq_zero (by simpa using hl)
  subst hc
  have hnil := fun wx => Lib.run_eql_slice_nil (P := Tryz.prog) wx 54 3 none 0 0 0 0 Tryz.underlying54
  clear hs h1
  go_enter Tryz.func78, Tryz.ntmps78
  go_wp2
  go_ret
  exact ⟨_, rfl, World.ownsRow_nil _ _ _ _, Below.refl _ _⟩
 | some a =>
  have hnil : ∀ wx, (binOp .eql 54 (.slice (some a) n cap) (.slice none 0 0)).run Tryz.prog wx = .ok (.bool false) wx := fun wx => Lib.run_eql_slice_nil (P := Tryz.prog) wx 54 3 (some a) n cap 0 0 Tryz.underlying54
  obtain ⟨i0, hi, hz0, hz1, hz2⟩ := info_parts infoI
  have H : Hid (Tryz.prog.info? 3 = some i0 ∧ i0.zero = some (.int .i64 0) ∧ i0.size = 1 ∧ i0.bytes = 8) := ⟨hi, hz0, hz1, hz2⟩
  clear hi hz0 hz1 hz2
  have HC : Hid (∀ j u, cs[j]? = some u → (w.alloc (.cells #[] 3)).cell? (a.add j) = some u) := by
   intro j u h
   have hj := (List.getElem?_eq_some_iff.1 h).1
   have hn0 : 0 < n := by
    rcases Nat.eq_zero_or_pos n with e | e
    ·subst e; rw [hl] at hj; omega
    ·exact e
   obtain ⟨b, off, e, hr⟩ := hs.1 hn0
   cases e
   rw [Addr.add_lit, World.cell?_alloc_lt _ _ _ (World.block_lt_of_cell? w _ (hr j u h))]
   exact hr j u h
  have HO : Hid (cs.length = n * 1 ∧ ∀ u ∈ cs, u.oneCell' = true) := ⟨hl, h1⟩
  clear hs hl h1
  go_enter Tryz.func78, Tryz.ntmps78
  go_wp2_with (at_builtin; refine wpList_append_own_at _ rfl _ _ 54 rfl w.heap.size 3 i0 (.int .i64 0) 1 8 Tryz.underlying54 H.out.1 H.out.2.1 H.out.2.2.1 H.out.2.2.2 rfl (by decide) _ 0 [] rfl (World.ownsRow_made w #[] 0 (Nat.le_refl _) (Nat.zero_le _) rfl) a n cap cs rfl HO.out.1 HC.out HO.out.2 (by unfold maxLen; omega) (by omega) (by simp) ?_; intro v' w1 hown hgrow _ _)
  go_ret
  refine ⟨v', rfl, by simpa using hown, ?_⟩
  exact ((Below.refl _ _).alloc (Nat.le_refl _) _).grown hgrow (by simp) (fun k hk => Nat.le_of_eq (Option.some.inj (show some w.heap.size = some k from hk)))
end Go.Proofs.YtoefgfiabfkfaaaGreatDoor
/- A state whose rows are one's own; a hold cloned. -/
namespace Go.Proofs.YtoefgfiabfkfaaaGreatDoor
open Go.RowKit

/-- A hold's keys as cells. -/
def kL (x : Hd) : List Value := (List.range x.n).map fun j => .int .i64 (x.z j)
theorem kL_length (x : Hd) : (kL x).length = x.n := by simp [kL]
theorem kL_one (x : Hd) : ∀ u ∈ kL x, u.oneCell' = true := by
 intro u hu
 simp only [kL, List.mem_map] at hu
 obtain ⟨_, _, rfl⟩ := hu
 rfl
theorem kL_at {x : Hd} {j : Nat} (h : j < x.n) : (kL x)[j]? = some (.int .i64 (x.z j)) := by simp [kL, List.getElem?_map, List.getElem?_range h]
theorem kL_src {w : World} {x : Hd} {ka : Option Addr} {kc : Nat} (h : IsAt w ka x.n x.z) (hn : ka = none → x.n = 0 ∧ kc = 0) : Src w ka x.n kc (kL x) := by
 refine ⟨fun h0 => ?_, hn⟩
 obtain ⟨b, off, e, hc⟩ := h h0
 refine ⟨b, off, e, fun j v hv => ?_⟩
 have hj : j < x.n := by have := (List.getElem?_eq_some_iff.1 hv).1; rwa [kL_length] at this
 rw [kL_at hj] at hv
 cases hv
 exact hc j hj
theorem kL_isAt {w : World} {x : Hd} {B : Nat} {ka : Option Addr} {kc : Nat} (h : w.ownsRow B 3 1 (.slice ka x.n kc) x.n (kL x)) : IsAt w ka x.n x.z := by
 intro h0
 obtain ⟨g, e, _, _, hr⟩ := own_range h h0
 exact ⟨g, 0, e, fun j hj => hr j _ (kL_at hj)⟩
theorem own_nil {w : World} {B T k n : Nat} {ad : Option Addr} {cap : Nat} {xs : List Value} (h : w.ownsRow B T k (.slice ad n cap) n xs) : n ≤ cap ∧ (ad = none → n = 0 ∧ cap = 0) := by
 obtain ⟨a, c, e, h1, h2⟩ := own_frmV h
 cases e
 exact ⟨h1, h2⟩

def pf (X : Nat → Py) : Nat → List Value := fun i => pyl (X i)
def hf (X : Nat → Hd) (A : Nat → Option Addr × Nat) : Nat → List Value := fun i => hdl (X i) (A i).1 (A i).2
theorem pf_len (X : Nat → Py) (n : Nat) : ∀ i, i < n → (pf X i).length = 36 := fun i _ => pyl_length (X i)
theorem hf_len (X : Nat → Hd) (A : Nat → Option Addr × Nat) (n : Nat) : ∀ i, i < n → (hf X A i).length = 3 := fun _ _ => rfl
theorem pf_one (X : Nat → Py) (n : Nat) : ∀ u ∈ flatL (pf X) n, u.oneCell' = true := by
 intro u hu
 obtain ⟨i, _, h⟩ := flatL_mem n hu
 exact pyl_one _ u h
theorem hf_one (X : Nat → Hd) (A : Nat → Option Addr × Nat) (n : Nat) : ∀ u ∈ flatL (hf X A) n, u.oneCell' = true := by
 intro u hu
 obtain ⟨i, _, h⟩ := flatL_mem n hu
 simp only [hf, hdl, List.mem_cons, List.not_mem_nil, or_false] at h
 rcases h with rfl | rfl | rfl <;> rfl
theorem PyAt.src {w : World} {ad : Option Addr} {n cap : Nat} {X : Nat → Py} (h : PyAt w ad n X) (hn : ad = none → n = 0 ∧ cap = 0) : Src w ad n cap (flatL (pf X) n) := by
 refine ⟨fun h0 => ?_, hn⟩
 obtain ⟨b, off, e, hr⟩ := h.at_ h0
 exact ⟨b, off, e, (flatL_range n (pf_len X n)).2 hr⟩
theorem py_of_own {w : World} {B n cap : Nat} {ad : Option Addr} {X : Nat → Py} (h : w.ownsRow B 43 36 (.slice ad n cap) n (flatL (pf X) n)) (hl : ∀ i, i < n → Zb (X i).lk) : PyAt w ad n X := by
 refine ⟨hl, fun h0 => ?_⟩
 obtain ⟨g, e, _, _, hr⟩ := own_range h h0
 exact ⟨g, 0, e, (flatL_range n (pf_len X n)).1 hr⟩
/-- Where holds that lie have their keys. -/
theorem HdAt.src {w : World} {ad : Option Addr} {n cap : Nat} {X : Nat → Hd} (h : HdAt w ad n X) (hn : ad = none → n = 0 ∧ cap = 0) :
  ∃ A : Nat → Option Addr × Nat, Src w ad n cap (flatL (hf X A) n) ∧ ∀ i, i < n → IsAt w (A i).1 (X i).n (X i).z ∧ ((A i).1 = none → (X i).n = 0 ∧ (A i).2 = 0) := by
 rcases Nat.eq_zero_or_pos n with rfl | h0
 ·exact ⟨fun _ => (none, 0), ⟨fun h => by omega, hn⟩, fun i hi => by omega⟩
 ·obtain ⟨b, off, e, hr⟩ := h.at_ h0
  have each : ∀ i, i < n → ∃ t : Option Addr × Nat, w.rangeAt b (off + i * 3) (hdl (X i) t.1 t.2) ∧ IsAt w t.1 (X i).n (X i).z ∧ (t.1 = none → (X i).n = 0 ∧ t.2 = 0) := fun i hi => by
   obtain ⟨ka, kc, h1, h2, h3⟩ := hr i hi
   exact ⟨(ka, kc), h1, h2, h3⟩
  have : ∀ i, ∃ t : Option Addr × Nat, i < n → w.rangeAt b (off + i * 3) (hdl (X i) t.1 t.2) ∧ IsAt w t.1 (X i).n (X i).z ∧ (t.1 = none → (X i).n = 0 ∧ t.2 = 0) := fun i => by
   by_cases hi : i < n
   ·obtain ⟨t, ht⟩ := each i hi
    exact ⟨t, fun _ => ht⟩
   ·exact ⟨(none, 0), fun h => absurd h hi⟩
  refine ⟨fun i => Classical.choose (this i), ⟨fun _ => ⟨b, off, e, (flatL_range n (hf_len X _ n)).2 fun i hi => (Classical.choose_spec (this i) hi).1⟩, hn⟩, fun i hi => (Classical.choose_spec (this i) hi).2⟩
/-- A state whose rows are its own, in blocks from B on. -/
structure SvOw (B : Nat) (w : World) (s : Sv) (p : Pl) (A : Nat → Option Addr × Nat) : Prop where
 lk : ∀ i, i < s.pn → Zb (s.P i).lk
 py : w.ownsRow B 43 36 (.slice p.pa s.pn p.pc) s.pn (flatL (pf s.P) s.pn)
 hd : w.ownsRow B 58 3 (.slice p.ha s.hn p.hc) s.hn (flatL (hf s.H A) s.hn)
 ks : ∀ i, i < s.hn → w.ownsRow B 3 1 (.slice (A i).1 (s.H i).n (A i).2) (s.H i).n (kL (s.H i))
theorem SvOw.hdAt {B : Nat} {w : World} {n cap : Nat} {ad : Option Addr} {H : Nat → Hd} {A : Nat → Option Addr × Nat} (hd : w.ownsRow B 58 3 (.slice ad n cap) n (flatL (hf H A) n)) (ks : ∀ i, i < n → w.ownsRow B 3 1 (.slice (A i).1 (H i).n (A i).2) (H i).n (kL (H i))) : HdAt w ad n H := by
 refine ⟨fun h0 => ?_⟩
 obtain ⟨g, e, _, _, hr⟩ := own_range hd h0
 exact ⟨g, 0, e, fun i hi => ⟨(A i).1, (A i).2, (flatL_range n (hf_len H A n)).1 hr i hi, kL_isAt (ks i hi), (own_nil (ks i hi)).2⟩⟩
theorem SvOw.at {B : Nat} {w : World} {s : Sv} {p : Pl} {A : Nat → Option Addr × Nat} (h : SvOw B w s p A) : SvAt w s p :=
 ⟨py_of_own h.py h.lk, SvOw.hdAt h.hd h.ks, (own_nil h.py).1, (own_nil h.hd).1, (own_nil h.py).2, (own_nil h.hd).2⟩
theorem SvOw.below {B : Nat} {w w' : World} {s : Sv} {p : Pl} {A : Nat → Option Addr × Nat} (h : SvOw B w s p A) (hb : Below w.heap.size w w') : SvOw B w' s p A :=
 ⟨h.lk, own_below h.py hb, own_below h.hd hb, fun i hi => own_below (h.ks i hi) hb⟩
theorem SvOw.low {B C : Nat} {w : World} {s : Sv} {p : Pl} {A : Nat → Option Addr × Nat} (h : SvOw B w s p A) (hb : C ≤ B) : SvOw C w s p A :=
 ⟨h.lk, own_low h.py hb, own_low h.hd hb, fun i hi => own_low (h.ks i hi) hb⟩

section
variable {w : World} {b : Nat} {x y z u : Value} {t : TypeId}
theorem three_set0 (h : w.heap[b]? = some (.cells #[x, y, z] t (0, 0))) : (w.setCell ⟨b, 0, none⟩ u).heap[b]? = some (.cells #[u, y, z] t (0, 0)) := heap_setCell_same w b 0 _ t u h
theorem three_set1 (h : w.heap[b]? = some (.cells #[x, y, z] t (0, 0))) : (w.setCell ⟨b, 1, none⟩ u).heap[b]? = some (.cells #[x, u, z] t (0, 0)) := heap_setCell_same w b 1 _ t u h
theorem three_set2 (h : w.heap[b]? = some (.cells #[x, y, z] t (0, 0))) : (w.setCell ⟨b, 2, none⟩ u).heap[b]? = some (.cells #[x, y, u] t (0, 0)) := heap_setCell_same w b 2 _ t u h
end
set_option maxRecDepth 100000 in
set_option maxHeartbeats 1600000 in
theorem hclone_any (x : Hd) (ka : Option Addr) (kc : Nat) (w : World) (hI : IsAt w ka x.n x.z) (hn : ka = none → x.n = 0 ∧ kc = 0) (hx : x.n ≤ 1000000) :
  Calls Tryz.prog 61 #[.agg (hdv x ka kc)] w fun e w' => ∃ ka' kc', e = .returned (.agg (hdv x ka' kc')) ∧ w'.ownsRow w.heap.size 3 1 (.slice ka' x.n kc') x.n (kL x) ∧ Below w.heap.size w w' := by
 unfold hdv
 have hb0 : Below w.heap.size w ((w.alloc (.cells #[.int .i64 x.id, .int .i64 x.am, .slice ka x.n kc] 58)).alloc (.cells #[.int .i64 0, .int .i64 0, .slice none 0 0] 58)) := ((Below.refl _ w).alloc (Nat.le_refl _) _).alloc (by simp) _
 have hsz : ((w.alloc (.cells #[.int .i64 x.id, .int .i64 x.am, .slice ka x.n kc] 58)).alloc (.cells #[.int .i64 0, .int .i64 0, .slice none 0 0] 58)).heap.size = w.heap.size + 2 := by simp
 have hr1 := heap_alloc_new (w.alloc (.cells #[.int .i64 x.id, .int .i64 x.am, .slice ka x.n kc] 58)) (.cells #[.int .i64 0, .int .i64 0, .slice none 0 0] 58)
 have hr0 : ((w.alloc (.cells #[.int .i64 x.id, .int .i64 x.am, .slice ka x.n kc] 58)).alloc (.cells #[.int .i64 0, .int .i64 0, .slice none 0 0] 58)).heap[w.heap.size]? = some (.cells #[.int .i64 x.id, .int .i64 x.am, .slice ka x.n kc] 58 (0, 0)) := by
  rw [Below.heap_alloc _ _ _ (by simp)]; exact heap_alloc_new w _
 have e1 : (w.alloc (.cells #[.int .i64 x.id, .int .i64 x.am, .slice ka x.n kc] 58)).heap.size = w.heap.size + 1 := by simp
 rw [e1] at hr1
 have hc := cloneI_any ka x.n kc (kL x) _ (kL_src (hI.below hb0) hn) (by simp [kL_length]) (kL_one x) hx
 clear hI e1
 go_enter Tryz.func61, Tryz.ntmps61
 go_wp2_with fail
 generalize (w.alloc (.cells #[.int .i64 x.id, .int .i64 x.am, .slice ka x.n kc] 58)).alloc (.cells #[.int .i64 0, .int .i64 0, .slice none 0 0] 58) = W0 at *
 refine hc.mono ?_
 rintro e w1 ⟨v, rfl, hO, hb1⟩
 obtain ⟨ka', kc', rfl, _, _⟩ := own_frmV hO
 have k0 : w1.heap[w.heap.size]? = some (.cells #[.int .i64 x.id, .int .i64 x.am, .slice ka x.n kc] 58 (0, 0)) := by rw [hb1.block _ (by omega)]; exact hr0
 have k1 : w1.heap[w.heap.size + 1]? = some (.cells #[.int .i64 0, .int .i64 0, .slice none 0 0] 58 (0, 0)) := by rw [hb1.block _ (by omega)]; exact hr1
 have c0 : w1.cell? ⟨w.heap.size, 0, none⟩ = some (.int .i64 x.id) := by rw [cell_of_row _ _ 0 _ _ _ k0]; rfl
 have c1 : w1.cell? ⟨w.heap.size, 1, none⟩ = some (.int .i64 x.am) := by rw [cell_of_row _ _ 1 _ _ _ k0]; rfl
 have c2 : w1.cell? ⟨w.heap.size, 2, none⟩ = some (.slice ka x.n kc) := by rw [cell_of_row _ _ 2 _ _ _ k0]; rfl
 have f2 : ∀ o, w1.frozen? ⟨w.heap.size, o, none⟩ = false := fun o => frozen_of_row _ _ o _ _ k0
 have d0 : w1.cell? ⟨w.heap.size + 1, 0, none⟩ = some (.int .i64 0) := by rw [cell_of_row _ _ 0 _ _ _ k1]; rfl
 have d1 : w1.cell? ⟨w.heap.size + 1, 1, none⟩ = some (.int .i64 0) := by rw [cell_of_row _ _ 1 _ _ _ k1]; rfl
 have d2 : w1.cell? ⟨w.heap.size + 1, 2, none⟩ = some (.slice none 0 0) := by rw [cell_of_row _ _ 2 _ _ _ k1]; rfl
 have g2 : ∀ o, w1.frozen? ⟨w.heap.size + 1, o, none⟩ = false := fun o => frozen_of_row _ _ o _ _ k1
 go_wp2
 have hE : ((((w1.setCell ⟨w.heap.size, 2, none⟩ (.slice ka' x.n kc')).setCell ⟨w.heap.size + 1, 0, none⟩ (.int .i64 x.id)).setCell ⟨w.heap.size + 1, 1, none⟩ (.int .i64 x.am)).setCell ⟨w.heap.size + 1, 2, none⟩ (.slice ka' x.n kc')).heap[w.heap.size + 1]? = some (.cells #[.int .i64 x.id, .int .i64 x.am, .slice ka' x.n kc'] 58 (0, 0)) :=
  three_set2 (three_set1 (three_set0 (by rw [Below.heap_setCell _ _ _ _ (by show w.heap.size + 1 ≠ w.heap.size; omega)]; exact k1)))
 refine bodyPost_ret (results_cell_row Tryz.results61 _ _ (w.heap.size + 1) 58 _ (0, 0) _ rfl hE Tryz.underlying58 rfl szH) rfl ⟨ka', kc', rfl, ?_, ?_⟩
 ·refine own_keep (own_low hO (by omega)) fun g e => ?_
  have := (hO.lt g e).1
  rw [Below.heap_setCell _ _ _ _ (by show g ≠ w.heap.size + 1; omega), Below.heap_setCell _ _ _ _ (by show g ≠ w.heap.size + 1; omega), Below.heap_setCell _ _ _ _ (by show g ≠ w.heap.size + 1; omega), Below.heap_setCell _ _ _ _ (by show g ≠ w.heap.size; omega)]
 ·exact ((((hb0.trans (hb1.mono (by omega))).setCell (Nat.le_refl _) _).setCell (by show w.heap.size ≤ w.heap.size + 1; omega) _).setCell (by show w.heap.size ≤ w.heap.size + 1; omega) _).setCell (by show w.heap.size ≤ w.heap.size + 1; omega) _
end Go.Proofs.YtoefgfiabfkfaaaGreatDoor
/- state.mayWait: payments that can wait together. -/
namespace Go.Proofs.YtoefgfiabfkfaaaGreatDoor
open Go.RowKit

set_option maxRecDepth 100000 in
set_option maxHeartbeats 3200000 in
theorem mayWait_any (ad : Option Addr) (n cap : Nat) (X : Nat → Py) (w : World) (h : PyAt w ad n X) (hn : n ≤ 1000000) :
  Calls Tryz.prog 19 #[.slice ad n cap] w fun e w' => e = .returned (.bool (decide (PsOk X n))) ∧ Below w.heap.size w w' := by
 have HB : Hid (PyAt w ad n X) := h
 have hb0 := Below.refl w.heap.size w
 clear h
 go_enter Tryz.func19, Tryz.ntmps19
 go_wp2
 go_loopw [3, 5, 8] (fun lv _ iv wr => ∃ i : Nat, i ≤ n ∧ lv = .int .i64 (lastP X i) ∧ iv = .int .i64 i ∧ PsOk X i ∧ Below w.heap.size w wr) (fun _ _ iv _ => n + 1 - (intOf iv).toNat)
 case atStart => exact ⟨0, by omega, rfl, rfl, fun j hj => by omega, hb0⟩
 case round =>
  clear hb0
  obtain ⟨i, hi, rfl, rfl, hk, hb⟩ := hrel
  have HK : Hid (PsOk X i) := hk
  clear hk
  by_cases hlt : i < n
  ·have hlt' : (i : Int) < n := by omega
   have HLK : Hid (Zb (X i).lk) := HB.out.lk i hlt
   obtain ⟨b, off, rfl, hc⟩ := HB.out.at_ (by omega)
   have HR : Hid (wr.rangeAt b (off + i * 36) (pyl (X i))) := range_below (hc i hlt) hb
   clear hc
   have HS : Hid (lastP X i < (X i).id ∧ POne (X i) → PsOk X (i + 1)) := fun hx j hj => by
    by_cases e : j = i
    ·subst e; exact hx
    ·exact HK.out j (by omega)
   have HN : Hid (PsOk X n → lastP X i < (X i).id ∧ POne (X i)) := fun hk => hk i hlt
   have HE : Hid (lastP X (i + 1) = (X i).id) := lastP_succ X i
   clear HK
   generalize lastP X i = q at *
   obtain ⟨x, hx⟩ : ∃ x, X i = x := ⟨_, rfl⟩
   rw [hx] at HR HN HE HLK HS
   clear hx
   by_cases h1 : q < x.id
   ·have h1' : ¬ x.id ≤ q := by omega
    by_cases h2 : x.id ≤ 4294967296
    ·have h2' : ¬ 4294967296 < x.id := by omega
     by_cases h3 : x.fr = 0 ∨ x.fr = 1
     ·have hs := isSide_any x.fr
      rw [decide_eq_true h3] at hs
      by_cases h4 : 10 ≤ x.am ∧ x.am ≤ 1125899906842624
      ·have hw1 := within_any x.am 10 1125899906842624
       rw [decide_eq_true h4] at hw1
       by_cases h5 : 0 ≤ x.af ∧ x.af ≤ 1099511627776
       ·have hw2 := within_any x.af 0 1099511627776
        rw [decide_eq_true h5] at hw2
        by_cases h6 : hq x.lk nz = false
        ·have HO := HS.out ⟨h1, h2, h3, h4, h5, h6⟩
         clear h3 h4 h5 HN HS
         go_wp2_with (first | (refine wpList_load_mid rfl 43 _ rfl b (off + i * 36) rfl (pyl x) _ HR.out Tryz.underlying43 rfl (szPl _) ?_) | (refine wpList_allocP rfl rfl ?_) | (refine wpList_storeP _ szP rfl _ _ rfl wr.heap.size rfl x p0 43 rfl (heap_alloc_new wr _) ?_; intro w3 hg3 hf3; obtain ⟨c0, c1, c2, c3, cl⟩ := pbox_of hg3; have HB3 : Hid (Below wr.heap.size wr w3) := frm_new hf3; have HC : Hid (w3.rangeAt wr.heap.size 4 (bl x.lk 32)) := cl; clear hf3 cl) | fail)
         refine (hs _).mono ?_
         rintro e w4 ⟨rfl, rfl⟩
         clear hs
         go_wp2_with fail
         refine (hw1 _).mono ?_
         rintro e w5 ⟨rfl, rfl⟩
         clear hw1
         go_wp2_with fail
         refine (hw2 _).mono ?_
         rintro e w6 ⟨rfl, rfl⟩
         clear hw2
         go_wp2_with (first | (refine wpList_loadHG (by rfl) _ rfl wr.heap.size 4 rfl x.lk HC.out ?_) | (refine wpList_buildHG (by rfl) rfl ?_) | (refine wpList_eqHG (by rfl) _ _ rfl x.lk nz rfl rfl HLK.out nz_bd ?_) | fail)
         go_roundw
         case rel => exact ⟨i + 1, by omega, by rw [HE.out], by go_num, HO, hb.trans (HB3.out.mono hb.size)⟩
         case measure => simp [intOf]; omega
        ·have h6' : hq x.lk nz = true := by simpa using h6
         have HF : Hid (decide (PsOk X n) = false) := by
          show _ = _
          simp only [decide_eq_false_iff_not]
          exact fun hk => h6 (HN.out hk).2.2.2.2.2
         clear h3 h4 h5 h6 HN HS
         go_wp2_with (first | (refine wpList_load_mid rfl 43 _ rfl b (off + i * 36) rfl (pyl x) _ HR.out Tryz.underlying43 rfl (szPl _) ?_) | (refine wpList_allocP rfl rfl ?_) | (refine wpList_storeP _ szP rfl _ _ rfl wr.heap.size rfl x p0 43 rfl (heap_alloc_new wr _) ?_; intro w3 hg3 hf3; obtain ⟨c0, c1, c2, c3, cl⟩ := pbox_of hg3; have HB3 : Hid (Below wr.heap.size wr w3) := frm_new hf3; have HC : Hid (w3.rangeAt wr.heap.size 4 (bl x.lk 32)) := cl; clear hf3 cl) | fail)
         refine (hs _).mono ?_
         rintro e w4 ⟨rfl, rfl⟩
         clear hs
         go_wp2_with fail
         refine (hw1 _).mono ?_
         rintro e w5 ⟨rfl, rfl⟩
         clear hw1
         go_wp2_with fail
         refine (hw2 _).mono ?_
         rintro e w6 ⟨rfl, rfl⟩
         clear hw2
         go_wp2_with (first | (refine wpList_loadHG (by rfl) _ rfl wr.heap.size 4 rfl x.lk HC.out ?_) | (refine wpList_buildHG (by rfl) rfl ?_) | (refine wpList_eqHG (by rfl) _ _ rfl x.lk nz rfl rfl HLK.out nz_bd ?_) | fail)
         go_ret
         exact ⟨by rw [HF.out]; rfl, hb.trans (HB3.out.mono hb.size)⟩
       ·have hw2 := within_any x.af 0 1099511627776
        rw [decide_eq_false h5] at hw2
        have HF : Hid (decide (PsOk X n) = false) := by
         show _ = _
         simp only [decide_eq_false_iff_not]
         exact fun hk => h5 (HN.out hk).2.2.2.2.1
        clear h3 h4 h5 HN HS
        go_wp2_with (first | (refine wpList_load_mid rfl 43 _ rfl b (off + i * 36) rfl (pyl x) _ HR.out Tryz.underlying43 rfl (szPl _) ?_) | (refine wpList_allocP rfl rfl ?_) | (refine wpList_storeP _ szP rfl _ _ rfl wr.heap.size rfl x p0 43 rfl (heap_alloc_new wr _) ?_; intro w3 hg3 hf3; obtain ⟨c0, c1, c2, c3, cl⟩ := pbox_of hg3; have HB3 : Hid (Below wr.heap.size wr w3) := frm_new hf3; have HC : Hid (w3.rangeAt wr.heap.size 4 (bl x.lk 32)) := cl; clear hf3 cl) | fail)
        refine (hs _).mono ?_
        rintro e w4 ⟨rfl, rfl⟩
        clear hs
        go_wp2_with fail
        refine (hw1 _).mono ?_
        rintro e w5 ⟨rfl, rfl⟩
        clear hw1
        go_wp2_with fail
        refine (hw2 _).mono ?_
        rintro e w6 ⟨rfl, rfl⟩
        clear hw2
        go_wp2
        go_ret
        exact ⟨by rw [HF.out]; rfl, hb.trans (HB3.out.mono hb.size)⟩
      ·have hw1 := within_any x.am 10 1125899906842624
       rw [decide_eq_false h4] at hw1
       have HF : Hid (decide (PsOk X n) = false) := by
        show _ = _
        simp only [decide_eq_false_iff_not]
        exact fun hk => h4 (HN.out hk).2.2.2.1
       clear h3 h4 HN HS
       go_wp2_with (first | (refine wpList_load_mid rfl 43 _ rfl b (off + i * 36) rfl (pyl x) _ HR.out Tryz.underlying43 rfl (szPl _) ?_) | (refine wpList_allocP rfl rfl ?_) | (refine wpList_storeP _ szP rfl _ _ rfl wr.heap.size rfl x p0 43 rfl (heap_alloc_new wr _) ?_; intro w3 hg3 hf3; obtain ⟨c0, c1, c2, c3, cl⟩ := pbox_of hg3; have HB3 : Hid (Below wr.heap.size wr w3) := frm_new hf3; have HC : Hid (w3.rangeAt wr.heap.size 4 (bl x.lk 32)) := cl; clear hf3 cl) | fail)
       refine (hs _).mono ?_
       rintro e w4 ⟨rfl, rfl⟩
       clear hs
       go_wp2_with fail
       refine (hw1 _).mono ?_
       rintro e w5 ⟨rfl, rfl⟩
       clear hw1
       go_wp2
       go_ret
       exact ⟨by rw [HF.out]; rfl, hb.trans (HB3.out.mono hb.size)⟩
     ·have hs := isSide_any x.fr
      rw [decide_eq_false h3] at hs
      have HF : Hid (decide (PsOk X n) = false) := by
       show _ = _
       simp only [decide_eq_false_iff_not]
       exact fun hk => h3 (HN.out hk).2.2.1
      clear h3 HN HS
      go_wp2_with (first | (refine wpList_load_mid rfl 43 _ rfl b (off + i * 36) rfl (pyl x) _ HR.out Tryz.underlying43 rfl (szPl _) ?_) | (refine wpList_allocP rfl rfl ?_) | (refine wpList_storeP _ szP rfl _ _ rfl wr.heap.size rfl x p0 43 rfl (heap_alloc_new wr _) ?_; intro w3 hg3 hf3; obtain ⟨c0, c1, c2, c3, cl⟩ := pbox_of hg3; have HB3 : Hid (Below wr.heap.size wr w3) := frm_new hf3; have HC : Hid (w3.rangeAt wr.heap.size 4 (bl x.lk 32)) := cl; clear hf3 cl) | fail)
      refine (hs _).mono ?_
      rintro e w4 ⟨rfl, rfl⟩
      clear hs
      go_wp2
      go_ret
      exact ⟨by rw [HF.out]; rfl, hb.trans (HB3.out.mono hb.size)⟩
    ·have h2' : 4294967296 < x.id := by omega
     have HF : Hid (decide (PsOk X n) = false) := by
      show _ = _
      simp only [decide_eq_false_iff_not]
      exact fun hk => h2 (HN.out hk).2.1
     clear HN HS
     go_wp2_with (first | (refine wpList_load_mid rfl 43 _ rfl b (off + i * 36) rfl (pyl x) _ HR.out Tryz.underlying43 rfl (szPl _) ?_) | (refine wpList_allocP rfl rfl ?_) | (refine wpList_storeP _ szP rfl _ _ rfl wr.heap.size rfl x p0 43 rfl (heap_alloc_new wr _) ?_; intro w3 hg3 hf3; obtain ⟨c0, c1, c2, c3, cl⟩ := pbox_of hg3; have HB3 : Hid (Below wr.heap.size wr w3) := frm_new hf3; have HC : Hid (w3.rangeAt wr.heap.size 4 (bl x.lk 32)) := cl; clear hf3 cl) | fail)
     go_ret
     exact ⟨by rw [HF.out]; rfl, hb.trans (HB3.out.mono hb.size)⟩
   ·have h1' : x.id ≤ q := by omega
    have HF : Hid (decide (PsOk X n) = false) := by
     show _ = _
     simp only [decide_eq_false_iff_not]
     exact fun hk => h1 (HN.out hk).1
    clear HN HS
    go_wp2_with (first | (refine wpList_load_mid rfl 43 _ rfl b (off + i * 36) rfl (pyl x) _ HR.out Tryz.underlying43 rfl (szPl _) ?_) | (refine wpList_allocP rfl rfl ?_) | (refine wpList_storeP _ szP rfl _ _ rfl wr.heap.size rfl x p0 43 rfl (heap_alloc_new wr _) ?_; intro w3 hg3 hf3; obtain ⟨c0, c1, c2, c3, cl⟩ := pbox_of hg3; have HB3 : Hid (Below wr.heap.size wr w3) := frm_new hf3; have HC : Hid (w3.rangeAt wr.heap.size 4 (bl x.lk 32)) := cl; clear hf3 cl) | fail)
    go_ret
    exact ⟨by rw [HF.out]; rfl, hb.trans (HB3.out.mono hb.size)⟩
  ·obtain rfl : i = n := by omega
   have hnn : ¬ ((i : Int) < i) := by omega
   have hk := HK.out
   go_wp2
   go_ret
   exact ⟨by simp, hb⟩
end Go.Proofs.YtoefgfiabfkfaaaGreatDoor
