/- state.Check and what it calls. -/
import Derived.Test.YthmmmkldmhjogaaGreatDoorOwnShelf12
import Derived.Maps.AppendAt
import Derived.Deep.AppendSrc
import Derived.Deep.AppendLies
namespace Go.Proofs.YthmmmkldmhjogaaGreatDoor
open Go.RowKit

theorem within_any (n l m : Int) (w : World) :
  Calls Tryz.prog 31 #[.int .i64 n, .int .i64 l, .int .i64 m] w fun e w' => e = .returned (.bool (decide (l ≤ n ∧ n ≤ m))) ∧ w' = w := by
 by_cases h : l ≤ n
 ·go_enter Tryz.func31, Tryz.ntmps31
  go_wp2
  go_ret
  simp [h]
 ·have e : decide (l ≤ n ∧ n ≤ m) = false := by simp; omega
  rw [e]
  go_enter Tryz.func31, Tryz.ntmps31
  go_wp2
  go_ret
  simp
theorem isSide_any (n : Int) (w : World) :
  Calls Tryz.prog 50 #[.int .i64 n] w fun e w' => e = .returned (.bool (decide (n = 0 ∨ n = 1))) ∧ w' = w := by
 by_cases h : n = 0
 ·subst h
  go_enter Tryz.func50, Tryz.ntmps50
  go_wp2
  go_ret
  simp
 ·have e : decide (n = 0 ∨ n = 1) = decide (n = 1) := by simp [h]
  have e0 : (n == 0) = false := by simp [h]
  rw [e]
  go_enter Tryz.func50, Tryz.ntmps50
  go_wp2
  go_ret
  exact ⟨rfl, rfl⟩
theorem slots_any (s : Sv) (p : Pl) (w : World) (hs : s.pn + s.hn ≤ 1000000) :
  Calls Tryz.prog 32 #[.agg (svv s p)] w fun e w' => e = .returned (.int .i64 ((s.pn + s.hn : Nat) : Int)) ∧ Below w.heap.size w w' := by
 unfold svv
 have hb0 : Below w.heap.size w (w.alloc (.cells (svv s p) 33)) := (Below.refl _ w).alloc (Nat.le_refl _) _
 unfold svv at hb0
 go_enter Tryz.func32, Tryz.ntmps32
 go_wp2
 go_ret
 exact ⟨by go_num, hb0⟩

set_option maxHeartbeats 800000 in
theorem mayHold_any (ka : Option Addr) (n kc : Nat) (z : Nat → Int) (w : World) (h : IsAt w ka n z) (hn : n ≤ 1000000) :
  Calls Tryz.prog 63 #[.slice ka n kc] w fun e w' => e = .returned (.bool (decide (KOk z n ∧ 0 < n))) ∧ Below w.heap.size w w' := by
 have HI : Hid (IsAt w ka n z) := h
 have hb0 := Below.refl w.heap.size w
 clear h
 go_enter Tryz.func63, Tryz.ntmps63
 go_wp2
 go_loopw [3, 5, 8] (fun lv kv iv wr => ∃ i : Nat, i ≤ n ∧ lv = .int .i64 (lastK z i) ∧ iv = .int .i64 i ∧ KOk z i ∧ Below w.heap.size w wr) (fun _ _ iv _ => n + 1 - (intOf iv).toNat)
 case atStart => exact ⟨0, by omega, rfl, rfl, fun j hj => by omega, hb0⟩
 case round =>
  clear hb0
  obtain ⟨i, hi, rfl, rfl, hk, hb⟩ := hrel
  have HK : Hid (KOk z i) := hk
  clear hk
  by_cases hlt : i < n
  ·have hlt' : (i : Int) < n := by omega
   obtain ⟨b, off, rfl, hc⟩ := HI.out (by omega)
   have hci : wr.cell? ⟨b, off + i, none⟩ = some (.int .i64 (z i)) := by
    have := hc i hlt
    rw [hb.cell (p := ⟨b, off + i, none⟩) (World.block_lt_of_cell? w ⟨b, off + i, none⟩ this)]; exact this
   clear hc
   by_cases h1 : lastK z i < z i
   ·have h1' : ¬ z i ≤ lastK z i := by omega
    by_cases h2 : z i < 16
    ·have h2' : ¬ 16 ≤ z i := by omega
     have HN : Hid (KOk z (i + 1)) := fun j hj => by
      by_cases e : j = i
      ·subst e; exact ⟨h1, h2⟩
      ·exact HK.out j (by omega)
     have e1 := lastK_succ z i
     generalize lastK z i = q at *
     go_wp2
     go_roundw
     case rel => exact ⟨i + 1, by omega, by rw [e1], by go_num, HN.out, hb⟩
     case measure => simp [intOf]; omega
    ·have h2' : 16 ≤ z i := by omega
     have HN : Hid (¬ KOk z n) := fun hk => h2 (hk i hlt).2
     generalize lastK z i = q at *
     go_wp2
     go_ret
     exact ⟨by simp [HN.out], hb⟩
   ·have h1' : z i ≤ lastK z i := by omega
    have HN : Hid (¬ KOk z n) := fun hk => h1 (hk i hlt).1
    generalize lastK z i = q at *
    go_wp2
    go_ret
    exact ⟨by simp [HN.out], hb⟩
  ·obtain rfl : i = n := by omega
   have hnn : ¬ ((i : Int) < i) := by omega
   have hk := HK.out
   go_wp2
   go_ret
   exact ⟨by simp, hb⟩

/-- A hold of noughts, and a payment. -/
def p0 : Py := ⟨0, 0, 0, 0, nz⟩
theorem run_allocP (w : World) : (Instr.alloc 62 true (.tuple #[])).run Tryz.prog w = .ok (.pointer (some ⟨w.heap.size, 0, none⟩)) (w.alloc (.cells (pyv p0) 62)) := by kernel_rfl
section
variable {ops : Array Oper} {rest : List Oper} {o : Oper} {a : Act} {w : World} {Q : Exit → Act → World → Prop}
theorem wpList_allocP (hgd : o.guard = none) (ho : o.op = .alloc 62)
  (h : wpList Tryz.prog ops Q rest (a.put o.dst (.pointer (some ⟨w.heap.size, 0, none⟩))) (w.alloc (.cells (pyv p0) 62))) : wpList Tryz.prog ops Q (o :: rest) a w := by
 refine wpList_plain hgd fun K hK => ?_
 unfold Oper.wp execOp
 simp only [ho, Sem.run_bind, run_allocP, Result.andThen]
 exact hK _ _ h
/-- A whole payment stored into a variable of its own. -/
theorem wpList_storeP (T : TypeId) (hT : (Tryz.prog.info? T).map (·.size) = some 36) (hgd : o.guard = none) (x y : Operand) (ho : o.op = .store T x y) (g : Nat) (hx : a.eval x = .pointer (some ⟨g, 0, none⟩)) (v u : Py) (t : TypeId) (hy : a.eval y = .agg (pyv v)) (hg : w.heap[g]? = some (.cells (pyv u) t (0, 0)))
  (h : ∀ w', w'.heap[g]? = some (.cells (pyv v) t (0, 0)) → Frm [g] w w' → wpList Tryz.prog ops Q rest (a.put o.dst undef) w') : wpList Tryz.prog ops Q (o :: rest) a w := by
 refine wpList_store_mid hgd T x y ho g 0 (pyv v) hx hy ?_ (by rw [pyv_size]; exact hT) (pyv_one v) (h _ ?_ (setCells_frm g _ 0 w))
 ·intro j hj
  rw [pyv_size] at hj
  refine ⟨?_, ?_⟩
  ·rw [Nat.zero_add, cell_of_row w g j _ t _ hg]
   simp [pyv_size, hj]
  ·rw [Nat.zero_add]; exact frozen_of_row w g j _ t hg
 ·have := setCells_at g (pyv v).toList 0 w [] (pyv u).toList t (by simpa using hg) rfl (by simp [pyv_size])
  rw [this]
  simp [pyv_size, List.drop_eq_nil_of_le]
end
theorem frm_new {w w' : World} {o : Obj} (h : Frm [w.heap.size] (w.alloc o) w') : Below w.heap.size w w' :=
 ((Below.refl _ w).alloc (Nat.le_refl _) o).trans (h.below (by simp) (by simp))
theorem szHl (z : Nat → Int) : (Tryz.prog.info? 48).map (·.size) = some (bl z 32).length := by rw [bl_length]; exact hsz
theorem wpList_wanted {P : Program} {ops : Array Oper} {rest : List Oper} {o : Oper} {a : Act} {w : World} {Q : Exit → Act → World → Prop} (hw : Region.wanted o (yielded ops a.tmps) = true) (h : ∀ K : Act → World → Prop, (∀ a w, wpList P ops Q rest a w → K a w) → o.wp P a w K Q) : wpList P ops Q (o :: rest) a w :=
 wpList_step fun K hK => by rw [if_pos hw]; exact h K hK
theorem build_H (w : World) : (Instr.build 48 #[]).run Tryz.prog w = .ok (.agg (hv nz)) w := by kernel_rfl
section
variable {ops : Array Oper} {rest : List Oper} {o : Oper} {a : Act} {w : World} {Q : Exit → Act → World → Prop}
/-- A sum loaded, guarded or not. -/
theorem wpList_loadHG (hw : Region.wanted o (yielded ops a.tmps) = true) (x : Operand) (ho : o.op = .load 48 x) (b q : Nat) (hx : a.eval x = .pointer (some ⟨b, q, none⟩)) (z : Nat → Int) (hc : w.rangeAt b q (bl z 32))
  (h : wpList Tryz.prog ops Q rest (a.put o.dst (.agg (hv z))) w) : wpList Tryz.prog ops Q (o :: rest) a w :=
 wpList_wanted hw fun _ hK => wp_load_mid 48 x ho b q hx (bl z 32) _ hc Tryz.underlying48 rfl (szHl z) (hK _ _ h)
/-- The zero sum, guarded or not. -/
theorem wpList_buildHG (hw : Region.wanted o (yielded ops a.tmps) = true) (ho : o.op = .build 48 #[])
  (h : wpList Tryz.prog ops Q rest (a.put o.dst (.agg (hv nz))) w) : wpList Tryz.prog ops Q (o :: rest) a w :=
 wpList_wanted hw fun K hK => by
  unfold Oper.wp execOp
  simp only [ho, List.map_toArray, List.map_nil, Sem.run_bind, build_H, Result.andThen]
  exact hK _ _ h
theorem guardHs : Tryz.prog.eqGuardType Tryz.prog.depth 48 = false := by kernel_rfl
/-- Two sums held against each other, guarded or not. -/
theorem wpList_eqHG (hw : Region.wanted o (yielded ops a.tmps) = true) (x y : Operand) (ho : o.op = .binOp .eql 48 x y 48) (z u : Nat → Int) (hx : a.eval x = .agg (hv z)) (hy : a.eval y = .agg (hv u)) (hz : Zb z) (hu : Zb u)
  (h : wpList Tryz.prog ops Q rest (a.put o.dst (.bool (hq z u))) w) : wpList Tryz.prog ops Q (o :: rest) a w :=
 wpList_wanted hw fun K hK => by
  have hr : (execOp a.eval o).run Tryz.prog w = .ok (.value (.bool (hq z u))) w := by
   unfold execOp
   simp only [ho, hx, hy, Sem.run_bind, run_eqGuard_agg w .eql 48 x y _ _ guardHs, eql_hv hz hu, Result.andThen_ok, Sem.run_pure]
  unfold Oper.wp
  rw [hr]
  exact hK _ _ h
end
end Go.Proofs.YthmmmkldmhjogaaGreatDoor
/- Rows of payments, holds and ints of one's own; slices.Clone of them. -/
namespace Go.Proofs.YthmmmkldmhjogaaGreatDoor
open Go.RowKit

/-- Parts laid one behind the other. -/
def flatL (f : Nat → List Value) : Nat → List Value
 | 0 => []
 | i + 1 => flatL f i ++ f i
theorem flatL_length {f : Nat → List Value} {k : Nat} : ∀ n, (∀ i, i < n → (f i).length = k) → (flatL f n).length = n * k
 | 0, _ => by simp [flatL]
 | n + 1, h => by
  simp only [flatL, List.length_append, flatL_length n (fun i hi => h i (by omega)), h n (by omega), Nat.add_mul, Nat.one_mul]
theorem flatL_congr {f g : Nat → List Value} : ∀ n, (∀ i, i < n → f i = g i) → flatL f n = flatL g n
 | 0, _ => rfl
 | n + 1, h => by rw [flatL, flatL, flatL_congr n (fun i hi => h i (by omega)), h n (by omega)]
theorem flatL_add (f : Nat → List Value) (i : Nat) : ∀ m, flatL f (i + m) = flatL f i ++ flatL (fun j => f (i + j)) m
 | 0 => by simp [flatL]
 | m + 1 => by rw [← Nat.add_assoc, flatL, flatL_add f i m, flatL, List.append_assoc]
theorem flatL_mem {f : Nat → List Value} {u : Value} : ∀ n, u ∈ flatL f n → ∃ i, i < n ∧ u ∈ f i
 | 0, h => by simp [flatL] at h
 | n + 1, h => by
  rcases List.mem_append.1 h with h | h
  ·obtain ⟨i, hi, hu⟩ := flatL_mem n h
   exact ⟨i, by omega, hu⟩
  ·exact ⟨n, by omega, h⟩
theorem range_append {w : World} {b off : Nat} {l m : List Value} : w.rangeAt b off (l ++ m) ↔ w.rangeAt b off l ∧ w.rangeAt b (off + l.length) m := by
 constructor
 ·intro h
  refine ⟨fun j v hv => h j v (by rw [List.getElem?_append_left (by have := (List.getElem?_eq_some_iff.1 hv).1; exact this)]; exact hv), fun j v hv => ?_⟩
  have := h (l.length + j) v (by rw [List.getElem?_append_right (by omega)]; simpa using hv)
  rwa [← Nat.add_assoc] at this
 ·rintro ⟨h1, h2⟩ j v hv
  by_cases hj : j < l.length
  ·rw [List.getElem?_append_left hj] at hv; exact h1 j v hv
  ·rw [List.getElem?_append_right (by omega)] at hv
   have := h2 (j - l.length) v hv
   rwa [show off + l.length + (j - l.length) = off + j from by omega] at this
theorem flatL_range {w : World} {b off k : Nat} {f : Nat → List Value} : ∀ n, (∀ i, i < n → (f i).length = k) → (w.rangeAt b off (flatL f n) ↔ ∀ i, i < n → w.rangeAt b (off + i * k) (f i))
 | 0, _ => ⟨fun _ i hi => by omega, fun _ j v hv => by simp [flatL] at hv⟩
 | n + 1, h => by
  rw [flatL, range_append, flatL_range n (fun i hi => h i (by omega)), flatL_length n (fun i hi => h i (by omega))]
  constructor
  ·rintro ⟨h1, h2⟩ i hi
   by_cases e : i = n
   ·subst e; exact h2
   ·exact h1 i (by omega)
  ·exact fun h => ⟨fun i hi => h i (by omega), h n (by omega)⟩
/-- What owns a row has its cells there. -/
theorem own_range {w : World} {B T k n : Nat} {ad : Option Addr} {cap : Nat} {xs : List Value} (h : w.ownsRow B T k (.slice ad n cap) n xs) (hn : 0 < n) : ∃ g, ad = some ⟨g, 0, none⟩ ∧ B ≤ g ∧ g < w.heap.size ∧ w.rangeAt g 0 xs := by
 rcases h.2 with ⟨_, e⟩ | ⟨g, c, cur, e, hb, hg, _⟩
 ·omega
 ·cases e
  refine ⟨g, rfl, hb, lt_of_block hg, fun j v hv => ?_⟩
  have := h.cells (g := g) rfl j v hv
  rwa [Addr.add_lit] at this
theorem own_frmV {w : World} {B T k n : Nat} {v : Value} {xs : List Value} (h : w.ownsRow B T k v n xs) : ∃ ad cap, v = .slice ad n cap ∧ n ≤ cap ∧ (ad = none → n = 0 ∧ cap = 0) := by
 rcases h.2 with ⟨rfl, rfl⟩ | ⟨g, cap, cur, rfl, _, _, hc, _⟩
 ·exact ⟨none, 0, rfl, Nat.le_refl _, fun _ => ⟨rfl, rfl⟩⟩
 ·exact ⟨_, cap, rfl, hc, fun e => by cases e⟩
theorem own_keep {w w' : World} {B T k n : Nat} {v : Value} {xs : List Value} (h : w.ownsRow B T k v n xs) (hb : ∀ g, v.ownBlock = some g → w'.heap[g]? = w.heap[g]?) : w'.ownsRow B T k v n xs := by
 refine ⟨h.1, ?_⟩
 rcases h.2 with hn | ⟨g, cap, cur, rfl, hbs, hg, rest⟩
 ·exact .inl hn
 ·exact .inr ⟨g, cap, cur, rfl, hbs, by rw [hb g rfl]; exact hg, rest⟩
theorem own_below {w w' : World} {B T k n : Nat} {v : Value} {xs : List Value} (h : w.ownsRow B T k v n xs) (hb : Below w.heap.size w w') : w'.ownsRow B T k v n xs :=
 own_keep h (fun g e => hb.block g (h.lt g e).2)
theorem own_low {w : World} {B C T k n : Nat} {v : Value} {xs : List Value} (h : w.ownsRow B T k v n xs) (hb : C ≤ B) : w.ownsRow C T k v n xs := by
 refine ⟨h.1, ?_⟩
 rcases h.2 with hn | ⟨g, cap, cur, rfl, hbs, rest⟩
 ·exact .inl hn
 ·exact .inr ⟨g, cap, cur, rfl, Nat.le_trans hb hbs, rest⟩
/-- Rows of other types lie in other blocks. -/
theorem own_apart {w : World} {B C T U k l n m : Nat} {v u : Value} {xs ys : List Value} (h : w.ownsRow B T k v n xs) (h' : w.ownsRow C U l u m ys) (hT : T ≠ U) : ∀ g, v.ownBlock = some g → u.ownBlock ≠ some g := by
 intro g e e'
 rcases h.2 with ⟨rfl, _⟩ | ⟨g1, cap, cur, rfl, _, hg, _⟩
 ·cases e
 ·rcases h'.2 with ⟨rfl, _⟩ | ⟨g2, cap2, cur2, rfl, _, hg2, _⟩
  ·cases e'
  ·have e1 : g1 = g := by simpa [Value.ownBlock] using e
   have e2 : g2 = g := by simpa [Value.ownBlock] using e'
   subst e1 e2
   rw [hg] at hg2
   simp at hg2
   exact hT hg2.2
/-- One part of a row written anew. -/
theorem own_set {w : World} {B T k n g cap i : Nat} {f : Nat → List Value} {cs : List Value} (h : w.ownsRow B T k (.slice (some ⟨g, 0, none⟩) n cap) n (flatL f n)) (hf : ∀ j, j < n → (f j).length = k) (hi : i < n) (hc : cs.length = k) :
  (w.setCells g (i * k) cs).ownsRow B T k (.slice (some ⟨g, 0, none⟩) n cap) n (flatL (fun j => if j = i then cs else f j) n) := by
 have hf' : ∀ j, j < n → (if j = i then cs else f j).length = k := fun j hj => by split <;> simp [*]
 refine ⟨flatL_length n hf', .inr ?_⟩
 rcases h.2 with ⟨e, _⟩ | ⟨g', cap', cur, e, hb, hg, h1, h2, h3, h4⟩
 ·cases e
 cases e
 obtain ⟨m, rfl⟩ : ∃ m, n = i + (1 + m) := ⟨n - i - 1, by omega⟩
 have e1 : flatL f (i + (1 + m)) = flatL f i ++ (f i ++ flatL (fun j => f (i + (1 + j))) m) := by
  rw [flatL_add, flatL_add]; simp [flatL]
 have e2 : flatL (fun j => if j = i then cs else f j) (i + (1 + m)) = flatL f i ++ (cs ++ flatL (fun j => f (i + (1 + j))) m) := by
  rw [flatL_add, flatL_add, flatL_congr i (g := f) (fun j hj => if_neg (by omega)), flatL_congr m (g := fun j => f (i + (1 + j))) (fun j _ => if_neg (by omega))]
  simp [flatL]
 have li : (flatL f i).length = i * k := flatL_length i (fun j hj => hf j (by omega))
 have lf : (f i).length = k := hf i hi
 have es : cur.toList = flatL f i ++ (f i ++ (flatL (fun j => f (i + (1 + j))) m ++ cur.toList.drop ((i + (1 + m)) * k))) := by
  have := List.take_append_drop ((i + (1 + m)) * k) cur.toList
  rw [h4, e1] at this
  simpa using this.symm
 refine ⟨g, cap, (flatL f i ++ cs ++ (flatL (fun j => f (i + (1 + j))) m ++ cur.toList.drop ((i + (1 + m)) * k))).toArray, rfl, hb, ?_, h1, h2, ?_, ?_⟩
 ·have hg' : w.heap[g]? = some (.cells (flatL f i ++ (f i ++ (flatL (fun j => f (i + (1 + j))) m ++ cur.toList.drop ((i + (1 + m)) * k)))).toArray T (0, 0)) := by rw [← es]; simpa using hg
  have := setCells_at g cs (i * k) w (flatL f i) _ T hg' li (by simp; omega)
  rw [this]
  congr 3
  rw [List.drop_append_of_le_length (by omega), List.drop_eq_nil_of_le (by omega)]
  simp
 ·have := congrArg List.length es
  simp only [List.length_append] at this
  simp only [List.size_toArray, List.length_append]
  rw [← h3]
  simp only [Array.length_toList] at this
  omega
 ·rw [e2]
  have l2 : (flatL f i ++ (cs ++ flatL (fun j => f (i + (1 + j))) m)).length = (i + (1 + m)) * k := by rw [← e2]; exact flatL_length _ hf'
  have : (flatL f i ++ cs ++ (flatL (fun j => f (i + (1 + j))) m ++ cur.toList.drop ((i + (1 + m)) * k))) = (flatL f i ++ (cs ++ flatL (fun j => f (i + (1 + j))) m)) ++ cur.toList.drop ((i + (1 + m)) * k) := by simp
  rw [this, List.take_append_of_le_length (by simp only [l2]; exact Nat.le_refl _), List.take_of_length_le (by simp only [l2]; exact Nat.le_refl _)]
/-- What a row's value reads: its parts lie there. -/
def Src (w : World) (ad : Option Addr) (n cap : Nat) (cs : List Value) : Prop := (0 < n → ∃ b off, ad = some ⟨b, off, none⟩ ∧ w.rangeAt b off cs) ∧ (ad = none → n = 0 ∧ cap = 0)
end Go.Proofs.YthmmmkldmhjogaaGreatDoor
/- Rows of payments, holds, ints: their copies. -/
namespace Go.Proofs.YthmmmkldmhjogaaGreatDoor
open Go.RowKit

theorem infoP : (Tryz.prog.info? 62).map (fun i => (i.zero, i.size, i.bytes)) = some (some (.agg (pyv p0)), 36, 64) := by kernel_rfl
theorem zero_p : (Value.agg (pyv p0)).cells.size = 36 := by simp [Value.cells, pyv_size]
theorem infoH : (Tryz.prog.info? 64).map (fun i => (i.zero, i.size, i.bytes)) = some (some (.agg #[.int .i64 0, .int .i64 0, .slice none 0 0]), 3, 40) := by kernel_rfl

set_option maxHeartbeats 400000 in
theorem cloneP_any (ad : Option Addr) (n cap : Nat) (cs : List Value) (w : World) (hs : Src w ad n cap cs) (hl : cs.length = n * 36) (h1 : ∀ u ∈ cs, u.oneCell' = true) (hn : n ≤ 1000000) :
  Calls Tryz.prog 71 #[.slice ad n cap] w fun e w' => ∃ v, e = .returned v ∧ w'.ownsRow w.heap.size 62 36 v n cs ∧ Below w.heap.size w w' := by
 cases ad with
 | none =>
  obtain ⟨rfl, rfl⟩ := hs.2 rfl
  have hc : cs = [] := List.eq_nil_of_length_eq_zero (by simpa using hl)
  subst hc
  have hnil := fun wx => Lib.run_eql_slice_nil (P := Tryz.prog) wx 30 62 none 0 0 0 0 Tryz.underlying30
  clear hs h1
  go_enter Tryz.func71, Tryz.ntmps71
  go_wp2
  go_ret
  exact ⟨_, rfl, World.ownsRow_nil _ _ _ _, Below.refl _ _⟩
 | some a =>
  have hnil : ∀ wx, (binOp .eql 30 (.slice (some a) n cap) (.slice none 0 0)).run Tryz.prog wx = .ok (.bool false) wx := fun wx => Lib.run_eql_slice_nil (P := Tryz.prog) wx 30 62 (some a) n cap 0 0 Tryz.underlying30
  obtain ⟨i0, hi, hz0, hz1, hz2⟩ := info_parts infoP
  have H : Hid (Tryz.prog.info? 62 = some i0 ∧ i0.zero = some (.agg (pyv p0)) ∧ i0.size = 36 ∧ i0.bytes = 64) := ⟨hi, hz0, hz1, hz2⟩
  clear hi hz0 hz1 hz2
  have HC : Hid (∀ j u, cs[j]? = some u → (w.alloc (.cells #[] 62)).cell? (a.add j) = some u) := by
   intro j u h
   have hj := (List.getElem?_eq_some_iff.1 h).1
   have hn0 : 0 < n := by
    rcases Nat.eq_zero_or_pos n with e | e
    ·subst e; rw [hl] at hj; omega
    ·exact e
   obtain ⟨b, off, e, hr⟩ := hs.1 hn0
   cases e
   rw [Addr.add_lit, World.cell?_alloc_lt _ _ _ (World.block_lt_of_cell? w _ (hr j u h))]
   exact hr j u h
  have HO : Hid (cs.length = n * 36 ∧ ∀ u ∈ cs, u.oneCell' = true) := ⟨hl, h1⟩
  clear hs hl h1
  go_enter Tryz.func71, Tryz.ntmps71
  go_wp2_with (at_builtin; refine wpList_append_own_at _ rfl _ _ 30 rfl w.heap.size 62 i0 (.agg (pyv p0)) 36 64 Tryz.underlying30 H.out.1 H.out.2.1 H.out.2.2.1 H.out.2.2.2 zero_p (by decide) _ 0 [] rfl (World.ownsRow_made w #[] 0 (Nat.le_refl _) (Nat.zero_le _) rfl) a n cap cs rfl HO.out.1 HC.out HO.out.2 (by unfold maxLen; omega) (by omega) (by simp) ?_; intro v' w1 hown hgrow _ _)
  go_ret
  refine ⟨v', rfl, by simpa using hown, ?_⟩
  exact ((Below.refl _ _).alloc (Nat.le_refl _) _).grown hgrow (by simp) (fun k hk => Nat.le_of_eq (Option.some.inj (show some w.heap.size = some k from hk)))

set_option maxHeartbeats 400000 in
theorem cloneH_any (ad : Option Addr) (n cap : Nat) (cs : List Value) (w : World) (hs : Src w ad n cap cs) (hl : cs.length = n * 3) (h1 : ∀ u ∈ cs, u.oneCell' = true) (hn : n ≤ 1000000) :
  Calls Tryz.prog 72 #[.slice ad n cap] w fun e w' => ∃ v, e = .returned v ∧ w'.ownsRow w.heap.size 64 3 v n cs ∧ Below w.heap.size w w' := by
 cases ad with
 | none =>
  obtain ⟨rfl, rfl⟩ := hs.2 rfl
  have hc : cs = [] := List.eq_nil_of_length_eq_zero (by simpa using hl)
  subst hc
  have hnil := fun wx => Lib.run_eql_slice_nil (P := Tryz.prog) wx 31 64 none 0 0 0 0 Tryz.underlying31
  clear hs h1
  go_enter Tryz.func72, Tryz.ntmps72
  go_wp2
  go_ret
  exact ⟨_, rfl, World.ownsRow_nil _ _ _ _, Below.refl _ _⟩
 | some a =>
  have hnil : ∀ wx, (binOp .eql 31 (.slice (some a) n cap) (.slice none 0 0)).run Tryz.prog wx = .ok (.bool false) wx := fun wx => Lib.run_eql_slice_nil (P := Tryz.prog) wx 31 64 (some a) n cap 0 0 Tryz.underlying31
  obtain ⟨i0, hi, hz0, hz1, hz2⟩ := info_parts infoH
  have H : Hid (Tryz.prog.info? 64 = some i0 ∧ i0.zero = some (.agg #[.int .i64 0, .int .i64 0, .slice none 0 0]) ∧ i0.size = 3 ∧ i0.bytes = 40) := ⟨hi, hz0, hz1, hz2⟩
  clear hi hz0 hz1 hz2
  have HC : Hid (∀ j u, cs[j]? = some u → (w.alloc (.cells #[] 64)).cell? (a.add j) = some u) := by
   intro j u h
   have hj := (List.getElem?_eq_some_iff.1 h).1
   have hn0 : 0 < n := by
    rcases Nat.eq_zero_or_pos n with e | e
    ·subst e; rw [hl] at hj; omega
    ·exact e
   obtain ⟨b, off, e, hr⟩ := hs.1 hn0
   cases e
   rw [Addr.add_lit, World.cell?_alloc_lt _ _ _ (World.block_lt_of_cell? w _ (hr j u h))]
   exact hr j u h
  have HO : Hid (cs.length = n * 3 ∧ ∀ u ∈ cs, u.oneCell' = true) := ⟨hl, h1⟩
  clear hs hl h1
  go_enter Tryz.func72, Tryz.ntmps72
  go_wp2_with (at_builtin; refine wpList_append_own_at _ rfl _ _ 31 rfl w.heap.size 64 i0 (.agg #[.int .i64 0, .int .i64 0, .slice none 0 0]) 3 40 Tryz.underlying31 H.out.1 H.out.2.1 H.out.2.2.1 H.out.2.2.2 rfl (by decide) _ 0 [] rfl (World.ownsRow_made w #[] 0 (Nat.le_refl _) (Nat.zero_le _) rfl) a n cap cs rfl HO.out.1 HC.out HO.out.2 (by unfold maxLen; omega) (by omega) (by simp) ?_; intro v' w1 hown hgrow _ _)
  go_ret
  refine ⟨v', rfl, by simpa using hown, ?_⟩
  exact ((Below.refl _ _).alloc (Nat.le_refl _) _).grown hgrow (by simp) (fun k hk => Nat.le_of_eq (Option.some.inj (show some w.heap.size = some k from hk)))

set_option maxHeartbeats 400000 in
theorem cloneI_any (ad : Option Addr) (n cap : Nat) (cs : List Value) (w : World) (hs : Src w ad n cap cs) (hl : cs.length = n * 1) (h1 : ∀ u ∈ cs, u.oneCell' = true) (hn : n ≤ 1000000) :
  Calls Tryz.prog 90 #[.slice ad n cap] w fun e w' => ∃ v, e = .returned v ∧ w'.ownsRow w.heap.size 3 1 v n cs ∧ Below w.heap.size w w' := by
 cases ad with
 | none =>
  obtain ⟨rfl, rfl⟩ := hs.2 rfl
  have hc : cs = [] := List.eq_nil_of_length_eq_zero (by simpa using hl)
  subst hc
  have hnil := fun wx => Lib.run_eql_slice_nil (P := Tryz.prog) wx 53 3 none 0 0 0 0 Tryz.underlying53
  clear hs h1
  go_enter Tryz.func90, Tryz.ntmps90
  go_wp2
  go_ret
  exact ⟨_, rfl, World.ownsRow_nil _ _ _ _, Below.refl _ _⟩
 | some a =>
  have hnil : ∀ wx, (binOp .eql 53 (.slice (some a) n cap) (.slice none 0 0)).run Tryz.prog wx = .ok (.bool false) wx := fun wx => Lib.run_eql_slice_nil (P := Tryz.prog) wx 53 3 (some a) n cap 0 0 Tryz.underlying53
  obtain ⟨i0, hi, hz0, hz1, hz2⟩ := info_parts infoI
  have H : Hid (Tryz.prog.info? 3 = some i0 ∧ i0.zero = some (.int .i64 0) ∧ i0.size = 1 ∧ i0.bytes = 8) := ⟨hi, hz0, hz1, hz2⟩
  clear hi hz0 hz1 hz2
  have HC : Hid (∀ j u, cs[j]? = some u → (w.alloc (.cells #[] 3)).cell? (a.add j) = some u) := by
   intro j u h
   have hj := (List.getElem?_eq_some_iff.1 h).1
   have hn0 : 0 < n := by
    rcases Nat.eq_zero_or_pos n with e | e
    ·subst e; rw [hl] at hj; omega
    ·exact e
   obtain ⟨b, off, e, hr⟩ := hs.1 hn0
   cases e
   rw [Addr.add_lit, World.cell?_alloc_lt _ _ _ (World.block_lt_of_cell? w _ (hr j u h))]
   exact hr j u h
  have HO : Hid (cs.length = n * 1 ∧ ∀ u ∈ cs, u.oneCell' = true) := ⟨hl, h1⟩
  clear hs hl h1
  go_enter Tryz.func90, Tryz.ntmps90
  go_wp2_with (at_builtin; refine wpList_append_own_at _ rfl _ _ 53 rfl w.heap.size 3 i0 (.int .i64 0) 1 8 Tryz.underlying53 H.out.1 H.out.2.1 H.out.2.2.1 H.out.2.2.2 rfl (by decide) _ 0 [] rfl (World.ownsRow_made w #[] 0 (Nat.le_refl _) (Nat.zero_le _) rfl) a n cap cs rfl HO.out.1 HC.out HO.out.2 (by unfold maxLen; omega) (by omega) (by simp) ?_; intro v' w1 hown hgrow _ _)
  go_ret
  refine ⟨v', rfl, by simpa using hown, ?_⟩
  exact ((Below.refl _ _).alloc (Nat.le_refl _) _).grown hgrow (by simp) (fun k hk => Nat.le_of_eq (Option.some.inj (show some w.heap.size = some k from hk)))
end Go.Proofs.YthmmmkldmhjogaaGreatDoor
/- A state whose rows are one's own; a hold cloned. -/
namespace Go.Proofs.YthmmmkldmhjogaaGreatDoor
open Go.RowKit

/-- A hold's keys as cells. -/
def kL (x : Hd) : List Value := (List.range x.n).map fun j => .int .i64 (x.z j)
theorem kL_length (x : Hd) : (kL x).length = x.n := by simp [kL]
theorem kL_one (x : Hd) : ∀ u ∈ kL x, u.oneCell' = true := by
 intro u hu
 simp only [kL, List.mem_map] at hu
 obtain ⟨_, _, rfl⟩ := hu
 rfl
theorem kL_at {x : Hd} {j : Nat} (h : j < x.n) : (kL x)[j]? = some (.int .i64 (x.z j)) := by simp [kL, List.getElem?_map, List.getElem?_range h]
theorem kL_src {w : World} {x : Hd} {ka : Option Addr} {kc : Nat} (h : IsAt w ka x.n x.z) (hn : ka = none → x.n = 0 ∧ kc = 0) : Src w ka x.n kc (kL x) := by
 refine ⟨fun h0 => ?_, hn⟩
 obtain ⟨b, off, e, hc⟩ := h h0
 refine ⟨b, off, e, fun j v hv => ?_⟩
 have hj : j < x.n := by have := (List.getElem?_eq_some_iff.1 hv).1; rwa [kL_length] at this
 rw [kL_at hj] at hv
 cases hv
 exact hc j hj
theorem kL_isAt {w : World} {x : Hd} {B : Nat} {ka : Option Addr} {kc : Nat} (h : w.ownsRow B 3 1 (.slice ka x.n kc) x.n (kL x)) : IsAt w ka x.n x.z := by
 intro h0
 obtain ⟨g, e, _, _, hr⟩ := own_range h h0
 exact ⟨g, 0, e, fun j hj => hr j _ (kL_at hj)⟩
theorem own_nil {w : World} {B T k n : Nat} {ad : Option Addr} {cap : Nat} {xs : List Value} (h : w.ownsRow B T k (.slice ad n cap) n xs) : n ≤ cap ∧ (ad = none → n = 0 ∧ cap = 0) := by
 obtain ⟨a, c, e, h1, h2⟩ := own_frmV h
 cases e
 exact ⟨h1, h2⟩

def pf (X : Nat → Py) : Nat → List Value := fun i => pyl (X i)
def hf (X : Nat → Hd) (A : Nat → Option Addr × Nat) : Nat → List Value := fun i => hdl (X i) (A i).1 (A i).2
theorem pf_len (X : Nat → Py) (n : Nat) : ∀ i, i < n → (pf X i).length = 36 := fun i _ => pyl_length (X i)
theorem hf_len (X : Nat → Hd) (A : Nat → Option Addr × Nat) (n : Nat) : ∀ i, i < n → (hf X A i).length = 3 := fun _ _ => rfl
theorem pf_one (X : Nat → Py) (n : Nat) : ∀ u ∈ flatL (pf X) n, u.oneCell' = true := by
 intro u hu
 obtain ⟨i, _, h⟩ := flatL_mem n hu
 exact pyl_one _ u h
theorem hf_one (X : Nat → Hd) (A : Nat → Option Addr × Nat) (n : Nat) : ∀ u ∈ flatL (hf X A) n, u.oneCell' = true := by
 intro u hu
 obtain ⟨i, _, h⟩ := flatL_mem n hu
 simp only [hf, hdl, List.mem_cons, List.not_mem_nil, or_false] at h
 rcases h with rfl | rfl | rfl <;> rfl
theorem PyAt.src {w : World} {ad : Option Addr} {n cap : Nat} {X : Nat → Py} (h : PyAt w ad n X) (hn : ad = none → n = 0 ∧ cap = 0) : Src w ad n cap (flatL (pf X) n) := by
 refine ⟨fun h0 => ?_, hn⟩
 obtain ⟨b, off, e, hr⟩ := h.at_ h0
 exact ⟨b, off, e, (flatL_range n (pf_len X n)).2 hr⟩
theorem py_of_own {w : World} {B n cap : Nat} {ad : Option Addr} {X : Nat → Py} (h : w.ownsRow B 62 36 (.slice ad n cap) n (flatL (pf X) n)) (hl : ∀ i, i < n → Zb (X i).lk) : PyAt w ad n X := by
 refine ⟨hl, fun h0 => ?_⟩
 obtain ⟨g, e, _, _, hr⟩ := own_range h h0
 exact ⟨g, 0, e, (flatL_range n (pf_len X n)).1 hr⟩
/-- Where holds that lie have their keys. -/
theorem HdAt.src {w : World} {ad : Option Addr} {n cap : Nat} {X : Nat → Hd} (h : HdAt w ad n X) (hn : ad = none → n = 0 ∧ cap = 0) :
  ∃ A : Nat → Option Addr × Nat, Src w ad n cap (flatL (hf X A) n) ∧ ∀ i, i < n → IsAt w (A i).1 (X i).n (X i).z ∧ ((A i).1 = none → (X i).n = 0 ∧ (A i).2 = 0) := by
 rcases Nat.eq_zero_or_pos n with rfl | h0
 ·exact ⟨fun _ => (none, 0), ⟨fun h => by omega, hn⟩, fun i hi => by omega⟩
 ·obtain ⟨b, off, e, hr⟩ := h.at_ h0
  have each : ∀ i, i < n → ∃ t : Option Addr × Nat, w.rangeAt b (off + i * 3) (hdl (X i) t.1 t.2) ∧ IsAt w t.1 (X i).n (X i).z ∧ (t.1 = none → (X i).n = 0 ∧ t.2 = 0) := fun i hi => by
   obtain ⟨ka, kc, h1, h2, h3⟩ := hr i hi
   exact ⟨(ka, kc), h1, h2, h3⟩
  have : ∀ i, ∃ t : Option Addr × Nat, i < n → w.rangeAt b (off + i * 3) (hdl (X i) t.1 t.2) ∧ IsAt w t.1 (X i).n (X i).z ∧ (t.1 = none → (X i).n = 0 ∧ t.2 = 0) := fun i => by
   by_cases hi : i < n
   ·obtain ⟨t, ht⟩ := each i hi
    exact ⟨t, fun _ => ht⟩
   ·exact ⟨(none, 0), fun h => absurd h hi⟩
  refine ⟨fun i => Classical.choose (this i), ⟨fun _ => ⟨b, off, e, (flatL_range n (hf_len X _ n)).2 fun i hi => (Classical.choose_spec (this i) hi).1⟩, hn⟩, fun i hi => (Classical.choose_spec (this i) hi).2⟩
/-- A state whose rows are its own, in blocks from B on. -/
structure SvOw (B : Nat) (w : World) (s : Sv) (p : Pl) (A : Nat → Option Addr × Nat) : Prop where
 lk : ∀ i, i < s.pn → Zb (s.P i).lk
 py : w.ownsRow B 62 36 (.slice p.pa s.pn p.pc) s.pn (flatL (pf s.P) s.pn)
 hd : w.ownsRow B 64 3 (.slice p.ha s.hn p.hc) s.hn (flatL (hf s.H A) s.hn)
 ks : ∀ i, i < s.hn → w.ownsRow B 3 1 (.slice (A i).1 (s.H i).n (A i).2) (s.H i).n (kL (s.H i))
theorem SvOw.hdAt {B : Nat} {w : World} {n cap : Nat} {ad : Option Addr} {H : Nat → Hd} {A : Nat → Option Addr × Nat} (hd : w.ownsRow B 64 3 (.slice ad n cap) n (flatL (hf H A) n)) (ks : ∀ i, i < n → w.ownsRow B 3 1 (.slice (A i).1 (H i).n (A i).2) (H i).n (kL (H i))) : HdAt w ad n H := by
 refine ⟨fun h0 => ?_⟩
 obtain ⟨g, e, _, _, hr⟩ := own_range hd h0
 exact ⟨g, 0, e, fun i hi => ⟨(A i).1, (A i).2, (flatL_range n (hf_len H A n)).1 hr i hi, kL_isAt (ks i hi), (own_nil (ks i hi)).2⟩⟩
theorem SvOw.at {B : Nat} {w : World} {s : Sv} {p : Pl} {A : Nat → Option Addr × Nat} (h : SvOw B w s p A) : SvAt w s p :=
 ⟨py_of_own h.py h.lk, SvOw.hdAt h.hd h.ks, (own_nil h.py).1, (own_nil h.hd).1, (own_nil h.py).2, (own_nil h.hd).2⟩
theorem SvOw.below {B : Nat} {w w' : World} {s : Sv} {p : Pl} {A : Nat → Option Addr × Nat} (h : SvOw B w s p A) (hb : Below w.heap.size w w') : SvOw B w' s p A :=
 ⟨h.lk, own_below h.py hb, own_below h.hd hb, fun i hi => own_below (h.ks i hi) hb⟩
theorem SvOw.low {B C : Nat} {w : World} {s : Sv} {p : Pl} {A : Nat → Option Addr × Nat} (h : SvOw B w s p A) (hb : C ≤ B) : SvOw C w s p A :=
 ⟨h.lk, own_low h.py hb, own_low h.hd hb, fun i hi => own_low (h.ks i hi) hb⟩

section
variable {w : World} {b : Nat} {x y z u : Value} {t : TypeId}
theorem three_set0 (h : w.heap[b]? = some (.cells #[x, y, z] t (0, 0))) : (w.setCell ⟨b, 0, none⟩ u).heap[b]? = some (.cells #[u, y, z] t (0, 0)) := heap_setCell_same w b 0 _ t u h
theorem three_set1 (h : w.heap[b]? = some (.cells #[x, y, z] t (0, 0))) : (w.setCell ⟨b, 1, none⟩ u).heap[b]? = some (.cells #[x, u, z] t (0, 0)) := heap_setCell_same w b 1 _ t u h
theorem three_set2 (h : w.heap[b]? = some (.cells #[x, y, z] t (0, 0))) : (w.setCell ⟨b, 2, none⟩ u).heap[b]? = some (.cells #[x, y, u] t (0, 0)) := heap_setCell_same w b 2 _ t u h
end
set_option maxRecDepth 100000 in
set_option maxHeartbeats 1600000 in
theorem hclone_any (x : Hd) (ka : Option Addr) (kc : Nat) (w : World) (hI : IsAt w ka x.n x.z) (hn : ka = none → x.n = 0 ∧ kc = 0) (hx : x.n ≤ 1000000) :
  Calls Tryz.prog 73 #[.agg (hdv x ka kc)] w fun e w' => ∃ ka' kc', e = .returned (.agg (hdv x ka' kc')) ∧ w'.ownsRow w.heap.size 3 1 (.slice ka' x.n kc') x.n (kL x) ∧ Below w.heap.size w w' := by
 unfold hdv
 have hb0 : Below w.heap.size w ((w.alloc (.cells #[.int .i64 x.id, .int .i64 x.am, .slice ka x.n kc] 64)).alloc (.cells #[.int .i64 0, .int .i64 0, .slice none 0 0] 64)) := ((Below.refl _ w).alloc (Nat.le_refl _) _).alloc (by simp) _
 have hsz : ((w.alloc (.cells #[.int .i64 x.id, .int .i64 x.am, .slice ka x.n kc] 64)).alloc (.cells #[.int .i64 0, .int .i64 0, .slice none 0 0] 64)).heap.size = w.heap.size + 2 := by simp
 have hr1 := heap_alloc_new (w.alloc (.cells #[.int .i64 x.id, .int .i64 x.am, .slice ka x.n kc] 64)) (.cells #[.int .i64 0, .int .i64 0, .slice none 0 0] 64)
 have hr0 : ((w.alloc (.cells #[.int .i64 x.id, .int .i64 x.am, .slice ka x.n kc] 64)).alloc (.cells #[.int .i64 0, .int .i64 0, .slice none 0 0] 64)).heap[w.heap.size]? = some (.cells #[.int .i64 x.id, .int .i64 x.am, .slice ka x.n kc] 64 (0, 0)) := by
  rw [Below.heap_alloc _ _ _ (by simp)]; exact heap_alloc_new w _
 have e1 : (w.alloc (.cells #[.int .i64 x.id, .int .i64 x.am, .slice ka x.n kc] 64)).heap.size = w.heap.size + 1 := by simp
 rw [e1] at hr1
 have hc := cloneI_any ka x.n kc (kL x) _ (kL_src (hI.below hb0) hn) (by simp [kL_length]) (kL_one x) hx
 clear hI e1
 go_enter Tryz.func73, Tryz.ntmps73
 go_wp2_with fail
 generalize (w.alloc (.cells #[.int .i64 x.id, .int .i64 x.am, .slice ka x.n kc] 64)).alloc (.cells #[.int .i64 0, .int .i64 0, .slice none 0 0] 64) = W0 at *
 refine hc.mono ?_
 rintro e w1 ⟨v, rfl, hO, hb1⟩
 obtain ⟨ka', kc', rfl, _, _⟩ := own_frmV hO
 have k0 : w1.heap[w.heap.size]? = some (.cells #[.int .i64 x.id, .int .i64 x.am, .slice ka x.n kc] 64 (0, 0)) := by rw [hb1.block _ (by omega)]; exact hr0
 have k1 : w1.heap[w.heap.size + 1]? = some (.cells #[.int .i64 0, .int .i64 0, .slice none 0 0] 64 (0, 0)) := by rw [hb1.block _ (by omega)]; exact hr1
 have c0 : w1.cell? ⟨w.heap.size, 0, none⟩ = some (.int .i64 x.id) := by rw [cell_of_row _ _ 0 _ _ _ k0]; rfl
 have c1 : w1.cell? ⟨w.heap.size, 1, none⟩ = some (.int .i64 x.am) := by rw [cell_of_row _ _ 1 _ _ _ k0]; rfl
 have c2 : w1.cell? ⟨w.heap.size, 2, none⟩ = some (.slice ka x.n kc) := by rw [cell_of_row _ _ 2 _ _ _ k0]; rfl
 have f2 : ∀ o, w1.frozen? ⟨w.heap.size, o, none⟩ = false := fun o => frozen_of_row _ _ o _ _ k0
 have d0 : w1.cell? ⟨w.heap.size + 1, 0, none⟩ = some (.int .i64 0) := by rw [cell_of_row _ _ 0 _ _ _ k1]; rfl
 have d1 : w1.cell? ⟨w.heap.size + 1, 1, none⟩ = some (.int .i64 0) := by rw [cell_of_row _ _ 1 _ _ _ k1]; rfl
 have d2 : w1.cell? ⟨w.heap.size + 1, 2, none⟩ = some (.slice none 0 0) := by rw [cell_of_row _ _ 2 _ _ _ k1]; rfl
 have g2 : ∀ o, w1.frozen? ⟨w.heap.size + 1, o, none⟩ = false := fun o => frozen_of_row _ _ o _ _ k1
 go_wp2
 have hE : ((((w1.setCell ⟨w.heap.size, 2, none⟩ (.slice ka' x.n kc')).setCell ⟨w.heap.size + 1, 0, none⟩ (.int .i64 x.id)).setCell ⟨w.heap.size + 1, 1, none⟩ (.int .i64 x.am)).setCell ⟨w.heap.size + 1, 2, none⟩ (.slice ka' x.n kc')).heap[w.heap.size + 1]? = some (.cells #[.int .i64 x.id, .int .i64 x.am, .slice ka' x.n kc'] 64 (0, 0)) :=
  three_set2 (three_set1 (three_set0 (by rw [Below.heap_setCell _ _ _ _ (by show w.heap.size + 1 ≠ w.heap.size; omega)]; exact k1)))
 refine bodyPost_ret (results_cell_row Tryz.results73 _ _ (w.heap.size + 1) 64 _ (0, 0) _ rfl hE Tryz.underlying64 rfl szH) rfl ⟨ka', kc', rfl, ?_, ?_⟩
 ·refine own_keep (own_low hO (by omega)) fun g e => ?_
  have := (hO.lt g e).1
  rw [Below.heap_setCell _ _ _ _ (by show g ≠ w.heap.size + 1; omega), Below.heap_setCell _ _ _ _ (by show g ≠ w.heap.size + 1; omega), Below.heap_setCell _ _ _ _ (by show g ≠ w.heap.size + 1; omega), Below.heap_setCell _ _ _ _ (by show g ≠ w.heap.size; omega)]
 ·exact ((((hb0.trans (hb1.mono (by omega))).setCell (Nat.le_refl _) _).setCell (by show w.heap.size ≤ w.heap.size + 1; omega) _).setCell (by show w.heap.size ≤ w.heap.size + 1; omega) _).setCell (by show w.heap.size ≤ w.heap.size + 1; omega) _
end Go.Proofs.YthmmmkldmhjogaaGreatDoor
/- state.mayWait: payments that can wait together. -/
namespace Go.Proofs.YthmmmkldmhjogaaGreatDoor
open Go.RowKit

set_option maxRecDepth 100000 in
set_option maxHeartbeats 3200000 in
theorem mayWait_any (ad : Option Addr) (n cap : Nat) (X : Nat → Py) (w : World) (h : PyAt w ad n X) (hn : n ≤ 1000000) :
  Calls Tryz.prog 33 #[.slice ad n cap] w fun e w' => e = .returned (.bool (decide (PsOk X n))) ∧ Below w.heap.size w w' := by
 have HB : Hid (PyAt w ad n X) := h
 have hb0 := Below.refl w.heap.size w
 clear h
 go_enter Tryz.func33, Tryz.ntmps33
 go_wp2
 go_loopw [3, 5, 8] (fun lv _ iv wr => ∃ i : Nat, i ≤ n ∧ lv = .int .i64 (lastP X i) ∧ iv = .int .i64 i ∧ PsOk X i ∧ Below w.heap.size w wr) (fun _ _ iv _ => n + 1 - (intOf iv).toNat)
 case atStart => exact ⟨0, by omega, rfl, rfl, fun j hj => by omega, hb0⟩
 case round =>
  clear hb0
  obtain ⟨i, hi, rfl, rfl, hk, hb⟩ := hrel
  have HK : Hid (PsOk X i) := hk
  clear hk
  by_cases hlt : i < n
  ·have hlt' : (i : Int) < n := by omega
   have HLK : Hid (Zb (X i).lk) := HB.out.lk i hlt
   obtain ⟨b, off, rfl, hc⟩ := HB.out.at_ (by omega)
   have HR : Hid (wr.rangeAt b (off + i * 36) (pyl (X i))) := range_below (hc i hlt) hb
   clear hc
   have HS : Hid (lastP X i < (X i).id ∧ POne (X i) → PsOk X (i + 1)) := fun hx j hj => by
    by_cases e : j = i
    ·subst e; exact hx
    ·exact HK.out j (by omega)
   have HN : Hid (PsOk X n → lastP X i < (X i).id ∧ POne (X i)) := fun hk => hk i hlt
   have HE : Hid (lastP X (i + 1) = (X i).id) := lastP_succ X i
   clear HK
   generalize lastP X i = q at *
   obtain ⟨x, hx⟩ : ∃ x, X i = x := ⟨_, rfl⟩
   rw [hx] at HR HN HE HLK HS
   clear hx
   by_cases h1 : q < x.id
   ·have h1' : ¬ x.id ≤ q := by omega
    by_cases h2 : x.id ≤ 4294967296
    ·have h2' : ¬ 4294967296 < x.id := by omega
     by_cases h3 : x.fr = 0 ∨ x.fr = 1
     ·have hs := isSide_any x.fr
      rw [decide_eq_true h3] at hs
      by_cases h4 : 10 ≤ x.am ∧ x.am ≤ 1125899906842624
      ·have hw1 := within_any x.am 10 1125899906842624
       rw [decide_eq_true h4] at hw1
       by_cases h5 : 0 ≤ x.af ∧ x.af ≤ 1099511627776
       ·have hw2 := within_any x.af 0 1099511627776
        rw [decide_eq_true h5] at hw2
        by_cases h6 : hq x.lk nz = false
        ·have HO := HS.out ⟨h1, h2, h3, h4, h5, h6⟩
         clear h3 h4 h5 HN HS
         go_wp2_with (first | (refine wpList_load_mid rfl 62 _ rfl b (off + i * 36) rfl (pyl x) _ HR.out Tryz.underlying62 rfl (szPl _) ?_) | (refine wpList_allocP rfl rfl ?_) | (refine wpList_storeP _ szP rfl _ _ rfl wr.heap.size rfl x p0 62 rfl (heap_alloc_new wr _) ?_; intro w3 hg3 hf3; obtain ⟨c0, c1, c2, c3, cl⟩ := pbox_of hg3; have HB3 : Hid (Below wr.heap.size wr w3) := frm_new hf3; have HC : Hid (w3.rangeAt wr.heap.size 4 (bl x.lk 32)) := cl; clear hf3 cl) | fail)
         refine (hs _).mono ?_
         rintro e w4 ⟨rfl, rfl⟩
         clear hs
         go_wp2_with fail
         refine (hw1 _).mono ?_
         rintro e w5 ⟨rfl, rfl⟩
         clear hw1
         go_wp2_with fail
         refine (hw2 _).mono ?_
         rintro e w6 ⟨rfl, rfl⟩
         clear hw2
         go_wp2_with (first | (refine wpList_loadHG (by rfl) _ rfl wr.heap.size 4 rfl x.lk HC.out ?_) | (refine wpList_buildHG (by rfl) rfl ?_) | (refine wpList_eqHG (by rfl) _ _ rfl x.lk nz rfl rfl HLK.out nz_bd ?_) | fail)
         go_roundw
         case rel => exact ⟨i + 1, by omega, by rw [HE.out], by go_num, HO, hb.trans (HB3.out.mono hb.size)⟩
         case measure => simp [intOf]; omega
        ·have h6' : hq x.lk nz = true := by simpa using h6
         have HF : Hid (decide (PsOk X n) = false) := by
          show _ = _
          simp only [decide_eq_false_iff_not]
          exact fun hk => h6 (HN.out hk).2.2.2.2.2
         clear h3 h4 h5 h6 HN HS
         go_wp2_with (first | (refine wpList_load_mid rfl 62 _ rfl b (off + i * 36) rfl (pyl x) _ HR.out Tryz.underlying62 rfl (szPl _) ?_) | (refine wpList_allocP rfl rfl ?_) | (refine wpList_storeP _ szP rfl _ _ rfl wr.heap.size rfl x p0 62 rfl (heap_alloc_new wr _) ?_; intro w3 hg3 hf3; obtain ⟨c0, c1, c2, c3, cl⟩ := pbox_of hg3; have HB3 : Hid (Below wr.heap.size wr w3) := frm_new hf3; have HC : Hid (w3.rangeAt wr.heap.size 4 (bl x.lk 32)) := cl; clear hf3 cl) | fail)
         refine (hs _).mono ?_
         rintro e w4 ⟨rfl, rfl⟩
         clear hs
         go_wp2_with fail
         refine (hw1 _).mono ?_
         rintro e w5 ⟨rfl, rfl⟩
         clear hw1
         go_wp2_with fail
         refine (hw2 _).mono ?_
         rintro e w6 ⟨rfl, rfl⟩
         clear hw2
         go_wp2_with (first | (refine wpList_loadHG (by rfl) _ rfl wr.heap.size 4 rfl x.lk HC.out ?_) | (refine wpList_buildHG (by rfl) rfl ?_) | (refine wpList_eqHG (by rfl) _ _ rfl x.lk nz rfl rfl HLK.out nz_bd ?_) | fail)
         go_ret
         exact ⟨by rw [HF.out]; rfl, hb.trans (HB3.out.mono hb.size)⟩
       ·have hw2 := within_any x.af 0 1099511627776
        rw [decide_eq_false h5] at hw2
        have HF : Hid (decide (PsOk X n) = false) := by
         show _ = _
         simp only [decide_eq_false_iff_not]
         exact fun hk => h5 (HN.out hk).2.2.2.2.1
        clear h3 h4 h5 HN HS
        go_wp2_with (first | (refine wpList_load_mid rfl 62 _ rfl b (off + i * 36) rfl (pyl x) _ HR.out Tryz.underlying62 rfl (szPl _) ?_) | (refine wpList_allocP rfl rfl ?_) | (refine wpList_storeP _ szP rfl _ _ rfl wr.heap.size rfl x p0 62 rfl (heap_alloc_new wr _) ?_; intro w3 hg3 hf3; obtain ⟨c0, c1, c2, c3, cl⟩ := pbox_of hg3; have HB3 : Hid (Below wr.heap.size wr w3) := frm_new hf3; have HC : Hid (w3.rangeAt wr.heap.size 4 (bl x.lk 32)) := cl; clear hf3 cl) | fail)
        refine (hs _).mono ?_
        rintro e w4 ⟨rfl, rfl⟩
        clear hs
        go_wp2_with fail
        refine (hw1 _).mono ?_
        rintro e w5 ⟨rfl, rfl⟩
        clear hw1
        go_wp2_with fail
        refine (hw2 _).mono ?_
        rintro e w6 ⟨rfl, rfl⟩
        clear hw2
        go_wp2
        go_ret
        exact ⟨by rw [HF.out]; rfl, hb.trans (HB3.out.mono hb.size)⟩
      ·have hw1 := within_any x.am 10 1125899906842624
       rw [decide_eq_false h4] at hw1
       have HF : Hid (decide (PsOk X n) = false) := by
        show _ = _
        simp only [decide_eq_false_iff_not]
        exact fun hk => h4 (HN.out hk).2.2.2.1
       clear h3 h4 HN HS
       go_wp2_with (first | (refine wpList_load_mid rfl 62 _ rfl b (off + i * 36) rfl (pyl x) _ HR.out Tryz.underlying62 rfl (szPl _) ?_) | (refine wpList_allocP rfl rfl ?_) | (refine wpList_storeP _ szP rfl _ _ rfl wr.heap.size rfl x p0 62 rfl (heap_alloc_new wr _) ?_; intro w3 hg3 hf3; obtain ⟨c0, c1, c2, c3, cl⟩ := pbox_of hg3; have HB3 : Hid (Below wr.heap.size wr w3) := frm_new hf3; have HC : Hid (w3.rangeAt wr.heap.size 4 (bl x.lk 32)) := cl; clear hf3 cl) | fail)
       refine (hs _).mono ?_
       rintro e w4 ⟨rfl, rfl⟩
       clear hs
       go_wp2_with fail
       refine (hw1 _).mono ?_
       rintro e w5 ⟨rfl, rfl⟩
       clear hw1
       go_wp2
       go_ret
       exact ⟨by rw [HF.out]; rfl, hb.trans (HB3.out.mono hb.size)⟩
     ·have hs := isSide_any x.fr
      rw [decide_eq_false h3] at hs
      have HF : Hid (decide (PsOk X n) = false) := by
       show _ = _
       simp only [decide_eq_false_iff_not]
       exact fun hk => h3 (HN.out hk).2.2.1
      clear h3 HN HS
      go_wp2_with (first | (refine wpList_load_mid rfl 62 _ rfl b (off + i * 36) rfl (pyl x) _ HR.out Tryz.underlying62 rfl (szPl _) ?_) | (refine wpList_allocP rfl rfl ?_) | (refine wpList_storeP _ szP rfl _ _ rfl wr.heap.size rfl x p0 62 rfl (heap_alloc_new wr _) ?_; intro w3 hg3 hf3; obtain ⟨c0, c1, c2, c3, cl⟩ := pbox_of hg3; have HB3 : Hid (Below wr.heap.size wr w3) := frm_new hf3; have HC : Hid (w3.rangeAt wr.heap.size 4 (bl x.lk 32)) := cl; clear hf3 cl) | fail)
      refine (hs _).mono ?_
      rintro e w4 ⟨rfl, rfl⟩
      clear hs
      go_wp2
      go_ret
      exact ⟨by rw [HF.out]; rfl, hb.trans (HB3.out.mono hb.size)⟩
    ·have h2' : 4294967296 < x.id := by omega
     have HF : Hid (decide (PsOk X n) = false) := by
      show _ = _
      simp only [decide_eq_false_iff_not]
      exact fun hk => h2 (HN.out hk).2.1
     clear HN HS
     go_wp2_with (first | (refine wpList_load_mid rfl 62 _ rfl b (off + i * 36) rfl (pyl x) _ HR.out Tryz.underlying62 rfl (szPl _) ?_) | (refine wpList_allocP rfl rfl ?_) | (refine wpList_storeP _ szP rfl _ _ rfl wr.heap.size rfl x p0 62 rfl (heap_alloc_new wr _) ?_; intro w3 hg3 hf3; obtain ⟨c0, c1, c2, c3, cl⟩ := pbox_of hg3; have HB3 : Hid (Below wr.heap.size wr w3) := frm_new hf3; have HC : Hid (w3.rangeAt wr.heap.size 4 (bl x.lk 32)) := cl; clear hf3 cl) | fail)
     go_ret
     exact ⟨by rw [HF.out]; rfl, hb.trans (HB3.out.mono hb.size)⟩
   ·have h1' : x.id ≤ q := by omega
    have HF : Hid (decide (PsOk X n) = false) := by
     show _ = _
     simp only [decide_eq_false_iff_not]
     exact fun hk => h1 (HN.out hk).1
    clear HN HS
    go_wp2_with (first | (refine wpList_load_mid rfl 62 _ rfl b (off + i * 36) rfl (pyl x) _ HR.out Tryz.underlying62 rfl (szPl _) ?_) | (refine wpList_allocP rfl rfl ?_) | (refine wpList_storeP _ szP rfl _ _ rfl wr.heap.size rfl x p0 62 rfl (heap_alloc_new wr _) ?_; intro w3 hg3 hf3; obtain ⟨c0, c1, c2, c3, cl⟩ := pbox_of hg3; have HB3 : Hid (Below wr.heap.size wr w3) := frm_new hf3; have HC : Hid (w3.rangeAt wr.heap.size 4 (bl x.lk 32)) := cl; clear hf3 cl) | fail)
    go_ret
    exact ⟨by rw [HF.out]; rfl, hb.trans (HB3.out.mono hb.size)⟩
  ·obtain rfl : i = n := by omega
   have hnn : ¬ ((i : Int) < i) := by omega
   have hk := HK.out
   go_wp2
   go_ret
   exact ⟨by simp, hb⟩
end Go.Proofs.YthmmmkldmhjogaaGreatDoor
/- state.mayBeHeld and (State).together. -/
namespace Go.Proofs.YthmmmkldmhjogaaGreatDoor
open Go.RowKit


set_option maxRecDepth 100000 in
set_option maxHeartbeats 3200000 in
theorem mayBeHeld_any (ad : Option Addr) (n cap : Nat) (X : Nat → Hd) (w : World) (h : HdAt w ad n X) (hn : n ≤ 1000000) (hk : ∀ i, i < n → (X i).n ≤ 1000000) :
  Calls Tryz.prog 34 #[.slice ad n cap] w fun e w' => e = .returned (.bool (decide (HsOk X n))) ∧ Below w.heap.size w w' := by
 have HB : Hid (HdAt w ad n X) := h
 have hb0 := Below.refl w.heap.size w
 clear h
 go_enter Tryz.func34, Tryz.ntmps34
 go_wp2
 go_loopw [3, 5, 8] (fun lv _ iv wr => ∃ i : Nat, i ≤ n ∧ lv = .int .i64 (lastH X i) ∧ iv = .int .i64 i ∧ HsOk X i ∧ Below w.heap.size w wr) (fun _ _ iv _ => n + 1 - (intOf iv).toNat)
 case atStart => exact ⟨0, by omega, rfl, rfl, fun j hj => by omega, hb0⟩
 case round =>
  clear hb0
  obtain ⟨i, hi, rfl, rfl, hk0, hb⟩ := hrel
  have HK : Hid (HsOk X i) := hk0
  clear hk0
  by_cases hlt : i < n
  ·have hlt' : (i : Int) < n := by omega
   have hkn := hk i hlt
   obtain ⟨b, off, rfl, hc⟩ := HB.out.at_ (by omega)
   obtain ⟨ka, kc, hr, hI, _⟩ := hc i hlt
   have HI : Hid (IsAt wr ka (X i).n (X i).z) := hI.below hb
   obtain ⟨d0, d1, d2⟩ := hd_cells (range_below hr hb)
   clear hc hr hI hk
   have HS : Hid (lastH X i < (X i).id ∧ HOne (X i) → HsOk X (i + 1)) := fun hx j hj => by
    by_cases e : j = i
    ·subst e; exact hx
    ·exact HK.out j (by omega)
   have HN : Hid (HsOk X n → lastH X i < (X i).id ∧ HOne (X i)) := fun hk => hk i hlt
   have HE : Hid (lastH X (i + 1) = (X i).id) := lastH_succ X i
   clear HK
   generalize lastH X i = q at *
   obtain ⟨x, hx⟩ : ∃ x, X i = x := ⟨_, rfl⟩
   rw [hx] at HN HE HS HI d0 d1 d2 hkn
   clear hx
   have hbn : Below wr.heap.size wr (wr.alloc (.cells (hdv x ka kc) 64)) := (Below.refl _ wr).alloc (Nat.le_refl _) _
   have hm := mayHold_any ka x.n kc x.z _ (HI.out.below hbn) hkn
   have HBN : Hid (Below w.heap.size w (wr.alloc (.cells (hdv x ka kc) 64))) := hb.trans (hbn.mono hb.size)
   clear hbn HI
   unfold hdv at HBN hm
   by_cases h1 : q < x.id
   ·have h1' : ¬ x.id ≤ q := by omega
    by_cases h2 : x.id ≤ 4294967296
    ·have h2' : ¬ 4294967296 < x.id := by omega
     by_cases h3 : 10 ≤ x.am ∧ x.am ≤ 1125899906842624
     ·have hw1 := within_any x.am 10 1125899906842624
      rw [decide_eq_true h3] at hw1
      by_cases h4 : KOk x.z x.n ∧ 0 < x.n
      ·rw [decide_eq_true h4] at hm
       have HO := HS.out ⟨h1, h2, h3, h4⟩
       clear h3 h4 HN HS
       go_wp2_with fail
       refine (hw1 _).mono ?_
       rintro e w5 ⟨rfl, rfl⟩
       clear hw1
       go_wp2_with fail
       refine hm.mono ?_
       rintro e w6 ⟨rfl, hb6⟩
       have hb7 := HBN.out.trans (hb6.mono HBN.out.size)
       have c0 : w6.cell? ⟨wr.heap.size, 0, none⟩ = some (.int .i64 x.id) := by
        rw [hb6.cell (p := ⟨wr.heap.size, 0, none⟩) (by simp)]; simp
       clear hb6 hm d0 d1 d2
       go_wp2
       go_roundw
       case rel => exact ⟨i + 1, by omega, by rw [HE.out], by go_num, HO, hb7⟩
       case measure => simp [intOf]; omega
      ·rw [decide_eq_false h4] at hm
       have HF : Hid (decide (HsOk X n) = false) := by
        show _ = _
        simp only [decide_eq_false_iff_not]
        exact fun hk => h4 (HN.out hk).2.2.2
       clear h3 h4 HN HS
       go_wp2_with fail
       refine (hw1 _).mono ?_
       rintro e w5 ⟨rfl, rfl⟩
       clear hw1
       go_wp2_with fail
       refine hm.mono ?_
       rintro e w6 ⟨rfl, hb6⟩
       have hb7 := HBN.out.trans (hb6.mono HBN.out.size)
       clear hb6 hm d0 d1 d2
       go_wp2
       go_ret
       exact ⟨by rw [HF.out]; rfl, hb7⟩
     ·have hw1 := within_any x.am 10 1125899906842624
      rw [decide_eq_false h3] at hw1
      have HF : Hid (decide (HsOk X n) = false) := by
       show _ = _
       simp only [decide_eq_false_iff_not]
       exact fun hk => h3 (HN.out hk).2.2.1
      clear h3 HN HS hm
      go_wp2_with fail
      refine (hw1 _).mono ?_
      rintro e w5 ⟨rfl, rfl⟩
      clear hw1
      go_wp2
      go_ret
      exact ⟨by rw [HF.out]; rfl, HBN.out⟩
    ·have h2' : 4294967296 < x.id := by omega
     have HF : Hid (decide (HsOk X n) = false) := by
      show _ = _
      simp only [decide_eq_false_iff_not]
      exact fun hk => h2 (HN.out hk).2.1
     clear HN HS hm
     go_wp2
     go_ret
     exact ⟨by rw [HF.out]; rfl, HBN.out⟩
   ·have h1' : x.id ≤ q := by omega
    have HF : Hid (decide (HsOk X n) = false) := by
     show _ = _
     simp only [decide_eq_false_iff_not]
     exact fun hk => h1 (HN.out hk).1
    clear HN HS hm
    go_wp2
    go_ret
    exact ⟨by rw [HF.out]; rfl, HBN.out⟩
  ·obtain rfl : i = n := by omega
   have hnn : ¬ ((i : Int) < i) := by omega
   have hk := HK.out
   go_wp2
   go_ret
   exact ⟨by simp, hb⟩
end Go.Proofs.YthmmmkldmhjogaaGreatDoor
/- (State).together. -/
namespace Go.Proofs.YthmmmkldmhjogaaGreatDoor
open Go.RowKit

theorem sumP_pre {X : Nat → Py} {n : Nat} (h : PsOk X n) (hn : n ≤ 8) : ∀ i, i ≤ n → 0 ≤ sumP X i ∧ sumP X i ≤ 9007199254740992 := fun i hi => by
 have := sumP_bd X i (fun j hj => h j (by omega))
 omega
theorem sumH_pre {X : Nat → Hd} {n : Nat} (h : HsOk X n) (hn : n ≤ 8) : ∀ i, i ≤ n → 0 ≤ sumH X i ∧ sumH X i ≤ 9007199254740992 := fun i hi => by
 have := sumH_bd X i (fun j hj => h j (by omega))
 omega

set_option maxRecDepth 100000 in
set_option maxHeartbeats 3200000 in
theorem together_any (s : Sv) (p : Pl) (w : World) (h : SvAt w s p) (h1 : SNum s) (h2 : SRows s) :
  Calls Tryz.prog 35 #[.agg (svv s p)] w fun e w' => e = .returned (.int .i64 (tot s)) ∧ Below w.heap.size w w' := by
 obtain ⟨nu, a, b, pn, P, hn, H⟩ := s
 obtain ⟨pa, pc, ha, hc⟩ := p
 obtain ⟨py, hd, _, _, _, _⟩ := h
 simp only at py hd
 have HT : Hid (tot ⟨nu, a, b, pn, P, hn, H⟩ = a + b + sumP P pn + sumH H hn) := rfl
 unfold svv
 simp only
 have hab : (0 ≤ a ∧ a ≤ 1125899906842624) ∧ (0 ≤ b ∧ b ≤ 1125899906842624) := ⟨h1.2.1, h1.2.2⟩
 have hp8 : pn + hn ≤ 8 := h2.1
 have HP : Hid (∀ i, i ≤ pn → 0 ≤ sumP P i ∧ sumP P i ≤ 9007199254740992) := sumP_pre h2.2.1 (by omega)
 have HH : Hid (∀ i, i ≤ hn → 0 ≤ sumH H i ∧ sumH H i ≤ 9007199254740992) := sumH_pre h2.2.2 (by omega)
 clear h1 h2
 have hb0 : Below w.heap.size w (w.alloc (.cells #[.int .i64 nu, .int .i64 a, .int .i64 b, .slice pa pn pc, .slice ha hn hc] 33)) := (Below.refl _ w).alloc (Nat.le_refl _) _
 have HPY : Hid (PyAt (w.alloc (.cells #[.int .i64 nu, .int .i64 a, .int .i64 b, .slice pa pn pc, .slice ha hn hc] 33)) pa pn P) := py.below hb0
 have HHD : Hid (HdAt (w.alloc (.cells #[.int .i64 nu, .int .i64 a, .int .i64 b, .slice pa pn pc, .slice ha hn hc] 33)) ha hn H) := hd.below hb0
 clear py hd
 have hr0 := heap_alloc_new w (.cells #[.int .i64 nu, .int .i64 a, .int .i64 b, .slice pa pn pc, .slice ha hn hc] 33)
 go_enter Tryz.func35, Tryz.ntmps35
 go_wp2
 generalize w.alloc (.cells #[.int .i64 nu, .int .i64 a, .int .i64 b, .slice pa pn pc, .slice ha hn hc] 33) = W0 at *
 have hl0 := lt_of_block hr0
 have HB0 : Hid (Below w.heap.size w W0) := hb0
 have hs0 := hb0.size
 have hbr : Below W0.heap.size W0 W0 := Below.refl _ _
 have eab : wrap64 (a + b) = a + b + sumP P 0 := by simp [sumP, wrap64]; omega
 clear hb0
 go_loopw [3, 5, 18] (fun sv _ iv wr => ∃ i : Nat, i ≤ pn ∧ sv = .int .i64 (a + b + sumP P i) ∧ iv = .int .i64 i ∧ Below W0.heap.size W0 wr) (fun _ _ iv _ => pn + 1 - (intOf iv).toNat)
 case atStart => exact ⟨0, by omega, by first | rw [eab] | (simp [sumP]), rfl, hbr⟩
 case round =>
  clear hbr eab
  obtain ⟨i, hi, rfl, rfl, hb⟩ := hrel
  by_cases hlt : i < pn
  ·have hlt' : (i : Int) < pn := by omega
   obtain ⟨bl0, off, rfl, hc0⟩ := HPY.out.at_ (by omega)
   have HR : Hid (wr.rangeAt bl0 (off + i * 36) (pyl (P i))) := range_below (hc0 i hlt) hb
   have b1 := HP.out i (by omega)
   have b2 := HP.out (i + 1) (by omega)
   have HE : Hid (sumP P (i + 1) = sumP P i + (P i).am) := rfl
   have b2' : 0 ≤ sumP P i + (P i).am ∧ sumP P i + (P i).am ≤ 9007199254740992 := b2
   clear b2 hc0
   have HW : Hid (a + b + sumP P i + (P i).am = a + b + sumP P (i + 1)) := by show _ = _; rw [HE.out]; omega
   generalize sumP P i = q at *
   obtain ⟨x, hx⟩ : ∃ x, P i = x := ⟨_, rfl⟩
   rw [hx] at HR HE b2' HW
   clear hx
   go_wp2_with (first | (refine wpList_load_mid rfl 62 _ rfl bl0 (off + i * 36) rfl (pyl x) _ HR.out Tryz.underlying62 rfl (szPl _) ?_) | (refine wpList_allocP rfl rfl ?_) | (refine wpList_storeP _ szP rfl _ _ rfl wr.heap.size rfl x p0 62 rfl (heap_alloc_new wr _) ?_; intro w3 hg3 hf3; have c2 := (pbox_of hg3).c2; have HB3 : Hid (Below wr.heap.size wr w3) := frm_new hf3; clear hf3 hg3) | fail)
   have ew : wrap64 (a + b + q + x.am) = a + b + q + x.am := by simp [wrap64]; omega
   go_roundw
   case rel => exact ⟨i + 1, by omega, by first | rw [HW.out] | (rw [ew, HW.out]) | (rw [← HW.out]), by go_num, hb.trans (HB3.out.mono hb.size)⟩
   case measure => simp [intOf]; omega
  ·obtain rfl : i = pn := by omega
   have hnn : ¬ ((i : Int) < i) := by omega
   have hrb : wr.heap[w.heap.size]? = some (.cells #[.int .i64 nu, .int .i64 a, .int .i64 b, .slice pa i pc, .slice ha hn hc] 33 (0, 0)) := by rw [hb.block _ hl0]; exact hr0
   have c4 : wr.cell? ⟨w.heap.size, 4, none⟩ = some (.slice ha hn hc) := by rw [cell_of_row wr _ 4 _ _ _ hrb]; rfl
   have HB1 : Hid (Below W0.heap.size W0 wr) := hb
   have HHD1 : Hid (HdAt wr ha hn H) := HHD.out.below hb
   have b1 := HP.out i (by omega)
   have hbr : Below wr.heap.size wr wr := Below.refl _ _
   have HQ : Hid (tot ⟨nu, a, b, i, P, hn, H⟩ = a + b + sumP P i + sumH H hn) := HT.out
   generalize sumP P i = q at *
   have e0 : Hid (a + b + q = a + b + q + sumH H 0) := by show _ = _; simp [sumH]
   clear hb hrb HT HP HPY hr0
   generalize wr = wo at *
   go_wp2
   go_loopw [3, 7, 30] (fun sv _ iv wr => ∃ j : Nat, j ≤ hn ∧ sv = .int .i64 (a + b + q + sumH H j) ∧ iv = .int .i64 j ∧ Below wo.heap.size wo wr) (fun _ _ iv _ => hn + 1 - (intOf iv).toNat)
   case atStart => exact ⟨0, by omega, by rw [← e0.out], rfl, hbr⟩
   case round =>
    clear hbr e0
    obtain ⟨j, hj, rfl, rfl, hb⟩ := hrel
    by_cases hlt : j < hn
    ·have hlt' : (j : Int) < hn := by omega
     obtain ⟨bl0, off, rfl, hc0⟩ := HHD1.out.at_ (by omega)
     obtain ⟨ka, kc, hr, _, _⟩ := hc0 j hlt
     obtain ⟨d0, d1, d2⟩ := hd_cells (range_below hr hb)
     have b3 := HH.out j (by omega)
     have b2 := HH.out (j + 1) (by omega)
     have HE : Hid (sumH H (j + 1) = sumH H j + (H j).am) := rfl
     have b2' : 0 ≤ sumH H j + (H j).am ∧ sumH H j + (H j).am ≤ 9007199254740992 := b2
     clear b2 hc0 hr
     have HW : Hid (a + b + q + sumH H j + (H j).am = a + b + q + sumH H (j + 1)) := by show _ = _; rw [HE.out]; omega
     generalize sumH H j = r at *
     obtain ⟨x, hx⟩ : ∃ x, H j = x := ⟨_, rfl⟩
     rw [hx] at HE b2' HW d0 d1 d2
     clear hx
     have hb' := hb.alloc hb.size (.cells #[.int .i64 x.id, .int .i64 x.am, .slice ka x.n kc] 64)
     have ew : wrap64 (a + b + q + r + x.am) = a + b + q + r + x.am := by simp [wrap64]; omega
     go_wp2
     go_roundw
     case rel => exact ⟨j + 1, by omega, by first | rw [HW.out] | (rw [ew, HW.out]) | (rw [← HW.out]), by go_num, hb'⟩
     case measure => simp [intOf]; omega
    ·obtain rfl : j = hn := by omega
     have hnn : ¬ ((j : Int) < j) := by omega
     go_wp2
     go_ret
     refine ⟨by rw [HQ.out]; rfl, ?_⟩
     exact (HB0.out.trans (HB1.out.mono hs0)).trans (hb.mono (by have := HB1.out.size; omega))
end Go.Proofs.YthmmmkldmhjogaaGreatDoor
