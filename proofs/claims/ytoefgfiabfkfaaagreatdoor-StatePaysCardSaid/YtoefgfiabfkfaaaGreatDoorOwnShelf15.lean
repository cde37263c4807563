/- state.Check and what it calls. -/
import Derived.Test.YtoefgfiabfkfaaaGreatDoorOwnShelf14
namespace Go.Proofs.YtoefgfiabfkfaaaGreatDoor
open Go.RowKit

theorem within_any (n l m : Int) (w : World) :
  Calls Tryz.prog 44 #[.int .i64 n, .int .i64 l, .int .i64 m] w fun e w' => e = .returned (.bool (decide (l ≤ n ∧ n ≤ m))) ∧ w' = w := by
 by_cases h : l ≤ n
 ·go_enter Tryz.func44, Tryz.ntmps44
  go_wp2
  go_ret
  simp [h]
 ·have e : decide (l ≤ n ∧ n ≤ m) = false := by simp; omega
  rw [e]
  go_enter Tryz.func44, Tryz.ntmps44
  go_wp2
  go_ret
  simp
theorem isSide_any (n : Int) (w : World) :
  Calls Tryz.prog 39 #[.int .i64 n] w fun e w' => e = .returned (.bool (decide (n = 0 ∨ n = 1))) ∧ w' = w := by
 by_cases h : n = 0
 ·subst h
  go_enter Tryz.func39, Tryz.ntmps39
  go_wp2
  go_ret
  simp
 ·have e : decide (n = 0 ∨ n = 1) = decide (n = 1) := by simp [h]
  have e0 : (n == 0) = false := by simp [h]
  rw [e]
  go_enter Tryz.func39, Tryz.ntmps39
  go_wp2
  go_ret
  exact ⟨rfl, rfl⟩
theorem slots_any (s : Sv) (p : Pl) (w : World) (hs : s.pn + s.hn ≤ 1000000) :
  Calls Tryz.prog 43 #[.agg (svv s p)] w fun e w' => e = .returned (.int .i64 ((s.pn + s.hn : Nat) : Int)) ∧ Below w.heap.size w w' := by
 unfold svv
 have hb0 : Below w.heap.size w (w.alloc (.cells (svv s p) 37)) := (Below.refl _ w).alloc (Nat.le_refl _) _
 unfold svv at hb0
 go_enter Tryz.func43, Tryz.ntmps43
 go_wp2
 go_ret
 exact ⟨by go_num, hb0⟩

set_option maxHeartbeats 800000 in
theorem mayHold_any (ka : Option Addr) (n kc : Nat) (z : Nat → Int) (w : World) (h : IsAt w ka n z) (hn : n ≤ 1000000) :
  Calls Tryz.prog 87 #[.slice ka n kc] w fun e w' => e = .returned (.bool (decide (KOk z n ∧ 0 < n))) ∧ Below w.heap.size w w' := by
 have HI : Hid (IsAt w ka n z) := h
 have hb0 := Below.refl w.heap.size w
 clear h
 go_enter Tryz.func87, Tryz.ntmps87
 go_wp2
 go_loopw [3, 5, 8] (fun lv kv iv wr => ∃ i : Nat, i ≤ n ∧ lv = .int .i64 (lastK z i) ∧ iv = .int .i64 i ∧ KOk z i ∧ Below w.heap.size w wr) (fun _ _ iv _ => n + 1 - (intOf iv).toNat)
 case atStart => exact ⟨0, by omega, rfl, rfl, fun j hj => by omega, hb0⟩
 case round =>
  clear hb0
  obtain ⟨i, hi, rfl, rfl, hk, hb⟩ := hrel
  have HK : Hid (KOk z i) := hk
  clear hk
  by_cases hlt : i < n
  ·have hlt' : (i : Int) < n := by omega
   obtain ⟨b, off, rfl, hc⟩ := HI.out (by omega)
   have hci : wr.cell? ⟨b, off + i, none⟩ = some (.int .i64 (z i)) := by
    have := hc i hlt
    rw [hb.cell (p := ⟨b, off + i, none⟩) (World.block_lt_of_cell? w ⟨b, off + i, none⟩ this)]; exact this
   clear hc
   by_cases h1 : lastK z i < z i
   ·have h1' : ¬ z i ≤ lastK z i := by omega
    by_cases h2 : z i < 16
    ·have h2' : ¬ 16 ≤ z i := by omega
     have HN : Hid (KOk z (i + 1)) := fun j hj => by
      by_cases e : j = i
      ·subst e; exact ⟨h1, h2⟩
      ·exact HK.out j (by omega)
     have e1 := lastK_succ z i
     generalize lastK z i = q at *
     go_wp2
     go_roundw
     case rel => exact ⟨i + 1, by omega, by rw [e1], by go_num, HN.out, hb⟩
     case measure => simp [intOf]; omega
    ·have h2' : 16 ≤ z i := by omega
     have HN : Hid (¬ KOk z n) := fun hk => h2 (hk i hlt).2
     generalize lastK z i = q at *
     go_wp2
     go_ret
     exact ⟨by simp [HN.out], hb⟩
   ·have h1' : z i ≤ lastK z i := by omega
    have HN : Hid (¬ KOk z n) := fun hk => h1 (hk i hlt).1
    generalize lastK z i = q at *
    go_wp2
    go_ret
    exact ⟨by simp [HN.out], hb⟩
  ·obtain rfl : i = n := by omega
   have hnn : ¬ ((i : Int) < i) := by omega
   have hk := HK.out
   go_wp2
   go_ret
   exact ⟨by simp, hb⟩

/-- A hold of noughts, and a payment. -/
def p0 : Py := ⟨0, 0, 0, 0, nz⟩
theorem run_allocP (w : World) : (Instr.alloc 43 true (.tuple #[])).run Tryz.prog w = .ok (.pointer (some ⟨w.heap.size, 0, none⟩)) (w.alloc (.cells (pyv p0) 43)) := by kernel_rfl
section
variable {ops : Array Oper} {rest : List Oper} {o : Oper} {a : Act} {w : World} {Q : Exit → Act → World → Prop}
theorem wpList_allocP (hgd : o.guard = none) (ho : o.op = .alloc 43)
  (h : wpList Tryz.prog ops Q rest (a.put o.dst (.pointer (some ⟨w.heap.size, 0, none⟩))) (w.alloc (.cells (pyv p0) 43))) : wpList Tryz.prog ops Q (o :: rest) a w := by
 refine wpList_plain hgd fun K hK => ?_
 unfold Oper.wp execOp
 simp only [ho, Sem.run_bind, run_allocP, Result.andThen]
 exact hK _ _ h
/-- A whole payment stored into a variable of its own. -/
theorem wpList_storeP (T : TypeId) (hT : (Tryz.prog.info? T).map (·.size) = some 36) (hgd : o.guard = none) (x y : Operand) (ho : o.op = .store T x y) (g : Nat) (hx : a.eval x = .pointer (some ⟨g, 0, none⟩)) (v u : Py) (t : TypeId) (hy : a.eval y = .agg (pyv v)) (hg : w.heap[g]? = some (.cells (pyv u) t (0, 0)))
  (h : ∀ w', w'.heap[g]? = some (.cells (pyv v) t (0, 0)) → Frm [g] w w' → wpList Tryz.prog ops Q rest (a.put o.dst undef) w') : wpList Tryz.prog ops Q (o :: rest) a w := by
 refine wpList_store_mid hgd T x y ho g 0 (pyv v) hx hy ?_ (by rw [pyv_size]; exact hT) (pyv_one v) (h _ ?_ (setCells_frm g _ 0 w))
 ·intro j hj
  rw [pyv_size] at hj
  refine ⟨?_, ?_⟩
  ·rw [Nat.zero_add, cell_of_row w g j _ t _ hg]
   simp [pyv_size, hj]
  ·rw [Nat.zero_add]; exact frozen_of_row w g j _ t hg
 ·have := setCells_at g (pyv v).toList 0 w [] (pyv u).toList t (by simpa using hg) rfl (by simp [pyv_size])
  rw [this]
  simp [pyv_size, List.drop_eq_nil_of_le]
end
theorem frm_new {w w' : World} {o : Obj} (h : Frm [w.heap.size] (w.alloc o) w') : Below w.heap.size w w' :=
 ((Below.refl _ w).alloc (Nat.le_refl _) o).trans (h.below (by simp) (by simp))
theorem szHl (z : Nat → Int) : (Tryz.prog.info? 28).map (·.size) = some (bl z 32).length := by rw [bl_length]; exact hsz
theorem wpList_wanted {P : Program} {ops : Array Oper} {rest : List Oper} {o : Oper} {a : Act} {w : World} {Q : Exit → Act → World → Prop} (hw : Region.wanted o (yielded ops a.tmps) = true) (h : ∀ K : Act → World → Prop, (∀ a w, wpList P ops Q rest a w → K a w) → o.wp P a w K Q) : wpList P ops Q (o :: rest) a w :=
 wpList_step fun K hK => by rw [if_pos hw]; exact h K hK
theorem build_H (w : World) : (Instr.build 28 #[]).run Tryz.prog w = .ok (.agg (hv nz)) w := by kernel_rfl
section
variable {ops : Array Oper} {rest : List Oper} {o : Oper} {a : Act} {w : World} {Q : Exit → Act → World → Prop}
/-- A sum loaded, guarded or not. -/
theorem wpList_loadHG (hw : Region.wanted o (yielded ops a.tmps) = true) (x : Operand) (ho : o.op = .load 28 x) (b q : Nat) (hx : a.eval x = .pointer (some ⟨b, q, none⟩)) (z : Nat → Int) (hc : w.rangeAt b q (bl z 32))
  (h : wpList Tryz.prog ops Q rest (a.put o.dst (.agg (hv z))) w) : wpList Tryz.prog ops Q (o :: rest) a w :=
 wpList_wanted hw fun _ hK => wp_load_mid 28 x ho b q hx (bl z 32) _ hc Tryz.underlying28 rfl (szHl z) (hK _ _ h)
/-- The zero sum, guarded or not. -/
theorem wpList_buildHG (hw : Region.wanted o (yielded ops a.tmps) = true) (ho : o.op = .build 28 #[])
  (h : wpList Tryz.prog ops Q rest (a.put o.dst (.agg (hv nz))) w) : wpList Tryz.prog ops Q (o :: rest) a w :=
 wpList_wanted hw fun K hK => by
  unfold Oper.wp execOp
  simp only [ho, List.map_toArray, List.map_nil, Sem.run_bind, build_H, Result.andThen]
  exact hK _ _ h
theorem guardHs : Tryz.prog.eqGuardType Tryz.prog.depth 28 = false := by kernel_rfl
/-- Two sums held against each other, guarded or not. -/
theorem wpList_eqHG (hw : Region.wanted o (yielded ops a.tmps) = true) (x y : Operand) (ho : o.op = .binOp .eql 28 x y 28) (z u : Nat → Int) (hx : a.eval x = .agg (hv z)) (hy : a.eval y = .agg (hv u)) (hz : Zb z) (hu : Zb u)
  (h : wpList Tryz.prog ops Q rest (a.put o.dst (.bool (hq z u))) w) : wpList Tryz.prog ops Q (o :: rest) a w :=
 wpList_wanted hw fun K hK => by
  have hr : (execOp a.eval o).run Tryz.prog w = .ok (.value (.bool (hq z u))) w := by
   unfold execOp
   simp only [ho, hx, hy, Sem.run_bind, run_eqGuard_agg w .eql 28 x y _ _ guardHs, eql_hv hz hu, Result.andThen_ok, Sem.run_pure]
  unfold Oper.wp
  rw [hr]
  exact hK _ _ h
end
end Go.Proofs.YtoefgfiabfkfaaaGreatDoor
/- state.Encode's closure; a writer with blocks beside it that stay. -/
namespace Go.Proofs.YtoefgfiabfkfaaaGreatDoor
open Go.RowKit

/-- An int as a number from 0 on. -/
def u64 (n : Int) : Int := IntKind.u64.wrap n
theorem u64_bd (n : Int) : 0 ≤ u64 n ∧ u64 n ≤ 18446744073709551615 := by
 unfold u64
 simp [IntKind.wrap, IntKind.bits, IntKind.signed]
 omega
theorem u64_nat (n : Nat) (h : n ≤ 9223372036854775807) : u64 (n : Int) = n := by
 unfold u64
 simp [IntKind.wrap, IntKind.bits, IntKind.signed]
 omega
/-- Ints as they are laid. -/
def laidK (z : Nat → Int) : Nat → List Int
 | 0 => []
 | j + 1 => laidK z j ++ uB (u64 (z j))
theorem uB_len (n : Int) : (uB n).length ≤ 9 := by
 have := sz_le n
 simp [uB, dgs_length]
 omega
theorem laidK_len (z : Nat → Int) : ∀ j, (laidK z j).length ≤ 9 * j
 | 0 => by simp [laidK]
 | j + 1 => by
  have h1 := laidK_len z j
  have h2 := uB_len (u64 (z j))
  simp only [laidK, List.length_append]
  omega
theorem WrGrown.refl {w : World} {B p : Nat} {g : Option Nat} {l : List Int} (h : WrAt w B p g l) : WrGrown w w B p g l := ⟨g, h, Frm.refl _ _, .inl rfl⟩
theorem WrGrown.next {w w1 w2 : World} {B p : Nat} {g g1 : Option Nat} {l l' : List Int} (h : WrGrown w w1 B p g l) (h1 : WrAt w1 B p g1 l) (h2 : WrGrown w1 w2 B p g1 l') : WrGrown w w2 B p g l' :=
 h.trans fun g' hg' => by rw [hg'.same h1]; exact h2
theorem isAt_frm {S : List Nat} {w w' : World} {ad : Option Addr} {n : Nat} {z : Nat → Int} (h : IsAt w ad n z) (hf : Frm S w w') (ha : ∀ a, ad = some a → a.block ∉ S) : IsAt w' ad n z := by
 intro hn
 obtain ⟨b, off, e, hc⟩ := h hn
 refine ⟨b, off, e, fun j hj => ?_⟩
 have h1 := hc j hj
 rw [World.cell?_of_block (a := ⟨b, off + j, none⟩) (hf.block b (World.block_lt_of_cell? w ⟨b, off + j, none⟩ h1) (ha _ e))]
 exact h1


theorem WrAt.glt {w : World} {B p : Nat} {g : Option Nat} {l : List Int} (h : WrAt w B p g l) : ∀ k, k ∈ p :: g.toList → B ≤ k ∧ k < w.heap.size := by
 obtain ⟨v, hp, hown, hg, hB, _⟩ := h
 intro k hk
 rcases List.mem_cons.1 hk with rfl | hk
 ·exact ⟨hB, lt_of_block hp⟩
 ·subst hg
  have hk' : v.ownBlock = some k := by simpa using hk
  exact hown.lt k hk'
theorem WrAt.keep {w w' : World} {B p : Nat} {g : Option Nat} {l : List Int} (h : WrAt w B p g l) (hb : Below w.heap.size w w') : WrAt w' B p g l := by
 obtain ⟨v, hp, hown, hg, hB, hx⟩ := h
 refine ⟨v, by rw [hb.block _ (lt_of_block hp)]; exact hp, ⟨hown.1, ?_⟩, hg, hB, hx⟩
 rcases hown.2 with hn | ⟨g', cap, cur, e, hbs, hgc, rest⟩
 ·exact .inl hn
 ·exact .inr ⟨g', cap, cur, e, hbs, by rw [hb.block _ (lt_of_block hgc)]; exact hgc, rest⟩

/-- A writer made since W0, at its first new block, has laid L; what was there in W0 is as it was; K: blocks beside it that hold something. -/
structure PutL (W0 wr : World) (L : List Int) (K : List (Nat × Obj)) : Prop where
 at_ : ∃ g, WrAt wr W0.heap.size W0.heap.size g L ∧ ∀ x, x ∈ K → wr.heap[x.1]? = some x.2 ∧ x.1 ∉ W0.heap.size :: g.toList
 below : Below W0.heap.size W0 wr
theorem PutL.keep {W0 wr w' : World} {L : List Int} {K : List (Nat × Obj)} (h : PutL W0 wr L K) (hb : Below wr.heap.size wr w') : PutL W0 w' L K := by
 obtain ⟨g, hg, hk⟩ := h.at_
 exact ⟨⟨g, hg.keep hb, fun x e => ⟨by rw [hb.block _ (lt_of_block (hk x e).1)]; exact (hk x e).1, (hk x e).2⟩⟩, h.below.trans (hb.mono h.below.size)⟩
theorem PutL.sub {W0 wr : World} {L : List Int} {K K' : List (Nat × Obj)} (h : PutL W0 wr L K) (hs : ∀ x, x ∈ K' → x ∈ K) : PutL W0 wr L K' := by
 obtain ⟨g, hg, hk⟩ := h.at_
 exact ⟨⟨g, hg, fun x e => hk x (hs x e)⟩, h.below⟩
/-- One more block beside it. -/
theorem PutL.hold {W0 wr w' : World} {L : List Int} {K : List (Nat × Obj)} {o : Obj} (h : PutL W0 wr L K) (hb : Below wr.heap.size wr w') (ho : w'.heap[wr.heap.size]? = some o) : PutL W0 w' L ((wr.heap.size, o) :: K) := by
 obtain ⟨g, hg, hk⟩ := h.at_
 refine ⟨⟨g, hg.keep hb, fun x e => ?_⟩, h.below.trans (hb.mono h.below.size)⟩
 rcases List.mem_cons.1 e with rfl | e
 ·exact ⟨ho, fun hk => by have := (hg.glt _ hk).2; simp at this⟩
 ·exact ⟨by rw [hb.block _ (lt_of_block (hk x e).1)]; exact (hk x e).1, (hk x e).2⟩
theorem PutL.held {W0 wr : World} {L : List Int} {K : List (Nat × Obj)} (h : PutL W0 wr L K) {k : Nat} {o : Obj} (hm : (k, o) ∈ K) : wr.heap[k]? = some o := by
 obtain ⟨g, _, hk⟩ := h.at_
 exact (hk _ hm).1
theorem PutL.grown {W0 wr w' : World} {L L' : List Int} {g : Option Nat} {K : List (Nat × Obj)} (h : PutL W0 wr L K) (hA : WrAt wr W0.heap.size W0.heap.size g L) (hk : ∀ x, x ∈ K → wr.heap[x.1]? = some x.2 ∧ x.1 ∉ W0.heap.size :: g.toList) (hW : WrGrown wr w' W0.heap.size W0.heap.size g L') : PutL W0 w' L' K := by
 obtain ⟨g', hA', hF, hg'⟩ := hW
 refine ⟨⟨g', hA', fun x e => ?_⟩, h.below.trans (hF.below h.below.size (fun k hk => (hA.glt k hk).1))⟩
 obtain ⟨h1, h2⟩ := hk x e
 have hl := lt_of_block h1
 refine ⟨by rw [hF.block x.1 hl h2]; exact h1, ?_⟩
 rcases hg' with rfl | ⟨b, rfl, hb⟩
 ·exact h2
 ·intro hm
  rcases List.mem_cons.1 hm with e | hm
  ·exact h2 (by simp [e])
  ·have : x.1 = b := by simpa using hm
   omega

set_option maxHeartbeats 1600000 in
/-- 'lay(numbers...)', the writer's variable at q. -/
theorem lay_any (p q B : Nat) (g : Option Nat) (l : List Int) (ad : Option Addr) (n cap : Nat) (z : Nat → Int) (w : World) (hw : WrAt w B p g l) (hq : w.heap[q]? = some (.cells #[.pointer (some ⟨p, 0, none⟩)] 75 (0, 0))) (hqn : q ∉ p :: g.toList) (hl : l.length + 9 * n + 16 ≤ 140737488355328) (hI : IsAt w ad n z) (ha : 0 < n → ∀ a, ad = some a → a.block ∉ p :: g.toList) (hn : n ≤ 1000000) :
  Calls Tryz.prog 32 #[.slice ad n cap, .pointer (some ⟨q, 0, none⟩)] w fun e w' => e = .returned (.tuple #[]) ∧ WrGrown w w' B p g (l ++ laidK z n) := by
 have HI : Hid (IsAt w ad n z ∧ (0 < n → ∀ a, ad = some a → a.block ∉ p :: g.toList)) := ⟨hI, ha⟩
 have HQ : Hid (w.heap[q]? = some (.cells #[.pointer (some ⟨p, 0, none⟩)] 75 (0, 0)) ∧ q ∉ p :: g.toList) := ⟨hq, hqn⟩
 have h0 : WrGrown w w B p g (l ++ laidK z 0) := by simpa [laidK] using WrGrown.refl hw
 clear hI ha hw hq hqn
 go_enter Tryz.func32, Tryz.ntmps32
 go_wp2
 go_loopw [4, 7] (fun _ iv wr => ∃ i : Nat, i ≤ n ∧ iv = .int .i64 i ∧ WrGrown w wr B p g (l ++ laidK z i)) (fun _ iv _ => n + 1 - (intOf iv).toNat)
 case atStart => exact ⟨0, by omega, rfl, h0⟩
 case round =>
  clear h0
  obtain ⟨i, hi, rfl, hW⟩ := hrel
  have HW : Hid (WrGrown w wr B p g (l ++ laidK z i)) := hW
  clear hW
  by_cases hlt : i < n
  ·have hlt' : (i : Int) < n := by omega
   obtain ⟨g1, hA1, hF1, -⟩ := HW.out
   obtain ⟨b, off, rfl, hc⟩ := (isAt_frm HI.out.1 hF1 (HI.out.2 (by omega))) (by omega)
   have hci := hc i hlt
   have hcq : wr.cell? ⟨q, 0, none⟩ = some (.pointer (some ⟨p, 0, none⟩)) := by
    have := hF1.heap HQ.out.1 HQ.out.2
    rw [cell_of_row _ _ 0 _ _ _ this]; rfl
   have hbd := u64_bd (z i)
   have hll := laidK_len z i
   have hcall := wrUint_any p B g1 (l ++ laidK z i) (u64 (z i)) wr hA1 (by simp; omega) hbd
   have HA : Hid (WrAt wr B p g1 (l ++ laidK z i)) := hA1
   clear hc hF1 hA1
   unfold u64 at hcall
   go_wp2_with (go_at_call 33; refine hcall.mono ?_; rintro e w1 ⟨rfl, hW1⟩)
   have HN : Hid (WrGrown w w1 B p g (l ++ laidK z (i + 1))) := by
    have := HW.out.next HA.out hW1
    rw [List.append_assoc] at this
    exact this
   clear hW1 hcall
   go_roundw
   case rel => exact ⟨i + 1, by omega, by go_num, HN.out⟩
   case measure => simp [intOf]; omega
  ·obtain rfl : i = n := by omega
   have hnn : ¬ ((i : Int) < i) := by omega
   have hW := HW.out
   go_wp2
   go_end0
   exact ⟨rfl, hW⟩
/-- The same by PutL; the numbers lie in W0, or in blocks that are new. -/
theorem lay_put (W0 wr : World) (q : Nat) (L : List Int) (K : List (Nat × Obj)) (ad : Option Addr) (n cap : Nat) (z : Nat → Int) (h : PutL W0 wr L K) (hq : (q, .cells #[.pointer (some ⟨W0.heap.size, 0, none⟩)] 75 (0, 0)) ∈ K) (hl : L.length + 9 * n + 16 ≤ 140737488355328) (hI : IsAt W0 ad n z) (hn : n ≤ 1000000) :
  Calls Tryz.prog 32 #[.slice ad n cap, .pointer (some ⟨q, 0, none⟩)] wr fun e w' => e = .returned (.tuple #[]) ∧ PutL W0 w' (L ++ laidK z n) K := by
 obtain ⟨g, hg, hk0⟩ := h.at_
 refine (lay_any _ q _ g L ad n cap z wr hg (hk0 _ hq).1 (hk0 _ hq).2 hl (hI.below h.below) (fun hp a e hk => ?_) hn).mono ?_
 ·obtain ⟨b, off, e2, hc⟩ := hI hp
  rw [e2] at e
  cases e
  have h1 := World.block_lt_of_cell? W0 ⟨b, off + 0, none⟩ (hc 0 hp)
  have h2 : W0.heap.size ≤ b := (hg.glt _ hk).1
  have h3 : b < W0.heap.size := h1
  omega
 ·rintro e w' ⟨rfl, hW⟩
  exact ⟨rfl, h.grown hg hk0 hW⟩
theorem lay_new (W0 wr w1 : World) (q : Nat) (L : List Int) (K : List (Nat × Obj)) (r n cap : Nat) (z : Nat → Int) (h : PutL W0 wr L K) (hq : (q, .cells #[.pointer (some ⟨W0.heap.size, 0, none⟩)] 75 (0, 0)) ∈ K) (hb : Below wr.heap.size wr w1) (hl : L.length + 9 * n + 16 ≤ 140737488355328) (hI : IsAt w1 (some ⟨r, 0, none⟩) n z) (hr : wr.heap.size ≤ r) (hn : n ≤ 1000000) :
  Calls Tryz.prog 32 #[.slice (some ⟨r, 0, none⟩) n cap, .pointer (some ⟨q, 0, none⟩)] w1 fun e w' => e = .returned (.tuple #[]) ∧ PutL W0 w' (L ++ laidK z n) K := by
 obtain ⟨g, hg, hk0⟩ := h.at_
 have h1 := h.keep hb
 have hk1 : ∀ x, x ∈ K → w1.heap[x.1]? = some x.2 ∧ x.1 ∉ W0.heap.size :: g.toList := fun x e => ⟨by rw [hb.block _ (lt_of_block (hk0 x e).1)]; exact (hk0 x e).1, (hk0 x e).2⟩
 refine (lay_any _ q _ g L (some ⟨r, 0, none⟩) n cap z w1 (hg.keep hb) (hk1 _ hq).1 (hk1 _ hq).2 hl hI (fun _ a e hk => ?_) hn).mono ?_
 ·cases e
  have h2 : r < wr.heap.size := (hg.glt _ hk).2
  omega
 ·rintro e w' ⟨rfl, hW⟩
  exact ⟨rfl, h1.grown (hg.keep hb) hk1 hW⟩
theorem hash_put (W0 wr : World) (L : List Int) (K : List (Nat × Obj)) (z : Nat → Int) (h : PutL W0 wr L K) (hl : L.length + 32 ≤ 140737488355328) (hz : Zb z) :
  Calls Tryz.prog 34 #[.pointer (some ⟨W0.heap.size, 0, none⟩), .agg (hv z)] wr fun e w' => e = .returned (.pointer (some ⟨W0.heap.size, 0, none⟩)) ∧ PutL W0 w' (L ++ hB z) K := by
 obtain ⟨g, hg, hk0⟩ := h.at_
 refine (wrHash_any _ _ g L z wr hg hl hz).mono ?_
 rintro e w' ⟨rfl, hW⟩
 exact ⟨rfl, h.grown hg hk0 hW⟩
end Go.Proofs.YtoefgfiabfkfaaaGreatDoor
/- state.Encode. -/
namespace Go.Proofs.YtoefgfiabfkfaaaGreatDoor
open Go.RowKit

def z4 (x : Py) : Nat → Int := fun j => if j = 0 then x.id else if j = 1 then x.fr else if j = 2 then x.am else x.af
def z3 (x : Hd) : Nat → Int := fun j => if j = 0 then x.id else if j = 1 then x.am else (x.n : Int)
def z2 (a b : Int) : Nat → Int := fun j => if j = 0 then a else b
/-- A payment as it is laid. -/
def laidP (x : Py) : List Int := laidK (z4 x) 4 ++ hB x.lk
def laidPs (X : Nat → Py) : Nat → List Int
 | 0 => []
 | i + 1 => laidPs X i ++ laidP (X i)
def laidH (x : Hd) : List Int := laidK (z3 x) 3 ++ laidK x.z x.n
def laidHs (X : Nat → Hd) : Nat → List Int
 | 0 => []
 | i + 1 => laidHs X i ++ laidH (X i)
/-- A state as it is laid, up to its holds. -/
def laidA (s : Sv) : List Int := laidK (fun _ => s.nu) 1 ++ (laidK (z2 s.a s.b) 2 ++ laidK (fun _ => (s.pn : Int)) 1)
def laidS (s : Sv) : List Int := (laidA s ++ laidPs s.P s.pn ++ laidK (fun _ => (s.hn : Int)) 1) ++ laidHs s.H s.hn
theorem laidP_len (x : Py) : (laidP x).length ≤ 68 := by
 have := laidK_len (z4 x) 4
 simp only [laidP, List.length_append, hB_length]
 omega
theorem laidPs_len (X : Nat → Py) : ∀ i, (laidPs X i).length ≤ 68 * i
 | 0 => by simp [laidPs]
 | i + 1 => by
  have h1 := laidPs_len X i
  have h2 := laidP_len (X i)
  simp only [laidPs, List.length_append]
  omega
theorem laidH_len (x : Hd) : (laidH x).length ≤ 27 + 9 * x.n := by
 have := laidK_len (z3 x) 3
 have := laidK_len x.z x.n
 simp only [laidH, List.length_append]
 omega
theorem laidHs_len (X : Nat → Hd) : ∀ i, (∀ j, j < i → (X j).n ≤ 300) → (laidHs X i).length ≤ 2727 * i
 | 0, _ => by simp [laidHs]
 | i + 1, h => by
  have h1 := laidHs_len X i (fun j hj => h j (by omega))
  have h2 := laidH_len (X i)
  have h3 := h i (by omega)
  simp only [laidHs, List.length_append]
  omega
theorem laidA_len (s : Sv) : (laidA s).length ≤ 36 := by
 have h1 := laidK_len (fun _ => s.nu) 1
 have h2 := laidK_len (z2 s.a s.b) 2
 have h3 := laidK_len (fun _ => (s.pn : Int)) 1
 simp only [laidA, List.length_append]
 omega
theorem one_is (w : World) (x : Int) : IsAt (w.alloc (.cells #[.int .i64 x] 3)) (some ⟨w.heap.size, 0, none⟩) 1 (fun _ => x) := fun _ => ⟨_, _, rfl, fun j hj => by
 obtain rfl : j = 0 := by omega
 rw [cell_of_row _ _ _ _ _ _ (heap_alloc_new w _)]; rfl⟩
theorem three_is (w : World) (x : Hd) : IsAt (w.alloc (.cells #[.int .i64 x.id, .int .i64 x.am, .int .i64 (x.n : Int)] 3)) (some ⟨w.heap.size, 0, none⟩) 3 (z3 x) := fun _ => ⟨_, _, rfl, fun j hj => by
 rw [cell_of_row _ _ _ _ _ _ (heap_alloc_new w _)]
 match j, hj with
 | 0, _ => rfl
 | 1, _ => rfl
 | 2, _ => rfl⟩
theorem four_is (w : World) (x : Py) : IsAt (w.alloc (.cells #[.int .i64 x.id, .int .i64 x.fr, .int .i64 x.am, .int .i64 x.af] 3)) (some ⟨w.heap.size, 0, none⟩) 4 (z4 x) := fun _ => ⟨_, _, rfl, fun j hj => by
 rw [cell_of_row _ _ _ _ _ _ (heap_alloc_new w _)]
 match j, hj with
 | 0, _ => rfl
 | 1, _ => rfl
 | 2, _ => rfl
 | 3, _ => rfl⟩
theorem al1 (w : World) (o : Obj) : Below w.heap.size w (w.alloc o) := (Below.refl _ w).alloc (Nat.le_refl _) _

set_option maxRecDepth 100000 in
set_option maxHeartbeats 3200000 in
theorem encode_cap (s : Sv) (p : Pl) (w : World) (h : SvAt w s p) (hs : s.Small) :
  Calls Tryz.prog 14 #[.agg (svv s p)] w fun e w' => ∃ ad cap, e = .returned (.slice ad (laidS s).length cap) ∧ (laidS s).length ≤ cap ∧ SlAt w' ad (laidS s).length (fn (laidS s)) ∧ (ad = none → (laidS s).length = 0 ∧ cap = 0) ∧ Below w.heap.size w w' := by
 obtain ⟨nu, a, b, pn, P, hn, H⟩ := s
 obtain ⟨pa, pc, ha, hc⟩ := p
 obtain ⟨py, hd, _, _, _, _⟩ := h
 simp only at py hd
 have hsn : pn + hn ≤ 100 := hs.n
 have HSK : Hid (∀ i, i < hn → (H i).n ≤ 300) := hs.k
 have eg : ∀ args w, (callFunc 32 args).run Tryz.prog w = .ok (.enter 32 args) w := enters_of Tryz.func32 (by kernel_rfl) rfl
 have hb0 := al1 w (.cells #[.int .i64 nu, .int .i64 a, .int .i64 b, .slice pa pn pc, .slice ha hn hc] 37)
 have HPY : Hid (PyAt (w.alloc (.cells #[.int .i64 nu, .int .i64 a, .int .i64 b, .slice pa pn pc, .slice ha hn hc] 37)) pa pn P) := py.below hb0
 have HHD : Hid (HdAt (w.alloc (.cells #[.int .i64 nu, .int .i64 a, .int .i64 b, .slice pa pn pc, .slice ha hn hc] 37)) ha hn H) := hd.below hb0
 have hr0 := heap_alloc_new w (.cells #[.int .i64 nu, .int .i64 a, .int .i64 b, .slice pa pn pc, .slice ha hn hc] 37)
 have HLA : Hid (laidA ⟨nu, a, b, pn, P, hn, H⟩ = laidK (fun _ => nu) 1 ++ (laidK (z2 a b) 2 ++ laidK (fun _ => (pn : Int)) 1)) := rfl
 have HLS : Hid (laidS ⟨nu, a, b, pn, P, hn, H⟩ = (laidA ⟨nu, a, b, pn, P, hn, H⟩ ++ laidPs P pn ++ laidK (fun _ => (hn : Int)) 1) ++ laidHs H hn) := rfl
 have hla := laidA_len ⟨nu, a, b, pn, P, hn, H⟩
 generalize laidA ⟨nu, a, b, pn, P, hn, H⟩ = LA at *
 generalize laidS ⟨nu, a, b, pn, P, hn, H⟩ = LS at *
 clear py hd hs
 unfold svv
 simp only
 go_enter Tryz.func14, Tryz.ntmps14
 go_wp2_with fail
 generalize w.alloc (.cells #[.int .i64 nu, .int .i64 a, .int .i64 b, .slice pa pn pc, .slice ha hn hc] 37) = W0 at *
 have hl0 := lt_of_block hr0
 have HB0 : Hid (Below w.heap.size w W0) := hb0
 have HR0 : Hid (W0.heap[w.heap.size]? = some (.cells #[.int .i64 nu, .int .i64 a, .int .i64 b, .slice pa pn pc, .slice ha hn hc] 37 (0, 0))) := hr0
 have HC : Hid (∀ w', Below W0.heap.size W0 w' → w'.cell? ⟨w.heap.size, 0, none⟩ = some (.int .i64 nu) ∧ w'.cell? ⟨w.heap.size, 3, none⟩ = some (.slice pa pn pc) ∧ w'.cell? ⟨w.heap.size, 4, none⟩ = some (.slice ha hn hc)) := fun w' hb => by
  have := hb.block _ hl0
  rw [hr0] at this
  exact ⟨by rw [cell_of_row _ _ 0 _ _ _ this]; rfl, by rw [cell_of_row _ _ 3 _ _ _ this]; rfl, by rw [cell_of_row _ _ 4 _ _ _ this]; rfl⟩
 clear hb0 hr0
 refine (new_any W0).mono ?_
 rintro e w1 ⟨rfl, hw1⟩
 have hP1 : PutL W0 w1 [] [] := by
  subst hw1
  exact ⟨⟨none, new_wr W0, fun x h => by cases h⟩, al1 _ _⟩
 have hs1 : w1.heap.size = W0.heap.size + 1 := by rw [hw1]; simp
 clear hw1
 have hP2 := hP1.hold (al1 w1 (.cells #[.pointer (some ⟨W0.heap.size, 0, none⟩)] 75)) (heap_alloc_new w1 _)
 have hs2 : (w1.alloc (.cells #[.pointer (some ⟨W0.heap.size, 0, none⟩)] 75)).heap.size = W0.heap.size + 2 := by simp [hs1]
 rw [hs1] at hP2
 have HQ : Hid ((W0.heap.size + 1, Obj.cells #[.pointer (some ⟨W0.heap.size, 0, none⟩)] 75 (0, 0)) ∈ [(W0.heap.size + 1, Obj.cells #[.pointer (some ⟨W0.heap.size, 0, none⟩)] 75 (0, 0))]) := by simp [Hid]
 obtain ⟨c0, c3, c4⟩ := HC.out _ hP2.below
 have HP2 : Hid _ := hP2
 clear hP1 hP2
 go_wp2_with fail
 generalize w1.alloc (.cells #[.pointer (some ⟨W0.heap.size, 0, none⟩)] 75) = w2 at *
 generalize [(W0.heap.size + 1, Obj.cells #[.pointer (some ⟨W0.heap.size, 0, none⟩)] 75 (0, 0))] = KQ at *
 have hcall := lay_new W0 w2 (w2.alloc (.cells #[.int .i64 nu] 3)) (W0.heap.size + 1) [] KQ (W0.heap.size + 2) 1 1 (fun _ => nu) HP2.out HQ.out (al1 _ _) (by simp) (by have := one_is w2 nu; rw [hs2] at this; exact this) (by omega) (by omega)
 refine hcall.mono ?_
 rintro e w3 ⟨rfl, hP3⟩
 rw [List.nil_append] at hP3
 clear hcall HP2 c0 c3 c4 hs1 hs2
 have l1 := laidK_len (fun _ => nu) 1
 have l2 := laidK_len (z2 a b) 2
 have hI2 : IsAt W0 (some ⟨w.heap.size, 1, none⟩) 2 (z2 a b) := fun _ => ⟨_, _, rfl, fun j hj => by
  rw [cell_of_row _ _ _ _ _ _ HR0.out]
  match j, hj with
  | 0, _ => rfl
  | 1, _ => rfl⟩
 obtain ⟨c0, c3, c4⟩ := HC.out _ hP3.below
 have hcall := lay_put W0 w3 (W0.heap.size + 1) _ KQ (some ⟨w.heap.size, 1, none⟩) 2 2 (z2 a b) hP3 HQ.out (by omega) hI2 (by omega)
 clear hP3 hI2
 go_wp2_with fail
 refine hcall.mono ?_
 rintro e w4 ⟨rfl, hP4⟩
 clear hcall c0 c3 c4
 obtain ⟨c0, c3, c4⟩ := HC.out _ hP4.below
 have HP4 : Hid (PutL W0 w4 (laidK (fun _ => nu) 1 ++ laidK (z2 a b) 2) KQ) := hP4
 clear hP4
 go_wp2_with fail
 have hcall := lay_new W0 w4 (w4.alloc (.cells #[.int .i64 (pn : Int)] 3)) (W0.heap.size + 1) _ KQ w4.heap.size 1 1 (fun _ => (pn : Int)) HP4.out HQ.out (al1 _ _) (by simp only [List.length_append]; omega) (one_is w4 (pn : Int)) (Nat.le_refl _) (by omega)
 refine hcall.mono ?_
 rintro e w5 ⟨rfl, hP5⟩
 rw [List.append_assoc, ← HLA.out] at hP5
 clear hcall c0 c3 c4 HP4 HLA l1 l2
 obtain ⟨c0, c3, c4⟩ := HC.out _ hP5.below
 have HP5 : Hid (PutL W0 w5 LA KQ) := hP5
 clear hP5
 go_wp2_with fail
 clear c0 c3 c4
 have h50 : PutL W0 w5 (LA ++ laidPs P 0) KQ := by simpa [laidPs] using HP5.out
 clear HP5
 go_loopw [6, 29] (fun _ iv wr => ∃ i : Nat, i ≤ pn ∧ iv = .int .i64 i ∧ PutL W0 wr (LA ++ laidPs P i) KQ) (fun _ iv _ => pn + 1 - (intOf iv).toNat)
 case atStart => exact ⟨0, by omega, rfl, h50⟩
 case round =>
  clear h50
  obtain ⟨i, hi, rfl, hP⟩ := hrel
  have HP : Hid (PutL W0 wr (LA ++ laidPs P i) KQ) := hP
  clear hP
  have ll := laidPs_len P i
  by_cases hlt : i < pn
  ·have hlt' : (i : Int) < pn := by omega
   have HZ : Hid (Zb (P i).lk) := HPY.out.lk i hlt
   obtain ⟨bl0, off, rfl, hc0⟩ := HPY.out.at_ (by omega)
   have HR : Hid (wr.rangeAt bl0 (off + i * 36) (pyl (P i))) := range_below (hc0 i hlt) HP.out.below
   have HE : Hid (LA ++ laidPs P (i + 1) = (LA ++ laidPs P i ++ laidK (z4 (P i)) 4) ++ hB (P i).lk) := by show _ = _; simp [laidPs, laidP]
   clear hc0
   obtain ⟨x, hx⟩ : ∃ x, P i = x := ⟨_, rfl⟩
   rw [hx] at HZ HR HE
   clear hx
   obtain ⟨L, hL⟩ : ∃ L, LA ++ laidPs P i = L := ⟨_, rfl⟩
   have hlL : L.length ≤ 6836 := by rw [← hL]; simp only [List.length_append]; omega
   rw [hL] at HP HE
   clear hL ll
   go_wp2_with (first | (refine wpList_load_mid rfl 43 _ rfl bl0 (off + i * 36) rfl (pyl x) _ HR.out Tryz.underlying43 rfl (szPl _) ?_) | (refine wpList_allocP rfl rfl ?_) | (refine wpList_storeP _ szP rfl _ _ rfl wr.heap.size rfl x p0 43 rfl (heap_alloc_new wr _) ?_; intro w6 hg6 hf6; have HP6 : Hid (PutL W0 w6 L ((wr.heap.size, .cells (pyv x) 43 (0, 0)) :: KQ)) := HP.out.hold (frm_new hf6) hg6; obtain ⟨c0, c1, c2, c3, _⟩ := pbox_of hg6; clear hf6 hg6) | fail)
   have hcall := lay_new W0 w6 (w6.alloc (.cells #[.int .i64 x.id, .int .i64 x.fr, .int .i64 x.am, .int .i64 x.af] 3)) (W0.heap.size + 1) L _ w6.heap.size 4 4 (z4 x) HP6.out (List.mem_cons_of_mem _ HQ.out) (al1 _ _) (by omega) (four_is w6 x) (Nat.le_refl _) (by omega)
   refine hcall.mono ?_
   rintro e w7 ⟨rfl, hP7⟩
   clear hcall HP6 c0 c1 c2 c3
   have HCL : Hid (w7.rangeAt wr.heap.size 4 (bl x.lk 32)) := (pbox_of (hP7.held (List.mem_cons_self))).lk
   have cq : w7.cell? ⟨W0.heap.size + 1, 0, none⟩ = some (.pointer (some ⟨W0.heap.size, 0, none⟩)) := by
    rw [cell_of_row _ _ 0 _ _ _ (hP7.held (List.mem_cons_of_mem _ HQ.out))]; rfl
   have l4 := laidK_len (z4 x) 4
   have hcall := hash_put W0 w7 (L ++ laidK (z4 x) 4) _ x.lk hP7 (by simp only [List.length_append]; omega) HZ.out
   clear hP7
   go_wp2_with (first | (refine wpList_loadHG (by rfl) _ rfl wr.heap.size 4 rfl x.lk HCL.out ?_) | fail)
   refine hcall.mono ?_
   rintro e w8 ⟨rfl, hP8⟩
   have HP8 : Hid (PutL W0 w8 (LA ++ laidPs P (i + 1)) KQ) := by
    show PutL _ _ _ _
    rw [HE.out]
    exact hP8.sub (fun y hy => List.mem_cons_of_mem _ hy)
   clear hcall hP8 cq
   go_wp2
   go_roundw
   case rel => exact ⟨i + 1, by omega, by go_num, HP8.out⟩
   case measure => simp [intOf]; omega
  ·obtain rfl : i = pn := by omega
   have hnn : ¬ ((i : Int) < i) := by omega
   obtain ⟨L, hL⟩ : ∃ L, LA ++ laidPs P i = L := ⟨_, rfl⟩
   have hlL : L.length ≤ 6836 := by rw [← hL]; simp only [List.length_append]; omega
   rw [hL] at HP HLS
   clear hL ll
   obtain ⟨c0, c3, c4⟩ := HC.out _ HP.out.below
   generalize wr = wo at *
   go_wp2_with fail
   have hcall := lay_new W0 wo (wo.alloc (.cells #[.int .i64 (hn : Int)] 3)) (W0.heap.size + 1) L KQ wo.heap.size 1 1 (fun _ => (hn : Int)) HP.out HQ.out (al1 _ _) (by omega) (one_is wo (hn : Int)) (Nat.le_refl _) (by omega)
   refine hcall.mono ?_
   rintro e w6 ⟨rfl, hP6⟩
   have l1 := laidK_len (fun _ => (hn : Int)) 1
   obtain ⟨M, hM⟩ : ∃ M, L ++ laidK (fun _ => (hn : Int)) 1 = M := ⟨_, rfl⟩
   have hlM : M.length ≤ 6845 := by rw [← hM]; simp only [List.length_append]; omega
   rw [hM] at hP6 HLS
   clear hcall c0 c3 c4 HP hM l1 hlL
   obtain ⟨c0, c3, c4⟩ := HC.out _ hP6.below
   have HP6 : Hid (PutL W0 w6 M KQ) := hP6
   clear hP6
   go_wp2_with fail
   clear c0 c3 c4
   have h60 : PutL W0 w6 (M ++ laidHs H 0) KQ := by simpa [laidHs] using HP6.out
   clear HP6
   go_loopw [8, 58] (fun _ iv wr => ∃ j : Nat, j ≤ hn ∧ iv = .int .i64 j ∧ PutL W0 wr (M ++ laidHs H j) KQ) (fun _ iv _ => hn + 1 - (intOf iv).toNat)
   case atStart => exact ⟨0, by omega, rfl, h60⟩
   case round =>
    clear h60
    obtain ⟨j, hj, rfl, hP⟩ := hrel
    have HP : Hid (PutL W0 wr (M ++ laidHs H j) KQ) := hP
    clear hP
    have ll := laidHs_len H j (fun i hi => HSK.out i (by omega))
    by_cases hlt : j < hn
    ·have hlt' : (j : Int) < hn := by omega
     obtain ⟨bl0, off, rfl, hc0⟩ := HHD.out.at_ (by omega)
     obtain ⟨ka, kc, hr, hI, _⟩ := hc0 j hlt
     obtain ⟨d0, d1, d2⟩ := hd_cells (range_below hr HP.out.below)
     have HI : Hid (IsAt W0 ka (H j).n (H j).z) := hI
     have hxk := HSK.out j hlt
     have HE : Hid (M ++ laidHs H (j + 1) = (M ++ laidHs H j ++ laidK (z3 (H j)) 3) ++ laidK (H j).z (H j).n) := by show _ = _; simp [laidHs, laidH]
     clear hc0 hr hI
     obtain ⟨x, hx⟩ : ∃ x, H j = x := ⟨_, rfl⟩
     rw [hx] at HI HE d0 d1 d2 hxk
     clear hx
     obtain ⟨L, hL⟩ : ∃ L, M ++ laidHs H j = L := ⟨_, rfl⟩
     have hlL : L.length ≤ 279545 := by rw [← hL]; simp only [List.length_append]; omega
     rw [hL] at HP HE
     clear hL ll
     have hb7 := al1 wr (.cells #[.int .i64 x.id, .int .i64 x.am, .slice ka x.n kc] 58)
     have hP7 := HP.out.hold hb7 (heap_alloc_new wr _)
     have HP7 : Hid _ := hP7
     clear hb7 hP7
     go_wp2_with fail
     have hsz7 : (wr.alloc (.cells #[.int .i64 x.id, .int .i64 x.am, .slice ka x.n kc] 58)).heap.size = wr.heap.size + 1 := by simp
     generalize wr.alloc (.cells #[.int .i64 x.id, .int .i64 x.am, .slice ka x.n kc] 58) = w7 at *
     have h3 := three_is w7 x
     rw [hsz7] at h3
     have hcall := lay_new W0 w7 (w7.alloc (.cells #[.int .i64 x.id, .int .i64 x.am, .int .i64 (x.n : Int)] 3)) (W0.heap.size + 1) L _ (wr.heap.size + 1) 3 3 (z3 x) HP7.out (List.mem_cons_of_mem _ HQ.out) (al1 _ _) (by omega) h3 (by omega) (by omega)
     refine hcall.mono ?_
     rintro e w8 ⟨rfl, hP8⟩
     clear hcall HP7 d0 d1 d2 h3 hsz7
     have d2 : w8.cell? ⟨wr.heap.size, 2, none⟩ = some (.slice ka x.n kc) := by rw [cell_of_row _ _ 2 _ _ _ (hP8.held List.mem_cons_self)]; rfl
     have l3 := laidK_len (z3 x) 3
     have hcall := lay_put W0 w8 (W0.heap.size + 1) (L ++ laidK (z3 x) 3) _ ka x.n kc x.z hP8 (List.mem_cons_of_mem _ HQ.out) (by simp only [List.length_append]; omega) HI.out (by omega)
     clear hP8
     go_wp2_with fail
     refine hcall.mono ?_
     rintro e w9 ⟨rfl, hP9⟩
     have HP9 : Hid (PutL W0 w9 (M ++ laidHs H (j + 1)) KQ) := by
      show PutL _ _ _ _
      rw [HE.out]
      exact hP9.sub (fun y hy => List.mem_cons_of_mem _ hy)
     clear hcall hP9 d2
     go_wp2
     go_roundw
     case rel => exact ⟨j + 1, by omega, by go_num, HP9.out⟩
     case measure => simp [intOf]; omega
    ·obtain rfl : j = hn := by omega
     have hnn : ¬ ((j : Int) < j) := by omega
     have hll : (M ++ laidHs H j).length ≤ 279545 := by simp only [List.length_append]; omega
     rw [← HLS.out] at HP hll
     have cq : wr.cell? ⟨W0.heap.size + 1, 0, none⟩ = some (.pointer (some ⟨W0.heap.size, 0, none⟩)) := by
      rw [cell_of_row _ _ 0 _ _ _ (HP.out.held HQ.out)]; rfl
     obtain ⟨g, hg, _⟩ := HP.out.at_
     have hcall := wrDone_any W0.heap.size W0.heap.size g LS wr hg (by omega)
     clear hg
     go_wp2_with fail
     refine hcall.mono ?_
     rintro e w6 ⟨ad, cap, rfl, hcp, hS, hnil, _, hb⟩
     clear hcall cq
     go_wp2
     go_ret
     refine ⟨ad, cap, rfl, hcp, hS, hnil, ?_⟩
     have hb1 := HB0.out.trans (HP.out.below.mono HB0.out.size)
     exact hb1.trans (hb.mono hb1.size)
theorem encode_any (s : Sv) (p : Pl) (w : World) (h : SvAt w s p) (hs : s.Small) :
  Calls Tryz.prog 14 #[.agg (svv s p)] w fun e w' => ∃ ad cap, e = .returned (.slice ad (laidS s).length cap) ∧ SlAt w' ad (laidS s).length (fn (laidS s)) ∧ (ad = none → (laidS s).length = 0 ∧ cap = 0) ∧ Below w.heap.size w w' :=
 (encode_cap s p w h hs).mono fun _ _ ⟨ad, cap, h1, _, h3, h4, h5⟩ => ⟨ad, cap, h1, h3, h4, h5⟩
end Go.Proofs.YtoefgfiabfkfaaaGreatDoor
