/- The document's right, with and Move. -/
import Derived.Test.YtoefgfiabfkfaaaGreatDoorOwnShelf29
import Derived.Test.YtoefgfiabfkfaaaGreatDoorOwnShelf20
import Derived.Test.YtoefgfiabfkfaaaGreatDoorOwnShelf27
import Derived.Deep.AppendSrc
import Derived.Test.YtoefgfiabfkfaaaGreatDoorOwnShelf19
import Derived.Deep.CutBlock
import Derived.Deep.DeepCutAuto
import Derived.Test.YtoefgfiabfkfaaaGreatDoorOwnShelf26
namespace Go.Proofs.YtoefgfiabfkfaaaGreatDoor
open Go.RowKit

theorem results_R2 {fn : Func} {p u : Tmp} (h : fn.results = #[.cell p 26, .tmp u]) (tmps : Array Value) (w : World) (g : Nat) (t : TypeId) (c0 c1 c2 c3 c4 : Value) (fr : Nat × Nat)
  (hp : tmps.getD p undef = .pointer (some ⟨g, 0, none⟩)) (hg : w.heap[g]? = some (.cells #[c0, c1, c2, c3, c4] t fr)) :
  (results fn tmps).run Tryz.prog w = .ok (.tuple #[.agg #[c0, c1, c2, c3, c4], tmps.getD u undef]) w := by
 have hp' : tmps[p]?.getD undef = .pointer (some ⟨g, 0, none⟩) := by simpa using hp
 simp [results, h, hp', asAddr, run_loadVar_row w g t 26 #[c0, c1, c2, c3, c4] fr _ hg Tryz.underlying26 rfl szSr]
set_option maxRecDepth 100000 in
set_option maxHeartbeats 1600000 in
theorem right_any (s : Sv) (p : Pl) (w : World) (h : SvAt w s p) (hs : s.Small) :
  Calls Tryz.prog 21 #[.agg (svv s p)] w fun e w' => e = .returned (.bool (decide (Rgt s))) ∧ Below w.heap.size w w' := by
 have hb0 : Below w.heap.size w (w.alloc (.cells (svv s p) 26)) := (Below.refl _ w).alloc (Nat.le_refl _) _
 have hr0 := heap_alloc_new w (.cells (svv s p) 26)
 have hc := rcheck_any s p _ (h.below hb0) hs
 clear h hs
 by_cases hk : SOk s
 ·have e0 : chkE s = 0 := if_pos hk
  have HE : Hid (decide (Rgt s) = decide (s.nu < 1099511627776)) := decide_eq_decide.2 ⟨fun h => h.2, fun h => ⟨hk, h⟩⟩
  rw [e0] at hc
  rw [HE.out]
  clear hk e0
  unfold svv at hb0 hr0 hc ⊢
  go_enter Tryz.func21, Tryz.ntmps21
  go_wp2_with fail
  generalize w.alloc (.cells #[.int .i64 s.nu, .int .i64 s.a, .int .i64 s.b, .slice p.pa s.pn p.pc, .slice p.ha s.hn p.hc] 26) = W0 at *
  refine hc.mono ?_
  rintro e w1 ⟨rfl, hb1⟩
  have k0 := hb1.block _ (lt_of_block hr0)
  rw [hr0] at k0
  obtain ⟨c0, c1, c2, c3, c4, cf⟩ := five_of k0
  have HB : Hid (Below w.heap.size w w1) := hb0.trans (hb1.mono hb0.size)
  clear hc hb0 hb1 hr0 k0
  go_wp2
  go_ret
  exact ⟨rfl, HB.out⟩
 ·have e0 : chkE s = 1 := if_neg hk
  have HE : Hid (decide (Rgt s) = false) := decide_eq_false (fun h => hk h.1)
  rw [e0] at hc
  rw [HE.out]
  clear hk e0
  unfold svv at hb0 hr0 hc ⊢
  go_enter Tryz.func21, Tryz.ntmps21
  go_wp2_with fail
  generalize w.alloc (.cells #[.int .i64 s.nu, .int .i64 s.a, .int .i64 s.b, .slice p.pa s.pn p.pc, .slice p.ha s.hn p.hc] 26) = W0 at *
  refine hc.mono ?_
  rintro e w1 ⟨rfl, hb1⟩
  have k0 := hb1.block _ (lt_of_block hr0)
  rw [hr0] at k0
  obtain ⟨c0, c1, c2, c3, c4, cf⟩ := five_of k0
  have HB : Hid (Below w.heap.size w w1) := hb0.trans (hb1.mono hb0.size)
  clear hc hb0 hb1 hr0 k0
  go_wp2
  go_ret
  exact ⟨rfl, HB.out⟩
set_option maxRecDepth 100000 in
set_option maxHeartbeats 1600000 in
theorem rwith_any (s : Sv) (p : Pl) (x y : Int) (pa : Option Addr) (pn pc : Nat) (ha : Option Addr) (hn hc : Nat) (w : World) (e1 : wrap64 (s.nu + 1) = s.nu + 1) (e2 : wrap64 (s.a + x) = s.a + x) (e3 : wrap64 (s.b + y) = s.b + y) :
  Calls Tryz.prog 25 #[.agg (#[.int .i64 s.nu, .int .i64 s.a, .int .i64 s.b, .slice p.pa s.pn p.pc, .slice p.ha s.hn p.hc]), .int .i64 x, .int .i64 y, .slice pa pn pc, .slice ha hn hc] w fun e w' => e = .returned (.agg #[.int .i64 (s.nu + 1), .int .i64 (s.a + x), .int .i64 (s.b + y), .slice pa pn pc, .slice ha hn hc]) ∧ Below w.heap.size w w' := by
 have hE := heap_alloc_new (w.alloc (.cells #[.int .i64 s.nu, .int .i64 s.a, .int .i64 s.b, .slice p.pa s.pn p.pc, .slice p.ha s.hn p.hc] 26)) (.cells #[.int .i64 (s.nu + 1), .int .i64 (s.a + x), .int .i64 (s.b + y), .slice pa pn pc, .slice ha hn hc] 26)
 have e0 : (w.alloc (.cells #[.int .i64 s.nu, .int .i64 s.a, .int .i64 s.b, .slice p.pa s.pn p.pc, .slice p.ha s.hn p.hc] 26)).heap.size = w.heap.size + 1 := by simp
 rw [e0] at hE
 have HE : Hid _ := hE
 clear hE e0
 go_enter Tryz.func25, Tryz.ntmps25
 go_wp2
 exact bodyPost_ret (results_cell_row Tryz.results25 _ _ (w.heap.size + 1) 26 _ (0, 0) _ rfl HE.out Tryz.underlying26 rfl szSr) rfl ⟨rfl, ((Below.refl _ w).alloc (Nat.le_refl _) _).alloc (by simp) _⟩
theorem SvAt.alike {w : World} {s s' : Sv} {p : Pl} (h : SvAt w s p) (h1 : s'.pn = s.pn) (h2 : s'.P = s.P) (h3 : s'.hn = s.hn) (h4 : s'.H = s.H) : SvAt w s' p := by
 obtain ⟨nu, a, b, pn, P, hn, H⟩ := s
 obtain ⟨nu', a', b', pn', P', hn', H'⟩ := s'
 simp only at h1 h2 h3 h4
 subst h1 h2 h3 h4
 exact ⟨h.py, h.hd, h.pcap, h.hcap, h.pnil, h.hnil⟩
end Go.Proofs.YtoefgfiabfkfaaaGreatDoor
/- Resize and Total, the program's and the document's. -/
namespace Go.Proofs.YtoefgfiabfkfaaaGreatDoor
open Go.RowKit

set_option maxRecDepth 100000 in
theorem to_0 (n : Int) (w : World) : Calls Tryz.prog 24 #[.int .i64 0, .int .i64 n] w fun e w' => e = .returned (.tuple #[.int .i64 n, .int .i64 0]) ∧ w' = w := by
 go_enter Tryz.func24, Tryz.ntmps24
 go_wp2
 go_ret2
 exact ⟨rfl, rfl⟩
set_option maxRecDepth 100000 in
theorem to_1 (n : Int) (w : World) : Calls Tryz.prog 24 #[.int .i64 1, .int .i64 n] w fun e w' => e = .returned (.tuple #[.int .i64 0, .int .i64 n]) ∧ w' = w := by
 go_enter Tryz.func24, Tryz.ntmps24
 go_wp2
 go_ret2
 exact ⟨rfl, rfl⟩
end Go.Proofs.YtoefgfiabfkfaaaGreatDoor
/- The document's rows of holds: appended, built; holdAt. -/
namespace Go.Proofs.YtoefgfiabfkfaaaGreatDoor
open Go.RowKit

theorem Src.below {w w' : World} {ad : Option Addr} {n cap : Nat} {cs : List Value} (h : Src w ad n cap cs) (hb : Below w.heap.size w w') : Src w' ad n cap cs :=
 ⟨fun hn => by
  obtain ⟨b, off, e, hr⟩ := h.1 hn
  exact ⟨b, off, e, range_below hr hb⟩, h.2⟩
section
variable {ops : Array Oper} {o : Oper} {a : Act} {w : World} {K : Act → World → Prop} {Q : Exit → Act → World → Prop} {E : Prop}
/-- A whole state stored into a variable. -/
theorem step_storeR (hgd : o.guard = none) (x y : Operand) (ho : o.op = .store 26 x y) (g : Nat) (hx : a.eval x = .pointer (some ⟨g, 0, none⟩)) (u0 u1 u2 : Int) (pa : Option Addr) (pn pc : Nat) (ha : Option Addr) (hn hc : Nat) (hy : a.eval y = .agg #[.int .i64 u0, .int .i64 u1, .int .i64 u2, .slice pa pn pc, .slice ha hn hc]) (hg : w.heap[g]? = some (.cells #[.int .i64 0, .int .i64 0, .int .i64 0, .slice none 0 0, .slice none 0 0] 26 (0, 0)))
  (h : ∀ w', w'.heap[g]? = some (.cells #[.int .i64 u0, .int .i64 u1, .int .i64 u2, .slice pa pn pc, .slice ha hn hc] 26 (0, 0)) → Frm [g] w w' → K (a.put o.dst undef) w') : if Region.wanted o (yielded ops a.tmps) = true then Oper.wp Tryz.prog o a w K Q else E := by
 have hw : Region.wanted o (yielded ops a.tmps) = true := by simp [Region.wanted, hgd]
 rw [if_pos hw]
 refine wp_store_mid 26 x y ho g 0 #[.int .i64 u0, .int .i64 u1, .int .i64 u2, .slice pa pn pc, .slice ha hn hc] hx hy ?_ szSr (by simp [Value.oneCell']) (h _ ?_ (setCells_frm g _ 0 w))
 ·intro j hj
  have hj5 : j < 5 := by simpa using hj
  exact ⟨by rw [cell_of_row w g _ _ _ _ hg, Array.getElem?_eq_getElem (by simpa using hj5)]; rfl, frozen_of_row w g _ _ _ hg⟩
 ·exact five_all hg
end
/-- The first of some cells, and what is behind. -/
theorem Src.take {w : World} {ad : Option Addr} {n cap i : Nat} {f : Nat → List Value} (h : Src w ad n cap (flatL f n)) (hf : ∀ j, j < n → (f j).length = 3) (hi : i ≤ n) (h0 : ad ≠ none) : Src w ad i cap (flatL f i) := by
 refine ⟨fun hi0 => ?_, fun e => absurd e h0⟩
 obtain ⟨b, off, e, hr⟩ := h.1 (by omega)
 exact ⟨b, off, e, (flatL_range i (fun j hj => hf j (by omega))).2 fun j hj => (flatL_range n hf).1 hr j (by omega)⟩
theorem Src.drop {w : World} {b off n cap i c : Nat} {f : Nat → List Value} (h : Src w (some ⟨b, off, none⟩) n cap (flatL f n)) (hf : ∀ j, j < n → (f j).length = 3) (hi : i ≤ n) (hc : n ≤ cap) : Src w (if cap = i then some ⟨b, off, none⟩ else some ⟨b, off + i * 3, none⟩) (n - i) c (flatL (fun j => f (i + j)) (n - i)) := by
 refine ⟨fun hi0 => ?_, fun e => by split at e <;> cases e⟩
 rw [if_neg (by omega)]
 obtain ⟨b', off', e, hr⟩ := h.1 (by omega)
 cases e
 refine ⟨b, off + i * 3, rfl, (flatL_range (n - i) (fun j hj => hf _ (by omega))).2 fun j hj => ?_⟩
 have := (flatL_range n hf).1 hr (i + j) (by omega)
 rwa [Nat.add_mul, ← Nat.add_assoc] at this
/-- Where an ID is first. -/
def HatR (f : Nat → Int) (n : Nat) (x k : Int) : Prop := (k = -1 ∧ ∀ j, j < n → f j ≠ x) ∨ ∃ i : Nat, k = i ∧ i < n ∧ f i = x ∧ ∀ j, j < i → f j ≠ x
end Go.Proofs.YtoefgfiabfkfaaaGreatDoor
/- state.Free. -/
namespace Go.Proofs.YtoefgfiabfkfaaaGreatDoor
open Go.RowKit

end Go.Proofs.YtoefgfiabfkfaaaGreatDoor
/- The document's Free. -/
namespace Go.Proofs.YtoefgfiabfkfaaaGreatDoor
open Go.RowKit

end Go.Proofs.YtoefgfiabfkfaaaGreatDoor
/- The document's Keep where it answers an error. -/
namespace Go.Proofs.YtoefgfiabfkfaaaGreatDoor
open Go.RowKit

/-- Is a number there. -/
def hasB (f : Nat → Int) (n : Nat) (x : Int) : Bool := !decide (∀ j, j < n → f j ≠ x)
theorem hat_hasB {f : Nat → Int} {n : Nat} {x k : Int} (h : HatR f n x k) : decide (0 ≤ k) = hasB f n x := by
 rcases h with ⟨rfl, h⟩ | ⟨i, rfl, hi, he, _⟩
 ·have : hasB f n x = false := by unfold hasB; rw [decide_eq_true h]; rfl
  rw [this]; rfl
 ·have : hasB f n x = true := by unfold hasB; rw [decide_eq_false (fun h => h i hi he)]; rfl
  rw [this]; exact decide_eq_true (by omega)
end Go.Proofs.YtoefgfiabfkfaaaGreatDoor
/- The document's Keep where it keeps. -/
namespace Go.Proofs.YtoefgfiabfkfaaaGreatDoor
open Go.RowKit
attribute [local go_sem ↓] Go.wp_at_zero Go.wp_at_succ

end Go.Proofs.YtoefgfiabfkfaaaGreatDoor
/- Keep and Free: the program's answers are the document's. -/
namespace Go.Proofs.YtoefgfiabfkfaaaGreatDoor
open Go.RowKit

/-- Among rising numbers what is found is there. -/
theorem fnd_has {f : Nat → Int} {n i : Nat} {x : Int} {b : Bool} (hs : Srt f n) (h : FndR f n x i b) : b = hasB f n x := by
 rw [h.hit]
 unfold hasB
 by_cases hh : i < n ∧ f i = x
 ·rw [decide_eq_true hh, decide_eq_false (fun hn => hn i hh.1 hh.2)]; rfl
 ·have : ∀ j, j < n → f j ≠ x := fun j hj e => by
   by_cases h1 : j < i
   ·have := h.lo hs j h1; omega
   ·have h2 := h.hi hs i (Nat.le_refl _) (by omega)
    by_cases h3 : j = i
    ·subst h3; exact hh ⟨hj, e⟩
    ·have := hs i j (by omega) hj; omega
  rw [decide_eq_false hh, decide_eq_true this]; rfl
theorem fnd_place {f : Nat → Int} {n i j : Nat} {x : Int} {b : Bool} (hs : Srt f n) (h : FndR f n x i b) (hj : j ≤ n) (hlo : ∀ k, k < j → f k < x) (hhi : j < n → x ≤ f j) : i = j := by
 rcases Nat.lt_trichotomy i j with h1 | h1 | h1
 ·have h2 := hlo i h1
  have h3 := h.hi hs i (Nat.le_refl _) (by omega)
  omega
 ·exact h1
 ·have h2 := h.lo hs j h1
  have h3 := hhi (by have := h.le; omega)
  omega
end Go.Proofs.YtoefgfiabfkfaaaGreatDoor
/- Keep and Free as functions of what comes in: the program's answers and the document's. -/
namespace Go.Proofs.YtoefgfiabfkfaaaGreatDoor
open Go.RowKit

/-- How many there are ahead of the first that is not less. -/
def plc (f : Nat → Int) (x : Int) : Nat → Nat
 | 0 => 0
 | n + 1 => if plc f x n = n ∧ f n < x then n + 1 else plc f x n
theorem plc_spec (f : Nat → Int) (x : Int) : ∀ n, plc f x n ≤ n ∧ (∀ j, j < plc f x n → f j < x) ∧ (plc f x n < n → x ≤ f (plc f x n))
 | 0 => ⟨Nat.le_refl _, fun j hj => by simp [plc] at hj, fun h => by simp [plc] at h⟩
 | n + 1 => by
  obtain ⟨h1, h2, h3⟩ := plc_spec f x n
  unfold plc
  split
  ·rename_i hc
   refine ⟨Nat.le_refl _, fun j hj => ?_, fun h => by omega⟩
   by_cases hj2 : j < n
   ·exact h2 j (by omega)
   ·obtain rfl : j = n := by omega
    exact hc.2
  ·rename_i hc
   refine ⟨by omega, h2, fun h => ?_⟩
   by_cases hj2 : plc f x n < n
   ·exact h3 hj2
   ·have e : plc f x n = n := by omega
    rw [e]
    have : ¬ f n < x := fun hh => hc ⟨e, hh⟩
    omega
theorem plc_one {f : Nat → Int} {x : Int} {n i : Nat} (hi : i ≤ n) (hlo : ∀ j, j < i → f j < x) (hhi : i < n → x ≤ f i) : i = plc f x n := by
 obtain ⟨h1, h2, h3⟩ := plc_spec f x n
 rcases Nat.lt_trichotomy i (plc f x n) with h | h | h
 ·have := h2 i h; have := hhi (by omega); omega
 ·exact h
 ·have := hlo _ h; have := h3 (by omega); omega
theorem fnd_plc {f : Nat → Int} {n i : Nat} {x : Int} {b : Bool} (hs : Srt f n) (h : FndR f n x i b) : i = plc f x n := by
 obtain ⟨h1, h2, h3⟩ := plc_spec f x n
 exact fnd_place hs h h1 h2 h3
end Go.Proofs.YtoefgfiabfkfaaaGreatDoor
/- state.takePay. -/
namespace Go.Proofs.YtoefgfiabfkfaaaGreatDoor
open Go.RowKit

theorem three_objs (w : World) (c1 c2 c3 : Array Value) (t1 t2 t3 : TypeId) : ((((w.alloc (.cells c1 t1)).alloc (.cells c2 t2)).alloc (.cells c3 t3)).heap[w.heap.size]? = some (.cells c1 t1 (0, 0))) ∧ ((((w.alloc (.cells c1 t1)).alloc (.cells c2 t2)).alloc (.cells c3 t3)).heap[w.heap.size + 1]? = some (.cells c2 t2 (0, 0))) ∧ ((((w.alloc (.cells c1 t1)).alloc (.cells c2 t2)).alloc (.cells c3 t3)).heap[w.heap.size + 2]? = some (.cells c3 t3 (0, 0))) ∧ (((w.alloc (.cells c1 t1)).alloc (.cells c2 t2)).alloc (.cells c3 t3)).heap.size = w.heap.size + 3 ∧ Below w.heap.size w (((w.alloc (.cells c1 t1)).alloc (.cells c2 t2)).alloc (.cells c3 t3)) := by
 refine ⟨?_, ?_, ?_, by simp, (three_new w _ _ _).2⟩
 ·rw [Below.heap_alloc _ _ _ (by simp; omega), Below.heap_alloc _ _ _ (by simp)]; exact heap_alloc_new w _
 ·rw [Below.heap_alloc _ _ _ (by simp)]
  have := heap_alloc_new (w.alloc (.cells c1 t1)) (.cells c2 t2)
  simpa using this
 ·have := heap_alloc_new ((w.alloc (.cells c1 t1)).alloc (.cells c2 t2)) (.cells c3 t3)
  have e2 : ((w.alloc (.cells c1 t1)).alloc (.cells c2 t2)).heap.size = w.heap.size + 2 := by simp
  rw [e2] at this
  exact this
theorem results_SP {fn : Func} {p q u : Tmp} (h : fn.results = #[.cell p 37, .cell q 43, .tmp u]) (tmps : Array Value) (w : World) (g k : Nat) (c0 c1 c2 c3 c4 : Value) (y : Py)
  (hp : tmps.getD p undef = .pointer (some ⟨g, 0, none⟩)) (hq : tmps.getD q undef = .pointer (some ⟨k, 0, none⟩)) (hg : w.heap[g]? = some (.cells #[c0, c1, c2, c3, c4] 37 (0, 0))) (hk : w.heap[k]? = some (.cells (pyv y) 43 (0, 0))) :
  (results fn tmps).run Tryz.prog w = .ok (.tuple #[.agg #[c0, c1, c2, c3, c4], .agg (pyv y), tmps.getD u undef]) w := by
 have hp' : tmps[p]?.getD undef = .pointer (some ⟨g, 0, none⟩) := by simpa using hp
 have hq' : tmps[q]?.getD undef = .pointer (some ⟨k, 0, none⟩) := by simpa using hq
 simp [results, h, hp', hq', asAddr, run_loadVar_row w g 37 37 #[c0, c1, c2, c3, c4] (0, 0) _ hg Tryz.underlying37 rfl szS, run_loadVar_row w k 43 43 (pyv y) (0, 0) _ hk Tryz.underlying43 rfl (szPv y)]
theorem build_P (w : World) : (Instr.build 43 #[]).run Tryz.prog w = .ok (.agg (pyv p0)) w := by kernel_rfl
section
variable {ops : Array Oper} {rest : List Oper} {o : Oper} {a : Act} {w : World} {K : Act → World → Prop} {Q : Exit → Act → World → Prop} {E : Prop}
theorem wpList_buildP (hgd : o.guard = none) (ho : o.op = .build 43 #[])
  (h : wpList Tryz.prog ops Q rest (a.put o.dst (.agg (pyv p0))) w) : wpList Tryz.prog ops Q (o :: rest) a w := by
 refine wpList_plain hgd fun K hK => ?_
 unfold Oper.wp execOp
 simp only [ho, List.map_toArray, List.map_nil, Sem.run_bind, build_P, Result.andThen]
 exact hK _ _ h
/-- A whole payment stored into a variable. -/
theorem step_storeY (hgd : o.guard = none) (x y : Operand) (ho : o.op = .store 43 x y) (g : Nat) (hx : a.eval x = .pointer (some ⟨g, 0, none⟩)) (v u : Py) (hy : a.eval y = .agg (pyv v)) (hg : w.heap[g]? = some (.cells (pyv u) 43 (0, 0)))
  (h : ∀ w', w'.heap[g]? = some (.cells (pyv v) 43 (0, 0)) → Frm [g] w w' → K (a.put o.dst undef) w') : if Region.wanted o (yielded ops a.tmps) = true then Oper.wp Tryz.prog o a w K Q else E := by
 have hw : Region.wanted o (yielded ops a.tmps) = true := by simp [Region.wanted, hgd]
 rw [if_pos hw]
 refine wp_store_mid 43 x y ho g 0 (pyv v) hx hy ?_ (by rw [pyv_size]; exact szP) (pyv_one v) (h _ ?_ (setCells_frm g _ 0 w))
 ·intro j hj
  rw [pyv_size] at hj
  refine ⟨?_, ?_⟩
  ·rw [Nat.zero_add, cell_of_row w g j _ _ _ hg]
   simp [pyv_size, hj]
  ·rw [Nat.zero_add]; exact frozen_of_row w g j _ _ hg
 ·have := setCells_at g (pyv v).toList 0 w [] (pyv u).toList 43 (by simpa using hg) rfl (by simp [pyv_size])
  rw [this]
  simp [pyv_size, List.drop_eq_nil_of_le]
end
/-- Payments without one. -/
def delY (P : Nat → Py) (i : Nat) : Nat → Py := fun j => if j < i then P j else P (j + 1)
theorem delY_pf (P : Nat → Py) (i : Nat) : pf (delY P i) = delF (pf P) i := by
 funext j
 simp only [pf, delY, delF]
 by_cases h : j < i <;> simp [h]
/-- A state with one payment less. -/
def subY (s : Sv) (i : Nat) : Sv := { s with pn := s.pn - 1, P := delY s.P i }
theorem SvOw.cut {B : Nat} {w w' : World} {s : Sv} {p : Pl} {A : Nat → Option Addr × Nat} {i : Nat} (h : SvOw B w s p A) (hi : i < s.pn) (hrow : w'.ownsRow B 43 36 (.slice p.pa (s.pn - 1) p.pc) (s.pn - 1) (flatL (delF (pf s.P) i) (s.pn - 1))) (hg : w.grownBy w' (Value.slice p.pa s.pn p.pc).ownBlock) : SvOw B w' (subY s i) p A := by
 refine ⟨fun j hj => ?_, ?_, grown_keepV h.py h.hd (by decide) hg, fun j hj => grown_keepV h.py (h.ks j hj) (by decide) hg⟩
 ·have hj' : j < s.pn - 1 := hj
  show Zb (delY s.P i j).lk
  unfold delY
  split
  ·exact h.lk j (by omega)
  ·exact h.lk _ (by omega)
 ·show w'.ownsRow B 43 36 (.slice p.pa (s.pn - 1) p.pc) (s.pn - 1) (flatL (pf (delY s.P i)) (s.pn - 1))
  rw [delY_pf]
  exact hrow
set_option maxRecDepth 100000 in
set_option maxHeartbeats 3200000 in
theorem take_1 (s : Sv) (p : Pl) (id : Int) (w : World) (h : SvAt w s p) (hs : s.Small) (hr : ¬ Rgt s) :
  Calls Tryz.prog 26 #[.agg (svv s p), .int .i64 id] w fun e w' => e = .returned (.tuple #[.agg #[.int .i64 0, .int .i64 0, .int .i64 0, .slice none 0 0, .slice none 0 0], .agg (pyv p0), errV 1]) ∧ Below w.heap.size w w' := by
 obtain ⟨hn0, hn1, hn2, hsz, hb0⟩ := three_objs w (svv s p) (svv sv0 pl0) (pyv p0) 37 37 43
 have hc := next_bad s p _ (h.below hb0) hs hr
 clear h
 unfold svv sv0 pl0 at hn0 hn1 hn2 hsz hb0 hc
 unfold svv
 simp only at hn0 hn1 hn2 hsz hb0 hc
 go_enter Tryz.func26, Tryz.ntmps26
 go_wp2_with (first | (refine wpList_allocP rfl rfl ?_) | fail)
 generalize (((w.alloc (.cells #[.int .i64 s.nu, .int .i64 s.a, .int .i64 s.b, .slice p.pa s.pn p.pc, .slice p.ha s.hn p.hc] 37)).alloc (.cells #[.int .i64 0, .int .i64 0, .int .i64 0, .slice none 0 0, .slice none 0 0] 37)).alloc (.cells (pyv p0) 43)) = W0 at *
 (try rw [show w.heap.size + 1 + 1 = w.heap.size + 2 from rfl])
 refine hc.mono ?_
 rintro e w1 ⟨rfl, hb1⟩
 have HB : Hid (Below w.heap.size w w1) := hb0.trans (hb1.mono (by omega))
 have k1 := hb1.block _ (show w.heap.size + 1 < W0.heap.size by omega)
 rw [hn1] at k1
 have k2 := hb1.block _ (show w.heap.size + 2 < W0.heap.size by omega)
 rw [hn2] at k2
 have hl1 : w.heap.size + 2 < w1.heap.size := by have := hb1.size; omega
 have HB1 : Hid (Below w.heap.size w (w1.alloc (.cells #[.int .i64 0, .int .i64 0, .int .i64 0, .slice none 0 0, .slice none 0 0] 37))) := HB.out.alloc HB.out.size _
 have HK : Hid ((w1.alloc (.cells #[.int .i64 0, .int .i64 0, .int .i64 0, .slice none 0 0, .slice none 0 0] 37)).heap[w.heap.size + 1]? = some (.cells #[.int .i64 0, .int .i64 0, .int .i64 0, .slice none 0 0, .slice none 0 0] 37 (0, 0)) ∧ (w1.alloc (.cells #[.int .i64 0, .int .i64 0, .int .i64 0, .slice none 0 0, .slice none 0 0] 37)).heap[w.heap.size + 2]? = some (.cells (pyv p0) 43 (0, 0))) := ⟨by rw [Below.heap_alloc _ _ _ (by omega)]; exact k1, by rw [Below.heap_alloc _ _ _ (by omega)]; exact k2⟩
 have e1 : errV 1 = .iface 72 (.int .i64 1) := rfl
 rw [e1]
 clear hc hb0 hb1 hn0 hn1 hn2 hsz k1 k2
 have k1 := HK.out.1
 obtain ⟨d0, d1, d2, d3, d4, df⟩ := five_of k1
 clear k1 hs hr
 go_wp2_with (first | (refine wpList_buildP rfl rfl ?_; generalize w1.alloc (.cells #[.int .i64 0, .int .i64 0, .int .i64 0, .slice none 0 0, .slice none 0 0] 37) = Wn at *) | (refine wpList_storeP _ szP rfl _ _ rfl (w.heap.size + 2) rfl p0 p0 43 rfl (by rw [five_other (by omega)]; exact HK.out.2) ?_; intro w3 hg3 hf3) | fail)
 have hq1 : w3.heap[w.heap.size + 1]? = some (.cells #[.int .i64 0, .int .i64 0, .int .i64 0, .slice none 0 0, .slice none 0 0] 37 (0, 0)) := by
  rw [hf3.block _ (by simpa [World.setCell] using lt_of_block HK.out.1) (by simp)]
  exact five_all HK.out.1
 have hbe : Below w.heap.size w w3 := (five_below HB1.out (by omega)).trans (hf3.below (by simpa [World.setCell] using HB1.out.size) (fun k hk => by rw [List.mem_singleton.1 hk]; omega))
 exact bodyPost_ret (results_SP Tryz.results26 _ _ (w.heap.size + 1) (w.heap.size + 2) _ _ _ _ _ p0 rfl rfl hq1 hg3) rfl ⟨rfl, hbe⟩
/-- What is taken out. -/
def TakR (s : Sv) (id : Int) (w : World) (e : Ending) (w' : World) : Prop := ∃ (i : Nat) (b : Bool), FndR (fun j => (s.P j).id) s.pn id i b ∧ ((b = false ∧ e = .returned (.tuple #[.agg #[.int .i64 0, .int .i64 0, .int .i64 0, .slice none 0 0, .slice none 0 0], .agg (pyv p0), .iface 72 (.int .i64 8)])) ∨ (b = true ∧ ∃ p' A, e = .returned (.tuple #[.agg (svv (subY (nxt s) i) p'), .agg (pyv (s.P i)), .nilIface]) ∧ SvOw w.heap.size w' (subY (nxt s) i) p' A))
set_option maxRecDepth 100000 in
set_option maxHeartbeats 6400000 in
theorem take_any (s : Sv) (p : Pl) (id : Int) (w : World) (h : SvAt w s p) (hs : s.Small) (hr : Rgt s) :
  Calls Tryz.prog 26 #[.agg (svv s p), .int .i64 id] w fun e w' => TakR s id w e w' ∧ Below w.heap.size w w' := by
 have hpn8 : s.pn ≤ 8 := by have := hr.1.2.1.1; omega
 obtain ⟨hn0, hn1, hn2, hsz, hb0⟩ := three_objs w (svv s p) (svv sv0 pl0) (pyv p0) 37 37 43
 have hc := next_ok s p _ (h.below hb0) hs hr
 clear h
 unfold svv sv0 pl0 at hn0 hn1 hn2 hsz hb0 hc
 unfold svv
 simp only at hn0 hn1 hn2 hsz hb0 hc
 go_enter Tryz.func26, Tryz.ntmps26
 go_wp2_with (first | (refine wpList_allocP rfl rfl ?_) | fail)
 generalize (((w.alloc (.cells #[.int .i64 s.nu, .int .i64 s.a, .int .i64 s.b, .slice p.pa s.pn p.pc, .slice p.ha s.hn p.hc] 37)).alloc (.cells #[.int .i64 0, .int .i64 0, .int .i64 0, .slice none 0 0, .slice none 0 0] 37)).alloc (.cells (pyv p0) 43)) = W0 at *
 (try rw [show w.heap.size + 1 + 1 = w.heap.size + 2 from rfl])
 refine hc.mono ?_
 rintro e w1 ⟨⟨p', A, rfl, hO⟩, hb1⟩
 have HB : Hid (Below w.heap.size w w1) := hb0.trans (hb1.mono (by omega))
 have k1 := hb1.block _ (show w.heap.size + 1 < W0.heap.size by omega)
 rw [hn1] at k1
 have k2 := hb1.block _ (show w.heap.size + 2 < W0.heap.size by omega)
 rw [hn2] at k2
 have hl1 : w.heap.size + 2 < w1.heap.size := by have := hb1.size; omega
 have hbA : Below w1.heap.size w1 (w1.alloc (.cells #[.int .i64 (s.nu + 1), .int .i64 s.a, .int .i64 s.b, .slice p'.pa s.pn p'.pc, .slice p'.ha s.hn p'.hc] 37)) := (Below.refl _ w1).alloc (Nat.le_refl _) _
 have hnA := heap_alloc_new w1 (.cells #[.int .i64 (s.nu + 1), .int .i64 s.a, .int .i64 s.b, .slice p'.pa s.pn p'.pc, .slice p'.ha s.hn p'.hc] 37)
 have HB1 : Hid (Below w.heap.size w (w1.alloc (.cells #[.int .i64 (s.nu + 1), .int .i64 s.a, .int .i64 s.b, .slice p'.pa s.pn p'.pc, .slice p'.ha s.hn p'.hc] 37))) := HB.out.alloc HB.out.size _
 have HK : Hid ((w1.alloc (.cells #[.int .i64 (s.nu + 1), .int .i64 s.a, .int .i64 s.b, .slice p'.pa s.pn p'.pc, .slice p'.ha s.hn p'.hc] 37)).heap[w.heap.size + 1]? = some (.cells #[.int .i64 0, .int .i64 0, .int .i64 0, .slice none 0 0, .slice none 0 0] 37 (0, 0)) ∧ (w1.alloc (.cells #[.int .i64 (s.nu + 1), .int .i64 s.a, .int .i64 s.b, .slice p'.pa s.pn p'.pc, .slice p'.ha s.hn p'.hc] 37)).heap[w.heap.size + 2]? = some (.cells (pyv p0) 43 (0, 0)) ∧ (w1.alloc (.cells #[.int .i64 (s.nu + 1), .int .i64 s.a, .int .i64 s.b, .slice p'.pa s.pn p'.pc, .slice p'.ha s.hn p'.hc] 37)).heap[w1.heap.size]? = some (.cells #[.int .i64 (s.nu + 1), .int .i64 s.a, .int .i64 s.b, .slice p'.pa s.pn p'.pc, .slice p'.ha s.hn p'.hc] 37 (0, 0))) := ⟨by rw [Below.heap_alloc _ _ _ (by omega)]; exact k1, by rw [Below.heap_alloc _ _ _ (by omega)]; exact k2, hnA⟩
 have HO : Hid (SvOw (w.heap.size + 3) (w1.alloc (.cells #[.int .i64 (s.nu + 1), .int .i64 s.a, .int .i64 s.b, .slice p'.pa s.pn p'.pc, .slice p'.ha s.hn p'.hc] 37)) (nxt s) p' A) := (hO.low (by omega)).below hbA
 have hfi := findP_any p'.pa s.pn p'.pc s.P id (w1.alloc (.cells #[.int .i64 (s.nu + 1), .int .i64 s.a, .int .i64 s.b, .slice p'.pa s.pn p'.pc, .slice p'.ha s.hn p'.hc] 37)) HO.out.at.py (by omega)
 have k3 : (w1.alloc (.cells #[.int .i64 (s.nu + 1), .int .i64 s.a, .int .i64 s.b, .slice p'.pa s.pn p'.pc, .slice p'.ha s.hn p'.hc] 37)).cell? ⟨w1.heap.size, 3, none⟩ = some (.slice p'.pa s.pn p'.pc) := by rw [cell_of_row _ _ 3 _ _ _ hnA]; rfl
 clear hc hb0 hb1 hn0 hn1 hn2 hsz k1 k2 hbA hnA hO hs hr
 unfold nxt
 dsimp only
 go_wp2_with fail
 generalize w1.alloc (.cells #[.int .i64 (s.nu + 1), .int .i64 s.a, .int .i64 s.b, .slice p'.pa s.pn p'.pc, .slice p'.ha s.hn p'.hc] 37) = Wn at *
 obtain ⟨bn, hbn⟩ : ∃ bn, w1.heap.size = bn := ⟨_, rfl⟩
 rw [hbn] at HK k3 hl1 ⊢
 clear hbn HB
 refine hfi.mono ?_
 rintro e w2 ⟨⟨i, b, rfl, hF⟩, hb2⟩
 have HF : Hid (FndR (fun j => (s.P j).id) s.pn id i b) := hF
 have HB2 : Hid (Below w.heap.size w w2 ∧ Below Wn.heap.size Wn w2) := ⟨HB1.out.trans (hb2.mono HB1.out.size), hb2⟩
 have HK2 : Hid (w2.heap[w.heap.size + 1]? = some (.cells #[.int .i64 0, .int .i64 0, .int .i64 0, .slice none 0 0, .slice none 0 0] 37 (0, 0)) ∧ w2.heap[w.heap.size + 2]? = some (.cells (pyv p0) 43 (0, 0)) ∧ w2.heap[bn]? = some (.cells #[.int .i64 (s.nu + 1), .int .i64 s.a, .int .i64 s.b, .slice p'.pa s.pn p'.pc, .slice p'.ha s.hn p'.hc] 37 (0, 0))) := ⟨by rw [hb2.block _ (lt_of_block HK.out.1)]; exact HK.out.1, by rw [hb2.block _ (lt_of_block HK.out.2.1)]; exact HK.out.2.1, by rw [hb2.block _ (lt_of_block HK.out.2.2)]; exact HK.out.2.2⟩
 have HO2 : Hid (SvOw (w.heap.size + 3) w2 (nxt s) p' A) := HO.out.below hb2
 clear hfi hF hb2 HK HO k3 HB1
 have k1 := HK2.out.1
 obtain ⟨d0, d1, d2, d3, d4, df⟩ := five_of k1
 have k3 := HK2.out.2.2
 obtain ⟨c0, c1, c2, c3, c4, cf⟩ := five_of k3
 clear k1 k3
 cases b with
 | false =>
  clear c0 c1 c2 c3 c4 cf
  go_wp2_with (first | (refine wpList_buildP rfl rfl ?_) | (refine wpList_storeP _ szP rfl _ _ rfl (w.heap.size + 2) rfl p0 p0 43 rfl (by rw [five_other (by omega)]; exact HK2.out.2.1) ?_; intro w3 hg3 hf3) | fail)
  have hq1 : w3.heap[w.heap.size + 1]? = some (.cells #[.int .i64 0, .int .i64 0, .int .i64 0, .slice none 0 0, .slice none 0 0] 37 (0, 0)) := by
   rw [hf3.block _ (by simpa [World.setCell] using lt_of_block HK2.out.1) (by simp)]
   exact five_all HK2.out.1
  have hbe : Below w.heap.size w w3 := (five_below HB2.out.1 (by omega)).trans (hf3.below (by simpa [World.setCell] using HB2.out.1.size) (fun k hk => by rw [List.mem_singleton.1 hk]; omega))
  exact bodyPost_ret (results_SP Tryz.results26 _ _ (w.heap.size + 1) (w.heap.size + 2) _ _ _ _ _ p0 rfl rfl hq1 hg3) rfl ⟨⟨i, false, HF.out, .inl ⟨rfl, rfl⟩⟩, hbe⟩
 | true =>
  have hhit : i < s.pn ∧ (s.P i).id = id := of_decide_eq_true HF.out.hit.symm
  have hi := hhit.1
  have hi' : (i : Int) < s.pn := by omega
  obtain ⟨g, ega, hgB, hgl, hgr⟩ := own_range HO2.out.py (by show 0 < s.pn; omega)
  have HRi : Hid (w2.rangeAt g (i * 36) (pyl (s.P i))) := by
   have := (flatL_range s.pn (pf_len s.P s.pn)).1 hgr i hi
   rwa [Nat.zero_add] at this
  obtain ⟨pa, pc, ha, hc⟩ := p'
  dsimp only at ega
  subst ega
  clear hhit hgr
  dsimp only at *
  go_wp2_with (first | (refine wpList_load_mid rfl 43 _ rfl g (i * 36) rfl (pyl (s.P i)) _ HRi.out Tryz.underlying43 rfl (szPl _) ?_) | (refine wpList_allocP rfl rfl ?_) | (refine wpList_storeP _ szP rfl _ _ rfl w2.heap.size rfl (s.P i) p0 43 rfl (heap_alloc_new w2 _) ?_; intro w3 hg3 hf3; have H3 : Hid (w3.heap[w2.heap.size]? = some (.cells (pyv (s.P i)) 43 (0, 0)) ∧ Below w2.heap.size w2 w3) := ⟨hg3, frm_new hf3⟩; clear hg3 hf3; have x3 : w3.cell? ⟨bn, 3, none⟩ = some (.slice (some ⟨g, 0, none⟩) s.pn pc) := by rw [H3.out.2.cell (p := ⟨bn, 3, none⟩) (lt_of_block HK2.out.2.2)]; exact c3) | fail)
  have hpy3 := own_below HO2.out.py H3.out.2
  have hdel := delP_any (w.heap.size + 3) (some ⟨g, 0, none⟩) s.pn pc i (pf s.P) w3 hpy3 hi (pf_len _ _) (pf_one _ _) (by omega)
  refine hdel.mono ?_
  rintro e w4 ⟨rfl, hrow, hgrow⟩
  have hb23 := H3.out.2
  have bl3 : bn < w2.heap.size := lt_of_block HK2.out.2.2
  have g1 : w4.heap[w.heap.size + 1]? = some (.cells #[.int .i64 0, .int .i64 0, .int .i64 0, .slice none 0 0, .slice none 0 0] 37 (0, 0)) := by
   have h3 : w3.heap[w.heap.size + 1]? = some (.cells #[.int .i64 0, .int .i64 0, .int .i64 0, .slice none 0 0, .slice none 0 0] 37 (0, 0)) := by rw [hb23.block _ (lt_of_block HK2.out.1)]; exact HK2.out.1
   rw [hgrow.block _ (lt_of_block h3) (fun e => own_neS hpy3 h3 (by decide) e.symm)]; exact h3
  have g3 : w4.heap[bn]? = some (.cells #[.int .i64 (s.nu + 1), .int .i64 s.a, .int .i64 s.b, .slice (some ⟨g, 0, none⟩) s.pn pc, .slice ha s.hn hc] 37 (0, 0)) := by
   have h3 : w3.heap[bn]? = some (.cells #[.int .i64 (s.nu + 1), .int .i64 s.a, .int .i64 s.b, .slice (some ⟨g, 0, none⟩) s.pn pc, .slice ha s.hn hc] 37 (0, 0)) := by rw [hb23.block _ bl3]; exact HK2.out.2.2
   rw [hgrow.block _ (lt_of_block h3) (fun e => own_neS hpy3 h3 (by decide) e.symm)]; exact h3
  have g2 : w4.heap[w.heap.size + 2]? = some (.cells (pyv p0) 43 (0, 0)) := by
   have h3 : w3.heap[w.heap.size + 2]? = some (.cells (pyv p0) 43 (0, 0)) := by rw [hb23.block _ (lt_of_block HK2.out.2.1)]; exact HK2.out.2.1
   rw [hgrow.block _ (lt_of_block h3) (fun e => by have e2 : w.heap.size + 2 = g := Option.some.inj e; omega)]; exact h3
  have g4 : w4.heap[w2.heap.size]? = some (.cells (pyv (s.P i)) 43 (0, 0)) := by
   rw [hgrow.block _ (lt_of_block H3.out.1) (fun e => by have e2 : w2.heap.size = g := Option.some.inj e; omega)]; exact H3.out.1
  have HO4 : Hid (SvOw (w.heap.size + 3) w4 (subY (nxt s) i) ⟨some ⟨g, 0, none⟩, pc, ha, hc⟩ A) := (HO2.out.below hb23).cut (i := i) hi hrow hgrow
  have HB4 : Hid (Below w.heap.size w w4) := grown_below hpy3 hgrow (HB2.out.1.trans (hb23.mono HB2.out.1.size)) (by omega)
  have HG4 : Hid (w4.heap[bn]? = some (.cells #[.int .i64 (s.nu + 1), .int .i64 s.a, .int .i64 s.b, .slice (some ⟨g, 0, none⟩) s.pn pc, .slice ha s.hn hc] 37 (0, 0))) := g3
  have n1 : (w4.setCell ⟨bn, 3, none⟩ (.slice (some ⟨g, 0, none⟩) (s.pn - 1) pc)).heap[w.heap.size + 1]? = some (.cells #[.int .i64 0, .int .i64 0, .int .i64 0, .slice none 0 0, .slice none 0 0] 37 (0, 0)) := by rw [Below.heap_setCell _ _ _ _ (by show w.heap.size + 1 ≠ bn; omega)]; exact g1
  have n2 : (w4.setCell ⟨bn, 3, none⟩ (.slice (some ⟨g, 0, none⟩) (s.pn - 1) pc)).heap[w.heap.size + 2]? = some (.cells (pyv p0) 43 (0, 0)) := by rw [Below.heap_setCell _ _ _ _ (by show w.heap.size + 2 ≠ bn; omega)]; exact g2
  have n4 : (w4.setCell ⟨bn, 3, none⟩ (.slice (some ⟨g, 0, none⟩) (s.pn - 1) pc)).heap[w2.heap.size]? = some (.cells (pyv (s.P i)) 43 (0, 0)) := by rw [Below.heap_setCell _ _ _ _ (by show w2.heap.size ≠ bn; omega)]; exact g4
  have n3 : (w4.setCell ⟨bn, 3, none⟩ (.slice (some ⟨g, 0, none⟩) (s.pn - 1) pc)).heap[bn]? = some (.cells (svv (subY (nxt s) i) ⟨some ⟨g, 0, none⟩, pc, ha, hc⟩) 37 (0, 0)) := five_set3 g3
  have HO5 : Hid (SvOw (w.heap.size + 3) (w4.setCell ⟨bn, 3, none⟩ (.slice (some ⟨g, 0, none⟩) (s.pn - 1) pc)) (subY (nxt s) i) ⟨some ⟨g, 0, none⟩, pc, ha, hc⟩ A) := HO4.out.off g3 (fun k hk => Below.heap_setCell _ _ _ _ (by exact hk))
  have HB5 : Hid (Below w.heap.size w (w4.setCell ⟨bn, 3, none⟩ (.slice (some ⟨g, 0, none⟩) (s.pn - 1) pc))) := HB4.out.setCell (by show w.heap.size ≤ bn; omega) _
  obtain ⟨e0, e1, e2, e3, e4, ef⟩ := five_of g3
  have HN : Hid ((w4.setCell ⟨bn, 3, none⟩ (.slice (some ⟨g, 0, none⟩) (s.pn - 1) pc)).heap[w.heap.size + 1]? = some (.cells #[.int .i64 0, .int .i64 0, .int .i64 0, .slice none 0 0, .slice none 0 0] 37 (0, 0)) ∧ (w4.setCell ⟨bn, 3, none⟩ (.slice (some ⟨g, 0, none⟩) (s.pn - 1) pc)).heap[w.heap.size + 2]? = some (.cells (pyv p0) 43 (0, 0)) ∧ (w4.setCell ⟨bn, 3, none⟩ (.slice (some ⟨g, 0, none⟩) (s.pn - 1) pc)).rangeAt bn 0 (svq (subY (nxt s) i) ⟨some ⟨g, 0, none⟩, pc, ha, hc⟩) ∧ (w4.setCell ⟨bn, 3, none⟩ (.slice (some ⟨g, 0, none⟩) (s.pn - 1) pc)).rangeAt w2.heap.size 0 (pyl (s.P i))) := ⟨n1, n2, svq_range n3, pyv_range n4⟩
  have hbw : w.heap.size + 2 < w2.heap.size := lt_of_block HK2.out.2.1
  clear c0 c1 c2 c3 c4 cf d0 d1 d2 d3 d4 df x3 hdel hrow hgrow g1 g2 g3 g4 n1 n2 n3 n4 hpy3 hb23 HRi H3 HK2 HB2 HO2
  go_wp2_with fail
  generalize w4.setCell ⟨bn, 3, none⟩ (.slice (some ⟨g, 0, none⟩) (s.pn - 1) pc) = W5 at *
  have S0 : W5.drew.rangeAt bn 0 (svq (subY (nxt s) i) ⟨some ⟨g, 0, none⟩, pc, ha, hc⟩) ∧ W5.drew.rangeAt w2.heap.size 0 (pyl (s.P i)) := ⟨HN.out.2.2.1, HN.out.2.2.2⟩
  have hd1 : W5.drew.heap[w.heap.size + 1]? = some (.cells #[.int .i64 0, .int .i64 0, .int .i64 0, .slice none 0 0, .slice none 0 0] 37 (0, 0)) := HN.out.1
  have hd2 : W5.drew.heap[w.heap.size + 2]? = some (.cells (pyv p0) 43 (0, 0)) := HN.out.2.1
  have HD : Hid (SvOw (w.heap.size + 3) W5.drew (subY (nxt s) i) ⟨some ⟨g, 0, none⟩, pc, ha, hc⟩ A ∧ Below w.heap.size w W5.drew) := ⟨HO5.out.below (Below.refl _ W5).drew, HB5.out.drew⟩
  refine wp_region_noPanic ?_
  refine wp_region_held_drew (S := fun u => u.rangeAt bn 0 (svq (subY (nxt s) i) ⟨some ⟨g, 0, none⟩, pc, ha, hc⟩) ∧ u.rangeAt w2.heap.size 0 (pyl (s.P i))) (by kernel_rfl) S0 (fun hHeld => ?_)
  generalize W5.drew = W6 at *
  refine wpAnyH_take (i := 0) (oi := ⟨some 46, .load 37 (.tmp 7), 37, _, _, none⟩) rfl (by kernel_rfl) (by kernel_rfl) (by kernel_rfl) (fun _ _ _ h => h) (yieldsIf_load_mid (by rfl) _ _ rfl bn 0 rfl (svq (subY (nxt s) i) ⟨some ⟨g, 0, none⟩, pc, ha, hc⟩) _ (fun _ h => h.1) Tryz.underlying37 rfl szS) (by assumption) ?_
  try simp only [Act.put, sqA, sqB, sqC]
  refine wpAnyH_take (i := 1) (oi := ⟨some 47, .load 43 (.tmp 11), 43, _, _, none⟩) rfl (by kernel_rfl) (by kernel_rfl) (by kernel_rfl) (fun _ _ _ h => h) (yieldsIf_load_mid (by rfl) _ _ rfl w2.heap.size 0 rfl (pyl (s.P i)) _ (fun _ h => h.2) Tryz.underlying43 rfl (szPl _)) (by assumption) ?_
  try simp only [Act.put, sqA, sqB, sqC]
  refine wpAnyH_ready (rs := [2]) (by kernel_rfl) (by simp) ?_
  refine (AllReadyH.cons (o := ⟨none, .store 37 (.tmp 4) (.tmp 46), 0, _, _, none⟩) rfl (fun K hK => ?_) AllReadyH.nil)
  refine step_storeS rfl (.tmp 4) (.tmp 46) rfl (w.heap.size + 1) (by rfl) (s.nu + 1) s.a s.b (some ⟨g, 0, none⟩) (s.pn - 1) pc ha s.hn hc (by rfl) hd1 ?_
  intro W7 hx7 hf7
  have rk : ∀ {a b : World} {k : Nat} {q o : Nat} {l : List Value}, a.rangeAt q o l → Frm [k] a b → q ≠ k → b.rangeAt q o l := fun h hf hne j v hv => by
   have h1 := h j v hv
   rw [World.cell?_of_block (hf.block _ (World.block_lt_of_cell? _ _ h1) (by simpa using hne))]
   exact h1
  have S7 : W7.rangeAt bn 0 (svq (subY (nxt s) i) ⟨some ⟨g, 0, none⟩, pc, ha, hc⟩) ∧ W7.rangeAt w2.heap.size 0 (pyl (s.P i)) := ⟨rk S0.1 hf7 (by omega), rk S0.2 hf7 (by omega)⟩
  have hd7 : W7.heap[w.heap.size + 2]? = some (.cells (pyv p0) 43 (0, 0)) := by rw [hf7.block _ (lt_of_block hd2) (by simp)]; exact hd2
  have HD7 : Hid (SvOw (w.heap.size + 3) W7 (subY (nxt s) i) ⟨some ⟨g, 0, none⟩, pc, ha, hc⟩ A ∧ Below w.heap.size w W7) := ⟨HD.out.1.offF hd1 hf7, HD.out.2.trans (hf7.below HD.out.2.size (fun k hk => by rw [List.mem_singleton.1 hk]; omega))⟩
  refine hK.out _ _ S7 (fun _ => ?_)
  clear hK K
  try simp only [Act.put]
  refine wpAnyH_ready (rs := [3]) (by kernel_rfl) (by simp) ?_
  refine (AllReadyH.cons (o := ⟨none, .store 43 (.tmp 5) (.tmp 47), 0, _, _, none⟩) rfl (fun K hK => ?_) AllReadyH.nil)
  refine step_storeY rfl (.tmp 5) (.tmp 47) rfl (w.heap.size + 2) (by rfl) (s.P i) p0 (by rfl) hd7 ?_
  intro W8 hx8 hf8
  have S8 : W8.rangeAt bn 0 (svq (subY (nxt s) i) ⟨some ⟨g, 0, none⟩, pc, ha, hc⟩) ∧ W8.rangeAt w2.heap.size 0 (pyl (s.P i)) := ⟨rk S7.1 hf8 (by omega), rk S7.2 hf8 (by omega)⟩
  have hx9 : W8.heap[w.heap.size + 1]? = some (.cells (svv (subY (nxt s) i) ⟨some ⟨g, 0, none⟩, pc, ha, hc⟩) 37 (0, 0)) := by rw [hf8.block _ (lt_of_block hx7) (by simp)]; exact hx7
  have HD8 : Hid (SvOw (w.heap.size + 3) W8 (subY (nxt s) i) ⟨some ⟨g, 0, none⟩, pc, ha, hc⟩ A ∧ Below w.heap.size w W8) := ⟨HD7.out.1.frm (fun k h1 h2 => hf8.block k h1 (by simp; omega)), HD7.out.2.trans (hf8.below HD7.out.2.size (fun k hk => by rw [List.mem_singleton.1 hk]; omega))⟩
  have HX : Hid (W8.heap[w.heap.size + 1]? = some (.cells (svv (subY (nxt s) i) ⟨some ⟨g, 0, none⟩, pc, ha, hc⟩) 37 (0, 0)) ∧ W8.heap[w.heap.size + 2]? = some (.cells (pyv (s.P i)) 43 (0, 0))) := ⟨hx9, hx8⟩
  refine hK.out _ _ S8 (fun _ => ?_)
  clear hK K rk hx7 hx8 hx9 hf7 hf8 hd1 hd2 hd7 S0 S7 S8
  try simp only [Act.put]
  refine wpV 4 ⟨some 6, .assign (.const .nilIface), 40, _, _, none⟩ rfl ?_
  try simp only [Act.put, sqA, sqB, sqC]
  refine wpAnyH_done (by kernel_rfl) (NoPanic.normal ?_) _
  try simp only [Act.put, sqA, sqB, sqC]
  clear hHeld
  go_wp2
  exact bodyPost_ret (results_SP Tryz.results26 _ _ (w.heap.size + 1) (w.heap.size + 2) _ _ _ _ _ (s.P i) rfl rfl HX.out.1 HX.out.2) rfl ⟨⟨i, true, HF.out, .inr ⟨rfl, ⟨some ⟨g, 0, none⟩, pc, ha, hc⟩, A, rfl, HD8.out.1.low (by omega)⟩⟩, HD8.out.2⟩
end Go.Proofs.YtoefgfiabfkfaaaGreatDoor
