/- build: a commitment's outputs, and what they are for. -/
import Derived.Test.YtjnepkggdkccaaaGreatDoorOwnShelf17
import Derived.Deep.QuietTactic
import Derived.BigQuiet
namespace Go.Proofs.YtjnepkggdkccaaaGreatDoor
open Go.RowKit

def ifL {α : Type} (am : Int) (x : α) : List α := if 10 ≤ am then [x] else []
theorem ifL_len {α : Type} (am : Int) (x : α) : (ifL am x).length ≤ 1 := by unfold ifL; split <;> simp
theorem lay_any (kf : Nat) (eg : ∀ args w, (callFunc kf args).run Tryz.prog w = .ok (.enter kf args) w) (k id am : Int) (n : Nat) (X : Nat → Cd.Bv) (B bo bp bc : Nat) (c : Cm) (ka : Option Addr) (kc : Nat) (os : List To) (zs : List (Int × Int)) (w : World) (h : LayS w B bo bp bc c ka kc os zs)
  (hU : Calls Tryz.prog kf #[.agg (cmv c ka kc)] w.drew (UndR n X w.drew)) (ho : os.length ≤ 1000) (hz : zs.length ≤ 1000) :
  Calls Tryz.prog 46 #[.int .i64 k, .int .i64 id, .int .i64 am, .func (.func kf) #[] #[], .pointer (some ⟨bo, 0, none⟩), .pointer (some ⟨bc, 0, none⟩), .pointer (some ⟨bp, 0, none⟩)] w (LayPost B bo bp bc c ka kc (os ++ ifL am ⟨am, n, X⟩) (zs ++ ifL am (k, id)) w) := by
 by_cases ha : 10 ≤ am
 ·rw [show ifL am (To.mk am n X) = [⟨am, n, X⟩] from if_pos ha, show ifL am (k, id) = [(k, id)] from if_pos ha]
  exact lay_yes kf eg k id am n X B bo bp bc c ka kc os zs w h ha hU ho hz
 ·rw [show ifL am (To.mk am n X) = [] from if_neg ha, show ifL am (k, id) = [] from if_neg ha, List.append_nil, List.append_nil]
  exact lay_no kf k id am B bo bp bc c ka kc os zs w h ha
theorem LayR.setC {w w1 : World} {B bo bp bc : Nat} {c c' : Cm} {ka ka' : Option Addr} {kc kc' : Nat} {os : List To} {zs : List (Int × Int)} {va : Option Addr} {vc : Nat} {ua : Option Addr} {uc : Nat} {A : Nat → Option Addr × Nat} {I : Nat → Nat × Nat} (h : LayR w B bo bp bc c ka kc os zs va vc ua uc A I) (hf : Frm [bc] w w1) (hn : w1.heap[bc]? = some (.cells (cmv c' ka' kc') 104 (0, 0))) : LayR w1 B bo bp bc c' ka' kc' os zs va vc ua uc A I := by
 obtain ⟨l1, l2, l3, l4, l5, l6, l7⟩ := h.lt
 have hs := hf.size
 refine ⟨hf.heap h.fo (by simp; omega), hf.heap h.fp (by simp; omega), hn, ⟨l1, l2, l3, l4, l5, l6, by omega⟩, own_keep h.outs (fun g e => hf.block g (h.outs.lt g e).2 (by have := (h.outs.lt g e).1; simp; omega)), own_keep h.pls (fun g e => hf.block g (h.pls.lt g e).2 (by have := (h.pls.lt g e).1; simp; omega)), fun j hj w' hw => h.cond j hj w' (fun k h1 h2 => ?_), fun j hj => ⟨(h.int j hj).1, by have := (h.int j hj).2.1; omega, (h.int j hj).2.2⟩, h.apO, h.apP⟩
 rw [hw k h1 h2]
 have := h.int j hj
 exact hf.block k (by omega) (by simp; omega)
theorem cm_setY (c : Cm) (ka : Option Addr) (kc : Nat) (y : Py) {w : World} {g : Nat} {t : TypeId} (h : w.heap[g]? = some (.cells (cmv c ka kc) t (0, 0))) : (w.setCells g 71 (pyl y)).heap[g]? = some (.cells (cmv { c with y := y } ka kc) t (0, 0)) := by
 have := setCells_at g (pyl y) 71 w (pml c.P ++ ([.int .i64 c.o] ++ bl c.lk 32)) (pyl c.y ++ hdl c.h ka kc) t (by simpa [cmv, cml] using h) (by simp [pml_length, bl_length]) (by simp [pyl_length])
 rw [this]
 simp [cmv, cml, pyl_length]
theorem cm_setH (c : Cm) (ka ka' : Option Addr) (kc kc' : Nat) (x : Hd) {w : World} {g : Nat} {t : TypeId} (h : w.heap[g]? = some (.cells (cmv c ka kc) t (0, 0))) : (w.setCells g 107 (hdl x ka' kc')).heap[g]? = some (.cells (cmv { c with h := x } ka' kc') t (0, 0)) := by
 have := setCells_at g (hdl x ka' kc') 107 w (pml c.P ++ ([.int .i64 c.o] ++ (bl c.lk 32 ++ pyl c.y))) (hdl c.h ka kc) t (by simpa [cmv, cml] using h) (by simp [pml_length, bl_length, pyl_length]) (by simp [hdl])
 rw [this]
 simp [cmv, cml, hdl]
theorem hdl1 (x : Hd) (ka : Option Addr) (kc : Nat) : ∀ u ∈ hdl x ka kc, u.oneCell' = true := by
 intro u hu
 simp [hdl] at hu
 rcases hu with rfl | rfl | rfl <;> rfl
section
variable {ops : Array Oper} {rest : List Oper} {o : Oper} {a : Act} {w : World} {Q : Exit → Act → World → Prop}
theorem wpList_storeCy (hgd : o.guard = none) (x y : Operand) (ho : o.op = .store 97 x y) (g : Nat) (hx : a.eval x = .pointer (some ⟨g, 71, none⟩)) (z : Py) (hy : a.eval y = .agg (pyl z).toArray) (c : Cm) (ka : Option Addr) (kc : Nat) (t : TypeId) (hg : w.heap[g]? = some (.cells (cmv c ka kc) t (0, 0)))
  (h : ∀ w', w'.heap[g]? = some (.cells (cmv { c with y := z } ka kc) t (0, 0)) → Frm [g] w w' → wpList Tryz.prog ops Q rest (a.put o.dst undef) w') : wpList Tryz.prog ops Q (o :: rest) a w := by
 refine wpList_store_mid hgd 97 x y ho g 71 (pyl z).toArray hx hy ?_ (szPv z) (all_oneCell_toArray (pyl_one z)) (h _ (cm_setY c ka kc z hg) (setCells_frm g _ 71 w))
 intro j hj
 simp only [List.size_toArray, pyl_length] at hj
 refine ⟨?_, frozen_of_row w g _ _ t hg⟩
 rw [cell_of_row w g _ _ t _ hg]
 simp [cmv_size]
 omega
theorem wpList_storeCh (hgd : o.guard = none) (x y : Operand) (ho : o.op = .store 99 x y) (g : Nat) (hx : a.eval x = .pointer (some ⟨g, 107, none⟩)) (z : Hd) (ka' : Option Addr) (kc' : Nat) (hy : a.eval y = .agg (hdl z ka' kc').toArray) (c : Cm) (ka : Option Addr) (kc : Nat) (t : TypeId) (hg : w.heap[g]? = some (.cells (cmv c ka kc) t (0, 0)))
  (h : ∀ w', w'.heap[g]? = some (.cells (cmv { c with h := z } ka' kc') t (0, 0)) → Frm [g] w w' → wpList Tryz.prog ops Q rest (a.put o.dst undef) w') : wpList Tryz.prog ops Q (o :: rest) a w := by
 refine wpList_store_mid hgd 99 x y ho g 107 (hdl z ka' kc').toArray hx hy ?_ szH (all_oneCell_toArray (hdl1 z ka' kc')) (h _ (cm_setH c ka ka' kc kc' z hg) (setCells_frm g _ 107 w))
 intro j hj
 simp only [List.size_toArray, hdl, List.length_cons, List.length_nil] at hj
 refine ⟨?_, frozen_of_row w g _ _ t hg⟩
 rw [cell_of_row w g _ _ t _ hg]
 simp [cmv_size]
 omega
end
theorem run_allocTos (w : World) : (Instr.alloc 48 true (.tuple #[])).run Tryz.prog w = .ok (.pointer (some ⟨w.heap.size, 0, none⟩)) (w.alloc (.cells #[.slice none 0 0] 48)) := by kernel_rfl
theorem run_allocPls (w : World) : (Instr.alloc 61 true (.tuple #[])).run Tryz.prog w = .ok (.pointer (some ⟨w.heap.size, 0, none⟩)) (w.alloc (.cells #[.slice none 0 0] 61)) := by kernel_rfl
theorem run_allocPy (w : World) : (Instr.alloc 97 true (.tuple #[])).run Tryz.prog w = .ok (.pointer (some ⟨w.heap.size, 0, none⟩)) (w.alloc (.cells (pyv p0) 97)) := by kernel_rfl
theorem run_allocHd (w : World) : (Instr.alloc 99 true (.tuple #[])).run Tryz.prog w = .ok (.pointer (some ⟨w.heap.size, 0, none⟩)) (w.alloc (.cells (hdv default none 0) 99)) := by kernel_rfl
theorem pyl_range {w : World} {g : Nat} {x : Py} {t : TypeId} {fr : Nat × Nat} (h : w.heap[g]? = some (.cells (pyv x) t fr)) : w.rangeAt g 0 (pyl x) := fun j v hv => by
 rw [Nat.zero_add, cell_of_row _ _ j _ _ _ h]
 simpa [pyv] using hv
theorem hdl_range {w : World} {g : Nat} {x : Hd} {ka : Option Addr} {kc : Nat} {t : TypeId} {fr : Nat × Nat} (h : w.heap[g]? = some (.cells (hdv x ka kc) t fr)) : w.rangeAt g 0 (hdl x ka kc) := fun j v hv => by
 rw [Nat.zero_add, cell_of_row _ _ j _ _ _ h]
 simpa [hdv, hdl] using hv
/-- The other side's, for either owner. -/
theorem other_any (c : Cm) (ka : Option Addr) (kc : Nat) (w : World) (ho : c.o = 0 ∨ c.o = 1) (hk : Ib c.P.k0 ∧ Ib c.P.k1) :
  Calls Tryz.prog 48 #[.agg (cmv c ka kc)] w (UndR 1 (fun _ => Cd.kb [keyS c.P (1 - c.o)]) w) := by
 obtain ⟨P, o, lk, y, h⟩ := c
 rcases ho with rfl | rfl
 ·exact other_0 P lk y h ka kc w hk.2
 ·exact other_1 P lk y h ka kc w hk.1
/-- What a commitment's outputs are: its own, the other side's, the payments', the holds'. -/
def ownO (c : Cm) (s : Sv) : To := ⟨leftF c.P s c.o, 2, fun i => if i = 0 then brS c c.o else rvS c⟩
def othO (c : Cm) (s : Sv) : To := ⟨leftF c.P s (1 - c.o), 1, fun _ => Cd.kb [keyS c.P (1 - c.o)]⟩
def payO (c : Cm) (y : Py) : To := ⟨y.am, 3, pdS { c with y := y }⟩
def hldO (x : Hd) : To := ⟨x.am, 1, fun _ => Cd.kb (Cd.insL x.z x.n)⟩
def sideO (c : Cm) (s : Sv) : List To := ifL (leftF c.P s c.o) (ownO c s) ++ ifL (leftF c.P s (1 - c.o)) (othO c s)
def sideZ (c : Cm) (s : Sv) : List (Int × Int) := ifL (leftF c.P s c.o) (1, 0) ++ ifL (leftF c.P s (1 - c.o)) (2, 0)
def paysO (c : Cm) (s : Sv) (n : Nat) : List To := sideO c s ++ (List.range n).map fun i => payO c (s.P i)
def paysZ (c : Cm) (s : Sv) (n : Nat) : List (Int × Int) := sideZ c s ++ (List.range n).map fun i => (3, (s.P i).id)
def outsO (c : Cm) (s : Sv) (n : Nat) : List To := paysO c s s.pn ++ (List.range n).map fun i => hldO (s.H i)
def outsZ (c : Cm) (s : Sv) (n : Nat) : List (Int × Int) := paysZ c s s.pn ++ (List.range n).map fun i => (4, (s.H i).id)
theorem sideO_len (c : Cm) (s : Sv) : (sideO c s).length ≤ 2 ∧ (sideZ c s).length ≤ 2 := by
 have h1 := ifL_len (leftF c.P s c.o) (ownO c s)
 have h2 := ifL_len (leftF c.P s (1 - c.o)) (othO c s)
 have h3 := ifL_len (leftF c.P s c.o) ((1, 0) : Int × Int)
 have h4 := ifL_len (leftF c.P s (1 - c.o)) ((2, 0) : Int × Int)
 simp only [sideO, sideZ, List.length_append]
 omega
theorem paysO_len (c : Cm) (s : Sv) (n : Nat) : (paysO c s n).length ≤ 2 + n ∧ (paysZ c s n).length ≤ 2 + n := by
 have := sideO_len c s
 simp only [paysO, paysZ, List.length_append, List.length_map, List.length_range]
 omega
theorem outsO_len (c : Cm) (s : Sv) (n : Nat) : (outsO c s n).length ≤ 2 + s.pn + n ∧ (outsZ c s n).length ≤ 2 + s.pn + n := by
 have := paysO_len c s s.pn
 simp only [outsO, outsZ, List.length_append, List.length_map, List.length_range]
 omega
theorem paysO_succ (c : Cm) (s : Sv) (n : Nat) (h : 10 ≤ (s.P n).am) : paysO c s n ++ ifL (s.P n).am (payO c (s.P n)) = paysO c s (n + 1) ∧ paysZ c s n ++ ifL (s.P n).am (3, (s.P n).id) = paysZ c s (n + 1) := by
 simp [paysO, paysZ, ifL, h, List.range_succ]
theorem outsO_succ (c : Cm) (s : Sv) (n : Nat) (h : 10 ≤ (s.H n).am) : outsO c s n ++ ifL (s.H n).am (hldO (s.H n)) = outsO c s (n + 1) ∧ outsZ c s n ++ ifL (s.H n).am (4, (s.H n).id) = outsZ c s (n + 1) := by
 simp [outsO, outsZ, ifL, h, List.range_succ]
/-- Params, an owner and a lock that may be. -/
structure CmOk (c : Cm) : Prop where
 o : c.o = 0 ∨ c.o = 1
 k : (0 ≤ c.P.k0 ∧ c.P.k0 ≤ 15) ∧ (0 ≤ c.P.k1 ∧ c.P.k1 ≤ 15)
 dl : 0 ≤ c.P.dl ∧ c.P.dl ≤ 65536
 fe : 0 ≤ c.P.fe ∧ c.P.fe ≤ 1125899906842624
 lk : Zb c.lk
theorem keyS_ib {c : Cm} (h : CmOk c) (d : Int) : Ib (keyS c.P d) := by
 have := h.k
 unfold keyS Ib
 split <;> omega
theorem nz_zb : Zb nz := fun j _ => by simp [nz]
theorem brS_ok {c : Cm} (h : CmOk c) (d : Int) : (brS c d).Ok := by
 refine ⟨fun j _ => keyS_ib h d, nz_zb, by simp [brS, Cd.Ib], ?_⟩
 have := h.dl
 simp only [brS, Cd.Ib]
 split <;> omega
theorem rvS_ok {c : Cm} (h : CmOk c) : (rvS c).Ok := ⟨fun j _ => keyS_ib h _, h.lk, by simp [rvS, Cd.Ib], by simp [rvS, Cd.Ib]⟩
theorem toS_ok {c : Cm} (h : CmOk c) (hy : Zb c.y.lk) : (toS c).Ok := ⟨(brS_ok h (1 - c.y.fr)).z, hy, (brS_ok h (1 - c.y.fr)).af, (brS_ok h (1 - c.y.fr)).ol⟩
theorem bkS_ok {c : Cm} (h : CmOk c) (hy : 0 ≤ c.y.af ∧ c.y.af ≤ 1099511627776) : (bkS c).Ok := ⟨(brS_ok h c.y.fr).z, (brS_ok h c.y.fr).lk, by simp only [bkS, Cd.Ib]; omega, (brS_ok h c.y.fr).ol⟩
theorem lay_start {w : World} {B bo bp bc : Nat} {c : Cm} {ka : Option Addr} {kc : Nat} (fo : w.heap[bo]? = some (.cells #[.slice none 0 0] 48 (0, 0))) (fp : w.heap[bp]? = some (.cells #[.slice none 0 0] 61 (0, 0))) (fc : w.heap[bc]? = some (.cells (cmv c ka kc) 104 (0, 0))) (lt : bo < B ∧ bp < B ∧ bc < B ∧ bo ≠ bp ∧ bo ≠ bc ∧ bp ≠ bc ∧ B ≤ w.heap.size) : LayS w B bo bp bc c ka kc [] [] :=
 ⟨none, 0, none, 0, fun _ => (none, 0), fun _ => (0, 0), fo, fp, fc, lt, World.ownsRow_nil _ _ _ _, World.ownsRow_nil _ _ _ _, (fun j hj => by simp at hj), (fun j hj => by simp at hj), (fun j hj => by simp at hj), (fun j hj => by simp at hj)⟩
theorem LayS.below {w w1 : World} {B bo bp bc : Nat} {c : Cm} {ka : Option Addr} {kc : Nat} {os : List To} {zs : List (Int × Int)} (h : LayS w B bo bp bc c ka kc os zs) (hb : Below w.heap.size w w1) : LayS w1 B bo bp bc c ka kc os zs := by
 obtain ⟨va, vc, ua, uc, A, I, h⟩ := h
 exact ⟨va, vc, ua, uc, A, I, h.below hb⟩
theorem LayS.setC {w w1 : World} {B bo bp bc : Nat} {c c' : Cm} {ka ka' : Option Addr} {kc kc' : Nat} {os : List To} {zs : List (Int × Int)} (h : LayS w B bo bp bc c ka kc os zs) (hf : Frm [bc] w w1) (hn : w1.heap[bc]? = some (.cells (cmv c' ka' kc') 104 (0, 0))) : LayS w1 B bo bp bc c' ka' kc' os zs := by
 obtain ⟨va, vc, ua, uc, A, I, h⟩ := h
 exact ⟨va, vc, ua, uc, A, I, h.setC hf hn⟩
theorem LayS.fc {w : World} {B bo bp bc : Nat} {c : Cm} {ka : Option Addr} {kc : Nat} {os : List To} {zs : List (Int × Int)} (h : LayS w B bo bp bc c ka kc os zs) : w.heap[bc]? = some (.cells (cmv c ka kc) 104 (0, 0)) ∧ B ≤ w.heap.size := by
 obtain ⟨va, vc, ua, uc, A, I, h⟩ := h
 exact ⟨h.fc, h.lt.2.2.2.2.2.2⟩
/-- The outputs and places as they are answered. -/
structure OutR (w : World) (B : Nat) (os : List To) (zs : List (Int × Int)) (va : Option Addr) (vc : Nat) (ua : Option Addr) (uc : Nat) (A : Nat → Option Addr × Nat) (I : Nat → Nat × Nat) : Prop where
 outs : w.ownsRow B 95 2 (.slice va os.length vc) os.length (flatL (oL os A) os.length)
 pls : w.ownsRow B 71 2 (.slice ua zs.length uc) zs.length (flatL (pL zs) zs.length)
 cond : ∀ j, j < os.length → ∀ w' : World, (∀ k, (I j).1 ≤ k → k < (I j).2 → w'.heap[k]? = w.heap[k]?) → Cd.BrAt w' (A j).1 (os.getD j default).cn (os.getD j default).X
 int : ∀ j, j < os.length → B ≤ (I j).1 ∧ (I j).2 ≤ w.heap.size ∧ (A j).1 ≠ none
 apO : ∀ j, j < os.length → ∀ g, (Value.slice va os.length vc).ownBlock = some g → g < (I j).1 ∨ (I j).2 ≤ g
theorem LayR.out {w : World} {B bo bp bc : Nat} {c : Cm} {ka : Option Addr} {kc : Nat} {os : List To} {zs : List (Int × Int)} {va : Option Addr} {vc : Nat} {ua : Option Addr} {uc : Nat} {A : Nat → Option Addr × Nat} {I : Nat → Nat × Nat} (h : LayR w B bo bp bc c ka kc os zs va vc ua uc A I) {B' : Nat} (hB : B' ≤ B) : OutR w B' os zs va vc ua uc A I :=
 ⟨own_low h.outs hB, own_low h.pls hB, h.cond, fun j hj => ⟨by have := (h.int j hj).1; omega, (h.int j hj).2⟩, h.apO⟩
end Go.Proofs.YtjnepkggdkccaaaGreatDoor
/- The document's outputs and places of a commitment, laid one behind the other. -/
namespace Go.Proofs.YtjnepkggdkccaaaGreatDoor
open Go.RowKit

/-- What has been laid: each output's condition lies in blocks that nobody else uses, and in kx, where the key of the branch lies that all share. -/
structure LayD (w : World) (B kx : Nat) (x : Int) (os : List To) (zs : List (Int × Int)) (va : Option Addr) (vc : Nat) (ua : Option Addr) (uc : Nat) (A : Nat → Option Addr × Nat) (I : Nat → Nat × Nat) : Prop where
 fx : w.heap[kx]? = some (.cells #[.int .i64 x] 3 (0, 0))
 lt : kx < B ∧ B ≤ w.heap.size
 outs : w.ownsRow B 124 2 (.slice va os.length vc) os.length (flatL (oL os A) os.length)
 pls : w.ownsRow B 72 2 (.slice ua zs.length uc) zs.length (flatL (pL zs) zs.length)
 cond : ∀ j, j < os.length → ∀ w' : World, w'.heap[kx]? = w.heap[kx]? → (∀ k, (I j).1 ≤ k → k < (I j).2 → w'.heap[k]? = w.heap[k]?) → Cd.BrAt w' (A j).1 (os.getD j default).cn (os.getD j default).X
 int : ∀ j, j < os.length → B ≤ (I j).1 ∧ (I j).2 ≤ w.heap.size ∧ (A j).1 ≠ none
 apO : ∀ j, j < os.length → ∀ g, (Value.slice va os.length vc).ownBlock = some g → g < (I j).1 ∨ (I j).2 ≤ g
 apP : ∀ j, j < os.length → ∀ g, (Value.slice ua zs.length uc).ownBlock = some g → g < (I j).1 ∨ (I j).2 ≤ g
section
variable {w w1 : World} {B kx : Nat} {x : Int} {os : List To} {zs : List (Int × Int)} {va : Option Addr} {vc : Nat} {ua : Option Addr} {uc : Nat} {A : Nat → Option Addr × Nat} {I : Nat → Nat × Nat}
theorem LayD.below (h : LayD w B kx x os zs va vc ua uc A I) (hb : Below w.heap.size w w1) : LayD w1 B kx x os zs va vc ua uc A I := by
 have hs := hb.size
 refine ⟨heap_below hb h.fx, ⟨h.lt.1, by have := h.lt.2; omega⟩, own_below h.outs hb, own_below h.pls hb, fun j hj w' hx hw => h.cond j hj w' ?_ (fun k h1 h2 => ?_), fun j hj => ⟨(h.int j hj).1, by have := (h.int j hj).2.1; omega, (h.int j hj).2.2⟩, h.apO, h.apP⟩
 ·rw [hx]; exact hb.block kx (lt_of_block h.fx)
 ·rw [hw k h1 h2]
  exact hb.block k (by have := (h.int j hj).2.1; omega)
theorem LayD.pushO (h : LayD w B kx x os zs va vc ua uc A I) {y : To} {ca va' : Option Addr} {cc vc' lo hi : Nat}
  (hown : w1.ownsRow B 124 2 (.slice va' (os.length + 1) vc') (os.length + 1) (flatL (oL os A) os.length ++ tol y ca cc)) (hg : w.grownBy w1 (Value.slice va os.length vc).ownBlock) (hloc : (Value.slice va' (os.length + 1) vc').ownBlock = (Value.slice va os.length vc).ownBlock ∨ (Value.slice va' (os.length + 1) vc').ownBlock = some w.heap.size)
  (hc : ∀ w' : World, w'.heap[kx]? = w.heap[kx]? → (∀ k, lo ≤ k → k < hi → w'.heap[k]? = w.heap[k]?) → Cd.BrAt w' ca y.cn y.X) (hlo : B ≤ lo) (hhi : hi ≤ w.heap.size) (hva : ∀ g, (Value.slice va os.length vc).ownBlock = some g → g < lo) (hua : ∀ g, (Value.slice ua zs.length uc).ownBlock = some g → g < lo) (hca : ca ≠ none) :
  LayD w1 B kx x (os ++ [y]) zs va' vc' ua uc (fun j => if j = os.length then (ca, cc) else A j) (fun j => if j = os.length then (lo, hi) else I j) := by
 obtain ⟨l1, l7⟩ := h.lt
 have hlt := h.outs.lt
 have kept : ∀ k, k < w.heap.size → (∀ g, (Value.slice va os.length vc).ownBlock = some g → k ≠ g) → w1.heap[k]? = w.heap[k]? := fun k hk ho => hg.block k hk (fun e => ho k e.symm rfl)
 have keptB : ∀ k, k < B → w1.heap[k]? = w.heap[k]? := fun k hk => kept k (by omega) (fun g e => by have := (hlt g e).1; omega)
 have hnew : ∀ g, (Value.slice va' (os.length + 1) vc').ownBlock = some g → (Value.slice va os.length vc).ownBlock = some g ∨ g = w.heap.size := fun g e => by
  rcases hloc with h1 | h1
  ·exact .inl (h1 ▸ e)
  ·rw [h1] at e; exact .inr (by simpa using e.symm)
 have hll : (os ++ [y]).length = os.length + 1 := by simp
 have hsz := hg.size
 refine ⟨by rw [keptB kx l1]; exact h.fx, ⟨l1, by omega⟩, ?_, ?_, fun j hj w' hx hw => ?_, fun j hj => ?_, fun j hj g e => ?_, fun j hj g e => ?_⟩
 ·rw [oL_push, hll]; exact hown
 ·refine own_keep h.pls (fun g e => kept g (h.pls.lt g e).2 (fun g' e' he => ?_))
  subst he
  exact own_apart h.outs h.pls (by decide) g e' e
 ·rw [hll] at hj
  rw [keptB kx l1] at hx
  by_cases ej : j = os.length
  ·subst ej
   simp only [if_true] at hw ⊢
   have : (os ++ [y]).getD os.length default = y := by simp
   rw [this]
   exact hc w' hx (fun k h1 h2 => by rw [hw k h1 h2]; exact kept k (by omega) (fun g e => by have := hva g e; omega))
  ·have hj' : j < os.length := by omega
   simp only [if_neg ej] at hw ⊢
   have : (os ++ [y]).getD j default = os.getD j default := by simp only [List.getD_eq_getElem?_getD, List.getElem?_append_left hj']
   rw [this]
   have hI := h.int j hj'
   exact h.cond j hj' w' hx (fun k h1 h2 => by rw [hw k h1 h2]; exact kept k (by omega) (fun g e => by have := h.apO j hj' g e; omega))
 ·rw [hll] at hj
  by_cases ej : j = os.length
  ·simp only [if_pos ej]; exact ⟨hlo, by omega, hca⟩
  ·simp only [if_neg ej]
   have hI := h.int j (by omega)
   exact ⟨hI.1, by omega, hI.2.2⟩
 ·rw [hll] at hj e
  by_cases ej : j = os.length
  ·simp only [if_pos ej]
   rcases hnew g e with h1 | h1
   ·have := hva g h1; omega
   ·omega
  ·simp only [if_neg ej]
   have hI := h.int j (by omega)
   rcases hnew g e with h1 | h1
   ·exact h.apO j (by omega) g h1
   ·omega
 ·rw [hll] at hj
  by_cases ej : j = os.length
  ·simp only [if_pos ej]; have := hua g e; omega
  ·simp only [if_neg ej]; exact h.apP j (by omega) g e
theorem LayD.pushP (h : LayD w B kx x os zs va vc ua uc A I) {y : Int × Int} {ua' : Option Addr} {uc' : Nat}
  (hown : w1.ownsRow B 72 2 (.slice ua' (zs.length + 1) uc') (zs.length + 1) (flatL (pL zs) zs.length ++ [.int .i64 y.1, .int .i64 y.2])) (hg : w.grownBy w1 (Value.slice ua zs.length uc).ownBlock) (hloc : (Value.slice ua' (zs.length + 1) uc').ownBlock = (Value.slice ua zs.length uc).ownBlock ∨ (Value.slice ua' (zs.length + 1) uc').ownBlock = some w.heap.size) :
  LayD w1 B kx x os (zs ++ [y]) va vc ua' uc' A I := by
 obtain ⟨l1, l7⟩ := h.lt
 have hlt := h.pls.lt
 have kept : ∀ k, k < w.heap.size → (∀ g, (Value.slice ua zs.length uc).ownBlock = some g → k ≠ g) → w1.heap[k]? = w.heap[k]? := fun k hk ho => hg.block k hk (fun e => ho k e.symm rfl)
 have keptB : ∀ k, k < B → w1.heap[k]? = w.heap[k]? := fun k hk => kept k (by omega) (fun g e => by have := (hlt g e).1; omega)
 have hll : (zs ++ [y]).length = zs.length + 1 := by simp
 have hsz := hg.size
 refine ⟨by rw [keptB kx l1]; exact h.fx, ⟨l1, by omega⟩, ?_, ?_, fun j hj w' hx hw => ?_, fun j hj => ?_, h.apO, fun j hj g e => ?_⟩
 ·refine own_keep h.outs (fun g e => kept g (h.outs.lt g e).2 (fun g' e' he => ?_))
  subst he
  exact own_apart h.outs h.pls (by decide) g e e'
 ·rw [pL_push, hll]; exact hown
 ·rw [keptB kx l1] at hx
  have hI := h.int j hj
  exact h.cond j hj w' hx (fun k h1 h2 => by rw [hw k h1 h2]; exact kept k (by omega) (fun g e => by have := h.apP j hj g e; omega))
 ·have hI := h.int j hj
  exact ⟨hI.1, by omega, hI.2.2⟩
 ·rw [hll] at e
  have hI := h.int j hj
  rcases hloc with h1 | h1
  ·exact h.apP j hj g (h1 ▸ e)
  ·rw [h1] at e
   have : g = w.heap.size := by simpa using e.symm
   omega
end
def LaidD (w : World) (B kx : Nat) (x : Int) (os : List To) (zs : List (Int × Int)) (va : Option Addr) (vc : Nat) (ua : Option Addr) (uc : Nat) : Prop := ∃ A I, LayD w B kx x os zs va vc ua uc A I
theorem infoTr : (Tryz.prog.info? 124).map (fun i => (i.zero, i.size, i.bytes)) = some (some (.agg #[.int .i64 0, .slice none 0 0]), 2, 32) := by kernel_rfl
theorem slice_tr (am : Int) (ca : Option Addr) (n cc : Nat) (w : World) : (Instr.buildSlice 56 1 #[(0, .agg #[.int .i64 am, .slice ca n cc])]).run Tryz.prog w = .ok (.slice (some ⟨w.heap.size, 0, none⟩) 1 1) (w.alloc (.cells #[.int .i64 am, .slice ca n cc] 124)) := by kernel_rfl
theorem run_append_Tr (w : World) (B q : Nat) (ty : TypeId) (v : Value) (i : Nat) (xs : List Value) (am : Int) (ca : Option Addr) (n cc : Nat) (hown : w.ownsRow B 124 2 v i xs) (hB : B ≤ w.heap.size) (hq : w.heap[q]? = some (.cells #[.int .i64 am, .slice ca n cc] 124 (0, 0))) (hi : i ≤ 1000000) :
  ∃ va vc w1, (Builtin.append_ #[56, 56] ty #[v, .slice (some ⟨q, 0, none⟩) 1 1]).run Tryz.prog w = .ok (.slice va (i + 1) vc) w1 ∧ w1.ownsRow B 124 2 (.slice va (i + 1) vc) (i + 1) (xs ++ [.int .i64 am, .slice ca n cc]) ∧ w.grownBy w1 v.ownBlock ∧ ((Value.slice va (i + 1) vc).ownBlock = v.ownBlock ∨ (Value.slice va (i + 1) vc).ownBlock = some w.heap.size) := by
 obtain ⟨i0, hi0, hz0, hz1, hz2⟩ := info_parts infoTr
 obtain ⟨v', w1, hr, h2, h3, _, h5⟩ := run_append_own_at (P := Tryz.prog) w B 56 ty 124 i0 (.agg #[.int .i64 0, .slice none 0 0]) 2 32 Tryz.underlying56 hi0 hz0 hz1 hz2 rfl (by omega) v i xs hown ⟨q, 0, none⟩ 1 1 [.int .i64 am, .slice ca n cc] rfl (fun j u hj => by
   rw [Addr.add_lit, Nat.zero_add, cell_of_row _ _ j _ _ _ hq]
   simpa using hj) (fun u hu => by simp at hu; rcases hu with rfl | rfl <;> rfl) (by unfold maxLen; omega) (by omega) hB
 obtain ⟨va, vc, rfl, _, _⟩ := own_frmV h2
 exact ⟨va, vc, w1, hr, h2, h3, h5⟩
section
variable {ops : Array Oper} {rest : List Oper} {o : Oper} {a : Act} {w : World} {Q : Exit → Act → World → Prop} {K : Act → World → Prop} {E : Prop}
/-- One more output, in a region that draws or not: a slice of one, then an append. -/
theorem step_sliceTr (hgd : o.guard = none) (x : Operand) (ho : o.op = .buildSlice 56 1 #[(0, x)]) (am : Int) (ca : Option Addr) (n cc : Nat) (hx : a.eval x = .agg #[.int .i64 am, .slice ca n cc])
  (h : ∀ q w1, w1.heap[q]? = some (.cells #[.int .i64 am, .slice ca n cc] 124 (0, 0)) → w.heap.size ≤ q → Below w.heap.size w w1 → K (a.put o.dst (.slice (some ⟨q, 0, none⟩) 1 1)) w1) : if Region.wanted o (yielded ops a.tmps) = true then Oper.wp Tryz.prog o a w K Q else E := by
 have hw : Region.wanted o (yielded ops a.tmps) = true := by simp [Region.wanted, hgd]
 rw [if_pos hw]
 unfold Oper.wp execOp
 simp only [ho, List.map_toArray, List.map_cons, List.map_nil, hx, Sem.run_bind, slice_tr, Result.andThen]
 exact h _ _ (heap_alloc_new _ _) (Nat.le_refl _) ((Below.refl _ _).alloc (Nat.le_refl _) _)
end
end Go.Proofs.YtjnepkggdkccaaaGreatDoor
