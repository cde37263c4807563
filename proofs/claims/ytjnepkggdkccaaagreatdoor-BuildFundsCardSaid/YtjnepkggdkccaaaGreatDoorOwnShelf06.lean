/- What is in a state together. -/
import Derived.Test.YtjnepkggdkccaaaGreatDoorOwnShelf05
import Derived.Test.YtjnepkggdkccaaaGreatDoorOwnShelf04
import Derived.Test.YtjnepkggdkccaaaGreatDoorOwnShelf01
import Derived.Deep.MidRow
import Derived.OrdersHeld
import Derived.Great.Ranges
namespace Go.Proofs.YtjnepkggdkccaaaGreatDoor
open Go.RowKit
theorem chkV_ok {s : Sv} (h : SOk s) : errV (chkE s) = .nilIface := by rw [chkE, if_pos h]; rfl
theorem chkV_bad {s : Sv} (h : ¬ SOk s) : errV (chkE s) = .iface 101 (.int .i64 1) := by rw [chkE, if_neg h]; rfl
def totF (s : Sv) : Int := if SOk s then tot s else 0
set_option maxRecDepth 100000 in
set_option maxHeartbeats 1600000 in
theorem total_any (s : Sv) (p : Pl) (w : World) (h : SvAt w s p) (hs : s.Small) :
  Calls Tryz.prog 35 #[.agg (svv s p)] w fun e w' => e = .returned (.int .i64 (totF s)) ∧ Below w.heap.size w w' := by
 have hb0 : Below w.heap.size w (w.alloc (.cells (svv s p) 45)) := (Below.refl _ w).alloc (Nat.le_refl _) _
 have hr0 := heap_alloc_new w (.cells (svv s p) 45)
 have hc := check_any s p _ (h.below hb0) hs
 by_cases hk : SOk s
 ·have ht : ∀ w1, Below w.heap.size w w1 → Calls Tryz.prog 63 #[.agg (svv s p)] w1 fun e w' => e = .returned (.int .i64 (tot s)) ∧ Below w1.heap.size w1 w' := fun w1 hb => together_any s p w1 (h.below hb) hk.1 hk.2.1
  have e : totF s = tot s := if_pos hk
  rw [chkV_ok hk] at hc
  rw [e]
  clear h hs e
  unfold svv at hb0 hr0 hc ht ⊢
  go_enter Tryz.func35, Tryz.ntmps35
  go_wp2_with fail
  generalize w.alloc (.cells #[.int .i64 s.nu, .int .i64 s.a, .int .i64 s.b, .slice p.pa s.pn p.pc, .slice p.ha s.hn p.hc] 45) = W0 at *
  refine hc.mono ?_
  rintro e w1 ⟨rfl, hb1⟩
  have k0 := hb1.block _ (lt_of_block hr0)
  rw [hr0] at k0
  have c0 := cell_of_row _ _ 0 _ _ _ k0
  have e0 : #[Value.int .i64 s.nu, .int .i64 s.a, .int .i64 s.b, .slice p.pa s.pn p.pc, .slice p.ha s.hn p.hc][0]? = some (.int .i64 s.nu) := rfl
  rw [e0] at c0
  clear e0
  have c1 := cell_of_row _ _ 1 _ _ _ k0
  have e1 : #[Value.int .i64 s.nu, .int .i64 s.a, .int .i64 s.b, .slice p.pa s.pn p.pc, .slice p.ha s.hn p.hc][1]? = some (.int .i64 s.a) := rfl
  rw [e1] at c1
  clear e1
  have c2 := cell_of_row _ _ 2 _ _ _ k0
  have e2 : #[Value.int .i64 s.nu, .int .i64 s.a, .int .i64 s.b, .slice p.pa s.pn p.pc, .slice p.ha s.hn p.hc][2]? = some (.int .i64 s.b) := rfl
  rw [e2] at c2
  clear e2
  have c3 := cell_of_row _ _ 3 _ _ _ k0
  have e3 : #[Value.int .i64 s.nu, .int .i64 s.a, .int .i64 s.b, .slice p.pa s.pn p.pc, .slice p.ha s.hn p.hc][3]? = some (.slice p.pa s.pn p.pc) := rfl
  rw [e3] at c3
  clear e3
  have c4 := cell_of_row _ _ 4 _ _ _ k0
  have e4 : #[Value.int .i64 s.nu, .int .i64 s.a, .int .i64 s.b, .slice p.pa s.pn p.pc, .slice p.ha s.hn p.hc][4]? = some (.slice p.ha s.hn p.hc) := rfl
  rw [e4] at c4
  clear e4
  have HB : Hid (Below w.heap.size w w1) := hb0.trans (hb1.mono hb0.size)
  have ht1 := ht w1 HB.out
  clear hc hb0 hb1 hr0 k0 ht hk
  go_wp2_with fail
  refine ht1.mono ?_
  rintro e w2 ⟨rfl, hb2⟩
  have HB2 : Hid (Below w.heap.size w w2) := HB.out.trans (hb2.mono HB.out.size)
  clear ht1 hb2 c0 c1 c2 c3 c4
  go_wp2
  go_ret
  exact ⟨rfl, HB2.out⟩
 ·have e : totF s = 0 := if_neg hk
  rw [chkV_bad hk] at hc
  rw [e]
  clear h hs e hk
  unfold svv at hb0 hr0 hc ⊢
  go_enter Tryz.func35, Tryz.ntmps35
  go_wp2_with fail
  generalize w.alloc (.cells #[.int .i64 s.nu, .int .i64 s.a, .int .i64 s.b, .slice p.pa s.pn p.pc, .slice p.ha s.hn p.hc] 45) = W0 at *
  refine hc.mono ?_
  rintro e w1 ⟨rfl, hb1⟩
  have HB : Hid (Below w.heap.size w w1) := hb0.trans (hb1.mono hb0.size)
  clear hc hb0 hb1 hr0
  go_wp2
  go_ret
  exact ⟨rfl, HB.out⟩
end Go.Proofs.YtjnepkggdkccaaaGreatDoor
/- What is in a state together, the document's. -/
namespace Go.Proofs.YtjnepkggdkccaaaGreatDoor
open Go.RowKit
set_option maxRecDepth 100000 in
set_option maxHeartbeats 1600000 in
theorem rtotal_any (s : Sv) (p : Pl) (w : World) (h : SvAt w s p) (hs : s.Small) :
  Calls Tryz.prog 38 #[.agg (svv s p)] w fun e w' => e = .returned (.int .i64 (totF s)) ∧ Below w.heap.size w w' := by
 have hb0 : Below w.heap.size w (w.alloc (.cells (svv s p) 32)) := (Below.refl _ w).alloc (Nat.le_refl _) _
 have hr0 := heap_alloc_new w (.cells (svv s p) 32)
 have hc := rcheck_any s p _ (h.below hb0) hs
 by_cases hk : SOk s
 ·have ht : ∀ w1, Below w.heap.size w w1 → Calls Tryz.prog 67 #[.agg (svv s p)] w1 fun e w' => e = .returned (.int .i64 (tot s)) ∧ Below w1.heap.size w1 w' := fun w1 hb => rsum_any s p w1 (h.below hb) hk.1 hk.2.1
  have e : totF s = tot s := if_pos hk
  have e0 : chkE s = 0 := if_pos hk
  rw [e0] at hc
  rw [e]
  clear h hs e e0
  unfold svv at hb0 hr0 hc ht ⊢
  go_enter Tryz.func38, Tryz.ntmps38
  go_wp2_with fail
  generalize w.alloc (.cells #[.int .i64 s.nu, .int .i64 s.a, .int .i64 s.b, .slice p.pa s.pn p.pc, .slice p.ha s.hn p.hc] 32) = W0 at *
  refine hc.mono ?_
  rintro e w1 ⟨rfl, hb1⟩
  have k0 := hb1.block _ (lt_of_block hr0)
  rw [hr0] at k0
  obtain ⟨c0, c1, c2, c3, c4, cf⟩ := five_of k0
  have HB : Hid (Below w.heap.size w w1) := hb0.trans (hb1.mono hb0.size)
  have ht1 := ht w1 HB.out
  clear hc hb0 hb1 hr0 k0 ht hk
  go_wp2_with fail
  refine ht1.mono ?_
  rintro e w2 ⟨rfl, hb2⟩
  have HB2 : Hid (Below w.heap.size w w2) := HB.out.trans (hb2.mono HB.out.size)
  clear ht1 hb2 c0 c1 c2 c3 c4 cf
  go_wp2
  go_ret
  exact ⟨rfl, HB2.out⟩
 ·have e : totF s = 0 := if_neg hk
  have e0 : chkE s = 1 := if_neg hk
  rw [e0] at hc
  rw [e]
  clear h hs e hk e0
  unfold svv at hb0 hr0 hc ⊢
  go_enter Tryz.func38, Tryz.ntmps38
  go_wp2_with fail
  generalize w.alloc (.cells #[.int .i64 s.nu, .int .i64 s.a, .int .i64 s.b, .slice p.pa s.pn p.pc, .slice p.ha s.hn p.hc] 32) = W0 at *
  refine hc.mono ?_
  rintro e w1 ⟨rfl, hb1⟩
  have HB : Hid (Below w.heap.size w w1) := hb0.trans (hb1.mono hb0.size)
  clear hc hb0 hb1 hr0
  go_wp2
  go_ret
  exact ⟨rfl, HB.out⟩
end Go.Proofs.YtjnepkggdkccaaaGreatDoor
/- Laws for rows of any type: alloc, store of the whole, load. -/
namespace Go.Proofs.YtjnepkggdkccaaaGreatDoor
open Go.RowKit
section
variable {ops : Array Oper} {rest : List Oper} {o : Oper} {a : Act} {w : World} {Q : Exit → Act → World → Prop}
theorem wpList_allocG (T : TypeId) (z : Array Value) (hrun : ∀ w : World, (Instr.alloc T true (.tuple #[])).run Tryz.prog w = .ok (.pointer (some ⟨w.heap.size, 0, none⟩)) (w.alloc (.cells z T))) (hgd : o.guard = none) (ho : o.op = .alloc T)
  (h : wpList Tryz.prog ops Q rest (a.put o.dst (.pointer (some ⟨w.heap.size, 0, none⟩))) (w.alloc (.cells z T))) : wpList Tryz.prog ops Q (o :: rest) a w := by
 refine wpList_plain hgd fun K hK => ?_
 unfold Oper.wp execOp
 simp only [ho, Sem.run_bind, hrun, Result.andThen]
 exact hK _ _ h
theorem wpList_storeG (T : TypeId) {n : Nat} (hT : (Tryz.prog.info? T).map (·.size) = some n) (hgd : o.guard = none) (x y : Operand) (ho : o.op = .store T x y) (g : Nat) (hx : a.eval x = .pointer (some ⟨g, 0, none⟩)) (cs old : Array Value) (hl : cs.size = n) (hu : old.size = n) (h1 : cs.all (·.oneCell') = true) (t : TypeId) (hy : a.eval y = .agg cs) (hg : w.heap[g]? = some (.cells old t (0, 0)))
  (h : ∀ w', w'.heap[g]? = some (.cells cs t (0, 0)) → Frm [g] w w' → wpList Tryz.prog ops Q rest (a.put o.dst undef) w') : wpList Tryz.prog ops Q (o :: rest) a w := by
 refine wpList_store_mid hgd T x y ho g 0 cs hx hy ?_ (by rw [hl]; exact hT) h1 (h _ ?_ (setCells_frm g _ 0 w))
 ·intro j hj
  rw [hl] at hj
  refine ⟨?_, ?_⟩
  ·rw [Nat.zero_add, cell_of_row w g j _ t _ hg]
   simp [hu, hj]
  ·rw [Nat.zero_add]; exact frozen_of_row w g j _ t hg
 ·have := setCells_at g cs.toList 0 w [] old.toList t (by simpa using hg) rfl (by simp [hl, hu])
  rw [this]
  simp [hl, hu, List.drop_eq_nil_of_le]
end
/-- What holds on the way may be more. -/
theorem kwpAnyH_more {P : Program} {md : Region.Mode} {ops : Array Oper} {Q : Exit → Act → World → Prop} {S S' : World → Prop} (hS : ∀ w, S' w → S w) : ∀ (fuel : Nat) (listed : Array Bool) (a : Act) (w : World), wpAnyH P md ops Q S' fuel listed a w → wpAnyH P md ops Q S fuel listed a w
 | 0, _, _, _, h => h
 | fuel + 1, _, _, _, h => ⟨h.1, fun i hi => wpOp_mono (fun a' w' h' => ⟨hS w' h'.1, kwpAnyH_more hS fuel _ a' w' h'.2⟩) (h.2 i hi)⟩
end Go.Proofs.YtjnepkggdkccaaaGreatDoor
/- build: params, and whether a state can stand on them. -/
namespace Go.Proofs.YtjnepkggdkccaaaGreatDoor
open Go.RowKit

/-- What params say. -/
structure Pm where
 pt : Nat → Int
 n : Int
 am : Int
 k0 : Int
 k1 : Int
 dl : Int
 fe : Int
/-- Their 38 cells. -/
def pml (P : Pm) : List Value := bl P.pt 32 ++ [.int .i64 P.n, .int .i64 P.am, .int .i64 P.k0, .int .i64 P.k1, .int .i64 P.dl, .int .i64 P.fe]
theorem pml_length (P : Pm) : (pml P).length = 38 := by simp [pml, bl_length]
def pmv (P : Pm) : Array Value := (pml P).toArray
theorem pmv_size (P : Pm) : (pmv P).size = 38 := by simp [pmv, pml_length]
theorem pml_at (P : Pm) (k : Nat) (h : 32 ≤ k) : (pml P)[k]? = [Value.int .i64 P.n, .int .i64 P.am, .int .i64 P.k0, .int .i64 P.k1, .int .i64 P.dl, .int .i64 P.fe][k - 32]? := by
 rw [pml, List.getElem?_append_right (by rw [bl_length]; exact h), bl_length]
theorem pml_one (P : Pm) : ∀ u ∈ pml P, u.oneCell' = true := by
 intro u hu
 simp only [pml, List.mem_append] at hu
 rcases hu with hu | hu
 ·exact bl_one _ _ _ hu
 ·simp at hu
  rcases hu with rfl | rfl | rfl | rfl | rfl | rfl <;> rfl
theorem szPm : (Tryz.prog.info? 40).map (·.size) = some 38 := by kernel_rfl
theorem szPml (P : Pm) : (Tryz.prog.info? 40).map (·.size) = some (pml P).length := by rw [pml_length]; exact szPm
theorem pml_range {w : World} {g : Nat} {P : Pm} {t : TypeId} {fr : Nat × Nat} (h : w.heap[g]? = some (.cells (pmv P) t fr)) : w.rangeAt g 0 (pml P) := fun j v hv => by
 rw [Nat.zero_add, cell_of_row _ _ j _ _ _ h]
 simpa [pmv] using hv
/-- What a block that holds params, from an offset on, gives a walk. -/
structure PmBox (w : World) (g o : Nat) (P : Pm) : Prop where
 n : w.cell? ⟨g, o + 32, none⟩ = some (.int .i64 P.n)
 am : w.cell? ⟨g, o + 33, none⟩ = some (.int .i64 P.am)
 k0 : w.cell? ⟨g, o + 34, none⟩ = some (.int .i64 P.k0)
 k1 : w.cell? ⟨g, o + 35, none⟩ = some (.int .i64 P.k1)
 dl : w.cell? ⟨g, o + 36, none⟩ = some (.int .i64 P.dl)
 fe : w.cell? ⟨g, o + 37, none⟩ = some (.int .i64 P.fe)
theorem pmBox {w : World} {g o : Nat} {P : Pm} (h : w.rangeAt g o (pml P)) : PmBox w g o P :=
 ⟨h 32 _ (pml_at P 32 (by decide)), h 33 _ (pml_at P 33 (by decide)), h 34 _ (pml_at P 34 (by decide)), h 35 _ (pml_at P 35 (by decide)), h 36 _ (pml_at P 36 (by decide)), h 37 _ (pml_at P 37 (by decide))⟩
theorem bwithin_any (n l m : Int) (w : World) :
  Calls Tryz.prog 33 #[.int .i64 n, .int .i64 l, .int .i64 m] w fun e w' => e = .returned (.bool (decide (l ≤ n ∧ n ≤ m))) ∧ w' = w := by
 by_cases h : l ≤ n
 ·go_enter Tryz.func33, Tryz.ntmps33
  go_wp2
  go_ret
  simp [h]
 ·have e : decide (l ≤ n ∧ n ≤ m) = false := by simp; omega
  rw [e]
  go_enter Tryz.func33, Tryz.ntmps33
  go_wp2
  go_ret
  simp
theorem isParty_any (n : Int) (w : World) :
  Calls Tryz.prog 34 #[.int .i64 n] w fun e w' => e = .returned (.bool (decide (0 ≤ n ∧ n ≤ 15))) ∧ w' = w := by
 have hc := bwithin_any n 0 15 w
 generalize decide (0 ≤ n ∧ n ≤ 15) = r at *
 go_enter Tryz.func34, Tryz.ntmps34
 go_wp2_with fail
 refine hc.mono ?_
 rintro e w1 ⟨rfl, hW⟩
 rw [hW]
 clear hc
 go_wp2
 go_ret
 exact ⟨rfl, rfl⟩
/-- Params that may be; keys that may be. -/
def PmOk (P : Pm) : Prop := (1 ≤ P.dl ∧ P.dl ≤ 65536) ∧ (0 ≤ P.fe ∧ P.fe ≤ 1125899906842624)
instance (P : Pm) : Decidable (PmOk P) := inferInstanceAs (Decidable (_ ∧ _))
def KeyOk (P : Pm) : Prop := (0 ≤ P.k0 ∧ P.k0 ≤ 15) ∧ (0 ≤ P.k1 ∧ P.k1 ≤ 15) ∧ P.k0 ≠ P.k1
instance (P : Pm) : Decidable (KeyOk P) := inferInstanceAs (Decidable (_ ∧ _))
def bchkE (P : Pm) (s : Sv) : Int :=
 if ¬ (SOk s ∧ PmOk P) then 1 else if ¬ KeyOk P then 33 else if tot s ≠ P.am then 20 else if s.a < P.fe then 26 else 0
end Go.Proofs.YtjnepkggdkccaaaGreatDoor
/- build.Check. -/
namespace Go.Proofs.YtjnepkggdkccaaaGreatDoor
open Go.RowKit

theorem sv_range {w : World} {g : Nat} {s : Sv} {p : Pl} {t : TypeId} {fr : Nat × Nat} (h : w.heap[g]? = some (.cells (svv s p) t fr)) : w.rangeAt g 0 (svv s p).toList := fun j v hv => by
 rw [Nat.zero_add, cell_of_row _ _ j _ _ _ h]
 simpa using hv
set_option maxRecDepth 100000 in
set_option maxHeartbeats 3200000 in
theorem bcheck_any (P : Pm) (s : Sv) (p : Pl) (w : World) (h : SvAt w s p) (hs : s.Small) :
  Calls Tryz.prog 16 #[.agg (pmv P), .agg (svv s p)] w fun e w' => e = .returned (errV (bchkE P s)) ∧ Below w.heap.size w w' := by
 have hb0 : Below w.heap.size w ((w.alloc (.cells (pmv P) 40)).alloc (.cells (svv s p) 45)) := ((Below.refl _ w).alloc (Nat.le_refl _) _).alloc (by simp) _
 have hp0 : ((w.alloc (.cells (pmv P) 40)).alloc (.cells (svv s p) 45)).heap[w.heap.size]? = some (.cells (pmv P) 40 (0, 0)) := by rw [Below.heap_alloc _ _ _ (by simp)]; exact heap_alloc_new w _
 have hq0 : ((w.alloc (.cells (pmv P) 40)).alloc (.cells (svv s p) 45)).heap[w.heap.size + 1]? = some (.cells (svv s p) 45 (0, 0)) := by
  have := heap_alloc_new (w.alloc (.cells (pmv P) 40)) (.cells (svv s p) 45)
  simpa using this
 have HBX : Hid (∀ w', Below ((w.alloc (.cells (pmv P) 40)).alloc (.cells (svv s p) 45)).heap.size ((w.alloc (.cells (pmv P) 40)).alloc (.cells (svv s p) 45)) w' → PmBox w' w.heap.size 0 P ∧ w'.rangeAt (w.heap.size + 1) 0 (svv s p).toList) := fun w' hb =>
  ⟨pmBox (range_below (pml_range hp0) hb), range_below (sv_range hq0) hb⟩
 have HH : Hid (SvAt w s p ∧ s.Small) := ⟨h, hs⟩
 have hc := check_any s p _ (h.below hb0) hs
 have HR0 : Hid (((w.alloc (.cells (pmv P) 40)).alloc (.cells (svv s p) 45)).rangeAt (w.heap.size + 1) 0 (svv s p).toList) := sv_range hq0
 clear h hs hp0 hq0
 go_enter Tryz.func16, Tryz.ntmps16
 go_wp2_with (first | (refine Go.Great.wpList_boxTo rfl _ _ rfl _ rfl _ rfl (pmv P) rfl ?_) | (refine Go.Great.wpList_boxTo rfl _ _ rfl _ rfl _ rfl (svv s p) rfl ?_) | (refine wpList_load_mid rfl 45 _ rfl (w.heap.size + 1) 0 rfl (svv s p).toList _ HR0.out Tryz.underlying45 rfl szS ?_) | fail)
 generalize (w.alloc (.cells (pmv P) 40)).alloc (.cells (svv s p) 45) = W0 at *
 refine hc.mono ?_
 rintro e w1 ⟨rfl, hb1⟩
 have HB1 : Hid (Below w.heap.size w w1) := hb0.trans (hb1.mono hb0.size)
 obtain ⟨⟨_, cam, ck0, ck1, cdl, cfe⟩, _⟩ := HBX.out w1 hb1
 simp only [Nat.zero_add] at cam ck0 ck1 cdl cfe
 have HB01 : Hid (Below W0.heap.size W0 w1) := hb1
 clear hc hb0 hb1 HR0
 by_cases hok : SOk s
 ·rw [chkV_ok hok]
  by_cases h1 : 1 ≤ P.dl ∧ P.dl ≤ 65536
  ·have d1 : decide (1 ≤ P.dl ∧ P.dl ≤ 65536) = true := by simpa using h1
   by_cases h2 : 0 ≤ P.fe ∧ P.fe ≤ 1125899906842624
   ·have d2 : decide (0 ≤ P.fe ∧ P.fe ≤ 1125899906842624) = true := by simpa using h2
    have HP : Hid (SOk s ∧ PmOk P) := ⟨hok, h1, h2⟩
    go_wp2_with fail
    refine (bwithin_any P.dl 1 65536 w1).mono ?_
    rintro e q1 ⟨rfl, hW⟩
    rw [hW, d1]
    clear hW
    go_wp2_with fail
    refine (bwithin_any P.fe 0 1125899906842624 w1).mono ?_
    rintro e q1 ⟨rfl, hW⟩
    rw [hW, d2]
    clear hW d1 d2 h1 h2 hok
    by_cases h3 : 0 ≤ P.k0 ∧ P.k0 ≤ 15
    ·have d3 : decide (0 ≤ P.k0 ∧ P.k0 ≤ 15) = true := by simpa using h3
     by_cases h4 : 0 ≤ P.k1 ∧ P.k1 ≤ 15
     ·have d4 : decide (0 ≤ P.k1 ∧ P.k1 ≤ 15) = true := by simpa using h4
      go_wp2_with fail
      refine (isParty_any P.k0 w1).mono ?_
      rintro e q1 ⟨rfl, hW⟩
      rw [hW, d3]
      clear hW
      go_wp2_with fail
      refine (isParty_any P.k1 w1).mono ?_
      rintro e q1 ⟨rfl, hW⟩
      rw [hW, d4]
      clear hW d3 d4
      by_cases h5 : P.k0 = P.k1
      ·have h5' : (P.k0 == P.k1) = true := by simpa using h5
       have HE : Hid (bchkE P s = 33) := by unfold bchkE; rw [if_neg (by simpa using HP.out), if_pos (fun h => h.2.2 h5)]; exact rfl
       clear h3 h4 h5
       go_wp2
       go_ret
       exact ⟨by rw [HE.out]; rfl, HB1.out⟩
      ·have h5' : (P.k0 == P.k1) = false := by simpa using h5
       have HK : Hid (KeyOk P) := ⟨h3, h4, h5⟩
       clear h3 h4 h5
       go_wp2_with fail
       have HS : Hid (∀ w', Below w1.heap.size w1 w' → w'.rangeAt (w.heap.size + 1) 0 (svv s p).toList ∧ w'.cell? ⟨w.heap.size, 33, none⟩ = some (.int .i64 P.am)) := fun w' hb => by
        have h1 := HBX.out w' (HB01.out.trans (hb.mono HB01.out.size))
        exact ⟨h1.2, by simpa using h1.1.am⟩
       have S0 := HS.out w1.drew (Below.refl _ w1).drew
       refine wp_region_noPanic ?_
       refine wp_region_held_drew (S := fun w' => w'.rangeAt (w.heap.size + 1) 0 (svv s p).toList ∧ w'.cell? ⟨w.heap.size, 33, none⟩ = some (.int .i64 P.am)) (by kernel_rfl) S0 (fun hHeld => ?_)
       refine wpAnyH_take (i := 0) (oi := ⟨some 38, .load 45 (.tmp 3), 45, _, _, none⟩) rfl (by kernel_rfl) (by kernel_rfl) (by kernel_rfl) (fun _ _ _ h => h) (yieldsIf_load_mid (by rfl) _ _ rfl (w.heap.size + 1) 0 rfl (svv s p).toList _ (fun _ h => h.1) Tryz.underlying45 rfl szS) (by assumption) ?_
       try simp only [Act.put, zA, zB, zC]
       refine wpT (i := 2) (oi := ⟨some 40, .fieldAddr 40 (.tmp 2) 1, 0, _, _, none⟩) (v := ?_) rfl (by kernel_rfl) (fun _ _ _ h => h) (Or.inl ⟨by rfl, ?_⟩) (by assumption) ?_
       rotate_left
       ·intro wz hSw; (try dsimp only at hSw); go_simp; (try with_reducible rfl)
       try simp only [Act.put, zA, zB, zC]
       refine wpT (i := 3) (oi := ⟨some 41, .load 3 (.tmp 40), 3, _, _, none⟩) (v := ?_) rfl (by kernel_rfl) (fun _ _ _ h => h) (Or.inl ⟨by rfl, ?_⟩) (by assumption) ?_
       rotate_left
       ·intro wz hSw; (try dsimp only at hSw); go_simp; (try with_reducible rfl)
       try simp only [Act.put, zA, zB, zC]
       refine wpAnyH_ready (rs := [1]) (by kernel_rfl) (by simp) ?_
       refine (AllReadyH.cons (o := ⟨some 39, .call { callee := Go.Callee.value (.func 35), args := #[.tmp 38], argTypes := #[45] }, 3, _, _, none⟩) rfl (fun K hK => ?_) AllReadyH.nil)
       go_simp
       refine (total_any s p w1.drew (HH.out.1.below HB1.out.drew) HH.out.2).mono ?_
       rintro e w2 ⟨rfl, hb2⟩
       have HB2 : Hid (Below w1.heap.size w1 w2) := (Below.refl _ w1).drew.trans hb2
       clear hb2
       have ht : totF s = tot s := if_pos HP.out.1
       rw [ht]
       clear ht
       refine hK.out _ _ (HS.out w2 HB2.out) (fun _ => ?_)
       clear hK K
       refine wpT (i := 4) (oi := ⟨some 42, .binOp .neq 3 (.tmp 39) (.tmp 41) 3, 4, _, _, none⟩) (v := ?_) rfl (by kernel_rfl) (fun _ _ _ h => h) (Or.inl ⟨by rfl, ?_⟩) (by assumption) ?_
       rotate_left
       ·intro wz hSw; (try dsimp only at hSw); go_simp; (try with_reducible rfl)
       try simp only [Act.put, zA, zB, zC]
       refine wpT (i := 5) (oi := ⟨some 37, .assign (.tmp 42), 4, _, _, none⟩) (v := ?_) rfl (by kernel_rfl) (fun _ _ _ h => h) (Or.inl ⟨by rfl, ?_⟩) (by assumption) ?_
       rotate_left
       ·intro wz hSw; (try dsimp only at hSw); go_simp; (try with_reducible rfl)
       try simp only [Act.put, zA, zB, zC]
       refine wpAnyH_done (by kernel_rfl) (NoPanic.normal ?_) _
       try simp only [Act.put, zA, zB, zC]
       clear hHeld S0
       have HBE : Hid (Below w.heap.size w w2) := HB1.out.trans (HB2.out.mono HB1.out.size)
       by_cases h6 : tot s = P.am
       ·have h6' : (tot s == P.am) = true := by simpa using h6
        obtain ⟨hbx, hrs⟩ := HBX.out w2 (HB01.out.trans (HB2.out.mono HB01.out.size))
        have c37 : w2.cell? ⟨w.heap.size, 37, none⟩ = some (.int .i64 P.fe) := by simpa using hbx.fe
        have ca : w2.cell? ⟨w.heap.size + 1, 1, none⟩ = some (.int .i64 s.a) := hrs 1 _ rfl
        clear hbx hrs
        by_cases h7 : s.a < P.fe
        ·have HE : Hid (bchkE P s = 26) := by unfold bchkE; rw [if_neg (by simpa using HP.out), if_neg (by simpa using HK.out), if_neg (by simpa using h6), if_pos h7]; exact rfl
         clear h6
         go_wp2
         go_ret
         exact ⟨by rw [HE.out]; rfl, HBE.out⟩
        ·have HE : Hid (bchkE P s = 0) := by unfold bchkE; rw [if_neg (by simpa using HP.out), if_neg (by simpa using HK.out), if_neg (by simpa using h6), if_neg h7]; exact rfl
         clear h6
         go_wp2
         go_ret
         exact ⟨by rw [HE.out]; rfl, HBE.out⟩
       ·have h6' : (tot s == P.am) = false := by simpa using h6
        have h6n : (tot s != P.am) = true := by simp [bne, h6']
        have HE : Hid (bchkE P s = 20) := by unfold bchkE; rw [if_neg (by simpa using HP.out), if_neg (by simpa using HK.out), if_pos h6]; exact rfl
        go_wp2
        go_ret
        exact ⟨by rw [HE.out]; rfl, HBE.out⟩
     ·have d4 : decide (0 ≤ P.k1 ∧ P.k1 ≤ 15) = false := by simpa using h4
      have HE : Hid (bchkE P s = 33) := by unfold bchkE; rw [if_neg (by simpa using HP.out), if_pos (fun h => h4 h.2.1)]; exact rfl
      go_wp2_with fail
      refine (isParty_any P.k0 w1).mono ?_
      rintro e q1 ⟨rfl, hW⟩
      rw [hW, d3]
      clear hW
      go_wp2_with fail
      refine (isParty_any P.k1 w1).mono ?_
      rintro e q1 ⟨rfl, hW⟩
      rw [hW, d4]
      clear hW d3 d4 h3 h4
      go_wp2
      go_ret
      exact ⟨by rw [HE.out]; rfl, HB1.out⟩
    ·have d3 : decide (0 ≤ P.k0 ∧ P.k0 ≤ 15) = false := by simpa using h3
     have HE : Hid (bchkE P s = 33) := by unfold bchkE; rw [if_neg (by simpa using HP.out), if_pos (fun h => h3 h.1)]; exact rfl
     go_wp2_with fail
     refine (isParty_any P.k0 w1).mono ?_
     rintro e q1 ⟨rfl, hW⟩
     rw [hW, d3]
     clear hW d3 h3
     go_wp2
     go_ret
     exact ⟨by rw [HE.out]; rfl, HB1.out⟩
   ·have d2 : decide (0 ≤ P.fe ∧ P.fe ≤ 1125899906842624) = false := by simpa using h2
    have HE : Hid (bchkE P s = 1) := if_pos (fun h => h2 h.2.2)
    go_wp2_with fail
    refine (bwithin_any P.dl 1 65536 w1).mono ?_
    rintro e q1 ⟨rfl, hW⟩
    rw [hW, d1]
    clear hW
    go_wp2_with fail
    refine (bwithin_any P.fe 0 1125899906842624 w1).mono ?_
    rintro e q1 ⟨rfl, hW⟩
    rw [hW, d2]
    clear hW d1 d2 h1 h2 hok
    go_wp2
    go_ret
    exact ⟨by rw [HE.out]; rfl, HB1.out⟩
  ·have d1 : decide (1 ≤ P.dl ∧ P.dl ≤ 65536) = false := by simpa using h1
   have HE : Hid (bchkE P s = 1) := if_pos (fun h => h1 h.2.1)
   go_wp2_with fail
   refine (bwithin_any P.dl 1 65536 w1).mono ?_
   rintro e q1 ⟨rfl, hW⟩
   rw [hW, d1]
   clear hW d1 h1 hok
   go_wp2
   go_ret
   exact ⟨by rw [HE.out]; rfl, HB1.out⟩
 ·rw [chkV_bad hok]
  have HE : Hid (bchkE P s = 1) := if_pos (fun h => hok h.1)
  clear hok
  go_wp2
  go_ret
  exact ⟨by rw [HE.out]; rfl, HB1.out⟩
end Go.Proofs.YtjnepkggdkccaaaGreatDoor
/- build.checkOwner, left. -/
namespace Go.Proofs.YtjnepkggdkccaaaGreatDoor
open Go.RowKit

def ownE (P : Pm) (s : Sv) (o : Int) : Int := if bchkE P s ≠ 0 then bchkE P s else if 0 ≤ o ∧ o ≤ 1 then 0 else 1
theorem hidV {p : Prop} (h : p) : Hid p := h
theorem berrV_0 : errV 0 = .nilIface := rfl
/-- What a side has behind the fee. -/
def leftF (P : Pm) (s : Sv) (o : Int) : Int := if o = 0 then s.a - P.fe else s.b
set_option maxRecDepth 100000 in
set_option maxHeartbeats 1600000 in
theorem checkOwner_any (P : Pm) (s : Sv) (p : Pl) (o : Int) (w : World) (h : SvAt w s p) (hs : s.Small) :
  Calls Tryz.prog 25 #[.agg (pmv P), .agg (svv s p), .int .i64 o] w fun e w' => e = .returned (errV (ownE P s o)) ∧ Below w.heap.size w w' := by
 have hb0 : Below w.heap.size w ((w.alloc (.cells (pmv P) 40)).alloc (.cells (svv s p) 45)) := ((Below.refl _ w).alloc (Nat.le_refl _) _).alloc (by simp) _
 have HP0 : Hid (((w.alloc (.cells (pmv P) 40)).alloc (.cells (svv s p) 45)).rangeAt w.heap.size 0 (pml P)) := pml_range (by rw [Below.heap_alloc _ _ _ (by simp)]; exact heap_alloc_new w _)
 have HR0 : Hid (((w.alloc (.cells (pmv P) 40)).alloc (.cells (svv s p) 45)).rangeAt (w.heap.size + 1) 0 (svv s p).toList) := sv_range (by
  have := heap_alloc_new (w.alloc (.cells (pmv P) 40)) (.cells (svv s p) 45)
  simpa using this)
 have hc := bcheck_any P s p _ (h.below hb0) hs
 unfold pmv at hc
 clear h hs
 go_enter Tryz.func25, Tryz.ntmps25
 go_wp2_with (first | (refine Go.Great.wpList_boxTo rfl _ _ rfl _ rfl _ rfl (pmv P) rfl ?_) | (refine Go.Great.wpList_boxTo rfl _ _ rfl _ rfl _ rfl (svv s p) rfl ?_) | (refine wpList_load_mid rfl 40 _ rfl w.heap.size 0 rfl (pml P) _ HP0.out Tryz.underlying40 rfl (szPml P) ?_) | (refine wpList_load_mid rfl 45 _ rfl (w.heap.size + 1) 0 rfl (svv s p).toList _ HR0.out Tryz.underlying45 rfl szS ?_) | fail)
 refine hc.mono ?_
 rintro e w1 ⟨rfl, hb1⟩
 have HB1 : Hid (Below w.heap.size w w1) := hb0.trans (hb1.mono hb0.size)
 clear hc hb0 hb1 HR0 HP0
 by_cases h0 : bchkE P s = 0
 ·rw [h0, berrV_0]
  by_cases h1 : 0 ≤ o ∧ o ≤ 1
  ·have d1 : decide (0 ≤ o ∧ o ≤ 1) = true := by simpa using h1
   have HE : Hid (ownE P s o = 0) := by unfold ownE; rw [if_neg (by simpa using h0), if_pos h1]; exact rfl
   clear h0
   go_wp2_with fail
   refine (bwithin_any o 0 1 w1).mono ?_
   rintro e q1 ⟨rfl, hW⟩
   rw [hW, d1]
   clear hW d1 h1
   go_wp2
   go_ret
   exact ⟨by rw [HE.out]; rfl, HB1.out⟩
  ·have d1 : decide (0 ≤ o ∧ o ≤ 1) = false := by simpa using h1
   have HE : Hid (ownE P s o = 1) := by unfold ownE; rw [if_neg (by simpa using h0), if_neg h1]; exact rfl
   clear h0
   go_wp2_with fail
   refine (bwithin_any o 0 1 w1).mono ?_
   rintro e q1 ⟨rfl, hW⟩
   rw [hW, d1]
   clear hW d1 h1
   go_wp2
   go_ret
   exact ⟨by rw [HE.out]; rfl, HB1.out⟩
 ·have HE : Hid (ownE P s o = bchkE P s) := if_pos h0
  have e1 := errV_ne h0
  have HV := hidV e1
  rw [e1]
  clear e1 h0
  go_wp2
  go_ret
  exact ⟨by rw [HE.out, HV.out]; rfl, HB1.out⟩
set_option maxRecDepth 100000 in
set_option maxHeartbeats 1600000 in
theorem left_any (P : Pm) (s : Sv) (p : Pl) (o : Int) (w : World) (ho : 0 ≤ o ∧ o ≤ 1) (hr : (0 ≤ s.a ∧ s.a ≤ 1125899906842624) ∧ (0 ≤ P.fe ∧ P.fe ≤ 1125899906842624)) :
  Calls Tryz.prog 45 #[.agg (pmv P), .agg (svv s p), .int .i64 o] w fun e w' => e = .returned (.int .i64 (leftF P s o)) ∧ Below w.heap.size w w' := by
 have hb0 : Below w.heap.size w ((w.alloc (.cells (pmv P) 40)).alloc (.cells (svv s p) 45)) := ((Below.refl _ w).alloc (Nat.le_refl _) _).alloc (by simp) _
 have cfe : ((w.alloc (.cells (pmv P) 40)).alloc (.cells (svv s p) 45)).cell? ⟨w.heap.size, 37, none⟩ = some (.int .i64 P.fe) := by
  have := (pmBox (o := 0) (pml_range (w := (w.alloc (.cells (pmv P) 40)).alloc (.cells (svv s p) 45)) (g := w.heap.size) (P := P) (by rw [Below.heap_alloc _ _ _ (by simp)]; exact heap_alloc_new w _))).fe
  simpa using this
 have hr1 : ((w.alloc (.cells (pmv P) 40)).alloc (.cells (svv s p) 45)).rangeAt (w.heap.size + 1) 0 (svv s p).toList := sv_range (by
  have := heap_alloc_new (w.alloc (.cells (pmv P) 40)) (.cells (svv s p) 45)
  simpa using this)
 have ca := hr1 1 (.int .i64 s.a) rfl
 have cb := hr1 2 (.int .i64 s.b) rfl
 simp only [Nat.zero_add] at ca cb
 have hwr : IntKind.i64.wrap (s.a - P.fe) = s.a - P.fe := by rw [IntKind.wrap_i64]; omega
 clear hr1
 have HB := hidV hb0
 clear hb0
 obtain rfl | rfl : o = 0 ∨ o = 1 := by omega
 ·have HE : Hid (leftF P s 0 = s.a - P.fe) := rfl
  go_enter Tryz.func45, Tryz.ntmps45
  go_wp2_with (first | (refine Go.Great.wpList_boxTo rfl _ _ rfl _ rfl _ rfl (pmv P) rfl ?_) | (refine Go.Great.wpList_boxTo rfl _ _ rfl _ rfl _ rfl (svv s p) rfl ?_) | fail)
  go_ret
  exact ⟨by rw [HE.out]; rfl, HB.out⟩
 ·have HE : Hid (leftF P s 1 = s.b) := rfl
  go_enter Tryz.func45, Tryz.ntmps45
  go_wp2_with (first | (refine Go.Great.wpList_boxTo rfl _ _ rfl _ rfl _ rfl (pmv P) rfl ?_) | (refine Go.Great.wpList_boxTo rfl _ _ rfl _ rfl _ rfl (svv s p) rfl ?_) | fail)
  go_ret
  exact ⟨by rw [HE.out]; rfl, HB.out⟩
end Go.Proofs.YtjnepkggdkccaaaGreatDoor
