/- Add, Settle and Fail as functions of what comes in: the program's answers and the document's. -/
import Derived.Test.YtoefgfiabfkfaaaGreatDoorOwnShelf30
import Derived.Test.YtoefgfiabfkfaaaGreatDoorOwnShelf31
import Derived.Test.YtoefgfiabfkfaaaGreatDoorOwnShelf38
import Derived.Test.YtoefgfiabfkfaaaGreatDoorOwnShelf40
import Derived.Test.YtoefgfiabfkfaaaGreatDoorOwnShelf23
namespace Go.Proofs.YtoefgfiabfkfaaaGreatDoor
open Go.RowKit

theorem ps_one (y : Py) : decide (PsOk (fun _ => y) 1) = decide (PMay y) := by
 refine decide_eq_decide.2 ⟨fun h => ?_, fun h j hj => ?_⟩
 ·have := h 0 (by omega)
  have h1 : (-1 : Int) < y.id := this.1
  exact ⟨by omega, this.2⟩
 ·obtain rfl : j = 0 := by omega
  have := h.1
  exact ⟨by show (-1 : Int) < y.id; omega, h.2⟩
theorem addE_raE (s : Sv) (y : Py) (i : Nat) (th : Bool) (h : FndR (fun j => (s.P j).id) s.pn y.id i th) : addE s y th = raE s y.fr y := by
 unfold addE raE
 rw [ps_one]
 by_cases hr : Rgt s
 ·rw [fnd_has (ps_srt hr.1.2.1.2.1) h]
 ·unfold asideE
  rw [if_pos hr, if_pos hr]
/-- Add as a function. -/
def addF (s : Sv) (y : Py) : Sv × Int := if raE s y.fr y = 0 then (addY (asideS s y.fr y.am) (plc (fun j => (s.P j).id) y.id s.pn) y, 0) else (sv0, raE s y.fr y)
/-- Fail as a function. -/
def failF (s : Sv) (id : Int) : Sv × Int :=
 if ¬ Rgt s then (sv0, 1) else if hasB (fun j => (s.P j).id) s.pn id = false then (sv0, 8) else (bakY s (plc (fun j => (s.P j).id) id s.pn), 0)
/-- Settle as a function. -/
def stlF (s : Sv) (id : Int) (sb : List Nat) : Sv × Int :=
 if ¬ Rgt s then (sv0, 1) else if hasB (fun j => (s.P j).id) s.pn id = false then (sv0, 8) else
  if hq (sZ (sumF sb)) (s.P (plc (fun j => (s.P j).id) id s.pn)).lk = true then (opnY s (plc (fun j => (s.P j).id) id s.pn), 0) else (sv0, 22)
theorem raE_rgt {s : Sv} {f : Int} {y : Py} (h : raE s f y = 0) : Rgt s ∧ Side f := by
 unfold raE asideE at h
 by_cases hr : Rgt s
 ·by_cases hf : Side f
  ·exact ⟨hr, hf⟩
  ·simp [hr, hf] at h
 ·simp [hr] at h
theorem padd_any (s : Sv) (p : Pl) (y : Py) (w : World) (h : SvAt w s p) (hs : s.Small) (hy : Zb y.lk) :
  Calls Tryz.prog 7 #[.agg (svv s p), .agg (pyv y)] w fun e w' => ∃ q, e = .returned (.tuple #[.agg (svv (addF s y).1 q), errV (addF s y).2]) ∧ SvAt w' (addF s y).1 q ∧ Below w.heap.size w w' := by
 refine (add_any s p y w h hs hy).mono ?_
 rintro e w' ⟨⟨i, th, hF, hR⟩, hb⟩
 have hE := addE_raE s y i th hF
 rw [hE] at hR
 unfold addF
 rcases hR with ⟨hne, rfl⟩ | ⟨h0, q, A, rfl, hO⟩
 ·rw [if_neg hne]
  exact ⟨pl0, rfl, sv0_at w', hb⟩
 ·rw [if_pos h0]
  have hi := fnd_plc (ps_srt (raE_rgt h0).1.1.2.1.2.1) hF
  rw [← hi]
  exact ⟨q, rfl, hO.at, hb⟩
theorem radd_any (s : Sv) (p : Pl) (y : Py) (w : World) (h : SvAt w s p) (hs : s.Small) (hy : Zb y.lk) (hsp : ∀ a, p.pa = some a → ∃ bb off, a = ⟨bb, off, none⟩) :
  Calls Tryz.prog 8 #[.agg (svv s p), .agg (pyv y)] w fun e w' => ∃ q, e = .returned (.tuple #[.agg (svv (addF s y).1 q), .int .i64 (addF s y).2]) ∧ SvAt w' (addF s y).1 q ∧ Below w.heap.size w w' := by
 by_cases h0 : raE s y.fr y = 0
 ·have hk : Calls Tryz.prog 8 #[.agg (svv s p), .agg (pyv y)] w fun e w' => RAdd s y.fr y e w' ∧ Below w.heap.size w w' := by
   rcases (raE_rgt h0).2 with h1 | h1
   ·rw [h1] at h0 ⊢
    exact radd_ok_0 s p y w h hs hy h1 hsp h0
   ·rw [h1] at h0 ⊢
    exact radd_ok_1 s p y w h hs hy h1 hsp h0
  refine hk.mono ?_
  rintro e w' ⟨⟨i, hi, hlo, hhi, q, rfl, hA⟩, hb⟩
  have hp := plc_one (f := fun j => (s.P j).id) hi hlo hhi
  unfold addF
  rw [if_pos h0, ← hp]
  exact ⟨q, rfl, hA, hb⟩
 ·refine (radd_bad s p y.fr y w h hs hy rfl h0).mono ?_
  rintro e w' ⟨rfl, hb⟩
  unfold addF
  rw [if_neg h0]
  exact ⟨pl0, rfl, sv0_at w', hb⟩
theorem pfail_any (s : Sv) (p : Pl) (id : Int) (w : World) (h : SvAt w s p) (hs : s.Small) :
  Calls Tryz.prog 11 #[.agg (svv s p), .int .i64 id] w fun e w' => ∃ q, e = .returned (.tuple #[.agg (svv (failF s id).1 q), errV (failF s id).2]) ∧ SvAt w' (failF s id).1 q ∧ Below w.heap.size w w' := by
 unfold failF
 by_cases hr : Rgt s
 ·rw [if_neg (fun h => h hr)]
  refine (fail_any s p id w h hs hr).mono ?_
  rintro e w' ⟨⟨i, b, hF, hR⟩, hb⟩
  have hst := ps_srt hr.1.2.1.2.1
  have hh := fnd_has hst hF
  have hi := fnd_plc hst hF
  rw [← hi, ← hh]
  rcases hR with ⟨rfl, rfl⟩ | ⟨rfl, q, A, rfl, hO⟩
  ·rw [if_pos rfl]
   exact ⟨pl0, rfl, sv0_at w', hb⟩
  ·rw [if_neg (by decide)]
   exact ⟨q, rfl, hO.at, hb⟩
 ·rw [if_pos hr]
  refine (fail_1 s p id w h hs hr).mono ?_
  rintro e w' ⟨rfl, hb⟩
  exact ⟨pl0, rfl, sv0_at w', hb⟩
theorem psettle_any (s : Sv) (p : Pl) (id : Int) (sa : Option Addr) (sc : Nat) (sb : List Nat) (w : World) (hT : Tab w) (hgl : 3 ≤ w.heap.size) (hS : SlB w sa sb) (hsb : ∀ i, sb.getD i 0 < 256) (hsc : sb.length ≤ sc) (hsl : sb.length ≤ 140737488355328) (h : SvAt w s p) (hs : s.Small) :
  Calls Tryz.prog 9 #[.agg (svv s p), .int .i64 id, .slice sa sb.length sc] w fun e w' => ∃ q, e = .returned (.tuple #[.agg (svv (stlF s id sb).1 q), errV (stlF s id sb).2]) ∧ SvAt w' (stlF s id sb).1 q ∧ Below w.heap.size w w' := by
 unfold stlF
 by_cases hr : Rgt s
 ·rw [if_neg (fun h => h hr)]
  refine (settle_any s p id sa sc sb w hT hgl hS hsb hsc hsl h hs hr).mono ?_
  rintro e w' ⟨⟨i, b, hF, hR⟩, hb⟩
  have hst := ps_srt hr.1.2.1.2.1
  have hh := fnd_has hst hF
  have hi := fnd_plc hst hF
  rw [← hi, ← hh]
  rcases hR with ⟨rfl, rfl⟩ | ⟨rfl, hl, rfl⟩ | ⟨rfl, hl, q, A, rfl, hO⟩
  ·rw [if_pos rfl]
   exact ⟨pl0, rfl, sv0_at w', hb⟩
  ·rw [if_neg (by decide), if_neg (by rw [hl]; decide)]
   exact ⟨pl0, rfl, sv0_at w', hb⟩
  ·rw [if_neg (by decide), if_pos hl]
   exact ⟨q, rfl, hO.at, hb⟩
 ·rw [if_pos hr]
  refine (settle_1 s p id sa sb.length sc w h hs hr).mono ?_
  rintro e w' ⟨rfl, hb⟩
  exact ⟨pl0, rfl, sv0_at w', hb⟩
theorem rfind_plc {s : Sv} {id : Int} {i : Nat} (hr : Rgt s) (hk : HatR (fun j => (s.P j).id) s.pn id i) (hi : i < s.pn) : i = plc (fun j => (s.P j).id) id s.pn := by
 have hst := ps_srt hr.1.2.1.2.1
 have hid : (s.P i).id = id := by
  rcases hk with ⟨h1, _⟩ | ⟨j, h1, _, h2, _⟩
  ·omega
  ·obtain rfl : i = j := by omega
   exact h2
 exact plc_one (by omega) (fun j hj => by have := hst j i hj hi; dsimp only at this ⊢; omega) (fun _ => by omega)
theorem rfail_any (s : Sv) (p : Pl) (id : Int) (w : World) (h : SvAt w s p) (hs : s.Small) (hsp : ∀ a, p.pa = some a → ∃ bb off, a = ⟨bb, off, none⟩) :
  Calls Tryz.prog 12 #[.agg (svv s p), .int .i64 id] w fun e w' => ∃ q, e = .returned (.tuple #[.agg (svv (failF s id).1 q), .int .i64 (failF s id).2]) ∧ SvAt w' (failF s id).1 q ∧ Below w.heap.size w w' := by
 refine (rfailP_any s p id w h hs hsp).mono ?_
 rintro e w' ⟨⟨k, hk, hR⟩, hb⟩
 unfold failF
 rw [← hat_hasB hk]
 rcases hR with ⟨hr, rfl⟩ | ⟨hr, hk0, rfl⟩ | ⟨hr, i, rfl, hi, q, rfl, hA⟩
 ·rw [if_pos hr]
  exact ⟨pl0, rfl, sv0_at w', hb⟩
 ·rw [if_neg (fun h => h hr), if_pos (decide_eq_false (by omega))]
  exact ⟨pl0, rfl, sv0_at w', hb⟩
 ·have hp := rfind_plc hr hk hi
  rw [if_neg (fun h => h hr), if_neg (by simp), ← hp]
  exact ⟨q, rfl, hA, hb⟩
theorem rsettleF_any (s : Sv) (p : Pl) (id : Int) (sa : Option Addr) (sc : Nat) (sb : List Nat) (w : World) (hsn0 : sa = none → sb.length = 0) (hsb : ∀ i, sb.getD i 0 < 256) (hsl : sb.length ≤ 140737488351232) (hS : SlB w sa sb) (h : SvAt w s p) (hs : s.Small) (hsp : ∀ a, p.pa = some a → ∃ bb off, a = ⟨bb, off, none⟩) :
  Calls Tryz.prog 10 #[.agg (svv s p), .int .i64 id, .slice sa sb.length sc] w fun e w' => ∃ q, e = .returned (.tuple #[.agg (svv (stlF s id sb).1 q), .int .i64 (stlF s id sb).2]) ∧ SvAt w' (stlF s id sb).1 q ∧ Below w.heap.size w w' := by
 refine (rsettle_any s p id sa sc sb hsn0 hsb hsl w hS h hs hsp).mono ?_
 rintro e w' ⟨⟨k, hk, hR⟩, hb⟩
 unfold stlF
 rw [← hat_hasB hk]
 rcases hR with ⟨hr, rfl⟩ | ⟨hr, hk0, rfl⟩ | ⟨hr, i, rfl, hi, hl, rfl⟩ | ⟨hr, i, rfl, hi, hl, q, rfl, hA⟩
 ·rw [if_pos hr]
  exact ⟨pl0, rfl, sv0_at w', hb⟩
 ·rw [if_neg (fun h => h hr), if_pos (decide_eq_false (by omega))]
  exact ⟨pl0, rfl, sv0_at w', hb⟩
 ·have hp := rfind_plc hr hk hi
  rw [if_neg (fun h => h hr), if_neg (by simp), ← hp, if_neg (by rw [hl]; decide)]
  exact ⟨pl0, rfl, sv0_at w', hb⟩
 ·have hp := rfind_plc hr hk hi
  rw [if_neg (fun h => h hr), if_neg (by simp), ← hp, if_pos hl]
  exact ⟨q, rfl, hA, hb⟩
theorem addF_small {s : Sv} (h : s.Small) (y : Py) : (addF s y).1.Small := by
 unfold addF
 split
 ·rename_i h0
  have hr := (raE_rgt h0).1.1.2.1.1
  obtain ⟨e1, e2, e3, e4⟩ := asideS_rows s y.fr y.am
  refine ⟨?_, fun i hi => ?_⟩
  ·show (asideS s y.fr y.am).pn + 1 + (asideS s y.fr y.am).hn ≤ 100
   rw [e1, e3]; omega
  ·have hi' : i < s.hn := by rw [← e3]; exact hi
   show ((asideS s y.fr y.am).H i).n ≤ 300
   rw [e4]
   exact h.k i hi'
 ·exact sv0_small
theorem sub_small {s t : Sv} (h : s.Small) (h1 : t.pn = s.pn - 1) (h3 : t.hn = s.hn) (h4 : t.H = s.H) : t.Small := by
 refine ⟨by have := h.n; rw [h1, h3]; omega, fun i hi => ?_⟩
 rw [h4]
 exact h.k i (by omega)
theorem failF_small {s : Sv} (h : s.Small) (id : Int) : (failF s id).1.Small := by
 unfold failF
 split
 ·exact sv0_small
 ·split
  ·exact sv0_small
  ·refine sub_small h ?_ ?_ ?_ <;> (dsimp only; unfold bakY; split <;> rfl)
theorem stlF_small {s : Sv} (h : s.Small) (id : Int) (sb : List Nat) : (stlF s id sb).1.Small := by
 unfold stlF
 split
 ·exact sv0_small
 ·split
  ·exact sv0_small
  ·split
   ·refine sub_small h ?_ ?_ ?_ <;> (dsimp only; unfold opnY; split <;> rfl)
   ·exact sv0_small
end Go.Proofs.YtoefgfiabfkfaaaGreatDoor
/- StateHolds: what its walk wants. -/
namespace Go.Proofs.YtoefgfiabfkfaaaGreatDoor
open Go.RowKit

/-- The variables of the walk: what came in, the program's state and hold. -/
structure HBx (w W : World) (s : Sv) (p q : Pl) (y : Hd) (ka : Option Addr) (kc : Nat) (ka' : Option Addr) (kc' : Nat) (n0 n1 : Int) (g7 g9 : Nat) : Prop where
 b3 : W.heap[w.heap.size]? = some (.cells #[.int .i64 s.nu, .int .i64 s.a, .int .i64 s.b, .slice p.pa s.pn p.pc, .slice p.ha s.hn p.hc] 26 (0, 0))
 b4 : W.heap[w.heap.size + 1]? = some (.cells #[.int .i64 y.id, .int .i64 y.am, .slice ka y.n kc] 56 (0, 0))
 b5 : W.heap[w.heap.size + 2]? = some (.cells #[.int .i64 n0, .int .i64 n1] 22 (0, 0))
 b7 : W.heap[g7]? = some (.cells #[.int .i64 s.nu, .int .i64 s.a, .int .i64 s.b, .slice q.pa s.pn q.pc, .slice q.ha s.hn q.hc] 37 (0, 0))
 b9 : W.heap[g9]? = some (.cells #[.int .i64 y.id, .int .i64 y.am, .slice ka' y.n kc'] 58 (0, 0))
 sp : SvAt W s p
 sq : SvAt W s q
 i1 : IsAt W ka y.n y.z
 i2 : IsAt W ka' y.n y.z
 gl : Glob W
 bw : Below w.heap.size w W
section
variable {w W : World} {s : Sv} {p q : Pl} {y : Hd} {ka ka' : Option Addr} {kc kc' : Nat} {n0 n1 : Int} {g7 g9 : Nat}
theorem HBx.below {W' : World} (h : HBx w W s p q y ka kc ka' kc' n0 n1 g7 g9) (hb : Below W.heap.size W W') : HBx w W' s p q y ka kc ka' kc' n0 n1 g7 g9 :=
 ⟨by rw [hb.block _ (lt_of_block h.b3)]; exact h.b3, by rw [hb.block _ (lt_of_block h.b4)]; exact h.b4, by rw [hb.block _ (lt_of_block h.b5)]; exact h.b5, by rw [hb.block _ (lt_of_block h.b7)]; exact h.b7, by rw [hb.block _ (lt_of_block h.b9)]; exact h.b9, h.sp.below hb, h.sq.below hb, h.i1.below hb, h.i2.below hb, h.gl.belowA hb, h.bw.trans (hb.mono h.bw.size)⟩
/-- Their cells. -/
structure HCe (w W : World) (s : Sv) (p q : Pl) (y : Hd) (ka : Option Addr) (kc : Nat) (ka' : Option Addr) (kc' : Nat) (n0 n1 : Int) (g7 g9 : Nat) : Prop where
 a0 : W.cell? ⟨w.heap.size, 0, none⟩ = some (.int .i64 s.nu)
 a1 : W.cell? ⟨w.heap.size, 1, none⟩ = some (.int .i64 s.a)
 a2 : W.cell? ⟨w.heap.size, 2, none⟩ = some (.int .i64 s.b)
 a3 : W.cell? ⟨w.heap.size, 3, none⟩ = some (.slice p.pa s.pn p.pc)
 a4 : W.cell? ⟨w.heap.size, 4, none⟩ = some (.slice p.ha s.hn p.hc)
 b0 : W.cell? ⟨w.heap.size + 1, 0, none⟩ = some (.int .i64 y.id)
 b1 : W.cell? ⟨w.heap.size + 1, 1, none⟩ = some (.int .i64 y.am)
 b2 : W.cell? ⟨w.heap.size + 1, 2, none⟩ = some (.slice ka y.n kc)
 c0 : W.cell? ⟨w.heap.size + 2, 0, none⟩ = some (.int .i64 n0)
 c1 : W.cell? ⟨w.heap.size + 2, 1, none⟩ = some (.int .i64 n1)
 d0 : W.cell? ⟨g7, 0, none⟩ = some (.int .i64 s.nu)
 d1 : W.cell? ⟨g7, 1, none⟩ = some (.int .i64 s.a)
 d2 : W.cell? ⟨g7, 2, none⟩ = some (.int .i64 s.b)
 d3 : W.cell? ⟨g7, 3, none⟩ = some (.slice q.pa s.pn q.pc)
 d4 : W.cell? ⟨g7, 4, none⟩ = some (.slice q.ha s.hn q.hc)
 e0 : W.cell? ⟨g9, 0, none⟩ = some (.int .i64 y.id)
 e1 : W.cell? ⟨g9, 1, none⟩ = some (.int .i64 y.am)
 e2 : W.cell? ⟨g9, 2, none⟩ = some (.slice ka' y.n kc')
theorem HBx.cells (h : HBx w W s p q y ka kc ka' kc' n0 n1 g7 g9) : HCe w W s p q y ka kc ka' kc' n0 n1 g7 g9 :=
 ⟨(five_of h.b3).c0, (five_of h.b3).c1, (five_of h.b3).c2, (five_of h.b3).c3, (five_of h.b3).c4,
  by rw [cell_of_row _ _ 0 _ _ _ h.b4]; rfl, by rw [cell_of_row _ _ 1 _ _ _ h.b4]; rfl, by rw [cell_of_row _ _ 2 _ _ _ h.b4]; rfl,
  by rw [cell_of_row _ _ 0 _ _ _ h.b5]; rfl, by rw [cell_of_row _ _ 1 _ _ _ h.b5]; rfl,
  (five_of h.b7).c0, (five_of h.b7).c1, (five_of h.b7).c2, (five_of h.b7).c3, (five_of h.b7).c4,
  by rw [cell_of_row _ _ 0 _ _ _ h.b9]; rfl, by rw [cell_of_row _ _ 1 _ _ _ h.b9]; rfl, by rw [cell_of_row _ _ 2 _ _ _ h.b9]; rfl⟩
end
section
variable {ops : Array Oper} {o : Oper} {a : Act} {w : World} {K : Act → World → Prop} {Q : Exit → Act → World → Prop} {E : Prop}
end
/-- The rows that the last region reads. -/
structure SHo (w : World) (g1 g2 g3 g4 g5 g6 g7 g8 : Nat) (t1 t2 t3 s : Sv) (q1 q2 q3 q4 q5 q6 q7 q8 : Pl) : Prop where
 r1 : w.rangeAt g1 0 (svl t1 q1)
 r2 : w.rangeAt g2 0 (svl t1 q2)
 r3 : w.rangeAt g3 0 (svl t2 q3)
 r4 : w.rangeAt g4 0 (svl t2 q4)
 r5 : w.rangeAt g5 0 (svl t3 q5)
 r6 : w.rangeAt g6 0 (svl t3 q6)
 r7 : w.rangeAt g7 0 (svl s q7)
 r8 : w.rangeAt g8 0 (svl s q8)
theorem SHo.below {w w' : World} {g1 g2 g3 g4 g5 g6 g7 g8 : Nat} {t1 t2 t3 s : Sv} {q1 q2 q3 q4 q5 q6 q7 q8 : Pl} (h : SHo w g1 g2 g3 g4 g5 g6 g7 g8 t1 t2 t3 s q1 q2 q3 q4 q5 q6 q7 q8) (hb : Below w.heap.size w w') : SHo w' g1 g2 g3 g4 g5 g6 g7 g8 t1 t2 t3 s q1 q2 q3 q4 q5 q6 q7 q8 :=
 ⟨range_below h.r1 hb, range_below h.r2 hb, range_below h.r3 hb, range_below h.r4 hb, range_below h.r5 hb, range_below h.r6 hb, range_below h.r7 hb, range_below h.r8 hb⟩
end Go.Proofs.YtoefgfiabfkfaaaGreatDoor
