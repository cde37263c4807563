/- cond.All of no ints. -/
import Derived.Test.YtanchjfodcjlmaaGreatDoorOwnShelf18
import Derived.Shelf.Slices.In.SortNone
import Derived.Test.YtanchjfodcjlmaaGreatDoorOwnShelf17
import Derived.Test.YtanchjfodcjlmaaGreatDoorOwnShelf07
import Derived.Test.YtanchjfodcjlmaaGreatDoorOwnShelf06
import Derived.Test.YtanchjfodcjlmaaGreatDoorOwnShelf13
import Derived.Lib.SlBytesConst
import Derived.Lib.Bytealg
import Derived.Lib.BytesEntry
namespace Go.Proofs.YtanchjfodcjlmaaGreatDoor.Cd
open Go.RowKit Go.Shelf Go.Sort

theorem clone_zero (ad : Option Addr) (cap : Nat) (w : World) :
  Calls Tryz.prog 43 #[.slice ad 0 cap] w fun e w' => ∃ ga c', e = .returned (.slice ga 0 c') ∧ (∀ a, ga = some a → w.heap.size ≤ a.block) ∧ Below w.heap.size w w' := by
 cases ad with
 | none =>
  have hcon := Any.slices_Clone_int_nil Tryz.lClone 0 cap w
  change Calls Tryz.prog 43 _ _ _ at hcon
  refine hcon.mono ?_
  rintro e w' ⟨rfl, rfl⟩
  exact ⟨none, 0, rfl, fun a h => (by cases h), Below.refl _ _⟩
 | some a =>
  have hcon := Any.slices_Clone_int_zero Tryz.lClone a cap w
  change Calls Tryz.prog 43 _ _ _ at hcon
  refine hcon.mono ?_
  rintro e w' ⟨v', rfl, hown, hne, hb⟩
  rcases hown.2 with ⟨e, _⟩ | ⟨g, c', cur, rfl, hg, _⟩
  ·exact absurd e hne
  ·exact ⟨_, c', rfl, fun a h => by cases h; exact hg, hb⟩

set_option maxRecDepth 100000 in
set_option maxHeartbeats 1600000 in
theorem all_zeroI (ad : Option Addr) (cap : Nat) (w : World) :
  Calls Tryz.prog 24 #[.slice ad 0 cap] w fun e w' => ∃ g, e = .returned (.agg #[.slice (some ⟨g, 0, none⟩) 1 1]) ∧ BrIn w' w.heap.size (some ⟨g, 0, none⟩) 1 (fun _ => kb []) ∧ Below w.heap.size w w' := by
 have HOK : (kb []).Ok := kb_ok (fun x h => by cases h)
 have hb0 : Below w.heap.size w (w.alloc (.cells #[.slice none 0 0] 76)) := (Below.refl _ w).alloc (Nat.le_refl _) _
 have hr0 : (w.alloc (.cells #[.slice none 0 0] 76)).heap[w.heap.size]? = some (.cells #[.slice none 0 0] 76 (0, 0)) := heap_alloc_new w _
 have hc := clone_zero ad cap (w.alloc (.cells #[.slice none 0 0] 76))
 have hs0 : w.heap.size < (w.alloc (.cells #[.slice none 0 0] 76)).heap.size := by simp
 go_enter Tryz.func24, Tryz.ntmps24
 go_wp2_with fail
 generalize w.alloc (.cells #[.slice none 0 0] 76) = W0 at *
 refine hc.mono ?_
 rintro e w3 ⟨ga, cap1, rfl, hga, hbw⟩
 clear hc
 have hsort := Any.slices_Sort_int_none Tryz.lSort ga cap1 w3
 change Calls Tryz.prog 44 _ _ _ at hsort
 have hcom := Any.slices_Compact_int_empty Tryz.lCompact ga cap1 w3
 change Calls Tryz.prog 45 _ _ _ at hcom
 have hr3 : w3.heap[w.heap.size]? = some (.cells #[.slice none 0 0] 76 (0, 0)) := by rw [hbw.block _ hs0]; exact hr0
 have hlt := hbw.size
 have hn4 := heap_alloc_new w3 (.cells (bv (kb []) ga cap1) 101)
 have hb4 : Below w3.heap.size w3 (w3.alloc (.cells (bv (kb []) ga cap1) 101)) := (Below.refl _ _).alloc (Nat.le_refl _) _
 have hr4 : (w3.alloc (.cells (bv (kb []) ga cap1) 101)).heap[w.heap.size]? = some (.cells #[.slice none 0 0] 76 (0, 0)) := by rw [hb4.block _ (by omega)]; exact hr3
 have c4 : (w3.alloc (.cells (bv (kb []) ga cap1) 101)).cell? ⟨w.heap.size, 0, none⟩ = some (.slice none 0 0) := by rw [cell_of_row _ _ 0 _ _ _ hr4]; rfl
 have f4 : (w3.alloc (.cells (bv (kb []) ga cap1) 101)).frozen? ⟨w.heap.size, 0, none⟩ = false := frozen_of_row _ _ 0 _ _ hr4
 have HE : Hid (((w3.alloc (.cells (bv (kb []) ga cap1) 101)).setCell ⟨w.heap.size, 0, none⟩ (.slice (some ⟨w3.heap.size, 0, none⟩) 1 1)).heap[w.heap.size]? = some (.cells #[.slice (some ⟨w3.heap.size, 0, none⟩) 1 1] 76 (0, 0))
   ∧ BrIn ((w3.alloc (.cells (bv (kb []) ga cap1) 101)).setCell ⟨w.heap.size, 0, none⟩ (.slice (some ⟨w3.heap.size, 0, none⟩) 1 1)) w.heap.size (some ⟨w3.heap.size, 0, none⟩) 1 (fun _ => kb [])
   ∧ Below w.heap.size w ((w3.alloc (.cells (bv (kb []) ga cap1) 101)).setCell ⟨w.heap.size, 0, none⟩ (.slice (some ⟨w3.heap.size, 0, none⟩) 1 1))) := by
  refine ⟨heap_setCell_same _ _ 0 _ _ _ hr4, fun w' hw => ⟨fun _ _ => HOK, fun _ => ⟨w3.heap.size, 0, rfl, fun i hi => ⟨ga, cap1, fun j u hu => ?_, fun h => by cases h⟩⟩⟩, ?_⟩
  ·obtain rfl : i = 0 := by omega
   rw [World.cell?_of_block (a := ⟨w3.heap.size, 0 + 0 * 35 + j, none⟩) (hw w3.heap.size (by omega) (by simp [World.setCell])), World.cell?_of_block (a := ⟨w3.heap.size, 0 + 0 * 35 + j, none⟩) (Below.heap_setCell _ _ _ _ (by show w3.heap.size ≠ w.heap.size; omega)), cell_of_row _ _ _ _ _ _ hn4]
   simpa [bv] using hu
  ·exact ((hb0.trans (hbw.mono (by omega))).trans (hb4.mono (by omega))).setCell (Nat.le_refl _) _
 clear hn4 hr4 hr3 hb4 hbw hb0 hga
 go_wp2_with fail
 refine hsort.mono ?_
 rintro e w4 ⟨rfl, rfl⟩
 go_wp2_with fail
 refine hcom.mono ?_
 rintro e w5 ⟨rfl, rfl⟩
 clear hsort hcom
 go_wp2_with (first | (refine wpList_buildB rfl _ rfl [] ga cap1 rfl ?_) | (refine wpList_sliceB rfl _ rfl (kb []) ga cap1 rfl ?_) | fail)
 exact bodyPost_ret (results_cell_row Tryz.results24 _ _ w.heap.size 76 #[.slice (some ⟨_, 0, none⟩) 1 1] (0, 0) _ rfl HE.out.1 Tryz.underlying76 rfl szC) rfl ⟨_, rfl, HE.out.2⟩
theorem all_zero (ad : Option Addr) (cap : Nat) (w : World) :
  Calls Tryz.prog 24 #[.slice ad 0 cap] w fun e w' => ∃ g, e = .returned (.agg #[.slice (some ⟨g, 0, none⟩) 1 1]) ∧ BrAt w' (some ⟨g, 0, none⟩) 1 (fun _ => kb []) ∧ Below w.heap.size w w' := by
 refine (all_zeroI ad cap w).mono ?_
 rintro e w' ⟨g, rfl, h1, h2⟩
 exact ⟨g, rfl, h1.brAt, h2⟩
/-- All of whatever ints. -/
theorem all_any (ad : Option Addr) (n cap : Nat) (z : Nat → Int) (w : World) (hI : IsAt w ad n z) (hz : ∀ j, j < n → Ib (z j)) (hn : n ≤ 1000000) :
  Calls Tryz.prog 24 #[.slice ad n cap] w fun e w' => ∃ g, e = .returned (.agg #[.slice (some ⟨g, 0, none⟩) 1 1]) ∧ BrAt w' (some ⟨g, 0, none⟩) 1 (fun _ => kb (insL z n)) ∧ Below w.heap.size w w' := by
 rcases Nat.eq_zero_or_pos n with h0 | hp
 ·subst h0
  exact all_zero ad cap w
 ·obtain ⟨b, off, rfl, hc⟩ := hI hp
  rw [← all_same]
  exact all_pos b off n cap z w hc hz hn
end Go.Proofs.YtanchjfodcjlmaaGreatDoor.Cd
/- tx: what must come whatever the input is. -/
namespace Go.Proofs.YtanchjfodcjlmaaGreatDoor
open Go.RowKit

/-- The one output; the two inputs. -/
def oS : To := ⟨5, 1, fun _ => Cd.kb (Cd.insL (fun _ => 1) 1)⟩
def iS (s : Nat) : Ti := ⟨nz, 0, 0, s⟩
/-- The bytes of both. -/
def bS : List Int := idB 0 1 (fun _ => iS 0) (fun _ _ => 115) 1 (fun _ => oS)
theorem bS_any (s : Nat) : idB 0 1 (fun _ => iS s) (fun _ _ => 115) 1 (fun _ => oS) = bS := rfl
theorem eS : txE 0 1 (fun _ => iS 0) 1 (fun _ => oS) = 27 := by kernel_rfl
theorem build_Ti0 (w : World) : (Instr.build 59 #[]).run Tryz.prog w = .ok (.agg (tiv (iS 0) none 0)) w := by kernel_rfl
theorem build_TiS (sa : Option Addr) (n c : Nat) (w : World) : (Instr.build 59 #[(2, .slice sa n c)]).run Tryz.prog w = .ok (.agg (tiv (iS n) sa c)) w := by kernel_rfl
theorem slice_int (x : Int) (w : World) : (Instr.buildSlice 71 1 #[(0, .int .i64 x)]).run Tryz.prog w = .ok (.slice (some ⟨w.heap.size, 0, none⟩) 1 1) (w.alloc (.cells #[.int .i64 x] 3)) := by kernel_rfl
theorem run_allocTx (w : World) : (Instr.alloc 35 true (.tuple #[])).run Tryz.prog w = .ok (.pointer (some ⟨w.heap.size, 0, none⟩)) (w.alloc (.cells #[.int .i64 0, .slice none 0 0, .slice none 0 0] 35)) := by kernel_rfl
section
variable {ops : Array Oper} {rest : List Oper} {o : Oper} {a : Act} {w : World} {Q : Exit → Act → World → Prop}
theorem wpList_buildTi0 (hgd : o.guard = none) (ho : o.op = .build 59 #[])
  (h : wpList Tryz.prog ops Q rest (a.put o.dst (.agg (tiv (iS 0) none 0))) w) : wpList Tryz.prog ops Q (o :: rest) a w := by
 refine wpList_plain hgd fun K hK => ?_
 unfold Oper.wp execOp
 simp only [ho, List.map_toArray, List.map_nil, Sem.run_bind, build_Ti0, Result.andThen]
 exact hK _ _ h
theorem wpList_buildTiS (sa : Option Addr) (n c : Nat) (hgd : o.guard = none) (x : Operand) (ho : o.op = .build 59 #[(2, x)]) (hx : a.eval x = .slice sa n c)
  (h : wpList Tryz.prog ops Q rest (a.put o.dst (.agg (tiv (iS n) sa c))) w) : wpList Tryz.prog ops Q (o :: rest) a w := by
 refine wpList_plain hgd fun K hK => ?_
 unfold Oper.wp execOp
 simp only [ho, List.map_toArray, List.map_cons, List.map_nil, hx, Sem.run_bind, build_TiS, Result.andThen]
 exact hK _ _ h
theorem wpList_sliceTiN (y : Ti) (sa : Option Addr) (sc : Nat) (hgd : o.guard = none) (x : Operand) (ho : o.op = .buildSlice 32 1 #[(0, x)]) (hx : a.eval x = .agg (tiv y sa sc))
  (h : ∀ w1, New w w1 (tiv y sa sc) 59 → wpList Tryz.prog ops Q rest (a.put o.dst (.slice (some ⟨w.heap.size, 0, none⟩) 1 1)) w1) : wpList Tryz.prog ops Q (o :: rest) a w := by
 refine wpList_plain hgd fun K hK => ?_
 unfold Oper.wp execOp
 simp only [ho, List.map_toArray, List.map_cons, List.map_nil, hx, Sem.run_bind, slice_ti, Result.andThen]
 exact hK _ _ (h _ (new_alloc w _ _))
theorem wpList_sliceToN (am : Int) (ca : Option Addr) (n cc : Nat) (hgd : o.guard = none) (x : Operand) (ho : o.op = .buildSlice 33 1 #[(0, x)]) (hx : a.eval x = .agg #[.int .i64 am, .slice ca n cc])
  (h : ∀ w1, New w w1 #[.int .i64 am, .slice ca n cc] 79 → wpList Tryz.prog ops Q rest (a.put o.dst (.slice (some ⟨w.heap.size, 0, none⟩) 1 1)) w1) : wpList Tryz.prog ops Q (o :: rest) a w := by
 refine wpList_plain hgd fun K hK => ?_
 unfold Oper.wp execOp
 simp only [ho, List.map_toArray, List.map_cons, List.map_nil, hx, Sem.run_bind, slice_to, Result.andThen]
 exact hK _ _ (h _ (new_alloc w _ _))
theorem wpList_sliceInt (v : Int) (hgd : o.guard = none) (x : Operand) (ho : o.op = .buildSlice 71 1 #[(0, x)]) (hx : a.eval x = .int .i64 v)
  (h : ∀ w1, New w w1 #[.int .i64 v] 3 → wpList Tryz.prog ops Q rest (a.put o.dst (.slice (some ⟨w.heap.size, 0, none⟩) 1 1)) w1) : wpList Tryz.prog ops Q (o :: rest) a w := by
 refine wpList_plain hgd fun K hK => ?_
 unfold Oper.wp execOp
 simp only [ho, List.map_toArray, List.map_cons, List.map_nil, hx, Sem.run_bind, slice_int, Result.andThen]
 exact hK _ _ (h _ (new_alloc w _ _))
end
theorem int1_is {w v : World} (N : New w v #[.int .i64 1] 3) : Cd.IsAt v (some ⟨w.heap.size, 0, none⟩) 1 (fun _ => 1) := fun _ => ⟨_, 0, rfl, fun j hj => by
 obtain rfl : j = 0 := by omega
 rw [cell_of_row _ _ _ _ _ _ N.blk]; rfl⟩
theorem ib1 : Cd.Ib 1 := by unfold Cd.Ib; omega
/-- One of sure's two transactions lies, made since w0. -/
structure SrAt (w0 w : World) (s : Nat) (ia oa : Option Addr) : Prop where
 ti : ∃ S : Nat → Option Addr × Nat, TiAt w ia 1 (fun _ => iS s) S ∧ ∀ i, i < 1 → SlAt w (S i).1 s (fun _ => 115)
 ou : ToAt w oa 1 (fun _ => oS)
 below : Below w0.heap.size w0 w
theorem SrAt.mono {w0 w w' : World} {s : Nat} {ia oa : Option Addr} (h : SrAt w0 w s ia oa) (hb : Below w.heap.size w w') : SrAt w0 w' s ia oa := by
 obtain ⟨S, h1, h2⟩ := h.ti
 exact ⟨⟨S, h1.below hb, fun i hi => (h2 i hi).below hb⟩, h.ou.below hb, h.below.trans (hb.mono h.below.size)⟩
theorem sr_ti {w0 w1 : World} {s : Nat} {sa : Option Addr} {sc : Nat} (N : New w0 w1 (tiv (iS s) sa sc) 59) : TiAt w1 (some ⟨w0.heap.size, 0, none⟩) 1 (fun _ => iS s) (fun _ => (sa, sc)) :=
 ⟨fun _ _ => fun j _ => by simp [iS, nz], fun _ => ⟨_, 0, rfl, fun i hi => by
  obtain rfl : i = 0 := by omega
  exact til_range N.blk⟩⟩
theorem sr_to {w0 w1 : World} {g : Nat} (N : New w0 w1 #[.int .i64 5, .slice (some ⟨g, 0, none⟩) 1 1] 79) (hB : Cd.BrAt w0 (some ⟨g, 0, none⟩) 1 (fun _ => Cd.kb (Cd.insL (fun _ => 1) 1))) : ToAt w1 (some ⟨w0.heap.size, 0, none⟩) 1 (fun _ => oS) :=
 ⟨fun _ => ⟨_, 0, rfl, fun i hi => by
  obtain rfl : i = 0 := by omega
  refine ⟨some ⟨g, 0, none⟩, 1, fun j v hv => ?_, hB.below N.below, fun e => by cases e⟩
  have e0 : (0 + 0 * 2 + j) = j := by omega
  rw [e0, cell_of_row _ _ _ _ _ _ N.blk]
  simpa [tol, oS] using hv⟩⟩
theorem oS_few0 : ∀ i, i < 1 → ((fun _ => oS : Nat → To) i).cn ≤ 1000 ∧ ∀ j, j < ((fun _ => oS : Nat → To) i).cn → (((fun _ => oS : Nat → To) i).X j).n ≤ 1000 := by
 intro i _
 refine ⟨by show (1 : Nat) ≤ 1000; decide, fun j _ => ?_⟩
 show (Cd.kb (Cd.insL (fun _ => 1) 1)).n ≤ 1000
 decide
theorem oS_few : ∀ i, i < 1 → ((fun _ => oS : Nat → To) i).cn ≤ 1000 ∧ ∀ j, j < ((fun _ => oS : Nat → To) i).cn → (((fun _ => oS : Nat → To) i).X j).n ≤ 1048576 := fun i hi => ⟨(oS_few0 i hi).1, fun j hj => by have := (oS_few0 i hi).2 j hj; omega⟩
theorem oS_small : ∀ i, i < 1 → ((fun _ => oS : Nat → To) i).Small := fun i hi => ⟨by have := (oS_few0 i hi).1; omega, fun j hj => by have := (oS_few0 i hi).2 j hj; omega⟩
theorem sr_id {w0 w : World} {s : Nat} {ia oa : Option Addr} (h : SrAt w0 w s ia oa) (hs : s ≤ 1) (hT : Tab w) (hgl : 4 ≤ w.heap.size) :
  Calls Tryz.prog 22 #[.agg (txv 0 ia 1 1 oa 1 1)] w fun e w' => e = .returned (.agg (sv (sumF (nb bS)))) ∧ Below w.heap.size w w' := by
 obtain ⟨S, h1, h2⟩ := h.ti
 rw [← bS_any s]
 exact kid_any 0 ia 1 1 oa 1 1 _ S (fun _ _ => 115) _ w h1 h.ou (fun i hi => ⟨h2 i hi, by show s ≤ _; omega⟩) oS_few (by omega) (by omega) hT hgl
theorem sr_at {w0 w : World} {s : Nat} {ia oa : Option Addr} (k : Int) (h : SrAt w0 w s ia oa) (hs : s ≤ 1) (hT : Tab w) (hgl : 4 ≤ w.heap.size) :
  Calls Tryz.prog 20 #[.agg (txv 0 ia 1 1 oa 1 1), .int .i64 k] w fun e w' => e = .returned (.agg (ptv (sZ (sumF (nb bS))) k)) ∧ Below w.heap.size w w' := by
 obtain ⟨S, h1, h2⟩ := h.ti
 rw [← bS_any s]
 exact kat_any 0 ia 1 1 oa 1 1 _ S (fun _ _ => 115) _ k w h1 h.ou (fun i hi => ⟨h2 i hi, by show s ≤ _; omega⟩) oS_few (by omega) (by omega) hT hgl
theorem sr_check {w0 w : World} {ia oa : Option Addr} (h : SrAt w0 w 0 ia oa) :
  Calls Tryz.prog 12 #[.agg (txv 0 ia 1 1 oa 1 1)] w fun e w' => e = .returned (errV 27) ∧ Below w.heap.size w w' := by
 obtain ⟨S, h1, h2⟩ := h.ti
 rw [← eS]
 exact kcheck_any 0 ia 1 1 oa 1 1 _ S _ w h1 h.ou oS_small (by omega) (by omega)
/-- Both of sure's transactions. -/
structure Both (w0 w : World) (ia oa ib ob : Option Addr) : Prop where
 a : SrAt w0 w 0 ia oa
 b : SrAt w0 w 1 ib ob
theorem Both.mono {w0 w w' : World} {ia oa ib ob : Option Addr} (h : Both w0 w ia oa ib ob) (hb : Below w.heap.size w w') : Both w0 w' ia oa ib ob := ⟨h.a.mono hb, h.b.mono hb⟩
theorem range2_below {w w' : World} {g1 g2 : Nat} {l1 l2 : List Value} (h : w.rangeAt g1 0 l1 ∧ w.rangeAt g2 0 l2) (hb : Below w.heap.size w w') : w'.rangeAt g1 0 l1 ∧ w'.rangeAt g2 0 l2 := ⟨range_below h.1 hb, range_below h.2 hb⟩
theorem s115 (w : World) : Below w.heap.size w (w.alloc (.cells #[.int .u8 115] 5 (1, 2))) ∧ SlAt (w.alloc (.cells #[.int .u8 115] 5 (1, 2))) (some ⟨w.heap.size, 0, none⟩) 1 (fun _ => 115) := ⟨(Below.refl _ w).alloc (Nat.le_refl _) _, fun _ _ => show (0 : Int) ≤ 115 ∧ (115 : Int) ≤ 255 by decide, fun _ => ⟨_, 0, rfl, fun j hj => by
 obtain rfl : j = 0 := by omega
 rw [cell_of_row _ _ _ _ _ _ (heap_alloc_new w (.cells #[.int .u8 115] 5 (1, 2)))]; rfl⟩⟩
theorem field_pt (z : Nat → Int) (n : Int) (w : World) : (Instr.field 47 (.agg (ptv z n)) 1).run Tryz.prog w = .ok (.int .i64 n) w := by kernel_rfl
theorem exec_ptN {a : Act} {o : Oper} (x : Operand) (ho : o.op = .field 47 x 1) (z : Nat → Int) (n : Int) (hx : a.eval x = .agg (ptv z n)) (w : World) : (execOp a.eval o).run Tryz.prog w = .ok (.value (.int .i64 n)) w := by
 unfold execOp
 simp only [ho, hx, Sem.run_bind, field_pt, Result.andThen_ok, Sem.run_pure]
set_option maxRecDepth 100000 in
set_option maxHeartbeats 3200000 in
theorem sure_any (w : World) (hg : Cd.Glob w) (hT : Tab w) (hgl : 4 ≤ w.heap.size) :
  Calls Tryz.prog 7 #[] w fun e w' => e = .returned (.bool true) ∧ Below w.heap.size w w' := by
 have kc := fun (w : World) (C : Array Value) (n c : Nat) => Lib.run_convert_bytes_const (P := Tryz.prog) w 57 5 C n c Tryz.underlying57 Tryz.underlying5
 have hpos := hg.pos
 have HG : Hid (Cd.Glob w ∧ Tab w) := ⟨hg, hT⟩
 have HF : Hid (∀ w', Below w.heap.size w w' → Cd.Glob w' ∧ Tab w' ∧ 4 ≤ w'.heap.size) := fun w' hb => ⟨hg.below hb hpos, hT.frm (S := []) (Frm.ofBelow hb) (fun k hk => by cases hk), by have := hb.size; omega⟩
 clear hg hT hgl
 go_enter Tryz.func7, Tryz.ntmps7
 go_wp2_with (first | (refine wpList_buildTi0 rfl rfl ?_) | (refine wpList_sliceTiN (iS 0) none 0 rfl _ rfl rfl ?_; intro v1 N1) | (refine wpList_sliceInt 1 rfl _ rfl rfl ?_; intro v2 N2) | fail)
 refine (Cd.all_any _ 1 1 (fun _ => 1) v2 (int1_is N2) (fun _ _ => ib1) (by omega)).mono ?_
 rintro e v3 ⟨g, rfl, hB3, hb3⟩
 have hb3' := (N1.below.trans (N2.below.mono N1.below.size)).trans (hb3.mono (Nat.le_trans N1.below.size N2.below.size))
 have HV3 : Hid (Below w.heap.size w v3 ∧ TiAt v3 (some ⟨w.heap.size, 0, none⟩) 1 (fun _ => iS 0) (fun _ => (none, 0)) ∧ Cd.BrAt v3 (some ⟨g, 0, none⟩) 1 (fun _ => Cd.kb (Cd.insL (fun _ => 1) 1))) := ⟨hb3', ((sr_ti N1).below N2.below).below hb3, hB3⟩
 clear hb3 hb3' hB3 N1 N2
 go_wp2_with (first | (refine wpList_sliceToN 5 (some ⟨g, 0, none⟩) 1 1 rfl _ rfl rfl ?_; intro v4 N4) | (refine wpList_allocN 35 #[.int .i64 0, .slice none 0 0, .slice none 0 0] run_allocTx rfl rfl ?_; intro v5 N5) | (refine wpList_storeG 35 szTx rfl _ _ rfl v4.heap.size rfl #[.int .i64 0, .slice (some ⟨w.heap.size, 0, none⟩) 1 1, .slice (some ⟨v3.heap.size, 0, none⟩) 1 1] #[.int .i64 0, .slice none 0 0, .slice none 0 0] rfl rfl (by kernel_rfl) 35 rfl N5.blk ?_; intro v6 hg6 hf6; (have hb5 : Below v4.heap.size v4 v6 := N5.below.trans (hf6.below N5.below.size (by simp))); (have H6 := hidV (And.intro (SrAt.mk (w0 := w) (w := v6) (s := 0) ⟨_, (HV3.out.2.1.below N4.below).below hb5, fun _ _ => SlAt.zero _ _⟩ ((sr_to N4 HV3.out.2.2).below hb5) ((HV3.out.1.trans (N4.below.mono HV3.out.1.size)).trans (hb5.mono (Nat.le_trans HV3.out.1.size N4.below.size)))) hg6)); clear hg6 hf6 hb5 N5 N4 HV3) | (refine wpList_buildTiS (some ⟨v6.heap.size, 0, none⟩) 1 1 rfl _ rfl rfl ?_; have H7 := hidV (s115 v6); generalize v6.alloc (.cells #[.int .u8 115] 5 (1, 2)) = v7 at *) | (refine wpList_sliceTiN (iS 1) _ 1 rfl _ rfl rfl ?_; intro v8 N8) | (refine wpList_sliceInt 1 rfl _ rfl rfl ?_; intro v9 N9) | fail)
 refine (Cd.all_any _ 1 1 (fun _ => 1) v9 (int1_is N9) (fun _ _ => ib1) (by omega)).mono ?_
 rintro e v10 ⟨g2, rfl, hB3, hb3⟩
 have HV10 : Hid (SrAt w v10 0 (some ⟨w.heap.size, 0, none⟩) (some ⟨v3.heap.size, 0, none⟩) ∧ v10.heap[v4.heap.size]? = some (.cells #[.int .i64 0, .slice (some ⟨w.heap.size, 0, none⟩) 1 1, .slice (some ⟨v3.heap.size, 0, none⟩) 1 1] 35 (0, 0)) ∧ (TiAt v10 (some ⟨v7.heap.size, 0, none⟩) 1 (fun _ => iS 1) (fun _ => (some ⟨v6.heap.size, 0, none⟩, 1)) ∧ SlAt v10 (some ⟨v6.heap.size, 0, none⟩) 1 (fun _ => 115)) ∧ Cd.BrAt v10 (some ⟨g2, 0, none⟩) 1 (fun _ => Cd.kb (Cd.insL (fun _ => 1) 1))) :=
  ⟨(((H6.out.1.mono H7.out.1).mono N8.below).mono N9.below).mono hb3, heap_below hb3 (N9.old (N8.old (heap_below H7.out.1 H6.out.2))), ⟨((sr_ti N8).below N9.below).below hb3, (((H7.out.2).below N8.below).below N9.below).below hb3⟩, hB3⟩
 clear hb3 hB3 H7 N8 N9 H6 kc
 go_wp2_with (first | (refine wpList_sliceToN 5 (some ⟨g2, 0, none⟩) 1 1 rfl _ rfl rfl ?_; intro v11 N11) | (refine wpList_allocN 35 #[.int .i64 0, .slice none 0 0, .slice none 0 0] run_allocTx rfl rfl ?_; intro v12 N12) | (refine wpList_storeG 35 szTx rfl _ _ rfl v11.heap.size rfl #[.int .i64 0, .slice (some ⟨v7.heap.size, 0, none⟩) 1 1, .slice (some ⟨v10.heap.size, 0, none⟩) 1 1] #[.int .i64 0, .slice none 0 0, .slice none 0 0] rfl rfl (by kernel_rfl) 35 rfl N12.blk ?_; intro v13 hg13 hf13; (have hb5 : Below v11.heap.size v11 v13 := N12.below.trans (hf13.below N12.below.size (by simp))); (have HB := hidV (And.intro N11.below hb5)); (have HG13 := hidV (And.intro hg13 (sr_to N11 HV10.out.2.2.2))); clear hg13 hf13 hb5 N12 N11) | fail)
 have K13 : Hid (Both w v13 (some ⟨w.heap.size, 0, none⟩) (some ⟨v3.heap.size, 0, none⟩) (some ⟨v7.heap.size, 0, none⟩) (some ⟨v10.heap.size, 0, none⟩)) :=
  ⟨(HV10.out.1.mono HB.out.1).mono HB.out.2, ⟨⟨_, (HV10.out.2.2.1.1.below HB.out.1).below HB.out.2, fun i hi => by obtain rfl : i = 0 := (by omega); exact (HV10.out.2.2.1.2.below HB.out.1).below HB.out.2⟩, HG13.out.2.below HB.out.2, ((HV10.out.1.mono HB.out.1).mono HB.out.2).below⟩⟩
 have S13 : v13.rangeAt v4.heap.size 0 (txl 0 (some ⟨w.heap.size, 0, none⟩) 1 1 (some ⟨v3.heap.size, 0, none⟩) 1 1) ∧ v13.rangeAt v11.heap.size 0 (txl 0 (some ⟨v7.heap.size, 0, none⟩) 1 1 (some ⟨v10.heap.size, 0, none⟩) 1 1) := ⟨txl_range (heap_below HB.out.2 (heap_below HB.out.1 HV10.out.2.1)), txl_range HG13.out.1⟩
 clear HB HG13 HV10
 go_upto_region 3 with fail
 refine wp_region_noPanic ?_
 refine wp_region_held_drew (S := fun w' => w'.rangeAt v4.heap.size 0 (txl 0 (some ⟨w.heap.size, 0, none⟩) 1 1 (some ⟨v3.heap.size, 0, none⟩) 1 1) ∧ w'.rangeAt v11.heap.size 0 (txl 0 (some ⟨v7.heap.size, 0, none⟩) 1 1 (some ⟨v10.heap.size, 0, none⟩) 1 1)) (by kernel_rfl) (range2_below S13 (Below.refl _ _).drew) (fun hHeld => ?_)
 have Kvd := hidV (K13.out.mono (Below.refl _ _).drew)
 have Svd := range2_below S13 (Below.refl v13.heap.size v13).drew
 clear K13 S13
 generalize v13.drew = vd at *
 refine wpAnyH_take (i := 0) (oi := ⟨some 19, .load 35 (.tmp 1), 35, _, _, none⟩) rfl (by kernel_rfl) (by kernel_rfl) (by kernel_rfl) (fun _ _ _ h => h) (yieldsIf_load_mid (by rfl) _ _ rfl v4.heap.size 0 rfl (txl 0 (some ⟨w.heap.size, 0, none⟩) 1 1 (some ⟨v3.heap.size, 0, none⟩) 1 1) _ (fun _ h => h.1) Tryz.underlying35 rfl szTx) (by assumption) ?_
 try simp only [Act.put, sqA, sqB, sqC]
 refine wpAnyH_ready (rs := [1]) (by kernel_rfl) (by simp) ?_
 refine (AllReadyH.cons (o := ⟨some 20, .call { callee := Go.Callee.value (.func 12), args := #[.tmp 19], argTypes := #[35] }, 29, _, _, none⟩) rfl (fun K hK => ?_) AllReadyH.nil)
 go_simp
 refine (sr_check Kvd.out.a).mono ?_
 rintro e ve ⟨rfl, hb⟩
 have Kve : Hid (Both w ve (some ⟨w.heap.size, 0, none⟩) (some ⟨v3.heap.size, 0, none⟩) (some ⟨v7.heap.size, 0, none⟩) (some ⟨v10.heap.size, 0, none⟩)) := Kvd.out.mono hb
 have Sve := range2_below Svd hb
 clear hb Kvd Svd
 refine hK.out _ _ Sve (fun _ => ?_)
 clear hK K
 try simp only [Act.put, sqA, sqB, sqC]
 refine wpAnyH_ready (rs := [2]) (by kernel_rfl) (by simp) ?_
 refine (AllReadyH.cons (o := ⟨some 21, .call { callee := Go.Callee.value (.func 11), args := #[.tmp 20], argTypes := #[29] }, 3, _, _, none⟩) rfl (fun K hK => ?_) AllReadyH.nil)
 go_simp
 refine (Cd.num_any 27 ve (HF.out ve Kve.out.a.below).1).mono ?_
 rintro e vf ⟨rfl, hb⟩
 have Kvf : Hid (Both w vf (some ⟨w.heap.size, 0, none⟩) (some ⟨v3.heap.size, 0, none⟩) (some ⟨v7.heap.size, 0, none⟩) (some ⟨v10.heap.size, 0, none⟩)) := Kve.out.mono hb
 have Svf := range2_below Sve hb
 clear hb Kve Sve
 refine hK.out _ _ Svf (fun _ => ?_)
 clear hK K
 try simp only [Act.put, sqA, sqB, sqC]
 refine wpT (i := 3) (oi := ⟨some 22, .binOp .eql 3 (.tmp 21) (.const (.int .i64 27)) 3, 4, _, _, none⟩) (v := ?_) rfl (by kernel_rfl) (fun _ _ _ h => h) (Or.inl ⟨by rfl, ?_⟩) (by assumption) ?_
 rotate_left
 ·intro wz hSw; (try dsimp only at hSw); go_simp; (try with_reducible rfl)
 try simp only [Act.put, sqA, sqB, sqC]
 refine wpT (i := 4) (oi := ⟨some 23, .move (.tmp 22), 4, _, _, none⟩) (v := ?_) rfl (by kernel_rfl) (fun _ _ _ h => h) (Or.inl ⟨by rfl, ?_⟩) (by assumption) ?_
 rotate_left
 ·intro wz hSw; (try dsimp only at hSw); go_simp; (try with_reducible rfl)
 try simp only [Act.put, sqA, sqB, sqC]
 refine wpAnyH_take (i := 5) (oi := ⟨some 24, .load 35 (.tmp 1), 35, _, _, some (4, true)⟩) rfl (by kernel_rfl) (by kernel_rfl) (by kernel_rfl) (fun _ _ _ h => h) (yieldsIf_load_mid (by rfl) _ _ rfl v4.heap.size 0 rfl (txl 0 (some ⟨w.heap.size, 0, none⟩) 1 1 (some ⟨v3.heap.size, 0, none⟩) 1 1) _ (fun _ h => h.1) Tryz.underlying35 rfl szTx) (by assumption) ?_
 try simp only [Act.put, sqA, sqB, sqC]
 refine wpAnyH_take (i := 7) (oi := ⟨some 26, .load 35 (.tmp 2), 35, _, _, some (4, true)⟩) rfl (by kernel_rfl) (by kernel_rfl) (by kernel_rfl) (fun _ _ _ h => h) (yieldsIf_load_mid (by rfl) _ _ rfl v11.heap.size 0 rfl (txl 0 (some ⟨v7.heap.size, 0, none⟩) 1 1 (some ⟨v10.heap.size, 0, none⟩) 1 1) _ (fun _ h => h.2) Tryz.underlying35 rfl szTx) (by assumption) ?_
 try simp only [Act.put, sqA, sqB, sqC]
 refine wpAnyH_ready (rs := [6]) (by kernel_rfl) (by simp) ?_
 refine (AllReadyH.cons (o := ⟨some 25, .call { callee := Go.Callee.value (.func 22), args := #[.tmp 24], argTypes := #[35] }, 43, _, _, some (4, true)⟩) rfl (fun K hK => ?_) AllReadyH.nil)
 go_simp
 refine (sr_id Kvf.out.a (by omega) (HF.out vf Kvf.out.a.below).2.1 (HF.out vf Kvf.out.a.below).2.2).mono ?_
 rintro e vg ⟨rfl, hb⟩
 have Kvg : Hid (Both w vg (some ⟨w.heap.size, 0, none⟩) (some ⟨v3.heap.size, 0, none⟩) (some ⟨v7.heap.size, 0, none⟩) (some ⟨v10.heap.size, 0, none⟩)) := Kvf.out.mono hb
 have Svg := range2_below Svf hb
 clear hb Kvf Svf
 refine hK.out _ _ Svg (fun _ => ?_)
 clear hK K
 try simp only [Act.put, sqA, sqB, sqC]
 refine wpAnyH_ready (rs := [8]) (by kernel_rfl) (by simp) ?_
 refine (AllReadyH.cons (o := ⟨some 27, .call { callee := Go.Callee.value (.func 22), args := #[.tmp 26], argTypes := #[35] }, 43, _, _, some (4, true)⟩) rfl (fun K hK => ?_) AllReadyH.nil)
 go_simp
 refine (sr_id Kvg.out.b (by omega) (HF.out vg Kvg.out.a.below).2.1 (HF.out vg Kvg.out.a.below).2.2).mono ?_
 rintro e vh ⟨rfl, hb⟩
 have Kvh : Hid (Both w vh (some ⟨w.heap.size, 0, none⟩) (some ⟨v3.heap.size, 0, none⟩) (some ⟨v7.heap.size, 0, none⟩) (some ⟨v10.heap.size, 0, none⟩)) := Kvg.out.mono hb
 have Svh := range2_below Svg hb
 clear hb Kvg Svg
 refine hK.out _ _ Svh (fun _ => ?_)
 clear hK K
 try simp only [Act.put, sqA, sqB, sqC]
 refine wpT (i := 9) (oi := ⟨some 28, .binOp .eql 43 (.tmp 25) (.tmp 27) 43, 4, _, _, some (4, true)⟩) (v := .bool true) rfl (by kernel_rfl) (fun _ _ _ h => h) (Or.inl ⟨by rfl, ?_⟩) (by assumption) ?_
 ·intro wz hSw; (try dsimp only at hSw); exact exec_eqS _ _ rfl (nb bS) rfl rfl wz
 try simp only [Act.put, sqA, sqB, sqC]
 refine wpT (i := 10) (oi := ⟨some 29, .pick (.tmp 23) (.tmp 28) (.const (.bool false)), 4, _, _, none⟩) (v := ?_) rfl (by kernel_rfl) (fun _ _ _ h => h) (Or.inl ⟨by rfl, ?_⟩) (by assumption) ?_
 rotate_left
 ·intro wz hSw; (try dsimp only at hSw); go_simp; (try with_reducible rfl)
 try simp only [Act.put, sqA, sqB, sqC]
 refine wpT (i := 11) (oi := ⟨some 30, .move (.tmp 29), 4, _, _, none⟩) (v := ?_) rfl (by kernel_rfl) (fun _ _ _ h => h) (Or.inl ⟨by rfl, ?_⟩) (by assumption) ?_
 rotate_left
 ·intro wz hSw; (try dsimp only at hSw); go_simp; (try with_reducible rfl)
 try simp only [Act.put, sqA, sqB, sqC]
 refine wpAnyH_take (i := 12) (oi := ⟨some 31, .load 35 (.tmp 1), 35, _, _, some (11, true)⟩) rfl (by kernel_rfl) (by kernel_rfl) (by kernel_rfl) (fun _ _ _ h => h) (yieldsIf_load_mid (by rfl) _ _ rfl v4.heap.size 0 rfl (txl 0 (some ⟨w.heap.size, 0, none⟩) 1 1 (some ⟨v3.heap.size, 0, none⟩) 1 1) _ (fun _ h => h.1) Tryz.underlying35 rfl szTx) (by assumption) ?_
 try simp only [Act.put, sqA, sqB, sqC]
 refine wpAnyH_ready (rs := [13]) (by kernel_rfl) (by simp) ?_
 refine (AllReadyH.cons (o := ⟨some 32, .call { callee := Go.Callee.value (.func 20), args := #[.tmp 31, .const (.int .i64 3)], argTypes := #[35, 3] }, 47, _, _, some (11, true)⟩) rfl (fun K hK => ?_) AllReadyH.nil)
 go_simp
 refine (sr_at 3 Kvh.out.a (by omega) (HF.out vh Kvh.out.a.below).2.1 (HF.out vh Kvh.out.a.below).2.2).mono ?_
 rintro e vi ⟨rfl, hb⟩
 have Kvi : Hid (Both w vi (some ⟨w.heap.size, 0, none⟩) (some ⟨v3.heap.size, 0, none⟩) (some ⟨v7.heap.size, 0, none⟩) (some ⟨v10.heap.size, 0, none⟩)) := Kvh.out.mono hb
 have Svi := range2_below Svh hb
 clear hb Kvh Svh
 refine hK.out _ _ Svi (fun _ => ?_)
 clear hK K
 try simp only [Act.put, sqA, sqB, sqC]
 refine wpT (i := 14) (oi := ⟨some 33, .field 47 (.tmp 32) 1, 3, _, _, some (11, true)⟩) (v := .int .i64 3) rfl (by kernel_rfl) (fun _ _ _ h => h) (Or.inl ⟨by rfl, ?_⟩) (by assumption) ?_
 ·intro wz hSw; (try dsimp only at hSw); exact exec_ptN _ rfl (sZ (sumF (nb bS))) 3 rfl wz
 try simp only [Act.put, sqA, sqB, sqC]
 refine wpT (i := 15) (oi := ⟨some 34, .binOp .eql 3 (.tmp 33) (.const (.int .i64 3)) 3, 4, _, _, some (11, true)⟩) (v := ?_) rfl (by kernel_rfl) (fun _ _ _ h => h) (Or.inl ⟨by rfl, ?_⟩) (by assumption) ?_
 rotate_left
 ·intro wz hSw; (try dsimp only at hSw); go_simp; (try with_reducible rfl)
 try simp only [Act.put, sqA, sqB, sqC]
 refine wpT (i := 16) (oi := ⟨some 35, .pick (.tmp 30) (.tmp 34) (.const (.bool false)), 4, _, _, none⟩) (v := ?_) rfl (by kernel_rfl) (fun _ _ _ h => h) (Or.inl ⟨by rfl, ?_⟩) (by assumption) ?_
 rotate_left
 ·intro wz hSw; (try dsimp only at hSw); go_simp; (try with_reducible rfl)
 try simp only [Act.put, sqA, sqB, sqC]
 refine wpT (i := 17) (oi := ⟨some 0, .assign (.tmp 35), 4, _, _, none⟩) (v := ?_) rfl (by kernel_rfl) (fun _ _ _ h => h) (Or.inl ⟨by rfl, ?_⟩) (by assumption) ?_
 rotate_left
 ·intro wz hSw; (try dsimp only at hSw); go_simp; (try with_reducible rfl)
 try simp only [Act.put, List.setIfInBounds_toArray, List.set_cons_zero]
 refine wpAnyH_done (by kernel_rfl) (NoPanic.normal ?_) _
 try simp only [Act.put, sqA, sqB, sqC]
 clear hHeld
 go_wp2
 go_ret
 exact ⟨rfl, Kvi.out.a.below⟩
end Go.Proofs.YtanchjfodcjlmaaGreatDoor
/- tx.Less: which of two points is ahead. -/
namespace Go.Proofs.YtanchjfodcjlmaaGreatDoor
open Go.RowKit

theorem run_compareSl (w : World) (x y : Addr) (xs ys : List Int) (c d : Nat) (hx : ∀ j v, xs[j]? = some v → w.cell? (x.add j) = some (.int .u8 v)) (hy : ∀ j v, ys[j]? = some v → w.cell? (y.add j) = some (.int .u8 v)) :
  (Extern.BytealgCompare.compare #[.slice (some x) xs.length c, .slice (some y) ys.length d]).run Tryz.prog w = .ok (.int .i64 (Lib.compareBytes (Lib.bytesOf xs) (Lib.bytesOf ys))) w := by
 change Sem.run Tryz.prog (do pure (goInt (Extern.BytealgCompare.cmp (← Extern.Bytes.bytesOf (.slice (some x) xs.length c)) (← Extern.Bytes.bytesOf (.slice (some y) ys.length d))))) w = _
 have h1 := Lib.run_loadBytesX (P := Tryz.prog) w xs x .empty hx
 have h2 := Lib.run_loadBytesX (P := Tryz.prog) w ys y .empty hy
 simp only [Extern.Bytes.bytesOf, Sem.run_bind, h1, h2, Sem.run_pure, Result.andThen]
 rw [Lib.cmp_eq]
 simp [goInt]
/-- A sum's bytes in a row. -/
def zl (z : Nat → Int) : List Int := (List.range 32).map z
theorem zl_ub (z : Nat → Int) : Lib.bytesOf (zl z) = ub z := by
 simp [Lib.bytesOf, zl, ub]
theorem zl_length (z : Nat → Int) : (zl z).length = 32 := by simp [zl]
theorem zl_cells {w : World} {g : Nat} {z : Nat → Int} {n : Int} (h : w.rangeAt g 0 (ptl z n)) : ∀ j v, (zl z)[j]? = some v → w.cell? ((⟨g, 0, none⟩ : Addr).add j) = some (.int .u8 v) := by
 intro j v hv
 have hj : j < 32 := by simpa [zl_length] using (List.getElem?_eq_some_iff.1 hv).1
 have e : v = z j := by simpa [zl, hj] using hv.symm
 have h1 := h j (.int .u8 (z j)) (by rw [ptl, List.getElem?_append_left (by rw [bl_length]; exact hj), bl_at hj])
 rw [Addr.add_lit, e]
 exact h1
set_option maxRecDepth 100000 in
theorem kcompare_any (g1 g2 : Nat) (z1 z2 : Nat → Int) (n1 n2 : Int) (w : World) (h1 : w.rangeAt g1 0 (ptl z1 n1)) (h2 : w.rangeAt g2 0 (ptl z2 n2)) :
  Calls Tryz.prog 36 #[.slice (some ⟨g1, 0, none⟩) 32 32, .slice (some ⟨g2, 0, none⟩) 32 32] w fun e w' => e = .returned (.int .i64 (Lib.compareBytes (ub z1) (ub z2))) ∧ w' = w := by
 have hr := run_compareSl w ⟨g1, 0, none⟩ ⟨g2, 0, none⟩ (zl z1) (zl z2) 32 32 (zl_cells h1) (zl_cells h2)
 rw [zl_length, zl_length, zl_ub, zl_ub] at hr
 clear h1 h2
 go_enter Tryz.func36, Tryz.ntmps36
 go_wp2
 rw [run_callFunc_extern Tryz.func52 (by kernel_rfl) (by kernel_rfl) (by kernel_rfl) (e := Extern.BytealgCompare.compare) (by kernel_rfl), hr]
 simp only [Result.andThen]
 rw [Oper.upon_value]
 go_wp2
 go_ret
 exact ⟨rfl, rfl⟩
/-- Which of two points is ahead. -/
def lessB (z1 : Nat → Int) (n1 : Int) (z2 : Nat → Int) (n2 : Int) : Bool := if hq z1 z2 = true then decide (n1 < n2) else decide (Lib.compareBytes (ub z1) (ub z2) < 0)
theorem neq_hv {z y : Nat → Int} (hz : ∀ j, j < 32 → 0 ≤ z j ∧ z j ≤ 255) (hy : ∀ j, j < 32 → 0 ≤ y j ∧ y j ≤ 255) (w : World) :
  (binOp .neq 43 (.agg (hv z)) (.agg (hv y))).run Tryz.prog w = .ok (.bool (!hq z y)) w := by
 rw [hv_ub hz, hv_ub hy, run_neq_struct, run_equalIn_bytes w 9998 43 5 32 Tryz.underlying43 Tryz.underlying5 hsz1 (ub z) (ub y) (by simp [ub]) (by simp [ub])]
 rfl
theorem szHl (z : Nat → Int) : (Tryz.prog.info? 43).map (·.size) = some (bl z 32).length := by rw [bl_length]; kernel_rfl
section
variable {ops : Array Oper} {rest : List Oper} {o : Oper} {a : Act} {w : World} {Q : Exit → Act → World → Prop}
theorem wpList_neqH (z y : Nat → Int) (b : Bool) (hb : (!hq z y) = b) (hz : ∀ j, j < 32 → 0 ≤ z j ∧ z j ≤ 255) (hy : ∀ j, j < 32 → 0 ≤ y j ∧ y j ≤ 255) (hgd : o.guard = none) (x u : Operand) (ho : o.op = .binOp .neq 43 x u 43) (hx : a.eval x = .agg (hv z)) (hu : a.eval u = .agg (hv y))
  (h : wpList Tryz.prog ops Q rest (a.put o.dst (.bool b)) w) : wpList Tryz.prog ops Q (o :: rest) a w := by
 refine wpList_plain hgd fun K hK => ?_
 unfold Oper.wp execOp
 simp only [ho, hx, hu, Sem.run_bind, run_eqGuard_agg w .neq 43 x u _ _ guardHs2, neq_hv hz hy, hb, Result.andThen]
 exact hK _ _ h
end
theorem hash_range {w : World} {g : Nat} {z : Nat → Int} {n : Int} (h : w.rangeAt g 0 (ptl z n)) : w.rangeAt g 0 (bl z 32) := fun j v hv => h j v (by rw [ptl, List.getElem?_append_left (List.getElem?_eq_some_iff.1 hv).1]; exact hv)
theorem num_cell {w : World} {g : Nat} {z : Nat → Int} {n : Int} (h : w.rangeAt g 0 (ptl z n)) : w.cell? ⟨g, 32, none⟩ = some (.int .i64 n) := by
 have := h 32 (.int .i64 n) (by rw [ptl, List.getElem?_append_right (by rw [bl_length]; exact Nat.le_refl _), bl_length]; rfl)
 simpa using this
set_option maxRecDepth 100000 in
set_option maxHeartbeats 3200000 in
theorem kless_any (z1 : Nat → Int) (n1 : Int) (z2 : Nat → Int) (n2 : Int) (w : World) (hz1 : ∀ j, j < 32 → 0 ≤ z1 j ∧ z1 j ≤ 255) (hz2 : ∀ j, j < 32 → 0 ≤ z2 j ∧ z2 j ≤ 255) :
  Calls Tryz.prog 18 #[.agg (ptv z1 n1), .agg (ptv z2 n2)] w fun e w' => e = .returned (.bool (lessB z1 n1 z2 n2)) ∧ Below w.heap.size w w' := by
 go_enter Tryz.func18, Tryz.ntmps18
 go_upto_region 1 with (first | (refine wpList_boxN rfl _ _ rfl (ptv z1 n1) rfl ?_; intro v1 N1) | (refine wpList_boxN rfl _ _ rfl (ptv z2 n2) rfl ?_; intro v2 N2) | fail)
 have HR := hidV (And.intro (ptl_range (heap_below N2.below N1.blk)) (ptl_range N2.blk))
 have HB := hidV (Below.transS N1.below N2.below)
 clear N1 N2
 have HH1 := hidV (hash_range HR.out.1)
 have HH2 := hidV (hash_range HR.out.2)
 by_cases hh : hq z1 z2 = true
 ·have hb : (!hq z1 z2) = false := by simp [hh]
  have HE : Hid (lessB z1 n1 z2 n2 = decide (n1 < n2)) := if_pos hh
  have c1 := num_cell HR.out.1
  have c2 := num_cell HR.out.2
  clear hh
  go_wp2_with (first | (refine wpList_load_mid rfl 43 _ rfl w.heap.size 0 rfl (bl z1 32) _ HH1.out Tryz.underlying43 rfl (szHl z1) ?_) | (refine wpList_load_mid rfl 43 _ rfl v1.heap.size 0 rfl (bl z2 32) _ HH2.out Tryz.underlying43 rfl (szHl z2) ?_) | (refine wpList_neqH z1 z2 false hb hz1 hz2 rfl _ _ rfl rfl rfl ?_) | fail)
  go_wp2
  go_ret
  exact ⟨by rw [HE.out]; rfl, HB.out⟩
 ·have hb : (!hq z1 z2) = true := by simpa using hh
  have HE : Hid (lessB z1 n1 z2 n2 = decide (Lib.compareBytes (ub z1) (ub z2) < 0)) := if_neg hh
  clear hh
  go_wp2_with (first | (refine wpList_load_mid rfl 43 _ rfl w.heap.size 0 rfl (bl z1 32) _ HH1.out Tryz.underlying43 rfl (szHl z1) ?_) | (refine wpList_load_mid rfl 43 _ rfl v1.heap.size 0 rfl (bl z2 32) _ HH2.out Tryz.underlying43 rfl (szHl z2) ?_) | (refine wpList_neqH z1 z2 true hb hz1 hz2 rfl _ _ rfl rfl rfl ?_) | fail)
  go_upto_region 2 with fail
  refine wp_region_noPanic ?_
  refine wp_region_held_drew (S := fun w' => w'.rangeAt w.heap.size 0 (ptl z1 n1) ∧ w'.rangeAt v1.heap.size 0 (ptl z2 n2)) (by kernel_rfl) (range2_below HR.out (Below.refl _ _).drew) (fun hHeld => ?_)
  have Kvd := hidV (Below.transS HB.out (Below.refl v2.heap.size v2).drew)
  have Svd := range2_below HR.out (Below.refl v2.heap.size v2).drew
  clear HR HB HH1 HH2 hb
  generalize v2.drew = vd at *
  refine wpT (i := 0) (oi := ⟨some 10, .fieldAddr 47 (.tmp 2) 0, 0, _, _, none⟩) (v := ?_) rfl (by kernel_rfl) (fun _ _ _ h => h) (Or.inl ⟨by rfl, ?_⟩) (by assumption) ?_
  rotate_left
  ·intro wz hSw; (try dsimp only at hSw); go_simp; (try with_reducible rfl)
  try simp only [Act.put, sqA, sqB, sqC]
  refine wpT (i := 1) (oi := ⟨some 11, .slice 43 (.tmp 10) none none none, 57, _, _, none⟩) (v := ?_) rfl (by kernel_rfl) (fun _ _ _ h => h) (Or.inl ⟨by rfl, ?_⟩) (by assumption) ?_
  rotate_left
  ·intro wz hSw; (try dsimp only at hSw); go_simp; (try with_reducible rfl)
  try simp only [Act.put, sqA, sqB, sqC]
  refine wpT (i := 2) (oi := ⟨some 12, .fieldAddr 47 (.tmp 3) 0, 0, _, _, none⟩) (v := ?_) rfl (by kernel_rfl) (fun _ _ _ h => h) (Or.inl ⟨by rfl, ?_⟩) (by assumption) ?_
  rotate_left
  ·intro wz hSw; (try dsimp only at hSw); go_simp; (try with_reducible rfl)
  try simp only [Act.put, sqA, sqB, sqC]
  refine wpT (i := 3) (oi := ⟨some 13, .slice 43 (.tmp 12) none none none, 57, _, _, none⟩) (v := ?_) rfl (by kernel_rfl) (fun _ _ _ h => h) (Or.inl ⟨by rfl, ?_⟩) (by assumption) ?_
  rotate_left
  ·intro wz hSw; (try dsimp only at hSw); go_simp; (try with_reducible rfl)
  try simp only [Act.put, sqA, sqB, sqC]
  refine wpAnyH_ready (rs := [4]) (by kernel_rfl) (by simp) ?_
  refine (AllReadyH.cons (o := ⟨some 14, .call { callee := Go.Callee.value (.func 36), args := #[.tmp 11, .tmp 13], argTypes := #[57, 57] }, 3, _, _, none⟩) rfl (fun K hK => ?_) AllReadyH.nil)
  go_simp
  refine (kcompare_any w.heap.size v1.heap.size z1 z2 n1 n2 vd Svd.1 Svd.2).mono ?_
  rintro e ve ⟨rfl, rfl⟩
  refine hK.out _ _ Svd (fun _ => ?_)
  clear hK K
  try simp only [Act.put, sqA, sqB, sqC]
  refine wpT (i := 5) (oi := ⟨some 15, .binOp .lss 3 (.tmp 14) (.const (.int .i64 0)) 3, 4, _, _, none⟩) (v := ?_) rfl (by kernel_rfl) (fun _ _ _ h => h) (Or.inl ⟨by rfl, ?_⟩) (by assumption) ?_
  rotate_left
  ·intro wz hSw; (try dsimp only at hSw); go_simp; (try with_reducible rfl)
  try simp only [Act.put, sqA, sqB, sqC]
  refine wpT (i := 6) (oi := ⟨some 4, .assign (.tmp 15), 4, _, _, none⟩) (v := ?_) rfl (by kernel_rfl) (fun _ _ _ h => h) (Or.inl ⟨by rfl, ?_⟩) (by assumption) ?_
  rotate_left
  ·intro wz hSw; (try dsimp only at hSw); go_simp; (try with_reducible rfl)
  try simp only [Act.put, sqA, sqB, sqC]
  refine wpAnyH_done (by kernel_rfl) (NoPanic.normal ?_) _
  try simp only [Act.put, sqA, sqB, sqC]
  clear hHeld
  go_wp2
  go_ret
  exact ⟨by rw [HE.out]; rfl, Kvd.out⟩
end Go.Proofs.YtanchjfodcjlmaaGreatDoor
/- TxOrder: what 'ahead of' keeps to. -/
namespace Go.Proofs.YtanchjfodcjlmaaGreatDoor
open Go.RowKit

theorem cb_anti : ∀ a b : List UInt8, Lib.compareBytes b a = - Lib.compareBytes a b
 | [], [] => rfl
 | [], _ :: _ => rfl
 | _ :: _, [] => rfl
 | x :: a, y :: b => by
  have ih := cb_anti a b
  unfold Lib.compareBytes
  simp only [UInt8.lt_iff_toNat_lt]
  by_cases h1 : x.toNat < y.toNat
  ·rw [if_neg (by omega), if_pos h1, if_pos h1]; rfl
  ·by_cases h2 : y.toNat < x.toNat
   ·rw [if_pos h2, if_neg h1, if_pos h2]
   ·rw [if_neg h2, if_neg h1, if_neg h1, if_neg h2]; exact ih
theorem cb_zero : ∀ a b : List UInt8, Lib.compareBytes a b = 0 → a = b
 | [], [], _ => rfl
 | [], _ :: _, h => by simp [Lib.compareBytes] at h
 | _ :: _, [], h => by simp [Lib.compareBytes] at h
 | x :: a, y :: b, h => by
  have ih := cb_zero a b
  unfold Lib.compareBytes at h
  simp only [UInt8.lt_iff_toNat_lt] at h
  split at h
  ·omega
  ·split at h
   ·omega
   ·have e : x = y := UInt8.toNat_inj.1 (by omega)
    rw [e, ih h]
theorem hq_iff (z y : Nat → Int) : hq z y = true ↔ ub z = ub y := by simp [hq]
theorem less_iff (z1 : Nat → Int) (n1 : Int) (z2 : Nat → Int) (n2 : Int) : lessB z1 n1 z2 n2 = true ↔ (ub z1 = ub z2 ∧ n1 < n2) ∨ (ub z1 ≠ ub z2 ∧ Lib.compareBytes (ub z1) (ub z2) < 0) := by
 unfold lessB
 by_cases h : hq z1 z2 = true
 ·rw [if_pos h]
  have e := (hq_iff z1 z2).1 h
  simp [e]
 ·rw [if_neg h]
  have e : ub z1 ≠ ub z2 := fun e => h ((hq_iff z1 z2).2 e)
  simp [e]
theorem less_eq (z1 : Nat → Int) (n1 : Int) (z2 : Nat → Int) (n2 : Int) : (hq z1 z2 && decide (n1 = n2)) = (!lessB z1 n1 z2 n2 && !lessB z2 n2 z1 n1) := by
 rw [Bool.eq_iff_iff]
 simp only [Bool.and_eq_true, Bool.not_eq_true', decide_eq_true_eq, ← Bool.not_eq_true, less_iff, hq_iff]
 have a := cb_anti (ub z1) (ub z2)
 constructor
 ·rintro ⟨e, e2⟩
  exact ⟨fun h => by rcases h with ⟨_, h⟩ | ⟨h, _⟩; (· omega); (· exact h e), fun h => by rcases h with ⟨_, h⟩ | ⟨h, _⟩; (· omega); (· exact h e.symm)⟩
 ·rintro ⟨h1, h2⟩
  by_cases e : ub z1 = ub z2
  ·refine ⟨e, ?_⟩
   have h3 : ¬ n1 < n2 := fun h => h1 (.inl ⟨e, h⟩)
   have h4 : ¬ n2 < n1 := fun h => h2 (.inl ⟨e.symm, h⟩)
   omega
  ·exfalso
   have h3 : ¬ Lib.compareBytes (ub z1) (ub z2) < 0 := fun h => h1 (.inr ⟨e, h⟩)
   have h4 : ¬ Lib.compareBytes (ub z2) (ub z1) < 0 := fun h => h2 (.inr ⟨fun h => e h.symm, h⟩)
   exact e (cb_zero _ _ (by omega))
/-! ### Points held against each other -/
theorem ktPt3 : Tryz.prog.keyTypeAt 3 47 = true := by kernel_rfl
theorem formedPtO (z : Nat → Int) (n : Int) : (Value.agg (ptv z n)).formed Tryz.prog 47 = true := by
 simp only [Value.formed, Tryz.underlying47]
 simp [Kp.cellsS, ptv_size]
theorem guardPt : Tryz.prog.eqGuardType Tryz.prog.depth 47 = false := by kernel_rfl
theorem lits_iffO {z y : Nat → Int} (hz : Hb z) (hy : Hb y) (n m : Int) : (((List.range 32).map fun j => Lit.int .u8 (z j)) ++ [Lit.int .i64 n] = ((List.range 32).map fun j => Lit.int .u8 (y j)) ++ [Lit.int .i64 m]) ↔ (ub z = ub y ∧ n = m) := by
 have h1 : ((List.range 32).map fun j => Lit.int .u8 (z j)) = ((List.range 32).map fun j => Lit.int .u8 (y j)) ↔ ub z = ub y := by
  unfold ub
  rw [List.map_inj_left, List.map_inj_left]
  refine forall_congr' fun j => forall_congr' fun hj => ?_
  have hj' : j < 32 := List.mem_range.1 hj
  have a := hz j hj'
  have b := hy j hj'
  constructor
  ·intro h
   have e : z j = y j := by simpa using h
   rw [e]
  ·intro h
   have e := congrArg UInt8.toNat h
   simp only [UInt8.toNat_ofNat'] at e
   have e2 : z j = y j := by omega
   rw [e2]
 rw [← h1]
 constructor
 ·intro h
  have h2 := List.append_inj h (by simp)
  exact ⟨h2.1, by simpa using h2.2⟩
 ·rintro ⟨e1, e2⟩
  rw [e1, e2]
set_option maxRecDepth 20000 in
theorem eql_pt {z y : Nat → Int} {n m : Int} (hz : Hb z) (hy : Hb y) (hn : Kp.Ib n) (hm : Kp.Ib m) (w : World) :
  (binOp .eql 47 (.agg (ptv z n)) (.agg (ptv y m))).run Tryz.prog w = .ok (.bool (hq z y && decide (n = m))) w := by
 obtain ⟨r, h1, h2⟩ := run_equalIn_deep (P := Tryz.prog) 9997 3 47 ktPt3 w 3 3 (.agg (ptv z n)) (.agg (ptv y m)) _ _ (formedPtO z n) (formedPtO y m) (Kp.lits_sig 0 hn hz) (Kp.lits_sig 0 hm hy)
 have e : r = (hq z y && decide (n = m)) := by
  rw [Bool.eq_iff_iff, h2, lits_iffO hz hy]
  simp [hq_iff]
 rw [run_eql_struct, show (10000 : Nat) = 9997 + 3 from rfl, h1, e]
 rfl
theorem exec_eqPtO {a : Act} {o : Oper} (x y : Operand) (ho : o.op = .binOp .eql 47 x y 47) {z u : Nat → Int} {n m : Int} (hz : Hb z) (hu : Hb u) (hn : Kp.Ib n) (hm : Kp.Ib m) (b : Bool) (hb : (hq z u && decide (n = m)) = b) (hx : a.eval x = .agg (ptv z n)) (hy : a.eval y = .agg (ptv u m)) (w : World) :
  (execOp a.eval o).run Tryz.prog w = .ok (.value (.bool b)) w := by
 have e1 := eql_pt hz hu hn hm w
 rw [hb] at e1
 unfold execOp
 simp only [ho, hx, hy, Sem.run_bind, run_eqGuard_agg w .eql 47 x y _ _ guardPt, e1, Result.andThen_ok, Sem.run_pure]
end Go.Proofs.YtanchjfodcjlmaaGreatDoor
