/- The library's contracts laid at this program: which of its functions and types they speak of. -/
import Derived.Test.YtanchjfodcjlmaaGreatDoorProg
import Derived.Ground.Names2Prog
import Derived.Ground.NamesProg
import Derived.Shelf.Slices.Clone
import Derived.Shelf.Slices.CompactI
import Derived.Shelf.Slices.Turned
import Derived.Shelf.Sort.Plain
import Derived.Shelf.SlGeneric
import Derived.Shelf.Spec.SlicesGrow
import Derived.Test.YtanchjfodcjlmaaGreatDoorOwnShelf06
import Derived.Test.YtanchjfodcjlmaaGreatDoorOwnShelf08
import Derived.Test.YtanchjfodcjlmaaGreatDoorOwnShelf15
import Derived.Test.YtanchjfodcjlmaaGreatDoorOwnShelf07
namespace Go.Proofs
open Go.Shelf
def Tryz.lClone_ren : Go.Shelf.Ren := ⟨fun | 15 => 43 | n => n, fun | 22 => 71 | 3 => 3 | 4 => 4 | n => n, fun | n => n⟩
theorem Tryz.lClone : Go.Proofs.Lays2.n15 Tryz.prog Tryz.lClone_ren := {
 mixed := by kernel_rfl
 f15 := Tryz.func43.trans (congrArg some (by kernel_rfl))
 t3 := Tryz.underlying3
 a3 := Tryz.isAgg3
 z3 := Tryz.sizeOf3
 v3 := Tryz.zeroValue3
 t4 := Tryz.underlying4
 a4 := Tryz.isAgg4
 z4 := Tryz.sizeOf4
 v4 := Tryz.zeroValue4
 t22 := Tryz.underlying71
 a22 := Tryz.isAgg71
 z22 := Tryz.sizeOf71
 v22 := Tryz.zeroValue71
 i3 := by kernel_rfl }
def Tryz.lCompact_ren : Go.Shelf.Ren := ⟨fun | 20 => 45 | n => n, fun | 22 => 71 | 3 => 3 | 4 => 4 | 0 => 0 | n => n, fun | n => n⟩
theorem Tryz.lCompact : Go.Proofs.Lays2.n20 Tryz.prog Tryz.lCompact_ren := {
 mixed := by kernel_rfl
 f20 := Tryz.func45.trans (congrArg some (by kernel_rfl))
 t0 := Tryz.underlying0
 a0 := Tryz.isAgg0
 z0 := Tryz.sizeOf0
 v0 := Tryz.zeroValue0
 t3 := Tryz.underlying3
 a3 := Tryz.isAgg3
 z3 := Tryz.sizeOf3
 v3 := Tryz.zeroValue3
 t4 := Tryz.underlying4
 a4 := Tryz.isAgg4
 z4 := Tryz.sizeOf4
 v4 := Tryz.zeroValue4
 t22 := Tryz.underlying71
 a22 := Tryz.isAgg71
 z22 := Tryz.sizeOf71
 v22 := Tryz.zeroValue71
 i3 := by kernel_rfl }
def Tryz.lSort_ren : Go.Shelf.Ren := ⟨fun | 189 => 44 | 125 => 66 | 257 => 65 | 128 => 92 | 129 => 93 | 294 => 83 | 295 => 84 | 296 => 85 | 297 => 86 | 298 => 87 | 299 => 88 | 216 => 89 | 300 => 90 | 301 => 91 | 328 => 105 | 329 => 106 | 330 => 107 | 331 => 108 | 332 => 109 | 215 => 110 | 343 => 115 | n => n, fun | 28 => 71 | 3 => 3 | 46 => 60 | 0 => 0 | 51 => 151 | 53 => 119 | 4 => 4 | 183 => 166 | 182 => 165 | 131 => 171 | 5 => 5 | 9 => 9 | 218 => 189 | 222 => 193 | 228 => 206 | 229 => 37 | n => n, fun | n => n⟩
theorem Tryz.lSort : Go.Proofs.Lays.n189 Tryz.prog Tryz.lSort_ren := {
 mixed := by kernel_rfl
 f125 := Tryz.func66.trans (congrArg some (by kernel_rfl))
 f128 := Tryz.func92.trans (congrArg some (by kernel_rfl))
 f129 := Tryz.func93.trans (congrArg some (by kernel_rfl))
 f189 := Tryz.func44.trans (congrArg some (by kernel_rfl))
 f215 := Tryz.func110.trans (congrArg some (by kernel_rfl))
 f216 := Tryz.func89.trans (congrArg some (by kernel_rfl))
 f257 := Tryz.func65.trans (congrArg some (by kernel_rfl))
 f294 := Tryz.func83.trans (congrArg some (by kernel_rfl))
 f295 := Tryz.func84.trans (congrArg some (by kernel_rfl))
 f296 := Tryz.func85.trans (congrArg some (by kernel_rfl))
 f297 := Tryz.func86.trans (congrArg some (by kernel_rfl))
 f298 := Tryz.func87.trans (congrArg some (by kernel_rfl))
 f299 := Tryz.func88.trans (congrArg some (by kernel_rfl))
 f300 := Tryz.func90.trans (congrArg some (by kernel_rfl))
 f301 := Tryz.func91.trans (congrArg some (by kernel_rfl))
 f328 := Tryz.func105.trans (congrArg some (by kernel_rfl))
 f329 := Tryz.func106.trans (congrArg some (by kernel_rfl))
 f330 := Tryz.func107.trans (congrArg some (by kernel_rfl))
 f331 := Tryz.func108.trans (congrArg some (by kernel_rfl))
 f332 := Tryz.func109.trans (congrArg some (by kernel_rfl))
 f343 := Tryz.func115.trans (congrArg some (by kernel_rfl))
 t0 := Tryz.underlying0
 a0 := Tryz.isAgg0
 z0 := Tryz.sizeOf0
 v0 := Tryz.zeroValue0
 t3 := Tryz.underlying3
 a3 := Tryz.isAgg3
 z3 := Tryz.sizeOf3
 v3 := Tryz.zeroValue3
 t4 := Tryz.underlying4
 a4 := Tryz.isAgg4
 z4 := Tryz.sizeOf4
 v4 := Tryz.zeroValue4
 t5 := Tryz.underlying5
 a5 := Tryz.isAgg5
 z5 := Tryz.sizeOf5
 v5 := Tryz.zeroValue5
 t9 := Tryz.underlying9
 a9 := Tryz.isAgg9
 z9 := Tryz.sizeOf9
 v9 := Tryz.zeroValue9
 t28 := Tryz.underlying71
 a28 := Tryz.isAgg71
 z28 := Tryz.sizeOf71
 v28 := Tryz.zeroValue71
 t46 := Tryz.underlying60
 a46 := Tryz.isAgg60
 z46 := Tryz.sizeOf60
 v46 := Tryz.zeroValue60
 t51 := Tryz.underlying151
 a51 := Tryz.isAgg151
 z51 := Tryz.sizeOf151
 v51 := Tryz.zeroValue151
 t53 := Tryz.underlying119
 a53 := Tryz.isAgg119
 z53 := Tryz.sizeOf119
 v53 := Tryz.zeroValue119
 t131 := Tryz.underlying171
 a131 := Tryz.isAgg171
 z131 := Tryz.sizeOf171
 v131 := Tryz.zeroValue171
 t182 := Tryz.underlying165
 a182 := Tryz.isAgg165
 z182 := Tryz.sizeOf165
 v182 := Tryz.zeroValue165
 t183 := Tryz.underlying166
 a183 := Tryz.isAgg166
 z183 := Tryz.sizeOf166
 v183 := Tryz.zeroValue166
 t218 := Tryz.underlying189
 a218 := Tryz.isAgg189
 z218 := Tryz.sizeOf189
 v218 := Tryz.zeroValue189
 t222 := Tryz.underlying193
 a222 := Tryz.isAgg193
 z222 := Tryz.sizeOf193
 v222 := Tryz.zeroValue193
 t228 := Tryz.underlying206
 a228 := Tryz.isAgg206
 z228 := Tryz.sizeOf206
 v228 := Tryz.zeroValue206
 t229 := Tryz.underlying37
 a229 := Tryz.isAgg37
 z229 := Tryz.sizeOf37
 v229 := Tryz.zeroValue37 }
end Go.Proofs
/- Ints cloned, sorted, and made single: the library's three. -/
namespace Go.Proofs.YtanchjfodcjlmaaGreatDoor.Cd
open Go.RowKit Go.Shelf Go.Sort

/-- The first n ints as a list. -/
def keysL (z : Nat → Int) (n : Nat) : List Int := (List.range n).map z
theorem keysL_length (z : Nat → Int) (n : Nat) : (keysL z n).length = n := by simp [keysL]
theorem keysL_getD (z : Nat → Int) (n j : Nat) (h : j < n) : (keysL z n).getD j 0 = z j := by simp [keysL, h]
def srt (l : List Int) : List Int := l.mergeSort fun x y => decide (x ≤ y)
theorem srt_length (l : List Int) : (srt l).length = l.length := by simp [srt]

theorem clone_pos (b off n cap : Nat) (z : Nat → Int) (w : World) (h : ∀ j, j < n → w.cell? ⟨b, off + j, none⟩ = some (.int .i64 (z j))) (hn : n ≤ 1000000) :
  Calls Tryz.prog 43 #[.slice (some ⟨b, off, none⟩) n cap] w fun e w' => ∃ g cap', e = .returned (.slice (some ⟨g, 0, none⟩) n cap') ∧ n ≤ cap' ∧ Holds (Value.int .i64) w' g 0 (keysL z n).toArray ∧ w.heap.size ≤ g ∧ g < w'.heap.size ∧ Below w.heap.size w w' := by
 have hcon := Any.slices_Clone_int Tryz.lClone b off n cap (keysL z n) w (by simp [keysL]) (by omega) (fun j hj => by
  rw [keysL_length] at hj
  rw [h j hj, keysL_getD z n j hj])
 change Calls Tryz.prog 43 _ _ _ at hcon
 refine hcon.mono ?_
 rintro e w' ⟨v', rfl, hown, hne, hb⟩
 have ht : (keysL z n).take n = keysL z n := List.take_of_length_le (by simp [keysL])
 rw [ht] at hown
 rcases hown.2 with ⟨e, _⟩ | ⟨g, cap', cur, rfl, hg, hgc, hcap, _, hcs, htk⟩
 ·exact absurd e hne
 ·refine ⟨g, cap', rfl, hcap, fun j hj => ?_, hg, lt_of_block hgc, hb⟩
  have hj' : j < (keysL z n).length := by simpa using hj
  have hc := hown.cells (g := g) rfl j (.int .i64 (keysL z n)[j]) (by simp [hj'])
  rw [Addr.add_lit] at hc
  refine ⟨?_, ?_⟩
  ·rw [hc]; simp [hj']
  ·rw [Nat.zero_add]; exact frozen_of_row w' g j _ _ hgc

theorem putRow_below {w : World} {g off n : Nat} {d : Array Int} {os : Array Obj} {B : Nat} (hB : B ≤ g) (hg : g < w.heap.size) : Below B w (grow (putRow (Value.int .i64) (Sort.ahead w n) g off d) os) := by
 refine ⟨rfl, rfl, rfl, by simp, fun k hk => ?_⟩
 rw [heap_grow_old _ _ (by simp; omega)]
 simp only [putRow, mapBlock, heap_ahead]
 rw [Array.getElem?_modify, if_neg (by omega)]

theorem sort_pos (g cap : Nat) (L : List Int) (w : World) (hH : Holds (Value.int .i64) w g 0 L.toArray) (hg : g < w.heap.size) (hn : L.length ≤ 1000000) (B : Nat) (hB : B ≤ g) :
  Calls Tryz.prog 44 #[.slice (some ⟨g, 0, none⟩) L.length cap] w fun e w' => e = .returned (.tuple #[]) ∧ Holds (Value.int .i64) w' g 0 (srt L).toArray ∧ g < w'.heap.size ∧ Below B w w' := by
 have hcon := Any.slices_Sort_int Tryz.lSort g 0 cap L w hH hg (by omega)
 change Calls Tryz.prog 44 _ _ _ at hcon
 refine hcon.mono ?_
 rintro e w' ⟨rfl, n, os, rfl⟩
 refine ⟨rfl, holds_grow _ _ _ _ _ _ (by simpa using hg) (holds_putRow _ _ _ _ _ _ (holds_ahead _ _ _ _ _ _ hH) (by simp)), by simp; omega, putRow_below hB hg⟩

theorem compact_pos (g cap : Nat) (L : List Int) (w : World) (hH : Holds (Value.int .i64) w g 0 L.toArray) (hg : g < w.heap.size) (hn : L.length ≤ 1000000) (hc : L.length ≤ cap) (B : Nat) (hB : B ≤ g) :
  Calls Tryz.prog 45 #[.slice (some ⟨g, 0, none⟩) L.length cap] w fun e w' => e = .returned (.slice (some ⟨g, 0, none⟩) (Lib.compact L).length cap) ∧ IsAt w' (some ⟨g, 0, none⟩) (Lib.compact L).length (fun j => (Lib.compact L).getD j 0) ∧ g < w'.heap.size ∧ Below B w w' := by
 have hcon := Any.slices_Compact_int Tryz.lCompact g 0 cap L w hH (by omega) hc
 change Calls Tryz.prog 45 _ _ _ at hcon
 refine hcon.mono ?_
 rintro e w' ⟨rfl, q, rfl⟩
 have hcl : (Lib.compact L).length ≤ L.length := by
  have := List.length_filter_le (Lib.keeps L.toArray) (List.range L.length)
  simpa [Lib.compact, Lib.compactUpTo] using this
 have hH2 := holds_putRow (Value.int .i64) (Sort.ahead w q) g 0 L.toArray (Lib.compact L ++ List.replicate (L.length - (Lib.compact L).length) 0).toArray (holds_ahead _ _ _ _ _ _ hH) (by simp; omega)
 refine ⟨rfl, fun hn => ⟨g, 0, rfl, fun j hj => ?_⟩, by simpa using hg, ?_⟩
 ·rw [(hH2 j (by simp; omega)).1]
  simp only [List.getElem!_toArray, List.getElem!_eq_getElem?_getD, List.getD_eq_getElem?_getD]
  rw [List.getElem?_append_left hj]
  rfl
 ·have := putRow_below (n := q) (off := 0) (d := (Lib.compact L ++ List.replicate (L.length - (Lib.compact L).length) 0).toArray) (os := #[]) hB hg
  simpa using this
end Go.Proofs.YtanchjfodcjlmaaGreatDoor.Cd
/- cond.All of some ints, at least one. -/
namespace Go.Proofs.YtanchjfodcjlmaaGreatDoor.Cd
open Go.RowKit Go.Shelf Go.Sort

/-- The branch that just asks for these keys. -/
def kb (L : List Int) : Bv := ⟨L.length, fun j => L.getD j 0, nz, 0, 0⟩
theorem build_b (L : List Int) (ka : Option Addr) (kc : Nat) (w : World) : (Instr.build 101 #[(0, .slice ka L.length kc)]).run Tryz.prog w = .ok (.agg (bv (kb L) ka kc)) w := by kernel_rfl
section
variable {ops : Array Oper} {rest : List Oper} {o : Oper} {a : Act} {w : World} {Q : Exit → Act → World → Prop}
theorem wpList_buildB (hgd : o.guard = none) (x : Operand) (ho : o.op = .build 101 #[(0, x)]) (L : List Int) (ka : Option Addr) (kc : Nat) (hx : a.eval x = .slice ka L.length kc)
  (h : wpList Tryz.prog ops Q rest (a.put o.dst (.agg (bv (kb L) ka kc))) w) : wpList Tryz.prog ops Q (o :: rest) a w := by
 refine wpList_plain hgd fun K hK => ?_
 unfold Oper.wp execOp
 simp only [ho, List.map_toArray, List.map_cons, List.map_nil, hx, Sem.run_bind, build_b, Result.andThen]
 exact hK _ _ h
end
theorem compact_mem {L : List Int} {x : Int} (h : x ∈ Lib.compact L) : x ∈ L := by
 simp only [Lib.compact, Lib.compactUpTo, List.mem_map, List.mem_filter, List.mem_range] at h
 obtain ⟨j, ⟨h1, _⟩, rfl⟩ := h
 simp [h1]
theorem kb_ok {L : List Int} (h : ∀ x ∈ L, Ib x) : (kb L).Ok := by
 refine ⟨fun j hj => ?_, fun j _ => by simp [kb, nz], by simp [kb, Ib], by simp [kb, Ib]⟩
 have hj' : j < L.length := hj
 simp only [kb, List.getD_eq_getElem?_getD, List.getElem?_eq_getElem hj', Option.getD_some]
 exact h _ (List.getElem_mem hj')
theorem nrm_ib {z : Nat → Int} {n : Nat} (h : ∀ j, j < n → Ib (z j)) : ∀ x ∈ Lib.compact (srt (keysL z n)), Ib x := by
 intro x hx
 have := compact_mem hx
 simp only [srt, List.mem_mergeSort, keysL, List.mem_map, List.mem_range] at this
 obtain ⟨j, hj, rfl⟩ := this
 exact h j hj

set_option maxRecDepth 100000 in
set_option maxHeartbeats 1600000 in
theorem all_posI (b off n cap : Nat) (z : Nat → Int) (w : World) (h : ∀ j, j < n → w.cell? ⟨b, off + j, none⟩ = some (.int .i64 (z j))) (hz : ∀ j, j < n → Ib (z j)) (hn : n ≤ 1000000) :
  Calls Tryz.prog 24 #[.slice (some ⟨b, off, none⟩) n cap] w fun e w' => ∃ g, e = .returned (.agg #[.slice (some ⟨g, 0, none⟩) 1 1]) ∧ BrIn w' w.heap.size (some ⟨g, 0, none⟩) 1 (fun _ => kb (Lib.compact (srt (keysL z n)))) ∧ Below w.heap.size w w' := by
 obtain ⟨K, hK⟩ : ∃ K, K = Lib.compact (srt (keysL z n)) := ⟨_, rfl⟩
 rw [← hK]
 have HOK : (kb K).Ok := by rw [hK]; exact kb_ok (nrm_ib hz)
 have hb0 : Below w.heap.size w (w.alloc (.cells #[.slice none 0 0] 76)) := (Below.refl _ w).alloc (Nat.le_refl _) _
 have hr0 : (w.alloc (.cells #[.slice none 0 0] 76)).heap[w.heap.size]? = some (.cells #[.slice none 0 0] 76 (0, 0)) := heap_alloc_new w _
 have hc := clone_pos b off n cap z (w.alloc (.cells #[.slice none 0 0] 76)) (fun j hj => by
  have := h j hj
  rw [hb0.cell (p := ⟨b, off + j, none⟩) (World.block_lt_of_cell? w ⟨b, off + j, none⟩ this)]; exact this) hn
 have hs0 : w.heap.size < (w.alloc (.cells #[.slice none 0 0] 76)).heap.size := by simp
 clear h
 go_enter Tryz.func24, Tryz.ntmps24
 go_wp2_with fail
 generalize w.alloc (.cells #[.slice none 0 0] 76) = W0 at *
 refine hc.mono ?_
 rintro e w1 ⟨g, cap1, rfl, hcap, hH1, hg0, hg1, hb1⟩
 clear hc
 have hl : (keysL z n).length = n := keysL_length z n
 have hl2 : (srt (keysL z n)).length = n := by rw [srt_length, hl]
 have hsort := sort_pos g cap1 (keysL z n) w1 hH1 hg1 (by omega) W0.heap.size hg0
 rw [hl] at hsort
 clear hH1
 go_wp2_with fail
 refine hsort.mono ?_
 rintro e w2 ⟨rfl, hH2, hg2, hb2⟩
 clear hsort
 have hcom := compact_pos g cap1 (srt (keysL z n)) w2 hH2 hg2 (by omega) (by omega) W0.heap.size hg0
 rw [hl2, ← hK] at hcom
 clear hH2
 go_wp2_with fail
 refine hcom.mono ?_
 rintro e w3 ⟨rfl, hI3, hg3, hb3⟩
 have hbw : Below W0.heap.size W0 w3 := (hb1.trans hb2).trans hb3
 have hr3 : w3.heap[w.heap.size]? = some (.cells #[.slice none 0 0] 76 (0, 0)) := by rw [hbw.block _ hs0]; exact hr0
 clear hcom hb1 hb2 hb3 hr0 hK hz
 have hlt := hbw.size
 have hn4 := heap_alloc_new w3 (.cells (bv (kb K) (some ⟨g, 0, none⟩) cap1) 101)
 have hb4 : Below w3.heap.size w3 (w3.alloc (.cells (bv (kb K) (some ⟨g, 0, none⟩) cap1) 101)) := (Below.refl _ _).alloc (Nat.le_refl _) _
 have hr4 : (w3.alloc (.cells (bv (kb K) (some ⟨g, 0, none⟩) cap1) 101)).heap[w.heap.size]? = some (.cells #[.slice none 0 0] 76 (0, 0)) := by rw [hb4.block _ (by omega)]; exact hr3
 have c4 : (w3.alloc (.cells (bv (kb K) (some ⟨g, 0, none⟩) cap1) 101)).cell? ⟨w.heap.size, 0, none⟩ = some (.slice none 0 0) := by rw [cell_of_row _ _ 0 _ _ _ hr4]; rfl
 have f4 : (w3.alloc (.cells (bv (kb K) (some ⟨g, 0, none⟩) cap1) 101)).frozen? ⟨w.heap.size, 0, none⟩ = false := frozen_of_row _ _ 0 _ _ hr4
 have HE : Hid (((w3.alloc (.cells (bv (kb K) (some ⟨g, 0, none⟩) cap1) 101)).setCell ⟨w.heap.size, 0, none⟩ (.slice (some ⟨w3.heap.size, 0, none⟩) 1 1)).heap[w.heap.size]? = some (.cells #[.slice (some ⟨w3.heap.size, 0, none⟩) 1 1] 76 (0, 0))
   ∧ BrIn ((w3.alloc (.cells (bv (kb K) (some ⟨g, 0, none⟩) cap1) 101)).setCell ⟨w.heap.size, 0, none⟩ (.slice (some ⟨w3.heap.size, 0, none⟩) 1 1)) w.heap.size (some ⟨w3.heap.size, 0, none⟩) 1 (fun _ => kb K)
   ∧ Below w.heap.size w ((w3.alloc (.cells (bv (kb K) (some ⟨g, 0, none⟩) cap1) 101)).setCell ⟨w.heap.size, 0, none⟩ (.slice (some ⟨w3.heap.size, 0, none⟩) 1 1))) := by
  refine ⟨heap_setCell_same _ _ 0 _ _ _ hr4, fun w' hw => ⟨fun _ _ => HOK, fun _ => ⟨w3.heap.size, 0, rfl, fun i hi => ⟨some ⟨g, 0, none⟩, cap1, fun j u hu => ?_, ?_⟩⟩⟩, ?_⟩
  ·obtain rfl : i = 0 := by omega
   rw [World.cell?_of_block (a := ⟨w3.heap.size, 0 + 0 * 35 + j, none⟩) (hw w3.heap.size (by omega) (by simp [World.setCell])), World.cell?_of_block (a := ⟨w3.heap.size, 0 + 0 * 35 + j, none⟩) (Below.heap_setCell _ _ _ _ (by show w3.heap.size ≠ w.heap.size; omega)), cell_of_row _ _ _ _ _ _ hn4]
   simpa [bv] using hu
  ·have h1 := isAt_set (g := w.heap.size) (o := 0) (u := .slice (some ⟨w3.heap.size, 0, none⟩) 1 1) (hI3.below hb4) (fun a e => by cases e; show g ≠ w.heap.size; omega)
   intro hp
   obtain ⟨b', off', e, hc⟩ := h1 hp
   cases e
   refine ⟨g, 0, rfl, fun j hj => ?_⟩
   rw [World.cell?_of_block (a := ⟨g, 0 + j, none⟩) (hw g (by omega) (by simp [World.setCell]; omega))]
   exact hc j hj
  ·exact ((hb0.trans (hbw.mono (by omega))).trans (hb4.mono (by omega))).setCell (Nat.le_refl _) _
 clear hn4 hr4 hr3 hI3 hb4 hbw hb0
 go_wp2_with (first | (refine wpList_buildB rfl _ rfl K (some ⟨g, 0, none⟩) cap1 rfl ?_) | (refine wpList_sliceB rfl _ rfl (kb K) (some ⟨g, 0, none⟩) cap1 rfl ?_) | fail)
 exact bodyPost_ret (results_cell_row Tryz.results24 _ _ w.heap.size 76 #[.slice (some ⟨w3.heap.size, 0, none⟩) 1 1] (0, 0) _ rfl HE.out.1 Tryz.underlying76 rfl szC) rfl ⟨_, rfl, HE.out.2⟩
theorem all_pos (b off n cap : Nat) (z : Nat → Int) (w : World) (h : ∀ j, j < n → w.cell? ⟨b, off + j, none⟩ = some (.int .i64 (z j))) (hz : ∀ j, j < n → Ib (z j)) (hn : n ≤ 1000000) :
  Calls Tryz.prog 24 #[.slice (some ⟨b, off, none⟩) n cap] w fun e w' => ∃ g, e = .returned (.agg #[.slice (some ⟨g, 0, none⟩) 1 1]) ∧ BrAt w' (some ⟨g, 0, none⟩) 1 (fun _ => kb (Lib.compact (srt (keysL z n)))) ∧ Below w.heap.size w w' := by
 refine (all_posI b off n cap z w h hz hn).mono ?_
 rintro e w' ⟨g, rfl, h1, h2⟩
 exact ⟨g, rfl, h1.brAt, h2⟩
end Go.Proofs.YtanchjfodcjlmaaGreatDoor.Cd
/- Two laws that laying a condition wants. -/
namespace Go.Proofs.YtanchjfodcjlmaaGreatDoor.Cd
open Go.RowKit

theorem one_at (w : World) (x : Int) (z : Nat → Int) (h0 : z 0 = x) : ∀ j, j < 1 → (w.alloc (.cells #[.int .i64 x] 3)).cell? ⟨w.heap.size, 0 + j, none⟩ = some (.int .i64 (z j)) := by
 intro j hj
 rw [cell_of_row _ _ _ _ _ _ (heap_alloc_new w _)]
 match j, hj with
 | 0, _ => rw [h0]; rfl
theorem brl_lock (x : Bv) (ka : Option Addr) (kc : Nat) {w : World} {g : Nat} {t : TypeId} {fr : Nat × Nat} (h : w.heap[g]? = some (.cells (bv x ka kc) t fr)) : w.rangeAt g 1 (bl x.lk 32) := by
 intro j u hu
 have hj : j < 32 := (bl_get hu).1
 rw [cell_of_row w g (1 + j) _ _ _ h]
 simp only [bv, List.getElem?_toArray, brl, Nat.add_comm 1 j, List.getElem?_cons_succ]
 rw [List.getElem?_append_left (by simpa [bl_length] using hj)]
 exact hu
theorem szHl (z : Nat → Int) : (Tryz.prog.info? 43).map (·.size) = some (bl z 32).length := by rw [bl_length]; exact hsz
theorem pair_at (w : World) (x y : Int) (z : Nat → Int) (h0 : z 0 = x) (h1 : z 1 = y) : ∀ j, j < 2 → (w.alloc (.cells #[.int .i64 x, .int .i64 y] 3)).cell? ⟨w.heap.size, 0 + j, none⟩ = some (.int .i64 (z j)) := by
 intro j hj
 rw [cell_of_row _ _ _ _ _ _ (heap_alloc_new w _)]
 match j, hj with
 | 0, _ => rw [h0]; rfl
 | 1, _ => rw [h1]; rfl
end Go.Proofs.YtanchjfodcjlmaaGreatDoor.Cd
/- cond.Put: a condition laid behind bytes. -/
namespace Go.Proofs.YtanchjfodcjlmaaGreatDoor.Cd
open Go.RowKit

/-- A branch as it is laid. -/
def laidBr (x : Bv) : List Int := laidK (fun _ => (x.n : Int)) 1 ++ (laidK x.z x.n ++ (hB x.lk ++ laidK (fun j => if j = 0 then x.af else x.ol) 2))
def laidBrs (X : Nat → Bv) : Nat → List Int
 | 0 => []
 | i + 1 => laidBrs X i ++ laidBr (X i)
/-- A condition as it is laid. -/
def laidC (X : Nat → Bv) (n : Nat) : List Int := laidK (fun _ => (n : Int)) 1 ++ laidBrs X n
theorem laidBr_len (x : Bv) (h : x.n ≤ 1048576) : (laidBr x).length ≤ 9437284 := by
 have h1 := laidK_len (fun _ => (x.n : Int)) 1
 have h2 := laidK_len x.z x.n
 have h3 := laidK_len (fun j => if j = 0 then x.af else x.ol) 2
 have h4 := hB_length x.lk
 simp only [laidBr, List.length_append]
 omega
theorem laidBrs_len (X : Nat → Bv) : ∀ i, (∀ j, j < i → (X j).n ≤ 1048576) → (laidBrs X i).length ≤ 9437284 * i
 | 0, _ => by simp [laidBrs]
 | i + 1, h => by
  have h1 := laidBrs_len X i (fun j hj => h j (by omega))
  have h2 := laidBr_len (X i) (h i (by omega))
  simp only [laidBrs, List.length_append]
  omega

/-- A writer made since W0, at its first new block, has laid L; what was there in W0 is as it was; K: a block beside it that holds something. -/
structure PutR (W0 wr : World) (L : List Int) (K : Option (Nat × Obj)) : Prop where
 at_ : ∃ g, WrAt wr W0.heap.size W0.heap.size g L ∧ ∀ k o, K = some (k, o) → wr.heap[k]? = some o ∧ k ∉ W0.heap.size :: g.toList
 below : Below W0.heap.size W0 wr
theorem _root_.Go.Proofs.YtanchjfodcjlmaaGreatDoor.WrAt.glt {w : World} {B p : Nat} {g : Option Nat} {l : List Int} (h : WrAt w B p g l) : ∀ k, k ∈ p :: g.toList → B ≤ k ∧ k < w.heap.size := by
 obtain ⟨v, hp, hown, hg, hB, _⟩ := h
 intro k hk
 rcases List.mem_cons.1 hk with rfl | hk
 ·exact ⟨hB, lt_of_block hp⟩
 ·subst hg
  have hk' : v.ownBlock = some k := by simpa using hk
  exact hown.lt k hk'
theorem _root_.Go.Proofs.YtanchjfodcjlmaaGreatDoor.WrAt.keep {w w' : World} {B p : Nat} {g : Option Nat} {l : List Int} (h : WrAt w B p g l) (hb : Below w.heap.size w w') : WrAt w' B p g l := by
 obtain ⟨v, hp, hown, hg, hB, hx⟩ := h
 refine ⟨v, by rw [hb.block _ (lt_of_block hp)]; exact hp, ⟨hown.1, ?_⟩, hg, hB, hx⟩
 rcases hown.2 with hn | ⟨g', cap, cur, e, hbs, hgc, rest⟩
 ·exact .inl hn
 ·exact .inr ⟨g', cap, cur, e, hbs, by rw [hb.block _ (lt_of_block hgc)]; exact hgc, rest⟩
theorem PutR.keep {W0 wr w' : World} {L : List Int} {K : Option (Nat × Obj)} (h : PutR W0 wr L K) (hb : Below wr.heap.size wr w') : PutR W0 w' L K := by
 obtain ⟨g, hg, hk⟩ := h.at_
 exact ⟨⟨g, hg.keep hb, fun k o e => ⟨by rw [hb.block _ (lt_of_block (hk k o e).1)]; exact (hk k o e).1, (hk k o e).2⟩⟩, h.below.trans (hb.mono h.below.size)⟩
theorem PutR.drop {W0 wr : World} {L : List Int} {K : Option (Nat × Obj)} (h : PutR W0 wr L K) : PutR W0 wr L none := by
 obtain ⟨g, hg, _⟩ := h.at_
 exact ⟨⟨g, hg, fun k o e => by cases e⟩, h.below⟩
theorem PutR.hold {W0 wr w' : World} {L : List Int} {o : Obj} (h : PutR W0 wr L none) (hb : Below wr.heap.size wr w') (ho : w'.heap[wr.heap.size]? = some o) : PutR W0 w' L (some (wr.heap.size, o)) := by
 obtain ⟨g, hg, _⟩ := h.at_
 refine ⟨⟨g, hg.keep hb, fun k o' e => ?_⟩, h.below.trans (hb.mono h.below.size)⟩
 cases e
 exact ⟨ho, fun hk => by have := (hg.glt _ hk).2; omega⟩
theorem PutR.held {W0 wr : World} {L : List Int} {k : Nat} {o : Obj} (h : PutR W0 wr L (some (k, o))) : wr.heap[k]? = some o := by
 obtain ⟨g, _, hk⟩ := h.at_
 exact (hk k o rfl).1
theorem PutR.grown {W0 wr w' : World} {L L' : List Int} {g : Option Nat} {K : Option (Nat × Obj)} (h : PutR W0 wr L K) (hA : WrAt wr W0.heap.size W0.heap.size g L) (hk : ∀ k o, K = some (k, o) → wr.heap[k]? = some o ∧ k ∉ W0.heap.size :: g.toList) (hW : WrGrown wr w' W0.heap.size W0.heap.size g L') : PutR W0 w' L' K := by
 obtain ⟨g', hA', hF, hg'⟩ := hW
 refine ⟨⟨g', hA', fun k o e => ?_⟩, h.below.trans (hF.below h.below.size (fun k hk => (hA.glt k hk).1))⟩
 obtain ⟨h1, h2⟩ := hk k o e
 have hl := lt_of_block h1
 refine ⟨by rw [hF.block k hl h2]; exact h1, ?_⟩
 rcases hg' with rfl | ⟨b, rfl, hb⟩
 ·exact h2
 ·intro hm
  rcases List.mem_cons.1 hm with rfl | hm
  ·exact h2 (by simp)
  ·have : k = b := by simpa using hm
   omega
theorem lay_old (W0 wr : World) (L : List Int) (K : Option (Nat × Obj)) (ad : Option Addr) (n cap : Nat) (z : Nat → Int) (h : PutR W0 wr L K) (hl : L.length + 9 * n + 16 ≤ 140737488355328) (hI : IsAt W0 ad n z) (hn : n ≤ 1048576) :
  Calls Tryz.prog 103 #[.pointer (some ⟨W0.heap.size, 0, none⟩), .slice ad n cap] wr fun e w' => e = .returned (.tuple #[]) ∧ PutR W0 w' (L ++ laidK z n) K := by
 obtain ⟨g, hg, hk0⟩ := h.at_
 refine (lay_any _ _ g L ad n cap z wr hg hl (hI.below h.below) (fun hp a e hk => ?_) hn).mono ?_
 ·obtain ⟨b, off, e2, hc⟩ := hI hp
  rw [e2] at e
  cases e
  have h1 := World.block_lt_of_cell? W0 ⟨b, off + 0, none⟩ (hc 0 hp)
  have h2 : W0.heap.size ≤ b := (hg.glt _ hk).1
  have h3 : b < W0.heap.size := h1
  omega
 ·rintro e w' ⟨rfl, hW⟩
  exact ⟨rfl, h.grown hg hk0 hW⟩
theorem lay_new (W0 wr w1 : World) (L : List Int) (K : Option (Nat × Obj)) (q n cap : Nat) (z : Nat → Int) (h : PutR W0 wr L K) (hb : Below wr.heap.size wr w1) (hl : L.length + 9 * n + 16 ≤ 140737488355328) (hI : IsAt w1 (some ⟨q, 0, none⟩) n z) (hq : wr.heap.size ≤ q) (hn : n ≤ 1048576) :
  Calls Tryz.prog 103 #[.pointer (some ⟨W0.heap.size, 0, none⟩), .slice (some ⟨q, 0, none⟩) n cap] w1 fun e w' => e = .returned (.tuple #[]) ∧ PutR W0 w' (L ++ laidK z n) K := by
 obtain ⟨g, hg, hk0⟩ := h.at_
 have h1 := h.keep hb
 refine (lay_any _ _ g L (some ⟨q, 0, none⟩) n cap z w1 (hg.keep hb) hl hI (fun _ a e hk => ?_) hn).mono ?_
 ·cases e
  have h2 : q < wr.heap.size := (hg.glt _ hk).2
  omega
 ·rintro e w' ⟨rfl, hW⟩
  exact ⟨rfl, h1.grown (hg.keep hb) (fun k o e => ⟨by rw [hb.block _ (lt_of_block (hk0 k o e).1)]; exact (hk0 k o e).1, (hk0 k o e).2⟩) hW⟩
theorem hash_put (W0 wr : World) (L : List Int) (K : Option (Nat × Obj)) (z : Nat → Int) (h : PutR W0 wr L K) (hl : L.length + 32 ≤ 140737488355328) (hz : Zb z) :
  Calls Tryz.prog 61 #[.pointer (some ⟨W0.heap.size, 0, none⟩), .agg (hv z)] wr fun e w' => e = .returned (.pointer (some ⟨W0.heap.size, 0, none⟩)) ∧ PutR W0 w' (L ++ hB z) K := by
 obtain ⟨g, hg, hk0⟩ := h.at_
 refine (wrHash_any _ _ g L z wr hg hl hz).mono ?_
 rintro e w' ⟨rfl, hW⟩
 exact ⟨rfl, h.grown hg hk0 hW⟩

set_option maxRecDepth 100000 in
set_option maxHeartbeats 3200000 in
theorem put_any (bd : Option Addr) (lb : List Int) (bc : Nat) (ad : Option Addr) (n cap : Nat) (X : Nat → Bv) (w : World) (hs : SlAt w bd lb.length (fn lb)) (hnil : bd = none → lb.length = 0 ∧ bc = 0) (h : BrAt w ad n X) (hn : n ≤ 1000) (hx : ∀ i, i < n → (X i).n ≤ 1048576) (hlb : lb.length ≤ 70368744177664) :
  Calls Tryz.prog 82 #[.slice bd lb.length bc, .agg #[.slice ad n cap]] w fun e w' => ∃ v, e = .returned v ∧ Ow w w' v (lb ++ laidC X n) := by
 have hb0 : Below w.heap.size w (w.alloc (.cells #[.slice ad n cap] 76)) := (Below.refl _ w).alloc (Nat.le_refl _) _
 have hc0 : (w.alloc (.cells #[.slice ad n cap] 76)).cell? ⟨w.heap.size, 0, none⟩ = some (.slice ad n cap) := by simp
 have HS : Hid (SlAt w bd lb.length (fn lb) ∧ (bd = none → lb.length = 0 ∧ bc = 0)) := ⟨hs, hnil⟩
 have HB : Hid (BrAt (w.alloc (.cells #[.slice ad n cap] 76)) ad n X) := h.below hb0
 clear hs hnil h
 go_enter Tryz.func82, Tryz.ntmps82
 go_wp2_with fail
 generalize w.alloc (.cells #[.slice ad n cap] 76) = W0 at *
 refine (new_any W0).mono ?_
 rintro e w1 ⟨rfl, rfl⟩
 have hb1 : Below W0.heap.size W0 (W0.alloc (.cells #[.slice none 0 0] 161)) := (Below.refl _ _).alloc (Nat.le_refl _) _
 have hP1 : PutR W0 (W0.alloc (.cells #[.slice none 0 0] 161)) [] none := ⟨⟨none, new_wr W0, fun k o e => by cases e⟩, hb1⟩
 have hp0 := World.block_lt_of_cell? W0 ⟨w.heap.size, 0, none⟩ hc0
 have c1 : (W0.alloc (.cells #[.slice none 0 0] 161)).cell? ⟨w.heap.size, 0, none⟩ = some (.slice ad n cap) := by rw [hb1.cell (p := ⟨w.heap.size, 0, none⟩) hp0]; exact hc0
 generalize W0.alloc (.cells #[.slice none 0 0] 161) = w1 at *
 go_wp2_with fail
 refine (lay_new W0 w1 _ [] none w1.heap.size 1 1 (fun _ => (n : Int)) hP1 ((Below.refl _ _).alloc (Nat.le_refl _) _) (by simp) (fun _ => ⟨_, _, rfl, one_at w1 n (fun _ => (n : Int)) rfl⟩) (Nat.le_refl _) (by omega)).mono ?_
 rintro e w2 ⟨rfl, hP2⟩
 have hP2' : PutR W0 w2 (laidK (fun _ => (n : Int)) 1 ++ laidBrs X 0) none := by simpa [laidBrs] using hP2
 have HP2 : Hid (PutR W0 w2 (laidK (fun _ => (n : Int)) 1 ++ laidBrs X 0) none) := hP2'
 have c2 : w2.cell? ⟨w.heap.size, 0, none⟩ = some (.slice ad n cap) := by rw [hP2.below.cell (p := ⟨w.heap.size, 0, none⟩) hp0]; exact hc0
 clear hP2 hP2' hP1 c1 hb1
 go_wp2
 have hP2 := HP2.out
 go_loopw [7, 18] (fun _ iv wr => ∃ i : Nat, i ≤ n ∧ iv = .int .i64 i ∧ PutR W0 wr (laidK (fun _ => (n : Int)) 1 ++ laidBrs X i) none) (fun _ iv _ => n + 1 - (intOf iv).toNat)
 case atStart => exact ⟨0, by omega, rfl, hP2⟩
 case round =>
  clear hP2 HP2 c2
  obtain ⟨i, hi, rfl, hP⟩ := hrel
  have HP : Hid (PutR W0 wr (laidK (fun _ => (n : Int)) 1 ++ laidBrs X i) none) := hP
  have hLn : (laidK (fun _ => (n : Int)) 1 ++ laidBrs X i).length ≤ 9437284 * 1000 + 9 := by
   have h1 := laidK_len (fun _ => (n : Int)) 1
   have h2 := laidBrs_len X i (fun j hj => hx j (by omega))
   simp only [List.length_append]
   omega
  clear hP
  by_cases hlt : i < n
  ·have hlt' : (i : Int) < n := by omega
   obtain ⟨b, off, rfl, hc⟩ := HB.out.at_ (by omega)
   obtain ⟨ka, kc, hr0, hI0⟩ := hc i hlt
   have hxi := hx i hlt
   have hok := HB.out.ok i hlt
   have HR : Hid (wr.rangeAt b (off + i * 35) (brl (X i) ka kc)) := range_below hr0 HP.out.below
   have HI : Hid (IsAt W0 ka (X i).n (X i).z) := hI0
   obtain ⟨L, hL⟩ : ∃ L, L = laidK (fun _ => (n : Int)) 1 ++ laidBrs X i := ⟨_, rfl⟩
   rw [← hL] at HP hLn
   have HS1 : Hid (∀ w' : World, w'.heap[wr.heap.size]? = some (.cells (bv (X i) ka kc) 101 (0, 0)) → Frm [wr.heap.size] (wr.alloc (.cells (bv b0 none 0) 101)) w' → PutR W0 w' L (some (wr.heap.size, .cells (bv (X i) ka kc) 101 (0, 0)))) := by
    intro w' h1 h2
    have h3 : Below wr.heap.size (wr.alloc (.cells (bv b0 none 0) 101)) w' := h2.below (by simp) (by simp)
    exact HP.out.hold (((Below.refl _ wr).alloc (Nat.le_refl _) _).trans h3) h1
   clear hc hr0 hI0
   go_wp2_with (first | (refine wpList_load_mid rfl 101 _ rfl b (off + i * 35) rfl (brl (X i) ka kc) _ HR.out Tryz.underlying101 rfl (szBl _ _ _) ?_) | (refine wpList_allocB rfl rfl ?_) | (refine wpList_storeR _ szB rfl _ _ rfl wr.heap.size rfl (X i) b0 ka none kc 0 101 rfl (heap_alloc_new wr _) ?_; intro w3 hg3 hf3; have HP3 : Hid _ := HS1.out w3 hg3 hf3; obtain ⟨c30, c333, c334⟩ := bbox_of hg3; clear hg3 hf3) | fail)
   refine (lay_new W0 w3 _ L _ w3.heap.size 1 1 (fun _ => ((X i).n : Int)) HP3.out ((Below.refl _ _).alloc (Nat.le_refl _) _) (by omega) (fun _ => ⟨_, _, rfl, one_at w3 (X i).n (fun _ => ((X i).n : Int)) rfl⟩) (Nat.le_refl _) (by omega)).mono ?_
   rintro e w4 ⟨rfl, hP4⟩
   have c40 := (bbox_of hP4.held).c0
   have l4 := laidK_len (fun _ => ((X i).n : Int)) 1
   have l5 := laidK_len (X i).z (X i).n
   have l6 := hB_length (X i).lk
   have HP4 : Hid _ := hP4
   clear hP4 HP3 c30 c333 c334
   go_wp2_with fail
   refine (lay_old W0 w4 _ _ ka (X i).n kc (X i).z HP4.out (by simp only [List.length_append]; omega) HI.out hxi).mono ?_
   rintro e w5 ⟨rfl, hP5⟩
   have HR5 : Hid (w5.rangeAt wr.heap.size 1 (bl (X i).lk 32)) := brl_lock (X i) ka kc hP5.held
   have HP5 : Hid _ := hP5
   clear hP5 HP4 c40
   go_wp2_with (first | (refine wpList_load_mid rfl 43 _ rfl wr.heap.size 1 rfl (bl (X i).lk 32) _ HR5.out Tryz.underlying43 rfl (szHl _) ?_) | fail)
   refine (hash_put W0 w5 _ _ (X i).lk HP5.out (by simp only [List.length_append]; omega) hok.lk).mono ?_
   rintro e w6 ⟨rfl, hP6⟩
   have c63 := (bbox_of hP6.held).c33
   have c64 := (bbox_of hP6.held).c34
   have HP6 : Hid _ := hP6
   clear hP6 HP5 HR5
   go_wp2_with fail
   refine (lay_new W0 w6 _ _ _ w6.heap.size 2 2 (fun j => if j = 0 then (X i).af else (X i).ol) HP6.out ((Below.refl _ _).alloc (Nat.le_refl _) _) (by simp only [List.length_append]; omega) (fun _ => ⟨_, _, rfl, pair_at w6 (X i).af (X i).ol _ rfl rfl⟩) (Nat.le_refl _) (by omega)).mono ?_
   rintro e w7 ⟨rfl, hP7⟩
   have HP7 : Hid (PutR W0 w7 (laidK (fun _ => (n : Int)) 1 ++ laidBrs X (i + 1)) none) := by
    have h7 := hP7.drop
    have e7 : laidK (fun _ => (n : Int)) 1 ++ laidBrs X (i + 1) = L ++ laidK (fun _ => ((X i).n : Int)) 1 ++ laidK (X i).z (X i).n ++ hB (X i).lk ++ laidK (fun j => if j = 0 then (X i).af else (X i).ol) 2 := by
     rw [hL]
     simp only [laidBrs, laidBr, List.append_assoc]
    show PutR _ _ _ _
    rw [e7]; exact h7
   clear hP7 HP6 c63 c64 hL
   go_wp2
   go_roundw
   case rel => exact ⟨i + 1, by omega, by go_num, HP7.out⟩
   case measure => simp [intOf]; omega
  ·obtain rfl : i = n := by omega
   have hnn : ¬ ((i : Int) < i) := by omega
   have HC : Hid (laidC X i = laidK (fun _ => (i : Int)) 1 ++ laidBrs X i) := rfl
   obtain ⟨g, hg, -⟩ := HP.out.at_
   have hdone := wrDone_any _ _ g _ wr hg (by omega)
   have hbw : Below w.heap.size w wr := hb0.trans (HP.out.below.mono (by omega))
   have HBW : Hid (Below w.heap.size w wr) := hbw
   clear hbw hg
   go_wp2_with fail
   refine hdone.mono ?_
   rintro e w3 ⟨ad3, cap3, rfl, hcap3, hs3, hn3, -, hb3⟩
   have hbw3 : Below w.heap.size w w3 := HBW.out.trans (hb3.mono HBW.out.size)
   have HD3 : Hid (SlAt w3 ad3 (laidK (fun _ => (i : Int)) 1 ++ laidBrs X i).length (fn (laidK (fun _ => (i : Int)) 1 ++ laidBrs X i)) ∧ (ad3 = none → (laidK (fun _ => (i : Int)) 1 ++ laidBrs X i).length = 0 ∧ cap3 = 0) ∧ Below w.heap.size w w3) := ⟨hs3, hn3, hbw3⟩
   clear hdone hs3 hn3 hb3 hbw3 hcap3
   generalize laidK (fun _ => (i : Int)) 1 ++ laidBrs X i = L at *
   go_wp2_with fail
   have hbA : Below w3.heap.size w3 (w3.alloc (.cells #[.slice bd lb.length bc, .slice ad3 L.length cap3] 57)) := (Below.refl _ _).alloc (Nat.le_refl _) _
   have hnA := heap_alloc_new w3 (.cells #[.slice bd lb.length bc, .slice ad3 L.length cap3] 57)
   refine (concat_two w3.heap.size bd lb bc ad3 L cap3 _ ⟨two_cell0 hnA, two_cell1 hnA⟩ ((HS.out.1.below HD3.out.2.2).below hbA) HS.out.2 (HD3.out.1.below hbA) HD3.out.2.1 (by omega)).mono ?_
   rintro e w5 ⟨v, rfl, hO⟩
   have HO : Hid (Ow w w5 v (lb ++ L)) := hO.mono (HD3.out.2.2.alloc HD3.out.2.2.size _)
   clear hO hbA hnA
   go_wp2
   go_ret
   exact ⟨_, rfl, by rw [HC.out]; exact HO.out⟩
end Go.Proofs.YtanchjfodcjlmaaGreatDoor.Cd
/- tx.number and tx.layOut: a number, and an output, as bytes. -/
namespace Go.Proofs.YtanchjfodcjlmaaGreatDoor
open Go.RowKit

set_option maxHeartbeats 800000 in
theorem number_any (p B : Nat) (g : Option Nat) (l : List Int) (x : Int) (w : World) (hw : WrAt w B p g l) (hl : l.length + 16 ≤ 140737488355328) :
  Calls Tryz.prog 60 #[.pointer (some ⟨p, 0, none⟩), .int .i64 x] w fun e w' => e = .returned (.tuple #[]) ∧ WrGrown w w' B p g (l ++ uB (Cd.u64 x)) := by
 have hc := wrUint_any p B g l (Cd.u64 x) w hw hl (Cd.u64_bd x)
 unfold Cd.u64 at hc
 go_enter Tryz.func60, Tryz.ntmps60
 go_wp2_with fail
 refine hc.mono ?_
 rintro e w1 ⟨rfl, hW⟩
 clear hc hw
 have HW : Hid (WrGrown w w1 B p g (l ++ uB (Cd.u64 x))) := hW
 clear hW
 go_wp2
 go_end0
 exact ⟨rfl, HW.out⟩
end Go.Proofs.YtanchjfodcjlmaaGreatDoor
/- tx.layOut: an output as bytes. -/
namespace Go.Proofs.YtanchjfodcjlmaaGreatDoor
open Go.RowKit

/-- An output as it is laid. -/
def laidO (x : To) : List Int := uB (Cd.u64 x.am) ++ Cd.laidC x.X x.cn
theorem WrGrown.belowN {w w' : World} {p : Nat} {l : List Int} (h : WrGrown w w' p p none l) (hp : p + 1 = w.heap.size) : Below p w w' ∧ ∃ g, WrAt w' p p g l := by
 obtain ⟨g', hA', hF, _⟩ := h
 exact ⟨hF.below (by omega) (fun k hk => by simp at hk; omega), g', hA'⟩
set_option maxRecDepth 100000 in
set_option maxHeartbeats 3200000 in
theorem layOut_any (x : To) (ca : Option Addr) (cc : Nat) (w : World) (h : Cd.BrAt w ca x.cn x.X) (hn : x.cn ≤ 1000) (hx : ∀ i, i < x.cn → (x.X i).n ≤ 1048576) :
  Calls Tryz.prog 64 #[.agg (tov x ca cc)] w fun e w' => ∃ v, e = .returned v ∧ Ow w w' v (laidO x) := by
 have hb0 : Below w.heap.size w (w.alloc (.cells (tov x ca cc) 79)) := (Below.refl _ w).alloc (Nat.le_refl _) _
 have hr0 := heap_alloc_new w (.cells (tov x ca cc) 79)
 have HH : Hid (Cd.BrAt w ca x.cn x.X ∧ x.cn ≤ 1000 ∧ ∀ i, i < x.cn → (x.X i).n ≤ 1048576) := ⟨h, hn, hx⟩
 clear h hn hx
 unfold tov at *
 go_enter Tryz.func64, Tryz.ntmps64
 go_wp2_with fail
 generalize w.alloc (.cells #[.int .i64 x.am, .slice ca x.cn cc] 79) = W0 at *
 have HC : Hid (∀ w', Below W0.heap.size W0 w' → w'.cell? ⟨w.heap.size, 0, none⟩ = some (.int .i64 x.am) ∧ w'.cell? ⟨w.heap.size, 1, none⟩ = some (.slice ca x.cn cc)) := fun w' hb => by
  have := hb.block _ (lt_of_block hr0)
  rw [hr0] at this
  exact ⟨by rw [cell_of_row _ _ 0 _ _ _ this]; rfl, by rw [cell_of_row _ _ 1 _ _ _ this]; rfl⟩
 have HB0 : Hid (Below w.heap.size w W0) := hb0
 clear hr0 hb0
 refine (new_any W0).mono ?_
 rintro e w1 ⟨rfl, hw1⟩
 have hW1 : WrAt w1 W0.heap.size W0.heap.size none [] := by rw [hw1]; exact new_wr W0
 have hb1 : Below W0.heap.size W0 w1 := by rw [hw1]; exact (Below.refl _ _).alloc (Nat.le_refl _) _
 have hs1 : W0.heap.size + 1 = w1.heap.size := by rw [hw1]; simp
 have HB1 : Hid (Below W0.heap.size W0 w1) := hb1
 obtain ⟨c0, c1⟩ := HC.out w1 hb1
 clear hw1 hb1
 have hcall := number_any _ _ none [] x.am w1 hW1 (by simp)
 go_wp2_with fail
 refine hcall.mono ?_
 rintro e w2 ⟨rfl, hW2⟩
 rw [List.nil_append] at hW2
 obtain ⟨hb2, g, hA2⟩ := hW2.belowN hs1
 have HB2 : Hid (Below W0.heap.size W0 w2) := HB1.out.trans hb2
 have HW2 : Hid (WrAt w2 W0.heap.size W0.heap.size g (uB (Cd.u64 x.am))) := hA2
 clear hcall hW1 hW2 hb2 hA2 c0 c1 HB1 hs1
 have hle := Cd.uB_len (Cd.u64 x.am)
 obtain ⟨L, hL⟩ : ∃ L, uB (Cd.u64 x.am) = L := ⟨_, rfl⟩
 have HL : Hid (laidO x = L ++ Cd.laidC x.X x.cn) := by show _ = _; rw [← hL]; exact rfl
 rw [hL] at HW2 hle
 clear hL
 go_upto_region 3 with fail
 refine wp_region_noPanic ?_
 refine wp_region_held_drew (S := fun w' => w'.cell? ⟨w.heap.size, 1, none⟩ = some (.slice ca x.cn cc)) (by kernel_rfl) (HC.out w2.drew HB2.out.drew).2 (fun hHeld => ?_)
 have HB3 : Hid (Below W0.heap.size W0 w2.drew ∧ WrAt w2.drew W0.heap.size W0.heap.size g L) := ⟨HB2.out.drew, HW2.out.keep (Below.refl _ _).drew⟩
 generalize w2.drew = w3 at *
 refine wpT (i := 0) (oi := ⟨some 9, .move (.tmp 3), 125, _, _, none⟩) (v := ?_) rfl (by kernel_rfl) (fun _ _ _ h => h) (Or.inl ⟨by rfl, ?_⟩) (by assumption) ?_
 rotate_left
 ·intro wz hSw; (try dsimp only at hSw); go_simp; (try with_reducible rfl)
 try simp only [Act.put, sqA, sqB, sqC]
 refine wpT (i := 2) (oi := ⟨some 11, .fieldAddr 79 (.tmp 1) 1, 0, _, _, none⟩) (v := ?_) rfl (by kernel_rfl) (fun _ _ _ h => h) (Or.inl ⟨by rfl, ?_⟩) (by assumption) ?_
 rotate_left
 ·intro wz hSw; (try dsimp only at hSw); go_simp; (try with_reducible rfl)
 try simp only [Act.put, sqA, sqB, sqC]
 refine wpT (i := 3) (oi := ⟨some 12, .load 76 (.tmp 11), 76, _, _, none⟩) (v := ?_) rfl (by kernel_rfl) (fun _ _ _ h => h) (Or.inl ⟨by rfl, ?_⟩) (by assumption) ?_
 rotate_left
 ·intro wz hSw; (try dsimp only at hSw); go_simp; (try with_reducible rfl)
 try simp only [Act.put, sqA, sqB, sqC]
 refine wpAnyH_ready (rs := [1]) (by kernel_rfl) (by simp) ?_
 refine (AllReadyH.cons (o := ⟨some 10, .call { callee := Go.Callee.value (.func 63), args := #[.tmp 9], argTypes := #[125] }, 57, _, _, none⟩) rfl (fun K hK => ?_) AllReadyH.nil)
 go_simp
 refine (wrDone_any _ _ g L w3 HB3.out.2 (by omega)).mono ?_
 rintro e w4 ⟨ad, cap, rfl, hcap, hs4, hn4, -, hb4⟩
 have HB4 : Hid (Below W0.heap.size W0 w4) := HB3.out.1.trans (hb4.mono HB3.out.1.size)
 have HS4 : Hid (SlAt w4 ad L.length (fn L) ∧ (ad = none → L.length = 0 ∧ cap = 0)) := ⟨hs4, hn4⟩
 clear hs4 hn4 hb4 hcap
 refine hK.out _ _ (HC.out w4 HB4.out).2 (fun _ => ?_)
 clear hK K
 try simp only [Act.put, sqA, sqB, sqC]
 refine wpAnyH_ready (rs := [4]) (by kernel_rfl) (by simp) ?_
 refine (AllReadyH.cons (o := ⟨some 13, .call { callee := Go.Callee.value (.func 82), args := #[.tmp 10, .tmp 12], argTypes := #[57, 76] }, 57, _, _, none⟩) rfl (fun K hK => ?_) AllReadyH.nil)
 go_simp
 refine (Cd.put_any ad L cap ca x.cn cc x.X w4 HS4.out.1 HS4.out.2 ((HH.out.1.below HB0.out).below HB4.out) HH.out.2.1 HH.out.2.2 (by omega)).mono ?_
 rintro e w5 ⟨v, rfl, hO⟩
 have HO : Hid (Ow w w5 v (laidO x) ∧ Below W0.heap.size W0 w5) := ⟨by rw [HL.out]; exact hO.mono (HB0.out.trans (HB4.out.mono HB0.out.size)), HB4.out.trans (hO.below.mono HB4.out.size)⟩
 clear hO
 refine hK.out _ _ (HC.out w5 HO.out.2).2 (fun _ => ?_)
 clear hK K
 try simp only [Act.put, sqA, sqB, sqC]
 refine wpT (i := 5) (oi := ⟨some 2, .assign (.tmp 13), 57, _, _, none⟩) (v := ?_) rfl (by kernel_rfl) (fun _ _ _ h => h) (Or.inl ⟨by rfl, ?_⟩) (by assumption) ?_
 rotate_left
 ·intro wz hSw; (try dsimp only at hSw); go_simp; (try with_reducible rfl)
 try simp only [Act.put, sqA, sqB, sqC]
 refine wpAnyH_done (by kernel_rfl) (NoPanic.normal ?_) _
 try simp only [Act.put, sqA, sqB, sqC]
 clear hHeld
 go_wp2
 go_ret
 exact ⟨_, rfl, HO.out.1⟩
end Go.Proofs.YtanchjfodcjlmaaGreatDoor
/- The writer's Done, as a row of its own. -/
namespace Go.Proofs.YtanchjfodcjlmaaGreatDoor
open Go.RowKit

theorem clone_own (ad : Option Addr) (l : List Int) (cap : Nat) (w : World) (hs : SlAt w ad l.length (fn l)) (hnil : ad = none → l.length = 0 ∧ cap = 0) (hn : l.length ≤ 140737488351232) :
  Calls Tryz.prog 81 #[.slice ad l.length cap] w fun e w' => ∃ v, e = .returned v ∧ Ow w w' v l := by
 cases ad with
 | none =>
  obtain ⟨h0, rfl⟩ := hnil rfl
  obtain rfl := List.length_eq_zero_iff.1 h0
  refine (clone_nil w).mono ?_
  rintro e w' ⟨rfl, rfl⟩
  exact ⟨_, rfl, Ow.nil _⟩
 | some a =>
  refine (clone_some a l.length cap (fn l) w ?_ hn ?_).mono ?_
  ·intro j u h
   have hj := (bl_get h).1
   obtain ⟨b, off, e, hc⟩ := hs.2 (by omega)
   cases e
   exact bl_cells hc j u h
  ·intro h0
   obtain ⟨b, off, e, hc⟩ := hs.2 h0
   cases e
   exact World.block_lt_of_cell? w ⟨b, off + 0, none⟩ (hc 0 h0)
  ·rintro e w' ⟨v, rfl, hown, hbel⟩
   exact ⟨v, rfl, ⟨by rw [map_bl]; exact hown, hbel, Cd.bd_of hs⟩⟩
set_option maxHeartbeats 400000 in
theorem wrDoneO_any (p B : Nat) (g : Option Nat) (l : List Int) (w : World) (hw : WrAt w B p g l) (hl : l.length ≤ 140737488351232) :
  Calls Tryz.prog 63 #[.pointer (some ⟨p, 0, none⟩)] w fun e w' => ∃ v, e = .returned v ∧ Ow w w' v l := by
 obtain ⟨v, hp, hown, hg, hB, hx⟩ := hw
 rw [map_bl] at hown
 obtain ⟨ad, cap, rfl, h1, h2, h3, h4⟩ := own_SlAt (fun j hj => by rw [fn_get l j hj]; exact hx _ (List.getElem_mem hj)) hown
 have hc := cell_of_one hp
 clear hown hp
 go_enter Tryz.func63, Tryz.ntmps63
 go_wp2_with fail
 refine (clone_own ad l cap w h2 h3 hl).mono ?_
 rintro e w1 ⟨v, rfl, hO⟩
 go_wp2
 go_ret
 exact ⟨_, rfl, hO⟩
/-- Inputs, and a transaction, as they are laid; Z: the bytes of their secrets. -/
def laidIn (x : Ti) (z : Nat → Int) : List Int := hB x.pt ++ (uB (Cd.u64 x.n) ++ (uB (Cd.u64 x.br) ++ (escF z x.sn ++ [0, 0])))
def laidIns (X : Nat → Ti) (Z : Nat → Nat → Int) : Nat → List Int
 | 0 => []
 | i + 1 => laidIns X Z i ++ laidIn (X i) (Z i)
def laidOuts (O : Nat → To) : Nat → List Int
 | 0 => []
 | i + 1 => laidOuts O i ++ laidO (O i)
def laidTx0 (lk : Int) (n : Nat) (X : Nat → Ti) (Z : Nat → Nat → Int) (m : Nat) : List Int := uB (Cd.u64 lk) ++ (uB (Cd.u64 (n : Int)) ++ (laidIns X Z n ++ uB (Cd.u64 (m : Int))))
def laidT (lk : Int) (n : Nat) (X : Nat → Ti) (Z : Nat → Nat → Int) (m : Nat) (O : Nat → To) : List Int := laidTx0 lk n X Z m ++ laidOuts O m
theorem laidIn_len (x : Ti) (z : Nat → Int) (h : x.sn ≤ 1000000) : (laidIn x z).length ≤ 2000052 := by
 have h1 := Cd.uB_len (Cd.u64 x.n)
 have h2 := Cd.uB_len (Cd.u64 x.br)
 have h3 := escF_le z x.sn
 have h4 := hB_length x.pt
 simp only [laidIn, List.length_append, List.length_cons, List.length_nil]
 omega
theorem laidIns_len (X : Nat → Ti) (Z : Nat → Nat → Int) : ∀ i, (∀ j, j < i → (X j).sn ≤ 1000000) → (laidIns X Z i).length ≤ 2000052 * i
 | 0, _ => by simp [laidIns]
 | i + 1, h => by
  have h1 := laidIns_len X Z i (fun j hj => h j (by omega))
  have h2 := laidIn_len (X i) (Z i) (h i (by omega))
  simp only [laidIns, List.length_append]
  omega
theorem laidO_len (x : To) (h : x.cn ≤ 1000 ∧ ∀ j, j < x.cn → (x.X j).n ≤ 1048576) : (laidO x).length ≤ 9447284 * 1000 := by
 have h1 := Cd.uB_len (Cd.u64 x.am)
 have h2 := Cd.laidBrs_len x.X x.cn (fun j hj => by have := h.2 j hj; omega)
 have h3 := Cd.laidK_len (fun _ => (x.cn : Int)) 1
 have h4 := h.1
 simp only [laidO, Cd.laidC, List.length_append]
 omega
theorem laidOuts_len (O : Nat → To) : ∀ i, (∀ j, j < i → (O j).cn ≤ 1000 ∧ ∀ k, k < (O j).cn → ((O j).X k).n ≤ 1048576) → (laidOuts O i).length ≤ 9447284 * 1000 * i
 | 0, _ => by simp [laidOuts]
 | i + 1, h => by
  have h1 := laidOuts_len O i (fun j hj => h j (by omega))
  have h2 := laidO_len (O i) (h i (by omega))
  simp only [laidOuts, List.length_append]
  omega
end Go.Proofs.YtanchjfodcjlmaaGreatDoor
/- tx.Encode: a transaction as bytes. -/
namespace Go.Proofs.YtanchjfodcjlmaaGreatDoor
open Go.RowKit

theorem Ow.keepB {w0 w w' : World} {v : Value} {L : List Int} (h : Ow w0 w v L) (hb : Below w.heap.size w w') : Ow w0 w' v L := by
 refine ⟨⟨h.own.1, ?_⟩, h.below.trans (hb.mono h.below.size), h.bd⟩
 rcases h.own.2 with hn | ⟨g', cap, cur, e, hbs, hgc, rest⟩
 ·exact .inl hn
 ·exact .inr ⟨g', cap, cur, e, hbs, by rw [hb.block _ (lt_of_block hgc)]; exact hgc, rest⟩
theorem Ow.form3 {w0 w : World} {v : Value} {L : List Int} (h : Ow w0 w v L) : ∃ ad k cp, v = .slice ad k cp := by
 obtain ⟨ad, cp, e⟩ := h.form
 exact ⟨ad, _, cp, e⟩
theorem yhid {p : Prop} (h : p) : Hid p := h
theorem number_put (W0 wr : World) (L : List Int) (K : Option (Nat × Obj)) (x : Int) (h : Cd.PutR W0 wr L K) (hl : L.length + 16 ≤ 140737488355328) :
  Calls Tryz.prog 60 #[.pointer (some ⟨W0.heap.size, 0, none⟩), .int .i64 x] wr fun e w' => e = .returned (.tuple #[]) ∧ Cd.PutR W0 w' (L ++ uB (Cd.u64 x)) K := by
 obtain ⟨g, hg, hk0⟩ := h.at_
 refine (number_any _ _ g L x wr hg hl).mono ?_
 rintro e w' ⟨rfl, hW⟩
 exact ⟨rfl, h.grown hg hk0 hW⟩
theorem bytes_put (W0 wr : World) (L : List Int) (K : Option (Nat × Obj)) (ad : Option Addr) (n cap : Nat) (z : Nat → Int) (h : Cd.PutR W0 wr L K) (hl : L.length + 2 * n + 2 ≤ 140737488355328) (hs : SlAt W0 ad n z) :
  Calls Tryz.prog 62 #[.pointer (some ⟨W0.heap.size, 0, none⟩), .slice ad n cap] wr fun e w' => e = .returned (.pointer (some ⟨W0.heap.size, 0, none⟩)) ∧ Cd.PutR W0 w' (L ++ (escF z n ++ [0, 0])) K := by
 obtain ⟨g, hg, hk0⟩ := h.at_
 refine (wrBytes_any _ _ g L ad n cap z wr hg hl (hs.below h.below) (fun b off hn e hk => ?_)).mono ?_
 ·have h1 := hs.lt hn e
  have h2 : W0.heap.size ≤ b := (hg.glt b (by rw [← hk]; simp)).1
  omega
 ·rintro e w' ⟨rfl, hW⟩
  exact ⟨rfl, h.grown hg hk0 hW⟩
theorem til_pt {w : World} {g : Nat} {x : Ti} {sa : Option Addr} {sc : Nat} {t : TypeId} {fr : Nat × Nat} (h : w.heap[g]? = some (.cells (tiv x sa sc) t fr)) : w.rangeAt g 0 (bl x.pt 32) := by
 intro j u hu
 have hj : j < 32 := (bl_get hu).1
 rw [Nat.zero_add, cell_of_row _ _ j _ _ _ h]
 simp only [tiv, List.getElem?_toArray, til]
 rw [List.getElem?_append_left (by simpa [bl_length] using hj)]
 exact hu
end Go.Proofs.YtanchjfodcjlmaaGreatDoor
