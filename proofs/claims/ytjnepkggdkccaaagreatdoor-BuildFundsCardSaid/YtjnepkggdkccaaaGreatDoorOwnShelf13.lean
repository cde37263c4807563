/- The library's contracts laid at this program: which of its functions and types they speak of. -/
import Derived.Test.YtjnepkggdkccaaaGreatDoorProg
import Derived.Ground.Names2Prog
import Derived.Ground.NamesProg
import Derived.Shelf.Slices.Clone
import Derived.Shelf.Slices.CompactI
import Derived.Shelf.Slices.Turned
import Derived.Shelf.Sort.Plain
import Derived.Shelf.SlGeneric
import Derived.Shelf.Spec.SlicesGrow
import Derived.Test.YtjnepkggdkccaaaGreatDoorOwnShelf07
import Derived.Deep.AppendSrc
import Derived.Maps.AppendAt
import Derived.Test.YtjnepkggdkccaaaGreatDoorOwnShelf10
namespace Go.Proofs
open Go.Shelf
def Tryz.lClone_ren : Go.Shelf.Ren := ⟨fun | 15 => 71 | n => n, fun | 22 => 88 | 3 => 3 | 4 => 4 | n => n, fun | n => n⟩
theorem Tryz.lClone : Go.Proofs.Lays2.n15 Tryz.prog Tryz.lClone_ren := {
 mixed := by kernel_rfl
 f15 := Tryz.func71.trans (congrArg some (by kernel_rfl))
 t3 := Tryz.underlying3
 a3 := Tryz.isAgg3
 z3 := Tryz.sizeOf3
 v3 := Tryz.zeroValue3
 t4 := Tryz.underlying4
 a4 := Tryz.isAgg4
 z4 := Tryz.sizeOf4
 v4 := Tryz.zeroValue4
 t22 := Tryz.underlying88
 a22 := Tryz.isAgg88
 z22 := Tryz.sizeOf88
 v22 := Tryz.zeroValue88
 i3 := by kernel_rfl }
def Tryz.lCompact_ren : Go.Shelf.Ren := ⟨fun | 20 => 73 | n => n, fun | 22 => 88 | 3 => 3 | 4 => 4 | 0 => 0 | n => n, fun | n => n⟩
theorem Tryz.lCompact : Go.Proofs.Lays2.n20 Tryz.prog Tryz.lCompact_ren := {
 mixed := by kernel_rfl
 f20 := Tryz.func73.trans (congrArg some (by kernel_rfl))
 t0 := Tryz.underlying0
 a0 := Tryz.isAgg0
 z0 := Tryz.sizeOf0
 v0 := Tryz.zeroValue0
 t3 := Tryz.underlying3
 a3 := Tryz.isAgg3
 z3 := Tryz.sizeOf3
 v3 := Tryz.zeroValue3
 t4 := Tryz.underlying4
 a4 := Tryz.isAgg4
 z4 := Tryz.sizeOf4
 v4 := Tryz.zeroValue4
 t22 := Tryz.underlying88
 a22 := Tryz.isAgg88
 z22 := Tryz.sizeOf88
 v22 := Tryz.zeroValue88
 i3 := by kernel_rfl }
def Tryz.lSort_ren : Go.Shelf.Ren := ⟨fun | 189 => 72 | 125 => 104 | 257 => 103 | 128 => 121 | 129 => 122 | 294 => 112 | 295 => 113 | 296 => 114 | 297 => 115 | 298 => 116 | 299 => 117 | 216 => 118 | 300 => 119 | 301 => 120 | 328 => 130 | 329 => 131 | 330 => 132 | 331 => 133 | 332 => 134 | 215 => 135 | 343 => 140 | n => n, fun | 28 => 88 | 3 => 3 | 46 => 209 | 0 => 0 | 51 => 230 | 53 => 203 | 4 => 4 | 183 => 222 | 182 => 221 | 131 => 227 | 5 => 5 | 9 => 9 | 218 => 237 | 222 => 241 | 228 => 246 | 229 => 179 | n => n, fun | n => n⟩
theorem Tryz.lSort : Go.Proofs.Lays.n189 Tryz.prog Tryz.lSort_ren := {
 mixed := by kernel_rfl
 f125 := Tryz.func104.trans (congrArg some (by kernel_rfl))
 f128 := Tryz.func121.trans (congrArg some (by kernel_rfl))
 f129 := Tryz.func122.trans (congrArg some (by kernel_rfl))
 f189 := Tryz.func72.trans (congrArg some (by kernel_rfl))
 f215 := Tryz.func135.trans (congrArg some (by kernel_rfl))
 f216 := Tryz.func118.trans (congrArg some (by kernel_rfl))
 f257 := Tryz.func103.trans (congrArg some (by kernel_rfl))
 f294 := Tryz.func112.trans (congrArg some (by kernel_rfl))
 f295 := Tryz.func113.trans (congrArg some (by kernel_rfl))
 f296 := Tryz.func114.trans (congrArg some (by kernel_rfl))
 f297 := Tryz.func115.trans (congrArg some (by kernel_rfl))
 f298 := Tryz.func116.trans (congrArg some (by kernel_rfl))
 f299 := Tryz.func117.trans (congrArg some (by kernel_rfl))
 f300 := Tryz.func119.trans (congrArg some (by kernel_rfl))
 f301 := Tryz.func120.trans (congrArg some (by kernel_rfl))
 f328 := Tryz.func130.trans (congrArg some (by kernel_rfl))
 f329 := Tryz.func131.trans (congrArg some (by kernel_rfl))
 f330 := Tryz.func132.trans (congrArg some (by kernel_rfl))
 f331 := Tryz.func133.trans (congrArg some (by kernel_rfl))
 f332 := Tryz.func134.trans (congrArg some (by kernel_rfl))
 f343 := Tryz.func140.trans (congrArg some (by kernel_rfl))
 t0 := Tryz.underlying0
 a0 := Tryz.isAgg0
 z0 := Tryz.sizeOf0
 v0 := Tryz.zeroValue0
 t3 := Tryz.underlying3
 a3 := Tryz.isAgg3
 z3 := Tryz.sizeOf3
 v3 := Tryz.zeroValue3
 t4 := Tryz.underlying4
 a4 := Tryz.isAgg4
 z4 := Tryz.sizeOf4
 v4 := Tryz.zeroValue4
 t5 := Tryz.underlying5
 a5 := Tryz.isAgg5
 z5 := Tryz.sizeOf5
 v5 := Tryz.zeroValue5
 t9 := Tryz.underlying9
 a9 := Tryz.isAgg9
 z9 := Tryz.sizeOf9
 v9 := Tryz.zeroValue9
 t28 := Tryz.underlying88
 a28 := Tryz.isAgg88
 z28 := Tryz.sizeOf88
 v28 := Tryz.zeroValue88
 t46 := Tryz.underlying209
 a46 := Tryz.isAgg209
 z46 := Tryz.sizeOf209
 v46 := Tryz.zeroValue209
 t51 := Tryz.underlying230
 a51 := Tryz.isAgg230
 z51 := Tryz.sizeOf230
 v51 := Tryz.zeroValue230
 t53 := Tryz.underlying203
 a53 := Tryz.isAgg203
 z53 := Tryz.sizeOf203
 v53 := Tryz.zeroValue203
 t131 := Tryz.underlying227
 a131 := Tryz.isAgg227
 z131 := Tryz.sizeOf227
 v131 := Tryz.zeroValue227
 t182 := Tryz.underlying221
 a182 := Tryz.isAgg221
 z182 := Tryz.sizeOf221
 v182 := Tryz.zeroValue221
 t183 := Tryz.underlying222
 a183 := Tryz.isAgg222
 z183 := Tryz.sizeOf222
 v183 := Tryz.zeroValue222
 t218 := Tryz.underlying237
 a218 := Tryz.isAgg237
 z218 := Tryz.sizeOf237
 v218 := Tryz.zeroValue237
 t222 := Tryz.underlying241
 a222 := Tryz.isAgg241
 z222 := Tryz.sizeOf241
 v222 := Tryz.zeroValue241
 t228 := Tryz.underlying246
 a228 := Tryz.isAgg246
 z228 := Tryz.sizeOf246
 v228 := Tryz.zeroValue246
 t229 := Tryz.underlying179
 a229 := Tryz.isAgg179
 z229 := Tryz.sizeOf179
 v229 := Tryz.zeroValue179 }
end Go.Proofs
/- Ints cloned, sorted, and made single: the library's three. -/
namespace Go.Proofs.YtjnepkggdkccaaaGreatDoor.Cd
open Go.RowKit Go.Shelf Go.Sort

/-- The first n ints as a list. -/
def keysL (z : Nat → Int) (n : Nat) : List Int := (List.range n).map z
theorem keysL_length (z : Nat → Int) (n : Nat) : (keysL z n).length = n := by simp [keysL]
theorem keysL_getD (z : Nat → Int) (n j : Nat) (h : j < n) : (keysL z n).getD j 0 = z j := by simp [keysL, h]
def srt (l : List Int) : List Int := l.mergeSort fun x y => decide (x ≤ y)
theorem srt_length (l : List Int) : (srt l).length = l.length := by simp [srt]

theorem clone_pos (b off n cap : Nat) (z : Nat → Int) (w : World) (h : ∀ j, j < n → w.cell? ⟨b, off + j, none⟩ = some (.int .i64 (z j))) (hn : n ≤ 1000000) :
  Calls Tryz.prog 71 #[.slice (some ⟨b, off, none⟩) n cap] w fun e w' => ∃ g cap', e = .returned (.slice (some ⟨g, 0, none⟩) n cap') ∧ n ≤ cap' ∧ Holds (Value.int .i64) w' g 0 (keysL z n).toArray ∧ w.heap.size ≤ g ∧ g < w'.heap.size ∧ Below w.heap.size w w' := by
 have hcon := Any.slices_Clone_int Tryz.lClone b off n cap (keysL z n) w (by simp [keysL]) (by omega) (fun j hj => by
  rw [keysL_length] at hj
  rw [h j hj, keysL_getD z n j hj])
 change Calls Tryz.prog 71 _ _ _ at hcon
 refine hcon.mono ?_
 rintro e w' ⟨v', rfl, hown, hne, hb⟩
 have ht : (keysL z n).take n = keysL z n := List.take_of_length_le (by simp [keysL])
 rw [ht] at hown
 rcases hown.2 with ⟨e, _⟩ | ⟨g, cap', cur, rfl, hg, hgc, hcap, _, hcs, htk⟩
 ·exact absurd e hne
 ·refine ⟨g, cap', rfl, hcap, fun j hj => ?_, hg, lt_of_block hgc, hb⟩
  have hj' : j < (keysL z n).length := by simpa using hj
  have hc := hown.cells (g := g) rfl j (.int .i64 (keysL z n)[j]) (by simp [hj'])
  rw [Addr.add_lit] at hc
  refine ⟨?_, ?_⟩
  ·rw [hc]; simp [hj']
  ·rw [Nat.zero_add]; exact frozen_of_row w' g j _ _ hgc

theorem putRow_below {w : World} {g off n : Nat} {d : Array Int} {os : Array Obj} {B : Nat} (hB : B ≤ g) (hg : g < w.heap.size) : Below B w (grow (putRow (Value.int .i64) (Sort.ahead w n) g off d) os) := by
 refine ⟨rfl, rfl, rfl, by simp, fun k hk => ?_⟩
 rw [heap_grow_old _ _ (by simp; omega)]
 simp only [putRow, mapBlock, heap_ahead]
 rw [Array.getElem?_modify, if_neg (by omega)]

theorem sort_pos (g cap : Nat) (L : List Int) (w : World) (hH : Holds (Value.int .i64) w g 0 L.toArray) (hg : g < w.heap.size) (hn : L.length ≤ 1000000) (B : Nat) (hB : B ≤ g) :
  Calls Tryz.prog 72 #[.slice (some ⟨g, 0, none⟩) L.length cap] w fun e w' => e = .returned (.tuple #[]) ∧ Holds (Value.int .i64) w' g 0 (srt L).toArray ∧ g < w'.heap.size ∧ Below B w w' := by
 have hcon := Any.slices_Sort_int Tryz.lSort g 0 cap L w hH hg (by omega)
 change Calls Tryz.prog 72 _ _ _ at hcon
 refine hcon.mono ?_
 rintro e w' ⟨rfl, n, os, rfl⟩
 refine ⟨rfl, holds_grow _ _ _ _ _ _ (by simpa using hg) (holds_putRow _ _ _ _ _ _ (holds_ahead _ _ _ _ _ _ hH) (by simp)), by simp; omega, putRow_below hB hg⟩

theorem compact_pos (g cap : Nat) (L : List Int) (w : World) (hH : Holds (Value.int .i64) w g 0 L.toArray) (hg : g < w.heap.size) (hn : L.length ≤ 1000000) (hc : L.length ≤ cap) (B : Nat) (hB : B ≤ g) :
  Calls Tryz.prog 73 #[.slice (some ⟨g, 0, none⟩) L.length cap] w fun e w' => e = .returned (.slice (some ⟨g, 0, none⟩) (Lib.compact L).length cap) ∧ IsAt w' (some ⟨g, 0, none⟩) (Lib.compact L).length (fun j => (Lib.compact L).getD j 0) ∧ g < w'.heap.size ∧ Below B w w' := by
 have hcon := Any.slices_Compact_int Tryz.lCompact g 0 cap L w hH (by omega) hc
 change Calls Tryz.prog 73 _ _ _ at hcon
 refine hcon.mono ?_
 rintro e w' ⟨rfl, q, rfl⟩
 have hcl : (Lib.compact L).length ≤ L.length := by
  have := List.length_filter_le (Lib.keeps L.toArray) (List.range L.length)
  simpa [Lib.compact, Lib.compactUpTo] using this
 have hH2 := holds_putRow (Value.int .i64) (Sort.ahead w q) g 0 L.toArray (Lib.compact L ++ List.replicate (L.length - (Lib.compact L).length) 0).toArray (holds_ahead _ _ _ _ _ _ hH) (by simp; omega)
 refine ⟨rfl, fun hn => ⟨g, 0, rfl, fun j hj => ?_⟩, by simpa using hg, ?_⟩
 ·rw [(hH2 j (by simp; omega)).1]
  simp only [List.getElem!_toArray, List.getElem!_eq_getElem?_getD, List.getD_eq_getElem?_getD]
  rw [List.getElem?_append_left hj]
  rfl
 ·have := putRow_below (n := q) (off := 0) (d := (Lib.compact L ++ List.replicate (L.length - (Lib.compact L).length) 0).toArray) (os := #[]) hB hg
  simpa using this
end Go.Proofs.YtjnepkggdkccaaaGreatDoor.Cd
/- Rows of ints of one's own: append; the document's has. -/
namespace Go.Proofs.YtjnepkggdkccaaaGreatDoor.Cd
open Go.RowKit

def iC (L : List Int) : List Value := L.map (Value.int .i64)
def fi (L : List Int) : Nat → Int := fun j => L.getD j 0
/-- What is appended: ints that lie somewhere, or nothing. -/
def ISrc (w : World) (u : Value) (ys : List Int) : Prop :=
 ∃ ad c, u = .slice ad ys.length c ∧ ((ad = none ∧ ys = []) ∨ ∃ a, ad = some a ∧ ∀ j v, (iC ys)[j]? = some v → w.cell? (a.add j) = some v)
theorem ISrc.below {w w' : World} {u : Value} {ys : List Int} (h : ISrc w u ys) (hb : Below w.heap.size w w') : ISrc w' u ys := by
 obtain ⟨ad, c, rfl, h⟩ := h
 refine ⟨ad, c, rfl, ?_⟩
 rcases h with h | ⟨a, rfl, hc⟩
 ·exact .inl h
 ·refine .inr ⟨a, rfl, fun j v hv => ?_⟩
  have h1 := hc j v hv
  rw [hb.cell (p := a.add j) (World.block_lt_of_cell? w _ h1)]
  exact h1
/-- A value that owns ints, made since w0; nothing that was there in w0 has changed. -/
structure IOw (w0 w : World) (v : Value) (L : List Int) : Prop where
 own : w.ownsRow w0.heap.size 3 1 v L.length (iC L)
 below : Below w0.heap.size w0 w
theorem IOw.nil (w : World) : IOw w w (.slice none 0 0) [] := ⟨World.ownsRow_nil _ _ _ _, Below.refl _ _⟩
theorem IOw.keep {w0 w w' : World} {v : Value} {L : List Int} (h : IOw w0 w v L) (hb : Below w.heap.size w w') : IOw w0 w' v L := by
 refine ⟨⟨h.own.1, ?_⟩, h.below.trans (hb.mono h.below.size)⟩
 rcases h.own.2 with hn | ⟨g, cap, cur, e, hbs, hg, rest⟩
 ·exact .inl hn
 ·exact .inr ⟨g, cap, cur, e, hbs, by rw [hb.block _ (lt_of_block hg)]; exact hg, rest⟩
theorem IOw.mono {w w0 w1 : World} {v : Value} {L : List Int} (h : IOw w0 w1 v L) (hb : Below w.heap.size w w0) : IOw w w1 v L := by
 refine ⟨⟨h.own.1, ?_⟩, hb.trans (h.below.mono hb.size)⟩
 rcases h.own.2 with hn | ⟨g, cap, cur, e, hbs, rest⟩
 ·exact .inl hn
 ·exact .inr ⟨g, cap, cur, e, Nat.le_trans hb.size hbs, rest⟩
theorem IOw.form {w0 w : World} {v : Value} {L : List Int} (h : IOw w0 w v L) : (v = .slice none 0 0 ∧ L = []) ∨ ∃ g cap, v = .slice (some ⟨g, 0, none⟩) L.length cap ∧ L.length ≤ cap ∧ cap ≤ maxLen ∧ w0.heap.size ≤ g ∧ g < w.heap.size ∧ ∀ j, j < L.length → w.cell? ⟨g, 0 + j, none⟩ = some (.int .i64 (fi L j)) := by
 rcases h.own.2 with ⟨rfl, e⟩ | ⟨g, cap, cur, rfl, hbs, hg, hc, hm, _⟩
 ·exact .inl ⟨rfl, List.eq_nil_of_length_eq_zero e⟩
 ·refine .inr ⟨g, cap, rfl, hc, hm, hbs, lt_of_block hg, fun j hj => ?_⟩
  have := h.own.cells (g := g) rfl j (.int .i64 (fi L j)) (by simp [iC, fi, hj])
  rwa [Addr.add_lit] at this
theorem IOw.isAt {w0 w : World} {ad : Option Addr} {n cap : Nat} {L : List Int} (h : IOw w0 w (.slice ad n cap) L) : n = L.length ∧ IsAt w ad L.length (fi L) := by
 rcases h.form with ⟨e, rfl⟩ | ⟨g, c, e, _, _, _, _, hc⟩
 ·cases e; exact ⟨rfl, fun h => by cases h⟩
 ·cases e; exact ⟨rfl, fun _ => ⟨g, 0, rfl, hc⟩⟩

theorem run_append_I (w w0 : World) (ty : TypeId) (v u : Value) (L ys : List Int) (hown : IOw w0 w v L) (hu : ISrc w u ys) (hlen : L.length + ys.length ≤ 1000000) :
  ∃ v' w1, (Builtin.append_ #[88, 88] ty #[v, u]).run Tryz.prog w = .ok v' w1 ∧ IOw w0 w1 v' (L ++ ys) ∧ (∀ k, k < w.heap.size → v.ownBlock ≠ some k → w1.heap[k]? = w.heap[k]?) := by
 obtain ⟨i0, hi0, hz0, hz1, hz2⟩ := info_parts infoI
 obtain ⟨ad, c, rfl, ⟨rfl, rfl⟩ | ⟨a, rfl, hc⟩⟩ := hu
 ·refine ⟨v, w, ?_, by simpa using hown, fun _ _ _ => rfl⟩
  rcases hown.own.2 with ⟨rfl, hl⟩ | ⟨g, cap, cur, rfl, hbs, hg, hcap, _⟩
  ·simp [Builtin.append_, run_underlying Tryz.underlying88, sizeOf, typeInfo, hi0, Builtin.lenOf, Builtin.firstCells]
  ·have := run_append_room_src (P := Tryz.prog) w 88 88 ty 3 i0 Tryz.underlying88 hi0 g 0 L.length cap (.slice none 0 c) 0 [] (Src.ofNil w Tryz.underlying88 c) (by omega) (fun j hj => by simp at hj) (fun j hj => by simp at hj)
   simpa [World.setCells] using this
 ·obtain ⟨v', w1, hr, h2, h3, _, h5⟩ := run_append_own_at (P := Tryz.prog) w w0.heap.size 88 ty 3 i0 (.int .i64 0) 1 8 Tryz.underlying88 hi0 hz0 hz1 hz2 rfl (by decide) v L.length (iC L) hown.own a ys.length c (iC ys) (by simp [iC]) hc
   (fun u hu => by obtain ⟨y, _, rfl⟩ := List.mem_map.1 hu; rfl) (by simp only [maxLen]; omega) (by omega) hown.below.size
  refine ⟨v', w1, hr, ⟨by simpa [iC] using h2, hown.below.trans ⟨h3.os, h3.tape, h3.output, h3.size, fun k hk => h3.block k (by have := hown.below.size; omega) (fun e => ?_)⟩⟩, fun k hk hne => h3.block k hk (fun e => hne e.symm)⟩
  have := (hown.own.lt k e.symm).1
  omega

section
variable {ops : Array Oper} {o : Oper} {a : Act} {w : World} {K : Act → World → Prop} {Q : Exit → Act → World → Prop} {E : Prop}
theorem step_append_I (hgd : o.guard = none) (s x : Operand) (ho : o.op = .call { callee := .builtin .append, args := #[s, x], argTypes := #[88, 88] })
  (w0 : World) (v u : Value) (L ys : List Int) (hs : a.eval s = v) (hx : a.eval x = u) (hown : IOw w0 w v L) (hu : ISrc w u ys) (hlen : L.length + ys.length ≤ 1000000)
  (h : ∀ v' w1, IOw w0 w1 v' (L ++ ys) → (∀ k, k < w.heap.size → v.ownBlock ≠ some k → w1.heap[k]? = w.heap[k]?) → K (a.put o.dst v') w1) : if Region.wanted o (yielded ops a.tmps) = true then Oper.wp Tryz.prog o a w K Q else E := by
 have hw : Region.wanted o (yielded ops a.tmps) = true := by simp [Region.wanted, hgd]
 rw [if_pos hw]
 obtain ⟨v', w1, hr, h2, h3⟩ := run_append_I w w0 o.type v u L ys hown hu hlen
 unfold Oper.wp execOp
 simp only [ho, resolve, invoke, builtin, Sem.run_bind, Sem.run_pure, Result.andThen_ok, List.map_toArray, List.map_cons, List.map_nil, hs, hx, hr]
 exact h v' w1 h2 h3
end

/-- Whether an int is among some. -/
def memK (z : Nat → Int) (n : Nat) (k : Int) : Bool := (keysL z n).contains k

set_option maxHeartbeats 800000 in
theorem rhas_any (ad : Option Addr) (n cap : Nat) (z : Nat → Int) (k : Int) (w : World) (h : IsAt w ad n z) (hn : n ≤ 1000000) :
  Calls Tryz.prog 75 #[.slice ad n cap, .int .i64 k] w fun e w' => e = .returned (.bool (memK z n k)) ∧ Below w.heap.size w w' := by
 have HI : Hid (IsAt w ad n z) := h
 have hb0 := Below.refl w.heap.size w
 clear h
 go_enter Tryz.func75, Tryz.ntmps75
 go_wp2
 go_loopw [5] (fun iv wr => ∃ i : Nat, i ≤ n ∧ iv = .int .i64 i ∧ (∀ j, j < i → z j ≠ k) ∧ Below w.heap.size w wr) (fun iv _ => n + 1 - (intOf iv).toNat)
 case atStart => exact ⟨0, by omega, rfl, fun j hj => by omega, hb0⟩
 case round =>
  clear hb0
  obtain ⟨i, hi, rfl, hk, hb⟩ := hrel
  have HK : Hid (∀ j, j < i → z j ≠ k) := hk
  clear hk
  by_cases hlt : i < n
  ·have hlt' : (i : Int) < n := by omega
   obtain ⟨b, off, rfl, hc⟩ := HI.out (by omega)
   have hci : wr.cell? ⟨b, off + i, none⟩ = some (.int .i64 (z i)) := by
    have := hc i hlt
    rw [hb.cell (p := ⟨b, off + i, none⟩) (World.block_lt_of_cell? w ⟨b, off + i, none⟩ this)]; exact this
   clear hc
   by_cases hq : z i = k
   ·have HE : Hid (memK z n k = true) := by
     show (keysL z n).contains k = true
     simp only [List.contains_iff_mem, keysL, List.mem_map, List.mem_range]
     exact ⟨i, hlt, hq⟩
    go_wp2
    go_ret
    exact ⟨by rw [HE.out]; rfl, hb⟩
   ·have HN : Hid (∀ j, j < i + 1 → z j ≠ k) := fun j hj => by
     by_cases e : j = i
     ·subst e; exact hq
     ·exact HK.out j (by omega)
    go_wp2
    go_roundw
    case rel => exact ⟨i + 1, by omega, by go_num, HN.out, hb⟩
    case measure => simp [intOf]; omega
  ·obtain rfl : i = n := by omega
   have hnn : ¬ ((i : Int) < i) := by omega
   have HE : Hid (memK z i k = false) := by
    show (keysL z i).contains k = false
    simp only [List.contains_eq_mem, decide_eq_false_iff_not, keysL, List.mem_map, List.mem_range]
    rintro ⟨j, hj, e⟩
    exact HK.out j hj e
   go_wp2
   go_ret
   exact ⟨by rw [HE.out]; rfl, hb⟩
end Go.Proofs.YtjnepkggdkccaaaGreatDoor.Cd
/- cond.All of some ints, at least one. -/
namespace Go.Proofs.YtjnepkggdkccaaaGreatDoor.Cd
open Go.RowKit Go.Shelf Go.Sort

/-- The branch that just asks for these keys. -/
def kb (L : List Int) : Bv := ⟨L.length, fun j => L.getD j 0, nz, 0, 0⟩
theorem build_b (L : List Int) (ka : Option Addr) (kc : Nat) (w : World) : (Instr.build 164 #[(0, .slice ka L.length kc)]).run Tryz.prog w = .ok (.agg (bv (kb L) ka kc)) w := by kernel_rfl
section
variable {ops : Array Oper} {rest : List Oper} {o : Oper} {a : Act} {w : World} {Q : Exit → Act → World → Prop}
theorem wpList_buildB (hgd : o.guard = none) (x : Operand) (ho : o.op = .build 164 #[(0, x)]) (L : List Int) (ka : Option Addr) (kc : Nat) (hx : a.eval x = .slice ka L.length kc)
  (h : wpList Tryz.prog ops Q rest (a.put o.dst (.agg (bv (kb L) ka kc))) w) : wpList Tryz.prog ops Q (o :: rest) a w := by
 refine wpList_plain hgd fun K hK => ?_
 unfold Oper.wp execOp
 simp only [ho, List.map_toArray, List.map_cons, List.map_nil, hx, Sem.run_bind, build_b, Result.andThen]
 exact hK _ _ h
end
theorem compact_mem {L : List Int} {x : Int} (h : x ∈ Lib.compact L) : x ∈ L := by
 simp only [Lib.compact, Lib.compactUpTo, List.mem_map, List.mem_filter, List.mem_range] at h
 obtain ⟨j, ⟨h1, _⟩, rfl⟩ := h
 simp [h1]
theorem kb_ok {L : List Int} (h : ∀ x ∈ L, Ib x) : (kb L).Ok := by
 refine ⟨fun j hj => ?_, fun j _ => by simp [kb, nz], by simp [kb, Ib], by simp [kb, Ib]⟩
 have hj' : j < L.length := hj
 simp only [kb, List.getD_eq_getElem?_getD, List.getElem?_eq_getElem hj', Option.getD_some]
 exact h _ (List.getElem_mem hj')
theorem nrm_ib {z : Nat → Int} {n : Nat} (h : ∀ j, j < n → Ib (z j)) : ∀ x ∈ Lib.compact (srt (keysL z n)), Ib x := by
 intro x hx
 have := compact_mem hx
 simp only [srt, List.mem_mergeSort, keysL, List.mem_map, List.mem_range] at this
 obtain ⟨j, hj, rfl⟩ := this
 exact h j hj

set_option maxRecDepth 100000 in
set_option maxHeartbeats 1600000 in
theorem all_posI (b off n cap : Nat) (z : Nat → Int) (w : World) (h : ∀ j, j < n → w.cell? ⟨b, off + j, none⟩ = some (.int .i64 (z j))) (hz : ∀ j, j < n → Ib (z j)) (hn : n ≤ 1000000) :
  Calls Tryz.prog 41 #[.slice (some ⟨b, off, none⟩) n cap] w fun e w' => ∃ g, e = .returned (.agg #[.slice (some ⟨g, 0, none⟩) 1 1]) ∧ BrIn w' w.heap.size (some ⟨g, 0, none⟩) 1 (fun _ => kb (Lib.compact (srt (keysL z n)))) ∧ Below w.heap.size w w' := by
 obtain ⟨K, hK⟩ : ∃ K, K = Lib.compact (srt (keysL z n)) := ⟨_, rfl⟩
 rw [← hK]
 have HOK : (kb K).Ok := by rw [hK]; exact kb_ok (nrm_ib hz)
 have hb0 : Below w.heap.size w (w.alloc (.cells #[.slice none 0 0] 93)) := (Below.refl _ w).alloc (Nat.le_refl _) _
 have hr0 : (w.alloc (.cells #[.slice none 0 0] 93)).heap[w.heap.size]? = some (.cells #[.slice none 0 0] 93 (0, 0)) := heap_alloc_new w _
 have hc := clone_pos b off n cap z (w.alloc (.cells #[.slice none 0 0] 93)) (fun j hj => by
  have := h j hj
  rw [hb0.cell (p := ⟨b, off + j, none⟩) (World.block_lt_of_cell? w ⟨b, off + j, none⟩ this)]; exact this) hn
 have hs0 : w.heap.size < (w.alloc (.cells #[.slice none 0 0] 93)).heap.size := by simp
 clear h
 go_enter Tryz.func41, Tryz.ntmps41
 go_wp2_with fail
 generalize w.alloc (.cells #[.slice none 0 0] 93) = W0 at *
 refine hc.mono ?_
 rintro e w1 ⟨g, cap1, rfl, hcap, hH1, hg0, hg1, hb1⟩
 clear hc
 have hl : (keysL z n).length = n := keysL_length z n
 have hl2 : (srt (keysL z n)).length = n := by rw [srt_length, hl]
 have hsort := sort_pos g cap1 (keysL z n) w1 hH1 hg1 (by omega) W0.heap.size hg0
 rw [hl] at hsort
 clear hH1
 go_wp2_with fail
 refine hsort.mono ?_
 rintro e w2 ⟨rfl, hH2, hg2, hb2⟩
 clear hsort
 have hcom := compact_pos g cap1 (srt (keysL z n)) w2 hH2 hg2 (by omega) (by omega) W0.heap.size hg0
 rw [hl2, ← hK] at hcom
 clear hH2
 go_wp2_with fail
 refine hcom.mono ?_
 rintro e w3 ⟨rfl, hI3, hg3, hb3⟩
 have hbw : Below W0.heap.size W0 w3 := (hb1.trans hb2).trans hb3
 have hr3 : w3.heap[w.heap.size]? = some (.cells #[.slice none 0 0] 93 (0, 0)) := by rw [hbw.block _ hs0]; exact hr0
 clear hcom hb1 hb2 hb3 hr0 hK hz
 have hlt := hbw.size
 have hn4 := heap_alloc_new w3 (.cells (bv (kb K) (some ⟨g, 0, none⟩) cap1) 164)
 have hb4 : Below w3.heap.size w3 (w3.alloc (.cells (bv (kb K) (some ⟨g, 0, none⟩) cap1) 164)) := (Below.refl _ _).alloc (Nat.le_refl _) _
 have hr4 : (w3.alloc (.cells (bv (kb K) (some ⟨g, 0, none⟩) cap1) 164)).heap[w.heap.size]? = some (.cells #[.slice none 0 0] 93 (0, 0)) := by rw [hb4.block _ (by omega)]; exact hr3
 have c4 : (w3.alloc (.cells (bv (kb K) (some ⟨g, 0, none⟩) cap1) 164)).cell? ⟨w.heap.size, 0, none⟩ = some (.slice none 0 0) := by rw [cell_of_row _ _ 0 _ _ _ hr4]; rfl
 have f4 : (w3.alloc (.cells (bv (kb K) (some ⟨g, 0, none⟩) cap1) 164)).frozen? ⟨w.heap.size, 0, none⟩ = false := frozen_of_row _ _ 0 _ _ hr4
 have HE : Hid (((w3.alloc (.cells (bv (kb K) (some ⟨g, 0, none⟩) cap1) 164)).setCell ⟨w.heap.size, 0, none⟩ (.slice (some ⟨w3.heap.size, 0, none⟩) 1 1)).heap[w.heap.size]? = some (.cells #[.slice (some ⟨w3.heap.size, 0, none⟩) 1 1] 93 (0, 0))
   ∧ BrIn ((w3.alloc (.cells (bv (kb K) (some ⟨g, 0, none⟩) cap1) 164)).setCell ⟨w.heap.size, 0, none⟩ (.slice (some ⟨w3.heap.size, 0, none⟩) 1 1)) w.heap.size (some ⟨w3.heap.size, 0, none⟩) 1 (fun _ => kb K)
   ∧ Below w.heap.size w ((w3.alloc (.cells (bv (kb K) (some ⟨g, 0, none⟩) cap1) 164)).setCell ⟨w.heap.size, 0, none⟩ (.slice (some ⟨w3.heap.size, 0, none⟩) 1 1))) := by
  refine ⟨heap_setCell_same _ _ 0 _ _ _ hr4, fun w' hw => ⟨fun _ _ => HOK, fun _ => ⟨w3.heap.size, 0, rfl, fun i hi => ⟨some ⟨g, 0, none⟩, cap1, fun j u hu => ?_, ?_⟩⟩⟩, ?_⟩
  ·obtain rfl : i = 0 := by omega
   rw [World.cell?_of_block (a := ⟨w3.heap.size, 0 + 0 * 35 + j, none⟩) (hw w3.heap.size (by omega) (by simp [World.setCell])), World.cell?_of_block (a := ⟨w3.heap.size, 0 + 0 * 35 + j, none⟩) (Below.heap_setCell _ _ _ _ (by show w3.heap.size ≠ w.heap.size; omega)), cell_of_row _ _ _ _ _ _ hn4]
   simpa [bv] using hu
  ·have h1 := isAt_set (g := w.heap.size) (o := 0) (u := .slice (some ⟨w3.heap.size, 0, none⟩) 1 1) (hI3.below hb4) (fun a e => by cases e; show g ≠ w.heap.size; omega)
   intro hp
   obtain ⟨b', off', e, hc⟩ := h1 hp
   cases e
   refine ⟨g, 0, rfl, fun j hj => ?_⟩
   rw [World.cell?_of_block (a := ⟨g, 0 + j, none⟩) (hw g (by omega) (by simp [World.setCell]; omega))]
   exact hc j hj
  ·exact ((hb0.trans (hbw.mono (by omega))).trans (hb4.mono (by omega))).setCell (Nat.le_refl _) _
 clear hn4 hr4 hr3 hI3 hb4 hbw hb0
 go_wp2_with (first | (refine wpList_buildB rfl _ rfl K (some ⟨g, 0, none⟩) cap1 rfl ?_) | (refine wpList_sliceB rfl _ rfl (kb K) (some ⟨g, 0, none⟩) cap1 rfl ?_) | fail)
 exact bodyPost_ret (results_cell_row Tryz.results41 _ _ w.heap.size 93 #[.slice (some ⟨w3.heap.size, 0, none⟩) 1 1] (0, 0) _ rfl HE.out.1 Tryz.underlying93 rfl szC) rfl ⟨_, rfl, HE.out.2⟩
end Go.Proofs.YtjnepkggdkccaaaGreatDoor.Cd
