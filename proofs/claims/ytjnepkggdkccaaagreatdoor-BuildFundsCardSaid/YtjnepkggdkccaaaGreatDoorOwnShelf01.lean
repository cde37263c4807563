/- What is kept outside of some blocks; sums of 32 bytes kept whole; errors by their numbers. (Parts of Kit, Clone and HashKit, without enc.) -/
import Derived.Test.YtjnepkggdkccaaaGreatDoorProg
import Derived.WalkKit
import Derived.WalkSpells
import Derived.WalkLawsBesides
import Derived.Laws.CopyOwn
import Derived.Deep.MidRow
import Derived.Stop.BytesEq
import Derived.Great.Ranges
import Derived.Deep.RegionHeld3
namespace Go.Proofs.YtjnepkggdkccaaaGreatDoor
open Go.RowKit

def errV (e : Int) : Value := if e = 0 then .nilIface else .iface 101 (.int .i64 e)
theorem errV_ne {e : Int} (h : e ≠ 0) : errV e = .iface 101 (.int .i64 e) := if_neg h
/-- The n bytes z as cells. -/
def bl (z : Nat → Int) (n : Nat) : List Value := (List.range n).map fun j => .int .u8 (z j)
theorem bl_length (z : Nat → Int) (n : Nat) : (bl z n).length = n := by simp [bl]
theorem bl_get {z : Nat → Int} {n j : Nat} {u : Value} (h : (bl z n)[j]? = some u) : j < n ∧ u = .int .u8 (z j) := by
 simp only [bl, List.getElem?_map, Option.map_eq_some_iff] at h
 obtain ⟨a, h1, h2⟩ := h
 have := List.getElem?_eq_some_iff.1 h1
 obtain ⟨h3, h4⟩ := this
 simp at h3 h4
 exact ⟨h3, by rw [← h2, ← h4]⟩
theorem bl_at {z : Nat → Int} {n j : Nat} (h : j < n) : (bl z n)[j]? = some (.int .u8 (z j)) := by
 simp [bl, List.getElem?_map, List.getElem?_range h]
theorem bl_one (z : Nat → Int) (n : Nat) : ∀ u ∈ bl z n, u.oneCell' = true := by
 intro u hu
 simp only [bl, List.mem_map] at hu
 obtain ⟨_, _, rfl⟩ := hu
 rfl
/-- All blocks that were there, but those of S, are as they were; the streams too. -/
structure Frm (S : List Nat) (w w' : World) : Prop where
 os : w'.os = w.os
 tape : w'.tape = w.tape
 output : w'.output = w.output
 size : w.heap.size ≤ w'.heap.size
 block : ∀ k, k < w.heap.size → k ∉ S → w'.heap[k]? = w.heap[k]?

theorem Frm.refl (S : List Nat) (w : World) : Frm S w w := ⟨rfl, rfl, rfl, Nat.le_refl _, fun _ _ _ => rfl⟩
theorem Frm.trans {S : List Nat} {a b c : World} (h : Frm S a b) (k : Frm S b c) : Frm S a c :=
 ⟨k.os.trans h.os, k.tape.trans h.tape, k.output.trans h.output, Nat.le_trans h.size k.size, fun i hi hn => (k.block i (Nat.lt_of_lt_of_le hi h.size) hn).trans (h.block i hi hn)⟩
theorem Frm.mono {S T : List Nat} {a b : World} (h : Frm S a b) (hs : ∀ k, k ∈ S → k ∈ T) : Frm T a b :=
 ⟨h.os, h.tape, h.output, h.size, fun i hi hn => h.block i hi (fun e => hn (hs i e))⟩
/-- Blocks that were not there yet may be left out. -/
theorem Frm.old {S T : List Nat} {a b : World} (h : Frm S a b) (hs : ∀ k, k ∈ S → k < a.heap.size → k ∈ T) : Frm T a b :=
 ⟨h.os, h.tape, h.output, h.size, fun i hi hn => h.block i hi (fun e => hn (hs i e hi))⟩
theorem Frm.drewN {S : List Nat} {a b : World} (h : Frm S a b) (n : Nat) : Frm S a (b.drewN n) := ⟨h.os, h.tape, h.output, h.size, h.block⟩
theorem Frm.drew {S : List Nat} {a b : World} (h : Frm S a b) : Frm S a b.drew := ⟨h.os, h.tape, h.output, h.size, h.block⟩
theorem Frm.alloc {S : List Nat} {a b : World} (h : Frm S a b) (o : Obj) : Frm S a (b.alloc o) :=
 h.trans ⟨rfl, rfl, rfl, by simp, fun k hk _ => Below.heap_alloc _ _ _ hk⟩
theorem Frm.setCell {S : List Nat} {a b : World} (h : Frm S a b) (p : Addr) (u : Value) (hp : p.block ∈ S) : Frm S a (b.setCell p u) :=
 h.trans ⟨rfl, rfl, rfl, by simp [World.setCell], fun k _ hn => Below.heap_setCell _ _ _ _ (fun e => hn (by rw [e]; exact hp))⟩
theorem Frm.grown {S : List Nat} {a b c : World} {row : Option Nat} (h : Frm S a b) (hg : b.grownBy c row) (hr : ∀ k, row = some k → k ∈ S) : Frm S a c :=
 h.trans ⟨hg.os, hg.tape, hg.output, hg.size, fun k hk hn => hg.block k hk (fun e => hn (hr k e.symm))⟩
theorem Frm.below {S : List Nat} {a b : World} {B : Nat} (h : Frm S a b) (hB : B ≤ a.heap.size) (hs : ∀ k, k ∈ S → B ≤ k) : Below B a b :=
 ⟨h.os, h.tape, h.output, h.size, fun k hk => h.block k (by omega) (fun e => by have := hs k e; omega)⟩
theorem Frm.ofBelow {S : List Nat} {a b : World} (h : Below a.heap.size a b) : Frm S a b := ⟨h.os, h.tape, h.output, h.size, fun k hk _ => h.block k hk⟩
theorem Frm.heap {S : List Nat} {a b : World} (h : Frm S a b) {k : Nat} {o : Obj} (hk : a.heap[k]? = some o) (hn : k ∉ S) : b.heap[k]? = some o := by
 rw [h.block k (lt_of_block hk) hn]; exact hk


section
variable {w : World} {b : Nat} {u v x : Value} {t : TypeId}
theorem two_cell0 (h : w.heap[b]? = some (.cells #[u, v] t (0, 0))) : w.cell? ⟨b, 0, none⟩ = some u := by simp [World.cell?, h]
theorem two_cell1 (h : w.heap[b]? = some (.cells #[u, v] t (0, 0))) : w.cell? ⟨b, 1, none⟩ = some v := by simp [World.cell?, h]
end

/-- A sum's 32 cells. -/
def hv (z : Nat → Int) : Array Value := (bl z 32).toArray
theorem hv_size (z : Nat → Int) : (hv z).size = 32 := by simp [hv, bl_length]
theorem hv_list (z : Nat → Int) : (hv z).toList = bl z 32 := by simp [hv]
theorem hv_one (z : Nat → Int) : (hv z).all (·.oneCell') = true := by
 have : (hv z) = (bl z 32).toArray := rfl
 rw [this]
 exact all_oneCell_toArray (bl_one z 32)
theorem hsz : (Tryz.prog.info? 23).map (·.size) = some 32 := by kernel_rfl

/-- No byte but 0. -/
def nz : Nat → Int := fun _ => 0

section
variable {ops : Array Oper} {rest : List Oper} {o : Oper} {a : Act} {w : World} {Q : Exit → Act → World → Prop}



theorem setCells_at (g : Nat) : ∀ (vs : List Value) (off : Nat) (w : World) (pre post : List Value) (t : TypeId), w.heap[g]? = some (.cells (pre ++ post).toArray t (0, 0)) → pre.length = off → vs.length ≤ post.length →
  (w.setCells g off vs).heap[g]? = some (.cells (pre ++ vs ++ post.drop vs.length).toArray t (0, 0))
 | [], _, w, pre, post, t, h, _, _ => by simpa [World.setCells] using h
 | v :: r, off, w, pre, p :: post, t, h, hp, hl => by
  rw [World.setCells]
  have h1 : (w.setCell ⟨g, off, none⟩ v).heap[g]? = some (.cells ((pre ++ [v]) ++ post).toArray t (0, 0)) := by
   rw [heap_setCell_same w g off _ t v h]
   congr 2
   apply Array.toList_inj.1
   simp [← hp]
  have := setCells_at g r (off + 1) _ (pre ++ [v]) post t h1 (by simp [hp]) (by simpa using hl)
  simpa using this
 | v :: r, off, w, pre, [], t, h, hp, hl => by simp at hl
theorem setCells_frm (g : Nat) : ∀ (vs : List Value) (off : Nat) (w : World), Frm [g] w (w.setCells g off vs)
 | [], _, w => Frm.refl _ w
 | v :: r, off, w => ((Frm.refl [g] w).setCell ⟨g, off, none⟩ v (by simp)).trans (setCells_frm g r (off + 1) _)

end
def ub (z : Nat → Int) : List UInt8 := (List.range 32).map fun j => UInt8.ofNat (z j).toNat
theorem hv_ub {z : Nat → Int} (hz : ∀ j, j < 32 → 0 ≤ z j ∧ z j ≤ 255) : hv z = ((ub z).map Extern.Stop.cell).toArray := by
 unfold hv bl ub
 congr 1
 rw [List.map_map]
 apply List.map_congr_left
 intro j hj
 have := hz j (by simpa using hj)
 simp [Extern.Stop.cell]
 omega
/-- Whether two sums are the same. -/
def hq (z y : Nat → Int) : Bool := ub z == ub y
theorem hsz1 (w : World) : (sizeOf 5).run Tryz.prog w = .ok 1 w := by kernel_rfl
theorem eql_hv {z y : Nat → Int} (hz : ∀ j, j < 32 → 0 ≤ z j ∧ z j ≤ 255) (hy : ∀ j, j < 32 → 0 ≤ y j ∧ y j ≤ 255) (w : World) :
  (binOp .eql 23 (.agg (hv z)) (.agg (hv y))).run Tryz.prog w = .ok (.bool (hq z y)) w := by
 rw [hv_ub hz, hv_ub hy]
 exact run_eql_bytes w 23 5 32 Tryz.underlying23 Tryz.underlying5 hsz1 (ub z) (ub y) (by simp [ub]) (by simp [ub])
theorem nz_bd : ∀ j, j < 32 → 0 ≤ nz j ∧ nz j ≤ 255 := fun _ _ => by simp [nz]

theorem Below.transS {w w1 w2 : World} (h : Below w.heap.size w w1) (k : Below w1.heap.size w1 w2) : Below w.heap.size w w2 := h.trans (k.mono h.size)
theorem range_below {W w : World} {b off : Nat} {vs : List Value} (h : W.rangeAt b off vs) (hb : Below W.heap.size W w) : w.rangeAt b off vs := by
 intro j v hv
 have h1 := h j v hv
 have hlt : b < W.heap.size := World.block_lt_of_cell? W ⟨b, off + j, none⟩ h1
 rw [hb.cell (p := ⟨b, off + j, none⟩) hlt]; exact h1
theorem zA {α : Type} {i : Nat} {a : α} {xs : List α} : xs.toArray.setIfInBounds i a = (xs.set i a).toArray := List.setIfInBounds_toArray _ _ _
theorem zB {α : Type} {a b : α} {xs : List α} : (a :: xs).set 0 b = b :: xs := List.set_cons_zero
theorem zC {α : Type} {a b : α} {n : Nat} {xs : List α} : (a :: xs).set (n + 1) b = a :: xs.set n b := List.set_cons_succ
theorem wpT {P : Program} {md : Region.Mode} {ops : Array Oper} {Q : Exit → Act → World → Prop} {S : World → Prop} {i : Nat} {oi : Oper} {v : Value} {n : Nat} {l : Array Bool} {a : Act} {w : World} (hi : ops[i]? = some oi) (hs : (Region.noSelect ops && Region.free md ops l i && (Region.ready md ops l).contains i) = true) (hQ : ∀ c a w, Q (.panic c) (a.put oi.dst v) w → Q (.panic c) a w) (hy : YieldsIf P ops S oi v a) (hS : S w) (h : wpAnyH P md ops Q S n (l.setIfInBounds i true) (a.put oi.dst v) w) : wpAnyH P md ops Q S (n + 1) l a w := by
 simp only [Bool.and_eq_true] at hs
 exact wpAnyH_take hi hs.1.1 hs.1.2 hs.2 hQ hy hS h
end Go.Proofs.YtjnepkggdkccaaaGreatDoor
/- Payments, holds and states: what they say, their cells, and how they lie. -/
namespace Go.Proofs.YtjnepkggdkccaaaGreatDoor
open Go.RowKit

def Zb (z : Nat → Int) : Prop := ∀ j, j < 32 → 0 ≤ z j ∧ z j ≤ 255
def Ib (n : Int) : Prop := -9223372036854775808 ≤ n ∧ n ≤ 9223372036854775807
theorem tsize : Tryz.prog.types.size = 277 := by kernel_rfl
theorem cellsH : Tryz.prog.cellsOf 23 = 32 := by kernel_rfl
theorem cellsI : Tryz.prog.cellsOf 3 = 1 := by kernel_rfl
theorem cellsB : Tryz.prog.cellsOf 5 = 1 := by kernel_rfl
theorem cellsS : Tryz.prog.cellsOf 88 = 1 := by kernel_rfl
theorem infoI : (Tryz.prog.info? 3).map (fun i => (i.zero, i.size, i.bytes)) = some (some (.int .i64 0), 1, 8) := by kernel_rfl
/-- Ints that lie at an address. -/
def IsAt (w : World) (ad : Option Addr) (n : Nat) (z : Nat → Int) : Prop := 0 < n → ∃ b off, ad = some ⟨b, off, none⟩ ∧ ∀ j, j < n → w.cell? ⟨b, off + j, none⟩ = some (.int .i64 (z j))
theorem IsAt.below {w w' : World} {ad : Option Addr} {n : Nat} {z : Nat → Int} (h : IsAt w ad n z) (hb : Below w.heap.size w w') : IsAt w' ad n z := by
 intro hn
 obtain ⟨b, off, e, hc⟩ := h hn
 refine ⟨b, off, e, fun j hj => ?_⟩
 have := hc j hj
 have hl : b < w.heap.size := World.block_lt_of_cell? w ⟨b, off + j, none⟩ this
 rw [hb.cell (p := ⟨b, off + j, none⟩) hl]; exact this

/-- What a payment says. -/
structure Py where
 id : Int
 fr : Int
 am : Int
 af : Int
 lk : Nat → Int
instance : Inhabited Py := ⟨⟨0, 0, 0, 0, nz⟩⟩
/-- Its 36 cells. -/
def pyl (x : Py) : List Value := .int .i64 x.id :: .int .i64 x.fr :: .int .i64 x.am :: .int .i64 x.af :: bl x.lk 32
theorem pyl_length (x : Py) : (pyl x).length = 36 := by simp [pyl, bl_length]
def pyv (x : Py) : Array Value := (pyl x).toArray
theorem pyv_size (x : Py) : (pyv x).size = 36 := by simp [pyv, pyl_length]
theorem pyl_one (x : Py) : ∀ u ∈ pyl x, u.oneCell' = true := by
 intro u hu
 simp only [pyl, List.mem_cons] at hu
 rcases hu with rfl | rfl | rfl | rfl | hu
 ·rfl
 ·rfl
 ·rfl
 ·rfl
 ·exact bl_one _ _ u hu
theorem pyv_one (x : Py) : (pyv x).all (·.oneCell') = true := by
 have : (pyv x) = (pyl x).toArray := rfl
 rw [this]
 exact all_oneCell_toArray (pyl_one x)
theorem szP : (Tryz.prog.info? 97).map (·.size) = some 36 := by kernel_rfl
theorem szPr : (Tryz.prog.info? 98).map (·.size) = some 36 := by kernel_rfl
theorem szPv (x : Py) : (Tryz.prog.info? 97).map (·.size) = some (pyv x).size := by rw [pyv_size]; exact szP
theorem szPl (x : Py) : (Tryz.prog.info? 97).map (·.size) = some (pyl x).length := by rw [pyl_length]; exact szP
theorem szPrl (x : Py) : (Tryz.prog.info? 98).map (·.size) = some (pyl x).length := by rw [pyl_length]; exact szPr
/-- What a block that holds a payment gives a walk. -/
structure PBox (w : World) (g : Nat) (x : Py) : Prop where
 c0 : w.cell? ⟨g, 0, none⟩ = some (.int .i64 x.id)
 c1 : w.cell? ⟨g, 1, none⟩ = some (.int .i64 x.fr)
 c2 : w.cell? ⟨g, 2, none⟩ = some (.int .i64 x.am)
 c3 : w.cell? ⟨g, 3, none⟩ = some (.int .i64 x.af)
 lk : w.rangeAt g 4 (bl x.lk 32)
theorem pbox_of {w : World} {g : Nat} {x : Py} {t : TypeId} {fr : Nat × Nat} (h : w.heap[g]? = some (.cells (pyv x) t fr)) : PBox w g x := by
 refine ⟨?_, ?_, ?_, ?_, ?_⟩
 ·rw [cell_of_row w g 0 _ _ _ h]; simp [pyv, pyl]
 ·rw [cell_of_row w g 1 _ _ _ h]; simp [pyv, pyl]
 ·rw [cell_of_row w g 2 _ _ _ h]; simp [pyv, pyl]
 ·rw [cell_of_row w g 3 _ _ _ h]; simp [pyv, pyl]
 ·intro j v hv
  rw [cell_of_row w g (4 + j) _ _ _ h, Nat.add_comm 4 j]
  simpa [pyv, pyl] using hv
/-- What a payment in a row gives a walk. -/
theorem py_cells {w : World} {b off : Nat} {x : Py} (h : w.rangeAt b off (pyl x)) :
  w.cell? ⟨b, off, none⟩ = some (.int .i64 x.id) ∧ w.cell? ⟨b, off + 1, none⟩ = some (.int .i64 x.fr) ∧ w.cell? ⟨b, off + 2, none⟩ = some (.int .i64 x.am) ∧ w.cell? ⟨b, off + 3, none⟩ = some (.int .i64 x.af) ∧ w.rangeAt b (off + 4) (bl x.lk 32) := by
 refine ⟨by simpa using h 0 _ rfl, h 1 _ rfl, h 2 _ rfl, h 3 _ rfl, fun j v hv => ?_⟩
 have := h (j + 4) v (by simpa [pyl] using hv)
 rwa [show off + (j + 4) = off + 4 + j from by omega] at this
/-- n payments lie at an address. -/
structure PyAt (w : World) (ad : Option Addr) (n : Nat) (X : Nat → Py) : Prop where
 lk : ∀ i, i < n → Zb (X i).lk
 at_ : 0 < n → ∃ b off, ad = some ⟨b, off, none⟩ ∧ ∀ i, i < n → w.rangeAt b (off + i * 36) (pyl (X i))
theorem PyAt.nil (w : World) (ad : Option Addr) (X : Nat → Py) : PyAt w ad 0 X := ⟨fun _ h => by omega, fun h => by omega⟩
theorem PyAt.below {w w' : World} {ad : Option Addr} {n : Nat} {X : Nat → Py} (h : PyAt w ad n X) (hb : Below w.heap.size w w') : PyAt w' ad n X := by
 refine ⟨h.lk, fun hn => ?_⟩
 obtain ⟨b, off, e, hr⟩ := h.at_ hn
 exact ⟨b, off, e, fun i hi => range_below (hr i hi) hb⟩

/-- What a hold says. -/
structure Hd where
 id : Int
 am : Int
 n : Nat
 z : Nat → Int
instance : Inhabited Hd := ⟨⟨0, 0, 0, fun _ => 0⟩⟩
/-- Its three cells, the keys at ka. -/
def hdl (x : Hd) (ka : Option Addr) (kc : Nat) : List Value := [.int .i64 x.id, .int .i64 x.am, .slice ka x.n kc]
def hdv (x : Hd) (ka : Option Addr) (kc : Nat) : Array Value := #[.int .i64 x.id, .int .i64 x.am, .slice ka x.n kc]
theorem szH : (Tryz.prog.info? 99).map (·.size) = some 3 := by kernel_rfl
theorem szHr : (Tryz.prog.info? 90).map (·.size) = some 3 := by kernel_rfl
/-- n holds lie at an address. -/
structure HdAt (w : World) (ad : Option Addr) (n : Nat) (X : Nat → Hd) : Prop where
 at_ : 0 < n → ∃ b off, ad = some ⟨b, off, none⟩ ∧ ∀ i, i < n → ∃ ka kc, w.rangeAt b (off + i * 3) (hdl (X i) ka kc) ∧ IsAt w ka (X i).n (X i).z ∧ (ka = none → (X i).n = 0 ∧ kc = 0)
theorem HdAt.nil (w : World) (ad : Option Addr) (X : Nat → Hd) : HdAt w ad 0 X := ⟨fun h => by omega⟩
theorem HdAt.below {w w' : World} {ad : Option Addr} {n : Nat} {X : Nat → Hd} (h : HdAt w ad n X) (hb : Below w.heap.size w w') : HdAt w' ad n X := by
 refine ⟨fun hn => ?_⟩
 obtain ⟨b, off, e, hr⟩ := h.at_ hn
 refine ⟨b, off, e, fun i hi => ?_⟩
 obtain ⟨ka, kc, h1, h2, h3⟩ := hr i hi
 exact ⟨ka, kc, range_below h1 hb, h2.below hb, h3⟩
theorem hd_cells {w : World} {b off : Nat} {x : Hd} {ka : Option Addr} {kc : Nat} (h : w.rangeAt b off (hdl x ka kc)) :
  w.cell? ⟨b, off, none⟩ = some (.int .i64 x.id) ∧ w.cell? ⟨b, off + 1, none⟩ = some (.int .i64 x.am) ∧ w.cell? ⟨b, off + 2, none⟩ = some (.slice ka x.n kc) :=
 ⟨by simpa using h 0 _ rfl, h 1 _ rfl, h 2 _ rfl⟩

/-- What a state says. -/
structure Sv where
 nu : Int
 a : Int
 b : Int
 pn : Nat
 P : Nat → Py
 hn : Nat
 H : Nat → Hd
/-- Where a state's rows lie. -/
structure Pl where
 pa : Option Addr
 pc : Nat
 ha : Option Addr
 hc : Nat
def pl0 : Pl := ⟨none, 0, none, 0⟩
def svv (s : Sv) (p : Pl) : Array Value := #[.int .i64 s.nu, .int .i64 s.a, .int .i64 s.b, .slice p.pa s.pn p.pc, .slice p.ha s.hn p.hc]
theorem szS : (Tryz.prog.info? 45).map (·.size) = some 5 := by kernel_rfl
theorem szSr : (Tryz.prog.info? 32).map (·.size) = some 5 := by kernel_rfl
/-- The rows of a state lie there. -/
structure SvAt (w : World) (s : Sv) (p : Pl) : Prop where
 py : PyAt w p.pa s.pn s.P
 hd : HdAt w p.ha s.hn s.H
 pcap : s.pn ≤ p.pc
 hcap : s.hn ≤ p.hc
 pnil : p.pa = none → s.pn = 0 ∧ p.pc = 0
 hnil : p.ha = none → s.hn = 0 ∧ p.hc = 0
theorem SvAt.below {w w' : World} {s : Sv} {p : Pl} (h : SvAt w s p) (hb : Below w.heap.size w w') : SvAt w' s p :=
 ⟨h.py.below hb, h.hd.below hb, h.pcap, h.hcap, h.pnil, h.hnil⟩
/-- How long a state may be here. -/
structure Sv.Small (s : Sv) : Prop where
 n : s.pn + s.hn ≤ 100
 k : ∀ i, i < s.hn → (s.H i).n ≤ 300

/-- A state that may be. -/
def lastP (X : Nat → Py) (j : Nat) : Int := if j = 0 then -1 else (X (j - 1)).id
theorem lastP_succ (X : Nat → Py) (j : Nat) : lastP X (j + 1) = (X j).id := by simp [lastP]
def lastH (X : Nat → Hd) (j : Nat) : Int := if j = 0 then -1 else (X (j - 1)).id
theorem lastH_succ (X : Nat → Hd) (j : Nat) : lastH X (j + 1) = (X j).id := by simp [lastH]
/-- The key ahead of the key j. -/
def lastK (z : Nat → Int) (j : Nat) : Int := if j = 0 then -1 else z (j - 1)
theorem lastK_succ (z : Nat → Int) (j : Nat) : lastK z (j + 1) = z j := by simp [lastK]
/-- Keys that are parties, ascending. -/
def KOk (z : Nat → Int) (n : Nat) : Prop := ∀ j, j < n → lastK z j < z j ∧ z j < 16
instance (z : Nat → Int) (n : Nat) : Decidable (KOk z n) := inferInstanceAs (Decidable (∀ j, j < n → _))
/-- A payment that may be, but for its ID's lower bound. -/
def POne (x : Py) : Prop := x.id ≤ 4294967296 ∧ (x.fr = 0 ∨ x.fr = 1) ∧ (10 ≤ x.am ∧ x.am ≤ 1125899906842624) ∧ (0 ≤ x.af ∧ x.af ≤ 1099511627776) ∧ hq x.lk nz = false
instance (x : Py) : Decidable (POne x) := inferInstanceAs (Decidable (_ ∧ _))
def PsOk (X : Nat → Py) (n : Nat) : Prop := ∀ j, j < n → lastP X j < (X j).id ∧ POne (X j)
instance (X : Nat → Py) (n : Nat) : Decidable (PsOk X n) := inferInstanceAs (Decidable (∀ j, j < n → _))
def HOne (x : Hd) : Prop := x.id ≤ 4294967296 ∧ (10 ≤ x.am ∧ x.am ≤ 1125899906842624) ∧ KOk x.z x.n ∧ 0 < x.n
instance (x : Hd) : Decidable (HOne x) := inferInstanceAs (Decidable (_ ∧ _))
def HsOk (X : Nat → Hd) (n : Nat) : Prop := ∀ j, j < n → lastH X j < (X j).id ∧ HOne (X j)
instance (X : Nat → Hd) (n : Nat) : Decidable (HsOk X n) := inferInstanceAs (Decidable (∀ j, j < n → _))
def sumP (X : Nat → Py) : Nat → Int
 | 0 => 0
 | j + 1 => sumP X j + (X j).am
def sumH (X : Nat → Hd) : Nat → Int
 | 0 => 0
 | j + 1 => sumH X j + (X j).am
/-- What is in a state together. -/
def tot (s : Sv) : Int := s.a + s.b + sumP s.P s.pn + sumH s.H s.hn
/-- Numbers, sides and how many there are. -/
def SNum (s : Sv) : Prop := (0 ≤ s.nu ∧ s.nu ≤ 1099511627776) ∧ (0 ≤ s.a ∧ s.a ≤ 1125899906842624) ∧ (0 ≤ s.b ∧ s.b ≤ 1125899906842624)
instance (s : Sv) : Decidable (SNum s) := inferInstanceAs (Decidable (_ ∧ _))
def SRows (s : Sv) : Prop := s.pn + s.hn ≤ 8 ∧ PsOk s.P s.pn ∧ HsOk s.H s.hn
instance (s : Sv) : Decidable (SRows s) := inferInstanceAs (Decidable (_ ∧ _))
def SOk (s : Sv) : Prop := SNum s ∧ SRows s ∧ tot s ≤ 1125899906842624
instance (s : Sv) : Decidable (SOk s) := inferInstanceAs (Decidable (_ ∧ _))
def chkE (s : Sv) : Int := if SOk s then 0 else 1
theorem sumP_bd (X : Nat → Py) : ∀ n, PsOk X n → 0 ≤ sumP X n ∧ sumP X n ≤ 1125899906842624 * n
 | 0, _ => by simp [sumP]
 | n + 1, h => by
  have h1 := sumP_bd X n (fun j hj => h j (by omega))
  have h2 := (h n (by omega)).2.2.2.1
  simp only [sumP]
  omega
theorem sumH_bd (X : Nat → Hd) : ∀ n, HsOk X n → 0 ≤ sumH X n ∧ sumH X n ≤ 1125899906842624 * n
 | 0, _ => by simp [sumH]
 | n + 1, h => by
  have h1 := sumH_bd X n (fun j hj => h j (by omega))
  have h2 := (h n (by omega)).2.2.1
  simp only [sumH]
  omega
end Go.Proofs.YtjnepkggdkccaaaGreatDoor
/- state.Check and what it calls. -/
namespace Go.Proofs.YtjnepkggdkccaaaGreatDoor
open Go.RowKit

theorem within_any (n l m : Int) (w : World) :
  Calls Tryz.prog 59 #[.int .i64 n, .int .i64 l, .int .i64 m] w fun e w' => e = .returned (.bool (decide (l ≤ n ∧ n ≤ m))) ∧ w' = w := by
 by_cases h : l ≤ n
 ·go_enter Tryz.func59, Tryz.ntmps59
  go_wp2
  go_ret
  simp [h]
 ·have e : decide (l ≤ n ∧ n ≤ m) = false := by simp; omega
  rw [e]
  go_enter Tryz.func59, Tryz.ntmps59
  go_wp2
  go_ret
  simp
theorem isSide_any (n : Int) (w : World) :
  Calls Tryz.prog 91 #[.int .i64 n] w fun e w' => e = .returned (.bool (decide (n = 0 ∨ n = 1))) ∧ w' = w := by
 by_cases h : n = 0
 ·subst h
  go_enter Tryz.func91, Tryz.ntmps91
  go_wp2
  go_ret
  simp
 ·have e : decide (n = 0 ∨ n = 1) = decide (n = 1) := by simp [h]
  have e0 : (n == 0) = false := by simp [h]
  rw [e]
  go_enter Tryz.func91, Tryz.ntmps91
  go_wp2
  go_ret
  exact ⟨rfl, rfl⟩
theorem slots_any (s : Sv) (p : Pl) (w : World) (hs : s.pn + s.hn ≤ 1000000) :
  Calls Tryz.prog 60 #[.agg (svv s p)] w fun e w' => e = .returned (.int .i64 ((s.pn + s.hn : Nat) : Int)) ∧ Below w.heap.size w w' := by
 unfold svv
 have hb0 : Below w.heap.size w (w.alloc (.cells (svv s p) 45)) := (Below.refl _ w).alloc (Nat.le_refl _) _
 unfold svv at hb0
 go_enter Tryz.func60, Tryz.ntmps60
 go_wp2
 go_ret
 exact ⟨by go_num, hb0⟩

set_option maxHeartbeats 800000 in
theorem mayHold_any (ka : Option Addr) (n kc : Nat) (z : Nat → Int) (w : World) (h : IsAt w ka n z) (hn : n ≤ 1000000) :
  Calls Tryz.prog 92 #[.slice ka n kc] w fun e w' => e = .returned (.bool (decide (KOk z n ∧ 0 < n))) ∧ Below w.heap.size w w' := by
 have HI : Hid (IsAt w ka n z) := h
 have hb0 := Below.refl w.heap.size w
 clear h
 go_enter Tryz.func92, Tryz.ntmps92
 go_wp2
 go_loopw [3, 5, 8] (fun lv kv iv wr => ∃ i : Nat, i ≤ n ∧ lv = .int .i64 (lastK z i) ∧ iv = .int .i64 i ∧ KOk z i ∧ Below w.heap.size w wr) (fun _ _ iv _ => n + 1 - (intOf iv).toNat)
 case atStart => exact ⟨0, by omega, rfl, rfl, fun j hj => by omega, hb0⟩
 case round =>
  clear hb0
  obtain ⟨i, hi, rfl, rfl, hk, hb⟩ := hrel
  have HK : Hid (KOk z i) := hk
  clear hk
  by_cases hlt : i < n
  ·have hlt' : (i : Int) < n := by omega
   obtain ⟨b, off, rfl, hc⟩ := HI.out (by omega)
   have hci : wr.cell? ⟨b, off + i, none⟩ = some (.int .i64 (z i)) := by
    have := hc i hlt
    rw [hb.cell (p := ⟨b, off + i, none⟩) (World.block_lt_of_cell? w ⟨b, off + i, none⟩ this)]; exact this
   clear hc
   by_cases h1 : lastK z i < z i
   ·have h1' : ¬ z i ≤ lastK z i := by omega
    by_cases h2 : z i < 16
    ·have h2' : ¬ 16 ≤ z i := by omega
     have HN : Hid (KOk z (i + 1)) := fun j hj => by
      by_cases e : j = i
      ·subst e; exact ⟨h1, h2⟩
      ·exact HK.out j (by omega)
     have e1 := lastK_succ z i
     generalize lastK z i = q at *
     go_wp2
     go_roundw
     case rel => exact ⟨i + 1, by omega, by rw [e1], by go_num, HN.out, hb⟩
     case measure => simp [intOf]; omega
    ·have h2' : 16 ≤ z i := by omega
     have HN : Hid (¬ KOk z n) := fun hk => h2 (hk i hlt).2
     generalize lastK z i = q at *
     go_wp2
     go_ret
     exact ⟨by simp [HN.out], hb⟩
   ·have h1' : z i ≤ lastK z i := by omega
    have HN : Hid (¬ KOk z n) := fun hk => h1 (hk i hlt).1
    generalize lastK z i = q at *
    go_wp2
    go_ret
    exact ⟨by simp [HN.out], hb⟩
  ·obtain rfl : i = n := by omega
   have hnn : ¬ ((i : Int) < i) := by omega
   have hk := HK.out
   go_wp2
   go_ret
   exact ⟨by simp, hb⟩

/-- A hold of noughts, and a payment. -/
def p0 : Py := ⟨0, 0, 0, 0, nz⟩
theorem run_allocP (w : World) : (Instr.alloc 97 true (.tuple #[])).run Tryz.prog w = .ok (.pointer (some ⟨w.heap.size, 0, none⟩)) (w.alloc (.cells (pyv p0) 97)) := by kernel_rfl
section
variable {ops : Array Oper} {rest : List Oper} {o : Oper} {a : Act} {w : World} {Q : Exit → Act → World → Prop}
theorem wpList_allocP (hgd : o.guard = none) (ho : o.op = .alloc 97)
  (h : wpList Tryz.prog ops Q rest (a.put o.dst (.pointer (some ⟨w.heap.size, 0, none⟩))) (w.alloc (.cells (pyv p0) 97))) : wpList Tryz.prog ops Q (o :: rest) a w := by
 refine wpList_plain hgd fun K hK => ?_
 unfold Oper.wp execOp
 simp only [ho, Sem.run_bind, run_allocP, Result.andThen]
 exact hK _ _ h
/-- A whole payment stored into a variable of its own. -/
theorem wpList_storeP (T : TypeId) (hT : (Tryz.prog.info? T).map (·.size) = some 36) (hgd : o.guard = none) (x y : Operand) (ho : o.op = .store T x y) (g : Nat) (hx : a.eval x = .pointer (some ⟨g, 0, none⟩)) (v u : Py) (t : TypeId) (hy : a.eval y = .agg (pyv v)) (hg : w.heap[g]? = some (.cells (pyv u) t (0, 0)))
  (h : ∀ w', w'.heap[g]? = some (.cells (pyv v) t (0, 0)) → Frm [g] w w' → wpList Tryz.prog ops Q rest (a.put o.dst undef) w') : wpList Tryz.prog ops Q (o :: rest) a w := by
 refine wpList_store_mid hgd T x y ho g 0 (pyv v) hx hy ?_ (by rw [pyv_size]; exact hT) (pyv_one v) (h _ ?_ (setCells_frm g _ 0 w))
 ·intro j hj
  rw [pyv_size] at hj
  refine ⟨?_, ?_⟩
  ·rw [Nat.zero_add, cell_of_row w g j _ t _ hg]
   simp [pyv_size, hj]
  ·rw [Nat.zero_add]; exact frozen_of_row w g j _ t hg
 ·have := setCells_at g (pyv v).toList 0 w [] (pyv u).toList t (by simpa using hg) rfl (by simp [pyv_size])
  rw [this]
  simp [pyv_size, List.drop_eq_nil_of_le]
end
theorem frm_new {w w' : World} {o : Obj} (h : Frm [w.heap.size] (w.alloc o) w') : Below w.heap.size w w' :=
 ((Below.refl _ w).alloc (Nat.le_refl _) o).trans (h.below (by simp) (by simp))
theorem szHl (z : Nat → Int) : (Tryz.prog.info? 23).map (·.size) = some (bl z 32).length := by rw [bl_length]; exact hsz
theorem wpList_wanted {P : Program} {ops : Array Oper} {rest : List Oper} {o : Oper} {a : Act} {w : World} {Q : Exit → Act → World → Prop} (hw : Region.wanted o (yielded ops a.tmps) = true) (h : ∀ K : Act → World → Prop, (∀ a w, wpList P ops Q rest a w → K a w) → o.wp P a w K Q) : wpList P ops Q (o :: rest) a w :=
 wpList_step fun K hK => by rw [if_pos hw]; exact h K hK
theorem build_H (w : World) : (Instr.build 23 #[]).run Tryz.prog w = .ok (.agg (hv nz)) w := by kernel_rfl
section
variable {ops : Array Oper} {rest : List Oper} {o : Oper} {a : Act} {w : World} {Q : Exit → Act → World → Prop}
/-- A sum loaded, guarded or not. -/
theorem wpList_loadHG (hw : Region.wanted o (yielded ops a.tmps) = true) (x : Operand) (ho : o.op = .load 23 x) (b q : Nat) (hx : a.eval x = .pointer (some ⟨b, q, none⟩)) (z : Nat → Int) (hc : w.rangeAt b q (bl z 32))
  (h : wpList Tryz.prog ops Q rest (a.put o.dst (.agg (hv z))) w) : wpList Tryz.prog ops Q (o :: rest) a w :=
 wpList_wanted hw fun _ hK => wp_load_mid 23 x ho b q hx (bl z 32) _ hc Tryz.underlying23 rfl (szHl z) (hK _ _ h)
/-- The zero sum, guarded or not. -/
theorem wpList_buildHG (hw : Region.wanted o (yielded ops a.tmps) = true) (ho : o.op = .build 23 #[])
  (h : wpList Tryz.prog ops Q rest (a.put o.dst (.agg (hv nz))) w) : wpList Tryz.prog ops Q (o :: rest) a w :=
 wpList_wanted hw fun K hK => by
  unfold Oper.wp execOp
  simp only [ho, List.map_toArray, List.map_nil, Sem.run_bind, build_H, Result.andThen]
  exact hK _ _ h
theorem guardHs : Tryz.prog.eqGuardType Tryz.prog.depth 23 = false := by kernel_rfl
/-- Two sums held against each other, guarded or not. -/
theorem wpList_eqHG (hw : Region.wanted o (yielded ops a.tmps) = true) (x y : Operand) (ho : o.op = .binOp .eql 23 x y 23) (z u : Nat → Int) (hx : a.eval x = .agg (hv z)) (hy : a.eval y = .agg (hv u)) (hz : Zb z) (hu : Zb u)
  (h : wpList Tryz.prog ops Q rest (a.put o.dst (.bool (hq z u))) w) : wpList Tryz.prog ops Q (o :: rest) a w :=
 wpList_wanted hw fun K hK => by
  have hr : (execOp a.eval o).run Tryz.prog w = .ok (.value (.bool (hq z u))) w := by
   unfold execOp
   simp only [ho, hx, hy, Sem.run_bind, run_eqGuard_agg w .eql 23 x y _ _ guardHs, eql_hv hz hu, Result.andThen_ok, Sem.run_pure]
  unfold Oper.wp
  rw [hr]
  exact hK _ _ h
end
end Go.Proofs.YtjnepkggdkccaaaGreatDoor
/- The document's within, payMay and holdMay. -/
namespace Go.Proofs.YtjnepkggdkccaaaGreatDoor
open Go.RowKit

theorem rwithin_any (n l m : Int) (w : World) :
  Calls Tryz.prog 64 #[.int .i64 n, .int .i64 l, .int .i64 m] w fun e w' => e = .returned (.bool (decide (l ≤ n ∧ n ≤ m))) ∧ w' = w := by
 by_cases h : l ≤ n
 ·go_enter Tryz.func64, Tryz.ntmps64
  go_wp2
  go_ret
  simp [h]
 ·have e : decide (l ≤ n ∧ n ≤ m) = false := by simp; omega
  rw [e]
  go_enter Tryz.func64, Tryz.ntmps64
  go_wp2
  go_ret
  simp
/-- A payment that may be, by the document's words. -/
def PMay (x : Py) : Prop := 0 ≤ x.id ∧ POne x
instance (x : Py) : Decidable (PMay x) := inferInstanceAs (Decidable (_ ∧ _))
section
variable {ops : Array Oper} {rest : List Oper} {o : Oper} {a : Act} {w : World} {Q : Exit → Act → World → Prop}
/-- Two sums told apart, guarded or not. -/
theorem wpList_neHG (hw : Region.wanted o (yielded ops a.tmps) = true) (x y : Operand) (ho : o.op = .binOp .neq 23 x y 23) (z u : Nat → Int) (hx : a.eval x = .agg (hv z)) (hy : a.eval y = .agg (hv u)) (hz : Zb z) (hu : Zb u)
  (h : wpList Tryz.prog ops Q rest (a.put o.dst (.bool (!hq z u))) w) : wpList Tryz.prog ops Q (o :: rest) a w :=
 wpList_wanted hw fun K hK => by
  have e0 := eql_hv hz hu w
  have e1 : (binOp .neq 23 (.agg (hv z)) (.agg (hv u))).run Tryz.prog w = .ok (.bool (!hq z u)) w := by
   simp only [binOp, Sem.run_bind] at e0 ⊢
   revert e0
   cases hh : Sem.run Tryz.prog (Op.equal 23 (.agg (hv z)) (.agg (hv u))) w with
   | ok b w2 =>
    simp [Result.andThen]
   | halt hx w2 => simp [Result.andThen]
  have hr : (execOp a.eval o).run Tryz.prog w = .ok (.value (.bool (!hq z u))) w := by
   unfold execOp
   simp only [ho, hx, hy, Sem.run_bind, run_eqGuard_agg w .neq 23 x y _ _ guardHs, e1, Result.andThen_ok, Sem.run_pure]
  unfold Oper.wp
  rw [hr]
  exact hK _ _ h
end
set_option maxRecDepth 100000 in
set_option maxHeartbeats 3200000 in
theorem payMay_any (x : Py) (w : World) (hz : Zb x.lk) :
  Calls Tryz.prog 65 #[.agg (pyv x)] w fun e w' => e = .returned (.bool (decide (PMay x))) ∧ Below w.heap.size w w' := by
 have HZ : Hid (Zb x.lk) := hz
 have hb0 : Below w.heap.size w (w.alloc (.cells (pyv x) 98)) := (Below.refl _ w).alloc (Nat.le_refl _) _
 obtain ⟨c0, c1, c2, c3, cl⟩ := pbox_of (heap_alloc_new w (.cells (pyv x) 98))
 have HC : Hid ((w.alloc (.cells (pyv x) 98)).rangeAt w.heap.size 4 (bl x.lk 32)) := cl
 have HB : Hid (Below w.heap.size w (w.alloc (.cells (pyv x) 98))) := hb0
 clear cl hz hb0
 by_cases h0 : 0 ≤ x.id ∧ x.id ≤ 4294967296
 ·have hw0 := rwithin_any x.id 0 4294967296
  rw [decide_eq_true h0] at hw0
  by_cases h1 : 0 ≤ x.fr ∧ x.fr ≤ 1
  ·have hw1 := rwithin_any x.fr 0 1
   rw [decide_eq_true h1] at hw1
   by_cases h2 : 10 ≤ x.am ∧ x.am ≤ 1125899906842624
   ·have hw2 := rwithin_any x.am 10 1125899906842624
    rw [decide_eq_true h2] at hw2
    by_cases h3 : 0 ≤ x.af ∧ x.af ≤ 1099511627776
    ·have hw3 := rwithin_any x.af 0 1099511627776
     rw [decide_eq_true h3] at hw3
     by_cases h4 : hq x.lk nz = false
     ·have HE : Hid (decide (PMay x) = true) := decide_eq_true ⟨h0.1, h0.2, by omega, h2, h3, h4⟩
      have h4' : hq x.lk nz = false := h4
      clear h0 h1 h2 h3 h4
      go_enter Tryz.func65, Tryz.ntmps65
      go_wp2_with (first | (refine Go.Great.wpList_boxTo rfl _ _ rfl _ rfl _ rfl (pyv x) rfl ?_) | fail)
      generalize w.alloc (.cells (pyv x) 98) = W0 at *
      refine (hw0 _).mono ?_
      rintro e v0 ⟨rfl, rfl⟩
      clear hw0
      go_wp2_with fail
      refine (hw1 _).mono ?_
      rintro e v1 ⟨rfl, rfl⟩
      clear hw1
      go_wp2_with fail
      refine (hw2 _).mono ?_
      rintro e v2 ⟨rfl, rfl⟩
      clear hw2
      go_wp2_with fail
      refine (hw3 _).mono ?_
      rintro e v3 ⟨rfl, rfl⟩
      clear hw3
      go_wp2_with (first | (refine wpList_loadHG (by rfl) _ rfl w.heap.size 4 rfl x.lk HC.out ?_) | (refine wpList_buildHG (by rfl) rfl ?_) | (refine wpList_neHG (by rfl) _ _ rfl x.lk nz rfl rfl HZ.out nz_bd ?_) | fail)
      go_ret
      exact ⟨by rw [HE.out]; rfl, HB.out⟩
     ·have HE : Hid (decide (PMay x) = false) := decide_eq_false (fun h => h4 h.2.2.2.2.2)
      have h4' : hq x.lk nz = true := by simpa using h4
      clear h0 h1 h2 h3 h4
      go_enter Tryz.func65, Tryz.ntmps65
      go_wp2_with (first | (refine Go.Great.wpList_boxTo rfl _ _ rfl _ rfl _ rfl (pyv x) rfl ?_) | fail)
      generalize w.alloc (.cells (pyv x) 98) = W0 at *
      refine (hw0 _).mono ?_
      rintro e v0 ⟨rfl, rfl⟩
      clear hw0
      go_wp2_with fail
      refine (hw1 _).mono ?_
      rintro e v1 ⟨rfl, rfl⟩
      clear hw1
      go_wp2_with fail
      refine (hw2 _).mono ?_
      rintro e v2 ⟨rfl, rfl⟩
      clear hw2
      go_wp2_with fail
      refine (hw3 _).mono ?_
      rintro e v3 ⟨rfl, rfl⟩
      clear hw3
      go_wp2_with (first | (refine wpList_loadHG (by rfl) _ rfl w.heap.size 4 rfl x.lk HC.out ?_) | (refine wpList_buildHG (by rfl) rfl ?_) | (refine wpList_neHG (by rfl) _ _ rfl x.lk nz rfl rfl HZ.out nz_bd ?_) | fail)
      go_ret
      exact ⟨by rw [HE.out]; rfl, HB.out⟩
    ·have hw3 := rwithin_any x.af 0 1099511627776
     rw [decide_eq_false h3] at hw3
     have HE : Hid (decide (PMay x) = false) := decide_eq_false (fun h => h3 h.2.2.2.2.1)
     clear h0 h1 h2 h3
     go_enter Tryz.func65, Tryz.ntmps65
     go_wp2_with (first | (refine Go.Great.wpList_boxTo rfl _ _ rfl _ rfl _ rfl (pyv x) rfl ?_) | fail)
     generalize w.alloc (.cells (pyv x) 98) = W0 at *
     refine (hw0 _).mono ?_
     rintro e v0 ⟨rfl, rfl⟩
     clear hw0
     go_wp2_with fail
     refine (hw1 _).mono ?_
     rintro e v1 ⟨rfl, rfl⟩
     clear hw1
     go_wp2_with fail
     refine (hw2 _).mono ?_
     rintro e v2 ⟨rfl, rfl⟩
     clear hw2
     go_wp2_with fail
     refine (hw3 _).mono ?_
     rintro e v3 ⟨rfl, rfl⟩
     clear hw3
     go_wp2
     go_ret
     exact ⟨by rw [HE.out]; rfl, HB.out⟩
   ·have hw2 := rwithin_any x.am 10 1125899906842624
    rw [decide_eq_false h2] at hw2
    have HE : Hid (decide (PMay x) = false) := decide_eq_false (fun h => h2 h.2.2.2.1)
    clear h0 h1 h2
    go_enter Tryz.func65, Tryz.ntmps65
    go_wp2_with (first | (refine Go.Great.wpList_boxTo rfl _ _ rfl _ rfl _ rfl (pyv x) rfl ?_) | fail)
    generalize w.alloc (.cells (pyv x) 98) = W0 at *
    refine (hw0 _).mono ?_
    rintro e v0 ⟨rfl, rfl⟩
    clear hw0
    go_wp2_with fail
    refine (hw1 _).mono ?_
    rintro e v1 ⟨rfl, rfl⟩
    clear hw1
    go_wp2_with fail
    refine (hw2 _).mono ?_
    rintro e v2 ⟨rfl, rfl⟩
    clear hw2
    go_wp2
    go_ret
    exact ⟨by rw [HE.out]; rfl, HB.out⟩
  ·have hw1 := rwithin_any x.fr 0 1
   rw [decide_eq_false h1] at hw1
   have HE : Hid (decide (PMay x) = false) := decide_eq_false (fun h => h1 (by have := h.2.2.1; omega))
   clear h0 h1
   go_enter Tryz.func65, Tryz.ntmps65
   go_wp2_with (first | (refine Go.Great.wpList_boxTo rfl _ _ rfl _ rfl _ rfl (pyv x) rfl ?_) | fail)
   generalize w.alloc (.cells (pyv x) 98) = W0 at *
   refine (hw0 _).mono ?_
   rintro e v0 ⟨rfl, rfl⟩
   clear hw0
   go_wp2_with fail
   refine (hw1 _).mono ?_
   rintro e v1 ⟨rfl, rfl⟩
   clear hw1
   go_wp2
   go_ret
   exact ⟨by rw [HE.out]; rfl, HB.out⟩
 ·have hw0 := rwithin_any x.id 0 4294967296
  rw [decide_eq_false h0] at hw0
  have HE : Hid (decide (PMay x) = false) := decide_eq_false (fun h => h0 ⟨h.1, h.2.1⟩)
  clear h0
  go_enter Tryz.func65, Tryz.ntmps65
  go_wp2_with (first | (refine Go.Great.wpList_boxTo rfl _ _ rfl _ rfl _ rfl (pyv x) rfl ?_) | fail)
  generalize w.alloc (.cells (pyv x) 98) = W0 at *
  refine (hw0 _).mono ?_
  rintro e v0 ⟨rfl, rfl⟩
  clear hw0
  go_wp2
  go_ret
  exact ⟨by rw [HE.out]; rfl, HB.out⟩
end Go.Proofs.YtjnepkggdkccaaaGreatDoor
