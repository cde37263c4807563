/- What is kept outside of some blocks; sums of 32 bytes kept whole; errors by their numbers. (Parts of Kit, Clone and HashKit, without enc.) -/
import Derived.Test.YtoefgfiabfkfaaaGreatDoorProg
import Derived.WalkKit
import Derived.WalkSpells
import Derived.WalkLawsBesides
import Derived.Laws.CopyOwn
import Derived.Deep.MidRow
import Derived.Stop.BytesEq
import Derived.Great.Ranges
import Derived.Deep.RegionHeld3
import Derived.LaidEql
import Derived.Laws.Externs
import Derived.RowKitTokens
import Derived.OrdersHeld
namespace Go.Proofs.YtoefgfiabfkfaaaGreatDoor
open Go.RowKit

def errV (e : Int) : Value := if e = 0 then .nilIface else .iface 72 (.int .i64 e)
theorem errV_ne {e : Int} (h : e ≠ 0) : errV e = .iface 72 (.int .i64 e) := if_neg h
/-- The n bytes z as cells. -/
def bl (z : Nat → Int) (n : Nat) : List Value := (List.range n).map fun j => .int .u8 (z j)
theorem bl_length (z : Nat → Int) (n : Nat) : (bl z n).length = n := by simp [bl]
theorem bl_get {z : Nat → Int} {n j : Nat} {u : Value} (h : (bl z n)[j]? = some u) : j < n ∧ u = .int .u8 (z j) := by
 simp only [bl, List.getElem?_map, Option.map_eq_some_iff] at h
 obtain ⟨a, h1, h2⟩ := h
 have := List.getElem?_eq_some_iff.1 h1
 obtain ⟨h3, h4⟩ := this
 simp at h3 h4
 exact ⟨h3, by rw [← h2, ← h4]⟩
theorem bl_at {z : Nat → Int} {n j : Nat} (h : j < n) : (bl z n)[j]? = some (.int .u8 (z j)) := by
 simp [bl, List.getElem?_map, List.getElem?_range h]
theorem bl_one (z : Nat → Int) (n : Nat) : ∀ u ∈ bl z n, u.oneCell' = true := by
 intro u hu
 simp only [bl, List.mem_map] at hu
 obtain ⟨_, _, rfl⟩ := hu
 rfl
/-- All blocks that were there, but those of S, are as they were; the streams too. -/
structure Frm (S : List Nat) (w w' : World) : Prop where
 os : w'.os = w.os
 tape : w'.tape = w.tape
 output : w'.output = w.output
 size : w.heap.size ≤ w'.heap.size
 block : ∀ k, k < w.heap.size → k ∉ S → w'.heap[k]? = w.heap[k]?

theorem Frm.refl (S : List Nat) (w : World) : Frm S w w := ⟨rfl, rfl, rfl, Nat.le_refl _, fun _ _ _ => rfl⟩
theorem Frm.trans {S : List Nat} {a b c : World} (h : Frm S a b) (k : Frm S b c) : Frm S a c :=
 ⟨k.os.trans h.os, k.tape.trans h.tape, k.output.trans h.output, Nat.le_trans h.size k.size, fun i hi hn => (k.block i (Nat.lt_of_lt_of_le hi h.size) hn).trans (h.block i hi hn)⟩
theorem Frm.mono {S T : List Nat} {a b : World} (h : Frm S a b) (hs : ∀ k, k ∈ S → k ∈ T) : Frm T a b :=
 ⟨h.os, h.tape, h.output, h.size, fun i hi hn => h.block i hi (fun e => hn (hs i e))⟩
/-- Blocks that were not there yet may be left out. -/
theorem Frm.old {S T : List Nat} {a b : World} (h : Frm S a b) (hs : ∀ k, k ∈ S → k < a.heap.size → k ∈ T) : Frm T a b :=
 ⟨h.os, h.tape, h.output, h.size, fun i hi hn => h.block i hi (fun e => hn (hs i e hi))⟩
theorem Frm.drew {S : List Nat} {a b : World} (h : Frm S a b) : Frm S a b.drew := ⟨h.os, h.tape, h.output, h.size, h.block⟩
theorem Frm.alloc {S : List Nat} {a b : World} (h : Frm S a b) (o : Obj) : Frm S a (b.alloc o) :=
 h.trans ⟨rfl, rfl, rfl, by simp, fun k hk _ => Below.heap_alloc _ _ _ hk⟩
theorem Frm.setCell {S : List Nat} {a b : World} (h : Frm S a b) (p : Addr) (u : Value) (hp : p.block ∈ S) : Frm S a (b.setCell p u) :=
 h.trans ⟨rfl, rfl, rfl, by simp [World.setCell], fun k _ hn => Below.heap_setCell _ _ _ _ (fun e => hn (by rw [e]; exact hp))⟩
theorem Frm.grown {S : List Nat} {a b c : World} {row : Option Nat} (h : Frm S a b) (hg : b.grownBy c row) (hr : ∀ k, row = some k → k ∈ S) : Frm S a c :=
 h.trans ⟨hg.os, hg.tape, hg.output, hg.size, fun k hk hn => hg.block k hk (fun e => hn (hr k e.symm))⟩
theorem Frm.below {S : List Nat} {a b : World} {B : Nat} (h : Frm S a b) (hB : B ≤ a.heap.size) (hs : ∀ k, k ∈ S → B ≤ k) : Below B a b :=
 ⟨h.os, h.tape, h.output, h.size, fun k hk => h.block k (by omega) (fun e => by have := hs k e; omega)⟩
theorem Frm.ofBelow {S : List Nat} {a b : World} (h : Below a.heap.size a b) : Frm S a b := ⟨h.os, h.tape, h.output, h.size, fun k hk _ => h.block k hk⟩
theorem Frm.heap {S : List Nat} {a b : World} (h : Frm S a b) {k : Nat} {o : Obj} (hk : a.heap[k]? = some o) (hn : k ∉ S) : b.heap[k]? = some o := by
 rw [h.block k (lt_of_block hk) hn]; exact hk


section
variable {w : World} {b : Nat} {u v x : Value} {t : TypeId}
end

/-- A sum's 32 cells. -/
def hv (z : Nat → Int) : Array Value := (bl z 32).toArray
theorem hv_list (z : Nat → Int) : (hv z).toList = bl z 32 := by simp [hv]
theorem hsz : (Tryz.prog.info? 28).map (·.size) = some 32 := by kernel_rfl

/-- No byte but 0. -/
def nz : Nat → Int := fun _ => 0

section
variable {ops : Array Oper} {rest : List Oper} {o : Oper} {a : Act} {w : World} {Q : Exit → Act → World → Prop}



theorem setCells_at (g : Nat) : ∀ (vs : List Value) (off : Nat) (w : World) (pre post : List Value) (t : TypeId), w.heap[g]? = some (.cells (pre ++ post).toArray t (0, 0)) → pre.length = off → vs.length ≤ post.length →
  (w.setCells g off vs).heap[g]? = some (.cells (pre ++ vs ++ post.drop vs.length).toArray t (0, 0))
 | [], _, w, pre, post, t, h, _, _ => by simpa [World.setCells] using h
 | v :: r, off, w, pre, p :: post, t, h, hp, hl => by
  rw [World.setCells]
  have h1 : (w.setCell ⟨g, off, none⟩ v).heap[g]? = some (.cells ((pre ++ [v]) ++ post).toArray t (0, 0)) := by
   rw [heap_setCell_same w g off _ t v h]
   congr 2
   apply Array.toList_inj.1
   simp [← hp]
  have := setCells_at g r (off + 1) _ (pre ++ [v]) post t h1 (by simp [hp]) (by simpa using hl)
  simpa using this
 | v :: r, off, w, pre, [], t, h, hp, hl => by simp at hl
theorem setCells_frm (g : Nat) : ∀ (vs : List Value) (off : Nat) (w : World), Frm [g] w (w.setCells g off vs)
 | [], _, w => Frm.refl _ w
 | v :: r, off, w => ((Frm.refl [g] w).setCell ⟨g, off, none⟩ v (by simp)).trans (setCells_frm g r (off + 1) _)

end
def ub (z : Nat → Int) : List UInt8 := (List.range 32).map fun j => UInt8.ofNat (z j).toNat
theorem hv_ub {z : Nat → Int} (hz : ∀ j, j < 32 → 0 ≤ z j ∧ z j ≤ 255) : hv z = ((ub z).map Extern.Stop.cell).toArray := by
 unfold hv bl ub
 congr 1
 rw [List.map_map]
 apply List.map_congr_left
 intro j hj
 have := hz j (by simpa using hj)
 simp [Extern.Stop.cell]
 omega
/-- Whether two sums are the same. -/
def hq (z y : Nat → Int) : Bool := ub z == ub y
theorem hsz1 (w : World) : (sizeOf 5).run Tryz.prog w = .ok 1 w := by kernel_rfl
theorem eql_hv {z y : Nat → Int} (hz : ∀ j, j < 32 → 0 ≤ z j ∧ z j ≤ 255) (hy : ∀ j, j < 32 → 0 ≤ y j ∧ y j ≤ 255) (w : World) :
  (binOp .eql 28 (.agg (hv z)) (.agg (hv y))).run Tryz.prog w = .ok (.bool (hq z y)) w := by
 rw [hv_ub hz, hv_ub hy]
 exact run_eql_bytes w 28 5 32 Tryz.underlying28 Tryz.underlying5 hsz1 (ub z) (ub y) (by simp [ub]) (by simp [ub])
theorem nz_bd : ∀ j, j < 32 → 0 ≤ nz j ∧ nz j ≤ 255 := fun _ _ => by simp [nz]

theorem Below.transS {w w1 w2 : World} (h : Below w.heap.size w w1) (k : Below w1.heap.size w1 w2) : Below w.heap.size w w2 := h.trans (k.mono h.size)
theorem range_below {W w : World} {b off : Nat} {vs : List Value} (h : W.rangeAt b off vs) (hb : Below W.heap.size W w) : w.rangeAt b off vs := by
 intro j v hv
 have h1 := h j v hv
 have hlt : b < W.heap.size := World.block_lt_of_cell? W ⟨b, off + j, none⟩ h1
 rw [hb.cell (p := ⟨b, off + j, none⟩) hlt]; exact h1
theorem wpX {P : Program} {md : Region.Mode} {ops : Array Oper} {Q : Exit → Act → World → Prop} {S : World → Prop} (i : Nat) (oi : Oper) {n : Nat} {l : Array Bool} {a : Act} {w : World} (hi : ops[i]? = some oi) (h : wpAnyH P md ops Q S n (l.setIfInBounds i true) (a.put oi.dst undef) w) (hw : Region.wanted oi (yielded ops a.tmps) = false := by rfl) (hs : (Region.noSelect ops && Region.free md ops l i && (Region.ready md ops l).contains i) = true := by kernel_rfl) (hQ : ∀ c a w, Q (.panic c) (a.put oi.dst undef) w → Q (.panic c) a w := by exact fun _ _ _ h => h) (hS : S w := by assumption) : wpAnyH P md ops Q S (n + 1) l a w := by
 simp only [Bool.and_eq_true] at hs
 exact wpAnyH_take hi hs.1.1 hs.1.2 hs.2 hQ (Or.inr ⟨hw, rfl⟩) hS h
theorem wpV {P : Program} {md : Region.Mode} {ops : Array Oper} {Q : Exit → Act → World → Prop} {S : World → Prop} (i : Nat) (oi : Oper) {v : Value} {n : Nat} {l : Array Bool} {a : Act} {w : World} (hi : ops[i]? = some oi) (h : wpAnyH P md ops Q S n (l.setIfInBounds i true) (a.put oi.dst v) w) (hy : ∀ w, S w → (execOp a.eval oi).run P w = .ok (.value v) w := by intro wz hSw; (try dsimp only at hSw); go_simp; (try with_reducible rfl)) (hw : Region.wanted oi (yielded ops a.tmps) = true := by rfl) (hs : (Region.noSelect ops && Region.free md ops l i && (Region.ready md ops l).contains i) = true := by kernel_rfl) (hQ : ∀ c a w, Q (.panic c) (a.put oi.dst v) w → Q (.panic c) a w := by exact fun _ _ _ h => h) (hS : S w := by assumption) : wpAnyH P md ops Q S (n + 1) l a w := by
 simp only [Bool.and_eq_true] at hs
 exact wpAnyH_take hi hs.1.1 hs.1.2 hs.2 hQ (Or.inl ⟨hw, hy⟩) hS h
theorem wpU {P : Program} {md : Region.Mode} {ops : Array Oper} {Q : Exit → Act → World → Prop} {S : World → Prop} (i : Nat) (oi : Oper) {v : Value} {n : Nat} {l : Array Bool} {a : Act} {w : World} (hi : ops[i]? = some oi) (hy : ∀ w, S w → (execOp a.eval oi).run P w = .ok (.value v) w) (h : wpAnyH P md ops Q S n (l.setIfInBounds i true) (a.put oi.dst v) w) (hw : Region.wanted oi (yielded ops a.tmps) = true := by rfl) (hs : (Region.noSelect ops && Region.free md ops l i && (Region.ready md ops l).contains i) = true := by kernel_rfl) (hQ : ∀ c a w, Q (.panic c) (a.put oi.dst v) w → Q (.panic c) a w := by exact fun _ _ _ h => h) (hS : S w := by assumption) : wpAnyH P md ops Q S (n + 1) l a w := by
 simp only [Bool.and_eq_true] at hs
 exact wpAnyH_take hi hs.1.1 hs.1.2 hs.2 hQ (Or.inl ⟨hw, hy⟩) hS h
theorem sqA {α : Type} {i : Nat} {a : α} {xs : List α} : xs.toArray.setIfInBounds i a = (xs.set i a).toArray := List.setIfInBounds_toArray _ _ _
theorem sqB {α : Type} {a b : α} {xs : List α} : (a :: xs).set 0 b = b :: xs := List.set_cons_zero
theorem sqC {α : Type} {a b : α} {n : Nat} {xs : List α} : (a :: xs).set (n + 1) b = a :: xs.set n b := List.set_cons_succ
theorem wpT {P : Program} {md : Region.Mode} {ops : Array Oper} {Q : Exit → Act → World → Prop} {S : World → Prop} {i : Nat} {oi : Oper} {v : Value} {n : Nat} {l : Array Bool} {a : Act} {w : World} (hi : ops[i]? = some oi) (hs : (Region.noSelect ops && Region.free md ops l i && (Region.ready md ops l).contains i) = true) (hQ : ∀ c a w, Q (.panic c) (a.put oi.dst v) w → Q (.panic c) a w) (hy : YieldsIf P ops S oi v a) (hS : S w) (h : wpAnyH P md ops Q S n (l.setIfInBounds i true) (a.put oi.dst v) w) : wpAnyH P md ops Q S (n + 1) l a w := by
 simp only [Bool.and_eq_true] at hs
 exact wpAnyH_take hi hs.1.1 hs.1.2 hs.2 hQ hy hS h
end Go.Proofs.YtoefgfiabfkfaaaGreatDoor
/- errors.As at a target of type *api.Errno: of nil false; of an api.Errno true, and the target is set. -/
namespace Go.Proofs.YtoefgfiabfkfaaaGreatDoor
open Go.RowKit Go.Extern.Stop Go.Stop Go.Extern


theorem as_valueOfP (t : Addr) (w : World) : (ReflectliteValue.unpack (.iface 100 (.pointer (some t)))).run Tryz.prog w
  = .ok (.agg #[.pointer (some ⟨3, 100, none⟩), .pointer (some ⟨w.heap.size, 0, none⟩), .int .u64 150]) (w.alloc (.cells #[.pointer (some t)] 100)) := by kernel_rfl
theorem as_typeP (a : Addr) (w : World) : (ReflectliteValue.methodAny (ReflectliteValue.valueError "reflectlite.Value.Type" 0) (fun t _ _ _ => ReflectliteType.toType t) #[.agg #[.pointer (some ⟨3, 100, none⟩), .pointer (some a), .int .u64 150]]).run Tryz.prog w
  = .ok (.iface 147 (.agg #[.pointer (some ⟨3, 100, none⟩)])) w := by kernel_rfl
theorem as_methodKind (h : Value) (w : World) : (Go.method 299 147 (.agg #[h]) "Kind").run Tryz.prog w = .ok (107, h) w := by kernel_rfl
theorem as_kindP (w : World) : ((ReflectliteType.abiMethod fun t => (fun a : Nat => Value.int IntKind.u8 (a : Int)) <$> Rtype.kind t) #[.pointer (some ⟨3, 100, none⟩)]).run Tryz.prog w = .ok (.int .u8 22) w := by kernel_rfl
theorem as_kindE (w : World) : ((ReflectliteType.abiMethod fun t => (fun a : Nat => Value.int IntKind.u8 (a : Int)) <$> Rtype.kind t) #[.pointer (some ⟨3, 72, none⟩)]).run Tryz.prog w = .ok (.int .u8 2) w := by kernel_rfl
theorem as_partsP (a : Addr) (w : World) : (ReflectliteValue.parts (.agg #[.pointer (some ⟨3, 100, none⟩), .pointer (some a), .int .u64 150])).run Tryz.prog w = .ok (some (100, a, 150)) w := by kernel_rfl
theorem as_isNilP (a p : Addr) (W : World) (ha : W.cell? a = some (.pointer (some p))) :
  (ReflectliteValue.method (ReflectliteValue.valueError "reflectlite.Value.IsNil" 0) ReflectliteValue.isNil #[.agg #[.pointer (some ⟨3, 100, none⟩), .pointer (some a), .int .u64 150]]).run Tryz.prog W = .ok (.bool false) W := by
 delta ReflectliteValue.method
 delta ReflectliteValue.method.match_2
 dsimp [Array.getLit]
 simp only [Sem.run_bind, as_partsP, Result.andThen]
 simp [ReflectliteValue.isNil, loadVar, isAgg, underlying, Tryz.underlying100, ha, Result.andThen]
theorem as_methodElem (h : Value) (w : World) : (Go.method 299 147 (.agg #[h]) "Elem").run Tryz.prog w = .ok (118, .agg #[h]) w := by kernel_rfl
theorem as_methodImplements (h : Value) (w : World) : (Go.method 299 147 (.agg #[h]) "Implements").run Tryz.prog w = .ok (119, .agg #[h]) w := by kernel_rfl
theorem as_methodAssignableTo (h : Value) (w : World) : (Go.method 299 147 (.agg #[h]) "AssignableTo").run Tryz.prog w = .ok (116, .agg #[h]) w := by kernel_rfl
theorem as_elemP (w : World) : (ReflectliteType.method ReflectliteType.elem #[.agg #[.pointer (some ⟨3, 100, none⟩)]]).run Tryz.prog w = .ok (.iface 147 (.agg #[.pointer (some ⟨3, 72, none⟩)])) w := by kernel_rfl
theorem as_implementsE (w : World) : (ReflectliteType.relation "Implements" ReflectliteType.implements_ #[.agg #[.pointer (some ⟨3, 72, none⟩)], .iface 147 (.agg #[.pointer (some ⟨3, 40, none⟩)])]).run Tryz.prog w = .ok (.bool true) w := by kernel_rfl
theorem as_typeOfE (v : Value) (w : World) : (ReflectliteType.typeOf #[.iface 72 v]).run Tryz.prog w = .ok (.iface 147 (.agg #[.pointer (some ⟨3, 72, none⟩)])) w := by kernel_rfl
theorem as_assignableE (w : World) : (ReflectliteType.relation "AssignableTo" ReflectliteType.assignableTo #[.agg #[.pointer (some ⟨3, 72, none⟩)], .iface 147 (.agg #[.pointer (some ⟨3, 72, none⟩)])]).run Tryz.prog w = .ok (.bool true) w := by kernel_rfl
theorem as_valueOfE (x : Int) (w : World) : (ReflectliteValue.unpack (.iface 72 (.int .i64 x))).run Tryz.prog w
  = .ok (.agg #[.pointer (some ⟨3, 72, none⟩), .pointer (some ⟨w.heap.size, 0, none⟩), .int .u64 130]) (w.alloc (.cells #[.int .i64 x] 72)) := by kernel_rfl
theorem as_elemOfP (w : World) : (Rtype.elem? 100).run Tryz.prog w = .ok (some 72) w := by kernel_rfl
theorem as_mkE (p : Addr) (w : World) : (ReflectliteValue.mk 72 p ReflectliteValue.flagAddr).run Tryz.prog w = .ok (.agg #[.pointer (some ⟨3, 72, none⟩), .pointer (some p), .int .u64 386]) w := by kernel_rfl
theorem as_elemVP (a p : Addr) (W : World) (ha : W.cell? a = some (.pointer (some p))) :
  (ReflectliteValue.method (ReflectliteValue.valueError "reflectlite.Value.Elem" 0) ReflectliteValue.elem #[.agg #[.pointer (some ⟨3, 100, none⟩), .pointer (some a), .int .u64 150]]).run Tryz.prog W
   = .ok (.agg #[.pointer (some ⟨3, 72, none⟩), .pointer (some p), .int .u64 386]) W := by
 delta ReflectliteValue.method
 delta ReflectliteValue.method.match_2
 dsimp [Array.getLit]
 simp only [Sem.run_bind, as_partsP, Result.andThen]
 simp [ReflectliteValue.elem, loadVar, isAgg, underlying, Tryz.underlying100, ha, Result.andThen, as_elemOfP, as_mkE]
theorem as_partsEa (a : Addr) (w : World) : (ReflectliteValue.parts (.agg #[.pointer (some ⟨3, 72, none⟩), .pointer (some a), .int .u64 386])).run Tryz.prog w = .ok (some (72, a, 386)) w := by kernel_rfl
theorem as_partsE (a : Addr) (w : World) : (ReflectliteValue.parts (.agg #[.pointer (some ⟨3, 72, none⟩), .pointer (some a), .int .u64 130])).run Tryz.prog w = .ok (some (72, a, 130)) w := by kernel_rfl
theorem as_directE (w : World) : (Rtype.directlyAssignable 72 72).run Tryz.prog w = .ok true w := by kernel_rfl
theorem as_setE (ta b : Addr) (x : Int) (old : Value) (W : World) (hb : W.cell? b = some (.int .i64 x)) (ht : W.cell? ta = some old) (hf : W.frozen? ta = false) :
  (ReflectliteValue.set #[.agg #[.pointer (some ⟨3, 72, none⟩), .pointer (some ta), .int .u64 386], .agg #[.pointer (some ⟨3, 72, none⟩), .pointer (some b), .int .u64 130]]).run Tryz.prog W
   = .ok (.tuple #[]) (W.setCell ta (.int .i64 x)) := by
 delta ReflectliteValue.set
 delta ReflectliteValue.set.match_3
 dsimp [Array.getLit]
 simp only [Sem.run_bind, as_partsEa, as_partsE, Result.andThen]
 simp [ReflectliteValue.flagAddr, loadVar, isAgg, underlying, Tryz.underlying72, hb, Result.andThen, as_directE, storeVar, Value.cells, storeCells, Addr.add]
 rw [run_store Tryz.prog W ta _ _ (by rfl)]
 simp [ht, hf]

set_option maxHeartbeats 4000000 in
theorem as_hit (x : Int) (t : Addr) (old : Value) (w : World) (hg : w.cell? ⟨0, 0, none⟩ = some (.iface 147 (.agg #[.pointer (some ⟨3, 40, none⟩)]))) (ht0 : w.cell? t = some old) (hf0 : w.frozen? t = false) :
  Calls Tryz.prog 52 #[.iface 72 (.int .i64 x), .iface 100 (.pointer (some t))] w fun ev w' => ev = .returned (.bool true) ∧ w' = ((((w.alloc (.cells #[.pointer (some t)] 100)).alloc (.cells #[.pointer (some ⟨3, 100, none⟩), .pointer (some ⟨w.heap.size, 0, none⟩), .int .u64 150] 125)).alloc (.cells #[.pointer (some ⟨3, 100, none⟩), .pointer (some ⟨w.heap.size, 0, none⟩), .int .u64 150] 125)).alloc (.cells #[.int .i64 x] 72)).setCell t (.int .i64 x) := by
 have h6 := @run_callFunc_extern Tryz.prog 71 _ (fun args => ReflectliteValue.unpack (args.getD 0 (.tuple #[]))) Tryz.func71 (by kernel_rfl) (by kernel_rfl) (by kernel_rfl) (by kernel_rfl)
 have h7 := @run_callFunc_extern Tryz.prog 72 _ (ReflectliteValue.methodAny (ReflectliteValue.valueError "reflectlite.Value.Type" 0) (fun t _ _ _ => ReflectliteType.toType t)) Tryz.func72 (by kernel_rfl) (by kernel_rfl) (by kernel_rfl) (by kernel_rfl)
 have h8 := @run_callFunc_extern Tryz.prog 73 _ (ReflectliteValue.method (ReflectliteValue.valueError "reflectlite.Value.IsNil" 0) ReflectliteValue.isNil) Tryz.func73 (by kernel_rfl) (by kernel_rfl) (by kernel_rfl) (by kernel_rfl)
 have h27 := @run_callFunc_extern Tryz.prog 107 _ (ReflectliteType.abiMethod fun t => do pure (.int .u8 (← Rtype.kind t))) Tryz.func107 (by kernel_rfl) (by kernel_rfl) (by kernel_rfl) (by kernel_rfl)
 have h37 := @run_callFunc_extern Tryz.prog 118 _ (ReflectliteType.method ReflectliteType.elem) Tryz.func118 (by kernel_rfl) (by kernel_rfl) (by kernel_rfl) (by kernel_rfl)
 have h38 := @run_callFunc_extern Tryz.prog 119 _ (ReflectliteType.relation "Implements" ReflectliteType.implements_) Tryz.func119 (by kernel_rfl) (by kernel_rfl) (by kernel_rfl) (by kernel_rfl)
 have h10 := @run_callFunc_extern Tryz.prog 84 _ (ReflectliteType.typeOf) Tryz.func84 (by kernel_rfl) (by kernel_rfl) (by kernel_rfl) (by kernel_rfl)
 have h35 := @run_callFunc_extern Tryz.prog 116 _ (ReflectliteType.relation "AssignableTo" ReflectliteType.assignableTo) Tryz.func116 (by kernel_rfl) (by kernel_rfl) (by kernel_rfl) (by kernel_rfl)
 have h11 := @run_callFunc_extern Tryz.prog 85 _ (ReflectliteValue.method (ReflectliteValue.valueError "reflectlite.Value.Elem" 0) ReflectliteValue.elem) Tryz.func85 (by kernel_rfl) (by kernel_rfl) (by kernel_rfl) (by kernel_rfl)
 have h12 := @run_callFunc_extern Tryz.prog 86 _ (ReflectliteValue.set) Tryz.func86 (by kernel_rfl) (by kernel_rfl) (by kernel_rfl) (by kernel_rfl)
 have k_typeOfE := as_typeOfE
 have k_methodAssignableTo := as_methodAssignableTo
 have k_assignableE := as_assignableE
 have k_valueOfE := as_valueOfE
 have k_valueOfP := as_valueOfP
 have k_typeP := as_typeP
 have k_methodKind := as_methodKind
 have k_methodElem := as_methodElem
 have k_methodImplements := as_methodImplements
 have k_kindP := as_kindP
 have k_kindE := as_kindE
 have k_elemP := as_elemP
 have k_implementsE := as_implementsE
 have n8 := as_isNilP ⟨w.heap.size, 0, none⟩ t ((w.alloc (.cells #[.pointer (some t)] 100)).alloc (.cells #[.pointer (some ⟨3, 100, none⟩), .pointer (some ⟨w.heap.size, 0, none⟩), .int .u64 150] 125)) (by simp)
 have hlt : 0 < w.heap.size := by
  rcases Nat.eq_zero_or_pos w.heap.size with h0 | h
  ·simp [World.cell?, h0] at hg
  ·exact h
 have hg2 : ((w.alloc (.cells #[.pointer (some t)] 100)).alloc (.cells #[.pointer (some ⟨3, 100, none⟩), .pointer (some ⟨w.heap.size, 0, none⟩), .int .u64 150] 125)).cell? ⟨0, 0, none⟩ = some (.iface 147 (.agg #[.pointer (some ⟨3, 40, none⟩)])) := by
  rw [World.cell?_alloc_lt _ _ ⟨0, 0, none⟩ (by simp), World.cell?_alloc_lt _ _ ⟨0, 0, none⟩ hlt]; exact hg
 have htl : t.block < w.heap.size := by
  rcases Nat.lt_or_ge t.block w.heap.size with h | h
  ·exact h
  ·simp [World.cell?, Array.getElem?_eq_none h] at ht0
 have el := as_elemVP ⟨w.heap.size, 0, none⟩ t (((w.alloc (.cells #[.pointer (some t)] 100)).alloc (.cells #[.pointer (some ⟨3, 100, none⟩), .pointer (some ⟨w.heap.size, 0, none⟩), .int .u64 150] 125)).alloc (.cells #[.pointer (some ⟨3, 100, none⟩), .pointer (some ⟨w.heap.size, 0, none⟩), .int .u64 150] 125)) (by rw [World.cell?_alloc_lt _ _ ⟨w.heap.size, 0, none⟩ (by simp; omega)]; simp)
 have st := as_setE t ⟨w.heap.size + 1 + 1 + 1, 0, none⟩ x old ((((w.alloc (.cells #[.pointer (some t)] 100)).alloc (.cells #[.pointer (some ⟨3, 100, none⟩), .pointer (some ⟨w.heap.size, 0, none⟩), .int .u64 150] 125)).alloc (.cells #[.pointer (some ⟨3, 100, none⟩), .pointer (some ⟨w.heap.size, 0, none⟩), .int .u64 150] 125)).alloc (.cells #[.int .i64 x] 72))
  (by rw [World.cell?_alloc_at _ _ _ _ (by simp)]; rfl)
  (by rw [World.cell?_alloc_lt _ _ t (by simp; omega), World.cell?_alloc_lt _ _ t (by simp; omega), World.cell?_alloc_lt _ _ t (by simp; omega), World.cell?_alloc_lt _ _ t htl]; exact ht0)
  (by rw [World.frozen?_alloc_old _ _ t (by simp; omega), World.frozen?_alloc_old _ _ t (by simp; omega), World.frozen?_alloc_old _ _ t (by simp; omega), World.frozen?_alloc_old _ _ t (Nat.ne_of_lt htl)]; exact hf0)
 go_enter Tryz.func52, Tryz.ntmps52
 go_wp2
 refine wp_loop_rounds 1 ?_
 rw [rounds_succ]
 go_wp2
 go_ret
 exact ⟨rfl, rfl⟩
end Go.Proofs.YtoefgfiabfkfaaaGreatDoor
/- num: the number of an error. -/
namespace Go.Proofs.YtoefgfiabfkfaaaGreatDoor
open Go.RowKit

/-- The library's variable that holds the type error's own handle. -/
def Glob (w : World) : Prop := w.cell? ⟨0, 0, none⟩ = some (.iface 147 (.agg #[.pointer (some ⟨3, 40, none⟩)]))
theorem Glob.below {w w' : World} {B : Nat} (h : Glob w) (hb : Below B w w') (hB : 0 < B) : Glob w' := by
 unfold Glob at *
 rw [hb.cell (p := ⟨0, 0, none⟩) hB]; exact h
theorem Glob.pos {w : World} (h : Glob w) : 0 < w.heap.size := World.block_lt_of_cell? w ⟨0, 0, none⟩ h
theorem Glob.frm {w w' : World} {S : List Nat} (h : Glob w) (hf : Frm S w w') (hS : 0 ∉ S) : Glob w' := by
 unfold Glob at *
 rw [World.cell?_of_block (a := ⟨0, 0, none⟩) (hf.block 0 (World.block_lt_of_cell? w ⟨0, 0, none⟩ h) hS)]; exact h

set_option maxHeartbeats 400000 in
theorem num_nil (w : World) :
  Calls Tryz.prog 30 #[.nilIface] w fun e w' => e = .returned (.int .i64 0) ∧ Below w.heap.size w w' := by
 go_enter Tryz.func30, Tryz.ntmps30
 go_wp2
 go_ret
 exact ⟨rfl, (by repeat (first | exact Below.refl _ _ | refine Below.alloc ?_ (by simp; try omega) _ | refine Below.setCell ?_ (by simp) _ | refine below_drewN ?_ _ | refine Below.drew ?_))⟩

set_option maxHeartbeats 400000 in
theorem num_hit (x : Int) (w : World) (hg : Glob w) :
  Calls Tryz.prog 30 #[.iface 72 (.int .i64 x)] w fun e w' => e = .returned (.int .i64 x) ∧ Below w.heap.size w w' := by
 have hp := hg.pos
 have hg1 : Glob (w.alloc (.cells #[.int .i64 0] 72)) := hg.below ((Below.refl _ w).alloc (Nat.le_refl _) _) hp
 have ht : (w.alloc (.cells #[.int .i64 0] 72)).cell? ⟨w.heap.size, 0, none⟩ = some (.int .i64 0) := by simp
 have hf : (w.alloc (.cells #[.int .i64 0] 72)).frozen? ⟨w.heap.size, 0, none⟩ = false := by simp
 go_enter Tryz.func30, Tryz.ntmps30
 go_wp2_with (go_at_call 52; refine (as_hit x _ _ _ hg1 ht hf).mono ?_; rintro e w' ⟨rfl, rfl⟩)
 go_ret
 exact ⟨rfl, (by repeat (first | exact Below.refl _ _ | refine Below.alloc ?_ (by simp; try omega) _ | refine Below.setCell ?_ (by simp) _ | refine below_drewN ?_ _ | refine Below.drew ?_))⟩

theorem num_any (x : Int) (w : World) (hg : Glob w) :
  Calls Tryz.prog 30 #[errV x] w fun e w' => e = .returned (.int .i64 x) ∧ Below w.heap.size w w' := by
 by_cases h : x = 0
 ·subst h; exact num_nil w
 ·rw [errV_ne h]; exact num_hit x w hg

end Go.Proofs.YtoefgfiabfkfaaaGreatDoor
/- A region that draws its order, walked in the order of its text: what may come up earlier leaves the world alone till one operation (c), which waits for all loads, has come up. -/
namespace Go.Proofs.YtoefgfiabfkfaaaGreatDoor
open Go

section
variable {P : Program} {ops : Array Oper} {md : Region.Mode} {Q : Exit → Act → World → Prop} {c : Nat} {w0 : World}

/-- Whatever order is picked from here on; while c has not come up the world is w0. -/
def anyL (P : Program) (md : Region.Mode) (ops : Array Oper) (Q : Exit → Act → World → Prop) (c : Nat) (w0 : World) : Nat → Array Bool → Act → World → Prop
 | 0, l, a, w => Region.ready md ops l = [] ∧ Q .normal a w
 | n + 1, l, a, w => (Region.ready md ops l = [] → Q .normal a w) ∧
  ∀ i ∈ Region.ready md ops l, wpOp P ops Q i (fun a' w' => ((l.setIfInBounds i true).getD c true = false → w' = w0) ∧ anyL P md ops Q c w0 n (l.setIfInBounds i true) a' w') a w

theorem any_of_anyL : ∀ (n : Nat) (l : Array Bool) (a : Act) (w : World), anyL P md ops Q c w0 n l a w → wpAny P md ops Q n l a w
 | 0, _, _, _, h => h
 | n + 1, _, _, _, h => ⟨h.1, fun i hi => wpOp_mono (fun a' w' h' => any_of_anyL n _ a' w' h'.2) (h.2 i hi)⟩

/-- k waits for i, by f edges at most. -/
def waits (md : Region.Mode) (ops : Array Oper) (i : Nat) : Nat → Nat → Bool
 | 0, _ => false
 | f + 1, k => match ops[k]? with
  | none => false
  | some o => o.after.any fun e => Region.binds md e && (e.on == i || waits md ops i f e.on)

/-- Whoever has come up came behind all that it waits for. -/
def Shut2 (md : Region.Mode) (ops : Array Oper) (l : Array Bool) : Prop :=
 ∀ k o, ops[k]? = some o → l.getD k false = true → ∀ e ∈ o.after, Region.binds md e = true → l.getD e.on false = true

theorem waits_edge {i f k : Nat} (h : waits md ops i (f + 1) k = true) : ∃ o, ops[k]? = some o ∧ ∃ e ∈ o.after, Region.binds md e = true ∧ (e.on = i ∨ waits md ops i f e.on = true) := by
 unfold waits at h
 split at h
 ·cases h
 ·rename_i o ho
  refine ⟨o, ho, ?_⟩
  obtain ⟨e, he, hh⟩ := Array.any_eq_true'.1 h
  simp only [Bool.and_eq_true, Bool.or_eq_true, beq_iff_eq] at hh
  exact ⟨e, he, hh.1, hh.2⟩

theorem waits_un {i : Nat} {l : Array Bool} (hs : Shut2 md ops l) (hi : l.getD i false = false) : ∀ (f k : Nat), waits md ops i f k = true → l.getD k false = false
 | 0, _, h => by simp [waits] at h
 | f + 1, k, h => by
  obtain ⟨o, ho, e, he, hb, hor⟩ := waits_edge h
  cases hk : l.getD k false with
  | false => rfl
  | true =>
   have h1 := hs k o ho hk e he hb
   rcases hor with rfl | h2
   ·rw [hi] at h1; cases h1
   ·rw [waits_un hs hi f _ h2] at h1; cases h1

theorem un_false {l : Array Bool} {i : Nat} (h : l.getD i true = false) : l.getD i false = false := by
 rw [Array.getD_eq_getD_getElem?] at h ⊢
 cases he : l[i]? with
 | none => simp [he] at h
 | some b => simp [he] at h ⊢; exact h

theorem waits_not_ready {i f : Nat} {l : Array Bool} (hs : Shut2 md ops l) (hi : l.getD i false = false) (h : waits md ops i f c = true) : c ∉ Region.ready md ops l := by
 intro hr
 obtain ⟨_, o, ho, hall⟩ := mem_ready.1 hr
 cases f with
 | zero => simp [waits] at h
 | succ f =>
  obtain ⟨o', ho', e, he, hb, hor⟩ := waits_edge h
  rw [ho] at ho'
  cases ho'
  have h1 := hall e he hb
  rcases hor with rfl | h2
  ·rw [hi] at h1; cases h1
  ·rw [waits_un hs hi f _ h2] at h1; cases h1

theorem getD_of_set {l : Array Bool} {i k : Nat} (h : (l.setIfInBounds i true).getD k false = true) : k = i ∨ l.getD k false = true := by
 by_cases e : i = k
 ·exact .inl e.symm
 ·rw [getD_set_ne false e] at h; exact .inr h

theorem Shut2.set {l : Array Bool} {i : Nat} (hs : Shut2 md ops l) (hi : i ∈ Region.ready md ops l) : Shut2 md ops (l.setIfInBounds i true) := by
 intro k o ho hk e he hb
 obtain ⟨_, oi, hoi, hall⟩ := mem_ready.1 hi
 rcases getD_of_set hk with rfl | hk
 ·rw [ho] at hoi
  cases hoi
  exact getD_set_true (hall e he hb)
 ·exact getD_set_true (hs k o ho hk e he hb)

/-- What may come up now may be taken first: it yields its value in every world, or in w0, and c waits for it. -/
theorem anyL_first {T : World → Prop} {f i : Nat} {oi : Oper} {v : Value} (hi : ops[i]? = some oi) (hsel : ∀ (j : Nat) (o : Oper) cs b, ops[j]? = some o → o.op ≠ .select cs b)
  (hQ : ∀ ch a w, Q (.panic ch) (a.put oi.dst v) w → Q (.panic ch) a w) (hic : i ≠ c) :
  ∀ (n : Nat) (l : Array Bool) (a : Act) (w : World), ((∀ w, T w) ∨ (T w0 ∧ waits md ops i f c = true ∧ l.getD c true = false)) →
   (∀ j oj, ops[j]? = some oj → j ≠ i → l.getD j true = false → (∀ e ∈ oj.after, Region.binds md e = true → e.on ≠ i) → oi.apart ops oj = true) →
   Shut2 md ops l → i ∈ Region.ready md ops l → YieldsIf P ops T oi v a → (l.getD c true = false → w = w0) →
   anyL P md ops Q c w0 n (l.setIfInBounds i true) (a.put oi.dst v) w → anyL P md ops Q c w0 (n + 1) l a w := by
 have self : ∀ (n : Nat) (l : Array Bool) (a : Act) (w : World), ((∀ w, T w) ∨ (T w0 ∧ waits md ops i f c = true ∧ l.getD c true = false)) → YieldsIf P ops T oi v a → (l.getD c true = false → w = w0) →
   anyL P md ops Q c w0 n (l.setIfInBounds i true) (a.put oi.dst v) w → wpOp P ops Q i (fun a' w' => ((l.setIfInBounds i true).getD c true = false → w' = w0) ∧ anyL P md ops Q c w0 n (l.setIfInBounds i true) a' w') a w := by
  intro n l a w hT hy hw H
  have hTw : T w := by
   rcases hT with h | ⟨h, _, h2⟩
   ·exact h w
   ·rw [hw h2]; exact h
  exact hy.wpOp hi hTw ⟨fun h => hw (by rw [getD_set_ne true hic] at h; exact h), H⟩
 intro n
 induction n with
 | zero =>
  intro l a w hT _ _ hr hy hw H
  refine ⟨fun h => (by rw [h] at hr; cases hr), fun j hj => ?_⟩
  by_cases hji : j = i
  ·subst hji; exact self 0 l a w hT hy hw H
  ·have := ready_mono hj hji
   rw [H.1] at this
   cases this
 | succ n ih =>
  intro l a w hT hfree hs hr hy hw H
  refine ⟨fun h => (by rw [h] at hr; cases hr), fun j hj => ?_⟩
  by_cases hji : j = i
  ·subst hji; exact self (n + 1) l a w hT hy hw H
  ·have h1 := H.2 j (ready_mono hj hji)
   obtain ⟨hjun, oj, hoj, hall⟩ := mem_ready.1 hj
   have hiun := (mem_ready.1 hr).1
   have hnot : ∀ e ∈ oj.after, Region.binds md e = true → e.on ≠ i := fun e he hb heq => by
    have h2 := hall e he hb
    rw [heq, un_false hiun] at h2
    cases h2
   have h2 := wpOp_putIf hoj (hfree j oj hoj hji hjun hnot) (fun cs b => hsel i oi cs b hi) (fun cs b => hsel j oj cs b hoj) hQ hy h1
   have hfree' : ∀ k ok, ops[k]? = some ok → k ≠ i → (l.setIfInBounds j true).getD k true = false →
     (∀ e ∈ ok.after, Region.binds md e = true → e.on ≠ i) → oi.apart ops ok = true := fun k ok hk hki hun hno => by
    refine hfree k ok hk hki ?_ hno
    by_cases hjk : j = k
    ·subst hjk; exact hjun
    ·rw [getD_set_ne true hjk] at hun; exact hun
   refine wpOp_mono (fun a' w' h3 => ?_) h2
   have hw' : (l.setIfInBounds j true).getD c true = false → w' = w0 := fun h => h3.2.1 (by rw [Array.setIfInBounds_comm _ _ (Ne.symm hji), getD_set_ne true hic]; exact h)
   refine ⟨hw', ih (l.setIfInBounds j true) a' w' ?_ hfree' (hs.set hj) (ready_mono hr (Ne.symm hji)) h3.1 hw' ?_⟩
   ·rcases hT with h | ⟨h, hwt, hc⟩
    ·exact .inl h
    ·refine .inr ⟨h, hwt, ?_⟩
     have hjc : j ≠ c := fun e => waits_not_ready hs (un_false hiun) hwt (e ▸ hj)
     rw [getD_set_ne true hjc]; exact hc
   ·rw [Array.setIfInBounds_comm _ _ hji]
    exact h3.2.2

/-- The look at a region: in the order of its rows (a tag and a place) each operation is taken (0: it yields in every world; 1: it yields in this world, and c waits for it) or is the only one that may come up (2). -/
def seqB (md : Region.Mode) (ops : Array Oper) (c f : Nat) : List (Nat × Nat) → Array Bool → Bool
 | [], l => (Region.ready md ops l).isEmpty
 | (t, k) :: ts, l =>
  (match t with
   | 0 => k != c && (Region.ready md ops l).contains k && Region.free md ops l k
   | 1 => k != c && (Region.ready md ops l).contains k && Region.free md ops l k && !l.getD c true && waits md ops k f c
   | _ => Region.ready md ops l == [k] && (k == c || l.getD c false) && decide (k < l.size)) && seqB md ops c f ts (l.setIfInBounds k true)

/-- The walk in that order. -/
def seqL (P : Program) (ops : Array Oper) (Q : Exit → Act → World → Prop) : List (Nat × Nat) → Act → World → Prop
 | [], a, w => Q .normal a w
 | (t, k) :: ts, a, w => match ops[k]? with
  | none => False
  | some o => match t with
   | 0 => ∃ v, YieldsIf P ops (fun _ => True) o v a ∧ seqL P ops Q ts (a.put o.dst v) w
   | 1 => ∃ v, YieldsIf P ops (fun x => x = w) o v a ∧ seqL P ops Q ts (a.put o.dst v) w
   | _ => if Region.wanted o (yielded ops a.tmps) = true then o.wp P a w (seqL P ops Q ts) Q else seqL P ops Q ts (a.put o.dst undef) w

theorem any_of_seq {f : Nat} (hn : Region.noSelect ops = true) (hQ : ∀ ch d v a w, Q (.panic ch) (Act.put a d v) w → Q (.panic ch) a w) :
  ∀ (ts : List (Nat × Nat)) (l : Array Bool) (a : Act) (w : World), seqB md ops c f ts l = true → Shut2 md ops l → (l.getD c true = false → w = w0) →
   seqL P ops Q ts a w → anyL P md ops Q c w0 ts.length l a w := by
 intro ts
 induction ts with
 | nil => intro l a w hB hs hw h; exact ⟨by simpa [seqB] using hB, h⟩
 | cons tk ts ih =>
  obtain ⟨t, k⟩ := tk
  intro l a w hB hs hw h
  unfold seqL at h
  split at h
  ·exact h.elim
  ·rename_i o h0
   match t, hB, h with
   | 0, hB, h =>
    simp only [seqB, Bool.and_eq_true, bne_iff_ne, ne_eq] at hB
    obtain ⟨⟨⟨hkc, hrd⟩, hfr⟩, hB'⟩ := hB
    have hrd' : k ∈ Region.ready md ops l := by simpa using hrd
    obtain ⟨v, hy, hn'⟩ := h
    refine anyL_first (f := f) h0 (Region.noSelect_spec hn) (fun ch a w => hQ ch _ _ a w) hkc ts.length l a w (.inl fun _ => trivial) (Region.free_spec h0 hfr) hs hrd' hy hw ?_
    exact ih _ _ w hB' (hs.set hrd') (fun h => hw (by rw [getD_set_ne true hkc] at h; exact h)) hn'
   | 1, hB, h =>
    simp only [seqB, Bool.and_eq_true, bne_iff_ne, ne_eq, Bool.not_eq_true'] at hB
    obtain ⟨⟨⟨⟨⟨hkc, hrd⟩, hfr⟩, hcl⟩, hwt⟩, hB'⟩ := hB
    have hrd' : k ∈ Region.ready md ops l := by simpa using hrd
    obtain ⟨v, hy, hn'⟩ := h
    have hw1 := hw hcl
    subst hw1
    refine anyL_first (f := f) (T := fun x => x = w) h0 (Region.noSelect_spec hn) (fun ch a w => hQ ch _ _ a w) hkc ts.length l a w (.inr ⟨rfl, hwt, hcl⟩) (Region.free_spec h0 hfr) hs hrd' hy hw ?_
    exact ih _ _ w hB' (hs.set hrd') (fun h => hw (by rw [getD_set_ne true hkc] at h; exact h)) hn'
   | t + 2, hB, h =>
    simp only [seqB, Bool.and_eq_true, beq_iff_eq, Bool.or_eq_true, decide_eq_true_eq] at hB
    obtain ⟨⟨⟨hrd, hkc⟩, hlt⟩, hB'⟩ := hB
    have hrd' : k ∈ Region.ready md ops l := by rw [hrd]; simp
    have hcl : (l.setIfInBounds k true).getD c true = true := by
     rcases hkc with rfl | h1
     ·simp [Array.getD_eq_getD_getElem?, hlt]
     ·have := getD_set_true (i := k) h1
      rw [Array.getD_eq_getD_getElem?] at this ⊢
      cases he : (l.setIfInBounds k true)[c]? with
      | none => simp
      | some b => simp [he] at this ⊢; exact this
    refine ⟨fun h => (by rw [h] at hrd; cases hrd), fun i hi => ?_⟩
    rw [hrd] at hi
    have hik : i = k := by simpa using hi
    subst hik
    have h1 : wpOp P ops Q i (seqL P ops Q ts) a w := by
     unfold wpOp
     simp only [h0]
     have h2 : if Region.wanted o (yielded ops a.tmps) = true then o.wp P a w (seqL P ops Q ts) Q else seqL P ops Q ts (a.put o.dst undef) w := h
     split
     ·rename_i hww; rw [if_pos hww] at h2; exact .inl h2
     ·rename_i hww; rw [if_neg hww] at h2; exact h2
    refine wpOp_mono (fun a' w' h' => ⟨fun h => (by rw [hcl] at h; cases h), ?_⟩) h1
    exact ih _ a' w' hB' (hs.set hrd') (fun h => (by rw [hcl] at h; cases h)) h'

/-- A region that draws its order, in the order of the rows. -/
theorem region_seq {id f : Nat} {c : Nat} {ts : List (Nat × Nat)} {ops : Array Oper} {a : Act} {w : World} (hm : P.follows .mixedOrders = true)
  (hB : (Region.noSelect ops && ts.length == ops.size && seqB .any ops c f ts (Array.replicate ops.size false)) = true) (h : seqL P ops (NoPanic Q) ts a w.drew) : (Code.region id ops true).wp P Q a w := by
 simp only [Bool.and_eq_true, beq_iff_eq] at hB
 obtain ⟨⟨hn, hl⟩, hB⟩ := hB
 refine wp_region_noPanic (wp_region_any hm ?_)
 have := any_of_seq (c := c) (w0 := w.drew) (f := f) (md := .any) (Q := NoPanic Q) (P := P) hn (fun _ _ _ _ _ h => h) ts (Array.replicate ops.size false) a w.drew hB
  (fun k o _ hk => by
   simp only [Array.getD_eq_getD_getElem?, Array.getElem?_replicate] at hk
   split at hk <;> simp at hk) (fun _ => rfl) h
 rw [hl] at this
 exact any_of_anyL _ _ _ _ this
end

section
variable {P : Program} {ops : Array Oper} {Q : Exit → Act → World → Prop} {ts : List (Nat × Nat)} {o : Oper} {k : Nat} {a : Act} {w : World} {v : Value}
theorem wanted_plain (hgd : o.guard = none) (y : Nat → Option Bool) : Region.wanted o y = true := by simp [Region.wanted, hgd]
theorem seq_nil (h : Q .normal a w) : seqL P ops Q [] a w := h
theorem seq_W (ho : ops[k]? = some o) (hgd : o.guard = none) (hr : ∀ w, (execOp a.eval o).run P w = .ok (.value v) w) (h : seqL P ops Q ts (a.put o.dst v) w) : seqL P ops Q ((0, k) :: ts) a w := by
 unfold seqL
 simp only [ho]
 exact ⟨v, .inl ⟨wanted_plain hgd _, fun w _ => hr w⟩, h⟩
theorem seq_R (ho : ops[k]? = some o) (hgd : o.guard = none) (hr : (execOp a.eval o).run P w = .ok (.value v) w) (h : seqL P ops Q ts (a.put o.dst v) w) : seqL P ops Q ((1, k) :: ts) a w := by
 unfold seqL
 simp only [ho]
 exact ⟨v, .inl ⟨wanted_plain hgd _, fun w' e => by subst e; exact hr⟩, h⟩
theorem seq_A (ho : ops[k]? = some o) (hgd : o.guard = none) (h : ∀ K : Act → World → Prop, (∀ a w, seqL P ops Q ts a w → K a w) → o.wp P a w K Q) : seqL P ops Q ((2, k) :: ts) a w := by
 unfold seqL
 simp only [ho]
 rw [if_pos (wanted_plain hgd _)]
 exact h _ (fun _ _ h => h)
end
end Go.Proofs.YtoefgfiabfkfaaaGreatDoor
