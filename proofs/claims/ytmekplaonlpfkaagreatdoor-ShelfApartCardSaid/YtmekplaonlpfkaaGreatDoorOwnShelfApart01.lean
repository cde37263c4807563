/- What is kept outside of some blocks; errors by their numbers. (OKit, for a seat without sums.) -/
import Derived.Test.YtmekplaonlpfkaaGreatDoorProg
import Derived.WalkKit
import Derived.WalkSpells
import Derived.WalkLawsBesides
import Derived.Laws.CopyOwn
import Derived.Deep.MidRow
import Derived.Stop.BytesEq
import Derived.Deep.RegionHeld3
import Derived.LaidEql
import Derived.Laws.Externs
import Derived.RowKitTokens
import Derived.Maps.AppendAt
import Derived.Deep.AppendSrc
import Derived.Deep.AppendLies
import Derived.Deep.DrawnRows
import Derived.Deep.RegionLaw
import Derived.Laws.IdiomStrings
import Derived.Lib.BufferRead
import Derived.Laws.BitsAllLaws
namespace Go.Proofs.YtmekplaonlpfkaaGreatDoor
open Go.RowKit

def errV (e : Int) : Value := if e = 0 then .nilIface else .iface 72 (.int .i64 e)
theorem errV_ne {e : Int} (h : e ≠ 0) : errV e = .iface 72 (.int .i64 e) := if_neg h
/-- The n bytes z as cells. -/
def bl (z : Nat → Int) (n : Nat) : List Value := (List.range n).map fun j => .int .u8 (z j)
theorem bl_length (z : Nat → Int) (n : Nat) : (bl z n).length = n := by simp [bl]
theorem bl_get {z : Nat → Int} {n j : Nat} {u : Value} (h : (bl z n)[j]? = some u) : j < n ∧ u = .int .u8 (z j) := by
  simp only [bl, List.getElem?_map, Option.map_eq_some_iff] at h
  obtain ⟨a, h1, h2⟩ := h
  have := List.getElem?_eq_some_iff.1 h1
  obtain ⟨h3, h4⟩ := this
  simp at h3 h4
  exact ⟨h3, by rw [← h2, ← h4]⟩
theorem bl_at {z : Nat → Int} {n j : Nat} (h : j < n) : (bl z n)[j]? = some (.int .u8 (z j)) := by
  simp [bl, List.getElem?_map, List.getElem?_range h]
theorem bl_one (z : Nat → Int) (n : Nat) : ∀ u ∈ bl z n, u.oneCell' = true := by
  intro u hu
  simp only [bl, List.mem_map] at hu
  obtain ⟨_, _, rfl⟩ := hu
  rfl
/-- All blocks that were there, but those of S, are as they were; the streams too. -/
structure Frm (S : List Nat) (w w' : World) : Prop where
  os : w'.os = w.os
  tape : w'.tape = w.tape
  output : w'.output = w.output
  size : w.heap.size ≤ w'.heap.size
  block : ∀ k, k < w.heap.size → k ∉ S → w'.heap[k]? = w.heap[k]?

theorem Frm.refl (S : List Nat) (w : World) : Frm S w w := ⟨rfl, rfl, rfl, Nat.le_refl _, fun _ _ _ => rfl⟩
theorem Frm.trans {S : List Nat} {a b c : World} (h : Frm S a b) (k : Frm S b c) : Frm S a c :=
  ⟨k.os.trans h.os, k.tape.trans h.tape, k.output.trans h.output, Nat.le_trans h.size k.size, fun i hi hn => (k.block i (Nat.lt_of_lt_of_le hi h.size) hn).trans (h.block i hi hn)⟩
theorem Frm.mono {S T : List Nat} {a b : World} (h : Frm S a b) (hs : ∀ k, k ∈ S → k ∈ T) : Frm T a b :=
  ⟨h.os, h.tape, h.output, h.size, fun i hi hn => h.block i hi (fun e => hn (hs i e))⟩
/-- Blocks that were not there yet may be left out. -/
theorem Frm.old {S T : List Nat} {a b : World} (h : Frm S a b) (hs : ∀ k, k ∈ S → k < a.heap.size → k ∈ T) : Frm T a b :=
  ⟨h.os, h.tape, h.output, h.size, fun i hi hn => h.block i hi (fun e => hn (hs i e hi))⟩
theorem Frm.drewN {S : List Nat} {a b : World} (h : Frm S a b) (n : Nat) : Frm S a (b.drewN n) := ⟨h.os, h.tape, h.output, h.size, h.block⟩
theorem Frm.drew {S : List Nat} {a b : World} (h : Frm S a b) : Frm S a b.drew := ⟨h.os, h.tape, h.output, h.size, h.block⟩
theorem Frm.alloc {S : List Nat} {a b : World} (h : Frm S a b) (o : Obj) : Frm S a (b.alloc o) :=
  h.trans ⟨rfl, rfl, rfl, by simp, fun k hk _ => Below.heap_alloc _ _ _ hk⟩
theorem Frm.setCell {S : List Nat} {a b : World} (h : Frm S a b) (p : Addr) (u : Value) (hp : p.block ∈ S) : Frm S a (b.setCell p u) :=
  h.trans ⟨rfl, rfl, rfl, by simp [World.setCell], fun k _ hn => Below.heap_setCell _ _ _ _ (fun e => hn (by rw [e]; exact hp))⟩
theorem Frm.grown {S : List Nat} {a b c : World} {row : Option Nat} (h : Frm S a b) (hg : b.grownBy c row) (hr : ∀ k, row = some k → k ∈ S) : Frm S a c :=
  h.trans ⟨hg.os, hg.tape, hg.output, hg.size, fun k hk hn => hg.block k hk (fun e => hn (hr k e.symm))⟩
theorem Frm.below {S : List Nat} {a b : World} {B : Nat} (h : Frm S a b) (hB : B ≤ a.heap.size) (hs : ∀ k, k ∈ S → B ≤ k) : Below B a b :=
  ⟨h.os, h.tape, h.output, h.size, fun k hk => h.block k (by omega) (fun e => by have := hs k e; omega)⟩
theorem Frm.ofBelow {S : List Nat} {a b : World} (h : Below a.heap.size a b) : Frm S a b := ⟨h.os, h.tape, h.output, h.size, fun k hk _ => h.block k hk⟩
theorem Frm.heap {S : List Nat} {a b : World} (h : Frm S a b) {k : Nat} {o : Obj} (hk : a.heap[k]? = some o) (hn : k ∉ S) : b.heap[k]? = some o := by
  rw [h.block k (lt_of_block hk) hn]; exact hk

theorem bcell {W w1 : World} (hb : Below W.heap.size W w1) : (∀ b o, b < W.heap.size → w1.cell? ⟨b, o, none⟩ = W.cell? ⟨b, o, none⟩) ∧ (∀ b o, b < W.heap.size → w1.frozen? ⟨b, o, none⟩ = W.frozen? ⟨b, o, none⟩) :=
  ⟨fun b o h => hb.cell (p := ⟨b, o, none⟩) h, fun b o h => hb.frozen (p := ⟨b, o, none⟩) h⟩

section
variable {w : World} {b : Nat} {u v x : Value} {t : TypeId}
theorem two_cell0 (h : w.heap[b]? = some (.cells #[u, v] t (0, 0))) : w.cell? ⟨b, 0, none⟩ = some u := by simp [World.cell?, h]
theorem two_cell1 (h : w.heap[b]? = some (.cells #[u, v] t (0, 0))) : w.cell? ⟨b, 1, none⟩ = some v := by simp [World.cell?, h]
theorem two_free (h : w.heap[b]? = some (.cells #[u, v] t (0, 0))) (o : Nat) : w.frozen? ⟨b, o, none⟩ = false := by simp [World.frozen?, h]
theorem two_set0 (h : w.heap[b]? = some (.cells #[u, v] t (0, 0))) : (w.setCell ⟨b, 0, none⟩ x).heap[b]? = some (.cells #[x, v] t (0, 0)) := by
  have hlt := lt_of_block h
  have h' : w.heap[b] = .cells #[u, v] t (0, 0) := by simpa [Array.getElem?_eq_getElem hlt] using h
  show (w.heap.modify b _)[b]? = _
  rw [Array.getElem?_eq_getElem (by simpa using hlt), Array.getElem_modify_self, h']
  rfl
theorem two_set1 (h : w.heap[b]? = some (.cells #[u, v] t (0, 0))) : (w.setCell ⟨b, 1, none⟩ x).heap[b]? = some (.cells #[u, x] t (0, 0)) := by
  have hlt := lt_of_block h
  have h' : w.heap[b] = .cells #[u, v] t (0, 0) := by simpa [Array.getElem?_eq_getElem hlt] using h
  show (w.heap.modify b _)[b]? = _
  rw [Array.getElem?_eq_getElem (by simpa using hlt), Array.getElem_modify_self, h']
  rfl
end

theorem wpList_boxTo {P : Program} {ops : Array Oper} {rest : List Oper} {o : Oper} {a : Act} {w : World} {Q : Exit → Act → World → Prop} (hg : o.guard = none) (t : TypeId) (x : Operand) (ho : o.op = .box t x)
    (dst : Option Tmp) (hdst : o.dst = dst) (N : Nat) (hN : w.heap.size = N) (cells : Array Value) (hx : (a.eval x).cells = cells)
    (h : wpList P ops Q rest (a.put dst (.pointer (some ⟨N, 0, none⟩))) (w.alloc (.cells cells t))) : wpList P ops Q (o :: rest) a w := by
  subst hdst hN hx
  refine wpList_plain hg fun K hK => ?_
  unfold Oper.wp execOp
  simp only [ho, Sem.run_bind, Instr.box, newVar, newRow, run_newObj_alloc, Sem.run_pure, Result.andThen_ok]
  exact hK _ _ h
theorem Below.transS {w w1 w2 : World} (h : Below w.heap.size w w1) (k : Below w1.heap.size w1 w2) : Below w.heap.size w w2 := h.trans (k.mono h.size)
theorem range_below {W w : World} {b off : Nat} {vs : List Value} (h : W.rangeAt b off vs) (hb : Below W.heap.size W w) : w.rangeAt b off vs := by
  intro j v hv
  have h1 := h j v hv
  have hlt : b < W.heap.size := World.block_lt_of_cell? W ⟨b, off + j, none⟩ h1
  rw [hb.cell (p := ⟨b, off + j, none⟩) hlt]; exact h1
end Go.Proofs.YtmekplaonlpfkaaGreatDoor
/- errors.As at a target of type *api.Errno: of nil false; of an api.Errno true, and the target is set. -/
namespace Go.Proofs.YtmekplaonlpfkaaGreatDoor
open Go.RowKit Go.Extern.Stop Go.Stop Go.Extern

theorem as_nil (t : Value) (w : World) :
    Calls Tryz.prog 37 #[.nilIface, t] w fun e w' => e = .returned (.bool false) ∧ w' = w := by
  go_enter Tryz.func37, Tryz.ntmps37
  go_wp2
  go_ret
  exact ⟨rfl, rfl⟩

theorem as_valueOfP (t : Addr) (w : World) : (ReflectliteValue.unpack (.iface 87 (.pointer (some t)))).run Tryz.prog w
    = .ok (.agg #[.pointer (some ⟨2, 87, none⟩), .pointer (some ⟨w.heap.size, 0, none⟩), .int .u64 150]) (w.alloc (.cells #[.pointer (some t)] 87)) := by kernel_rfl
theorem as_typeP (a : Addr) (w : World) : (ReflectliteValue.methodAny (ReflectliteValue.valueError "reflectlite.Value.Type" 0) (fun t _ _ _ => ReflectliteType.toType t) #[.agg #[.pointer (some ⟨2, 87, none⟩), .pointer (some a), .int .u64 150]]).run Tryz.prog w
    = .ok (.iface 179 (.agg #[.pointer (some ⟨2, 87, none⟩)])) w := by kernel_rfl
theorem as_methodKind (h : Value) (w : World) : (Go.method 373 179 (.agg #[h]) "Kind").run Tryz.prog w = .ok (179, h) w := by kernel_rfl
theorem as_kindP (w : World) : ((ReflectliteType.abiMethod fun t => (fun a : Nat => Value.int IntKind.u8 (a : Int)) <$> Rtype.kind t) #[.pointer (some ⟨2, 87, none⟩)]).run Tryz.prog w = .ok (.int .u8 22) w := by kernel_rfl
theorem as_kindE (w : World) : ((ReflectliteType.abiMethod fun t => (fun a : Nat => Value.int IntKind.u8 (a : Int)) <$> Rtype.kind t) #[.pointer (some ⟨2, 72, none⟩)]).run Tryz.prog w = .ok (.int .u8 2) w := by kernel_rfl
theorem as_partsP (a : Addr) (w : World) : (ReflectliteValue.parts (.agg #[.pointer (some ⟨2, 87, none⟩), .pointer (some a), .int .u64 150])).run Tryz.prog w = .ok (some (87, a, 150)) w := by kernel_rfl
theorem as_isNilP (a p : Addr) (W : World) (ha : W.cell? a = some (.pointer (some p))) :
    (ReflectliteValue.method (ReflectliteValue.valueError "reflectlite.Value.IsNil" 0) ReflectliteValue.isNil #[.agg #[.pointer (some ⟨2, 87, none⟩), .pointer (some a), .int .u64 150]]).run Tryz.prog W = .ok (.bool false) W := by
  delta ReflectliteValue.method
  delta ReflectliteValue.method.match_2
  dsimp [Array.getLit]
  simp only [Sem.run_bind, as_partsP, Result.andThen]
  simp [ReflectliteValue.isNil, loadVar, isAgg, underlying, Tryz.underlying87, ha, Result.andThen]
theorem as_methodElem (h : Value) (w : World) : (Go.method 373 179 (.agg #[h]) "Elem").run Tryz.prog w = .ok (190, .agg #[h]) w := by kernel_rfl
theorem as_methodImplements (h : Value) (w : World) : (Go.method 373 179 (.agg #[h]) "Implements").run Tryz.prog w = .ok (191, .agg #[h]) w := by kernel_rfl
theorem as_methodAssignableTo (h : Value) (w : World) : (Go.method 373 179 (.agg #[h]) "AssignableTo").run Tryz.prog w = .ok (188, .agg #[h]) w := by kernel_rfl
theorem as_elemP (w : World) : (ReflectliteType.method ReflectliteType.elem #[.agg #[.pointer (some ⟨2, 87, none⟩)]]).run Tryz.prog w = .ok (.iface 179 (.agg #[.pointer (some ⟨2, 72, none⟩)])) w := by kernel_rfl
theorem as_implementsE (w : World) : (ReflectliteType.relation "Implements" ReflectliteType.implements_ #[.agg #[.pointer (some ⟨2, 72, none⟩)], .iface 179 (.agg #[.pointer (some ⟨2, 26, none⟩)])]).run Tryz.prog w = .ok (.bool true) w := by kernel_rfl
theorem as_typeOfE (v : Value) (w : World) : (ReflectliteType.typeOf #[.iface 72 v]).run Tryz.prog w = .ok (.iface 179 (.agg #[.pointer (some ⟨2, 72, none⟩)])) w := by kernel_rfl
theorem as_assignableE (w : World) : (ReflectliteType.relation "AssignableTo" ReflectliteType.assignableTo #[.agg #[.pointer (some ⟨2, 72, none⟩)], .iface 179 (.agg #[.pointer (some ⟨2, 72, none⟩)])]).run Tryz.prog w = .ok (.bool true) w := by kernel_rfl
theorem as_valueOfE (x : Int) (w : World) : (ReflectliteValue.unpack (.iface 72 (.int .i64 x))).run Tryz.prog w
    = .ok (.agg #[.pointer (some ⟨2, 72, none⟩), .pointer (some ⟨w.heap.size, 0, none⟩), .int .u64 130]) (w.alloc (.cells #[.int .i64 x] 72)) := by kernel_rfl
theorem as_elemOfP (w : World) : (Rtype.elem? 87).run Tryz.prog w = .ok (some 72) w := by kernel_rfl
theorem as_mkE (p : Addr) (w : World) : (ReflectliteValue.mk 72 p ReflectliteValue.flagAddr).run Tryz.prog w = .ok (.agg #[.pointer (some ⟨2, 72, none⟩), .pointer (some p), .int .u64 386]) w := by kernel_rfl
theorem as_elemVP (a p : Addr) (W : World) (ha : W.cell? a = some (.pointer (some p))) :
    (ReflectliteValue.method (ReflectliteValue.valueError "reflectlite.Value.Elem" 0) ReflectliteValue.elem #[.agg #[.pointer (some ⟨2, 87, none⟩), .pointer (some a), .int .u64 150]]).run Tryz.prog W
      = .ok (.agg #[.pointer (some ⟨2, 72, none⟩), .pointer (some p), .int .u64 386]) W := by
  delta ReflectliteValue.method
  delta ReflectliteValue.method.match_2
  dsimp [Array.getLit]
  simp only [Sem.run_bind, as_partsP, Result.andThen]
  simp [ReflectliteValue.elem, loadVar, isAgg, underlying, Tryz.underlying87, ha, Result.andThen, as_elemOfP, as_mkE]
theorem as_partsEa (a : Addr) (w : World) : (ReflectliteValue.parts (.agg #[.pointer (some ⟨2, 72, none⟩), .pointer (some a), .int .u64 386])).run Tryz.prog w = .ok (some (72, a, 386)) w := by kernel_rfl
theorem as_partsE (a : Addr) (w : World) : (ReflectliteValue.parts (.agg #[.pointer (some ⟨2, 72, none⟩), .pointer (some a), .int .u64 130])).run Tryz.prog w = .ok (some (72, a, 130)) w := by kernel_rfl
theorem as_directE (w : World) : (Rtype.directlyAssignable 72 72).run Tryz.prog w = .ok true w := by kernel_rfl
theorem as_setE (ta b : Addr) (x : Int) (old : Value) (W : World) (hb : W.cell? b = some (.int .i64 x)) (ht : W.cell? ta = some old) (hf : W.frozen? ta = false) :
    (ReflectliteValue.set #[.agg #[.pointer (some ⟨2, 72, none⟩), .pointer (some ta), .int .u64 386], .agg #[.pointer (some ⟨2, 72, none⟩), .pointer (some b), .int .u64 130]]).run Tryz.prog W
      = .ok (.tuple #[]) (W.setCell ta (.int .i64 x)) := by
  delta ReflectliteValue.set
  delta ReflectliteValue.set.match_3
  dsimp [Array.getLit]
  simp only [Sem.run_bind, as_partsEa, as_partsE, Result.andThen]
  simp [ReflectliteValue.flagAddr, loadVar, isAgg, underlying, Tryz.underlying72, hb, Result.andThen, as_directE, storeVar, Value.cells, storeCells, Addr.add]
  rw [run_store Tryz.prog W ta _ _ (by rfl)]
  simp [ht, hf]

set_option maxHeartbeats 4000000 in
theorem as_hit (x : Int) (t : Addr) (old : Value) (w : World) (hg : w.cell? ⟨0, 0, none⟩ = some (.iface 179 (.agg #[.pointer (some ⟨2, 26, none⟩)]))) (ht0 : w.cell? t = some old) (hf0 : w.frozen? t = false) :
    Calls Tryz.prog 37 #[.iface 72 (.int .i64 x), .iface 87 (.pointer (some t))] w fun ev w' => ev = .returned (.bool true) ∧ w' = ((((w.alloc (.cells #[.pointer (some t)] 87)).alloc (.cells #[.pointer (some ⟨2, 87, none⟩), .pointer (some ⟨w.heap.size, 0, none⟩), .int .u64 150] 130)).alloc (.cells #[.pointer (some ⟨2, 87, none⟩), .pointer (some ⟨w.heap.size, 0, none⟩), .int .u64 150] 130)).alloc (.cells #[.int .i64 x] 72)).setCell t (.int .i64 x) := by
  have h6 := @run_callFunc_extern Tryz.prog 65 _ (fun args => ReflectliteValue.unpack (args.getD 0 (.tuple #[]))) Tryz.func65 (by kernel_rfl) (by kernel_rfl) (by kernel_rfl) (by kernel_rfl)
  have h7 := @run_callFunc_extern Tryz.prog 66 _ (ReflectliteValue.methodAny (ReflectliteValue.valueError "reflectlite.Value.Type" 0) (fun t _ _ _ => ReflectliteType.toType t)) Tryz.func66 (by kernel_rfl) (by kernel_rfl) (by kernel_rfl) (by kernel_rfl)
  have h8 := @run_callFunc_extern Tryz.prog 67 _ (ReflectliteValue.method (ReflectliteValue.valueError "reflectlite.Value.IsNil" 0) ReflectliteValue.isNil) Tryz.func67 (by kernel_rfl) (by kernel_rfl) (by kernel_rfl) (by kernel_rfl)
  have h27 := @run_callFunc_extern Tryz.prog 179 _ (ReflectliteType.abiMethod fun t => do pure (.int .u8 (← Rtype.kind t))) Tryz.func179 (by kernel_rfl) (by kernel_rfl) (by kernel_rfl) (by kernel_rfl)
  have h37 := @run_callFunc_extern Tryz.prog 190 _ (ReflectliteType.method ReflectliteType.elem) Tryz.func190 (by kernel_rfl) (by kernel_rfl) (by kernel_rfl) (by kernel_rfl)
  have h38 := @run_callFunc_extern Tryz.prog 191 _ (ReflectliteType.relation "Implements" ReflectliteType.implements_) Tryz.func191 (by kernel_rfl) (by kernel_rfl) (by kernel_rfl) (by kernel_rfl)
  have h10 := @run_callFunc_extern Tryz.prog 100 _ (ReflectliteType.typeOf) Tryz.func100 (by kernel_rfl) (by kernel_rfl) (by kernel_rfl) (by kernel_rfl)
  have h35 := @run_callFunc_extern Tryz.prog 188 _ (ReflectliteType.relation "AssignableTo" ReflectliteType.assignableTo) Tryz.func188 (by kernel_rfl) (by kernel_rfl) (by kernel_rfl) (by kernel_rfl)
  have h11 := @run_callFunc_extern Tryz.prog 101 _ (ReflectliteValue.method (ReflectliteValue.valueError "reflectlite.Value.Elem" 0) ReflectliteValue.elem) Tryz.func101 (by kernel_rfl) (by kernel_rfl) (by kernel_rfl) (by kernel_rfl)
  have h12 := @run_callFunc_extern Tryz.prog 102 _ (ReflectliteValue.set) Tryz.func102 (by kernel_rfl) (by kernel_rfl) (by kernel_rfl) (by kernel_rfl)
  have k_typeOfE := as_typeOfE
  have k_methodAssignableTo := as_methodAssignableTo
  have k_assignableE := as_assignableE
  have k_valueOfE := as_valueOfE
  have k_valueOfP := as_valueOfP
  have k_typeP := as_typeP
  have k_methodKind := as_methodKind
  have k_methodElem := as_methodElem
  have k_methodImplements := as_methodImplements
  have k_kindP := as_kindP
  have k_kindE := as_kindE
  have k_elemP := as_elemP
  have k_implementsE := as_implementsE
  have n8 := as_isNilP ⟨w.heap.size, 0, none⟩ t ((w.alloc (.cells #[.pointer (some t)] 87)).alloc (.cells #[.pointer (some ⟨2, 87, none⟩), .pointer (some ⟨w.heap.size, 0, none⟩), .int .u64 150] 130)) (by simp)
  have hlt : 0 < w.heap.size := by
    rcases Nat.eq_zero_or_pos w.heap.size with h0 | h
    · simp [World.cell?, h0] at hg
    · exact h
  have hg2 : ((w.alloc (.cells #[.pointer (some t)] 87)).alloc (.cells #[.pointer (some ⟨2, 87, none⟩), .pointer (some ⟨w.heap.size, 0, none⟩), .int .u64 150] 130)).cell? ⟨0, 0, none⟩ = some (.iface 179 (.agg #[.pointer (some ⟨2, 26, none⟩)])) := by
    rw [World.cell?_alloc_lt _ _ ⟨0, 0, none⟩ (by simp), World.cell?_alloc_lt _ _ ⟨0, 0, none⟩ hlt]; exact hg
  have htl : t.block < w.heap.size := by
    rcases Nat.lt_or_ge t.block w.heap.size with h | h
    · exact h
    · simp [World.cell?, Array.getElem?_eq_none h] at ht0
  have el := as_elemVP ⟨w.heap.size, 0, none⟩ t (((w.alloc (.cells #[.pointer (some t)] 87)).alloc (.cells #[.pointer (some ⟨2, 87, none⟩), .pointer (some ⟨w.heap.size, 0, none⟩), .int .u64 150] 130)).alloc (.cells #[.pointer (some ⟨2, 87, none⟩), .pointer (some ⟨w.heap.size, 0, none⟩), .int .u64 150] 130)) (by rw [World.cell?_alloc_lt _ _ ⟨w.heap.size, 0, none⟩ (by simp; omega)]; simp)
  have st := as_setE t ⟨w.heap.size + 1 + 1 + 1, 0, none⟩ x old ((((w.alloc (.cells #[.pointer (some t)] 87)).alloc (.cells #[.pointer (some ⟨2, 87, none⟩), .pointer (some ⟨w.heap.size, 0, none⟩), .int .u64 150] 130)).alloc (.cells #[.pointer (some ⟨2, 87, none⟩), .pointer (some ⟨w.heap.size, 0, none⟩), .int .u64 150] 130)).alloc (.cells #[.int .i64 x] 72))
    (by rw [World.cell?_alloc_at _ _ _ _ (by simp)]; rfl)
    (by rw [World.cell?_alloc_lt _ _ t (by simp; omega), World.cell?_alloc_lt _ _ t (by simp; omega), World.cell?_alloc_lt _ _ t (by simp; omega), World.cell?_alloc_lt _ _ t htl]; exact ht0)
    (by rw [World.frozen?_alloc_old _ _ t (by simp; omega), World.frozen?_alloc_old _ _ t (by simp; omega), World.frozen?_alloc_old _ _ t (by simp; omega), World.frozen?_alloc_old _ _ t (Nat.ne_of_lt htl)]; exact hf0)
  go_enter Tryz.func37, Tryz.ntmps37
  go_wp2
  refine wp_loop_rounds 1 ?_
  rw [rounds_succ]
  go_wp2
  go_ret
  exact ⟨rfl, rfl⟩
end Go.Proofs.YtmekplaonlpfkaaGreatDoor
/- num: the number of an error. -/
namespace Go.Proofs.YtmekplaonlpfkaaGreatDoor
open Go.RowKit

/-- The library's variable that holds the type error's own handle. -/
def Glob (w : World) : Prop := w.cell? ⟨0, 0, none⟩ = some (.iface 179 (.agg #[.pointer (some ⟨2, 26, none⟩)]))
theorem Glob.below {w w' : World} {B : Nat} (h : Glob w) (hb : Below B w w') (hB : 0 < B) : Glob w' := by
  unfold Glob at *
  rw [hb.cell (p := ⟨0, 0, none⟩) hB]; exact h
theorem Glob.pos {w : World} (h : Glob w) : 0 < w.heap.size := World.block_lt_of_cell? w ⟨0, 0, none⟩ h
theorem Glob.frm {w w' : World} {S : List Nat} (h : Glob w) (hf : Frm S w w') (hS : 0 ∉ S) : Glob w' := by
  unfold Glob at *
  rw [World.cell?_of_block (a := ⟨0, 0, none⟩) (hf.block 0 (World.block_lt_of_cell? w ⟨0, 0, none⟩ h) hS)]; exact h

set_option maxHeartbeats 400000 in
theorem num_nil (w : World) :
    Calls Tryz.prog 12 #[.nilIface] w fun e w' => e = .returned (.int .i64 0) ∧ Below w.heap.size w w' := by
  go_enter Tryz.func12, Tryz.ntmps12
  go_wp2
  go_ret
  exact ⟨rfl, (by repeat (first | exact Below.refl _ _ | refine Below.alloc ?_ (by simp; try omega) _ | refine Below.setCell ?_ (by simp) _ | refine below_drewN ?_ _ | refine Below.drew ?_))⟩

set_option maxHeartbeats 400000 in
theorem num_hit (x : Int) (w : World) (hg : Glob w) :
    Calls Tryz.prog 12 #[.iface 72 (.int .i64 x)] w fun e w' => e = .returned (.int .i64 x) ∧ Below w.heap.size w w' := by
  have hp := hg.pos
  have hg1 : Glob (w.alloc (.cells #[.int .i64 0] 72)) := hg.below ((Below.refl _ w).alloc (Nat.le_refl _) _) hp
  have ht : (w.alloc (.cells #[.int .i64 0] 72)).cell? ⟨w.heap.size, 0, none⟩ = some (.int .i64 0) := by simp
  have hf : (w.alloc (.cells #[.int .i64 0] 72)).frozen? ⟨w.heap.size, 0, none⟩ = false := by simp
  go_enter Tryz.func12, Tryz.ntmps12
  go_wp2_with (go_at_call 37; refine (as_hit x _ _ _ hg1 ht hf).mono ?_; rintro e w' ⟨rfl, rfl⟩)
  go_ret
  exact ⟨rfl, (by repeat (first | exact Below.refl _ _ | refine Below.alloc ?_ (by simp; try omega) _ | refine Below.setCell ?_ (by simp) _ | refine below_drewN ?_ _ | refine Below.drew ?_))⟩

theorem num_any (x : Int) (w : World) (hg : Glob w) :
    Calls Tryz.prog 12 #[errV x] w fun e w' => e = .returned (.int .i64 x) ∧ Below w.heap.size w w' := by
  by_cases h : x = 0
  · subst h; exact num_nil w
  · rw [errV_ne h]; exact num_hit x w hg

end Go.Proofs.YtmekplaonlpfkaaGreatDoor
/- Bytes that lie somewhere; rows of bytes of one's own; bytes as a string. (BOw, for a seat without sums.) -/
namespace Go.Proofs.YtmekplaonlpfkaaGreatDoor
open Go.RowKit
/-- The n bytes z lie at an address. -/
def SlAt (w : World) (ad : Option Addr) (n : Nat) (z : Nat → Int) : Prop :=
  (∀ j, j < n → 0 ≤ z j ∧ z j ≤ 255) ∧ (0 < n → ∃ b off, ad = some ⟨b, off, none⟩ ∧ ∀ j, j < n → w.cell? ⟨b, off + j, none⟩ = some (.int .u8 (z j)))

theorem SlAt.drewN {w : World} {ad : Option Addr} {n : Nat} {z : Nat → Int} (h : SlAt w ad n z) (q : Nat) : SlAt (w.drewN q) ad n z := by
  refine ⟨h.1, fun hn => ?_⟩
  obtain ⟨b, off, e, hc⟩ := h.2 hn
  exact ⟨b, off, e, fun j hj => by simpa using hc j hj⟩

/-- 'b[1:]'. -/
theorem SlAt.tail {w : World} {b off n cap : Nat} {z : Nat → Int} (hz : ∀ j, j < n → 0 ≤ z j ∧ z j ≤ 255) (hc : ∀ j, j < n → w.cell? ⟨b, off + j, none⟩ = some (.int .u8 (z j))) (hlc : n ≤ cap) :
    SlAt w (if cap = 1 then some ⟨b, off, none⟩ else some ⟨b, off + 1, none⟩) (n - 1) (fun j => z (j + 1)) := by
  refine ⟨fun j hj => hz _ (by omega), fun hn => ?_⟩
  rw [if_neg (by omega)]
  exact ⟨b, off + 1, rfl, fun j hj => by rw [show off + 1 + j = off + (j + 1) from by omega]; exact hc (j + 1) (by omega)⟩
theorem SlAt.block {w w' : World} {ad : Option Addr} {n : Nat} {z : Nat → Int} (h : SlAt w ad n z) (hb : ∀ b off, 0 < n → ad = some ⟨b, off, none⟩ → w'.heap[b]? = w.heap[b]?) : SlAt w' ad n z := by
  refine ⟨h.1, fun hn => ?_⟩
  obtain ⟨b, off, e, hc⟩ := h.2 hn
  refine ⟨b, off, e, fun j hj => ?_⟩
  rw [World.cell?_of_block (hb b off hn e)]
  exact hc j hj
theorem SlAt.frm {S : List Nat} {w w' : World} {ad : Option Addr} {n : Nat} {z : Nat → Int} (h : SlAt w ad n z) (hf : Frm S w w') (hs : ∀ b off, 0 < n → ad = some ⟨b, off, none⟩ → b ∉ S) : SlAt w' ad n z := by
  refine ⟨h.1, fun hn => ?_⟩
  obtain ⟨b, off, e, hc⟩ := h.2 hn
  refine ⟨b, off, e, fun j hj => ?_⟩
  have hlt : b < w.heap.size := World.block_lt_of_cell? w ⟨b, off + j, none⟩ (hc j hj)
  rw [World.cell?_of_block (a := ⟨b, off + j, none⟩) (hf.block b hlt (hs b off hn e))]
  exact hc j hj
theorem SlAt.lt {w : World} {ad : Option Addr} {n : Nat} {z : Nat → Int} (h : SlAt w ad n z) {b off : Nat} (hn : 0 < n) (e : ad = some ⟨b, off, none⟩) : b < w.heap.size := by
  obtain ⟨b', off', e', hc⟩ := h.2 hn
  rw [e] at e'; cases e'
  exact World.block_lt_of_cell? w ⟨b, off + 0, none⟩ (hc 0 hn)
/-- 'b[k:]'. -/
theorem SlAt.drop {w : World} {ad : Option Addr} {n k : Nat} {z : Nat → Int} (h : SlAt w ad n z) : SlAt w (Option.map (fun x => x.add k) ad) (n - k) (fun j => z (j + k)) := by
  refine ⟨fun j hj => h.1 _ (by omega), fun hn => ?_⟩
  obtain ⟨b, off, e, hc⟩ := h.2 (by omega)
  refine ⟨b, off + k, by rw [e]; simp [Addr.add_lit], fun j hj => ?_⟩
  rw [show off + k + j = off + (j + k) from by omega]
  exact hc (j + k) (by omega)
theorem SlAt.zero {w : World} (ad : Option Addr) (z : Nat → Int) : SlAt w ad 0 z := ⟨fun j hj => by omega, fun h => by omega⟩
theorem SlAt.congr {w : World} {ad : Option Addr} {n : Nat} {z y : Nat → Int} (h : SlAt w ad n z) (he : ∀ j, j < n → z j = y j) : SlAt w ad n y := by
  refine ⟨fun j hj => by rw [← he j hj]; exact h.1 j hj, fun hn => ?_⟩
  obtain ⟨b, off, e, hc⟩ := h.2 hn
  exact ⟨b, off, e, fun j hj => by rw [← he j hj]; exact hc j hj⟩
theorem Tryz.infoB : (Tryz.prog.info? 5).map (fun i => (i.zero, i.size, i.bytes)) = some (some (.int .u8 0), 1, 1) := by kernel_rfl
theorem bl_cells {w : World} {b off n : Nat} {z : Nat → Int} (hc : ∀ j, j < n → w.cell? ⟨b, off + j, none⟩ = some (.int .u8 (z j))) : ∀ j u, (bl z n)[j]? = some u → w.cell? ((⟨b, off, none⟩ : Addr).add j) = some u := by
  intro j u h
  obtain ⟨hj, rfl⟩ := bl_get h
  rw [Addr.add_lit]
  exact hc j hj

/-- What owns a row of bytes is a slice of them. -/
theorem own_SlAt {w : World} {base : Nat} {v : Value} {n : Nat} {z : Nat → Int} (hz : ∀ j, j < n → 0 ≤ z j ∧ z j ≤ 255) (h : w.ownsRow base 5 1 v n (bl z n)) :
    ∃ ad cap, v = .slice ad n cap ∧ n ≤ cap ∧ SlAt w ad n z ∧ (ad = none → n = 0 ∧ cap = 0) ∧ (∀ a, ad = some a → base ≤ a.block) := by
  rcases h.2 with ⟨rfl, rfl⟩ | ⟨g, cap, cur, rfl, hb, hg, hcap, _, hsz, htk⟩
  · exact ⟨none, 0, rfl, Nat.le_refl _, SlAt.zero _ _, fun _ => ⟨rfl, rfl⟩, fun _ h => by cases h⟩
  · refine ⟨some ⟨g, 0, none⟩, cap, rfl, hcap, ⟨hz, fun _ => ⟨g, 0, rfl, fun j hj => ?_⟩⟩, (fun h => by cases h), (fun a h => by cases h; exact hb)⟩
    have := h.cells (g := g) rfl j _ (bl_at hj)
    rwa [Addr.add_lit] at this

def fn (l : List Int) : Nat → Int := fun j => l.getD j 0
theorem fn_get (l : List Int) (j : Nat) (h : j < l.length) : fn l j = l[j] := by simp [fn, h]
theorem map_bl (l : List Int) : l.map (Value.int .u8) = bl (fn l) l.length := by
  apply List.ext_getElem
  · simp [bl_length]
  · intro j h1 h2
    simp at h1
    simp [bl, fn, h1]

/-- A slice of its own that holds bytes. -/
def Fresh (w w' : World) (ad : Option Addr) (cap : Nat) (l : List Int) : Prop :=
  l.length ≤ cap ∧ SlAt w' ad l.length (fn l) ∧ (ad = none → l.length = 0 ∧ cap = 0) ∧ (∀ a, ad = some a → w.heap.size ≤ a.block) ∧ Below w.heap.size w w'
theorem Fresh.nil {w w' : World} (h : Below w.heap.size w w') : Fresh w w' none 0 [] := ⟨Nat.le_refl _, SlAt.zero _ _, (fun _ => ⟨rfl, rfl⟩), (fun _ h => by cases h), h⟩
def BPost (w : World) (r : List Int × Nat × Int) (e : Ending) (w' : World) : Prop :=
  ∃ ad cap, e = .returned (.tuple #[.slice ad r.1.length cap, .int .i64 r.2.1, errV r.2.2]) ∧ Fresh w w' ad cap r.1
theorem BPost.err {w w' : World} {er : Int} (h : Below w.heap.size w w') : BPost w ([], 0, er) (.returned (.tuple #[.slice none 0 0, .int .i64 0, errV er])) w' := ⟨none, 0, rfl, Fresh.nil h⟩

theorem fn_bd {l : List Int} (h : ∀ x, x ∈ l → 0 ≤ x ∧ x ≤ 255) : ∀ j, j < l.length → 0 ≤ fn l j ∧ fn l j ≤ 255 := fun j hj => by rw [fn_get l j hj]; exact h _ (List.getElem_mem hj)
theorem own_fresh {w w' : World} {ad : Option Addr} {cp : Nat} {l : List Int} (h : w'.ownsRow w.heap.size 5 1 (.slice ad l.length cp) l.length (l.map (Value.int .u8))) (hx : ∀ x, x ∈ l → 0 ≤ x ∧ x ≤ 255) (hb : Below w.heap.size w w') : Fresh w w' ad cp l := by
  rw [map_bl] at h
  obtain ⟨ad', cap', e, h1, h2, h3, h4⟩ := own_SlAt (fn_bd hx) h
  cases e
  exact ⟨h1, h2, h3, h4, hb⟩
theorem own_form {w : World} {B n : Nat} {v : Value} {xs : List Value} (h : w.ownsRow B 5 1 v n xs) : ∃ ad cp, v = .slice ad n cp := by
  rcases h.2 with ⟨rfl, rfl⟩ | ⟨g, cap, cur, rfl, _⟩
  · exact ⟨none, 0, rfl⟩
  · exact ⟨_, cap, rfl⟩
/-- What is appended: bytes that lie somewhere, or nothing. -/
def BSrc (w : World) (u : Value) (ys : List Int) : Prop :=
  ∃ ad c, u = .slice ad ys.length c ∧ ((ad = none ∧ ys = []) ∨ ∃ a, ad = some a ∧ ∀ j v, (ys.map (Value.int .u8))[j]? = some v → w.cell? (a.add j) = some v)
/-- A value that owns bytes, made since w0; nothing that was there in w0 has changed. -/
structure Ow (w0 w : World) (v : Value) (L : List Int) : Prop where
  own : w.ownsRow w0.heap.size 5 1 v L.length (L.map (Value.int .u8))
  below : Below w0.heap.size w0 w
  bd : ∀ x, x ∈ L → 0 ≤ x ∧ x ≤ 255

theorem Ow.nil (w : World) : Ow w w (.slice none 0 0) [] := ⟨World.ownsRow_nil _ _ _ _, Below.refl _ _, fun x h => by cases h⟩
theorem Ow.alloc {w0 w : World} {v : Value} {L : List Int} (h : Ow w0 w v L) (o : Obj) : Ow w0 (w.alloc o) v L := ⟨h.own.alloc _, h.below.alloc h.below.size _, h.bd⟩
theorem Ow.drew {w0 w : World} {v : Value} {L : List Int} (h : Ow w0 w v L) : Ow w0 w.drew v L := ⟨h.own.drew, h.below.drew, h.bd⟩
theorem Ow.le {w0 w : World} {v : Value} {L : List Int} (h : Ow w0 w v L) : w0.heap.size ≤ w.heap.size := h.below.size
theorem Ow.mono {w w0 w1 : World} {v : Value} {L : List Int} (h : Ow w0 w1 v L) (hb : Below w.heap.size w w0) : Ow w w1 v L := by
  refine ⟨⟨h.own.1, ?_⟩, hb.trans (h.below.mono hb.size), h.bd⟩
  rcases h.own.2 with hn | ⟨g, cap, cur, e, hbs, rest⟩
  · exact .inl hn
  · exact .inr ⟨g, cap, cur, e, Nat.le_trans hb.size hbs, rest⟩
theorem Ow.src {w0 w w' : World} {v : Value} {L : List Int} (h : Ow w0 w v L) (hb : Below w.heap.size w w') : BSrc w' v L := by
  have hown := h.own
  rcases h.own.2 with ⟨rfl, hl⟩ | ⟨g, cap, cur, rfl, hbs, hg, rest⟩
  · have : L = [] := List.eq_nil_of_length_eq_zero hl
    subst this
    exact ⟨none, 0, rfl, .inl ⟨rfl, rfl⟩⟩
  · refine ⟨some ⟨g, 0, none⟩, cap, rfl, .inr ⟨_, rfl, fun j u hu => ?_⟩⟩
    have h1 := hown.cells (g := g) rfl j u hu
    rw [Addr.add_lit] at h1 ⊢
    rw [hb.cell (p := ⟨g, 0 + j, none⟩) (World.block_lt_of_cell? w _ h1)]
    exact h1
theorem SlAt.src {w : World} {ad : Option Addr} {l : List Int} {cap : Nat} (h : SlAt w ad l.length (fn l)) (hn : ad = none → l.length = 0 ∧ cap = 0) : BSrc w (.slice ad l.length cap) l := by
  refine ⟨ad, cap, rfl, ?_⟩
  cases ad with
  | none => exact .inl ⟨rfl, List.eq_nil_of_length_eq_zero (hn rfl).1⟩
  | some a =>
    refine .inr ⟨a, rfl, fun j v hv => ?_⟩
    have hj : j < l.length := by simpa using (List.getElem?_eq_some_iff.1 hv).1
    obtain ⟨b, off, e, hc⟩ := h.2 (by omega)
    cases e
    rw [Addr.add_lit, hc j hj, fn_get l j hj]
    simp [hj] at hv
    rw [hv]
theorem one_src (w : World) (x : Int) : BSrc (w.alloc (.cells #[.int .u8 x] 5)) (.slice (some ⟨w.heap.size, 0, none⟩) 1 1) [x] :=
  ⟨_, 1, rfl, .inr ⟨_, rfl, World.news_of_block (cs := #[.int .u8 x]) (t := 5) (fr := (0, 0)) (heap_alloc_new w _)⟩⟩
theorem two_src (w : World) (x y : Int) : BSrc (w.alloc (.cells #[.int .u8 x, .int .u8 y] 5)) (.slice (some ⟨w.heap.size, 0, none⟩) 2 2) [x, y] :=
  ⟨_, 2, rfl, .inr ⟨_, rfl, World.news_of_block (cs := #[.int .u8 x, .int .u8 y]) (t := 5) (fr := (0, 0)) (heap_alloc_new w _)⟩⟩
theorem hash_src {w : World} {g : Nat} {z : Nat → Int} {t : TypeId} {l : List Int} (hl : l.map (Value.int .u8) = bl z 32) (hg : w.heap[g]? = some (.cells (bl z 32).toArray t (0, 0))) : BSrc w (.slice (some ⟨g, 0, none⟩) 32 32) l := by
  have h32 : l.length = 32 := by have := congrArg List.length hl; simpa [bl_length] using this
  refine ⟨_, 32, by rw [h32], .inr ⟨_, rfl, ?_⟩⟩
  rw [hl]
  have := World.news_of_block hg
  simpa using this

theorem run_append_B (w w0 : World) (ty : TypeId) (v u : Value) (L ys : List Int) (hown : Ow w0 w v L) (hu : BSrc w u ys) (hy : ∀ y, y ∈ ys → 0 ≤ y ∧ y ≤ 255) (hlen : L.length + ys.length ≤ 140737488355328) :
    ∃ v' w1, (Builtin.append_ #[29, 29] ty #[v, u]).run Tryz.prog w = .ok v' w1 ∧ Ow w0 w1 v' (L ++ ys) := by
  obtain ⟨i0, hi0, hz0, hz1, hz2⟩ := info_parts Tryz.infoB
  have hbd : ∀ x, x ∈ L ++ ys → 0 ≤ x ∧ x ≤ 255 := fun x hx => by
    rcases List.mem_append.1 hx with h | h
    · exact hown.bd x h
    · exact hy x h
  obtain ⟨ad, c, rfl, ⟨rfl, rfl⟩ | ⟨a, rfl, hc⟩⟩ := hu
  · refine ⟨v, w, ?_, by simpa using hown⟩
    rcases hown.own.2 with ⟨rfl, hl⟩ | ⟨g, cap, cur, rfl, hbs, hg, hcap, _⟩
    · simp [Builtin.append_, run_underlying Tryz.underlying29, sizeOf, typeInfo, hi0, Builtin.lenOf, Builtin.firstCells]
    · have := run_append_room_src (P := Tryz.prog) w 29 29 ty 5 i0 Tryz.underlying29 hi0 g 0 L.length cap (.slice none 0 c) 0 [] (Src.ofNil w Tryz.underlying29 c) (by omega) (fun j hj => by simp at hj) (fun j hj => by simp at hj)
      simpa [World.setCells] using this
  · obtain ⟨v', w1, hr, h2, h3, _, h5⟩ := run_append_own_at (P := Tryz.prog) w w0.heap.size 29 ty 5 i0 (.int .u8 0) 1 1 Tryz.underlying29 hi0 hz0 hz1 hz2 rfl (by decide) v L.length (L.map (Value.int .u8)) hown.own a ys.length c (ys.map (Value.int .u8)) (by simp) hc
      (fun u hu => by obtain ⟨y, _, rfl⟩ := List.mem_map.1 hu; rfl) (by simp only [maxLen]; omega) (by omega) hown.le
    refine ⟨v', w1, hr, ⟨by simpa using h2, hown.below.grown h3 hown.le (fun k hk => ?_), hbd⟩⟩
    rcases hown.own.2 with ⟨rfl, _⟩ | ⟨g, cap, cur, rfl, hbs, _⟩
    · simp [Value.ownBlock] at hk
    · have : g = k := by simpa [Value.ownBlock] using hk
      omega

section
variable {ops : Array Oper} {rest : List Oper} {o : Oper} {a : Act} {w : World} {Q : Exit → Act → World → Prop}
/-- 'append(v, u...)' at the list of a plain region's operations. -/
theorem wpList_append_B (hgd : o.guard = none) (s x : Operand) (ho : o.op = .call { callee := .builtin .append, args := #[s, x], argTypes := #[29, 29] })
    (w0 : World) (v u : Value) (L ys : List Int) (hs : a.eval s = v) (hx : a.eval x = u) (hown : Ow w0 w v L) (hu : BSrc w u ys) (hy : ∀ y, y ∈ ys → 0 ≤ y ∧ y ≤ 255) (hlen : L.length + ys.length ≤ 140737488355328)
    (h : ∀ v' w1, Ow w0 w1 v' (L ++ ys) → wpList Tryz.prog ops Q rest (a.put o.dst v') w1) : wpList Tryz.prog ops Q (o :: rest) a w := by
  obtain ⟨v', w1, hr, h2⟩ := run_append_B w w0 o.type v u L ys hown hu hy hlen
  refine wpList_plain hgd fun K hK => ?_
  unfold Oper.wp execOp
  simp only [ho, resolve, invoke, builtin, Sem.run_bind, Sem.run_pure, Result.andThen_ok, List.map_toArray, List.map_cons, List.map_nil, hs, hx, hr]
  exact hK _ _ (h v' w1 h2)
end
theorem Ow.form {w0 w : World} {v : Value} {L : List Int} (h : Ow w0 w v L) : ∃ ad cp, v = .slice ad L.length cp := own_form h.own
theorem Ow.fresh {w0 w : World} {ad : Option Addr} {cp : Nat} {L : List Int} (h : Ow w0 w (.slice ad L.length cp) L) : Fresh w0 w ad cp L := own_fresh h.own h.bd h.below

/-- n bytes z as a string. -/
def strB (z : Nat → Int) (n : Nat) : ByteArray := ⟨((List.range n).map fun j => UInt8.ofNat (z j).toNat).toArray⟩

theorem conv_any (ad : Option Addr) (n cap : Nat) (z : Nat → Int) (w : World) (hs : SlAt w ad n z) (hnil : ad = none → n = 0 ∧ cap = 0) :
    (convert 29 9 (.slice ad n cap)).run Tryz.prog w = .ok (.string (strB z n)) w := by
  cases ad with
  | none =>
    obtain ⟨rfl, rfl⟩ := hnil rfl
    exact Lib.run_convert_nil_bytes w 29 9 5 0 Tryz.underlying29 Tryz.underlying5 Tryz.underlying9
  | some a =>
    have h := run_convert_bytes_back (P := Tryz.prog) w 29 9 5 a cap ((List.range n).map fun j => UInt8.ofNat (z j).toNat) Tryz.underlying29 Tryz.underlying5 Tryz.underlying9 ?_
    · simpa [strB] using h
    · intro j hj
      simp at hj
      obtain ⟨b, off, e, hc⟩ := hs.2 (by omega)
      cases e
      have hz := hs.1 j hj
      rw [Addr.add_lit, hc j hj]
      simp
      omega
end Go.Proofs.YtmekplaonlpfkaaGreatDoor
/- Plain mathematics of bytes laid in order: numbers of base 256. Nothing of the program is named here. -/
namespace Go.Proofs.YtmekplaonlpfkaaGreatDoor

/-- The number whose bytes are f 0, .., f (k - 1), the highest first. -/
def valF (f : Nat → Int) : Nat → Int
  | 0 => 0
  | k + 1 => 256 * valF f k + f k

/-- A byte, or what it is taken from 255. -/
def trn (t : Bool) (x : Int) : Int := if t then 255 - x else x

theorem trn_bd {t : Bool} {x : Int} (h : 0 ≤ x ∧ x ≤ 255) : 0 ≤ trn t x ∧ trn t x ≤ 255 := by
  unfold trn; split <;> omega

theorem valF_bd {f : Nat → Int} (k : Nat) (hf : ∀ j, j < k → 0 ≤ f j ∧ f j ≤ 255) : 0 ≤ valF f k ∧ valF f k < 256 ^ k := by
  induction k with
  | zero => simp [valF]
  | succ k ih =>
    have h1 := ih (fun j hj => hf j (by omega))
    have h2 := hf k (by omega)
    simp only [valF, Int.pow_succ]
    omega

theorem valF_lt {f : Nat → Int} {k : Nat} (hk : k ≤ 8) (hf : ∀ j, j < k → 0 ≤ f j ∧ f j ≤ 255) : 0 ≤ valF f k ∧ valF f k ≤ 18446744073709551615 := by
  have h := valF_bd k hf
  have h2 : (256 : Int) ^ k ≤ 256 ^ 8 := by
    have : k = 0 ∨ k = 1 ∨ k = 2 ∨ k = 3 ∨ k = 4 ∨ k = 5 ∨ k = 6 ∨ k = 7 ∨ k = 8 := by omega
    rcases this with h | h | h | h | h | h | h | h | h <;> subst h <;> decide
  omega
theorem valF_lt7 {f : Nat → Int} {k : Nat} (hk : k ≤ 7) (hf : ∀ j, j < k → 0 ≤ f j ∧ f j ≤ 255) : 0 ≤ valF f k ∧ valF f k ≤ 72057594037927935 := by
  have h := valF_bd k hf
  have h2 : (256 : Int) ^ k ≤ 256 ^ 7 := by
    have : k = 0 ∨ k = 1 ∨ k = 2 ∨ k = 3 ∨ k = 4 ∨ k = 5 ∨ k = 6 ∨ k = 7 := by omega
    rcases this with h | h | h | h | h | h | h | h <;> subst h <;> decide
  omega

/-- The error of a number of k bytes of which n are there: ended ahead of its end, or a needless nought; 0: none. -/
def numE (n : Nat) (f : Nat → Int) (k : Nat) : Int := if n < k then 12 else if 0 < k ∧ f 0 = 0 then 3 else 0
/-- The number itself; 0 where there is an error. -/
def numV (n : Nat) (f : Nat → Int) (k : Nat) : Int := if numE n f k = 0 then valF f k else 0

theorem numE_cases (n : Nat) (f : Nat → Int) (k : Nat) : numE n f k = 0 ∨ numE n f k = 3 ∨ numE n f k = 12 := by
  unfold numE; split <;> (try split) <;> simp

theorem numV_bd {n : Nat} {f : Nat → Int} {k : Nat} (hk : k ≤ 8) (hf : ∀ j, j < n → 0 ≤ f j ∧ f j ≤ 255) : 0 ≤ numV n f k ∧ numV n f k ≤ 18446744073709551615 := by
  unfold numV
  split
  · rename_i h
    refine valF_lt hk (fun j hj => hf j ?_)
    unfold numE at h
    split at h
    · simp at h
    · omega
  · simp

/-- The bytes behind the first one, turned or not. -/
def behind (t : Bool) (z : Nat → Int) : Nat → Int := fun j => trn t (z (j + 1))

/-- The error of the number that n bytes z begin with, up to a bound; its value; how many bytes it stands on. -/
def uE (n : Nat) (z : Nat → Int) (most : Int) : Int :=
  if n = 0 then 12 else if 8 < z 0 then 3 else if numE (n - 1) (behind false z) (z 0).toNat = 0 then (if most < numV (n - 1) (behind false z) (z 0).toNat then 4 else 0) else numE (n - 1) (behind false z) (z 0).toNat
def uV (n : Nat) (z : Nat → Int) (most : Int) : Int := if uE n z most = 0 then numV (n - 1) (behind false z) (z 0).toNat else 0
def uN (n : Nat) (z : Nat → Int) (most : Int) : Nat := if uE n z most = 0 then 1 + (z 0).toNat else 0

/-- Whether an int is below 0, how many bytes it stands on behind the first. -/
def iT (z : Nat → Int) : Bool := decide (z 0 < 128)
def iK (z : Nat → Int) : Nat := if z 0 < 128 then (127 - z 0).toNat else (z 0 - 128).toNat
/-- The error of the int that n bytes z begin with; its value; how many bytes it stands on. -/
def iE (n : Nat) (z : Nat → Int) : Int :=
  if n = 0 then 12 else if z 0 < 119 ∨ 136 < z 0 then 3 else if numE (n - 1) (behind (iT z) z) (iK z) = 0 then (if 9223372036854775807 < numV (n - 1) (behind (iT z) z) (iK z) then 4 else 0) else numE (n - 1) (behind (iT z) z) (iK z)
def iV (n : Nat) (z : Nat → Int) : Int := if iE n z = 0 then (if z 0 < 128 then -1 - numV (n - 1) (behind (iT z) z) (iK z) else numV (n - 1) (behind (iT z) z) (iK z)) else 0
def iN (n : Nat) (z : Nat → Int) : Nat := if iE n z = 0 then 1 + iK z else 0

theorem numE_le {n : Nat} {f : Nat → Int} {k : Nat} (h : numE n f k = 0) : k ≤ n := by
  unfold numE at h
  split at h
  · simp at h
  · omega
theorem uN_le {n : Nat} {z : Nat → Int} {most : Int} (h : uE n z most = 0) : uN n z most ≤ n := by
  rw [uN, if_pos h]
  unfold uE at h
  split at h
  · simp at h
  · split at h
    · simp at h
    · split at h
      · rename_i h0 _ h1
        have := numE_le h1
        omega
      · rename_i h1
        exact absurd h h1
theorem iN_le {n : Nat} {z : Nat → Int} (h : iE n z = 0) : iN n z ≤ n := by
  rw [iN, if_pos h]
  unfold iE at h
  split at h
  · simp at h
  · split at h
    · simp at h
    · split at h
      · rename_i h0 _ h1
        have := numE_le h1
        omega
      · rename_i h1
        exact absurd h h1
end Go.Proofs.YtmekplaonlpfkaaGreatDoor
/- Bytes and their numbers in the machine's own operations: a byte xored with 0 or 255, a number moved left by 8 and a byte put behind. -/
namespace Go.Proofs.YtmekplaonlpfkaaGreatDoor
open Go.RowKit

theorem xor255_nat : ∀ x : Nat, x < 256 → x ^^^ 255 = 255 - x := by
  intro x hx
  have h : ∀ y : Fin 256, y.val ^^^ 255 = 255 - y.val := by decide +kernel
  exact h ⟨x, hx⟩

/-- A byte, turned. -/
theorem xor_trn (t : Bool) (tn x : Int) (h : tn = if t then 255 else 0) (hx : 0 ≤ x ∧ x ≤ 255) : bits .xor .u8 x tn = trn t x := by
  subst h
  cases t
  · rw [u8_xor x _ hx.1 (by omega) (by simp) (by simp)]
    simp [trn]; omega
  · rw [u8_xor x _ hx.1 (by omega) (by simp) (by simp)]
    simp only [trn, if_true]
    have := xor255_nat x.toNat (by omega)
    rw [show (255 : Int).toNat = 255 from rfl, this]
    omega

theorem or_shift_nat (a b : Nat) (hb : b < 256) : a * 256 ||| b = a * 256 + b := by
  have := Nat.shiftLeft_add_eq_or_of_lt (b := b) (i := 8) (by omega) a
  rw [Nat.shiftLeft_eq, show (2 : Nat) ^ 8 = 256 from rfl] at this
  omega

/-- A number moved left by one byte, the byte behind it. -/
theorem shift_or (v y : Int) (hv : 0 ≤ v ∧ v ≤ 72057594037927935) (hy : 0 ≤ y ∧ y ≤ 255) : bits .or .u64 (v * 256) (IntKind.u64.wrap y) = 256 * v + y := by
  rw [IntKind.wrap_u64, Int.emod_eq_of_lt (by omega) (by omega)]
  rw [u64_or _ _ (by omega) (by omega) (by omega) (by omega)]
  have e1 : (v * 256).toNat = v.toNat * 256 := by omega
  rw [e1, or_shift_nat v.toNat y.toNat (by omega)]
  omega
end Go.Proofs.YtmekplaonlpfkaaGreatDoor
/- Bytes that lie somewhere; bytes cloned; sums copied. (Parts of Num, Kit, Clone and HashKit, beside OKit.) -/
namespace Go.Proofs.YtmekplaonlpfkaaGreatDoor
open Go.RowKit
/-- Bytes lie in no block of two cells of which none is a byte. -/
theorem SlAt.ne_two {w : World} {ad : Option Addr} {n : Nat} {z : Nat → Int} (h : SlAt w ad n z) {rb : Nat} {a' : Option Addr} {n' cap' : Nat} {er : Int} {t : TypeId}
    (hr : w.heap[rb]? = some (.cells #[.slice a' n' cap', errV er] t (0, 0))) {b off : Nat} (hn : 0 < n) (e : ad = some ⟨b, off, none⟩) : b ≠ rb := by
  intro hbr
  subst hbr
  obtain ⟨b', off', e', hc⟩ := h.2 hn
  rw [e] at e'; cases e'
  have h0 := hc 0 hn
  rw [World.cell?, hr] at h0
  match off, h0 with
  | 0, h0 => simp at h0
  | 1, h0 => simp [errV] at h0; split at h0 <;> simp at h0
  | o + 2, h0 => simp at h0
/-- Bytes lie in no block of one cell that is a slice. -/
theorem SlAt.ne_one {w : World} {ad : Option Addr} {n : Nat} {z : Nat → Int} (h : SlAt w ad n z) {rb : Nat} {a' : Option Addr} {n' cap' : Nat} {t : TypeId}
    (hr : w.heap[rb]? = some (.cells #[.slice a' n' cap'] t (0, 0))) {b off : Nat} (hn : 0 < n) (e : ad = some ⟨b, off, none⟩) : b ≠ rb := by
  intro hbr
  subst hbr
  obtain ⟨b', off', e', hc⟩ := h.2 hn
  rw [e] at e'; cases e'
  have h0 := hc 0 hn
  rw [World.cell?, hr] at h0
  match off, h0 with
  | 0, h0 => simp at h0
  | o + 1, h0 => simp at h0
set_option maxHeartbeats 400000 in
theorem cloneE_nil (w : World) :
    Calls Tryz.prog 31 #[.slice none 0 0] w fun e w' => e = .returned (.slice none 0 0) ∧ w' = w := by
  have hnil := fun wx => Lib.run_eql_slice_nil (P := Tryz.prog) wx 29 5 none 0 0 0 0 Tryz.underlying29
  go_enter Tryz.func31, Tryz.ntmps31
  go_wp2
  go_ret
  exact ⟨rfl, rfl⟩

set_option maxHeartbeats 400000 in
theorem cloneE_some (a : Addr) (n cap : Nat) (z : Nat → Int) (w : World) (hc : ∀ j u, (bl z n)[j]? = some u → w.cell? (a.add j) = some u) (hn : n ≤ 140737488351232) (hlt : 0 < n → a.block < w.heap.size) :
    Calls Tryz.prog 31 #[.slice (some a) n cap] w fun e w' => ∃ v, e = .returned v ∧ w'.ownsRow w.heap.size 5 1 v n (bl z n) ∧ Below w.heap.size w w' := by
  have hnil : ∀ wx, (binOp .eql 29 (.slice (some a) n cap) (.slice none 0 0)).run Tryz.prog wx = .ok (.bool false) wx := fun wx => Lib.run_eql_slice_nil (P := Tryz.prog) wx 29 5 (some a) n cap 0 0 Tryz.underlying29
  obtain ⟨i0, hi, hz0, hz1, hz2⟩ := info_parts Tryz.infoB
  have H : Hid (Tryz.prog.info? 5 = some i0 ∧ i0.zero = some (.int .u8 0) ∧ i0.size = 1 ∧ i0.bytes = 1) := ⟨hi, hz0, hz1, hz2⟩
  clear hi hz0 hz1 hz2
  have hnews : ∀ j u, (bl z n)[j]? = some u → (w.alloc (.cells #[] 5)).cell? (a.add j) = some u := by
    intro j u h
    have hj := (bl_get h).1
    rw [World.cell?_alloc_lt _ _ _ (by have := hlt (by omega); unfold Addr.add; split <;> exact this)]
    exact hc j u h
  have HC : Hid (∀ j u, (bl z n)[j]? = some u → (w.alloc (.cells #[] 5)).cell? (a.add j) = some u) := hnews
  clear hc hnews
  go_enter Tryz.func31, Tryz.ntmps31
  go_wp2_with (at_builtin; refine wpList_append_own_at _ rfl _ _ 29 rfl w.heap.size 5 i0 (.int .u8 0) 1 1 Tryz.underlying29 H.out.1 H.out.2.1 H.out.2.2.1 H.out.2.2.2 rfl (by decide) _ 0 [] rfl (World.ownsRow_made w #[] 0 (Nat.le_refl _) (Nat.zero_le _) rfl) a n cap (bl z n) rfl (by simp [bl_length]) HC.out (bl_one z n) (by unfold maxLen; omega) (by omega) (by simp) ?_; intro v' w1 hown hgrow _ _)
  go_ret
  refine ⟨v', rfl, by simpa using hown, ?_⟩
  exact ((Below.refl _ _).alloc (Nat.le_refl _) _).grown hgrow (by simp) (fun k hk => Nat.le_of_eq (Option.some.inj (show some w.heap.size = some k from hk)))

theorem cloneE_any (ad : Option Addr) (n cap : Nat) (z : Nat → Int) (w : World) (hs : SlAt w ad n z) (hnil : ad = none → n = 0 ∧ cap = 0) (hn : n ≤ 140737488351232) :
    Calls Tryz.prog 31 #[.slice ad n cap] w fun e w' => ∃ ad' cap', e = .returned (.slice ad' n cap') ∧ n ≤ cap' ∧ SlAt w' ad' n z ∧ (ad' = none → n = 0 ∧ cap' = 0) ∧ (∀ a, ad' = some a → w.heap.size ≤ a.block) ∧ Below w.heap.size w w' := by
  cases ad with
  | none =>
    obtain ⟨rfl, rfl⟩ := hnil rfl
    refine (cloneE_nil w).mono ?_
    rintro e w' ⟨rfl, rfl⟩
    exact ⟨none, 0, rfl, Nat.le_refl _, SlAt.zero _ _, (fun _ => ⟨rfl, rfl⟩), (fun _ h => by cases h), Below.refl _ _⟩
  | some a =>
    refine (cloneE_some a n cap z w ?_ hn ?_).mono ?_
    · intro j u h
      have hj := (bl_get h).1
      obtain ⟨b, off, e, hc⟩ := hs.2 (by omega)
      cases e
      exact bl_cells hc j u h
    · intro h0
      obtain ⟨b, off, e, hc⟩ := hs.2 h0
      cases e
      exact World.block_lt_of_cell? w ⟨b, off + 0, none⟩ (hc 0 h0)
    · rintro e w' ⟨v, rfl, hown, hbel⟩
      obtain ⟨ad', cap', rfl, h1, h2, h3, h4⟩ := own_SlAt hs.1 hown
      exact ⟨ad', cap', rfl, h1, h2, h3, h4, hbel⟩
end Go.Proofs.YtmekplaonlpfkaaGreatDoor
/- What enc.number answers: the number of so many bytes, or the error. -/
namespace Go.Proofs.YtmekplaonlpfkaaGreatDoor
open Go.RowKit

set_option maxHeartbeats 400000 in
theorem number_short (ad : Option Addr) (len cap : Nat) (k t : Int) (w : World) (h : (len : Int) < k) :
    Calls Tryz.prog 117 #[.slice ad len cap, .int .i64 k, .int .u8 t] w fun e w' => e = .returned (.tuple #[.int .u64 0, .iface 72 (.int .i64 12)]) ∧ w' = w := by
  go_enter Tryz.func117, Tryz.ntmps117
  go_wp2
  go_ret2
  exact ⟨rfl, rfl⟩

set_option maxHeartbeats 400000 in
theorem number_form (b off len cap : Nat) (k : Nat) (t : Int) (z : Nat → Int) (w : World) (hk : k ≤ len) (hk0 : 0 < k) (h0 : (z 0 == t) = true) 
    (hc : w.cell? ⟨b, off, none⟩ = some (.int .u8 (z 0))) :
    Calls Tryz.prog 117 #[.slice (some ⟨b, off, none⟩) len cap, .int .i64 k, .int .u8 t] w fun e w' => e = .returned (.tuple #[.int .u64 0, .iface 72 (.int .i64 3)]) ∧ w' = w := by
  go_enter Tryz.func117, Tryz.ntmps117
  go_wp2
  go_ret2
  exact ⟨rfl, rfl⟩

set_option maxHeartbeats 400000 in
theorem number_none (ad : Option Addr) (len cap : Nat) (t : Int) (w : World) (_hlc : len ≤ cap) :
    Calls Tryz.prog 117 #[.slice ad len cap, .int .i64 0, .int .u8 t] w fun e w' => e = .returned (.tuple #[.int .u64 0, .nilIface]) ∧ w' = w := by
  go_enter Tryz.func117, Tryz.ntmps117
  go_wp2
  refine wp_loop_rounds 1 ?_
  rw [rounds_succ]
  go_wp2
  go_ret2
  exact ⟨rfl, rfl⟩

set_option maxHeartbeats 400000 in
theorem number_more (b off len cap : Nat) (k : Nat) (t : Bool) (tn : Int) (htn : tn = if t then 255 else 0) (z : Nat → Int) (w : World) (hk : k ≤ len) (hk8 : k ≤ 8) (hk0 : 0 < k) (hlc : len ≤ cap) (h0 : (z 0 == tn) = false) 
    (hz : ∀ j, j < k → 0 ≤ z j ∧ z j ≤ 255)
    (hc : ∀ j, j < len → w.cell? ⟨b, off + j, none⟩ = some (.int .u8 (z j))) :
    Calls Tryz.prog 117 #[.slice (some ⟨b, off, none⟩) len cap, .int .i64 k, .int .u8 tn] w fun e w' => e = .returned (.tuple #[.int .u64 (valF (fun j => trn t (z j)) k), .nilIface]) ∧ w' = w := by
  have c0 : w.cell? ⟨b, off, none⟩ = some (.int .u8 (z 0)) := by simpa using hc 0 (by omega)
  have HT : Hid (tn = if t then 255 else 0) := htn
  clear htn
  go_enter Tryz.func117, Tryz.ntmps117
  go_wp2
  go_loop [8, 30] (fun n i => ∃ q : Nat, q ≤ k ∧ i = .int .i64 q ∧ n = .int .u64 (valF (fun j => trn t (z j)) q)) (fun _ i => k - (intOf i).toNat)
  case atStart => exact ⟨0, Nat.zero_le _, rfl, rfl⟩
  case round =>
    obtain ⟨q, hq, rfl, rfl⟩ := hrel
    by_cases hlt : q < k
    · have hcq := hc q (by omega)
      have hzq := hz q hlt
      have hb := valF_lt7 (f := fun j => trn t (z j)) (k := q) (by omega) (fun j hj => trn_bd (hz j (by omega)))
      have HS : Hid (bits .or .u64 (valF (fun j => trn t (z j)) q * 256) (IntKind.u64.wrap (bits .xor .u8 (z q) tn)) = valF (fun j => trn t (z j)) (q + 1)) := by
        show _ = _
        rw [xor_trn t tn (z q) HT.out hzq, shift_or _ _ hb (trn_bd hzq)]
        rfl
      go_wp2
      go_round
      case rel => exact ⟨q + 1, by omega, by go_num, by rw [HS.out]⟩
      case measure => simp [intOf]; omega
    · have : q = k := by omega
      subst this
      go_wp2
      go_ret2
      exact ⟨rfl, rfl⟩

/-- An error of the program's, by its number; 0: none. -/
theorem errV_0 : errV 0 = .nilIface := rfl
theorem errV_3 : errV 3 = .iface 72 (.int .i64 3) := rfl
theorem errV_12 : errV 12 = .iface 72 (.int .i64 12) := rfl

theorem number_any (ad : Option Addr) (n cap k : Nat) (t : Bool) (tn : Int) (z : Nat → Int) (w : World) (htn : tn = if t then 255 else 0) (hk8 : k ≤ 8) (hlc : n ≤ cap) (hs : SlAt w ad n z) :
    Calls Tryz.prog 117 #[.slice ad n cap, .int .i64 k, .int .u8 tn] w fun e w' =>
      e = .returned (.tuple #[.int .u64 (numV n (fun j => trn t (z j)) k), errV (numE n (fun j => trn t (z j)) k)]) ∧ w' = w := by
  obtain ⟨hz, hs⟩ := hs
  by_cases h1 : n < k
  · have e : numE n (fun j => trn t (z j)) k = 12 := by simp [numE, h1]
    rw [numV, e, if_neg (by decide), errV_12]
    exact number_short ad n cap k tn w (by omega)
  · by_cases h2 : k = 0
    · subst h2
      have e : numE n (fun j => trn t (z j)) 0 = 0 := by simp [numE]
      rw [numV, e, if_pos rfl, errV_0]
      exact number_none ad n cap tn w hlc
    · obtain ⟨b, off, rfl, hc⟩ := hs (by omega)
      have hz0 := hz 0 (by omega)
      by_cases h3 : z 0 = tn
      · have e : numE n (fun j => trn t (z j)) k = 3 := by
          have : trn t (z 0) = 0 := by rw [h3, htn]; cases t <;> simp [trn]
          simp [numE, h1, this]; omega
        rw [numV, e, if_neg (by decide), errV_3]
        exact number_form b off n cap k tn z w (by omega) (by omega) (by simp [h3]) (by simpa using hc 0 (by omega))
      · have e : numE n (fun j => trn t (z j)) k = 0 := by
          have : trn t (z 0) ≠ 0 := by
            rw [htn] at h3; cases t <;> simp [trn] at h3 ⊢ <;> omega
          simp [numE, h1, this]
        rw [numV, e, if_pos rfl, errV_0]
        exact number_more b off n cap k t tn htn z w (by omega) hk8 (by omega) hlc (by simp [h3]) (fun j hj => hz j (by omega)) hc

theorem number_int (ad : Option Addr) (n cap : Nat) (k : Int) (t : Bool) (tn : Int) (z : Nat → Int) (w : World) (htn : tn = if t then 255 else 0) (h0 : 0 ≤ k) (h8 : k ≤ 8) (hlc : n ≤ cap) (hs : SlAt w ad n z) :
    Calls Tryz.prog 117 #[.slice ad n cap, .int .i64 k, .int .u8 tn] w fun e w' =>
      e = .returned (.tuple #[.int .u64 (numV n (fun j => trn t (z j)) k.toNat), errV (numE n (fun j => trn t (z j)) k.toNat)]) ∧ w' = w := by
  obtain ⟨q, rfl⟩ := Int.eq_ofNat_of_zero_le h0
  exact number_any ad n cap q t tn z w htn (by omega) hlc hs

end Go.Proofs.YtmekplaonlpfkaaGreatDoor
