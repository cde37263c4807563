/- errors.As at a target of type *api.Errno: of nil false; of an api.Errno true, and the target is set. -/
import Derived.Test.YtanchjfodcjlmaaGreatDoorOwnShelf01
import Derived.LaidEql
import Derived.Laws.Externs
import Derived.RowKitTokens
namespace Go.Proofs.YtanchjfodcjlmaaGreatDoor
open Go.RowKit Go.Extern.Stop Go.Stop Go.Extern

theorem as_nil (t : Value) (w : World) :
    Calls Tryz.prog 27 #[.nilIface, t] w fun e w' => e = .returned (.bool false) ∧ w' = w := by
  go_enter Tryz.func27, Tryz.ntmps27
  go_wp2
  go_ret
  exact ⟨rfl, rfl⟩

theorem as_valueOfP (t : Addr) (w : World) : (ReflectliteValue.unpack (.iface 84 (.pointer (some t)))).run Tryz.prog w
    = .ok (.agg #[.pointer (some ⟨4, 84, none⟩), .pointer (some ⟨w.heap.size, 0, none⟩), .int .u64 150]) (w.alloc (.cells #[.pointer (some t)] 84)) := by kernel_rfl
theorem as_typeP (a : Addr) (w : World) : (ReflectliteValue.methodAny (ReflectliteValue.valueError "reflectlite.Value.Type" 0) (fun t _ _ _ => ReflectliteType.toType t) #[.agg #[.pointer (some ⟨4, 84, none⟩), .pointer (some a), .int .u64 150]]).run Tryz.prog w
    = .ok (.iface 134 (.agg #[.pointer (some ⟨4, 84, none⟩)])) w := by kernel_rfl
theorem as_methodKind (h : Value) (w : World) : (Go.method 339 134 (.agg #[h]) "Kind").run Tryz.prog w = .ok (132, h) w := by kernel_rfl
theorem as_kindP (w : World) : ((ReflectliteType.abiMethod fun t => (fun a : Nat => Value.int IntKind.u8 (a : Int)) <$> Rtype.kind t) #[.pointer (some ⟨4, 84, none⟩)]).run Tryz.prog w = .ok (.int .u8 22) w := by kernel_rfl
theorem as_kindE (w : World) : ((ReflectliteType.abiMethod fun t => (fun a : Nat => Value.int IntKind.u8 (a : Int)) <$> Rtype.kind t) #[.pointer (some ⟨4, 81, none⟩)]).run Tryz.prog w = .ok (.int .u8 2) w := by kernel_rfl
theorem as_partsP (a : Addr) (w : World) : (ReflectliteValue.parts (.agg #[.pointer (some ⟨4, 84, none⟩), .pointer (some a), .int .u64 150])).run Tryz.prog w = .ok (some (84, a, 150)) w := by kernel_rfl
theorem as_isNilP (a p : Addr) (W : World) (ha : W.cell? a = some (.pointer (some p))) :
    (ReflectliteValue.method (ReflectliteValue.valueError "reflectlite.Value.IsNil" 0) ReflectliteValue.isNil #[.agg #[.pointer (some ⟨4, 84, none⟩), .pointer (some a), .int .u64 150]]).run Tryz.prog W = .ok (.bool false) W := by
  delta ReflectliteValue.method
  delta ReflectliteValue.method.match_2
  dsimp [Array.getLit]
  simp only [Sem.run_bind, as_partsP, Result.andThen]
  simp [ReflectliteValue.isNil, loadVar, isAgg, underlying, Tryz.underlying84, ha, Result.andThen]
theorem as_methodElem (h : Value) (w : World) : (Go.method 339 134 (.agg #[h]) "Elem").run Tryz.prog w = .ok (142, .agg #[h]) w := by kernel_rfl
theorem as_methodImplements (h : Value) (w : World) : (Go.method 339 134 (.agg #[h]) "Implements").run Tryz.prog w = .ok (143, .agg #[h]) w := by kernel_rfl
theorem as_methodAssignableTo (h : Value) (w : World) : (Go.method 339 134 (.agg #[h]) "AssignableTo").run Tryz.prog w = .ok (140, .agg #[h]) w := by kernel_rfl
theorem as_elemP (w : World) : (ReflectliteType.method ReflectliteType.elem #[.agg #[.pointer (some ⟨4, 84, none⟩)]]).run Tryz.prog w = .ok (.iface 134 (.agg #[.pointer (some ⟨4, 81, none⟩)])) w := by kernel_rfl
theorem as_implementsE (w : World) : (ReflectliteType.relation "Implements" ReflectliteType.implements_ #[.agg #[.pointer (some ⟨4, 81, none⟩)], .iface 134 (.agg #[.pointer (some ⟨4, 29, none⟩)])]).run Tryz.prog w = .ok (.bool true) w := by kernel_rfl
theorem as_typeOfE (v : Value) (w : World) : (ReflectliteType.typeOf #[.iface 81 v]).run Tryz.prog w = .ok (.iface 134 (.agg #[.pointer (some ⟨4, 81, none⟩)])) w := by kernel_rfl
theorem as_assignableE (w : World) : (ReflectliteType.relation "AssignableTo" ReflectliteType.assignableTo #[.agg #[.pointer (some ⟨4, 81, none⟩)], .iface 134 (.agg #[.pointer (some ⟨4, 81, none⟩)])]).run Tryz.prog w = .ok (.bool true) w := by kernel_rfl
theorem as_valueOfE (x : Int) (w : World) : (ReflectliteValue.unpack (.iface 81 (.int .i64 x))).run Tryz.prog w
    = .ok (.agg #[.pointer (some ⟨4, 81, none⟩), .pointer (some ⟨w.heap.size, 0, none⟩), .int .u64 130]) (w.alloc (.cells #[.int .i64 x] 81)) := by kernel_rfl
theorem as_elemOfP (w : World) : (Rtype.elem? 84).run Tryz.prog w = .ok (some 81) w := by kernel_rfl
theorem as_mkE (p : Addr) (w : World) : (ReflectliteValue.mk 81 p ReflectliteValue.flagAddr).run Tryz.prog w = .ok (.agg #[.pointer (some ⟨4, 81, none⟩), .pointer (some p), .int .u64 386]) w := by kernel_rfl
theorem as_elemVP (a p : Addr) (W : World) (ha : W.cell? a = some (.pointer (some p))) :
    (ReflectliteValue.method (ReflectliteValue.valueError "reflectlite.Value.Elem" 0) ReflectliteValue.elem #[.agg #[.pointer (some ⟨4, 84, none⟩), .pointer (some a), .int .u64 150]]).run Tryz.prog W
      = .ok (.agg #[.pointer (some ⟨4, 81, none⟩), .pointer (some p), .int .u64 386]) W := by
  delta ReflectliteValue.method
  delta ReflectliteValue.method.match_2
  dsimp [Array.getLit]
  simp only [Sem.run_bind, as_partsP, Result.andThen]
  simp [ReflectliteValue.elem, loadVar, isAgg, underlying, Tryz.underlying84, ha, Result.andThen, as_elemOfP, as_mkE]
theorem as_partsEa (a : Addr) (w : World) : (ReflectliteValue.parts (.agg #[.pointer (some ⟨4, 81, none⟩), .pointer (some a), .int .u64 386])).run Tryz.prog w = .ok (some (81, a, 386)) w := by kernel_rfl
theorem as_partsE (a : Addr) (w : World) : (ReflectliteValue.parts (.agg #[.pointer (some ⟨4, 81, none⟩), .pointer (some a), .int .u64 130])).run Tryz.prog w = .ok (some (81, a, 130)) w := by kernel_rfl
theorem as_directE (w : World) : (Rtype.directlyAssignable 81 81).run Tryz.prog w = .ok true w := by kernel_rfl
theorem as_setE (ta b : Addr) (x : Int) (old : Value) (W : World) (hb : W.cell? b = some (.int .i64 x)) (ht : W.cell? ta = some old) (hf : W.frozen? ta = false) :
    (ReflectliteValue.set #[.agg #[.pointer (some ⟨4, 81, none⟩), .pointer (some ta), .int .u64 386], .agg #[.pointer (some ⟨4, 81, none⟩), .pointer (some b), .int .u64 130]]).run Tryz.prog W
      = .ok (.tuple #[]) (W.setCell ta (.int .i64 x)) := by
  delta ReflectliteValue.set
  delta ReflectliteValue.set.match_3
  dsimp [Array.getLit]
  simp only [Sem.run_bind, as_partsEa, as_partsE, Result.andThen]
  simp [ReflectliteValue.flagAddr, loadVar, isAgg, underlying, Tryz.underlying81, hb, Result.andThen, as_directE, storeVar, Value.cells, storeCells, Addr.add]
  rw [run_store Tryz.prog W ta _ _ (by rfl)]
  simp [ht, hf]

set_option maxHeartbeats 4000000 in
theorem as_hit (x : Int) (t : Addr) (old : Value) (w : World) (hg : w.cell? ⟨0, 0, none⟩ = some (.iface 134 (.agg #[.pointer (some ⟨4, 29, none⟩)]))) (ht0 : w.cell? t = some old) (hf0 : w.frozen? t = false) :
    Calls Tryz.prog 27 #[.iface 81 (.int .i64 x), .iface 84 (.pointer (some t))] w fun ev w' => ev = .returned (.bool true) ∧ w' = ((((w.alloc (.cells #[.pointer (some t)] 84)).alloc (.cells #[.pointer (some ⟨4, 84, none⟩), .pointer (some ⟨w.heap.size, 0, none⟩), .int .u64 150] 105)).alloc (.cells #[.pointer (some ⟨4, 84, none⟩), .pointer (some ⟨w.heap.size, 0, none⟩), .int .u64 150] 105)).alloc (.cells #[.int .i64 x] 81)).setCell t (.int .i64 x) := by
  have h6 := @run_callFunc_extern Tryz.prog 46 _ (fun args => ReflectliteValue.unpack (args.getD 0 (.tuple #[]))) Tryz.func46 (by kernel_rfl) (by kernel_rfl) (by kernel_rfl) (by kernel_rfl)
  have h7 := @run_callFunc_extern Tryz.prog 47 _ (ReflectliteValue.methodAny (ReflectliteValue.valueError "reflectlite.Value.Type" 0) (fun t _ _ _ => ReflectliteType.toType t)) Tryz.func47 (by kernel_rfl) (by kernel_rfl) (by kernel_rfl) (by kernel_rfl)
  have h8 := @run_callFunc_extern Tryz.prog 48 _ (ReflectliteValue.method (ReflectliteValue.valueError "reflectlite.Value.IsNil" 0) ReflectliteValue.isNil) Tryz.func48 (by kernel_rfl) (by kernel_rfl) (by kernel_rfl) (by kernel_rfl)
  have h27 := @run_callFunc_extern Tryz.prog 132 _ (ReflectliteType.abiMethod fun t => do pure (.int .u8 (← Rtype.kind t))) Tryz.func132 (by kernel_rfl) (by kernel_rfl) (by kernel_rfl) (by kernel_rfl)
  have h37 := @run_callFunc_extern Tryz.prog 142 _ (ReflectliteType.method ReflectliteType.elem) Tryz.func142 (by kernel_rfl) (by kernel_rfl) (by kernel_rfl) (by kernel_rfl)
  have h38 := @run_callFunc_extern Tryz.prog 143 _ (ReflectliteType.relation "Implements" ReflectliteType.implements_) Tryz.func143 (by kernel_rfl) (by kernel_rfl) (by kernel_rfl) (by kernel_rfl)
  have h10 := @run_callFunc_extern Tryz.prog 67 _ (ReflectliteType.typeOf) Tryz.func67 (by kernel_rfl) (by kernel_rfl) (by kernel_rfl) (by kernel_rfl)
  have h35 := @run_callFunc_extern Tryz.prog 140 _ (ReflectliteType.relation "AssignableTo" ReflectliteType.assignableTo) Tryz.func140 (by kernel_rfl) (by kernel_rfl) (by kernel_rfl) (by kernel_rfl)
  have h11 := @run_callFunc_extern Tryz.prog 68 _ (ReflectliteValue.method (ReflectliteValue.valueError "reflectlite.Value.Elem" 0) ReflectliteValue.elem) Tryz.func68 (by kernel_rfl) (by kernel_rfl) (by kernel_rfl) (by kernel_rfl)
  have h12 := @run_callFunc_extern Tryz.prog 69 _ (ReflectliteValue.set) Tryz.func69 (by kernel_rfl) (by kernel_rfl) (by kernel_rfl) (by kernel_rfl)
  have k_typeOfE := as_typeOfE
  have k_methodAssignableTo := as_methodAssignableTo
  have k_assignableE := as_assignableE
  have k_valueOfE := as_valueOfE
  have k_valueOfP := as_valueOfP
  have k_typeP := as_typeP
  have k_methodKind := as_methodKind
  have k_methodElem := as_methodElem
  have k_methodImplements := as_methodImplements
  have k_kindP := as_kindP
  have k_kindE := as_kindE
  have k_elemP := as_elemP
  have k_implementsE := as_implementsE
  have n8 := as_isNilP ⟨w.heap.size, 0, none⟩ t ((w.alloc (.cells #[.pointer (some t)] 84)).alloc (.cells #[.pointer (some ⟨4, 84, none⟩), .pointer (some ⟨w.heap.size, 0, none⟩), .int .u64 150] 105)) (by simp)
  have hlt : 0 < w.heap.size := by
    rcases Nat.eq_zero_or_pos w.heap.size with h0 | h
    · simp [World.cell?, h0] at hg
    · exact h
  have hg2 : ((w.alloc (.cells #[.pointer (some t)] 84)).alloc (.cells #[.pointer (some ⟨4, 84, none⟩), .pointer (some ⟨w.heap.size, 0, none⟩), .int .u64 150] 105)).cell? ⟨0, 0, none⟩ = some (.iface 134 (.agg #[.pointer (some ⟨4, 29, none⟩)])) := by
    rw [World.cell?_alloc_lt _ _ ⟨0, 0, none⟩ (by simp), World.cell?_alloc_lt _ _ ⟨0, 0, none⟩ hlt]; exact hg
  have htl : t.block < w.heap.size := by
    rcases Nat.lt_or_ge t.block w.heap.size with h | h
    · exact h
    · simp [World.cell?, Array.getElem?_eq_none h] at ht0
  have el := as_elemVP ⟨w.heap.size, 0, none⟩ t (((w.alloc (.cells #[.pointer (some t)] 84)).alloc (.cells #[.pointer (some ⟨4, 84, none⟩), .pointer (some ⟨w.heap.size, 0, none⟩), .int .u64 150] 105)).alloc (.cells #[.pointer (some ⟨4, 84, none⟩), .pointer (some ⟨w.heap.size, 0, none⟩), .int .u64 150] 105)) (by rw [World.cell?_alloc_lt _ _ ⟨w.heap.size, 0, none⟩ (by simp; omega)]; simp)
  have st := as_setE t ⟨w.heap.size + 1 + 1 + 1, 0, none⟩ x old ((((w.alloc (.cells #[.pointer (some t)] 84)).alloc (.cells #[.pointer (some ⟨4, 84, none⟩), .pointer (some ⟨w.heap.size, 0, none⟩), .int .u64 150] 105)).alloc (.cells #[.pointer (some ⟨4, 84, none⟩), .pointer (some ⟨w.heap.size, 0, none⟩), .int .u64 150] 105)).alloc (.cells #[.int .i64 x] 81))
    (by rw [World.cell?_alloc_at _ _ _ _ (by simp)]; rfl)
    (by rw [World.cell?_alloc_lt _ _ t (by simp; omega), World.cell?_alloc_lt _ _ t (by simp; omega), World.cell?_alloc_lt _ _ t (by simp; omega), World.cell?_alloc_lt _ _ t htl]; exact ht0)
    (by rw [World.frozen?_alloc_old _ _ t (by simp; omega), World.frozen?_alloc_old _ _ t (by simp; omega), World.frozen?_alloc_old _ _ t (by simp; omega), World.frozen?_alloc_old _ _ t (Nat.ne_of_lt htl)]; exact hf0)
  go_enter Tryz.func27, Tryz.ntmps27
  go_wp2
  refine wp_loop_rounds 1 ?_
  rw [rounds_succ]
  go_wp2
  go_ret
  exact ⟨rfl, rfl⟩
end Go.Proofs.YtanchjfodcjlmaaGreatDoor
/- num: the number of an error. -/
namespace Go.Proofs.YtanchjfodcjlmaaGreatDoor.Cd
open Go.RowKit

/-- The library's variable that holds the type error's own handle. -/
def Glob (w : World) : Prop := w.cell? ⟨0, 0, none⟩ = some (.iface 134 (.agg #[.pointer (some ⟨4, 29, none⟩)]))
theorem Glob.below {w w' : World} {B : Nat} (h : Glob w) (hb : Below B w w') (hB : 0 < B) : Glob w' := by
  unfold Glob at *
  rw [hb.cell (p := ⟨0, 0, none⟩) hB]; exact h
theorem Glob.pos {w : World} (h : Glob w) : 0 < w.heap.size := World.block_lt_of_cell? w ⟨0, 0, none⟩ h
theorem Glob.frm {w w' : World} {S : List Nat} (h : Glob w) (hf : Frm S w w') (hS : 0 ∉ S) : Glob w' := by
  unfold Glob at *
  rw [World.cell?_of_block (a := ⟨0, 0, none⟩) (hf.block 0 (World.block_lt_of_cell? w ⟨0, 0, none⟩ h) hS)]; exact h

set_option maxHeartbeats 400000 in
theorem num_nil (w : World) :
    Calls Tryz.prog 11 #[.nilIface] w fun e w' => e = .returned (.int .i64 0) ∧ Below w.heap.size w w' := by
  go_enter Tryz.func11, Tryz.ntmps11
  go_wp2
  go_ret
  exact ⟨rfl, (by repeat (first | exact Below.refl _ _ | refine Below.alloc ?_ (by simp; try omega) _ | refine Below.setCell ?_ (by simp) _ | refine below_drewN ?_ _ | refine Below.drew ?_))⟩

set_option maxHeartbeats 400000 in
theorem num_hit (x : Int) (w : World) (hg : Glob w) :
    Calls Tryz.prog 11 #[.iface 81 (.int .i64 x)] w fun e w' => e = .returned (.int .i64 x) ∧ Below w.heap.size w w' := by
  have hp := hg.pos
  have hg1 : Glob (w.alloc (.cells #[.int .i64 0] 81)) := hg.below ((Below.refl _ w).alloc (Nat.le_refl _) _) hp
  have ht : (w.alloc (.cells #[.int .i64 0] 81)).cell? ⟨w.heap.size, 0, none⟩ = some (.int .i64 0) := by simp
  have hf : (w.alloc (.cells #[.int .i64 0] 81)).frozen? ⟨w.heap.size, 0, none⟩ = false := by simp
  go_enter Tryz.func11, Tryz.ntmps11
  go_wp2_with (go_at_call 27; refine (as_hit x _ _ _ hg1 ht hf).mono ?_; rintro e w' ⟨rfl, rfl⟩)
  go_ret
  exact ⟨rfl, (by repeat (first | exact Below.refl _ _ | refine Below.alloc ?_ (by simp; try omega) _ | refine Below.setCell ?_ (by simp) _ | refine below_drewN ?_ _ | refine Below.drew ?_))⟩

theorem num_any (x : Int) (w : World) (hg : Glob w) :
    Calls Tryz.prog 11 #[errV x] w fun e w' => e = .returned (.int .i64 x) ∧ Below w.heap.size w w' := by
  by_cases h : x = 0
  · subst h; exact num_nil w
  · rw [errV_ne h]; exact num_hit x w hg

end Go.Proofs.YtanchjfodcjlmaaGreatDoor.Cd
/- Ints that lie somewhere; branches of a condition: their 35 cells, and how they lie. -/
namespace Go.Proofs.YtanchjfodcjlmaaGreatDoor.Cd
open Go.RowKit

def Zb (z : Nat → Int) : Prop := ∀ j, j < 32 → 0 ≤ z j ∧ z j ≤ 255
def Ib (n : Int) : Prop := -9223372036854775808 ≤ n ∧ n ≤ 9223372036854775807
theorem tsize : Tryz.prog.types.size = 239 := by kernel_rfl
theorem cellsH : Tryz.prog.cellsOf 43 = 32 := by kernel_rfl
theorem cellsI : Tryz.prog.cellsOf 3 = 1 := by kernel_rfl
theorem cellsB : Tryz.prog.cellsOf 5 = 1 := by kernel_rfl
theorem cellsS : Tryz.prog.cellsOf 71 = 1 := by kernel_rfl
theorem infoI : (Tryz.prog.info? 3).map (fun i => (i.zero, i.size, i.bytes)) = some (some (.int .i64 0), 1, 8) := by kernel_rfl
/-- Ints that lie at an address. -/
def IsAt (w : World) (ad : Option Addr) (n : Nat) (z : Nat → Int) : Prop := 0 < n → ∃ b off, ad = some ⟨b, off, none⟩ ∧ ∀ j, j < n → w.cell? ⟨b, off + j, none⟩ = some (.int .i64 (z j))
theorem IsAt.below {w w' : World} {ad : Option Addr} {n : Nat} {z : Nat → Int} (h : IsAt w ad n z) (hb : Below w.heap.size w w') : IsAt w' ad n z := by
  intro hn
  obtain ⟨b, off, e, hc⟩ := h hn
  refine ⟨b, off, e, fun j hj => ?_⟩
  have := hc j hj
  have hl : b < w.heap.size := World.block_lt_of_cell? w ⟨b, off + j, none⟩ this
  rw [hb.cell (p := ⟨b, off + j, none⟩) hl]; exact this

/-- What a branch says: its keys, its lock, its two bounds. -/
structure Bv where
  n : Nat
  z : Nat → Int
  lk : Nat → Int
  af : Int
  ol : Int
instance : Inhabited Bv := ⟨⟨0, fun _ => 0, fun _ => 0, 0, 0⟩⟩
structure Bv.Ok (x : Bv) : Prop where
  z : ∀ j, j < x.n → Ib (x.z j)
  lk : Zb x.lk
  af : Ib x.af
  ol : Ib x.ol
/-- Its 35 cells, the keys at ka. -/
def brl (x : Bv) (ka : Option Addr) (kc : Nat) : List Value := .slice ka x.n kc :: (bl x.lk 32 ++ [.int .i64 x.af, .int .i64 x.ol])
theorem brl_length (x : Bv) (ka : Option Addr) (kc : Nat) : (brl x ka kc).length = 35 := by simp [brl, bl_length]
def bv (x : Bv) (ka : Option Addr) (kc : Nat) : Array Value := (brl x ka kc).toArray
theorem bv_size (x : Bv) (ka : Option Addr) (kc : Nat) : (bv x ka kc).size = 35 := by simp [bv, brl_length]
theorem brl_one (x : Bv) (ka : Option Addr) (kc : Nat) : ∀ u ∈ brl x ka kc, u.oneCell' = true := by
  intro u hu
  simp only [brl, List.mem_cons, List.mem_append, List.not_mem_nil, or_false] at hu
  rcases hu with rfl | hu | rfl | rfl
  · rfl
  · exact bl_one _ _ u hu
  · rfl
  · rfl
theorem bv_one (x : Bv) (ka : Option Addr) (kc : Nat) : (bv x ka kc).all (·.oneCell') = true := by
  have : (bv x ka kc) = (brl x ka kc).toArray := rfl
  rw [this]
  exact all_oneCell_toArray (brl_one x ka kc)
theorem brl_0 (x : Bv) (ka : Option Addr) (kc : Nat) : (brl x ka kc)[0]? = some (.slice ka x.n kc) := rfl
theorem brl_33 (x : Bv) (ka : Option Addr) (kc : Nat) : (brl x ka kc)[33]? = some (.int .i64 x.af) := by
  simp only [brl, List.getElem?_cons_succ]
  rw [List.getElem?_append_right (by simp [bl_length])]
  simp [bl_length]
theorem brl_34 (x : Bv) (ka : Option Addr) (kc : Nat) : (brl x ka kc)[34]? = some (.int .i64 x.ol) := by
  simp only [brl, List.getElem?_cons_succ]
  rw [List.getElem?_append_right (by simp [bl_length])]
  simp [bl_length]
theorem szB : (Tryz.prog.info? 101).map (·.size) = some 35 := by kernel_rfl
theorem szR : (Tryz.prog.info? 73).map (·.size) = some 35 := by kernel_rfl
theorem szBv (x : Bv) (ka : Option Addr) (kc : Nat) : (Tryz.prog.info? 101).map (·.size) = some (bv x ka kc).size := by rw [bv_size]; exact szB
theorem szRv (x : Bv) (ka : Option Addr) (kc : Nat) : (Tryz.prog.info? 73).map (·.size) = some (bv x ka kc).size := by rw [bv_size]; exact szR
theorem szBl (x : Bv) (ka : Option Addr) (kc : Nat) : (Tryz.prog.info? 101).map (·.size) = some (brl x ka kc).length := by rw [brl_length]; exact szB
theorem szRl (x : Bv) (ka : Option Addr) (kc : Nat) : (Tryz.prog.info? 73).map (·.size) = some (brl x ka kc).length := by rw [brl_length]; exact szR

/-- What a block that holds a branch gives a walk. -/
structure BBox (w : World) (g : Nat) (x : Bv) (ka : Option Addr) (kc : Nat) : Prop where
  c0 : w.cell? ⟨g, 0, none⟩ = some (.slice ka x.n kc)
  c33 : w.cell? ⟨g, 33, none⟩ = some (.int .i64 x.af)
  c34 : w.cell? ⟨g, 34, none⟩ = some (.int .i64 x.ol)
theorem bbox_of {w : World} {g : Nat} {x : Bv} {ka : Option Addr} {kc : Nat} {t : TypeId} {fr : Nat × Nat} (h : w.heap[g]? = some (.cells (bv x ka kc) t fr)) : BBox w g x ka kc := by
  refine ⟨?_, ?_, ?_⟩
  · rw [cell_of_row w g 0 _ _ _ h]; simp [bv, brl_0]
  · rw [cell_of_row w g 33 _ _ _ h]; simp [bv, brl_33]
  · rw [cell_of_row w g 34 _ _ _ h]; simp [bv, brl_34]

/-- n branches lie at an address. -/
structure BrAt (w : World) (ad : Option Addr) (n : Nat) (X : Nat → Bv) : Prop where
  ok : ∀ i, i < n → (X i).Ok
  at_ : 0 < n → ∃ b off, ad = some ⟨b, off, none⟩ ∧ ∀ i, i < n → ∃ ka kc, w.rangeAt b (off + i * 35) (brl (X i) ka kc) ∧ IsAt w ka (X i).n (X i).z
theorem BrAt.nil (w : World) (ad : Option Addr) (X : Nat → Bv) : BrAt w ad 0 X := ⟨fun _ h => by omega, fun h => by omega⟩
theorem BrAt.below {w w' : World} {ad : Option Addr} {n : Nat} {X : Nat → Bv} (h : BrAt w ad n X) (hb : Below w.heap.size w w') : BrAt w' ad n X := by
  refine ⟨h.ok, fun hn => ?_⟩
  obtain ⟨b, off, e, hr⟩ := h.at_ hn
  refine ⟨b, off, e, fun i hi => ?_⟩
  obtain ⟨ka, kc, h1, h2⟩ := hr i hi
  exact ⟨ka, kc, range_below h1 hb, h2.below hb⟩

/-- The key ahead of the key j. -/
def lastK (z : Nat → Int) (j : Nat) : Int := if j = 0 then -1 else z (j - 1)
theorem lastK_succ (z : Nat → Int) (j : Nat) : lastK z (j + 1) = z j := by simp [lastK]
/-- Keys that are parties, ascending. -/
def KOk (z : Nat → Int) (n : Nat) : Prop := ∀ j, j < n → lastK z j < z j ∧ z j < 16
instance (z : Nat → Int) (n : Nat) : Decidable (KOk z n) := inferInstanceAs (Decidable (∀ j, j < n → _))
/-- A branch that may be. -/
def BOk (x : Bv) : Prop := (KOk x.z x.n ∧ 0 < x.n) ∧ (0 ≤ x.af ∧ x.af ≤ 1099511627776) ∧ (0 ≤ x.ol ∧ x.ol ≤ 65536)
instance (x : Bv) : Decidable (BOk x) := inferInstanceAs (Decidable (_ ∧ _))
def AllOk (X : Nat → Bv) (n : Nat) : Prop := ∀ i, i < n → BOk (X i)
instance (X : Nat → Bv) (n : Nat) : Decidable (AllOk X n) := inferInstanceAs (Decidable (∀ i, i < n → _))
/-- A condition that may be. -/
def COk (X : Nat → Bv) (n : Nat) : Prop := (1 ≤ n ∧ n ≤ 8) ∧ AllOk X n
instance (X : Nat → Bv) (n : Nat) : Decidable (COk X n) := inferInstanceAs (Decidable (_ ∧ _))
def chkE (X : Nat → Bv) (n : Nat) : Int := if COk X n then 0 else 1
end Go.Proofs.YtanchjfodcjlmaaGreatDoor.Cd
/- cond.Check. -/
namespace Go.Proofs.YtanchjfodcjlmaaGreatDoor.Cd
open Go.RowKit

theorem within_any (n m : Int) (w : World) :
    Calls Tryz.prog 95 #[.int .i64 n, .int .i64 m] w fun e w' => e = .returned (.bool (decide (0 ≤ n ∧ n ≤ m))) ∧ w' = w := by
  by_cases h : 0 ≤ n
  · go_enter Tryz.func95, Tryz.ntmps95
    go_wp2
    go_ret
    simp [h]
  · have e : decide (0 ≤ n ∧ n ≤ m) = false := by simp; omega
    rw [e]
    go_enter Tryz.func95, Tryz.ntmps95
    go_wp2
    go_ret
    simp

set_option maxHeartbeats 800000 in
theorem keys_any (ka : Option Addr) (n kc : Nat) (z : Nat → Int) (w : World) (h : IsAt w ka n z) (hn : n ≤ 1000000) :
    Calls Tryz.prog 94 #[.slice ka n kc] w fun e w' => e = .returned (.bool (decide (KOk z n ∧ 0 < n))) ∧ Below w.heap.size w w' := by
  have HI : Hid (IsAt w ka n z) := h
  have hb0 := Below.refl w.heap.size w
  clear h
  go_enter Tryz.func94, Tryz.ntmps94
  go_wp2
  go_loopw [3, 5, 8] (fun lv kv iv wr => ∃ i : Nat, i ≤ n ∧ lv = .int .i64 (lastK z i) ∧ iv = .int .i64 i ∧ KOk z i ∧ Below w.heap.size w wr) (fun _ _ iv _ => n + 1 - (intOf iv).toNat)
  case atStart => exact ⟨0, by omega, rfl, rfl, fun j hj => by omega, hb0⟩
  case round =>
    clear hb0
    obtain ⟨i, hi, rfl, rfl, hk, hb⟩ := hrel
    have HK : Hid (KOk z i) := hk
    clear hk
    by_cases hlt : i < n
    · have hlt' : (i : Int) < n := by omega
      obtain ⟨b, off, rfl, hc⟩ := HI.out (by omega)
      have hci : wr.cell? ⟨b, off + i, none⟩ = some (.int .i64 (z i)) := by
        have := hc i hlt
        rw [hb.cell (p := ⟨b, off + i, none⟩) (World.block_lt_of_cell? w ⟨b, off + i, none⟩ this)]; exact this
      clear hc
      by_cases h1 : lastK z i < z i
      · have h1' : ¬ z i ≤ lastK z i := by omega
        by_cases h2 : z i < 16
        · have h2' : ¬ 16 ≤ z i := by omega
          have HN : Hid (KOk z (i + 1)) := fun j hj => by
            by_cases e : j = i
            · subst e; exact ⟨h1, h2⟩
            · exact HK.out j (by omega)
          have e1 := lastK_succ z i
          generalize lastK z i = q at *
          go_wp2
          go_roundw
          case rel => exact ⟨i + 1, by omega, by rw [e1], by go_num, HN.out, hb⟩
          case measure => simp [intOf]; omega
        · have h2' : 16 ≤ z i := by omega
          have HN : Hid (¬ KOk z n) := fun hk => h2 (hk i hlt).2
          generalize lastK z i = q at *
          go_wp2
          go_ret
          exact ⟨by simp [HN.out], hb⟩
      · have h1' : z i ≤ lastK z i := by omega
        have HN : Hid (¬ KOk z n) := fun hk => h1 (hk i hlt).1
        generalize lastK z i = q at *
        go_wp2
        go_ret
        exact ⟨by simp [HN.out], hb⟩
    · obtain rfl : i = n := by omega
      have hnn : ¬ ((i : Int) < i) := by omega
      have hk := HK.out
      go_wp2
      go_ret
      exact ⟨by simp, hb⟩

set_option maxHeartbeats 800000 in
theorem mayBe_any (x : Bv) (ka : Option Addr) (kc : Nat) (w : World) (h : IsAt w ka x.n x.z) (hn : x.n ≤ 1000000) :
    Calls Tryz.prog 71 #[.agg (bv x ka kc)] w fun e w' => e = .returned (.bool (decide (BOk x))) ∧ Below w.heap.size w w' := by
  have HI : Hid (IsAt (w.alloc (.cells (bv x ka kc) 101)) ka x.n x.z) := h.below ((Below.refl _ w).alloc (Nat.le_refl _) _)
  have hb0 : Below w.heap.size w (w.alloc (.cells (bv x ka kc) 101)) := (Below.refl _ w).alloc (Nat.le_refl _) _
  have hs0 : w.heap.size + 1 = (w.alloc (.cells (bv x ka kc) 101)).heap.size := by simp
  obtain ⟨c0, c33, c34⟩ := bbox_of (heap_alloc_new w (.cells (bv x ka kc) 101))
  have hk := keys_any ka x.n kc x.z _ HI.out hn
  clear h
  go_enter Tryz.func71, Tryz.ntmps71
  go_wp2_with (first | (refine Go.Great.wpList_boxTo rfl _ _ rfl _ rfl _ rfl (bv x ka kc) rfl ?_) | fail)
  generalize w.alloc (.cells (bv x ka kc) 101) = W0 at *
  have W0lt : w.heap.size < W0.heap.size := by omega
  have kc33 : ∀ w1, Below W0.heap.size W0 w1 → w1.cell? ⟨w.heap.size, 33, none⟩ = some (.int .i64 x.af) := fun w1 hb => by rw [hb.cell (p := ⟨w.heap.size, 33, none⟩) W0lt]; exact c33
  have kc34 : ∀ w1, Below W0.heap.size W0 w1 → w1.cell? ⟨w.heap.size, 34, none⟩ = some (.int .i64 x.ol) := fun w1 hb => by rw [hb.cell (p := ⟨w.heap.size, 34, none⟩) W0lt]; exact c34
  clear c33 c34 HI
  by_cases h1 : KOk x.z x.n ∧ 0 < x.n
  · have e1 : decide (KOk x.z x.n ∧ 0 < x.n) = true := by simp [h1]
    rw [e1] at hk
    by_cases h2 : 0 ≤ x.af ∧ x.af ≤ 1099511627776
    · have e2 : decide (0 ≤ x.af ∧ x.af ≤ 1099511627776) = true := by simp [h2]
      have HE : Hid (decide (BOk x) = decide (0 ≤ x.ol ∧ x.ol ≤ 65536)) := by show _ = _; simp [BOk, h1, h2]
      have hw1 := within_any x.af 1099511627776
      rw [e2] at hw1
      have hw2 := within_any x.ol 65536
      generalize decide (0 ≤ x.ol ∧ x.ol ≤ 65536) = r at *
      clear e1 e2 h1 h2
      go_wp2_with fail
      refine hk.mono ?_
      rintro e w1 ⟨rfl, hb1⟩
      have d33 := kc33 w1 hb1
      have d34 := kc34 w1 hb1
      clear kc33 kc34 hk
      go_wp2_with fail
      refine (hw1 w1).mono ?_
      rintro e w2 ⟨rfl, rfl⟩
      go_wp2_with fail
      refine (hw2 _).mono ?_
      rintro e w3 ⟨rfl, rfl⟩
      go_wp2
      go_ret
      exact ⟨by rw [HE.out]; rfl, Below.trans hb0 (hb1.mono (by omega))⟩
    · have e2 : decide (0 ≤ x.af ∧ x.af ≤ 1099511627776) = false := by simp only [decide_eq_false_iff_not]; exact h2
      have HE : Hid (decide (BOk x) = false) := by show _ = _; simp only [decide_eq_false_iff_not]; exact fun h => h2 h.2.1
      have hw1 := within_any x.af 1099511627776
      rw [e2] at hw1
      clear e1 e2 h1 h2
      go_wp2_with fail
      refine hk.mono ?_
      rintro e w1 ⟨rfl, hb1⟩
      have d33 := kc33 w1 hb1
      clear kc33 kc34 hk
      go_wp2_with fail
      refine (hw1 w1).mono ?_
      rintro e w2 ⟨rfl, rfl⟩
      go_wp2
      go_ret
      exact ⟨by rw [HE.out]; rfl, Below.trans hb0 (hb1.mono (by omega))⟩
  · have e1 : decide (KOk x.z x.n ∧ 0 < x.n) = false := by simp only [decide_eq_false_iff_not]; exact h1
    rw [e1] at hk
    have HE : Hid (decide (BOk x) = false) := by show _ = _; simp only [decide_eq_false_iff_not]; exact fun h => h1 h.1
    clear e1 h1 kc33 kc34
    go_wp2_with fail
    refine hk.mono ?_
    rintro e w1 ⟨rfl, hb1⟩
    clear hk
    go_wp2
    go_ret
    exact ⟨by rw [HE.out]; rfl, Below.trans hb0 (hb1.mono (by omega))⟩

set_option maxHeartbeats 800000 in
theorem bad_any (x : Bv) (ka : Option Addr) (kc : Nat) (w : World) (h : IsAt w ka x.n x.z) (hn : x.n ≤ 1000000) :
    Calls Tryz.prog 70 #[.agg (bv x ka kc)] w fun e w' => e = .returned (.bool (!decide (BOk x))) ∧ Below w.heap.size w w' := by
  have hI := h.below ((Below.refl _ w).alloc (Nat.le_refl _) (.cells (bv x ka kc) 101))
  have hb0 : Below w.heap.size w (w.alloc (.cells (bv x ka kc) 101)) := (Below.refl _ w).alloc (Nat.le_refl _) _
  have hbx := heap_alloc_new w (.cells (bv x ka kc) 101)
  have hm := mayBe_any x ka kc _ hI hn
  clear h hI
  generalize decide (BOk x) = r at *
  go_enter Tryz.func70, Tryz.ntmps70
  go_wp2_with (first | (refine Go.Great.wpList_boxTo rfl _ _ rfl _ rfl _ rfl (bv x ka kc) rfl ?_) | (refine wpList_load_row rfl 101 _ rfl w.heap.size rfl _ (bv x ka kc) _ _ hbx Tryz.underlying101 rfl (szBv x ka kc) ?_) | (go_at_call 71; refine hm.mono ?_; rintro e w1 ⟨rfl, hb1⟩) | fail)
  go_ret
  exact ⟨rfl, Below.trans hb0 (hb1.mono hb0.size)⟩

set_option maxHeartbeats 1600000 in
theorem index_any (ad : Option Addr) (n cap : Nat) (X : Nat → Bv) (w : World) (h : BrAt w ad n X) (hn : n ≤ 1000000) (hx : ∀ i, i < n → (X i).n ≤ 1000000) :
    Calls Tryz.prog 96 #[.slice ad n cap, .func (.func 70) #[] #[]] w fun e w' => (∃ q : Int, e = .returned (.int .i64 q) ∧ decide (q ≥ 0) = !decide (AllOk X n)) ∧ Below w.heap.size w w' := by
  have HB : Hid (BrAt w ad n X) := h
  have hb0 := Below.refl w.heap.size w
  have eg : ∀ args w, (callFunc 70 args).run Tryz.prog w = .ok (.enter 70 args) w := enters_of Tryz.func70 (by kernel_rfl) rfl
  clear h
  go_enter Tryz.func96, Tryz.ntmps96
  go_wp2
  go_loopw [5, 8] (fun _ iv wr => ∃ i : Nat, i ≤ n ∧ iv = .int .i64 i ∧ AllOk X i ∧ Below w.heap.size w wr) (fun _ iv _ => n + 1 - (intOf iv).toNat)
  case atStart => exact ⟨0, by omega, rfl, fun j hj => by omega, hb0⟩
  case round =>
    clear hb0
    obtain ⟨i, hi, rfl, hk, hb⟩ := hrel
    have HK : Hid (AllOk X i) := hk
    clear hk
    by_cases hlt : i < n
    · have hlt' : (i : Int) < n := by omega
      obtain ⟨b, off, rfl, hc⟩ := HB.out.at_ (by omega)
      obtain ⟨ka, kc, hr0, hI0⟩ := hc i hlt
      have HR : Hid (wr.rangeAt b (off + i * 35) (brl (X i) ka kc)) := range_below hr0 hb
      have hcall := bad_any (X i) ka kc wr (hI0.below hb) (hx i hlt)
      clear hc hr0 hI0
      by_cases hq : BOk (X i)
      · have e1 : decide (BOk (X i)) = true := by simp [hq]
        rw [e1] at hcall
        have HN : Hid (AllOk X (i + 1)) := fun j hj => by
          by_cases e : j = i
          · subst e; exact hq
          · exact HK.out j (by omega)
        clear e1 hq
        go_wp2_with (first | (refine wpList_load_mid rfl 101 _ rfl b (off + i * 35) rfl (brl (X i) ka kc) _ HR.out Tryz.underlying101 rfl (szBl _ _ _) ?_) | (go_at_fn 70; refine hcall.mono ?_; rintro e w1 ⟨rfl, hb1⟩) | fail)
        go_roundw
        case rel => exact ⟨i + 1, by omega, by go_num, HN.out, hb.trans (hb1.mono hb.size)⟩
        case measure => simp [intOf]; omega
      · have e1 : decide (BOk (X i)) = false := by simpa using hq
        rw [e1] at hcall
        have HN : Hid (¬ AllOk X n) := fun h => hq (h i hlt)
        clear e1 hq
        go_wp2_with (first | (refine wpList_load_mid rfl 101 _ rfl b (off + i * 35) rfl (brl (X i) ka kc) _ HR.out Tryz.underlying101 rfl (szBl _ _ _) ?_) | (go_at_fn 70; refine hcall.mono ?_; rintro e w1 ⟨rfl, hb1⟩) | fail)
        go_ret
        refine ⟨⟨_, rfl, ?_⟩, hb.trans (hb1.mono hb.size)⟩
        have := HN.out
        simp [this]
    · obtain rfl : i = n := by omega
      have hnn : ¬ ((i : Int) < i) := by omega
      have hk := HK.out
      go_wp2
      go_ret
      refine ⟨⟨_, rfl, ?_⟩, hb⟩
      simp

set_option maxHeartbeats 800000 in
theorem contains_any (ad : Option Addr) (n cap : Nat) (X : Nat → Bv) (w : World) (h : BrAt w ad n X) (hn : n ≤ 1000000) (hx : ∀ i, i < n → (X i).n ≤ 1000000) :
    Calls Tryz.prog 72 #[.slice ad n cap, .func (.func 70) #[] #[]] w fun e w' => e = .returned (.bool (!decide (AllOk X n))) ∧ Below w.heap.size w w' := by
  have hi := index_any ad n cap X w h hn hx
  clear h
  generalize (!decide (AllOk X n)) = r at *
  go_enter Tryz.func72, Tryz.ntmps72
  go_wp2_with (go_at_call 96; refine hi.mono ?_; rintro e w1 ⟨⟨q, rfl, hq⟩, hb1⟩)
  all_goals (go_ret; exact ⟨by simp_all, hb1⟩)

set_option maxHeartbeats 1600000 in
theorem check_any (ad : Option Addr) (n cap : Nat) (X : Nat → Bv) (w : World) (h : BrAt w ad n X) (hn : n ≤ 1000000) (hx : ∀ i, i < n → (X i).n ≤ 1000000) :
    Calls Tryz.prog 51 #[.agg #[.slice ad n cap]] w fun e w' => e = .returned (errV (chkE X n)) ∧ Below w.heap.size w w' := by
  have hI := h.below ((Below.refl _ w).alloc (Nat.le_refl _) (.cells #[.slice ad n cap] 76))
  have hb0 : Below w.heap.size w (w.alloc (.cells #[.slice ad n cap] 76)) := (Below.refl _ w).alloc (Nat.le_refl _) _
  have hm := contains_any ad n cap X _ hI hn hx
  clear h hI
  by_cases h1 : n < 1
  · have h1' : (n : Int) < 1 := by omega
    have HE : Hid (chkE X n = 1) := if_neg (fun h => by have := h.1; omega)
    clear hm
    go_enter Tryz.func51, Tryz.ntmps51
    go_wp2
    go_ret
    exact ⟨by rw [HE.out]; rfl, hb0⟩
  · have h1' : ¬ (n : Int) < 1 := by omega
    by_cases h2 : 8 < n
    · have h2' : (8 : Int) < n := by omega
      have HE : Hid (chkE X n = 1) := if_neg (fun h => by have := h.1; omega)
      clear hm
      go_enter Tryz.func51, Tryz.ntmps51
      go_wp2
      go_ret
      exact ⟨by rw [HE.out]; rfl, hb0⟩
    · have h2' : ¬ (8 : Int) < n := by omega
      by_cases h3 : AllOk X n
      · have e1 : decide (AllOk X n) = true := by simp [h3]
        rw [e1] at hm
        have HE : Hid (chkE X n = 0) := if_pos ⟨by omega, h3⟩
        clear e1 h3
        go_enter Tryz.func51, Tryz.ntmps51
        go_wp2_with (go_at_call 72; refine hm.mono ?_; rintro e w1 ⟨rfl, hb1⟩)
        go_ret
        exact ⟨by rw [HE.out]; rfl, hb0.trans (hb1.mono hb0.size)⟩
      · have e1 : decide (AllOk X n) = false := by simpa using h3
        rw [e1] at hm
        have HE : Hid (chkE X n = 1) := if_neg (fun h => h3 h.2)
        clear e1 h3
        go_enter Tryz.func51, Tryz.ntmps51
        go_wp2_with (go_at_call 72; refine hm.mono ?_; rintro e w1 ⟨rfl, hb1⟩)
        go_ret
        exact ⟨by rw [HE.out]; rfl, hb0.trans (hb1.mono hb0.size)⟩
end Go.Proofs.YtanchjfodcjlmaaGreatDoor.Cd
