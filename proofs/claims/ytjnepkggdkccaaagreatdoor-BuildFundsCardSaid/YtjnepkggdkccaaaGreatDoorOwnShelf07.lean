/- errors.As at a target of type *api.Errno: of nil false; of an api.Errno true, and the target is set. -/
import Derived.Test.YtjnepkggdkccaaaGreatDoorOwnShelf01
import Derived.LaidEql
import Derived.Laws.Externs
import Derived.RowKitTokens
import Derived.Test.YtjnepkggdkccaaaGreatDoorOwnShelf06
namespace Go.Proofs.YtjnepkggdkccaaaGreatDoor
open Go.RowKit Go.Extern.Stop Go.Stop Go.Extern


theorem as_valueOfP (t : Addr) (w : World) : (ReflectliteValue.unpack (.iface 112 (.pointer (some t)))).run Tryz.prog w
  = .ok (.agg #[.pointer (some ⟨1, 112, none⟩), .pointer (some ⟨w.heap.size, 0, none⟩), .int .u64 150]) (w.alloc (.cells #[.pointer (some t)] 112)) := by kernel_rfl
theorem as_typeP (a : Addr) (w : World) : (ReflectliteValue.methodAny (ReflectliteValue.valueError "reflectlite.Value.Type" 0) (fun t _ _ _ => ReflectliteType.toType t) #[.agg #[.pointer (some ⟨1, 112, none⟩), .pointer (some a), .int .u64 150]]).run Tryz.prog w
  = .ok (.iface 182 (.agg #[.pointer (some ⟨1, 112, none⟩)])) w := by kernel_rfl
theorem as_methodKind (h : Value) (w : World) : (Go.method 377 182 (.agg #[h]) "Kind").run Tryz.prog w = .ok (155, h) w := by kernel_rfl
theorem as_kindP (w : World) : ((ReflectliteType.abiMethod fun t => (fun a : Nat => Value.int IntKind.u8 (a : Int)) <$> Rtype.kind t) #[.pointer (some ⟨1, 112, none⟩)]).run Tryz.prog w = .ok (.int .u8 22) w := by kernel_rfl
theorem as_kindE (w : World) : ((ReflectliteType.abiMethod fun t => (fun a : Nat => Value.int IntKind.u8 (a : Int)) <$> Rtype.kind t) #[.pointer (some ⟨1, 101, none⟩)]).run Tryz.prog w = .ok (.int .u8 2) w := by kernel_rfl
theorem as_partsP (a : Addr) (w : World) : (ReflectliteValue.parts (.agg #[.pointer (some ⟨1, 112, none⟩), .pointer (some a), .int .u64 150])).run Tryz.prog w = .ok (some (112, a, 150)) w := by kernel_rfl
theorem as_isNilP (a p : Addr) (W : World) (ha : W.cell? a = some (.pointer (some p))) :
  (ReflectliteValue.method (ReflectliteValue.valueError "reflectlite.Value.IsNil" 0) ReflectliteValue.isNil #[.agg #[.pointer (some ⟨1, 112, none⟩), .pointer (some a), .int .u64 150]]).run Tryz.prog W = .ok (.bool false) W := by
 delta ReflectliteValue.method
 delta ReflectliteValue.method.match_2
 dsimp [Array.getLit]
 simp only [Sem.run_bind, as_partsP, Result.andThen]
 simp [ReflectliteValue.isNil, loadVar, isAgg, underlying, Tryz.underlying112, ha, Result.andThen]
theorem as_methodElem (h : Value) (w : World) : (Go.method 377 182 (.agg #[h]) "Elem").run Tryz.prog w = .ok (166, .agg #[h]) w := by kernel_rfl
theorem as_methodImplements (h : Value) (w : World) : (Go.method 377 182 (.agg #[h]) "Implements").run Tryz.prog w = .ok (167, .agg #[h]) w := by kernel_rfl
theorem as_methodAssignableTo (h : Value) (w : World) : (Go.method 377 182 (.agg #[h]) "AssignableTo").run Tryz.prog w = .ok (164, .agg #[h]) w := by kernel_rfl
theorem as_elemP (w : World) : (ReflectliteType.method ReflectliteType.elem #[.agg #[.pointer (some ⟨1, 112, none⟩)]]).run Tryz.prog w = .ok (.iface 182 (.agg #[.pointer (some ⟨1, 101, none⟩)])) w := by kernel_rfl
theorem as_implementsE (w : World) : (ReflectliteType.relation "Implements" ReflectliteType.implements_ #[.agg #[.pointer (some ⟨1, 101, none⟩)], .iface 182 (.agg #[.pointer (some ⟨1, 52, none⟩)])]).run Tryz.prog w = .ok (.bool true) w := by kernel_rfl
theorem as_typeOfE (v : Value) (w : World) : (ReflectliteType.typeOf #[.iface 101 v]).run Tryz.prog w = .ok (.iface 182 (.agg #[.pointer (some ⟨1, 101, none⟩)])) w := by kernel_rfl
theorem as_assignableE (w : World) : (ReflectliteType.relation "AssignableTo" ReflectliteType.assignableTo #[.agg #[.pointer (some ⟨1, 101, none⟩)], .iface 182 (.agg #[.pointer (some ⟨1, 101, none⟩)])]).run Tryz.prog w = .ok (.bool true) w := by kernel_rfl
theorem as_valueOfE (x : Int) (w : World) : (ReflectliteValue.unpack (.iface 101 (.int .i64 x))).run Tryz.prog w
  = .ok (.agg #[.pointer (some ⟨1, 101, none⟩), .pointer (some ⟨w.heap.size, 0, none⟩), .int .u64 130]) (w.alloc (.cells #[.int .i64 x] 101)) := by kernel_rfl
theorem as_elemOfP (w : World) : (Rtype.elem? 112).run Tryz.prog w = .ok (some 101) w := by kernel_rfl
theorem as_mkE (p : Addr) (w : World) : (ReflectliteValue.mk 101 p ReflectliteValue.flagAddr).run Tryz.prog w = .ok (.agg #[.pointer (some ⟨1, 101, none⟩), .pointer (some p), .int .u64 386]) w := by kernel_rfl
theorem as_elemVP (a p : Addr) (W : World) (ha : W.cell? a = some (.pointer (some p))) :
  (ReflectliteValue.method (ReflectliteValue.valueError "reflectlite.Value.Elem" 0) ReflectliteValue.elem #[.agg #[.pointer (some ⟨1, 112, none⟩), .pointer (some a), .int .u64 150]]).run Tryz.prog W
   = .ok (.agg #[.pointer (some ⟨1, 101, none⟩), .pointer (some p), .int .u64 386]) W := by
 delta ReflectliteValue.method
 delta ReflectliteValue.method.match_2
 dsimp [Array.getLit]
 simp only [Sem.run_bind, as_partsP, Result.andThen]
 simp [ReflectliteValue.elem, loadVar, isAgg, underlying, Tryz.underlying112, ha, Result.andThen, as_elemOfP, as_mkE]
theorem as_partsEa (a : Addr) (w : World) : (ReflectliteValue.parts (.agg #[.pointer (some ⟨1, 101, none⟩), .pointer (some a), .int .u64 386])).run Tryz.prog w = .ok (some (101, a, 386)) w := by kernel_rfl
theorem as_partsE (a : Addr) (w : World) : (ReflectliteValue.parts (.agg #[.pointer (some ⟨1, 101, none⟩), .pointer (some a), .int .u64 130])).run Tryz.prog w = .ok (some (101, a, 130)) w := by kernel_rfl
theorem as_directE (w : World) : (Rtype.directlyAssignable 101 101).run Tryz.prog w = .ok true w := by kernel_rfl
theorem as_setE (ta b : Addr) (x : Int) (old : Value) (W : World) (hb : W.cell? b = some (.int .i64 x)) (ht : W.cell? ta = some old) (hf : W.frozen? ta = false) :
  (ReflectliteValue.set #[.agg #[.pointer (some ⟨1, 101, none⟩), .pointer (some ta), .int .u64 386], .agg #[.pointer (some ⟨1, 101, none⟩), .pointer (some b), .int .u64 130]]).run Tryz.prog W
   = .ok (.tuple #[]) (W.setCell ta (.int .i64 x)) := by
 delta ReflectliteValue.set
 delta ReflectliteValue.set.match_3
 dsimp [Array.getLit]
 simp only [Sem.run_bind, as_partsEa, as_partsE, Result.andThen]
 simp [ReflectliteValue.flagAddr, loadVar, isAgg, underlying, Tryz.underlying101, hb, Result.andThen, as_directE, storeVar, Value.cells, storeCells, Addr.add]
 rw [run_store Tryz.prog W ta _ _ (by rfl)]
 simp [ht, hf]

set_option maxHeartbeats 4000000 in
theorem as_hit (x : Int) (t : Addr) (old : Value) (w : World) (hg : w.cell? ⟨0, 0, none⟩ = some (.iface 182 (.agg #[.pointer (some ⟨1, 52, none⟩)]))) (ht0 : w.cell? t = some old) (hf0 : w.frozen? t = false) :
  Calls Tryz.prog 31 #[.iface 101 (.int .i64 x), .iface 112 (.pointer (some t))] w fun ev w' => ev = .returned (.bool true) ∧ w' = ((((w.alloc (.cells #[.pointer (some t)] 112)).alloc (.cells #[.pointer (some ⟨1, 112, none⟩), .pointer (some ⟨w.heap.size, 0, none⟩), .int .u64 150] 144)).alloc (.cells #[.pointer (some ⟨1, 112, none⟩), .pointer (some ⟨w.heap.size, 0, none⟩), .int .u64 150] 144)).alloc (.cells #[.int .i64 x] 101)).setCell t (.int .i64 x) := by
 have h6 := @run_callFunc_extern Tryz.prog 55 _ (fun args => ReflectliteValue.unpack (args.getD 0 (.tuple #[]))) Tryz.func55 (by kernel_rfl) (by kernel_rfl) (by kernel_rfl) (by kernel_rfl)
 have h7 := @run_callFunc_extern Tryz.prog 56 _ (ReflectliteValue.methodAny (ReflectliteValue.valueError "reflectlite.Value.Type" 0) (fun t _ _ _ => ReflectliteType.toType t)) Tryz.func56 (by kernel_rfl) (by kernel_rfl) (by kernel_rfl) (by kernel_rfl)
 have h8 := @run_callFunc_extern Tryz.prog 57 _ (ReflectliteValue.method (ReflectliteValue.valueError "reflectlite.Value.IsNil" 0) ReflectliteValue.isNil) Tryz.func57 (by kernel_rfl) (by kernel_rfl) (by kernel_rfl) (by kernel_rfl)
 have h27 := @run_callFunc_extern Tryz.prog 155 _ (ReflectliteType.abiMethod fun t => do pure (.int .u8 (← Rtype.kind t))) Tryz.func155 (by kernel_rfl) (by kernel_rfl) (by kernel_rfl) (by kernel_rfl)
 have h37 := @run_callFunc_extern Tryz.prog 166 _ (ReflectliteType.method ReflectliteType.elem) Tryz.func166 (by kernel_rfl) (by kernel_rfl) (by kernel_rfl) (by kernel_rfl)
 have h38 := @run_callFunc_extern Tryz.prog 167 _ (ReflectliteType.relation "Implements" ReflectliteType.implements_) Tryz.func167 (by kernel_rfl) (by kernel_rfl) (by kernel_rfl) (by kernel_rfl)
 have h10 := @run_callFunc_extern Tryz.prog 88 _ (ReflectliteType.typeOf) Tryz.func88 (by kernel_rfl) (by kernel_rfl) (by kernel_rfl) (by kernel_rfl)
 have h35 := @run_callFunc_extern Tryz.prog 164 _ (ReflectliteType.relation "AssignableTo" ReflectliteType.assignableTo) Tryz.func164 (by kernel_rfl) (by kernel_rfl) (by kernel_rfl) (by kernel_rfl)
 have h11 := @run_callFunc_extern Tryz.prog 89 _ (ReflectliteValue.method (ReflectliteValue.valueError "reflectlite.Value.Elem" 0) ReflectliteValue.elem) Tryz.func89 (by kernel_rfl) (by kernel_rfl) (by kernel_rfl) (by kernel_rfl)
 have h12 := @run_callFunc_extern Tryz.prog 90 _ (ReflectliteValue.set) Tryz.func90 (by kernel_rfl) (by kernel_rfl) (by kernel_rfl) (by kernel_rfl)
 have k_typeOfE := as_typeOfE
 have k_methodAssignableTo := as_methodAssignableTo
 have k_assignableE := as_assignableE
 have k_valueOfE := as_valueOfE
 have k_valueOfP := as_valueOfP
 have k_typeP := as_typeP
 have k_methodKind := as_methodKind
 have k_methodElem := as_methodElem
 have k_methodImplements := as_methodImplements
 have k_kindP := as_kindP
 have k_kindE := as_kindE
 have k_elemP := as_elemP
 have k_implementsE := as_implementsE
 have n8 := as_isNilP ⟨w.heap.size, 0, none⟩ t ((w.alloc (.cells #[.pointer (some t)] 112)).alloc (.cells #[.pointer (some ⟨1, 112, none⟩), .pointer (some ⟨w.heap.size, 0, none⟩), .int .u64 150] 144)) (by simp)
 have hlt : 0 < w.heap.size := by
  rcases Nat.eq_zero_or_pos w.heap.size with h0 | h
  ·simp [World.cell?, h0] at hg
  ·exact h
 have hg2 : ((w.alloc (.cells #[.pointer (some t)] 112)).alloc (.cells #[.pointer (some ⟨1, 112, none⟩), .pointer (some ⟨w.heap.size, 0, none⟩), .int .u64 150] 144)).cell? ⟨0, 0, none⟩ = some (.iface 182 (.agg #[.pointer (some ⟨1, 52, none⟩)])) := by
  rw [World.cell?_alloc_lt _ _ ⟨0, 0, none⟩ (by simp), World.cell?_alloc_lt _ _ ⟨0, 0, none⟩ hlt]; exact hg
 have htl : t.block < w.heap.size := by
  rcases Nat.lt_or_ge t.block w.heap.size with h | h
  ·exact h
  ·simp [World.cell?, Array.getElem?_eq_none h] at ht0
 have el := as_elemVP ⟨w.heap.size, 0, none⟩ t (((w.alloc (.cells #[.pointer (some t)] 112)).alloc (.cells #[.pointer (some ⟨1, 112, none⟩), .pointer (some ⟨w.heap.size, 0, none⟩), .int .u64 150] 144)).alloc (.cells #[.pointer (some ⟨1, 112, none⟩), .pointer (some ⟨w.heap.size, 0, none⟩), .int .u64 150] 144)) (by rw [World.cell?_alloc_lt _ _ ⟨w.heap.size, 0, none⟩ (by simp; omega)]; simp)
 have st := as_setE t ⟨w.heap.size + 1 + 1 + 1, 0, none⟩ x old ((((w.alloc (.cells #[.pointer (some t)] 112)).alloc (.cells #[.pointer (some ⟨1, 112, none⟩), .pointer (some ⟨w.heap.size, 0, none⟩), .int .u64 150] 144)).alloc (.cells #[.pointer (some ⟨1, 112, none⟩), .pointer (some ⟨w.heap.size, 0, none⟩), .int .u64 150] 144)).alloc (.cells #[.int .i64 x] 101))
  (by rw [World.cell?_alloc_at _ _ _ _ (by simp)]; rfl)
  (by rw [World.cell?_alloc_lt _ _ t (by simp; omega), World.cell?_alloc_lt _ _ t (by simp; omega), World.cell?_alloc_lt _ _ t (by simp; omega), World.cell?_alloc_lt _ _ t htl]; exact ht0)
  (by rw [World.frozen?_alloc_old _ _ t (by simp; omega), World.frozen?_alloc_old _ _ t (by simp; omega), World.frozen?_alloc_old _ _ t (by simp; omega), World.frozen?_alloc_old _ _ t (Nat.ne_of_lt htl)]; exact hf0)
 go_enter Tryz.func31, Tryz.ntmps31
 go_wp2
 refine wp_loop_rounds 1 ?_
 rw [rounds_succ]
 go_wp2
 go_ret
 exact ⟨rfl, rfl⟩
end Go.Proofs.YtjnepkggdkccaaaGreatDoor
/- num: the number of an error. -/
namespace Go.Proofs.YtjnepkggdkccaaaGreatDoor.Cd
open Go.RowKit

/-- The library's variable that holds the type error's own handle. -/
def Glob (w : World) : Prop := w.cell? ⟨0, 0, none⟩ = some (.iface 182 (.agg #[.pointer (some ⟨1, 52, none⟩)]))
theorem Glob.below {w w' : World} {B : Nat} (h : Glob w) (hb : Below B w w') (hB : 0 < B) : Glob w' := by
 unfold Glob at *
 rw [hb.cell (p := ⟨0, 0, none⟩) hB]; exact h
theorem Glob.pos {w : World} (h : Glob w) : 0 < w.heap.size := World.block_lt_of_cell? w ⟨0, 0, none⟩ h
theorem Glob.frm {w w' : World} {S : List Nat} (h : Glob w) (hf : Frm S w w') (hS : 0 ∉ S) : Glob w' := by
 unfold Glob at *
 rw [World.cell?_of_block (a := ⟨0, 0, none⟩) (hf.block 0 (World.block_lt_of_cell? w ⟨0, 0, none⟩ h) hS)]; exact h

set_option maxHeartbeats 400000 in
theorem num_nil (w : World) :
  Calls Tryz.prog 15 #[.nilIface] w fun e w' => e = .returned (.int .i64 0) ∧ Below w.heap.size w w' := by
 go_enter Tryz.func15, Tryz.ntmps15
 go_wp2
 go_ret
 exact ⟨rfl, (by repeat (first | exact Below.refl _ _ | refine Below.alloc ?_ (by simp; try omega) _ | refine Below.setCell ?_ (by simp) _ | refine below_drewN ?_ _ | refine Below.drew ?_))⟩

set_option maxHeartbeats 400000 in
theorem num_hit (x : Int) (w : World) (hg : Glob w) :
  Calls Tryz.prog 15 #[.iface 101 (.int .i64 x)] w fun e w' => e = .returned (.int .i64 x) ∧ Below w.heap.size w w' := by
 have hp := hg.pos
 have hg1 : Glob (w.alloc (.cells #[.int .i64 0] 101)) := hg.below ((Below.refl _ w).alloc (Nat.le_refl _) _) hp
 have ht : (w.alloc (.cells #[.int .i64 0] 101)).cell? ⟨w.heap.size, 0, none⟩ = some (.int .i64 0) := by simp
 have hf : (w.alloc (.cells #[.int .i64 0] 101)).frozen? ⟨w.heap.size, 0, none⟩ = false := by simp
 go_enter Tryz.func15, Tryz.ntmps15
 go_wp2_with (go_at_call 31; refine (as_hit x _ _ _ hg1 ht hf).mono ?_; rintro e w' ⟨rfl, rfl⟩)
 go_ret
 exact ⟨rfl, (by repeat (first | exact Below.refl _ _ | refine Below.alloc ?_ (by simp; try omega) _ | refine Below.setCell ?_ (by simp) _ | refine below_drewN ?_ _ | refine Below.drew ?_))⟩

theorem num_any (x : Int) (w : World) (hg : Glob w) :
  Calls Tryz.prog 15 #[errV x] w fun e w' => e = .returned (.int .i64 x) ∧ Below w.heap.size w w' := by
 by_cases h : x = 0
 ·subst h; exact num_nil w
 ·rw [errV_ne h]; exact num_hit x w hg

end Go.Proofs.YtjnepkggdkccaaaGreatDoor.Cd
/- Ints that lie somewhere; branches of a condition: their 35 cells, and how they lie. -/
namespace Go.Proofs.YtjnepkggdkccaaaGreatDoor.Cd
open Go.RowKit

def Zb (z : Nat → Int) : Prop := ∀ j, j < 32 → 0 ≤ z j ∧ z j ≤ 255
def Ib (n : Int) : Prop := -9223372036854775808 ≤ n ∧ n ≤ 9223372036854775807
theorem tsize : Tryz.prog.types.size = 277 := by kernel_rfl
theorem cellsH : Tryz.prog.cellsOf 23 = 32 := by kernel_rfl
theorem cellsI : Tryz.prog.cellsOf 3 = 1 := by kernel_rfl
theorem cellsB : Tryz.prog.cellsOf 5 = 1 := by kernel_rfl
theorem cellsS : Tryz.prog.cellsOf 88 = 1 := by kernel_rfl
theorem infoI : (Tryz.prog.info? 3).map (fun i => (i.zero, i.size, i.bytes)) = some (some (.int .i64 0), 1, 8) := by kernel_rfl
/-- Ints that lie at an address. -/
def IsAt (w : World) (ad : Option Addr) (n : Nat) (z : Nat → Int) : Prop := 0 < n → ∃ b off, ad = some ⟨b, off, none⟩ ∧ ∀ j, j < n → w.cell? ⟨b, off + j, none⟩ = some (.int .i64 (z j))
theorem IsAt.below {w w' : World} {ad : Option Addr} {n : Nat} {z : Nat → Int} (h : IsAt w ad n z) (hb : Below w.heap.size w w') : IsAt w' ad n z := by
 intro hn
 obtain ⟨b, off, e, hc⟩ := h hn
 refine ⟨b, off, e, fun j hj => ?_⟩
 have := hc j hj
 have hl : b < w.heap.size := World.block_lt_of_cell? w ⟨b, off + j, none⟩ this
 rw [hb.cell (p := ⟨b, off + j, none⟩) hl]; exact this

/-- What a branch says: its keys, its lock, its two bounds. -/
structure Bv where
 n : Nat
 z : Nat → Int
 lk : Nat → Int
 af : Int
 ol : Int
instance : Inhabited Bv := ⟨⟨0, fun _ => 0, fun _ => 0, 0, 0⟩⟩
structure Bv.Ok (x : Bv) : Prop where
 z : ∀ j, j < x.n → Ib (x.z j)
 lk : Zb x.lk
 af : Ib x.af
 ol : Ib x.ol
/-- Its 35 cells, the keys at ka. -/
def brl (x : Bv) (ka : Option Addr) (kc : Nat) : List Value := .slice ka x.n kc :: (bl x.lk 32 ++ [.int .i64 x.af, .int .i64 x.ol])
theorem brl_length (x : Bv) (ka : Option Addr) (kc : Nat) : (brl x ka kc).length = 35 := by simp [brl, bl_length]
def bv (x : Bv) (ka : Option Addr) (kc : Nat) : Array Value := (brl x ka kc).toArray
theorem bv_size (x : Bv) (ka : Option Addr) (kc : Nat) : (bv x ka kc).size = 35 := by simp [bv, brl_length]
theorem brl_one (x : Bv) (ka : Option Addr) (kc : Nat) : ∀ u ∈ brl x ka kc, u.oneCell' = true := by
 intro u hu
 simp only [brl, List.mem_cons, List.mem_append, List.not_mem_nil, or_false] at hu
 rcases hu with rfl | hu | rfl | rfl
 ·rfl
 ·exact bl_one _ _ u hu
 ·rfl
 ·rfl
theorem bv_one (x : Bv) (ka : Option Addr) (kc : Nat) : (bv x ka kc).all (·.oneCell') = true := by
 have : (bv x ka kc) = (brl x ka kc).toArray := rfl
 rw [this]
 exact all_oneCell_toArray (brl_one x ka kc)
theorem brl_0 (x : Bv) (ka : Option Addr) (kc : Nat) : (brl x ka kc)[0]? = some (.slice ka x.n kc) := rfl
theorem brl_33 (x : Bv) (ka : Option Addr) (kc : Nat) : (brl x ka kc)[33]? = some (.int .i64 x.af) := by
 simp only [brl, List.getElem?_cons_succ]
 rw [List.getElem?_append_right (by simp [bl_length])]
 simp [bl_length]
theorem brl_34 (x : Bv) (ka : Option Addr) (kc : Nat) : (brl x ka kc)[34]? = some (.int .i64 x.ol) := by
 simp only [brl, List.getElem?_cons_succ]
 rw [List.getElem?_append_right (by simp [bl_length])]
 simp [bl_length]
theorem szB : (Tryz.prog.info? 164).map (·.size) = some 35 := by kernel_rfl
theorem szR : (Tryz.prog.info? 126).map (·.size) = some 35 := by kernel_rfl
theorem szBv (x : Bv) (ka : Option Addr) (kc : Nat) : (Tryz.prog.info? 164).map (·.size) = some (bv x ka kc).size := by rw [bv_size]; exact szB
theorem szBl (x : Bv) (ka : Option Addr) (kc : Nat) : (Tryz.prog.info? 164).map (·.size) = some (brl x ka kc).length := by rw [brl_length]; exact szB
theorem szRl (x : Bv) (ka : Option Addr) (kc : Nat) : (Tryz.prog.info? 126).map (·.size) = some (brl x ka kc).length := by rw [brl_length]; exact szR

/-- What a block that holds a branch gives a walk. -/
structure BBox (w : World) (g : Nat) (x : Bv) (ka : Option Addr) (kc : Nat) : Prop where
 c0 : w.cell? ⟨g, 0, none⟩ = some (.slice ka x.n kc)
 c33 : w.cell? ⟨g, 33, none⟩ = some (.int .i64 x.af)
 c34 : w.cell? ⟨g, 34, none⟩ = some (.int .i64 x.ol)
theorem bbox_of {w : World} {g : Nat} {x : Bv} {ka : Option Addr} {kc : Nat} {t : TypeId} {fr : Nat × Nat} (h : w.heap[g]? = some (.cells (bv x ka kc) t fr)) : BBox w g x ka kc := by
 refine ⟨?_, ?_, ?_⟩
 ·rw [cell_of_row w g 0 _ _ _ h]; simp [bv, brl_0]
 ·rw [cell_of_row w g 33 _ _ _ h]; simp [bv, brl_33]
 ·rw [cell_of_row w g 34 _ _ _ h]; simp [bv, brl_34]

/-- n branches lie at an address. -/
structure BrAt (w : World) (ad : Option Addr) (n : Nat) (X : Nat → Bv) : Prop where
 ok : ∀ i, i < n → (X i).Ok
 at_ : 0 < n → ∃ b off, ad = some ⟨b, off, none⟩ ∧ ∀ i, i < n → ∃ ka kc, w.rangeAt b (off + i * 35) (brl (X i) ka kc) ∧ IsAt w ka (X i).n (X i).z
theorem BrAt.nil (w : World) (ad : Option Addr) (X : Nat → Bv) : BrAt w ad 0 X := ⟨fun _ h => by omega, fun h => by omega⟩
theorem BrAt.below {w w' : World} {ad : Option Addr} {n : Nat} {X : Nat → Bv} (h : BrAt w ad n X) (hb : Below w.heap.size w w') : BrAt w' ad n X := by
 refine ⟨h.ok, fun hn => ?_⟩
 obtain ⟨b, off, e, hr⟩ := h.at_ hn
 refine ⟨b, off, e, fun i hi => ?_⟩
 obtain ⟨ka, kc, h1, h2⟩ := hr i hi
 exact ⟨ka, kc, range_below h1 hb, h2.below hb⟩

/-- The key ahead of the key j. -/
def lastK (z : Nat → Int) (j : Nat) : Int := if j = 0 then -1 else z (j - 1)
theorem lastK_succ (z : Nat → Int) (j : Nat) : lastK z (j + 1) = z j := by simp [lastK]
/-- Keys that are parties, ascending. -/
def KOk (z : Nat → Int) (n : Nat) : Prop := ∀ j, j < n → lastK z j < z j ∧ z j < 16
instance (z : Nat → Int) (n : Nat) : Decidable (KOk z n) := inferInstanceAs (Decidable (∀ j, j < n → _))
/-- A branch that may be. -/
def BOk (x : Bv) : Prop := (KOk x.z x.n ∧ 0 < x.n) ∧ (0 ≤ x.af ∧ x.af ≤ 1099511627776) ∧ (0 ≤ x.ol ∧ x.ol ≤ 65536)
instance (x : Bv) : Decidable (BOk x) := inferInstanceAs (Decidable (_ ∧ _))
def AllOk (X : Nat → Bv) (n : Nat) : Prop := ∀ i, i < n → BOk (X i)
instance (X : Nat → Bv) (n : Nat) : Decidable (AllOk X n) := inferInstanceAs (Decidable (∀ i, i < n → _))
/-- A condition that may be. -/
def COk (X : Nat → Bv) (n : Nat) : Prop := (1 ≤ n ∧ n ≤ 8) ∧ AllOk X n
instance (X : Nat → Bv) (n : Nat) : Decidable (COk X n) := inferInstanceAs (Decidable (_ ∧ _))
def chkE (X : Nat → Bv) (n : Nat) : Int := if COk X n then 0 else 1
end Go.Proofs.YtjnepkggdkccaaaGreatDoor.Cd
/- build: what a commitment's outputs are made of. -/
namespace Go.Proofs.YtjnepkggdkccaaaGreatDoor
open Go.RowKit

theorem range_app {w : World} {g off : Nat} {l1 l2 : List Value} (h : w.rangeAt g off (l1 ++ l2)) : w.rangeAt g off l1 ∧ w.rangeAt g (off + l1.length) l2 := by
 refine ⟨fun j v hv => h j v ?_, fun j v hv => ?_⟩
 ·rw [List.getElem?_append_left (List.getElem?_eq_some_iff.1 hv).1]; exact hv
 ·have := h (l1.length + j) v (by rw [List.getElem?_append_right (by omega)]; simpa using hv)
  rwa [← Nat.add_assoc] at this
/-- What a commitment says. -/
structure Cm where
 P : Pm
 o : Int
 lk : Nat → Int
 y : Py
 h : Hd
/-- Its 110 cells, the hold's keys at ka. -/
def cml (c : Cm) (ka : Option Addr) (kc : Nat) : List Value := pml c.P ++ ([.int .i64 c.o] ++ (bl c.lk 32 ++ (pyl c.y ++ hdl c.h ka kc)))
theorem cml_length (c : Cm) (ka : Option Addr) (kc : Nat) : (cml c ka kc).length = 110 := by simp [cml, pml_length, bl_length, pyl_length, hdl]
def cmv (c : Cm) (ka : Option Addr) (kc : Nat) : Array Value := (cml c ka kc).toArray
theorem cmv_size (c : Cm) (ka : Option Addr) (kc : Nat) : (cmv c ka kc).size = 110 := by simp [cmv, cml_length]
theorem szCm : (Tryz.prog.info? 104).map (·.size) = some 110 := by kernel_rfl
theorem szCml (c : Cm) (ka : Option Addr) (kc : Nat) : (Tryz.prog.info? 104).map (·.size) = some (cml c ka kc).length := by rw [cml_length]; exact szCm
theorem cml_range {w : World} {g : Nat} {c : Cm} {ka : Option Addr} {kc : Nat} {t : TypeId} {fr : Nat × Nat} (h : w.heap[g]? = some (.cells (cmv c ka kc) t fr)) : w.rangeAt g 0 (cml c ka kc) := fun j v hv => by
 rw [Nat.zero_add, cell_of_row _ _ j _ _ _ h]
 simpa [cmv] using hv
/-- What a block that holds a commitment gives a walk. -/
structure CmBox (w : World) (g : Nat) (c : Cm) (ka : Option Addr) (kc : Nat) : Prop where
 all : w.rangeAt g 0 (cml c ka kc)
 pm : w.rangeAt g 0 (pml c.P)
 o : w.cell? ⟨g, 38, none⟩ = some (.int .i64 c.o)
 k0 : w.cell? ⟨g, 34, none⟩ = some (.int .i64 c.P.k0)
 k1 : w.cell? ⟨g, 35, none⟩ = some (.int .i64 c.P.k1)
 dl : w.cell? ⟨g, 36, none⟩ = some (.int .i64 c.P.dl)
 lk : w.rangeAt g 39 (bl c.lk 32)
 py : w.rangeAt g 71 (pyl c.y)
 hd : w.rangeAt g 107 (hdl c.h ka kc)
theorem cmBox {w : World} {g : Nat} {c : Cm} {ka : Option Addr} {kc : Nat} (h : w.rangeAt g 0 (cml c ka kc)) : CmBox w g c ka kc := by
 obtain ⟨h1, h2⟩ := range_app h
 rw [pml_length] at h2
 obtain ⟨h3, h4⟩ := range_app h2
 obtain ⟨h5, h6⟩ := range_app h4
 obtain ⟨h7, h8⟩ := range_app h6
 have hb := pmBox h1
 simp only [bl_length, pyl_length, List.length_singleton, Nat.zero_add, Nat.reduceAdd] at h3 h5 h7 h8
 refine ⟨h, h1, ?_, by simpa using hb.k0, by simpa using hb.k1, by simpa using hb.dl, h5, h7, h8⟩
 simpa using h3 0 _ rfl
/-- A side's key; a branch that asks for it. -/
def keyS (P : Pm) (d : Int) : Int := if d = 0 then P.k0 else P.k1
def brS (c : Cm) (d : Int) : Cd.Bv := ⟨1, fun _ => keyS c.P d, nz, 0, if d = c.o then c.P.dl else 0⟩
def rvS (c : Cm) : Cd.Bv := ⟨1, fun _ => keyS c.P (1 - c.o), c.lk, 0, 0⟩
theorem run_allocBr (w : World) : (Instr.alloc 164 true (.tuple #[])).run Tryz.prog w = .ok (.pointer (some ⟨w.heap.size, 0, none⟩)) (w.alloc (.cells (Cd.bv ⟨0, nz, nz, 0, 0⟩ none 0) 164)) := by kernel_rfl
theorem build_br1 (ka : Option Addr) (z : Nat → Int) (w : World) : (Instr.build 164 #[(0, .slice ka 1 1)]).run Tryz.prog w = .ok (.agg (Cd.bv ⟨1, z, nz, 0, 0⟩ ka 1)) w := by kernel_rfl
theorem bslice_k (x : Int) (w : World) : (Instr.buildSlice 88 1 #[(0, .int .i64 x)]).run Tryz.prog w = .ok (.slice (some ⟨w.heap.size, 0, none⟩) 1 1) (w.alloc (.cells #[.int .i64 x] 3)) := by kernel_rfl
theorem bv_s34 (x : Cd.Bv) (ka : Option Addr) (kc : Nat) (v : Int) : (Cd.bv x ka kc).setIfInBounds 34 (.int .i64 v) = Cd.bv { x with ol := v } ka kc := by
 have h1 : (Cd.bv x ka kc).setIfInBounds 34 (.int .i64 v) = ((Cd.brl x ka kc).set 34 (.int .i64 v)).toArray := by simp [Cd.bv]
 have e : Cd.brl x ka kc = (.slice ka x.n kc :: (bl x.lk 32 ++ [.int .i64 x.af])) ++ [.int .i64 x.ol] := by simp [Cd.brl]
 have e2 : Cd.brl { x with ol := v } ka kc = (.slice ka x.n kc :: (bl x.lk 32 ++ [.int .i64 x.af])) ++ [.int .i64 v] := by simp [Cd.brl]
 rw [h1]
 unfold Cd.bv
 rw [e2, e, List.set_append_right _ _ (by simp [bl_length])]
 simp [bl_length]
section
variable {ops : Array Oper} {rest : List Oper} {o : Oper} {a : Act} {w : World} {Q : Exit → Act → World → Prop}
theorem wpList_brBuild (z : Nat → Int) (ka : Option Addr) (hgd : o.guard = none) (x : Operand) (ho : o.op = .build 164 #[(0, x)]) (hx : a.eval x = .slice ka 1 1)
  (h : wpList Tryz.prog ops Q rest (a.put o.dst (.agg (Cd.bv ⟨1, z, nz, 0, 0⟩ ka 1))) w) : wpList Tryz.prog ops Q (o :: rest) a w := by
 refine wpList_plain hgd fun K hK => ?_
 unfold Oper.wp execOp
 simp only [ho, List.map_toArray, List.map_cons, List.map_nil, hx, Sem.run_bind, build_br1 ka z, Result.andThen]
 exact hK _ _ h
theorem wpList_kSlice (hgd : o.guard = none) (x : Operand) (ho : o.op = .buildSlice 88 1 #[(0, x)]) (v : Int) (hx : a.eval x = .int .i64 v)
  (h : wpList Tryz.prog ops Q rest (a.put o.dst (.slice (some ⟨w.heap.size, 0, none⟩) 1 1)) (w.alloc (.cells #[.int .i64 v] 3))) : wpList Tryz.prog ops Q (o :: rest) a w := by
 refine wpList_plain hgd fun K hK => ?_
 unfold Oper.wp execOp
 simp only [ho, List.map_toArray, List.map_cons, List.map_nil, hx, Sem.run_bind, bslice_k, Result.andThen]
 exact hK _ _ h
end
end Go.Proofs.YtjnepkggdkccaaaGreatDoor
