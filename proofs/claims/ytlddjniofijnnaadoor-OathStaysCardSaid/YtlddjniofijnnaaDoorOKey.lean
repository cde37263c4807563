/- The key of a signature in the book's map; what the map holds, as a list of who signed what. -/
import Derived.Test.YtlddjniofijnnaaDoorOKit
import Derived.Maps.OwnSet
import Derived.DeepKeys4
namespace Go.Proofs.YtlddjniofijnnaaDoor
open Go.RowKit

/-- A signature's 33 cells. -/
def kv (n : Int) (z : Nat → Int) : Array Value := (.int .i64 n :: bl z 32).toArray
/-- Bytes, and an int's bounds. -/
def Zb (z : Nat → Int) : Prop := ∀ j, j < 32 → 0 ≤ z j ∧ z j ≤ 255
def Ib (n : Int) : Prop := -9223372036854775808 ≤ n ∧ n ≤ 9223372036854775807

theorem laidOut : laidOutB Tryd.prog = true := by kernel_rfl
theorem tsize : Tryd.prog.types.size = 116 := by kernel_rfl
theorem rowS : (52 : TypeId) < Tryd.prog.types.size := of_decide_eq_true (by kernel_rfl)
theorem wideS : (match Tryd.prog.underlying 52 with | some (.array _ _) | some (.struct _) => true | _ => false) = true := by kernel_rfl
theorem lawS : Maps.Keyed Tryd.prog 52 := Maps.Keyed.of_law (deep_law_laid laidOut (m := 4) (by omega) rowS (by kernel_rfl) wideS)
theorem ktS : Tryd.prog.keyType 52 = true := by kernel_rfl
theorem cellsS : Tryd.prog.cellsOf 52 = 33 := by kernel_rfl
theorem cellsH : Tryd.prog.cellsOf 32 = 32 := by kernel_rfl
theorem cellsI : Tryd.prog.cellsOf 3 = 1 := by kernel_rfl
theorem cellsB : Tryd.prog.cellsOf 5 = 1 := by kernel_rfl

theorem mapM_opt {α β : Type} {f : α → Option β} {g : α → β} : ∀ (l : List α), (∀ x, x ∈ l → f x = some (g x)) → l.mapM f = some (l.map g)
  | [], _ => rfl
  | x :: l, h => by
    rw [List.mapM_cons, h x (List.mem_cons_self ..), mapM_opt l (fun y hy => h y (List.mem_cons_of_mem _ hy))]
    rfl
theorem flat_one {α β : Type} (f : α → β) : ∀ l : List α, (l.map fun x => [f x]).flatten = l.map f
  | [] => rfl
  | x :: l => by rw [List.map_cons, List.flatten_cons, flat_one f l]; rfl
theorem lits_byte (d : Nat) {x : Int} (h : 0 ≤ x ∧ x ≤ 255) : Tryd.prog.keyLits (d + 1) 5 [.int .u8 x] = some [.int .u8 x] := by
  have hw : (Lit.int .u8 x).wf = true := by simp [Lit.wf, IntKind.min, IntKind.max, IntKind.signed, IntKind.bits]; omega
  unfold Program.keyLits
  rw [Tryd.underlying5]
  simp [hw]
theorem lits_int (d : Nat) {x : Int} (h : Ib x) : Tryd.prog.keyLits (d + 1) 3 [.int .i64 x] = some [.int .i64 x] := by
  have hw : (Lit.int .i64 x).wf = true := by unfold Ib at h; simp [Lit.wf, IntKind.min, IntKind.max, IntKind.signed, IntKind.bits]; omega
  unfold Program.keyLits
  rw [Tryd.underlying3]
  simp [hw]
theorem lits_hash (d : Nat) {z : Nat → Int} (h : Zb z) : Tryd.prog.keyLits (d + 2) 32 (bl z 32) = some ((List.range 32).map fun j => Lit.int .u8 (z j)) := by
  unfold Program.keyLits
  rw [Tryd.underlying32]
  simp only [bl_length, cellsH, cellsB, if_true]
  rw [mapM_opt (g := fun j => [Lit.int .u8 (z j)])]
  · rw [Option.map_some, flat_one]
  · intro j hj
    have hj' : j < 32 := List.mem_range.1 hj
    have e : ((bl z 32).drop (j * 1)).take 1 = [.int .u8 (z j)] := by
      rw [Nat.mul_one, List.take_one, List.head?_drop, bl_at hj']
      rfl
    rw [e]
    exact lits_byte d (h j hj')
theorem lits_sig (d : Nat) {n : Int} {z : Nat → Int} (hn : Ib n) (h : Zb z) : Tryd.prog.keyLits (d + 3) 52 (kv n z).toList = some (Lit.int .i64 n :: (List.range 32).map fun j => Lit.int .u8 (z j)) := by
  have hl : (kv n z).toList = .int .i64 n :: bl z 32 := rfl
  rw [hl]
  unfold Program.keyLits
  rw [Tryd.underlying52]
  simp only [List.length_cons, bl_length, cellsS]
  have e1 : List.take 32 (bl z 32) = bl z 32 := List.take_of_length_le (by rw [bl_length]; exact Nat.le_refl _)
  simp [cellsI, cellsH, e1, lits_int (d + 1) hn, lits_hash d h]

/-- What a signature's key reads as. -/
def kl (n : Int) (z : Nat → Int) : Lit := .string (keyBytes (Lit.int .i64 n :: (List.range 32).map fun j => Lit.int .u8 (z j)))
theorem keyOfS {n : Int} {z : Nat → Int} (hn : Ib n) (h : Zb z) : keyOf Tryd.prog 52 (.agg (kv n z)) = some (kl n z) := by
  have hf : (Value.agg (kv n z)).formed Tryd.prog 52 = true := by
    simp only [Value.formed, Tryd.underlying52, cellsS]
    simp [kv, bl_length]
  have hl := lits_sig (116 - 2) hn h
  unfold keyOf
  rw [Tryd.underlying52]
  simp only [ktS, hf, Bool.and_self, if_true, tsize]
  have : (Value.agg (kv n z)).cells = kv n z := rfl
  rw [this]
  simp only [Nat.reduceAdd, Nat.reduceSub] at hl ⊢
  rw [hl]
  rfl
theorem kl_inj {n m : Int} {z y : Nat → Int} (hn : Ib n) (hz : Zb z) (hm : Ib m) (hy : Zb y) (h : kl n z = kl m y) : n = m ∧ ub z = ub y := by
  have h1 := keyOfS hn hz
  rw [h] at h1
  have := lawS.inj h1 (keyOfS hm hy)
  simp only [Value.agg.injEq] at this
  have h2 : (Value.int .i64 n :: bl z 32) = (.int .i64 m :: bl y 32) := congrArg Array.toList this
  simp only [List.cons.injEq, Value.int.injEq, true_and] at h2
  refine ⟨h2.1, ?_⟩
  have h3 : (bl z 32).map (fun v => match v with | .int _ x => UInt8.ofNat x.toNat | _ => 0) = (bl y 32).map (fun v => match v with | .int _ x => UInt8.ofNat x.toNat | _ => 0) := by rw [h2.2]
  simpa [bl, ub] using h3
theorem kl_key (n : Int) (z : Nat → Int) : WideAt.IsKeyLit (kl n z) := trivial

/-- The map D holds just the signatures S. -/
structure BkD (D : DataW Unit) (S : List (Int × List UInt8)) : Prop where
  has : ∀ n z, Ib n → Zb z → Maps.has D (kl n z) = S.contains (n, ub z)
  size : Maps.size D = S.length
theorem BkD.nil : BkD (.map []) [] := ⟨fun _ _ _ _ => rfl, rfl⟩
theorem BkD.put {D : DataW Unit} {S : List (Int × List UInt8)} (h : BkD D S) (ht : Maps.Tidy D) {n : Int} {z : Nat → Int} (hn : Ib n) (hz : Zb z) (hc : S.contains (n, ub z) = false) (u : DataW Unit) : BkD (D.put (kl n z) u) (S ++ [(n, ub z)]) := by
  refine ⟨fun m y hm hy => ?_, ?_⟩
  · by_cases e : kl m y = kl n z
    · have := kl_inj hm hy hn hz e
      rw [e, Maps.has_put_same ht.isMap (kl_key n z)]
      simp [this.1, this.2]
    · rw [Maps.has_put_other e, h.has m y hm hy]
      have : ¬ ((m, ub y) = (n, ub z)) := by
        intro e2
        simp only [Prod.mk.injEq] at e2
        apply e
        have h1 := keyOfS hm hy
        have h2 := keyOfS hn hz
        have e3 : kv m y = kv n z := by
          have a1 : hv y = hv z := by rw [hv_ub hy, hv_ub hz, e2.2]
          have a2 : bl y 32 = bl z 32 := by rw [← hv_list, ← hv_list, a1]
          unfold kv
          rw [a2, e2.1]
        rw [e3, h2] at h1
        exact (Option.some.inj h1).symm
      simp [this]
  · rw [Maps.size_put ht, h.has n z hn hz, hc]
    simp [h.size]
theorem build_sig (n : Int) (z : Nat → Int) (w : World) : (Instr.build 52 #[(0, .int .i64 n), (1, .agg (hv z))]).run Tryd.prog w = .ok (.agg (kv n z)) w := by kernel_rfl
end Go.Proofs.YtlddjniofijnnaaDoor
