/- Rows of changes of one's own; changes of one key. -/
import Derived.Test.YtidmpblaeohfaaaGreatDoorSSure
import Derived.Maps.AppendAt
namespace Go.Proofs.YtidmpblaeohfaaaGreatDoor
open Go.RowKit Go.Maps Go.Sort

/-- A value that owns changes, made since w0; nothing that was there in w0 has changed. -/
structure CgOw (w0 w : World) (v : Value) (C : List Cg) : Prop where
  own : w.ownsRow w0.heap.size 70 3 v C.length (flatC C)
  below : Below w0.heap.size w0 w
theorem CgOw.nil (w : World) : CgOw w w (.slice none 0 0) [] := ⟨World.ownsRow_nil _ _ _ _, Below.refl _ _⟩
theorem CgOw.keep {w0 w w' : World} {v : Value} {C : List Cg} (h : CgOw w0 w v C) (hb : Below w.heap.size w w') : CgOw w0 w' v C :=
  ⟨owns_row_keep h.own fun k e => hb.block k (h.own.lt k e).2, Below.transS h.below hb⟩
theorem CgOw.sl {w0 w : World} {v : Value} {C : List Cg} (h : CgOw w0 w v C) : ∃ ad cap, v = .slice ad C.length cap ∧ CgAt w ad C ∧ (∀ a, ad = some a → w0.heap.size ≤ a.block ∧ a.block < w.heap.size) := by
  rcases h.own.2 with ⟨rfl, e⟩ | ⟨g, cap, cur, rfl, hbs, hg, _⟩
  · exact ⟨none, 0, by rw [e], (fun hn => by omega), fun a e => by cases e⟩
  · refine ⟨_, cap, rfl, fun _ => ⟨g, 0, rfl, fun j x hx => ?_⟩, fun a e => by cases e; exact ⟨hbs, lt_of_block hg⟩⟩
    have hf := flat_get C j x hx
    have hc := h.own.cells (g := g) rfl
    simp only [Addr.add_lit] at hc
    exact ⟨hc _ _ hf.1, by rw [Nat.add_assoc]; exact hc _ _ hf.2.1, by rw [Nat.add_assoc]; exact hc _ _ hf.2.2⟩
theorem infoCg : (Tryz.prog.info? 70).map (fun i => (i.zero, i.size, i.bytes)) = some (some (.agg #[.string ⟨#[]⟩, .string ⟨#[]⟩, .bool false]), 3, 40) := by kernel_rfl
theorem CgOw.append {w0 w : World} {v : Value} {C : List Cg} {r : Nat} {x : Cg} (h : CgOw w0 w v C) (hr : w.heap[r]? = some (.cells #[encStr x.k, encStr x.v, .bool x.g] 70 (0, 0))) (hn : C.length ≤ 100000) (ty : TypeId) :
    ∃ v' w1, (Builtin.append_ #[52, 52] ty #[v, .slice (some ⟨r, 0, none⟩) 1 1]).run Tryz.prog w = .ok v' w1 ∧ CgOw w0 w1 v' (C ++ [x]) := by
  obtain ⟨i0, hi0, hz0, hz1, hz2⟩ := info_parts infoCg
  obtain ⟨v', w1, h1, h2, h3, _, _⟩ := run_append_own_at (P := Tryz.prog) w w0.heap.size 52 ty 70 i0 (.agg #[.string ⟨#[]⟩, .string ⟨#[]⟩, .bool false]) 3 40 Tryz.underlying52 hi0 hz0 hz1 hz2 rfl (by decide) v C.length (flatC C) h.own ⟨r, 0, none⟩ 1 1 (flatC [x]) (by simp [flatC, cgL])
    (fun j u hj => by
      rw [Addr.add_lit, Nat.zero_add, cell_of_row _ _ j _ _ _ hr]
      simpa [flatC, cgL] using hj)
    (by simp [flatC, cgL, encStr, Value.oneCell']) (by unfold maxLen; omega) (by omega) h.below.size
  refine ⟨v', w1, h1, ?_, h.below.grown h3 h.below.size (fun k e => (h.own.lt k e).1)⟩
  rw [flatC_append]
  simpa using h2
theorem wpList_append_Cg {ops : Array Oper} {rest : List Oper} {o : Oper} {a : Act} {w : World} {Q : Exit → Act → World → Prop} (hgd : o.guard = none) (s x : Operand) (ho : o.op = .call { callee := .builtin .append, args := #[s, x], argTypes := #[52, 52] })
    (w0 : World) (v : Value) (C : List Cg) (r : Nat) (y : Cg) (hs : a.eval s = v) (hx : a.eval x = .slice (some ⟨r, 0, none⟩) 1 1) (h : CgOw w0 w v C) (hr : w.heap[r]? = some (.cells #[encStr y.k, encStr y.v, .bool y.g] 70 (0, 0))) (hn : C.length ≤ 100000)
    (hk : ∀ v' w1, CgOw w0 w1 v' (C ++ [y]) → wpList Tryz.prog ops Q rest (a.put o.dst v') w1) : wpList Tryz.prog ops Q (o :: rest) a w := by
  obtain ⟨v', w1, hrun, h2⟩ := h.append hr hn o.type
  refine wpList_plain hgd fun K hK => ?_
  unfold Oper.wp execOp
  simp only [ho, resolve, invoke, builtin, Sem.run_bind, Sem.run_pure, Result.andThen_ok, List.map_toArray, List.map_cons, List.map_nil, hs, hx, hrun]
  exact hK _ _ (hk v' w1 h2)

/-- Of changes of one key the last counts. -/
theorem lastL_one {ys : List Cg} {x : Cg} (h : ∀ y ∈ ys, y.k = x.k) : lastL (ys ++ [x]) = [x] := by
  have e : delK Cg.k x.k (lastL ys) = [] := by
    unfold delK
    rw [List.filter_eq_nil_iff]
    intro y hy
    simp [h y (lastL_mem hy)]
  rw [lastL_snoc, putK, e]
  rfl
section
variable {k v : List UInt8} {ys : List Cg} {c : Ct}
theorem last0 : setI 0 3 [] c [] = (0, [], c) := by
  have e : todoL [] [] = [] := rfl
  unfold setI
  rw [e]
  rfl
theorem last1 (h : ∀ y ∈ ys, y.k = k) (hk : k.length ≤ 50) (hv : v.length ≤ 50) : (setI 0 3 [] c (ys ++ [⟨k, v, false⟩])).1 = 0 ∧ (setI 0 3 [] c (ys ++ [⟨k, v, false⟩])).2.1 = [⟨k, 1, v⟩] := by
  have e1 : todoL [] (ys ++ [⟨k, v, false⟩]) = [⟨k, v, false⟩] := by unfold todoL; rw [lastL_one h]; simp [sameC, getK]
  have h1 := encB_le k
  have h2 := encB_le v
  have e2 : layL [⟨k, v, false⟩] = some [leafB k v] := by
    simp only [layL, Bool.false_eq_true, if_false, Option.map_some]
    rw [if_neg (by unfold leafB; simp only [List.length_append]; omega)]
  have e3 : frN [] 3 = [1, 2] := rfl
  have e4 : behL [⟨k, v, false⟩] [1, 2] [] = [⟨k, 1, v⟩] := by simp [behL, putK, delK, insK]
  unfold setI
  rw [e1, e2, e3, e4]
  simp
theorem last2 (h : ∀ y ∈ ys, y.k = k) : setI 0 3 [⟨k, 1, v⟩] c (ys ++ [⟨k, v, false⟩]) = (0, [⟨k, 1, v⟩], c) := by
  have e1 : todoL [⟨k, 1, v⟩] (ys ++ [⟨k, v, false⟩]) = [] := by unfold todoL; rw [lastL_one h]; simp [sameC, getK]
  unfold setI
  rw [e1]
  simp [layL]
theorem last3 : (setI 0 3 [⟨k, 1, v⟩] c [⟨k, [], true⟩]).1 = 0 ∧ (setI 0 3 [⟨k, 1, v⟩] c [⟨k, [], true⟩]).2.1 = [] := by
  have e0 : lastL [⟨k, [], true⟩] = [⟨k, [], true⟩] := rfl
  have e1 : todoL [⟨k, 1, v⟩] [⟨k, [], true⟩] = [⟨k, [], true⟩] := by unfold todoL; rw [e0]; simp [sameC, getK]
  have e4 : ∀ f, behL [⟨k, [], true⟩] f [⟨k, 1, v⟩] = [] := fun f => by simp [behL, delK]
  unfold setI
  rw [e1]
  simp [layL, e4]
theorem last4 : valK k [⟨k, 1, v⟩] = v ∧ (getK Lf.k k [⟨k, 1, v⟩]).isSome = true := by simp [valK, getK]
theorem last5 : (frL [⟨k, 1, v⟩] 3).length = 1 := rfl
end
/-- Values that came in. -/
def VsAt (W : World) (ad : Option Addr) (len : Nat) (Z : Nat → List UInt8) : Prop := 0 < len → ∃ b off, ad = some ⟨b, off, none⟩ ∧ ∀ j, j < len → W.cell? ⟨b, off + j, none⟩ = some (encStr (Z j))
/-- Changes of one key. -/
def csOf (k : List UInt8) (Z : Nat → List UInt8) (i : Nat) : List Cg := (List.range i).map fun j => ⟨k, Z j, false⟩
theorem csOf_succ (k : List UInt8) (Z : Nat → List UInt8) (i : Nat) : csOf k Z (i + 1) = csOf k Z i ++ [⟨k, Z i, false⟩] := by simp [csOf, List.range_succ]
theorem csOf_length (k : List UInt8) (Z : Nat → List UInt8) (i : Nat) : (csOf k Z i).length = i := by simp [csOf]
theorem csOf_k {k : List UInt8} {Z : Nat → List UInt8} {i : Nat} : ∀ y ∈ csOf k Z i, y.k = k := fun y hy => by
  obtain ⟨j, _, rfl⟩ := List.mem_map.1 hy; rfl
theorem csOf_ok {k : List UInt8} {Z : Nat → List UInt8} {i : Nat} (hi : i ≤ 10) (hk : k.length ≤ 50) (hZ : ∀ j, j < i → (Z j).length ≤ 50) : COk (csOf k Z i) := by
  refine ⟨by rw [csOf_length]; omega, fun x hx => ?_⟩
  obtain ⟨j, hj, rfl⟩ := List.mem_map.1 hx
  have := hZ j (List.mem_range.1 hj)
  exact ⟨by show k.length ≤ _; omega, by show (Z j).length ≤ _; omega⟩
end Go.Proofs.YtidmpblaeohfaaaGreatDoor
