/- A shelf in memory: its leaves in a map, its five cells. -/
import Derived.Test.YtidmpblaeohfaaaGreatDoorPOw
import Derived.Test.YtidmpblaeohfaaaGreatDoorSMath
import Derived.StringKeys
namespace Go.Proofs.YtidmpblaeohfaaaGreatDoor
open Go.RowKit Go.Maps Go.Sort

/-- A leaf: its key, its place, its value. -/
structure Lf where
  k : List UInt8
  p : Nat
  v : List UInt8
instance : Inhabited Lf := ⟨⟨[], 0, []⟩⟩
/-- A change: the key, the value, whether it goes. -/
structure Cg where
  k : List UInt8
  v : List UInt8
  g : Bool
instance : Inhabited Cg := ⟨⟨[], [], false⟩⟩
def lfV (p : Nat) (v : List UInt8) : Value := .agg #[.int .i64 (p : Int), encStr v]
def lfD (p : Nat) (v : List UInt8) : DataW Unit := .agg [.lit (.int .i64 (p : Int)), .lit (.string v)]
def Lf.en (x : Lf) : DataW Unit := lfD x.p x.v
/-- How a leaf in the map reads. -/
def lfR (v : Value) : Option (DataW Unit × List MemPlace) :=
  match v with
  | .agg cs => match cs.toList with
    | [.int .i64 p, .string s] => if 0 ≤ p then some (lfD p.toNat s.data.toList, []) else none
    | _ => none
  | _ => none
theorem lfR_mk (p : Nat) (v : List UInt8) : lfR (lfV p v) = some (lfD p v, []) := by
  simp [lfR, lfV, encStr]
theorem lfR_inv {v : Value} {y : DataW Unit × List MemPlace} (h : lfR v = some y) : ∃ p u, v = lfV p u ∧ y = (lfD p u, []) := by
  unfold lfR at h
  split at h
  · rename_i cs
    split at h
    · rename_i p s hcs
      split at h
      · rename_i hp
        cases h
        refine ⟨p.toNat, s.data.toList, ?_, rfl⟩
        unfold lfV encStr
        rw [Int.toNat_of_nonneg hp]
        congr 1
        apply Array.toList_inj.1
        rw [hcs]
      · cases h
    · cases h
  · cases h
theorem lfR_val {v : Value} {y : DataW Unit × List MemPlace} (h : lfR v = some y) : ∃ c : Nat × List UInt8, v = lfV c.1 c.2 := by
  obtain ⟨p, u, e, _⟩ := lfR_inv h
  exact ⟨(p, u), e⟩
theorem lfD_inj {p q : Nat} {u v : List UInt8} (h : lfD p u = lfD q v) : p = q ∧ u = v := by
  unfold lfD at h
  simp only [DataW.agg.injEq, List.cons.injEq, DataW.lit.injEq, Lit.int.injEq, Lit.string.injEq, true_and, and_true] at h
  exact ⟨by omega, h.2⟩

def cgL (x : Cg) : List Value := [encStr x.k, encStr x.v, .bool x.g]
def cgV (x : Cg) : Value := .agg #[encStr x.k, encStr x.v, .bool x.g]
def Cg.en (x : Cg) : DataW Unit := .agg [.lit (.string x.k), .lit (.string x.v), .lit (.bool x.g)]
def cgR (v : Value) : Option (DataW Unit × List MemPlace) :=
  match v with
  | .agg cs => match cs.toList with
    | [.string a, .string b, .bool g] => some ((⟨a.data.toList, b.data.toList, g⟩ : Cg).en, [])
    | _ => none
  | _ => none
theorem cgR_mk (x : Cg) : cgR (cgV x) = some (x.en, []) := by simp [cgR, cgV, encStr]
theorem cgR_inv {v : Value} {y : DataW Unit × List MemPlace} (h : cgR v = some y) : ∃ x : Cg, v = cgV x ∧ y = (x.en, []) := by
  unfold cgR at h
  split at h
  · rename_i cs
    split at h
    · rename_i a b g hcs
      cases h
      refine ⟨⟨a.data.toList, b.data.toList, g⟩, ?_, rfl⟩
      unfold cgV encStr
      congr 1
      apply Array.toList_inj.1
      rw [hcs]
    · cases h
  · cases h
theorem cgR_val {v : Value} {y : DataW Unit × List MemPlace} (h : cgR v = some y) : ∃ x : Cg, v = cgV x := by
  obtain ⟨x, e, _⟩ := cgR_inv h
  exact ⟨x, e⟩
theorem Cg.en_inj {x y : Cg} (h : x.en = y.en) : x = y := by
  unfold Cg.en at h
  simp only [DataW.agg.injEq, List.cons.injEq, DataW.lit.injEq, Lit.bool.injEq, Lit.string.injEq, and_true] at h
  cases x; cases y; simp at *; exact h

theorem strK : Maps.Keyed Tryz.prog 9 := Maps.string_keyed Tryz.underlying9
theorem key_str {k : List UInt8} (h : k.length ≤ maxLen) : keyOf Tryz.prog 9 (encStr k) = some (.string k) := by
  have := WideMaps.keyOf_string_mk (P := Tryz.prog) (k := 9) Tryz.underlying9 (s := ⟨k.toArray⟩) (by simpa [ByteArray.size] using h)
  simpa [encStr] using this
theorem key_inv {key : Value} {kl : Lit} (h : keyOf Tryz.prog 9 key = some kl) : ∃ x : List UInt8, key = encStr x := by
  obtain ⟨x, e, _⟩ := Maps.keyOf_str Tryz.underlying9 h
  exact ⟨x, e⟩
theorem eq_str (a b : List UInt8) (w : World) : (binOp .eql 9 (encStr a) (encStr b)).run Tryz.prog w = .ok (.bool (a == b)) w := by
  show (binOp .eql 9 (.string ⟨a.toArray⟩) (.string ⟨b.toArray⟩)).run Tryz.prog w = _
  rw [binOp_string_eql]
  have e1 : ∀ l : List UInt8, (⟨l.toArray⟩ : ByteArray).toList = l := fun l => by rw [ByteArray.toList_eq]
  rw [e1, e1]
  rfl
/-- A map of leaves. -/
def lfM (w : World) (m : Nat) (L : List Lf) : Prop := w.ownsMap Tryz.prog 9 lfR m L.length (dOf Lf.k Lf.en L)
def cgM (w : World) (m : Nat) (L : List Cg) : Prop := w.ownsMap Tryz.prog 9 cgR m L.length (dOf Cg.k Cg.en L)
theorem owns_exact {R : Value → Option (DataW Unit × List MemPlace)} {w : World} {b n : Nat} {D : DataW Unit} (h : w.ownsMap Tryz.prog 9 R b n D) : w.ownsMap Tryz.prog 9 R b (Maps.size D) D := by
  obtain ⟨es, clock, hb, F, hs, rfl⟩ := h
  exact ⟨es, clock, hb, F, by simp [Maps.size, length_sorted], rfl⟩
theorem lfM.of {w : World} {m n : Nat} {L : List Lf} (h : w.ownsMap Tryz.prog 9 lfR m n (dOf Lf.k Lf.en L)) : lfM w m L := by
  have := owns_exact h
  rwa [dOf_size] at this
theorem cgM.of {w : World} {m n : Nat} {L : List Cg} (h : w.ownsMap Tryz.prog 9 cgR m n (dOf Cg.k Cg.en L)) : cgM w m L := by
  have := owns_exact h
  rwa [dOf_size] at this
theorem owns_keepB {R : Value → Option (DataW Unit × List MemPlace)} {w w' : World} {b n : Nat} {D : DataW Unit} (h : w.ownsMap Tryz.prog 9 R b n D) (hk : w'.heap[b]? = w.heap[b]?) : w'.ownsMap Tryz.prog 9 R b n D := by
  obtain ⟨es, clock, hb, F, hs, hD⟩ := h
  exact ⟨es, clock, hk.trans hb, F, hs, hD⟩
theorem ranges_keepB {R : Value → Option (DataW Unit × List MemPlace)} {w w' : World} {b r n : Nat} {D : DataW Unit} {left : Lit → Bool} {cnt : Nat} (h : w.ranges Tryz.prog 9 R b r n D left cnt) (h1 : w'.heap[b]? = w.heap[b]?) (h2 : w'.heap[r]? = w.heap[r]?) : w'.ranges Tryz.prog 9 R b r n D left cnt := by
  obtain ⟨es, clock, since, seen, c0, hb, F, hs, hD, hr, rest⟩ := h
  exact ⟨es, clock, since, seen, c0, h1.trans hb, F, hs, hD, h2.trans hr, rest⟩
theorem Rise.nodup {L : List Lf} (h : Rise Lf.k L) : (L.map Lf.k).Nodup := by
  unfold Rise at h
  rw [List.Nodup, List.pairwise_map]
  exact h.imp fun {a b} hab e => by rw [e, before_irrefl] at hab; cases hab

/-- Leaves that an area of n pages can have. -/
structure LOk (n : Nat) (L : List Lf) : Prop where
  rise : Rise Lf.k L
  apart : (L.map Lf.p).Nodup
  place : ∀ x ∈ L, 1 ≤ x.p ∧ x.p < n
  len : ∀ x ∈ L, x.k.length ≤ 4096 ∧ x.v.length ≤ 4096
theorem LOk.nil (n : Nat) : LOk n [] := ⟨List.Pairwise.nil, List.nodup_nil, (fun x h => by cases h), fun x h => by cases h⟩
/-- Block sh is a shelf on the store p: n pages from fr on, its leaves in the map m. -/
structure ShAt (w : World) (sh m p fr n : Nat) (L : List Lf) (dead : Int) : Prop where
  cells : w.heap[sh]? = some (.cells #[.pointer (some ⟨p, 0, none⟩), .int .i64 (fr : Int), .int .i64 (n : Int), .map (some m), errV dead] 83 (0, 0))
  map : lfM w m L
  ok : LOk n L
  count : 2 ≤ n ∧ n ≤ 1024
  from_ : fr ≤ 4096
section
variable {w w' : World} {sh m p fr n : Nat} {L : List Lf} {dead : Int}
theorem ShAt.c0 (h : ShAt w sh m p fr n L dead) : w.cell? ⟨sh, 0, none⟩ = some (.pointer (some ⟨p, 0, none⟩)) := by rw [cell_of_row w sh 0 _ _ _ h.cells]; rfl
theorem ShAt.c1 (h : ShAt w sh m p fr n L dead) : w.cell? ⟨sh, 1, none⟩ = some (.int .i64 (fr : Int)) := by rw [cell_of_row w sh 1 _ _ _ h.cells]; rfl
theorem ShAt.c2 (h : ShAt w sh m p fr n L dead) : w.cell? ⟨sh, 2, none⟩ = some (.int .i64 (n : Int)) := by rw [cell_of_row w sh 2 _ _ _ h.cells]; rfl
theorem ShAt.c3 (h : ShAt w sh m p fr n L dead) : w.cell? ⟨sh, 3, none⟩ = some (.map (some m)) := by rw [cell_of_row w sh 3 _ _ _ h.cells]; rfl
theorem ShAt.c4 (h : ShAt w sh m p fr n L dead) : w.cell? ⟨sh, 4, none⟩ = some (errV dead) := by rw [cell_of_row w sh 4 _ _ _ h.cells]; rfl
theorem ShAt.fz (h : ShAt w sh m p fr n L dead) (o : Nat) : w.frozen? ⟨sh, o, none⟩ = false := frozen_of_row w sh o _ _ h.cells
theorem ShAt.lt (h : ShAt w sh m p fr n L dead) : sh < w.heap.size := lt_of_block h.cells
theorem ShAt.ltm (h : ShAt w sh m p fr n L dead) : m < w.heap.size := h.map.lt
theorem ShAt.keep (h : ShAt w sh m p fr n L dead) (h1 : w'.heap[sh]? = w.heap[sh]?) (h2 : w'.heap[m]? = w.heap[m]?) : ShAt w' sh m p fr n L dead :=
  ⟨h1.trans h.cells, owns_keepB h.map h2, h.ok, h.count, h.from_⟩
theorem ShAt.below (h : ShAt w sh m p fr n L dead) (hb : Below w.heap.size w w') : ShAt w' sh m p fr n L dead := h.keep (hb.block _ h.lt) (hb.block _ h.ltm)
theorem ShAt.few (h : ShAt w sh m p fr n L dead) : L.length < n := by
  have h1 := h.ok.apart
  have h2 : ∀ x ∈ L.map Lf.p, x ∈ List.range' 1 (n - 1) := fun x hx => by
    obtain ⟨y, hy, rfl⟩ := List.mem_map.1 hx
    have := h.ok.place y hy
    simp [List.mem_range'_1]; omega
  have h3 := List.Nodup.length_le_of_subset h1 h2
  simp at h3
  have := h.count
  omega
end
end Go.Proofs.YtidmpblaeohfaaaGreatDoor
