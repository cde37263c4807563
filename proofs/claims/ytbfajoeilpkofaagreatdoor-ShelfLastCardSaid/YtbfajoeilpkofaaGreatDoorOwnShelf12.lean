/- A shelf in memory: its leaves in a map, its five cells. -/
import Derived.Test.YtbfajoeilpkofaaGreatDoorOwnShelf03
import Derived.Test.YtbfajoeilpkofaaGreatDoorOwnShelf11
import Derived.StringKeys
import Derived.Laws.OwnMore
namespace Go.Proofs.YtbfajoeilpkofaaGreatDoor
open Go.RowKit Go.Maps Go.Sort

/-- A leaf: its key, its place, its value. -/
structure Lf where
  k : List UInt8
  p : Nat
  v : List UInt8
instance : Inhabited Lf := ⟨⟨[], 0, []⟩⟩
/-- A change: the key, the value, whether it goes. -/
structure Cg where
  k : List UInt8
  v : List UInt8
  g : Bool
instance : Inhabited Cg := ⟨⟨[], [], false⟩⟩
def lfV (p : Nat) (v : List UInt8) : Value := .agg #[.int .i64 (p : Int), encStr v]
def lfD (p : Nat) (v : List UInt8) : DataW Unit := .agg [.lit (.int .i64 (p : Int)), .lit (.string v)]
def Lf.en (x : Lf) : DataW Unit := lfD x.p x.v
/-- How a leaf in the map reads. -/
def lfR (v : Value) : Option (DataW Unit × List MemPlace) :=
  match v with
  | .agg cs => match cs.toList with
    | [.int .i64 p, .string s] => if 0 ≤ p then some (lfD p.toNat s.data.toList, []) else none
    | _ => none
  | _ => none
theorem lfR_mk (p : Nat) (v : List UInt8) : lfR (lfV p v) = some (lfD p v, []) := by
  simp [lfR, lfV, encStr]
theorem lfR_inv {v : Value} {y : DataW Unit × List MemPlace} (h : lfR v = some y) : ∃ p u, v = lfV p u ∧ y = (lfD p u, []) := by
  unfold lfR at h
  split at h
  · rename_i cs
    split at h
    · rename_i p s hcs
      split at h
      · rename_i hp
        cases h
        refine ⟨p.toNat, s.data.toList, ?_, rfl⟩
        unfold lfV encStr
        rw [Int.toNat_of_nonneg hp]
        congr 1
        apply Array.toList_inj.1
        rw [hcs]
      · cases h
    · cases h
  · cases h
theorem lfR_val {v : Value} {y : DataW Unit × List MemPlace} (h : lfR v = some y) : ∃ c : Nat × List UInt8, v = lfV c.1 c.2 := by
  obtain ⟨p, u, e, _⟩ := lfR_inv h
  exact ⟨(p, u), e⟩
theorem lfD_inj {p q : Nat} {u v : List UInt8} (h : lfD p u = lfD q v) : p = q ∧ u = v := by
  unfold lfD at h
  simp only [DataW.agg.injEq, List.cons.injEq, DataW.lit.injEq, Lit.int.injEq, Lit.string.injEq, true_and, and_true] at h
  exact ⟨by omega, h.2⟩

def cgL (x : Cg) : List Value := [encStr x.k, encStr x.v, .bool x.g]
def cgV (x : Cg) : Value := .agg #[encStr x.k, encStr x.v, .bool x.g]
def Cg.en (x : Cg) : DataW Unit := .agg [.lit (.string x.k), .lit (.string x.v), .lit (.bool x.g)]
def cgR (v : Value) : Option (DataW Unit × List MemPlace) :=
  match v with
  | .agg cs => match cs.toList with
    | [.string a, .string b, .bool g] => some ((⟨a.data.toList, b.data.toList, g⟩ : Cg).en, [])
    | _ => none
  | _ => none
theorem cgR_mk (x : Cg) : cgR (cgV x) = some (x.en, []) := by simp [cgR, cgV, encStr]
theorem cgR_inv {v : Value} {y : DataW Unit × List MemPlace} (h : cgR v = some y) : ∃ x : Cg, v = cgV x ∧ y = (x.en, []) := by
  unfold cgR at h
  split at h
  · rename_i cs
    split at h
    · rename_i a b g hcs
      cases h
      refine ⟨⟨a.data.toList, b.data.toList, g⟩, ?_, rfl⟩
      unfold cgV encStr
      congr 1
      apply Array.toList_inj.1
      rw [hcs]
    · cases h
  · cases h
theorem cgR_val {v : Value} {y : DataW Unit × List MemPlace} (h : cgR v = some y) : ∃ x : Cg, v = cgV x := by
  obtain ⟨x, e, _⟩ := cgR_inv h
  exact ⟨x, e⟩
theorem Cg.en_inj {x y : Cg} (h : x.en = y.en) : x = y := by
  unfold Cg.en at h
  simp only [DataW.agg.injEq, List.cons.injEq, DataW.lit.injEq, Lit.bool.injEq, Lit.string.injEq, and_true] at h
  cases x; cases y; simp at *; exact h

theorem strK : Maps.Keyed Tryz.prog 9 := Maps.string_keyed Tryz.underlying9
theorem key_str {k : List UInt8} (h : k.length ≤ maxLen) : keyOf Tryz.prog 9 (encStr k) = some (.string k) := by
  have := WideMaps.keyOf_string_mk (P := Tryz.prog) (k := 9) Tryz.underlying9 (s := ⟨k.toArray⟩) (by simpa [ByteArray.size] using h)
  simpa [encStr] using this
theorem key_inv {key : Value} {kl : Lit} (h : keyOf Tryz.prog 9 key = some kl) : ∃ x : List UInt8, key = encStr x := by
  obtain ⟨x, e, _⟩ := Maps.keyOf_str Tryz.underlying9 h
  exact ⟨x, e⟩
theorem eq_str (a b : List UInt8) (w : World) : (binOp .eql 9 (encStr a) (encStr b)).run Tryz.prog w = .ok (.bool (a == b)) w := by
  show (binOp .eql 9 (.string ⟨a.toArray⟩) (.string ⟨b.toArray⟩)).run Tryz.prog w = _
  rw [binOp_string_eql]
  have e1 : ∀ l : List UInt8, (⟨l.toArray⟩ : ByteArray).toList = l := fun l => by rw [ByteArray.toList_eq]
  rw [e1, e1]
  rfl
/-- A map of leaves. -/
def lfM (w : World) (m : Nat) (L : List Lf) : Prop := w.ownsMap Tryz.prog 9 lfR m L.length (dOf Lf.k Lf.en L)
def cgM (w : World) (m : Nat) (L : List Cg) : Prop := w.ownsMap Tryz.prog 9 cgR m L.length (dOf Cg.k Cg.en L)
theorem owns_exact {R : Value → Option (DataW Unit × List MemPlace)} {w : World} {b n : Nat} {D : DataW Unit} (h : w.ownsMap Tryz.prog 9 R b n D) : w.ownsMap Tryz.prog 9 R b (Maps.size D) D := by
  obtain ⟨es, clock, hb, F, hs, rfl⟩ := h
  exact ⟨es, clock, hb, F, by simp [Maps.size, length_sorted], rfl⟩
theorem lfM.of {w : World} {m n : Nat} {L : List Lf} (h : w.ownsMap Tryz.prog 9 lfR m n (dOf Lf.k Lf.en L)) : lfM w m L := by
  have := owns_exact h
  rwa [dOf_size] at this
theorem cgM.of {w : World} {m n : Nat} {L : List Cg} (h : w.ownsMap Tryz.prog 9 cgR m n (dOf Cg.k Cg.en L)) : cgM w m L := by
  have := owns_exact h
  rwa [dOf_size] at this
theorem owns_keepB {R : Value → Option (DataW Unit × List MemPlace)} {w w' : World} {b n : Nat} {D : DataW Unit} (h : w.ownsMap Tryz.prog 9 R b n D) (hk : w'.heap[b]? = w.heap[b]?) : w'.ownsMap Tryz.prog 9 R b n D := by
  obtain ⟨es, clock, hb, F, hs, hD⟩ := h
  exact ⟨es, clock, hk.trans hb, F, hs, hD⟩
theorem ranges_keepB {R : Value → Option (DataW Unit × List MemPlace)} {w w' : World} {b r n : Nat} {D : DataW Unit} {left : Lit → Bool} {cnt : Nat} (h : w.ranges Tryz.prog 9 R b r n D left cnt) (h1 : w'.heap[b]? = w.heap[b]?) (h2 : w'.heap[r]? = w.heap[r]?) : w'.ranges Tryz.prog 9 R b r n D left cnt := by
  obtain ⟨es, clock, since, seen, c0, hb, F, hs, hD, hr, rest⟩ := h
  exact ⟨es, clock, since, seen, c0, h1.trans hb, F, hs, hD, h2.trans hr, rest⟩
theorem Rise.nodup {L : List Lf} (h : Rise Lf.k L) : (L.map Lf.k).Nodup := by
  unfold Rise at h
  rw [List.Nodup, List.pairwise_map]
  exact h.imp fun {a b} hab e => by rw [e, before_irrefl] at hab; cases hab

/-- Leaves that an area of n pages can have. -/
structure LOk (n : Nat) (L : List Lf) : Prop where
  rise : Rise Lf.k L
  apart : (L.map Lf.p).Nodup
  place : ∀ x ∈ L, 1 ≤ x.p ∧ x.p < n
  len : ∀ x ∈ L, x.k.length ≤ 4096 ∧ x.v.length ≤ 4096
theorem LOk.nil (n : Nat) : LOk n [] := ⟨List.Pairwise.nil, List.nodup_nil, (fun x h => by cases h), fun x h => by cases h⟩
/-- Block sh is a shelf on the store p: n pages from fr on, its leaves in the map m. -/
structure ShAt (w : World) (sh m p fr n : Nat) (L : List Lf) (dead : Int) : Prop where
  cells : w.heap[sh]? = some (.cells #[.pointer (some ⟨p, 0, none⟩), .int .i64 (fr : Int), .int .i64 (n : Int), .map (some m), errV dead] 83 (0, 0))
  map : lfM w m L
  ok : LOk n L
  count : 2 ≤ n ∧ n ≤ 1024
  from_ : fr ≤ 4096
section
variable {w w' : World} {sh m p fr n : Nat} {L : List Lf} {dead : Int}
theorem ShAt.c0 (h : ShAt w sh m p fr n L dead) : w.cell? ⟨sh, 0, none⟩ = some (.pointer (some ⟨p, 0, none⟩)) := by rw [cell_of_row w sh 0 _ _ _ h.cells]; rfl
theorem ShAt.c1 (h : ShAt w sh m p fr n L dead) : w.cell? ⟨sh, 1, none⟩ = some (.int .i64 (fr : Int)) := by rw [cell_of_row w sh 1 _ _ _ h.cells]; rfl
theorem ShAt.c2 (h : ShAt w sh m p fr n L dead) : w.cell? ⟨sh, 2, none⟩ = some (.int .i64 (n : Int)) := by rw [cell_of_row w sh 2 _ _ _ h.cells]; rfl
theorem ShAt.c3 (h : ShAt w sh m p fr n L dead) : w.cell? ⟨sh, 3, none⟩ = some (.map (some m)) := by rw [cell_of_row w sh 3 _ _ _ h.cells]; rfl
theorem ShAt.c4 (h : ShAt w sh m p fr n L dead) : w.cell? ⟨sh, 4, none⟩ = some (errV dead) := by rw [cell_of_row w sh 4 _ _ _ h.cells]; rfl
theorem ShAt.fz (h : ShAt w sh m p fr n L dead) (o : Nat) : w.frozen? ⟨sh, o, none⟩ = false := frozen_of_row w sh o _ _ h.cells
theorem ShAt.lt (h : ShAt w sh m p fr n L dead) : sh < w.heap.size := lt_of_block h.cells
theorem ShAt.ltm (h : ShAt w sh m p fr n L dead) : m < w.heap.size := h.map.lt
theorem ShAt.keep (h : ShAt w sh m p fr n L dead) (h1 : w'.heap[sh]? = w.heap[sh]?) (h2 : w'.heap[m]? = w.heap[m]?) : ShAt w' sh m p fr n L dead :=
  ⟨h1.trans h.cells, owns_keepB h.map h2, h.ok, h.count, h.from_⟩
theorem ShAt.below (h : ShAt w sh m p fr n L dead) (hb : Below w.heap.size w w') : ShAt w' sh m p fr n L dead := h.keep (hb.block _ h.lt) (hb.block _ h.ltm)
theorem ShAt.few (h : ShAt w sh m p fr n L dead) : L.length < n := by
  have h1 := h.ok.apart
  have h2 : ∀ x ∈ L.map Lf.p, x ∈ List.range' 1 (n - 1) := fun x hx => by
    obtain ⟨y, hy, rfl⟩ := List.mem_map.1 hx
    have := h.ok.place y hy
    simp [List.mem_range'_1]; omega
  have h3 := List.Nodup.length_le_of_subset h1 h2
  simp at h3
  have := h.count
  omega
end
end Go.Proofs.YtbfajoeilpkofaaGreatDoor
/- A store in memory: its pages, its loose writes. -/
namespace Go.Proofs.YtbfajoeilpkofaaGreatDoor
open Go.RowKit

attribute [local go_sem ↓] Go.wp_at_zero Go.wp_at_succ

/-- Bytes as a slice holds them: where, how much room, which. -/
structure Bs where
  ad : Option Addr
  cap : Nat
  l : List Int
def Bs.v (x : Bs) : Value := .slice x.ad x.l.length x.cap
theorem Bs.v_one (x : Bs) : x.v.oneCell' = true := rfl
/-- The bytes lie there. -/
structure BsAt (w : World) (x : Bs) : Prop where
  lies : SlAt w x.ad x.l.length (fn x.l)
  nil : x.ad = none → x.l.length = 0 ∧ x.cap = 0
  len : x.l.length ≤ 4096
  bd : ∀ y, y ∈ x.l → 0 ≤ y ∧ y ≤ 255
def Bs.In (x : Bs) (F : Nat → Prop) : Prop := ∀ a, x.ad = some a → F a.block
theorem BsAt.keep {w w' : World} {x : Bs} {F : Nat → Prop} (h : BsAt w x) (hx : x.In F) (hk : ∀ k, F k → w'.heap[k]? = w.heap[k]?) : BsAt w' x :=
  ⟨h.lies.block fun b _ _ e => hk b (hx _ e), h.nil, h.len, h.bd⟩
def nilBs : Bs := ⟨none, 0, []⟩
theorem nilBs_at (w : World) : BsAt w nilBs := ⟨SlAt.zero _ _, fun _ => ⟨rfl, rfl⟩, by simp [nilBs], fun y h => by cases h⟩
theorem nilBs_in (F : Nat → Prop) : nilBs.In F := fun a h => by cases h

/-- A store's state: the safe pages, the loose writes. -/
structure St where
  safe : List Bs
  loose : List (Int × Bs)
  armed : Bool
  steps : Int
  down : Bool
/-- Loose writes as cells. -/
def flatW : List (Int × Bs) → List Value
  | [] => []
  | x :: r => .int .i64 x.1 :: x.2.v :: flatW r
theorem flatW_length : ∀ L : List (Int × Bs), (flatW L).length = L.length * 2
  | [] => rfl
  | _ :: r => by simp [flatW, flatW_length r]; omega
theorem flatW_append : ∀ (L : List (Int × Bs)) (M : List (Int × Bs)), flatW (L ++ M) = flatW L ++ flatW M
  | [], _ => rfl
  | _ :: r, M => by simp [flatW, flatW_append r M]
theorem flatW_at0 : ∀ (L : List (Int × Bs)) (i : Nat) (x : Int × Bs), L[i]? = some x → (flatW L)[i * 2]? = some (.int .i64 x.1)
  | [], i, _, h => by simp at h
  | y :: r, 0, x, h => by simp at h; subst h; simp [flatW]
  | y :: r, i + 1, x, h => by
    have := flatW_at0 r i x (by simpa using h)
    rw [show (i + 1) * 2 = i * 2 + 2 from by omega]
    simpa [flatW] using this
theorem flatW_at1 : ∀ (L : List (Int × Bs)) (i : Nat) (x : Int × Bs), L[i]? = some x → (flatW L)[i * 2 + 1]? = some x.2.v
  | [], i, _, h => by simp at h
  | y :: r, 0, x, h => by simp at h; subst h; simp [flatW]
  | y :: r, i + 1, x, h => by
    have := flatW_at1 r i x (by simpa using h)
    rw [show (i + 1) * 2 + 1 = i * 2 + 1 + 2 from by omega]
    simpa [flatW] using this
theorem flatW_one : ∀ L : List (Int × Bs), ∀ u ∈ flatW L, u.oneCell' = true
  | [], u, h => by cases h
  | x :: r, u, h => by
    simp only [flatW, List.mem_cons] at h
    rcases h with rfl | rfl | h
    · rfl
    · rfl
    · exact flatW_one r u h

/-- A store's five cells. -/
def stC (q : Nat) (lo : Value) (S : St) : Array Value := #[.slice (some ⟨q, 0, none⟩) S.safe.length S.safe.length, lo, .bool S.armed, .int .i64 S.steps, .bool S.down]
/-- Block p is a store: its safe pages in block q, its loose writes in the row lo, bytes in blocks of F. -/
structure St0 (w : World) (p q : Nat) (lo : Value) (F : Nat → Prop) (S : St) : Prop where
  cells : w.heap[p]? = some (.cells (stC q lo S) 75 (0, 0))
  safe : w.heap[q]? = some (.cells (S.safe.map Bs.v).toArray 29 (0, 0))
  loose : w.ownsRow 0 79 2 lo S.loose.length (flatW S.loose)
  ps : ∀ x ∈ S.safe, BsAt w x ∧ x.In F
  ls : ∀ x ∈ S.loose, BsAt w x.2 ∧ x.2.In F ∧ 0 ≤ x.1 ∧ x.1 < S.safe.length
  npq : p ≠ q
  nF : ¬ F p ∧ ¬ F q
  nlo : ∀ k, lo.ownBlock = some k → k ≠ p ∧ k ≠ q ∧ ¬ F k
  ltF : ∀ k, F k → k < w.heap.size
  small : S.safe.length ≤ 4096
  few : S.loose.length ≤ 1000000
  pos : 0 < S.safe.length
/-- A block of the store. -/
def Mine (p q : Nat) (lo : Value) (F : Nat → Prop) (k : Nat) : Prop := k = p ∨ k = q ∨ lo.ownBlock = some k ∨ F k
section
variable {w w' : World} {p q : Nat} {lo : Value} {F : Nat → Prop} {S : St}
theorem St0.ltlo (h : St0 w p q lo F S) {k : Nat} (hk : lo.ownBlock = some k) : k < w.heap.size := (h.loose.lt k hk).2
theorem St0.lt (h : St0 w p q lo F S) {k : Nat} (hk : Mine p q lo F k) : k < w.heap.size := by
  rcases hk with rfl | rfl | hk | hk
  · exact lt_of_block h.cells
  · exact lt_of_block h.safe
  · exact h.ltlo hk
  · exact h.ltF k hk
theorem owns_row_keep {B n size : Nat} {e : TypeId} {v : Value} {xs : List Value} (h : w.ownsRow B e size v n xs) (hk : ∀ k, v.ownBlock = some k → w'.heap[k]? = w.heap[k]?) : w'.ownsRow B e size v n xs := by
  refine ⟨h.1, ?_⟩
  rcases h.2 with hnil | ⟨k, cap, cur, e, hb, hg, rest⟩
  · exact .inl hnil
  · exact .inr ⟨k, cap, cur, e, hb, by rw [hk k (by rw [e]; rfl)]; exact hg, rest⟩
theorem St0.keep (h : St0 w p q lo F S) (hs : w.heap.size ≤ w'.heap.size) (hk : ∀ k, Mine p q lo F k → w'.heap[k]? = w.heap[k]?) : St0 w' p q lo F S := by
  have hF : ∀ k, F k → w'.heap[k]? = w.heap[k]? := fun k hf => hk k (.inr (.inr (.inr hf)))
  exact ⟨by rw [hk p (.inl rfl)]; exact h.cells, by rw [hk q (.inr (.inl rfl))]; exact h.safe, owns_row_keep h.loose fun k e => hk k (.inr (.inr (.inl e))),
    fun x hx => ⟨(h.ps x hx).1.keep (h.ps x hx).2 hF, (h.ps x hx).2⟩, fun x hx => ⟨(h.ls x hx).1.keep (h.ls x hx).2.1 hF, (h.ls x hx).2⟩, h.npq, h.nF, h.nlo, fun k hf => Nat.lt_of_lt_of_le (h.ltF k hf) hs, h.small, h.few, h.pos⟩
theorem St0.below (h : St0 w p q lo F S) (hb : Below w.heap.size w w') : St0 w' p q lo F S := h.keep hb.size fun k hk => hb.block k (h.lt hk)
theorem St0.c0 (h : St0 w p q lo F S) : w.cell? ⟨p, 0, none⟩ = some (.slice (some ⟨q, 0, none⟩) S.safe.length S.safe.length) := by rw [cell_of_row w p 0 _ _ _ h.cells]; rfl
theorem St0.c1 (h : St0 w p q lo F S) : w.cell? ⟨p, 1, none⟩ = some lo := by rw [cell_of_row w p 1 _ _ _ h.cells]; rfl
theorem St0.c2 (h : St0 w p q lo F S) : w.cell? ⟨p, 2, none⟩ = some (.bool S.armed) := by rw [cell_of_row w p 2 _ _ _ h.cells]; rfl
theorem St0.c3 (h : St0 w p q lo F S) : w.cell? ⟨p, 3, none⟩ = some (.int .i64 S.steps) := by rw [cell_of_row w p 3 _ _ _ h.cells]; rfl
theorem St0.c4 (h : St0 w p q lo F S) : w.cell? ⟨p, 4, none⟩ = some (.bool S.down) := by rw [cell_of_row w p 4 _ _ _ h.cells]; rfl
theorem St0.fz (h : St0 w p q lo F S) (o : Nat) : w.frozen? ⟨p, o, none⟩ = false := frozen_of_row w p o _ _ h.cells
theorem St0.lform (h : St0 w p q lo F S) : ∃ ad cap, lo = .slice ad S.loose.length cap := by
  rcases h.loose.2 with ⟨rfl, e⟩ | ⟨g, cap, cur, rfl, _⟩
  · exact ⟨none, 0, by rw [e]⟩
  · exact ⟨_, cap, rfl⟩
end
/-- A store in memory; all its blocks are of G. -/
def StAt (w : World) (G : Nat → Prop) (p : Nat) (S : St) : Prop := ∃ q lo F, St0 w p q lo F S ∧ (∀ k, Mine p q lo F k → G k)
theorem StAt.keep {w w' : World} {G : Nat → Prop} {p : Nat} {S : St} (h : StAt w G p S) (hs : w.heap.size ≤ w'.heap.size) (hk : ∀ k, k < w.heap.size → G k → w'.heap[k]? = w.heap[k]?) : StAt w' G p S := by
  obtain ⟨q, lo, F, h0, hG⟩ := h
  exact ⟨q, lo, F, h0.keep hs fun k hm => hk k (h0.lt hm) (hG k hm), hG⟩
theorem StAt.below {w w' : World} {G : Nat → Prop} {p : Nat} {S : St} (h : StAt w G p S) (hb : Below w.heap.size w w') : StAt w' G p S := h.keep hb.size fun k hk _ => hb.block k hk

set_option maxHeartbeats 400000 in
theorem pages_any (p q : Nat) (lo : Value) (F : Nat → Prop) (S : St) (w : World) (h : St0 w p q lo F S) :
    Calls Tryz.prog 34 #[.pointer (some ⟨p, 0, none⟩)] w fun e w' => e = .returned (.int .i64 S.safe.length) ∧ w' = w := by
  have h0 := h.c0
  clear h
  go_enter Tryz.func34, Tryz.ntmps34
  go_wp2
  go_ret
  exact ⟨rfl, rfl⟩
set_option maxHeartbeats 400000 in
theorem loose_any (p q : Nat) (lo : Value) (F : Nat → Prop) (S : St) (w : World) (h : St0 w p q lo F S) :
    Calls Tryz.prog 22 #[.pointer (some ⟨p, 0, none⟩)] w fun e w' => e = .returned (.int .i64 S.loose.length) ∧ w' = w := by
  have h1 := h.c1
  obtain ⟨ad, cap, rfl⟩ := h.lform
  clear h
  go_enter Tryz.func22, Tryz.ntmps22
  go_wp2
  go_ret
  exact ⟨rfl, rfl⟩
set_option maxHeartbeats 400000 in
theorem has_any (p q : Nat) (lo : Value) (F : Nat → Prop) (S : St) (pg : Int) (w : World) (h : St0 w p q lo F S) :
    Calls Tryz.prog 30 #[.pointer (some ⟨p, 0, none⟩), .int .i64 pg] w fun e w' => e = .returned (.bool (decide (0 ≤ pg ∧ pg < S.safe.length))) ∧ w' = w := by
  have hp := pages_any p q lo F S w h
  clear h
  by_cases h1 : 0 ≤ pg
  · have e1 : decide (0 ≤ pg ∧ pg < S.safe.length) = decide (pg < S.safe.length) := by simp [h1]
    rw [e1]
    go_enter Tryz.func30, Tryz.ntmps30
    go_wp2_with fail
    refine hp.mono ?_
    rintro e w1 ⟨rfl, rfl⟩
    go_wp2
    go_ret
    exact ⟨rfl, rfl⟩
  · have e1 : decide (0 ≤ pg ∧ pg < S.safe.length) = false := by simp [h1]
    rw [e1]
    go_enter Tryz.func30, Tryz.ntmps30
    go_wp2
    go_ret
    exact ⟨rfl, rfl⟩
end Go.Proofs.YtbfajoeilpkofaaGreatDoor
/- slices.Clone of bytes; a step; a new store. -/
namespace Go.Proofs.YtbfajoeilpkofaaGreatDoor
open Go.RowKit

attribute [local go_sem ↓] Go.wp_at_zero Go.wp_at_succ

theorem eqB_nil (w : World) : (binOp .eql 29 (.slice none 0 0) (.slice none 0 0)).run Tryz.prog w = .ok (.bool true) w := by kernel_rfl
theorem eqB_some (a : Addr) (n cap : Nat) (w : World) : (binOp .eql 29 (.slice (some a) n cap) (.slice none 0 0)).run Tryz.prog w = .ok (.bool false) w := by kernel_rfl
theorem sliceB_none (w : World) : (Instr.buildSlice 29 0 #[]).run Tryz.prog w = .ok (.slice (some ⟨w.heap.size, 0, none⟩) 0 0) (w.alloc (.cells #[] 5)) := by kernel_rfl
theorem wpList_append_run {ops : Array Oper} {rest : List Oper} {o : Oper} {a : Act} {w : World} {Q : Exit → Act → World → Prop} (hgd : o.guard = none) (s x : Operand) (t : TypeId) (ho : o.op = .call { callee := .builtin .append, args := #[s, x], argTypes := #[t, t] }) {v u v' : Value} {w' : World} (hs : a.eval s = v) (hx : a.eval x = u)
    (hr : (Builtin.append_ #[t, t] o.type #[v, u]).run Tryz.prog w = .ok v' w') (h : wpList Tryz.prog ops Q rest (a.put o.dst v') w') : wpList Tryz.prog ops Q (o :: rest) a w := by
  refine wpList_plain hgd fun K hK => ?_
  unfold Oper.wp execOp
  simp only [ho, resolve, invoke, builtin, Sem.run_bind, Sem.run_pure, Result.andThen_ok, List.map_toArray, List.map_cons, List.map_nil, hs, hx, hr]
  exact hK _ _ h
/-- What is made new: a slice of bytes of its own. -/
def ClR (w : World) (l : List Int) (e : Ending) (w' : World) : Prop := ∃ ad cap, e = .returned (.slice ad l.length cap) ∧ Ow w w' (.slice ad l.length cap) l
set_option maxRecDepth 100000 in
set_option maxHeartbeats 800000 in
theorem clone_nil (w : World) : Calls Tryz.prog 31 #[.slice none 0 0] w fun e w' => e = .returned (.slice none 0 0) ∧ w' = w := by
  have k0 := eqB_nil
  go_enter Tryz.func31, Tryz.ntmps31
  go_wp2
  go_ret
  exact ⟨rfl, rfl⟩
set_option maxRecDepth 100000 in
set_option maxHeartbeats 800000 in
theorem clone_any (ad : Option Addr) (cap : Nat) (l : List Int) (w : World) (h : SlAt w ad l.length (fn l)) (hn : ad = none → l.length = 0 ∧ cap = 0) (hb : ∀ y, y ∈ l → 0 ≤ y ∧ y ≤ 255) (hl : l.length ≤ 140737488355328) :
    Calls Tryz.prog 31 #[.slice ad l.length cap] w (ClR w l) := by
  have hs := h.src hn
  cases ad with
  | none =>
    obtain ⟨e1, rfl⟩ := hn rfl
    obtain rfl : l = [] := List.eq_nil_of_length_eq_zero e1
    refine (clone_nil w).mono ?_
    rintro e w' ⟨rfl, rfl⟩
    exact ⟨none, 0, rfl, Ow.nil _⟩
  | some a =>
    have how : Ow w (w.alloc (.cells #[] 5)) (.slice (some ⟨w.heap.size, 0, none⟩) 0 0) [] :=
      ⟨⟨rfl, .inr ⟨w.heap.size, 0, #[], rfl, Nat.le_refl _, heap_alloc_new w _, Nat.le_refl _, Nat.zero_le _, rfl, rfl⟩⟩, (Below.refl _ w).alloc (Nat.le_refl _) _, fun _ h => by cases h⟩
    have hs' : BSrc (w.alloc (.cells #[] 5)) (.slice (some a) l.length cap) l := by
      obtain ⟨ad', c', e, hd⟩ := hs
      cases e
      refine ⟨_, _, rfl, ?_⟩
      rcases hd with ⟨e, _⟩ | ⟨a', e, hc⟩
      · cases e
      · cases e
        refine .inr ⟨_, rfl, fun j v hv => ?_⟩
        have := hc j v hv
        rw [World.cell?_alloc_lt _ _ _ (World.block_lt_of_cell? w _ this)]
        exact this
    obtain ⟨v', w1, hrun, how'⟩ := run_append_B _ w 29 _ _ [] l how hs' hb (by simpa using hl)
    rw [List.nil_append] at how'
    obtain ⟨ad', cp', rfl⟩ := how'.form
    have HE : Hid (ClR w l (.returned (.slice ad' l.length cp')) w1) := ⟨ad', cp', rfl, how'⟩
    have k0 := eqB_some
    have k1 := sliceB_none w
    clear how how' hs hs' h hn
    go_enter Tryz.func31, Tryz.ntmps31
    go_wp2_with (first | (at_builtin; refine wpList_append_run rfl _ _ _ rfl rfl rfl hrun ?_) | fail)
    go_ret
    exact HE.out
theorem ow_bs {w w' : World} {ad : Option Addr} {cap : Nat} {l : List Int} (h : Ow w w' (.slice ad l.length cap) l) (hl : l.length ≤ 4096) : BsAt w' ⟨ad, cap, l⟩ ∧ (⟨ad, cap, l⟩ : Bs).In (fun k => w.heap.size ≤ k ∧ k < w'.heap.size) := by
  have hf := h.fresh
  refine ⟨⟨hf.2.1, hf.2.2.1, hl, h.bd⟩, fun a e => ?_⟩
  simp only at e
  subst e
  exact h.own.lt a.block rfl

/-- A step: what the store is, and which error it answers. -/
def stepS (S : St) : St := if S.armed = false then S else if 0 < S.steps then { S with steps := S.steps - 1 } else { S with down := true }
def stepE (S : St) : Int := if S.armed = false then 0 else if 0 < S.steps then 0 else 13
/-- The store's own cells turn. -/
theorem St0.turn {w : World} {p q : Nat} {lo : Value} {F : Nat → Prop} {S : St} (h : St0 w p q lo F S) (o : Nat) (u : Value) (S' : St) (lo' : Value) (hst : (stC q lo S).setIfInBounds o u = stC q lo' S') (hsa : S'.safe = S.safe) (hlo : S'.loose = S.loose) (hl : lo' = lo) : St0 (w.setCell ⟨p, o, none⟩ u) p q lo' F S' := by
  subst hl
  have hk : ∀ k, k ≠ p → (w.setCell ⟨p, o, none⟩ u).heap[k]? = w.heap[k]? := fun k hk => Below.heap_setCell _ _ _ _ hk
  have hF : ∀ k, F k → (w.setCell ⟨p, o, none⟩ u).heap[k]? = w.heap[k]? := fun k hf => hk k (fun e => h.nF.1 (e ▸ hf))
  refine ⟨?_, ?_, ?_, ?_, ?_, h.npq, h.nF, h.nlo, fun k hf => by simpa [World.setCell] using h.ltF k hf, by rw [hsa]; exact h.small, by rw [hlo]; exact h.few, by rw [hsa]; exact h.pos⟩
  · rw [heap_setCell_same w p o _ _ u h.cells, hst]
  · rw [hk q (Ne.symm h.npq), hsa]; exact h.safe
  · rw [hlo]; exact owns_row_keep h.loose fun k e => hk k (h.nlo k e).1
  · rw [hsa]; exact fun x hx => ⟨(h.ps x hx).1.keep (h.ps x hx).2 hF, (h.ps x hx).2⟩
  · rw [hlo, hsa]; exact fun x hx => ⟨(h.ls x hx).1.keep (h.ls x hx).2.1 hF, (h.ls x hx).2⟩
/-- What a step leaves. -/
def StepR (p q : Nat) (lo : Value) (F : Nat → Prop) (S : St) (w : World) (e : Ending) (w' : World) : Prop := e = .returned (errV (stepE S)) ∧ St0 w' p q lo F (stepS S) ∧ Frm [p] w w' ∧ w'.heap.size = w.heap.size
set_option maxHeartbeats 800000 in
theorem step_any (p q : Nat) (lo : Value) (F : Nat → Prop) (S : St) (w : World) (h : St0 w p q lo F S) (hs : 0 ≤ S.steps ∧ S.steps < 9223372036854775808) :
    Calls Tryz.prog 32 #[.pointer (some ⟨p, 0, none⟩)] w (StepR p q lo F S w) := by
  have h2 := h.c2
  have h3 := h.c3
  have h4 := h.c4
  have f3 := h.fz 3
  have f4 := h.fz 4
  by_cases h1 : S.armed = false
  · have HE : Hid (StepR p q lo F S w (.returned .nilIface) w) := ⟨by simp [stepE, h1, errV], by simp only [stepS, if_pos h1]; exact h, Frm.refl _ _, rfl⟩
    rw [h1] at h2
    clear h
    go_enter Tryz.func32, Tryz.ntmps32
    go_wp2
    go_ret
    exact HE.out
  · have h1' : S.armed = true := by simpa using h1
    by_cases hp : 0 < S.steps
    · have HE : Hid (StepR p q lo F S w (.returned .nilIface) (w.setCell ⟨p, 3, none⟩ (.int .i64 (S.steps - 1)))) :=
        ⟨by simp [stepE, h1, hp, errV], by simp only [stepS, if_neg h1, if_pos hp]; exact h.turn 3 _ _ _ rfl rfl rfl rfl, (Frm.refl _ _).setCell _ _ (by simp), by simp [World.setCell]⟩
      rw [h1'] at h2
      have hwr : IntKind.i64.wrap (S.steps - 1) = S.steps - 1 := by rw [IntKind.wrap_i64]; omega
      clear h
      generalize S.steps = n at *
      go_enter Tryz.func32, Tryz.ntmps32
      go_wp2
      go_ret
      exact HE.out
    · have HE : Hid (StepR p q lo F S w (.returned (.iface 72 (.int .i64 13))) (w.setCell ⟨p, 4, none⟩ (.bool true))) :=
        ⟨by simp [stepE, h1, hp, errV], by simp only [stepS, if_neg h1, if_neg hp]; exact h.turn 4 _ _ _ rfl rfl rfl rfl, (Frm.refl _ _).setCell _ _ (by simp), by simp [World.setCell]⟩
      rw [h1'] at h2
      obtain ⟨n, hn, e0⟩ : ∃ n, S.steps = n ∧ n = 0 := ⟨_, rfl, by omega⟩
      rw [hn, e0] at h3
      clear h hn hp hs
      go_enter Tryz.func32, Tryz.ntmps32
      go_wp2
      go_ret
      exact HE.out
end Go.Proofs.YtbfajoeilpkofaaGreatDoor
