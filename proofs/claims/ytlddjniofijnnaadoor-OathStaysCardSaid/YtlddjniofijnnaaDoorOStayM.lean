/- OathStays: what is signed; two books apart; two signatures held against one another. -/
import Derived.Test.YtlddjniofijnnaaDoorOCloneW
import Derived.DeepKeys
import Derived.Laws.StructEq
namespace Go.Proofs.YtlddjniofijnnaaDoor
open Go.RowKit

theorem mem_sgnA {S : List (Int × List UInt8)} {z : Nat → Int} {k : Int} {s : Int × List UInt8} : s ∈ sgnS S k z ↔ s ∈ S ∨ (pty k = true ∧ s = (k, ub z)) := by
  unfold sgnS
  by_cases hp : pty k = true
  · rw [if_pos hp]
    by_cases hc : S.contains (k, ub z) = true
    · rw [if_pos hc]
      refine ⟨.inl, fun h => ?_⟩
      rcases h with h | ⟨_, rfl⟩
      · exact h
      · simpa using hc
    · rw [if_neg hc]
      simp [hp]
  · rw [if_neg hp]
    simp [hp]
theorem mem_ldS (X : Nat → Sg) (s : Int × List UInt8) : ∀ i, s ∈ ldS X i ↔ ∃ j, j < i ∧ pty (X j).k = true ∧ s = (X j).p
  | 0 => by simp [ldS]
  | i + 1 => by
    rw [ldS, mem_sgnA, mem_ldS X s i]
    constructor
    · rintro (⟨j, h1, h2⟩ | h)
      · exact ⟨j, by omega, h2⟩
      · exact ⟨i, by omega, h⟩
    · rintro ⟨j, h1, h2⟩
      by_cases e : j = i
      · subst e; exact .inr h2
      · exact .inl ⟨j, by omega, h2⟩
/-- S, and the first j of Y behind it. -/
def scS (S : List (Int × List UInt8)) (Y : Nat → Sg) : Nat → List (Int × List UInt8)
  | 0 => S
  | j + 1 => sgnS (scS S Y j) (Y j).k (Y j).z
theorem scS_len (S : List (Int × List UInt8)) (Y : Nat → Sg) : ∀ i, (scS S Y i).length ≤ S.length + i
  | 0 => by simp [scS]
  | i + 1 => by have h1 := scS_len S Y i; have h2 := sgnS_len (scS S Y i) (Y i).k (Y i).z; rw [scS]; omega
theorem mem_scS (S : List (Int × List UInt8)) (Y : Nat → Sg) (s : Int × List UInt8) : ∀ i, s ∈ scS S Y i ↔ s ∈ S ∨ ∃ j, j < i ∧ pty (Y j).k = true ∧ s = (Y j).p
  | 0 => by simp [scS]
  | i + 1 => by
    rw [scS, mem_sgnA, mem_scS S Y s i]
    constructor
    · rintro ((h | ⟨j, h1, h2⟩) | h)
      · exact .inl h
      · exact .inr ⟨j, by omega, h2⟩
      · exact .inr ⟨i, by omega, h⟩
    · rintro (h | ⟨j, h1, h2⟩)
      · exact .inl (.inl h)
      · by_cases e : j = i
        · subst e; exact .inr h2
        · exact .inl (.inr ⟨j, by omega, h2⟩)
theorem p_fst {x y : Sg} (h : x.p = y.p) : x.k = y.k := (Prod.mk.inj h).1
theorem ld_has (X : Nat → Sg) {i q : Nat} (hi : i < q) : (ldS X q).contains (X i).p = pty (X i).k := by
  rw [Bool.eq_iff_iff, List.contains_iff_mem, mem_ldS]
  constructor
  · rintro ⟨j, _, h1, h2⟩
    rw [p_fst h2]; exact h1
  · intro h
    exact ⟨i, hi, h, rfl⟩
theorem sc_has (X Y : Nat → Sg) {i q j : Nat} (hi : i < q) : (scS (ldS X q) Y j).contains (X i).p = pty (X i).k := by
  rw [Bool.eq_iff_iff, List.contains_iff_mem, mem_scS, mem_ldS]
  constructor
  · rintro (⟨j, _, h1, h2⟩ | ⟨j, _, h1, h2⟩)
    · rw [p_fst h2]; exact h1
    · rw [p_fst h2]; exact h1
  · intro h
    exact .inl ⟨i, hi, h, rfl⟩
/-- Whether two signatures are the same. -/
def eqS (x y : Sg) : Bool := decide (x.p = y.p)
def wasB (X : Nat → Sg) (y : Sg) (k : Nat) : Bool := (List.range k).any fun j => eqS (X j) y && pty y.k
theorem wasB_succ (X : Nat → Sg) (y : Sg) (k : Nat) : wasB X y (k + 1) = (wasB X y k || (eqS (X k) y && pty y.k)) := by
  simp [wasB, List.range_succ, List.any_append]
theorem ld_was (X : Nat → Sg) (y : Sg) (q : Nat) : (ldS X q).contains y.p = wasB X y q := by
  rw [Bool.eq_iff_iff, List.contains_iff_mem, mem_ldS, wasB, List.any_eq_true]
  constructor
  · rintro ⟨j, hj, h1, h2⟩
    exact ⟨j, List.mem_range.2 hj, by simp [eqS, h2, p_fst h2, h1]⟩
  · rintro ⟨j, hj, h⟩
    simp [eqS] at h
    exact ⟨j, List.mem_range.1 hj, by rw [p_fst h.1]; exact h.2, h.1.symm⟩

theorem cellsG : Tryd.prog.cellsOf 34 = 33 := by kernel_rfl
theorem ktG : Tryd.prog.keyTypeAt 4 34 = true := by kernel_rfl
theorem lits_sg (d : Nat) {x : Sg} (hn : Ib x.k) (h : Zb x.z) : Tryd.prog.keyLits (d + 3) 34 x.l = some (Lit.int .i64 x.k :: (List.range 32).map fun j => Lit.int .u8 (x.z j)) := by
  have hl : x.l = .int .i64 x.k :: bl x.z 32 := rfl
  rw [hl]
  unfold Program.keyLits
  rw [Tryd.underlying34]
  simp only [List.length_cons, bl_length, cellsG]
  have e1 : List.take 32 (bl x.z 32) = bl x.z 32 := List.take_of_length_le (by rw [bl_length]; exact Nat.le_refl _)
  simp [cellsI, cellsH, e1, lits_int (d + 1) hn, lits_hash d h]
theorem formedG (x : Sg) : (Value.agg x.l.toArray).formed Tryd.prog 34 = true := by
  simp only [Value.formed, Tryd.underlying34, cellsG]
  simp [Sg.l_length]
theorem eq_sg {x y : Sg} (hx : Ib x.k ∧ Zb x.z) (hy : Ib y.k ∧ Zb y.z) (w : World) :
    (Op.equalIn 10000 34 (.agg x.l.toArray) (.agg y.l.toArray)).run Tryd.prog w = .ok (eqS x y) w := by
  obtain ⟨r, h1, h2⟩ := run_equalIn_deep (P := Tryd.prog) 9996 4 34 ktG w 3 3 (.agg x.l.toArray) (.agg y.l.toArray) _ _ (formedG x) (formedG y) (by simpa [Value.cells] using lits_sg 0 hx.1 hx.2) (by simpa [Value.cells] using lits_sg 0 hy.1 hy.2)
  rw [show (10000 : Nat) = 9996 + 4 from rfl, h1]
  congr 1
  rw [Bool.eq_iff_iff, h2]
  unfold eqS
  rw [decide_eq_true_iff]
  constructor
  · intro h
    simp only [List.cons.injEq, Lit.int.injEq, true_and] at h
    have h3 : ub x.z = ub y.z := by
      unfold ub
      apply List.map_congr_left
      intro j hj
      have := congrArg (fun l : List Lit => l[j]?) h.2
      have hj' := List.mem_range.1 hj
      simp [hj'] at this
      rw [this]
    exact Prod.ext h.1 h3
  · intro h
    have h3 : hv x.z = hv y.z := by rw [hv_ub hx.2, hv_ub hy.2, (Prod.mk.inj h).2]
    have h4 : bl x.z 32 = bl y.z 32 := by rw [← hv_list, ← hv_list, h3]
    rw [p_fst h]
    congr 1
    apply List.map_congr_left
    intro j hj
    have hj' := List.mem_range.1 hj
    have := congrArg (fun l : List Value => l[j]?) h4
    simp only [bl_at hj'] at this
    simp at this
    rw [this]

/-- Two books of the call's own, apart. -/
structure StR (W wr : World) (p m : Nat) (g : Nat → Option Nat) (pc mc : Nat) (gc : Nat → Option Nat) (S Sc : List (Int × List UInt8)) : Prop where
  below : Below W.heap.size W wr
  b : BkAt wr W.heap.size p m g S
  c : BkAt wr W.heap.size pc mc gc Sc
  apart : ∀ k, k ∈ fpL p m g → k ∉ fpL pc mc gc
theorem StR.keep {W wr w' : World} {p m : Nat} {g : Nat → Option Nat} {pc mc : Nat} {gc : Nat → Option Nat} {S Sc : List (Int × List UInt8)} (h : StR W wr p m g pc mc gc S Sc) (hb : Below wr.heap.size wr w') : StR W w' p m g pc mc gc S Sc :=
  ⟨Below.transS h.below hb, h.b.below hb, h.c.below hb, h.apart⟩
theorem BkAt.base {w : World} {B C p m : Nat} {g : Nat → Option Nat} {S : List (Int × List UInt8)} (h : BkAt w B p m g S) (hc : C ≤ B) : BkAt w C p m g S := by
  obtain ⟨⟨sl, h1, h2⟩, h3, h4, h5, h6, h7, h8⟩ := h
  exact ⟨⟨sl, h1, fun i hi => ⟨(h2 i hi).1, (h2 i hi).2.base hc⟩⟩, h3, h4, h5, h6, by omega, by omega⟩
theorem StR.begin {W w1 w2 : World} {p m : Nat} {g : Nat → Option Nat} {pc mc : Nat} {gc : Nat → Option Nat} {S : List (Int × List UInt8)} (hb : BkAt w1 W.heap.size p m g S) (h1 : Below W.heap.size W w1) (hc : BkAt w2 w1.heap.size pc mc gc S) (h2 : Below w1.heap.size w1 w2) : StR W w2 p m g pc mc gc S S :=
  ⟨Below.transS h1 h2, hb.below h2, hc.base h1.size, fun k hk hk' => by have := (hb.lt hk).2; have := (hc.lt hk').1; omega⟩
theorem StR.sign {W wr w' : World} {p m : Nat} {g : Nat → Option Nat} {pc mc : Nat} {gc gc' : Nat → Option Nat} {S Sc Sc' : List (Int × List UInt8)} (h : StR W wr p m g pc mc gc S Sc) (hk : BkAt w' W.heap.size pc mc gc' Sc') (hf : Frm (fpL pc mc gc) wr w') (hg : Grew wr gc gc') : StR W w' p m g pc mc gc' S Sc' := by
  refine ⟨h.below.trans (hf.below h.below.size (fun k hk => (h.c.lt hk).1)), h.b.frm hf (fun k hk hk' => h.apart k hk hk'), hk, fun k hk1 hk2 => ?_⟩
  rcases mem_fpL.1 hk2 with rfl | rfl | ⟨i, hi, e⟩
  · exact h.apart _ hk1 (mem_fpL.2 (.inl rfl))
  · exact h.apart _ hk1 (mem_fpL.2 (.inr (.inl rfl)))
  · rcases hg i k hi e with e' | e'
    · exact h.apart _ hk1 (mem_fpL.2 (.inr (.inr ⟨i, hi, e'⟩)))
    · have := (h.b.lt hk1).2
      omega
end Go.Proofs.YtlddjniofijnnaaDoor
