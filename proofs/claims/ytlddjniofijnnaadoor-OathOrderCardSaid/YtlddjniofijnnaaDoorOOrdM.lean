/- Who signed, whatever the order: the lists of signatures. -/
import Derived.Test.YtlddjniofijnnaaDoorOSure
namespace Go.Proofs.YtlddjniofijnnaaDoor
open Go.RowKit

/-- The signatures behind the first i of some, of one sum. -/
def sa (y : Nat → Int) (z : Nat → Int) : Nat → List (Int × List UInt8)
  | 0 => []
  | i + 1 => sgnS (sa y z i) (y i) z
/-- .. from the last of n on, each twice. -/
def sb (y : Nat → Int) (z : Nat → Int) (n : Nat) : Nat → List (Int × List UInt8)
  | 0 => []
  | i + 1 => sgnS (sgnS (sb y z n i) (y (n - 1 - i)) z) (y (n - 1 - i)) z
/-- No signature twice, each a party's, of one sum. -/
structure OneS (S : List (Int × List UInt8)) (z : Nat → Int) : Prop where
  nd : S.Nodup
  form : ∀ s, s ∈ S → ∃ k : Nat, k < 16 ∧ s = ((k : Int), ub z)
theorem OneS.nil (z : Nat → Int) : OneS [] z := ⟨List.nodup_nil, fun _ h => by cases h⟩
theorem OneS.sgn {S : List (Int × List UInt8)} {z : Nat → Int} (h : OneS S z) (k : Int) : OneS (sgnS S k z) z := by
  unfold sgnS
  split
  · rename_i hp
    split
    · exact h
    · rename_i hc
      refine ⟨List.nodup_append.2 ⟨h.nd, by simp, fun a ha b hb e => ?_⟩, fun s hs => ?_⟩
      · simp at hb
        subst hb; subst e
        exact hc (by simpa using ha)
      · rcases List.mem_append.1 hs with h' | h'
        · exact h.form s h'
        · simp at h'
          subst h'
          simp [pty] at hp
          exact ⟨k.toNat, by omega, by rw [Int.toNat_of_nonneg hp.1]⟩
  · exact h
theorem mem_sgn {S : List (Int × List UInt8)} {z : Nat → Int} {k q : Int} : (q, ub z) ∈ sgnS S k z ↔ (q, ub z) ∈ S ∨ (pty k = true ∧ q = k) := by
  unfold sgnS
  by_cases hp : pty k = true
  · rw [if_pos hp]
    by_cases hc : S.contains (k, ub z) = true
    · rw [if_pos hc]
      refine ⟨.inl, fun h => ?_⟩
      rcases h with h | ⟨_, rfl⟩
      · exact h
      · simpa using hc
    · rw [if_neg hc]
      simp [hp]
  · rw [if_neg hp]
    simp [hp]
theorem sa_one (y z : Nat → Int) : ∀ i, OneS (sa y z i) z
  | 0 => OneS.nil z
  | i + 1 => (sa_one y z i).sgn _
theorem sb_one (y z : Nat → Int) (n : Nat) : ∀ i, OneS (sb y z n i) z
  | 0 => OneS.nil z
  | i + 1 => ((sb_one y z n i).sgn _).sgn _
theorem mem_sa (y z : Nat → Int) (q : Int) : ∀ i, (q, ub z) ∈ sa y z i ↔ ∃ j, j < i ∧ pty (y j) = true ∧ q = y j
  | 0 => by simp [sa]
  | i + 1 => by
    rw [sa, mem_sgn, mem_sa y z q i]
    constructor
    · rintro (⟨j, h1, h2⟩ | h)
      · exact ⟨j, by omega, h2⟩
      · exact ⟨i, by omega, h⟩
    · rintro ⟨j, h1, h2⟩
      by_cases e : j = i
      · subst e; exact .inr h2
      · exact .inl ⟨j, by omega, h2⟩
theorem mem_sb (y z : Nat → Int) (n : Nat) (q : Int) : ∀ i, (q, ub z) ∈ sb y z n i ↔ ∃ j, j < i ∧ pty (y (n - 1 - j)) = true ∧ q = y (n - 1 - j)
  | 0 => by simp [sb]
  | i + 1 => by
    rw [sb, mem_sgn, mem_sgn, mem_sb y z n q i]
    constructor
    · rintro ((⟨j, h1, h2⟩ | h) | h)
      · exact ⟨j, by omega, h2⟩
      · exact ⟨i, by omega, h⟩
      · exact ⟨i, by omega, h⟩
    · rintro ⟨j, h1, h2⟩
      by_cases e : j = i
      · subst e; exact .inr h2
      · exact .inl (.inl ⟨j, by omega, h2⟩)
theorem ab_mem (y z : Nat → Int) (n : Nat) (q : Int) : (q, ub z) ∈ sa y z n ↔ (q, ub z) ∈ sb y z n n := by
  rw [mem_sa, mem_sb]
  constructor
  · rintro ⟨j, h1, h2⟩
    exact ⟨n - 1 - j, by omega, by rw [show n - 1 - (n - 1 - j) = j from by omega]; exact h2⟩
  · rintro ⟨j, h1, h2⟩
    exact ⟨n - 1 - j, by omega, h2⟩
theorem contains_eq {S T : List (Int × List UInt8)} {s : Int × List UInt8} (h : s ∈ S ↔ s ∈ T) : S.contains s = T.contains s := by
  rw [Bool.eq_iff_iff]
  simpa using h
theorem ab_who (y z : Nat → Int) (n q : Nat) : whoL (sb y z n n) z q = whoL (sa y z n) z q := by
  unfold whoL
  congr 1
  funext i
  exact contains_eq (ab_mem y z n i).symm
theorem one_len {S : List (Int × List UInt8)} {z : Nat → Int} (h : OneS S z) : (whoL S z 16).length = S.length := by
  have hp : List.Perm ((whoL S z 16).map fun k : Nat => ((k : Int), ub z)) S := by
    refine (List.perm_ext_iff_of_nodup ?_ h.nd).2 fun s => ?_
    · refine List.pairwise_map.2 (List.Pairwise.imp (fun h e => h (by have e1 := (Prod.mk.inj e).1; omega)) (List.Pairwise.filter _ List.nodup_range))
    · constructor
      · intro hs
        simp only [List.mem_map, whoL, List.mem_filter] at hs
        obtain ⟨k, ⟨_, hk⟩, rfl⟩ := hs
        simpa using hk
      · intro hs
        obtain ⟨k, hk, rfl⟩ := h.form s hs
        simp only [List.mem_map, whoL, List.mem_filter]
        exact ⟨k, ⟨List.mem_range.2 hk, by simpa using hs⟩, rfl⟩
  have := hp.length_eq
  simpa using this
theorem sa_len (y z : Nat → Int) : ∀ i, (sa y z i).length ≤ i
  | 0 => by simp [sa]
  | i + 1 => by have h1 := sa_len y z i; have h2 := sgnS_len (sa y z i) (y i) z; rw [sa]; omega
theorem sb_len (y z : Nat → Int) (n : Nat) : ∀ i, (sb y z n i).length ≤ 2 * i
  | 0 => by simp [sb]
  | i + 1 => by
    have h1 := sb_len y z n i
    have h2 := sgnS_len (sb y z n i) (y (n - 1 - i)) z
    have h3 := sgnS_len (sgnS (sb y z n i) (y (n - 1 - i)) z) (y (n - 1 - i)) z
    rw [sb]; omega

/-- Two books, apart, and the sum's own variable. -/
structure TwoB (W wr : World) (z : Nat → Int) (pa ma pb mb : Nat) (ga gb : Nat → Option Nat) (Sa Sb : List (Int × List UInt8)) : Prop where
  below : Below W.heap.size W wr
  box : wr.heap[W.heap.size]? = some (.cells (hv z) 32 (0, 0))
  a : BkAt wr (W.heap.size + 1) pa ma ga Sa
  b : BkAt wr (W.heap.size + 1) pb mb gb Sb
  apart : ∀ k, k ∈ fpL pa ma ga → k ∉ fpL pb mb gb
theorem TwoB.swap {W wr : World} {z : Nat → Int} {pa ma pb mb : Nat} {ga gb : Nat → Option Nat} {Sa Sb : List (Int × List UInt8)} (h : TwoB W wr z pa ma pb mb ga gb Sa Sb) : TwoB W wr z pb mb pa ma gb ga Sb Sa :=
  ⟨h.below, h.box, h.b, h.a, fun k hk hk' => h.apart k hk' hk⟩
theorem TwoB.keep {W wr w' : World} {z : Nat → Int} {pa ma pb mb : Nat} {ga gb : Nat → Option Nat} {Sa Sb : List (Int × List UInt8)} (h : TwoB W wr z pa ma pb mb ga gb Sa Sb) (hb : Below wr.heap.size wr w') : TwoB W w' z pa ma pb mb ga gb Sa Sb :=
  ⟨Below.transS h.below hb, by rw [hb.block _ (lt_of_block h.box)]; exact h.box, h.a.below hb, h.b.below hb, h.apart⟩
theorem TwoB.sign {W wr w' : World} {z : Nat → Int} {pa ma pb mb : Nat} {ga gb ga' : Nat → Option Nat} {Sa Sb Sa' : List (Int × List UInt8)} (h : TwoB W wr z pa ma pb mb ga gb Sa Sb) (hk : BkAt w' (W.heap.size + 1) pa ma ga' Sa') (hf : Frm (fpL pa ma ga) wr w') (hg : Grew wr ga ga') : TwoB W w' z pa ma pb mb ga' gb Sa' Sb := by
  have hs := h.below.size
  refine ⟨h.below.trans (hf.below hs (fun k hk => by have := (h.a.lt hk).1; omega)), ?_, hk, h.b.frm hf (fun k hk hk' => h.apart k hk' hk), fun k hk1 hk2 => ?_⟩
  · rw [hf.block _ (lt_of_block h.box) (fun hm => by have := (h.a.lt hm).1; omega)]; exact h.box
  · rcases mem_fpL.1 hk1 with rfl | rfl | ⟨i, hi, e⟩
    · exact h.apart _ (mem_fpL.2 (.inl rfl)) hk2
    · exact h.apart _ (mem_fpL.2 (.inr (.inl rfl))) hk2
    · rcases hg i k hi e with e' | e'
      · exact h.apart _ (mem_fpL.2 (.inr (.inr ⟨i, hi, e'⟩))) hk2
      · have := (h.b.lt hk2).2
        omega
theorem TwoB.begin (W w0 w1 w2 : World) (z : Nat → Int) (e0 : w0 = W.alloc (.cells (hv z) 32)) (h1 : BkAt w1 (W.heap.size + 1) (w0.heap.size + 1) w0.heap.size (fun _ => none) []) (b1 : Below w0.heap.size w0 w1) (s1 : w1.heap.size = w0.heap.size + 2)
    (h2 : BkAt w2 (W.heap.size + 1) (w1.heap.size + 1) w1.heap.size (fun _ => none) []) (b2 : Below w1.heap.size w1 w2) : TwoB W w2 z (w0.heap.size + 1) w0.heap.size (w1.heap.size + 1) w1.heap.size (fun _ => none) (fun _ => none) [] [] := by
  have hb0 : Below W.heap.size W w0 := by rw [e0]; exact (Below.refl _ W).alloc (Nat.le_refl _) _
  have hx : w0.heap[W.heap.size]? = some (.cells (hv z) 32 (0, 0)) := by rw [e0]; exact heap_alloc_new W _
  have l0 := lt_of_block hx
  refine ⟨Below.transS hb0 (Below.transS b1 b2), ?_, h1.below b2, h2, fun k hk hk' => ?_⟩
  · rw [b2.block _ (by omega), b1.block _ l0]; exact hx
  · simp [fpL] at hk hk'
    omega
end Go.Proofs.YtlddjniofijnnaaDoor
