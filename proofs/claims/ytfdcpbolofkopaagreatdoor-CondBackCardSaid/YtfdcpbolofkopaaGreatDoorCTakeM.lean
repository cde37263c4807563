/- What a branch that was laid is read as. -/
import Derived.Test.YtfdcpbolofkopaaGreatDoorEList
import Derived.Test.YtfdcpbolofkopaaGreatDoorCIow0
import Derived.Test.YtfdcpbolofkopaaGreatDoorCPut
namespace Go.Proofs.YtfdcpbolofkopaaGreatDoor
open Go.RowKit

/-- The keys from j on, so many, as they are laid. -/
def laidR (z : Nat → Int) : Nat → Nat → List Int
  | _, 0 => []
  | j, k + 1 => uB (u64 (z j)) ++ laidR z (j + 1) k
theorem laidR_snoc (z : Nat → Int) : ∀ k j, laidR z j (k + 1) = laidR z j k ++ uB (u64 (z (j + k)))
  | 0, j => by simp [laidR]
  | k + 1, j => by
    have h := laidR_snoc z k (j + 1)
    rw [laidR, h, laidR, List.append_assoc, show j + 1 + k = j + (k + 1) from by omega]
theorem laidK_laidR (z : Nat → Int) : ∀ n, laidK z n = laidR z 0 n
  | 0 => rfl
  | n + 1 => by rw [laidK, laidK_laidR z n, laidR_snoc, Nat.zero_add]
theorem uB_pos (n : Int) : 1 ≤ (uB n).length := by simp [uB]
theorem laidK_ge (z : Nat → Int) : ∀ n, n ≤ (laidK z n).length
  | 0 => by simp
  | n + 1 => by
    have h1 := laidK_ge z n
    have h2 := uB_pos (u64 (z n))
    simp only [laidK, List.length_append]
    omega
/-- What the bounds of a reader let by. -/
def RdOk (x : Bv) : Prop := (x.n ≤ 16 ∧ ∀ j, j < x.n → u64 (x.z j) ≤ 16) ∧ u64 x.af ≤ 1099511627776 ∧ u64 x.ol ≤ 65536
instance (x : Bv) : Decidable (RdOk x) := inferInstanceAs (Decidable (_ ∧ _))
theorem u64_small {n : Int} (h : Ib n) (hs : u64 n ≤ 4611686018427387904) : u64 n = n ∧ 0 ≤ n := by
  unfold u64 at *
  simp [IntKind.wrap, IntKind.bits, IntKind.signed] at *
  unfold Ib at h
  omega
theorem BOk.rd {x : Bv} (h : BOk x) : RdOk x := by
  obtain ⟨⟨hk, hp⟩, ha, ho⟩ := h
  have up : ∀ j, j < x.n → (j : Int) ≤ x.z j := by
    intro j
    induction j with
    | zero => intro hj; have := (hk 0 hj).1; simp [lastK] at this; omega
    | succ j ih =>
      intro hj
      have h1 := (hk (j + 1) hj).1
      rw [lastK_succ] at h1
      have := ih (by omega)
      omega
  have small : ∀ j, j < x.n → 0 ≤ x.z j ∧ x.z j ≤ 15 := fun j hj => by have := up j hj; have := (hk j hj).2; omega
  have e : ∀ n : Int, 0 ≤ n → n ≤ 4611686018427387904 → u64 n = n := fun n h1 h2 => by
    unfold u64
    simp [IntKind.wrap, IntKind.bits, IntKind.signed]
    omega
  refine ⟨⟨?_, fun j hj => ?_⟩, ?_, ?_⟩
  · by_cases h : x.n ≤ 16
    · exact h
    · have h1 := up 16 (by omega)
      have h2 := small 16 (by omega)
      omega
  · rw [e _ (small j hj).1 (by have := (small j hj).2; omega)]; have := (small j hj).2; omega
  · rw [e _ ha.1 (by omega)]; exact ha.2
  · rw [e _ ho.1 (by omega)]; exact ho.2
/-- Two branches that say the same. -/
structure Alike (x y : Bv) : Prop where
  n : x.n = y.n
  z : ∀ j, j < x.n → x.z j = y.z j
  lk : ∀ j, j < 32 → x.lk j = y.lk j
  af : x.af = y.af
  ol : x.ol = y.ol
theorem hB_congr {z y : Nat → Int} (h : ∀ j, j < 32 → z j = y j) : hB z = hB y := by
  unfold hB
  apply List.map_congr_left
  intro j hj
  exact h j (List.mem_range.1 hj)
theorem Alike.laid {x y : Bv} (h : Alike x y) : laidBr x = laidBr y := by
  unfold laidBr
  rw [h.n, h.af, h.ol, hB_congr h.lk, ← h.n, laidK_congr x.n h.z]
theorem Alike.ok {x y : Bv} (h : Alike x y) : BOk x ↔ BOk y := by
  have hk : KOk x.z x.n ↔ KOk y.z y.n := by
    have hl : ∀ j, j < x.n → lastK x.z j = lastK y.z j := fun j hj => by
      unfold lastK
      split
      · rfl
      · exact h.z _ (by omega)
    constructor
    · intro k j hj
      rw [← h.n] at hj
      rw [← hl j hj, ← h.z j hj]
      exact k j hj
    · intro k j hj
      rw [hl j hj, h.z j hj]
      exact k j (by rw [← h.n]; exact hj)
  unfold BOk
  rw [hk, h.n, h.af, h.ol]
theorem alike_brs {X Y : Nat → Bv} : ∀ n, (∀ i, i < n → Alike (X i) (Y i)) → laidBrs X n = laidBrs Y n ∧ (AllOk X n ↔ AllOk Y n)
  | 0, _ => ⟨rfl, by simp [AllOk]⟩
  | n + 1, h => by
    obtain ⟨h1, h2⟩ := alike_brs n (fun i hi => h i (by omega))
    refine ⟨by rw [laidBrs, laidBrs, h1, (h n (by omega)).laid], ?_⟩
    constructor
    · intro k i hi
      exact ((h i hi).ok).1 (k i hi)
    · intro k i hi
      exact ((h i hi).ok).2 (k i hi)
end Go.Proofs.YtfdcpbolofkopaaGreatDoor
