/- The document's reader ReadInt. -/
import Derived.Test.YtmekplaonlpfkaaGreatDoorOwnShelf37
namespace Go.Proofs.YtmekplaonlpfkaaGreatDoor
open Go.RowKit

/-- What a document's reader answers: the reader behind, its error, the value. -/
def RefPost (w : World) (n : Nat) (z : Nat → Int) (k : Nat) (er : Int) (v : Value) (e : Ending) (w' : World) : Prop :=
  ∃ ad cap, e = .returned (.tuple #[.agg #[.slice ad (n - k) cap, .int .i64 er], v]) ∧ n - k ≤ cap ∧ SlAt w ad (n - k) (fun j => z (j + k)) ∧ Below w.heap.size w w'

theorem RefTook.post {w w' : World} {b off n cap k : Nat} {z : Nat → Int} {v : Value} {e : Ending} (h : RefTook w (some ⟨b, off, none⟩) n cap k v e w') (hlc : n ≤ cap) (hkn : k ≤ n) (hs : SlAt w (some ⟨b, off, none⟩) n z) : RefPost w n z k 0 v e w' := by
  obtain ⟨ad', he, rfl, hb⟩ := h
  refine ⟨ad', cap - k, rfl, by omega, ?_, hb⟩
  rcases he with ⟨rfl, hc⟩ | rfl
  · rw [show n - k = 0 from by omega]; exact SlAt.zero _ _
  · exact hs.drop

theorem RefPost.err {w w' : World} {ad : Option Addr} {n cap : Nat} {z : Nat → Int} {er : Int} {v : Value} (hlc : n ≤ cap) (hs : SlAt w ad n z) (hb : Below w.heap.size w w') : RefPost w n z 0 er v (.returned (.tuple #[.agg #[.slice ad n cap, .int .i64 er], v])) w' :=
  ⟨ad, cap, rfl, hlc, hs, hb⟩

theorem refUint_any (ad : Option Addr) (n cap : Nat) (most : Int) (z : Nat → Int) (w : World) (hlc : n ≤ cap) (hnm : n ≤ 140737488351232) (hs : SlAt w ad n z) :
    Calls Tryz.prog 39 #[.agg #[.slice ad n cap, .int .i64 0], .int .u64 most] w fun e w' => RefPost w n z (uN n z most) (uE n z most) (.int .u64 (uV n z most)) e w' := by
  have hs0 := hs
  obtain ⟨hz, hs⟩ := hs
  by_cases hn : n = 0
  · subst hn
    have e : uE 0 z most = 12 := by simp [uE]
    rw [uV, uN, e, if_neg (by decide), if_neg (by decide)]
    exact (refUint_nil ad cap most w).mono fun e w' ⟨h1, h2⟩ => by rw [h1]; exact RefPost.err hlc hs0 h2
  · obtain ⟨b, off, rfl, hc⟩ := hs (by omega)
    have c0 : w.cell? ⟨b, off, none⟩ = some (.int .u8 (z 0)) := by simpa using hc 0 (by omega)
    by_cases h8 : 8 < z 0
    · have e : uE n z most = 3 := by simp [uE, hn, h8]
      rw [uV, uN, e, if_neg (by decide), if_neg (by decide)]
      exact (refUint_wide b off n cap most z w (by omega) c0 h8).mono fun e w' ⟨h1, h2⟩ => by rw [h1]; exact RefPost.err hlc hs0 h2
    · have hz0 := hz 0 (by omega)
      by_cases hE : numE (n - 1) (behind false z) (z 0).toNat = 0
      · by_cases hm : most < numV (n - 1) (behind false z) (z 0).toNat
        · have e : uE n z most = 4 := by simp [uE, hn, h8, hE, hm]
          rw [uV, uN, e, if_neg (by decide), if_neg (by decide)]
          exact (refUint_range b off n cap most z w (by omega) hlc hnm hz hc (by omega) hE hm).mono fun e w' ⟨h1, h2⟩ => by rw [h1]; exact RefPost.err hlc hs0 h2
        · have e : uE n z most = 0 := by simp [uE, hn, h8, hE, hm]
          have hle := uN_le e
          rw [uN, if_pos e] at hle
          rw [uV, uN, e, if_pos rfl, if_pos rfl]
          have hw : (1 + z 0).toNat = 1 + (z 0).toNat := by omega
          have := refUint_ok b off n cap most z w (by omega) hlc hnm hz hc (by omega) hE hm (by omega)
          rw [hw] at this
          exact this.mono fun e w' h => h.post hlc hle hs0
      · have e : uE n z most = numE (n - 1) (behind false z) (z 0).toNat := by simp [uE, hn, h8, hE]
        rw [uV, uN, e, if_neg hE, if_neg hE]
        exact (refUint_err b off n cap most z _ w (by omega) hlc hnm hz hc (by omega) rfl (by simp [hE])).mono fun e w' ⟨h1, h2⟩ => by rw [h1]; exact RefPost.err hlc hs0 h2

end Go.Proofs.YtmekplaonlpfkaaGreatDoor
