/- Questions that came in: how they lie. -/
import Derived.Test.YtelpkbdobeofgaaDoorGiven
import Derived.Test.YtelpkbdobeofgaaDoorTkKit
import Derived.Deep.SlicePairs
namespace Go.Proofs.YtelpkbdobeofgaaDoor
open Go.ChangeShapes Go.WideShapes Go.RowKit Go.ChangeAt

theorem bytesA : Tryd.prog.bytesOf 30 = 16 := by kernel_rfl
theorem asks_in {H : Type} {enc : TypeId × Value → H} {W : World} {base fuel : Nat} {a : Option Addr} {len cap : Nat} {x : DataW H × List MemPlace} {spare : Nat → Bool} {held : Bool} (hsp : ∀ b, spare b = true)
    (hf : DataW.trod enc Tryd.prog W base spare held fuel 23 (Value.slice a len cap).cells.toList = some x) :
    ∃ kd mo : Nat → Int, len ≤ cap ∧ AskAt W a len kd mo ∧ ((x.1 = .nil ∧ cap = 0) ∨ ∃ el sp, x.1 = .slice el sp ∧ el.length + sp.length = cap) := by
  rcases Go.Deep.open_slice_pairs Tryd.underlying23 Tryd.underlying30 (by kernel_rfl) rfl rfl (by kernel_rfl) (by kernel_rfl) hf with ⟨hcs, hx⟩ | ⟨ad, l, c, m, n, V0, V1, D0, D1, P0, P1, hcs, _, hl, _, hm, hx, hcell⟩
  · simp [Value.cells] at hcs
    obtain ⟨rfl, rfl, rfl⟩ := hcs
    exact ⟨fun _ => 0, fun _ => 0, Nat.le_refl _, ⟨fun j hj => by omega, fun h => by omega⟩, .inl ⟨by rw [hx], rfl⟩⟩
  · simp [Value.cells] at hcs
    obtain ⟨rfl, rfl, rfl⟩ := hcs
    rw [hsp, if_pos rfl] at hm
    subst hm
    have k0 : ∀ j, j < m → V0 j = .int .i64 (intOf (V0 j)) ∧ (Lit.int .i64 (intOf (V0 j))).wf = true := fun j hj => by
      obtain ⟨q, h1, _, h3⟩ := DataW.trod_int Tryd.underlying3 (hcell j hj).2.2.1
      simp at h1
      rw [h1]
      exact ⟨rfl, h3⟩
    have k1 : ∀ j, j < m → V1 j = .int .i64 (intOf (V1 j)) ∧ (Lit.int .i64 (intOf (V1 j))).wf = true := fun j hj => by
      obtain ⟨q, h1, _, h3⟩ := DataW.trod_int Tryd.underlying3 (hcell j hj).2.2.2
      simp at h1
      rw [h1]
      exact ⟨rfl, h3⟩
    refine ⟨fun j => intOf (V0 j), fun j => intOf (V1 j), hl, ⟨fun j hj => ⟨bounds_i64 (k0 j (by omega)).2, bounds_i64 (k1 j (by omega)).2⟩, fun hn => ?_⟩, .inr ⟨_, _, by rw [hx], by simp; omega⟩⟩
    obtain ⟨b, off, spot⟩ := ad
    have hspot : spot = none := by simpa [Addr.add] using World.cell?_spot (hcell 0 (by omega)).1
    subst hspot
    refine ⟨b, off, rfl, fun j hj => ?_⟩
    have h1 := (hcell j (by omega)).1
    have h2 := (hcell j (by omega)).2.1
    rw [Addr.add_lit] at h1 h2
    rw [(k0 j (by omega)).1] at h1
    rw [(k1 j (by omega)).1] at h2
    exact ⟨h1, h2⟩
end Go.Proofs.YtelpkbdobeofgaaDoor
