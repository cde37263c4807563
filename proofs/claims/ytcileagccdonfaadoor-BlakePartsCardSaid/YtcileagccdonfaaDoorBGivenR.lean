/- Rows of bytes that came in. -/
import Derived.Test.YtcileagccdonfaaDoorBGiven3
import Derived.Test.YtcileagccdonfaaDoorBPartsL
namespace Go.Proofs.YtcileagccdonfaaDoor
open Go.ChangeShapes Go.WideShapes Go.RowKit Go.ChangeAt

theorem row_in {H : Type} {enc : TypeId × Value → H} {W : World} {base fuel : Nat} {v : Value} {x : DataW H × List MemPlace} {spare : Nat → Bool} {held : Bool} (hsp : ∀ b, spare b = true)
    (hf : DataW.trod enc Tryd.prog W base spare held fuel 22 [v] = some x) :
    ∃ r : Option Addr × Nat × List Nat, v = .slice r.1 r.2.2.length r.2.1 ∧ SlB W r.1 r.2.2 ∧ (∀ j, r.2.2.getD j 0 < 256) ∧ r.2.2.length ≤ r.2.1 ∧ (r.1 = none → r.2.2.length = 0) := by
  rcases open_ints Tryd.underlying22 Tryd.underlying5 (by kernel_rfl) hf with ⟨hcs, _⟩ | ⟨ad, l, c, zs, hcs, _⟩
  · obtain rfl : v = .slice none 0 0 := by simpa using hcs
    exact ⟨(none, 0, []), rfl, SlB.nil _ _, by simp, by simp, fun _ => rfl⟩
  · obtain rfl : v = .slice (some ad) l c := by simpa using hcs
    obtain ⟨b, rfl, h1, _, h2, h3, h4⟩ := bytes_in (a := some ad) (len := l) (cap := c) hsp hf
    exact ⟨(some ad, c, b), rfl, h2, h3, h1, fun h => (h4 h).1⟩
theorem rows_in {H : Type} {enc : TypeId × Value → H} {W : World} {base fuel : Nat} {a : Option Addr} {len cap : Nat} {x : DataW H × List MemPlace} {spare : Nat → Bool} {held : Bool} (hsp : ∀ b, spare b = true)
    (hf : DataW.trod enc Tryd.prog W base spare held fuel 37 (Value.slice a len cap).cells.toList = some x) :
    ∃ A C B, RowsIn W a len A C B ∧ len ≤ 9223372036854775807 := by
  rcases Go.Deep.open_slice1 Tryd.underlying37 (by kernel_rfl) hf with ⟨hcs, hx⟩ | ⟨ad, l, c, m, n, V, D, Pl, hcs, _, hl, hcm, hm, hx, hcell⟩
  · simp [Value.cells] at hcs
    obtain ⟨rfl, rfl, rfl⟩ := hcs
    exact ⟨fun _ => none, fun _ => 0, fun _ => [], ⟨fun h => by omega, fun i hi => by omega⟩, by omega⟩
  · simp [Value.cells] at hcs
    obtain ⟨rfl, rfl, rfl⟩ := hcs
    rw [hsp, if_pos rfl] at hm
    subst hm
    have each : ∀ i, i < m → ∃ r : Option Addr × Nat × List Nat, W.cell? (ad.add i) = some (.slice r.1 r.2.2.length r.2.1) ∧ SlB W r.1 r.2.2 ∧ (∀ j, r.2.2.getD j 0 < 256) ∧ r.2.2.length ≤ r.2.1 ∧ (r.1 = none → r.2.2.length = 0) := by
      intro i hi
      obtain ⟨h1, h2⟩ := hcell i hi
      obtain ⟨r, h3, hr⟩ := row_in hsp h2
      exact ⟨r, by rw [h1, h3], hr⟩
    obtain ⟨X, hX⟩ := Go.Deep.choose_lt each
    refine ⟨fun i => (X i).1, fun i => (X i).2.1, fun i => (X i).2.2, ⟨fun hn => ?_, fun i hi => (hX i (by omega)).2⟩, by simp only [maxLen] at hcm; omega⟩
    obtain ⟨b, off, spot⟩ := ad
    have h0 := (hX 0 (by omega)).1
    have hspot : spot = none := by simpa [Addr.add] using World.cell?_spot h0
    subst hspot
    refine ⟨b, off, rfl, fun i hi => ?_⟩
    have := (hX i (by omega)).1
    rw [Addr.add_lit] at this
    exact this
end Go.Proofs.YtcileagccdonfaaDoor
