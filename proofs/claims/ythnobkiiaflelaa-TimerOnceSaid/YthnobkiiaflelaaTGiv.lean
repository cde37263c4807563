/- Numbers that came in: how they lie. -/
import Derived.Test.YthnobkiiaflelaaRows
import Derived.Test.YthnobkiiaflelaaTCaM
import Derived.ChangeSame
import Derived.ChangeVars
import Derived.JoinedOf
import Derived.JoinedCond
import Derived.RowKit
import Derived.ProofKit
import Derived.OpenShut
import Derived.ChangeOld
import Derived.SizedLaws
import Derived.Deep.CondSized
namespace Go.Proofs.Ythnobkiiaflelaa
open Go.ChangeShapes Go.WideShapes Go.RowKit Go.ChangeAt

theorem own : ownKnob Try.prog.godebug = none := by kernel_rfl
theorem laidOut : laidOutB Try.prog = true := by kernel_rfl
/-- What weighs no more than may be. -/
def Light {H : Type} (t : TypeId) (d : DataW H) : Prop := ∀ q ∈ d.weights Try.prog t, q ≤ 140737488351232
theorem bytesI : Try.prog.bytesOf 3 = 8 := by kernel_rfl
/-- Ints that came in: how they lie. -/
theorem ints_in {H : Type} {enc : TypeId × Value → H} {W : World} {base fuel : Nat} {cs : List Value} {x : DataW H × List MemPlace} {spare : Nat → Bool} {held : Bool} (hsp : ∀ b, spare b = true)
    (hf : DataW.trod enc Try.prog W base spare held fuel 22 cs = some x) (hw : Light 22 x.1) :
    ∃ (a : Option Addr) (cap : Nat) (ks : List Int), cs = [.slice a ks.length cap] ∧ ks.length * 8 ≤ 140737488355328 ∧ IsL W a ks ∧ (a = none → ks.length = 0 ∧ cap = 0) := by
  rcases open_ints Try.underlying22 Try.underlying3 (by kernel_rfl) hf with ⟨hcs, hx⟩ | ⟨ad, l, c, zs, hcs, _, hl, hm, hz, hx, hcell, hwz⟩
  · exact ⟨none, 0, [], hcs, by simp, fun h => by simp at h, fun _ => ⟨rfl, rfl⟩⟩
  · rw [hsp, if_pos rfl] at hz
    have hlen : (zs.take l).length = l := by simp; omega
    refine ⟨some ad, c, zs.take l, by rw [hlen]; exact hcs, ?_, fun hn => ?_, (fun h => by cases h)⟩
    · have h1 := hw _ (by rw [hx]; simp only [DataW.weights, Try.underlying22]; exact List.mem_cons_self)
      rw [bytesI] at h1
      simp [lits] at h1
      rw [hlen]; omega
    · rw [hlen] at hn
      obtain ⟨b, off, spot⟩ := ad
      have hc := hcell 0 (by omega)
      have hspot : spot = none := by simpa [Addr.add] using World.cell?_spot hc
      subst hspot
      refine ⟨b, off, rfl, fun j x hx => ?_⟩
      have hj : j < l := by have := (List.getElem?_eq_some_iff.1 hx).1; omega
      have := hcell j (by omega)
      rw [Addr.add_lit] at this
      rw [this]
      rw [List.getElem?_take, if_pos hj] at hx
      have hjz : j < zs.length := by omega
      rw [List.getElem?_eq_getElem hjz] at hx
      simp [List.getD_eq_getElem?_getD, List.getElem?_eq_getElem hjz] at hx ⊢
      exact hx
end Go.Proofs.Ythnobkiiaflelaa
