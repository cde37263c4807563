/- TimerAdds on the landed queue; numbers with their bounds, and strings, that came in. -/
import Derived.Test.YthnobkiiaflelaaDoorOwnShelf17
import Derived.Test.YthnobkiiaflelaaDoorOwnShelf48
import Derived.Test.YthnobkiiaflelaaDoorOwnShelf49
import Derived.Deep.Strs
namespace Go.Proofs.YthnobkiiaflelaaDoor
open Go.ChangeShapes Go.WideShapes Go.RowKit Go.ChangeAt

/-- Ints that came in: how they lie, and their bounds. -/
theorem intsB_in {H : Type} {enc : TypeId × Value → H} {W : World} {base fuel : Nat} {cs : List Value} {x : DataW H × List MemPlace} {spare : Nat → Bool} {held : Bool} (hsp : ∀ b, spare b = true)
    (hf : DataW.trod enc Tryd.prog W base spare held fuel 54 cs = some x) (hw : Light 54 x.1) :
    ∃ (a : Option Addr) (cap : Nat) (ks : List Int), cs = [.slice a ks.length cap] ∧ ks.length * 8 ≤ 140737488355328 ∧ IsL W a ks ∧ ∀ y ∈ ks, -9223372036854775808 ≤ y ∧ y ≤ 9223372036854775807 := by
  rcases open_ints Tryd.underlying54 Tryd.underlying3 (by kernel_rfl) hf with ⟨hcs, hx⟩ | ⟨ad, l, c, zs, hcs, _, hl, hm, hz, hx, hcell, hwz⟩
  · exact ⟨none, 0, [], hcs, by simp, fun h => by simp at h, fun y hy => by cases hy⟩
  · rw [hsp, if_pos rfl] at hz
    have hlen : (zs.take l).length = l := by simp; omega
    refine ⟨some ad, c, zs.take l, by rw [hlen]; exact hcs, ?_, fun hn => ?_, fun y hy => ?_⟩
    · have h1 := hw _ (by rw [hx]; simp only [DataW.weights, Tryd.underlying54]; exact List.mem_cons_self)
      rw [bytesI] at h1
      simp [lits] at h1
      rw [hlen]; omega
    · rw [hlen] at hn
      obtain ⟨b, off, spot⟩ := ad
      have hc := hcell 0 (by omega)
      have hspot : spot = none := by simpa [Addr.add] using World.cell?_spot hc
      subst hspot
      refine ⟨b, off, rfl, fun j x hx => ?_⟩
      have hj : j < l := by have := (List.getElem?_eq_some_iff.1 hx).1; omega
      have := hcell j (by omega)
      rw [Addr.add_lit] at this
      rw [this]
      rw [List.getElem?_take, if_pos hj] at hx
      have hjz : j < zs.length := by omega
      rw [List.getElem?_eq_getElem hjz] at hx
      simp [List.getD_eq_getElem?_getD, List.getElem?_eq_getElem hjz] at hx ⊢
      exact hx
    · have := hwz y (List.mem_of_mem_take hy)
      simp [Lit.wf, IntKind.min, IntKind.max, IntKind.signed, IntKind.bits] at this
      omega
theorem bytesSt : Tryd.prog.bytesOf 9 = 16 := by kernel_rfl
set_option maxRecDepth 100000 in
/-- Strings that came in: how they lie. -/
theorem strsL_in {H : Type} {enc : TypeId × Value → H} {W : World} {base fuel : Nat} {a : Option Addr} {len cap : Nat} {x : DataW H × List MemPlace} {held : Bool}
    (hf : DataW.trod enc Tryd.prog W base (fun _ => true) held fuel 55 (Value.slice a len cap).cells.toList = some x) (hw : Light 55 x.1) :
    ∃ ns : List (List UInt8), len = ns.length ∧ ns.length ≤ 140737488355328 ∧ VsL W a ns ∧ ∀ s ∈ ns, s.length ≤ maxLen := by
  rcases Go.Deep.open_strs Tryd.underlying55 Tryd.underlying9 (by kernel_rfl) hf with ⟨hcs, hx⟩ | ⟨ad, l, c, m, B, hcs, _, hl, hm, hmm, hx, hcell⟩
  · simp [Value.cells] at hcs
    obtain ⟨rfl, rfl, rfl⟩ := hcs
    exact ⟨[], rfl, by simp, (fun h => by simp at h), fun s hs => by cases hs⟩
  · simp [Value.cells] at hcs
    obtain ⟨rfl, rfl, rfl⟩ := hcs
    have hlm : len ≤ m := by rw [hmm]; split <;> omega
    refine ⟨(List.range len).map fun j => (B j).data.toList, by simp, ?_, fun hn => ?_, fun s hs => ?_⟩
    · have h1 := hw _ (by rw [hx]; unfold DataW.weights; rw [Tryd.underlying55]; exact List.mem_cons_self)
      rw [bytesSt] at h1
      simp at h1 ⊢
      omega
    · simp at hn
      obtain ⟨b, off, spot⟩ := ad
      have hc := (hcell 0 (by omega)).1
      have hspot : spot = none := by simpa [Addr.add] using World.cell?_spot hc
      subst hspot
      refine ⟨b, off, rfl, fun j y hy => ?_⟩
      have hj : j < len := by have := (List.getElem?_eq_some_iff.1 hy).1; simpa using this
      have := (hcell j (by omega)).1
      rw [Addr.add_lit] at this
      rw [this]
      simp [List.getElem?_map, List.getElem?_range hj] at hy
      rw [← hy]
    · obtain ⟨j, hj, rfl⟩ := List.mem_map.1 hs
      exact (hcell j (by have := List.mem_range.1 hj; omega)).2
theorem adds_card (kd : Option Addr) (kcap : Nat) (ks : List Int) (bd : Option Addr) (cap2 : Nat) (ns : List (List UInt8)) (w : World) (hg : Glob w) (hk : ks.length * 8 ≤ 140737488355328) (hi : IsL w kd ks) (hkb : ∀ y ∈ ks, -9223372036854775808 ≤ y ∧ y ≤ 9223372036854775807) (hns : ns.length ≤ 140737488355328) (hb : VsL w bd ns) (hnb : ∀ s ∈ ns, s.length ≤ maxLen) :
    Calls Tryd.prog 4 #[.slice kd ks.length kcap, .slice bd ns.length cap2] w fun e w' => e = .returned (.bool true) ∧ Below w.heap.size w w' :=
  adds_any qk kd bd kcap cap2 ks ns w hg hi (by omega) hkb hb hns hnb
end Go.Proofs.YthnobkiiaflelaaDoor
