/- What is done, numbers and bytes, as they came in. -/
import Derived.Test.YtnilgjlccfileaaDoorPActs
import Derived.ChangeSame
import Derived.ChangeVars
import Derived.JoinedOf
import Derived.RowKit
import Derived.ProofKit
import Derived.OpenShut
import Derived.ChangeOld
import Derived.SizedLaws
import Derived.Deep.Slices
namespace Go.Proofs.YtnilgjlccfileaaDoor
open Go.ChangeShapes Go.WideShapes Go.RowKit Go.ChangeAt

/-- What all weights are at most. -/
def Light {H : Type} (t : TypeId) (d : DataW H) : Prop := ∀ q ∈ d.weights Tryd.prog t, q ≤ 140737488351232
theorem weights_mem_all {H : Type} {P : Program} {e : TypeId} : ∀ {l : List (DataW H)} {d : DataW H}, d ∈ l → ∀ q ∈ d.weights P e, q ∈ DataW.weightsAll P e l
  | d0 :: l, d, hd, q, hq => by
    simp only [DataW.weightsAll, List.mem_append]
    rcases List.mem_cons.1 hd with rfl | h
    · exact Or.inl hq
    · exact Or.inr (weights_mem_all h q hq)
theorem bytesI : Tryd.prog.bytesOf 3 = 8 := by kernel_rfl
theorem take1 {α : Type} (l : List α) (i : Nat) (h : i < l.length) : (l.drop i).take 1 = [l[i]] := by
  rw [List.drop_eq_getElem_cons h]; rfl
/-- Ints that came in: how they lie. -/
theorem ints_in {H : Type} {enc : TypeId × Value → H} {W : World} {base fuel : Nat} {cs : List Value} {x : DataW H × List MemPlace} {spare : Nat → Bool} {held : Bool} (hsp : ∀ b, spare b = true)
    (hf : DataW.trod enc Tryd.prog W base spare held fuel 44 cs = some x) (hw : Light 44 x.1) :
    ∃ (a : Option Addr) (cap : Nat) (ks : List Int), cs = [.slice a ks.length cap] ∧ ks.length * 8 ≤ 140737488355328 ∧ IsL W a ks ∧ (a = none → ks.length = 0 ∧ cap = 0) := by
  rcases open_ints Tryd.underlying44 Tryd.underlying3 (by kernel_rfl) hf with ⟨hcs, hx⟩ | ⟨ad, l, c, zs, hcs, _, hl, hm, hz, hx, hcell, hwz⟩
  · exact ⟨none, 0, [], hcs, by simp, fun h => by simp at h, fun _ => ⟨rfl, rfl⟩⟩
  · rw [hsp, if_pos rfl] at hz
    have hlen : (zs.take l).length = l := by simp; omega
    refine ⟨some ad, c, zs.take l, by rw [hlen]; exact hcs, ?_, fun hn => ?_, (fun h => by cases h)⟩
    · have h1 := hw _ (by rw [hx]; simp only [DataW.weights, Tryd.underlying44]; exact List.mem_cons_self)
      rw [bytesI] at h1
      simp [lits] at h1
      rw [hlen]; omega
    · rw [hlen] at hn
      obtain ⟨b, off, spot⟩ := ad
      have hc := hcell 0 (by omega)
      have hspot : spot = none := by simpa [Addr.add] using World.cell?_spot hc
      subst hspot
      refine ⟨b, off, rfl, fun j x hx => ?_⟩
      have hj : j < l := by have := (List.getElem?_eq_some_iff.1 hx).1; omega
      have := hcell j (by omega)
      rw [Addr.add_lit] at this
      rw [this]
      rw [List.getElem?_take, if_pos hj] at hx
      have hjz : j < zs.length := by omega
      rw [List.getElem?_eq_getElem hjz] at hx
      simp [List.getD_eq_getElem?_getD, List.getElem?_eq_getElem hjz] at hx ⊢
      exact hx
/-- Bytes that came in: how they lie. -/
theorem data_in {H : Type} {enc : TypeId × Value → H} {W : World} {base fuel : Nat} {cs : List Value} {x : DataW H × List MemPlace} {spare : Nat → Bool} {held : Bool} (hsp : ∀ b, spare b = true)
    (hf : DataW.trod enc Tryd.prog W base spare held fuel 24 cs = some x) : ∃ d : Bs, cs = [d.v] ∧ DtAt W d := by
  rcases open_ints Tryd.underlying24 Tryd.underlying5 (by kernel_rfl) hf with ⟨hcs, hx⟩ | ⟨ad, l, c, zs, hcs, _, hl, hm, hz, hx, hcell, hwz⟩
  · exact ⟨nilBs, hcs, ⟨SlAt.zero _ _, fun _ => ⟨rfl, rfl⟩, fun y h => by cases h⟩⟩
  · rw [hsp, if_pos rfl] at hz
    have hlen : (zs.take l).length = l := by simp; omega
    have hbd : ∀ y, y ∈ zs → 0 ≤ y ∧ y ≤ 255 := fun y hy => bounds_u8 (hwz y hy)
    have hbt : ∀ y, y ∈ zs.take l → 0 ≤ y ∧ y ≤ 255 := fun y hy => hbd y (List.mem_of_mem_take hy)
    refine ⟨⟨some ad, c, zs.take l⟩, by simp only [Bs.v, hlen]; exact hcs, ⟨⟨fn_bd hbt, fun hn => ?_⟩, (fun h => by cases h), hbt⟩⟩
    simp only [hlen] at hn ⊢
    obtain ⟨b, off, spot⟩ := ad
    have hc := hcell 0 (by omega)
    have hspot : spot = none := by simpa [Addr.add] using World.cell?_spot hc
    subst hspot
    refine ⟨b, off, rfl, fun j hj => ?_⟩
    have := hcell j (by omega)
    rw [Addr.add_lit] at this
    have hjz : j < zs.length := by omega
    rw [this, fn_get _ j (by rw [hlen]; exact hj)]
    simp [List.getD_eq_getElem?_getD, List.getElem?_eq_getElem hjz]
instance : Inhabited Ac := ⟨⟨0, 0, 0, nilBs, none, 0, []⟩⟩
/-- One, of its five cells. -/
def Ac.l (x : Ac) : List Value := [.int .i64 x.kind, .int .i64 x.page, .int .i64 x.n, x.d.v, .slice x.ka x.ks.length x.kc]
theorem act_in {H : Type} {enc : TypeId × Value → H} {W : World} {base fuel : Nat} {cs : List Value} {x : DataW H × List MemPlace} {spare : Nat → Bool} {held : Bool} (hsp : ∀ b, spare b = true)
    (hf : DataW.trod enc Tryd.prog W base spare held fuel 46 cs = some x) (hw : Light 46 x.1) :
    ∃ t : Ac, cs = t.l ∧ DtAt W t.d ∧ (IsL W t.ka t.ks ∧ t.ks.length * 8 ≤ 140737488355328 ∧ (t.ka = none → t.ks.length = 0 ∧ t.kc = 0)) ∧ ((-9223372036854775808 ≤ t.page ∧ t.page ≤ 9223372036854775807) ∧ (-9223372036854775808 ≤ t.n ∧ t.n ≤ 9223372036854775807)) := by
  obtain ⟨xs, m, rfl, rfl, hcl, hxl, hfs⟩ := DataW.trod_struct Tryd.underlying46 hf
  have hcl' : cs.length = 5 := by rw [hcl]; kernel_rfl
  have hxl' : xs.length = 5 := hxl
  have g0 : DataW.trod enc Tryd.prog W base spare held m 3 ((cs.drop 0).take (Tryd.prog.cellsOf 3)) = xs[0]? := hfs 0 _ rfl
  have g1 : DataW.trod enc Tryd.prog W base spare held m 3 ((cs.drop 1).take (Tryd.prog.cellsOf 3)) = xs[1]? := hfs 1 _ rfl
  have g2 : DataW.trod enc Tryd.prog W base spare held m 3 ((cs.drop 2).take (Tryd.prog.cellsOf 3)) = xs[2]? := hfs 2 _ rfl
  have g3 : DataW.trod enc Tryd.prog W base spare held m 24 ((cs.drop 3).take (Tryd.prog.cellsOf 24)) = xs[3]? := hfs 3 _ rfl
  have g4 : DataW.trod enc Tryd.prog W base spare held m 44 ((cs.drop 4).take (Tryd.prog.cellsOf 44)) = xs[4]? := hfs 4 _ rfl
  have c3 : Tryd.prog.cellsOf 3 = 1 := by kernel_rfl
  have cB : Tryd.prog.cellsOf 24 = 1 := by kernel_rfl
  have cI : Tryd.prog.cellsOf 44 = 1 := by kernel_rfl
  rw [c3] at g0 g1 g2
  rw [cB] at g3
  rw [cI] at g4
  rw [take1 cs 0 (by omega), List.getElem?_eq_getElem (by omega)] at g0
  rw [take1 cs 1 (by omega), List.getElem?_eq_getElem (by omega)] at g1
  rw [take1 cs 2 (by omega), List.getElem?_eq_getElem (by omega)] at g2
  rw [take1 cs 3 (by omega), List.getElem?_eq_getElem (by omega)] at g3
  rw [take1 cs 4 (by omega), List.getElem?_eq_getElem (by omega)] at g4
  have w4 : Light 44 (xs[4]'(by omega)).1 := fun q hq => hw q (by
    simp only [DataW.weights, Tryd.underlying46]
    exact DataW.weights_mem_each (j := 4) (t := 44) (d := (xs[4]'(by omega)).1) rfl (by rw [List.getElem?_map, List.getElem?_eq_getElem (by omega)]; rfl) q hq)
  obtain ⟨k, h0, _, _⟩ := DataW.trod_int Tryd.underlying3 g0
  obtain ⟨pg, h1, _, w1⟩ := DataW.trod_int Tryd.underlying3 g1
  obtain ⟨n, h2, _, w2⟩ := DataW.trod_int Tryd.underlying3 g2
  obtain ⟨d, h3, hd⟩ := data_in hsp g3
  obtain ⟨ka, kc, ks, h4, hk1, hk2, hk3⟩ := ints_in hsp g4 w4
  refine ⟨⟨k, pg, n, d, ka, kc, ks⟩, ?_, hd, ⟨hk2, hk1, hk3⟩, bounds_i64 w1, bounds_i64 w2⟩
  simp at h0 h1 h2 h3 h4
  apply List.ext_getElem
  · rw [hcl']; rfl
  · intro i hi _
    rw [hcl'] at hi
    simp only [Ac.l]
    match i, hi with
    | 0, _ => simpa using h0
    | 1, _ => simpa using h1
    | 2, _ => simpa using h2
    | 3, _ => simpa using h3
    | 4, _ => simpa using h4
theorem acts_in {H : Type} {enc : TypeId × Value → H} {W : World} {base fuel : Nat} {a : Option Addr} {len cap : Nat} {x : DataW H × List MemPlace} {spare : Nat → Bool} {held : Bool} (hsp : ∀ b, spare b = true)
    (hf : DataW.trod enc Tryd.prog W base spare held fuel 22 (Value.slice a len cap).cells.toList = some x) (hw : Light 22 x.1) :
    ∃ X : Nat → Ac, len ≤ 9223372036854775807 ∧ AcAt W a len X := by
  rcases Go.Deep.open_slice Tryd.underlying22 hf with ⟨hcs, hx⟩ | ⟨ad, l, c, m, n, D, Pl, hcs, _, hl, hcm, hm, hx, hcell⟩
  · simp [Value.cells] at hcs
    obtain ⟨rfl, rfl, rfl⟩ := hcs
    exact ⟨fun _ => ⟨0, 0, 0, nilBs, none, 0, []⟩, by omega, ⟨fun h => by omega, fun j hj => by omega, fun j hj => by omega, fun j hj => by omega⟩⟩
  · simp [Value.cells] at hcs
    obtain ⟨rfl, rfl, rfl⟩ := hcs
    rw [hsp, if_pos rfl] at hm
    subst hm
    have cT : Tryd.prog.cellsOf 46 = 5 := by kernel_rfl
    rw [cT] at hcell
    have each : ∀ i, i < len → ∃ t : Ac, W.cells? base (ad.add (i * 5)) 5 = some t.l ∧ DtAt W t.d ∧ (IsL W t.ka t.ks ∧ t.ks.length * 8 ≤ 140737488355328 ∧ (t.ka = none → t.ks.length = 0 ∧ t.kc = 0)) ∧ ((-9223372036854775808 ≤ t.page ∧ t.page ≤ 9223372036854775807) ∧ (-9223372036854775808 ≤ t.n ∧ t.n ≤ 9223372036854775807)) := by
      intro i hi
      obtain ⟨cs', h1, h2⟩ := hcell i (by omega)
      have wi : Light 46 (D i) := fun q hq => hw q (by
        rw [hx]
        simp only [DataW.weights, Tryd.underlying22]
        exact List.mem_cons_of_mem _ (List.mem_append_left _ (weights_mem_all (List.mem_map.2 ⟨i, List.mem_range.2 hi, rfl⟩) q hq)))
      obtain ⟨t, rfl, h3⟩ := act_in hsp h2 wi
      exact ⟨t, h1, h3⟩
    obtain ⟨X, hX⟩ := Go.Deep.choose_lt each
    refine ⟨X, by simp only [maxLen] at hcm; omega, ⟨fun hn => ?_, fun j hj => (hX j hj).2.1, fun j hj => (hX j hj).2.2.1, fun j hj => (hX j hj).2.2.2⟩⟩
    obtain ⟨b, off, spot⟩ := ad
    obtain ⟨_, _, h0⟩ := World.cells?_some (hX 0 (by omega)).1
    have h0' := h0 0 (by omega)
    have hc0 : W.cell? ⟨b, off, spot⟩ = some (.int .i64 (X 0).kind) := by simpa [Addr.add, Ac.l] using h0'
    have hspot : spot = none := World.cell?_spot hc0
    subst hspot
    refine ⟨b, off, rfl, World.block_lt_of_cell? W _ hc0, fun i hi => ?_⟩
    obtain ⟨_, _, h1⟩ := World.cells?_some (hX i (by omega)).1
    have hh : ∀ j v, j < 5 → (X i).l[j]? = some v → W.cell? ⟨b, off + i * 5 + j, none⟩ = some v := fun j v hj hv => by
      have h2 := h1 j hj
      rw [Addr.add_lit, Addr.add_lit, hv] at h2
      exact h2
    exact ⟨hh 0 _ (by omega) rfl, hh 1 _ (by omega) rfl, hh 2 _ (by omega) rfl, hh 3 _ (by omega) rfl, hh 4 _ (by omega) rfl⟩
end Go.Proofs.YtnilgjlccfileaaDoor
