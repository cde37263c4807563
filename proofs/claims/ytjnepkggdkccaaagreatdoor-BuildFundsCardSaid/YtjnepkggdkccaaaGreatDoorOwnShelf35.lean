/- From the rows' hypotheses to a transaction's cells. -/
import Derived.Test.YtjnepkggdkccaaaGreatDoorOwnShelf24
import Derived.Test.YtjnepkggdkccaaaGreatDoorOwnShelf34
import Derived.Test.YtjnepkggdkccaaaGreatDoorOwnShelf33
import Derived.Test.YtjnepkggdkccaaaGreatDoorOwnShelf20
import Derived.Test.YtjnepkggdkccaaaGreatDoorOwnShelf09
namespace Go.Proofs.YtjnepkggdkccaaaGreatDoor
open Go.ChangeShapes Go.WideShapes Go.RowKit Go.ChangeAt

theorem cellsY5 : Tryz.prog.cellsOf 33 = 1 := by kernel_rfl
theorem bytesU8 : Tryz.prog.bytesOf 5 = 1 := by kernel_rfl
/-- Bytes that came in. -/
theorem bytes5_in {H : Type} {enc : TypeId × Value → H} {W : World} {base fuel : Nat} {cs : List Value} {x : DataW H × List MemPlace} {spare : Nat → Bool} {held : Bool} (hsp : ∀ b, spare b = true)
  (hf : DataW.trod enc Tryz.prog W base spare held fuel 33 cs = some x) (hw : Light 33 x.1) :
  ∃ (a : Option Addr) (len cap : Nat) (z : Nat → Int), cs = [.slice a len cap] ∧ SlAt W a len z ∧ len ≤ 140737488355328 := by
 rcases open_ints Tryz.underlying33 Tryz.underlying5 (by kernel_rfl) hf with ⟨hcs, hx⟩ | ⟨ad, l, c, zs, hcs, _, hl, hm, hz, hx, hcell, hwz⟩
 ·exact ⟨none, 0, 0, fun _ => 0, hcs, SlAt.zero _ _, by omega⟩
 ·rw [hsp, if_pos rfl] at hz
  have hlen : l ≤ 140737488355328 := by
   have h1 := hw _ (by rw [hx]; simp only [DataW.weights, Tryz.underlying33]; exact List.mem_cons_self)
   rw [bytesU8] at h1
   simp [lits] at h1
   omega
  refine ⟨some ad, l, c, fun j => zs.getD j 0, hcs, ⟨fun j hj => ?_, fun hn => ?_⟩, hlen⟩
  ·have hjz : j < zs.length := by omega
   have := hwz zs[j] (List.getElem_mem hjz)
   have hb := bounds_u8 this
   simp only [List.getD_eq_getElem?_getD, List.getElem?_eq_getElem hjz, Option.getD_some]
   omega
  ·obtain ⟨b, off, spot⟩ := ad
   have hc := hcell 0 (by omega)
   have hspot : spot = none := by simpa [Addr.add] using World.cell?_spot hc
   subst hspot
   refine ⟨b, off, rfl, fun j hj => ?_⟩
   have := hcell j (by omega)
   rwa [Addr.add_lit] at this
/-- Keys that came in. -/
theorem keys5_in {H : Type} {enc : TypeId × Value → H} {W : World} {base fuel : Nat} {cs : List Value} {x : DataW H × List MemPlace} {spare : Nat → Bool} {held : Bool} (hsp : ∀ b, spare b = true)
  (hf : DataW.trod enc Tryz.prog W base spare held fuel 88 cs = some x) (hw : Light 88 x.1) :
  ∃ (a : Option Addr) (len cap : Nat) (z : Nat → Int), cs = [.slice a len cap] ∧ len ≤ 17592186043904 ∧ IsAt W a len z ∧ ∀ j, j < len → Ib (z j) := by
 rcases open_ints Tryz.underlying88 Tryz.underlying3 (by kernel_rfl) hf with ⟨hcs, hx⟩ | ⟨ad, l, c, zs, hcs, _, hl, hm, hz, hx, hcell, hwz⟩
 ·exact ⟨none, 0, 0, fun _ => 0, hcs, by omega, fun h => by omega, fun j hj => by omega⟩
 ·rw [hsp, if_pos rfl] at hz
  refine ⟨some ad, l, c, fun j => zs.getD j 0, hcs, ?_, fun hn => ?_, fun j hj => ?_⟩
  ·have h1 := hw _ (by rw [hx]; simp only [DataW.weights, Tryz.underlying88]; exact List.mem_cons_self)
   rw [bytesI] at h1
   simp [lits] at h1
   omega
  ·obtain ⟨b, off, spot⟩ := ad
   have hc := hcell 0 (by omega)
   have hspot : spot = none := by simpa [Addr.add] using World.cell?_spot hc
   subst hspot
   refine ⟨b, off, rfl, fun j hj => ?_⟩
   have := hcell j (by omega)
   rwa [Addr.add_lit] at this
  ·have hjz : j < zs.length := by omega
   have h5 := bounds_i64 (hwz zs[j] (List.getElem_mem hjz))
   simp only [List.getD_eq_getElem?_getD, List.getElem?_eq_getElem hjz, Option.getD_some]
   exact h5
/-- One branch, of its 35 cells. -/
theorem branch5_in {H : Type} {enc : TypeId × Value → H} {W : World} {base fuel : Nat} {cs : List Value} {x : DataW H × List MemPlace} {spare : Nat → Bool} {held : Bool} (hsp : ∀ b, spare b = true)
  (hf : DataW.trod enc Tryz.prog W base spare held fuel 126 cs = some x) (hw : Light 126 x.1) :
  ∃ (b : Cd.Bv) (ka : Option Addr) (kc : Nat), cs = Cd.brl b ka kc ∧ b.Ok ∧ IsAt W ka b.n b.z ∧ b.n ≤ 17592186043904 := by
 obtain ⟨xs, m, rfl, rfl, hcl, hxl, hfs⟩ := DataW.trod_struct Tryz.underlying126 hf
 have hcl' : cs.length = 35 := by rw [hcl]; kernel_rfl
 have hxl' : xs.length = 4 := hxl
 have g0 : DataW.trod enc Tryz.prog W base spare held m 88 ((cs.drop 0).take (Tryz.prog.cellsOf 88)) = xs[0]? := hfs 0 _ rfl
 have g1 : DataW.trod enc Tryz.prog W base spare held m 23 ((cs.drop 1).take (Tryz.prog.cellsOf 23)) = xs[1]? := hfs 1 _ rfl
 have g2 : DataW.trod enc Tryz.prog W base spare held m 3 ((cs.drop 33).take (Tryz.prog.cellsOf 3)) = xs[2]? := hfs 2 _ rfl
 have g3 : DataW.trod enc Tryz.prog W base spare held m 3 ((cs.drop 34).take (Tryz.prog.cellsOf 3)) = xs[3]? := hfs 3 _ rfl
 rw [cellsS] at g0
 rw [cellsH] at g1
 rw [cellsI] at g2 g3
 rw [take1 cs 0 (by omega), List.getElem?_eq_getElem (by omega)] at g0
 rw [List.getElem?_eq_getElem (by omega)] at g1
 rw [take1 cs 33 (by omega), List.getElem?_eq_getElem (by omega)] at g2
 rw [take1 cs 34 (by omega), List.getElem?_eq_getElem (by omega)] at g3
 have w0 : Light 88 (xs[0]'(by omega)).1 := fun q hq => hw q (by
  simp only [DataW.weights, Tryz.underlying126]
  exact DataW.weights_mem_each (j := 0) (t := 88) (d := (xs[0]'(by omega)).1) rfl (by rw [List.getElem?_map, List.getElem?_eq_getElem (by omega)]; rfl) q hq)
 obtain ⟨ka, n, kc, z, h0, hn, hI, hz⟩ := keys5_in hsp g0 w0
 obtain ⟨lk, h1, hlk⟩ := sum_in g1
 obtain ⟨af, h2, _, w2⟩ := DataW.trod_int Tryz.underlying3 g2
 obtain ⟨ol, h3, _, w3⟩ := DataW.trod_int Tryz.underlying3 g3
 refine ⟨⟨n, z, lk, af, ol⟩, ka, kc, ?_, ⟨hz, hlk, bounds_i64 w2, bounds_i64 w3⟩, hI, hn⟩
 simp at h0 h2 h3
 have e0 : cs = cs[0] :: cs.drop 1 := by
  have := List.drop_eq_getElem_cons (l := cs) (i := 0) (by omega)
  simpa using this
 have e1 : cs.drop 1 = (cs.drop 1).take 32 ++ (cs.drop 1).drop 32 := (List.take_append_drop 32 _).symm
 have e2 : (cs.drop 1).drop 32 = [cs[33], cs[34]] := by
  rw [List.drop_drop, List.drop_eq_getElem_cons (by omega), List.drop_eq_getElem_cons (by omega), List.drop_eq_nil_of_le (by omega)]
 rw [e0, h0, e1, h1, e2, h2, h3]
 rfl
/-- A condition that came in. -/
theorem cond5_in {H : Type} {enc : TypeId × Value → H} {W : World} {base fuel : Nat} {cs : List Value} {x : DataW H × List MemPlace} {spare : Nat → Bool} {held : Bool} (hsp : ∀ b, spare b = true)
  (hf : DataW.trod enc Tryz.prog W base spare held fuel 122 cs = some x) (hw : Light 122 x.1) :
  ∃ (a : Option Addr) (len cap : Nat) (X : Nat → Cd.Bv), cs = [.slice a len cap] ∧ Cd.BrAt W a len X ∧ (a = none → len = 0 ∧ cap = 0) ∧ len ≤ 140737488355328 ∧ ∀ i, i < len → (X i).n ≤ 17592186043904 := by
 obtain ⟨xs, m0, rfl, rfl, hcl, hxl, hfs⟩ := DataW.trod_struct Tryz.underlying122 hf
 have hcl' : cs.length = 1 := by rw [hcl]; kernel_rfl
 have hxl' : xs.length = 1 := hxl
 have cB : Tryz.prog.cellsOf 120 = 1 := by kernel_rfl
 have g0 : DataW.trod enc Tryz.prog W base spare held m0 120 ((cs.drop 0).take (Tryz.prog.cellsOf 120)) = xs[0]? := hfs 0 _ rfl
 rw [cB, take1 cs 0 (by omega), List.getElem?_eq_getElem (by omega)] at g0
 have w0 : Light 120 (xs[0]'(by omega)).1 := fun q hq => hw q (by
  simp only [DataW.weights, Tryz.underlying122]
  exact DataW.weights_mem_each (j := 0) (t := 120) (d := (xs[0]'(by omega)).1) rfl (by rw [List.getElem?_map, List.getElem?_eq_getElem (by omega)]; rfl) q hq)
 obtain ⟨c0, rfl⟩ := List.length_eq_one_iff.1 hcl'
 have g0 : DataW.trod enc Tryz.prog W base spare held m0 120 [c0] = some (xs[0]'(by omega)) := g0
 rcases Go.Deep.open_slice Tryz.underlying120 g0 with ⟨hcs, hx⟩ | ⟨ad, l, c, m, n, D, Pl, hcs, _, hl, hcm, hm, hx, hcell⟩
 ·exact ⟨none, 0, 0, fun _ => default, hcs, Cd.BrAt.nil _ _ _, fun _ => ⟨rfl, rfl⟩, by omega, fun i hi => by omega⟩
 ·rw [hsp, if_pos rfl] at hm
  subst hm
  have cT : Tryz.prog.cellsOf 126 = 35 := by kernel_rfl
  have bT : Tryz.prog.bytesOf 126 = 72 := by kernel_rfl
  rw [cT] at hcell
  have hlen : l ≤ 140737488355328 := by
   have h1 := w0 _ (by rw [hx]; simp only [DataW.weights, Tryz.underlying120]; exact List.mem_cons_self)
   rw [bT] at h1
   simp at h1
   omega
  have each : ∀ i, i < l → ∃ t : Cd.Bv × (Option Addr × Nat), W.cells? base (ad.add (i * 35)) 35 = some (Cd.brl t.1 t.2.1 t.2.2) ∧ t.1.Ok ∧ IsAt W t.2.1 t.1.n t.1.z ∧ t.1.n ≤ 17592186043904 := by
   intro i hi
   obtain ⟨cs', h1, h2⟩ := hcell i (by omega)
   have wi : Light 126 (D i) := fun q hq => w0 q (by
    rw [hx]
    simp only [DataW.weights, Tryz.underlying120]
    exact List.mem_cons_of_mem _ (List.mem_append_left _ (weights_mem_all (List.mem_map.2 ⟨i, List.mem_range.2 hi, rfl⟩) q hq)))
   obtain ⟨b, ka, kc, rfl, h3, h4, h5⟩ := branch5_in hsp h2 wi
   exact ⟨(b, ka, kc), h1, h3, h4, h5⟩
  obtain ⟨X, hX⟩ := Go.Deep.choose_lt each
  refine ⟨some ad, l, _, fun i => (X i).1, hcs, ⟨fun i hi => (hX i hi).2.1, fun hn => ?_⟩, (fun h => by cases h), hlen, fun i hi => (hX i hi).2.2.2⟩
  obtain ⟨b, off, spot⟩ := ad
  obtain ⟨_, _, h0⟩ := World.cells?_some (hX 0 (by omega)).1
  have h0' := h0 0 (by omega)
  have hspot : spot = none := by
   have : W.cell? ⟨b, off, spot⟩ = some (.slice (X 0).2.1 (X 0).1.n (X 0).2.2) := by simpa [Addr.add, Cd.brl] using h0'
   exact World.cell?_spot this
  subst hspot
  refine ⟨b, off, rfl, fun i hi => ⟨(X i).2.1, (X i).2.2, fun j v hv => ?_, (hX i hi).2.2.1⟩⟩
  obtain ⟨_, _, h1⟩ := World.cells?_some (hX i (by omega)).1
  have hj : j < 35 := by
   have := (List.getElem?_eq_some_iff.1 hv).1
   rwa [Cd.brl_length] at this
  have h2 := h1 j hj
  rw [Addr.add_lit, Addr.add_lit, hv] at h2
  exact h2
/-- An output, of its two cells. -/
theorem out5_in {H : Type} {enc : TypeId × Value → H} {W : World} {base fuel : Nat} {cs : List Value} {x : DataW H × List MemPlace} {spare : Nat → Bool} {held : Bool} (hsp : ∀ b, spare b = true)
  (hf : DataW.trod enc Tryz.prog W base spare held fuel 124 cs = some x) (hw : Light 124 x.1) :
  ∃ (b : To) (ca : Option Addr) (cc : Nat), cs = tol b ca cc ∧ Cd.BrAt W ca b.cn b.X ∧ (ca = none → b.cn = 0 ∧ cc = 0) ∧ b.cn ≤ 140737488355328 ∧ ∀ i, i < b.cn → (b.X i).n ≤ 17592186043904 := by
 obtain ⟨xs, m, rfl, rfl, hcl, hxl, hfs⟩ := DataW.trod_struct Tryz.underlying124 hf
 have hcl' : cs.length = 2 := by rw [hcl]; kernel_rfl
 have hxl' : xs.length = 2 := hxl
 have cC : Tryz.prog.cellsOf 122 = 1 := by kernel_rfl
 have g0 : DataW.trod enc Tryz.prog W base spare held m 3 ((cs.drop 0).take (Tryz.prog.cellsOf 3)) = xs[0]? := hfs 0 _ rfl
 have g1 : DataW.trod enc Tryz.prog W base spare held m 122 ((cs.drop 1).take (Tryz.prog.cellsOf 122)) = xs[1]? := hfs 1 _ rfl
 rw [cellsI, take1 cs 0 (by omega), List.getElem?_eq_getElem (by omega)] at g0
 rw [cC, take1 cs 1 (by omega), List.getElem?_eq_getElem (by omega)] at g1
 have w1 : Light 122 (xs[1]'(by omega)).1 := fun q hq => hw q (by
  simp only [DataW.weights, Tryz.underlying124]
  exact DataW.weights_mem_each (j := 1) (t := 122) (d := (xs[1]'(by omega)).1) rfl (by rw [List.getElem?_map, List.getElem?_eq_getElem (by omega)]; rfl) q hq)
 obtain ⟨am, h0, _, _⟩ := DataW.trod_int Tryz.underlying3 g0
 obtain ⟨ca, n, cc, X, h1, hB, hnil, hn, hk⟩ := cond5_in hsp g1 w1
 refine ⟨⟨am, n, X⟩, ca, cc, ?_, hB, hnil, hn, hk⟩
 simp at h0 h1
 have e0 : cs = [cs[0], cs[1]] := by
  apply List.ext_getElem
  ·simp [hcl']
  ·intro i h1 h2
   match i, h2 with
   | 0, _ => rfl
   | 1, _ => rfl
 rw [e0, h0, h1]
 rfl
/-- An input, of its 35 cells. -/
theorem in5_in {H : Type} {enc : TypeId × Value → H} {W : World} {base fuel : Nat} {cs : List Value} {x : DataW H × List MemPlace} {spare : Nat → Bool} {held : Bool} (hsp : ∀ b, spare b = true)
  (hf : DataW.trod enc Tryz.prog W base spare held fuel 79 cs = some x) (hw : Light 79 x.1) :
  ∃ (b : Ti) (sa : Option Addr) (sc : Nat) (z : Nat → Int), cs = til b sa sc ∧ Hb b.pt ∧ SlAt W sa b.sn z ∧ b.sn ≤ 140737488355328 := by
 obtain ⟨xs, m, rfl, rfl, hcl, hxl, hfs⟩ := DataW.trod_struct Tryz.underlying79 hf
 have hcl' : cs.length = 35 := by rw [hcl]; kernel_rfl
 have hxl' : xs.length = 3 := hxl
 have cP : Tryz.prog.cellsOf 25 = 33 := by kernel_rfl
 have g0 : DataW.trod enc Tryz.prog W base spare held m 25 ((cs.drop 0).take (Tryz.prog.cellsOf 25)) = xs[0]? := hfs 0 _ rfl
 have g1 : DataW.trod enc Tryz.prog W base spare held m 3 ((cs.drop 33).take (Tryz.prog.cellsOf 3)) = xs[1]? := hfs 1 _ rfl
 have g2 : DataW.trod enc Tryz.prog W base spare held m 33 ((cs.drop 34).take (Tryz.prog.cellsOf 33)) = xs[2]? := hfs 2 _ rfl
 rw [cP, List.getElem?_eq_getElem (by omega)] at g0
 rw [cellsI, take1 cs 33 (by omega), List.getElem?_eq_getElem (by omega)] at g1
 rw [cellsY5, take1 cs 34 (by omega), List.getElem?_eq_getElem (by omega)] at g2
 have w2 : Light 33 (xs[2]'(by omega)).1 := fun q hq => hw q (by
  simp only [DataW.weights, Tryz.underlying79]
  exact DataW.weights_mem_each (j := 2) (t := 33) (d := (xs[2]'(by omega)).1) rfl (by rw [List.getElem?_map, List.getElem?_eq_getElem (by omega)]; rfl) q hq)
 obtain ⟨pz, pn, h0, hz, _⟩ := point_in g0
 obtain ⟨br, h1, _, _⟩ := DataW.trod_int Tryz.underlying3 g1
 obtain ⟨sa, sn, sc, z, h2, hS, hsn⟩ := bytes5_in hsp g2 w2
 refine ⟨⟨pz, pn, br, sn⟩, sa, sc, z, ?_, hz, hS, hsn⟩
 simp at h0 h1 h2
 have e0 : cs = cs.take 33 ++ [cs[33], cs[34]] := by
  have := List.take_append_drop 33 cs
  rw [List.drop_eq_getElem_cons (l := cs) (i := 33) (by omega), List.drop_eq_getElem_cons (l := cs) (i := 33 + 1) (by omega), List.drop_eq_nil_of_le (by omega)] at this
  exact this.symm
 rw [e0, h0, h1, h2]
 simp [til, ptl]
theorem outs5_in {H : Type} {enc : TypeId × Value → H} {W : World} {base fuel : Nat} {c0 : Value} {x : DataW H × List MemPlace} {spare : Nat → Bool} {held : Bool} (hsp : ∀ b, spare b = true)
  (hf : DataW.trod enc Tryz.prog W base spare held fuel 56 [c0] = some x) (hw : Light 56 x.1) :
  ∃ (a : Option Addr) (len cap : Nat) (O : Nat → To), c0 = .slice a len cap ∧ ToAt W a len O ∧ len ≤ 140737488355328 ∧ ∀ i, i < len → (O i).cn ≤ 140737488355328 ∧ ∀ j, j < (O i).cn → ((O i).X j).n ≤ 17592186043904 := by
 rcases Go.Deep.open_slice Tryz.underlying56 hf with ⟨hcs, hx⟩ | ⟨ad, l, c, m, n, D, Pl, hcs, _, hl, hcm, hm, hx, hcell⟩
 ·exact ⟨none, 0, 0, fun _ => default, by simpa using hcs, ToAt.nil _ _ _, by omega, fun i hi => by omega⟩
 ·rw [hsp, if_pos rfl] at hm
  subst hm
  have cT : Tryz.prog.cellsOf 124 = 2 := by kernel_rfl
  have bT : Tryz.prog.bytesOf 124 = 32 := by kernel_rfl
  rw [cT] at hcell
  have hlen : l ≤ 140737488355328 := by
   have h1 := hw _ (by rw [hx]; simp only [DataW.weights, Tryz.underlying56]; exact List.mem_cons_self)
   rw [bT] at h1
   simp at h1
   omega
  have each : ∀ i, i < l → ∃ t : To × (Option Addr × Nat), W.cells? base (ad.add (i * 2)) 2 = some (tol t.1 t.2.1 t.2.2) ∧ Cd.BrAt W t.2.1 t.1.cn t.1.X ∧ (t.2.1 = none → t.1.cn = 0 ∧ t.2.2 = 0) ∧ t.1.cn ≤ 140737488355328 ∧ ∀ j, j < t.1.cn → (t.1.X j).n ≤ 17592186043904 := by
   intro i hi
   obtain ⟨cs', h1, h2⟩ := hcell i (by omega)
   have wi : Light 124 (D i) := fun q hq => hw q (by
    rw [hx]
    simp only [DataW.weights, Tryz.underlying56]
    exact List.mem_cons_of_mem _ (List.mem_append_left _ (weights_mem_all (List.mem_map.2 ⟨i, List.mem_range.2 hi, rfl⟩) q hq)))
   obtain ⟨b, ka, kc, rfl, h3, h4, h5, h6⟩ := out5_in hsp h2 wi
   exact ⟨(b, ka, kc), h1, h3, h4, h5, h6⟩
  obtain ⟨X, hX⟩ := Go.Deep.choose_lt each
  refine ⟨some ad, l, _, fun i => (X i).1, (List.cons.inj hcs).1, ⟨fun hn => ?_⟩, hlen, fun i hi => ⟨(hX i hi).2.2.2.1, (hX i hi).2.2.2.2⟩⟩
  obtain ⟨b, off, spot⟩ := ad
  obtain ⟨_, _, h0⟩ := World.cells?_some (hX 0 (by omega)).1
  have h0' := h0 0 (by omega)
  have hspot : spot = none := by
   have : W.cell? ⟨b, off, spot⟩ = some (.int .i64 (X 0).1.am) := by simpa [Addr.add, tol] using h0'
   exact World.cell?_spot this
  subst hspot
  refine ⟨b, off, rfl, fun i hi => ⟨(X i).2.1, (X i).2.2, fun j v hv => ?_, (hX i hi).2.1, (hX i hi).2.2.1⟩⟩
  obtain ⟨_, _, h1⟩ := World.cells?_some (hX i (by omega)).1
  have hj : j < 2 := by
   have := (List.getElem?_eq_some_iff.1 hv).1
   simpa [tol] using this
  have h2 := h1 j hj
  rw [Addr.add_lit, Addr.add_lit, hv] at h2
  exact h2
theorem ins5_in {H : Type} {enc : TypeId × Value → H} {W : World} {base fuel : Nat} {c0 : Value} {x : DataW H × List MemPlace} {spare : Nat → Bool} {held : Bool} (hsp : ∀ b, spare b = true)
  (hf : DataW.trod enc Tryz.prog W base spare held fuel 55 [c0] = some x) (hw : Light 55 x.1) :
  ∃ (a : Option Addr) (len cap : Nat) (X : Nat → Ti) (S : Nat → Option Addr × Nat) (Z : Nat → Nat → Int), c0 = .slice a len cap ∧ TiAt W a len X S ∧ len ≤ 140737488355328 ∧ ∀ i, i < len → SlAt W (S i).1 (X i).sn (Z i) ∧ (X i).sn ≤ 140737488355328 := by
 rcases Go.Deep.open_slice Tryz.underlying55 hf with ⟨hcs, hx⟩ | ⟨ad, l, c, m, n, D, Pl, hcs, _, hl, hcm, hm, hx, hcell⟩
 ·exact ⟨none, 0, 0, fun _ => default, fun _ => (none, 0), fun _ _ => 0, by simpa using hcs, TiAt.nil _ _ _ _, by omega, fun i hi => by omega⟩
 ·rw [hsp, if_pos rfl] at hm
  subst hm
  have cT : Tryz.prog.cellsOf 79 = 35 := by kernel_rfl
  have bT : Tryz.prog.bytesOf 79 = 72 := by kernel_rfl
  rw [cT] at hcell
  have hlen : l ≤ 140737488355328 := by
   have h1 := hw _ (by rw [hx]; simp only [DataW.weights, Tryz.underlying55]; exact List.mem_cons_self)
   rw [bT] at h1
   simp at h1
   omega
  have each : ∀ i, i < l → ∃ t : (Ti × (Nat → Int)) × (Option Addr × Nat), W.cells? base (ad.add (i * 35)) 35 = some (til t.1.1 t.2.1 t.2.2) ∧ Hb t.1.1.pt ∧ SlAt W t.2.1 t.1.1.sn t.1.2 ∧ t.1.1.sn ≤ 140737488355328 := by
   intro i hi
   obtain ⟨cs', h1, h2⟩ := hcell i (by omega)
   have wi : Light 79 (D i) := fun q hq => hw q (by
    rw [hx]
    simp only [DataW.weights, Tryz.underlying55]
    exact List.mem_cons_of_mem _ (List.mem_append_left _ (weights_mem_all (List.mem_map.2 ⟨i, List.mem_range.2 hi, rfl⟩) q hq)))
   obtain ⟨b, sa, sc, z, rfl, h3, h4, h5⟩ := in5_in hsp h2 wi
   exact ⟨((b, z), (sa, sc)), h1, h3, h4, h5⟩
  obtain ⟨X, hX⟩ := Go.Deep.choose_lt each
  refine ⟨some ad, l, _, fun i => (X i).1.1, fun i => (X i).2, fun i => (X i).1.2, (List.cons.inj hcs).1, ⟨fun i hi => (hX i hi).2.1, fun hn => ?_⟩, hlen, fun i hi => ⟨(hX i hi).2.2.1, (hX i hi).2.2.2⟩⟩
  obtain ⟨b, off, spot⟩ := ad
  obtain ⟨_, _, h0⟩ := World.cells?_some (hX 0 (by omega)).1
  have h0' := h0 0 (by omega)
  have hspot : spot = none := by
   have e : (til (X 0).1.1 (X 0).2.1 (X 0).2.2)[0]? = some (.int .u8 ((X 0).1.1.pt 0)) := by rfl
   rw [e] at h0'
   have e2 : W.cell? ⟨b, off, spot⟩ = some (.int .u8 ((X 0).1.1.pt 0)) := by simpa [Addr.add] using h0'
   exact World.cell?_spot e2
  subst hspot
  refine ⟨b, off, rfl, fun i hi => fun j v hv => ?_⟩
  obtain ⟨_, _, h1⟩ := World.cells?_some (hX i (by omega)).1
  have hj : j < 35 := by
   have := (List.getElem?_eq_some_iff.1 hv).1
   rwa [til_length] at this
  have h2 := h1 j hj
  rw [Addr.add_lit, Addr.add_lit, hv] at h2
  exact h2
/-- A transaction that came in. -/
structure TxIn (W : World) (t : Tc5) (S : Nat → Option Addr × Nat) : Prop where
 ti : TiAt W t.ia t.n t.X S
 ou : ToAt W t.oa t.m t.O
 sc : ∀ k, k < t.n → SlAt W (S k).1 (t.X k).sn (t.Z k)
 bn : t.n ≤ 140737488355328 ∧ t.m ≤ 140737488355328
 bs : ∀ i, i < t.n → (t.X i).sn ≤ 140737488355328
 bo : ∀ i, i < t.m → (t.O i).cn ≤ 140737488355328 ∧ ∀ j, j < (t.O i).cn → ((t.O i).X j).n ≤ 17592186043904
theorem tx_in {H : Type} {enc : TypeId × Value → H} {W : World} {base fuel : Nat} {cs : List Value} {x : DataW H × List MemPlace} {spare : Nat → Bool} {held : Bool} (hsp : ∀ b, spare b = true)
  (hf : DataW.trod enc Tryz.prog W base spare held fuel 58 cs = some x) (hw : Light 58 x.1) :
  ∃ (t : Tc5) (S : Nat → Option Addr × Nat), cs = txl t.lk t.ia t.n t.ic t.oa t.m t.oc ∧ TxIn W t S := by
 obtain ⟨xs, m, rfl, rfl, hcl, hxl, hfs⟩ := DataW.trod_struct Tryz.underlying58 hf
 have hcl' : cs.length = 3 := by rw [hcl]; kernel_rfl
 have hxl' : xs.length = 3 := hxl
 have c1 : Tryz.prog.cellsOf 55 = 1 := by kernel_rfl
 have c2 : Tryz.prog.cellsOf 56 = 1 := by kernel_rfl
 have g0 : DataW.trod enc Tryz.prog W base spare held m 3 ((cs.drop 0).take (Tryz.prog.cellsOf 3)) = xs[0]? := hfs 0 _ rfl
 have g1 : DataW.trod enc Tryz.prog W base spare held m 55 ((cs.drop 1).take (Tryz.prog.cellsOf 55)) = xs[1]? := hfs 1 _ rfl
 have g2 : DataW.trod enc Tryz.prog W base spare held m 56 ((cs.drop 2).take (Tryz.prog.cellsOf 56)) = xs[2]? := hfs 2 _ rfl
 rw [cellsI, take1 cs 0 (by omega), List.getElem?_eq_getElem (by omega)] at g0
 rw [c1, take1 cs 1 (by omega), List.getElem?_eq_getElem (by omega)] at g1
 rw [c2, take1 cs 2 (by omega), List.getElem?_eq_getElem (by omega)] at g2
 have w1 : Light 55 (xs[1]'(by omega)).1 := fun q hq => hw q (by
  simp only [DataW.weights, Tryz.underlying58]
  exact DataW.weights_mem_each (j := 1) (t := 55) (d := (xs[1]'(by omega)).1) rfl (by rw [List.getElem?_map, List.getElem?_eq_getElem (by omega)]; rfl) q hq)
 have w2 : Light 56 (xs[2]'(by omega)).1 := fun q hq => hw q (by
  simp only [DataW.weights, Tryz.underlying58]
  exact DataW.weights_mem_each (j := 2) (t := 56) (d := (xs[2]'(by omega)).1) rfl (by rw [List.getElem?_map, List.getElem?_eq_getElem (by omega)]; rfl) q hq)
 obtain ⟨lk, h0, _, _⟩ := DataW.trod_int Tryz.underlying3 g0
 obtain ⟨ia, n, ic, X, S, Z, h1, hX, hn, hS⟩ := ins5_in hsp g1 w1
 obtain ⟨oa, m', oc, O, h2, hO, hm, hk⟩ := outs5_in hsp g2 w2
 refine ⟨⟨lk, ia, n, ic, oa, m', oc, X, Z, O⟩, S, ?_, hX, hO, fun k h => (hS k h).1, ⟨hn, hm⟩, fun i h => (hS i h).2, hk⟩
 simp at h0 h1 h2
 have e0 : cs = [cs[0], cs[1], cs[2]] := by
  apply List.ext_getElem
  ·simp [hcl']
  ·intro i h1 h2
   match i, h2 with
   | 0, _ => rfl
   | 1, _ => rfl
   | 2, _ => rfl
 rw [e0, h0, h1, h2]
 rfl
end Go.Proofs.YtjnepkggdkccaaaGreatDoor
/- The document's done of layer 14. -/
namespace Go.Proofs.YtjnepkggdkccaaaGreatDoor
open Go.RowKit

theorem run_allocTxR (w : World) : (Instr.alloc 58 true (.tuple #[])).run Tryz.prog w = .ok (.pointer (some ⟨w.heap.size, 0, none⟩)) (w.alloc (.cells #[.int .i64 0, .slice none 0 0, .slice none 0 0] 58)) := by kernel_rfl
theorem results_T2R {fn : Func} {p u : Tmp} (h : fn.results = #[.cell p 58, .tmp u]) (tmps : Array Value) (w : World) (g : Nat) (t : TypeId) (c0 c1 c2 : Value) (fr : Nat × Nat)
  (hp : tmps.getD p undef = .pointer (some ⟨g, 0, none⟩)) (hg : w.heap[g]? = some (.cells #[c0, c1, c2] t fr)) :
  (results fn tmps).run Tryz.prog w = .ok (.tuple #[.agg #[c0, c1, c2], tmps.getD u undef]) w := by
 have hp' : tmps[p]?.getD undef = .pointer (some ⟨g, 0, none⟩) := by simpa using hp
 simp [results, h, hp', asAddr, run_loadVar_row w g t 58 #[c0, c1, c2] fr _ hg Tryz.underlying58 rfl szTxR]
/-- What done answers: the transaction, or the error alone. -/
def DoneR (lk : Int) (ia : Option Addr) (n ic : Nat) (oa : Option Addr) (m oc : Nat) (E : Int) : Value := if E = 0 then .tuple #[.agg (txv lk ia n ic oa m oc), .int .i64 0] else .tuple #[.agg #[.int .i64 0, .slice none 0 0, .slice none 0 0], .int .i64 E]
end Go.Proofs.YtjnepkggdkccaaaGreatDoor
/- The document's Check of branches of any number of keys. -/
namespace Go.Proofs.YtjnepkggdkccaaaGreatDoor.Cd
open Go.RowKit

set_option maxRecDepth 100000 in
set_option maxHeartbeats 3200000 in
theorem rcheck_anyX (ad : Option Addr) (n cap : Nat) (X : Nat → Bv) (w : World) (h : BrAt w ad n X) (hn : n ≤ 1000000) (hx : ∀ i, i < n → (X i).n ≤ 17592186043904) :
  Calls Tryz.prog 86 #[.agg #[.slice ad n cap]] w fun e w' => e = .returned (.int .i64 (chkE X n)) ∧ Below w.heap.size w w' := by
 have HB : Hid (BrAt w ad n X) := h
 have hb0 : Below w.heap.size w (w.alloc (.cells #[.slice ad n cap] 122)) := (Below.refl _ w).alloc (Nat.le_refl _) _
 have hc0 : (w.alloc (.cells #[.slice ad n cap] 122)).cell? ⟨w.heap.size, 0, none⟩ = some (.slice ad n cap) := by simp
 clear h
 by_cases h1 : n < 1
 ·have h1' : (n : Int) < 1 := by omega
  have HE : Hid (chkE X n = 1) := if_neg (fun h => by have := h.1; omega)
  go_enter Tryz.func86, Tryz.ntmps86
  go_wp2
  go_ret
  exact ⟨by rw [HE.out]; rfl, hb0⟩
 have h1' : ¬ (n : Int) < 1 := by omega
 by_cases h2 : 8 < n
 ·have h2' : (8 : Int) < n := by omega
  have HE : Hid (chkE X n = 1) := if_neg (fun h => by have := h.1; omega)
  go_enter Tryz.func86, Tryz.ntmps86
  go_wp2
  go_ret
  exact ⟨by rw [HE.out]; rfl, hb0⟩
 have h2' : ¬ (8 : Int) < n := by omega
 go_enter Tryz.func86, Tryz.ntmps86
 go_wp2
 generalize w.alloc (.cells #[.slice ad n cap] 122) = W0 at *
 go_loopw [3, 4, 5, 6] (fun iv _ _ _ wr => ∃ i : Nat, i ≤ n ∧ iv = .int .i64 i ∧ AllOk X i ∧ Below w.heap.size w wr ∧ wr.cell? ⟨w.heap.size, 0, none⟩ = some (.slice ad n cap)) (fun iv _ _ _ _ => n + 1 - (intOf iv).toNat)
 case atStart => exact ⟨0, by omega, rfl, fun j hj => by omega, hb0, hc0⟩
 case round =>
  clear hb0 hc0
  obtain ⟨i, hi, rfl, hk, hb, hc0⟩ := hrel
  have HK : Hid (AllOk X i) := hk
  clear hk
  by_cases hlt : i < n
  ·have hlt' : (i : Int) < n := by omega
   obtain ⟨b, off, rfl, hc⟩ := HB.out.at_ (by omega)
   obtain ⟨ka, kc, hr0, hI0⟩ := hc i hlt
   have HR : Hid (wr.rangeAt b (off + i * 35) (brl (X i) ka kc)) := range_below hr0 hb
   have HI : Hid (IsAt w ka (X i).n (X i).z) := hI0
   have hxi := hx i hlt
   have hsz := World.block_lt_of_cell? wr ⟨w.heap.size, 0, none⟩ hc0
   clear hc hr0 hI0
   have HB1 : Hid (∀ w' : World, w'.heap[wr.heap.size]? = some (.cells (bv (X i) ka kc) 126 (0, 0)) → Frm [wr.heap.size] (wr.alloc (.cells (bv b0 none 0) 126)) w' → Below w.heap.size w w' ∧ w'.cell? ⟨w.heap.size, 0, none⟩ = some (.slice (some ⟨b, off, none⟩) n cap) ∧ BBox w' wr.heap.size (X i) ka kc ∧ w.heap.size < w'.heap.size) := by
    intro w' h1 h2
    have h3 : Below wr.heap.size (wr.alloc (.cells (bv b0 none 0) 126)) w' := h2.below (by simp) (by simp)
    have h4 : Below wr.heap.size wr w' := ((Below.refl _ wr).alloc (Nat.le_refl _) _).trans h3
    refine ⟨hb.trans (h4.mono hb.size), ?_, bbox_of h1, Nat.lt_of_lt_of_le hsz h4.size⟩
    rw [h4.cell (p := ⟨w.heap.size, 0, none⟩) hsz]; exact hc0
   by_cases g0 : ((X i).n : Int) < 1
   ·have HE : Hid (chkE X n = 1) := if_neg (fun hh => by have h := hh.2 i hlt; have := h.1.2; omega)
    go_wp2_with (first | (refine wpList_load_mid rfl 126 _ rfl b (off + i * 35) rfl (brl (X i) ka kc) _ HR.out Tryz.underlying126 rfl (szRl _ _ _) ?_) | (refine wpList_allocR rfl rfl ?_) | (refine wpList_storeR _ szR rfl _ _ rfl wr.heap.size rfl (X i) b0 ka none kc 0 126 rfl (heap_alloc_new wr _) ?_; intro w1 hg1 hf1; obtain ⟨hb1, c10, ⟨c0, c33, c34⟩, hs1⟩ := HB1.out w1 hg1 hf1; clear hg1 hf1) | fail)
    go_ret
    exact ⟨by rw [HE.out]; rfl, hb1⟩
   by_cases g1 : (X i).af < 0
   ·have HE : Hid (chkE X n = 1) := if_neg (fun hh => by have h := hh.2 i hlt; have := h.2.1; omega)
    go_wp2_with (first | (refine wpList_load_mid rfl 126 _ rfl b (off + i * 35) rfl (brl (X i) ka kc) _ HR.out Tryz.underlying126 rfl (szRl _ _ _) ?_) | (refine wpList_allocR rfl rfl ?_) | (refine wpList_storeR _ szR rfl _ _ rfl wr.heap.size rfl (X i) b0 ka none kc 0 126 rfl (heap_alloc_new wr _) ?_; intro w1 hg1 hf1; obtain ⟨hb1, c10, ⟨c0, c33, c34⟩, hs1⟩ := HB1.out w1 hg1 hf1; clear hg1 hf1) | fail)
    go_ret
    exact ⟨by rw [HE.out]; rfl, hb1⟩
   by_cases g2 : 1099511627776 < (X i).af
   ·have HE : Hid (chkE X n = 1) := if_neg (fun hh => by have h := hh.2 i hlt; have := h.2.1; omega)
    go_wp2_with (first | (refine wpList_load_mid rfl 126 _ rfl b (off + i * 35) rfl (brl (X i) ka kc) _ HR.out Tryz.underlying126 rfl (szRl _ _ _) ?_) | (refine wpList_allocR rfl rfl ?_) | (refine wpList_storeR _ szR rfl _ _ rfl wr.heap.size rfl (X i) b0 ka none kc 0 126 rfl (heap_alloc_new wr _) ?_; intro w1 hg1 hf1; obtain ⟨hb1, c10, ⟨c0, c33, c34⟩, hs1⟩ := HB1.out w1 hg1 hf1; clear hg1 hf1) | fail)
    go_ret
    exact ⟨by rw [HE.out]; rfl, hb1⟩
   by_cases g3 : (X i).ol < 0
   ·have HE : Hid (chkE X n = 1) := if_neg (fun hh => by have h := hh.2 i hlt; have := h.2.2; omega)
    go_wp2_with (first | (refine wpList_load_mid rfl 126 _ rfl b (off + i * 35) rfl (brl (X i) ka kc) _ HR.out Tryz.underlying126 rfl (szRl _ _ _) ?_) | (refine wpList_allocR rfl rfl ?_) | (refine wpList_storeR _ szR rfl _ _ rfl wr.heap.size rfl (X i) b0 ka none kc 0 126 rfl (heap_alloc_new wr _) ?_; intro w1 hg1 hf1; obtain ⟨hb1, c10, ⟨c0, c33, c34⟩, hs1⟩ := HB1.out w1 hg1 hf1; clear hg1 hf1) | fail)
    go_ret
    exact ⟨by rw [HE.out]; rfl, hb1⟩
   by_cases g4 : 65536 < (X i).ol
   ·have HE : Hid (chkE X n = 1) := if_neg (fun hh => by have h := hh.2 i hlt; have := h.2.2; omega)
    go_wp2_with (first | (refine wpList_load_mid rfl 126 _ rfl b (off + i * 35) rfl (brl (X i) ka kc) _ HR.out Tryz.underlying126 rfl (szRl _ _ _) ?_) | (refine wpList_allocR rfl rfl ?_) | (refine wpList_storeR _ szR rfl _ _ rfl wr.heap.size rfl (X i) b0 ka none kc 0 126 rfl (heap_alloc_new wr _) ?_; intro w1 hg1 hf1; obtain ⟨hb1, c10, ⟨c0, c33, c34⟩, hs1⟩ := HB1.out w1 hg1 hf1; clear hg1 hf1) | fail)
    go_ret
    exact ⟨by rw [HE.out]; rfl, hb1⟩
   go_wp2_with (first | (refine wpList_load_mid rfl 126 _ rfl b (off + i * 35) rfl (brl (X i) ka kc) _ HR.out Tryz.underlying126 rfl (szRl _ _ _) ?_) | (refine wpList_allocR rfl rfl ?_) | (refine wpList_storeR _ szR rfl _ _ rfl wr.heap.size rfl (X i) b0 ka none kc 0 126 rfl (heap_alloc_new wr _) ?_; intro w1 hg1 hf1; obtain ⟨hb1, c10, ⟨c0, c33, c34⟩, hs1⟩ := HB1.out w1 hg1 hf1; clear hg1 hf1) | fail)
   have HW : Hid (Below w.heap.size w w1 ∧ w1.cell? ⟨w.heap.size, 0, none⟩ = some (.slice (some ⟨b, off, none⟩) n cap) ∧ w.heap.size < w1.heap.size) := ⟨hb1, c10, hs1⟩
   have hI1 : IsAt w1 ka (X i).n (X i).z := HI.out.below hb1
   have HI1 : Hid (IsAt w1 ka (X i).n (X i).z) := hI1
   have HC0 : Hid (w1.cell? ⟨wr.heap.size, 0, none⟩ = some (.slice ka (X i).n kc)) := c0
   have hl0 : wr.heap.size < w1.heap.size := World.block_lt_of_cell? w1 ⟨wr.heap.size, 0, none⟩ c0
   have HO : Hid (BOk (X i) ↔ KOk (X i).z (X i).n) := ⟨fun h => h.1.1, fun h => ⟨⟨h, by omega⟩, ⟨g1, by omega⟩, ⟨g3, by omega⟩⟩⟩
   clear HB1 hb1 c10 c0 c33 c34 hs1 HR hI1 HI hc0 g1 g2 g3 g4
   have hb2 := Below.refl w1.heap.size w1
   go_loopw [5, 6] (fun lv kv wq => ∃ k : Nat, k ≤ (X i).n ∧ lv = .int .i64 (lastK (X i).z k) ∧ kv = .int .i64 k ∧ KOk (X i).z k ∧ Below w1.heap.size w1 wq) (fun _ kv _ => (X i).n + 1 - (intOf kv).toNat)
   case atStart => exact ⟨0, by omega, rfl, rfl, fun j hj => by omega, hb2⟩
   case round =>
    clear hb2
    rename World => wq
    obtain ⟨k, hk, rfl, rfl, hK, hbq⟩ := hrel
    have HKK : Hid (KOk (X i).z k) := hK
    clear hK
    have cq : wq.cell? ⟨wr.heap.size, 0, none⟩ = some (.slice ka (X i).n kc) := by rw [hbq.cell (p := ⟨wr.heap.size, 0, none⟩) hl0]; exact HC0.out
    by_cases hkl : k < (X i).n
    ·have hkl' : (k : Int) < (X i).n := by omega
     obtain ⟨b2, off2, rfl, hc2⟩ := HI1.out (by omega)
     have hck : wq.cell? ⟨b2, off2 + k, none⟩ = some (.int .i64 ((X i).z k)) := by
      have := hc2 k hkl
      rw [hbq.cell (p := ⟨b2, off2 + k, none⟩) (World.block_lt_of_cell? w1 ⟨b2, off2 + k, none⟩ this)]; exact this
     clear hc2
     by_cases p1 : lastK (X i).z k < (X i).z k
     ·have p1' : ¬ (X i).z k ≤ lastK (X i).z k := by omega
      by_cases p2 : (X i).z k < 16
      ·have p2' : ¬ 15 < (X i).z k := by omega
       have HN : Hid (KOk (X i).z (k + 1)) := fun j hj => by
        by_cases e : j = k
        ·subst e; exact ⟨p1, p2⟩
        ·exact HKK.out j (by omega)
       have e1 := lastK_succ (X i).z k
       generalize lastK (X i).z k = q at *
       go_wp2
       go_roundw
       case rel => exact ⟨k + 1, by omega, by rw [e1], by go_num, HN.out, hbq⟩
       case measure => simp [intOf]; omega
      ·have p2' : 15 < (X i).z k := by omega
       have HE : Hid (chkE X n = 1) := if_neg (fun hh => by have h := (HO.out.1 (hh.2 i hlt)) k hkl; omega)
       generalize lastK (X i).z k = q at *
       go_wp2
       go_ret
       exact ⟨by rw [HE.out]; rfl, HW.out.1.trans (hbq.mono HW.out.1.size)⟩
     ·have p1' : (X i).z k ≤ lastK (X i).z k := by omega
      have HE : Hid (chkE X n = 1) := if_neg (fun hh => by have h := (HO.out.1 (hh.2 i hlt)) k hkl; omega)
      generalize lastK (X i).z k = q at *
      go_wp2
      go_ret
      exact ⟨by rw [HE.out]; rfl, HW.out.1.trans (hbq.mono HW.out.1.size)⟩
    ·obtain rfl : k = (X i).n := by omega
     have hnn : ¬ (((X i).n : Int) < (X i).n) := by omega
     have HN : Hid (AllOk X (i + 1)) := fun j hj => by
      by_cases e : j = i
      ·subst e; exact HO.out.2 HKK.out
      ·exact HK.out j (by omega)
     go_wp2
     go_roundw
     case rel => exact ⟨i + 1, by omega, by go_num, HN.out, HW.out.1.trans (hbq.mono HW.out.1.size), by rw [hbq.cell (p := ⟨w.heap.size, 0, none⟩) HW.out.2.2]; exact HW.out.2.1⟩
     case measure => simp [intOf]; omega
  ·obtain rfl : i = n := by omega
   have hnn : ¬ ((i : Int) < i) := by omega
   have HE : Hid (chkE X i = 0) := if_pos ⟨by omega, HK.out⟩
   go_wp2
   go_ret
   exact ⟨by rw [HE.out]; rfl, hb⟩
end Go.Proofs.YtjnepkggdkccaaaGreatDoor.Cd
