/- The tables' cells from the rows' hypothesis; what is shown, as it came in. -/
import Derived.Test.YtecahnafcljljaaDoorCGiven
import Derived.Test.YtecahnafcljljaaDoorCMoreK
import Derived.Lib.LaidU8
namespace Go.Proofs.YtecahnafcljljaaDoor
open Go.ChangeShapes Go.WideShapes Go.RowKit Go.ChangeAt

theorem array_len {H : Type} {enc : TypeId × Value → H} {P : Program} {w : World} {base : Nat} {sp : Nat → Bool} {held : Bool} {fuel : Nat} {t e : TypeId} {n : Nat} {cs : List Value} {x : DataW H × List MemPlace} (ht : P.underlying t = some (.array n e))
    (h : DataW.trod enc P w base sp held fuel t cs = some x) : cs.length = P.cellsOf t := by
  obtain ⟨ys, m3, _, _, hcl, _, _⟩ := DataW.trod_array ht h
  exact hcl
theorem var_heap {P : Program} {w : World} {n : String} {g : Nat} {cs : Array Value} (hg : P.globalNamed n = some g) (h : w.var? P n = some cs) : ∃ t fr, w.heap[g]? = some (.cells cs t fr) := by
  unfold World.var? at h
  rw [hg] at h
  simp only [Option.bind_some] at h
  split at h
  · rename_i c t fr he
    cases h
    exact ⟨t, fr, he⟩
  · cases h
theorem rowD (i : Nat) (hi : i < 10) : ∃ ds, Rows.laid_bayou_blake_rows (H := Unit) = .agg ds ∧ ds[i]? = some (Lib.tabData .u8 ((rowL i).map Int.ofNat)) := by
  refine ⟨_, rfl, ?_⟩
  have h : i = 0 ∨ i = 1 ∨ i = 2 ∨ i = 3 ∨ i = 4 ∨ i = 5 ∨ i = 6 ∨ i = 7 ∨ i = 8 ∨ i = 9 := by omega
  rcases h with rfl | rfl | rfl | rfl | rfl | rfl | rfl | rfl | rfl | rfl <;> rfl
theorem tab_of_reads {W : World} (h1 : Lib.VarReads Tryd.prog W "bayou/blake.first" Rows.laid_bayou_blake_first) (h2 : Lib.VarReads Tryd.prog W "bayou/blake.rows" Rows.laid_bayou_blake_rows) : Tab W := by
  constructor
  · obtain ⟨g, t, cs, fuel, p, hg, ht, hv, hd⟩ := h1
    obtain rfl : 1 = g := Option.some.inj ((show Tryd.prog.globalNamed "bayou/blake.first" = some 1 by kernel_rfl).symm.trans hg)
    obtain rfl : 131 = t := Option.some.inj ((show (Tryd.prog.globals[1]?).map (·.type) = some 131 by kernel_rfl).symm.trans ht)
    have hc := Lib.cells_of_tab (zs := firstL.map Int.ofNat) Tryd.underlying131 Tryd.underlying91 (by kernel_rfl) (by kernel_rfl) hd
    obtain ⟨t', fr, he⟩ := var_heap hg hv
    refine ⟨t', fr, ?_⟩
    rw [he]
    have : cs = wv firstL := by rw [← Array.toList_inj, hc]; rfl
    rw [this]
  · obtain ⟨g, t, cs, fuel, p, hg, ht, hv, hd⟩ := h2
    obtain rfl : 2 = g := Option.some.inj ((show Tryd.prog.globalNamed "bayou/blake.rows" = some 2 by kernel_rfl).symm.trans hg)
    obtain rfl : 149 = t := Option.some.inj ((show (Tryd.prog.globals[2]?).map (·.type) = some 149 by kernel_rfl).symm.trans ht)
    obtain ⟨t', fr, he⟩ := var_heap hg hv
    refine ⟨t', fr, ?_⟩
    rw [he]
    have hl : cs.toList.length = 160 := (array_len Tryd.underlying149 hd).trans (by kernel_rfl)
    have : cs = sv rowsF := by
      rw [← Array.toList_inj]
      apply List.ext_getElem?
      intro j
      by_cases hj : j < 160
      · obtain ⟨i, k, hi, hk, rfl⟩ : ∃ i k, i < 10 ∧ k < 16 ∧ j = i * 16 + k := ⟨j / 16, j % 16, by omega, by omega, by omega⟩
        obtain ⟨ds, hds, hrow⟩ := rowD i hi
        rw [hds] at hd
        obtain ⟨fuel', d, q, hd1, hd2⟩ := Lib.array_elem Tryd.underlying149 hd i hi
        rw [hrow] at hd1
        cases hd1
        rw [show Tryd.prog.cellsOf 148 = 16 by kernel_rfl] at hd2
        have hc := Lib.cells_of_tab (zs := (rowL i).map Int.ofNat) Tryd.underlying148 Tryd.underlying5 (by kernel_rfl) (by kernel_rfl) hd2
        have h3 := congrArg (·[k]?) hc
        simp only [List.getElem?_take, hk, if_true, List.getElem?_drop, List.getElem?_map] at h3
        rw [h3]
        have h4 := rowsF_at hi hk
        simp only [sv, sl8, List.getElem?_map, h4, Option.map_some]
        rw [List.getElem?_eq_getElem (show k < (rowL i).length by rw [rowL_len hi]; exact hk)]
        simp [List.getD_eq_getElem?_getD, List.getElem?_eq_getElem (show k < (rowL i).length by rw [rowL_len hi]; exact hk)]
      · rw [List.getElem?_eq_none (by omega), List.getElem?_eq_none (by
          have : (sv rowsF).toList.length = 160 := by kernel_rfl
          omega)]
    rw [this]
theorem Tab.size {w : World} (h : Tab w) : 3 ≤ w.heap.size := by
  obtain ⟨⟨_, _, h1⟩, ⟨_, _, h2⟩⟩ := h
  have := lt_of_block h1
  have := lt_of_block h2
  omega
theorem tab_of_laid {W : World} (h : laidMetH Tryd.prog vars W) : Tab W := by
  have h' : laidMet Tryd.prog [("bayou/blake.first", Rows.laid_bayou_blake_first), ("bayou/blake.rows", Rows.laid_bayou_blake_rows)] W ∧ handlesMet Tryd.prog [("errors.errorType", Rows.laid_errors_errorType)] W := h
  exact tab_of_reads (Lib.laidMet.reads h'.1 (.head _)) (Lib.laidMet.reads h'.1 (.tail _ (.head _)))
theorem bytesU : Tryd.prog.bytesOf 5 = 1 := by kernel_rfl
/-- Bytes that came in. -/
theorem bytes_at {H : Type} {enc : TypeId × Value → H} {W : World} {base fuel : Nat} {cs : List Value} {x : DataW H × List MemPlace} {spare : Nat → Bool} {held : Bool} (hsp : ∀ b, spare b = true)
    (hf : DataW.trod enc Tryd.prog W base spare held fuel 26 cs = some x) (hw : Light 26 x.1) :
    ∃ (a : Option Addr) (cap : Nat) (b : List Nat), cs = [.slice a b.length cap] ∧ b.length ≤ cap ∧ b.length ≤ 140737488351232 ∧ SlB W a b ∧ (∀ i, b.getD i 0 < 256) := by
  rcases open_ints Tryd.underlying26 Tryd.underlying5 (by kernel_rfl) hf with ⟨hcs, hx⟩ | ⟨ad, len, cap, zs, hcs, _, hl, hm, hz, hx, hcell, hwz⟩
  · exact ⟨none, 0, [], hcs, by simp, by simp, SlB.nil _ _, by simp⟩
  · rw [hsp, if_pos rfl] at hz
    have hlen : ((zs.take len).map Int.toNat).length = len := by simp; omega
    have hget : ∀ j, j < len → ∃ z : Int, zs[j]? = some z ∧ 0 ≤ z ∧ z ≤ 255 := fun j hj => by
      have hjz : j < zs.length := by omega
      exact ⟨zs[j], List.getElem?_eq_getElem hjz, bounds_u8 (hwz zs[j] (List.getElem_mem hjz))⟩
    refine ⟨some ad, cap, (zs.take len).map Int.toNat, by rw [hlen]; exact hcs, by rw [hlen]; exact hl, ?_, fun hn => ?_, fun i => ?_⟩
    · have h1 := hw _ (by rw [hx]; simp only [DataW.weights, Tryd.underlying26]; exact List.mem_cons_self)
      rw [bytesU] at h1
      simp [lits] at h1
      rw [hlen]
      omega
    · rw [hlen] at hn
      obtain ⟨b, off, spot⟩ := ad
      have hc := hcell 0 (by omega)
      have hspot : spot = none := by simpa [Addr.add] using World.cell?_spot hc
      subst hspot
      refine ⟨b, off, rfl, fun j u hu => ?_⟩
      have hj : j < len := by
        have := (List.getElem?_eq_some_iff.1 hu).1
        rw [sl8_len, hlen] at this; exact this
      obtain ⟨z, hz1, hz2, hz3⟩ := hget j hj
      have := hcell j (by omega)
      rw [Addr.add_lit] at this
      rw [this, ← hu]
      simp only [sl8, List.getElem?_map, List.getElem?_take, hj, if_true, hz1, Option.map_some, List.getD_eq_getElem?_getD, Option.getD_some]
      rw [Int.toNat_of_nonneg hz2]
    · rw [List.getD_eq_getElem?_getD, List.getElem?_map, List.getElem?_take]
      by_cases hi : i < len
      · obtain ⟨z, hz1, hz2, hz3⟩ := hget i hi
        simp only [hi, if_true, hz1, Option.map_some, Option.getD_some]; omega
      · simp [hi]
/-- What is shown: who signed, the secret, the height, the age. -/
structure SeenIn (W : World) (sa : Option Addr) (sn : Nat) (sz : Nat → Int) (ta : Option Addr) (tc : Nat) (T : List Nat) (ht ag : Int) : Prop where
  si : IsAt W sa sn sz
  sl : sn ≤ 140737488355328
  sb : ∀ j, j < sn → Ib (sz j)
  se : SlB W ta T
  ty : ∀ i, T.getD i 0 < 256
  tc : T.length ≤ tc
  tl : T.length ≤ 140737488351232
  ht : Ib ht
  ag : Ib ag
theorem seen_in {H : Type} {enc : TypeId × Value → H} {W : World} {base fuel : Nat} {cs : List Value} {x : DataW H × List MemPlace} {spare : Nat → Bool} {held : Bool} (hsp : ∀ b, spare b = true)
    (hf : DataW.trod enc Tryd.prog W base spare held fuel 28 cs = some x) (hw : Light 28 x.1) :
    ∃ (sa : Option Addr) (sn sc : Nat) (sz : Nat → Int) (ta : Option Addr) (tc : Nat) (T : List Nat) (ht ag : Int), cs = [.slice sa sn sc, .slice ta T.length tc, .int .i64 ht, .int .i64 ag] ∧ SeenIn W sa sn sz ta tc T ht ag := by
  obtain ⟨xs, m, rfl, rfl, hcl, hxl, hfs⟩ := DataW.trod_struct Tryd.underlying28 hf
  have hcl' : cs.length = 4 := by rw [hcl]; kernel_rfl
  have hxl' : xs.length = 4 := hxl
  have cU : Tryd.prog.cellsOf 26 = 1 := by kernel_rfl
  have g0 : DataW.trod enc Tryd.prog W base spare held m 25 ((cs.drop 0).take (Tryd.prog.cellsOf 25)) = xs[0]? := hfs 0 _ rfl
  have g1 : DataW.trod enc Tryd.prog W base spare held m 26 ((cs.drop 1).take (Tryd.prog.cellsOf 26)) = xs[1]? := hfs 1 _ rfl
  have g2 : DataW.trod enc Tryd.prog W base spare held m 3 ((cs.drop 2).take (Tryd.prog.cellsOf 3)) = xs[2]? := hfs 2 _ rfl
  have g3 : DataW.trod enc Tryd.prog W base spare held m 3 ((cs.drop 3).take (Tryd.prog.cellsOf 3)) = xs[3]? := hfs 3 _ rfl
  rw [cellsS, take1 cs 0 (by omega), List.getElem?_eq_getElem (by omega)] at g0
  rw [cU, take1 cs 1 (by omega), List.getElem?_eq_getElem (by omega)] at g1
  rw [cellsI, take1 cs 2 (by omega), List.getElem?_eq_getElem (by omega)] at g2
  rw [cellsI, take1 cs 3 (by omega), List.getElem?_eq_getElem (by omega)] at g3
  have w0 : Light 25 (xs[0]'(by omega)).1 := fun q hq => hw q (by
    simp only [DataW.weights, Tryd.underlying28]
    exact DataW.weights_mem_each (j := 0) (t := 25) (d := (xs[0]'(by omega)).1) rfl (by rw [List.getElem?_map, List.getElem?_eq_getElem (by omega)]; rfl) q hq)
  have w1 : Light 26 (xs[1]'(by omega)).1 := fun q hq => hw q (by
    simp only [DataW.weights, Tryd.underlying28]
    exact DataW.weights_mem_each (j := 1) (t := 26) (d := (xs[1]'(by omega)).1) rfl (by rw [List.getElem?_map, List.getElem?_eq_getElem (by omega)]; rfl) q hq)
  obtain ⟨sa, sn, sc, sz, h0, hn, hI, hz⟩ := ints_in hsp g0 w0
  obtain ⟨ta, tc, T, h1, hTc, hTl, hS, hTy⟩ := bytes_at hsp g1 w1
  obtain ⟨ht, h2, _, w2⟩ := DataW.trod_int Tryd.underlying3 g2
  obtain ⟨ag, h3, _, w3⟩ := DataW.trod_int Tryd.underlying3 g3
  refine ⟨sa, sn, sc, sz, ta, tc, T, ht, ag, ?_, hI, hn, hz, hS, hTy, hTc, hTl, bounds_i64 w2, bounds_i64 w3⟩
  simp at h0 h1 h2 h3
  apply List.ext_getElem (by simpa using hcl')
  intro i hi _
  rw [hcl'] at hi
  match i, hi with
  | 0, _ => exact h0
  | 1, _ => exact h1
  | 2, _ => exact h2
  | 3, _ => exact h3
end Go.Proofs.YtecahnafcljljaaDoor
