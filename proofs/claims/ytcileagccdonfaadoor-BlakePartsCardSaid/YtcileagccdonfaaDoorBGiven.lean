/- From the rows' hypothesis on the package's tables to their cells; sums and bytes that came in. -/
import Derived.Test.YtcileagccdonfaaDoorRows
import Derived.Test.YtcileagccdonfaaDoorBKeyed
import Derived.ChangeSame
import Derived.ChangeVars
import Derived.JoinedOf
import Derived.RowKit
import Derived.RowKitTokens
import Derived.LaidLaws
import Derived.LaidHandle
import Derived.Stop.Joined
import Derived.ProofKit
import Derived.OpenShut
import Derived.ChangeOld
import Derived.SizedLaws
import Derived.Deep.Slices
import Derived.Lib.LaidU8
namespace Go.Proofs.YtcileagccdonfaaDoor
open Go.ChangeShapes Go.WideShapes Go.RowKit Go.ChangeAt

theorem own : ownKnob Tryd.prog.godebug = none := by kernel_rfl
theorem laidOut : laidOutB Tryd.prog = true := by kernel_rfl
def vars2 {H : Type} : List (String × DataW H) := [("bayou/blake.first", Rows.laid_bayou_blake_first), ("bayou/blake.rows", Rows.laid_bayou_blake_rows)]
theorem array_len {H : Type} {enc : TypeId × Value → H} {P : Program} {w : World} {base : Nat} {sp : Nat → Bool} {held : Bool} {fuel : Nat} {t e : TypeId} {n : Nat} {cs : List Value} {x : DataW H × List MemPlace} (ht : P.underlying t = some (.array n e))
    (h : DataW.trod enc P w base sp held fuel t cs = some x) : cs.length = P.cellsOf t := by
  obtain ⟨ys, m3, _, _, hcl, _, _⟩ := DataW.trod_array ht h
  exact hcl
theorem var_heap {P : Program} {w : World} {n : String} {g : Nat} {cs : Array Value} (hg : P.globalNamed n = some g) (h : w.var? P n = some cs) : ∃ t fr, w.heap[g]? = some (.cells cs t fr) := by
  unfold World.var? at h
  rw [hg] at h
  simp only [Option.bind_some] at h
  split at h
  · rename_i c t fr he
    cases h
    exact ⟨t, fr, he⟩
  · cases h
theorem rowD (i : Nat) (hi : i < 10) : ∃ ds, Rows.laid_bayou_blake_rows (H := Unit) = .agg ds ∧ ds[i]? = some (Lib.tabData .u8 ((rowL i).map Int.ofNat)) := by
  refine ⟨_, rfl, ?_⟩
  have h : i = 0 ∨ i = 1 ∨ i = 2 ∨ i = 3 ∨ i = 4 ∨ i = 5 ∨ i = 6 ∨ i = 7 ∨ i = 8 ∨ i = 9 := by omega
  rcases h with rfl | rfl | rfl | rfl | rfl | rfl | rfl | rfl | rfl | rfl <;> rfl
theorem tab_of_reads {W : World} (h1 : Lib.VarReads Tryd.prog W "bayou/blake.first" Rows.laid_bayou_blake_first) (h2 : Lib.VarReads Tryd.prog W "bayou/blake.rows" Rows.laid_bayou_blake_rows) : Tab W := by
  constructor
  · obtain ⟨g, t, cs, fuel, p, hg, ht, hv, hd⟩ := h1
    obtain rfl : 0 = g := Option.some.inj ((show Tryd.prog.globalNamed "bayou/blake.first" = some 0 by kernel_rfl).symm.trans hg)
    obtain rfl : 55 = t := Option.some.inj ((show (Tryd.prog.globals[0]?).map (·.type) = some 55 by kernel_rfl).symm.trans ht)
    have hc := Lib.cells_of_tab (zs := firstL.map Int.ofNat) Tryd.underlying55 Tryd.underlying49 (by kernel_rfl) (by kernel_rfl) hd
    obtain ⟨t', fr, he⟩ := var_heap hg hv
    refine ⟨t', fr, ?_⟩
    rw [he]
    have : cs = wv firstL := by rw [← Array.toList_inj, hc]; rfl
    rw [this]
  · obtain ⟨g, t, cs, fuel, p, hg, ht, hv, hd⟩ := h2
    obtain rfl : 2 = g := Option.some.inj ((show Tryd.prog.globalNamed "bayou/blake.rows" = some 2 by kernel_rfl).symm.trans hg)
    obtain rfl : 82 = t := Option.some.inj ((show (Tryd.prog.globals[2]?).map (·.type) = some 82 by kernel_rfl).symm.trans ht)
    obtain ⟨t', fr, he⟩ := var_heap hg hv
    refine ⟨t', fr, ?_⟩
    rw [he]
    have hl : cs.toList.length = 160 := (array_len Tryd.underlying82 hd).trans (by kernel_rfl)
    have : cs = sv rowsF := by
      rw [← Array.toList_inj]
      apply List.ext_getElem?
      intro j
      by_cases hj : j < 160
      · obtain ⟨i, k, hi, hk, rfl⟩ : ∃ i k, i < 10 ∧ k < 16 ∧ j = i * 16 + k := ⟨j / 16, j % 16, by omega, by omega, by omega⟩
        obtain ⟨ds, hds, hrow⟩ := rowD i hi
        rw [hds] at hd
        obtain ⟨fuel', d, q, hd1, hd2⟩ := Lib.array_elem Tryd.underlying82 hd i hi
        rw [hrow] at hd1
        cases hd1
        rw [show Tryd.prog.cellsOf 81 = 16 by kernel_rfl] at hd2
        have hc := Lib.cells_of_tab (zs := (rowL i).map Int.ofNat) Tryd.underlying81 Tryd.underlying5 (by kernel_rfl) (by kernel_rfl) hd2
        have h3 := congrArg (·[k]?) hc
        simp only [List.getElem?_take, hk, if_true, List.getElem?_drop, List.getElem?_map] at h3
        rw [h3]
        have h4 := rowsF_at hi hk
        simp only [sv, sl8, List.getElem?_map, h4, Option.map_some]
        rw [List.getElem?_eq_getElem (show k < (rowL i).length by rw [rowL_len hi]; exact hk)]
        simp [List.getD_eq_getElem?_getD, List.getElem?_eq_getElem (show k < (rowL i).length by rw [rowL_len hi]; exact hk)]
      · rw [List.getElem?_eq_none (by omega), List.getElem?_eq_none (by
          have : (sv rowsF).toList.length = 160 := by kernel_rfl
          omega)]
    rw [this]
theorem tab_of_laid2 {W : World} (h : laidMetH Tryd.prog vars2 W) : Tab W := by
  have h' : laidMet Tryd.prog vars2 W := h
  exact tab_of_reads (Lib.laidMet.reads h' (.head _)) (Lib.laidMet.reads h' (.tail _ (.head _)))
theorem Tab.size {w : World} (h : Tab w) : 3 ≤ w.heap.size := by
  obtain ⟨⟨_, _, h1⟩, ⟨_, _, h2⟩⟩ := h
  have := lt_of_block h1
  have := lt_of_block h2
  omega
theorem take1 {α : Type} (l : List α) (i : Nat) (h : i < l.length) : (l.drop i).take 1 = [l[i]] := by
  rw [List.drop_eq_getElem_cons h]; rfl
/-- A sum that came in. -/
theorem sum_in {H : Type} {enc : TypeId × Value → H} {W : World} {base fuel : Nat} {cs : List Value} {x : DataW H × List MemPlace} {spare : Nat → Bool} {held : Bool}
    (hf : DataW.trod enc Tryd.prog W base spare held fuel 25 cs = some x) : ∃ h : List Nat, cs = sl8 h ∧ By 32 h := by
  obtain ⟨ys, m3, _, _, hcl, hyl, hy⟩ := DataW.trod_array Tryd.underlying25 hf
  rw [show Tryd.prog.cellsOf 5 = 1 by kernel_rfl] at hy
  have hcl' : cs.length = 32 := by rw [hcl]; kernel_rfl
  have hb : ∀ i, i < 32 → ∃ q : Nat, cs[i]? = some (.int .u8 (q : Nat)) ∧ q < 256 := by
    intro i hi
    have h := hy i hi
    rw [Nat.mul_one, List.getElem?_eq_getElem (by omega), take1 _ i (by omega)] at h
    obtain ⟨q, e, _, wq⟩ := DataW.trod_int Tryd.underlying5 h
    have hq := bounds_u8 wq
    refine ⟨q.toNat, ?_, by omega⟩
    simp at e
    rw [List.getElem?_eq_getElem (by omega), e, Int.toNat_of_nonneg hq.1]
  obtain ⟨h, hh⟩ := Go.Deep.choose_lt hb
  refine ⟨(List.range 32).map h, ?_, by simp, fun i => ?_⟩
  · apply List.ext_getElem?
    intro i
    by_cases hi : i < 32
    · rw [(hh i hi).1]; simp [sl8, List.getElem?_range hi]
    · rw [List.getElem?_eq_none (by omega), List.getElem?_eq_none (by simp [sl8]; omega)]
  · rw [List.getD_eq_getElem?_getD, List.getElem?_map]
    by_cases hi : i < 32
    · rw [List.getElem?_range hi]; exact (hh i hi).2
    · rw [List.getElem?_eq_none (by simp; omega)]; simp
set_option maxRecDepth 20000 in
theorem hash_in {H : Type} {enc : TypeId × Value → H} {W : World} {base base2 fuel : Nat} {v : Value} {r : Reach} {x : DataW H × List MemPlace} {spare : Nat → Bool} {held : Bool} (hv' : Value.okWide Tryd.prog W r base2 25 v)
    (hf : DataW.trod enc Tryd.prog W base spare held fuel 25 v.cells.toList = some x) : ∃ h : List Nat, v = .agg (sv h) ∧ By 32 h := by
  obtain ⟨cs, rfl⟩ : ∃ cs, v = .agg cs := by
    simp only [Value.okWide, Tryd.underlying25] at hv'
    obtain ⟨cs, h1, _⟩ := hv'
    exact ⟨cs, h1⟩
  obtain ⟨z, h1, h2⟩ := sum_in hf
  refine ⟨z, ?_, h2⟩
  have : cs.toList = sl8 z := h1
  rw [sv, ← this]
/-- Bytes that came in. -/
theorem bytes_in {H : Type} {enc : TypeId × Value → H} {W : World} {base fuel : Nat} {a : Option Addr} {len cap : Nat} {x : DataW H × List MemPlace} {spare : Nat → Bool} {held : Bool} (hsp : ∀ b, spare b = true)
    (hf : DataW.trod enc Tryd.prog W base spare held fuel 22 (Value.slice a len cap).cells.toList = some x) :
    ∃ b : List Nat, len = b.length ∧ b.length ≤ cap ∧ b.length ≤ 9223372036854775807 ∧ SlB W a b ∧ (∀ i, b.getD i 0 < 256) ∧ (a = none → b.length = 0 ∧ cap = 0) := by
  rcases open_ints Tryd.underlying22 Tryd.underlying5 (by kernel_rfl) hf with ⟨hcs, hx⟩ | ⟨ad, l, c, zs, hcs, _, hl, hm, hz, hx, hcell, hwz⟩
  · simp [Value.cells] at hcs
    obtain ⟨rfl, rfl, rfl⟩ := hcs
    exact ⟨[], rfl, by simp, by simp, SlB.nil _ _, by simp, fun _ => ⟨rfl, rfl⟩⟩
  · simp [Value.cells] at hcs
    obtain ⟨rfl, rfl, rfl⟩ := hcs
    rw [hsp, if_pos rfl] at hz
    have hlen : ((zs.take len).map Int.toNat).length = len := by simp; omega
    have hget : ∀ j, j < len → ∃ z : Int, zs[j]? = some z ∧ 0 ≤ z ∧ z ≤ 255 := fun j hj => by
      have hjz : j < zs.length := by omega
      exact ⟨zs[j], List.getElem?_eq_getElem hjz, bounds_u8 (hwz zs[j] (List.getElem_mem hjz))⟩
    refine ⟨(zs.take len).map Int.toNat, hlen.symm, by rw [hlen]; exact hl, by rw [hlen]; simp only [maxLen] at hm; omega, fun hn => ?_, fun i => ?_, fun h => by cases h⟩
    · rw [hlen] at hn
      obtain ⟨b, off, spot⟩ := ad
      have hc := hcell 0 (by omega)
      have hspot : spot = none := by simpa [Addr.add] using World.cell?_spot hc
      subst hspot
      refine ⟨b, off, rfl, fun j u hu => ?_⟩
      have hj : j < len := by
        have := (List.getElem?_eq_some_iff.1 hu).1
        rw [sl8_len, hlen] at this; exact this
      obtain ⟨z, hz1, hz2, hz3⟩ := hget j hj
      have := hcell j (by omega)
      rw [Addr.add_lit] at this
      rw [this, ← hu]
      simp only [sl8, List.getElem?_map, List.getElem?_take, hj, if_true, hz1, Option.map_some, List.getD_eq_getElem?_getD, Option.getD_some]
      rw [Int.toNat_of_nonneg hz2]
    · rw [List.getD_eq_getElem?_getD, List.getElem?_map, List.getElem?_take]
      by_cases hi : i < len
      · obtain ⟨z, hz1, hz2, hz3⟩ := hget i hi
        simp only [hi, if_true, hz1, Option.map_some, Option.getD_some]; omega
      · simp [hi]
end Go.Proofs.YtcileagccdonfaaDoor
