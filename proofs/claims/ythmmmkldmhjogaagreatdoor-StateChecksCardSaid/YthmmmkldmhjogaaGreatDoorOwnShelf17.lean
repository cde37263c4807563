/- A state that is read is laid by the same bytes. -/
import Derived.Test.YthmmmkldmhjogaaGreatDoorOwnShelf16
import Derived.Test.YthmmmkldmhjogaaGreatDoorRows
import Derived.Test.YthmmmkldmhjogaaGreatDoorOwnShelf01
import Derived.Test.YthmmmkldmhjogaaGreatDoorOwnShelf06
import Derived.Lib.Walk
import Derived.ChangeSame
import Derived.ChangeVars
import Derived.JoinedOf
import Derived.RowKit
import Derived.RowKitTokens
import Derived.LaidLaws
import Derived.LaidHandle
import Derived.Stop.Joined
import Derived.ProofKit
import Derived.OpenShut
import Derived.ChangeOld
import Derived.SizedLaws
import Derived.Deep.Slices
import Derived.Test.YthmmmkldmhjogaaGreatDoorOwnShelf12
import Derived.Deep.AppendSrc
import Derived.Deep.RegionWith
import Derived.Deep.RegionLaw
import Derived.Deep.DrawnRows
namespace Go.Proofs.YthmmmkldmhjogaaGreatDoor
open Go.RowKit

/-- Pieces one behind the other. -/
def rwL (f : Nat → List Int) : Nat → List Int
 | 0 => []
 | i + 1 => rwL f i ++ f i
theorem laidPs_row (X : Nat → Py) : ∀ n, laidPs X n = rwL (fun i => laidP (X i)) n
 | 0 => rfl
 | n + 1 => by rw [laidPs, rwL, laidPs_row X n]
theorem laidHs_row (X : Nat → Hd) : ∀ n, laidHs X n = rwL (fun i => laidH (X i)) n
 | 0 => rfl
 | n + 1 => by rw [laidHs, rwL, laidHs_row X n]
theorem some_of {q : Option (List Int)} (h : q ≠ none) : ∃ r, q = some r := by
 cases q with
 | none => exact absurd rfl h
 | some r => exact ⟨r, rfl⟩
theorem rows_laid {X : Type} {g : Option (List Int) → X × Option (List Int)} {lay : X → List Int} (hg0 : (g none).2 = none) (hg : ∀ q r, ByQ q → (g q).2 = some r → q = some (lay (g q).1 ++ r) ∧ ByQ (some r)) {st : Nat → Option (List Int)} (hst : ∀ i, st (i + 1) = (g (st i)).2) (hb : ByQ (st 0)) :
  ∀ (n : Nat) (r : List Int), st n = some r → st 0 = some (rwL (fun i => lay (g (st i)).1) n ++ r) ∧ ByQ (some r)
 | 0, r, h => ⟨h, h ▸ hb⟩
 | n + 1, r, h => by
  rw [hst] at h
  obtain ⟨y, e⟩ := some_of (q := st n) (fun h0 => by rw [h0, hg0] at h; cases h)
  obtain ⟨h1, h2⟩ := rows_laid hg0 hg hst hb n y e
  obtain ⟨h3, h4⟩ := hg (st n) r (by rw [e]; exact h2) h
  refine ⟨?_, h4⟩
  rw [h1, rwL, List.append_assoc]
  rw [e, Option.some.injEq] at h3
  rw [e]
  conv => lhs; rw [h3]
theorem state_laid {M : Int} (hM : M ≤ 9223372036854775807) {l : List Int} (hb : ByQ (some l)) (x1 x2 x3 x4 x5 : Int × Option (List Int)) (h1 : x1 = numM M (some l)) (h2 : x2 = numM M x1.2) (h3 : x3 = numM M x2.2) (h4 : x4 = cntS 8 x3.2)
  (gP : Option (List Int) → Py × Option (List Int)) (gH : Option (List Int) → Hd × Option (List Int)) (stp sth : Nat → Option (List Int)) (hp0 : stp 0 = x4.2) (hps : ∀ i, stp (i + 1) = (gP (stp i)).2) (hpd : (gP none).2 = none) (hpl : ∀ q r, ByQ q → (gP q).2 = some r → q = some (laidP (gP q).1 ++ r) ∧ ByQ (some r))
  (pn hn : Nat) (hpn : pn = x4.1.toNat) (h5 : x5 = cntS 8 (stp pn)) (hh0 : sth 0 = x5.2) (hhs : ∀ i, sth (i + 1) = (gH (sth i)).2) (hhd : (gH none).2 = none) (hhl : ∀ q r, ByQ q → (gH q).2 = some r → q = some (laidH (gH q).1 ++ r) ∧ ByQ (some r)) (hhn : hn = x5.1.toNat) (hend : sth hn = some []) :
  laidS ⟨x1.1, x2.1, x3.1, pn, fun i => (gP (stp i)).1, hn, fun j => (gH (sth j)).1⟩ = l := by
 have n5 : x5.2 ≠ none := by rw [← hh0]; exact none_up (fun i h => by rw [hhs, h]; exact hhd) hn 0 (by omega) (by rw [hend]; exact fun h => by cases h)
 have n4 : stp pn ≠ none := fun h => n5 (by rw [h5, h]; rfl)
 have n40 : x4.2 ≠ none := by rw [← hp0]; exact none_up (fun i h => by rw [hps, h]; exact hpd) pn 0 (by omega) n4
 have n3 : x3.2 ≠ none := fun h => n40 (by rw [h4, h]; rfl)
 have n2 : x2.2 ≠ none := fun h => n3 (by rw [h3, h]; rfl)
 have n1 : x1.2 ≠ none := fun h => n2 (by rw [h2, h]; rfl)
 obtain ⟨y1, e1⟩ := some_of n1
 obtain ⟨y2, e2⟩ := some_of n2
 obtain ⟨y3, e3⟩ := some_of n3
 obtain ⟨y4, e4⟩ := some_of n40
 obtain ⟨y5, e5⟩ := some_of n4
 obtain ⟨y6, e6⟩ := some_of n5
 obtain ⟨a1, b1, c1⟩ := numM_laid (M := M) hb (by rw [← h1]; exact e1)
 rw [← h1] at a1 c1
 rw [e1] at h2
 obtain ⟨a2, b2, c2⟩ := numM_laid (M := M) b1 (by rw [← h2]; exact e2)
 rw [← h2] at a2 c2
 rw [e2] at h3
 obtain ⟨a3, b3, c3⟩ := numM_laid (M := M) b2 (by rw [← h3]; exact e3)
 rw [← h3] at a3 c3
 rw [e3] at h4
 obtain ⟨a4, b4, c4⟩ := cntS_laid (M := 8) (by decide) b3 (by rw [← h4]; exact e4)
 rw [← h4] at a4 c4
 obtain ⟨a5, b5⟩ := rows_laid hpd hpl hps (by rw [hp0, e4]; exact b4) pn y5 e5
 rw [e5] at h5
 obtain ⟨a6, b6, c6⟩ := cntS_laid (M := 8) (by decide) b5 (by rw [← h5]; exact e6)
 rw [← h5] at a6 c6
 obtain ⟨a7, _⟩ := rows_laid hhd hhl hhs (by rw [hh0, e6]; exact b6) hn [] hend
 rw [hp0, e4] at a5
 rw [hh0, e6] at a7
 rw [Option.some.injEq] at a1 a2 a3 a4 a5 a6 a7
 simp only [laidS, laidA, laidK, z2, if_true, Nat.one_ne_zero, if_false, List.nil_append, laidPs_row, laidHs_row]
 rw [u64_pos c1.1 (by omega), u64_pos c2.1 (by omega), u64_pos c3.1 (by omega), u64_pos (v := (pn : Int)) (by omega) (by omega), u64_pos (v := (hn : Int)) (by omega) (by omega), show (pn : Int) = x4.1 from by omega, show (hn : Int) = x5.1 from by omega]
 rw [a1, a2, a3, a4, a5, a6, a7]
 simp only [List.append_assoc, List.append_nil]
theorem hdS_laid (q : Option (List Int)) (r : List Int) (hb : ByQ q) (h : (hdS q).2 = some r) : q = some (laidH (hdS q).1 ++ r) ∧ ByQ (some r) := by
 rw [hdS_M] at h ⊢
 exact hdM_laid (by decide) hb rfl h
theorem decS_laid {l : List Int} (hb : ByQ (some l)) (h : decQ l = some []) : laidS (decS l) = l :=
 state_laid (M := 9223372036854775807) (by decide) hb (d1 l) (d2 l) (d3 l) (d4 l) (d5 l) rfl rfl rfl rfl pyS hdS (stP (d4 l).2) (stH (d5 l).2) rfl (fun _ => rfl) rfl (fun q r hq hr => by rw [pyS_M] at hr ⊢; exact pyM_laid (by decide) hq hr) (d4 l).1.toNat (d5 l).1.toNat rfl rfl rfl (fun _ => rfl) rfl hdS_laid rfl h
/-- Holds that say the same. -/
def HA (a b : Hd) : Prop := a.id = b.id ∧ a.am = b.am ∧ a.n = b.n ∧ ∀ j, j < a.n → a.z j = b.z j
theorem lastP_congr {X Y : Nat → Py} {n : Nat} (h : ∀ j, j < n → X j = Y j) {j : Nat} (hj : j < n) : lastP X j = lastP Y j := by
 unfold lastP
 split
 ·rfl
 ·rw [h (j - 1) (by omega)]
theorem PsOk_congr {X Y : Nat → Py} {n : Nat} (h : ∀ j, j < n → X j = Y j) (hx : PsOk X n) : PsOk Y n := fun j hj => by
 have := hx j hj
 rw [lastP_congr h hj, h j hj] at this
 exact this
theorem KOk_congr {z y : Nat → Int} {n : Nat} (h : ∀ j, j < n → z j = y j) (hx : KOk z n) : KOk y n := fun j hj => by
 have h1 := hx j hj
 have e : lastK z j = lastK y j := by
  unfold lastK
  split
  ·rfl
  ·rw [h (j - 1) (by omega)]
 rw [e, h j hj] at h1
 exact h1
theorem HsOk_congr {X Y : Nat → Hd} {n : Nat} (h : ∀ j, j < n → HA (X j) (Y j)) (hx : HsOk X n) : HsOk Y n := fun j hj => by
 obtain ⟨h1, h2, h3, h4, h5⟩ := hx j hj
 obtain ⟨a, b, c, d⟩ := h j hj
 have e : lastH X j = lastH Y j := by
  unfold lastH
  split
  ·rfl
  ·rw [(h (j - 1) (by omega)).1]
 rw [e, a] at h1
 rw [a] at h2
 rw [b] at h3
 exact ⟨h1, h2, h3, c ▸ KOk_congr d h4, by rw [← c]; exact h5⟩
theorem sumP_congr {X Y : Nat → Py} : ∀ n, (∀ j, j < n → X j = Y j) → sumP X n = sumP Y n
 | 0, _ => rfl
 | n + 1, h => by rw [sumP, sumP, sumP_congr n (fun j hj => h j (by omega)), h n (by omega)]
theorem sumH_congr {X Y : Nat → Hd} : ∀ n, (∀ j, j < n → HA (X j) (Y j)) → sumH X n = sumH Y n
 | 0, _ => rfl
 | n + 1, h => by rw [sumH, sumH, sumH_congr n (fun j hj => h j (by omega)), (h n (by omega)).2.1]
theorem SOk_congr {s t : Sv} (h1 : s.nu = t.nu) (h2 : s.a = t.a) (h3 : s.b = t.b) (h4 : s.pn = t.pn) (h5 : ∀ j, j < s.pn → s.P j = t.P j) (h6 : s.hn = t.hn) (h7 : ∀ j, j < s.hn → HA (s.H j) (t.H j)) (h : SOk s) : SOk t := by
 obtain ⟨⟨a, b, c⟩, ⟨d, e, f⟩, g⟩ := h
 refine ⟨⟨h1 ▸ a, h2 ▸ b, h3 ▸ c⟩, ⟨by omega, h4 ▸ PsOk_congr h5 e, h6 ▸ HsOk_congr h7 f⟩, ?_⟩
 unfold tot at g ⊢
 rw [sumP_congr s.pn h5, sumH_congr s.hn h7, h4, h6, h2, h3] at g
 exact g
end Go.Proofs.YthmmmkldmhjogaaGreatDoor
/- What a state is laid as is read back; what is read back is the state. -/
namespace Go.Proofs.YthmmmkldmhjogaaGreatDoor
open Go.RowKit

def Py.Ib (a : Py) : Prop := Go.Proofs.YthmmmkldmhjogaaGreatDoor.Ib a.id ∧ Go.Proofs.YthmmmkldmhjogaaGreatDoor.Ib a.fr ∧ Go.Proofs.YthmmmkldmhjogaaGreatDoor.Ib a.am ∧ Go.Proofs.YthmmmkldmhjogaaGreatDoor.Ib a.af
def Hd.Ib (a : Hd) : Prop := Go.Proofs.YthmmmkldmhjogaaGreatDoor.Ib a.id ∧ Go.Proofs.YthmmmkldmhjogaaGreatDoor.Ib a.am ∧ a.n ≤ 9223372036854775807 ∧ ∀ j, j < a.n → Go.Proofs.YthmmmkldmhjogaaGreatDoor.Ib (a.z j)
/-- All of a state's numbers are ints. -/
structure Sv.Ints (s : Sv) : Prop where
 nu : Ib s.nu
 a : Ib s.a
 b : Ib s.b
 pn : s.pn ≤ 9223372036854775807
 hn : s.hn ≤ 9223372036854775807
 py : ∀ i, i < s.pn → (s.P i).Ib
 hd : ∀ i, i < s.hn → (s.H i).Ib
end Go.Proofs.YthmmmkldmhjogaaGreatDoor
/- From the rows' hypothesis on the library's variable to its cell; states that came in. -/
namespace Go.Proofs.YthmmmkldmhjogaaGreatDoor
open Go.ChangeShapes Go.WideShapes Go.RowKit Go.ChangeAt

theorem laidOut : laidOutB Tryz.prog = true := by kernel_rfl
theorem own : ownKnob Tryz.prog.godebug = none := by kernel_rfl
theorem et : Tryz.prog.globalNamed "errors.errorType" = some 0 := by kernel_rfl
/-- The name under which the row lists the handle's own type. -/
def handleName : String := match (Rows.laid_errors_errorType (H := Unit)) with
 | .iface s _ => s
 | _ => ""
theorem rt : (Tryz.prog.cutTypes.find? (·.1 == handleName)).map (·.2) = some 146 := by kernel_rfl
theorem oneRow : ((List.range 214).filter fun t => Tryz.prog.rowNamed t [101, 114, 114, 111, 114]) = [35] := by kernel_rfl
/-- The variables that the rows list. -/
def vars {H : Type} : List (String × DataW H) := [("errors.errorType", Rows.laid_errors_errorType), ("bayou/blake.first", Rows.laid_bayou_blake_first), ("bayou/blake.rows", Rows.laid_bayou_blake_rows)]
/-- What the condition gives a walk: the variable's one cell. -/
theorem glob_of_laid {W : World} (h : laidMetH Tryz.prog vars W) : Glob W := by
 have h' : laidMet Tryz.prog [("bayou/blake.first", Rows.laid_bayou_blake_first), ("bayou/blake.rows", Rows.laid_bayou_blake_rows)] W ∧ handlesMet Tryz.prog [("errors.errorType", Rows.laid_errors_errorType)] W := h
 obtain ⟨name, u, ty, e1, e2, e3, e4, e5⟩ := h'.2 _ (List.mem_singleton.2 rfl)
 have en : name = [101, 114, 114, 111, 114] := (Option.some.inj e1).symm
 subst en
 obtain rfl := Option.some.inj (rt.symm.trans e2)
 have hm : ty ∈ (List.range 214).filter fun t => Tryz.prog.rowNamed t [101, 114, 114, 111, 114] := List.mem_filter.2 ⟨List.mem_range.2 (by rw [← tsize]; exact e3), e4⟩
 rw [oneRow] at hm
 obtain rfl := List.mem_singleton.1 hm
 have hh : typeHandle Tryz.prog 35 = .pointer (some ⟨3, 35, none⟩) := by kernel_rfl
 rw [hh] at e5
 have := World.var?_cell et e5 0
 unfold Glob
 simpa using this


theorem array_len {H : Type} {enc : TypeId × Value → H} {P : Program} {w : World} {base : Nat} {sp : Nat → Bool} {held : Bool} {fuel : Nat} {t e : TypeId} {n : Nat} {cs : List Value} {x : DataW H × List MemPlace} (ht : P.underlying t = some (.array n e))
  (h : DataW.trod enc P w base sp held fuel t cs = some x) : cs.length = P.cellsOf t := by
 obtain ⟨ys, m3, _, _, hcl, _, _⟩ := DataW.trod_array ht h
 exact hcl
theorem var_heap {P : Program} {w : World} {n : String} {g : Nat} {cs : Array Value} (hg : P.globalNamed n = some g) (h : w.var? P n = some cs) : ∃ t fr, w.heap[g]? = some (.cells cs t fr) := by
 unfold World.var? at h
 rw [hg] at h
 simp only [Option.bind_some] at h
 split at h
 ·rename_i c t fr he
  cases h
  exact ⟨t, fr, he⟩
 ·cases h
theorem rowD (i : Nat) (hi : i < 10) : ∃ ds, Rows.laid_bayou_blake_rows (H := Unit) = .agg ds ∧ ds[i]? = some (Lib.tabData .u8 ((rowL i).map Int.ofNat)) := by
 refine ⟨_, rfl, ?_⟩
 have h : i = 0 ∨ i = 1 ∨ i = 2 ∨ i = 3 ∨ i = 4 ∨ i = 5 ∨ i = 6 ∨ i = 7 ∨ i = 8 ∨ i = 9 := by omega
 rcases h with rfl | rfl | rfl | rfl | rfl | rfl | rfl | rfl | rfl | rfl <;> rfl
theorem tab_of_reads {W : World} (h1 : Lib.VarReads Tryz.prog W "bayou/blake.first" Rows.laid_bayou_blake_first) (h2 : Lib.VarReads Tryz.prog W "bayou/blake.rows" Rows.laid_bayou_blake_rows) : Tab W := by
 constructor
 ·obtain ⟨g, t, cs, fuel, p, hg, ht, hv, hd⟩ := h1
  obtain rfl : 1 = g := Option.some.inj ((show Tryz.prog.globalNamed "bayou/blake.first" = some 1 by kernel_rfl).symm.trans hg)
  obtain rfl : 171 = t := Option.some.inj ((show (Tryz.prog.globals[1]?).map (·.type) = some 171 by kernel_rfl).symm.trans ht)
  have hc := Lib.cells_of_tab (zs := firstL.map Int.ofNat) Tryz.underlying171 Tryz.underlying132 (by kernel_rfl) (by kernel_rfl) hd
  obtain ⟨t', fr, he⟩ := var_heap hg hv
  refine ⟨t', fr, ?_⟩
  rw [he]
  have : cs = wv firstL := by rw [← Array.toList_inj, hc]; rfl
  rw [this]
 ·obtain ⟨g, t, cs, fuel, p, hg, ht, hv, hd⟩ := h2
  obtain rfl : 2 = g := Option.some.inj ((show Tryz.prog.globalNamed "bayou/blake.rows" = some 2 by kernel_rfl).symm.trans hg)
  obtain rfl : 183 = t := Option.some.inj ((show (Tryz.prog.globals[2]?).map (·.type) = some 183 by kernel_rfl).symm.trans ht)
  obtain ⟨t', fr, he⟩ := var_heap hg hv
  refine ⟨t', fr, ?_⟩
  rw [he]
  have hl : cs.toList.length = 160 := (array_len Tryz.underlying183 hd).trans (by kernel_rfl)
  have : cs = sv rowsF := by
   rw [← Array.toList_inj]
   apply List.ext_getElem?
   intro j
   by_cases hj : j < 160
   ·obtain ⟨i, k, hi, hk, rfl⟩ : ∃ i k, i < 10 ∧ k < 16 ∧ j = i * 16 + k := ⟨j / 16, j % 16, by omega, by omega, by omega⟩
    obtain ⟨ds, hds, hrow⟩ := rowD i hi
    rw [hds] at hd
    obtain ⟨fuel', d, q, hd1, hd2⟩ := Lib.array_elem Tryz.underlying183 hd i hi
    rw [hrow] at hd1
    cases hd1
    rw [show Tryz.prog.cellsOf 182 = 16 by kernel_rfl] at hd2
    have hc := Lib.cells_of_tab (zs := (rowL i).map Int.ofNat) Tryz.underlying182 Tryz.underlying5 (by kernel_rfl) (by kernel_rfl) hd2
    have h3 := congrArg (·[k]?) hc
    simp only [List.getElem?_take, hk, if_true, List.getElem?_drop, List.getElem?_map] at h3
    rw [h3]
    have h4 := rowsF_at hi hk
    simp only [sv, sl8, List.getElem?_map, h4, Option.map_some]
    rw [List.getElem?_eq_getElem (show k < (rowL i).length by rw [rowL_len hi]; exact hk)]
    simp [List.getD_eq_getElem?_getD, List.getElem?_eq_getElem (show k < (rowL i).length by rw [rowL_len hi]; exact hk)]
   ·rw [List.getElem?_eq_none (by omega), List.getElem?_eq_none (by
     have : (sv rowsF).toList.length = 160 := by kernel_rfl
     omega)]
  rw [this]
theorem Tab.size {w : World} (h : Tab w) : 3 ≤ w.heap.size := by
 obtain ⟨⟨_, _, h1⟩, ⟨_, _, h2⟩⟩ := h
 have := lt_of_block h1
 have := lt_of_block h2
 omega
theorem tab_of_laid {W : World} (h : laidMetH Tryz.prog vars W) : Tab W := by
 have h' : laidMet Tryz.prog [("bayou/blake.first", Rows.laid_bayou_blake_first), ("bayou/blake.rows", Rows.laid_bayou_blake_rows)] W ∧ handlesMet Tryz.prog [("errors.errorType", Rows.laid_errors_errorType)] W := h
 exact tab_of_reads (Lib.laidMet.reads h'.1 (.head _)) (Lib.laidMet.reads h'.1 (.tail _ (.head _)))
/-- A state that came in. -/
structure StIn (w : World) (s : Sv) (p : Pl) : Prop where
 at_ : SvAt w s p
 pn : s.pn ≤ 140737488355328
 hn : s.hn ≤ 140737488355328
 ks : ∀ i, i < s.hn → (s.H i).n ≤ 140737488355328
/-- What all weights are at most. -/
def Light {H : Type} (t : TypeId) (d : DataW H) : Prop := ∀ q ∈ d.weights Tryz.prog t, q ≤ 140737488351232
theorem weights_mem_all {H : Type} {P : Program} {e : TypeId} : ∀ {l : List (DataW H)} {d : DataW H}, d ∈ l → ∀ q ∈ d.weights P e, q ∈ DataW.weightsAll P e l
 | d0 :: l, d, hd, q, hq => by
  simp only [DataW.weightsAll, List.mem_append]
  rcases List.mem_cons.1 hd with rfl | h
  ·exact Or.inl hq
  ·exact Or.inr (weights_mem_all h q hq)
theorem bytesI : Tryz.prog.bytesOf 3 = 8 := by kernel_rfl
/-- Ints that came in: how they lie. -/
theorem ints_in {H : Type} {enc : TypeId × Value → H} {W : World} {base fuel : Nat} {cs : List Value} {x : DataW H × List MemPlace} {spare : Nat → Bool} {held : Bool} (hsp : ∀ b, spare b = true)
  (hf : DataW.trod enc Tryz.prog W base spare held fuel 53 cs = some x) (hw : Light 53 x.1) :
  ∃ (a : Option Addr) (len cap : Nat) (z : Nat → Int), cs = [.slice a len cap] ∧ len ≤ 140737488355328 ∧ IsAt W a len z ∧ (a = none → len = 0 ∧ cap = 0) ∧ ∀ j, j < len → Ib (z j) := by
 rcases open_ints Tryz.underlying53 Tryz.underlying3 (by kernel_rfl) hf with ⟨hcs, hx⟩ | ⟨ad, l, c, zs, hcs, _, hl, hm, hz, hx, hcell, hwz⟩
 ·exact ⟨none, 0, 0, fun _ => 0, hcs, by omega, fun h => by omega, fun _ => ⟨rfl, rfl⟩, fun j h => by omega⟩
 ·rw [hsp, if_pos rfl] at hz
  refine ⟨some ad, l, c, fun j => zs.getD j 0, hcs, ?_, fun hn => ?_, (fun h => by cases h), fun j hj => ?_⟩
  ·have h1 := hw _ (by rw [hx]; simp only [DataW.weights, Tryz.underlying53]; exact List.mem_cons_self)
   rw [bytesI] at h1
   simp [lits] at h1
   omega
  ·obtain ⟨b, off, spot⟩ := ad
   have hc := hcell 0 (by omega)
   have hspot : spot = none := by simpa [Addr.add] using World.cell?_spot hc
   subst hspot
   refine ⟨b, off, rfl, fun j hj => ?_⟩
   have := hcell j (by omega)
   rwa [Addr.add_lit] at this
  ·have hjz : j < zs.length := by omega
   simp only [List.getD_eq_getElem?_getD, List.getElem?_eq_getElem hjz, Option.getD_some]
   exact bounds_i64 (hwz zs[j] (List.getElem_mem hjz))
theorem take1 {α : Type} (l : List α) (i : Nat) (h : i < l.length) : (l.drop i).take 1 = [l[i]] := by
 rw [List.drop_eq_getElem_cons h]; rfl
/-- A sum's cells. -/
theorem sum_in {H : Type} {enc : TypeId × Value → H} {W : World} {base fuel : Nat} {cs : List Value} {x : DataW H × List MemPlace} {spare : Nat → Bool} {held : Bool}
  (hf : DataW.trod enc Tryz.prog W base spare held fuel 48 cs = some x) : ∃ z : Nat → Int, cs = bl z 32 ∧ Zb z := by
 obtain ⟨ys, m3, _, _, hcl, hyl, hy⟩ := DataW.trod_array Tryz.underlying48 hf
 rw [cellsB] at hy
 have hcl' : cs.length = 32 := by rw [hcl]; kernel_rfl
 have hb : ∀ i, i < 32 → ∃ q : Int, cs[i]? = some (.int .u8 q) ∧ 0 ≤ q ∧ q ≤ 255 := by
  intro i hi
  have h := hy i hi
  rw [Nat.mul_one, List.getElem?_eq_getElem (by omega), take1 _ i (by omega)] at h
  obtain ⟨q, e, _, wq⟩ := DataW.trod_int Tryz.underlying5 h
  refine ⟨q, ?_, bounds_u8 wq⟩
  simp at e
  rw [List.getElem?_eq_getElem (by omega), e]
 obtain ⟨h, hh⟩ := Go.Deep.choose_lt hb
 refine ⟨h, ?_, fun j hj => (hh j hj).2⟩
 apply List.ext_getElem?
 intro i
 by_cases hi : i < 32
 ·rw [bl_at hi, (hh i hi).1]
 ·rw [List.getElem?_eq_none (by omega), List.getElem?_eq_none (by simp [bl_length]; omega)]
/-- One payment, of its 36 cells. -/
theorem pay_in {H : Type} {enc : TypeId × Value → H} {W : World} {base fuel : Nat} {cs : List Value} {x : DataW H × List MemPlace} {spare : Nat → Bool} {held : Bool}
  (hf : DataW.trod enc Tryz.prog W base spare held fuel 73 cs = some x) :
  ∃ b : Py, cs = pyl b ∧ Zb b.lk ∧ (Ib b.id ∧ Ib b.fr ∧ Ib b.am ∧ Ib b.af) := by
 obtain ⟨xs, m, rfl, rfl, hcl, hxl, hfs⟩ := DataW.trod_struct Tryz.underlying73 hf
 have hcl' : cs.length = 36 := by rw [hcl]; kernel_rfl
 have hxl' : xs.length = 5 := hxl
 have g0 : DataW.trod enc Tryz.prog W base spare held m 3 ((cs.drop 0).take (Tryz.prog.cellsOf 3)) = xs[0]? := hfs 0 _ rfl
 have g1 : DataW.trod enc Tryz.prog W base spare held m 3 ((cs.drop 1).take (Tryz.prog.cellsOf 3)) = xs[1]? := hfs 1 _ rfl
 have g2 : DataW.trod enc Tryz.prog W base spare held m 3 ((cs.drop 2).take (Tryz.prog.cellsOf 3)) = xs[2]? := hfs 2 _ rfl
 have g3 : DataW.trod enc Tryz.prog W base spare held m 3 ((cs.drop 3).take (Tryz.prog.cellsOf 3)) = xs[3]? := hfs 3 _ rfl
 have g4 : DataW.trod enc Tryz.prog W base spare held m 48 ((cs.drop 4).take (Tryz.prog.cellsOf 48)) = xs[4]? := hfs 4 _ rfl
 rw [cellsI] at g0 g1 g2 g3
 rw [cellsH] at g4
 rw [take1 cs 0 (by omega), List.getElem?_eq_getElem (by omega)] at g0
 rw [take1 cs 1 (by omega), List.getElem?_eq_getElem (by omega)] at g1
 rw [take1 cs 2 (by omega), List.getElem?_eq_getElem (by omega)] at g2
 rw [take1 cs 3 (by omega), List.getElem?_eq_getElem (by omega)] at g3
 rw [List.getElem?_eq_getElem (by omega)] at g4
 obtain ⟨x0, h0, _, w0⟩ := DataW.trod_int Tryz.underlying3 g0
 obtain ⟨x1, h1, _, w1⟩ := DataW.trod_int Tryz.underlying3 g1
 obtain ⟨x2, h2, _, w2⟩ := DataW.trod_int Tryz.underlying3 g2
 obtain ⟨x3, h3, _, w3⟩ := DataW.trod_int Tryz.underlying3 g3
 obtain ⟨lk, h4, hlk⟩ := sum_in g4
 refine ⟨⟨x0, x1, x2, x3, lk⟩, ?_, hlk, bounds_i64 w0, bounds_i64 w1, bounds_i64 w2, bounds_i64 w3⟩
 simp at h0 h1 h2 h3
 have e0 : cs = cs[0] :: cs[1] :: cs[2] :: cs[3] :: cs.drop 4 := by
  have := List.drop_eq_getElem_cons (l := cs) (i := 0) (by omega)
  rw [List.drop_eq_getElem_cons (l := cs) (i := 0 + 1) (by omega), List.drop_eq_getElem_cons (l := cs) (i := 0 + 1 + 1) (by omega), List.drop_eq_getElem_cons (l := cs) (i := 0 + 1 + 1 + 1) (by omega)] at this
  simpa using this
 have e1 : cs.drop 4 = (cs.drop 4).take 32 := (List.take_of_length_le (by simp [hcl'])).symm
 rw [e0, h0, h1, h2, h3, e1, h4]
 rfl
/-- One hold, of its three cells. -/
theorem hold_in {H : Type} {enc : TypeId × Value → H} {W : World} {base fuel : Nat} {cs : List Value} {x : DataW H × List MemPlace} {spare : Nat → Bool} {held : Bool} (hsp : ∀ b, spare b = true)
  (hf : DataW.trod enc Tryz.prog W base spare held fuel 55 cs = some x) (hw : Light 55 x.1) :
  ∃ (b : Hd) (ka : Option Addr) (kc : Nat), cs = hdl b ka kc ∧ IsAt W ka b.n b.z ∧ (ka = none → b.n = 0 ∧ kc = 0) ∧ b.n ≤ 140737488355328 ∧ (Ib b.id ∧ Ib b.am ∧ ∀ j, j < b.n → Ib (b.z j)) := by
 obtain ⟨xs, m, rfl, rfl, hcl, hxl, hfs⟩ := DataW.trod_struct Tryz.underlying55 hf
 have hcl' : cs.length = 3 := by rw [hcl]; kernel_rfl
 have hxl' : xs.length = 3 := hxl
 have g0 : DataW.trod enc Tryz.prog W base spare held m 3 ((cs.drop 0).take (Tryz.prog.cellsOf 3)) = xs[0]? := hfs 0 _ rfl
 have g1 : DataW.trod enc Tryz.prog W base spare held m 3 ((cs.drop 1).take (Tryz.prog.cellsOf 3)) = xs[1]? := hfs 1 _ rfl
 have g2 : DataW.trod enc Tryz.prog W base spare held m 53 ((cs.drop 2).take (Tryz.prog.cellsOf 53)) = xs[2]? := hfs 2 _ rfl
 rw [cellsI] at g0 g1
 rw [cellsS] at g2
 rw [take1 cs 0 (by omega), List.getElem?_eq_getElem (by omega)] at g0
 rw [take1 cs 1 (by omega), List.getElem?_eq_getElem (by omega)] at g1
 rw [take1 cs 2 (by omega), List.getElem?_eq_getElem (by omega)] at g2
 have wk : Light 53 (xs[2]'(by omega)).1 := fun q hq => hw q (by
  simp only [DataW.weights, Tryz.underlying55]
  exact DataW.weights_mem_each (j := 2) (t := 53) (d := (xs[2]'(by omega)).1) rfl (by rw [List.getElem?_map, List.getElem?_eq_getElem (by omega)]; rfl) q hq)
 obtain ⟨x0, h0, _, w0⟩ := DataW.trod_int Tryz.underlying3 g0
 obtain ⟨x1, h1, _, w1⟩ := DataW.trod_int Tryz.underlying3 g1
 obtain ⟨ka, n, kc, z, h2, hn, hI, hnil, hkb⟩ := ints_in hsp g2 wk
 refine ⟨⟨x0, x1, n, z⟩, ka, kc, ?_, hI, hnil, hn, bounds_i64 w0, bounds_i64 w1, hkb⟩
 simp at h0 h1 h2
 have e0 : cs = [cs[0], cs[1], cs[2]] := by
  apply List.ext_getElem
  ·simp [hcl']
  ·intro i h1 h2
   match i, h2 with
   | 0, _ => rfl
   | 1, _ => rfl
   | 2, _ => rfl
 rw [e0, h0, h1, h2]
 rfl
theorem pays_in {H : Type} {enc : TypeId × Value → H} {W : World} {base fuel : Nat} {c0 : Value} {x : DataW H × List MemPlace} {spare : Nat → Bool} {held : Bool} (hsp : ∀ b, spare b = true)
  (hf : DataW.trod enc Tryz.prog W base spare held fuel 23 [c0] = some x) (hw : Light 23 x.1) :
  ∃ (a : Option Addr) (len cap : Nat) (X : Nat → Py), c0 = .slice a len cap ∧ PyAt W a len X ∧ len ≤ 140737488355328 ∧ len ≤ cap ∧ (a = none → len = 0 ∧ cap = 0) ∧ ∀ i, i < len → Ib (X i).id ∧ Ib (X i).fr ∧ Ib (X i).am ∧ Ib (X i).af := by
 rcases Go.Deep.open_slice Tryz.underlying23 hf with ⟨hcs, hx⟩ | ⟨ad, l, c, m, n, D, Pl, hcs, _, hl, hcm, hm, hx, hcell⟩
 ·exact ⟨none, 0, 0, fun _ => default, by simpa using hcs, PyAt.nil _ _ _, by omega, by omega, fun _ => ⟨rfl, rfl⟩, fun i hi => by omega⟩
 ·rw [hsp, if_pos rfl] at hm
  subst hm
  have cT : Tryz.prog.cellsOf 73 = 36 := by kernel_rfl
  have bT : Tryz.prog.bytesOf 73 = 64 := by kernel_rfl
  rw [cT] at hcell
  have hlen : l ≤ 140737488355328 := by
   have h1 := hw _ (by rw [hx]; simp only [DataW.weights, Tryz.underlying23]; exact List.mem_cons_self)
   rw [bT] at h1
   simp at h1
   omega
  have each : ∀ i, i < l → ∃ t : Py, W.cells? base (ad.add (i * 36)) 36 = some (pyl t) ∧ Zb t.lk ∧ (Ib t.id ∧ Ib t.fr ∧ Ib t.am ∧ Ib t.af) := by
   intro i hi
   obtain ⟨cs', h1, h2⟩ := hcell i (by omega)
   obtain ⟨b, rfl, h3, h4⟩ := pay_in h2
   exact ⟨b, h1, h3, h4⟩
  obtain ⟨X, hX⟩ := Go.Deep.choose_lt each
  refine ⟨some ad, l, _, X, (List.cons.inj hcs).1, ⟨fun i hi => (hX i hi).2.1, fun hn => ?_⟩, hlen, by omega, (fun h => by cases h), fun i hi => (hX i hi).2.2⟩
  obtain ⟨b, off, spot⟩ := ad
  obtain ⟨_, _, h0⟩ := World.cells?_some (hX 0 (by omega)).1
  have h0' := h0 0 (by omega)
  have hspot : spot = none := by
   have : W.cell? ⟨b, off, spot⟩ = some (.int .i64 (X 0).id) := by simpa [Addr.add, pyl] using h0'
   exact World.cell?_spot this
  subst hspot
  refine ⟨b, off, rfl, fun i hi j v hv => ?_⟩
  obtain ⟨_, _, h1⟩ := World.cells?_some (hX i (by omega)).1
  have hj : j < 36 := by
   have := (List.getElem?_eq_some_iff.1 hv).1
   rwa [pyl_length] at this
  have h2 := h1 j hj
  rw [Addr.add_lit, Addr.add_lit, hv] at h2
  exact h2
theorem holds_in {H : Type} {enc : TypeId × Value → H} {W : World} {base fuel : Nat} {c0 : Value} {x : DataW H × List MemPlace} {spare : Nat → Bool} {held : Bool} (hsp : ∀ b, spare b = true)
  (hf : DataW.trod enc Tryz.prog W base spare held fuel 24 [c0] = some x) (hw : Light 24 x.1) :
  ∃ (a : Option Addr) (len cap : Nat) (X : Nat → Hd), c0 = .slice a len cap ∧ HdAt W a len X ∧ len ≤ 140737488355328 ∧ len ≤ cap ∧ (a = none → len = 0 ∧ cap = 0) ∧ ∀ i, i < len → (X i).n ≤ 140737488355328 ∧ (Ib (X i).id ∧ Ib (X i).am ∧ ∀ j, j < (X i).n → Ib ((X i).z j)) := by
 rcases Go.Deep.open_slice Tryz.underlying24 hf with ⟨hcs, hx⟩ | ⟨ad, l, c, m, n, D, Pl, hcs, _, hl, hcm, hm, hx, hcell⟩
 ·exact ⟨none, 0, 0, fun _ => default, by simpa using hcs, HdAt.nil _ _ _, by omega, by omega, fun _ => ⟨rfl, rfl⟩, fun i hi => by omega⟩
 ·rw [hsp, if_pos rfl] at hm
  subst hm
  have cT : Tryz.prog.cellsOf 55 = 3 := by kernel_rfl
  have bT : Tryz.prog.bytesOf 55 = 40 := by kernel_rfl
  rw [cT] at hcell
  have hlen : l ≤ 140737488355328 := by
   have h1 := hw _ (by rw [hx]; simp only [DataW.weights, Tryz.underlying24]; exact List.mem_cons_self)
   rw [bT] at h1
   simp at h1
   omega
  have each : ∀ i, i < l → ∃ t : Hd × (Option Addr × Nat), W.cells? base (ad.add (i * 3)) 3 = some (hdl t.1 t.2.1 t.2.2) ∧ IsAt W t.2.1 t.1.n t.1.z ∧ (t.2.1 = none → t.1.n = 0 ∧ t.2.2 = 0) ∧ t.1.n ≤ 140737488355328 ∧ (Ib t.1.id ∧ Ib t.1.am ∧ ∀ j, j < t.1.n → Ib (t.1.z j)) := by
   intro i hi
   obtain ⟨cs', h1, h2⟩ := hcell i (by omega)
   have wi : Light 55 (D i) := fun q hq => hw q (by
    rw [hx]
    simp only [DataW.weights, Tryz.underlying24]
    exact List.mem_cons_of_mem _ (List.mem_append_left _ (weights_mem_all (List.mem_map.2 ⟨i, List.mem_range.2 hi, rfl⟩) q hq)))
   obtain ⟨b, ka, kc, rfl, h3, h4, h5, h6⟩ := hold_in hsp h2 wi
   exact ⟨(b, ka, kc), h1, h3, h4, h5, h6⟩
  obtain ⟨X, hX⟩ := Go.Deep.choose_lt each
  refine ⟨some ad, l, _, fun i => (X i).1, (List.cons.inj hcs).1, ⟨fun hn => ?_⟩, hlen, by omega, (fun h => by cases h), fun i hi => ⟨(hX i hi).2.2.2.1, (hX i hi).2.2.2.2⟩⟩
  obtain ⟨b, off, spot⟩ := ad
  obtain ⟨_, _, h0⟩ := World.cells?_some (hX 0 (by omega)).1
  have h0' := h0 0 (by omega)
  have hspot : spot = none := by
   have : W.cell? ⟨b, off, spot⟩ = some (.int .i64 (X 0).1.id) := by simpa [Addr.add, hdl] using h0'
   exact World.cell?_spot this
  subst hspot
  refine ⟨b, off, rfl, fun i hi => ⟨(X i).2.1, (X i).2.2, fun j v hv => ?_, (hX i hi).2.1, (hX i hi).2.2.1⟩⟩
  obtain ⟨_, _, h1⟩ := World.cells?_some (hX i (by omega)).1
  have hj : j < 3 := by
   have := (List.getElem?_eq_some_iff.1 hv).1
   simpa [hdl] using this
  have h2 := h1 j hj
  rw [Addr.add_lit, Addr.add_lit, hv] at h2
  exact h2
theorem cells2 : Tryz.prog.cellsOf 22 = 2 := by kernel_rfl
theorem cellsPs : Tryz.prog.cellsOf 23 = 1 := by kernel_rfl
theorem cellsHs : Tryz.prog.cellsOf 24 = 1 := by kernel_rfl
/-- Two ints that came in. -/
theorem two_in {H : Type} {enc : TypeId × Value → H} {W : World} {base fuel : Nat} {cs : List Value} {x : DataW H × List MemPlace} {spare : Nat → Bool} {held : Bool}
  (hf : DataW.trod enc Tryz.prog W base spare held fuel 22 cs = some x) : ∃ a b : Int, cs = [.int .i64 a, .int .i64 b] ∧ Ib a ∧ Ib b := by
 obtain ⟨ys, m3, _, _, hcl, hyl, hy⟩ := DataW.trod_array Tryz.underlying22 hf
 rw [cellsI] at hy
 have hcl' : cs.length = 2 := by rw [hcl]; kernel_rfl
 have h0 := hy 0 (by omega)
 have h1 := hy 1 (by omega)
 rw [List.getElem?_eq_getElem (by omega)] at h0 h1
 rw [show 0 * 1 = 0 from rfl, take1 cs 0 (by omega)] at h0
 rw [show 1 * 1 = 1 from rfl, take1 cs 1 (by omega)] at h1
 obtain ⟨a, e0, _, wa⟩ := DataW.trod_int Tryz.underlying3 h0
 obtain ⟨b, e1, _, wb⟩ := DataW.trod_int Tryz.underlying3 h1
 refine ⟨a, b, ?_, bounds_i64 wa, bounds_i64 wb⟩
 simp at e0 e1
 have : cs = [cs[0], cs[1]] := by
  apply List.ext_getElem
  ·simp [hcl']
  ·intro i h1 h2
   match i, h2 with
   | 0, _ => rfl
   | 1, _ => rfl
 rw [this, e0, e1]
/-- Its numbers are ints. -/
structure Sv.Ib (s : Sv) : Prop where
 nu : YthmmmkldmhjogaaGreatDoor.Ib s.nu
 a : YthmmmkldmhjogaaGreatDoor.Ib s.a
 b : YthmmmkldmhjogaaGreatDoor.Ib s.b
 py : ∀ i, i < s.pn → YthmmmkldmhjogaaGreatDoor.Ib (s.P i).id ∧ YthmmmkldmhjogaaGreatDoor.Ib (s.P i).fr ∧ YthmmmkldmhjogaaGreatDoor.Ib (s.P i).am ∧ YthmmmkldmhjogaaGreatDoor.Ib (s.P i).af
 hd : ∀ i, i < s.hn → YthmmmkldmhjogaaGreatDoor.Ib (s.H i).id ∧ YthmmmkldmhjogaaGreatDoor.Ib (s.H i).am ∧ ∀ j, j < (s.H i).n → YthmmmkldmhjogaaGreatDoor.Ib ((s.H i).z j)
/-- A state that came in. -/
theorem state_in {H : Type} {enc : TypeId × Value → H} {W : World} {base fuel : Nat} {cs : List Value} {x : DataW H × List MemPlace} {spare : Nat → Bool} {held : Bool} (hsp : ∀ b, spare b = true)
  (hf : DataW.trod enc Tryz.prog W base spare held fuel 26 cs = some x) (hw : Light 26 x.1) :
  ∃ (s : Sv) (p : Pl), cs = (svv s p).toList ∧ StIn W s p ∧ s.Ib := by
 obtain ⟨xs, m, rfl, rfl, hcl, hxl, hfs⟩ := DataW.trod_struct Tryz.underlying26 hf
 have hcl' : cs.length = 5 := by rw [hcl]; kernel_rfl
 have hxl' : xs.length = 4 := hxl
 have g0 : DataW.trod enc Tryz.prog W base spare held m 3 ((cs.drop 0).take (Tryz.prog.cellsOf 3)) = xs[0]? := hfs 0 _ rfl
 have g1 : DataW.trod enc Tryz.prog W base spare held m 22 ((cs.drop 1).take (Tryz.prog.cellsOf 22)) = xs[1]? := hfs 1 _ rfl
 have g2 : DataW.trod enc Tryz.prog W base spare held m 23 ((cs.drop 3).take (Tryz.prog.cellsOf 23)) = xs[2]? := hfs 2 _ rfl
 have g3 : DataW.trod enc Tryz.prog W base spare held m 24 ((cs.drop 4).take (Tryz.prog.cellsOf 24)) = xs[3]? := hfs 3 _ rfl
 rw [cellsI] at g0
 rw [cells2] at g1
 rw [cellsPs] at g2
 rw [cellsHs] at g3
 rw [take1 cs 0 (by omega), List.getElem?_eq_getElem (by omega)] at g0
 rw [List.getElem?_eq_getElem (by omega)] at g1
 rw [take1 cs 3 (by omega), List.getElem?_eq_getElem (by omega)] at g2
 rw [take1 cs 4 (by omega), List.getElem?_eq_getElem (by omega)] at g3
 have w2 : Light 23 (xs[2]'(by omega)).1 := fun q hq => hw q (by
  simp only [DataW.weights, Tryz.underlying26]
  exact DataW.weights_mem_each (j := 2) (t := 23) (d := (xs[2]'(by omega)).1) rfl (by rw [List.getElem?_map, List.getElem?_eq_getElem (by omega)]; rfl) q hq)
 have w3 : Light 24 (xs[3]'(by omega)).1 := fun q hq => hw q (by
  simp only [DataW.weights, Tryz.underlying26]
  exact DataW.weights_mem_each (j := 3) (t := 24) (d := (xs[3]'(by omega)).1) rfl (by rw [List.getElem?_map, List.getElem?_eq_getElem (by omega)]; rfl) q hq)
 obtain ⟨nu, h0, _, wn⟩ := DataW.trod_int Tryz.underlying3 g0
 obtain ⟨a, b, h1, wa, wb⟩ := two_in g1
 obtain ⟨pa, pn, pc, P, h2, hP, hpl, hpc, hpn, hpb⟩ := pays_in hsp g2 w2
 obtain ⟨ha, hn, hc, HH, h3, hH, hhl, hhc, hhn, hhb⟩ := holds_in hsp g3 w3
 refine ⟨⟨nu, a, b, pn, P, hn, HH⟩, ⟨pa, pc, ha, hc⟩, ?_, ⟨⟨hP, hH, hpc, hhc, hpn, hhn⟩, hpl, hhl, fun i hi => (hhb i hi).1⟩, bounds_i64 wn, wa, wb, hpb, fun i hi => (hhb i hi).2⟩
 simp at h0
 have e0 : cs = cs[0] :: ((cs.drop 1).take 2 ++ [cs[3], cs[4]]) := by
  apply List.ext_getElem
  ·simp [hcl']
  ·intro i h1 h2
   have hi : i < 5 := by omega
   match i, hi with
   | 0, _ => rfl
   | 1, _ => simp [hcl']
   | 2, _ => simp [hcl']
   | 3, _ => simp [hcl']
   | 4, _ => simp [hcl']
 rw [e0, h0, h1, h2, h3]
 rfl
theorem Sv.Ib.ints {W : World} {s : Sv} {p : Pl} (h : s.Ib) (hs : StIn W s p) : s.Ints :=
 ⟨h.nu, h.a, h.b, by have := hs.pn; omega, by have := hs.hn; omega, fun i hi => h.py i hi, fun i hi => ⟨(h.hd i hi).1, (h.hd i hi).2.1, by have := hs.ks i hi; omega, (h.hd i hi).2.2⟩⟩
theorem bytesB : Tryz.prog.bytesOf 5 = 1 := by kernel_rfl
/-- Bytes that came in: how they lie. -/
theorem bytes_in {H : Type} {enc : TypeId × Value → H} {W : World} {base fuel : Nat} {a : Option Addr} {len cap : Nat} {x : DataW H × List MemPlace} {spare : Nat → Bool} {held : Bool} (hsp : ∀ b, spare b = true)
  (hf : DataW.trod enc Tryz.prog W base spare held fuel 27 (Value.slice a len cap).cells.toList = some x) :
  ∃ z : Nat → Int, len ≤ cap ∧ SlAt W a len z ∧ (a = none → len = 0 ∧ cap = 0) ∧ ((x.1 = .nil ∧ cap = 0) ∨ ∃ el sp, x.1 = .slice el sp ∧ el.length + sp.length = cap) := by
 rcases open_ints Tryz.underlying27 Tryz.underlying5 (by kernel_rfl) hf with ⟨hcs, hx⟩ | ⟨ad, l, c, zs, hcs, _, hl, hm, hz, hx, hcell, hwz⟩
 ·simp [Value.cells] at hcs
  obtain ⟨rfl, rfl, rfl⟩ := hcs
  exact ⟨fun _ => 0, Nat.le_refl _, SlAt.zero _ _, fun _ => ⟨rfl, rfl⟩, .inl ⟨by rw [hx], rfl⟩⟩
 ·simp [Value.cells] at hcs
  obtain ⟨rfl, rfl, rfl⟩ := hcs
  rw [hsp, if_pos rfl] at hz
  refine ⟨fun j => zs.getD j 0, hl, ⟨fun j hj => ?_, fun hn => ?_⟩, (fun h => by cases h), .inr ⟨_, _, by rw [hx], ?_⟩⟩
  ·have hjz : j < zs.length := by omega
   have := hwz zs[j] (List.getElem_mem hjz)
   have hb := bounds_u8 this
   simp only [List.getD_eq_getElem?_getD, List.getElem?_eq_getElem hjz, Option.getD_some]
   omega
  ·obtain ⟨b, off, spot⟩ := ad
   have hc := hcell 0 (by omega)
   have hspot : spot = none := by simpa [Addr.add] using World.cell?_spot hc
   subst hspot
   refine ⟨b, off, rfl, fun j hj => ?_⟩
   have := hcell j (by omega)
   rwa [Addr.add_lit] at this
  ·simp [lits, hz]; omega
end Go.Proofs.YthmmmkldmhjogaaGreatDoor
/- Bytes appended to a slice of one's own: one law for every source. -/
namespace Go.Proofs.YthmmmkldmhjogaaGreatDoor
open Go.RowKit

/-- A slice of its own that holds bytes. -/
def Fresh (w w' : World) (ad : Option Addr) (cap : Nat) (l : List Int) : Prop :=
 l.length ≤ cap ∧ SlAt w' ad l.length (fn l) ∧ (ad = none → l.length = 0 ∧ cap = 0) ∧ (∀ a, ad = some a → w.heap.size ≤ a.block) ∧ Below w.heap.size w w'
theorem Fresh.nil {w w' : World} (h : Below w.heap.size w w') : Fresh w w' none 0 [] := ⟨Nat.le_refl _, SlAt.zero _ _, (fun _ => ⟨rfl, rfl⟩), (fun _ h => by cases h), h⟩
def BPost (w : World) (r : List Int × Nat × Int) (e : Ending) (w' : World) : Prop :=
 ∃ ad cap, e = .returned (.tuple #[.slice ad r.1.length cap, .int .i64 r.2.1, errV r.2.2]) ∧ Fresh w w' ad cap r.1
theorem BPost.err {w w' : World} {er : Int} (h : Below w.heap.size w w') : BPost w ([], 0, er) (.returned (.tuple #[.slice none 0 0, .int .i64 0, errV er])) w' := ⟨none, 0, rfl, Fresh.nil h⟩

theorem fn_bd {l : List Int} (h : ∀ x, x ∈ l → 0 ≤ x ∧ x ≤ 255) : ∀ j, j < l.length → 0 ≤ fn l j ∧ fn l j ≤ 255 := fun j hj => by rw [fn_get l j hj]; exact h _ (List.getElem_mem hj)
theorem own_fresh {w w' : World} {ad : Option Addr} {cp : Nat} {l : List Int} (h : w'.ownsRow w.heap.size 5 1 (.slice ad l.length cp) l.length (l.map (Value.int .u8))) (hx : ∀ x, x ∈ l → 0 ≤ x ∧ x ≤ 255) (hb : Below w.heap.size w w') : Fresh w w' ad cp l := by
 rw [map_bl] at h
 obtain ⟨ad', cap', e, h1, h2, h3, h4⟩ := own_SlAt (fn_bd hx) h
 cases e
 exact ⟨h1, h2, h3, h4, hb⟩
theorem own_form {w : World} {B n : Nat} {v : Value} {xs : List Value} (h : w.ownsRow B 5 1 v n xs) : ∃ ad cp, v = .slice ad n cp := by
 rcases h.2 with ⟨rfl, rfl⟩ | ⟨g, cap, cur, rfl, _⟩
 ·exact ⟨none, 0, rfl⟩
 ·exact ⟨_, cap, rfl⟩
/-- What is appended: bytes that lie somewhere, or nothing. -/
def BSrc (w : World) (u : Value) (ys : List Int) : Prop :=
 ∃ ad c, u = .slice ad ys.length c ∧ ((ad = none ∧ ys = []) ∨ ∃ a, ad = some a ∧ ∀ j v, (ys.map (Value.int .u8))[j]? = some v → w.cell? (a.add j) = some v)
/-- A value that owns bytes, made since w0; nothing that was there in w0 has changed. -/
structure Ow (w0 w : World) (v : Value) (L : List Int) : Prop where
 own : w.ownsRow w0.heap.size 5 1 v L.length (L.map (Value.int .u8))
 below : Below w0.heap.size w0 w
 bd : ∀ x, x ∈ L → 0 ≤ x ∧ x ≤ 255

theorem Ow.nil (w : World) : Ow w w (.slice none 0 0) [] := ⟨World.ownsRow_nil _ _ _ _, Below.refl _ _, fun x h => by cases h⟩
theorem Ow.alloc {w0 w : World} {v : Value} {L : List Int} (h : Ow w0 w v L) (o : Obj) : Ow w0 (w.alloc o) v L := ⟨h.own.alloc _, h.below.alloc h.below.size _, h.bd⟩
theorem Ow.drew {w0 w : World} {v : Value} {L : List Int} (h : Ow w0 w v L) : Ow w0 w.drew v L := ⟨h.own.drew, h.below.drew, h.bd⟩
theorem Ow.le {w0 w : World} {v : Value} {L : List Int} (h : Ow w0 w v L) : w0.heap.size ≤ w.heap.size := h.below.size
theorem Ow.mono {w w0 w1 : World} {v : Value} {L : List Int} (h : Ow w0 w1 v L) (hb : Below w.heap.size w w0) : Ow w w1 v L := by
 refine ⟨⟨h.own.1, ?_⟩, hb.trans (h.below.mono hb.size), h.bd⟩
 rcases h.own.2 with hn | ⟨g, cap, cur, e, hbs, rest⟩
 ·exact .inl hn
 ·exact .inr ⟨g, cap, cur, e, Nat.le_trans hb.size hbs, rest⟩
theorem Ow.src {w0 w w' : World} {v : Value} {L : List Int} (h : Ow w0 w v L) (hb : Below w.heap.size w w') : BSrc w' v L := by
 have hown := h.own
 rcases h.own.2 with ⟨rfl, hl⟩ | ⟨g, cap, cur, rfl, hbs, hg, rest⟩
 ·have : L = [] := List.eq_nil_of_length_eq_zero hl
  subst this
  exact ⟨none, 0, rfl, .inl ⟨rfl, rfl⟩⟩
 ·refine ⟨some ⟨g, 0, none⟩, cap, rfl, .inr ⟨_, rfl, fun j u hu => ?_⟩⟩
  have h1 := hown.cells (g := g) rfl j u hu
  rw [Addr.add_lit] at h1 ⊢
  rw [hb.cell (p := ⟨g, 0 + j, none⟩) (World.block_lt_of_cell? w _ h1)]
  exact h1
theorem SlAt.src {w : World} {ad : Option Addr} {l : List Int} {cap : Nat} (h : SlAt w ad l.length (fn l)) (hn : ad = none → l.length = 0 ∧ cap = 0) : BSrc w (.slice ad l.length cap) l := by
 refine ⟨ad, cap, rfl, ?_⟩
 cases ad with
 | none => exact .inl ⟨rfl, List.eq_nil_of_length_eq_zero (hn rfl).1⟩
 | some a =>
  refine .inr ⟨a, rfl, fun j v hv => ?_⟩
  have hj : j < l.length := by simpa using (List.getElem?_eq_some_iff.1 hv).1
  obtain ⟨b, off, e, hc⟩ := h.2 (by omega)
  cases e
  rw [Addr.add_lit, hc j hj, fn_get l j hj]
  simp [hj] at hv
  rw [hv]
theorem one_src (w : World) (x : Int) : BSrc (w.alloc (.cells #[.int .u8 x] 5)) (.slice (some ⟨w.heap.size, 0, none⟩) 1 1) [x] :=
 ⟨_, 1, rfl, .inr ⟨_, rfl, World.news_of_block (cs := #[.int .u8 x]) (t := 5) (fr := (0, 0)) (heap_alloc_new w _)⟩⟩
theorem hash_src {w : World} {g : Nat} {z : Nat → Int} {t : TypeId} {l : List Int} (hl : l.map (Value.int .u8) = bl z 32) (hg : w.heap[g]? = some (.cells (bl z 32).toArray t (0, 0))) : BSrc w (.slice (some ⟨g, 0, none⟩) 32 32) l := by
 have h32 : l.length = 32 := by have := congrArg List.length hl; simpa [bl_length] using this
 refine ⟨_, 32, by rw [h32], .inr ⟨_, rfl, ?_⟩⟩
 rw [hl]
 have := World.news_of_block hg
 simpa using this

theorem run_append_B (w w0 : World) (ty : TypeId) (v u : Value) (L ys : List Int) (hown : Ow w0 w v L) (hu : BSrc w u ys) (hy : ∀ y, y ∈ ys → 0 ≤ y ∧ y ≤ 255) (hlen : L.length + ys.length ≤ 140737488355328) :
  ∃ v' w1, (Builtin.append_ #[27, 27] ty #[v, u]).run Tryz.prog w = .ok v' w1 ∧ Ow w0 w1 v' (L ++ ys) := by
 obtain ⟨i0, hi0, hz0, hz1, hz2⟩ := info_parts Tryz.infoB
 have hbd : ∀ x, x ∈ L ++ ys → 0 ≤ x ∧ x ≤ 255 := fun x hx => by
  rcases List.mem_append.1 hx with h | h
  ·exact hown.bd x h
  ·exact hy x h
 obtain ⟨ad, c, rfl, ⟨rfl, rfl⟩ | ⟨a, rfl, hc⟩⟩ := hu
 ·refine ⟨v, w, ?_, by simpa using hown⟩
  rcases hown.own.2 with ⟨rfl, hl⟩ | ⟨g, cap, cur, rfl, hbs, hg, hcap, _⟩
  ·simp [Builtin.append_, run_underlying Tryz.underlying27, sizeOf, typeInfo, hi0, Builtin.lenOf, Builtin.firstCells]
  ·have := run_append_room_src (P := Tryz.prog) w 27 27 ty 5 i0 Tryz.underlying27 hi0 g 0 L.length cap (.slice none 0 c) 0 [] (Src.ofNil w Tryz.underlying27 c) (by omega) (fun j hj => by simp at hj) (fun j hj => by simp at hj)
   simpa [World.setCells] using this
 ·obtain ⟨v', w1, hr, h2, h3, _, h5⟩ := run_append_own_at (P := Tryz.prog) w w0.heap.size 27 ty 5 i0 (.int .u8 0) 1 1 Tryz.underlying27 hi0 hz0 hz1 hz2 rfl (by decide) v L.length (L.map (Value.int .u8)) hown.own a ys.length c (ys.map (Value.int .u8)) (by simp) hc
   (fun u hu => by obtain ⟨y, _, rfl⟩ := List.mem_map.1 hu; rfl) (by simp only [maxLen]; omega) (by omega) hown.le
  refine ⟨v', w1, hr, ⟨by simpa using h2, hown.below.grown h3 hown.le (fun k hk => ?_), hbd⟩⟩
  rcases hown.own.2 with ⟨rfl, _⟩ | ⟨g, cap, cur, rfl, hbs, _⟩
  ·simp [Value.ownBlock] at hk
  ·have : g = k := by simpa [Value.ownBlock] using hk
   omega

section
variable {ops : Array Oper} {rest : List Oper} {o : Oper} {a : Act} {w : World} {Q : Exit → Act → World → Prop}
/-- 'append(v, u...)' at the list of a plain region's operations. -/
theorem wpList_append_B (hgd : o.guard = none) (s x : Operand) (ho : o.op = .call { callee := .builtin .append, args := #[s, x], argTypes := #[27, 27] })
  (w0 : World) (v u : Value) (L ys : List Int) (hs : a.eval s = v) (hx : a.eval x = u) (hown : Ow w0 w v L) (hu : BSrc w u ys) (hy : ∀ y, y ∈ ys → 0 ≤ y ∧ y ≤ 255) (hlen : L.length + ys.length ≤ 140737488355328)
  (h : ∀ v' w1, Ow w0 w1 v' (L ++ ys) → wpList Tryz.prog ops Q rest (a.put o.dst v') w1) : wpList Tryz.prog ops Q (o :: rest) a w := by
 obtain ⟨v', w1, hr, h2⟩ := run_append_B w w0 o.type v u L ys hown hu hy hlen
 refine wpList_plain hgd fun K hK => ?_
 unfold Oper.wp execOp
 simp only [ho, resolve, invoke, builtin, Sem.run_bind, Sem.run_pure, Result.andThen_ok, List.map_toArray, List.map_cons, List.map_nil, hs, hx, hr]
 exact hK _ _ (h v' w1 h2)
end
theorem Ow.form {w0 w : World} {v : Value} {L : List Int} (h : Ow w0 w v L) : ∃ ad cp, v = .slice ad L.length cp := own_form h.own
theorem Ow.fresh {w0 w : World} {ad : Option Addr} {cp : Nat} {L : List Int} (h : Ow w0 w (.slice ad L.length cp) L) : Fresh w0 w ad cp L := own_fresh h.own h.bd h.below

set_option maxHeartbeats 400000 in
theorem refOwn_any (ad : Option Addr) (l : List Int) (cap : Nat) (w : World) (hs : SlAt w ad l.length (fn l)) (hnil : ad = none → l.length = 0 ∧ cap = 0) (hn : l.length ≤ 140737488355328) :
  Calls Tryz.prog 67 #[.slice ad l.length cap] w fun e w' => ∃ v, e = .returned v ∧ Ow w w' v l := by
 have HS : Hid (BSrc w (.slice ad l.length cap) l) := SlAt.src hs hnil
 have HB : Hid (∀ x, x ∈ l → 0 ≤ x ∧ x ≤ 255) := fun x hx => by
  obtain ⟨j, hj, rfl⟩ := List.mem_iff_getElem.1 hx
  have := hs.1 j hj
  rwa [fn_get l j hj] at this
 clear hs hnil
 go_enter Tryz.func67, Tryz.ntmps67
 go_wp2_with (at_builtin; refine wpList_append_B rfl _ _ rfl w _ _ [] l rfl rfl (Ow.nil w) HS.out HB.out (by simpa using hn) ?_; intro v w1 hO)
 go_ret
 exact ⟨v, rfl, by simpa using hO⟩
end Go.Proofs.YthmmmkldmhjogaaGreatDoor
/- What the document lays: numbers' digits, numbers, ints, bytes, sums. -/
namespace Go.Proofs.YthmmmkldmhjogaaGreatDoor
open Go.RowKit

/-- The last q digits of a number, the highest first. -/
def lastD (n : Int) (q : Nat) : List Int := (List.range q).map fun j => n / 256 ^ (q - 1 - j) % 256
theorem lastD_length (n : Int) (q : Nat) : (lastD n q).length = q := by simp [lastD]
theorem lastD_succ (n : Int) (q : Nat) : lastD n (q + 1) = (n / 256 ^ q % 256) :: lastD n q := by
 unfold lastD
 rw [List.range_succ_eq_map, List.map_cons, List.map_map]
 congr 1
 apply List.map_congr_left
 intro j hj
 have : j < q := by simpa using hj
 show n / 256 ^ (q + 1 - 1 - (j + 1)) % 256 = _
 rw [show q + 1 - 1 - (j + 1) = q - 1 - j from by omega]
theorem lastD_bd (n : Int) (q : Nat) : ∀ x, x ∈ lastD n q → 0 ≤ x ∧ x ≤ 255 := by
 intro x hx
 simp only [lastD, List.mem_map] at hx
 obtain ⟨j, _, rfl⟩ := hx
 omega
theorem lastD_dgs (n : Int) : lastD n (sz n) = dgs false n (sz n) (sz n) := by
 unfold lastD dgs
 apply List.map_congr_left
 intro j _
 simp [dgt, trn]
theorem sz_is (n : Int) (q : Nat) (h0 : 0 ≤ n) (h8 : q ≤ 8) (hz : n / 256 ^ q = 0) (hp : q = 0 ∨ 0 < n / 256 ^ (q - 1)) : sz n = q := by
 have hc : q = 0 ∨ q = 1 ∨ q = 2 ∨ q = 3 ∨ q = 4 ∨ q = 5 ∨ q = 6 ∨ q = 7 ∨ q = 8 := by omega
 rcases hc with h | h | h | h | h | h | h | h | h <;> subst h <;> simp only [Nat.reduceSub, Int.reducePow, Nat.reduceEqDiff, false_or, true_or] at hz hp <;> unfold sz <;> repeat' split
 all_goals omega
theorem div_step (n : Int) (q : Nat) : n / 256 ^ q / 256 = n / 256 ^ (q + 1) := by
 rw [Int.pow_succ, Int.ediv_ediv_of_nonneg (Int.le_of_lt (Int.pow_pos (by decide)))]
theorem div_bd (n : Int) (q : Nat) (h0 : 0 ≤ n) (h1 : n ≤ 18446744073709551615) : 0 ≤ n / 256 ^ q ∧ n / 256 ^ q ≤ 18446744073709551615 := by
 have hp : (0 : Int) < 256 ^ q := Int.pow_pos (by decide)
 refine ⟨Int.ediv_nonneg h0 (Int.le_of_lt hp), ?_⟩
 exact Int.le_trans (Int.ediv_le_self _ h0) h1
theorem div_8 (n : Int) (q : Nat) (h0 : 0 ≤ n) (h1 : n ≤ 18446744073709551615) (hq : q ≤ 8) (hp : 0 < n / 256 ^ q) : q < 8 := by
 rcases Nat.lt_or_ge q 8 with h | h
 ·exact h
 ·have : q = 8 := by omega
  subst this
  simp only [Int.reducePow] at hp
  omega

set_option maxRecDepth 100000 in
set_option maxHeartbeats 1600000 in
theorem refDigits_own (n : Int) (w : World) (h0 : 0 ≤ n) (h1 : n ≤ 18446744073709551615) :
  Calls Tryz.prog 66 #[.int .u64 n] w fun e w' => ∃ v, e = .returned v ∧ Ow w w' v (dgs false n (sz n) (sz n)) := by
 have H0 : Hid (0 ≤ n ∧ n ≤ 18446744073709551615) := ⟨h0, h1⟩
 clear h0 h1
 go_enter Tryz.func66, Tryz.ntmps66
 go_wp2
 go_loopw [0, 3] (fun nv v wr => ∃ (q : Nat) (vo : Value), q ≤ 8 ∧ (q = 0 ∨ 0 < n / 256 ^ (q - 1)) ∧ nv = .int .u64 (n / 256 ^ q) ∧ v = vo ∧ Ow w wr vo (lastD n q)) (fun nv _ _ => (intOf nv).toNat)
 case atStart => exact ⟨0, _, by omega, .inl rfl, by simp, rfl, Ow.nil w⟩
 case round =>
  obtain ⟨q, vo, hq, hp, rfl, hv, hO⟩ := hrel
  have hv' := hv.symm
  subst hv'
  clear hv
  have hb := div_bd n q H0.out.1 H0.out.2
  have hst := div_step n q
  have HP8 := fun h => div_8 n q H0.out.1 H0.out.2 hq h
  generalize hm : n / 256 ^ q = m at *
  have HM : Hid (n / 256 ^ q = m) := hm
  have HP : Hid (q = 0 ∨ 0 < n / 256 ^ (q - 1)) := hp
  have HST : Hid (m / 256 = n / 256 ^ (q + 1)) := hst
  have HO : Hid (Ow w wr vo (lastD n q)) := hO
  have hlen := lastD_length n q
  clear hm hp hst hO
  by_cases hpos : 0 < m
  ·have hq8 := HP8 hpos
   have hg : decide (m > 0) = true := by simpa using hpos
   have hr : m.tmod 256 = m % 256 := Int.tmod_eq_emod_of_nonneg hb.1
   have hd : m.tdiv 256 = m / 256 := Int.tdiv_eq_ediv_of_nonneg hb.1
   clear HP8
   go_wp2_with (first
    | (at_builtin; refine wpList_append_B rfl (.tmp 7) (.tmp 11) rfl wr _ _ [] [m % 256] rfl rfl ((Ow.nil wr).alloc _) (one_src wr _) (by intro y hy; rw [List.mem_singleton.1 hy]; omega) (by simp) ?_; intro v1 w1 hO1)
    | (at_builtin; refine wpList_append_B rfl (.tmp 12) (.tmp 13) rfl wr _ _ _ (lastD n q) rfl rfl hO1 (HO.out.src hO1.below) (lastD_bd n q) (by rw [hlen]; simp; omega) ?_; intro v2 w2 hO2)
    | fail)
   go_roundw
   case rel =>
    refine ⟨q + 1, _, by omega, .inr (by rw [Nat.add_sub_cancel, HM.out]; exact hpos), by rw [← HST.out], rfl, ?_⟩
    rw [lastD_succ, HM.out]
    exact hO2.mono HO.out.below
   case measure => simp [intOf]; omega
  ·have hg : decide (m > 0) = false := by simpa using hpos
   have hm0 : n / 256 ^ q = 0 := by rw [HM.out]; omega
   have HSZ : Hid (sz n = q) := sz_is n q H0.out.1 hq hm0 HP.out
   clear hm0
   go_wp2
   go_ret
   refine ⟨vo, rfl, ?_⟩
   rw [← lastD_dgs, HSZ.out]
   exact HO.out
theorem refDigits_any (n : Int) (w : World) (h0 : 0 ≤ n) (h1 : n ≤ 18446744073709551615) :
  Calls Tryz.prog 66 #[.int .u64 n] w fun e w' => ∃ da dc, e = .returned (.slice da (sz n) dc) ∧ Ow w w' (.slice da (sz n) dc) (dgs false n (sz n) (sz n)) := by
 refine (refDigits_own n w h0 h1).mono fun e w' ⟨v, h, hO⟩ => ?_
 obtain ⟨da, dc, e1⟩ := hO.form
 rw [dgs_length] at e1
 subst e1
 exact ⟨da, dc, h, hO⟩
theorem dgs_bd (t : Bool) (n : Int) (k q : Nat) : ∀ x, x ∈ dgs t n k q → 0 ≤ x ∧ x ≤ 255 := by
 intro x hx
 simp only [dgs, List.mem_map] at hx
 obtain ⟨j, _, rfl⟩ := hx
 exact dgt_bd t n k j
theorem SlAt.below {w w' : World} {ad : Option Addr} {n : Nat} {z : Nat → Int} (h : SlAt w ad n z) (hb : Below w.heap.size w w') : SlAt w' ad n z := h.frm (S := []) (Frm.ofBelow hb) (by simp)

set_option maxRecDepth 100000 in
set_option maxHeartbeats 1600000 in
theorem refUint_any (ad : Option Addr) (l : List Int) (cap : Nat) (n : Int) (w : World) (hs : SlAt w ad l.length (fn l)) (hnil : ad = none → l.length = 0 ∧ cap = 0) (hn : l.length + 64 ≤ 140737488351232) (h0 : 0 ≤ n) (h1 : n ≤ 18446744073709551615) :
  Calls Tryz.prog 45 #[.slice ad l.length cap, .int .u64 n] w fun e w' => ∃ v, e = .returned v ∧ Ow w w' v (l ++ uB n) := by
 have HS : Hid (SlAt w ad l.length (fn l)) := hs
 have HU : Hid (uB n = (sz n : Int) :: dgs false n (sz n) (sz n)) := rfl
 have hlen := dgs_length false n (sz n) (sz n)
 have hk := sz_le n
 clear hs
 go_enter Tryz.func45, Tryz.ntmps45
 go_wp2_with (first
  | (go_at_call 66; refine (refDigits_any n _ h0 h1).mono ?_; rintro e w1 ⟨da, dc, rfl, hD⟩)
  | (go_at_call 67; refine (refOwn_any ad l cap _ (HS.out.below hD.below) hnil (by omega)).mono ?_; rintro e w2 ⟨vo, rfl, hO⟩)
  | (at_builtin; refine wpList_append_B rfl (.tmp 9) (.tmp 13) rfl w1 _ _ l [(sz n : Int)] rfl rfl (hO.alloc _) (one_src w2 _) (by intro y hy; rw [List.mem_singleton.1 hy]; omega) (by simp; omega) ?_; intro v1 w3 hO1)
  | (at_builtin; refine wpList_append_B rfl (.tmp 14) (.tmp 15) rfl w1 _ _ _ (dgs false n (sz n) (sz n)) rfl rfl hO1 (hD.src hO1.below) (dgs_bd _ _ _ _) (by rw [hlen]; simp; omega) ?_; intro v2 w4 hO2)
  | fail)
 go_ret
 refine ⟨v2, rfl, ?_⟩
 rw [HU.out]
 simpa using hO2.mono hD.below

end Go.Proofs.YthmmmkldmhjogaaGreatDoor
/- The document's Hash. -/
namespace Go.Proofs.YthmmmkldmhjogaaGreatDoor
open Go.RowKit
attribute [local go_sem ↓] Go.wp_at_zero Go.wp_at_succ
theorem step_append_B {ops : Array Oper} {o : Oper} {a : Act} {w : World} {K : Act → World → Prop} {Q : Exit → Act → World → Prop} {E : Prop} (hgd : o.guard = none) (s x : Operand) (ho : o.op = .call { callee := .builtin .append, args := #[s, x], argTypes := #[27, 27] })
  (w0 : World) (v u : Value) (L ys : List Int) (hs : a.eval s = v) (hx : a.eval x = u) (hown : Ow w0 w v L) (hu : BSrc w u ys) (hy : ∀ y, y ∈ ys → 0 ≤ y ∧ y ≤ 255) (hlen : L.length + ys.length ≤ 140737488355328)
  (h : ∀ v' w1, Ow w0 w1 v' (L ++ ys) → K (a.put o.dst v') w1) : if Region.wanted o (yielded ops a.tmps) = true then Oper.wp Tryz.prog o a w K Q else E := by
 have hw : Region.wanted o (yielded ops a.tmps) = true := by simp [Region.wanted, hgd]
 rw [if_pos hw]
 obtain ⟨v', w1, hr, h2⟩ := run_append_B w w0 o.type v u L ys hown hu hy hlen
 unfold Oper.wp execOp
 simp only [ho, resolve, invoke, builtin, Sem.run_bind, Sem.run_pure, Result.andThen_ok, List.map_toArray, List.map_cons, List.map_nil, hs, hx, hr]
 exact h v' w1 h2
theorem Ow.old {w0 w : World} {v : Value} {L : List Int} (h : Ow w0 w v L) {k : Nat} {ob : Obj} (hk : w0.heap[k]? = some ob) : w.heap[k]? = some ob := by
 rw [h.below.block k (lt_of_block hk)]; exact hk
set_option maxRecDepth 100000 in
set_option maxHeartbeats 1600000 in
theorem refHash_any (ad : Option Addr) (l : List Int) (cap : Nat) (z : Nat → Int) (w : World) (hs : SlAt w ad l.length (fn l)) (hnil : ad = none → l.length = 0 ∧ cap = 0) (hn : l.length + 64 ≤ 140737488351232) (hz : ∀ j, j < 32 → 0 ≤ z j ∧ z j ≤ 255) :
  Calls Tryz.prog 46 #[.slice ad l.length cap, .agg (hv z)] w fun e w' => ∃ v, e = .returned v ∧ Ow w w' v (l ++ hB z) := by
 have HS : Hid (SlAt w ad l.length (fn l)) := hs
 have HN : Hid ((w.alloc (.cells (hv z) 48)).heap[w.heap.size]? = some (.cells (hv z) 48 (0, 0))) := heap_alloc_new w (.cells (hv z) 48)
 have HZ : Hid (∀ y, y ∈ hB z → 0 ≤ y ∧ y ≤ 255) := by
  intro y hy
  simp [hB] at hy
  obtain ⟨j, hj, rfl⟩ := hy
  exact hz j hj
 have hbl : Below w.heap.size w (w.alloc (.cells (hv z) 48)) := (Below.refl _ w).alloc (Nat.le_refl _) _
 clear hs hz
 go_enter Tryz.func46, Tryz.ntmps46
 go_wp2_with (first | (refine Go.Great.wpList_boxTo rfl _ _ rfl _ rfl _ rfl (hv z) rfl ?_) | fail)
 go_region_law (first
  | (refine step_append_B rfl (.tmp 6) (.tmp 7) rfl (w.alloc (.cells (hv z) 48)).drew _ _ l (hB z) (by rfl) (by rfl) hO (hash_src (hB_bl z) (hO.old HN.out)) HZ.out (by rw [hB_length]; omega) ?_; intro v2 w3 hO2)
  | (go_simp; go_at_call 67; refine (refOwn_any ad l cap _ ((HS.out.below hbl).below (Below.refl _ _).drew) hnil (by omega)).mono ?_; rintro e w2 ⟨vo, rfl, hO⟩))
 all_goals
  have hR := (hO2.mono (Below.refl _ _).drew).mono hbl
  clear hO hO2
  go_wp2
  go_ret
  exact ⟨v2, rfl, hR⟩
end Go.Proofs.YthmmmkldmhjogaaGreatDoor
