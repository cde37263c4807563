/- TimerRuns on the landed queue; acts that came in. -/
import Derived.Test.YthnobkiiaflelaaDoorOwnShelf51
import Derived.Test.YthnobkiiaflelaaDoorOwnShelf48
import Derived.Test.YthnobkiiaflelaaDoorOwnShelf49
import Derived.Deep.Slices
namespace Go.Proofs.YthnobkiiaflelaaDoor
open Go.ChangeShapes Go.WideShapes Go.RowKit Go.ChangeAt

theorem weights_mem_all12 {H : Type} {P : Program} {t : TypeId} : ∀ {l : List (DataW H)} {d : DataW H}, d ∈ l → ∀ q ∈ d.weights P t, q ∈ DataW.weightsAll P t l
  | d0 :: l, d, hd, q, hq => by
    simp only [DataW.weightsAll, List.mem_append]
    rcases List.mem_cons.1 hd with rfl | h
    · exact Or.inl hq
    · exact Or.inr (weights_mem_all12 h q hq)
theorem take12 {α : Type} (l : List α) (i : Nat) (h : i < l.length) : (l.drop i).take 1 = [l[i]] := by
  rw [List.drop_eq_getElem_cons h]; rfl
instance : Inhabited Ac := ⟨⟨0, 0, []⟩⟩
/-- One, of its three cells. -/
def Ac.l (x : Ac) : List Value := [.int .i64 x.k, .int .i64 x.n, encStr x.nm]
set_option maxRecDepth 100000 in
theorem act12_in {H : Type} {enc : TypeId × Value → H} {W : World} {base fuel : Nat} {cs : List Value} {x : DataW H × List MemPlace} {spare : Nat → Bool} {held : Bool}
    (hf : DataW.trod enc Tryd.prog W base spare held fuel 41 cs = some x) :
    ∃ t : Ac, cs = t.l ∧ (-9223372036854775808 ≤ t.n ∧ t.n ≤ 9223372036854775807) ∧ t.nm.length ≤ maxLen := by
  obtain ⟨xs, m, rfl, rfl, hcl, hxl, hfs⟩ := DataW.trod_struct Tryd.underlying41 hf
  have hcl' : cs.length = 3 := by rw [hcl]; kernel_rfl
  have hxl' : xs.length = 3 := hxl
  have g0 : DataW.trod enc Tryd.prog W base spare held m 3 ((cs.drop 0).take (Tryd.prog.cellsOf 3)) = xs[0]? := hfs 0 _ rfl
  have g1 : DataW.trod enc Tryd.prog W base spare held m 3 ((cs.drop 1).take (Tryd.prog.cellsOf 3)) = xs[1]? := hfs 1 _ rfl
  have g2 : DataW.trod enc Tryd.prog W base spare held m 9 ((cs.drop 2).take (Tryd.prog.cellsOf 9)) = xs[2]? := hfs 2 _ rfl
  have c3 : Tryd.prog.cellsOf 3 = 1 := by kernel_rfl
  have cS : Tryd.prog.cellsOf 9 = 1 := by kernel_rfl
  rw [c3] at g0 g1
  rw [cS] at g2
  rw [take12 cs 0 (by omega), List.getElem?_eq_getElem (by omega)] at g0
  rw [take12 cs 1 (by omega), List.getElem?_eq_getElem (by omega)] at g1
  rw [take12 cs 2 (by omega), List.getElem?_eq_getElem (by omega)] at g2
  obtain ⟨k, h0, _, _⟩ := DataW.trod_int Tryd.underlying3 g0
  obtain ⟨n, h1, _, w1⟩ := DataW.trod_int Tryd.underlying3 g1
  obtain ⟨s, h2, _, w2⟩ := DataW.trod_string Tryd.underlying9 g2
  refine ⟨⟨k, n, s.data.toList⟩, ?_, ?_, ?_⟩
  · simp at h0 h1 h2
    apply List.ext_getElem
    · rw [hcl']; rfl
    · intro i hi _
      rw [hcl'] at hi
      simp only [Ac.l, encStr]
      match i, hi with
      | 0, _ => simpa using h0
      | 1, _ => simpa using h1
      | 2, _ => simpa using h2
  · exact bounds_i64 w1
  · show s.data.toList.length ≤ maxLen
    rw [Array.length_toList]; exact w2
theorem bytesAc : Tryd.prog.bytesOf 41 = 32 := by kernel_rfl
set_option maxRecDepth 100000 in
/-- Acts that came in: how they lie. -/
theorem acts12_in {H : Type} {enc : TypeId × Value → H} {W : World} {base fuel : Nat} {a : Option Addr} {len cap : Nat} {x : DataW H × List MemPlace} {spare : Nat → Bool} {held : Bool} (hsp : ∀ b, spare b = true)
    (hf : DataW.trod enc Tryd.prog W base spare held fuel 22 (Value.slice a len cap).cells.toList = some x) (hw : Light 22 x.1) :
    ∃ xs : List Ac, len = xs.length ∧ xs.length ≤ 140737488355328 ∧ AcL W a xs ∧ ∀ y ∈ xs, (-9223372036854775808 ≤ y.n ∧ y.n ≤ 9223372036854775807) ∧ y.nm.length ≤ maxLen := by
  rcases Go.Deep.open_slice Tryd.underlying22 hf with ⟨hcs, hx⟩ | ⟨ad, l, c, m, n, D, Pl, hcs, _, hl, hcm, hm, hx, hcell⟩
  · simp [Value.cells] at hcs
    obtain ⟨rfl, rfl, rfl⟩ := hcs
    exact ⟨[], rfl, by simp, (fun h => by simp at h), fun y hy => by cases hy⟩
  · simp [Value.cells] at hcs
    obtain ⟨rfl, rfl, rfl⟩ := hcs
    rw [hsp, if_pos rfl] at hm
    subst hm
    have cT : Tryd.prog.cellsOf 41 = 3 := by kernel_rfl
    rw [cT] at hcell
    have each : ∀ i, i < len → ∃ t : Ac, W.cells? base (ad.add (i * 3)) 3 = some t.l ∧ (-9223372036854775808 ≤ t.n ∧ t.n ≤ 9223372036854775807) ∧ t.nm.length ≤ maxLen := by
      intro i hi
      obtain ⟨cs', h1, h2⟩ := hcell i (by omega)
      obtain ⟨t, rfl, h3⟩ := act12_in h2
      exact ⟨t, h1, h3⟩
    obtain ⟨X, hX⟩ := Go.Deep.choose_lt each
    have hlen : ((List.range len).map X).length = len := by simp
    refine ⟨(List.range len).map X, hlen.symm, ?_, fun hn => ?_, fun y hy => ?_⟩
    · rw [hlen]
      have h1 := hw _ (by rw [hx]; unfold DataW.weights; rw [Tryd.underlying22]; exact List.mem_cons_self)
      rw [bytesAc] at h1
      simp at h1
      omega
    · rw [hlen] at hn
      obtain ⟨b, off, spot⟩ := ad
      obtain ⟨_, _, h0⟩ := World.cells?_some (hX 0 (by omega)).1
      have h0' := h0 0 (by omega)
      have hc0 : W.cell? ⟨b, off, spot⟩ = some (.int .i64 (X 0).k) := by simpa [Addr.add, Ac.l] using h0'
      have hspot : spot = none := World.cell?_spot hc0
      subst hspot
      refine ⟨b, off, rfl, fun j y hj => ?_⟩
      have hjl : j < len := by have := (List.getElem?_eq_some_iff.1 hj).1; rwa [hlen] at this
      have hy : y = X j := by simp [hjl] at hj; exact hj.symm
      subst hy
      obtain ⟨_, _, h1⟩ := World.cells?_some (hX j hjl).1
      have hh : ∀ q v, q < 3 → (X j).l[q]? = some v → W.cell? ⟨b, off + j * 3 + q, none⟩ = some v := fun q v hq hv => by
        have h2 := h1 q hq
        rw [Addr.add_lit, Addr.add_lit, hv] at h2
        exact h2
      exact ⟨hh 0 _ (by omega) rfl, hh 1 _ (by omega) rfl, hh 2 _ (by omega) rfl⟩
    · obtain ⟨j, hj, rfl⟩ := List.mem_map.1 hy
      exact (hX j (List.mem_range.1 hj)).2
theorem runs_card (xd : Option Addr) (xcap : Nat) (xs : List Ac) (w : World) (hg : Glob w) (hl : xs.length ≤ 140737488355328) (hx : AcL w xd xs) (hxb : ∀ y ∈ xs, (-9223372036854775808 ≤ y.n ∧ y.n ≤ 9223372036854775807) ∧ y.nm.length ≤ maxLen) :
    Calls Tryd.prog 3 #[.slice xd xs.length xcap] w fun e w' => e = .returned (.bool true) ∧ Below w.heap.size w w' :=
  runs_any qk xd xcap xs w hg hx hl hxb
end Go.Proofs.YthnobkiiaflelaaDoor
