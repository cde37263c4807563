/- Things: how they lie where they came in. -/
import Derived.Test.YtmgjipemgdgjdaaGivenP
import Derived.Test.YtmgjipemgdgjdaaHashKit
import Derived.Deep.Slices
namespace Go.Proofs.Ytmgjipemgdgjdaa
open Go.ChangeShapes Go.WideShapes Go.RowKit Go.ChangeAt

/-- A thing: its kind, its number, its bytes z (where they lie), its sum h. -/
structure Th where
  k : Int
  n : Int
  a : Option Addr
  len : Nat
  cap : Nat
  z : Nat → Int
  h : Nat → Int
instance : Inhabited Th := ⟨⟨0, 0, none, 0, 0, fun _ => 0, fun _ => 0⟩⟩
/-- Its 35 cells. -/
def Th.l (x : Th) : List Value := .int .i64 x.k :: .int .i64 x.n :: .slice x.a x.len x.cap :: bl x.h 32
def Th.v (x : Th) : Array Value := x.l.toArray
structure ThOk (w : World) (x : Th) : Prop where
  k : -9223372036854775808 ≤ x.k ∧ x.k ≤ 9223372036854775807
  n : -9223372036854775808 ≤ x.n ∧ x.n ≤ 9223372036854775807
  cap : x.len ≤ x.cap
  b : SlAt w x.a x.len x.z
  nil : x.a = none → x.len = 0 ∧ x.cap = 0
  h : ∀ j, j < 32 → 0 ≤ x.h j ∧ x.h j ≤ 255
theorem Th.l_length (x : Th) : x.l.length = 35 := by simp [Th.l, bl_length]
theorem Th.v_size (x : Th) : x.v.size = 35 := by simp [Th.v, Th.l_length]

theorem take1 {α : Type} (l : List α) (i : Nat) (h : i < l.length) : (l.drop i).take 1 = [l[i]] := by
  rw [List.drop_eq_getElem_cons h]; rfl

/-- One thing, of its 35 cells. -/
theorem thing_in {H : Type} {enc : TypeId × Value → H} {W : World} {base fuel : Nat} {cs : List Value} {x : DataW H × List MemPlace} {spare : Nat → Bool} {held : Bool} (hsp : ∀ b, spare b = true)
    (hf : DataW.trod enc Try.prog W base spare held fuel 30 cs = some x) : ∃ t : Th, cs = t.l ∧ ThOk W t ∧ t.len ≤ Rows.uptoBulk x.1 := by
  obtain ⟨xs, m, rfl, rfl, hcl, hxl, hfs⟩ := DataW.trod_struct Try.underlying30 hf
  have hcl' : cs.length = 35 := by rw [hcl]; kernel_rfl
  have hxl' : xs.length = 4 := hxl
  have g0 : DataW.trod enc Try.prog W base spare held m 3 ((cs.drop 0).take (Try.prog.cellsOf 3)) = xs[0]? := hfs 0 _ rfl
  have g1 : DataW.trod enc Try.prog W base spare held m 3 ((cs.drop 1).take (Try.prog.cellsOf 3)) = xs[1]? := hfs 1 _ rfl
  have g2 : DataW.trod enc Try.prog W base spare held m 25 ((cs.drop 2).take (Try.prog.cellsOf 25)) = xs[2]? := hfs 2 _ rfl
  have g3 : DataW.trod enc Try.prog W base spare held m 28 ((cs.drop 3).take (Try.prog.cellsOf 28)) = xs[3]? := hfs 3 _ rfl
  have c3 : Try.prog.cellsOf 3 = 1 := by kernel_rfl
  have cB : Try.prog.cellsOf 25 = 1 := by kernel_rfl
  have cH : Try.prog.cellsOf 28 = 32 := by kernel_rfl
  have cb : Try.prog.cellsOf 5 = 1 := by kernel_rfl
  rw [c3] at g0 g1
  rw [cB] at g2
  rw [cH] at g3
  rw [take1 cs 0 (by omega), List.getElem?_eq_getElem (by omega)] at g0
  rw [take1 cs 1 (by omega), List.getElem?_eq_getElem (by omega)] at g1
  rw [take1 cs 2 (by omega), List.getElem?_eq_getElem (by omega)] at g2
  rw [List.getElem?_eq_getElem (by omega)] at g3
  obtain ⟨k, h0, _, w0⟩ := DataW.trod_int Try.underlying3 g0
  obtain ⟨n, h1, _, w1⟩ := DataW.trod_int Try.underlying3 g1
  obtain ⟨a, len, cap, z, h2, hlc, hs, hnil, hbk⟩ := bytes_in hsp g2
  obtain ⟨ys, m3, _, _, _, hyl, hy⟩ := DataW.trod_array Try.underlying28 g3
  rw [cb] at hy
  have hb : ∀ i, i < 32 → ∃ q : Int, cs[3 + i]? = some (.int .u8 q) ∧ 0 ≤ q ∧ q ≤ 255 := by
    intro i hi
    have h := hy i hi
    rw [Nat.mul_one, List.getElem?_eq_getElem (by omega), take1 _ i (by simp; omega)] at h
    obtain ⟨q, e, _, wq⟩ := DataW.trod_int Try.underlying5 h
    refine ⟨q, ?_, bounds_u8 wq⟩
    simp at e
    rw [List.getElem?_eq_getElem (by omega), e]
  obtain ⟨h, hh⟩ := Go.Deep.choose_lt hb
  refine ⟨⟨k, n, a, len, cap, z, h⟩, ?_, ⟨bounds_i64 w0, bounds_i64 w1, hlc, hs, hnil, fun j hj => (hh j hj).2⟩, ?_⟩
  · apply List.ext_getElem?
    intro i
    simp only [Th.l]
    match i with
    | 0 => simp at h0; simp [h0, show 0 < cs.length by omega]
    | 1 => simp at h1; simp [h1, show 1 < cs.length by omega]
    | 2 => simp at h2; simp [h2, show 2 < cs.length by omega]
    | i + 3 =>
      simp only [List.getElem?_cons_succ]
      by_cases hi : i < 32
      · rw [bl_at hi, Nat.add_comm, (hh i hi).1]
      · rw [List.getElem?_eq_none (by omega), List.getElem?_eq_none (by simp [bl_length]; omega)]
  · have h1 := bulk_bytes hlc hbk
    have h2 : Rows.uptoBulk (xs[2]'(by omega)).1 ≤ Rows.uptoBulkAll (xs.map (·.1)) := bulk_part (List.mem_map.2 ⟨_, List.getElem_mem _, rfl⟩)
    simp only [Rows.uptoBulk]
    omega

/-- len things lie at an address. -/
structure ThAt (w : World) (ad : Option Addr) (len : Nat) (X : Nat → Th) : Prop where
  ok : ∀ i, i < len → ThOk w (X i)
  at_ : 0 < len → ∃ b off, ad = some ⟨b, off, none⟩ ∧ ∀ i, i < len → w.rangeAt b (off + i * 35) (X i).l

theorem things_in {H : Type} {enc : TypeId × Value → H} {W : World} {base fuel : Nat} {a : Option Addr} {len cap : Nat} {x : DataW H × List MemPlace} {spare : Nat → Bool} {held : Bool} (hsp : ∀ b, spare b = true)
    (hf : DataW.trod enc Try.prog W base spare held fuel 22 (Value.slice a len cap).cells.toList = some x) :
    ∃ X : Nat → Th, len ≤ cap ∧ cap ≤ Rows.uptoBulk x.1 ∧ ThAt W a len X ∧ ∀ i, i < len → (X i).len ≤ Rows.uptoBulk x.1 := by
  rcases Go.Deep.open_slice Try.underlying22 hf with ⟨hcs, hx⟩ | ⟨ad, l, c, m, n, D, Pl, hcs, _, hl, _, hm, hx, hcell⟩
  · simp [Value.cells] at hcs
    obtain ⟨rfl, rfl, rfl⟩ := hcs
    exact ⟨fun _ => default, Nat.le_refl _, Nat.zero_le _, ⟨fun j hj => by omega, fun h => by omega⟩, fun i hi => by omega⟩
  · simp [Value.cells] at hcs
    obtain ⟨rfl, rfl, rfl⟩ := hcs
    rw [hsp, if_pos rfl] at hm
    subst hm
    have cT : Try.prog.cellsOf 30 = 35 := by kernel_rfl
    rw [cT] at hcell
    have each : ∀ i, i < m → ∃ t : Th, W.cells? base (ad.add (i * 35)) 35 = some t.l ∧ ThOk W t ∧ t.len ≤ Rows.uptoBulk (D i) := by
      intro i hi
      obtain ⟨cs', h1, h2⟩ := hcell i hi
      obtain ⟨t, rfl, h3, h4⟩ := thing_in hsp h2
      exact ⟨t, h1, h3, h4⟩
    obtain ⟨X, hX⟩ := Go.Deep.choose_lt each
    refine ⟨X, hl, ?_, ⟨fun i hi => (hX i (by omega)).2.1, fun hn => ?_⟩, fun i hi => ?_⟩
    · have := bulk_slice ((List.range len).map D) ((List.range (m - len)).map fun j => D (len + j))
      rw [hx]
      simp at this ⊢
      omega
    · obtain ⟨b, off, spot⟩ := ad
      obtain ⟨_, _, h0⟩ := World.cells?_some (hX 0 (by omega)).1
      have h0' := h0 0 (by omega)
      have hspot : spot = none := by
        have : W.cell? ⟨b, off, spot⟩ = some (.int .i64 (X 0).k) := by simpa [Addr.add, Th.l] using h0'
        exact World.cell?_spot this
      subst hspot
      refine ⟨b, off, rfl, fun i hi j v hv => ?_⟩
      obtain ⟨_, _, h1⟩ := World.cells?_some (hX i (by omega)).1
      have hj : j < 35 := by
        have := (List.getElem?_eq_some_iff.1 hv).1
        rwa [Th.l_length] at this
      have h2 := h1 j hj
      rw [Addr.add_lit, Addr.add_lit, hv] at h2
      exact h2
    · have h1 := (hX i (by omega)).2.2
      have h2 : Rows.uptoBulk (D i) ≤ Rows.uptoBulkAll ((List.range len).map D) := bulk_part (List.mem_map.2 ⟨i, List.mem_range.2 hi, rfl⟩)
      rw [hx]
      simp only [Rows.uptoBulk]
      omega
end Go.Proofs.Ytmgjipemgdgjdaa
