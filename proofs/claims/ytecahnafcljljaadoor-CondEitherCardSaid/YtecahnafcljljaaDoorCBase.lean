/- Ints that lie somewhere; branches of a condition: their 35 cells, and how they lie. -/
import Derived.Test.YtecahnafcljljaaDoorCNum
namespace Go.Proofs.YtecahnafcljljaaDoor
open Go.RowKit

def Zb (z : Nat → Int) : Prop := ∀ j, j < 32 → 0 ≤ z j ∧ z j ≤ 255
def Ib (n : Int) : Prop := -9223372036854775808 ≤ n ∧ n ≤ 9223372036854775807
theorem tsize : Tryd.prog.types.size = 184 := by kernel_rfl
theorem cellsH : Tryd.prog.cellsOf 44 = 32 := by kernel_rfl
theorem cellsI : Tryd.prog.cellsOf 3 = 1 := by kernel_rfl
theorem cellsB : Tryd.prog.cellsOf 5 = 1 := by kernel_rfl
theorem cellsS : Tryd.prog.cellsOf 25 = 1 := by kernel_rfl
theorem infoI : (Tryd.prog.info? 3).map (fun i => (i.zero, i.size, i.bytes)) = some (some (.int .i64 0), 1, 8) := by kernel_rfl
/-- Ints that lie at an address. -/
def IsAt (w : World) (ad : Option Addr) (n : Nat) (z : Nat → Int) : Prop := 0 < n → ∃ b off, ad = some ⟨b, off, none⟩ ∧ ∀ j, j < n → w.cell? ⟨b, off + j, none⟩ = some (.int .i64 (z j))
theorem IsAt.below {w w' : World} {ad : Option Addr} {n : Nat} {z : Nat → Int} (h : IsAt w ad n z) (hb : Below w.heap.size w w') : IsAt w' ad n z := by
  intro hn
  obtain ⟨b, off, e, hc⟩ := h hn
  refine ⟨b, off, e, fun j hj => ?_⟩
  have := hc j hj
  have hl : b < w.heap.size := World.block_lt_of_cell? w ⟨b, off + j, none⟩ this
  rw [hb.cell (p := ⟨b, off + j, none⟩) hl]; exact this

/-- What a branch says: its keys, its lock, its two bounds. -/
structure Bv where
  n : Nat
  z : Nat → Int
  lk : Nat → Int
  af : Int
  ol : Int
instance : Inhabited Bv := ⟨⟨0, fun _ => 0, fun _ => 0, 0, 0⟩⟩
structure Bv.Ok (x : Bv) : Prop where
  z : ∀ j, j < x.n → Ib (x.z j)
  lk : Zb x.lk
  af : Ib x.af
  ol : Ib x.ol
/-- Its 35 cells, the keys at ka. -/
def brl (x : Bv) (ka : Option Addr) (kc : Nat) : List Value := .slice ka x.n kc :: (bl x.lk 32 ++ [.int .i64 x.af, .int .i64 x.ol])
theorem brl_length (x : Bv) (ka : Option Addr) (kc : Nat) : (brl x ka kc).length = 35 := by simp [brl, bl_length]
def bv (x : Bv) (ka : Option Addr) (kc : Nat) : Array Value := (brl x ka kc).toArray
theorem bv_size (x : Bv) (ka : Option Addr) (kc : Nat) : (bv x ka kc).size = 35 := by simp [bv, brl_length]
theorem brl_one (x : Bv) (ka : Option Addr) (kc : Nat) : ∀ u ∈ brl x ka kc, u.oneCell' = true := by
  intro u hu
  simp only [brl, List.mem_cons, List.mem_append, List.not_mem_nil, or_false] at hu
  rcases hu with rfl | hu | rfl | rfl
  · rfl
  · exact bl_one _ _ u hu
  · rfl
  · rfl
theorem bv_one (x : Bv) (ka : Option Addr) (kc : Nat) : (bv x ka kc).all (·.oneCell') = true := by
  have : (bv x ka kc) = (brl x ka kc).toArray := rfl
  rw [this]
  exact all_oneCell_toArray (brl_one x ka kc)
theorem brl_0 (x : Bv) (ka : Option Addr) (kc : Nat) : (brl x ka kc)[0]? = some (.slice ka x.n kc) := rfl
theorem brl_33 (x : Bv) (ka : Option Addr) (kc : Nat) : (brl x ka kc)[33]? = some (.int .i64 x.af) := by
  simp only [brl, List.getElem?_cons_succ]
  rw [List.getElem?_append_right (by simp [bl_length])]
  simp [bl_length]
theorem brl_34 (x : Bv) (ka : Option Addr) (kc : Nat) : (brl x ka kc)[34]? = some (.int .i64 x.ol) := by
  simp only [brl, List.getElem?_cons_succ]
  rw [List.getElem?_append_right (by simp [bl_length])]
  simp [bl_length]
theorem szB : (Tryd.prog.info? 56).map (·.size) = some 35 := by kernel_rfl
theorem szR : (Tryd.prog.info? 48).map (·.size) = some 35 := by kernel_rfl
theorem szBv (x : Bv) (ka : Option Addr) (kc : Nat) : (Tryd.prog.info? 56).map (·.size) = some (bv x ka kc).size := by rw [bv_size]; exact szB
theorem szRv (x : Bv) (ka : Option Addr) (kc : Nat) : (Tryd.prog.info? 48).map (·.size) = some (bv x ka kc).size := by rw [bv_size]; exact szR
theorem szBl (x : Bv) (ka : Option Addr) (kc : Nat) : (Tryd.prog.info? 56).map (·.size) = some (brl x ka kc).length := by rw [brl_length]; exact szB
theorem szRl (x : Bv) (ka : Option Addr) (kc : Nat) : (Tryd.prog.info? 48).map (·.size) = some (brl x ka kc).length := by rw [brl_length]; exact szR

/-- What a block that holds a branch gives a walk. -/
structure BBox (w : World) (g : Nat) (x : Bv) (ka : Option Addr) (kc : Nat) : Prop where
  c0 : w.cell? ⟨g, 0, none⟩ = some (.slice ka x.n kc)
  c33 : w.cell? ⟨g, 33, none⟩ = some (.int .i64 x.af)
  c34 : w.cell? ⟨g, 34, none⟩ = some (.int .i64 x.ol)
theorem bbox_of {w : World} {g : Nat} {x : Bv} {ka : Option Addr} {kc : Nat} {t : TypeId} {fr : Nat × Nat} (h : w.heap[g]? = some (.cells (bv x ka kc) t fr)) : BBox w g x ka kc := by
  refine ⟨?_, ?_, ?_⟩
  · rw [cell_of_row w g 0 _ _ _ h]; simp [bv, brl_0]
  · rw [cell_of_row w g 33 _ _ _ h]; simp [bv, brl_33]
  · rw [cell_of_row w g 34 _ _ _ h]; simp [bv, brl_34]

/-- n branches lie at an address. -/
structure BrAt (w : World) (ad : Option Addr) (n : Nat) (X : Nat → Bv) : Prop where
  ok : ∀ i, i < n → (X i).Ok
  at_ : 0 < n → ∃ b off, ad = some ⟨b, off, none⟩ ∧ ∀ i, i < n → ∃ ka kc, w.rangeAt b (off + i * 35) (brl (X i) ka kc) ∧ IsAt w ka (X i).n (X i).z
theorem BrAt.nil (w : World) (ad : Option Addr) (X : Nat → Bv) : BrAt w ad 0 X := ⟨fun _ h => by omega, fun h => by omega⟩
theorem BrAt.below {w w' : World} {ad : Option Addr} {n : Nat} {X : Nat → Bv} (h : BrAt w ad n X) (hb : Below w.heap.size w w') : BrAt w' ad n X := by
  refine ⟨h.ok, fun hn => ?_⟩
  obtain ⟨b, off, e, hr⟩ := h.at_ hn
  refine ⟨b, off, e, fun i hi => ?_⟩
  obtain ⟨ka, kc, h1, h2⟩ := hr i hi
  exact ⟨ka, kc, range_below h1 hb, h2.below hb⟩

/-- The key ahead of the key j. -/
def lastK (z : Nat → Int) (j : Nat) : Int := if j = 0 then -1 else z (j - 1)
theorem lastK_succ (z : Nat → Int) (j : Nat) : lastK z (j + 1) = z j := by simp [lastK]
/-- Keys that are parties, ascending. -/
def KOk (z : Nat → Int) (n : Nat) : Prop := ∀ j, j < n → lastK z j < z j ∧ z j < 16
instance (z : Nat → Int) (n : Nat) : Decidable (KOk z n) := inferInstanceAs (Decidable (∀ j, j < n → _))
/-- A branch that may be. -/
def BOk (x : Bv) : Prop := (KOk x.z x.n ∧ 0 < x.n) ∧ (0 ≤ x.af ∧ x.af ≤ 1099511627776) ∧ (0 ≤ x.ol ∧ x.ol ≤ 65536)
instance (x : Bv) : Decidable (BOk x) := inferInstanceAs (Decidable (_ ∧ _))
def AllOk (X : Nat → Bv) (n : Nat) : Prop := ∀ i, i < n → BOk (X i)
instance (X : Nat → Bv) (n : Nat) : Decidable (AllOk X n) := inferInstanceAs (Decidable (∀ i, i < n → _))
/-- A condition that may be. -/
def COk (X : Nat → Bv) (n : Nat) : Prop := (1 ≤ n ∧ n ≤ 8) ∧ AllOk X n
instance (X : Nat → Bv) (n : Nat) : Decidable (COk X n) := inferInstanceAs (Decidable (_ ∧ _))
def chkE (X : Nat → Bv) (n : Nat) : Int := if COk X n then 0 else 1
end Go.Proofs.YtecahnafcljljaaDoor
