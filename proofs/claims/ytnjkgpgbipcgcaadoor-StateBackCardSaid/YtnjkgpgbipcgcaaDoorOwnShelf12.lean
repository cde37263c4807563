/- Payments, holds and states: what they say, their cells, and how they lie. -/
import Derived.Test.YtnjkgpgbipcgcaaDoorOwnShelf01
namespace Go.Proofs.YtnjkgpgbipcgcaaDoor
open Go.RowKit

def Zb (z : Nat → Int) : Prop := ∀ j, j < 32 → 0 ≤ z j ∧ z j ≤ 255
def Ib (n : Int) : Prop := -9223372036854775808 ≤ n ∧ n ≤ 9223372036854775807
theorem tsize : Tryd.prog.types.size = 209 := by kernel_rfl
theorem cellsH : Tryd.prog.cellsOf 31 = 32 := by kernel_rfl
theorem cellsI : Tryd.prog.cellsOf 3 = 1 := by kernel_rfl
theorem cellsB : Tryd.prog.cellsOf 5 = 1 := by kernel_rfl
theorem cellsS : Tryd.prog.cellsOf 34 = 1 := by kernel_rfl
theorem infoI : (Tryd.prog.info? 3).map (fun i => (i.zero, i.size, i.bytes)) = some (some (.int .i64 0), 1, 8) := by kernel_rfl
/-- Ints that lie at an address. -/
def IsAt (w : World) (ad : Option Addr) (n : Nat) (z : Nat → Int) : Prop := 0 < n → ∃ b off, ad = some ⟨b, off, none⟩ ∧ ∀ j, j < n → w.cell? ⟨b, off + j, none⟩ = some (.int .i64 (z j))
theorem IsAt.below {w w' : World} {ad : Option Addr} {n : Nat} {z : Nat → Int} (h : IsAt w ad n z) (hb : Below w.heap.size w w') : IsAt w' ad n z := by
  intro hn
  obtain ⟨b, off, e, hc⟩ := h hn
  refine ⟨b, off, e, fun j hj => ?_⟩
  have := hc j hj
  have hl : b < w.heap.size := World.block_lt_of_cell? w ⟨b, off + j, none⟩ this
  rw [hb.cell (p := ⟨b, off + j, none⟩) hl]; exact this

/-- What a payment says. -/
structure Py where
  id : Int
  fr : Int
  am : Int
  af : Int
  lk : Nat → Int
instance : Inhabited Py := ⟨⟨0, 0, 0, 0, nz⟩⟩
/-- Its 36 cells. -/
def pyl (x : Py) : List Value := .int .i64 x.id :: .int .i64 x.fr :: .int .i64 x.am :: .int .i64 x.af :: bl x.lk 32
theorem pyl_length (x : Py) : (pyl x).length = 36 := by simp [pyl, bl_length]
def pyv (x : Py) : Array Value := (pyl x).toArray
theorem pyv_size (x : Py) : (pyv x).size = 36 := by simp [pyv, pyl_length]
theorem pyl_one (x : Py) : ∀ u ∈ pyl x, u.oneCell' = true := by
  intro u hu
  simp only [pyl, List.mem_cons] at hu
  rcases hu with rfl | rfl | rfl | rfl | hu
  · rfl
  · rfl
  · rfl
  · rfl
  · exact bl_one _ _ u hu
theorem pyv_one (x : Py) : (pyv x).all (·.oneCell') = true := by
  have : (pyv x) = (pyl x).toArray := rfl
  rw [this]
  exact all_oneCell_toArray (pyl_one x)
theorem szP : (Tryd.prog.info? 44).map (·.size) = some 36 := by kernel_rfl
theorem szPr : (Tryd.prog.info? 33).map (·.size) = some 36 := by kernel_rfl
theorem szPv (x : Py) : (Tryd.prog.info? 44).map (·.size) = some (pyv x).size := by rw [pyv_size]; exact szP
theorem szPrv (x : Py) : (Tryd.prog.info? 33).map (·.size) = some (pyv x).size := by rw [pyv_size]; exact szPr
theorem szPl (x : Py) : (Tryd.prog.info? 44).map (·.size) = some (pyl x).length := by rw [pyl_length]; exact szP
theorem szPrl (x : Py) : (Tryd.prog.info? 33).map (·.size) = some (pyl x).length := by rw [pyl_length]; exact szPr
/-- What a block that holds a payment gives a walk. -/
structure PBox (w : World) (g : Nat) (x : Py) : Prop where
  c0 : w.cell? ⟨g, 0, none⟩ = some (.int .i64 x.id)
  c1 : w.cell? ⟨g, 1, none⟩ = some (.int .i64 x.fr)
  c2 : w.cell? ⟨g, 2, none⟩ = some (.int .i64 x.am)
  c3 : w.cell? ⟨g, 3, none⟩ = some (.int .i64 x.af)
  lk : w.rangeAt g 4 (bl x.lk 32)
theorem pbox_of {w : World} {g : Nat} {x : Py} {t : TypeId} {fr : Nat × Nat} (h : w.heap[g]? = some (.cells (pyv x) t fr)) : PBox w g x := by
  refine ⟨?_, ?_, ?_, ?_, ?_⟩
  · rw [cell_of_row w g 0 _ _ _ h]; simp [pyv, pyl]
  · rw [cell_of_row w g 1 _ _ _ h]; simp [pyv, pyl]
  · rw [cell_of_row w g 2 _ _ _ h]; simp [pyv, pyl]
  · rw [cell_of_row w g 3 _ _ _ h]; simp [pyv, pyl]
  · intro j v hv
    rw [cell_of_row w g (4 + j) _ _ _ h, Nat.add_comm 4 j]
    simpa [pyv, pyl] using hv
/-- What a payment in a row gives a walk. -/
theorem py_cells {w : World} {b off : Nat} {x : Py} (h : w.rangeAt b off (pyl x)) :
    w.cell? ⟨b, off, none⟩ = some (.int .i64 x.id) ∧ w.cell? ⟨b, off + 1, none⟩ = some (.int .i64 x.fr) ∧ w.cell? ⟨b, off + 2, none⟩ = some (.int .i64 x.am) ∧ w.cell? ⟨b, off + 3, none⟩ = some (.int .i64 x.af) ∧ w.rangeAt b (off + 4) (bl x.lk 32) := by
  refine ⟨by simpa using h 0 _ rfl, h 1 _ rfl, h 2 _ rfl, h 3 _ rfl, fun j v hv => ?_⟩
  have := h (j + 4) v (by simpa [pyl] using hv)
  rwa [show off + (j + 4) = off + 4 + j from by omega] at this
/-- n payments lie at an address. -/
structure PyAt (w : World) (ad : Option Addr) (n : Nat) (X : Nat → Py) : Prop where
  lk : ∀ i, i < n → Zb (X i).lk
  at_ : 0 < n → ∃ b off, ad = some ⟨b, off, none⟩ ∧ ∀ i, i < n → w.rangeAt b (off + i * 36) (pyl (X i))
theorem PyAt.nil (w : World) (ad : Option Addr) (X : Nat → Py) : PyAt w ad 0 X := ⟨fun _ h => by omega, fun h => by omega⟩
theorem PyAt.below {w w' : World} {ad : Option Addr} {n : Nat} {X : Nat → Py} (h : PyAt w ad n X) (hb : Below w.heap.size w w') : PyAt w' ad n X := by
  refine ⟨h.lk, fun hn => ?_⟩
  obtain ⟨b, off, e, hr⟩ := h.at_ hn
  exact ⟨b, off, e, fun i hi => range_below (hr i hi) hb⟩

/-- What a hold says. -/
structure Hd where
  id : Int
  am : Int
  n : Nat
  z : Nat → Int
instance : Inhabited Hd := ⟨⟨0, 0, 0, fun _ => 0⟩⟩
/-- Its three cells, the keys at ka. -/
def hdl (x : Hd) (ka : Option Addr) (kc : Nat) : List Value := [.int .i64 x.id, .int .i64 x.am, .slice ka x.n kc]
def hdv (x : Hd) (ka : Option Addr) (kc : Nat) : Array Value := #[.int .i64 x.id, .int .i64 x.am, .slice ka x.n kc]
theorem szH : (Tryd.prog.info? 48).map (·.size) = some 3 := by kernel_rfl
theorem szHr : (Tryd.prog.info? 36).map (·.size) = some 3 := by kernel_rfl
/-- n holds lie at an address. -/
structure HdAt (w : World) (ad : Option Addr) (n : Nat) (X : Nat → Hd) : Prop where
  at_ : 0 < n → ∃ b off, ad = some ⟨b, off, none⟩ ∧ ∀ i, i < n → ∃ ka kc, w.rangeAt b (off + i * 3) (hdl (X i) ka kc) ∧ IsAt w ka (X i).n (X i).z ∧ (ka = none → (X i).n = 0 ∧ kc = 0)
theorem HdAt.nil (w : World) (ad : Option Addr) (X : Nat → Hd) : HdAt w ad 0 X := ⟨fun h => by omega⟩
theorem HdAt.below {w w' : World} {ad : Option Addr} {n : Nat} {X : Nat → Hd} (h : HdAt w ad n X) (hb : Below w.heap.size w w') : HdAt w' ad n X := by
  refine ⟨fun hn => ?_⟩
  obtain ⟨b, off, e, hr⟩ := h.at_ hn
  refine ⟨b, off, e, fun i hi => ?_⟩
  obtain ⟨ka, kc, h1, h2, h3⟩ := hr i hi
  exact ⟨ka, kc, range_below h1 hb, h2.below hb, h3⟩
theorem hd_cells {w : World} {b off : Nat} {x : Hd} {ka : Option Addr} {kc : Nat} (h : w.rangeAt b off (hdl x ka kc)) :
    w.cell? ⟨b, off, none⟩ = some (.int .i64 x.id) ∧ w.cell? ⟨b, off + 1, none⟩ = some (.int .i64 x.am) ∧ w.cell? ⟨b, off + 2, none⟩ = some (.slice ka x.n kc) :=
  ⟨by simpa using h 0 _ rfl, h 1 _ rfl, h 2 _ rfl⟩

/-- What a state says. -/
structure Sv where
  nu : Int
  a : Int
  b : Int
  pn : Nat
  P : Nat → Py
  hn : Nat
  H : Nat → Hd
/-- The zero state. -/
def sv0 : Sv := ⟨0, 0, 0, 0, fun _ => default, 0, fun _ => default⟩
/-- Where a state's rows lie. -/
structure Pl where
  pa : Option Addr
  pc : Nat
  ha : Option Addr
  hc : Nat
def pl0 : Pl := ⟨none, 0, none, 0⟩
def svv (s : Sv) (p : Pl) : Array Value := #[.int .i64 s.nu, .int .i64 s.a, .int .i64 s.b, .slice p.pa s.pn p.pc, .slice p.ha s.hn p.hc]
theorem szS : (Tryd.prog.info? 28).map (·.size) = some 5 := by kernel_rfl
theorem szSr : (Tryd.prog.info? 56).map (·.size) = some 5 := by kernel_rfl
/-- The rows of a state lie there. -/
structure SvAt (w : World) (s : Sv) (p : Pl) : Prop where
  py : PyAt w p.pa s.pn s.P
  hd : HdAt w p.ha s.hn s.H
  pcap : s.pn ≤ p.pc
  hcap : s.hn ≤ p.hc
  pnil : p.pa = none → s.pn = 0 ∧ p.pc = 0
  hnil : p.ha = none → s.hn = 0 ∧ p.hc = 0
theorem SvAt.below {w w' : World} {s : Sv} {p : Pl} (h : SvAt w s p) (hb : Below w.heap.size w w') : SvAt w' s p :=
  ⟨h.py.below hb, h.hd.below hb, h.pcap, h.hcap, h.pnil, h.hnil⟩
theorem sv0_at (w : World) : SvAt w sv0 pl0 := ⟨PyAt.nil _ _ _, HdAt.nil _ _ _, Nat.le_refl _, Nat.le_refl _, fun _ => ⟨rfl, rfl⟩, fun _ => ⟨rfl, rfl⟩⟩
/-- How long a state may be here. -/
structure Sv.Small (s : Sv) : Prop where
  n : s.pn + s.hn ≤ 100
  k : ∀ i, i < s.hn → (s.H i).n ≤ 300
theorem sv0_small : sv0.Small := ⟨by simp [sv0], fun i hi => by simp [sv0] at hi⟩

/-- A state that may be. -/
def lastP (X : Nat → Py) (j : Nat) : Int := if j = 0 then -1 else (X (j - 1)).id
theorem lastP_succ (X : Nat → Py) (j : Nat) : lastP X (j + 1) = (X j).id := by simp [lastP]
def lastH (X : Nat → Hd) (j : Nat) : Int := if j = 0 then -1 else (X (j - 1)).id
theorem lastH_succ (X : Nat → Hd) (j : Nat) : lastH X (j + 1) = (X j).id := by simp [lastH]
/-- The key ahead of the key j. -/
def lastK (z : Nat → Int) (j : Nat) : Int := if j = 0 then -1 else z (j - 1)
theorem lastK_succ (z : Nat → Int) (j : Nat) : lastK z (j + 1) = z j := by simp [lastK]
/-- Keys that are parties, ascending. -/
def KOk (z : Nat → Int) (n : Nat) : Prop := ∀ j, j < n → lastK z j < z j ∧ z j < 16
instance (z : Nat → Int) (n : Nat) : Decidable (KOk z n) := inferInstanceAs (Decidable (∀ j, j < n → _))
/-- A payment that may be, but for its ID's lower bound. -/
def POne (x : Py) : Prop := x.id ≤ 4294967296 ∧ (x.fr = 0 ∨ x.fr = 1) ∧ (10 ≤ x.am ∧ x.am ≤ 1125899906842624) ∧ (0 ≤ x.af ∧ x.af ≤ 1099511627776) ∧ hq x.lk nz = false
instance (x : Py) : Decidable (POne x) := inferInstanceAs (Decidable (_ ∧ _))
def PsOk (X : Nat → Py) (n : Nat) : Prop := ∀ j, j < n → lastP X j < (X j).id ∧ POne (X j)
instance (X : Nat → Py) (n : Nat) : Decidable (PsOk X n) := inferInstanceAs (Decidable (∀ j, j < n → _))
def HOne (x : Hd) : Prop := x.id ≤ 4294967296 ∧ (10 ≤ x.am ∧ x.am ≤ 1125899906842624) ∧ KOk x.z x.n ∧ 0 < x.n
instance (x : Hd) : Decidable (HOne x) := inferInstanceAs (Decidable (_ ∧ _))
def HsOk (X : Nat → Hd) (n : Nat) : Prop := ∀ j, j < n → lastH X j < (X j).id ∧ HOne (X j)
instance (X : Nat → Hd) (n : Nat) : Decidable (HsOk X n) := inferInstanceAs (Decidable (∀ j, j < n → _))
def sumP (X : Nat → Py) : Nat → Int
  | 0 => 0
  | j + 1 => sumP X j + (X j).am
def sumH (X : Nat → Hd) : Nat → Int
  | 0 => 0
  | j + 1 => sumH X j + (X j).am
/-- What is in a state together. -/
def tot (s : Sv) : Int := s.a + s.b + sumP s.P s.pn + sumH s.H s.hn
/-- Numbers, sides and how many there are. -/
def SNum (s : Sv) : Prop := (0 ≤ s.nu ∧ s.nu ≤ 1099511627776) ∧ (0 ≤ s.a ∧ s.a ≤ 1125899906842624) ∧ (0 ≤ s.b ∧ s.b ≤ 1125899906842624)
instance (s : Sv) : Decidable (SNum s) := inferInstanceAs (Decidable (_ ∧ _))
def SRows (s : Sv) : Prop := s.pn + s.hn ≤ 8 ∧ PsOk s.P s.pn ∧ HsOk s.H s.hn
instance (s : Sv) : Decidable (SRows s) := inferInstanceAs (Decidable (_ ∧ _))
def SOk (s : Sv) : Prop := SNum s ∧ SRows s ∧ tot s ≤ 1125899906842624
instance (s : Sv) : Decidable (SOk s) := inferInstanceAs (Decidable (_ ∧ _))
def chkE (s : Sv) : Int := if SOk s then 0 else 1
theorem sumP_bd (X : Nat → Py) : ∀ n, PsOk X n → 0 ≤ sumP X n ∧ sumP X n ≤ 1125899906842624 * n
  | 0, _ => by simp [sumP]
  | n + 1, h => by
    have h1 := sumP_bd X n (fun j hj => h j (by omega))
    have h2 := (h n (by omega)).2.2.2.1
    simp only [sumP]
    omega
theorem sumH_bd (X : Nat → Hd) : ∀ n, HsOk X n → 0 ≤ sumH X n ∧ sumH X n ≤ 1125899906842624 * n
  | 0, _ => by simp [sumH]
  | n + 1, h => by
    have h1 := sumH_bd X n (fun j hj => h j (by omega))
    have h2 := (h n (by omega)).2.2.1
    simp only [sumH]
    omega
end Go.Proofs.YtnjkgpgbipcgcaaDoor
