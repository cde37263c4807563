/- Rows of payments, holds and ints of one's own; slices.Clone of them. -/
import Derived.Test.YtjnepkggdkccaaaGreatDoorOwnShelf01
import Derived.Maps.AppendAt
import Derived.Deep.AppendSrc
import Derived.Deep.AppendLies
import Derived.Deep.RegionLaw
import Derived.Deep.DrawnRows
import Derived.Test.YtjnepkggdkccaaaGreatDoorOwnShelf03
namespace Go.Proofs.YtjnepkggdkccaaaGreatDoor
open Go.RowKit

/-- Parts laid one behind the other. -/
def flatL (f : Nat → List Value) : Nat → List Value
 | 0 => []
 | i + 1 => flatL f i ++ f i
theorem flatL_length {f : Nat → List Value} {k : Nat} : ∀ n, (∀ i, i < n → (f i).length = k) → (flatL f n).length = n * k
 | 0, _ => by simp [flatL]
 | n + 1, h => by
  simp only [flatL, List.length_append, flatL_length n (fun i hi => h i (by omega)), h n (by omega), Nat.add_mul, Nat.one_mul]
theorem flatL_congr {f g : Nat → List Value} : ∀ n, (∀ i, i < n → f i = g i) → flatL f n = flatL g n
 | 0, _ => rfl
 | n + 1, h => by rw [flatL, flatL, flatL_congr n (fun i hi => h i (by omega)), h n (by omega)]
theorem flatL_mem {f : Nat → List Value} {u : Value} : ∀ n, u ∈ flatL f n → ∃ i, i < n ∧ u ∈ f i
 | 0, h => by simp [flatL] at h
 | n + 1, h => by
  rcases List.mem_append.1 h with h | h
  ·obtain ⟨i, hi, hu⟩ := flatL_mem n h
   exact ⟨i, by omega, hu⟩
  ·exact ⟨n, by omega, h⟩
theorem range_append {w : World} {b off : Nat} {l m : List Value} : w.rangeAt b off (l ++ m) ↔ w.rangeAt b off l ∧ w.rangeAt b (off + l.length) m := by
 constructor
 ·intro h
  refine ⟨fun j v hv => h j v (by rw [List.getElem?_append_left (by have := (List.getElem?_eq_some_iff.1 hv).1; exact this)]; exact hv), fun j v hv => ?_⟩
  have := h (l.length + j) v (by rw [List.getElem?_append_right (by omega)]; simpa using hv)
  rwa [← Nat.add_assoc] at this
 ·rintro ⟨h1, h2⟩ j v hv
  by_cases hj : j < l.length
  ·rw [List.getElem?_append_left hj] at hv; exact h1 j v hv
  ·rw [List.getElem?_append_right (by omega)] at hv
   have := h2 (j - l.length) v hv
   rwa [show off + l.length + (j - l.length) = off + j from by omega] at this
theorem flatL_range {w : World} {b off k : Nat} {f : Nat → List Value} : ∀ n, (∀ i, i < n → (f i).length = k) → (w.rangeAt b off (flatL f n) ↔ ∀ i, i < n → w.rangeAt b (off + i * k) (f i))
 | 0, _ => ⟨fun _ i hi => by omega, fun _ j v hv => by simp [flatL] at hv⟩
 | n + 1, h => by
  rw [flatL, range_append, flatL_range n (fun i hi => h i (by omega)), flatL_length n (fun i hi => h i (by omega))]
  constructor
  ·rintro ⟨h1, h2⟩ i hi
   by_cases e : i = n
   ·subst e; exact h2
   ·exact h1 i (by omega)
  ·exact fun h => ⟨fun i hi => h i (by omega), h n (by omega)⟩
/-- What owns a row has its cells there. -/
theorem own_range {w : World} {B T k n : Nat} {ad : Option Addr} {cap : Nat} {xs : List Value} (h : w.ownsRow B T k (.slice ad n cap) n xs) (hn : 0 < n) : ∃ g, ad = some ⟨g, 0, none⟩ ∧ B ≤ g ∧ g < w.heap.size ∧ w.rangeAt g 0 xs := by
 rcases h.2 with ⟨_, e⟩ | ⟨g, c, cur, e, hb, hg, _⟩
 ·omega
 ·cases e
  refine ⟨g, rfl, hb, lt_of_block hg, fun j v hv => ?_⟩
  have := h.cells (g := g) rfl j v hv
  rwa [Addr.add_lit] at this
theorem own_frmV {w : World} {B T k n : Nat} {v : Value} {xs : List Value} (h : w.ownsRow B T k v n xs) : ∃ ad cap, v = .slice ad n cap ∧ n ≤ cap ∧ (ad = none → n = 0 ∧ cap = 0) := by
 rcases h.2 with ⟨rfl, rfl⟩ | ⟨g, cap, cur, rfl, _, _, hc, _⟩
 ·exact ⟨none, 0, rfl, Nat.le_refl _, fun _ => ⟨rfl, rfl⟩⟩
 ·exact ⟨_, cap, rfl, hc, fun e => by cases e⟩
theorem own_keep {w w' : World} {B T k n : Nat} {v : Value} {xs : List Value} (h : w.ownsRow B T k v n xs) (hb : ∀ g, v.ownBlock = some g → w'.heap[g]? = w.heap[g]?) : w'.ownsRow B T k v n xs := by
 refine ⟨h.1, ?_⟩
 rcases h.2 with hn | ⟨g, cap, cur, rfl, hbs, hg, rest⟩
 ·exact .inl hn
 ·exact .inr ⟨g, cap, cur, rfl, hbs, by rw [hb g rfl]; exact hg, rest⟩
theorem own_below {w w' : World} {B T k n : Nat} {v : Value} {xs : List Value} (h : w.ownsRow B T k v n xs) (hb : Below w.heap.size w w') : w'.ownsRow B T k v n xs :=
 own_keep h (fun g e => hb.block g (h.lt g e).2)
theorem own_low {w : World} {B C T k n : Nat} {v : Value} {xs : List Value} (h : w.ownsRow B T k v n xs) (hb : C ≤ B) : w.ownsRow C T k v n xs := by
 refine ⟨h.1, ?_⟩
 rcases h.2 with hn | ⟨g, cap, cur, rfl, hbs, rest⟩
 ·exact .inl hn
 ·exact .inr ⟨g, cap, cur, rfl, Nat.le_trans hb hbs, rest⟩
/-- Rows of other types lie in other blocks. -/
theorem own_apart {w : World} {B C T U k l n m : Nat} {v u : Value} {xs ys : List Value} (h : w.ownsRow B T k v n xs) (h' : w.ownsRow C U l u m ys) (hT : T ≠ U) : ∀ g, v.ownBlock = some g → u.ownBlock ≠ some g := by
 intro g e e'
 rcases h.2 with ⟨rfl, _⟩ | ⟨g1, cap, cur, rfl, _, hg, _⟩
 ·cases e
 ·rcases h'.2 with ⟨rfl, _⟩ | ⟨g2, cap2, cur2, rfl, _, hg2, _⟩
  ·cases e'
  ·have e1 : g1 = g := by simpa [Value.ownBlock] using e
   have e2 : g2 = g := by simpa [Value.ownBlock] using e'
   subst e1 e2
   rw [hg] at hg2
   simp at hg2
   exact hT hg2.2
/-- What a row's value reads: its parts lie there. -/
def Src (w : World) (ad : Option Addr) (n cap : Nat) (cs : List Value) : Prop := (0 < n → ∃ b off, ad = some ⟨b, off, none⟩ ∧ w.rangeAt b off cs) ∧ (ad = none → n = 0 ∧ cap = 0)
end Go.Proofs.YtjnepkggdkccaaaGreatDoor
/- Rows of payments, holds and keys of one's own; a state whose rows are its own. -/
namespace Go.Proofs.YtjnepkggdkccaaaGreatDoor
open Go.RowKit

theorem infoP : (Tryz.prog.info? 97).map (fun i => (i.zero, i.size, i.bytes)) = some (some (.agg (pyv p0)), 36, 64) := by kernel_rfl
theorem zero_p : (Value.agg (pyv p0)).cells.size = 36 := by simp [Value.cells, pyv_size]
theorem infoH : (Tryz.prog.info? 99).map (fun i => (i.zero, i.size, i.bytes)) = some (some (.agg #[.int .i64 0, .int .i64 0, .slice none 0 0]), 3, 40) := by kernel_rfl

/-- A hold's keys as cells. -/
def kL (x : Hd) : List Value := (List.range x.n).map fun j => .int .i64 (x.z j)
theorem kL_length (x : Hd) : (kL x).length = x.n := by simp [kL]
theorem kL_one (x : Hd) : ∀ u ∈ kL x, u.oneCell' = true := by
 intro u hu
 simp only [kL, List.mem_map] at hu
 obtain ⟨_, _, rfl⟩ := hu
 rfl
theorem kL_at {x : Hd} {j : Nat} (h : j < x.n) : (kL x)[j]? = some (.int .i64 (x.z j)) := by simp [kL, List.getElem?_map, List.getElem?_range h]
theorem kL_isAt {w : World} {x : Hd} {B : Nat} {ka : Option Addr} {kc : Nat} (h : w.ownsRow B 3 1 (.slice ka x.n kc) x.n (kL x)) : IsAt w ka x.n x.z := by
 intro h0
 obtain ⟨g, e, _, _, hr⟩ := own_range h h0
 exact ⟨g, 0, e, fun j hj => hr j _ (kL_at hj)⟩
theorem own_nil {w : World} {B T k n : Nat} {ad : Option Addr} {cap : Nat} {xs : List Value} (h : w.ownsRow B T k (.slice ad n cap) n xs) : n ≤ cap ∧ (ad = none → n = 0 ∧ cap = 0) := by
 obtain ⟨a, c, e, h1, h2⟩ := own_frmV h
 cases e
 exact ⟨h1, h2⟩

def pf (X : Nat → Py) : Nat → List Value := fun i => pyl (X i)
def hf (X : Nat → Hd) (A : Nat → Option Addr × Nat) : Nat → List Value := fun i => hdl (X i) (A i).1 (A i).2
theorem pf_len (X : Nat → Py) (n : Nat) : ∀ i, i < n → (pf X i).length = 36 := fun i _ => pyl_length (X i)
theorem hf_len (X : Nat → Hd) (A : Nat → Option Addr × Nat) (n : Nat) : ∀ i, i < n → (hf X A i).length = 3 := fun _ _ => rfl
theorem PyAt.src {w : World} {ad : Option Addr} {n cap : Nat} {X : Nat → Py} (h : PyAt w ad n X) (hn : ad = none → n = 0 ∧ cap = 0) : Src w ad n cap (flatL (pf X) n) := by
 refine ⟨fun h0 => ?_, hn⟩
 obtain ⟨b, off, e, hr⟩ := h.at_ h0
 exact ⟨b, off, e, (flatL_range n (pf_len X n)).2 hr⟩
theorem py_of_own {w : World} {B n cap : Nat} {ad : Option Addr} {X : Nat → Py} (h : w.ownsRow B 97 36 (.slice ad n cap) n (flatL (pf X) n)) (hl : ∀ i, i < n → Zb (X i).lk) : PyAt w ad n X := by
 refine ⟨hl, fun h0 => ?_⟩
 obtain ⟨g, e, _, _, hr⟩ := own_range h h0
 exact ⟨g, 0, e, (flatL_range n (pf_len X n)).1 hr⟩
/-- Where holds that lie have their keys. -/
theorem HdAt.src {w : World} {ad : Option Addr} {n cap : Nat} {X : Nat → Hd} (h : HdAt w ad n X) (hn : ad = none → n = 0 ∧ cap = 0) :
  ∃ A : Nat → Option Addr × Nat, Src w ad n cap (flatL (hf X A) n) ∧ ∀ i, i < n → IsAt w (A i).1 (X i).n (X i).z ∧ ((A i).1 = none → (X i).n = 0 ∧ (A i).2 = 0) := by
 rcases Nat.eq_zero_or_pos n with rfl | h0
 ·exact ⟨fun _ => (none, 0), ⟨fun h => by omega, hn⟩, fun i hi => by omega⟩
 ·obtain ⟨b, off, e, hr⟩ := h.at_ h0
  have each : ∀ i, i < n → ∃ t : Option Addr × Nat, w.rangeAt b (off + i * 3) (hdl (X i) t.1 t.2) ∧ IsAt w t.1 (X i).n (X i).z ∧ (t.1 = none → (X i).n = 0 ∧ t.2 = 0) := fun i hi => by
   obtain ⟨ka, kc, h1, h2, h3⟩ := hr i hi
   exact ⟨(ka, kc), h1, h2, h3⟩
  have : ∀ i, ∃ t : Option Addr × Nat, i < n → w.rangeAt b (off + i * 3) (hdl (X i) t.1 t.2) ∧ IsAt w t.1 (X i).n (X i).z ∧ (t.1 = none → (X i).n = 0 ∧ t.2 = 0) := fun i => by
   by_cases hi : i < n
   ·obtain ⟨t, ht⟩ := each i hi
    exact ⟨t, fun _ => ht⟩
   ·exact ⟨(none, 0), fun h => absurd h hi⟩
  refine ⟨fun i => Classical.choose (this i), ⟨fun _ => ⟨b, off, e, (flatL_range n (hf_len X _ n)).2 fun i hi => (Classical.choose_spec (this i) hi).1⟩, hn⟩, fun i hi => (Classical.choose_spec (this i) hi).2⟩
/-- A state whose rows are its own, in blocks from B on. -/
structure SvOw (B : Nat) (w : World) (s : Sv) (p : Pl) (A : Nat → Option Addr × Nat) : Prop where
 lk : ∀ i, i < s.pn → Zb (s.P i).lk
 py : w.ownsRow B 97 36 (.slice p.pa s.pn p.pc) s.pn (flatL (pf s.P) s.pn)
 hd : w.ownsRow B 99 3 (.slice p.ha s.hn p.hc) s.hn (flatL (hf s.H A) s.hn)
 ks : ∀ i, i < s.hn → w.ownsRow B 3 1 (.slice (A i).1 (s.H i).n (A i).2) (s.H i).n (kL (s.H i))
theorem SvOw.hdAt {B : Nat} {w : World} {n cap : Nat} {ad : Option Addr} {H : Nat → Hd} {A : Nat → Option Addr × Nat} (hd : w.ownsRow B 99 3 (.slice ad n cap) n (flatL (hf H A) n)) (ks : ∀ i, i < n → w.ownsRow B 3 1 (.slice (A i).1 (H i).n (A i).2) (H i).n (kL (H i))) : HdAt w ad n H := by
 refine ⟨fun h0 => ?_⟩
 obtain ⟨g, e, _, _, hr⟩ := own_range hd h0
 exact ⟨g, 0, e, fun i hi => ⟨(A i).1, (A i).2, (flatL_range n (hf_len H A n)).1 hr i hi, kL_isAt (ks i hi), (own_nil (ks i hi)).2⟩⟩
theorem SvOw.at {B : Nat} {w : World} {s : Sv} {p : Pl} {A : Nat → Option Addr × Nat} (h : SvOw B w s p A) : SvAt w s p :=
 ⟨py_of_own h.py h.lk, SvOw.hdAt h.hd h.ks, (own_nil h.py).1, (own_nil h.hd).1, (own_nil h.py).2, (own_nil h.hd).2⟩
theorem SvOw.below {B : Nat} {w w' : World} {s : Sv} {p : Pl} {A : Nat → Option Addr × Nat} (h : SvOw B w s p A) (hb : Below w.heap.size w w') : SvOw B w' s p A :=
 ⟨h.lk, own_below h.py hb, own_below h.hd hb, fun i hi => own_below (h.ks i hi) hb⟩
theorem SvOw.low {B C : Nat} {w : World} {s : Sv} {p : Pl} {A : Nat → Option Addr × Nat} (h : SvOw B w s p A) (hb : C ≤ B) : SvOw C w s p A :=
 ⟨h.lk, own_low h.py hb, own_low h.hd hb, fun i hi => own_low (h.ks i hi) hb⟩

section
variable {w : World} {b : Nat} {x y z u : Value} {t : TypeId}
end
section
variable {w : World} {b : Nat} {x0 x1 x2 x3 x4 u u0 u1 u2 u3 u4 : Value} {t : TypeId}
theorem five_set0 (h : w.heap[b]? = some (.cells #[x0, x1, x2, x3, x4] t (0, 0))) : (w.setCell ⟨b, 0, none⟩ u).heap[b]? = some (.cells #[u, x1, x2, x3, x4] t (0, 0)) := heap_setCell_same w b 0 _ t u h
theorem five_set1 (h : w.heap[b]? = some (.cells #[x0, x1, x2, x3, x4] t (0, 0))) : (w.setCell ⟨b, 1, none⟩ u).heap[b]? = some (.cells #[x0, u, x2, x3, x4] t (0, 0)) := heap_setCell_same w b 1 _ t u h
theorem five_set2 (h : w.heap[b]? = some (.cells #[x0, x1, x2, x3, x4] t (0, 0))) : (w.setCell ⟨b, 2, none⟩ u).heap[b]? = some (.cells #[x0, x1, u, x3, x4] t (0, 0)) := heap_setCell_same w b 2 _ t u h
theorem five_set3 (h : w.heap[b]? = some (.cells #[x0, x1, x2, x3, x4] t (0, 0))) : (w.setCell ⟨b, 3, none⟩ u).heap[b]? = some (.cells #[x0, x1, x2, u, x4] t (0, 0)) := heap_setCell_same w b 3 _ t u h
theorem five_set4 (h : w.heap[b]? = some (.cells #[x0, x1, x2, x3, x4] t (0, 0))) : (w.setCell ⟨b, 4, none⟩ u).heap[b]? = some (.cells #[x0, x1, x2, x3, u] t (0, 0)) := heap_setCell_same w b 4 _ t u h
/-- All five written. -/
theorem five_all (h : w.heap[b]? = some (.cells #[x0, x1, x2, x3, x4] t (0, 0))) : (((((w.setCell ⟨b, 0, none⟩ u0).setCell ⟨b, 1, none⟩ u1).setCell ⟨b, 2, none⟩ u2).setCell ⟨b, 3, none⟩ u3).setCell ⟨b, 4, none⟩ u4).heap[b]? = some (.cells #[u0, u1, u2, u3, u4] t (0, 0)) :=
 five_set4 (five_set3 (five_set2 (five_set1 (five_set0 h))))
/-- What a block of five cells gives a walk. -/
structure Five (w : World) (b : Nat) (x0 x1 x2 x3 x4 : Value) : Prop where
 c0 : w.cell? ⟨b, 0, none⟩ = some x0
 c1 : w.cell? ⟨b, 1, none⟩ = some x1
 c2 : w.cell? ⟨b, 2, none⟩ = some x2
 c3 : w.cell? ⟨b, 3, none⟩ = some x3
 c4 : w.cell? ⟨b, 4, none⟩ = some x4
 f : ∀ o, w.frozen? ⟨b, o, none⟩ = false
theorem five_of (h : w.heap[b]? = some (.cells #[x0, x1, x2, x3, x4] t (0, 0))) : Five w b x0 x1 x2 x3 x4 :=
 ⟨by rw [cell_of_row _ _ 0 _ _ _ h]; rfl, by rw [cell_of_row _ _ 1 _ _ _ h]; rfl, by rw [cell_of_row _ _ 2 _ _ _ h]; rfl, by rw [cell_of_row _ _ 3 _ _ _ h]; rfl, by rw [cell_of_row _ _ 4 _ _ _ h]; rfl, fun o => frozen_of_row _ _ o _ _ h⟩
theorem five_below {B : Nat} {w' : World} (h : Below B w w') (hB : B ≤ b) : Below B w (((((w'.setCell ⟨b, 0, none⟩ u0).setCell ⟨b, 1, none⟩ u1).setCell ⟨b, 2, none⟩ u2).setCell ⟨b, 3, none⟩ u3).setCell ⟨b, 4, none⟩ u4) :=
 ((((h.setCell hB _).setCell hB _).setCell hB _).setCell hB _).setCell hB _
theorem five_other {k : Nat} (h : k ≠ b) : (((((w.setCell ⟨b, 0, none⟩ u0).setCell ⟨b, 1, none⟩ u1).setCell ⟨b, 2, none⟩ u2).setCell ⟨b, 3, none⟩ u3).setCell ⟨b, 4, none⟩ u4).heap[k]? = w.heap[k]? := by
 rw [Below.heap_setCell _ _ _ _ (by exact h), Below.heap_setCell _ _ _ _ (by exact h), Below.heap_setCell _ _ _ _ (by exact h), Below.heap_setCell _ _ _ _ (by exact h), Below.heap_setCell _ _ _ _ (by exact h)]
end
theorem SvOw.frm {w w' : World} {B : Nat} {s : Sv} {p : Pl} {A : Nat → Option Addr × Nat} (h : SvOw B w s p A) (hk : ∀ k, k < w.heap.size → B ≤ k → w'.heap[k]? = w.heap[k]?) : SvOw B w' s p A :=
 ⟨h.lk, own_keep h.py (fun g e => hk g (h.py.lt g e).2 (h.py.lt g e).1), own_keep h.hd (fun g e => hk g (h.hd.lt g e).2 (h.hd.lt g e).1), fun i hi => own_keep (h.ks i hi) (fun g e => hk g ((h.ks i hi).lt g e).2 ((h.ks i hi).lt g e).1)⟩
end Go.Proofs.YtjnepkggdkccaaaGreatDoor
/- state.mayWait: payments that can wait together. -/
namespace Go.Proofs.YtjnepkggdkccaaaGreatDoor
open Go.RowKit

set_option maxRecDepth 100000 in
set_option maxHeartbeats 3200000 in
theorem mayWait_any (ad : Option Addr) (n cap : Nat) (X : Nat → Py) (w : World) (h : PyAt w ad n X) (hn : n ≤ 1000000) :
  Calls Tryz.prog 61 #[.slice ad n cap] w fun e w' => e = .returned (.bool (decide (PsOk X n))) ∧ Below w.heap.size w w' := by
 have HB : Hid (PyAt w ad n X) := h
 have hb0 := Below.refl w.heap.size w
 clear h
 go_enter Tryz.func61, Tryz.ntmps61
 go_wp2
 go_loopw [3, 5, 8] (fun lv _ iv wr => ∃ i : Nat, i ≤ n ∧ lv = .int .i64 (lastP X i) ∧ iv = .int .i64 i ∧ PsOk X i ∧ Below w.heap.size w wr) (fun _ _ iv _ => n + 1 - (intOf iv).toNat)
 case atStart => exact ⟨0, by omega, rfl, rfl, fun j hj => by omega, hb0⟩
 case round =>
  clear hb0
  obtain ⟨i, hi, rfl, rfl, hk, hb⟩ := hrel
  have HK : Hid (PsOk X i) := hk
  clear hk
  by_cases hlt : i < n
  ·have hlt' : (i : Int) < n := by omega
   have HLK : Hid (Zb (X i).lk) := HB.out.lk i hlt
   obtain ⟨b, off, rfl, hc⟩ := HB.out.at_ (by omega)
   have HR : Hid (wr.rangeAt b (off + i * 36) (pyl (X i))) := range_below (hc i hlt) hb
   clear hc
   have HS : Hid (lastP X i < (X i).id ∧ POne (X i) → PsOk X (i + 1)) := fun hx j hj => by
    by_cases e : j = i
    ·subst e; exact hx
    ·exact HK.out j (by omega)
   have HN : Hid (PsOk X n → lastP X i < (X i).id ∧ POne (X i)) := fun hk => hk i hlt
   have HE : Hid (lastP X (i + 1) = (X i).id) := lastP_succ X i
   clear HK
   generalize lastP X i = q at *
   obtain ⟨x, hx⟩ : ∃ x, X i = x := ⟨_, rfl⟩
   rw [hx] at HR HN HE HLK HS
   clear hx
   by_cases h1 : q < x.id
   ·have h1' : ¬ x.id ≤ q := by omega
    by_cases h2 : x.id ≤ 4294967296
    ·have h2' : ¬ 4294967296 < x.id := by omega
     by_cases h3 : x.fr = 0 ∨ x.fr = 1
     ·have hs := isSide_any x.fr
      rw [decide_eq_true h3] at hs
      by_cases h4 : 10 ≤ x.am ∧ x.am ≤ 1125899906842624
      ·have hw1 := within_any x.am 10 1125899906842624
       rw [decide_eq_true h4] at hw1
       by_cases h5 : 0 ≤ x.af ∧ x.af ≤ 1099511627776
       ·have hw2 := within_any x.af 0 1099511627776
        rw [decide_eq_true h5] at hw2
        by_cases h6 : hq x.lk nz = false
        ·have HO := HS.out ⟨h1, h2, h3, h4, h5, h6⟩
         clear h3 h4 h5 HN HS
         go_wp2_with (first | (refine wpList_load_mid rfl 97 _ rfl b (off + i * 36) rfl (pyl x) _ HR.out Tryz.underlying97 rfl (szPl _) ?_) | (refine wpList_allocP rfl rfl ?_) | (refine wpList_storeP _ szP rfl _ _ rfl wr.heap.size rfl x p0 97 rfl (heap_alloc_new wr _) ?_; intro w3 hg3 hf3; obtain ⟨c0, c1, c2, c3, cl⟩ := pbox_of hg3; have HB3 : Hid (Below wr.heap.size wr w3) := frm_new hf3; have HC : Hid (w3.rangeAt wr.heap.size 4 (bl x.lk 32)) := cl; clear hf3 cl) | fail)
         refine (hs _).mono ?_
         rintro e w4 ⟨rfl, rfl⟩
         clear hs
         go_wp2_with fail
         refine (hw1 _).mono ?_
         rintro e w5 ⟨rfl, rfl⟩
         clear hw1
         go_wp2_with fail
         refine (hw2 _).mono ?_
         rintro e w6 ⟨rfl, rfl⟩
         clear hw2
         go_wp2_with (first | (refine wpList_loadHG (by rfl) _ rfl wr.heap.size 4 rfl x.lk HC.out ?_) | (refine wpList_buildHG (by rfl) rfl ?_) | (refine wpList_eqHG (by rfl) _ _ rfl x.lk nz rfl rfl HLK.out nz_bd ?_) | fail)
         go_roundw
         case rel => exact ⟨i + 1, by omega, by rw [HE.out], by go_num, HO, hb.trans (HB3.out.mono hb.size)⟩
         case measure => simp [intOf]; omega
        ·have h6' : hq x.lk nz = true := by simpa using h6
         have HF : Hid (decide (PsOk X n) = false) := by
          show _ = _
          simp only [decide_eq_false_iff_not]
          exact fun hk => h6 (HN.out hk).2.2.2.2.2
         clear h3 h4 h5 h6 HN HS
         go_wp2_with (first | (refine wpList_load_mid rfl 97 _ rfl b (off + i * 36) rfl (pyl x) _ HR.out Tryz.underlying97 rfl (szPl _) ?_) | (refine wpList_allocP rfl rfl ?_) | (refine wpList_storeP _ szP rfl _ _ rfl wr.heap.size rfl x p0 97 rfl (heap_alloc_new wr _) ?_; intro w3 hg3 hf3; obtain ⟨c0, c1, c2, c3, cl⟩ := pbox_of hg3; have HB3 : Hid (Below wr.heap.size wr w3) := frm_new hf3; have HC : Hid (w3.rangeAt wr.heap.size 4 (bl x.lk 32)) := cl; clear hf3 cl) | fail)
         refine (hs _).mono ?_
         rintro e w4 ⟨rfl, rfl⟩
         clear hs
         go_wp2_with fail
         refine (hw1 _).mono ?_
         rintro e w5 ⟨rfl, rfl⟩
         clear hw1
         go_wp2_with fail
         refine (hw2 _).mono ?_
         rintro e w6 ⟨rfl, rfl⟩
         clear hw2
         go_wp2_with (first | (refine wpList_loadHG (by rfl) _ rfl wr.heap.size 4 rfl x.lk HC.out ?_) | (refine wpList_buildHG (by rfl) rfl ?_) | (refine wpList_eqHG (by rfl) _ _ rfl x.lk nz rfl rfl HLK.out nz_bd ?_) | fail)
         go_ret
         exact ⟨by rw [HF.out]; rfl, hb.trans (HB3.out.mono hb.size)⟩
       ·have hw2 := within_any x.af 0 1099511627776
        rw [decide_eq_false h5] at hw2
        have HF : Hid (decide (PsOk X n) = false) := by
         show _ = _
         simp only [decide_eq_false_iff_not]
         exact fun hk => h5 (HN.out hk).2.2.2.2.1
        clear h3 h4 h5 HN HS
        go_wp2_with (first | (refine wpList_load_mid rfl 97 _ rfl b (off + i * 36) rfl (pyl x) _ HR.out Tryz.underlying97 rfl (szPl _) ?_) | (refine wpList_allocP rfl rfl ?_) | (refine wpList_storeP _ szP rfl _ _ rfl wr.heap.size rfl x p0 97 rfl (heap_alloc_new wr _) ?_; intro w3 hg3 hf3; obtain ⟨c0, c1, c2, c3, cl⟩ := pbox_of hg3; have HB3 : Hid (Below wr.heap.size wr w3) := frm_new hf3; have HC : Hid (w3.rangeAt wr.heap.size 4 (bl x.lk 32)) := cl; clear hf3 cl) | fail)
        refine (hs _).mono ?_
        rintro e w4 ⟨rfl, rfl⟩
        clear hs
        go_wp2_with fail
        refine (hw1 _).mono ?_
        rintro e w5 ⟨rfl, rfl⟩
        clear hw1
        go_wp2_with fail
        refine (hw2 _).mono ?_
        rintro e w6 ⟨rfl, rfl⟩
        clear hw2
        go_wp2
        go_ret
        exact ⟨by rw [HF.out]; rfl, hb.trans (HB3.out.mono hb.size)⟩
      ·have hw1 := within_any x.am 10 1125899906842624
       rw [decide_eq_false h4] at hw1
       have HF : Hid (decide (PsOk X n) = false) := by
        show _ = _
        simp only [decide_eq_false_iff_not]
        exact fun hk => h4 (HN.out hk).2.2.2.1
       clear h3 h4 HN HS
       go_wp2_with (first | (refine wpList_load_mid rfl 97 _ rfl b (off + i * 36) rfl (pyl x) _ HR.out Tryz.underlying97 rfl (szPl _) ?_) | (refine wpList_allocP rfl rfl ?_) | (refine wpList_storeP _ szP rfl _ _ rfl wr.heap.size rfl x p0 97 rfl (heap_alloc_new wr _) ?_; intro w3 hg3 hf3; obtain ⟨c0, c1, c2, c3, cl⟩ := pbox_of hg3; have HB3 : Hid (Below wr.heap.size wr w3) := frm_new hf3; have HC : Hid (w3.rangeAt wr.heap.size 4 (bl x.lk 32)) := cl; clear hf3 cl) | fail)
       refine (hs _).mono ?_
       rintro e w4 ⟨rfl, rfl⟩
       clear hs
       go_wp2_with fail
       refine (hw1 _).mono ?_
       rintro e w5 ⟨rfl, rfl⟩
       clear hw1
       go_wp2
       go_ret
       exact ⟨by rw [HF.out]; rfl, hb.trans (HB3.out.mono hb.size)⟩
     ·have hs := isSide_any x.fr
      rw [decide_eq_false h3] at hs
      have HF : Hid (decide (PsOk X n) = false) := by
       show _ = _
       simp only [decide_eq_false_iff_not]
       exact fun hk => h3 (HN.out hk).2.2.1
      clear h3 HN HS
      go_wp2_with (first | (refine wpList_load_mid rfl 97 _ rfl b (off + i * 36) rfl (pyl x) _ HR.out Tryz.underlying97 rfl (szPl _) ?_) | (refine wpList_allocP rfl rfl ?_) | (refine wpList_storeP _ szP rfl _ _ rfl wr.heap.size rfl x p0 97 rfl (heap_alloc_new wr _) ?_; intro w3 hg3 hf3; obtain ⟨c0, c1, c2, c3, cl⟩ := pbox_of hg3; have HB3 : Hid (Below wr.heap.size wr w3) := frm_new hf3; have HC : Hid (w3.rangeAt wr.heap.size 4 (bl x.lk 32)) := cl; clear hf3 cl) | fail)
      refine (hs _).mono ?_
      rintro e w4 ⟨rfl, rfl⟩
      clear hs
      go_wp2
      go_ret
      exact ⟨by rw [HF.out]; rfl, hb.trans (HB3.out.mono hb.size)⟩
    ·have h2' : 4294967296 < x.id := by omega
     have HF : Hid (decide (PsOk X n) = false) := by
      show _ = _
      simp only [decide_eq_false_iff_not]
      exact fun hk => h2 (HN.out hk).2.1
     clear HN HS
     go_wp2_with (first | (refine wpList_load_mid rfl 97 _ rfl b (off + i * 36) rfl (pyl x) _ HR.out Tryz.underlying97 rfl (szPl _) ?_) | (refine wpList_allocP rfl rfl ?_) | (refine wpList_storeP _ szP rfl _ _ rfl wr.heap.size rfl x p0 97 rfl (heap_alloc_new wr _) ?_; intro w3 hg3 hf3; obtain ⟨c0, c1, c2, c3, cl⟩ := pbox_of hg3; have HB3 : Hid (Below wr.heap.size wr w3) := frm_new hf3; have HC : Hid (w3.rangeAt wr.heap.size 4 (bl x.lk 32)) := cl; clear hf3 cl) | fail)
     go_ret
     exact ⟨by rw [HF.out]; rfl, hb.trans (HB3.out.mono hb.size)⟩
   ·have h1' : x.id ≤ q := by omega
    have HF : Hid (decide (PsOk X n) = false) := by
     show _ = _
     simp only [decide_eq_false_iff_not]
     exact fun hk => h1 (HN.out hk).1
    clear HN HS
    go_wp2_with (first | (refine wpList_load_mid rfl 97 _ rfl b (off + i * 36) rfl (pyl x) _ HR.out Tryz.underlying97 rfl (szPl _) ?_) | (refine wpList_allocP rfl rfl ?_) | (refine wpList_storeP _ szP rfl _ _ rfl wr.heap.size rfl x p0 97 rfl (heap_alloc_new wr _) ?_; intro w3 hg3 hf3; obtain ⟨c0, c1, c2, c3, cl⟩ := pbox_of hg3; have HB3 : Hid (Below wr.heap.size wr w3) := frm_new hf3; have HC : Hid (w3.rangeAt wr.heap.size 4 (bl x.lk 32)) := cl; clear hf3 cl) | fail)
    go_ret
    exact ⟨by rw [HF.out]; rfl, hb.trans (HB3.out.mono hb.size)⟩
  ·obtain rfl : i = n := by omega
   have hnn : ¬ ((i : Int) < i) := by omega
   have hk := HK.out
   go_wp2
   go_ret
   exact ⟨by simp, hb⟩
end Go.Proofs.YtjnepkggdkccaaaGreatDoor
/- state.mayBeHeld and (State).together. -/
namespace Go.Proofs.YtjnepkggdkccaaaGreatDoor
open Go.RowKit


set_option maxRecDepth 100000 in
set_option maxHeartbeats 3200000 in
theorem mayBeHeld_any (ad : Option Addr) (n cap : Nat) (X : Nat → Hd) (w : World) (h : HdAt w ad n X) (hn : n ≤ 1000000) (hk : ∀ i, i < n → (X i).n ≤ 1000000) :
  Calls Tryz.prog 62 #[.slice ad n cap] w fun e w' => e = .returned (.bool (decide (HsOk X n))) ∧ Below w.heap.size w w' := by
 have HB : Hid (HdAt w ad n X) := h
 have hb0 := Below.refl w.heap.size w
 clear h
 go_enter Tryz.func62, Tryz.ntmps62
 go_wp2
 go_loopw [3, 5, 8] (fun lv _ iv wr => ∃ i : Nat, i ≤ n ∧ lv = .int .i64 (lastH X i) ∧ iv = .int .i64 i ∧ HsOk X i ∧ Below w.heap.size w wr) (fun _ _ iv _ => n + 1 - (intOf iv).toNat)
 case atStart => exact ⟨0, by omega, rfl, rfl, fun j hj => by omega, hb0⟩
 case round =>
  clear hb0
  obtain ⟨i, hi, rfl, rfl, hk0, hb⟩ := hrel
  have HK : Hid (HsOk X i) := hk0
  clear hk0
  by_cases hlt : i < n
  ·have hlt' : (i : Int) < n := by omega
   have hkn := hk i hlt
   obtain ⟨b, off, rfl, hc⟩ := HB.out.at_ (by omega)
   obtain ⟨ka, kc, hr, hI, _⟩ := hc i hlt
   have HI : Hid (IsAt wr ka (X i).n (X i).z) := hI.below hb
   obtain ⟨d0, d1, d2⟩ := hd_cells (range_below hr hb)
   clear hc hr hI hk
   have HS : Hid (lastH X i < (X i).id ∧ HOne (X i) → HsOk X (i + 1)) := fun hx j hj => by
    by_cases e : j = i
    ·subst e; exact hx
    ·exact HK.out j (by omega)
   have HN : Hid (HsOk X n → lastH X i < (X i).id ∧ HOne (X i)) := fun hk => hk i hlt
   have HE : Hid (lastH X (i + 1) = (X i).id) := lastH_succ X i
   clear HK
   generalize lastH X i = q at *
   obtain ⟨x, hx⟩ : ∃ x, X i = x := ⟨_, rfl⟩
   rw [hx] at HN HE HS HI d0 d1 d2 hkn
   clear hx
   have hbn : Below wr.heap.size wr (wr.alloc (.cells (hdv x ka kc) 99)) := (Below.refl _ wr).alloc (Nat.le_refl _) _
   have hm := mayHold_any ka x.n kc x.z _ (HI.out.below hbn) hkn
   have HBN : Hid (Below w.heap.size w (wr.alloc (.cells (hdv x ka kc) 99))) := hb.trans (hbn.mono hb.size)
   clear hbn HI
   unfold hdv at HBN hm
   by_cases h1 : q < x.id
   ·have h1' : ¬ x.id ≤ q := by omega
    by_cases h2 : x.id ≤ 4294967296
    ·have h2' : ¬ 4294967296 < x.id := by omega
     by_cases h3 : 10 ≤ x.am ∧ x.am ≤ 1125899906842624
     ·have hw1 := within_any x.am 10 1125899906842624
      rw [decide_eq_true h3] at hw1
      by_cases h4 : KOk x.z x.n ∧ 0 < x.n
      ·rw [decide_eq_true h4] at hm
       have HO := HS.out ⟨h1, h2, h3, h4⟩
       clear h3 h4 HN HS
       go_wp2_with fail
       refine (hw1 _).mono ?_
       rintro e w5 ⟨rfl, rfl⟩
       clear hw1
       go_wp2_with fail
       refine hm.mono ?_
       rintro e w6 ⟨rfl, hb6⟩
       have hb7 := HBN.out.trans (hb6.mono HBN.out.size)
       have c0 : w6.cell? ⟨wr.heap.size, 0, none⟩ = some (.int .i64 x.id) := by
        rw [hb6.cell (p := ⟨wr.heap.size, 0, none⟩) (by simp)]; simp
       clear hb6 hm d0 d1 d2
       go_wp2
       go_roundw
       case rel => exact ⟨i + 1, by omega, by rw [HE.out], by go_num, HO, hb7⟩
       case measure => simp [intOf]; omega
      ·rw [decide_eq_false h4] at hm
       have HF : Hid (decide (HsOk X n) = false) := by
        show _ = _
        simp only [decide_eq_false_iff_not]
        exact fun hk => h4 (HN.out hk).2.2.2
       clear h3 h4 HN HS
       go_wp2_with fail
       refine (hw1 _).mono ?_
       rintro e w5 ⟨rfl, rfl⟩
       clear hw1
       go_wp2_with fail
       refine hm.mono ?_
       rintro e w6 ⟨rfl, hb6⟩
       have hb7 := HBN.out.trans (hb6.mono HBN.out.size)
       clear hb6 hm d0 d1 d2
       go_wp2
       go_ret
       exact ⟨by rw [HF.out]; rfl, hb7⟩
     ·have hw1 := within_any x.am 10 1125899906842624
      rw [decide_eq_false h3] at hw1
      have HF : Hid (decide (HsOk X n) = false) := by
       show _ = _
       simp only [decide_eq_false_iff_not]
       exact fun hk => h3 (HN.out hk).2.2.1
      clear h3 HN HS hm
      go_wp2_with fail
      refine (hw1 _).mono ?_
      rintro e w5 ⟨rfl, rfl⟩
      clear hw1
      go_wp2
      go_ret
      exact ⟨by rw [HF.out]; rfl, HBN.out⟩
    ·have h2' : 4294967296 < x.id := by omega
     have HF : Hid (decide (HsOk X n) = false) := by
      show _ = _
      simp only [decide_eq_false_iff_not]
      exact fun hk => h2 (HN.out hk).2.1
     clear HN HS hm
     go_wp2
     go_ret
     exact ⟨by rw [HF.out]; rfl, HBN.out⟩
   ·have h1' : x.id ≤ q := by omega
    have HF : Hid (decide (HsOk X n) = false) := by
     show _ = _
     simp only [decide_eq_false_iff_not]
     exact fun hk => h1 (HN.out hk).1
    clear HN HS hm
    go_wp2
    go_ret
    exact ⟨by rw [HF.out]; rfl, HBN.out⟩
  ·obtain rfl : i = n := by omega
   have hnn : ¬ ((i : Int) < i) := by omega
   have hk := HK.out
   go_wp2
   go_ret
   exact ⟨by simp, hb⟩
end Go.Proofs.YtjnepkggdkccaaaGreatDoor
/- state.Check. -/
namespace Go.Proofs.YtjnepkggdkccaaaGreatDoor
open Go.RowKit

set_option maxRecDepth 100000 in
set_option maxHeartbeats 3200000 in
theorem check_any (s : Sv) (p : Pl) (w : World) (h : SvAt w s p) (hs : s.Small) :
  Calls Tryz.prog 32 #[.agg (svv s p)] w fun e w' => e = .returned (errV (chkE s)) ∧ Below w.heap.size w w' := by
 have hb0 : Below w.heap.size w (w.alloc (.cells (svv s p) 45)) := (Below.refl _ w).alloc (Nat.le_refl _) _
 have hr0 := heap_alloc_new w (.cells (svv s p) 45)
 have H0 := h.below hb0
 have HS : Hid s.Small := hs
 have hsn := hs.n
 have hw1 := within_any s.nu 0 1099511627776
 have hw2 := within_any s.a 0 1125899906842624
 have hw3 := within_any s.b 0 1125899906842624
 clear h hs
 by_cases h1 : 0 ≤ s.nu ∧ s.nu ≤ 1099511627776
 ·rw [decide_eq_true h1] at hw1
  by_cases h2 : 0 ≤ s.a ∧ s.a ≤ 1125899906842624
  ·rw [decide_eq_true h2] at hw2
   by_cases h3 : 0 ≤ s.b ∧ s.b ≤ 1125899906842624
   ·rw [decide_eq_true h3] at hw3
    have hN : SNum s := ⟨h1, h2, h3⟩
    have HN : Hid (SNum s) := hN
    clear h1 h2 h3 hN
    go_enter Tryz.func32, Tryz.ntmps32
    have HW : Hid (SvAt (w.alloc (.cells (svv s p) 45)) s p) := H0
    have HB0 : Hid (Below w.heap.size w (w.alloc (.cells (svv s p) 45))) := hb0
    clear H0 hb0
    have hsl := fun w => slots_any s p w (by omega)
    unfold svv at HW HB0 hr0 hsl ⊢
    go_wp2_with fail
    refine (hw1 _).mono ?_
    rintro e w1 ⟨rfl, rfl⟩
    go_wp2_with fail
    refine (hw2 _).mono ?_
    rintro e w2 ⟨rfl, rfl⟩
    go_wp2_with fail
    refine (hw3 _).mono ?_
    rintro e w3 ⟨rfl, rfl⟩
    clear hw1 hw2 hw3
    go_wp2_with fail
    generalize w.alloc (.cells #[.int .i64 s.nu, .int .i64 s.a, .int .i64 s.b, .slice p.pa s.pn p.pc, .slice p.ha s.hn p.hc] 45) = W0 at *
    have hl0 := lt_of_block hr0
    refine (hsl _).mono ?_
    rintro e w4 ⟨rfl, hb4⟩
    have KP : ∀ w', Below W0.heap.size W0 w' → w'.heap[w.heap.size]? = some (.cells #[.int .i64 s.nu, .int .i64 s.a, .int .i64 s.b, .slice p.pa s.pn p.pc, .slice p.ha s.hn p.hc] 45 (0, 0)) := fun w' hb => by rw [hb.block _ hl0]; exact hr0
    have KC : Hid (∀ w', Below W0.heap.size W0 w' → w'.cell? ⟨w.heap.size, 0, none⟩ = some (.int .i64 s.nu) ∧ w'.cell? ⟨w.heap.size, 1, none⟩ = some (.int .i64 s.a) ∧ w'.cell? ⟨w.heap.size, 2, none⟩ = some (.int .i64 s.b) ∧ w'.cell? ⟨w.heap.size, 3, none⟩ = some (.slice p.pa s.pn p.pc) ∧ w'.cell? ⟨w.heap.size, 4, none⟩ = some (.slice p.ha s.hn p.hc)) := fun w' hb =>
     ⟨by rw [cell_of_row _ _ 0 _ _ _ (KP w' hb)]; rfl, by rw [cell_of_row _ _ 1 _ _ _ (KP w' hb)]; rfl, by rw [cell_of_row _ _ 2 _ _ _ (KP w' hb)]; rfl, by rw [cell_of_row _ _ 3 _ _ _ (KP w' hb)]; rfl, by rw [cell_of_row _ _ 4 _ _ _ (KP w' hb)]; rfl⟩
    have KE : Hid (∀ w', Below W0.heap.size W0 w' → Below w.heap.size w w') := fun w' hb => HB0.out.trans (hb.mono HB0.out.size)
    clear KP hsl hr0
    obtain ⟨k0, k1, k2, k3, k4⟩ := KC.out w4 hb4
    by_cases h4 : s.pn + s.hn ≤ 8
    ·have h4' : ¬ (8 : Int) < ((s.pn + s.hn : Nat) : Int) := by omega
     have hm := mayWait_any p.pa s.pn p.pc s.P w4 (HW.out.py.below hb4) (by omega)
     by_cases h5 : PsOk s.P s.pn
     ·rw [decide_eq_true h5] at hm
      go_wp2_with fail
      refine hm.mono ?_
      rintro e w5 ⟨rfl, hb5⟩
      have hb5' := Below.transS hb4 hb5
      clear hm hb4 hb5 k0 k1 k2 k3 k4
      obtain ⟨k0, k1, k2, k3, k4⟩ := KC.out w5 hb5'
      have hh := mayBeHeld_any p.ha s.hn p.hc s.H w5 (HW.out.hd.below hb5') (by omega) (fun i hi => by have := HS.out.k i hi; omega)
      by_cases h6 : HsOk s.H s.hn
      ·rw [decide_eq_true h6] at hh
       go_wp2_with fail
       refine hh.mono ?_
       rintro e w6 ⟨rfl, hb6⟩
       have hb6' := Below.transS hb5' hb6
       clear hh hb5' hb6 k0 k1 k2 k3 k4
       obtain ⟨k0, k1, k2, k3, k4⟩ := KC.out w6 hb6'
       have ht := together_any s p w6 (HW.out.below hb6') HN.out ⟨h4, h5, h6⟩
       have hR : SRows s := ⟨h4, h5, h6⟩
       unfold svv at ht
       by_cases h7 : tot s ≤ 1125899906842624
       ·have h7' : ¬ 1125899906842624 < tot s := by omega
        have HE : Hid (chkE s = 0) := if_pos ⟨HN.out, hR, h7⟩
        clear hR h4 h5 h6
        generalize tot s = q at *
        go_wp2_with fail
        refine ht.mono ?_
        rintro e w7 ⟨rfl, hb7⟩
        have hb7' := KE.out w7 (Below.transS hb6' hb7)
        clear ht hb7 hb6' k0 k1 k2 k3 k4
        go_wp2
        go_ret
        exact ⟨by rw [HE.out]; rfl, hb7'⟩
       ·have h7' : 1125899906842624 < tot s := by omega
        have HE : Hid (chkE s = 1) := if_neg (fun h => h7 h.2.2)
        clear hR h4 h5 h6
        generalize tot s = q at *
        go_wp2_with fail
        refine ht.mono ?_
        rintro e w7 ⟨rfl, hb7⟩
        have hb7' := KE.out w7 (Below.transS hb6' hb7)
        clear ht hb7 hb6' k0 k1 k2 k3 k4
        go_wp2
        go_ret
        exact ⟨by rw [HE.out]; rfl, hb7'⟩
      ·rw [decide_eq_false h6] at hh
       have HE : Hid (chkE s = 1) := if_neg (fun h => h6 h.2.1.2.2)
       go_wp2_with fail
       refine hh.mono ?_
       rintro e w6 ⟨rfl, hb6⟩
       have hb7' := KE.out w6 (Below.transS hb5' hb6)
       clear hh hb6 hb5' k0 k1 k2 k3 k4
       go_wp2
       go_ret
       exact ⟨by rw [HE.out]; rfl, hb7'⟩
     ·rw [decide_eq_false h5] at hm
      have HE : Hid (chkE s = 1) := if_neg (fun h => h5 h.2.1.2.1)
      go_wp2_with fail
      refine hm.mono ?_
      rintro e w5 ⟨rfl, hb5⟩
      have hb7' := KE.out w5 (Below.transS hb4 hb5)
      clear hm hb5 hb4 k0 k1 k2 k3 k4
      go_wp2
      go_ret
      exact ⟨by rw [HE.out]; rfl, hb7'⟩
    ·have h4' : (8 : Int) < ((s.pn + s.hn : Nat) : Int) := by omega
     have HE : Hid (chkE s = 1) := if_neg (fun h => h4 h.2.1.1)
     have hb7' := KE.out w4 hb4
     go_wp2
     go_ret
     exact ⟨by rw [HE.out]; rfl, hb7'⟩
   ·rw [decide_eq_false h3] at hw3
    have HE : Hid (chkE s = 1) := if_neg (fun h => h3 h.1.2.2)
    clear h1 h2 h3 H0
    unfold svv at hb0 hr0 ⊢
    go_enter Tryz.func32, Tryz.ntmps32
    go_wp2_with fail
    refine (hw1 _).mono ?_
    rintro e w1 ⟨rfl, rfl⟩
    go_wp2_with fail
    refine (hw2 _).mono ?_
    rintro e w2 ⟨rfl, rfl⟩
    go_wp2_with fail
    refine (hw3 _).mono ?_
    rintro e w3 ⟨rfl, rfl⟩
    go_wp2
    go_ret
    exact ⟨by rw [HE.out]; rfl, hb0⟩
  ·rw [decide_eq_false h2] at hw2
   have HE : Hid (chkE s = 1) := if_neg (fun h => h2 h.1.2.1)
   clear h1 h2 H0
   unfold svv at hb0 hr0 ⊢
   go_enter Tryz.func32, Tryz.ntmps32
   go_wp2_with fail
   refine (hw1 _).mono ?_
   rintro e w1 ⟨rfl, rfl⟩
   go_wp2_with fail
   refine (hw2 _).mono ?_
   rintro e w2 ⟨rfl, rfl⟩
   go_wp2
   go_ret
   exact ⟨by rw [HE.out]; rfl, hb0⟩
 ·rw [decide_eq_false h1] at hw1
  have HE : Hid (chkE s = 1) := if_neg (fun h => h1 h.1.1)
  clear h1 H0
  unfold svv at hb0 hr0 ⊢
  go_enter Tryz.func32, Tryz.ntmps32
  go_wp2_with fail
  refine (hw1 _).mono ?_
  rintro e w1 ⟨rfl, rfl⟩
  go_wp2
  go_ret
  exact ⟨by rw [HE.out]; rfl, hb0⟩
end Go.Proofs.YtjnepkggdkccaaaGreatDoor
