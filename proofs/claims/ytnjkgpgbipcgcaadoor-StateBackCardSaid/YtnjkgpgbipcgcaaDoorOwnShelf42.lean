/- A state whose rows are one's own; a hold cloned. -/
import Derived.Test.YtnjkgpgbipcgcaaDoorOwnShelf41
namespace Go.Proofs.YtnjkgpgbipcgcaaDoor
open Go.RowKit

/-- A hold's keys as cells. -/
def kL (x : Hd) : List Value := (List.range x.n).map fun j => .int .i64 (x.z j)
theorem kL_length (x : Hd) : (kL x).length = x.n := by simp [kL]
theorem kL_one (x : Hd) : ∀ u ∈ kL x, u.oneCell' = true := by
  intro u hu
  simp only [kL, List.mem_map] at hu
  obtain ⟨_, _, rfl⟩ := hu
  rfl
theorem kL_at {x : Hd} {j : Nat} (h : j < x.n) : (kL x)[j]? = some (.int .i64 (x.z j)) := by simp [kL, List.getElem?_map, List.getElem?_range h]
theorem kL_src {w : World} {x : Hd} {ka : Option Addr} {kc : Nat} (h : IsAt w ka x.n x.z) (hn : ka = none → x.n = 0 ∧ kc = 0) : Src w ka x.n kc (kL x) := by
  refine ⟨fun h0 => ?_, hn⟩
  obtain ⟨b, off, e, hc⟩ := h h0
  refine ⟨b, off, e, fun j v hv => ?_⟩
  have hj : j < x.n := by have := (List.getElem?_eq_some_iff.1 hv).1; rwa [kL_length] at this
  rw [kL_at hj] at hv
  cases hv
  exact hc j hj
theorem kL_isAt {w : World} {x : Hd} {B : Nat} {ka : Option Addr} {kc : Nat} (h : w.ownsRow B 3 1 (.slice ka x.n kc) x.n (kL x)) : IsAt w ka x.n x.z := by
  intro h0
  obtain ⟨g, e, _, _, hr⟩ := own_range h h0
  exact ⟨g, 0, e, fun j hj => hr j _ (kL_at hj)⟩
theorem own_nil {w : World} {B T k n : Nat} {ad : Option Addr} {cap : Nat} {xs : List Value} (h : w.ownsRow B T k (.slice ad n cap) n xs) : n ≤ cap ∧ (ad = none → n = 0 ∧ cap = 0) := by
  obtain ⟨a, c, e, h1, h2⟩ := own_frmV h
  cases e
  exact ⟨h1, h2⟩

def pf (X : Nat → Py) : Nat → List Value := fun i => pyl (X i)
def hf (X : Nat → Hd) (A : Nat → Option Addr × Nat) : Nat → List Value := fun i => hdl (X i) (A i).1 (A i).2
theorem pf_len (X : Nat → Py) (n : Nat) : ∀ i, i < n → (pf X i).length = 36 := fun i _ => pyl_length (X i)
theorem hf_len (X : Nat → Hd) (A : Nat → Option Addr × Nat) (n : Nat) : ∀ i, i < n → (hf X A i).length = 3 := fun _ _ => rfl
theorem pf_one (X : Nat → Py) (n : Nat) : ∀ u ∈ flatL (pf X) n, u.oneCell' = true := by
  intro u hu
  obtain ⟨i, _, h⟩ := flatL_mem n hu
  exact pyl_one _ u h
theorem hf_one (X : Nat → Hd) (A : Nat → Option Addr × Nat) (n : Nat) : ∀ u ∈ flatL (hf X A) n, u.oneCell' = true := by
  intro u hu
  obtain ⟨i, _, h⟩ := flatL_mem n hu
  simp only [hf, hdl, List.mem_cons, List.not_mem_nil, or_false] at h
  rcases h with rfl | rfl | rfl <;> rfl
theorem PyAt.src {w : World} {ad : Option Addr} {n cap : Nat} {X : Nat → Py} (h : PyAt w ad n X) (hn : ad = none → n = 0 ∧ cap = 0) : Src w ad n cap (flatL (pf X) n) := by
  refine ⟨fun h0 => ?_, hn⟩
  obtain ⟨b, off, e, hr⟩ := h.at_ h0
  exact ⟨b, off, e, (flatL_range n (pf_len X n)).2 hr⟩
theorem py_of_own {w : World} {B n cap : Nat} {ad : Option Addr} {X : Nat → Py} (h : w.ownsRow B 44 36 (.slice ad n cap) n (flatL (pf X) n)) (hl : ∀ i, i < n → Zb (X i).lk) : PyAt w ad n X := by
  refine ⟨hl, fun h0 => ?_⟩
  obtain ⟨g, e, _, _, hr⟩ := own_range h h0
  exact ⟨g, 0, e, (flatL_range n (pf_len X n)).1 hr⟩
/-- Where holds that lie have their keys. -/
theorem HdAt.src {w : World} {ad : Option Addr} {n cap : Nat} {X : Nat → Hd} (h : HdAt w ad n X) (hn : ad = none → n = 0 ∧ cap = 0) :
    ∃ A : Nat → Option Addr × Nat, Src w ad n cap (flatL (hf X A) n) ∧ ∀ i, i < n → IsAt w (A i).1 (X i).n (X i).z ∧ ((A i).1 = none → (X i).n = 0 ∧ (A i).2 = 0) := by
  rcases Nat.eq_zero_or_pos n with rfl | h0
  · exact ⟨fun _ => (none, 0), ⟨fun h => by omega, hn⟩, fun i hi => by omega⟩
  · obtain ⟨b, off, e, hr⟩ := h.at_ h0
    have each : ∀ i, i < n → ∃ t : Option Addr × Nat, w.rangeAt b (off + i * 3) (hdl (X i) t.1 t.2) ∧ IsAt w t.1 (X i).n (X i).z ∧ (t.1 = none → (X i).n = 0 ∧ t.2 = 0) := fun i hi => by
      obtain ⟨ka, kc, h1, h2, h3⟩ := hr i hi
      exact ⟨(ka, kc), h1, h2, h3⟩
    have : ∀ i, ∃ t : Option Addr × Nat, i < n → w.rangeAt b (off + i * 3) (hdl (X i) t.1 t.2) ∧ IsAt w t.1 (X i).n (X i).z ∧ (t.1 = none → (X i).n = 0 ∧ t.2 = 0) := fun i => by
      by_cases hi : i < n
      · obtain ⟨t, ht⟩ := each i hi
        exact ⟨t, fun _ => ht⟩
      · exact ⟨(none, 0), fun h => absurd h hi⟩
    refine ⟨fun i => Classical.choose (this i), ⟨fun _ => ⟨b, off, e, (flatL_range n (hf_len X _ n)).2 fun i hi => (Classical.choose_spec (this i) hi).1⟩, hn⟩, fun i hi => (Classical.choose_spec (this i) hi).2⟩
/-- A state whose rows are its own, in blocks from B on. -/
structure SvOw (B : Nat) (w : World) (s : Sv) (p : Pl) (A : Nat → Option Addr × Nat) : Prop where
  lk : ∀ i, i < s.pn → Zb (s.P i).lk
  py : w.ownsRow B 44 36 (.slice p.pa s.pn p.pc) s.pn (flatL (pf s.P) s.pn)
  hd : w.ownsRow B 48 3 (.slice p.ha s.hn p.hc) s.hn (flatL (hf s.H A) s.hn)
  ks : ∀ i, i < s.hn → w.ownsRow B 3 1 (.slice (A i).1 (s.H i).n (A i).2) (s.H i).n (kL (s.H i))
theorem SvOw.hdAt {B : Nat} {w : World} {n cap : Nat} {ad : Option Addr} {H : Nat → Hd} {A : Nat → Option Addr × Nat} (hd : w.ownsRow B 48 3 (.slice ad n cap) n (flatL (hf H A) n)) (ks : ∀ i, i < n → w.ownsRow B 3 1 (.slice (A i).1 (H i).n (A i).2) (H i).n (kL (H i))) : HdAt w ad n H := by
  refine ⟨fun h0 => ?_⟩
  obtain ⟨g, e, _, _, hr⟩ := own_range hd h0
  exact ⟨g, 0, e, fun i hi => ⟨(A i).1, (A i).2, (flatL_range n (hf_len H A n)).1 hr i hi, kL_isAt (ks i hi), (own_nil (ks i hi)).2⟩⟩
theorem SvOw.at {B : Nat} {w : World} {s : Sv} {p : Pl} {A : Nat → Option Addr × Nat} (h : SvOw B w s p A) : SvAt w s p :=
  ⟨py_of_own h.py h.lk, SvOw.hdAt h.hd h.ks, (own_nil h.py).1, (own_nil h.hd).1, (own_nil h.py).2, (own_nil h.hd).2⟩
theorem SvOw.below {B : Nat} {w w' : World} {s : Sv} {p : Pl} {A : Nat → Option Addr × Nat} (h : SvOw B w s p A) (hb : Below w.heap.size w w') : SvOw B w' s p A :=
  ⟨h.lk, own_below h.py hb, own_below h.hd hb, fun i hi => own_below (h.ks i hi) hb⟩
theorem SvOw.low {B C : Nat} {w : World} {s : Sv} {p : Pl} {A : Nat → Option Addr × Nat} (h : SvOw B w s p A) (hb : C ≤ B) : SvOw C w s p A :=
  ⟨h.lk, own_low h.py hb, own_low h.hd hb, fun i hi => own_low (h.ks i hi) hb⟩

section
variable {w : World} {b : Nat} {x y z u : Value} {t : TypeId}
theorem three_set0 (h : w.heap[b]? = some (.cells #[x, y, z] t (0, 0))) : (w.setCell ⟨b, 0, none⟩ u).heap[b]? = some (.cells #[u, y, z] t (0, 0)) := heap_setCell_same w b 0 _ t u h
theorem three_set1 (h : w.heap[b]? = some (.cells #[x, y, z] t (0, 0))) : (w.setCell ⟨b, 1, none⟩ u).heap[b]? = some (.cells #[x, u, z] t (0, 0)) := heap_setCell_same w b 1 _ t u h
theorem three_set2 (h : w.heap[b]? = some (.cells #[x, y, z] t (0, 0))) : (w.setCell ⟨b, 2, none⟩ u).heap[b]? = some (.cells #[x, y, u] t (0, 0)) := heap_setCell_same w b 2 _ t u h
end
set_option maxRecDepth 100000 in
set_option maxHeartbeats 1600000 in
theorem hclone_any (x : Hd) (ka : Option Addr) (kc : Nat) (w : World) (hI : IsAt w ka x.n x.z) (hn : ka = none → x.n = 0 ∧ kc = 0) (hx : x.n ≤ 1000000) :
    Calls Tryd.prog 30 #[.agg (hdv x ka kc)] w fun e w' => ∃ ka' kc', e = .returned (.agg (hdv x ka' kc')) ∧ w'.ownsRow w.heap.size 3 1 (.slice ka' x.n kc') x.n (kL x) ∧ Below w.heap.size w w' := by
  unfold hdv
  have hb0 : Below w.heap.size w ((w.alloc (.cells #[.int .i64 x.id, .int .i64 x.am, .slice ka x.n kc] 48)).alloc (.cells #[.int .i64 0, .int .i64 0, .slice none 0 0] 48)) := ((Below.refl _ w).alloc (Nat.le_refl _) _).alloc (by simp) _
  have hsz : ((w.alloc (.cells #[.int .i64 x.id, .int .i64 x.am, .slice ka x.n kc] 48)).alloc (.cells #[.int .i64 0, .int .i64 0, .slice none 0 0] 48)).heap.size = w.heap.size + 2 := by simp
  have hr1 := heap_alloc_new (w.alloc (.cells #[.int .i64 x.id, .int .i64 x.am, .slice ka x.n kc] 48)) (.cells #[.int .i64 0, .int .i64 0, .slice none 0 0] 48)
  have hr0 : ((w.alloc (.cells #[.int .i64 x.id, .int .i64 x.am, .slice ka x.n kc] 48)).alloc (.cells #[.int .i64 0, .int .i64 0, .slice none 0 0] 48)).heap[w.heap.size]? = some (.cells #[.int .i64 x.id, .int .i64 x.am, .slice ka x.n kc] 48 (0, 0)) := by
    rw [Below.heap_alloc _ _ _ (by simp)]; exact heap_alloc_new w _
  have e1 : (w.alloc (.cells #[.int .i64 x.id, .int .i64 x.am, .slice ka x.n kc] 48)).heap.size = w.heap.size + 1 := by simp
  rw [e1] at hr1
  have hc := cloneI_any ka x.n kc (kL x) _ (kL_src (hI.below hb0) hn) (by simp [kL_length]) (kL_one x) hx
  clear hI e1
  go_enter Tryd.func30, Tryd.ntmps30
  go_wp2_with fail
  generalize (w.alloc (.cells #[.int .i64 x.id, .int .i64 x.am, .slice ka x.n kc] 48)).alloc (.cells #[.int .i64 0, .int .i64 0, .slice none 0 0] 48) = W0 at *
  refine hc.mono ?_
  rintro e w1 ⟨v, rfl, hO, hb1⟩
  obtain ⟨ka', kc', rfl, _, _⟩ := own_frmV hO
  have k0 : w1.heap[w.heap.size]? = some (.cells #[.int .i64 x.id, .int .i64 x.am, .slice ka x.n kc] 48 (0, 0)) := by rw [hb1.block _ (by omega)]; exact hr0
  have k1 : w1.heap[w.heap.size + 1]? = some (.cells #[.int .i64 0, .int .i64 0, .slice none 0 0] 48 (0, 0)) := by rw [hb1.block _ (by omega)]; exact hr1
  have c0 : w1.cell? ⟨w.heap.size, 0, none⟩ = some (.int .i64 x.id) := by rw [cell_of_row _ _ 0 _ _ _ k0]; rfl
  have c1 : w1.cell? ⟨w.heap.size, 1, none⟩ = some (.int .i64 x.am) := by rw [cell_of_row _ _ 1 _ _ _ k0]; rfl
  have c2 : w1.cell? ⟨w.heap.size, 2, none⟩ = some (.slice ka x.n kc) := by rw [cell_of_row _ _ 2 _ _ _ k0]; rfl
  have f2 : ∀ o, w1.frozen? ⟨w.heap.size, o, none⟩ = false := fun o => frozen_of_row _ _ o _ _ k0
  have d0 : w1.cell? ⟨w.heap.size + 1, 0, none⟩ = some (.int .i64 0) := by rw [cell_of_row _ _ 0 _ _ _ k1]; rfl
  have d1 : w1.cell? ⟨w.heap.size + 1, 1, none⟩ = some (.int .i64 0) := by rw [cell_of_row _ _ 1 _ _ _ k1]; rfl
  have d2 : w1.cell? ⟨w.heap.size + 1, 2, none⟩ = some (.slice none 0 0) := by rw [cell_of_row _ _ 2 _ _ _ k1]; rfl
  have g2 : ∀ o, w1.frozen? ⟨w.heap.size + 1, o, none⟩ = false := fun o => frozen_of_row _ _ o _ _ k1
  go_wp2
  have hE : ((((w1.setCell ⟨w.heap.size, 2, none⟩ (.slice ka' x.n kc')).setCell ⟨w.heap.size + 1, 0, none⟩ (.int .i64 x.id)).setCell ⟨w.heap.size + 1, 1, none⟩ (.int .i64 x.am)).setCell ⟨w.heap.size + 1, 2, none⟩ (.slice ka' x.n kc')).heap[w.heap.size + 1]? = some (.cells #[.int .i64 x.id, .int .i64 x.am, .slice ka' x.n kc'] 48 (0, 0)) :=
    three_set2 (three_set1 (three_set0 (by rw [Below.heap_setCell _ _ _ _ (by show w.heap.size + 1 ≠ w.heap.size; omega)]; exact k1)))
  refine bodyPost_ret (results_cell_row Tryd.results30 _ _ (w.heap.size + 1) 48 _ (0, 0) _ rfl hE Tryd.underlying48 rfl szH) rfl ⟨ka', kc', rfl, ?_, ?_⟩
  · refine own_keep (own_low hO (by omega)) fun g e => ?_
    have := (hO.lt g e).1
    rw [Below.heap_setCell _ _ _ _ (by show g ≠ w.heap.size + 1; omega), Below.heap_setCell _ _ _ _ (by show g ≠ w.heap.size + 1; omega), Below.heap_setCell _ _ _ _ (by show g ≠ w.heap.size + 1; omega), Below.heap_setCell _ _ _ _ (by show g ≠ w.heap.size; omega)]
  · exact ((((hb0.trans (hb1.mono (by omega))).setCell (Nat.le_refl _) _).setCell (by show w.heap.size ≤ w.heap.size + 1; omega) _).setCell (by show w.heap.size ≤ w.heap.size + 1; omega) _).setCell (by show w.heap.size ≤ w.heap.size + 1; omega) _
end Go.Proofs.YtnjkgpgbipcgcaaDoor
