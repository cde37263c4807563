/- state.next. -/
import Derived.Test.YtnjkgpgbipcgcaaDoorOwnShelf41
import Derived.Test.YtnjkgpgbipcgcaaDoorOwnShelf33
import Derived.Deep.RegionLaw
import Derived.Deep.DrawnRows
namespace Go.Proofs.YtnjkgpgbipcgcaaDoor
open Go.RowKit

/-- A state that can be changed; with the next number. -/
def Rgt (s : Sv) : Prop := SOk s ∧ s.nu < 1099511627776
instance (s : Sv) : Decidable (Rgt s) := inferInstanceAs (Decidable (_ ∧ _))
def nxt (s : Sv) : Sv := { s with nu := s.nu + 1 }

theorem results_S2 {fn : Func} {p u : Tmp} (h : fn.results = #[.cell p 28, .tmp u]) (tmps : Array Value) (w : World) (g : Nat) (t : TypeId) (c0 c1 c2 c3 c4 : Value) (fr : Nat × Nat)
    (hp : tmps.getD p undef = .pointer (some ⟨g, 0, none⟩)) (hg : w.heap[g]? = some (.cells #[c0, c1, c2, c3, c4] t fr)) :
    (results fn tmps).run Tryd.prog w = .ok (.tuple #[.agg #[c0, c1, c2, c3, c4], tmps.getD u undef]) w := by
  have hp' : tmps[p]?.getD undef = .pointer (some ⟨g, 0, none⟩) := by simpa using hp
  simp [results, h, hp', asAddr, run_loadVar_row w g t 28 #[c0, c1, c2, c3, c4] fr _ hg Tryd.underlying28 rfl szS]
section
variable {w : World} {b : Nat} {x0 x1 x2 x3 x4 u u0 u1 u2 u3 u4 : Value} {t : TypeId}
theorem five_set0 (h : w.heap[b]? = some (.cells #[x0, x1, x2, x3, x4] t (0, 0))) : (w.setCell ⟨b, 0, none⟩ u).heap[b]? = some (.cells #[u, x1, x2, x3, x4] t (0, 0)) := heap_setCell_same w b 0 _ t u h
theorem five_set1 (h : w.heap[b]? = some (.cells #[x0, x1, x2, x3, x4] t (0, 0))) : (w.setCell ⟨b, 1, none⟩ u).heap[b]? = some (.cells #[x0, u, x2, x3, x4] t (0, 0)) := heap_setCell_same w b 1 _ t u h
theorem five_set2 (h : w.heap[b]? = some (.cells #[x0, x1, x2, x3, x4] t (0, 0))) : (w.setCell ⟨b, 2, none⟩ u).heap[b]? = some (.cells #[x0, x1, u, x3, x4] t (0, 0)) := heap_setCell_same w b 2 _ t u h
theorem five_set3 (h : w.heap[b]? = some (.cells #[x0, x1, x2, x3, x4] t (0, 0))) : (w.setCell ⟨b, 3, none⟩ u).heap[b]? = some (.cells #[x0, x1, x2, u, x4] t (0, 0)) := heap_setCell_same w b 3 _ t u h
theorem five_set4 (h : w.heap[b]? = some (.cells #[x0, x1, x2, x3, x4] t (0, 0))) : (w.setCell ⟨b, 4, none⟩ u).heap[b]? = some (.cells #[x0, x1, x2, x3, u] t (0, 0)) := heap_setCell_same w b 4 _ t u h
/-- All five written. -/
theorem five_all (h : w.heap[b]? = some (.cells #[x0, x1, x2, x3, x4] t (0, 0))) : (((((w.setCell ⟨b, 0, none⟩ u0).setCell ⟨b, 1, none⟩ u1).setCell ⟨b, 2, none⟩ u2).setCell ⟨b, 3, none⟩ u3).setCell ⟨b, 4, none⟩ u4).heap[b]? = some (.cells #[u0, u1, u2, u3, u4] t (0, 0)) :=
  five_set4 (five_set3 (five_set2 (five_set1 (five_set0 h))))
/-- What a block of five cells gives a walk. -/
structure Five (w : World) (b : Nat) (x0 x1 x2 x3 x4 : Value) : Prop where
  c0 : w.cell? ⟨b, 0, none⟩ = some x0
  c1 : w.cell? ⟨b, 1, none⟩ = some x1
  c2 : w.cell? ⟨b, 2, none⟩ = some x2
  c3 : w.cell? ⟨b, 3, none⟩ = some x3
  c4 : w.cell? ⟨b, 4, none⟩ = some x4
  f : ∀ o, w.frozen? ⟨b, o, none⟩ = false
theorem five_of (h : w.heap[b]? = some (.cells #[x0, x1, x2, x3, x4] t (0, 0))) : Five w b x0 x1 x2 x3 x4 :=
  ⟨by rw [cell_of_row _ _ 0 _ _ _ h]; rfl, by rw [cell_of_row _ _ 1 _ _ _ h]; rfl, by rw [cell_of_row _ _ 2 _ _ _ h]; rfl, by rw [cell_of_row _ _ 3 _ _ _ h]; rfl, by rw [cell_of_row _ _ 4 _ _ _ h]; rfl, fun o => frozen_of_row _ _ o _ _ h⟩
theorem five_below {B : Nat} {w' : World} (h : Below B w w') (hB : B ≤ b) : Below B w (((((w'.setCell ⟨b, 0, none⟩ u0).setCell ⟨b, 1, none⟩ u1).setCell ⟨b, 2, none⟩ u2).setCell ⟨b, 3, none⟩ u3).setCell ⟨b, 4, none⟩ u4) :=
  ((((h.setCell hB _).setCell hB _).setCell hB _).setCell hB _).setCell hB _
theorem five_other {k : Nat} (h : k ≠ b) : (((((w.setCell ⟨b, 0, none⟩ u0).setCell ⟨b, 1, none⟩ u1).setCell ⟨b, 2, none⟩ u2).setCell ⟨b, 3, none⟩ u3).setCell ⟨b, 4, none⟩ u4).heap[k]? = w.heap[k]? := by
  rw [Below.heap_setCell _ _ _ _ (by exact h), Below.heap_setCell _ _ _ _ (by exact h), Below.heap_setCell _ _ _ _ (by exact h), Below.heap_setCell _ _ _ _ (by exact h), Below.heap_setCell _ _ _ _ (by exact h)]
end
/-- Two blocks at the begin: a state that came, and the one that is told. -/
theorem two_new (w : World) (s : Sv) (p : Pl) (T U : TypeId) :
    ((w.alloc (.cells (svv s p) T)).alloc (.cells (svv sv0 pl0) U)).heap[w.heap.size]? = some (.cells (svv s p) T (0, 0)) ∧
    ((w.alloc (.cells (svv s p) T)).alloc (.cells (svv sv0 pl0) U)).heap[w.heap.size + 1]? = some (.cells (svv sv0 pl0) U (0, 0)) ∧
    ((w.alloc (.cells (svv s p) T)).alloc (.cells (svv sv0 pl0) U)).heap.size = w.heap.size + 2 ∧ Below w.heap.size w ((w.alloc (.cells (svv s p) T)).alloc (.cells (svv sv0 pl0) U)) := by
  refine ⟨?_, ?_, by simp, ((Below.refl _ w).alloc (Nat.le_refl _) _).alloc (by simp) _⟩
  · rw [Below.heap_alloc _ _ _ (by simp)]; exact heap_alloc_new w _
  · have := heap_alloc_new (w.alloc (.cells (svv s p) T)) (.cells (svv sv0 pl0) U)
    simpa using this
theorem chk_ok {s : Sv} (h : SOk s) : errV (chkE s) = .nilIface := by rw [chkE, if_pos h]; rfl
theorem chk_bad {s : Sv} (h : ¬ SOk s) : errV (chkE s) = .iface 72 (.int .i64 1) := by rw [chkE, if_neg h]; rfl

set_option maxRecDepth 100000 in
set_option maxHeartbeats 3200000 in
theorem next_bad (s : Sv) (p : Pl) (w : World) (h : SvAt w s p) (hs : s.Small) (hr : ¬ Rgt s) :
    Calls Tryd.prog 31 #[.agg (svv s p)] w fun e w' => e = .returned (.tuple #[.agg (svv sv0 pl0), errV 1]) ∧ Below w.heap.size w w' := by
  obtain ⟨hn0, hn1, hsz, hb0⟩ := two_new w s p 28 28
  have hc := check_any s p _ (h.below hb0) hs
  by_cases hk : SOk s
  · rw [chk_ok hk] at hc
    have hnu : s.nu = 1099511627776 := by
      have h1 := hk.1.1
      have h2 : ¬ s.nu < 1099511627776 := fun h => hr ⟨hk, h⟩
      omega
    have hq : (s.nu == 1099511627776) = true := by simp [hnu]
    clear hr hk h hs hnu
    unfold svv sv0 pl0 at hn0 hn1 hsz hb0 hc ⊢
    simp only at hn0 hn1 hsz hb0 hc ⊢
    go_enter Tryd.func31, Tryd.ntmps31
    go_wp2_with fail
    generalize ((w.alloc (.cells #[.int .i64 s.nu, .int .i64 s.a, .int .i64 s.b, .slice p.pa s.pn p.pc, .slice p.ha s.hn p.hc] 28)).alloc (.cells #[.int .i64 0, .int .i64 0, .int .i64 0, .slice none 0 0, .slice none 0 0] 28)) = W0 at *
    refine hc.mono ?_
    rintro e w1 ⟨rfl, hb1⟩
    have k0 := hb1.block _ (show w.heap.size < W0.heap.size by omega)
    have k1 := hb1.block _ (show w.heap.size + 1 < W0.heap.size by omega)
    rw [hn0] at k0
    rw [hn1] at k1
    obtain ⟨c0, c1, c2, c3, c4, cf⟩ := five_of k0
    obtain ⟨d0, d1, d2, d3, d4, df⟩ := five_of k1
    have HB : Hid (Below w.heap.size w w1) := hb0.trans (hb1.mono (by omega))
    have HK : Hid (w1.heap[w.heap.size + 1]? = some (.cells #[.int .i64 0, .int .i64 0, .int .i64 0, .slice none 0 0, .slice none 0 0] 28 (0, 0))) := k1
    clear hc hb0 hb1 hn0 hn1 hsz k0 k1
    go_wp2
    exact bodyPost_ret (results_S2 Tryd.results31 _ _ (w.heap.size + 1) 28 _ _ _ _ _ (0, 0) rfl (five_all HK.out)) rfl ⟨rfl, five_below HB.out (by omega)⟩
  · rw [chk_bad hk] at hc
    clear hr hk h hs
    unfold svv sv0 pl0 at hn0 hn1 hsz hb0 hc ⊢
    simp only at hn0 hn1 hsz hb0 hc ⊢
    go_enter Tryd.func31, Tryd.ntmps31
    go_wp2_with fail
    generalize ((w.alloc (.cells #[.int .i64 s.nu, .int .i64 s.a, .int .i64 s.b, .slice p.pa s.pn p.pc, .slice p.ha s.hn p.hc] 28)).alloc (.cells #[.int .i64 0, .int .i64 0, .int .i64 0, .slice none 0 0, .slice none 0 0] 28)) = W0 at *
    refine hc.mono ?_
    rintro e w1 ⟨rfl, hb1⟩
    have k1 := hb1.block _ (show w.heap.size + 1 < W0.heap.size by omega)
    rw [hn1] at k1
    obtain ⟨d0, d1, d2, d3, d4, df⟩ := five_of k1
    have HB : Hid (Below w.heap.size w w1) := hb0.trans (hb1.mono (by omega))
    have HK : Hid (w1.heap[w.heap.size + 1]? = some (.cells #[.int .i64 0, .int .i64 0, .int .i64 0, .slice none 0 0, .slice none 0 0] 28 (0, 0))) := k1
    clear hc hb0 hb1 hn0 hn1 hsz k1
    go_wp2
    exact bodyPost_ret (results_S2 Tryd.results31 _ _ (w.heap.size + 1) 28 _ _ _ _ _ (0, 0) rfl (five_all HK.out)) rfl ⟨rfl, five_below HB.out (by omega)⟩
end Go.Proofs.YtnjkgpgbipcgcaaDoor
/- state.next of a state that can be changed. -/
namespace Go.Proofs.YtnjkgpgbipcgcaaDoor
open Go.RowKit
attribute [local go_sem ↓] Go.wp_at_zero Go.wp_at_succ

/-- On the way: the rows cloned, the keys of the first i holds too. -/
structure NxI (w wr : World) (s : Sv) (p : Pl) (A : Nat → Option Addr × Nat) (i : Nat) : Prop where
  box : wr.heap[w.heap.size]? = some (.cells #[.int .i64 (s.nu + 1), .int .i64 s.a, .int .i64 s.b, .slice p.pa s.pn p.pc, .slice p.ha s.hn p.hc] 28 (0, 0))
  res : wr.heap[w.heap.size + 1]? = some (.cells #[.int .i64 0, .int .i64 0, .int .i64 0, .slice none 0 0, .slice none 0 0] 28 (0, 0))
  py : wr.ownsRow (w.heap.size + 2) 44 36 (.slice p.pa s.pn p.pc) s.pn (flatL (pf s.P) s.pn)
  hd : wr.ownsRow (w.heap.size + 2) 48 3 (.slice p.ha s.hn p.hc) s.hn (flatL (hf s.H A) s.hn)
  ks : ∀ j, j < i → wr.ownsRow (w.heap.size + 2) 3 1 (.slice (A j).1 (s.H j).n (A j).2) (s.H j).n (kL (s.H j))
  old : ∀ j, i ≤ j → j < s.hn → IsAt w (A j).1 (s.H j).n (s.H j).z ∧ ((A j).1 = none → (s.H j).n = 0 ∧ (A j).2 = 0)
  below : Below w.heap.size w wr
theorem NxI.keep {w wr w' : World} {s : Sv} {p : Pl} {A : Nat → Option Addr × Nat} {i : Nat} (h : NxI w wr s p A i) (hb : Below wr.heap.size wr w') : NxI w w' s p A i :=
  ⟨by rw [hb.block _ (lt_of_block h.box)]; exact h.box, by rw [hb.block _ (lt_of_block h.res)]; exact h.res, own_below h.py hb, own_below h.hd hb, fun j hj => own_below (h.ks j hj) hb, h.old, h.below.trans (hb.mono h.below.size)⟩
theorem setCells_other (g k : Nat) (h : k ≠ g) : ∀ (vs : List Value) (off : Nat) (w : World), (w.setCells g off vs).heap[k]? = w.heap[k]?
  | [], _, _ => rfl
  | v :: r, off, w => by rw [World.setCells, setCells_other g k h r, Below.heap_setCell _ _ _ _ (by exact h)]
theorem setCells_below {B g : Nat} (hB : B ≤ g) : ∀ (vs : List Value) (off : Nat) (w w' : World), Below B w w' → Below B w (w'.setCells g off vs)
  | [], _, _, _, h => h
  | v :: r, off, w, w', h => by rw [World.setCells]; exact setCells_below hB r _ w _ (h.setCell hB _)
theorem own_other {w : World} {B T U k n g m l C : Nat} {v u : Value} {xs ys cs : List Value} {off : Nat} (h : w.ownsRow B T k v n xs) (h' : w.ownsRow C U m u l ys) (hT : T ≠ U) (hg : u.ownBlock = some g) : (w.setCells g off cs).ownsRow B T k v n xs :=
  own_keep h fun q e => setCells_other g q (fun e2 => own_apart h h' hT q e (by rw [hg, e2])) cs off w
/-- One hold more with keys of its own. -/
theorem NxI.next {w wr : World} {s : Sv} {p : Pl} {A : Nat → Option Addr × Nat} {i g : Nat} {ka : Option Addr} {kc : Nat} (h : NxI w wr s p A i) (hi : i < s.hn) (hg : p.ha = some ⟨g, 0, none⟩)
    (hk : wr.ownsRow (w.heap.size + 2) 3 1 (.slice ka (s.H i).n kc) (s.H i).n (kL (s.H i))) : NxI w (wr.setCells g (i * 3) (hdl (s.H i) ka kc)) s p (fun j => if j = i then (ka, kc) else A j) (i + 1) := by
  have hgb : (Value.slice p.ha s.hn p.hc).ownBlock = some g := by rw [hg]; rfl
  have hlt := h.hd.lt g hgb
  have hd' := h.hd
  rw [hg] at hd'
  refine ⟨?_, ?_, own_other h.py h.hd (by decide) hgb, ?_, fun j hj => ?_, fun j h1 h2 => ?_, ?_⟩
  · rw [setCells_other g _ (by omega)]; exact h.box
  · rw [setCells_other g _ (by omega)]; exact h.res
  · have := own_set (cs := hdl (s.H i) ka kc) hd' (hf_len _ _ _) hi rfl
    rw [hg]
    rw [flatL_congr s.hn (g := fun j => if j = i then hdl (s.H i) ka kc else hf s.H A j) (fun j _ => by
      by_cases e : j = i
      · subst e; simp [hf]
      · simp [hf, e])]
    exact this
  · by_cases e : j = i
    · subst e
      simp only [if_true]
      exact own_other hk h.hd (by decide) hgb
    · simp only [if_neg e]
      exact own_other (h.ks j (by omega)) h.hd (by decide) hgb
  · simp only [if_neg (show ¬ j = i by omega)]
    exact h.old j (by omega) h2
  · exact setCells_below (by omega) _ _ _ _ h.below

set_option maxRecDepth 100000 in
set_option maxHeartbeats 3200000 in
theorem next_ok (s : Sv) (p : Pl) (w : World) (h : SvAt w s p) (hs : s.Small) (hr : Rgt s) :
    Calls Tryd.prog 31 #[.agg (svv s p)] w fun e w' => (∃ p' A, e = .returned (.tuple #[.agg (svv (nxt s) p'), .nilIface]) ∧ SvOw w.heap.size w' (nxt s) p' A) ∧ Below w.heap.size w w' := by
  obtain ⟨hn0, hn1, hsz, hb0⟩ := two_new w s p 28 28
  have hc := check_any s p _ (h.below hb0) hs
  rw [chk_ok hr.1] at hc
  have hq : (s.nu == 1099511627776) = false := by have := hr.2; simp; omega
  have hw1 : wrap64 (s.nu + 1) = s.nu + 1 := by have := hr.1.1.1; have := hr.2; simp [wrap64]; omega
  have H : Hid (SvAt w s p) := h
  have HS : Hid s.Small := hs
  have hsn := hs.n
  clear hr h hs
  unfold svv sv0 pl0 at hn0 hn1 hsz hb0 hc
  unfold svv
  simp only at hn0 hn1 hsz hb0 hc
  go_enter Tryd.func31, Tryd.ntmps31
  go_wp2_with fail
  generalize ((w.alloc (.cells #[.int .i64 s.nu, .int .i64 s.a, .int .i64 s.b, .slice p.pa s.pn p.pc, .slice p.ha s.hn p.hc] 28)).alloc (.cells #[.int .i64 0, .int .i64 0, .int .i64 0, .slice none 0 0, .slice none 0 0] 28)) = W0 at *
  refine hc.mono ?_
  rintro e w1 ⟨rfl, hb1⟩
  have k0 := hb1.block _ (show w.heap.size < W0.heap.size by omega)
  have k1 := hb1.block _ (show w.heap.size + 1 < W0.heap.size by omega)
  rw [hn0] at k0
  rw [hn1] at k1
  have HB : Hid (Below w.heap.size w w1) := hb0.trans (hb1.mono (by omega))
  have hs1 : w.heap.size + 2 ≤ w1.heap.size := by have := hb1.size; omega
  obtain ⟨c0, c1, c2, c3, c4, cf⟩ := five_of k0
  have HK : Hid (w1.heap[w.heap.size]? = some (.cells #[.int .i64 s.nu, .int .i64 s.a, .int .i64 s.b, .slice p.pa s.pn p.pc, .slice p.ha s.hn p.hc] 28 (0, 0)) ∧ w1.heap[w.heap.size + 1]? = some (.cells #[.int .i64 0, .int .i64 0, .int .i64 0, .slice none 0 0, .slice none 0 0] 28 (0, 0))) := ⟨k0, k1⟩
  clear hc hb0 hb1 hn0 hn1 hsz k0 k1
  -- the number
  have hbA : Below w.heap.size w (w1.setCell ⟨w.heap.size, 0, none⟩ (.int .i64 (s.nu + 1))) := HB.out.setCell (Nat.le_refl _) _
  have hcP := cloneP_any p.pa s.pn p.pc (flatL (pf s.P) s.pn) (w1.setCell ⟨w.heap.size, 0, none⟩ (.int .i64 (s.nu + 1))) ((H.out.py.below hbA).src H.out.pnil) (flatL_length _ (pf_len _ _)) (pf_one _ _) (by omega)
  go_wp2_with fail
  refine hcP.mono ?_
  rintro e w2 ⟨v, rfl, hO, hb2⟩
  obtain ⟨pa', pc', rfl, _, _⟩ := own_frmV hO
  have hsA : (w1.setCell ⟨w.heap.size, 0, none⟩ (.int .i64 (s.nu + 1))).heap.size = w1.heap.size := by simp [World.setCell]
  have k0 : w2.heap[w.heap.size]? = some (.cells #[.int .i64 (s.nu + 1), .int .i64 s.a, .int .i64 s.b, .slice p.pa s.pn p.pc, .slice p.ha s.hn p.hc] 28 (0, 0)) := by
    rw [hb2.block _ (by omega)]; exact five_set0 HK.out.1
  have k1 : w2.heap[w.heap.size + 1]? = some (.cells #[.int .i64 0, .int .i64 0, .int .i64 0, .slice none 0 0, .slice none 0 0] 28 (0, 0)) := by
    rw [hb2.block _ (by omega), Below.heap_setCell _ _ _ _ (by show w.heap.size + 1 ≠ w.heap.size; omega)]; exact HK.out.2
  have HB2 : Hid (Below w.heap.size w w2) := hbA.trans (hb2.mono (by omega))
  have HO2 : Hid (w2.ownsRow (w.heap.size + 2) 44 36 (.slice pa' s.pn pc') s.pn (flatL (pf s.P) s.pn)) := own_low hO (by omega)
  have hs2 : w.heap.size + 2 ≤ w2.heap.size := by have := hb2.size; omega
  clear hcP hO hb2 hbA HB HK hsA hs1 c0 c1 c2 c3 c4 cf
  obtain ⟨c0, c1, c2, c3, c4, cf⟩ := five_of k0
  have HK : Hid (w2.heap[w.heap.size]? = some (.cells #[.int .i64 (s.nu + 1), .int .i64 s.a, .int .i64 s.b, .slice p.pa s.pn p.pc, .slice p.ha s.hn p.hc] 28 (0, 0)) ∧ w2.heap[w.heap.size + 1]? = some (.cells #[.int .i64 0, .int .i64 0, .int .i64 0, .slice none 0 0, .slice none 0 0] 28 (0, 0))) := ⟨k0, k1⟩
  clear k0 k1
  have hbA : Below w.heap.size w (w2.setCell ⟨w.heap.size, 3, none⟩ (.slice pa' s.pn pc')) := HB2.out.setCell (Nat.le_refl _) _
  obtain ⟨A0, hsrc, hkeys⟩ := H.out.hd.src (cap := p.hc) H.out.hnil
  have HKY : Hid (∀ i, i < s.hn → IsAt w (A0 i).1 (s.H i).n (s.H i).z ∧ ((A0 i).1 = none → (s.H i).n = 0 ∧ (A0 i).2 = 0)) := hkeys
  have hsrc' : Src (w2.setCell ⟨w.heap.size, 3, none⟩ (.slice pa' s.pn pc')) p.ha s.hn p.hc (flatL (hf s.H A0) s.hn) := by
    refine ⟨fun h0 => ?_, hsrc.2⟩
    obtain ⟨b, off, e, hr⟩ := hsrc.1 h0
    exact ⟨b, off, e, range_below hr hbA⟩
  have hcH := cloneH_any p.ha s.hn p.hc (flatL (hf s.H A0) s.hn) (w2.setCell ⟨w.heap.size, 3, none⟩ (.slice pa' s.pn pc')) hsrc' (flatL_length _ (hf_len _ _ _)) (hf_one _ _ _) (by omega)
  clear hsrc hsrc' hkeys
  go_wp2_with fail
  refine hcH.mono ?_
  rintro e w3 ⟨v, rfl, hO, hb3⟩
  obtain ⟨ha', hc', rfl, _, _⟩ := own_frmV hO
  have hsA : (w2.setCell ⟨w.heap.size, 3, none⟩ (.slice pa' s.pn pc')).heap.size = w2.heap.size := by simp [World.setCell]
  have k0 : w3.heap[w.heap.size]? = some (.cells #[.int .i64 (s.nu + 1), .int .i64 s.a, .int .i64 s.b, .slice pa' s.pn pc', .slice p.ha s.hn p.hc] 28 (0, 0)) := by
    rw [hb3.block _ (by omega)]; exact five_set3 HK.out.1
  have k1 : w3.heap[w.heap.size + 1]? = some (.cells #[.int .i64 0, .int .i64 0, .int .i64 0, .slice none 0 0, .slice none 0 0] 28 (0, 0)) := by
    rw [hb3.block _ (by omega), Below.heap_setCell _ _ _ _ (by show w.heap.size + 1 ≠ w.heap.size; omega)]; exact HK.out.2
  have hN : NxI w (w3.setCell ⟨w.heap.size, 4, none⟩ (.slice ha' s.hn hc')) s ⟨pa', pc', ha', hc'⟩ A0 0 := by
    have hO2 : w3.ownsRow (w.heap.size + 2) 44 36 (.slice pa' s.pn pc') s.pn (flatL (pf s.P) s.pn) := by
      refine own_below (own_keep HO2.out fun g e => ?_) hb3
      have := (HO2.out.lt g e).1
      exact Below.heap_setCell _ _ _ _ (by show g ≠ w.heap.size; omega)
    refine ⟨five_set4 k0, ?_, ?_, ?_, fun j hj => by omega, fun j _ hj => HKY.out j hj, ?_⟩
    · rw [Below.heap_setCell _ _ _ _ (by show w.heap.size + 1 ≠ w.heap.size; omega)]; exact k1
    · refine own_keep hO2 fun g e => ?_
      have := (hO2.lt g e).1
      exact Below.heap_setCell _ _ _ _ (by show g ≠ w.heap.size; omega)
    · refine own_keep (own_low hO (by omega)) fun g e => ?_
      have := (hO.lt g e).1
      exact Below.heap_setCell _ _ _ _ (by show g ≠ w.heap.size; omega)
    · exact (hbA.trans (hb3.mono (by omega))).setCell (Nat.le_refl _) _
  obtain ⟨d0, d1, d2, d3, d4, df⟩ := five_of k0
  clear hcH hO hb3 hbA HB2 HK hsA hs2 HO2 c0 c1 c2 c3 c4 cf k0 k1 HKY
  go_wp2_with fail
  clear d0 d1 d2 d3 d4 df
  have HKN : Hid (∀ i, i < s.hn → (s.H i).n ≤ 300) := HS.out.k
  go_loopw [4, 5, 31] (fun _ _ iv wr => ∃ (i : Nat) (A : Nat → Option Addr × Nat), i ≤ s.hn ∧ iv = .int .i64 i ∧ NxI w wr s ⟨pa', pc', ha', hc'⟩ A i) (fun _ _ iv _ => s.hn + 1 - (intOf iv).toNat)
  case atStart => exact ⟨0, A0, by omega, rfl, hN⟩
  case round =>
    clear hN
    obtain ⟨i, A, hi, rfl, hN⟩ := hrel
    have HN : Hid (NxI w wr s ⟨pa', pc', ha', hc'⟩ A i) := hN
    clear hN
    by_cases hlt : i < s.hn
    · have hlt' : (i : Int) < s.hn := by omega
      obtain ⟨g, e, hg1, hg2, hrg⟩ := own_range HN.out.hd (by omega)
      simp only at e
      subst e
      obtain ⟨r0, r1, r2⟩ := hd_cells ((flatL_range _ (hf_len s.H A s.hn)).1 hrg i hlt)
      rw [Nat.zero_add] at r0 r1 r2
      have hkn := HKN.out i hlt
      obtain ⟨hI0, hI1⟩ := HN.out.old i (Nat.le_refl _) hlt
      have hb4 : Below wr.heap.size wr ((wr.alloc (.cells (hdv (s.H i) (A i).1 (A i).2) 48)).drew) := ((Below.refl _ wr).alloc (Nat.le_refl _) _).drew
      have hcl := hclone_any (s.H i) (A i).1 (A i).2 ((wr.alloc (.cells (hdv (s.H i) (A i).1 (A i).2) 48)).drew) ((hI0.below HN.out.below).below hb4) hI1 (by omega)
      have HN4 : Hid (NxI w ((wr.alloc (.cells (hdv (s.H i) (A i).1 (A i).2) 48)).drew) s ⟨pa', pc', some ⟨g, 0, none⟩, hc'⟩ A i) := HN.out.keep hb4
      have c4 := (five_of HN.out.box).c4
      have hwl := lt_of_block HN.out.box
      clear hI0 hI1 hrg hb4
      unfold hdv at hcl HN4
      go_wp2_with fail
      have S0 : ((wr.alloc (.cells #[.int .i64 (s.H i).id, .int .i64 (s.H i).am, .slice (A i).1 (s.H i).n (A i).2] 48)).drew).cell? ⟨w.heap.size, 4, none⟩ = some (.slice (some ⟨g, 0, none⟩) s.hn hc') ∧ ((wr.alloc (.cells #[.int .i64 (s.H i).id, .int .i64 (s.H i).am, .slice (A i).1 (s.H i).n (A i).2] 48)).drew).rangeAt wr.heap.size 0 (hdl (s.H i) (A i).1 (A i).2) := by
        refine ⟨(five_of HN4.out.box).c4, fun j v hv => ?_⟩
        have := cell_of_row _ _ (0 + j) _ _ _ (heap_alloc_new wr (.cells #[.int .i64 (s.H i).id, .int .i64 (s.H i).am, .slice (A i).1 (s.H i).n (A i).2] 48))
        rw [Nat.zero_add] at this ⊢
        show (wr.alloc _).cell? _ = _
        rw [this]
        simpa [hdl] using hv
      have hlN := hg2
      generalize hx : s.H i = x at *
      refine wp_region_noPanic ?_
      refine wp_region_held_drew (S := fun w' => w'.cell? ⟨w.heap.size, 4, none⟩ = some (.slice (some ⟨g, 0, none⟩) s.hn hc') ∧ w'.rangeAt wr.heap.size 0 (hdl x (A i).1 (A i).2)) (by kernel_rfl) S0 (fun hHeld => ?_)
      clear r0 r1 r2 c4
      refine wpAnyH_take (i := 0) (oi := { dst := some 36, op := Go.Op.fieldAddr 28 (Go.Operand.tmp 1) 3, type := 0, pos := "state.go:272", after := #[], guard := none }) (v := ?_) rfl (by kernel_rfl) (by kernel_rfl) (by kernel_rfl) (fun _ _ _ h => h) (Or.inl ⟨by rfl, ?_⟩) (by assumption) ?_
      rotate_left
      · intro wz hSw; (try dsimp only at hSw); go_simp; (try with_reducible rfl)
      try simp only [Act.put, List.setIfInBounds_toArray, List.set_cons_zero, List.set_cons_succ]
      refine wpAnyH_take (i := 1) (oi := { dst := some 37, op := Go.Op.load 26 (Go.Operand.tmp 36), type := 26, pos := "state.go:272", after := #[{ on := 0, ground := Go.Ground.data }], guard := none }) (v := .slice (some ⟨g, 0, none⟩) s.hn hc') rfl (by kernel_rfl) (by kernel_rfl) (by kernel_rfl) (fun _ _ _ h => h) (Or.inl ⟨by rfl, ?_⟩) (by assumption) ?_
      · intro wz hSw; (try dsimp only at hSw); (have h1 := hSw.1; go_simp)
      try simp only [Act.put, List.setIfInBounds_toArray, List.set_cons_zero, List.set_cons_succ]
      refine wpAnyH_take (i := 2) (oi := { dst := some 38, op := Go.Op.move (Go.Operand.tmp 4), type := 3, pos := "state.go:272", after := #[], guard := none }) (v := ?_) rfl (by kernel_rfl) (by kernel_rfl) (by kernel_rfl) (fun _ _ _ h => h) (Or.inl ⟨by rfl, ?_⟩) (by assumption) ?_
      rotate_left
      · intro wz hSw; (try dsimp only at hSw); go_simp; (try with_reducible rfl)
      try simp only [Act.put, List.setIfInBounds_toArray, List.set_cons_zero, List.set_cons_succ]
      refine wpAnyH_take (i := 3) (oi := { dst := some 39, op := Go.Op.load 48 (Go.Operand.tmp 5), type := 48, pos := "state.go:272", after := #[], guard := none }) rfl (by kernel_rfl) (by kernel_rfl) (by kernel_rfl) (fun _ _ _ h => h) (yieldsIf_load_mid (by rfl) _ _ rfl wr.heap.size 0 rfl (hdl x (A i).1 (A i).2) _ (fun _ h => h.2) Tryd.underlying48 rfl szH) (by assumption) ?_
      try simp only [Act.put, List.setIfInBounds_toArray, List.set_cons_zero, List.set_cons_succ]
      refine wpAnyH_ready (rs := [4]) (by kernel_rfl) (by simp) ?_
      refine (AllReadyH.cons (o := { dst := some 40, op := Go.Op.call { callee := Go.Callee.value (Go.Operand.func 30), args := #[Go.Operand.tmp 39], argTypes := #[48] }, type := 48, pos := "state.go:272", after := #[{ on := 3, ground := Go.Ground.data }], guard := none }) rfl (fun K hK => ?_) AllReadyH.nil)
      go_simp
      refine hcl.mono ?_
      rintro e w5 ⟨ka, kc, rfl, hO5, hb5⟩
      have hN5 := HN4.out.keep hb5
      have S5 : w5.cell? ⟨w.heap.size, 4, none⟩ = some (.slice (some ⟨g, 0, none⟩) s.hn hc') ∧ w5.rangeAt wr.heap.size 0 (hdl x (A i).1 (A i).2) := ⟨(five_of hN5.box).c4, range_below S0.2 hb5⟩
      have hl5 : wr.heap.size < w5.heap.size := World.block_lt_of_cell? w5 _ (S5.2 0 _ rfl)
      have hO5' : w5.ownsRow (w.heap.size + 2) 3 1 (.slice ka x.n kc) x.n (kL x) := own_low hO5 (by simp; omega)
      have HN5 : Hid (NxI w (w5.setCells g (i * 3) (hdl x ka kc)) s ⟨pa', pc', some ⟨g, 0, none⟩, hc'⟩ (fun j => if j = i then (ka, kc) else A j) (i + 1)) := by
        have := hN5.next (ka := ka) (kc := kc) (g := g) hlt rfl (by rw [hx]; exact hO5')
        rw [hx] at this
        exact this
      obtain ⟨g', e', _, _, hrg⟩ := own_range hN5.hd (by omega)
      obtain rfl : g = g' := by simpa using e'
      obtain ⟨r0, r1, r2⟩ := hd_cells ((flatL_range _ (hf_len s.H A s.hn)).1 hrg i hlt)
      rw [Nat.zero_add] at r0 r1 r2
      have fr : ∀ o, w5.frozen? ⟨g, o, none⟩ = false := fun o => by
        rcases hN5.hd.2 with ⟨e, _⟩ | ⟨g2, cap2, cur2, e, _, hg2, _⟩
        · cases e
        · cases e; exact frozen_of_row _ _ o _ _ hg2
      have S6 : (w5.setCells g (i * 3) (hdl x ka kc)).cell? ⟨w.heap.size, 4, none⟩ = some (.slice (some ⟨g, 0, none⟩) s.hn hc') ∧ (w5.setCells g (i * 3) (hdl x ka kc)).rangeAt wr.heap.size 0 (hdl x (A i).1 (A i).2) := by
        refine ⟨(five_of HN5.out.box).c4, fun j v hv => ?_⟩
        rw [World.cell?_of_block (a := ⟨wr.heap.size, 0 + j, none⟩) (setCells_other g _ (by show wr.heap.size ≠ g; omega) _ _ _)]
        exact S5.2 j v hv
      clear hN5 hO5 hO5' hb5 hcl HN4 hrg e' S0
      refine hK.out _ _ S5 (fun _ => ?_)
      clear hK K
      refine wpAnyH_take (i := 5) (oi := { dst := some 41, op := Go.Op.indexAddr 26 (Go.Operand.tmp 37) (Go.Operand.tmp 38), type := 0, pos := "state.go:272", after := #[{ on := 1, ground := Go.Ground.data }, { on := 2, ground := Go.Ground.data }, { on := 0, ground := Go.Ground.phase }, { on := 1, ground := Go.Ground.phase }, { on := 2, ground := Go.Ground.phase }, { on := 3, ground := Go.Ground.phase }, { on := 4, ground := Go.Ground.phase }], guard := none }) (v := ?_) rfl (by kernel_rfl) (by kernel_rfl) (by kernel_rfl) (fun _ _ _ h => h) (Or.inl ⟨by rfl, ?_⟩) (by assumption) ?_
      rotate_left
      · intro wz hSw; (try dsimp only at hSw); go_simp; (try with_reducible rfl)
      try simp only [Act.put, List.setIfInBounds_toArray, List.set_cons_zero, List.set_cons_succ]
      refine wpAnyH_ready (rs := [6]) (by kernel_rfl) (by simp) ?_
      refine (AllReadyH.cons (o := { dst := none, op := Go.Op.store 48 (Go.Operand.tmp 41) (Go.Operand.tmp 40), type := 0, pos := "state.go:272", after := #[{ on := 5, ground := Go.Ground.data }, { on := 4, ground := Go.Ground.data }, { on := 4, ground := Go.Ground.chain }, { on := 0, ground := Go.Ground.phase }, { on := 1, ground := Go.Ground.phase }, { on := 2, ground := Go.Ground.phase }, { on := 3, ground := Go.Ground.phase }, { on := 4, ground := Go.Ground.phase }], guard := none }) rfl (fun K hK => ?_) AllReadyH.nil)
      go_simp
      refine hK.out _ _ S6 (fun _ => ?_)
      clear hK K
      refine wpAnyH_done (by kernel_rfl) (NoPanic.normal ?_) _
      try simp only [Act.put, List.setIfInBounds_toArray, List.set_cons_zero, List.set_cons_succ]
      clear hHeld S5 S6 r0 r1 r2 fr HN
      go_wp2
      go_roundw
      case rel => exact ⟨i + 1, _, by omega, by go_num, HN5.out⟩
      case measure => simp [intOf]; omega
    · obtain rfl : i = s.hn := by omega
      have hnn : ¬ ((s.hn : Int) < s.hn) := by omega
      obtain ⟨c0, c1, c2, c3, c4, cf⟩ := five_of HN.out.box
      obtain ⟨d0, d1, d2, d3, d4, df⟩ := five_of HN.out.res
      have hO : SvOw w.heap.size (((((wr.setCell ⟨w.heap.size + 1, 0, none⟩ (.int .i64 (s.nu + 1))).setCell ⟨w.heap.size + 1, 1, none⟩ (.int .i64 s.a)).setCell ⟨w.heap.size + 1, 2, none⟩ (.int .i64 s.b)).setCell ⟨w.heap.size + 1, 3, none⟩ (.slice pa' s.pn pc')).setCell ⟨w.heap.size + 1, 4, none⟩ (.slice ha' s.hn hc')) (nxt s) ⟨pa', pc', ha', hc'⟩ A := by
        refine ⟨H.out.py.lk, ?_, ?_, fun j hj => ?_⟩
        · refine own_low (own_keep HN.out.py fun q e => ?_) (by omega)
          have := (HN.out.py.lt q e).1
          exact five_other (by omega)
        · refine own_low (own_keep HN.out.hd fun q e => ?_) (by omega)
          have := (HN.out.hd.lt q e).1
          exact five_other (by omega)
        · refine own_low (own_keep (HN.out.ks j hj) fun q e => ?_) (by omega)
          have := ((HN.out.ks j hj).lt q e).1
          exact five_other (by omega)
      have HE : Hid (SvOw w.heap.size (((((wr.setCell ⟨w.heap.size + 1, 0, none⟩ (.int .i64 (s.nu + 1))).setCell ⟨w.heap.size + 1, 1, none⟩ (.int .i64 s.a)).setCell ⟨w.heap.size + 1, 2, none⟩ (.int .i64 s.b)).setCell ⟨w.heap.size + 1, 3, none⟩ (.slice pa' s.pn pc')).setCell ⟨w.heap.size + 1, 4, none⟩ (.slice ha' s.hn hc')) (nxt s) ⟨pa', pc', ha', hc'⟩ A) := hO
      clear hO
      go_wp2
      exact bodyPost_ret (results_S2 Tryd.results31 _ _ (w.heap.size + 1) 28 _ _ _ _ _ (0, 0) rfl (five_all HN.out.res)) rfl ⟨⟨⟨pa', pc', ha', hc'⟩, rfl, A, HE.out⟩, five_below HN.out.below (by omega)⟩
end Go.Proofs.YtnjkgpgbipcgcaaDoor
