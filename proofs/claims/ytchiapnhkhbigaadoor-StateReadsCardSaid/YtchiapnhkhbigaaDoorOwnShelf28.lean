/- state.next. -/
import Derived.Test.YtchiapnhkhbigaaDoorOwnShelf25
import Derived.Test.YtchiapnhkhbigaaDoorOwnShelf27
import Derived.Deep.RegionLaw
import Derived.Deep.DrawnRows
namespace Go.Proofs.YtchiapnhkhbigaaDoor
open Go.RowKit

/-- A state that can be changed; with the next number. -/
def Rgt (s : Sv) : Prop := SOk s ∧ s.nu < 1099511627776
instance (s : Sv) : Decidable (Rgt s) := inferInstanceAs (Decidable (_ ∧ _))
def nxt (s : Sv) : Sv := { s with nu := s.nu + 1 }

theorem results_S2 {fn : Func} {p u : Tmp} (h : fn.results = #[.cell p 35, .tmp u]) (tmps : Array Value) (w : World) (g : Nat) (t : TypeId) (c0 c1 c2 c3 c4 : Value) (fr : Nat × Nat)
    (hp : tmps.getD p undef = .pointer (some ⟨g, 0, none⟩)) (hg : w.heap[g]? = some (.cells #[c0, c1, c2, c3, c4] t fr)) :
    (results fn tmps).run Tryd.prog w = .ok (.tuple #[.agg #[c0, c1, c2, c3, c4], tmps.getD u undef]) w := by
  have hp' : tmps[p]?.getD undef = .pointer (some ⟨g, 0, none⟩) := by simpa using hp
  simp [results, h, hp', asAddr, run_loadVar_row w g t 35 #[c0, c1, c2, c3, c4] fr _ hg Tryd.underlying35 rfl szS]
section
variable {w : World} {b : Nat} {x0 x1 x2 x3 x4 u u0 u1 u2 u3 u4 : Value} {t : TypeId}
theorem five_set0 (h : w.heap[b]? = some (.cells #[x0, x1, x2, x3, x4] t (0, 0))) : (w.setCell ⟨b, 0, none⟩ u).heap[b]? = some (.cells #[u, x1, x2, x3, x4] t (0, 0)) := heap_setCell_same w b 0 _ t u h
theorem five_set1 (h : w.heap[b]? = some (.cells #[x0, x1, x2, x3, x4] t (0, 0))) : (w.setCell ⟨b, 1, none⟩ u).heap[b]? = some (.cells #[x0, u, x2, x3, x4] t (0, 0)) := heap_setCell_same w b 1 _ t u h
theorem five_set2 (h : w.heap[b]? = some (.cells #[x0, x1, x2, x3, x4] t (0, 0))) : (w.setCell ⟨b, 2, none⟩ u).heap[b]? = some (.cells #[x0, x1, u, x3, x4] t (0, 0)) := heap_setCell_same w b 2 _ t u h
theorem five_set3 (h : w.heap[b]? = some (.cells #[x0, x1, x2, x3, x4] t (0, 0))) : (w.setCell ⟨b, 3, none⟩ u).heap[b]? = some (.cells #[x0, x1, x2, u, x4] t (0, 0)) := heap_setCell_same w b 3 _ t u h
theorem five_set4 (h : w.heap[b]? = some (.cells #[x0, x1, x2, x3, x4] t (0, 0))) : (w.setCell ⟨b, 4, none⟩ u).heap[b]? = some (.cells #[x0, x1, x2, x3, u] t (0, 0)) := heap_setCell_same w b 4 _ t u h
/-- All five written. -/
theorem five_all (h : w.heap[b]? = some (.cells #[x0, x1, x2, x3, x4] t (0, 0))) : (((((w.setCell ⟨b, 0, none⟩ u0).setCell ⟨b, 1, none⟩ u1).setCell ⟨b, 2, none⟩ u2).setCell ⟨b, 3, none⟩ u3).setCell ⟨b, 4, none⟩ u4).heap[b]? = some (.cells #[u0, u1, u2, u3, u4] t (0, 0)) :=
  five_set4 (five_set3 (five_set2 (five_set1 (five_set0 h))))
/-- What a block of five cells gives a walk. -/
structure Five (w : World) (b : Nat) (x0 x1 x2 x3 x4 : Value) : Prop where
  c0 : w.cell? ⟨b, 0, none⟩ = some x0
  c1 : w.cell? ⟨b, 1, none⟩ = some x1
  c2 : w.cell? ⟨b, 2, none⟩ = some x2
  c3 : w.cell? ⟨b, 3, none⟩ = some x3
  c4 : w.cell? ⟨b, 4, none⟩ = some x4
  f : ∀ o, w.frozen? ⟨b, o, none⟩ = false
theorem five_of (h : w.heap[b]? = some (.cells #[x0, x1, x2, x3, x4] t (0, 0))) : Five w b x0 x1 x2 x3 x4 :=
  ⟨by rw [cell_of_row _ _ 0 _ _ _ h]; rfl, by rw [cell_of_row _ _ 1 _ _ _ h]; rfl, by rw [cell_of_row _ _ 2 _ _ _ h]; rfl, by rw [cell_of_row _ _ 3 _ _ _ h]; rfl, by rw [cell_of_row _ _ 4 _ _ _ h]; rfl, fun o => frozen_of_row _ _ o _ _ h⟩
theorem five_below {B : Nat} {w' : World} (h : Below B w w') (hB : B ≤ b) : Below B w (((((w'.setCell ⟨b, 0, none⟩ u0).setCell ⟨b, 1, none⟩ u1).setCell ⟨b, 2, none⟩ u2).setCell ⟨b, 3, none⟩ u3).setCell ⟨b, 4, none⟩ u4) :=
  ((((h.setCell hB _).setCell hB _).setCell hB _).setCell hB _).setCell hB _
theorem five_other {k : Nat} (h : k ≠ b) : (((((w.setCell ⟨b, 0, none⟩ u0).setCell ⟨b, 1, none⟩ u1).setCell ⟨b, 2, none⟩ u2).setCell ⟨b, 3, none⟩ u3).setCell ⟨b, 4, none⟩ u4).heap[k]? = w.heap[k]? := by
  rw [Below.heap_setCell _ _ _ _ (by exact h), Below.heap_setCell _ _ _ _ (by exact h), Below.heap_setCell _ _ _ _ (by exact h), Below.heap_setCell _ _ _ _ (by exact h), Below.heap_setCell _ _ _ _ (by exact h)]
end
/-- Two blocks at the begin: a state that came, and the one that is told. -/
theorem two_new (w : World) (s : Sv) (p : Pl) (T U : TypeId) :
    ((w.alloc (.cells (svv s p) T)).alloc (.cells (svv sv0 pl0) U)).heap[w.heap.size]? = some (.cells (svv s p) T (0, 0)) ∧
    ((w.alloc (.cells (svv s p) T)).alloc (.cells (svv sv0 pl0) U)).heap[w.heap.size + 1]? = some (.cells (svv sv0 pl0) U (0, 0)) ∧
    ((w.alloc (.cells (svv s p) T)).alloc (.cells (svv sv0 pl0) U)).heap.size = w.heap.size + 2 ∧ Below w.heap.size w ((w.alloc (.cells (svv s p) T)).alloc (.cells (svv sv0 pl0) U)) := by
  refine ⟨?_, ?_, by simp, ((Below.refl _ w).alloc (Nat.le_refl _) _).alloc (by simp) _⟩
  · rw [Below.heap_alloc _ _ _ (by simp)]; exact heap_alloc_new w _
  · have := heap_alloc_new (w.alloc (.cells (svv s p) T)) (.cells (svv sv0 pl0) U)
    simpa using this
theorem chk_ok {s : Sv} (h : SOk s) : errV (chkE s) = .nilIface := by rw [chkE, if_pos h]; rfl
theorem chk_bad {s : Sv} (h : ¬ SOk s) : errV (chkE s) = .iface 71 (.int .i64 1) := by rw [chkE, if_neg h]; rfl

set_option maxRecDepth 100000 in
set_option maxHeartbeats 3200000 in
theorem next_bad (s : Sv) (p : Pl) (w : World) (h : SvAt w s p) (hs : s.Small) (hr : ¬ Rgt s) :
    Calls Tryd.prog 30 #[.agg (svv s p)] w fun e w' => e = .returned (.tuple #[.agg (svv sv0 pl0), errV 1]) ∧ Below w.heap.size w w' := by
  obtain ⟨hn0, hn1, hsz, hb0⟩ := two_new w s p 35 35
  have hc := check_any s p _ (h.below hb0) hs
  by_cases hk : SOk s
  · rw [chk_ok hk] at hc
    have hnu : s.nu = 1099511627776 := by
      have h1 := hk.1.1
      have h2 : ¬ s.nu < 1099511627776 := fun h => hr ⟨hk, h⟩
      omega
    have hq : (s.nu == 1099511627776) = true := by simp [hnu]
    clear hr hk h hs hnu
    unfold svv sv0 pl0 at hn0 hn1 hsz hb0 hc ⊢
    simp only at hn0 hn1 hsz hb0 hc ⊢
    go_enter Tryd.func30, Tryd.ntmps30
    go_wp2_with fail
    generalize ((w.alloc (.cells #[.int .i64 s.nu, .int .i64 s.a, .int .i64 s.b, .slice p.pa s.pn p.pc, .slice p.ha s.hn p.hc] 35)).alloc (.cells #[.int .i64 0, .int .i64 0, .int .i64 0, .slice none 0 0, .slice none 0 0] 35)) = W0 at *
    refine hc.mono ?_
    rintro e w1 ⟨rfl, hb1⟩
    have k0 := hb1.block _ (show w.heap.size < W0.heap.size by omega)
    have k1 := hb1.block _ (show w.heap.size + 1 < W0.heap.size by omega)
    rw [hn0] at k0
    rw [hn1] at k1
    obtain ⟨c0, c1, c2, c3, c4, cf⟩ := five_of k0
    obtain ⟨d0, d1, d2, d3, d4, df⟩ := five_of k1
    have HB : Hid (Below w.heap.size w w1) := hb0.trans (hb1.mono (by omega))
    have HK : Hid (w1.heap[w.heap.size + 1]? = some (.cells #[.int .i64 0, .int .i64 0, .int .i64 0, .slice none 0 0, .slice none 0 0] 35 (0, 0))) := k1
    clear hc hb0 hb1 hn0 hn1 hsz k0 k1
    go_wp2
    exact bodyPost_ret (results_S2 Tryd.results30 _ _ (w.heap.size + 1) 35 _ _ _ _ _ (0, 0) rfl (five_all HK.out)) rfl ⟨rfl, five_below HB.out (by omega)⟩
  · rw [chk_bad hk] at hc
    clear hr hk h hs
    unfold svv sv0 pl0 at hn0 hn1 hsz hb0 hc ⊢
    simp only at hn0 hn1 hsz hb0 hc ⊢
    go_enter Tryd.func30, Tryd.ntmps30
    go_wp2_with fail
    generalize ((w.alloc (.cells #[.int .i64 s.nu, .int .i64 s.a, .int .i64 s.b, .slice p.pa s.pn p.pc, .slice p.ha s.hn p.hc] 35)).alloc (.cells #[.int .i64 0, .int .i64 0, .int .i64 0, .slice none 0 0, .slice none 0 0] 35)) = W0 at *
    refine hc.mono ?_
    rintro e w1 ⟨rfl, hb1⟩
    have k1 := hb1.block _ (show w.heap.size + 1 < W0.heap.size by omega)
    rw [hn1] at k1
    obtain ⟨d0, d1, d2, d3, d4, df⟩ := five_of k1
    have HB : Hid (Below w.heap.size w w1) := hb0.trans (hb1.mono (by omega))
    have HK : Hid (w1.heap[w.heap.size + 1]? = some (.cells #[.int .i64 0, .int .i64 0, .int .i64 0, .slice none 0 0, .slice none 0 0] 35 (0, 0))) := k1
    clear hc hb0 hb1 hn0 hn1 hsz k1
    go_wp2
    exact bodyPost_ret (results_S2 Tryd.results30 _ _ (w.heap.size + 1) 35 _ _ _ _ _ (0, 0) rfl (five_all HK.out)) rfl ⟨rfl, five_below HB.out (by omega)⟩
end Go.Proofs.YtchiapnhkhbigaaDoor
