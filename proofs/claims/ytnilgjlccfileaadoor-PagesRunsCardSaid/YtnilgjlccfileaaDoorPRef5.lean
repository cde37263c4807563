/- The document's answer: Start, Sync. -/
import Derived.Test.YtnilgjlccfileaaDoorPRef4
namespace Go.Proofs.YtnilgjlccfileaaDoor
open Go.RowKit

attribute [local go_sem ↓] Go.wp_at_zero Go.wp_at_succ

def RStaR (p : List Bs) (L : List (Int × Bs)) (ks : List Int) (w : World) (e : Ending) (w' : World) : Prop :=
  ∃ g cap, e = .returned (.agg #[.slice (some ⟨g, 0, none⟩) p.length cap, .slice none 0 0, .int .i64 (-1), .bool false]) ∧ RowC w' (some ⟨g, 0, none⟩) p.length ((setF (toldK ks) 0 L p).map Bs.v) ∧ w.heap.size ≤ g ∧ Below w.heap.size w w'
theorem four_keep {w w' : World} {b : Nat} {t : TypeId} {a0 a1 a2 a3 : Value} (h : w.heap[b]? = some (.cells #[a0, a1, a2, a3] t (0, 0))) {T : List Nat} (hf : Frm T w w') (hb : b ∉ T) : w'.heap[b]? = some (.cells #[a0, a1, a2, a3] t (0, 0)) := (hf.block b (lt_of_block h) hb).trans h
set_option maxRecDepth 100000 in
set_option maxHeartbeats 1600000 in
theorem rstart_any (pa : Option Addr) (pc : Nat) (p : List Bs) (la : Option Addr) (lc : Nat) (L : List (Int × Bs)) (st : Int) (dn : Bool) (ka : Option Addr) (kc : Nat) (ks : List Int) (w : World) (hp1 : 1 ≤ p.length) (hp2 : p.length ≤ 4096) (hP : RowC w pa p.length (p.map Bs.v)) (hL : RowC w la L.length (flatW L)) (hl : L.length ≤ 1000)
    (hpg : ∀ e ∈ L, 0 ≤ e.1 ∧ e.1 < p.length) (hk : IsL w ka ks) (hks : ks.length ≤ 140737488355328) :
    Calls Tryd.prog 21 #[.agg #[.slice pa p.length pc, .slice la L.length lc, .int .i64 st, .bool dn], .slice ka ks.length kc] w (RStaR p L ks w) := by
  obtain ⟨W2, hW2⟩ : ∃ W2, (w.alloc (.cells #[.slice pa p.length pc, .slice la L.length lc, .int .i64 st, .bool dn] 41)).alloc (.cells #[.slice none 0 0, .slice none 0 0, .int .i64 0, .bool false] 41) = W2 := ⟨_, rfl⟩
  have hb2 : Below w.heap.size w W2 := by rw [← hW2]; exact below2 _ _ _
  have hz2 : W2.heap.size = w.heap.size + 2 := by rw [← hW2]; simp
  have n1 : W2.heap[w.heap.size]? = some (.cells #[.slice pa p.length pc, .slice la L.length lc, .int .i64 st, .bool dn] 41 (0, 0)) := by rw [← hW2]; exact new1 _ _ _
  have n2 : W2.heap[w.heap.size + 1]? = some (.cells #[.slice none 0 0, .slice none 0 0, .int .i64 0, .bool false] 41 (0, 0)) := by rw [← hW2]; exact new2 _ _ _
  have hdone := rdone_any pa pc p la lc L st dn ka kc ks W2 hp1 hp2 (hP.below hb2) (hL.below hb2) hl hpg (hk.keep fun a e hn => hb2.block _ (hk.lt e hn)) hks
  have F1 := four_of n1
  have q0 := F1.c0
  have q1 := F1.c1
  have q2 := F1.c2
  have q3 := F1.c3
  have HN : Hid (W2.heap[w.heap.size]? = some (.cells #[.slice pa p.length pc, .slice la L.length lc, .int .i64 st, .bool dn] 41 (0, 0)) ∧ W2.heap[w.heap.size + 1]? = some (.cells #[.slice none 0 0, .slice none 0 0, .int .i64 0, .bool false] 41 (0, 0)) ∧ Below w.heap.size w W2 ∧ W2.heap.size = w.heap.size + 2) := ⟨n1, n2, hb2, hz2⟩
  clear F1 n1 n2 hb2 hz2 hP hL hk hpg hp1 hp2
  go_enter Tryd.func21, Tryd.ntmps21
  go_wp2_with fail
  refine hdone.mono ?_
  rintro e w3 ⟨g, cap, rfl, hR, hg, hb3⟩
  obtain ⟨n1, n2, hb2, hz2⟩ := HN.out
  have m1 : w3.heap[w.heap.size]? = _ := (hb3.block _ (by omega)).trans n1
  have m2 : w3.heap[w.heap.size + 1]? = _ := (hb3.block _ (by omega)).trans n2
  have hz3 := hb3.size
  have F1 := four_of m1
  have F2 := four_of m2
  obtain ⟨WA, hWA⟩ : ∃ WA, (((((w3.setCell ⟨w.heap.size, 0, none⟩ (.slice (some ⟨g, 0, none⟩) p.length cap)).setCell ⟨w.heap.size, 1, none⟩ (.slice none 0 0)).setCell ⟨w.heap.size, 2, none⟩ (.int .i64 st)).setCell ⟨w.heap.size, 3, none⟩ (.bool dn)).setCell ⟨w.heap.size, 3, none⟩ (.bool false)).setCell ⟨w.heap.size, 2, none⟩ (.int .i64 (-1)) = WA := ⟨_, rfl⟩
  have s1 : WA.heap[w.heap.size]? = some (.cells #[.slice (some ⟨g, 0, none⟩) p.length cap, .slice none 0 0, .int .i64 (-1), .bool false] 41 (0, 0)) := by
    rw [← hWA]
    exact heap_setCell_same _ _ 2 _ _ _ (heap_setCell_same _ _ 3 _ _ _ (set4 m1 _ _ _ _))
  have hfA : Frm [w.heap.size] w3 WA := by rw [← hWA]; exact ((set4_frm _ _ _ _).setCell _ _ (by simp)).setCell _ _ (by simp)
  have s2 := four_keep m2 hfA (by simp)
  have hsetB := set4 s2 (.slice (some ⟨g, 0, none⟩) p.length cap) (.slice none 0 0) (.int .i64 (-1)) (.bool false)
  have hfB := set4_frm (w := WA) (g := w.heap.size + 1) (.slice (some ⟨g, 0, none⟩) p.length cap) (.slice none 0 0) (.int .i64 (-1)) (.bool false)
  have hzA := hfA.size
  have HE : Hid (((((WA.setCell ⟨w.heap.size + 1, 0, none⟩ (.slice (some ⟨g, 0, none⟩) p.length cap)).setCell ⟨w.heap.size + 1, 1, none⟩ (.slice none 0 0)).setCell ⟨w.heap.size + 1, 2, none⟩ (.int .i64 (-1))).setCell ⟨w.heap.size + 1, 3, none⟩ (.bool false)).heap[w.heap.size + 1]? = some (.cells #[.slice (some ⟨g, 0, none⟩) p.length cap, .slice none 0 0, .int .i64 (-1), .bool false] 41 (0, 0)) ∧
      RStaR p L ks w (.returned (.agg #[.slice (some ⟨g, 0, none⟩) p.length cap, .slice none 0 0, .int .i64 (-1), .bool false])) ((((WA.setCell ⟨w.heap.size + 1, 0, none⟩ (.slice (some ⟨g, 0, none⟩) p.length cap)).setCell ⟨w.heap.size + 1, 1, none⟩ (.slice none 0 0)).setCell ⟨w.heap.size + 1, 2, none⟩ (.int .i64 (-1))).setCell ⟨w.heap.size + 1, 3, none⟩ (.bool false))) := by
    refine ⟨hsetB, g, cap, rfl, hR.keep (by have := hfB.size; omega) (fun a e hlt => ?_), by omega, ?_⟩
    · cases e
      have hlt : g < w3.heap.size := hlt
      exact (hfB.block g (by omega) (by simp; omega)).trans (hfA.block g hlt (by simp; omega))
    · exact ((hb2.trans (hb3.mono (by omega))).trans (hfA.below (by omega) (by simp))).trans (hfB.below (by omega) (by simp))
  have p0 := F1.c0
  have p1 := F1.c1
  have p2 := F1.c2
  have p3 := F1.c3
  have f0 := F1.f0
  have f1 := F1.f1
  have f2 := F1.f2
  have f3 := F1.f3
  have G1 := four_of s1
  have v0 := G1.c0
  have v1 := G1.c1
  have v2 := G1.c2
  have v3 := G1.c3
  have G2 := four_of s2
  have r0 := G2.c0
  have r1 := G2.c1
  have r2 := G2.c2
  have r3 := G2.c3
  have y0 := G2.f0
  have y1 := G2.f1
  have y2 := G2.f2
  have y3 := G2.f3
  clear HN n1 n2 hb2 hz2 m1 m2 F1 F2 s1 s2 hfA hsetB hfB hzA G1 G2 hR hb3 hz3 hdone hg q0 q1 q2 q3
  go_wp2
  exact bodyPost_ret (results_R1 Tryd.results21 _ _ (w.heap.size + 1) 41 _ _ _ _ (0, 0) rfl HE.out.1) rfl HE.out.2
end Go.Proofs.YtnilgjlccfileaaDoor
