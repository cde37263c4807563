/- blake.round, whole. -/
import Derived.Test.YtanchjfodcjlmaaGreatDoorOwnShelf03
namespace Go.Proofs.YtanchjfodcjlmaaGreatDoor
open Go.RowKit

theorem sv_size (s : List Nat) : (sv s).size = s.length := by simp [sv, sl8]
set_option maxRecDepth 20000 in
set_option maxHeartbeats 4000000 in
theorem round_any (pv pm : Nat) (v m s : List Nat) (t tm : TypeId) (fm : Nat × Nat) (w : World)
    (hv : w.heap[pv]? = some (.cells (wv v) t (0, 0))) (hm : w.heap[pm]? = some (.cells (wv m) tm fm)) (hpm : pm ≠ pv)
    (ov : Wd 16 v) (om : Wd 16 m) (ls : s.length = 16) (os : ∀ k, s.getD k 0 < 16) :
    Calls Tryz.prog 113 #[.pointer (some ⟨pv, 0, none⟩), .pointer (some ⟨pm, 0, none⟩), .agg (sv s)] w fun e w' => e = .returned (.tuple #[]) ∧ w'.heap[pv]? = some (.cells (wv (roundF m s v)) t (0, 0)) ∧ Frm [pv] w w' := by
  have hs0 : (w.alloc (.cells (sv s) 202)).heap[w.heap.size]? = some (.cells (sv s) 202 (0, 0)) := heap_alloc_new w _
  have hv0 : (w.alloc (.cells (sv s) 202)).heap[pv]? = some (.cells (wv v) t (0, 0)) := by rw [Below.heap_alloc _ _ _ (lt_of_block hv)]; exact hv
  have hm0 : (w.alloc (.cells (sv s) 202)).heap[pm]? = some (.cells (wv m) tm fm) := by rw [Below.heap_alloc _ _ _ (lt_of_block hm)]; exact hm
  have hG0 : Frm [pv] w (w.alloc (.cells (sv s) 202)) := (Frm.refl _ w).alloc _
  have hpv := lt_of_block hv
  have hsv : w.heap.size ≠ pv := by omega
  have o0 : Wd 16 v := ov
  go_enter Tryz.func113, Tryz.ntmps113
  go_wp2_with (first | (refine Go.Great.wpList_boxTo rfl _ _ rfl _ rfl _ rfl (sv s) rfl ?_) | fail)
  generalize w.alloc (.cells (sv s) 202) = w0 at *
  refine regionG (N := 374) 6 0 4 8 12 0 1 "blake.go:157" (by kernel_rfl) chk1 _ _ _ pv pm w.heap.size v m s _ _ _ _ _ ⟨rfl, rfl, rfl, rfl, rfl⟩ (by omega) (by omega) hv0 hm0 hs0 o0 om ls os (by omega) (by omega) (by omega) (by omega) (by omega) (by omega) ?_
  intro A1 w1 f1 hv1 hF1
  have hm1 : w1.heap[pm]? = some (.cells (wv m) tm fm) := hF1.heap hm0 (by simpa using hpm)
  have hs1 : w1.heap[w.heap.size]? = some (.cells (sv s) 202 (0, 0)) := hF1.heap hs0 (by simpa using hsv)
  have o1 : Wd 16 (gAt m s 0 4 8 12 0 1 v) := gAt_ok m s _ _ _ _ _ _ o0
  have hG1 := hG0.trans hF1
  clear hF1 hm0 hs0 hv0 hG0 o0
  go_wp2_with fail
  refine regionG (N := 374) 52 1 5 9 13 2 3 "blake.go:158" (by kernel_rfl) chk2 _ _ _ pv pm w.heap.size (gAt m s 0 4 8 12 0 1 v) m s _ _ _ _ _ f1 (by omega) (by omega) hv1 hm1 hs1 o1 om ls os (by omega) (by omega) (by omega) (by omega) (by omega) (by omega) ?_
  intro A2 w2 f2 hv2 hF2
  have hm2 : w2.heap[pm]? = some (.cells (wv m) tm fm) := hF2.heap hm1 (by simpa using hpm)
  have hs2 : w2.heap[w.heap.size]? = some (.cells (sv s) 202 (0, 0)) := hF2.heap hs1 (by simpa using hsv)
  have o2 : Wd 16 (gAt m s 1 5 9 13 2 3 (gAt m s 0 4 8 12 0 1 v)) := gAt_ok m s _ _ _ _ _ _ o1
  have hG2 := hG1.trans hF2
  clear hF2 hm1 hs1 hv1 hG1 o1 f1
  go_wp2_with fail
  refine regionG (N := 374) 98 2 6 10 14 4 5 "blake.go:159" (by kernel_rfl) chk3 _ _ _ pv pm w.heap.size (gAt m s 1 5 9 13 2 3 (gAt m s 0 4 8 12 0 1 v)) m s _ _ _ _ _ f2 (by omega) (by omega) hv2 hm2 hs2 o2 om ls os (by omega) (by omega) (by omega) (by omega) (by omega) (by omega) ?_
  intro A3 w3 f3 hv3 hF3
  have hm3 : w3.heap[pm]? = some (.cells (wv m) tm fm) := hF3.heap hm2 (by simpa using hpm)
  have hs3 : w3.heap[w.heap.size]? = some (.cells (sv s) 202 (0, 0)) := hF3.heap hs2 (by simpa using hsv)
  have o3 : Wd 16 (gAt m s 2 6 10 14 4 5 (gAt m s 1 5 9 13 2 3 (gAt m s 0 4 8 12 0 1 v))) := gAt_ok m s _ _ _ _ _ _ o2
  have hG3 := hG2.trans hF3
  clear hF3 hm2 hs2 hv2 hG2 o2 f2
  go_wp2_with fail
  refine regionG (N := 374) 144 3 7 11 15 6 7 "blake.go:160" (by kernel_rfl) chk4 _ _ _ pv pm w.heap.size (gAt m s 2 6 10 14 4 5 (gAt m s 1 5 9 13 2 3 (gAt m s 0 4 8 12 0 1 v))) m s _ _ _ _ _ f3 (by omega) (by omega) hv3 hm3 hs3 o3 om ls os (by omega) (by omega) (by omega) (by omega) (by omega) (by omega) ?_
  intro A4 w4 f4 hv4 hF4
  have hm4 : w4.heap[pm]? = some (.cells (wv m) tm fm) := hF4.heap hm3 (by simpa using hpm)
  have hs4 : w4.heap[w.heap.size]? = some (.cells (sv s) 202 (0, 0)) := hF4.heap hs3 (by simpa using hsv)
  have o4 : Wd 16 (gAt m s 3 7 11 15 6 7 (gAt m s 2 6 10 14 4 5 (gAt m s 1 5 9 13 2 3 (gAt m s 0 4 8 12 0 1 v)))) := gAt_ok m s _ _ _ _ _ _ o3
  have hG4 := hG3.trans hF4
  clear hF4 hm3 hs3 hv3 hG3 o3 f3
  go_wp2_with fail
  refine regionG (N := 374) 190 0 5 10 15 8 9 "blake.go:161" (by kernel_rfl) chk5 _ _ _ pv pm w.heap.size (gAt m s 3 7 11 15 6 7 (gAt m s 2 6 10 14 4 5 (gAt m s 1 5 9 13 2 3 (gAt m s 0 4 8 12 0 1 v)))) m s _ _ _ _ _ f4 (by omega) (by omega) hv4 hm4 hs4 o4 om ls os (by omega) (by omega) (by omega) (by omega) (by omega) (by omega) ?_
  intro A5 w5 f5 hv5 hF5
  have hm5 : w5.heap[pm]? = some (.cells (wv m) tm fm) := hF5.heap hm4 (by simpa using hpm)
  have hs5 : w5.heap[w.heap.size]? = some (.cells (sv s) 202 (0, 0)) := hF5.heap hs4 (by simpa using hsv)
  have o5 : Wd 16 (gAt m s 0 5 10 15 8 9 (gAt m s 3 7 11 15 6 7 (gAt m s 2 6 10 14 4 5 (gAt m s 1 5 9 13 2 3 (gAt m s 0 4 8 12 0 1 v))))) := gAt_ok m s _ _ _ _ _ _ o4
  have hG5 := hG4.trans hF5
  clear hF5 hm4 hs4 hv4 hG4 o4 f4
  go_wp2_with fail
  refine regionG (N := 374) 236 1 6 11 12 10 11 "blake.go:162" (by kernel_rfl) chk6 _ _ _ pv pm w.heap.size (gAt m s 0 5 10 15 8 9 (gAt m s 3 7 11 15 6 7 (gAt m s 2 6 10 14 4 5 (gAt m s 1 5 9 13 2 3 (gAt m s 0 4 8 12 0 1 v))))) m s _ _ _ _ _ f5 (by omega) (by omega) hv5 hm5 hs5 o5 om ls os (by omega) (by omega) (by omega) (by omega) (by omega) (by omega) ?_
  intro A6 w6 f6 hv6 hF6
  have hm6 : w6.heap[pm]? = some (.cells (wv m) tm fm) := hF6.heap hm5 (by simpa using hpm)
  have hs6 : w6.heap[w.heap.size]? = some (.cells (sv s) 202 (0, 0)) := hF6.heap hs5 (by simpa using hsv)
  have o6 : Wd 16 (gAt m s 1 6 11 12 10 11 (gAt m s 0 5 10 15 8 9 (gAt m s 3 7 11 15 6 7 (gAt m s 2 6 10 14 4 5 (gAt m s 1 5 9 13 2 3 (gAt m s 0 4 8 12 0 1 v)))))) := gAt_ok m s _ _ _ _ _ _ o5
  have hG6 := hG5.trans hF6
  clear hF6 hm5 hs5 hv5 hG5 o5 f5
  go_wp2_with fail
  refine regionG (N := 374) 282 2 7 8 13 12 13 "blake.go:163" (by kernel_rfl) chk7 _ _ _ pv pm w.heap.size (gAt m s 1 6 11 12 10 11 (gAt m s 0 5 10 15 8 9 (gAt m s 3 7 11 15 6 7 (gAt m s 2 6 10 14 4 5 (gAt m s 1 5 9 13 2 3 (gAt m s 0 4 8 12 0 1 v)))))) m s _ _ _ _ _ f6 (by omega) (by omega) hv6 hm6 hs6 o6 om ls os (by omega) (by omega) (by omega) (by omega) (by omega) (by omega) ?_
  intro A7 w7 f7 hv7 hF7
  have hm7 : w7.heap[pm]? = some (.cells (wv m) tm fm) := hF7.heap hm6 (by simpa using hpm)
  have hs7 : w7.heap[w.heap.size]? = some (.cells (sv s) 202 (0, 0)) := hF7.heap hs6 (by simpa using hsv)
  have o7 : Wd 16 (gAt m s 2 7 8 13 12 13 (gAt m s 1 6 11 12 10 11 (gAt m s 0 5 10 15 8 9 (gAt m s 3 7 11 15 6 7 (gAt m s 2 6 10 14 4 5 (gAt m s 1 5 9 13 2 3 (gAt m s 0 4 8 12 0 1 v))))))) := gAt_ok m s _ _ _ _ _ _ o6
  have hG7 := hG6.trans hF7
  clear hF7 hm6 hs6 hv6 hG6 o6 f6
  go_wp2_with fail
  refine regionG (N := 374) 328 3 4 9 14 14 15 "blake.go:164" (by kernel_rfl) chk8 _ _ _ pv pm w.heap.size (gAt m s 2 7 8 13 12 13 (gAt m s 1 6 11 12 10 11 (gAt m s 0 5 10 15 8 9 (gAt m s 3 7 11 15 6 7 (gAt m s 2 6 10 14 4 5 (gAt m s 1 5 9 13 2 3 (gAt m s 0 4 8 12 0 1 v))))))) m s _ _ _ _ _ f7 (by omega) (by omega) hv7 hm7 hs7 o7 om ls os (by omega) (by omega) (by omega) (by omega) (by omega) (by omega) ?_
  intro A8 w8 f8 hv8 hF8
  have hm8 : w8.heap[pm]? = some (.cells (wv m) tm fm) := hF8.heap hm7 (by simpa using hpm)
  have hs8 : w8.heap[w.heap.size]? = some (.cells (sv s) 202 (0, 0)) := hF8.heap hs7 (by simpa using hsv)
  have o8 : Wd 16 (gAt m s 3 4 9 14 14 15 (gAt m s 2 7 8 13 12 13 (gAt m s 1 6 11 12 10 11 (gAt m s 0 5 10 15 8 9 (gAt m s 3 7 11 15 6 7 (gAt m s 2 6 10 14 4 5 (gAt m s 1 5 9 13 2 3 (gAt m s 0 4 8 12 0 1 v)))))))) := gAt_ok m s _ _ _ _ _ _ o7
  have hG8 := hG7.trans hF8
  clear hF8 hm7 hs7 hv7 hG7 o7 f7
  exact bodyPost_end (v := .tuple #[]) (by simp [results, Tryz.results113, go_sem]) f8.none ⟨rfl, hv8, hG8⟩
end Go.Proofs.YtanchjfodcjlmaaGreatDoor
