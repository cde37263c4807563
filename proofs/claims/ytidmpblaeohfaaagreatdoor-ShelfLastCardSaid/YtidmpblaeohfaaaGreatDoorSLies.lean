/- Whether an area lies on a store's pages. -/
import Derived.Test.YtidmpblaeohfaaaGreatDoorSRl
namespace Go.Proofs.YtidmpblaeohfaaaGreatDoor
open Go.RowKit Go.Maps Go.Sort

attribute [local go_sem ↓] Go.wp_at_zero Go.wp_at_succ

/-- Can an area be, and does it lie on so many pages? -/
def liesB (f n N : Int) : Bool := decide (2 ≤ n ∧ n ≤ 1024 ∧ 0 ≤ f ∧ f ≤ N - n)
def areaV (f n : Int) : Value := .agg #[.int .i64 f, .int .i64 n]
set_option maxRecDepth 100000 in
set_option maxHeartbeats 1600000 in
theorem lies_any (f n N : Int) (hN : 0 ≤ N ∧ N ≤ 4096) (w : World) :
    Calls Tryz.prog 33 #[.agg #[.int .i64 f, .int .i64 n], .int .i64 N] w fun e w' => e = .returned (.bool (liesB f n N)) ∧ Below w.heap.size w w' := by
  obtain ⟨r, hr⟩ : ∃ r, liesB f n N = r := ⟨_, rfl⟩
  rw [hr]
  unfold liesB at hr
  have HB : Hid (Below w.heap.size w (w.alloc (.cells #[.int .i64 f, .int .i64 n] 35))) := (Below.refl _ w).alloc (Nat.le_refl _) _
  by_cases h1 : 2 ≤ n
  · by_cases h2 : n ≤ 1024
    · by_cases h3 : 0 ≤ f
      · have hs : IntKind.i64.wrap (N - n) = N - n := by rw [IntKind.wrap_i64]; omega
        by_cases h4 : f ≤ N - n
        · obtain rfl : true = r := by rw [← hr]; simp [h1, h2, h3, h4]
          clear hr
          go_enter Tryz.func33, Tryz.ntmps33
          go_wp2
          go_ret
          exact ⟨rfl, HB.out⟩
        · obtain rfl : false = r := by rw [← hr]; simp [h1, h2, h3, h4]
          clear hr
          go_enter Tryz.func33, Tryz.ntmps33
          go_wp2
          go_ret
          exact ⟨rfl, HB.out⟩
      · obtain rfl : false = r := by rw [← hr]; simp [h3]
        clear hr
        go_enter Tryz.func33, Tryz.ntmps33
        go_wp2
        go_ret
        exact ⟨rfl, HB.out⟩
    · obtain rfl : false = r := by rw [← hr]; simp [h2]
      clear hr
      go_enter Tryz.func33, Tryz.ntmps33
      go_wp2
      go_ret
      exact ⟨rfl, HB.out⟩
  · obtain rfl : false = r := by rw [← hr]; simp [h1]
    clear hr
    go_enter Tryz.func33, Tryz.ntmps33
    go_wp2
    go_ret
    exact ⟨rfl, HB.out⟩
end Go.Proofs.YtidmpblaeohfaaaGreatDoor
