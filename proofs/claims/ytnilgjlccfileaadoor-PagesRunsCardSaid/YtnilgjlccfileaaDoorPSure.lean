/- sure: the chapter's example. -/
import Derived.Test.YtnilgjlccfileaaDoorPNew
import Derived.Lib.SlBytesConst
namespace Go.Proofs.YtnilgjlccfileaaDoor
open Go.RowKit

attribute [local go_sem ↓] Go.wp_at_zero Go.wp_at_succ

theorem one_sl (x : Int) (hx : 0 ≤ x ∧ x ≤ 255) (w : World) (fr : Nat × Nat) : SlAt (w.alloc (.cells #[.int .u8 x] 5 fr)) (some ⟨w.heap.size, 0, none⟩) [x].length (fn [x]) := by
  refine ⟨fun j hj => ?_, fun _ => ⟨w.heap.size, 0, rfl, fun j hj => ?_⟩⟩
  · have : j = 0 := by simp at hj; omega
    subst this; simpa [fn] using hx
  · have : j = 0 := by simp at hj; omega
    subst this
    rw [cell_of_row _ _ _ _ _ _ (heap_alloc_new w (.cells #[.int .u8 x] 5 fr))]
    simp [fn]
theorem StAt.up {w w' : World} {B p : Nat} {S : St} (h : StAt w' (Gn (B ≤ ·) w w') p S) (hB : B ≤ w.heap.size) : StAt w' (B ≤ ·) p S := h.mono fun k hk => by
  rcases hk with hk | hk
  · exact hk
  · show B ≤ k; omega
theorem Fr.up {w w' : World} {B : Nat} (h : Fr (B ≤ ·) w w') (hB : B ≤ w.heap.size) : Below B w w' := h.below hB fun _ hk => hk
theorem Ow.up {w w' : World} {v : Value} {l : List Int} (h : Ow w w' v l) {B : Nat} (hB : B ≤ w.heap.size) : Below B w w' := h.below.mono hB
theorem IsL.one (x : Int) (w : World) : IsL (w.alloc (.cells #[.int .i64 x] 3)) (some ⟨w.heap.size, 0, none⟩) [x] := fun _ => by
  refine ⟨w.heap.size, 0, rfl, fun j y hy => ?_⟩
  rw [cell_of_row _ _ _ _ _ _ (heap_alloc_new w (.cells #[.int .i64 x] 3))]
  cases j with
  | zero => simp at hy; subst hy; simp
  | succ j => simp at hy
set_option maxRecDepth 20000 in
set_option maxHeartbeats 1600000 in
theorem sure_any (w : World) : Calls Tryd.prog 16 #[] w fun e w' => e = .returned (.bool true) ∧ Below w.heap.size w w' := by
  have kc := fun (w : World) (C : Array Value) (n c : Nat) => Lib.run_convert_bytes_const (P := Tryd.prog) w 24 5 C n c Tryd.underlying24 Tryd.underlying5
  go_enter Tryd.func16, Tryd.ntmps16
  go_wp2_with fail
  refine (new_st 3 (by omega) (by omega) w).mono ?_
  rintro e w1 ⟨rfl, hS1', hb1⟩
  have hz1 := hb1.size
  have hS1 : StAt w1 (w.heap.size ≤ ·) (w.heap.size + 1) (newS 3) := hS1'.mono fun k hk => by
    rcases hk with hk | hk
    · exact hk.elim
    · exact hk.1
  clear hS1'
  go_wp2_with fail
  have hbA := (Below.refl w1.heap.size w1).alloc (Nat.le_refl _) (.cells #[.int .u8 97] 5 (1, 2))
  have hsA := one_sl 97 (by omega) w1 (1, 2)
  generalize w1.alloc (.cells #[.int .u8 97] 5 (1, 2)) = WA at *
  have hSA := hS1.below hbA
  have hzA := hbA.size
  have hB1 := hb1.trans (hbA.mono hz1)
  refine (write_st _ _ (newS 3) 1 _ 1 [97] WA hSA (by simp [newS]) (by simp [newS]) rfl (by simp [newS]) hsA (by simp) (by simp) (by simp)).mono ?_
  rintro e w2 ⟨rfl, y, hy, hS2', hF2⟩
  have hS2 := hS2'.up (by omega)
  have hB2 := hB1.trans (hF2.up (by omega))
  have e1 : errV (stepE (newS 3)) = .nilIface := rfl
  rw [e1]
  clear hS2' hF2 hSA hsA hbA hzA hS1 hz1
  have hz2 := hB2.size
  go_wp2_with fail
  have hbA := (Below.refl w2.heap.size w2).alloc (Nat.le_refl _) (.cells #[.int .u8 98] 5 (1, 2))
  have hsA := one_sl 98 (by omega) w2 (1, 2)
  generalize w2.alloc (.cells #[.int .u8 98] 5 (1, 2)) = WB at *
  have hSA := hS2.below hbA
  have hzA := hbA.size
  have hB3 := hB2.trans (hbA.mono hz2)
  refine (write_st _ _ _ 1 _ 1 [98] WB hSA (by simp [newS, St.put, stepS]) (by simp [newS, St.put, stepS]) rfl (by simp [newS, St.put, stepS]) hsA (by simp) (by simp) (by simp)).mono ?_
  rintro e w3 ⟨rfl, z, hz, hS3', hF3⟩
  have hS3 := hS3'.up (by omega)
  have hB4 := hB3.trans (hF3.up (by omega))
  have e2 : errV (stepE (stepS ((newS 3).put 1 y))) = .nilIface := rfl
  rw [e2]
  have e3 : stepS ((stepS ((newS 3).put 1 y)).put 1 z) = ⟨[nilBs, nilBs, nilBs], [(1, y), (1, z)], false, 0, false⟩ := rfl
  rw [e3] at hS3
  clear hS3' hF3 hSA hsA hbA hzA hS2 hz2 hB1 hB2 hB3 e1 e2 e3
  have hz3 := hB4.size
  go_wp2_with fail
  refine (loose_st _ _ _ w3 hS3).mono ?_
  rintro e w4 ⟨rfl, hw4⟩
  rw [hw4]
  clear hw4 w4
  go_wp2_with fail
  have hbA := (Below.refl w3.heap.size w3).alloc (Nat.le_refl _) (.cells #[.int .i64 0] 3)
  have hI := IsL.one 0 w3
  generalize w3.alloc (.cells #[.int .i64 0] 3) = WC at *
  have hSA := hS3.below hbA
  have hB5 := hB4.trans (hbA.mono hz3)
  have hz5 := hB5.size
  refine (start_st _ _ _ _ 1 [0] WC hSA hI (by simp)).mono ?_
  rintro e w5 ⟨rfl, hS5, hF5⟩
  have hB6 := hB5.trans (hF5.up hz5)
  have hz6 := hB6.size
  have e3 : St.started ⟨[nilBs, nilBs, nilBs], [(1, y), (1, z)], false, 0, false⟩ (toldK [0]) = ⟨[nilBs, y, nilBs], [], false, 0, false⟩ := by
    simp [St.started, St.settled, setF, toldK]
  rw [e3] at hS5
  clear hbA hI hSA hF5 hB5 hz5 e3 hS3 hz3 hB4
  go_wp2_with fail
  have hlb : lastB ⟨[nilBs, y, nilBs], [], false, 0, false⟩ 1 = y := rfl
  have hrd := read_st _ _ _ 1 w5 hS5 (by simp) rfl
  rw [hlb, hy] at hrd
  refine hrd.mono ?_
  rintro e w6 ⟨ad, cap, rfl, how⟩
  have hcv := conv_any ad 1 cap (fn [97]) w6 how.fresh.2.1 how.fresh.2.2.1
  have hstr : strB (fn [97]) 1 = ⟨#[97]⟩ := rfl
  rw [hstr] at hcv
  have HB : Hid (Below w.heap.size w w6) := hB6.trans (how.up hz6)
  clear how hrd hlb
  go_wp2
  go_ret
  exact ⟨rfl, HB.out⟩
end Go.Proofs.YtnilgjlccfileaaDoor
