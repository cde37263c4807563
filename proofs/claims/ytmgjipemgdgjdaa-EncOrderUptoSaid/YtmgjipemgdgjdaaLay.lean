/- A thing laid by the program. -/
import Derived.Test.YtmgjipemgdgjdaaThings
import Derived.Test.YtmgjipemgdgjdaaWrHash
import Derived.Test.YtmgjipemgdgjdaaSure
namespace Go.Proofs.Ytmgjipemgdgjdaa
open Go.RowKit

/-- A thing's kind: 0 to 3. -/
def Th.kd (x : Th) : Int := wrap64 ((IntKind.u64.wrap x.k).tmod 4)
theorem Th.kd_cases (x : Th) : x.kd = 0 ∨ x.kd = 1 ∨ x.kd = 2 ∨ x.kd = 3 := by
  have h0 : 0 ≤ IntKind.u64.wrap x.k := by simp [IntKind.wrap, IntKind.bits, IntKind.signed]; omega
  have h1 : (IntKind.u64.wrap x.k).tmod 4 = (IntKind.u64.wrap x.k) % 4 := Int.tmod_eq_emod_of_nonneg h0
  have h2 : 0 ≤ (IntKind.u64.wrap x.k) % 4 ∧ (IntKind.u64.wrap x.k) % 4 < 4 := by omega
  have h3 : wrap64 ((IntKind.u64.wrap x.k) % 4) = (IntKind.u64.wrap x.k) % 4 := by simp only [wrap64]; omega
  simp only [Th.kd, h1, h3]
  omega
/-- Its bytes as it is laid. -/
def Th.by (x : Th) : List Int := if x.kd = 0 then uB (IntKind.u64.wrap x.n) else if x.kd = 1 then iB x.n else if x.kd = 2 then escF x.z x.len ++ [0, 0] else hB x.h

theorem tszv (x : Th) : (Try.prog.info? 30).map (·.size) = some x.l.length := by rw [Th.l_length]; kernel_rfl
theorem Th.cell (w : World) (x : Th) (t : TypeId) (j : Nat) (u : Value) (h : x.l[j]? = some u) : (w.alloc (.cells x.v t)).cell? ⟨w.heap.size, j, none⟩ = some u := by
  have hn := heap_alloc_new w (.cells x.v t)
  rw [World.cell?, hn]
  simpa [Th.v] using h
theorem Th.range (w : World) (x : Th) (t : TypeId) : (w.alloc (.cells x.v t)).rangeAt w.heap.size 3 (bl x.h 32) := by
  intro j v hv
  rw [Nat.add_comm]
  exact Th.cell w x t (j + 3) v (by simpa [Th.l] using hv)
theorem u64_bd (n : Int) : 0 ≤ IntKind.u64.wrap n ∧ IntKind.u64.wrap n ≤ 18446744073709551615 := by
  simp [IntKind.wrap, IntKind.bits, IntKind.signed]; omega

/-- The writer is not where the new variable is. -/
theorem WrAt.alloc {w : World} {B p : Nat} {g : Option Nat} {l : List Int} (h : WrAt w B p g l) (o : Obj) : WrAt (w.alloc o) B p g l := h.frm ((Frm.refl [] w).alloc _) (by simp) (fun _ _ => by simp)
theorem WrGrown.ofAlloc {w w' : World} {o : Obj} {B p : Nat} {g : Option Nat} {l : List Int} (h : WrGrown (w.alloc o) w' B p g l) : WrGrown w w' B p g l := by
  obtain ⟨g', h1, h2, h3⟩ := h
  have hF : Frm (p :: g.toList) w w' := ((Frm.refl _ w).alloc o).trans h2
  refine ⟨g', h1, hF, ?_⟩
  rcases h3 with h | ⟨b, h, hb⟩
  · exact .inl h
  · exact .inr ⟨b, h, by simp at hb; omega⟩

set_option maxRecDepth 100000 in
set_option maxHeartbeats 1600000 in
theorem lay_any (p B : Nat) (g : Option Nat) (l : List Int) (x : Th) (w : World) (hw : WrAt w B p g l) (hl : l.length + 2 * x.len + 64 ≤ 140737488351232) (hx : ThOk w x)
    (hsg : ∀ b off, 0 < x.len → x.a = some ⟨b, off, none⟩ → some b ≠ g) :
    Calls Try.prog 7 #[.pointer (some ⟨p, 0, none⟩), .agg x.v] w fun e w' => e = .returned (.pointer (some ⟨p, 0, none⟩)) ∧ WrGrown w w' B p g (l ++ x.by) := by
  have h0 := Th.cell w x 30 0 _ rfl
  have h1 := Th.cell w x 30 1 _ rfl
  have h2 := Th.cell w x 30 2 _ rfl
  have H3 : Hid ((w.alloc (.cells x.v 30)).rangeAt w.heap.size 3 (bl x.h 32)) := Th.range w x _
  have HW : Hid (WrAt w B p g l) := hw
  have HX : Hid (ThOk w x) := hx
  clear hw hx
  rcases x.kd_cases with hk | hk | hk | hk
  all_goals
    have k0 : (wrap64 ((IntKind.u64.wrap x.k).tmod 4) == 0) = decide (x.kd = 0) := rfl
    have k1 : (wrap64 ((IntKind.u64.wrap x.k).tmod 4) == 1) = decide (x.kd = 1) := rfl
    have k2 : (wrap64 ((IntKind.u64.wrap x.k).tmod 4) == 2) = decide (x.kd = 2) := rfl
    have HK : Hid (x.kd = _) := hk
    rw [hk] at k0 k1 k2
    simp only [Int.reduceEq, decide_true, decide_false] at k0 k1 k2
    clear hk
    go_enter Try.func7, Try.ntmps7
    go_wp2_with (first | (refine Go.Great.wpList_boxTo rfl _ _ rfl _ rfl _ rfl x.v rfl ?_) | (refine wpList_load_mid rfl 28 _ rfl w.heap.size 3 rfl (bl x.h 32) _ H3.out Try.underlying28 rfl (by rw [bl_length]; exact hsz) ?_) | fail)
  · refine (wrUint_any p B g l (IntKind.u64.wrap x.n) _ (HW.out.alloc _) (by omega) (u64_bd _)).mono ?_
    rintro e w1 ⟨rfl, hG⟩
    go_wp2
    go_ret
    exact ⟨rfl, by rw [Th.by, if_pos HK.out]; exact hG.ofAlloc⟩
  · refine (wrInt_any p B g l x.n _ (HW.out.alloc _) (by omega) HX.out.n).mono ?_
    rintro e w1 ⟨rfl, hG⟩
    go_wp2
    go_ret
    exact ⟨rfl, by rw [Th.by, HK.out]; exact hG.ofAlloc⟩
  · refine (wrBytes_any p B g l x.a x.len x.cap x.z _ (HW.out.alloc _) (by omega) (HX.out.b.frm ((Frm.refl [] w).alloc _) (by simp)) hsg).mono ?_
    rintro e w1 ⟨rfl, hG⟩
    go_wp2
    go_ret
    exact ⟨rfl, by rw [Th.by, HK.out]; exact hG.ofAlloc⟩
  · refine (wrHash_any p B g l x.h _ (HW.out.alloc _) (by omega) HX.out.h).mono ?_
    rintro e w1 ⟨rfl, hG⟩
    go_wp2
    go_ret
    exact ⟨rfl, by rw [Th.by, HK.out]; exact hG.ofAlloc⟩

set_option maxRecDepth 100000 in
set_option maxHeartbeats 1600000 in
theorem layNil_any (x : Th) (w : World) :
    Calls Try.prog 7 #[.pointer none, .agg x.v] w fun e w' => e = .returned (.pointer none) ∧ Below w.heap.size w w' := by
  have h0 := Th.cell w x 30 0 _ rfl
  have h1 := Th.cell w x 30 1 _ rfl
  have h2 := Th.cell w x 30 2 _ rfl
  have H3 : Hid ((w.alloc (.cells x.v 30)).rangeAt w.heap.size 3 (bl x.h 32)) := Th.range w x _
  rcases x.kd_cases with hk | hk | hk | hk
  all_goals
    have k0 : (wrap64 ((IntKind.u64.wrap x.k).tmod 4) == 0) = decide (x.kd = 0) := rfl
    have k1 : (wrap64 ((IntKind.u64.wrap x.k).tmod 4) == 1) = decide (x.kd = 1) := rfl
    have k2 : (wrap64 ((IntKind.u64.wrap x.k).tmod 4) == 2) = decide (x.kd = 2) := rfl
    rw [hk] at k0 k1 k2
    simp only [Int.reduceEq, decide_true, decide_false] at k0 k1 k2
    clear hk
    go_enter Try.func7, Try.ntmps7
    go_wp2_with (first | (refine Go.Great.wpList_boxTo rfl _ _ rfl _ rfl _ rfl x.v rfl ?_) | (refine wpList_load_mid rfl 28 _ rfl w.heap.size 3 rfl (bl x.h 32) _ H3.out Try.underlying28 rfl (by rw [bl_length]; exact hsz) ?_) | fail)
  · refine (nilUint _ _).mono ?_
    rintro e w1 ⟨rfl, hb⟩
    go_wp2
    go_ret
    exact ⟨rfl, ((Below.refl _ w).alloc (Nat.le_refl _) _).trans (hb.mono (by simp))⟩
  · refine (nilInt _ _).mono ?_
    rintro e w1 ⟨rfl, hb⟩
    go_wp2
    go_ret
    exact ⟨rfl, ((Below.refl _ w).alloc (Nat.le_refl _) _).trans (hb.mono (by simp))⟩
  · refine (nilBytes _ _).mono ?_
    rintro e w1 ⟨rfl, hb⟩
    go_wp2
    go_ret
    exact ⟨rfl, ((Below.refl _ w).alloc (Nat.le_refl _) _).trans (hb.mono (by simp))⟩
  · refine (nilHash x.h _).mono ?_
    rintro e w1 ⟨rfl, hb⟩
    go_wp2
    go_ret
    exact ⟨rfl, ((Below.refl _ w).alloc (Nat.le_refl _) _).trans (hb.mono (by simp))⟩
end Go.Proofs.Ytmgjipemgdgjdaa
