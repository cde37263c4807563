/- The document's within, payMay and holdMay. -/
import Derived.Test.YtjnepkggdkccaaaGreatDoorOwnShelf01
namespace Go.Proofs.YtjnepkggdkccaaaGreatDoor
open Go.RowKit

theorem rwithin_any (n l m : Int) (w : World) :
    Calls Tryz.prog 64 #[.int .i64 n, .int .i64 l, .int .i64 m] w fun e w' => e = .returned (.bool (decide (l ≤ n ∧ n ≤ m))) ∧ w' = w := by
  by_cases h : l ≤ n
  · go_enter Tryz.func64, Tryz.ntmps64
    go_wp2
    go_ret
    simp [h]
  · have e : decide (l ≤ n ∧ n ≤ m) = false := by simp; omega
    rw [e]
    go_enter Tryz.func64, Tryz.ntmps64
    go_wp2
    go_ret
    simp
/-- A payment that may be, by the document's words. -/
def PMay (x : Py) : Prop := 0 ≤ x.id ∧ POne x
instance (x : Py) : Decidable (PMay x) := inferInstanceAs (Decidable (_ ∧ _))
section
variable {ops : Array Oper} {rest : List Oper} {o : Oper} {a : Act} {w : World} {Q : Exit → Act → World → Prop}
/-- Two sums told apart, guarded or not. -/
theorem wpList_neHG (hw : Region.wanted o (yielded ops a.tmps) = true) (x y : Operand) (ho : o.op = .binOp .neq 23 x y 23) (z u : Nat → Int) (hx : a.eval x = .agg (hv z)) (hy : a.eval y = .agg (hv u)) (hz : Zb z) (hu : Zb u)
    (h : wpList Tryz.prog ops Q rest (a.put o.dst (.bool (!hq z u))) w) : wpList Tryz.prog ops Q (o :: rest) a w :=
  wpList_wanted hw fun K hK => by
    have e0 := eql_hv hz hu w
    have e1 : (binOp .neq 23 (.agg (hv z)) (.agg (hv u))).run Tryz.prog w = .ok (.bool (!hq z u)) w := by
      simp only [binOp, Sem.run_bind] at e0 ⊢
      revert e0
      cases hh : Sem.run Tryz.prog (Op.equal 23 (.agg (hv z)) (.agg (hv u))) w with
      | ok b w2 =>
        simp [Result.andThen]
      | halt hx w2 => simp [Result.andThen]
    have hr : (execOp a.eval o).run Tryz.prog w = .ok (.value (.bool (!hq z u))) w := by
      unfold execOp
      simp only [ho, hx, hy, Sem.run_bind, run_eqGuard_agg w .neq 23 x y _ _ guardHs, e1, Result.andThen_ok, Sem.run_pure]
    unfold Oper.wp
    rw [hr]
    exact hK _ _ h
end
set_option maxRecDepth 100000 in
set_option maxHeartbeats 3200000 in
theorem payMay_any (x : Py) (w : World) (hz : Zb x.lk) :
    Calls Tryz.prog 65 #[.agg (pyv x)] w fun e w' => e = .returned (.bool (decide (PMay x))) ∧ Below w.heap.size w w' := by
  have HZ : Hid (Zb x.lk) := hz
  have hb0 : Below w.heap.size w (w.alloc (.cells (pyv x) 98)) := (Below.refl _ w).alloc (Nat.le_refl _) _
  obtain ⟨c0, c1, c2, c3, cl⟩ := pbox_of (heap_alloc_new w (.cells (pyv x) 98))
  have HC : Hid ((w.alloc (.cells (pyv x) 98)).rangeAt w.heap.size 4 (bl x.lk 32)) := cl
  have HB : Hid (Below w.heap.size w (w.alloc (.cells (pyv x) 98))) := hb0
  clear cl hz hb0
  by_cases h0 : 0 ≤ x.id ∧ x.id ≤ 4294967296
  · have hw0 := rwithin_any x.id 0 4294967296
    rw [decide_eq_true h0] at hw0
    by_cases h1 : 0 ≤ x.fr ∧ x.fr ≤ 1
    · have hw1 := rwithin_any x.fr 0 1
      rw [decide_eq_true h1] at hw1
      by_cases h2 : 10 ≤ x.am ∧ x.am ≤ 1125899906842624
      · have hw2 := rwithin_any x.am 10 1125899906842624
        rw [decide_eq_true h2] at hw2
        by_cases h3 : 0 ≤ x.af ∧ x.af ≤ 1099511627776
        · have hw3 := rwithin_any x.af 0 1099511627776
          rw [decide_eq_true h3] at hw3
          by_cases h4 : hq x.lk nz = false
          · have HE : Hid (decide (PMay x) = true) := decide_eq_true ⟨h0.1, h0.2, by omega, h2, h3, h4⟩
            have h4' : hq x.lk nz = false := h4
            clear h0 h1 h2 h3 h4
            go_enter Tryz.func65, Tryz.ntmps65
            go_wp2_with (first | (refine Go.Great.wpList_boxTo rfl _ _ rfl _ rfl _ rfl (pyv x) rfl ?_) | fail)
            generalize w.alloc (.cells (pyv x) 98) = W0 at *
            refine (hw0 _).mono ?_
            rintro e v0 ⟨rfl, rfl⟩
            clear hw0
            go_wp2_with fail
            refine (hw1 _).mono ?_
            rintro e v1 ⟨rfl, rfl⟩
            clear hw1
            go_wp2_with fail
            refine (hw2 _).mono ?_
            rintro e v2 ⟨rfl, rfl⟩
            clear hw2
            go_wp2_with fail
            refine (hw3 _).mono ?_
            rintro e v3 ⟨rfl, rfl⟩
            clear hw3
            go_wp2_with (first | (refine wpList_loadHG (by rfl) _ rfl w.heap.size 4 rfl x.lk HC.out ?_) | (refine wpList_buildHG (by rfl) rfl ?_) | (refine wpList_neHG (by rfl) _ _ rfl x.lk nz rfl rfl HZ.out nz_bd ?_) | fail)
            go_ret
            exact ⟨by rw [HE.out]; rfl, HB.out⟩
          · have HE : Hid (decide (PMay x) = false) := decide_eq_false (fun h => h4 h.2.2.2.2.2)
            have h4' : hq x.lk nz = true := by simpa using h4
            clear h0 h1 h2 h3 h4
            go_enter Tryz.func65, Tryz.ntmps65
            go_wp2_with (first | (refine Go.Great.wpList_boxTo rfl _ _ rfl _ rfl _ rfl (pyv x) rfl ?_) | fail)
            generalize w.alloc (.cells (pyv x) 98) = W0 at *
            refine (hw0 _).mono ?_
            rintro e v0 ⟨rfl, rfl⟩
            clear hw0
            go_wp2_with fail
            refine (hw1 _).mono ?_
            rintro e v1 ⟨rfl, rfl⟩
            clear hw1
            go_wp2_with fail
            refine (hw2 _).mono ?_
            rintro e v2 ⟨rfl, rfl⟩
            clear hw2
            go_wp2_with fail
            refine (hw3 _).mono ?_
            rintro e v3 ⟨rfl, rfl⟩
            clear hw3
            go_wp2_with (first | (refine wpList_loadHG (by rfl) _ rfl w.heap.size 4 rfl x.lk HC.out ?_) | (refine wpList_buildHG (by rfl) rfl ?_) | (refine wpList_neHG (by rfl) _ _ rfl x.lk nz rfl rfl HZ.out nz_bd ?_) | fail)
            go_ret
            exact ⟨by rw [HE.out]; rfl, HB.out⟩
        · have hw3 := rwithin_any x.af 0 1099511627776
          rw [decide_eq_false h3] at hw3
          have HE : Hid (decide (PMay x) = false) := decide_eq_false (fun h => h3 h.2.2.2.2.1)
          clear h0 h1 h2 h3
          go_enter Tryz.func65, Tryz.ntmps65
          go_wp2_with (first | (refine Go.Great.wpList_boxTo rfl _ _ rfl _ rfl _ rfl (pyv x) rfl ?_) | fail)
          generalize w.alloc (.cells (pyv x) 98) = W0 at *
          refine (hw0 _).mono ?_
          rintro e v0 ⟨rfl, rfl⟩
          clear hw0
          go_wp2_with fail
          refine (hw1 _).mono ?_
          rintro e v1 ⟨rfl, rfl⟩
          clear hw1
          go_wp2_with fail
          refine (hw2 _).mono ?_
          rintro e v2 ⟨rfl, rfl⟩
          clear hw2
          go_wp2_with fail
          refine (hw3 _).mono ?_
          rintro e v3 ⟨rfl, rfl⟩
          clear hw3
          go_wp2
          go_ret
          exact ⟨by rw [HE.out]; rfl, HB.out⟩
      · have hw2 := rwithin_any x.am 10 1125899906842624
        rw [decide_eq_false h2] at hw2
        have HE : Hid (decide (PMay x) = false) := decide_eq_false (fun h => h2 h.2.2.2.1)
        clear h0 h1 h2
        go_enter Tryz.func65, Tryz.ntmps65
        go_wp2_with (first | (refine Go.Great.wpList_boxTo rfl _ _ rfl _ rfl _ rfl (pyv x) rfl ?_) | fail)
        generalize w.alloc (.cells (pyv x) 98) = W0 at *
        refine (hw0 _).mono ?_
        rintro e v0 ⟨rfl, rfl⟩
        clear hw0
        go_wp2_with fail
        refine (hw1 _).mono ?_
        rintro e v1 ⟨rfl, rfl⟩
        clear hw1
        go_wp2_with fail
        refine (hw2 _).mono ?_
        rintro e v2 ⟨rfl, rfl⟩
        clear hw2
        go_wp2
        go_ret
        exact ⟨by rw [HE.out]; rfl, HB.out⟩
    · have hw1 := rwithin_any x.fr 0 1
      rw [decide_eq_false h1] at hw1
      have HE : Hid (decide (PMay x) = false) := decide_eq_false (fun h => h1 (by have := h.2.2.1; omega))
      clear h0 h1
      go_enter Tryz.func65, Tryz.ntmps65
      go_wp2_with (first | (refine Go.Great.wpList_boxTo rfl _ _ rfl _ rfl _ rfl (pyv x) rfl ?_) | fail)
      generalize w.alloc (.cells (pyv x) 98) = W0 at *
      refine (hw0 _).mono ?_
      rintro e v0 ⟨rfl, rfl⟩
      clear hw0
      go_wp2_with fail
      refine (hw1 _).mono ?_
      rintro e v1 ⟨rfl, rfl⟩
      clear hw1
      go_wp2
      go_ret
      exact ⟨by rw [HE.out]; rfl, HB.out⟩
  · have hw0 := rwithin_any x.id 0 4294967296
    rw [decide_eq_false h0] at hw0
    have HE : Hid (decide (PMay x) = false) := decide_eq_false (fun h => h0 ⟨h.1, h.2.1⟩)
    clear h0
    go_enter Tryz.func65, Tryz.ntmps65
    go_wp2_with (first | (refine Go.Great.wpList_boxTo rfl _ _ rfl _ rfl _ rfl (pyv x) rfl ?_) | fail)
    generalize w.alloc (.cells (pyv x) 98) = W0 at *
    refine (hw0 _).mono ?_
    rintro e v0 ⟨rfl, rfl⟩
    clear hw0
    go_wp2
    go_ret
    exact ⟨by rw [HE.out]; rfl, HB.out⟩
end Go.Proofs.YtjnepkggdkccaaaGreatDoor
