/- The document's answer: Put, Read. -/
import Derived.Test.YtnilgjlccfileaaDoorPRef
namespace Go.Proofs.YtnilgjlccfileaaDoor
open Go.RowKit

attribute [local go_sem ↓] Go.wp_at_zero Go.wp_at_succ

theorem Tryd.infoRW : (Tryd.prog.info? 71).map (fun i => (i.zero, i.size, i.bytes)) = some (some (.agg #[.int .i64 0, .slice none 0 0]), 2, 32) := by kernel_rfl
/-- 'append(s.L[:n:n], x)': a new row. -/
theorem rput_run {w : World} {la : Option Addr} {L : List (Int × Bs)} (hL : RowC w la L.length (flatW L)) (hn : la = none → L.length = 0) (hl : L.length ≤ 1000) (pg : Int) (x : Bs) :
    ∃ lc' w3, (Builtin.append_ #[39, 39] 39 #[.slice la L.length L.length, .slice (some ⟨w.heap.size, 0, none⟩) 1 1]).run Tryd.prog (w.alloc (.cells #[.int .i64 pg, .slice x.ad x.l.length x.cap] 71)) = .ok (.slice (some ⟨w.heap.size + 1, 0, none⟩) (L.length + 1) lc') w3 ∧
      RowC w3 (some ⟨w.heap.size + 1, 0, none⟩) (L.length + 1) (flatW (L ++ [(pg, x)])) ∧ Below (w.heap.size + 1) (w.alloc (.cells #[.int .i64 pg, .slice x.ad x.l.length x.cap] 71)) w3 ∧ L.length + 1 ≤ lc' := by
  obtain ⟨i0, hi0, hz0, hz1, hz2⟩ := info_parts Tryd.infoRW
  have hold : (Builtin.firstCells i0.size L.length (.slice la L.length L.length)).run Tryd.prog (w.alloc (.cells #[.int .i64 pg, .slice x.ad x.l.length x.cap] 71)).drew = .ok (flatW L).toArray (w.alloc (.cells #[.int .i64 pg, .slice x.ad x.l.length x.cap] 71)).drew := by
    rw [hz1]
    cases la with
    | none =>
      have e := hn rfl
      have : L = [] := List.eq_nil_of_length_eq_zero e
      subst this
      exact run_firstCells_none _ _ _ _ _
    | some a =>
      refine run_firstCells_some _ 2 L.length a L.length L.length (flatW L) (by rw [flatW_length]) (fun j v hv => ?_)
      have hj : 0 < L.length := by
        have := (List.getElem?_eq_some_iff.1 hv).1
        rw [flatW_length] at this
        omega
      obtain ⟨g, e, hg, hc⟩ := hL hj
      cases e
      rw [Addr.add_lit, Nat.zero_add]
      show (w.alloc _).cell? _ = _
      rw [World.cell?_alloc_lt _ _ _ hg]
      exact hc j v hv
  have hsrc : Src Tryd.prog i0.size 39 (.slice (some ⟨w.heap.size, 0, none⟩) 1 1) 1 [.int .i64 pg, .slice x.ad x.l.length x.cap] (w.alloc (.cells #[.int .i64 pg, .slice x.ad x.l.length x.cap] 71)) :=
    Src.ofSlice (size := i0.size) _ Tryd.underlying39 ⟨w.heap.size, 0, none⟩ 1 1 [.int .i64 pg, .slice x.ad x.l.length x.cap] (by rw [hz1]; rfl) (World.news_of_block (cs := #[.int .i64 pg, .slice x.ad x.l.length x.cap]) (t := 71) (fr := (0, 0)) (heap_alloc_new w _)) (by simp [Value.oneCell'])
  have hr := run_append_grow_src (P := Tryd.prog) (w.alloc (.cells #[.int .i64 pg, .slice x.ad x.l.length x.cap] 71)) 39 39 39 71 i0 _ Tryd.underlying39 hi0 hz0 la L.length L.length (flatW L) hold _ 1 _ hsrc (by omega) (by omega) (growslice_fits (by omega) (by rw [hz2]; omega))
  rw [World.size_alloc] at hr
  refine ⟨_, _, hr, ?_, ?_, grownCap_ge _ _ _ _⟩
  · refine fun _ => ⟨w.heap.size + 1, rfl, by simp, fun j u hu => ?_⟩
    have hnew := heap_alloc_new (w.alloc (.cells #[.int .i64 pg, .slice x.ad x.l.length x.cap] 71)).drew (.cells ((flatW L ++ [Value.int .i64 pg, Value.slice x.ad x.l.length x.cap]).toArray ++ Builtin.zeroCells (Value.agg #[.int .i64 0, .slice none 0 0]).cells (grownCap (w.alloc (.cells #[.int .i64 pg, .slice x.ad x.l.length x.cap] 71)) (L.length + 1) L.length 71 - (L.length + 1))) 71)
    have e1 : (w.alloc (.cells #[.int .i64 pg, .slice x.ad x.l.length x.cap] 71)).drew.heap.size = w.heap.size + 1 := by show (w.alloc _).heap.size = _; simp
    rw [e1] at hnew
    rw [cell_of_row _ _ j _ _ _ hnew]
    have e2 : flatW (L ++ [(pg, x)]) = flatW L ++ [.int .i64 pg, .slice x.ad x.l.length x.cap] := by simp [flatW_append, flatW, Bs.v]
    rw [e2] at hu
    have hj := (List.getElem?_eq_some_iff.1 hu).1
    rw [Array.getElem?_append_left (by simpa using hj)]
    simpa using hu
  · exact ((Below.refl _ _).drew).alloc (by show w.heap.size + 1 ≤ (w.alloc _).heap.size; simp) _
/-- Which error the document answers, ahead of the step. -/
def rpE (n : Nat) (dn : Bool) (pg : Int) (m : Nat) : Int := if ¬ (0 ≤ pg ∧ pg < n) then 1 else if 4096 < m then 2 else if dn = true then 13 else 0
set_option maxRecDepth 100000 in
set_option maxHeartbeats 1600000 in
theorem rput_bad (pa : Option Addr) (pn pc : Nat) (la : Option Addr) (ln lc : Nat) (st : Int) (dn : Bool) (pg : Int) (xa : Option Addr) (xn xc : Nat) (w : World) (he : rpE pn dn pg xn ≠ 0) :
    Calls Tryd.prog 22 #[.agg #[.slice pa pn pc, .slice la ln lc, .int .i64 st, .bool dn], .int .i64 pg, .slice xa xn xc] w fun e w' => e = .returned (.tuple #[.agg #[.slice pa pn pc, .slice la ln lc, .int .i64 st, .bool dn], .int .i64 (rpE pn dn pg xn)]) ∧ Below w.heap.size w w' := by
  unfold rpE at he ⊢
  by_cases h0 : 0 ≤ pg
  · by_cases h1 : pg < pn
    · rw [if_neg (by simp [h0, h1])] at he ⊢
      by_cases h2 : 4096 < xn
      · rw [if_pos h2]
        have h2' : (4096 : Int) < xn := by omega
        clear he
        go_enter Tryd.func22, Tryd.ntmps22
        go_wp2
        exact bodyPost_ret (results_R2 Tryd.results22 _ _ (w.heap.size + 1) 41 _ _ _ _ (0, 0) rfl (new2 _ _ _)) rfl ⟨rfl, below2 _ _ _⟩
      · rw [if_neg h2] at he ⊢
        have h2' : ¬ (4096 : Int) < xn := by omega
        cases dn with
        | false => exact absurd rfl he
        | true =>
          rw [if_pos rfl]
          clear he
          go_enter Tryd.func22, Tryd.ntmps22
          go_wp2
          exact bodyPost_ret (results_R2 Tryd.results22 _ _ (w.heap.size + 1) 41 _ _ _ _ (0, 0) rfl (new2 _ _ _)) rfl ⟨rfl, below2 _ _ _⟩
    · rw [if_pos (by simp [h1])]
      clear he
      go_enter Tryd.func22, Tryd.ntmps22
      go_wp2
      exact bodyPost_ret (results_R2 Tryd.results22 _ _ (w.heap.size + 1) 41 _ _ _ _ (0, 0) rfl (new2 _ _ _)) rfl ⟨rfl, below2 _ _ _⟩
  · rw [if_pos (by simp [h0])]
    clear he
    go_enter Tryd.func22, Tryd.ntmps22
    go_wp2
    exact bodyPost_ret (results_R2 Tryd.results22 _ _ (w.heap.size + 1) 41 _ _ _ _ (0, 0) rfl (new2 _ _ _)) rfl ⟨rfl, below2 _ _ _⟩
/-- One more of the document's. -/
def RPutR (pa : Option Addr) (pn pc : Nat) (L : List (Int × Bs)) (st : Int) (dn : Bool) (pg : Int) (x : Bs) (w : World) (e : Ending) (w' : World) : Prop :=
  ∃ g lc', e = .returned (.tuple #[.agg #[.slice pa pn pc, .slice (some ⟨g, 0, none⟩) (L.length + 1) lc', .int .i64 (rstS st), .bool (rstD st dn)], .int .i64 (rstE st)]) ∧ RowC w' (some ⟨g, 0, none⟩) (L.length + 1) (flatW (L ++ [(pg, x)])) ∧ w.heap.size ≤ g ∧ L.length + 1 ≤ lc' ∧ Below w.heap.size w w'
theorem build_W (pg : Int) (a : Option Addr) (n c : Nat) (w : World) : (Instr.build 71 #[(0, .int .i64 pg), (1, .slice a n c)]).run Tryd.prog w = .ok (.agg #[.int .i64 pg, .slice a n c]) w := by kernel_rfl
theorem set4 {w : World} {g : Nat} {t : TypeId} {x0 x1 x2 x3 : Value} (h : w.heap[g]? = some (.cells #[x0, x1, x2, x3] t (0, 0))) (a b c d : Value) : ((((w.setCell ⟨g, 0, none⟩ a).setCell ⟨g, 1, none⟩ b).setCell ⟨g, 2, none⟩ c).setCell ⟨g, 3, none⟩ d).heap[g]? = some (.cells #[a, b, c, d] t (0, 0)) := by
  have h0 := heap_setCell_same w g 0 _ _ a h
  have h1 := heap_setCell_same _ g 1 _ _ b h0
  have h2 := heap_setCell_same _ g 2 _ _ c h1
  have h3 := heap_setCell_same _ g 3 _ _ d h2
  rw [h3]
  rfl
theorem set4_frm {w : World} {g : Nat} (a b c d : Value) : Frm [g] w ((((w.setCell ⟨g, 0, none⟩ a).setCell ⟨g, 1, none⟩ b).setCell ⟨g, 2, none⟩ c).setCell ⟨g, 3, none⟩ d) :=
  ((((Frm.refl [g] w).setCell _ _ (by simp)).setCell _ _ (by simp)).setCell _ _ (by simp)).setCell _ _ (by simp)
/-- Four cells of a block. -/
structure Four (w : World) (g : Nat) (a b c d : Value) : Prop where
  c0 : w.cell? ⟨g, 0, none⟩ = some a
  c1 : w.cell? ⟨g, 1, none⟩ = some b
  c2 : w.cell? ⟨g, 2, none⟩ = some c
  c3 : w.cell? ⟨g, 3, none⟩ = some d
  f0 : w.frozen? ⟨g, 0, none⟩ = false
  f1 : w.frozen? ⟨g, 1, none⟩ = false
  f2 : w.frozen? ⟨g, 2, none⟩ = false
  f3 : w.frozen? ⟨g, 3, none⟩ = false
theorem four_of {w : World} {g : Nat} {t : TypeId} {a b c d : Value} (h : w.heap[g]? = some (.cells #[a, b, c, d] t (0, 0))) : Four w g a b c d :=
  ⟨by rw [cell_of_row _ _ 0 _ _ _ h]; rfl, by rw [cell_of_row _ _ 1 _ _ _ h]; rfl, by rw [cell_of_row _ _ 2 _ _ _ h]; rfl, by rw [cell_of_row _ _ 3 _ _ _ h]; rfl, frozen_of_row _ _ 0 _ _ h, frozen_of_row _ _ 1 _ _ h, frozen_of_row _ _ 2 _ _ h, frozen_of_row _ _ 3 _ _ h⟩
set_option maxRecDepth 100000 in
set_option maxHeartbeats 1600000 in
theorem rput_ok (pa : Option Addr) (pn pc : Nat) (la : Option Addr) (lc : Nat) (L : List (Int × Bs)) (st : Int) (pg : Int) (x : Bs) (w : World) (he : rpE pn false pg x.l.length = 0) (hL : RowC w la L.length (flatW L)) (hn : la = none → L.length = 0 ∧ lc = 0) (hlc : L.length ≤ lc) (hl : L.length ≤ 1000) (hst : -1 ≤ st ∧ st ≤ 9223372036854775807) :
    Calls Tryd.prog 22 #[.agg #[.slice pa pn pc, .slice la L.length lc, .int .i64 st, .bool false], .int .i64 pg, .slice x.ad x.l.length x.cap] w (RPutR pa pn pc L st false pg x w) := by
  have h1 : 0 ≤ pg ∧ pg < pn := by
    unfold rpE at he
    split at he
    · cases he
    · rename_i h; exact Classical.not_not.1 h
  have h2 : ¬ 4096 < x.l.length := by
    intro h2
    unfold rpE at he
    rw [if_neg (by simpa using h1), if_pos h2] at he
    cases he
  have h1a := h1.1
  have h1b := h1.2
  have h2' : ¬ (4096 : Int) < (x.l.length : Int) := by omega
  have d1 : decide (pg < 0) = false := by simp; omega
  have d2 : decide ((pn : Int) ≤ pg) = false := by simp; omega
  have k2 := build_W
  obtain ⟨W2, hW2⟩ : ∃ W2, (w.alloc (.cells #[.slice pa pn pc, .slice la L.length lc, .int .i64 st, .bool false] 41)).alloc (.cells #[.slice none 0 0, .slice none 0 0, .int .i64 0, .bool false] 41) = W2 := ⟨_, rfl⟩
  have hb2 : Below w.heap.size w W2 := by rw [← hW2]; exact below2 _ _ _
  have hz2 : W2.heap.size = w.heap.size + 2 := by rw [← hW2]; simp
  have n1 : W2.heap[w.heap.size]? = some (.cells #[.slice pa pn pc, .slice la L.length lc, .int .i64 st, .bool false] 41 (0, 0)) := by rw [← hW2]; exact new1 _ _ _
  have n2 : W2.heap[w.heap.size + 1]? = some (.cells #[.slice none 0 0, .slice none 0 0, .int .i64 0, .bool false] 41 (0, 0)) := by rw [← hW2]; exact new2 _ _ _
  obtain ⟨lc', w3, hrun, hR3, hb3, hc3⟩ := rput_run (hL.below hb2) (fun e => (hn e).1) hl pg x
  have hk3 : ∀ k, k < w.heap.size + 2 → w3.heap[k]? = W2.heap[k]? := fun k hk => by rw [hb3.block k (by omega), Below.heap_alloc _ _ _ (by omega)]
  have hb03 : Below w.heap.size w w3 := hb2.trans (((Below.refl w.heap.size W2).alloc (by omega) _).trans (hb3.mono (by omega)))
  have hz3 : w.heap.size + 3 ≤ w3.heap.size := by have := hb3.size; simp at this; omega
  have m1 : w3.heap[w.heap.size]? = _ := (hk3 _ (by omega)).trans n1
  have m2 : w3.heap[w.heap.size + 1]? = _ := (hk3 _ (by omega)).trans n2
  have F1 := four_of m1
  obtain ⟨W4, hW4⟩ : ∃ W4, w3.setCell ⟨w.heap.size, 1, none⟩ (.slice (some ⟨W2.heap.size + 1, 0, none⟩) (L.length + 1) lc') = W4 := ⟨_, rfl⟩
  have hf4 : Frm [w.heap.size] w3 W4 := by rw [← hW4]; exact (Frm.refl _ _).setCell _ _ (by simp)
  have p1 : W4.heap[w.heap.size]? = some (.cells #[.slice pa pn pc, .slice (some ⟨W2.heap.size + 1, 0, none⟩) (L.length + 1) lc', .int .i64 st, .bool false] 41 (0, 0)) := by rw [← hW4]; exact heap_setCell_same _ _ 1 _ _ _ m1
  have p2 : W4.heap[w.heap.size + 1]? = _ := (hf4.block _ (by omega) (by simp)).trans m2
  have G1 := four_of p1
  have hb04 : Below w.heap.size w W4 := hb03.trans (hf4.below (by omega) (by simp))
  have hz4 := hb04.size
  have hst4 := rstep_any pa pn pc (some ⟨W2.heap.size + 1, 0, none⟩) (L.length + 1) lc' st false W4 hst
  have HE : Hid (∀ w5, Below W4.heap.size W4 w5 → Four w5 (w.heap.size + 1) (.slice none 0 0) (.slice none 0 0) (.int .i64 0) (.bool false) ∧ ∀ a b c d : Value, ((((w5.setCell ⟨w.heap.size + 1, 0, none⟩ a).setCell ⟨w.heap.size + 1, 1, none⟩ b).setCell ⟨w.heap.size + 1, 2, none⟩ c).setCell ⟨w.heap.size + 1, 3, none⟩ d).heap[w.heap.size + 1]? = some (.cells #[a, b, c, d] 41 (0, 0)) ∧
      Below w.heap.size w ((((w5.setCell ⟨w.heap.size + 1, 0, none⟩ a).setCell ⟨w.heap.size + 1, 1, none⟩ b).setCell ⟨w.heap.size + 1, 2, none⟩ c).setCell ⟨w.heap.size + 1, 3, none⟩ d) ∧ RowC ((((w5.setCell ⟨w.heap.size + 1, 0, none⟩ a).setCell ⟨w.heap.size + 1, 1, none⟩ b).setCell ⟨w.heap.size + 1, 2, none⟩ c).setCell ⟨w.heap.size + 1, 3, none⟩ d) (some ⟨W2.heap.size + 1, 0, none⟩) (L.length + 1) (flatW (L ++ [(pg, x)]))) := fun w5 hb5 => by
    have q2 : w5.heap[w.heap.size + 1]? = _ := (hb5.block _ (by have := hf4.size; omega)).trans p2
    refine ⟨four_of q2, fun a b c d => ⟨set4 q2 a b c d, ?_, ?_⟩⟩
    · exact (hb04.trans (hb5.mono hz4)).trans ((set4_frm a b c d).below (by have := hb5.size; omega) (by simp))
    · have hf := set4_frm (w := w5) (g := w.heap.size + 1) a b c d
      have hz5 := hb5.size
      refine hR3.keep (by have := hf4.size; have := hf.size; omega) (fun ad e hlt => ?_)
      cases e
      have hlt : W2.heap.size + 1 < w3.heap.size := hlt
      have hz34 := hf4.size
      show (World.heap _)[W2.heap.size + 1]? = w3.heap[W2.heap.size + 1]?
      rw [hf.block (W2.heap.size + 1) (by omega) (by simp; omega), hb5.block (W2.heap.size + 1) (by omega), hf4.block (W2.heap.size + 1) hlt (by simp; omega)]
  have hlcI : (L.length : Int) ≤ lc := by omega
  clear hL hlc hl hst h1 h2 n1 n2 hR3 hb3 hk3 hb03 m1 m2 hf4 p1 p2 hb04 hz4 he
  have c10 := F1.c0
  have c11 := F1.c1
  have f11 := F1.f1
  have g0 := G1.c0
  have g1 := G1.c1
  have g2 := G1.c2
  have g3 := G1.c3
  clear F1 G1
  cases la with
  | none =>
    have e0 := (hn rfl).1
    obtain rfl := (hn rfl).2
    have : L = [] := List.eq_nil_of_length_eq_zero e0
    subst this
    subst hW2
    simp only [World.size_alloc, List.length_nil] at hrun hst4 HE hW4 c11 g1
    go_enter Tryd.func22, Tryd.ntmps22
    go_wp2_with (first | (at_builtin; refine wpList_append_run rfl _ _ _ rfl rfl rfl hrun ?_) | fail)
    refine hst4.mono ?_
    rintro e w5 ⟨rfl, hb5⟩
    obtain ⟨F5, hE5⟩ := HE.out w5 hb5
    have e0 := F5.c0
    have e1 := F5.c1
    have e2 := F5.c2
    have e3 := F5.c3
    have y0 := F5.f0
    have y1 := F5.f1
    have y2 := F5.f2
    have y3 := F5.f3
    have HX : Hid (_ ∧ _ ∧ _) := hE5 (.slice pa pn pc) (.slice (some ⟨w.heap.size + 1 + 1 + 1, 0, none⟩) (0 + 1) lc') (.int .i64 (rstS st)) (.bool (rstD st false))
    clear F5 HE hst4 hb5 hE5
    go_wp2
    exact bodyPost_ret (results_R2 Tryd.results22 _ _ (w.heap.size + 1) 41 _ _ _ _ (0, 0) rfl HX.out.1) rfl ⟨w.heap.size + 1 + 1 + 1, lc', rfl, HX.out.2.2, by omega, hc3, HX.out.2.1⟩
  | some a =>
    subst hW2
    simp only [World.size_alloc] at hrun hst4 HE hW4 c11 g1
    go_enter Tryd.func22, Tryd.ntmps22
    go_wp2_with (first | (at_builtin; refine wpList_append_run rfl _ _ _ rfl rfl rfl hrun ?_) | fail)
    refine hst4.mono ?_
    rintro e w5 ⟨rfl, hb5⟩
    obtain ⟨F5, hE5⟩ := HE.out w5 hb5
    have e0 := F5.c0
    have e1 := F5.c1
    have e2 := F5.c2
    have e3 := F5.c3
    have y0 := F5.f0
    have y1 := F5.f1
    have y2 := F5.f2
    have y3 := F5.f3
    have HX : Hid (_ ∧ _ ∧ _) := hE5 (.slice pa pn pc) (.slice (some ⟨w.heap.size + 1 + 1 + 1, 0, none⟩) (L.length + 1) lc') (.int .i64 (rstS st)) (.bool (rstD st false))
    clear F5 HE hst4 hb5 hE5
    go_wp2
    exact bodyPost_ret (results_R2 Tryd.results22 _ _ (w.heap.size + 1) 41 _ _ _ _ (0, 0) rfl HX.out.1) rfl ⟨w.heap.size + 1 + 1 + 1, lc', rfl, HX.out.2.2, by omega, hc3, HX.out.2.1⟩
end Go.Proofs.YtnilgjlccfileaaDoor
