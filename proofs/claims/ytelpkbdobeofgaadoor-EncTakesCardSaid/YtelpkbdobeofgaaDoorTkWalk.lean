/- EncTakes: the walk. -/
import Derived.Test.YtelpkbdobeofgaaDoorTkKit
namespace Go.Proofs.YtelpkbdobeofgaaDoor
open Go.RowKit

attribute [local go_sem ↓] Go.wp_at_zero Go.wp_at_succ

set_option maxRecDepth 100000 in
set_option maxHeartbeats 6400000 in
theorem takes_any (ad la : Option Addr) (n cap m mc : Nat) (z kd mo : Nat → Int) (w : World) (hlc : n ≤ cap) (hn : n ≤ 140737488351232) (hs : SlAt w ad n z) (hnil : ad = none → n = 0 ∧ cap = 0) (hg : Glob w) (hm : m ≤ 140737488351232) (hl : AskAt w la m kd mo) :
    Calls Tryd.prog 3 #[.slice ad n cap, .slice la m mc] w fun e w' => e = .returned (.bool true) ∧ Below w.heap.size w w' := by
  have HL : Hid (AskAt w la m kd mo) := hl
  clear hl
  go_enter Tryd.func3, Tryd.ntmps3
  go_wp2_with fail
  refine (read_any ad n cap z w hs hnil hn).mono ?_
  rintro e w1 ⟨r1, rfl, hr1, hrb1, hb1⟩
  have hr1lt := hr1.lt
  have hal : Below w1.heap.size w1 (w1.alloc (.cells #[.slice ad n cap, .int .i64 0] 27)) := (Below.refl _ w1).alloc (Nat.le_refl _) _
  have hsx : SlAt (w1.alloc (.cells #[.slice ad n cap, .int .i64 0] 27)) ad n z := (hs.frm (S := []) (Frm.ofBelow hb1) (by simp)).frm (S := []) (Frm.ofBelow hal) (by simp)
  have hS0 : TkS w (w1.alloc (.cells #[.slice ad n cap, .int .i64 0] 27)) r1 w1.heap.size n z 0 ad cap :=
    ⟨hb1.alloc hb1.size _, (hg.below hb1 hg.pos).below hal (hg.below hb1 hg.pos).pos, hr1.below hal, heap_alloc_new w1 _, hlc, hsx, hrb1, hb1.size, by omega, hn⟩
  clear hal hsx hr1 hr1lt hrb1 hb1 hs hnil hg
  go_wp2_with fail
  generalize w1.heap.size = qb at *
  generalize (w1.alloc (.cells #[.slice ad n cap, .int .i64 0] 27)) = W0 at *
  go_loopw [7] (fun i wr => ∃ (k n' : Nat) (z' : Nat → Int) (er : Int) (aq : Option Addr) (cq : Nat), k ≤ 100 ∧ k ≤ m ∧ i = .int .i64 k ∧ TkS w wr r1 qb n' z' er aq cq) (fun i _ => 101 - (intOf i).toNat)
  case atStart => exact ⟨0, n, z, 0, ad, cap, by omega, by omega, rfl, hS0⟩
  case round =>
    clear hS0
    obtain ⟨k, n', z', er, aq, cq, hk, hkm, rfl, hS⟩ := hrel
    have HS : Hid (TkS w wr r1 qb n' z' er aq cq) := hS
    clear hS
    by_cases hlt : k < 100 ∧ k < m
    · obtain ⟨hk1, hk2⟩ := hlt
      obtain ⟨hbd, hcs⟩ := HL.out
      obtain ⟨b, off, rfl, hcl⟩ := hcs (by omega)
      have hblt : b < w.heap.size := World.block_lt_of_cell? w _ (hcl k hk2).1
      have hck := (HS.out.below.cell (p := ⟨b, off + k * 2, none⟩) hblt).trans (hcl k hk2).1
      have hcm := (HS.out.below.cell (p := ⟨b, off + k * 2 + 1, none⟩) hblt).trans (hcl k hk2).2
      have hbk := hbd k hk2
      generalize kd k = x at *
      generalize mo k = y at *
      obtain ⟨⟨hx0, hx1⟩, hy0, hy1⟩ := hbk
      clear hcs hcl hbd
      have hq0 := two_cell0 HS.out.q
      have hq1 := two_cell1 HS.out.q
      have hk100 : (k : Int) < 100 := by omega
      rcases kappa x with e | e | e | e | e
      · have kc0 : (wrap64 ((IntKind.u64.wrap x).tmod 5) == 0) = true := by simp [e]
        clear e
        go_wp2_with fail
        go_region_held3 (fun w' => Below wr.heap.size wr w' ∧ w'.cell? ⟨qb, 0, none⟩ = some (.slice aq n' cq) ∧ w'.cell? ⟨qb, 1, none⟩ = some (.int .i64 er) ∧ w'.cell? ⟨b, off + k * 2, none⟩ = some (.int .i64 x) ∧ w'.cell? ⟨b, off + k * 2 + 1, none⟩ = some (.int .i64 y))
          (first
            | exact TkS.keep HS.out hblt hck hcm ((Below.refl _ _).drew)
            | (go_split_ands; exact TkS.keep HS.out hblt hck hcm (Below.allocS (by assumption) _))
            | (go_split_ands; exact TkS.keep HS.out hblt hck hcm (Below.transS (by assumption) hbx))
            | (go_split_ands; exact TkS.keep HS.out hblt hck hcm (Below.allocS (Below.transS (Below.refl _ wr).drew hbx) _))
            | (go_split_ands; exact TkS.keep HS.out hblt hck hcm (Below.setCell (Below.setCell (Below.transS (Below.allocS (Below.refl _ wr) _).drew hbx) (by simp) _) (by simp) _))
            | (go_split_ands; refine TkS.keep HS.out hblt hck hcm ?_; assumption)
            | fail)
          (first | (go_at_call 7; go_split_ands; refine (dUint aq n' cq er _ z' _ HS.out.hc HS.out.hn (HS.out.sl (by assumption))).mono ?_; rintro e wx ⟨a1, c1, rfl, hc1, hs1, hbx⟩; (try (have hv := new_kept hbx; have hv0 := two_cell0 hv; have hv1 := two_cell1 hv; have hvf := two_free hv))))
        · have hM := TkM.way1 (er1 := onE er (uE n' z' (IntKind.u64.wrap y))) hbx hc1 hs1
          go_split_ands
          generalize (wx.alloc (.cells #[.slice a1 (n' - onN er (uN n' z' (IntKind.u64.wrap y))) c1, .int .i64 (onE er (uE n' z' (IntKind.u64.wrap y)))] 27)) = W2 at *
          generalize wx.heap.size = gb at *
          clear hbx hs1 hq0 hq1
          go_wp2_with fail
          go_region_held3 (fun w' => w'.cell? ⟨gb, 0, none⟩ = some (.slice a1 (n' - onN er (uN n' z' (IntKind.u64.wrap y))) c1) ∧ w'.cell? ⟨gb, 1, none⟩ = some (.int .i64 (onE er (uE n' z' (IntKind.u64.wrap y)))) ∧ w'.cell? ⟨b, off + k * 2 + 1, none⟩ = some (.int .i64 y))
            (first
              | exact TkM.keep HS.out hM hblt hcm (Frm.refl _ _).drew
              | exact TkM.keep HS.out hM hblt hcm (hFy.mono (by simp))
              | exact TkM.keep HS.out hM hblt hcm (((hFy.mono (by simp)).setCell _ _ (by simp)).setCell _ _ (by simp))
              | fail)
            (first | (go_at_call 8; refine (pUint r1 n' z' er _ _ ((TkM.rd HS.out hM).below (Below.refl _ _).drew)).mono ?_; rintro e wy ⟨rfl, hFx, hRx⟩; have hFy : Frm [r1] W2 wy := (Frm.refl [r1] W2).drew.trans hFx; have hqx := TkM.q HS.out hM hFy; have hqx0 := two_cell0 hqx; have hqx1 := two_cell1 hqx; have hqxf := two_free hqx))
          clear kc0
          have hT := TkM.done HS.out hM hFy hRx (by omega) (by omega)
          go_split_ands
          generalize ((wy.setCell ⟨qb, 0, none⟩ (.slice a1 (n' - onN er (uN n' z' (IntKind.u64.wrap y))) c1)).setCell ⟨qb, 1, none⟩ (.int .i64 (onE er (uE n' z' (IntKind.u64.wrap y))))) = W3 at *
          clear hFx hFy hRx hqx hqx0 hqx1 hqxf hM HS hck hcm
          generalize n' - onN er (uN n' z' (IntKind.u64.wrap y)) = n2 at *
          generalize onE er (uE n' z' (IntKind.u64.wrap y)) = er2 at *
          generalize (fun j => z' (j + onN er (uN n' z' (IntKind.u64.wrap y)))) = z2 at *
          go_wp2_with fail
          go_region_held3 (fun w' => TkS w w' r1 qb n2 z2 er2 a1 c1 ∧ w'.cell? ⟨qb, 0, none⟩ = some (.slice a1 n2 c1) ∧ w'.cell? ⟨qb, 1, none⟩ = some (.int .i64 er2))
            (first
              | exact TkS.ends hT (Below.refl _ _).drew
              | (go_split_ands; exact TkS.ends (w := w) (r1 := r1) (qb := qb) (n := n2) (z := z2) (er := er2) (aq := a1) (cq := c1) (by assumption) hbx)
              | (go_split_ands; refine TkS.ends (w := w) (r1 := r1) (qb := qb) (n := n2) (z := z2) (er := er2) (aq := a1) (cq := c1) ?_ (Below.refl _ _); assumption)
              | fail)
            (first
              | (go_at_call 17; go_split_ands; refine (num_any _ _ ?_).mono ?_; (exact TkS.glob (w := w) (r1 := r1) (qb := qb) (n := n2) (z := z2) (er := er2) (aq := a1) (cq := c1) (by assumption)); rintro e wx ⟨rfl, hbx⟩)
              | (go_at_call 18; go_split_ands; refine (done_any r1 n2 z2 er2 _ ?_).mono ?_; (exact TkS.rd (w := w) (r1 := r1) (qb := qb) (n := n2) (z := z2) (er := er2) (aq := a1) (cq := c1) (by assumption)); rintro e wx ⟨rfl, rfl⟩)
              | (go_at_call 20; go_split_ands; refine (left_any r1 n2 z2 er2 _ ?_).mono ?_; (exact TkS.rd (w := w) (r1 := r1) (qb := qb) (n := n2) (z := z2) (er := er2) (aq := a1) (cq := c1) (by assumption)); rintro e wx ⟨rfl, rfl⟩)
              | (go_at_call 19; refine (refDone_any _ _ _ _ _).mono ?_; rintro e wx ⟨rfl, hbx⟩))
          go_wp2_with fail
          go_split_ands
          refine ⟨⟨k + 1, n2, z2, er2, a1, c1, by omega, by omega, by go_num, by assumption⟩, by simp [intOf]; omega⟩
        · have hM := TkM.way2 (er1 := onE er (uE n' z' (IntKind.u64.wrap y))) hbx hc1 hs1
          go_split_ands
          generalize ((wx.setCell ⟨wr.heap.size, 0, none⟩ (.slice a1 (n' - onN er (uN n' z' (IntKind.u64.wrap y))) c1)).setCell ⟨wr.heap.size, 1, none⟩ (.int .i64 (onE er (uE n' z' (IntKind.u64.wrap y))))) = W2 at *
          generalize wr.heap.size = gb at hM ⊢
          clear hbx hs1 hq0 hq1 hv hv0 hv1 hvf
          go_wp2_with fail
          go_region_held3 (fun w' => w'.cell? ⟨gb, 0, none⟩ = some (.slice a1 (n' - onN er (uN n' z' (IntKind.u64.wrap y))) c1) ∧ w'.cell? ⟨gb, 1, none⟩ = some (.int .i64 (onE er (uE n' z' (IntKind.u64.wrap y)))) ∧ w'.cell? ⟨b, off + k * 2 + 1, none⟩ = some (.int .i64 y))
            (first
              | exact TkM.keep HS.out hM hblt hcm (Frm.refl _ _).drew
              | exact TkM.keep HS.out hM hblt hcm (hFy.mono (by simp))
              | exact TkM.keep HS.out hM hblt hcm (((hFy.mono (by simp)).setCell _ _ (by simp)).setCell _ _ (by simp))
              | fail)
            (first | (go_at_call 8; refine (pUint r1 n' z' er _ _ ((TkM.rd HS.out hM).below (Below.refl _ _).drew)).mono ?_; rintro e wy ⟨rfl, hFx, hRx⟩; have hFy : Frm [r1] W2 wy := (Frm.refl [r1] W2).drew.trans hFx; have hqx := TkM.q HS.out hM hFy; have hqx0 := two_cell0 hqx; have hqx1 := two_cell1 hqx; have hqxf := two_free hqx))
          clear kc0
          have hT := TkM.done HS.out hM hFy hRx (by omega) (by omega)
          go_split_ands
          generalize ((wy.setCell ⟨qb, 0, none⟩ (.slice a1 (n' - onN er (uN n' z' (IntKind.u64.wrap y))) c1)).setCell ⟨qb, 1, none⟩ (.int .i64 (onE er (uE n' z' (IntKind.u64.wrap y))))) = W3 at *
          clear hFx hFy hRx hqx hqx0 hqx1 hqxf hM HS hck hcm
          generalize n' - onN er (uN n' z' (IntKind.u64.wrap y)) = n2 at *
          generalize onE er (uE n' z' (IntKind.u64.wrap y)) = er2 at *
          generalize (fun j => z' (j + onN er (uN n' z' (IntKind.u64.wrap y)))) = z2 at *
          go_wp2_with fail
          go_region_held3 (fun w' => TkS w w' r1 qb n2 z2 er2 a1 c1 ∧ w'.cell? ⟨qb, 0, none⟩ = some (.slice a1 n2 c1) ∧ w'.cell? ⟨qb, 1, none⟩ = some (.int .i64 er2))
            (first
              | exact TkS.ends hT (Below.refl _ _).drew
              | (go_split_ands; exact TkS.ends (w := w) (r1 := r1) (qb := qb) (n := n2) (z := z2) (er := er2) (aq := a1) (cq := c1) (by assumption) hbx)
              | (go_split_ands; refine TkS.ends (w := w) (r1 := r1) (qb := qb) (n := n2) (z := z2) (er := er2) (aq := a1) (cq := c1) ?_ (Below.refl _ _); assumption)
              | fail)
            (first
              | (go_at_call 17; go_split_ands; refine (num_any _ _ ?_).mono ?_; (exact TkS.glob (w := w) (r1 := r1) (qb := qb) (n := n2) (z := z2) (er := er2) (aq := a1) (cq := c1) (by assumption)); rintro e wx ⟨rfl, hbx⟩)
              | (go_at_call 18; go_split_ands; refine (done_any r1 n2 z2 er2 _ ?_).mono ?_; (exact TkS.rd (w := w) (r1 := r1) (qb := qb) (n := n2) (z := z2) (er := er2) (aq := a1) (cq := c1) (by assumption)); rintro e wx ⟨rfl, rfl⟩)
              | (go_at_call 20; go_split_ands; refine (left_any r1 n2 z2 er2 _ ?_).mono ?_; (exact TkS.rd (w := w) (r1 := r1) (qb := qb) (n := n2) (z := z2) (er := er2) (aq := a1) (cq := c1) (by assumption)); rintro e wx ⟨rfl, rfl⟩)
              | (go_at_call 19; refine (refDone_any _ _ _ _ _).mono ?_; rintro e wx ⟨rfl, hbx⟩))
          go_wp2_with fail
          go_split_ands
          refine ⟨⟨k + 1, n2, z2, er2, a1, c1, by omega, by omega, by go_num, by assumption⟩, by simp [intOf]; omega⟩
      · have kc0 : (wrap64 ((IntKind.u64.wrap x).tmod 5) == 0) = false := by simp [e]
        have kc1 : (wrap64 ((IntKind.u64.wrap x).tmod 5) == 1) = true := by simp [e]
        clear e
        go_wp2_with (first | (go_at_call 9; refine (dInt aq n' cq er z' _ HS.out.hc HS.out.hn HS.out.hs).mono ?_; rintro e wx ⟨a1, c1, rfl, hc1, hs1, hbx⟩))
        have hM := TkM.way0 (er1 := onE er (iE n' z')) hbx hc1 hs1
        generalize (wx.alloc (.cells #[.slice a1 (n' - onN er (iN n' z')) c1, .int .i64 (onE er (iE n' z'))] 27)) = W2 at *
        generalize wx.heap.size = gb at *
        clear hbx hs1 hq0 hq1
        go_region_held3 (fun w' => w'.cell? ⟨gb, 0, none⟩ = some (.slice a1 (n' - onN er (iN n' z')) c1) ∧ w'.cell? ⟨gb, 1, none⟩ = some (.int .i64 (onE er (iE n' z'))) ∧ w'.cell? ⟨b, off + k * 2 + 1, none⟩ = some (.int .i64 y))
          (first
            | exact TkM.keep HS.out hM hblt hcm (Frm.refl _ _).drew
            | exact TkM.keep HS.out hM hblt hcm (hFy.mono (by simp))
            | exact TkM.keep HS.out hM hblt hcm (((hFy.mono (by simp)).setCell _ _ (by simp)).setCell _ _ (by simp))
            | fail)
          (first | (go_at_call 10; refine (pInt r1 n' z' er _ ((TkM.rd HS.out hM).below (Below.refl _ _).drew)).mono ?_; rintro e wy ⟨rfl, hFx, hRx⟩; have hFy : Frm [r1] W2 wy := (Frm.refl [r1] W2).drew.trans hFx; have hqx := TkM.q HS.out hM hFy; have hqx0 := two_cell0 hqx; have hqx1 := two_cell1 hqx; have hqxf := two_free hqx))
        clear kc0 kc1
        have hT := TkM.done HS.out hM hFy hRx (by omega) (by omega)
        go_split_ands
        generalize ((wy.setCell ⟨qb, 0, none⟩ (.slice a1 (n' - onN er (iN n' z')) c1)).setCell ⟨qb, 1, none⟩ (.int .i64 (onE er (iE n' z')))) = W3 at *
        clear hFx hFy hRx hqx hqx0 hqx1 hqxf hM HS hck hcm
        generalize n' - onN er (iN n' z') = n2 at *
        generalize onE er (iE n' z') = er2 at *
        generalize (fun j => z' (j + onN er (iN n' z'))) = z2 at *
        go_wp2_with fail
        go_region_held3 (fun w' => TkS w w' r1 qb n2 z2 er2 a1 c1 ∧ w'.cell? ⟨qb, 0, none⟩ = some (.slice a1 n2 c1) ∧ w'.cell? ⟨qb, 1, none⟩ = some (.int .i64 er2))
          (first
            | exact TkS.ends hT (Below.refl _ _).drew
            | (go_split_ands; exact TkS.ends (w := w) (r1 := r1) (qb := qb) (n := n2) (z := z2) (er := er2) (aq := a1) (cq := c1) (by assumption) hbx)
            | (go_split_ands; refine TkS.ends (w := w) (r1 := r1) (qb := qb) (n := n2) (z := z2) (er := er2) (aq := a1) (cq := c1) ?_ (Below.refl _ _); assumption)
            | fail)
          (first
            | (go_at_call 17; go_split_ands; refine (num_any _ _ ?_).mono ?_; (exact TkS.glob (w := w) (r1 := r1) (qb := qb) (n := n2) (z := z2) (er := er2) (aq := a1) (cq := c1) (by assumption)); rintro e wx ⟨rfl, hbx⟩)
            | (go_at_call 18; go_split_ands; refine (done_any r1 n2 z2 er2 _ ?_).mono ?_; (exact TkS.rd (w := w) (r1 := r1) (qb := qb) (n := n2) (z := z2) (er := er2) (aq := a1) (cq := c1) (by assumption)); rintro e wx ⟨rfl, rfl⟩)
            | (go_at_call 20; go_split_ands; refine (left_any r1 n2 z2 er2 _ ?_).mono ?_; (exact TkS.rd (w := w) (r1 := r1) (qb := qb) (n := n2) (z := z2) (er := er2) (aq := a1) (cq := c1) (by assumption)); rintro e wx ⟨rfl, rfl⟩)
            | (go_at_call 19; refine (refDone_any _ _ _ _ _).mono ?_; rintro e wx ⟨rfl, hbx⟩))
        go_wp2_with fail
        go_split_ands
        refine ⟨⟨k + 1, n2, z2, er2, a1, c1, by omega, by omega, by go_num, by assumption⟩, by simp [intOf]; omega⟩
      · have kc0 : (wrap64 ((IntKind.u64.wrap x).tmod 5) == 0) = false := by simp [e]
        have kc1 : (wrap64 ((IntKind.u64.wrap x).tmod 5) == 1) = false := by simp [e]
        have kc2 : (wrap64 ((IntKind.u64.wrap x).tmod 5) == 2) = true := by simp [e]
        clear e
        go_wp2_with fail
        go_region_held3 (fun w' => Below wr.heap.size wr w' ∧ w'.cell? ⟨qb, 0, none⟩ = some (.slice aq n' cq) ∧ w'.cell? ⟨qb, 1, none⟩ = some (.int .i64 er) ∧ w'.cell? ⟨b, off + k * 2, none⟩ = some (.int .i64 x) ∧ w'.cell? ⟨b, off + k * 2 + 1, none⟩ = some (.int .i64 y))
          (first
            | exact TkS.keep HS.out hblt hck hcm ((Below.refl _ _).drew)
            | (go_split_ands; exact TkS.keep HS.out hblt hck hcm (Below.allocS (by assumption) _))
            | (go_split_ands; exact TkS.keep HS.out hblt hck hcm (Below.transS (by assumption) hbx))
            | (go_split_ands; exact TkS.keep HS.out hblt hck hcm (Below.allocS (Below.transS (Below.refl _ wr).drew hbx) _))
            | (go_split_ands; exact TkS.keep HS.out hblt hck hcm (Below.setCell (Below.setCell (Below.transS (Below.allocS (Below.refl _ wr) _).drew hbx) (by simp) _) (by simp) _))
            | (go_split_ands; refine TkS.keep HS.out hblt hck hcm ?_; assumption)
            | fail)
          (first | (go_at_call 11; go_split_ands; refine (dCount aq n' cq er _ z' _ HS.out.hc HS.out.hn (HS.out.sl (by assumption)) (by assumption)).mono ?_; rintro e wx ⟨a1, c1, rfl, hc1, hs1, hbx⟩; (try (have hv := new_kept hbx; have hv0 := two_cell0 hv; have hv1 := two_cell1 hv; have hvf := two_free hv))))
        · have hM := TkM.way1 (er1 := onE er (cE n' z' y)) hbx hc1 hs1
          go_split_ands
          generalize (wx.alloc (.cells #[.slice a1 (n' - onN er (cN n' z' y)) c1, .int .i64 (onE er (cE n' z' y))] 27)) = W2 at *
          generalize wx.heap.size = gb at *
          clear hbx hs1 hq0 hq1
          go_wp2_with fail
          go_region_held3 (fun w' => w'.cell? ⟨gb, 0, none⟩ = some (.slice a1 (n' - onN er (cN n' z' y)) c1) ∧ w'.cell? ⟨gb, 1, none⟩ = some (.int .i64 (onE er (cE n' z' y))) ∧ w'.cell? ⟨b, off + k * 2 + 1, none⟩ = some (.int .i64 y))
            (first
              | exact TkM.keep HS.out hM hblt hcm (Frm.refl _ _).drew
              | exact TkM.keep HS.out hM hblt hcm (hFy.mono (by simp))
              | exact TkM.keep HS.out hM hblt hcm (((hFy.mono (by simp)).setCell _ _ (by simp)).setCell _ _ (by simp))
              | fail)
            (first | (go_at_call 12; refine (pCount r1 n' z' er _ _ HS.out.hn (by assumption) ((TkM.rd HS.out hM).below (Below.refl _ _).drew)).mono ?_; rintro e wy ⟨rfl, hFx, hRx⟩; have hFy : Frm [r1] W2 wy := (Frm.refl [r1] W2).drew.trans hFx; have hqx := TkM.q HS.out hM hFy; have hqx0 := two_cell0 hqx; have hqx1 := two_cell1 hqx; have hqxf := two_free hqx))
          clear kc0 kc1 kc2
          have hT := TkM.done HS.out hM hFy hRx (by omega) (by omega)
          go_split_ands
          generalize ((wy.setCell ⟨qb, 0, none⟩ (.slice a1 (n' - onN er (cN n' z' y)) c1)).setCell ⟨qb, 1, none⟩ (.int .i64 (onE er (cE n' z' y)))) = W3 at *
          clear hFx hFy hRx hqx hqx0 hqx1 hqxf hM HS hck hcm
          generalize n' - onN er (cN n' z' y) = n2 at *
          generalize onE er (cE n' z' y) = er2 at *
          generalize (fun j => z' (j + onN er (cN n' z' y))) = z2 at *
          go_wp2_with fail
          go_region_held3 (fun w' => TkS w w' r1 qb n2 z2 er2 a1 c1 ∧ w'.cell? ⟨qb, 0, none⟩ = some (.slice a1 n2 c1) ∧ w'.cell? ⟨qb, 1, none⟩ = some (.int .i64 er2))
            (first
              | exact TkS.ends hT (Below.refl _ _).drew
              | (go_split_ands; exact TkS.ends (w := w) (r1 := r1) (qb := qb) (n := n2) (z := z2) (er := er2) (aq := a1) (cq := c1) (by assumption) hbx)
              | (go_split_ands; refine TkS.ends (w := w) (r1 := r1) (qb := qb) (n := n2) (z := z2) (er := er2) (aq := a1) (cq := c1) ?_ (Below.refl _ _); assumption)
              | fail)
            (first
              | (go_at_call 17; go_split_ands; refine (num_any _ _ ?_).mono ?_; (exact TkS.glob (w := w) (r1 := r1) (qb := qb) (n := n2) (z := z2) (er := er2) (aq := a1) (cq := c1) (by assumption)); rintro e wx ⟨rfl, hbx⟩)
              | (go_at_call 18; go_split_ands; refine (done_any r1 n2 z2 er2 _ ?_).mono ?_; (exact TkS.rd (w := w) (r1 := r1) (qb := qb) (n := n2) (z := z2) (er := er2) (aq := a1) (cq := c1) (by assumption)); rintro e wx ⟨rfl, rfl⟩)
              | (go_at_call 20; go_split_ands; refine (left_any r1 n2 z2 er2 _ ?_).mono ?_; (exact TkS.rd (w := w) (r1 := r1) (qb := qb) (n := n2) (z := z2) (er := er2) (aq := a1) (cq := c1) (by assumption)); rintro e wx ⟨rfl, rfl⟩)
              | (go_at_call 19; refine (refDone_any _ _ _ _ _).mono ?_; rintro e wx ⟨rfl, hbx⟩))
          go_wp2_with fail
          go_split_ands
          refine ⟨⟨k + 1, n2, z2, er2, a1, c1, by omega, by omega, by go_num, by assumption⟩, by simp [intOf]; omega⟩
        · have hM := TkM.way2 (er1 := onE er (cE n' z' y)) hbx hc1 hs1
          go_split_ands
          generalize ((wx.setCell ⟨wr.heap.size, 0, none⟩ (.slice a1 (n' - onN er (cN n' z' y)) c1)).setCell ⟨wr.heap.size, 1, none⟩ (.int .i64 (onE er (cE n' z' y)))) = W2 at *
          generalize wr.heap.size = gb at hM ⊢
          clear hbx hs1 hq0 hq1 hv hv0 hv1 hvf
          go_wp2_with fail
          go_region_held3 (fun w' => w'.cell? ⟨gb, 0, none⟩ = some (.slice a1 (n' - onN er (cN n' z' y)) c1) ∧ w'.cell? ⟨gb, 1, none⟩ = some (.int .i64 (onE er (cE n' z' y))) ∧ w'.cell? ⟨b, off + k * 2 + 1, none⟩ = some (.int .i64 y))
            (first
              | exact TkM.keep HS.out hM hblt hcm (Frm.refl _ _).drew
              | exact TkM.keep HS.out hM hblt hcm (hFy.mono (by simp))
              | exact TkM.keep HS.out hM hblt hcm (((hFy.mono (by simp)).setCell _ _ (by simp)).setCell _ _ (by simp))
              | fail)
            (first | (go_at_call 12; refine (pCount r1 n' z' er _ _ HS.out.hn (by assumption) ((TkM.rd HS.out hM).below (Below.refl _ _).drew)).mono ?_; rintro e wy ⟨rfl, hFx, hRx⟩; have hFy : Frm [r1] W2 wy := (Frm.refl [r1] W2).drew.trans hFx; have hqx := TkM.q HS.out hM hFy; have hqx0 := two_cell0 hqx; have hqx1 := two_cell1 hqx; have hqxf := two_free hqx))
          clear kc0 kc1 kc2
          have hT := TkM.done HS.out hM hFy hRx (by omega) (by omega)
          go_split_ands
          generalize ((wy.setCell ⟨qb, 0, none⟩ (.slice a1 (n' - onN er (cN n' z' y)) c1)).setCell ⟨qb, 1, none⟩ (.int .i64 (onE er (cE n' z' y)))) = W3 at *
          clear hFx hFy hRx hqx hqx0 hqx1 hqxf hM HS hck hcm
          generalize n' - onN er (cN n' z' y) = n2 at *
          generalize onE er (cE n' z' y) = er2 at *
          generalize (fun j => z' (j + onN er (cN n' z' y))) = z2 at *
          go_wp2_with fail
          go_region_held3 (fun w' => TkS w w' r1 qb n2 z2 er2 a1 c1 ∧ w'.cell? ⟨qb, 0, none⟩ = some (.slice a1 n2 c1) ∧ w'.cell? ⟨qb, 1, none⟩ = some (.int .i64 er2))
            (first
              | exact TkS.ends hT (Below.refl _ _).drew
              | (go_split_ands; exact TkS.ends (w := w) (r1 := r1) (qb := qb) (n := n2) (z := z2) (er := er2) (aq := a1) (cq := c1) (by assumption) hbx)
              | (go_split_ands; refine TkS.ends (w := w) (r1 := r1) (qb := qb) (n := n2) (z := z2) (er := er2) (aq := a1) (cq := c1) ?_ (Below.refl _ _); assumption)
              | fail)
            (first
              | (go_at_call 17; go_split_ands; refine (num_any _ _ ?_).mono ?_; (exact TkS.glob (w := w) (r1 := r1) (qb := qb) (n := n2) (z := z2) (er := er2) (aq := a1) (cq := c1) (by assumption)); rintro e wx ⟨rfl, hbx⟩)
              | (go_at_call 18; go_split_ands; refine (done_any r1 n2 z2 er2 _ ?_).mono ?_; (exact TkS.rd (w := w) (r1 := r1) (qb := qb) (n := n2) (z := z2) (er := er2) (aq := a1) (cq := c1) (by assumption)); rintro e wx ⟨rfl, rfl⟩)
              | (go_at_call 20; go_split_ands; refine (left_any r1 n2 z2 er2 _ ?_).mono ?_; (exact TkS.rd (w := w) (r1 := r1) (qb := qb) (n := n2) (z := z2) (er := er2) (aq := a1) (cq := c1) (by assumption)); rintro e wx ⟨rfl, rfl⟩)
              | (go_at_call 19; refine (refDone_any _ _ _ _ _).mono ?_; rintro e wx ⟨rfl, hbx⟩))
          go_wp2_with fail
          go_split_ands
          refine ⟨⟨k + 1, n2, z2, er2, a1, c1, by omega, by omega, by go_num, by assumption⟩, by simp [intOf]; omega⟩
      · have kc0 : (wrap64 ((IntKind.u64.wrap x).tmod 5) == 0) = false := by simp [e]
        have kc1 : (wrap64 ((IntKind.u64.wrap x).tmod 5) == 1) = false := by simp [e]
        have kc2 : (wrap64 ((IntKind.u64.wrap x).tmod 5) == 2) = false := by simp [e]
        have kc3 : (wrap64 ((IntKind.u64.wrap x).tmod 5) == 3) = true := by simp [e]
        clear e
        go_wp2_with fail
        go_region_held3 (fun w' => Below wr.heap.size wr w' ∧ w'.cell? ⟨qb, 0, none⟩ = some (.slice aq n' cq) ∧ w'.cell? ⟨qb, 1, none⟩ = some (.int .i64 er) ∧ w'.cell? ⟨b, off + k * 2, none⟩ = some (.int .i64 x) ∧ w'.cell? ⟨b, off + k * 2 + 1, none⟩ = some (.int .i64 y))
          (first
            | exact TkS.keep HS.out hblt hck hcm ((Below.refl _ _).drew)
            | (go_split_ands; exact TkS.keep HS.out hblt hck hcm (Below.allocS (by assumption) _))
            | (go_split_ands; exact TkS.keep HS.out hblt hck hcm (Below.transS (by assumption) hbx))
            | (go_split_ands; exact TkS.keep HS.out hblt hck hcm (Below.allocS (Below.transS (Below.refl _ wr).drew hbx) _))
            | (go_split_ands; exact TkS.keep HS.out hblt hck hcm (Below.setCell (Below.setCell (Below.transS (Below.allocS (Below.refl _ wr) _).drew hbx) (by simp) _) (by simp) _))
            | (go_split_ands; refine TkS.keep HS.out hblt hck hcm ?_; assumption)
            | fail)
          (first | (go_at_call 13; go_split_ands; refine (dBytes aq n' cq er _ z' _ HS.out.hc HS.out.hn (HS.out.sl (by assumption))).mono ?_; rintro e wx ⟨a1, c1, ay, cy, rfl, hc1, hs1, hlY, hY, hnY, hfY, hbx⟩; (try (have hv := new_kept hbx; have hv0 := two_cell0 hv; have hv1 := two_cell1 hv; have hvf := two_free hv))))
        · have hY2 : SlAt (wx.alloc (.cells #[.slice a1 (n' - onN er (bR n' z' y).2.1) c1, .int .i64 (onE er (bR n' z' y).2.2)] 27)) ay (onL er (bR n' z' y).1).length (fn (onL er (bR n' z' y).1)) := hY.frm (S := []) ((Frm.refl _ wx).alloc _) (by simp)
          have hYb : ∀ a, ay = some a → wr.heap.size ≤ a.block := fun a ha => by have := hfY a ha; simp at this; omega
          have hM := TkM.way1 (er1 := onE er (bR n' z' y).2.2) hbx hc1 hs1
          go_split_ands
          generalize (wx.alloc (.cells #[.slice a1 (n' - onN er (bR n' z' y).2.1) c1, .int .i64 (onE er (bR n' z' y).2.2)] 27)) = W2 at *
          generalize wx.heap.size = gb at *
          clear hY hfY hbx hs1 hq0 hq1
          go_wp2_with fail
          have HY : Hid (SlAt W2 ay (onL er (bR n' z' y).1).length (fn (onL er (bR n' z' y).1)) ∧ (∀ a, ay = some a → wr.heap.size ≤ a.block)) := ⟨hY2, hYb⟩
          clear hY2 hYb
          refine wp_region_noPanic ?_
          refine wp_region_held_drew (S := (fun w' => w'.cell? ⟨gb, 0, none⟩ = some (.slice a1 (n' - onN er (bR n' z' y).2.1) c1) ∧ w'.cell? ⟨gb, 1, none⟩ = some (.int .i64 (onE er (bR n' z' y).2.2)) ∧ w'.cell? ⟨b, off + k * 2 + 1, none⟩ = some (.int .i64 y) ∧ (convert 22 9 (.slice ay (onL er (bR n' z' y).1).length cy)).run Tryd.prog w' = .ok (.string (strB (fn (onL er (bR n' z' y).1)) (onL er (bR n' z' y).1).length)) w')) (by kernel_rfl) (TkM.keepB HS.out hM hblt hcm HY.out hnY (Frm.refl _ _).drew) (fun hHeld => ?_)
          refine wpAnyH_take (i := 0) (oi := { dst := some 122, op := .load 27 (.tmp 15), type := 27, pos := "law.go:97", after := #[], guard := none }) (v := ?_) rfl (by kernel_rfl) (by kernel_rfl) (by kernel_rfl) (fun _ _ _ h => h) (Or.inl ⟨by rfl, ?_⟩) (by assumption) ?_
          rotate_left
          · intro wz hSw; (try dsimp only at hSw); go_simp; (try with_reducible rfl)
          try simp only [Act.put, List.setIfInBounds_toArray, List.set_cons_zero, List.set_cons_succ]
          refine wpAnyH_take (i := 1) (oi := { dst := some 123, op := .move (.tmp 5), type := 24, pos := "law.go:97", after := #[], guard := none }) (v := ?_) rfl (by kernel_rfl) (by kernel_rfl) (by kernel_rfl) (fun _ _ _ h => h) (Or.inl ⟨by rfl, ?_⟩) (by assumption) ?_
          rotate_left
          · intro wz hSw; (try dsimp only at hSw); go_simp; (try with_reducible rfl)
          try simp only [Act.put, List.setIfInBounds_toArray, List.set_cons_zero, List.set_cons_succ]
          refine wpAnyH_take (i := 2) (oi := { dst := some 124, op := .move (.tmp 1), type := 23, pos := "law.go:97", after := #[], guard := none }) (v := ?_) rfl (by kernel_rfl) (by kernel_rfl) (by kernel_rfl) (fun _ _ _ h => h) (Or.inl ⟨by rfl, ?_⟩) (by assumption) ?_
          rotate_left
          · intro wz hSw; (try dsimp only at hSw); go_simp; (try with_reducible rfl)
          try simp only [Act.put, List.setIfInBounds_toArray, List.set_cons_zero, List.set_cons_succ]
          refine wpAnyH_take (i := 3) (oi := { dst := some 125, op := .move (.tmp 7), type := 3, pos := "law.go:97", after := #[], guard := none }) (v := ?_) rfl (by kernel_rfl) (by kernel_rfl) (by kernel_rfl) (fun _ _ _ h => h) (Or.inl ⟨by rfl, ?_⟩) (by assumption) ?_
          rotate_left
          · intro wz hSw; (try dsimp only at hSw); go_simp; (try with_reducible rfl)
          try simp only [Act.put, List.setIfInBounds_toArray, List.set_cons_zero, List.set_cons_succ]
          refine wpAnyH_take (i := 4) (oi := { dst := some 126, op := .indexAddr 23 (.tmp 124) (.tmp 125), type := 0, pos := "law.go:97", after := #[{ on := 2, ground := .data }, { on := 3, ground := .data }], guard := none }) (v := ?_) rfl (by kernel_rfl) (by kernel_rfl) (by kernel_rfl) (fun _ _ _ h => h) (Or.inl ⟨by rfl, ?_⟩) (by assumption) ?_
          rotate_left
          · intro wz hSw; (try dsimp only at hSw); go_simp; (try with_reducible rfl)
          try simp only [Act.put, List.setIfInBounds_toArray, List.set_cons_zero, List.set_cons_succ]
          refine wpAnyH_take (i := 5) (oi := { dst := some 127, op := .fieldAddr 30 (.tmp 126) 1, type := 0, pos := "law.go:97", after := #[{ on := 4, ground := .data }], guard := none }) (v := ?_) rfl (by kernel_rfl) (by kernel_rfl) (by kernel_rfl) (fun _ _ _ h => h) (Or.inl ⟨by rfl, ?_⟩) (by assumption) ?_
          rotate_left
          · intro wz hSw; (try dsimp only at hSw); go_simp; (try with_reducible rfl)
          try simp only [Act.put, List.setIfInBounds_toArray, List.set_cons_zero, List.set_cons_succ]
          refine wpAnyH_take (i := 6) (oi := { dst := some 128, op := .load 3 (.tmp 127), type := 3, pos := "law.go:97", after := #[{ on := 5, ground := .data }], guard := none }) (v := ?_) rfl (by kernel_rfl) (by kernel_rfl) (by kernel_rfl) (fun _ _ _ h => h) (Or.inl ⟨by rfl, ?_⟩) (by assumption) ?_
          rotate_left
          · intro wz hSw; (try dsimp only at hSw); go_simp; (try with_reducible rfl)
          try simp only [Act.put, List.setIfInBounds_toArray, List.set_cons_zero, List.set_cons_succ]
          refine wpAnyH_take (i := 9) (oi := { dst := some 131, op := .move (.tmp 16), type := 22, pos := "law.go:97", after := #[{ on := 12, ground := .gcOnly .lateStores }], guard := none }) (v := ?_) rfl (by kernel_rfl) (by kernel_rfl) (by kernel_rfl) (fun _ _ _ h => h) (Or.inl ⟨by rfl, ?_⟩) (by assumption) ?_
          rotate_left
          · intro wz hSw; (try dsimp only at hSw); go_simp; (try with_reducible rfl)
          try simp only [Act.put, List.setIfInBounds_toArray, List.set_cons_zero, List.set_cons_succ]
          refine wpAnyH_take (i := 10) (oi := { dst := some 132, op := .convert 22 9 (.tmp 131), type := 9, pos := "law.go:97", after := #[{ on := 9, ground := .data }, { on := 12, ground := .gcOnly .lateStores }], guard := none }) (v := ?_) rfl (by kernel_rfl) (by kernel_rfl) (by kernel_rfl) (fun _ _ _ h => h) (Or.inl ⟨by rfl, ?_⟩) (by assumption) ?_
          rotate_left
          · intro wz hSw; (try dsimp only at hSw); go_simp; (try with_reducible rfl)
          try simp only [Act.put, List.setIfInBounds_toArray, List.set_cons_zero, List.set_cons_succ]
          refine wpAnyH_ready (rs := [7]) (by kernel_rfl) (by simp) ?_
          refine AllReadyH.cons (o := { dst := some 129, op := .call { callee := .value (.func 14), args := #[.tmp 123, .tmp 128], argTypes := #[24, 3] }, type := 22, pos := "law.go:97", after := #[{ on := 1, ground := .data }, { on := 6, ground := .data }], guard := none }) rfl (fun K hK => ?_) AllReadyH.nil
          go_simp
          refine (pBytes r1 n' z' er _ _ HS.out.hn ((TkM.rd HS.out hM).below (Below.refl _ _).drew)).mono ?_
          rintro e wy ⟨ax, cx, rfl, hO, hFx, hRx⟩
          have hFy : Frm [r1] W2 wy := (Frm.refl [r1] W2).drew.trans hFx
          have hqx := TkM.q HS.out hM hFy
          have hqx0 := two_cell0 hqx
          have hqx1 := two_cell1 hqx
          have hqxf := two_free hqx
          have hcv1 := conv_any ax _ cx _ wy hO.2.1 hO.2.2.1
          have hcv2 := conv_q (u := .slice a1 (n' - onN er (bR n' z' y).2.1) c1) (v := .int .i64 (onE er (bR n' z' y).2.2)) hO.2.1 hO.2.2.1 hqx
          clear hO
          have hS1 := TkM.keepB HS.out hM hblt hcm HY.out hnY (hFy.mono (T := [r1, qb]) (by simp))
          have hS2 := TkM.keepB HS.out hM hblt hcm HY.out hnY ((((hFy.mono (T := [r1, qb]) (by simp)).setCell ⟨qb, 0, none⟩ (.slice a1 (n' - onN er (bR n' z' y).2.1) c1) (by simp)).setCell ⟨qb, 1, none⟩ (.int .i64 (onE er (bR n' z' y).2.2)) (by simp)))
          refine hK.out _ _ hS1 (fun _ => ?_)
          clear hK K
          try simp only [Act.put, List.setIfInBounds_toArray, List.set_cons_zero, List.set_cons_succ]
          refine wpAnyH_ready (rs := [8, 12]) (by kernel_rfl) (by simp) ?_
          refine AllReadyH.cons (o := { dst := some 130, op := .convert 22 9 (.tmp 129), type := 9, pos := "law.go:97", after := #[{ on := 7, ground := .data }, { on := 12, ground := .gcOnly .lateStores }], guard := none }) rfl (fun K hK => ?_) (AllReadyH.cons (o := { dst := none, op := .store 27 (.tmp 6) (.tmp 122), type := 0, pos := "law.go:97", after := #[{ on := 0, ground := .data }, { on := 7, ground := .chain }, { on := 0, ground := .phase }, { on := 1, ground := .textOnly .lateStores }, { on := 2, ground := .textOnly .lateStores }, { on := 3, ground := .textOnly .lateStores }, { on := 4, ground := .textOnly .lateStores }, { on := 5, ground := .textOnly .lateStores }, { on := 6, ground := .textOnly .lateStores }, { on := 7, ground := .textOnly .lateStoresUnsure }, { on := 8, ground := .textOnly .lateStores }, { on := 9, ground := .textOnly .lateStores }, { on := 10, ground := .textOnly .lateStores }, { on := 11, ground := .textOnly .lateStores }], guard := none }) rfl (fun K hK => ?_) AllReadyH.nil)
          · go_simp
            refine hK.out _ _ hS1 (fun _ => ?_)
            clear hK K
            try simp only [Act.put, List.setIfInBounds_toArray, List.set_cons_zero, List.set_cons_succ]
            refine wpAnyH_take (i := 11) (oi := { dst := some 133, op := .binOp .eql 9 (.tmp 130) (.tmp 132) 9, type := 4, pos := "law.go:97", after := #[{ on := 8, ground := .data }, { on := 10, ground := .data }, { on := 12, ground := .gcOnly .lateStores }], guard := none }) (v := ?_) rfl (by kernel_rfl) (by kernel_rfl) (by kernel_rfl) (fun _ _ _ h => h) (Or.inl ⟨by rfl, ?_⟩) (by assumption) ?_
            rotate_left
            · intro wz hSw; (try dsimp only at hSw); go_simp; (try with_reducible rfl)
            try simp only [Act.put, List.setIfInBounds_toArray, List.set_cons_zero, List.set_cons_succ]
            refine wpAnyH_ready (rs := [12]) (by kernel_rfl) (by simp) ?_
            refine AllReadyH.cons (o := { dst := none, op := .store 27 (.tmp 6) (.tmp 122), type := 0, pos := "law.go:97", after := #[{ on := 0, ground := .data }, { on := 7, ground := .chain }, { on := 0, ground := .phase }, { on := 1, ground := .textOnly .lateStores }, { on := 2, ground := .textOnly .lateStores }, { on := 3, ground := .textOnly .lateStores }, { on := 4, ground := .textOnly .lateStores }, { on := 5, ground := .textOnly .lateStores }, { on := 6, ground := .textOnly .lateStores }, { on := 7, ground := .textOnly .lateStoresUnsure }, { on := 8, ground := .textOnly .lateStores }, { on := 9, ground := .textOnly .lateStores }, { on := 10, ground := .textOnly .lateStores }, { on := 11, ground := .textOnly .lateStores }], guard := none }) rfl (fun K hK => ?_) AllReadyH.nil
            go_simp
            refine hK.out _ _ hS2 (fun _ => ?_)
            clear hK K
            try simp only [Act.put, List.setIfInBounds_toArray, List.set_cons_zero, List.set_cons_succ]
            refine wpAnyH_take (i := 13) (oi := { dst := some 8, op := .assign (.tmp 133), type := 4, pos := "law.go:97", after := #[{ on := 11, ground := .data }, { on := 12, ground := .chain }, { on := 0, ground := .phase }, { on := 1, ground := .phase }, { on := 2, ground := .phase }, { on := 3, ground := .phase }, { on := 4, ground := .phase }, { on := 5, ground := .phase }, { on := 6, ground := .phase }, { on := 7, ground := .phase }, { on := 8, ground := .phase }, { on := 9, ground := .phase }, { on := 10, ground := .phase }, { on := 11, ground := .phase }, { on := 12, ground := .phase }], guard := none }) (v := ?_) rfl (by kernel_rfl) (by kernel_rfl) (by kernel_rfl) (fun _ _ _ h => h) (Or.inl ⟨by rfl, ?_⟩) (by assumption) ?_
            rotate_left
            · intro wz hSw; (try dsimp only at hSw); go_simp; (try with_reducible rfl)
            try simp only [Act.put, List.setIfInBounds_toArray, List.set_cons_zero, List.set_cons_succ]
            refine wpAnyH_done (by kernel_rfl) (NoPanic.normal ?_) _
            (try simp only [Act.put, List.setIfInBounds_toArray, List.set_cons_zero, List.set_cons_succ])
            clear hcv1 hcv2 HY hnY hlY kc0 kc1 kc2 kc3 hS1 hS2
            have hT := TkM.done HS.out hM hFy hRx (by omega) (by omega)
            go_split_ands
            generalize ((wy.setCell ⟨qb, 0, none⟩ (.slice a1 (n' - onN er (bR n' z' y).2.1) c1)).setCell ⟨qb, 1, none⟩ (.int .i64 (onE er (bR n' z' y).2.2))) = W3 at *
            clear hFx hFy hRx hqx hqx0 hqx1 hqxf hM HS hck hcm
            generalize n' - onN er (bR n' z' y).2.1 = n2 at *
            generalize onE er (bR n' z' y).2.2 = er2 at *
            generalize (fun j => z' (j + onN er (bR n' z' y).2.1)) = z2 at *
            go_wp2_with fail
            go_region_held3 (fun w' => TkS w w' r1 qb n2 z2 er2 a1 c1 ∧ w'.cell? ⟨qb, 0, none⟩ = some (.slice a1 n2 c1) ∧ w'.cell? ⟨qb, 1, none⟩ = some (.int .i64 er2))
              (first
                | exact TkS.ends hT (Below.refl _ _).drew
                | (go_split_ands; exact TkS.ends (w := w) (r1 := r1) (qb := qb) (n := n2) (z := z2) (er := er2) (aq := a1) (cq := c1) (by assumption) hbx)
                | (go_split_ands; refine TkS.ends (w := w) (r1 := r1) (qb := qb) (n := n2) (z := z2) (er := er2) (aq := a1) (cq := c1) ?_ (Below.refl _ _); assumption)
                | fail)
              (first
                | (go_at_call 17; go_split_ands; refine (num_any _ _ ?_).mono ?_; (exact TkS.glob (w := w) (r1 := r1) (qb := qb) (n := n2) (z := z2) (er := er2) (aq := a1) (cq := c1) (by assumption)); rintro e wx ⟨rfl, hbx⟩)
                | (go_at_call 18; go_split_ands; refine (done_any r1 n2 z2 er2 _ ?_).mono ?_; (exact TkS.rd (w := w) (r1 := r1) (qb := qb) (n := n2) (z := z2) (er := er2) (aq := a1) (cq := c1) (by assumption)); rintro e wx ⟨rfl, rfl⟩)
                | (go_at_call 20; go_split_ands; refine (left_any r1 n2 z2 er2 _ ?_).mono ?_; (exact TkS.rd (w := w) (r1 := r1) (qb := qb) (n := n2) (z := z2) (er := er2) (aq := a1) (cq := c1) (by assumption)); rintro e wx ⟨rfl, rfl⟩)
                | (go_at_call 19; refine (refDone_any _ _ _ _ _).mono ?_; rintro e wx ⟨rfl, hbx⟩))
            go_wp2_with fail
            go_split_ands
            refine ⟨⟨k + 1, n2, z2, er2, a1, c1, by omega, by omega, by go_num, by assumption⟩, by simp [intOf]; omega⟩
          · go_simp
            refine hK.out _ _ hS2 (fun _ => ?_)
            clear hK K
            try simp only [Act.put, List.setIfInBounds_toArray, List.set_cons_zero, List.set_cons_succ]
            refine wpAnyH_ready (rs := [8]) (by kernel_rfl) (by simp) ?_
            refine AllReadyH.cons (o := { dst := some 130, op := .convert 22 9 (.tmp 129), type := 9, pos := "law.go:97", after := #[{ on := 7, ground := .data }, { on := 12, ground := .gcOnly .lateStores }], guard := none }) rfl (fun K hK => ?_) AllReadyH.nil
            go_simp
            refine hK.out _ _ hS2 (fun _ => ?_)
            clear hK K
            try simp only [Act.put, List.setIfInBounds_toArray, List.set_cons_zero, List.set_cons_succ]
            refine wpAnyH_take (i := 11) (oi := { dst := some 133, op := .binOp .eql 9 (.tmp 130) (.tmp 132) 9, type := 4, pos := "law.go:97", after := #[{ on := 8, ground := .data }, { on := 10, ground := .data }, { on := 12, ground := .gcOnly .lateStores }], guard := none }) (v := ?_) rfl (by kernel_rfl) (by kernel_rfl) (by kernel_rfl) (fun _ _ _ h => h) (Or.inl ⟨by rfl, ?_⟩) (by assumption) ?_
            rotate_left
            · intro wz hSw; (try dsimp only at hSw); go_simp; (try with_reducible rfl)
            try simp only [Act.put, List.setIfInBounds_toArray, List.set_cons_zero, List.set_cons_succ]
            refine wpAnyH_take (i := 13) (oi := { dst := some 8, op := .assign (.tmp 133), type := 4, pos := "law.go:97", after := #[{ on := 11, ground := .data }, { on := 12, ground := .chain }, { on := 0, ground := .phase }, { on := 1, ground := .phase }, { on := 2, ground := .phase }, { on := 3, ground := .phase }, { on := 4, ground := .phase }, { on := 5, ground := .phase }, { on := 6, ground := .phase }, { on := 7, ground := .phase }, { on := 8, ground := .phase }, { on := 9, ground := .phase }, { on := 10, ground := .phase }, { on := 11, ground := .phase }, { on := 12, ground := .phase }], guard := none }) (v := ?_) rfl (by kernel_rfl) (by kernel_rfl) (by kernel_rfl) (fun _ _ _ h => h) (Or.inl ⟨by rfl, ?_⟩) (by assumption) ?_
            rotate_left
            · intro wz hSw; (try dsimp only at hSw); go_simp; (try with_reducible rfl)
            try simp only [Act.put, List.setIfInBounds_toArray, List.set_cons_zero, List.set_cons_succ]
            refine wpAnyH_done (by kernel_rfl) (NoPanic.normal ?_) _
            (try simp only [Act.put, List.setIfInBounds_toArray, List.set_cons_zero, List.set_cons_succ])
            clear hcv1 hcv2 HY hnY hlY kc0 kc1 kc2 kc3 hS1 hS2
            have hT := TkM.done HS.out hM hFy hRx (by omega) (by omega)
            go_split_ands
            generalize ((wy.setCell ⟨qb, 0, none⟩ (.slice a1 (n' - onN er (bR n' z' y).2.1) c1)).setCell ⟨qb, 1, none⟩ (.int .i64 (onE er (bR n' z' y).2.2))) = W3 at *
            clear hFx hFy hRx hqx hqx0 hqx1 hqxf hM HS hck hcm
            generalize n' - onN er (bR n' z' y).2.1 = n2 at *
            generalize onE er (bR n' z' y).2.2 = er2 at *
            generalize (fun j => z' (j + onN er (bR n' z' y).2.1)) = z2 at *
            go_wp2_with fail
            go_region_held3 (fun w' => TkS w w' r1 qb n2 z2 er2 a1 c1 ∧ w'.cell? ⟨qb, 0, none⟩ = some (.slice a1 n2 c1) ∧ w'.cell? ⟨qb, 1, none⟩ = some (.int .i64 er2))
              (first
                | exact TkS.ends hT (Below.refl _ _).drew
                | (go_split_ands; exact TkS.ends (w := w) (r1 := r1) (qb := qb) (n := n2) (z := z2) (er := er2) (aq := a1) (cq := c1) (by assumption) hbx)
                | (go_split_ands; refine TkS.ends (w := w) (r1 := r1) (qb := qb) (n := n2) (z := z2) (er := er2) (aq := a1) (cq := c1) ?_ (Below.refl _ _); assumption)
                | fail)
              (first
                | (go_at_call 17; go_split_ands; refine (num_any _ _ ?_).mono ?_; (exact TkS.glob (w := w) (r1 := r1) (qb := qb) (n := n2) (z := z2) (er := er2) (aq := a1) (cq := c1) (by assumption)); rintro e wx ⟨rfl, hbx⟩)
                | (go_at_call 18; go_split_ands; refine (done_any r1 n2 z2 er2 _ ?_).mono ?_; (exact TkS.rd (w := w) (r1 := r1) (qb := qb) (n := n2) (z := z2) (er := er2) (aq := a1) (cq := c1) (by assumption)); rintro e wx ⟨rfl, rfl⟩)
                | (go_at_call 20; go_split_ands; refine (left_any r1 n2 z2 er2 _ ?_).mono ?_; (exact TkS.rd (w := w) (r1 := r1) (qb := qb) (n := n2) (z := z2) (er := er2) (aq := a1) (cq := c1) (by assumption)); rintro e wx ⟨rfl, rfl⟩)
                | (go_at_call 19; refine (refDone_any _ _ _ _ _).mono ?_; rintro e wx ⟨rfl, hbx⟩))
            go_wp2_with fail
            go_split_ands
            refine ⟨⟨k + 1, n2, z2, er2, a1, c1, by omega, by omega, by go_num, by assumption⟩, by simp [intOf]; omega⟩
        · have hY2 : SlAt ((wx.setCell ⟨wr.heap.size, 0, none⟩ (.slice a1 (n' - onN er (bR n' z' y).2.1) c1)).setCell ⟨wr.heap.size, 1, none⟩ (.int .i64 (onE er (bR n' z' y).2.2))) ay (onL er (bR n' z' y).1).length (fn (onL er (bR n' z' y).1)) := hY.frm (((Frm.refl [wr.heap.size] wx).setCell _ _ (by simp)).setCell _ _ (by simp)) (fun b' off' hn' e' => by simpa using hY.ne_q hv hn' e')
          have hYb : ∀ a, ay = some a → wr.heap.size ≤ a.block := fun a ha => by have := hfY a ha; simp at this; omega
          have hM := TkM.way2 (er1 := onE er (bR n' z' y).2.2) hbx hc1 hs1
          go_split_ands
          generalize ((wx.setCell ⟨wr.heap.size, 0, none⟩ (.slice a1 (n' - onN er (bR n' z' y).2.1) c1)).setCell ⟨wr.heap.size, 1, none⟩ (.int .i64 (onE er (bR n' z' y).2.2))) = W2 at *
          generalize wr.heap.size = gb at hM ⊢
          clear hY hfY hbx hs1 hq0 hq1 hv hv0 hv1 hvf
          go_wp2_with fail
          have HY : Hid (SlAt W2 ay (onL er (bR n' z' y).1).length (fn (onL er (bR n' z' y).1)) ∧ (∀ a, ay = some a → wr.heap.size ≤ a.block)) := ⟨hY2, hYb⟩
          clear hY2 hYb
          refine wp_region_noPanic ?_
          refine wp_region_held_drew (S := (fun w' => w'.cell? ⟨gb, 0, none⟩ = some (.slice a1 (n' - onN er (bR n' z' y).2.1) c1) ∧ w'.cell? ⟨gb, 1, none⟩ = some (.int .i64 (onE er (bR n' z' y).2.2)) ∧ w'.cell? ⟨b, off + k * 2 + 1, none⟩ = some (.int .i64 y) ∧ (convert 22 9 (.slice ay (onL er (bR n' z' y).1).length cy)).run Tryd.prog w' = .ok (.string (strB (fn (onL er (bR n' z' y).1)) (onL er (bR n' z' y).1).length)) w')) (by kernel_rfl) (TkM.keepB HS.out hM hblt hcm HY.out hnY (Frm.refl _ _).drew) (fun hHeld => ?_)
          refine wpAnyH_take (i := 0) (oi := { dst := some 122, op := .load 27 (.tmp 15), type := 27, pos := "law.go:97", after := #[], guard := none }) (v := ?_) rfl (by kernel_rfl) (by kernel_rfl) (by kernel_rfl) (fun _ _ _ h => h) (Or.inl ⟨by rfl, ?_⟩) (by assumption) ?_
          rotate_left
          · intro wz hSw; (try dsimp only at hSw); go_simp; (try with_reducible rfl)
          try simp only [Act.put, List.setIfInBounds_toArray, List.set_cons_zero, List.set_cons_succ]
          refine wpAnyH_take (i := 1) (oi := { dst := some 123, op := .move (.tmp 5), type := 24, pos := "law.go:97", after := #[], guard := none }) (v := ?_) rfl (by kernel_rfl) (by kernel_rfl) (by kernel_rfl) (fun _ _ _ h => h) (Or.inl ⟨by rfl, ?_⟩) (by assumption) ?_
          rotate_left
          · intro wz hSw; (try dsimp only at hSw); go_simp; (try with_reducible rfl)
          try simp only [Act.put, List.setIfInBounds_toArray, List.set_cons_zero, List.set_cons_succ]
          refine wpAnyH_take (i := 2) (oi := { dst := some 124, op := .move (.tmp 1), type := 23, pos := "law.go:97", after := #[], guard := none }) (v := ?_) rfl (by kernel_rfl) (by kernel_rfl) (by kernel_rfl) (fun _ _ _ h => h) (Or.inl ⟨by rfl, ?_⟩) (by assumption) ?_
          rotate_left
          · intro wz hSw; (try dsimp only at hSw); go_simp; (try with_reducible rfl)
          try simp only [Act.put, List.setIfInBounds_toArray, List.set_cons_zero, List.set_cons_succ]
          refine wpAnyH_take (i := 3) (oi := { dst := some 125, op := .move (.tmp 7), type := 3, pos := "law.go:97", after := #[], guard := none }) (v := ?_) rfl (by kernel_rfl) (by kernel_rfl) (by kernel_rfl) (fun _ _ _ h => h) (Or.inl ⟨by rfl, ?_⟩) (by assumption) ?_
          rotate_left
          · intro wz hSw; (try dsimp only at hSw); go_simp; (try with_reducible rfl)
          try simp only [Act.put, List.setIfInBounds_toArray, List.set_cons_zero, List.set_cons_succ]
          refine wpAnyH_take (i := 4) (oi := { dst := some 126, op := .indexAddr 23 (.tmp 124) (.tmp 125), type := 0, pos := "law.go:97", after := #[{ on := 2, ground := .data }, { on := 3, ground := .data }], guard := none }) (v := ?_) rfl (by kernel_rfl) (by kernel_rfl) (by kernel_rfl) (fun _ _ _ h => h) (Or.inl ⟨by rfl, ?_⟩) (by assumption) ?_
          rotate_left
          · intro wz hSw; (try dsimp only at hSw); go_simp; (try with_reducible rfl)
          try simp only [Act.put, List.setIfInBounds_toArray, List.set_cons_zero, List.set_cons_succ]
          refine wpAnyH_take (i := 5) (oi := { dst := some 127, op := .fieldAddr 30 (.tmp 126) 1, type := 0, pos := "law.go:97", after := #[{ on := 4, ground := .data }], guard := none }) (v := ?_) rfl (by kernel_rfl) (by kernel_rfl) (by kernel_rfl) (fun _ _ _ h => h) (Or.inl ⟨by rfl, ?_⟩) (by assumption) ?_
          rotate_left
          · intro wz hSw; (try dsimp only at hSw); go_simp; (try with_reducible rfl)
          try simp only [Act.put, List.setIfInBounds_toArray, List.set_cons_zero, List.set_cons_succ]
          refine wpAnyH_take (i := 6) (oi := { dst := some 128, op := .load 3 (.tmp 127), type := 3, pos := "law.go:97", after := #[{ on := 5, ground := .data }], guard := none }) (v := ?_) rfl (by kernel_rfl) (by kernel_rfl) (by kernel_rfl) (fun _ _ _ h => h) (Or.inl ⟨by rfl, ?_⟩) (by assumption) ?_
          rotate_left
          · intro wz hSw; (try dsimp only at hSw); go_simp; (try with_reducible rfl)
          try simp only [Act.put, List.setIfInBounds_toArray, List.set_cons_zero, List.set_cons_succ]
          refine wpAnyH_take (i := 9) (oi := { dst := some 131, op := .move (.tmp 16), type := 22, pos := "law.go:97", after := #[{ on := 12, ground := .gcOnly .lateStores }], guard := none }) (v := ?_) rfl (by kernel_rfl) (by kernel_rfl) (by kernel_rfl) (fun _ _ _ h => h) (Or.inl ⟨by rfl, ?_⟩) (by assumption) ?_
          rotate_left
          · intro wz hSw; (try dsimp only at hSw); go_simp; (try with_reducible rfl)
          try simp only [Act.put, List.setIfInBounds_toArray, List.set_cons_zero, List.set_cons_succ]
          refine wpAnyH_take (i := 10) (oi := { dst := some 132, op := .convert 22 9 (.tmp 131), type := 9, pos := "law.go:97", after := #[{ on := 9, ground := .data }, { on := 12, ground := .gcOnly .lateStores }], guard := none }) (v := ?_) rfl (by kernel_rfl) (by kernel_rfl) (by kernel_rfl) (fun _ _ _ h => h) (Or.inl ⟨by rfl, ?_⟩) (by assumption) ?_
          rotate_left
          · intro wz hSw; (try dsimp only at hSw); go_simp; (try with_reducible rfl)
          try simp only [Act.put, List.setIfInBounds_toArray, List.set_cons_zero, List.set_cons_succ]
          refine wpAnyH_ready (rs := [7]) (by kernel_rfl) (by simp) ?_
          refine AllReadyH.cons (o := { dst := some 129, op := .call { callee := .value (.func 14), args := #[.tmp 123, .tmp 128], argTypes := #[24, 3] }, type := 22, pos := "law.go:97", after := #[{ on := 1, ground := .data }, { on := 6, ground := .data }], guard := none }) rfl (fun K hK => ?_) AllReadyH.nil
          go_simp
          refine (pBytes r1 n' z' er _ _ HS.out.hn ((TkM.rd HS.out hM).below (Below.refl _ _).drew)).mono ?_
          rintro e wy ⟨ax, cx, rfl, hO, hFx, hRx⟩
          have hFy : Frm [r1] W2 wy := (Frm.refl [r1] W2).drew.trans hFx
          have hqx := TkM.q HS.out hM hFy
          have hqx0 := two_cell0 hqx
          have hqx1 := two_cell1 hqx
          have hqxf := two_free hqx
          have hcv1 := conv_any ax _ cx _ wy hO.2.1 hO.2.2.1
          have hcv2 := conv_q (u := .slice a1 (n' - onN er (bR n' z' y).2.1) c1) (v := .int .i64 (onE er (bR n' z' y).2.2)) hO.2.1 hO.2.2.1 hqx
          clear hO
          have hS1 := TkM.keepB HS.out hM hblt hcm HY.out hnY (hFy.mono (T := [r1, qb]) (by simp))
          have hS2 := TkM.keepB HS.out hM hblt hcm HY.out hnY ((((hFy.mono (T := [r1, qb]) (by simp)).setCell ⟨qb, 0, none⟩ (.slice a1 (n' - onN er (bR n' z' y).2.1) c1) (by simp)).setCell ⟨qb, 1, none⟩ (.int .i64 (onE er (bR n' z' y).2.2)) (by simp)))
          refine hK.out _ _ hS1 (fun _ => ?_)
          clear hK K
          try simp only [Act.put, List.setIfInBounds_toArray, List.set_cons_zero, List.set_cons_succ]
          refine wpAnyH_ready (rs := [8, 12]) (by kernel_rfl) (by simp) ?_
          refine AllReadyH.cons (o := { dst := some 130, op := .convert 22 9 (.tmp 129), type := 9, pos := "law.go:97", after := #[{ on := 7, ground := .data }, { on := 12, ground := .gcOnly .lateStores }], guard := none }) rfl (fun K hK => ?_) (AllReadyH.cons (o := { dst := none, op := .store 27 (.tmp 6) (.tmp 122), type := 0, pos := "law.go:97", after := #[{ on := 0, ground := .data }, { on := 7, ground := .chain }, { on := 0, ground := .phase }, { on := 1, ground := .textOnly .lateStores }, { on := 2, ground := .textOnly .lateStores }, { on := 3, ground := .textOnly .lateStores }, { on := 4, ground := .textOnly .lateStores }, { on := 5, ground := .textOnly .lateStores }, { on := 6, ground := .textOnly .lateStores }, { on := 7, ground := .textOnly .lateStoresUnsure }, { on := 8, ground := .textOnly .lateStores }, { on := 9, ground := .textOnly .lateStores }, { on := 10, ground := .textOnly .lateStores }, { on := 11, ground := .textOnly .lateStores }], guard := none }) rfl (fun K hK => ?_) AllReadyH.nil)
          · go_simp
            refine hK.out _ _ hS1 (fun _ => ?_)
            clear hK K
            try simp only [Act.put, List.setIfInBounds_toArray, List.set_cons_zero, List.set_cons_succ]
            refine wpAnyH_take (i := 11) (oi := { dst := some 133, op := .binOp .eql 9 (.tmp 130) (.tmp 132) 9, type := 4, pos := "law.go:97", after := #[{ on := 8, ground := .data }, { on := 10, ground := .data }, { on := 12, ground := .gcOnly .lateStores }], guard := none }) (v := ?_) rfl (by kernel_rfl) (by kernel_rfl) (by kernel_rfl) (fun _ _ _ h => h) (Or.inl ⟨by rfl, ?_⟩) (by assumption) ?_
            rotate_left
            · intro wz hSw; (try dsimp only at hSw); go_simp; (try with_reducible rfl)
            try simp only [Act.put, List.setIfInBounds_toArray, List.set_cons_zero, List.set_cons_succ]
            refine wpAnyH_ready (rs := [12]) (by kernel_rfl) (by simp) ?_
            refine AllReadyH.cons (o := { dst := none, op := .store 27 (.tmp 6) (.tmp 122), type := 0, pos := "law.go:97", after := #[{ on := 0, ground := .data }, { on := 7, ground := .chain }, { on := 0, ground := .phase }, { on := 1, ground := .textOnly .lateStores }, { on := 2, ground := .textOnly .lateStores }, { on := 3, ground := .textOnly .lateStores }, { on := 4, ground := .textOnly .lateStores }, { on := 5, ground := .textOnly .lateStores }, { on := 6, ground := .textOnly .lateStores }, { on := 7, ground := .textOnly .lateStoresUnsure }, { on := 8, ground := .textOnly .lateStores }, { on := 9, ground := .textOnly .lateStores }, { on := 10, ground := .textOnly .lateStores }, { on := 11, ground := .textOnly .lateStores }], guard := none }) rfl (fun K hK => ?_) AllReadyH.nil
            go_simp
            refine hK.out _ _ hS2 (fun _ => ?_)
            clear hK K
            try simp only [Act.put, List.setIfInBounds_toArray, List.set_cons_zero, List.set_cons_succ]
            refine wpAnyH_take (i := 13) (oi := { dst := some 8, op := .assign (.tmp 133), type := 4, pos := "law.go:97", after := #[{ on := 11, ground := .data }, { on := 12, ground := .chain }, { on := 0, ground := .phase }, { on := 1, ground := .phase }, { on := 2, ground := .phase }, { on := 3, ground := .phase }, { on := 4, ground := .phase }, { on := 5, ground := .phase }, { on := 6, ground := .phase }, { on := 7, ground := .phase }, { on := 8, ground := .phase }, { on := 9, ground := .phase }, { on := 10, ground := .phase }, { on := 11, ground := .phase }, { on := 12, ground := .phase }], guard := none }) (v := ?_) rfl (by kernel_rfl) (by kernel_rfl) (by kernel_rfl) (fun _ _ _ h => h) (Or.inl ⟨by rfl, ?_⟩) (by assumption) ?_
            rotate_left
            · intro wz hSw; (try dsimp only at hSw); go_simp; (try with_reducible rfl)
            try simp only [Act.put, List.setIfInBounds_toArray, List.set_cons_zero, List.set_cons_succ]
            refine wpAnyH_done (by kernel_rfl) (NoPanic.normal ?_) _
            (try simp only [Act.put, List.setIfInBounds_toArray, List.set_cons_zero, List.set_cons_succ])
            clear hcv1 hcv2 HY hnY hlY kc0 kc1 kc2 kc3 hS1 hS2
            have hT := TkM.done HS.out hM hFy hRx (by omega) (by omega)
            go_split_ands
            generalize ((wy.setCell ⟨qb, 0, none⟩ (.slice a1 (n' - onN er (bR n' z' y).2.1) c1)).setCell ⟨qb, 1, none⟩ (.int .i64 (onE er (bR n' z' y).2.2))) = W3 at *
            clear hFx hFy hRx hqx hqx0 hqx1 hqxf hM HS hck hcm
            generalize n' - onN er (bR n' z' y).2.1 = n2 at *
            generalize onE er (bR n' z' y).2.2 = er2 at *
            generalize (fun j => z' (j + onN er (bR n' z' y).2.1)) = z2 at *
            go_wp2_with fail
            go_region_held3 (fun w' => TkS w w' r1 qb n2 z2 er2 a1 c1 ∧ w'.cell? ⟨qb, 0, none⟩ = some (.slice a1 n2 c1) ∧ w'.cell? ⟨qb, 1, none⟩ = some (.int .i64 er2))
              (first
                | exact TkS.ends hT (Below.refl _ _).drew
                | (go_split_ands; exact TkS.ends (w := w) (r1 := r1) (qb := qb) (n := n2) (z := z2) (er := er2) (aq := a1) (cq := c1) (by assumption) hbx)
                | (go_split_ands; refine TkS.ends (w := w) (r1 := r1) (qb := qb) (n := n2) (z := z2) (er := er2) (aq := a1) (cq := c1) ?_ (Below.refl _ _); assumption)
                | fail)
              (first
                | (go_at_call 17; go_split_ands; refine (num_any _ _ ?_).mono ?_; (exact TkS.glob (w := w) (r1 := r1) (qb := qb) (n := n2) (z := z2) (er := er2) (aq := a1) (cq := c1) (by assumption)); rintro e wx ⟨rfl, hbx⟩)
                | (go_at_call 18; go_split_ands; refine (done_any r1 n2 z2 er2 _ ?_).mono ?_; (exact TkS.rd (w := w) (r1 := r1) (qb := qb) (n := n2) (z := z2) (er := er2) (aq := a1) (cq := c1) (by assumption)); rintro e wx ⟨rfl, rfl⟩)
                | (go_at_call 20; go_split_ands; refine (left_any r1 n2 z2 er2 _ ?_).mono ?_; (exact TkS.rd (w := w) (r1 := r1) (qb := qb) (n := n2) (z := z2) (er := er2) (aq := a1) (cq := c1) (by assumption)); rintro e wx ⟨rfl, rfl⟩)
                | (go_at_call 19; refine (refDone_any _ _ _ _ _).mono ?_; rintro e wx ⟨rfl, hbx⟩))
            go_wp2_with fail
            go_split_ands
            refine ⟨⟨k + 1, n2, z2, er2, a1, c1, by omega, by omega, by go_num, by assumption⟩, by simp [intOf]; omega⟩
          · go_simp
            refine hK.out _ _ hS2 (fun _ => ?_)
            clear hK K
            try simp only [Act.put, List.setIfInBounds_toArray, List.set_cons_zero, List.set_cons_succ]
            refine wpAnyH_ready (rs := [8]) (by kernel_rfl) (by simp) ?_
            refine AllReadyH.cons (o := { dst := some 130, op := .convert 22 9 (.tmp 129), type := 9, pos := "law.go:97", after := #[{ on := 7, ground := .data }, { on := 12, ground := .gcOnly .lateStores }], guard := none }) rfl (fun K hK => ?_) AllReadyH.nil
            go_simp
            refine hK.out _ _ hS2 (fun _ => ?_)
            clear hK K
            try simp only [Act.put, List.setIfInBounds_toArray, List.set_cons_zero, List.set_cons_succ]
            refine wpAnyH_take (i := 11) (oi := { dst := some 133, op := .binOp .eql 9 (.tmp 130) (.tmp 132) 9, type := 4, pos := "law.go:97", after := #[{ on := 8, ground := .data }, { on := 10, ground := .data }, { on := 12, ground := .gcOnly .lateStores }], guard := none }) (v := ?_) rfl (by kernel_rfl) (by kernel_rfl) (by kernel_rfl) (fun _ _ _ h => h) (Or.inl ⟨by rfl, ?_⟩) (by assumption) ?_
            rotate_left
            · intro wz hSw; (try dsimp only at hSw); go_simp; (try with_reducible rfl)
            try simp only [Act.put, List.setIfInBounds_toArray, List.set_cons_zero, List.set_cons_succ]
            refine wpAnyH_take (i := 13) (oi := { dst := some 8, op := .assign (.tmp 133), type := 4, pos := "law.go:97", after := #[{ on := 11, ground := .data }, { on := 12, ground := .chain }, { on := 0, ground := .phase }, { on := 1, ground := .phase }, { on := 2, ground := .phase }, { on := 3, ground := .phase }, { on := 4, ground := .phase }, { on := 5, ground := .phase }, { on := 6, ground := .phase }, { on := 7, ground := .phase }, { on := 8, ground := .phase }, { on := 9, ground := .phase }, { on := 10, ground := .phase }, { on := 11, ground := .phase }, { on := 12, ground := .phase }], guard := none }) (v := ?_) rfl (by kernel_rfl) (by kernel_rfl) (by kernel_rfl) (fun _ _ _ h => h) (Or.inl ⟨by rfl, ?_⟩) (by assumption) ?_
            rotate_left
            · intro wz hSw; (try dsimp only at hSw); go_simp; (try with_reducible rfl)
            try simp only [Act.put, List.setIfInBounds_toArray, List.set_cons_zero, List.set_cons_succ]
            refine wpAnyH_done (by kernel_rfl) (NoPanic.normal ?_) _
            (try simp only [Act.put, List.setIfInBounds_toArray, List.set_cons_zero, List.set_cons_succ])
            clear hcv1 hcv2 HY hnY hlY kc0 kc1 kc2 kc3 hS1 hS2
            have hT := TkM.done HS.out hM hFy hRx (by omega) (by omega)
            go_split_ands
            generalize ((wy.setCell ⟨qb, 0, none⟩ (.slice a1 (n' - onN er (bR n' z' y).2.1) c1)).setCell ⟨qb, 1, none⟩ (.int .i64 (onE er (bR n' z' y).2.2))) = W3 at *
            clear hFx hFy hRx hqx hqx0 hqx1 hqxf hM HS hck hcm
            generalize n' - onN er (bR n' z' y).2.1 = n2 at *
            generalize onE er (bR n' z' y).2.2 = er2 at *
            generalize (fun j => z' (j + onN er (bR n' z' y).2.1)) = z2 at *
            go_wp2_with fail
            go_region_held3 (fun w' => TkS w w' r1 qb n2 z2 er2 a1 c1 ∧ w'.cell? ⟨qb, 0, none⟩ = some (.slice a1 n2 c1) ∧ w'.cell? ⟨qb, 1, none⟩ = some (.int .i64 er2))
              (first
                | exact TkS.ends hT (Below.refl _ _).drew
                | (go_split_ands; exact TkS.ends (w := w) (r1 := r1) (qb := qb) (n := n2) (z := z2) (er := er2) (aq := a1) (cq := c1) (by assumption) hbx)
                | (go_split_ands; refine TkS.ends (w := w) (r1 := r1) (qb := qb) (n := n2) (z := z2) (er := er2) (aq := a1) (cq := c1) ?_ (Below.refl _ _); assumption)
                | fail)
              (first
                | (go_at_call 17; go_split_ands; refine (num_any _ _ ?_).mono ?_; (exact TkS.glob (w := w) (r1 := r1) (qb := qb) (n := n2) (z := z2) (er := er2) (aq := a1) (cq := c1) (by assumption)); rintro e wx ⟨rfl, hbx⟩)
                | (go_at_call 18; go_split_ands; refine (done_any r1 n2 z2 er2 _ ?_).mono ?_; (exact TkS.rd (w := w) (r1 := r1) (qb := qb) (n := n2) (z := z2) (er := er2) (aq := a1) (cq := c1) (by assumption)); rintro e wx ⟨rfl, rfl⟩)
                | (go_at_call 20; go_split_ands; refine (left_any r1 n2 z2 er2 _ ?_).mono ?_; (exact TkS.rd (w := w) (r1 := r1) (qb := qb) (n := n2) (z := z2) (er := er2) (aq := a1) (cq := c1) (by assumption)); rintro e wx ⟨rfl, rfl⟩)
                | (go_at_call 19; refine (refDone_any _ _ _ _ _).mono ?_; rintro e wx ⟨rfl, hbx⟩))
            go_wp2_with fail
            go_split_ands
            refine ⟨⟨k + 1, n2, z2, er2, a1, c1, by omega, by omega, by go_num, by assumption⟩, by simp [intOf]; omega⟩
      · have kc0 : (wrap64 ((IntKind.u64.wrap x).tmod 5) == 0) = false := by simp [e]
        have kc1 : (wrap64 ((IntKind.u64.wrap x).tmod 5) == 1) = false := by simp [e]
        have kc2 : (wrap64 ((IntKind.u64.wrap x).tmod 5) == 2) = false := by simp [e]
        have kc3 : (wrap64 ((IntKind.u64.wrap x).tmod 5) == 3) = false := by simp [e]
        clear e
        have hbz := onZ_bd er HS.out.hs
        go_wp2_with (first | (refine wpList_allocH rfl rfl ?_) | (go_at_call 15; refine (dHash aq n' cq er z' _ HS.out.hc HS.out.hs).mono ?_; rintro e wx ⟨a1, c1, rfl, hc1, hs1, hbx⟩) | (refine wpList_storeH rfl _ _ rfl (wx.heap.size + 1) rfl (onZ er (hZ n' z')) nz 44 rfl (by have := heap_alloc_new (wx.alloc (.cells #[.slice a1 (n' - onN er (hN n')) c1, .int .i64 (onE er (hE n'))] 27)) (.cells (hv nz) 44); simpa using this) ?_; intro W2 hg2 hF2))
        have hM := TkM.sum (TkM.way0 (er1 := onE er (hE n')) hbx hc1 hs1) hF2
        have hge : wr.heap.size ≤ wx.heap.size + 1 := by have := hbx.size; omega
        clear hF2 hbx hs1 hq0 hq1
        generalize wx.heap.size + 1 = sb at *
        generalize wx.heap.size = gb at *
        have heq := eqIn_same hbz
        have hu := Tryd.underlying44
        have hi : (Tryd.prog.info? 44).map (·.size) = some (bl (onZ er (hZ n' z')) 32).length := by rw [bl_length]; exact hsz
        go_region_held3 (fun w' => w'.cell? ⟨gb, 0, none⟩ = some (.slice a1 (n' - onN er (hN n')) c1) ∧ w'.cell? ⟨gb, 1, none⟩ = some (.int .i64 (onE er (hE n'))) ∧ w'.cell? ⟨b, off + k * 2 + 1, none⟩ = some (.int .i64 y) ∧ w'.rangeAt sb 0 (bl (onZ er (hZ n' z')) 32))
          (first
            | exact TkM.keepH HS.out hM hblt hcm hg2 hge (Frm.refl _ _).drew
            | exact TkM.keepH HS.out hM hblt hcm hg2 hge (hFy.mono (by simp))
            | exact TkM.keepH HS.out hM hblt hcm hg2 hge (((hFy.mono (by simp)).setCell _ _ (by simp)).setCell _ _ (by simp))
            | fail)
          (first | (go_at_call 16; refine (pHash r1 n' z' er _ ((TkM.rd HS.out hM).below (Below.refl _ _).drew)).mono ?_; rintro e wy ⟨rfl, hFx, hRx⟩; have hFy : Frm [r1] W2 wy := (Frm.refl [r1] W2).drew.trans hFx; have hqx := TkM.q HS.out hM hFy; have hqx0 := two_cell0 hqx; have hqx1 := two_cell1 hqx; have hqxf := two_free hqx))
        clear kc0 kc1 kc2 kc3 heq hu hi hbz hg2 hge
        have hT := TkM.done HS.out hM hFy hRx (by omega) (by omega)
        go_split_ands
        generalize ((wy.setCell ⟨qb, 0, none⟩ (.slice a1 (n' - onN er (hN n')) c1)).setCell ⟨qb, 1, none⟩ (.int .i64 (onE er (hE n')))) = W3 at *
        clear hFx hFy hRx hqx hqx0 hqx1 hqxf hM HS hck hcm
        generalize n' - onN er (hN n') = n2 at *
        generalize onE er (hE n') = er2 at *
        generalize (fun j => z' (j + onN er (hN n'))) = z2 at *
        go_wp2_with fail
        go_region_held3 (fun w' => TkS w w' r1 qb n2 z2 er2 a1 c1 ∧ w'.cell? ⟨qb, 0, none⟩ = some (.slice a1 n2 c1) ∧ w'.cell? ⟨qb, 1, none⟩ = some (.int .i64 er2))
          (first
            | exact TkS.ends hT (Below.refl _ _).drew
            | (go_split_ands; exact TkS.ends (w := w) (r1 := r1) (qb := qb) (n := n2) (z := z2) (er := er2) (aq := a1) (cq := c1) (by assumption) hbx)
            | (go_split_ands; refine TkS.ends (w := w) (r1 := r1) (qb := qb) (n := n2) (z := z2) (er := er2) (aq := a1) (cq := c1) ?_ (Below.refl _ _); assumption)
            | fail)
          (first
            | (go_at_call 17; go_split_ands; refine (num_any _ _ ?_).mono ?_; (exact TkS.glob (w := w) (r1 := r1) (qb := qb) (n := n2) (z := z2) (er := er2) (aq := a1) (cq := c1) (by assumption)); rintro e wx ⟨rfl, hbx⟩)
            | (go_at_call 18; go_split_ands; refine (done_any r1 n2 z2 er2 _ ?_).mono ?_; (exact TkS.rd (w := w) (r1 := r1) (qb := qb) (n := n2) (z := z2) (er := er2) (aq := a1) (cq := c1) (by assumption)); rintro e wx ⟨rfl, rfl⟩)
            | (go_at_call 20; go_split_ands; refine (left_any r1 n2 z2 er2 _ ?_).mono ?_; (exact TkS.rd (w := w) (r1 := r1) (qb := qb) (n := n2) (z := z2) (er := er2) (aq := a1) (cq := c1) (by assumption)); rintro e wx ⟨rfl, rfl⟩)
            | (go_at_call 19; refine (refDone_any _ _ _ _ _).mono ?_; rintro e wx ⟨rfl, hbx⟩))
        go_wp2_with fail
        go_split_ands
        refine ⟨⟨k + 1, n2, z2, er2, a1, c1, by omega, by omega, by go_num, by assumption⟩, by simp [intOf]; omega⟩
    · have hT := HS.out
      clear HS HL
      have hg := hT.glob
      have hB := hT.below
      have hez := eqIn_nz
      clear hT
      by_cases h1 : k < m
      · obtain rfl : k = 100 := by omega
        go_wp2_with (first
          | (go_at_call 18; refine (nilDone _).mono ?_; rintro e v1 ⟨rfl, rfl⟩)
          | (go_at_call 17; refine (num_any 1 _ hg).mono ?_; rintro e v2 ⟨rfl, hb2⟩)
          | (go_at_call 8; refine (nilUint _ _).mono ?_; rintro e v3 ⟨rfl, hb3⟩)
          | (go_at_call 10; refine (nilInt _).mono ?_; rintro e v4 ⟨rfl, hb4⟩)
          | (go_at_call 12; refine (nilCount _ _).mono ?_; rintro e v5 ⟨rfl, hb5⟩)
          | (go_at_call 14; refine (nilBytes _ _).mono ?_; rintro e v6 ⟨rfl, hb6⟩)
          | (go_at_call 16; refine (nilHash _).mono ?_; rintro e v7 ⟨rfl, hb7⟩)
          | (go_at_call 20; refine (nilLeft _).mono ?_; rintro e v8 ⟨rfl, rfl⟩)
          | (go_at_call 21; refine (sure_any _).mono ?_; rintro e v9 ⟨rfl, hb9⟩))
        go_ret
        exact ⟨rfl, hB.trans ((Below.transS (Below.transS (Below.transS (Below.transS (Below.transS (Below.transS hb2 hb3) hb4) hb5) hb6) hb7) hb9).mono hB.size)⟩
      · obtain rfl : k = m := by omega
        go_wp2_with (first
          | (go_at_call 18; refine (nilDone _).mono ?_; rintro e v1 ⟨rfl, rfl⟩)
          | (go_at_call 17; refine (num_any 1 _ hg).mono ?_; rintro e v2 ⟨rfl, hb2⟩)
          | (go_at_call 8; refine (nilUint _ _).mono ?_; rintro e v3 ⟨rfl, hb3⟩)
          | (go_at_call 10; refine (nilInt _).mono ?_; rintro e v4 ⟨rfl, hb4⟩)
          | (go_at_call 12; refine (nilCount _ _).mono ?_; rintro e v5 ⟨rfl, hb5⟩)
          | (go_at_call 14; refine (nilBytes _ _).mono ?_; rintro e v6 ⟨rfl, hb6⟩)
          | (go_at_call 16; refine (nilHash _).mono ?_; rintro e v7 ⟨rfl, hb7⟩)
          | (go_at_call 20; refine (nilLeft _).mono ?_; rintro e v8 ⟨rfl, rfl⟩)
          | (go_at_call 21; refine (sure_any _).mono ?_; rintro e v9 ⟨rfl, hb9⟩))
        go_ret
        exact ⟨rfl, hB.trans ((Below.transS (Below.transS (Below.transS (Below.transS (Below.transS (Below.transS hb2 hb3) hb4) hb5) hb6) hb7) hb9).mono hB.size)⟩
end Go.Proofs.YtelpkbdobeofgaaDoor
