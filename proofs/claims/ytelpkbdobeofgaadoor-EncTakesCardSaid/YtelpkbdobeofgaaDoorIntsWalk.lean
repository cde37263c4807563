/- EncInts: the walk. -/
import Derived.Test.YtelpkbdobeofgaaDoorSure
import Derived.Test.YtelpkbdobeofgaaDoorEnds
import Derived.Test.YtelpkbdobeofgaaDoorRefInt
import Derived.Deep.RegionHeld3
import Derived.Deep.DrawnRows
namespace Go.Proofs.YtelpkbdobeofgaaDoor
open Go.RowKit

attribute [local go_sem ↓] Go.wp_at_zero Go.wp_at_succ

theorem RdAt.below {w w' : World} {rb n : Nat} {z : Nat → Int} {er : Int} (h : RdAt w rb n z er) (hb : Below w.heap.size w w') : RdAt w' rb n z er := by
  obtain ⟨ad, cap, hr, hlc, hs⟩ := h
  have hf : Frm [] w w' := Frm.ofBelow hb
  exact ⟨ad, cap, hf.heap hr (by simp), hlc, hs.frm hf (by simp)⟩
theorem RdAt.other {w w' : World} {r1 r2 n m : Nat} {z y : Nat → Int} {er es : Int} (h : RdAt w r2 n z er) (h1 : RdAt w r1 m y es) (hf : Frm [r1] w w') (hne : r2 ≠ r1) : RdAt w' r2 n z er := by
  obtain ⟨ad, cap, hr, hlc, hs⟩ := h
  obtain ⟨ad1, cap1, hr1, _, _⟩ := h1
  exact ⟨ad, cap, hf.heap hr (by simpa using hne), hlc, hs.frm hf (fun b off hn e => by simpa using hs.ne_two hr1 hn e)⟩
theorem RdAt.lt {w : World} {rb n : Nat} {z : Nat → Int} {er : Int} (h : RdAt w rb n z er) : rb < w.heap.size := by
  obtain ⟨ad, cap, hr, _⟩ := h
  exact lt_of_block hr

/-- What the last test of EncInts leans on, in whatever world. -/
structure IntsS (w w' : World) (r1 r2 p q n1 n2 : Nat) (z1 z2 : Nat → Int) (e1 e2 : Int) (a1 a2 : Option Addr) (c1 c2 : Nat) : Prop where
  below : Below w.heap.size w w'
  glob : Glob w'
  rd1 : RdAt w' r1 n1 z1 e1
  rd2 : RdAt w' r2 n2 z2 e2
  p : w'.heap[p]? = some (.cells #[.slice a1 n1 c1, .int .i64 e1] 27 (0, 0))
  q : w'.heap[q]? = some (.cells #[.slice a2 n2 c2, .int .i64 e2] 27 (0, 0))
theorem IntsS.next {w w1 w2 : World} {r1 r2 p q n1 n2 : Nat} {z1 z2 : Nat → Int} {e1 e2 : Int} {a1 a2 : Option Addr} {c1 c2 : Nat} (h : IntsS w w1 r1 r2 p q n1 n2 z1 z2 e1 e2 a1 a2 c1 c2) (hb : Below w1.heap.size w1 w2) : IntsS w w2 r1 r2 p q n1 n2 z1 z2 e1 e2 a1 a2 c1 c2 := by
  have hf : Frm [] w1 w2 := Frm.ofBelow hb
  exact ⟨h.below.trans (hb.mono h.below.size), h.glob.below hb h.glob.pos, h.rd1.below hb, h.rd2.below hb, hf.heap h.p (by simp), hf.heap h.q (by simp)⟩

theorem IntsS.cells {w w' : World} {r1 r2 p q n1 n2 : Nat} {z1 z2 : Nat → Int} {e1 e2 : Int} {a1 a2 : Option Addr} {c1 c2 : Nat} (h : IntsS w w' r1 r2 p q n1 n2 z1 z2 e1 e2 a1 a2 c1 c2) :
    w'.cell? ⟨p, 0, none⟩ = some (.slice a1 n1 c1) ∧ w'.cell? ⟨p, 1, none⟩ = some (.int .i64 e1) ∧ w'.cell? ⟨q, 0, none⟩ = some (.slice a2 n2 c2) ∧ w'.cell? ⟨q, 1, none⟩ = some (.int .i64 e2) :=
  ⟨two_cell0 h.p, two_cell1 h.p, two_cell0 h.q, two_cell1 h.q⟩
theorem IntsS.keep {w w1 w2 : World} {r1 r2 p q n1 n2 : Nat} {z1 z2 : Nat → Int} {e1 e2 : Int} {a1 a2 : Option Addr} {c1 c2 : Nat} (h : IntsS w w1 r1 r2 p q n1 n2 z1 z2 e1 e2 a1 a2 c1 c2) (hb : Below w1.heap.size w1 w2) :
    IntsS w w2 r1 r2 p q n1 n2 z1 z2 e1 e2 a1 a2 c1 c2 ∧ w2.cell? ⟨p, 0, none⟩ = some (.slice a1 n1 c1) ∧ w2.cell? ⟨p, 1, none⟩ = some (.int .i64 e1) ∧ w2.cell? ⟨q, 0, none⟩ = some (.slice a2 n2 c2) ∧ w2.cell? ⟨q, 1, none⟩ = some (.int .i64 e2) :=
  ⟨h.next hb, (h.next hb).cells⟩

set_option maxRecDepth 100000 in
set_option maxHeartbeats 1600000 in
theorem ints_any (ad : Option Addr) (n cap : Nat) (z : Nat → Int) (most : Int) (w : World) (hlc : n ≤ cap) (hn : n ≤ 140737488351232) (hs : SlAt w ad n z) (hnil : ad = none → n = 0 ∧ cap = 0) (hg : Glob w) :
    Calls Tryd.prog 4 #[.slice ad n cap, .int .u64 most] w fun e w' => e = .returned (.bool true) ∧ Below w.heap.size w w' := by
  go_enter Tryd.func4, Tryd.ntmps4
  go_wp2_with fail
  refine (read_any ad n cap z w hs hnil hn).mono ?_
  rintro e w1 ⟨r1, rfl, hr1, hrb1, hb1⟩
  have hs1 : SlAt w1 ad n z := hs.frm (S := []) (Frm.ofBelow hb1) (by simp)
  go_wp2_with fail
  refine (read_any ad n cap z w1 hs1 hnil hn).mono ?_
  rintro e w2 ⟨r2, rfl, hr2, hrb2, hb2⟩
  have hr1' : RdAt w2 r1 n z 0 := hr1.below hb2
  have hr1lt : r1 < w1.heap.size := hr1.lt
  have hb2' : Below w.heap.size w w2 := hb1.trans (hb2.mono hb1.size)
  clear hr1 hs1
  go_wp2_with fail
  refine (rdInt_any r1 n z w2 hr1').mono ?_
  rintro e w3 ⟨rfl, hF3, hr3⟩
  have hb3 : Below w.heap.size w w3 := hb2'.trans (hF3.below hb2'.size (fun k hk => by simp at hk; omega))
  have hr2' : RdAt w3 r2 n z 0 := hr2.other hr1' hF3 (by omega)
  clear hr2 hr1' hF3
  go_wp2_with fail
  refine (rdUint_any r2 n z most w3 hr2').mono ?_
  rintro e w4 ⟨rfl, hF4, hr4⟩
  have hsz1 := hb1.size
  have hb4 : Below w.heap.size w w4 := hb3.trans (hF4.below hb3.size (fun k hk => by simp at hk; omega))
  have hr3' := hr3.other hr2' hF4 (by omega)
  clear hr2' hr3 hF4
  have hs4 : SlAt w4 ad n z := hs.frm (S := []) (Frm.ofBelow hb4) (by simp)
  go_wp2_with fail
  refine (refInt_any ad n cap z w4 hlc hn hs4).mono ?_
  rintro e w5 ⟨a1, c1, rfl, hc1, -, hb5⟩
  have hb5' : Below w.heap.size w w5 := hb4.trans (hb5.mono hb4.size)
  have hs5 : SlAt w5 ad n z := hs.frm (S := []) (Frm.ofBelow hb5') (by simp)
  have hr5 := hr3'.below hb5
  have hr5' := hr4.below hb5
  clear hr3' hr4 hs4
  go_wp2_with fail
  have hb5a : Below w.heap.size w (w5.alloc (.cells #[.slice a1 (n - iN n z) c1, .int .i64 (iE n z)] 27)) := hb5'.alloc hb5'.size _
  have hs5a := hs5.frm ((Frm.refl [] w5).alloc (.cells #[.slice a1 (n - iN n z) c1, .int .i64 (iE n z)] 27)) (by simp)
  refine (refUint_any ad n cap most z _ hlc hn hs5a).mono ?_
  rintro e w6 ⟨a2, c2, rfl, hc2, -, hb6⟩
  have hb6' : Below w.heap.size w w6 := hb5a.trans (hb6.mono hb5a.size)
  have hp6 : w6.heap[w5.heap.size]? = some (.cells #[.slice a1 (n - iN n z) c1, .int .i64 (iE n z)] 27 (0, 0)) := (Frm.ofBelow (S := []) hb6).heap (heap_alloc_new w5 _) (by simp)
  have hb56 : Below w5.heap.size w5 w6 := ((Below.refl _ w5).alloc (Nat.le_refl _) _).trans (hb6.mono (by simp))
  have hS : IntsS w (w6.alloc (.cells #[.slice a2 (n - uN n z most) c2, .int .i64 (uE n z most)] 27)) r1 r2 w5.heap.size w6.heap.size (n - iN n z) (n - uN n z most) (fun j => z (j + iN n z)) (fun j => z (j + uN n z most)) (iE n z) (uE n z most) a1 a2 c1 c2 := by
    have hal : Below w6.heap.size w6 (w6.alloc (.cells #[.slice a2 (n - uN n z most) c2, .int .i64 (uE n z most)] 27)) := (Below.refl _ w6).alloc (Nat.le_refl _) _
    exact ⟨hb6'.alloc hb6'.size _, (hg.below hb6' hg.pos).below hal (hg.below hb6' hg.pos).pos, (hr5.below hb56).below hal, (hr5'.below hb56).below hal, (Frm.ofBelow (S := []) hal).heap hp6 (by simp), heap_alloc_new w6 _⟩
  have hS0 := hS.cells
  clear hs5a hb5a hb6 hb6' hp6 hb56 hr5 hr5' hs5 hb5 hb5' hb4 hb3 hb2' hb2 hb1 hs hnil hg hsz1 hrb1 hrb2 hr1lt hc1 hc2
  go_wp2_with fail
  go_region_held3 (fun w' => IntsS w w' r1 r2 w5.heap.size w6.heap.size (n - iN n z) (n - uN n z most) (fun j => z (j + iN n z)) (fun j => z (j + uN n z most)) (iE n z) (uE n z most) a1 a2 c1 c2 ∧ w'.cell? ⟨w5.heap.size, 0, none⟩ = some (.slice a1 (n - iN n z) c1) ∧ w'.cell? ⟨w5.heap.size, 1, none⟩ = some (.int .i64 (iE n z)) ∧ w'.cell? ⟨w6.heap.size, 0, none⟩ = some (.slice a2 (n - uN n z most) c2) ∧ w'.cell? ⟨w6.heap.size, 1, none⟩ = some (.int .i64 (uE n z most)))
    (first | exact IntsS.keep hS ((Below.refl _ _).drew) | (go_split_ands; exact IntsS.keep (w := w) (r1 := r1) (r2 := r2) (p := w5.heap.size) (q := w6.heap.size) (n1 := n - iN n z) (n2 := n - uN n z most) (z1 := fun j => z (j + iN n z)) (z2 := fun j => z (j + uN n z most)) (e1 := iE n z) (e2 := uE n z most) (a1 := a1) (a2 := a2) (c1 := c1) (c2 := c2) (by assumption) hbx) | (go_split_ands; exact ⟨by assumption, IntsS.cells (w := w) (r1 := r1) (r2 := r2) (p := w5.heap.size) (q := w6.heap.size) (n1 := n - iN n z) (n2 := n - uN n z most) (z1 := fun j => z (j + iN n z)) (z2 := fun j => z (j + uN n z most)) (e1 := iE n z) (e2 := uE n z most) (a1 := a1) (a2 := a2) (c1 := c1) (c2 := c2) (by assumption)⟩) | go_keep)
    (first
      | (go_at_call 17; go_split_ands; refine (num_any _ _ ?_).mono ?_; (exact IntsS.glob (w := w) (r1 := r1) (r2 := r2) (p := w5.heap.size) (q := w6.heap.size) (n1 := n - iN n z) (n2 := n - uN n z most) (z1 := fun j => z (j + iN n z)) (z2 := fun j => z (j + uN n z most)) (e1 := iE n z) (e2 := uE n z most) (a1 := a1) (a2 := a2) (c1 := c1) (c2 := c2) (by assumption)); rintro e wx ⟨rfl, hbx⟩)
      | (go_at_call_of 18 (Value.pointer (some ⟨r1, 0, none⟩)); go_split_ands; refine (done_any r1 (n - iN n z) (fun j => z (j + iN n z)) (iE n z) _ ?_).mono ?_; (exact IntsS.rd1 (w := w) (r1 := r1) (r2 := r2) (p := w5.heap.size) (q := w6.heap.size) (n1 := n - iN n z) (n2 := n - uN n z most) (z1 := fun j => z (j + iN n z)) (z2 := fun j => z (j + uN n z most)) (e1 := iE n z) (e2 := uE n z most) (a1 := a1) (a2 := a2) (c1 := c1) (c2 := c2) (by assumption)); rintro e wx ⟨rfl, rfl⟩)
      | (go_at_call_of 18 (Value.pointer (some ⟨r2, 0, none⟩)); go_split_ands; refine (done_any r2 (n - uN n z most) (fun j => z (j + uN n z most)) (uE n z most) _ ?_).mono ?_; (exact IntsS.rd2 (w := w) (r1 := r1) (r2 := r2) (p := w5.heap.size) (q := w6.heap.size) (n1 := n - iN n z) (n2 := n - uN n z most) (z1 := fun j => z (j + iN n z)) (z2 := fun j => z (j + uN n z most)) (e1 := iE n z) (e2 := uE n z most) (a1 := a1) (a2 := a2) (c1 := c1) (c2 := c2) (by assumption)); rintro e wx ⟨rfl, rfl⟩)
      | (go_at_call 19; refine (refDone_any _ _ _ _ _).mono ?_; rintro e wx ⟨rfl, hbx⟩)
      | (go_at_call 21; refine (sure_any _).mono ?_; rintro e wx ⟨rfl, hbx⟩))
  all_goals go_wp2
  go_ret
  go_split_ands
  exact ⟨rfl, IntsS.below (w := w) (r1 := r1) (r2 := r2) (p := w5.heap.size) (q := w6.heap.size) (n1 := n - iN n z) (n2 := n - uN n z most) (z1 := fun j => z (j + iN n z)) (z2 := fun j => z (j + uN n z most)) (e1 := iE n z) (e2 := uE n z most) (a1 := a1) (a2 := a2) (c1 := c1) (c2 := c2) (by assumption)⟩
end Go.Proofs.YtelpkbdobeofgaaDoor
