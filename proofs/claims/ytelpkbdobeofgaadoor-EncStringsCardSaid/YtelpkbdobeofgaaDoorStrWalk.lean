/- EncStrings: the walk. -/
import Derived.Test.YtelpkbdobeofgaaDoorSure
import Derived.Test.YtelpkbdobeofgaaDoorEnds
import Derived.Test.YtelpkbdobeofgaaDoorRefBytes
import Derived.Test.YtelpkbdobeofgaaDoorIntsWalk
namespace Go.Proofs.YtelpkbdobeofgaaDoor
open Go.RowKit

attribute [local go_sem ↓] Go.wp_at_zero Go.wp_at_succ

/-- What the last test of EncStrings leans on, in whatever world. -/
structure StrS (w w' : World) (r1 p n1 : Nat) (z1 : Nat → Int) (e1 : Int) (a1 : Option Addr) (c1 : Nat) (ax ay : Option Addr) (cx cy : Nat) (l : List Int) : Prop where
  below : Below w.heap.size w w'
  glob : Glob w'
  rd1 : RdAt w' r1 n1 z1 e1
  p : w'.heap[p]? = some (.cells #[.slice a1 n1 c1, .int .i64 e1] 27 (0, 0))
  x : SlAt w' ax l.length (fn l)
  y : SlAt w' ay l.length (fn l)
  nx : ax = none → l.length = 0 ∧ cx = 0
  ny : ay = none → l.length = 0 ∧ cy = 0
theorem StrS.next {w w1 w2 : World} {r1 p n1 : Nat} {z1 : Nat → Int} {e1 : Int} {a1 : Option Addr} {c1 : Nat} {ax ay : Option Addr} {cx cy : Nat} {l : List Int} (h : StrS w w1 r1 p n1 z1 e1 a1 c1 ax ay cx cy l) (hb : Below w1.heap.size w1 w2) : StrS w w2 r1 p n1 z1 e1 a1 c1 ax ay cx cy l := by
  have hf : Frm [] w1 w2 := Frm.ofBelow hb
  exact ⟨h.below.trans (hb.mono h.below.size), h.glob.below hb h.glob.pos, h.rd1.below hb, hf.heap h.p (by simp), h.x.frm hf (by simp), h.y.frm hf (by simp), h.nx, h.ny⟩
theorem StrS.cells {w w' : World} {r1 p n1 : Nat} {z1 : Nat → Int} {e1 : Int} {a1 : Option Addr} {c1 : Nat} {ax ay : Option Addr} {cx cy : Nat} {l : List Int} (h : StrS w w' r1 p n1 z1 e1 a1 c1 ax ay cx cy l) :
    w'.cell? ⟨p, 0, none⟩ = some (.slice a1 n1 c1) ∧ w'.cell? ⟨p, 1, none⟩ = some (.int .i64 e1) ∧ (convert 22 9 (.slice ax l.length cx)).run Tryd.prog w' = .ok (.string (strB (fn l) l.length)) w' ∧ (convert 22 9 (.slice ay l.length cy)).run Tryd.prog w' = .ok (.string (strB (fn l) l.length)) w' := ⟨two_cell0 h.p, two_cell1 h.p, conv_any ax _ cx _ _ h.x h.nx, conv_any ay _ cy _ _ h.y h.ny⟩
theorem StrS.keep {w w1 w2 : World} {r1 p n1 : Nat} {z1 : Nat → Int} {e1 : Int} {a1 : Option Addr} {c1 : Nat} {ax ay : Option Addr} {cx cy : Nat} {l : List Int} (h : StrS w w1 r1 p n1 z1 e1 a1 c1 ax ay cx cy l) (hb : Below w1.heap.size w1 w2) :
    StrS w w2 r1 p n1 z1 e1 a1 c1 ax ay cx cy l ∧ w2.cell? ⟨p, 0, none⟩ = some (.slice a1 n1 c1) ∧ w2.cell? ⟨p, 1, none⟩ = some (.int .i64 e1) ∧ (convert 22 9 (.slice ax l.length cx)).run Tryd.prog w2 = .ok (.string (strB (fn l) l.length)) w2 ∧ (convert 22 9 (.slice ay l.length cy)).run Tryd.prog w2 = .ok (.string (strB (fn l) l.length)) w2 := ⟨h.next hb, (h.next hb).cells⟩

set_option maxRecDepth 100000 in
set_option maxHeartbeats 1600000 in
theorem strings_any (ad : Option Addr) (n cap : Nat) (z : Nat → Int) (most : Int) (w : World) (hlc : n ≤ cap) (hn : n ≤ 140737488351232) (hs : SlAt w ad n z) (hnil : ad = none → n = 0 ∧ cap = 0) (hg : Glob w) :
    Calls Tryd.prog 5 #[.slice ad n cap, .int .i64 most] w fun e w' => e = .returned (.bool true) ∧ Below w.heap.size w w' := by
  go_enter Tryd.func5, Tryd.ntmps5
  go_wp2_with fail
  refine (read_any ad n cap z w hs hnil hn).mono ?_
  rintro e w1 ⟨r1, rfl, hr1, hrb1, hb1⟩
  have hr1lt : r1 < w1.heap.size := hr1.lt
  go_wp2_with fail
  refine (rdBytes_any r1 n z most w1 hn hr1).mono ?_
  rintro e w2 ⟨ax, cx, rfl, hO2, hF2, hr2⟩
  have hb2 : Below w.heap.size w w2 := hb1.trans (hF2.below hb1.size (fun k hk => by simp at hk; omega))
  have hs2 : SlAt w2 ad n z := hs.frm (S := []) (Frm.ofBelow hb2) (by simp)
  clear hr1 hF2
  go_wp2_with fail
  refine (refBytes_any ad n cap z most w2 hlc hn hs2).mono ?_
  rintro e w4 ⟨a1, c1, ay, cy, rfl, hc1, -, hY⟩
  have hb4 : Below w2.heap.size w2 w4 := hY.2.2.2.2
  have hb4' : Below w.heap.size w w4 := hb2.trans (hb4.mono hb2.size)
  have hal : Below w4.heap.size w4 (w4.alloc (.cells #[.slice a1 (n - (bR n z most).2.1) c1, .int .i64 (bR n z most).2.2] 27)) := (Below.refl _ w4).alloc (Nat.le_refl _) _
  have hx4 : SlAt (w4.alloc (.cells #[.slice a1 (n - (bR n z most).2.1) c1, .int .i64 (bR n z most).2.2] 27)) ax (bR n z most).1.length (fn (bR n z most).1) := (hO2.2.1.frm (S := []) (Frm.ofBelow hb4) (by simp)).frm (S := []) (Frm.ofBelow hal) (by simp)
  have hy4 : SlAt (w4.alloc (.cells #[.slice a1 (n - (bR n z most).2.1) c1, .int .i64 (bR n z most).2.2] 27)) ay (bR n z most).1.length (fn (bR n z most).1) := hY.2.1.frm (S := []) (Frm.ofBelow hal) (by simp)
  have hS : StrS w (w4.alloc (.cells #[.slice a1 (n - (bR n z most).2.1) c1, .int .i64 (bR n z most).2.2] 27)) r1 w4.heap.size (n - (bR n z most).2.1) (fun j => z (j + (bR n z most).2.1)) (bR n z most).2.2 a1 c1 ax ay cx cy (bR n z most).1 :=
    ⟨hb4'.alloc hb4'.size _, (hg.below hb4' hg.pos).below hal (hg.below hb4' hg.pos).pos, (hr2.below hb4).below hal, heap_alloc_new w4 _, hx4, hy4, hO2.2.2.1, hY.2.2.1⟩
  have hS0 := hS.cells
  clear hx4 hy4 hal hb4 hb4' hY hO2 hs2 hb2 hb1 hs hnil hg hrb1 hr1lt hc1 hr2
  go_wp2_with fail
  go_region_held3 (fun w' => StrS w w' r1 w4.heap.size (n - (bR n z most).2.1) (fun j => z (j + (bR n z most).2.1)) (bR n z most).2.2 a1 c1 ax ay cx cy (bR n z most).1 ∧ w'.cell? ⟨w4.heap.size, 0, none⟩ = some (.slice a1 (n - (bR n z most).2.1) c1) ∧ w'.cell? ⟨w4.heap.size, 1, none⟩ = some (.int .i64 (bR n z most).2.2) ∧ (convert 22 9 (.slice ax (bR n z most).1.length cx)).run Tryd.prog w' = .ok (.string (strB (fn (bR n z most).1) (bR n z most).1.length)) w' ∧ (convert 22 9 (.slice ay (bR n z most).1.length cy)).run Tryd.prog w' = .ok (.string (strB (fn (bR n z most).1) (bR n z most).1.length)) w')
    (first | exact StrS.keep hS ((Below.refl _ _).drew) | (go_split_ands; exact StrS.keep (w := w) (r1 := r1) (p := w4.heap.size) (n1 := n - (bR n z most).2.1) (z1 := fun j => z (j + (bR n z most).2.1)) (e1 := (bR n z most).2.2) (a1 := a1) (c1 := c1) (ax := ax) (ay := ay) (cx := cx) (cy := cy) (l := (bR n z most).1) (by assumption) hbx) | (go_split_ands; exact ⟨by assumption, StrS.cells (w := w) (r1 := r1) (p := w4.heap.size) (n1 := n - (bR n z most).2.1) (z1 := fun j => z (j + (bR n z most).2.1)) (e1 := (bR n z most).2.2) (a1 := a1) (c1 := c1) (ax := ax) (ay := ay) (cx := cx) (cy := cy) (l := (bR n z most).1) (by assumption)⟩) | go_keep)
    (first
      | (go_at_call 17; go_split_ands; refine (num_any _ _ ?_).mono ?_; (exact StrS.glob (w := w) (r1 := r1) (p := w4.heap.size) (n1 := n - (bR n z most).2.1) (z1 := fun j => z (j + (bR n z most).2.1)) (e1 := (bR n z most).2.2) (a1 := a1) (c1 := c1) (ax := ax) (ay := ay) (cx := cx) (cy := cy) (l := (bR n z most).1) (by assumption)); rintro e wx ⟨rfl, hbx⟩)
      | (go_at_call 18; go_split_ands; refine (done_any r1 (n - (bR n z most).2.1) (fun j => z (j + (bR n z most).2.1)) (bR n z most).2.2 _ ?_).mono ?_; (exact StrS.rd1 (w := w) (r1 := r1) (p := w4.heap.size) (n1 := n - (bR n z most).2.1) (z1 := fun j => z (j + (bR n z most).2.1)) (e1 := (bR n z most).2.2) (a1 := a1) (c1 := c1) (ax := ax) (ay := ay) (cx := cx) (cy := cy) (l := (bR n z most).1) (by assumption)); rintro e wx ⟨rfl, rfl⟩)
      | (go_at_call 20; go_split_ands; refine (left_any r1 (n - (bR n z most).2.1) (fun j => z (j + (bR n z most).2.1)) (bR n z most).2.2 _ ?_).mono ?_; (exact StrS.rd1 (w := w) (r1 := r1) (p := w4.heap.size) (n1 := n - (bR n z most).2.1) (z1 := fun j => z (j + (bR n z most).2.1)) (e1 := (bR n z most).2.2) (a1 := a1) (c1 := c1) (ax := ax) (ay := ay) (cx := cx) (cy := cy) (l := (bR n z most).1) (by assumption)); rintro e wx ⟨rfl, rfl⟩)
      | (go_at_call 19; refine (refDone_any _ _ _ _ _).mono ?_; rintro e wx ⟨rfl, hbx⟩)
      | (go_at_call 21; refine (sure_any _).mono ?_; rintro e wx ⟨rfl, hbx⟩))
  all_goals go_wp2
  go_ret
  go_split_ands
  exact ⟨rfl, StrS.below (w := w) (r1 := r1) (p := w4.heap.size) (n1 := n - (bR n z most).2.1) (z1 := fun j => z (j + (bR n z most).2.1)) (e1 := (bR n z most).2.2) (a1 := a1) (c1 := c1) (ax := ax) (ay := ay) (cx := cx) (cy := cy) (l := (bR n z most).1) (by assumption)⟩
end Go.Proofs.YtelpkbdobeofgaaDoor
