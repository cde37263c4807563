/- The readers' calls, whether they have stopped or not: the program's and the document's, in one form. -/
import Derived.Test.YtelpkbdobeofgaaDoorRefBytes
import Derived.Test.YtelpkbdobeofgaaDoorIntsWalk
import Derived.Test.YtelpkbdobeofgaaDoorRefHl
namespace Go.Proofs.YtelpkbdobeofgaaDoor
open Go.RowKit

def onN (er : Int) (k : Nat) : Nat := if er = 0 then k else 0
def onE (er e : Int) : Int := if er = 0 then e else er
def onV (er v : Int) : Int := if er = 0 then v else 0
def onZ (er : Int) (z : Nat → Int) : Nat → Int := if er = 0 then z else nz
def onL (er : Int) (l : List Int) : List Int := if er = 0 then l else []

theorem RdAt.stopped {w : World} {rb n : Nat} {z : Nat → Int} {er : Int} (h : RdAt w rb n z er) (he : er ≠ 0) : w.cell? ⟨rb, 1, none⟩ = some (.iface 77 (.int .i64 er)) := by
  obtain ⟨ad, cap, hr, -, -⟩ := h
  rw [errV_ne he] at hr
  exact two_cell1 hr
theorem RdAt.stays {w w' : World} {rb n : Nat} {z : Nat → Int} {er : Int} {k : Nat} {e : Int} (h : RdAt w rb n z er) (he : er ≠ 0) (hb : Below w.heap.size w w') : Frm [rb] w w' ∧ RdAt w' rb (n - onN er k) (fun j => z (j + onN er k)) (onE er e) := by
  rw [onN, onE, if_neg he, if_neg he]
  exact ⟨Frm.ofBelow hb, h.below hb⟩

theorem pUint (rb n : Nat) (z : Nat → Int) (er most : Int) (w : World) (h : RdAt w rb n z er) :
    Calls Tryd.prog 8 #[.pointer (some ⟨rb, 0, none⟩), .int .u64 most] w fun e w' =>
      e = .returned (.int .u64 (onV er (uV n z most))) ∧ Frm [rb] w w' ∧ RdAt w' rb (n - onN er (uN n z most)) (fun j => z (j + onN er (uN n z most))) (onE er (uE n z most)) := by
  by_cases he : er = 0
  · subst he; exact rdUint_any rb n z most w h
  · exact (stopUint rb most _ _ w (h.stopped he)).mono fun e w' ⟨h1, h2⟩ => ⟨by rw [onV, if_neg he]; exact h1, h.stays he h2⟩
theorem pInt (rb n : Nat) (z : Nat → Int) (er : Int) (w : World) (h : RdAt w rb n z er) :
    Calls Tryd.prog 10 #[.pointer (some ⟨rb, 0, none⟩)] w fun e w' =>
      e = .returned (.int .i64 (onV er (iV n z))) ∧ Frm [rb] w w' ∧ RdAt w' rb (n - onN er (iN n z)) (fun j => z (j + onN er (iN n z))) (onE er (iE n z)) := by
  by_cases he : er = 0
  · subst he; exact rdInt_any rb n z w h
  · exact (stopInt rb _ _ w (h.stopped he)).mono fun e w' ⟨h1, h2⟩ => ⟨by rw [onV, if_neg he]; exact h1, h.stays he h2⟩
theorem pCount (rb n : Nat) (z : Nat → Int) (er most : Int) (w : World) (hn : n ≤ 140737488351232) (hm : most ≤ 9223372036854775807) (h : RdAt w rb n z er) :
    Calls Tryd.prog 12 #[.pointer (some ⟨rb, 0, none⟩), .int .i64 most] w fun e w' =>
      e = .returned (.int .i64 (onV er (cV n z most))) ∧ Frm [rb] w w' ∧ RdAt w' rb (n - onN er (cN n z most)) (fun j => z (j + onN er (cN n z most))) (onE er (cE n z most)) := by
  by_cases he : er = 0
  · subst he; exact rdCount_any rb n z most w hn hm h
  · exact (stopCount rb most _ _ w (h.stopped he)).mono fun e w' ⟨h1, h2⟩ => ⟨by rw [onV, if_neg he]; exact h1, h.stays he h2⟩
theorem pBytes (rb n : Nat) (z : Nat → Int) (er most : Int) (w : World) (hn : n ≤ 140737488351232) (h : RdAt w rb n z er) :
    Calls Tryd.prog 14 #[.pointer (some ⟨rb, 0, none⟩), .int .i64 most] w fun e w' =>
      ∃ ad1 cap1, e = .returned (.slice ad1 (onL er (bR n z most).1).length cap1) ∧ Own w w' ad1 cap1 (onL er (bR n z most).1) ∧ Frm [rb] w w' ∧ RdAt w' rb (n - onN er (bR n z most).2.1) (fun j => z (j + onN er (bR n z most).2.1)) (onE er (bR n z most).2.2) := by
  by_cases he : er = 0
  · subst he; exact rdBytes_any rb n z most w hn h
  · exact (stopBytes rb most _ _ w (h.stopped he)).mono fun e w' ⟨h1, h2⟩ => ⟨none, 0, by rw [onL, if_neg he]; exact h1, by rw [onL, if_neg he]; exact ⟨Nat.le_refl _, SlAt.zero _ _, fun _ => ⟨rfl, rfl⟩, fun _ h => by cases h⟩, h.stays he h2⟩
theorem pHash (rb n : Nat) (z : Nat → Int) (er : Int) (w : World) (h : RdAt w rb n z er) :
    Calls Tryd.prog 16 #[.pointer (some ⟨rb, 0, none⟩)] w fun e w' =>
      e = .returned (.agg (hv (onZ er (hZ n z)))) ∧ Frm [rb] w w' ∧ RdAt w' rb (n - onN er (hN n)) (fun j => z (j + onN er (hN n))) (onE er (hE n)) := by
  by_cases he : er = 0
  · subst he; exact rdHash_any rb n z w h
  · exact (stopHash rb _ _ w (h.stopped he)).mono fun e w' ⟨h1, h2⟩ => ⟨by rw [onZ, if_neg he]; exact h1, h.stays he h2⟩

theorem refPost_stop {w w' : World} {ad : Option Addr} {n cap k : Nat} {z : Nat → Int} {er e0 : Int} {v : Value} {e : Ending} (he : er ≠ 0) (hlc : n ≤ cap) (hs : SlAt w ad n z) (h1 : e = .returned (.tuple #[.agg #[.slice ad n cap, .int .i64 er], v])) (h2 : Below w.heap.size w w') :
    RefPost w n z (onN er k) (onE er e0) v e w' := by
  rw [onN, onE, if_neg he, if_neg he]
  exact ⟨ad, cap, h1, hlc, hs, h2⟩
theorem dUint (ad : Option Addr) (n cap : Nat) (er most : Int) (z : Nat → Int) (w : World) (hlc : n ≤ cap) (hnm : n ≤ 140737488351232) (hs : SlAt w ad n z) :
    Calls Tryd.prog 7 #[.agg #[.slice ad n cap, .int .i64 er], .int .u64 most] w fun e w' => RefPost w n z (onN er (uN n z most)) (onE er (uE n z most)) (.int .u64 (onV er (uV n z most))) e w' := by
  by_cases he : er = 0
  · subst he; exact refUint_any ad n cap most z w hlc hnm hs
  · exact (refStopUint ad n cap most er w (by simpa using he)).mono fun e w' ⟨h1, h2⟩ => refPost_stop he hlc hs (by rw [onV, if_neg he]; exact h1) h2
theorem dInt (ad : Option Addr) (n cap : Nat) (er : Int) (z : Nat → Int) (w : World) (hlc : n ≤ cap) (hnm : n ≤ 140737488351232) (hs : SlAt w ad n z) :
    Calls Tryd.prog 9 #[.agg #[.slice ad n cap, .int .i64 er]] w fun e w' => RefPost w n z (onN er (iN n z)) (onE er (iE n z)) (.int .i64 (onV er (iV n z))) e w' := by
  by_cases he : er = 0
  · subst he; exact refInt_any ad n cap z w hlc hnm hs
  · exact (refStopInt ad n cap er w (by simpa using he)).mono fun e w' ⟨h1, h2⟩ => refPost_stop he hlc hs (by rw [onV, if_neg he]; exact h1) h2
theorem dCount (ad : Option Addr) (n cap : Nat) (er most : Int) (z : Nat → Int) (w : World) (hlc : n ≤ cap) (hnm : n ≤ 140737488351232) (hs : SlAt w ad n z) (hm : most ≤ 9223372036854775807) :
    Calls Tryd.prog 11 #[.agg #[.slice ad n cap, .int .i64 er], .int .i64 most] w fun e w' => RefPost w n z (onN er (cN n z most)) (onE er (cE n z most)) (.int .i64 (onV er (cV n z most))) e w' := by
  by_cases he : er = 0
  · subst he; exact refCount_any ad n cap most z w hlc hnm hs hm
  · exact (refStopCount ad n cap most er w (by simpa using he) hm).mono fun e w' ⟨h1, h2⟩ => refPost_stop he hlc hs (by rw [onV, if_neg he]; exact h1) h2
theorem dHash (ad : Option Addr) (n cap : Nat) (er : Int) (z : Nat → Int) (w : World) (hlc : n ≤ cap) (hs : SlAt w ad n z) :
    Calls Tryd.prog 15 #[.agg #[.slice ad n cap, .int .i64 er]] w fun e w' => RefPost w n z (onN er (hN n)) (onE er (hE n)) (.agg (hv (onZ er (hZ n z)))) e w' := by
  by_cases he : er = 0
  · subst he
    simp only [onN, onE, onZ, if_pos]
    by_cases hn : n < 32
    · rw [hN, hE, hZ, if_pos hn, if_pos hn, if_pos hn]
      exact (refHash_short ad n cap w hn).mono fun e w' ⟨h1, h2⟩ => ⟨ad, cap, h1, hlc, hs, h2⟩
    · rw [hN, hE, hZ, if_neg hn, if_neg hn, if_neg hn]
      obtain ⟨b, off, rfl, hc⟩ := hs.2 (by omega)
      exact (refHash_long b off n cap z w (by omega) hlc hs.1 hc).mono fun e w' ⟨ad', cap', h1, h2, h3, h4⟩ => ⟨ad', cap', h1, h2, h3 w hs, h4⟩
  · exact (refHash_stop ad n cap er w (by simpa using he)).mono fun e w' ⟨h1, h2⟩ => refPost_stop he hlc hs (by rw [onZ, if_neg he]; exact h1) h2
/-- Behind the document's ReadBytes, stopped or not. -/
def RBs (w : World) (n : Nat) (z : Nat → Int) (k : Nat) (er : Int) (l : List Int) (e : Ending) (w' : World) : Prop :=
  ∃ ad cap ad1 cap1, e = .returned (.tuple #[.agg #[.slice ad (n - k) cap, .int .i64 er], .slice ad1 l.length cap1]) ∧ n - k ≤ cap ∧ SlAt w ad (n - k) (fun j => z (j + k)) ∧ Fresh w w' ad1 cap1 l
theorem dBytes (ad : Option Addr) (n cap : Nat) (er most : Int) (z : Nat → Int) (w : World) (hlc : n ≤ cap) (hnm : n ≤ 140737488351232) (hs : SlAt w ad n z) :
    Calls Tryd.prog 13 #[.agg #[.slice ad n cap, .int .i64 er], .int .i64 most] w fun e w' => RBs w n z (onN er (bR n z most).2.1) (onE er (bR n z most).2.2) (onL er (bR n z most).1) e w' := by
  by_cases he : er = 0
  · subst he; exact refBytes_any ad n cap z most w hlc hnm hs
  · refine (refStopBytes ad n cap most er w (by simpa using he)).mono fun e w' ⟨h1, h2⟩ => ?_
    rw [onN, onE, onL, if_neg he, if_neg he, if_neg he]
    exact ⟨ad, cap, none, 0, h1, hlc, hs, Fresh.nil h2⟩
end Go.Proofs.YtelpkbdobeofgaaDoor
