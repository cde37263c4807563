/- TreeLefts: the walk. -/
import Derived.Test.YtlnoabedcnlpoaaDoorJSure
import Derived.Test.YtlnoabedcnlpoaaDoorJRBeg
import Derived.Test.YtlnoabedcnlpoaaDoorJNum
namespace Go.Proofs.YtlnoabedcnlpoaaDoor
open Go.RowKit

/-- A tree and a path that came in. -/
structure LawIn (w : World) (c : Tc) (ka : Option Addr) (ad : Option Addr) (n : Nat) (z : Nat → Int) : Prop where
  glob : Glob w
  keys : IsAt w ka c.kn c.kz
  kn : c.kn ≤ 140737488355328
  st : Ib c.st
  path : IsAt w ad n z
  n : n ≤ 140737488355328
set_option maxRecDepth 100000 in
set_option maxHeartbeats 1600000 in
theorem lefts_any (c : Tc) (ka : Option Addr) (kc : Nat) (ad : Option Addr) (n cap : Nat) (z : Nat → Int) (w : World) (h : LawIn w c ka ad n z) :
    Calls Tryd.prog 5 #[.agg (tcv c ka kc), .slice ad n cap] w fun e w' => e = .returned (.bool true) ∧ Below w.heap.size w w' := by
  have HH := hidV h
  clear h
  go_enter Tryd.func5, Tryd.ntmps5
  go_upto_region 1 with (first | (refine wpList_boxN rfl _ _ rfl (tcv c ka kc) rfl ?_; intro v1 N1) | fail)
  have HX : Hid (Below w.heap.size w v1 ∧ (∀ w' : World, Below v1.heap.size v1 w' → w'.rangeAt w.heap.size 0 (tcl c ka kc))) :=
    ⟨N1.below, fun w' hb => tcl_range (heap_below hb N1.blk)⟩
  clear N1
  have ks := (tcBox (HX.out.2 v1 (Below.refl _ _))).ks
  by_cases q1 : (100 : Int) < c.kn
  · go_wp2_with fail
    refine (sure_any v1).mono ?_
    rintro e v2 ⟨rfl, hb⟩
    have HE := hidV (Below.transS HX.out.1 hb)
    clear hb
    go_wp2
    go_ret
    exact ⟨rfl, HE.out⟩
  by_cases q2 : (100 : Int) < n
  · go_wp2_with fail
    refine (sure_any v1).mono ?_
    rintro e v2 ⟨rfl, hb⟩
    have HE := hidV (Below.transS HX.out.1 hb)
    clear hb
    go_wp2
    go_ret
    exact ⟨rfl, HE.out⟩
  have HN : Hid (c.kn ≤ 100 ∧ n ≤ 100) := ⟨by omega, by omega⟩
  have HI := hidV (TcIn.mk (HH.out.keys.below HX.out.1) (by have := HN.out; omega) HH.out.st)
  have HR1 := hidV (HX.out.2 v1 (Below.refl _ _))
  go_wp2_with (first | (refine wpList_loadR (by rfl) _ rfl w.heap.size rfl c ka kc HR1.out ?_) | fail)
  clear q1 q2 ks
  refine (giveTree_any c ka kc v1 HI.out).mono ?_
  rintro e v2 ⟨⟨ka', kc', rfl, hI2⟩, hb2⟩
  have HB2 := hidV hb2
  have HI2 := hidV hI2
  have HP2 := hidV (HH.out.path.below (Below.transS HX.out.1 hb2))
  clear hb2 hI2 HR1
  go_wp2_with fail
  refine (left_any c ka' kc' ad n cap z v2 HP2.out (by have := HN.out; omega) HI2.out).mono ?_
  rintro e v3 ⟨rfl, hb3⟩
  have HB3 := hidV (Below.transS HB2.out hb3)
  clear hb3
  have HR3 := hidV (HX.out.2 v3 HB3.out)
  go_wp2_with (first | (refine wpList_loadR (by rfl) _ rfl w.heap.size rfl c ka kc HR3.out ?_) | fail)
  refine (rleft_any c ka kc ad n cap z v3 (HH.out.path.below (Below.transS HX.out.1 HB3.out)) (by have := HN.out; omega) (HI.out.below HB3.out)).mono ?_
  rintro e v4 ⟨rfl, hb4⟩
  have HG4 := hidV (HH.out.glob.below (Below.transS HX.out.1 (Below.transS HB3.out hb4)) HH.out.glob.pos)
  have HB4 := hidV (Below.transS HX.out.1 (Below.transS HB3.out hb4))
  clear hb4 HR3
  go_wp2_with fail
  refine (num_any (isE c z n) v4 HG4.out).mono ?_
  rintro e v5 ⟨rfl, hb5⟩
  have HB5 := hidV (Below.transS HB4.out hb5)
  clear hb5
  go_wp2_with fail
  refine (sure_any v5).mono ?_
  rintro e v6 ⟨rfl, hb6⟩
  have HE := hidV (Below.transS HB5.out hb6)
  clear hb6
  go_wp2
  go_ret
  exact ⟨by simp, HE.out⟩
theorem lefts_card (c : Tc) (ka : Option Addr) (kc : Nat) (ad : Option Addr) (n cap : Nat) (z : Nat → Int) (w : World) (hg : Glob w) (h1 : IsAt w ka c.kn c.kz) (h2 : c.kn ≤ 140737488355328) (h3 : Ib c.st) (h4 : IsAt w ad n z) (h5 : n ≤ 140737488355328) :
    Calls Tryd.prog 5 #[.agg (tcv c ka kc), .slice ad n cap] w fun e w' => e = .returned (.bool true) ∧ Below w.heap.size w w' := lefts_any c ka kc ad n cap z w ⟨hg, h1, h2, h3, h4, h5⟩
end Go.Proofs.YtlnoabedcnlpoaaDoor
