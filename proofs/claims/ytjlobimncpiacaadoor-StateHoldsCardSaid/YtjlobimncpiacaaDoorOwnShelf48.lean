/- Keep and Free: the program's answers are the document's. -/
import Derived.Test.YtjlobimncpiacaaDoorOwnShelf37
import Derived.Test.YtjlobimncpiacaaDoorOwnShelf47
import Derived.Test.YtjlobimncpiacaaDoorOwnShelf44
import Derived.Test.YtjlobimncpiacaaDoorOwnShelf45
import Derived.Test.YtjlobimncpiacaaDoorOwnShelf33
import Derived.Test.YtjlobimncpiacaaDoorOwnShelf42
namespace Go.Proofs.YtjlobimncpiacaaDoor
open Go.RowKit

theorem hs_srt {P : Nat → Hd} {n : Nat} (h : HsOk P n) : Srt (fun j => (P j).id) n := by
  intro a b hab hb
  dsimp only
  induction b with
  | zero => omega
  | succ b ih =>
    have h1 := (h (b + 1) hb).1
    rw [lastH_succ] at h1
    by_cases e : a = b
    · subst e; exact h1
    · have := ih (by omega) (by omega)
      omega
theorem hs_one (y : Hd) : decide (HsOk (fun _ => y) 1) = decide (HMay y) := by
  refine decide_eq_decide.2 ⟨fun h => ?_, fun h j hj => ?_⟩
  · have := h 0 (by omega)
    have h1 : (-1 : Int) < y.id := this.1
    exact ⟨by omega, this.2⟩
  · obtain rfl : j = 0 := by omega
    have := h.1
    exact ⟨by show (-1 : Int) < y.id; omega, h.2⟩
/-- Among rising numbers what is found is there. -/
theorem fnd_has {f : Nat → Int} {n i : Nat} {x : Int} {b : Bool} (hs : Srt f n) (h : FndR f n x i b) : b = hasB f n x := by
  rw [h.hit]
  unfold hasB
  by_cases hh : i < n ∧ f i = x
  · rw [decide_eq_true hh, decide_eq_false (fun hn => hn i hh.1 hh.2)]; rfl
  · have : ∀ j, j < n → f j ≠ x := fun j hj e => by
      by_cases h1 : j < i
      · have := h.lo hs j h1; omega
      · have h2 := h.hi hs i (Nat.le_refl _) (by omega)
        by_cases h3 : j = i
        · subst h3; exact hh ⟨hj, e⟩
        · have := hs i j (by omega) hj; omega
    rw [decide_eq_false hh, decide_eq_true this]; rfl
/-- And found at one place. -/
theorem fnd_hat {f : Nat → Int} {n i : Nat} {x k : Int} {b : Bool} (hs : Srt f n) (h : FndR f n x i b) (hk : HatR f n x k) : (b = false ∧ k < 0) ∨ (b = true ∧ k = i) := by
  have hb := fnd_has hs h
  rw [← hat_hasB hk] at hb
  rcases hk with ⟨rfl, _⟩ | ⟨j, rfl, hj, he, _⟩
  · exact .inl ⟨by rw [hb]; rfl, by decide⟩
  · have hbt : b = true := by rw [hb]; exact decide_eq_true (by omega)
    subst hbt
    have hh : i < n ∧ f i = x := of_decide_eq_true h.hit.symm
    refine .inr ⟨rfl, ?_⟩
    have : i = j := by
      rcases Nat.lt_trichotomy i j with h1 | h1 | h1
      · have := hs i j h1 hj; omega
      · exact h1
      · have := hs j i h1 hh.1; omega
    omega
theorem fnd_place {f : Nat → Int} {n i j : Nat} {x : Int} {b : Bool} (hs : Srt f n) (h : FndR f n x i b) (hj : j ≤ n) (hlo : ∀ k, k < j → f k < x) (hhi : j < n → x ≤ f j) : i = j := by
  rcases Nat.lt_trichotomy i j with h1 | h1 | h1
  · have h2 := hlo i h1
    have h3 := h.hi hs i (Nat.le_refl _) (by omega)
    omega
  · exact h1
  · have h2 := h.lo hs j h1
    have h3 := hhi (by have := h.le; omega)
    omega
theorem keepE_rkE (s : Sv) (f : Int) (y : Hd) (i : Nat) (th : Bool) (h : FndR (fun j => (s.H j).id) s.hn y.id i th) : keepE s f y th = rkE s f y := by
  unfold keepE rkE
  rw [hs_one]
  by_cases hr : Rgt s
  · rw [fnd_has (hs_srt hr.1.2.1.2.2) h]
  · unfold asideE
    rw [if_pos hr, if_pos hr]
end Go.Proofs.YtjlobimncpiacaaDoor
/- Keep and Free as functions of what comes in: the program's answers and the document's. -/
namespace Go.Proofs.YtjlobimncpiacaaDoor
open Go.RowKit

/-- How many there are ahead of the first that is not less. -/
def plc (f : Nat → Int) (x : Int) : Nat → Nat
  | 0 => 0
  | n + 1 => if plc f x n = n ∧ f n < x then n + 1 else plc f x n
theorem plc_spec (f : Nat → Int) (x : Int) : ∀ n, plc f x n ≤ n ∧ (∀ j, j < plc f x n → f j < x) ∧ (plc f x n < n → x ≤ f (plc f x n))
  | 0 => ⟨Nat.le_refl _, fun j hj => by simp [plc] at hj, fun h => by simp [plc] at h⟩
  | n + 1 => by
    obtain ⟨h1, h2, h3⟩ := plc_spec f x n
    unfold plc
    split
    · rename_i hc
      refine ⟨Nat.le_refl _, fun j hj => ?_, fun h => by omega⟩
      by_cases hj2 : j < n
      · exact h2 j (by omega)
      · obtain rfl : j = n := by omega
        exact hc.2
    · rename_i hc
      refine ⟨by omega, h2, fun h => ?_⟩
      by_cases hj2 : plc f x n < n
      · exact h3 hj2
      · have e : plc f x n = n := by omega
        rw [e]
        have : ¬ f n < x := fun hh => hc ⟨e, hh⟩
        omega
theorem plc_one {f : Nat → Int} {x : Int} {n i : Nat} (hi : i ≤ n) (hlo : ∀ j, j < i → f j < x) (hhi : i < n → x ≤ f i) : i = plc f x n := by
  obtain ⟨h1, h2, h3⟩ := plc_spec f x n
  rcases Nat.lt_trichotomy i (plc f x n) with h | h | h
  · have := h2 i h; have := hhi (by omega); omega
  · exact h
  · have := hlo _ h; have := h3 (by omega); omega
theorem fnd_plc {f : Nat → Int} {n i : Nat} {x : Int} {b : Bool} (hs : Srt f n) (h : FndR f n x i b) : i = plc f x n := by
  obtain ⟨h1, h2, h3⟩ := plc_spec f x n
  exact fnd_place hs h h1 h2 h3
/-- Keep as a function. -/
def keepF (s : Sv) (f : Int) (y : Hd) : Sv × Int := if rkE s f y = 0 then (keepY (asideS s f y.am) (plc (fun j => (s.H j).id) y.id s.hn) y, 0) else (sv0, rkE s f y)
/-- Free as a function. -/
def freeF (s : Sv) (id n : Int) : Sv × Int :=
  if ¬ Rgt s then (sv0, 1) else if hasB (fun j => (s.H j).id) s.hn id = false then (sv0, 8) else
    if 0 ≤ n ∧ n ≤ (s.H (plc (fun j => (s.H j).id) id s.hn)).am then (freS s (plc (fun j => (s.H j).id) id s.hn) n, 0) else (sv0, 20)
theorem rkE_rgt {s : Sv} {f : Int} {y : Hd} (h : rkE s f y = 0) : Rgt s ∧ Side f := by
  unfold rkE asideE at h
  by_cases hr : Rgt s
  · by_cases hf : Side f
    · exact ⟨hr, hf⟩
    · simp [hr, hf] at h
  · simp [hr] at h
theorem pkeep_any (s : Sv) (p : Pl) (f : Int) (y : Hd) (ka : Option Addr) (kc : Nat) (w : World) (h : SvAt w s p) (hs : s.Small) (hI : IsAt w ka y.n y.z) (hkn : ka = none → y.n = 0 ∧ kc = 0) (hyn : y.n ≤ 1000000) :
    Calls Tryd.prog 8 #[.agg (svv s p), .int .i64 f, .agg (hdv y ka kc)] w fun e w' => ∃ q, e = .returned (.tuple #[.agg (svv (keepF s f y).1 q), errV (keepF s f y).2]) ∧ SvAt w' (keepF s f y).1 q ∧ Below w.heap.size w w' := by
  refine (keep_any s p f y ka kc w h hs hI hkn hyn).mono ?_
  rintro e w' ⟨⟨i, th, hF, hR⟩, hb⟩
  have hE := keepE_rkE s f y i th hF
  rw [hE] at hR
  unfold keepF
  rcases hR with ⟨hne, rfl⟩ | ⟨h0, q, A, rfl, hO⟩
  · rw [if_neg hne]
    exact ⟨pl0, rfl, sv0_at w', hb⟩
  · rw [if_pos h0]
    have hi := fnd_plc (hs_srt (rkE_rgt h0).1.1.2.1.2.2) hF
    rw [← hi]
    exact ⟨q, rfl, hO.at, hb⟩
theorem rkeep_any (s : Sv) (p : Pl) (f : Int) (y : Hd) (ka : Option Addr) (kc : Nat) (w : World) (h : SvAt w s p) (hs : s.Small) (hI : IsAt w ka y.n y.z) (hkn : ka = none → y.n = 0 ∧ kc = 0) (hyn : y.n ≤ 1000000) (hsp : ∀ a, p.ha = some a → ∃ bb off, a = ⟨bb, off, none⟩) :
    Calls Tryd.prog 9 #[.agg (svv s p), .int .i64 f, .agg (hdv y ka kc)] w fun e w' => ∃ q, e = .returned (.tuple #[.agg (svv (keepF s f y).1 q), .int .i64 (keepF s f y).2]) ∧ SvAt w' (keepF s f y).1 q ∧ Below w.heap.size w w' := by
  by_cases h0 : rkE s f y = 0
  · have hk : Calls Tryd.prog 9 #[.agg (svv s p), .int .i64 f, .agg (hdv y ka kc)] w fun e w' => RKep s f y e w' ∧ Below w.heap.size w w' := by
      rcases (rkE_rgt h0).2 with rfl | rfl
      · exact rkeep_ok_0 s p y ka kc w h hs hI hkn hyn hsp h0
      · exact rkeep_ok_1 s p y ka kc w h hs hI hkn hyn hsp h0
    refine hk.mono ?_
    rintro e w' ⟨⟨i, hi, hlo, hhi, q, rfl, hA⟩, hb⟩
    have hp := plc_one (f := fun j => (s.H j).id) hi hlo hhi
    unfold keepF
    rw [if_pos h0, ← hp]
    exact ⟨q, rfl, hA, hb⟩
  · refine (rkeep_bad s p f y ka kc w h hs hI hkn hyn h0).mono ?_
    rintro e w' ⟨rfl, hb⟩
    unfold keepF
    rw [if_neg h0]
    exact ⟨pl0, rfl, sv0_at w', hb⟩
theorem pfree_any (s : Sv) (p : Pl) (id n : Int) (w : World) (h : SvAt w s p) (hs : s.Small) :
    Calls Tryd.prog 10 #[.agg (svv s p), .int .i64 id, .int .i64 n] w fun e w' => ∃ q, e = .returned (.tuple #[.agg (svv (freeF s id n).1 q), errV (freeF s id n).2]) ∧ SvAt w' (freeF s id n).1 q ∧ Below w.heap.size w w' := by
  unfold freeF
  by_cases hr : Rgt s
  · rw [if_neg (fun h => h hr)]
    refine (free_any s p id n w h hs hr).mono ?_
    rintro e w' ⟨⟨i, b, hF, hR⟩, hb⟩
    have hst := hs_srt hr.1.2.1.2.2
    have hh := fnd_has hst hF
    have hi := fnd_plc hst hF
    rw [← hi, ← hh]
    rcases hR with ⟨rfl, rfl⟩ | ⟨rfl, hn, rfl⟩ | ⟨rfl, hn, q, A, rfl, hO⟩
    · rw [if_pos rfl]
      exact ⟨pl0, rfl, sv0_at w', hb⟩
    · rw [if_neg (by decide), if_neg hn]
      exact ⟨pl0, rfl, sv0_at w', hb⟩
    · rw [if_neg (by decide), if_pos hn]
      exact ⟨q, rfl, hO.at, hb⟩
  · rw [if_pos hr]
    refine (free_1 s p id n w h hs hr).mono ?_
    rintro e w' ⟨rfl, hb⟩
    exact ⟨pl0, rfl, sv0_at w', hb⟩
theorem rfreeF_any (s : Sv) (p : Pl) (id n : Int) (w : World) (h : SvAt w s p) (hs : s.Small) :
    Calls Tryd.prog 11 #[.agg (svv s p), .int .i64 id, .int .i64 n] w fun e w' => ∃ q, e = .returned (.tuple #[.agg (svv (freeF s id n).1 q), .int .i64 (freeF s id n).2]) ∧ SvAt w' (freeF s id n).1 q ∧ Below w.heap.size w w' := by
  refine (rfree_any s p id n w h hs).mono ?_
  rintro e w' ⟨⟨k, hk, hR⟩, hb⟩
  unfold freeF
  rw [← hat_hasB hk]
  rcases hR with ⟨hr, rfl⟩ | ⟨hr, hk0, rfl⟩ | ⟨hr, i, rfl, hi, hn, rfl⟩ | ⟨hr, i, rfl, hi, hn, q, rfl, hA⟩
  · rw [if_pos hr]
    exact ⟨pl0, rfl, sv0_at w', hb⟩
  · rw [if_neg (fun h => h hr), if_pos (decide_eq_false (by omega))]
    exact ⟨pl0, rfl, sv0_at w', hb⟩
  all_goals
    have hst := hs_srt hr.1.2.1.2.2
    have hid : (s.H i).id = id := by
      rcases hk with ⟨h1, _⟩ | ⟨j, h1, _, h2, _⟩
      · omega
      · obtain rfl : i = j := by omega
        exact h2
    have hp : i = plc (fun j => (s.H j).id) id s.hn := plc_one (by omega) (fun j hj => by have := hst j i hj hi; dsimp only at this ⊢; omega) (fun _ => by omega)
    rw [if_neg (fun h => h hr), if_neg (by simp), ← hp]
  · rw [if_neg hn]
    exact ⟨pl0, rfl, sv0_at w', hb⟩
  · rw [if_pos hn]
    exact ⟨q, rfl, hA, hb⟩
theorem keepF_small {s : Sv} (h : s.Small) (f : Int) {y : Hd} (hy : y.n ≤ 300) : (keepF s f y).1.Small := by
  unfold keepF
  split
  · rename_i h0
    have hr := (rkE_rgt h0).1.1.2.1.1
    obtain ⟨e1, e2, e3, e4⟩ := asideS_rows s f y.am
    refine ⟨?_, fun i hi => ?_⟩
    · show (asideS s f y.am).pn + ((asideS s f y.am).hn + 1) ≤ 100
      rw [e1, e3]; omega
    · have hi' : i < s.hn + 1 := by rw [← e3]; exact hi
      show (insG (asideS s f y.am).H _ y i).n ≤ 300
      rw [e4]
      have hp := (plc_spec (fun j => (s.H j).id) y.id s.hn).1
      unfold insG
      split
      · exact h.k i (by omega)
      · split
        · exact hy
        · exact h.k (i - 1) (by omega)
  · exact sv0_small
theorem freeF_small {s : Sv} (h : s.Small) (id n : Int) : (freeF s id n).1.Small := by
  unfold freeF
  split
  · exact sv0_small
  · split
    · exact sv0_small
    · split
      · refine ⟨?_, fun i hi => ?_⟩
        · show s.pn + (s.hn - 1) ≤ 100
          have := h.n; omega
        · have hi' : i < s.hn - 1 := hi
          show (delG s.H _ i).n ≤ 300
          unfold delG
          split
          · exact h.k i (by omega)
          · exact h.k (i + 1) (by omega)
      · exact sv0_small
end Go.Proofs.YtjlobimncpiacaaDoor
/- StateHolds: what its walk wants. -/
namespace Go.Proofs.YtjlobimncpiacaaDoor
open Go.RowKit

/-- The variables of the walk: what came in, the program's state and hold. -/
structure HBx (w W : World) (s : Sv) (p q : Pl) (y : Hd) (ka : Option Addr) (kc : Nat) (ka' : Option Addr) (kc' : Nat) (n0 n1 : Int) (g7 g9 : Nat) : Prop where
  b3 : W.heap[w.heap.size]? = some (.cells #[.int .i64 s.nu, .int .i64 s.a, .int .i64 s.b, .slice p.pa s.pn p.pc, .slice p.ha s.hn p.hc] 26 (0, 0))
  b4 : W.heap[w.heap.size + 1]? = some (.cells #[.int .i64 y.id, .int .i64 y.am, .slice ka y.n kc] 29 (0, 0))
  b5 : W.heap[w.heap.size + 2]? = some (.cells #[.int .i64 n0, .int .i64 n1] 22 (0, 0))
  b7 : W.heap[g7]? = some (.cells #[.int .i64 s.nu, .int .i64 s.a, .int .i64 s.b, .slice q.pa s.pn q.pc, .slice q.ha s.hn q.hc] 35 (0, 0))
  b9 : W.heap[g9]? = some (.cells #[.int .i64 y.id, .int .i64 y.am, .slice ka' y.n kc'] 37 (0, 0))
  sp : SvAt W s p
  sq : SvAt W s q
  i1 : IsAt W ka y.n y.z
  i2 : IsAt W ka' y.n y.z
  gl : Glob W
  bw : Below w.heap.size w W
section
variable {w W : World} {s : Sv} {p q : Pl} {y : Hd} {ka ka' : Option Addr} {kc kc' : Nat} {n0 n1 : Int} {g7 g9 : Nat}
theorem HBx.below {W' : World} (h : HBx w W s p q y ka kc ka' kc' n0 n1 g7 g9) (hb : Below W.heap.size W W') : HBx w W' s p q y ka kc ka' kc' n0 n1 g7 g9 :=
  ⟨by rw [hb.block _ (lt_of_block h.b3)]; exact h.b3, by rw [hb.block _ (lt_of_block h.b4)]; exact h.b4, by rw [hb.block _ (lt_of_block h.b5)]; exact h.b5, by rw [hb.block _ (lt_of_block h.b7)]; exact h.b7, by rw [hb.block _ (lt_of_block h.b9)]; exact h.b9, h.sp.below hb, h.sq.below hb, h.i1.below hb, h.i2.below hb, h.gl.belowA hb, h.bw.trans (hb.mono h.bw.size)⟩
/-- Their cells. -/
structure HCe (w W : World) (s : Sv) (p q : Pl) (y : Hd) (ka : Option Addr) (kc : Nat) (ka' : Option Addr) (kc' : Nat) (n0 n1 : Int) (g7 g9 : Nat) : Prop where
  a0 : W.cell? ⟨w.heap.size, 0, none⟩ = some (.int .i64 s.nu)
  a1 : W.cell? ⟨w.heap.size, 1, none⟩ = some (.int .i64 s.a)
  a2 : W.cell? ⟨w.heap.size, 2, none⟩ = some (.int .i64 s.b)
  a3 : W.cell? ⟨w.heap.size, 3, none⟩ = some (.slice p.pa s.pn p.pc)
  a4 : W.cell? ⟨w.heap.size, 4, none⟩ = some (.slice p.ha s.hn p.hc)
  b0 : W.cell? ⟨w.heap.size + 1, 0, none⟩ = some (.int .i64 y.id)
  b1 : W.cell? ⟨w.heap.size + 1, 1, none⟩ = some (.int .i64 y.am)
  b2 : W.cell? ⟨w.heap.size + 1, 2, none⟩ = some (.slice ka y.n kc)
  c0 : W.cell? ⟨w.heap.size + 2, 0, none⟩ = some (.int .i64 n0)
  c1 : W.cell? ⟨w.heap.size + 2, 1, none⟩ = some (.int .i64 n1)
  d0 : W.cell? ⟨g7, 0, none⟩ = some (.int .i64 s.nu)
  d1 : W.cell? ⟨g7, 1, none⟩ = some (.int .i64 s.a)
  d2 : W.cell? ⟨g7, 2, none⟩ = some (.int .i64 s.b)
  d3 : W.cell? ⟨g7, 3, none⟩ = some (.slice q.pa s.pn q.pc)
  d4 : W.cell? ⟨g7, 4, none⟩ = some (.slice q.ha s.hn q.hc)
  e0 : W.cell? ⟨g9, 0, none⟩ = some (.int .i64 y.id)
  e1 : W.cell? ⟨g9, 1, none⟩ = some (.int .i64 y.am)
  e2 : W.cell? ⟨g9, 2, none⟩ = some (.slice ka' y.n kc')
theorem HBx.cells (h : HBx w W s p q y ka kc ka' kc' n0 n1 g7 g9) : HCe w W s p q y ka kc ka' kc' n0 n1 g7 g9 :=
  ⟨(five_of h.b3).c0, (five_of h.b3).c1, (five_of h.b3).c2, (five_of h.b3).c3, (five_of h.b3).c4,
   by rw [cell_of_row _ _ 0 _ _ _ h.b4]; rfl, by rw [cell_of_row _ _ 1 _ _ _ h.b4]; rfl, by rw [cell_of_row _ _ 2 _ _ _ h.b4]; rfl,
   by rw [cell_of_row _ _ 0 _ _ _ h.b5]; rfl, by rw [cell_of_row _ _ 1 _ _ _ h.b5]; rfl,
   (five_of h.b7).c0, (five_of h.b7).c1, (five_of h.b7).c2, (five_of h.b7).c3, (five_of h.b7).c4,
   by rw [cell_of_row _ _ 0 _ _ _ h.b9]; rfl, by rw [cell_of_row _ _ 1 _ _ _ h.b9]; rfl, by rw [cell_of_row _ _ 2 _ _ _ h.b9]; rfl⟩
end
theorem own_neT {w : World} {B T T' k n b : Nat} {v : Value} {xs : List Value} {c : Array Value} {fr : Nat × Nat} (h : w.ownsRow B T k v n xs) (hb : w.heap[b]? = some (.cells c T' fr)) (hT : T ≠ T') : v.ownBlock ≠ some b := by
  intro e
  rcases h.2 with ⟨rfl, _⟩ | ⟨g, cap, cur, rfl, _, hg, _⟩
  · cases e
  · have e1 : g = b := by simpa [Value.ownBlock] using e
    subst e1
    rw [hg] at hb
    simp at hb
    exact hT hb.2.1
theorem own_none {w : World} {B T k n cap : Nat} {ad : Option Addr} {xs : List Value} (h : w.ownsRow B T k (.slice ad n cap) n xs) (e : ad = none) : n = 0 ∧ cap = 0 := by
  obtain ⟨_, _, e2, _, h2⟩ := own_frmV h
  cases e2
  exact h2 e
/-- A hold's variable. -/
theorem run_allocQ (w : World) : (Instr.alloc 37 true (.tuple #[])).run Tryd.prog w = .ok (.pointer (some ⟨w.heap.size, 0, none⟩)) (w.alloc (.cells #[.int .i64 0, .int .i64 0, .slice none 0 0] 37)) := by kernel_rfl
theorem three_all {w : World} {b : Nat} {x0 x1 x2 u0 u1 u2 : Value} {t : TypeId} (h : w.heap[b]? = some (.cells #[x0, x1, x2] t (0, 0))) : (((w.setCell ⟨b, 0, none⟩ u0).setCell ⟨b, 1, none⟩ u1).setCell ⟨b, 2, none⟩ u2).heap[b]? = some (.cells #[u0, u1, u2] t (0, 0)) := by
  have h1 : (w.setCell ⟨b, 0, none⟩ u0).heap[b]? = some (.cells #[u0, x1, x2] t (0, 0)) := heap_setCell_same w b 0 _ t u0 h
  have h2 : ((w.setCell ⟨b, 0, none⟩ u0).setCell ⟨b, 1, none⟩ u1).heap[b]? = some (.cells #[u0, u1, x2] t (0, 0)) := heap_setCell_same _ b 1 _ t u1 h1
  exact heap_setCell_same _ b 2 _ t u2 h2
section
variable {ops : Array Oper} {o : Oper} {a : Act} {w : World} {K : Act → World → Prop} {Q : Exit → Act → World → Prop} {E : Prop}
theorem step_allocQ (hgd : o.guard = none) (ho : o.op = .alloc 37)
    (h : ∀ p w', w'.heap[p]? = some (.cells #[.int .i64 0, .int .i64 0, .slice none 0 0] 37 (0, 0)) → w.heap.size ≤ p → Below w.heap.size w w' → K (a.put o.dst (.pointer (some ⟨p, 0, none⟩))) w') : if Region.wanted o (yielded ops a.tmps) = true then Oper.wp Tryd.prog o a w K Q else E := by
  have hw : Region.wanted o (yielded ops a.tmps) = true := by simp [Region.wanted, hgd]
  rw [if_pos hw]
  unfold Oper.wp execOp
  simp only [ho, Sem.run_bind, run_allocQ, Result.andThen]
  exact h _ _ (heap_alloc_new w _) (Nat.le_refl _) ((Below.refl _ w).alloc (Nat.le_refl _) _)
theorem step_storeQ (hgd : o.guard = none) (x z : Operand) (ho : o.op = .store 37 x z) (g : Nat) (hx : a.eval x = .pointer (some ⟨g, 0, none⟩)) (u0 u1 : Int) (pa : Option Addr) (pn pc : Nat) (hz : a.eval z = .agg #[.int .i64 u0, .int .i64 u1, .slice pa pn pc]) (hg : w.heap[g]? = some (.cells #[.int .i64 0, .int .i64 0, .slice none 0 0] 37 (0, 0)))
    (h : ∀ w', w'.heap[g]? = some (.cells #[.int .i64 u0, .int .i64 u1, .slice pa pn pc] 37 (0, 0)) → Frm [g] w w' → K (a.put o.dst undef) w') : if Region.wanted o (yielded ops a.tmps) = true then Oper.wp Tryd.prog o a w K Q else E := by
  have hw : Region.wanted o (yielded ops a.tmps) = true := by simp [Region.wanted, hgd]
  rw [if_pos hw]
  refine wp_store_mid 37 x z ho g 0 #[.int .i64 u0, .int .i64 u1, .slice pa pn pc] hx hz ?_ szH (by simp [Value.oneCell']) (h _ ?_ (setCells_frm g _ 0 w))
  · intro j hj
    have hj5 : j < 3 := by simpa using hj
    exact ⟨by rw [cell_of_row w g _ _ _ _ hg, Array.getElem?_eq_getElem (by simpa using hj5)]; rfl, frozen_of_row w g _ _ _ hg⟩
  · exact three_all hg
end
/-- The rows that the last region reads. -/
structure SHo (w : World) (g1 g2 g3 g4 g5 g6 g7 g8 : Nat) (t1 t2 t3 s : Sv) (q1 q2 q3 q4 q5 q6 q7 q8 : Pl) : Prop where
  r1 : w.rangeAt g1 0 (svl t1 q1)
  r2 : w.rangeAt g2 0 (svl t1 q2)
  r3 : w.rangeAt g3 0 (svl t2 q3)
  r4 : w.rangeAt g4 0 (svl t2 q4)
  r5 : w.rangeAt g5 0 (svl t3 q5)
  r6 : w.rangeAt g6 0 (svl t3 q6)
  r7 : w.rangeAt g7 0 (svl s q7)
  r8 : w.rangeAt g8 0 (svl s q8)
theorem SHo.below {w w' : World} {g1 g2 g3 g4 g5 g6 g7 g8 : Nat} {t1 t2 t3 s : Sv} {q1 q2 q3 q4 q5 q6 q7 q8 : Pl} (h : SHo w g1 g2 g3 g4 g5 g6 g7 g8 t1 t2 t3 s q1 q2 q3 q4 q5 q6 q7 q8) (hb : Below w.heap.size w w') : SHo w' g1 g2 g3 g4 g5 g6 g7 g8 t1 t2 t3 s q1 q2 q3 q4 q5 q6 q7 q8 :=
  ⟨range_below h.r1 hb, range_below h.r2 hb, range_below h.r3 hb, range_below h.r4 hb, range_below h.r5 hb, range_below h.r6 hb, range_below h.r7 hb, range_below h.r8 hb⟩
end Go.Proofs.YtjlobimncpiacaaDoor
