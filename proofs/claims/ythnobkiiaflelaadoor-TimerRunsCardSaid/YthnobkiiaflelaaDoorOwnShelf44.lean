/- sort.pdqsort_func, whatever the less lays: the mathematics. -/
import Derived.Test.YthnobkiiaflelaaDoorOwnShelf41
import Derived.Test.YthnobkiiaflelaaDoorOwnShelf42
import Derived.Test.YthnobkiiaflelaaDoorOwnShelf43
namespace Go.Proofs.YthnobkiiaflelaaDoor
open Go.RowKit Go.Maps Go.Sort

/-- All can be told apart. -/
def TotE (n : Nat) (d : Nat → Ev) : Prop := (segA 0 n d).Pairwise fun x y => ltE x y = true ∨ ltE y x = true
theorem TotE.perm {n a b : Nat} {d d' : Nat → Ev} (h : TotE n d) (hp : PermR a b d d') (hab : a ≤ b) (hb : b ≤ n) : TotE n d' :=
  ((hp.wide (Nat.zero_le _) hb hab).perm.pairwise_iff (fun {_ _} h => h.symm)).2 h
theorem TotE.at {n : Nat} {d : Nat → Ev} (h : TotE n d) {i j : Nat} (hij : i < j) (hj : j < n) : ltE (d i) (d j) = true ∨ ltE (d j) (d i) = true := by
  have := List.pairwise_iff_getElem.1 h i j (by rw [segA_len]; omega) (by rw [segA_len]; omega) hij
  simpa [segA] using this
/-- Whoever is not between a' and b' stands where it is to stand. -/
def SortO (a b a' b' : Nat) (d : Nat → Ev) : Prop := ∀ p q, a ≤ p → p < q → q < b → ¬ (a' ≤ p ∧ q < b') → ltE (d q) (d p) = false
theorem SortO.start (a b : Nat) (d : Nat → Ev) : SortO a b a b d := fun _ _ h1 _ h3 h4 => absurd ⟨h1, h3⟩ h4
theorem SortO.perm {a b a' b' : Nat} {d d' : Nat → Ev} (h : SortO a b a' b' d) (hp : PermR a' b' d d') (h1 : a ≤ a') (h2 : b' ≤ b) : SortO a b a' b' d' := fun p q hp1 hpq hq hn => by
  by_cases ep : a' ≤ p ∧ p < b'
  · have eq : b' ≤ q := by omega
    rw [hp.out q (by omega)]
    exact hp.all (p := fun x => ltE (d q) x = false) (fun k k1 k2 => h k q (by omega) (by omega) hq (by omega)) p ep.1 ep.2
  · rw [hp.out p (by omega)]
    by_cases eq : a' ≤ q ∧ q < b'
    · exact hp.all (p := fun x => ltE x (d p) = false) (fun k k1 k2 => h p k hp1 (by omega) (by omega) (by omega)) q eq.1 eq.2
    · rw [hp.out q (by omega)]
      exact h p q hp1 hpq hq hn
theorem SortO.done {a b a' b' : Nat} {d : Nat → Ev} (h : SortO a b a' b' d) (hs : SortR a' b' d) : SortR a b d := fun p q h1 h2 h3 => by
  by_cases e : a' ≤ p ∧ q < b'
  · exact hs p q e.1 h2 e.2
  · exact h p q h1 h2 h3 e
/-- Two sides of a pivot. -/
theorem PtD.far {a b m p q : Nat} {d : Nat → Ev} (h : PtD a b m d) (h1 : a ≤ p) (hp : p ≤ m) (hq : m ≤ q) (h2 : q < b) (hpq : p < q) : ltE (d q) (d p) = false := by
  by_cases e1 : p = m
  · rw [e1]; exact h.right q (by omega) h2
  · have hl := ordE.asymm _ _ (h.left p h1 (by omega))
    by_cases e2 : q = m
    · rw [e2]; exact hl
    · exact ltE_tr hl (h.right q (by omega) h2)
theorem PtD.permL {a b m : Nat} {d d' : Nat → Ev} (h : PtD a b m d) (hp : PermR a m d d') : PtD a b m d' := by
  have em : d' m = d m := hp.out m (by omega)
  refine ⟨h.rg, fun k h1 h2 => ?_, fun k h1 h2 => ?_⟩
  · rw [em]; exact hp.all (p := fun x => ltE x (d m) = true) (fun i i1 i2 => h.left i i1 i2) k h1 h2
  · rw [em, hp.out k (by omega)]; exact h.right k h1 h2
theorem PtD.permR {a b m : Nat} {d d' : Nat → Ev} (h : PtD a b m d) (hp : PermR (m + 1) b d d') : PtD a b m d' := by
  have em : d' m = d m := hp.out m (by omega)
  refine ⟨h.rg, fun k h1 h2 => ?_, fun k h1 h2 => ?_⟩
  · rw [em, hp.out k (by omega)]; exact h.left k h1 h2
  · rw [em]; exact hp.all (p := fun x => ltE x (d m) = false) (fun i i1 i2 => h.right i (by omega) i2) k (by omega) h2
theorem SortO.right {a b a' b' m : Nat} {d : Nat → Ev} (h : SortO a b a' b' d) (hd : PtD a' b' m d) (hs : SortR a' m d) : SortO a b (m + 1) b' d := fun p q h1 h2 h3 h4 => by
  by_cases e : a' ≤ p ∧ q < b'
  · by_cases e2 : q < m
    · exact hs p q e.1 h2 e2
    · exact hd.far e.1 (by omega) (by omega) e.2 h2
  · exact h p q h1 h2 h3 e
theorem SortO.left {a b a' b' m : Nat} {d : Nat → Ev} (h : SortO a b a' b' d) (hd : PtD a' b' m d) (hs : SortR (m + 1) b' d) : SortO a b a' m d := fun p q h1 h2 h3 h4 => by
  by_cases e : a' ≤ p ∧ q < b'
  · by_cases e2 : m < p
    · exact hs p q (by omega) h2 e.2
    · exact hd.far e.1 (by omega) (by omega) e.2 h2
  · exact h p q h1 h2 h3 e
theorem PtD.low {a b m : Nat} {d : Nat → Ev} (h : PtD a b m d) : LowR (m + 1) b d := fun _ k h1 h2 => by
  rw [Nat.add_sub_cancel]; exact h.right k (by omega) h2
theorem LowR.less {a b c : Nat} {d : Nat → Ev} (h : LowR a b d) (hc : c ≤ b) : LowR a c d := fun h0 k h1 h2 => h h0 k h1 (by omega)
end Go.Proofs.YthnobkiiaflelaaDoor
/- sort.pdqsort_func, whatever the less lays: the walk. -/
namespace Go.Proofs.YthnobkiiaflelaaDoor
open Go.RowKit Go.Maps Go.Sort

attribute [local go_sem ↓] Go.wp_at_zero Go.wp_at_succ

/-- On the way: what is left is between x and y. -/
structure PqI {g : Nat} {lb : Array Value} {sf : Nat} {sb : Array Value} {n : Nat} (S : SrC g lb sf sb n) (w wr : World) (a b : Nat) (d : Nat → Ev) (x y : Nat) (dk : Nat → Ev) : Prop where
  sr : SrI S w wr w.heap.size dk
  perm : PermR a b d dk
  low : LowR x y dk
  out : SortO a b x y dk
  tot : TotE n dk
theorem PqI.move {g : Nat} {lb : Array Value} {sf : Nat} {sb : Array Value} {n : Nat} {S : SrC g lb sf sb n} {w wr w' : World} {a b : Nat} {d : Nat → Ev} {x y : Nat} {dk d2 : Nat → Ev} (h : PqI S w wr a b d x y dk) (ha : S.at_ w' d2) (hf : Fr (fun k => k = S.blk) wr w') (hp : PermR x y dk d2) (h1 : a ≤ x) (h2 : x ≤ y) (h3 : y ≤ b) (hb : b ≤ n) : PqI S w w' a b d x y d2 :=
  ⟨h.sr.swap ha hf, h.perm.trans (hp.wide h1 h3 h2), h.low.perm hp, h.out.perm hp h1 h3, h.tot.perm hp h2 (by omega)⟩
theorem PqI.still {g : Nat} {lb : Array Value} {sf : Nat} {sb : Array Value} {n : Nat} {S : SrC g lb sf sb n} {w wr w' : World} {a b : Nat} {d : Nat → Ev} {x y : Nat} {dk : Nat → Ev} (h : PqI S w wr a b d x y dk) (hb : Below wr.heap.size wr w') : PqI S w w' a b d x y dk :=
  ⟨h.sr.less hb, h.perm, h.low, h.out, h.tot⟩
theorem PqI.end_ {g : Nat} {lb : Array Value} {sf : Nat} {sb : Array Value} {n : Nat} {S : SrC g lb sf sb n} {w wr w' : World} {a b : Nat} {d : Nat → Ev} {x y : Nat} {dk d2 : Nat → Ev} (h : PqI S w wr a b d x y dk) (ha : S.at_ w' d2) (hf : Fr (fun k => k = S.blk) wr w') (hp : PermR x y dk d2) (hs : SortR x y d2) (h1 : a ≤ x) (h2 : x ≤ y) (h3 : y ≤ b) (hb : b ≤ n) : SrR S a b d w (.returned (.tuple #[])) w' := by
  have k := h.move ha hf hp h1 h2 h3 hb
  exact ⟨rfl, d2, ha, k.perm, k.out.done hs, k.sr.fr⟩
set_option maxRecDepth 100000 in
set_option maxHeartbeats 6400000 in
theorem pdq_any {g : Nat} {lb : Array Value} {sf : Nat} {sb : Array Value} {n : Nat} (S : SrC g lb sf sb n) : ∀ (len a b lim : Nat) (d : Nat → Ev) (w : World), b - a ≤ len → a ≤ b → b ≤ n → lim ≤ 100 → S.at_ w d → TotE n d → LowR a b d →
    Calls Tryd.prog 36 #[lsV g lb sf sb, .int .i64 (a : Int), .int .i64 (b : Int), .int .i64 (lim : Int)] w (SrR S a b d w) := by
  intro len
  induction len using Nat.strongRecOn with
  | _ len ih =>
  intro a b lim d w hlen hab hb hlim h hT hL
  have hfew := S.few
  have heg := S.eg
  have HIH : Hid (∀ (a' b' lim' : Nat) (d' : Nat → Ev) (w' : World), b' - a' < b - a → a' ≤ b' → b' ≤ n → lim' ≤ 100 → S.at_ w' d' → TotE n d' → LowR a' b' d' → Calls Tryd.prog 36 #[lsV g lb sf sb, .int .i64 (a' : Int), .int .i64 (b' : Int), .int .i64 (lim' : Int)] w' (SrR S a' b' d' w')) := fun a' b' lim' d' w' h1 h2 h3 h4 h5 h6 h7 => ih (b' - a') (by omega) a' b' lim' d' w' (Nat.le_refl _) h2 h3 h4 h5 h6 h7
  have H0 : Hid (PqI S w (w.alloc (.cells #[.func (.func g) #[] lb, .func (.func sf) #[] sb] 101)) a b d a b d) := ⟨SrI.start h, PermR.refl _ _ _, hL, SortO.start _ _ _, hT⟩
  clear h hT hL ih hlen
  unfold lsV
  go_enter Tryd.func36, Tryd.ntmps36
  go_wp2_with fail
  go_loopw [1, 2, 3, 8, 9] (fun va vb vl vB vP wr => ∃ (x y l : Nat) (B P : Bool) (dk : Nat → Ev), va = .int .i64 x ∧ vb = .int .i64 y ∧ vl = .int .i64 l ∧ vB = .bool B ∧ vP = .bool P ∧ (a ≤ x ∧ x ≤ y ∧ y ≤ b ∧ l ≤ 100) ∧ PqI S w wr a b d x y dk) (fun va vb _ _ _ _ => (intOf vb - intOf va).toNat)
  case atStart => exact ⟨a, b, lim, true, true, d, rfl, rfl, rfl, rfl, rfl, ⟨Nat.le_refl _, hab, Nat.le_refl _, hlim⟩, H0.out⟩
  case round =>
    clear H0
    obtain ⟨x, y, l, B, P, dk, rfl, rfl, rfl, rfl, rfl, hr, hI⟩ := hrel
    obtain ⟨z, hz⟩ : ∃ z : Nat, y - x = z := ⟨_, rfl⟩
    have hzi : (y : Int) - (x : Int) = (z : Int) := by omega
    have HI : Hid (PqI S w wr a b d x y dk) := hI
    have b0 := hI.sr.c0
    have b1 := hI.sr.c1
    have HZ : Hid (y - x = z) := hz
    clear hI hz
    by_cases h12 : z ≤ 12
    · have h12' : (z : Int) ≤ 12 := by omega
      have hc := insertion_any S x y dk wr HI.out.sr.row hr.2.1 (by omega)
      unfold lsV at hc
      go_wp2_with fail
      refine hc.mono ?_
      rintro e w2 ⟨rfl, d2, ha2, hp2, hs2, hf2⟩
      have HE : Hid (SrR S a b d w (.returned (.tuple #[])) w2) := HI.out.end_ ha2 hf2 hp2 hs2 hr.1 hr.2.1 hr.2.2.1 hb
      clear hc ha2 hp2 hs2 hf2 HI b0 b1
      go_wp2
      go_end0
      exact HE.out
    · have h12' : ¬ ((z : Int) ≤ 12) := by omega
      have hxy : x + 13 ≤ y := by have := HZ.out; omega
      by_cases hl0 : l = 0
      · subst hl0
        have hc := heapSort_any S x y dk wr HI.out.sr.row (by omega) (by omega)
        unfold lsV at hc
        go_wp2_with fail
        refine hc.mono ?_
        rintro e w2 ⟨rfl, d2, ha2, hp2, hs2, hf2⟩
        have HE : Hid (SrR S a b d w (.returned (.tuple #[])) w2) := HI.out.end_ ha2 hf2 hp2 hs2 hr.1 hr.2.1 hr.2.2.1 hb
        clear hc ha2 hp2 hs2 hf2 HI b0 b1
        go_wp2
        go_end0
        exact HE.out
      · have hl0' : ((l : Int) == 0) = false := by simpa using (by omega : ¬ (l : Int) = 0)
        have hl0'' : ¬ ((l : Int) = 0) := by omega
        go_upto_if 35 with fail
        go_cut [3] (fun v wd => ∃ (l2 : Nat) (dk : Nat → Ev), v = .int .i64 l2 ∧ l2 ≤ 100 ∧ PqI S w wd a b d x y dk)
        case first =>
          cases B with
          | true =>
            go_wp2_with fail
            go_meet
            exact ⟨l, dk, rfl, hr.2.2.2, HI.out⟩
          | false =>
            have hc := break_any S x y dk wr HI.out.sr.row hxy (by omega)
            unfold lsV at hc
            go_wp2_with fail
            refine hc.mono ?_
            rintro e w2 ⟨rfl, d2, ha2, hp2, hf2⟩
            have HN : Hid (PqI S w w2 a b d x y d2) := HI.out.move ha2 hf2 hp2 hr.1 hr.2.1 hr.2.2.1 hb
            clear hc ha2 hp2 hf2 HI b0 b1
            go_wp2_with fail
            go_meet
            exact ⟨l - 1, d2, by congr 1; omega, by omega, HN.out⟩
        case rest =>
        clear HI b0 b1
        clear dk
        obtain ⟨l2, dk, rfl, hl2, hI⟩ := hcut
        have HI : Hid (PqI S w wc a b d x y dk) := hI
        have b0 := hI.sr.c0
        have b1 := hI.sr.c1
        clear hI hl0' hl0'' hl0
        have hc := pivot_any S x y dk wc HI.out.sr.row hxy (by omega)
        unfold lsV at hc
        go_wp2_with fail
        refine hc.mono ?_
        rintro e w3 ⟨pv, hint, rfl, hpv, ha3, hb3⟩
        have HI3 : Hid (PqI S w w3 a b d x y dk) := HI.out.still hb3
        have b0 := HI3.out.sr.c0
        have b1 := HI3.out.sr.c1
        clear hc ha3 hb3 HI
        go_upto_if 50 with fail
        go_cut [11, 12] (fun v vh wd => ∃ (pv : Nat) (hint : Int) (dk : Nat → Ev), v = .int .i64 pv ∧ vh = .int .i64 hint ∧ (x ≤ pv ∧ pv < y) ∧ PqI S w wd a b d x y dk)
        case first =>
          by_cases hh : hint = 2
          · subst hh
            have hc := reverse_any S x y dk w3 HI3.out.sr.row (by omega) (by omega)
            unfold lsV at hc
            go_wp2_with fail
            refine hc.mono ?_
            rintro e w4 ⟨rfl, d4, ha4, hp4, hf4⟩
            have HN : Hid (PqI S w w4 a b d x y d4) := HI3.out.move ha4 hf4 hp4 hr.1 hr.2.1 hr.2.2.1 hb
            clear hc ha4 hp4 hf4 HI3 b0 b1
            go_wp2_with fail
            go_meet
            exact ⟨y - 1 - (pv - x), 1, d4, by congr 1; omega, rfl, ⟨by omega, by omega⟩, HN.out⟩
          · have hhb : (hint == 2) = false := by simpa using hh
            go_wp2_with fail
            go_meet
            exact ⟨pv, hint, dk, rfl, rfl, hpv, HI3.out⟩
        case rest =>
        clear HI3 b0 b1 hpv
        clear dk pv hint
        obtain ⟨pv, hint, dk, rfl, rfl, hpv, hI⟩ := hcut
        have HI : Hid (PqI S w wc a b d x y dk) := hI
        have b0 := hI.sr.c0
        have b1 := hI.sr.c1
        clear hI
        go_upto_region 16 with fail
        go_cut [68] (fun v wd => wd = wc ∧ ∃ c : Bool, v = .bool c)
        case first =>
          by_cases hh : hint = 1
          · subst hh
            cases B <;> cases P <;> (go_wp2_with fail; go_meet; exact ⟨rfl, _, rfl⟩)
          · have hhb : (hint == 1) = false := by simpa using hh
            cases B <;> cases P <;> (go_wp2_with fail; go_meet; exact ⟨rfl, _, rfl⟩)
        case rest =>
        obtain ⟨rfl, c, rfl⟩ := hcut
        go_upto_if 68 with fail
        go_cut [] (fun wd => ∃ dk : Nat → Ev, PqI S w wd a b d x y dk)
        case first =>
          cases c with
          | false =>
            go_wp2_with fail
            go_meet
            exact ⟨dk, HI.out⟩
          | true =>
            have hc := partial_any S x y dk wc HI.out.sr.row (by omega) (by omega) HI.out.low
            unfold lsV at hc
            go_wp2_with fail
            refine hc.mono ?_
            rintro e w4 ⟨r, d4, rfl, ha4, hp4, hs4, hf4⟩
            cases r with
            | true =>
              have HE : Hid (SrR S a b d w (.returned (.tuple #[])) w4) := HI.out.end_ ha4 hf4 hp4 (hs4 rfl) hr.1 hr.2.1 hr.2.2.1 hb
              clear hc ha4 hp4 hs4 hf4 HI b0 b1
              go_wp2_with fail
              go_end0
              exact HE.out
            | false =>
              have HN : Hid (PqI S w w4 a b d x y d4) := HI.out.move ha4 hf4 hp4 hr.1 hr.2.1 hr.2.2.1 hb
              clear hc ha4 hp4 hs4 hf4 HI b0 b1
              go_wp2_with fail
              go_meet
              exact ⟨d4, HN.out⟩
        case rest =>
        clear HI b0 b1
        clear dk
        obtain ⟨dk, hI⟩ := hcut
        have HI : Hid (PqI S w wc a b d x y dk) := hI
        have b0 := hI.sr.c0
        have b1 := hI.sr.c1
        clear hI
        go_upto_region 18 with fail
        go_cut [83] (fun v wd => v = .bool false ∧ PqI S w wd a b d x y dk)
        case first =>
          by_cases hx0 : 0 < x
          · have hx0' : (0 : Int) < x := by omega
            have hl := S.less wc dk (x - 1) pv HI.out.sr.row (by omega) (by omega)
            rw [show (((x - 1 : Nat) : Int)) = (x : Int) - 1 by omega] at hl
            have hlv : ltE (dk (x - 1)) (dk pv) = true := by
              rcases HI.out.tot.at (i := x - 1) (j := pv) (by omega) (by omega) with h | h
              · exact h
              · rw [HI.out.low hx0 pv hpv.1 hpv.2] at h; cases h
            rw [hlv] at hl
            go_wp2_with fail
            refine hl.mono ?_
            rintro e w5 ⟨rfl, hb5⟩
            have HN : Hid (PqI S w w5 a b d x y dk) := HI.out.still hb5
            clear hl hlv hb5 HI b0 b1
            go_wp2_with fail
            go_meet
            exact ⟨rfl, HN.out⟩
          · have hx0' : ¬ ((0 : Int) < x) := by omega
            go_wp2_with fail
            go_meet
            exact ⟨rfl, HI.out⟩
        case rest =>
        clear HI b0 b1
        obtain ⟨rfl, hI⟩ := hcut
        have HI : Hid (PqI S w wc a b d x y dk) := hI
        have b0 := hI.sr.c0
        have b1 := hI.sr.c1
        clear hI
        have hc := partition_any S x y pv dk wc HI.out.sr.row (by omega) (by omega) hpv
        unfold lsV at hc
        go_wp2_with fail
        refine hc.mono ?_
        rintro e w6 ⟨m, al, d6, rfl, ha6, hp6, hd6, hf6⟩
        have HI6 : Hid (PqI S w w6 a b d x y d6 ∧ PtD x y m d6) := ⟨HI.out.move ha6 hf6 hp6 hr.1 hr.2.1 hr.2.2.1 hb, hd6⟩
        have hrg := hd6.rg
        have b0 := HI6.out.1.sr.c0
        have b1 := HI6.out.1.sr.c1
        obtain ⟨lf, hlf⟩ : ∃ lf : Nat, m - x = lf := ⟨_, rfl⟩
        obtain ⟨rg, hrgg⟩ : ∃ rg : Nat, y - m = rg := ⟨_, rfl⟩
        have hlfi : (m : Int) - (x : Int) = (lf : Int) := by omega
        have hrgi : (y : Int) - (m : Int) = (rg : Int) := by omega
        have hqi : (z : Int).tdiv 8 = ((z / 8 : Nat) : Int) := by rw [Int.tdiv_eq_ediv_of_nonneg (by omega)]; omega
        obtain ⟨q8, hq8⟩ : ∃ q8 : Nat, z / 8 = q8 := ⟨_, rfl⟩
        rw [hq8] at hqi
        clear hc ha6 hp6 hd6 hf6 HI hlf hrgg hq8
        by_cases hlr : lf < rg
        · have hlr' : (lf : Int) < rg := by omega
          have hc := HIH.out x m l2 d6 w6 (by omega) (by omega) (by omega) hl2 HI6.out.1.sr.row HI6.out.1.tot (HI6.out.1.low.less (by omega))
          unfold lsV at hc
          go_wp2_with fail
          refine hc.mono ?_
          rintro e w7 ⟨rfl, d7, ha7, hp7, hs7, hf7⟩
          have HN : Hid (PqI S w w7 a b d (m + 1) y d7) := by
            have k := HI6.out.1.move ha7 hf7 (hp7.wide (Nat.le_refl _) (by omega) hrg.1) hr.1 hr.2.1 hr.2.2.1 hb
            have kd := HI6.out.2.permL hp7
            exact ⟨k.sr, k.perm, kd.low, k.out.right kd hs7, k.tot⟩
          clear hc ha7 hp7 hs7 hf7 HI6 b0 b1
          go_wp2
          go_roundw
          case rel => exact ⟨m + 1, y, l2, _, al, d7, by go_num, rfl, rfl, rfl, rfl, ⟨by omega, by omega, by omega, hl2⟩, HN.out⟩
          case measure => simp [intOf]; omega
        · have hlr' : ¬ ((lf : Int) < rg) := by omega
          have hc := HIH.out (m + 1) y l2 d6 w6 (by omega) (by omega) (by omega) hl2 HI6.out.1.sr.row HI6.out.1.tot HI6.out.2.low
          rw [show (((m + 1 : Nat) : Int)) = (m : Int) + 1 by omega] at hc
          unfold lsV at hc
          go_wp2_with fail
          refine hc.mono ?_
          rintro e w7 ⟨rfl, d7, ha7, hp7, hs7, hf7⟩
          have HN : Hid (PqI S w w7 a b d x m d7) := by
            have k := HI6.out.1.move ha7 hf7 (hp7.wide (by omega) (Nat.le_refl _) (by omega)) hr.1 hr.2.1 hr.2.2.1 hb
            have kd := HI6.out.2.permR hp7
            exact ⟨k.sr, k.perm, k.low.less (by omega), k.out.left kd hs7, k.tot⟩
          clear hc ha7 hp7 hs7 hf7 HI6 b0 b1
          go_wp2
          go_roundw
          case rel => exact ⟨x, m, l2, _, al, d7, rfl, rfl, rfl, rfl, rfl, ⟨by omega, by omega, by omega, hl2⟩, HN.out⟩
          case measure => simp [intOf]; omega
end Go.Proofs.YthnobkiiaflelaaDoor
