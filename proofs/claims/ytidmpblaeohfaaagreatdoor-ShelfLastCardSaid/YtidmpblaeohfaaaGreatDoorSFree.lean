/- Which places are free. -/
import Derived.Test.YtidmpblaeohfaaaGreatDoorSGet
import Derived.Test.YtidmpblaeohfaaaGreatDoorSIow
import Derived.Maps.RangeWalk
namespace Go.Proofs.YtidmpblaeohfaaaGreatDoor
open Go.RowKit Go.Maps Go.Sort

attribute [local go_sem ↓] Go.wp_at_zero Go.wp_at_succ

def heldB (L : List Lf) (i : Nat) : Bool := L.any fun x => x.p == i
/-- The places of those leaves that have come. -/
def cameB (L : List Lf) (left : Lit → Bool) (i : Nat) : Bool := L.any fun x => x.p == i && !left (.string x.k)
theorem cameB_end {L : List Lf} {left : Lit → Bool} (h : ∀ kl, left kl = false) : cameB L left = heldB L := by
  funext i; simp [cameB, heldB, h]
theorem cameB_start (L : List Lf) : cameB L (Maps.has (dOf Lf.k Lf.en L)) = toldK [] := by
  funext i
  simp only [cameB, toldK, List.contains_nil, List.any_eq_false]
  intro x hx
  have : Maps.has (dOf Lf.k Lf.en L) (.string x.k) = true := by
    rw [dOf_has]
    cases e : getK Lf.k x.k L with
    | none => exact absurd rfl ((getK_none Lf.k).1 e x hx)
    | some y => rfl
  simp [this]
theorem cameB_step {L : List Lf} (hr : Rise Lf.k L) {left : Lit → Bool} {k : List UInt8} {x : Lf} (hx : getK Lf.k k L = some x) (n : Nat) :
    (tl (cameB L left) n).set x.p (.bool true) = tl (cameB L (fun z => left z && !z.sameKey (.string k))) n := by
  obtain ⟨hm, hk⟩ := getK_mem Lf.k hx
  unfold tl
  apply List.ext_getElem
  · simp
  · intro j h1 h2
    rw [List.getElem_set]
    simp only [List.getElem_map, List.getElem_range]
    split
    · rename_i e
      subst e
      congr 1
      symm
      simp only [cameB, List.any_eq_true]
      exact ⟨x, hm, by simp [Lit.sameKey, hk]⟩
    · rename_i e
      congr 1
      unfold cameB
      apply Bool.eq_iff_iff.2
      simp only [List.any_eq_true]
      constructor
      · rintro ⟨y, hy, h⟩
        refine ⟨y, hy, ?_⟩
        simp at h ⊢
        exact ⟨h.1, .inl h.2⟩
      · rintro ⟨y, hy, h⟩
        refine ⟨y, hy, ?_⟩
        simp [Lit.sameKey] at h ⊢
        refine ⟨h.1, ?_⟩
        cases hl : left (.string y.k) with
        | false => rfl
        | true =>
          have := h.2.resolve_left (by simp [hl])
          have : y = x := hr.inj Lf.k hy hm (this.trans hk.symm)
          subst this
          exact absurd h.1 e
/-- The free places below q. -/
def frL (L : List Lf) (q : Nat) : List Int := ((List.range' 1 (q - 1)).filter fun i => !heldB L i).map fun x : Nat => (x : Int)
theorem frL_one (L : List Lf) : frL L 1 = [] := rfl
theorem frL_succ (L : List Lf) {q : Nat} (hq : 1 ≤ q) : frL L (q + 1) = frL L q ++ (if heldB L q then [] else [(q : Int)]) := by
  unfold frL
  obtain ⟨r, rfl⟩ : ∃ r, q = r + 1 := ⟨q - 1, by omega⟩
  rw [show r + 1 + 1 - 1 = r + 1 from rfl, show r + 1 - 1 = r from rfl, List.range'_concat, List.filter_append, List.map_append]
  congr 1
  rw [show 1 + 1 * r = r + 1 from by omega]
  cases h : heldB L (r + 1) <;> simp [h]
theorem frL_le (L : List Lf) (q : Nat) : (frL L q).length ≤ q := by
  unfold frL
  rw [List.length_map]
  have := List.length_filter_le (fun i => !heldB L i) (List.range' 1 (q - 1))
  simp at this
  omega
/-- What comes out of a map of leaves. -/
theorem lf_came {L : List Lf} {x : List UInt8} {c : Nat × List UInt8} {kl : Lit} {y : DataW Unit × List MemPlace} (hkey : keyOf Tryz.prog 9 (encStr x) = some kl) (hv : lfR (.agg #[.int .i64 (c.1 : Int), encStr c.2]) = some y)
    (hat : ∀ zd, (dOf Lf.k Lf.en L).atKey kl zd = y.1) : kl = .string x ∧ ∃ f, getK Lf.k x L = some f ∧ f.p = c.1 ∧ f.v = c.2 := by
  obtain ⟨x', e, rfl, _⟩ := Maps.keyOf_str Tryz.underlying9 hkey
  obtain rfl := encStr_inj e
  have e1 : y = (lfD c.1 c.2, []) := Option.some.inj (hv.symm.trans (lfR_mk c.1 c.2))
  subst e1
  have h1 := hat .nil
  rw [dOf_at] at h1
  refine ⟨rfl, ?_⟩
  cases hg : getK Lf.k x L with
  | none => rw [hg] at h1; cases h1
  | some f => rw [hg] at h1; have := lfD_inj h1; exact ⟨f, rfl, this⟩
/-- While the map is gone over: the block hb holds what has come. -/
structure FrI (w wr : World) (n : Nat) (L : List Lf) (left : Lit → Bool) : Prop where
  at_ : wr.heap[w.heap.size]? = some (.cells (tl (cameB L left) n).toArray 4 (0, 0))
  below : Below w.heap.size w wr
set_option maxRecDepth 100000 in
set_option maxHeartbeats 1600000 in
theorem free_any (sh m p fr n : Nat) (L : List Lf) (dead : Int) (w : World) (h : ShAt w sh m p fr n L dead) :
    Calls Tryz.prog 46 #[.pointer (some ⟨sh, 0, none⟩)] w fun e w' => ∃ v, e = .returned v ∧ IOw w w' v (frL L n) := by
  have c2 := h.c2
  have c3 := h.c3
  have hn := h.count
  have lsh := h.lt
  have lm := h.ltm
  have hmk := make_told n (by omega) w
  have HH : Hid (ShAt w sh m p fr n L dead) := h
  clear h
  have hs1 : (w.alloc (.cells (tl (toldK []) n).toArray 4)).heap.size = w.heap.size + 1 := by simp
  have hb1 : Below w.heap.size w (w.alloc (.cells (tl (toldK []) n).toArray 4)) := (Below.refl _ w).alloc (Nat.le_refl _) _
  have hown : (w.alloc (.cells (tl (toldK []) n).toArray 4)).ownsMap Tryz.prog 9 lfR m L.length (dOf Lf.k Lf.en L) := owns_keepB HH.out.map (hb1.block m lm)
  have hat : (w.alloc (.cells (tl (toldK []) n).toArray 4)).heap[w.heap.size]? = some (.cells (tl (toldK []) n).toArray 4 (0, 0)) := heap_alloc_new w _
  go_enter Tryz.func46, Tryz.ntmps46
  go_wp2_with (first | (at_range; refine wpList_range_own _ rfl _ 81 rfl 9 101 strK Tryz.underlying81 _ m L.length _ rfl hown ?_; intro w2 hrg0 hg0 hs0) | fail)
  go_frame
  rw [hs1] at hrg0 hs0 ⊢
  have hI0 : FrI w w2 n L (Maps.has (dOf Lf.k Lf.en L)) := by
    refine ⟨?_, hb1.grown hg0 (by simp) (fun k e => by cases e)⟩
    rw [cameB_start, hg0.block _ (by simp) (by simp)]
    exact hat
  clear hown hat hg0 hmk
  go_loopw [5] (fun _ wr => ∃ (left : Lit → Bool) (cnt : Nat), wr.ranges Tryz.prog 9 lfR m (w.heap.size + 1) L.length (dOf Lf.k Lf.en L) left cnt ∧ FrI w wr n L left) (fun _ wr => wr.rangeLeft m (w.heap.size + 1))
  case atStart => exact ⟨_, _, hrg0, hI0⟩
  case round =>
    clear hrg0 hI0 hs0
    obtain ⟨left, cnt, hrg, hI⟩ := hrel
    have HI : Hid (FrI w wr n L left) := hI
    clear hI
    go_wp2_with (first | (at_next; refine wpList_next_ranges _ rfl _ rfl 9 strK lfR encStr (fun c : Nat × List UInt8 => Value.agg #[.int .i64 (c.1 : Int), encStr c.2]) (fun key kl hk => key_inv hk) (fun v y hv => lfR_val hv) m (w.heap.size + 1) L.length _ left cnt rfl hrg ?_ ?_) | fail)
    · intro hc0 hl0
      have hat := HI.out.at_
      rw [cameB_end hl0] at hat
      have HB : Hid (Below w.heap.size w wr) := HI.out.below
      have c2' : wr.cell? ⟨sh, 2, none⟩ = some (.int .i64 (n : Int)) := by rw [HB.out.cell (p := ⟨sh, 2, none⟩) lsh]; exact c2
      have HT : Hid (wr.heap[w.heap.size]? = some (.cells (tl (heldB L) n).toArray 4 (0, 0))) := hat
      clear hat HI hrg hl0 c2 c3 hs1 hb1
      generalize wr = wo at *
      go_wp2
      go_loopw [6, 7] (fun v iv wq => ∃ q : Nat, 1 ≤ q ∧ q ≤ n ∧ iv = .int .i64 q ∧ IOw wo wq v (frL L q)) (fun _ iv _ => n - (intOf iv).toNat)
      case atStart => exact ⟨1, Nat.le_refl _, by omega, rfl, IOw.nil wo⟩
      case round =>
        obtain ⟨q, hq1, hqn, rfl, hO⟩ := hrel
        have HO : Hid (IOw wo wr u6 (frL L q)) := hO
        clear hO
        have hlo : w.heap.size < wo.heap.size := lt_of_block HT.out
        have c2q : wr.cell? ⟨sh, 2, none⟩ = some (.int .i64 (n : Int)) := by rw [HO.out.below.cell (p := ⟨sh, 2, none⟩) (Nat.lt_of_lt_of_le lsh HB.out.size)]; exact c2'
        by_cases hlt : q < n
        · have hlt' : (q : Int) < n := by omega
          have ch : wr.cell? ⟨w.heap.size, q, none⟩ = some (.bool (heldB L q)) := by
            rw [HO.out.below.cell (p := ⟨w.heap.size, q, none⟩) hlo, cell_of_row wo _ q _ _ _ HT.out]
            simpa using tl_at hlt
          have hle := frL_le L q
          have hsc := frL_succ L hq1
          cases hh : heldB L q with
          | true =>
            rw [hh] at ch hsc
            simp only [if_true, List.append_nil] at hsc
            have HS : Hid (frL L (q + 1) = frL L q) := hsc
            clear hsc
            go_wp2
            refine ⟨⟨q + 1, by omega, by omega, by go_num, by rw [HS.out]; exact HO.out⟩, by simp [intOf]; omega⟩
          | false =>
            rw [hh] at ch hsc
            have hsc' : frL L (q + 1) = frL L q ++ [(q : Int)] := by simpa using hsc
            have HS : Hid (frL L (q + 1) = frL L q ++ [(q : Int)]) := hsc'
            clear hsc'
            clear hsc
            go_wp2_with (first | (at_builtin; refine wpList_append_I rfl _ _ rfl wo u6 _ (frL L q) [(q : Int)] rfl rfl (HO.out.alloc _) (one_isrc (heap_alloc_new wr _)) (by simp; omega) ?_; intro v1 w1 hO1) | fail)
            refine ⟨⟨q + 1, by omega, by omega, by go_num, by rw [HS.out]; exact hO1⟩, by simp [intOf]; omega⟩
        · obtain rfl : q = n := by omega
          have hlt' : ¬ ((q : Int) < q) := by omega
          go_wp2
          go_ret
          exact ⟨u6, rfl, HO.out.mono HB.out⟩
    · intro x cp cv kl yd yp w3 cnt3 hkey hlk hv hat hrg3 hlt hg3 hs3 hen
      obtain ⟨rfl, f, hgf, hfp, hfv⟩ := lf_came (c := (cp, cv)) (y := (yd, yp)) hkey hv hat
      have hpl := HH.out.ok.place f (getK_mem Lf.k hgf).1
      have hb3 : Below w.heap.size w w3 := HI.out.below.grown hg3 HI.out.below.size (fun k e => by cases e; omega)
      have hat3 : w3.heap[w.heap.size]? = some (.cells (tl (cameB L left) n).toArray 4 (0, 0)) := by rw [hg3.block _ (lt_of_block HI.out.at_) (by simp)]; exact HI.out.at_
      have l3 := lt_of_block hat3
      simp only at hfp hfv
      subst hfp
      have hpn : (f.p : Int) < n := by omega
      have ck : (w3.alloc (.cells #[.int .i64 (f.p : Int), encStr cv] 101)).cell? ⟨w.heap.size, f.p, none⟩ = some (.bool (cameB L left f.p)) := by
        rw [World.cell?_alloc_lt _ _ ⟨w.heap.size, f.p, none⟩ l3, cell_of_row w3 _ f.p _ _ _ hat3]
        simpa using tl_at hpl.2
      have fk : (w3.alloc (.cells #[.int .i64 (f.p : Int), encStr cv] 101)).frozen? ⟨w.heap.size, f.p, none⟩ = false := frozen_of_row _ _ _ _ _ ((Below.heap_alloc _ _ _ l3).trans hat3)
      have hne : m ≠ w.heap.size := by omega
      have hrl := hrg3.lt
      have hbE : Below w3.heap.size w3 (w3.alloc (.cells #[.int .i64 (f.p : Int), encStr cv] 101)) := (Below.refl _ w3).alloc (Nat.le_refl _) _
      have hE : FrI w ((w3.alloc (.cells #[.int .i64 (f.p : Int), encStr cv] 101)).setCell ⟨w.heap.size, f.p, none⟩ (.bool true)) n L (fun z => left z && !z.sameKey (.string x)) := by
        refine ⟨?_, (hb3.alloc hb3.size _).setCell (p := ⟨w.heap.size, f.p, none⟩) (Nat.le_refl _) _⟩
        rw [heap_setCell_same _ _ _ _ _ _ ((Below.heap_alloc _ _ _ l3).trans hat3), ← cameB_step HH.out.ok.rise hgf]
        congr 2
        apply Array.toList_inj.1
        simp
      have hrE : ((w3.alloc (.cells #[.int .i64 (f.p : Int), encStr cv] 101)).setCell ⟨w.heap.size, f.p, none⟩ (.bool true)).ranges Tryz.prog 9 lfR m (w.heap.size + 1) L.length (dOf Lf.k Lf.en L) (fun z => left z && !z.sameKey (.string x)) cnt3 :=
        ranges_keepB hrg3 ((Below.heap_setCell _ _ _ _ (by simpa using hne)).trans (Below.heap_alloc _ _ _ hrg3.owns.lt)) ((Below.heap_setCell _ _ _ _ (by simp)).trans (Below.heap_alloc _ _ _ hrl))
      have HE : Hid (FrI w ((w3.alloc (.cells #[.int .i64 (f.p : Int), encStr cv] 101)).setCell ⟨w.heap.size, f.p, none⟩ (.bool true)) n L (fun z => left z && !z.sameKey (.string x)) ∧ ((w3.alloc (.cells #[.int .i64 (f.p : Int), encStr cv] 101)).setCell ⟨w.heap.size, f.p, none⟩ (.bool true)).ranges Tryz.prog 9 lfR m (w.heap.size + 1) L.length (dOf Lf.k Lf.en L) (fun z => left z && !z.sameKey (.string x)) cnt3) := ⟨hE, hrE⟩
      clear hE hrE hrg3 hat3 hg3 hb3 hbE hat hv hkey hgf
      have hms : cnt3 < wr.rangeLeft m (w.heap.size + 1) := by rw [hrg.left_eq]; exact hlt
      clear hrg
      go_wp2
      refine ⟨⟨_, _, HE.out.2, HE.out.1⟩, ?_⟩
      rw [HE.out.2.left_eq]
      exact hms
set_option maxHeartbeats 800000 in
theorem free_cnt (sh m p fr n : Nat) (L : List Lf) (dead : Int) (w : World) (h : ShAt w sh m p fr n L dead) :
    Calls Tryz.prog 18 #[.pointer (some ⟨sh, 0, none⟩)] w fun e w' => e = .returned (.int .i64 (frL L n).length) ∧ Below w.heap.size w w' := by
  have hf := free_any sh m p fr n L dead w h
  clear h
  go_enter Tryz.func18, Tryz.ntmps18
  go_wp2_with fail
  refine hf.mono ?_
  rintro e w1 ⟨v, rfl, hO⟩
  obtain ⟨ad, cap, rfl, -, -⟩ := hO.sl
  go_wp2
  go_ret
  exact ⟨rfl, hO.below⟩
theorem free_nil (w : World) : Calls Tryz.prog 18 #[.pointer none] w fun e w' => e = .returned (.int .i64 0) ∧ w' = w := by
  go_enter Tryz.func18, Tryz.ntmps18
  go_wp2
  go_ret
  exact ⟨rfl, rfl⟩
end Go.Proofs.YtidmpblaeohfaaaGreatDoor
