/- What changes, by rising keys. -/
import Derived.Test.YtmekplaonlpfkaaGreatDoorOwnShelfApart07
import Derived.Shelf.SlSortCmp.NoneTotal
import Derived.Test.YtmekplaonlpfkaaGreatDoorOwnShelfApart06
import Derived.Maps.RangeWalk
import Derived.Deep.RegionHeld
import Derived.Deep.CutBlock
import Derived.Deep.DeepCutAuto
namespace Go.Proofs.YtmekplaonlpfkaaGreatDoor
open Go.RowKit Go.Shelf Go.Maps Go.Sort Go.Lib

attribute [local go_sem ↓] Go.wp_at_zero Go.wp_at_succ

def cfC (x y : Cg) : Int := Lib.compareBytes x.k y.k
theorem ltC (x y : Cg) : ltOf cfC x y = bytesBefore x.k y.k := by
  unfold ltOf cfC
  rw [compare_before]
  cases h : bytesBefore x.k y.k
  · cases bytesBefore y.k x.k <;> simp
  · simp
theorem swoC : SWO (ltOf cfC) where
  irrefl x := by rw [ltC]; exact before_irrefl _
  trans x y z h1 h2 := by rw [ltC] at *; exact WideShapes.bytes_trans _ _ _ h1 h2
  ntrans x y z h1 h2 := by
    rw [ltC] at *
    rw [before_lt] at *
    simp only [decide_eq_false_iff_not, List.not_lt] at *
    exact List.le_trans h2 h1
set_option maxHeartbeats 1000000 in
theorem chg2_any (x y : Cg) (W : World) : Calls Tryz.prog 75 #[.agg #[encStr x.k, encStr x.v, .bool x.g], .agg #[encStr y.k, encStr y.v, .bool y.g]] W fun e w' => e = .returned (.int .i64 (cfC x y)) ∧ ∃ q os', w' = grow (W.drewN q) os' := by
  have hcon := fun W' => Any.strings_Compare Tryz.lCompare ⟨x.k.toArray⟩ ⟨y.k.toArray⟩ W'
  change ∀ W', Calls Tryz.prog 76 #[encStr x.k, encStr y.k] W' _ at hcon
  have e1 : Lib.compareBytes (⟨x.k.toArray⟩ : ByteArray).data.toList (⟨y.k.toArray⟩ : ByteArray).data.toList = cfC x y := rfl
  rw [e1] at hcon
  generalize cfC x y = r at hcon ⊢
  go_enter Tryz.func75, Tryz.ntmps75
  go_wp2_with (go_at_call 76; refine (hcon _).mono ?_; rintro e w' ⟨rfl, rfl⟩)
  go_ret
  exact ⟨rfl, 0, _, by rw [alloc_eq_grow, alloc_eq_grow, grow_grow]; rfl⟩
theorem cmpLaysC (blk off size : Nat) (w : World) : CmpLays Tryz.prog 75 #[] cgL 3 cfC blk off size w :=
  fun _ _ _ _ x y => chg2_any x y _
theorem cgL_one (x : Cg) : ∀ v ∈ cgL x, v.oneCell' = true := by
  intro v hv
  simp [cgL] at hv
  rcases hv with rfl | rfl | rfl <;> rfl
theorem perm_rise {C : List Cg} (hr : Rise Cg.k C) {d' : List Cg} (hp : d'.Perm C) (hs : d'.Pairwise fun x y => ltOf cfC y x = false) : d' = C := by
  have h1 : Rise Cg.k d' := by
    unfold Rise
    have hn : (d'.map Cg.k).Nodup := (hp.map Cg.k).nodup_iff.2 hr.nodupC
    rw [List.Nodup, List.pairwise_map] at hn
    refine (hs.and hn).imp fun {a b} h => ?_
    have h2 := h.1
    rw [ltC] at h2
    exact before_of_not h2 (fun e => h.2 e.symm)
  exact h1.ext Cg.k hr fun x => hp.mem_iff
/-- Changes that lie somewhere. -/
def CgAt (w : World) (ad : Option Addr) (C : List Cg) : Prop := 0 < C.length → ∃ b off, ad = some ⟨b, off, none⟩ ∧ ∀ j x, C[j]? = some x →
  w.cell? ⟨b, off + j * 3, none⟩ = some (encStr x.k) ∧ w.cell? ⟨b, off + j * 3 + 1, none⟩ = some (encStr x.v) ∧ w.cell? ⟨b, off + j * 3 + 2, none⟩ = some (.bool x.g)
theorem CgAt.lt {w : World} {ad : Option Addr} {C : List Cg} (h : CgAt w ad C) {a : Addr} (e : ad = some a) (hn : 0 < C.length) : a.block < w.heap.size := by
  obtain ⟨b, off, rfl, hc⟩ := h hn
  cases e
  exact World.block_lt_of_cell? w _ (hc 0 _ (List.getElem?_eq_getElem hn)).1
theorem CgAt.keep {w w' : World} {ad : Option Addr} {C : List Cg} (h : CgAt w ad C) (hk : ∀ a, ad = some a → 0 < C.length → w'.heap[a.block]? = w.heap[a.block]?) : CgAt w' ad C := fun hn => by
  obtain ⟨b, off, rfl, hc⟩ := h hn
  refine ⟨b, off, rfl, fun j x hx => ?_⟩
  have e := hk ⟨b, off, none⟩ rfl hn
  rw [World.cell?_of_block (a := ⟨b, off + j * 3, none⟩) e, World.cell?_of_block (a := ⟨b, off + j * 3 + 1, none⟩) e, World.cell?_of_block (a := ⟨b, off + j * 3 + 2, none⟩) e]
  exact hc j x hx
theorem CgAt.below {w w' : World} {ad : Option Addr} {C : List Cg} (h : CgAt w ad C) (hb : Below w.heap.size w w') : CgAt w' ad C := h.keep fun _ e hn => hb.block _ (h.lt e hn)
theorem flatC_get : ∀ (C : List Cg) (j i : Nat) (x : Cg), C[j]? = some x → i < 3 → (flatC C)[j * 3 + i]? = (cgL x)[i]?
  | [], j, _, _, h, _ => by simp at h
  | y :: r, 0, i, x, h, hi => by
    simp at h; subst h
    rw [flatC, List.flatMap_cons, Nat.zero_mul, Nat.zero_add, List.getElem?_append_left (by simpa [cgL] using hi)]
  | y :: r, j + 1, i, x, h, hi => by
    have := flatC_get r j i x (by simpa using h) hi
    rw [flatC, List.flatMap_cons, List.getElem?_append_right (by simp [cgL]; omega)]
    rw [flatC] at this
    rw [← this]
    congr 1
    simp [cgL]; omega
theorem flat_eq (C : List Cg) : flatK cgL 3 C.toArray = (flatC C).toArray := by
  refine ext_get! (by simp [flatC_length]) fun t ht => ?_
  have ht' : t < C.length * 3 := by simpa using ht
  rw [get_flatK _ _ _ _ (by simpa using ht')]
  have h1 : t / 3 < C.length := by omega
  have h2 := flatC_get C (t / 3) (t % 3) C[t / 3] (List.getElem?_eq_getElem h1) (by omega)
  rw [show t / 3 * 3 + t % 3 = t from by omega] at h2
  have h3 : C.toArray[t / 3]! = C[t / 3] := by simp [h1]
  rw [h3]
  simp only [List.getElem!_toArray, List.getElem!_eq_getElem?_getD]
  rw [h2]
theorem row_holds {w : World} {B g cap n : Nat} {C : List Cg} (h : w.ownsRow B 70 3 (.slice (some ⟨g, 0, none⟩) n cap) C.length (flatC C)) : HoldsK cgL 3 w g 0 C.toArray := by
  rcases h.2 with ⟨e, _⟩ | ⟨g', cap', cur, e, hb, hg, rest⟩
  · cases e
  · cases e
    unfold HoldsK
    rw [flat_eq]
    intro j hj
    have hj' : j < (flatC C).length := by simpa using hj
    refine ⟨?_, by rw [Nat.zero_add]; exact frozen_of_row w g j _ _ hg⟩
    have := h.cells (g := g) rfl j (flatC C)[j] (List.getElem?_eq_getElem hj')
    rw [Addr.add_lit] at this
    rw [this]
    simp [hj']
theorem holds_at {w : World} {g : Nat} {C : List Cg} (h : HoldsK cgL 3 w g 0 C.toArray) : CgAt w (some ⟨g, 0, none⟩) C := fun _ => by
  refine ⟨g, 0, rfl, fun j x hx => ?_⟩
  unfold HoldsK at h
  rw [flat_eq] at h
  have hj : j < C.length := (List.getElem?_eq_some_iff.1 hx).1
  have key : ∀ i, i < 3 → w.cell? ⟨g, 0 + (j * 3 + i), none⟩ = some ((cgL x)[i]!) := fun i hi => by
    have h1 := (h (j * 3 + i) (by simp [flatC_length]; omega)).1
    rw [h1]
    have h2 := flatC_get C j i x hx hi
    simp only [List.getElem!_toArray, List.getElem!_eq_getElem?_getD, id]
    rw [h2]
  have k0 := key 0 (by omega)
  have k1 := key 1 (by omega)
  have k2 := key 2 (by omega)
  exact ⟨by simpa [cgL] using k0, by rw [Nat.add_assoc]; simpa [cgL] using k1, by rw [Nat.add_assoc]; simpa [cgL] using k2⟩
theorem sortK_below {w : World} {g off n : Nat} {d : Array Cg} {os : Array Obj} {B : Nat} (hB : B ≤ g) (hg : g < w.heap.size) : Below B w (sortWorldK cgL 3 w g off n d os) := by
  unfold sortWorldK putRowK
  refine ⟨rfl, rfl, rfl, by simp, fun k hk => ?_⟩
  rw [heap_grow_old _ _ (by simp; omega)]
  simp only [putRow, mapBlock, heap_ahead]
  rw [Array.getElem?_modify, if_neg (by omega)]
theorem sortF_any (g cap B : Nat) (xs C : List Cg) (hp : xs.Perm C) (hr : Rise Cg.k C) (hl : C.length ≤ 1000000) (w : World) (hH : HoldsK cgL 3 w g 0 xs.toArray) (hg : g < w.heap.size) (hB : B ≤ g) :
    Calls Tryz.prog 104 #[.slice (some ⟨g, 0, none⟩) xs.length cap, .func (.func 75) #[] #[]] w fun e w' => e = .returned (.tuple #[]) ∧ CgAt w' (some ⟨g, 0, none⟩) C ∧ Below B w w' := by
  have hxl : xs.length = C.length := hp.length_eq
  have eg : ∀ args w, (callFunc 75 args).run Tryz.prog w = .ok (.enter 75 args) w := enters_of Tryz.func75 (by kernel_rfl) rfl
  have hcon := AnyQ.slices_SortFunc Tryz.lSortF 3 Tryz.isAgg70 Tryz.sizeOf70 cgL (fun _ => rfl) cgL_one cfC swoC 75 #[] g 0 cap xs.toArray w eg (cmpLaysC g 0 xs.toArray.size w) hH hg (by simp; omega)
  change Calls Tryz.prog 104 _ _ _ at hcon
  have e0 : xs.toArray.size = xs.length := rfl
  rw [e0] at hcon
  refine hcon.mono ?_
  rintro e w' ⟨rfl, d', n, os, hpi, hs, rfl⟩
  obtain ⟨hsz, _, hpp⟩ := hpi
  have hd : d'.toList = C := by
    apply perm_rise hr
    · have h1 : (d'.extract 0 xs.length).toList = d'.toList := by rw [← e0, ← hsz]; simp
      have h2 : (xs.toArray.extract 0 xs.length).toList = xs := by simp
      rw [h1, h2] at hpp
      exact hpp.trans hp
    · rw [List.pairwise_iff_getElem]
      intro i j hi hj hij
      have := hs i j (Nat.zero_le _) hij (by rw [← e0, ← hsz]; simpa using hj)
      have hi' : i < d'.size := by simpa using hi
      have hj' : j < d'.size := by simpa using hj
      rw [getElem!_pos d' j hj', getElem!_pos d' i hi'] at this
      simpa using this
  refine ⟨rfl, ?_, sortK_below hB hg⟩
  rw [← hd]
  have := holdsK_sortWorldK_c cgL 3 w g 0 xs.toArray d' n os hH hg hsz
  exact holds_at (by simpa using this)
/-- What is told: a slice of its own. -/
def CgR (w : World) (C : List Cg) (e : Ending) (w' : World) : Prop := ∃ ad cap, e = .returned (.slice ad C.length cap) ∧ CgAt w' ad C ∧ (∀ a, ad = some a → w.heap.size ≤ a.block) ∧ Below w.heap.size w w'
set_option maxHeartbeats 1000000 in
theorem sortedF_any (Bm b : Nat) (C : List Cg) (hr : Rise Cg.k C) (hl : C.length ≤ 1000000) (w : World) (hm : w.cell? ⟨Bm, 0, none⟩ = some (.map (some b))) (hown : cgM w b C) :
    Calls Tryz.prog 73 #[.func (.func 105) #[] #[.pointer (some ⟨Bm, 0, none⟩)], .func (.func 75) #[] #[]] w (CgR w C) := by
  have hc := collect_any Bm b C hr hl w hm hown
  clear hm hown
  go_enter Tryz.func73, Tryz.ntmps73
  go_wp2_with fail
  refine hc.mono ?_
  rintro e w1 ⟨v, xs, rfl, hp, hrow, hb⟩
  have hxl : xs.length = C.length := hp.length_eq
  have H : (v = .slice none 0 0 ∧ C = []) ∨ ∃ g cap, v = .slice (some ⟨g, 0, none⟩) xs.length cap ∧ HoldsK cgL 3 w1 g 0 xs.toArray ∧ g < w1.heap.size ∧ w.heap.size ≤ g := by
    rcases hrow.2 with ⟨rfl, e⟩ | ⟨g, cap, cur, rfl, hbs, hg, rest⟩
    · exact .inl ⟨rfl, List.eq_nil_of_length_eq_zero (by omega)⟩
    · exact .inr ⟨g, cap, rfl, row_holds hrow, lt_of_block hg, hbs⟩
  clear hrow hc
  rcases H with ⟨rfl, rfl⟩ | ⟨g, cap, rfl, hH, hg, hbs⟩
  · have hcon := AnyF.slices_SortFunc_none (P := Tryz.prog) (ρ := Tryz.lSortF_ren) { Tryz.lSortF with } none 0 (.func (.func 75) #[] #[]) w1
    change Calls Tryz.prog 104 _ _ _ at hcon
    go_wp2_with fail
    refine hcon.mono ?_
    rintro e w2 ⟨rfl, rfl⟩
    go_wp2
    go_ret
    exact ⟨none, 0, rfl, (fun h => by cases h), (fun a h => by cases h), hb⟩
  · have hcon := sortF_any g cap w.heap.size xs C hp hr hl w1 hH hg hbs
    clear hH
    rw [hxl] at hcon ⊢
    go_wp2_with fail
    refine hcon.mono ?_
    rintro e w2 ⟨rfl, hat, hb2⟩
    go_wp2
    go_ret
    exact ⟨_, cap, rfl, hat, (fun a h => by cases h; exact hbs), hb.trans hb2⟩
end Go.Proofs.YtmekplaonlpfkaaGreatDoor
/- Which places are free. -/
namespace Go.Proofs.YtmekplaonlpfkaaGreatDoor
open Go.RowKit Go.Maps Go.Sort

attribute [local go_sem ↓] Go.wp_at_zero Go.wp_at_succ

def heldB (L : List Lf) (i : Nat) : Bool := L.any fun x => x.p == i
/-- The places of those leaves that have come. -/
def cameB (L : List Lf) (left : Lit → Bool) (i : Nat) : Bool := L.any fun x => x.p == i && !left (.string x.k)
theorem cameB_end {L : List Lf} {left : Lit → Bool} (h : ∀ kl, left kl = false) : cameB L left = heldB L := by
  funext i; simp [cameB, heldB, h]
theorem cameB_start (L : List Lf) : cameB L (Maps.has (dOf Lf.k Lf.en L)) = toldK [] := by
  funext i
  simp only [cameB, toldK, List.contains_nil, List.any_eq_false]
  intro x hx
  have : Maps.has (dOf Lf.k Lf.en L) (.string x.k) = true := by
    rw [dOf_has]
    cases e : getK Lf.k x.k L with
    | none => exact absurd rfl ((getK_none Lf.k).1 e x hx)
    | some y => rfl
  simp [this]
theorem cameB_step {L : List Lf} (hr : Rise Lf.k L) {left : Lit → Bool} {k : List UInt8} {x : Lf} (hx : getK Lf.k k L = some x) (n : Nat) :
    (tl (cameB L left) n).set x.p (.bool true) = tl (cameB L (fun z => left z && !z.sameKey (.string k))) n := by
  obtain ⟨hm, hk⟩ := getK_mem Lf.k hx
  unfold tl
  apply List.ext_getElem
  · simp
  · intro j h1 h2
    rw [List.getElem_set]
    simp only [List.getElem_map, List.getElem_range]
    split
    · rename_i e
      subst e
      congr 1
      symm
      simp only [cameB, List.any_eq_true]
      exact ⟨x, hm, by simp [Lit.sameKey, hk]⟩
    · rename_i e
      congr 1
      unfold cameB
      apply Bool.eq_iff_iff.2
      simp only [List.any_eq_true]
      constructor
      · rintro ⟨y, hy, h⟩
        refine ⟨y, hy, ?_⟩
        simp at h ⊢
        exact ⟨h.1, .inl h.2⟩
      · rintro ⟨y, hy, h⟩
        refine ⟨y, hy, ?_⟩
        simp [Lit.sameKey] at h ⊢
        refine ⟨h.1, ?_⟩
        cases hl : left (.string y.k) with
        | false => rfl
        | true =>
          have := h.2.resolve_left (by simp [hl])
          have : y = x := hr.inj Lf.k hy hm (this.trans hk.symm)
          subst this
          exact absurd h.1 e
/-- The free places below q. -/
def frL (L : List Lf) (q : Nat) : List Int := ((List.range' 1 (q - 1)).filter fun i => !heldB L i).map fun x : Nat => (x : Int)
theorem frL_one (L : List Lf) : frL L 1 = [] := rfl
theorem frL_succ (L : List Lf) {q : Nat} (hq : 1 ≤ q) : frL L (q + 1) = frL L q ++ (if heldB L q then [] else [(q : Int)]) := by
  unfold frL
  obtain ⟨r, rfl⟩ : ∃ r, q = r + 1 := ⟨q - 1, by omega⟩
  rw [show r + 1 + 1 - 1 = r + 1 from rfl, show r + 1 - 1 = r from rfl, List.range'_concat, List.filter_append, List.map_append]
  congr 1
  rw [show 1 + 1 * r = r + 1 from by omega]
  cases h : heldB L (r + 1) <;> simp [h]
theorem frL_le (L : List Lf) (q : Nat) : (frL L q).length ≤ q := by
  unfold frL
  rw [List.length_map]
  have := List.length_filter_le (fun i => !heldB L i) (List.range' 1 (q - 1))
  simp at this
  omega
/-- What comes out of a map of leaves. -/
theorem lf_came {L : List Lf} {x : List UInt8} {c : Nat × List UInt8} {kl : Lit} {y : DataW Unit × List MemPlace} (hkey : keyOf Tryz.prog 9 (encStr x) = some kl) (hv : lfR (.agg #[.int .i64 (c.1 : Int), encStr c.2]) = some y)
    (hat : ∀ zd, (dOf Lf.k Lf.en L).atKey kl zd = y.1) : kl = .string x ∧ ∃ f, getK Lf.k x L = some f ∧ f.p = c.1 ∧ f.v = c.2 := by
  obtain ⟨x', e, rfl, _⟩ := Maps.keyOf_str Tryz.underlying9 hkey
  obtain rfl := encStr_inj e
  have e1 : y = (lfD c.1 c.2, []) := Option.some.inj (hv.symm.trans (lfR_mk c.1 c.2))
  subst e1
  have h1 := hat .nil
  rw [dOf_at] at h1
  refine ⟨rfl, ?_⟩
  cases hg : getK Lf.k x L with
  | none => rw [hg] at h1; cases h1
  | some f => rw [hg] at h1; have := lfD_inj h1; exact ⟨f, rfl, this⟩
/-- While the map is gone over: the block hb holds what has come. -/
structure FrI (w wr : World) (n : Nat) (L : List Lf) (left : Lit → Bool) : Prop where
  at_ : wr.heap[w.heap.size]? = some (.cells (tl (cameB L left) n).toArray 4 (0, 0))
  below : Below w.heap.size w wr
set_option maxRecDepth 100000 in
set_option maxHeartbeats 1600000 in
theorem free_any (sh m p fr n : Nat) (L : List Lf) (dead : Int) (w : World) (h : ShAt w sh m p fr n L dead) :
    Calls Tryz.prog 46 #[.pointer (some ⟨sh, 0, none⟩)] w fun e w' => ∃ v, e = .returned v ∧ IOw w w' v (frL L n) := by
  have c2 := h.c2
  have c3 := h.c3
  have hn := h.count
  have lsh := h.lt
  have lm := h.ltm
  have hmk := make_told n (by omega) w
  have HH : Hid (ShAt w sh m p fr n L dead) := h
  clear h
  have hs1 : (w.alloc (.cells (tl (toldK []) n).toArray 4)).heap.size = w.heap.size + 1 := by simp
  have hb1 : Below w.heap.size w (w.alloc (.cells (tl (toldK []) n).toArray 4)) := (Below.refl _ w).alloc (Nat.le_refl _) _
  have hown : (w.alloc (.cells (tl (toldK []) n).toArray 4)).ownsMap Tryz.prog 9 lfR m L.length (dOf Lf.k Lf.en L) := owns_keepB HH.out.map (hb1.block m lm)
  have hat : (w.alloc (.cells (tl (toldK []) n).toArray 4)).heap[w.heap.size]? = some (.cells (tl (toldK []) n).toArray 4 (0, 0)) := heap_alloc_new w _
  go_enter Tryz.func46, Tryz.ntmps46
  go_wp2_with (first | (at_range; refine wpList_range_own _ rfl _ 81 rfl 9 101 strK Tryz.underlying81 _ m L.length _ rfl hown ?_; intro w2 hrg0 hg0 hs0) | fail)
  go_frame
  rw [hs1] at hrg0 hs0 ⊢
  have hI0 : FrI w w2 n L (Maps.has (dOf Lf.k Lf.en L)) := by
    refine ⟨?_, hb1.grown hg0 (by simp) (fun k e => by cases e)⟩
    rw [cameB_start, hg0.block _ (by simp) (by simp)]
    exact hat
  clear hown hat hg0 hmk
  go_loopw [5] (fun _ wr => ∃ (left : Lit → Bool) (cnt : Nat), wr.ranges Tryz.prog 9 lfR m (w.heap.size + 1) L.length (dOf Lf.k Lf.en L) left cnt ∧ FrI w wr n L left) (fun _ wr => wr.rangeLeft m (w.heap.size + 1))
  case atStart => exact ⟨_, _, hrg0, hI0⟩
  case round =>
    clear hrg0 hI0 hs0
    obtain ⟨left, cnt, hrg, hI⟩ := hrel
    have HI : Hid (FrI w wr n L left) := hI
    clear hI
    go_wp2_with (first | (at_next; refine wpList_next_ranges _ rfl _ rfl 9 strK lfR encStr (fun c : Nat × List UInt8 => Value.agg #[.int .i64 (c.1 : Int), encStr c.2]) (fun key kl hk => key_inv hk) (fun v y hv => lfR_val hv) m (w.heap.size + 1) L.length _ left cnt rfl hrg ?_ ?_) | fail)
    · intro hc0 hl0
      have hat := HI.out.at_
      rw [cameB_end hl0] at hat
      have HB : Hid (Below w.heap.size w wr) := HI.out.below
      have c2' : wr.cell? ⟨sh, 2, none⟩ = some (.int .i64 (n : Int)) := by rw [HB.out.cell (p := ⟨sh, 2, none⟩) lsh]; exact c2
      have HT : Hid (wr.heap[w.heap.size]? = some (.cells (tl (heldB L) n).toArray 4 (0, 0))) := hat
      clear hat HI hrg hl0 c2 c3 hs1 hb1
      generalize wr = wo at *
      go_wp2
      go_loopw [6, 7] (fun v iv wq => ∃ q : Nat, 1 ≤ q ∧ q ≤ n ∧ iv = .int .i64 q ∧ IOw wo wq v (frL L q)) (fun _ iv _ => n - (intOf iv).toNat)
      case atStart => exact ⟨1, Nat.le_refl _, by omega, rfl, IOw.nil wo⟩
      case round =>
        obtain ⟨q, hq1, hqn, rfl, hO⟩ := hrel
        have HO : Hid (IOw wo wr u6 (frL L q)) := hO
        clear hO
        have hlo : w.heap.size < wo.heap.size := lt_of_block HT.out
        have c2q : wr.cell? ⟨sh, 2, none⟩ = some (.int .i64 (n : Int)) := by rw [HO.out.below.cell (p := ⟨sh, 2, none⟩) (Nat.lt_of_lt_of_le lsh HB.out.size)]; exact c2'
        by_cases hlt : q < n
        · have hlt' : (q : Int) < n := by omega
          have ch : wr.cell? ⟨w.heap.size, q, none⟩ = some (.bool (heldB L q)) := by
            rw [HO.out.below.cell (p := ⟨w.heap.size, q, none⟩) hlo, cell_of_row wo _ q _ _ _ HT.out]
            simpa using tl_at hlt
          have hle := frL_le L q
          have hsc := frL_succ L hq1
          cases hh : heldB L q with
          | true =>
            rw [hh] at ch hsc
            simp only [if_true, List.append_nil] at hsc
            have HS : Hid (frL L (q + 1) = frL L q) := hsc
            clear hsc
            go_wp2
            refine ⟨⟨q + 1, by omega, by omega, by go_num, by rw [HS.out]; exact HO.out⟩, by simp [intOf]; omega⟩
          | false =>
            rw [hh] at ch hsc
            have hsc' : frL L (q + 1) = frL L q ++ [(q : Int)] := by simpa using hsc
            have HS : Hid (frL L (q + 1) = frL L q ++ [(q : Int)]) := hsc'
            clear hsc'
            clear hsc
            go_wp2_with (first | (at_builtin; refine wpList_append_I rfl _ _ rfl wo u6 _ (frL L q) [(q : Int)] rfl rfl (HO.out.alloc _) (one_isrc (heap_alloc_new wr _)) (by simp; omega) ?_; intro v1 w1 hO1) | fail)
            refine ⟨⟨q + 1, by omega, by omega, by go_num, by rw [HS.out]; exact hO1⟩, by simp [intOf]; omega⟩
        · obtain rfl : q = n := by omega
          have hlt' : ¬ ((q : Int) < q) := by omega
          go_wp2
          go_ret
          exact ⟨u6, rfl, HO.out.mono HB.out⟩
    · intro x cp cv kl yd yp w3 cnt3 hkey hlk hv hat hrg3 hlt hg3 hs3 hen
      obtain ⟨rfl, f, hgf, hfp, hfv⟩ := lf_came (c := (cp, cv)) (y := (yd, yp)) hkey hv hat
      have hpl := HH.out.ok.place f (getK_mem Lf.k hgf).1
      have hb3 : Below w.heap.size w w3 := HI.out.below.grown hg3 HI.out.below.size (fun k e => by cases e; omega)
      have hat3 : w3.heap[w.heap.size]? = some (.cells (tl (cameB L left) n).toArray 4 (0, 0)) := by rw [hg3.block _ (lt_of_block HI.out.at_) (by simp)]; exact HI.out.at_
      have l3 := lt_of_block hat3
      simp only at hfp hfv
      subst hfp
      have hpn : (f.p : Int) < n := by omega
      have ck : (w3.alloc (.cells #[.int .i64 (f.p : Int), encStr cv] 101)).cell? ⟨w.heap.size, f.p, none⟩ = some (.bool (cameB L left f.p)) := by
        rw [World.cell?_alloc_lt _ _ ⟨w.heap.size, f.p, none⟩ l3, cell_of_row w3 _ f.p _ _ _ hat3]
        simpa using tl_at hpl.2
      have fk : (w3.alloc (.cells #[.int .i64 (f.p : Int), encStr cv] 101)).frozen? ⟨w.heap.size, f.p, none⟩ = false := frozen_of_row _ _ _ _ _ ((Below.heap_alloc _ _ _ l3).trans hat3)
      have hne : m ≠ w.heap.size := by omega
      have hrl := hrg3.lt
      have hbE : Below w3.heap.size w3 (w3.alloc (.cells #[.int .i64 (f.p : Int), encStr cv] 101)) := (Below.refl _ w3).alloc (Nat.le_refl _) _
      have hE : FrI w ((w3.alloc (.cells #[.int .i64 (f.p : Int), encStr cv] 101)).setCell ⟨w.heap.size, f.p, none⟩ (.bool true)) n L (fun z => left z && !z.sameKey (.string x)) := by
        refine ⟨?_, (hb3.alloc hb3.size _).setCell (p := ⟨w.heap.size, f.p, none⟩) (Nat.le_refl _) _⟩
        rw [heap_setCell_same _ _ _ _ _ _ ((Below.heap_alloc _ _ _ l3).trans hat3), ← cameB_step HH.out.ok.rise hgf]
        congr 2
        apply Array.toList_inj.1
        simp
      have hrE : ((w3.alloc (.cells #[.int .i64 (f.p : Int), encStr cv] 101)).setCell ⟨w.heap.size, f.p, none⟩ (.bool true)).ranges Tryz.prog 9 lfR m (w.heap.size + 1) L.length (dOf Lf.k Lf.en L) (fun z => left z && !z.sameKey (.string x)) cnt3 :=
        ranges_keepB hrg3 ((Below.heap_setCell _ _ _ _ (by simpa using hne)).trans (Below.heap_alloc _ _ _ hrg3.owns.lt)) ((Below.heap_setCell _ _ _ _ (by simp)).trans (Below.heap_alloc _ _ _ hrl))
      have HE : Hid (FrI w ((w3.alloc (.cells #[.int .i64 (f.p : Int), encStr cv] 101)).setCell ⟨w.heap.size, f.p, none⟩ (.bool true)) n L (fun z => left z && !z.sameKey (.string x)) ∧ ((w3.alloc (.cells #[.int .i64 (f.p : Int), encStr cv] 101)).setCell ⟨w.heap.size, f.p, none⟩ (.bool true)).ranges Tryz.prog 9 lfR m (w.heap.size + 1) L.length (dOf Lf.k Lf.en L) (fun z => left z && !z.sameKey (.string x)) cnt3) := ⟨hE, hrE⟩
      clear hE hrE hrg3 hat3 hg3 hb3 hbE hat hv hkey hgf
      have hms : cnt3 < wr.rangeLeft m (w.heap.size + 1) := by rw [hrg.left_eq]; exact hlt
      clear hrg
      go_wp2
      refine ⟨⟨_, _, HE.out.2, HE.out.1⟩, ?_⟩
      rw [HE.out.2.left_eq]
      exact hms
set_option maxHeartbeats 800000 in
theorem free_cnt (sh m p fr n : Nat) (L : List Lf) (dead : Int) (w : World) (h : ShAt w sh m p fr n L dead) :
    Calls Tryz.prog 18 #[.pointer (some ⟨sh, 0, none⟩)] w fun e w' => e = .returned (.int .i64 (frL L n).length) ∧ Below w.heap.size w w' := by
  have hf := free_any sh m p fr n L dead w h
  clear h
  go_enter Tryz.func18, Tryz.ntmps18
  go_wp2_with fail
  refine hf.mono ?_
  rintro e w1 ⟨v, rfl, hO⟩
  obtain ⟨ad, cap, rfl, -, -⟩ := hO.sl
  go_wp2
  go_ret
  exact ⟨rfl, hO.below⟩
theorem free_nil (w : World) : Calls Tryz.prog 18 #[.pointer none] w fun e w' => e = .returned (.int .i64 0) ∧ w' = w := by
  go_enter Tryz.func18, Tryz.ntmps18
  go_wp2
  go_ret
  exact ⟨rfl, rfl⟩
end Go.Proofs.YtmekplaonlpfkaaGreatDoor
/- The changes of a list that change something. -/
namespace Go.Proofs.YtmekplaonlpfkaaGreatDoor
open Go.RowKit Go.Shelf Go.Maps Go.Sort Go.Lib

attribute [local go_sem ↓] Go.wp_at_zero Go.wp_at_succ

/-- The last change of each key. -/
def lastL (cs : List Cg) : List Cg := cs.foldl (fun m c => putK Cg.k c m) []
theorem lastL_snoc (cs : List Cg) (c : Cg) : lastL (cs ++ [c]) = putK Cg.k c (lastL cs) := by simp [lastL]
theorem lastL_rise (cs : List Cg) : Rise Cg.k (lastL cs) := by
  suffices h : ∀ (cs m : List Cg), Rise Cg.k m → Rise Cg.k (cs.foldl (fun m c => putK Cg.k c m) m) from h cs [] List.Pairwise.nil
  intro cs
  induction cs with
  | nil => intro m h; exact h
  | cons c r ih => intro m h; exact ih _ (h.put Cg.k)
theorem putK_le {α : Type} (key : α → List UInt8) (x : α) (l : List α) : (putK key x l).length ≤ l.length + 1 := by
  rw [putK, insK_length]
  have : (delK key (key x) l).length ≤ l.length := List.length_filter_le _ _
  omega
theorem lastL_le (cs : List Cg) : (lastL cs).length ≤ cs.length := by
  suffices h : ∀ (cs m : List Cg), (cs.foldl (fun m c => putK Cg.k c m) m).length ≤ m.length + cs.length from by simpa [lastL] using h cs []
  intro cs
  induction cs with
  | nil => intro m; simp
  | cons c r ih =>
    intro m
    have h1 := ih (putK Cg.k c m)
    have h2 := putK_le Cg.k c m
    simp only [List.foldl_cons, List.length_cons]
    omega
theorem lastL_mem {cs : List Cg} {c : Cg} (h : c ∈ lastL cs) : c ∈ cs := by
  suffices H : ∀ (cs m : List Cg), c ∈ cs.foldl (fun m c => putK Cg.k c m) m → c ∈ m ∨ c ∈ cs from (H cs [] h).resolve_left (by simp)
  intro cs
  induction cs with
  | nil => intro m h; exact .inl h
  | cons d r ih =>
    intro m h
    rcases ih _ h with h | h
    · rcases (mem_putK Cg.k).1 h with rfl | h
      · exact .inr (List.mem_cons_self ..)
      · exact .inl h.1
    · exact .inr (List.mem_cons_of_mem _ h)
def todoL (L : List Lf) (cs : List Cg) : List Cg := (lastL cs).filter fun c => !sameC L c
theorem todoL_rise (L : List Lf) (cs : List Cg) : Rise Cg.k (todoL L cs) := (lastL_rise cs).filter Cg.k _
theorem todoL_mem {L : List Lf} {cs : List Cg} {c : Cg} (h : c ∈ todoL L cs) : c ∈ cs := lastL_mem (List.mem_filter.1 h).1
theorem todoL_le (L : List Lf) (cs : List Cg) : (todoL L cs).length ≤ cs.length := Nat.le_trans (List.length_filter_le _ _) (lastL_le cs)
/-- What a list of changes may be. -/
def COk (cs : List Cg) : Prop := cs.length ≤ 1000 ∧ ∀ x ∈ cs, x.k.length ≤ 100000 ∧ x.v.length ≤ 100000
/-- Behind i changes. -/
structure LsI (w wr : World) (sh i : Nat) (cs : List Cg) : Prop where
  map : cgM wr (w.heap.size + 1) (lastL (cs.take i))
  box : wr.heap[w.heap.size]? = some (.cells #[.pointer (some ⟨sh, 0, none⟩)] 31 (0, 0))
  below : Below w.heap.size w wr
set_option maxRecDepth 100000 in
set_option maxHeartbeats 1600000 in
theorem changes_any (sh m p fr n : Nat) (L : List Lf) (dead : Int) (ad : Option Addr) (cap : Nat) (cs : List Cg) (w : World) (h : ShAt w sh m p fr n L dead) (hc : CgAt w ad cs) (hok : COk cs) :
    Calls Tryz.prog 44 #[.pointer (some ⟨sh, 0, none⟩), .slice ad cs.length cap] w (CgR w (todoL L cs)) := by
  have HH : Hid (ShAt w sh m p fr n L dead) := h
  have HC : Hid (CgAt w ad cs) := hc
  have HO : Hid (COk cs) := hok
  have hl0 := hok.1
  have hmk := @run_makeMap Tryz.prog
  clear h hc hok
  have hI0 : LsI w ((w.alloc (.cells #[.pointer (some ⟨sh, 0, none⟩)] 31)).alloc (.map #[] 0)) sh 0 cs := by
    refine ⟨?_, (Below.heap_alloc _ _ _ (by simp)).trans (heap_alloc_new w _), ((Below.refl _ w).alloc (Nat.le_refl _) _).alloc (by simp) _⟩
    have := World.ownsMap_made (w.alloc (.cells #[.pointer (some ⟨sh, 0, none⟩)] 31)) Tryz.prog 9 cgR
    rw [World.size_alloc] at this
    exact cgM.of this
  go_enter Tryz.func44, Tryz.ntmps44
  go_wp2
  go_loopw [11] (fun iv wr => ∃ i : Nat, i ≤ cs.length ∧ iv = .int .i64 i ∧ LsI w wr sh i cs) (fun iv _ => cs.length - (intOf iv).toNat)
  case atStart => exact ⟨0, Nat.zero_le _, rfl, hI0⟩
  case round =>
    clear hI0 hmk
    obtain ⟨i, hi, rfl, hI⟩ := hrel
    have HI : Hid (LsI w wr sh i cs) := hI
    clear hI
    by_cases hlt : i < cs.length
    · have hlt' : (i : Int) < cs.length := by omega
      have hx : cs[i]? = some cs[i] := List.getElem?_eq_getElem hlt
      have hxm : cs[i] ∈ cs := List.getElem_mem hlt
      have htk : cs.take (i + 1) = cs.take i ++ [cs[i]] := (List.take_append_getElem hlt).symm
      obtain ⟨b, off, rfl, hcz⟩ := HC.out (by omega)
      have hcx := hcz i _ hx
      have hxk := (HO.out.2 _ hxm).1
      generalize cs[i] = x at *
      have hb : b < w.heap.size := World.block_lt_of_cell? w _ hcx.1
      have d0 : wr.cell? ⟨b, off + i * 3, none⟩ = some (encStr x.k) := (HI.out.below.cell (p := ⟨b, off + i * 3, none⟩) hb).trans hcx.1
      have d1 : wr.cell? ⟨b, off + i * 3 + 1, none⟩ = some (encStr x.v) := (HI.out.below.cell (p := ⟨b, off + i * 3 + 1, none⟩) hb).trans hcx.2.1
      have d2 : wr.cell? ⟨b, off + i * 3 + 2, none⟩ = some (.bool x.g) := (HI.out.below.cell (p := ⟨b, off + i * 3 + 2, none⟩) hb).trans hcx.2.2
      have hle := lastL_le (cs.take i)
      have hown : (wr.alloc (.cells #[encStr x.k, encStr x.v, .bool x.g] 70)).ownsMap Tryz.prog 9 cgR (w.heap.size + 1) (lastL (cs.take i)).length (dOf Cg.k Cg.en (lastL (cs.take i))) := World.ownsMap.alloc HI.out.map _
      have hkey := key_str (k := x.k) (by unfold maxLen; omega)
      have hval : cgR (.agg #[encStr x.k, encStr x.v, .bool x.g]) = some (x.en, []) := cgR_mk x
      have hrm : (lastL (cs.take i)).length < maxLen := by simp at hle; unfold maxLen; omega
      have HN : Hid (∀ w1, w1.ownsMap Tryz.prog 9 cgR (w.heap.size + 1) ((lastL (cs.take i)).length + 1) ((dOf Cg.k Cg.en (lastL (cs.take i))).put (.string x.k) x.en) → (wr.alloc (.cells #[encStr x.k, encStr x.v, .bool x.g] 70)).grownBy w1 (some (w.heap.size + 1)) → LsI w w1 sh (i + 1) cs) := fun w1 h1 h2 => by
        have hs := lt_of_block HI.out.box
        have hgr : wr.grownBy w1 (some (w.heap.size + 1)) := (World.grownBy_alloc wr _ (some (w.heap.size + 1))).andThen h2 (fun j e => .inr e)
        refine ⟨?_, by rw [hgr.block _ hs (by simp)]; exact HI.out.box, HI.out.below.grown hgr HI.out.below.size (fun k e => by cases e; omega)⟩
        rw [htk, lastL_snoc]
        rw [dOf_put Cg.k Cg.en x] at h1
        exact cgM.of h1
      clear hcz hcx hx hxm htk
      generalize lastL (cs.take i) = M at *
      generalize x.en = D at *
      generalize x.k = ck at *
      generalize x.v = cv at *
      generalize x.g = cg at *
      go_wp2_with (first | (at_mapUpdate; refine wpList_mapUpdate_own _ rfl _ _ _ 142 rfl 9 70 strK Tryz.underlying142 _ (w.heap.size + 1) _ _ rfl hown hrm _ _ (.string ck) rfl rfl hkey D [] hval ?_; intro w1 hown1 hgrow1) | fail)
      refine ⟨⟨i + 1, by omega, by go_num, HN.out w1 hown1 hgrow1⟩, by simp [intOf]; omega⟩
    · obtain rfl : i = cs.length := by omega
      have hlt' : ¬ ((cs.length : Int) < cs.length) := by omega
      have hmap := HI.out.map
      rw [List.take_length] at hmap
      have hbx := HI.out.box
      have hbl := HI.out.below
      have lsh := HH.out.lt
      have lm := HH.out.ltm
      have hdl := delFunc_any (sameC L) (w.heap.size + 1) (.pointer (some ⟨w.heap.size, 0, none⟩)) (lastL cs) wr hmap (fun W x hx hg => by
        have e0 : ∀ k, k < w.heap.size → W.heap[k]? = w.heap[k]? := fun k hk => by
          rw [hg.block k (Nat.lt_of_lt_of_le hk hbl.size) (by simp; omega)]
          exact hbl.block k hk
        refine (chg1_any sh m p fr n w.heap.size L dead x W (HH.out.keep (e0 sh lsh) (e0 m lm)) ?_ ?_).mono ?_
        · have := (HO.out.2 x (lastL_mem hx)).1; unfold maxLen; omega
        · have hb' : W.heap[w.heap.size]? = some (.cells #[.pointer (some ⟨sh, 0, none⟩)] 31 (0, 0)) := by rw [hg.block _ (lt_of_block hbx) (by simp)]; exact hbx
          rw [cell_of_row W _ 0 _ _ _ hb']; rfl
        · rintro e w' ⟨rfl, hb⟩
          exact ⟨rfl, below_grown hb⟩)
      have HB : Hid (Below w.heap.size w wr) := hbl
      have htl : (todoL L cs).length ≤ 1000000 := by have := todoL_le L cs; omega
      clear HI hmap hbx hbl HC HO
      go_wp2_with fail
      refine hdl.mono ?_
      rintro e w1 ⟨rfl, hm1, hg1⟩
      have hb1 : Below w.heap.size w w1 := HB.out.grown hg1 HB.out.size (fun k e => by cases e; omega)
      have HB1 : Hid (Below w.heap.size w w1) := hb1
      have hv := vals_any (some (w.heap.size + 1)) w1
      have hbA : Below w1.heap.size w1 (w1.alloc (.cells #[.map (some (w.heap.size + 1))] 142)) := (Below.refl _ w1).alloc (Nat.le_refl _) _
      have hs := sortedF_any w1.heap.size (w.heap.size + 1) (todoL L cs) (todoL_rise L cs) htl (w1.alloc (.cells #[.map (some (w.heap.size + 1))] 142)) (by simp) (owns_keepB hm1 (hbA.block _ (World.ownsMap.lt hm1)))
      have HA : Hid (Below w1.heap.size w1 (w1.alloc (.cells #[.map (some (w.heap.size + 1))] 142))) := hbA
      clear hdl hm1 hg1 hb1 hbA
      go_wp2_with fail
      refine hv.mono ?_
      rintro e w2 ⟨rfl, rfl⟩
      go_wp2_with fail
      refine hs.mono ?_
      rintro e w2 ⟨ad2, cap2, rfl, hat, hge, hb2⟩
      go_wp2
      go_ret
      have hb12 := Below.transS HB1.out (Below.transS HA.out hb2)
      exact ⟨ad2, cap2, rfl, hat, (fun a e => by have := hge a e; have := HB1.out.size; simp at *; omega), hb12⟩
end Go.Proofs.YtmekplaonlpfkaaGreatDoor
/- The leaves behind some changes. -/
namespace Go.Proofs.YtmekplaonlpfkaaGreatDoor
open Go.RowKit Go.Shelf Go.Maps Go.Sort

attribute [local go_sem ↓] Go.wp_at_zero Go.wp_at_succ

def behL : List Cg → List Nat → List Lf → List Lf
  | [], _, L => L
  | c :: r, f, L => if c.g then behL r f (delK Lf.k c.k L) else behL r f.tail (putK Lf.k ⟨c.k, f.headD 0, c.v⟩ (delK Lf.k c.k L))
/-- How many get a value. -/
def nlay (C : List Cg) : Nat := (C.filter fun c => !c.g).length
theorem nlay_cons (c : Cg) (C : List Cg) : nlay (c :: C) = (if c.g then 0 else 1) + nlay C := by
  unfold nlay
  cases h : c.g <;> simp [h]
  omega
set_option maxHeartbeats 400000 in
theorem cloneS_any (k : List UInt8) (w : World) (hk : k.length ≤ 100000) : Calls Tryz.prog 81 #[encStr k] w fun e w' => e = .returned (encStr k) ∧ Below w.heap.size w w' := by
  have hcon := Any.stringslite_Clone Tryz.lCloneS ⟨k.toArray⟩ w (by simp [ByteArray.size]; omega)
  change Calls Tryz.prog 108 #[encStr k] w fun e w' => e = .returned (encStr k) ∧ Below w.heap.size w w' at hcon
  generalize encStr k = v at *
  go_enter Tryz.func81, Tryz.ntmps81
  go_wp2_with fail
  refine hcon.mono ?_
  rintro e w' ⟨rfl, hb⟩
  go_wp2
  go_ret
  exact ⟨rfl, hb⟩
/-- Places that lie somewhere. -/
def NsAt (w : World) (ad : Option Addr) (f : List Nat) : Prop := IsL w ad (f.map fun x : Nat => (x : Int))
theorem NsAt.keep {w w' : World} {ad : Option Addr} {f : List Nat} (h : NsAt w ad f) {B : Nat} (hb : Below B w w') (hB : ∀ a, ad = some a → a.block < B) : NsAt w' ad f := IsL.keep h fun a e _ => hb.block _ (hB a e)
theorem NsAt.tail {w : World} {g off : Nat} {f : List Nat} (h : NsAt w (some ⟨g, off, none⟩) f) : NsAt w (some ⟨g, off + 1, none⟩) f.tail := fun hn => by
  cases f with
  | nil => simp at hn
  | cons x r =>
    obtain ⟨b, o, e, hc⟩ := h (by simp)
    cases e
    refine ⟨g, off + 1, rfl, fun j y hy => ?_⟩
    have := hc (j + 1) y (by simpa using hy)
    rwa [show off + 1 + j = off + (j + 1) from by omega]
theorem box3 {w : World} {b : Nat} {x y z : Value} {t : TypeId} (h : w.heap[b]? = some (.cells #[x, y, z] t (0, 0))) : w.cell? ⟨b, 0, none⟩ = some x ∧ w.cell? ⟨b, 1, none⟩ = some y ∧ w.cell? ⟨b, 2, none⟩ = some z :=
  ⟨by rw [cell_of_row _ _ 0 _ _ _ h]; rfl, by rw [cell_of_row _ _ 1 _ _ _ h]; rfl, by rw [cell_of_row _ _ 2 _ _ _ h]; rfl⟩
/-- While some changes are left. -/
structure BeI (w wr : World) (mc : Nat) (C : List Cg) (i : Nat) (fv : Value) (R : List Lf) (N : Nat) : Prop where
  ex : ∃ (f : List Nat) (M : List Lf) (ad : Option Addr) (cap : Nat), behL (C.drop i) f M = R ∧ lfM wr mc M ∧ fv = .slice ad f.length cap ∧ f.length ≤ cap ∧ NsAt wr ad f ∧ (∀ a, ad = some a → a.block < w.heap.size ∧ ∃ o, a = ⟨a.block, o, none⟩) ∧ nlay (C.drop i) ≤ f.length ∧ M.length ≤ N + i
  below : Below w.heap.size w wr
  ge : w.heap.size ≤ mc
theorem insMap {w1 : World} {m n : Nat} {M : List Lf} {x : Lf} (h : w1.ownsMap Tryz.prog 9 lfR m n ((dOf Lf.k Lf.en M).put (.string x.k) (lfD x.p x.v))) : lfM w1 m (putK Lf.k x M) := by
  have e : (dOf Lf.k Lf.en M).put (.string x.k) (lfD x.p x.v) = dOf Lf.k Lf.en (putK Lf.k x M) := dOf_put Lf.k Lf.en x M
  rw [e] at h
  exact lfM.of h
section
variable {ops : Array Oper} {o : Oper} {a : Act} {w : World} {K : Act → World → Prop} {Q : Exit → Act → World → Prop} {E : Prop}
theorem step_put (hgd : o.guard = none) (m x v : Operand) (ho : o.op = .mapUpdate 81 m x v) (b n : Nat) (M : List Lf) (k u : List UInt8) (p : Nat) (hm : a.eval m = .map (some b)) (hx : a.eval x = encStr k) (hv : a.eval v = .agg #[.int .i64 (p : Int), encStr u])
    (hown : w.ownsMap Tryz.prog 9 lfR b n (dOf Lf.k Lf.en M)) (hn : n < maxLen) (hk : k.length ≤ maxLen)
    (h : ∀ w1, lfM w1 b (putK Lf.k ⟨k, p, u⟩ M) → w.grownBy w1 (some b) → K (a.put o.dst undef) w1) : if Region.wanted o (yielded ops a.tmps) = true then Oper.wp Tryz.prog o a w K Q else E := by
  have hw : Region.wanted o (yielded ops a.tmps) = true := by simp [Region.wanted, hgd]
  rw [if_pos hw]
  obtain ⟨w1, hr, h2, h3⟩ := hown.update strK Tryz.underlying81 hn (key_str hk) (lfR_mk p u)
  unfold Oper.wp execOp
  have hr' : (Instr.mapUpdate 81 (.map (some b)) (encStr k) (.agg #[.int .i64 (p : Int), encStr u])).run Tryz.prog w = .ok () w1 := hr
  simp only [ho, hm, hx, hv, Sem.run_bind, hr', Result.andThen_ok, Sem.run_pure]
  exact h w1 (insMap (x := ⟨k, p, u⟩) h2) h3
end
set_option maxRecDepth 100000 in
set_option maxHeartbeats 3200000 in
theorem behind_any (sh m p fr n : Nat) (L : List Lf) (dead : Int) (ad : Option Addr) (cap : Nat) (C : List Cg) (fa : Option Addr) (fc : Nat) (f : List Nat) (w : World) (h : ShAt w sh m p fr n L dead) (hc : CgAt w ad C) (hok : COk C)
    (hf : NsAt w fa f) (hfb : ∀ a, fa = some a → a.block < w.heap.size ∧ ∃ o, a = ⟨a.block, o, none⟩) (hfc : f.length ≤ fc) (hn : nlay C ≤ f.length) :
    Calls Tryz.prog 47 #[.pointer (some ⟨sh, 0, none⟩), .slice ad C.length cap, .slice fa f.length fc] w fun e w' => ∃ mc, e = .returned (.map (some mc)) ∧ lfM w' mc (behL C f L) ∧ w.heap.size ≤ mc ∧ Below w.heap.size w w' := by
  have c3 := h.c3
  have hLl : L.length ≤ 1024 := by have := h.few; have := h.count; omega
  have hcl := AnyW.maps_Clone_owns Tryz.lCloneM 9 lfR m L.length (dOf Lf.k Lf.en L) w h.map
  change Calls Tryz.prog 80 _ _ _ at hcl
  have HC : Hid (CgAt w ad C) := hc
  have HO : Hid (COk C) := hok
  have hl0 := hok.1
  have HF : Hid (NsAt w fa f ∧ (∀ a, fa = some a → a.block < w.heap.size ∧ ∃ o, a = ⟨a.block, o, none⟩)) := ⟨hf, hfb⟩
  clear h hc hok hf hfb
  go_enter Tryz.func47, Tryz.ntmps47
  go_wp2_with fail
  refine hcl.mono ?_
  rintro e w1 ⟨rfl, hm1, -, hb1⟩
  have hI0 : BeI w w1 w.heap.size C 0 (.slice fa f.length fc) (behL C f L) L.length :=
    ⟨⟨f, L, fa, fc, rfl, hm1, rfl, hfc, HF.out.1.keep hb1 (fun a e => (HF.out.2 a e).1), HF.out.2, hn, Nat.le_refl _⟩, hb1, Nat.le_refl _⟩
  obtain ⟨R, hReq⟩ : ∃ R, behL C f L = R := ⟨_, rfl⟩
  rw [hReq] at hI0
  have HReq : Hid (behL C f L = R) := hReq
  clear hReq
  generalize w.heap.size = mc at hI0 ⊢
  clear hcl hm1 hb1
  go_wp2
  go_loopw [2, 17] (fun fv iv wr => ∃ i : Nat, i ≤ C.length ∧ iv = .int .i64 i ∧ BeI w wr mc C i fv R L.length) (fun _ iv _ => C.length - (intOf iv).toNat)
  case atStart => exact ⟨0, Nat.zero_le _, rfl, hI0⟩
  case round =>
    clear hI0 HF
    obtain ⟨i, hi, rfl, ⟨f1, M, fa1, fc1, hR, hM, rfl, hfc1, hf1, hfb1, hn1, hMl⟩, hbw, hge⟩ := hrel
    by_cases hlt : i < C.length
    · have hlt' : (i : Int) < C.length := by omega
      have hx : C[i]? = some C[i] := List.getElem?_eq_getElem hlt
      have hxm : C[i] ∈ C := List.getElem_mem hlt
      have hdr : C.drop i = C[i] :: C.drop (i + 1) := List.drop_eq_getElem_cons hlt
      obtain ⟨b, off, rfl, hcz⟩ := HC.out (by omega)
      have hcx := hcz i _ hx
      have hx6 := HO.out.2 _ hxm
      rw [hdr] at hR hn1
      rw [nlay_cons] at hn1
      unfold behL at hR
      generalize C[i] = x at *
      have hb : b < w.heap.size := World.block_lt_of_cell? w _ hcx.1
      have d0 : wr.cell? ⟨b, off + i * 3, none⟩ = some (encStr x.k) := (hbw.cell (p := ⟨b, off + i * 3, none⟩) hb).trans hcx.1
      have d1 : wr.cell? ⟨b, off + i * 3 + 1, none⟩ = some (encStr x.v) := (hbw.cell (p := ⟨b, off + i * 3 + 1, none⟩) hb).trans hcx.2.1
      have d2 : wr.cell? ⟨b, off + i * 3 + 2, none⟩ = some (.bool x.g) := (hbw.cell (p := ⟨b, off + i * 3 + 2, none⟩) hb).trans hcx.2.2
      have hmlt : mc < wr.heap.size := World.ownsMap.lt hM
      have hkey := key_str (k := x.k) (by unfold maxLen; omega)
      have hown : (wr.alloc (.cells #[encStr x.k, encStr x.v, .bool x.g] 70)).ownsMap Tryz.prog 9 lfR mc M.length (dOf Lf.k Lf.en M) := World.ownsMap.alloc hM _
      have hdl : (delK Lf.k x.k M).length ≤ M.length := List.length_filter_le _ _
      have HD : Hid (∀ w3, w3.ownsMap Tryz.prog 9 lfR mc M.length ((dOf Lf.k Lf.en M).del (.string x.k)) → (wr.alloc (.cells #[encStr x.k, encStr x.v, .bool x.g] 70)).mapTurned w3 mc →
          lfM w3 mc (delK Lf.k x.k M) ∧ Below w.heap.size w w3 ∧ NsAt w3 fa1 f1 ∧ w3.heap[wr.heap.size]? = some (.cells #[encStr x.k, encStr x.v, .bool x.g] 70 (0, 0))) := fun w3 h1 h2 => by
        have hgr := h2.grown
        rw [dOf_del] at h1
        have hb3 : Below w.heap.size w w3 := (hbw.alloc hbw.size _).grown hgr (by have := hbw.size; simp; omega) (fun k e => by cases e; exact hge)
        refine ⟨lfM.of h1, hb3, ?_, ?_⟩
        · refine IsL.keep hf1 fun a e _ => ?_
          have h5 := (hfb1 a e).1
          rw [hb3.block _ h5, hbw.block _ h5]
        · rw [hgr.block _ (by simp) (by simp; omega)]
          exact heap_alloc_new wr _
      have HR : Hid ((if x.g = true then behL (C.drop (i + 1)) f1 (delK Lf.k x.k M) else behL (C.drop (i + 1)) f1.tail (putK Lf.k ⟨x.k, f1.headD 0, x.v⟩ (delK Lf.k x.k M))) = R) := hR
      clear hcz hcx hx hxm hdr hM hf1 hbw hR
      cases hg : x.g with
      | true =>
        rw [hg] at HR HD hown d2 hn1
        have HR1 : Hid (behL (C.drop (i + 1)) f1 (delK Lf.k x.k M) = R) := HR.out
        clear HR
        go_wp2_with (first | (at_delete; refine wpList_delete_own _ rfl _ _ 81 9 rfl 101 strK Tryz.underlying81 _ mc M.length _ rfl hown _ _ rfl hkey ?_; intro w3 hown3 hturn3; have hD := HD.out w3 hown3 hturn3; have e2 := (box3 hD.2.2.2).2.2; clear hown3 hturn3) | fail)
        refine ⟨⟨i + 1, by omega, by go_num, ⟨f1, _, fa1, fc1, HR1.out, hD.1, rfl, hfc1, hD.2.2.1, hfb1, by simpa using hn1, by omega⟩, hD.2.1, hge⟩, by simp [intOf]; omega⟩
      | false =>
        rw [hg] at HR HD hown d2 hn1
        have HR1 : Hid (behL (C.drop (i + 1)) f1.tail (putK Lf.k ⟨x.k, f1.headD 0, x.v⟩ (delK Lf.k x.k M)) = R) := HR.out
        clear HR
        cases f1 with
        | nil => simp at hn1
        | cons f0 fs =>
        simp only [List.headD_cons, List.tail_cons] at HR1
        have hk6 : x.k.length ≤ 100000 := hx6.1
        have hv6 : x.v.length ≤ 100000 := hx6.2
        clear hx6 hg
        generalize x.k = ck at *
        generalize x.v = cv at *
        generalize hM1 : delK Lf.k ck M = M1 at *
        go_upto_region 7 with (first | (at_delete; refine wpList_delete_own _ rfl _ _ 81 9 rfl 101 strK Tryz.underlying81 _ mc M.length _ rfl hown _ _ rfl hkey ?_; intro w3 hown3 hturn3; have hD := HD.out w3 hown3 hturn3; have e2 := (box3 hD.2.2.2).2.2; clear hown3 hturn3) | fail)
        obtain ⟨g, o, rfl, hcg⟩ := hD.2.2.1 (by simp)
        have hg0 : w3.cell? ⟨g, o, none⟩ = some (.int .i64 (f0 : Int)) := by have := hcg 0 (f0 : Int) (by simp); rwa [Nat.add_zero] at this
        have hgl : g < w.heap.size := (hfb1 _ rfl).1
        have lbx : wr.heap.size < w3.heap.size := lt_of_block hD.2.2.2
        have lg3 : g < w3.heap.size := Nat.lt_of_lt_of_le hgl hD.2.1.size
        have hu3 : w3.drew.heap.size = w3.heap.size := rfl
        have HS : Hid (∀ w' : World, (∀ k, k < w3.heap.size → k ≠ mc → w'.heap[k]? = w3.heap[k]?) → w'.cell? ⟨wr.heap.size, 0, none⟩ = some (encStr ck) ∧ w'.cell? ⟨wr.heap.size, 1, none⟩ = some (encStr cv) ∧ w'.cell? ⟨g, o, none⟩ = some (.int .i64 (f0 : Int))) := fun w' hb => by
          have hbx := (hb _ lbx (by omega)).trans hD.2.2.2
          refine ⟨(box3 hbx).1, (box3 hbx).2.1, ?_⟩
          rw [World.cell?_of_block (a := ⟨g, o, none⟩) (hb g lg3 (by omega))]; exact hg0
        have HM : Hid (∀ w', Below w3.drew.heap.size w3.drew w' → lfM w' mc M1 ∧ Below w.heap.size w w') := fun w' hb => by
          have hb' : Below w3.heap.size w3 w' := Below.transS (Below.refl _ _).drew hb
          exact ⟨owns_keepB hD.1 (hb'.block _ (World.ownsMap.lt hD.1)), Below.transS hD.2.1 (hb'.mono (Nat.le_refl _))⟩
        have HNs : Hid (∀ w' : World, (∀ k, k < w3.heap.size → k ≠ mc → w'.heap[k]? = w3.heap[k]?) → NsAt w' (some ⟨g, o + 1, none⟩) fs) := fun w' hb => by
          have h5 := NsAt.tail hD.2.2.1
          refine IsL.keep h5 fun a e _ => ?_
          cases e
          exact hb g lg3 (by omega)
        have HU : Hid (∀ w', Below w3.drew.heap.size w3.drew w' → ∀ k, k < w3.heap.size → w'.heap[k]? = w3.heap[k]?) := fun w' hb k hk => hb.block k hk
        have hml : M1.length < maxLen := by unfold maxLen; omega
        have hkm : ck.length ≤ maxLen := by unfold maxLen; omega
        refine wp_region_noPanic ?_
        refine wp_region_held_drew (S := fun w' => w'.cell? ⟨wr.heap.size, 0, none⟩ = some (encStr ck) ∧ w'.cell? ⟨wr.heap.size, 1, none⟩ = some (encStr cv) ∧ w'.cell? ⟨g, o, none⟩ = some (.int .i64 (f0 : Int))) (by kernel_rfl) (HS.out _ (fun _ _ _ => rfl)) (fun hHeld => ?_)
        clear hD e2 hg0 hcg HD hown d0 d1 d2 hkey HC HO
        generalize w3.drew = u0 at *
        refine wpAnyH_take (i := 0) (oi := { dst := some 27, op := Go.Op.move (Go.Operand.tmp 7), type := 81, pos := "shelf.go:218", after := #[], guard := none }) (v := ?_) rfl (by kernel_rfl) (by kernel_rfl) (by kernel_rfl) (fun _ _ _ h => h) (Or.inl ⟨by rfl, ?_⟩) (by assumption) ?_
        rotate_left
        · intro wz hSw; (try dsimp only at hSw); go_simp; (try with_reducible rfl)
        try simp only [Act.put, List.setIfInBounds_toArray, List.set_cons_zero, List.set_cons_succ]
        refine wpAnyH_take (i := 1) (oi := { dst := some 28, op := Go.Op.fieldAddr 70 (Go.Operand.tmp 9) 0, type := 0, pos := "shelf.go:218", after := #[], guard := none }) (v := ?_) rfl (by kernel_rfl) (by kernel_rfl) (by kernel_rfl) (fun _ _ _ h => h) (Or.inl ⟨by rfl, ?_⟩) (by assumption) ?_
        rotate_left
        · intro wz hSw; (try dsimp only at hSw); go_simp; (try with_reducible rfl)
        try simp only [Act.put, List.setIfInBounds_toArray, List.set_cons_zero, List.set_cons_succ]
        refine wpAnyH_take (i := 2) (oi := { dst := some 29, op := Go.Op.load 9 (Go.Operand.tmp 28), type := 9, pos := "shelf.go:218", after := #[{ on := 1, ground := Go.Ground.data }], guard := none }) (v := encStr ck) rfl (by kernel_rfl) (by kernel_rfl) (by kernel_rfl) (fun _ _ _ h => h) (Or.inl ⟨by rfl, ?_⟩) (by assumption) ?_
        · intro wz hSw; (try dsimp only at hSw); have h1 := hSw.1; go_simp; try rfl
        try simp only [Act.put, List.setIfInBounds_toArray, List.set_cons_zero, List.set_cons_succ]
        refine wpAnyH_take (i := 4) (oi := { dst := some 31, op := Go.Op.move (Go.Operand.tmp 2), type := 63, pos := "shelf.go:218", after := #[], guard := none }) (v := ?_) rfl (by kernel_rfl) (by kernel_rfl) (by kernel_rfl) (fun _ _ _ h => h) (Or.inl ⟨by rfl, ?_⟩) (by assumption) ?_
        rotate_left
        · intro wz hSw; (try dsimp only at hSw); go_simp; (try with_reducible rfl)
        try simp only [Act.put, List.setIfInBounds_toArray, List.set_cons_zero, List.set_cons_succ]
        refine wpAnyH_take (i := 5) (oi := { dst := some 32, op := Go.Op.indexAddr 63 (Go.Operand.tmp 31) (Go.Operand.const (Go.Value.int Go.IntKind.i64 0)), type := 0, pos := "shelf.go:218", after := #[{ on := 4, ground := Go.Ground.data }], guard := none }) (v := ?_) rfl (by kernel_rfl) (by kernel_rfl) (by kernel_rfl) (fun _ _ _ h => h) (Or.inl ⟨by rfl, ?_⟩) (by assumption) ?_
        rotate_left
        · intro wz hSw; (try dsimp only at hSw); go_simp; (try with_reducible rfl)
        try simp only [Act.put, List.setIfInBounds_toArray, List.set_cons_zero, List.set_cons_succ]
        refine wpAnyH_take (i := 6) (oi := { dst := some 33, op := Go.Op.load 3 (Go.Operand.tmp 32), type := 3, pos := "shelf.go:218", after := #[{ on := 5, ground := Go.Ground.data }], guard := none }) (v := .int .i64 (f0 : Int)) rfl (by kernel_rfl) (by kernel_rfl) (by kernel_rfl) (fun _ _ _ h => h) (Or.inl ⟨by rfl, ?_⟩) (by assumption) ?_
        · intro wz hSw; (try dsimp only at hSw); have h1 := hSw.2.2; go_simp; try rfl
        try simp only [Act.put, List.setIfInBounds_toArray, List.set_cons_zero, List.set_cons_succ]
        refine wpAnyH_take (i := 7) (oi := { dst := some 34, op := Go.Op.fieldAddr 70 (Go.Operand.tmp 9) 1, type := 0, pos := "shelf.go:218", after := #[], guard := none }) (v := ?_) rfl (by kernel_rfl) (by kernel_rfl) (by kernel_rfl) (fun _ _ _ h => h) (Or.inl ⟨by rfl, ?_⟩) (by assumption) ?_
        rotate_left
        · intro wz hSw; (try dsimp only at hSw); go_simp; (try with_reducible rfl)
        try simp only [Act.put, List.setIfInBounds_toArray, List.set_cons_zero, List.set_cons_succ]
        refine wpAnyH_take (i := 8) (oi := { dst := some 35, op := Go.Op.load 9 (Go.Operand.tmp 34), type := 9, pos := "shelf.go:218", after := #[{ on := 7, ground := Go.Ground.data }], guard := none }) (v := encStr cv) rfl (by kernel_rfl) (by kernel_rfl) (by kernel_rfl) (fun _ _ _ h => h) (Or.inl ⟨by rfl, ?_⟩) (by assumption) ?_
        · intro wz hSw; (try dsimp only at hSw); have h1 := hSw.2.1; go_simp; try rfl
        try simp only [Act.put, List.setIfInBounds_toArray, List.set_cons_zero, List.set_cons_succ]
        refine wpAnyH_ready (rs := [3]) (by kernel_rfl) (by simp) ?_
        refine (AllReadyH.cons (o := { dst := some 30, op := Go.Op.call { callee := Go.Callee.value (Go.Operand.func 81), args := #[Go.Operand.tmp 29], argTypes := #[9] }, type := 9, pos := "shelf.go:218", after := #[{ on := 2, ground := Go.Ground.data }], guard := none }) rfl (fun K hK => ?_) AllReadyH.nil)
        go_simp
        refine (cloneS_any ck u0 hk6).mono ?_
        rintro e u1 ⟨rfl, hb1⟩
        refine hK.out _ _ (HS.out u1 (fun k hk _ => HU.out u1 hb1 k hk)) (fun _ => ?_)
        clear hK K
        try simp only [Act.put, List.setIfInBounds_toArray, List.set_cons_zero, List.set_cons_succ]
        refine wpAnyH_ready (rs := [9]) (by kernel_rfl) (by simp) ?_
        refine (AllReadyH.cons (o := { dst := some 36, op := Go.Op.call { callee := Go.Callee.value (Go.Operand.func 81), args := #[Go.Operand.tmp 35], argTypes := #[9] }, type := 9, pos := "shelf.go:218", after := #[{ on := 8, ground := Go.Ground.data }, { on := 3, ground := Go.Ground.chain }], guard := none }) rfl (fun K hK => ?_) AllReadyH.nil)
        go_simp
        refine (cloneS_any cv u1 hv6).mono ?_
        rintro e u2 ⟨rfl, hb2'⟩
        have hb2 := Below.transS hb1 hb2'
        refine hK.out _ _ (HS.out u2 (fun k hk _ => HU.out u2 hb2 k hk)) (fun _ => ?_)
        clear hK K
        try simp only [Act.put, List.setIfInBounds_toArray, List.set_cons_zero, List.set_cons_succ]
        refine wpAnyH_take (i := 10) (oi := { dst := some 37, op := Go.Op.build 101 #[(0, Go.Operand.tmp 33), (1, Go.Operand.tmp 36)], type := 101, pos := "shelf.go:218", after := #[{ on := 6, ground := Go.Ground.data }, { on := 9, ground := Go.Ground.data }], guard := none }) (v := .agg #[.int .i64 (f0 : Int), encStr cv]) rfl (by kernel_rfl) (by kernel_rfl) (by kernel_rfl) (fun _ _ _ h => h) (Or.inl ⟨by rfl, ?_⟩) (by assumption) ?_
        · intro wz hSw; (try dsimp only at hSw); kernel_rfl
        try simp only [Act.put, List.setIfInBounds_toArray, List.set_cons_zero, List.set_cons_succ]
        refine wpAnyH_ready (rs := [11]) (by kernel_rfl) (by simp) ?_
        refine (AllReadyH.cons (o := { dst := none, op := Go.Op.mapUpdate 81 (Go.Operand.tmp 27) (Go.Operand.tmp 30) (Go.Operand.tmp 37), type := 0, pos := "shelf.go:218", after := #[{ on := 0, ground := Go.Ground.data }, { on := 3, ground := Go.Ground.data }, { on := 10, ground := Go.Ground.data }, { on := 9, ground := Go.Ground.chain }, { on := 0, ground := Go.Ground.phase }, { on := 1, ground := Go.Ground.phase }, { on := 2, ground := Go.Ground.phase }, { on := 3, ground := Go.Ground.phase }, { on := 4, ground := Go.Ground.phase }, { on := 5, ground := Go.Ground.phase }, { on := 6, ground := Go.Ground.phase }, { on := 7, ground := Go.Ground.phase }, { on := 8, ground := Go.Ground.phase }, { on := 9, ground := Go.Ground.phase }, { on := 10, ground := Go.Ground.phase }], guard := none }) rfl (fun K hK => ?_) AllReadyH.nil)
        refine step_put rfl _ _ _ rfl mc M1.length M1 ck cv f0 rfl rfl rfl (HM.out u2 hb2).1 hml hkm ?_
        intro w5 hm5 hg5
        have hk5 : ∀ k, k < w3.heap.size → k ≠ mc → w5.heap[k]? = w3.heap[k]? := fun k hk hne => by
          have h1 := HU.out u2 hb2 k hk
          have h2 : k < u2.heap.size := by have := hb2.size; omega
          rw [hg5.block k h2 (by simpa using hne)]; exact h1
        have HB5 : Hid (Below w.heap.size w w5) := (HM.out u2 hb2).2.grown hg5 (HM.out u2 hb2).2.size (fun k e => by cases e; exact hge)
        have HN5 : Hid (NsAt w5 (some ⟨g, o + 1, none⟩) fs) := HNs.out w5 hk5
        have HM5 : Hid (lfM w5 mc (putK Lf.k ⟨ck, f0, cv⟩ M1)) := hm5
        have hpl := putK_le Lf.k ⟨ck, f0, cv⟩ M1
        refine hK.out _ _ (HS.out w5 hk5) (fun _ => ?_)
        clear hK K hm5 hg5 hk5 HS HM HNs HU hb1 hb2 hb2'
        try simp only [Act.put]
        refine wpAnyH_done (by kernel_rfl) (NoPanic.normal ?_) _
        try simp only [Act.put, List.setIfInBounds_toArray, List.set_cons_zero, List.set_cons_succ]
        have hle1 : (1 : Int) ≤ (fs.length : Int) + 1 := by omega
        have hle2 : (fs.length : Int) + 1 ≤ fc1 := by simp at hfc1; omega
        go_wp2
        refine ⟨⟨i + 1, by omega, by go_num, ⟨fs, _, _, fc1 - 1, HR1.out, HM5.out, rfl, by simp at hfc1; omega, ?_, ?_, ?_, by omega⟩, HB5.out, hge⟩, by simp [intOf]; omega⟩
        · split
          · rename_i h1
            have : fs = [] := List.eq_nil_of_length_eq_zero (by simp at hfc1; omega)
            subst this
            intro hh; simp at hh
          · exact HN5.out
        · intro a e
          split at e
          · cases e; exact ⟨hgl, o, rfl⟩
          · cases e; exact ⟨hgl, o + 1, rfl⟩
        · simp at hn1 ⊢; omega
    · obtain rfl : i = C.length := by omega
      have hlt' : ¬ ((C.length : Int) < C.length) := by omega
      rw [List.drop_length] at hR
      have HE : Hid (lfM wr mc R ∧ w.heap.size ≤ mc ∧ Below w.heap.size w wr) := ⟨by rw [← hR]; exact hM, hge, hbw⟩
      clear hR hM hf1 hfb1 hn1
      go_wp2
      go_ret
      exact ⟨mc, rfl, by rw [HReq.out]; exact HE.out.1, HE.out.2⟩
end Go.Proofs.YtmekplaonlpfkaaGreatDoor
