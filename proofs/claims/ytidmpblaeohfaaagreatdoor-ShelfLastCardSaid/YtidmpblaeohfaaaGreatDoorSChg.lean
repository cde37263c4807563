/- What changes, by rising keys. -/
import Derived.Test.YtidmpblaeohfaaaGreatDoorSVals
import Derived.Test.YtidmpblaeohfaaaGreatDoorSLay
import Derived.Shelf.SlSortCmp.NoneTotal
namespace Go.Proofs.YtidmpblaeohfaaaGreatDoor
open Go.RowKit Go.Shelf Go.Maps Go.Sort Go.Lib

attribute [local go_sem ↓] Go.wp_at_zero Go.wp_at_succ

def cfC (x y : Cg) : Int := Lib.compareBytes x.k y.k
theorem ltC (x y : Cg) : ltOf cfC x y = bytesBefore x.k y.k := by
  unfold ltOf cfC
  rw [compare_before]
  cases h : bytesBefore x.k y.k
  · cases bytesBefore y.k x.k <;> simp
  · simp
theorem swoC : SWO (ltOf cfC) where
  irrefl x := by rw [ltC]; exact before_irrefl _
  trans x y z h1 h2 := by rw [ltC] at *; exact WideShapes.bytes_trans _ _ _ h1 h2
  ntrans x y z h1 h2 := by
    rw [ltC] at *
    rw [before_lt] at *
    simp only [decide_eq_false_iff_not, List.not_lt] at *
    exact List.le_trans h2 h1
set_option maxHeartbeats 1000000 in
theorem chg2_any (x y : Cg) (W : World) : Calls Tryz.prog 75 #[.agg #[encStr x.k, encStr x.v, .bool x.g], .agg #[encStr y.k, encStr y.v, .bool y.g]] W fun e w' => e = .returned (.int .i64 (cfC x y)) ∧ ∃ q os', w' = grow (W.drewN q) os' := by
  have hcon := fun W' => Any.strings_Compare Tryz.lCompare ⟨x.k.toArray⟩ ⟨y.k.toArray⟩ W'
  change ∀ W', Calls Tryz.prog 76 #[encStr x.k, encStr y.k] W' _ at hcon
  have e1 : Lib.compareBytes (⟨x.k.toArray⟩ : ByteArray).data.toList (⟨y.k.toArray⟩ : ByteArray).data.toList = cfC x y := rfl
  rw [e1] at hcon
  generalize cfC x y = r at hcon ⊢
  go_enter Tryz.func75, Tryz.ntmps75
  go_wp2_with (go_at_call 76; refine (hcon _).mono ?_; rintro e w' ⟨rfl, rfl⟩)
  go_ret
  exact ⟨rfl, 0, _, by rw [alloc_eq_grow, alloc_eq_grow, grow_grow]; rfl⟩
theorem cmpLaysC (blk off size : Nat) (w : World) : CmpLays Tryz.prog 75 #[] cgL 3 cfC blk off size w :=
  fun _ _ _ _ x y => chg2_any x y _
theorem cgL_one (x : Cg) : ∀ v ∈ cgL x, v.oneCell' = true := by
  intro v hv
  simp [cgL] at hv
  rcases hv with rfl | rfl | rfl <;> rfl
theorem perm_rise {C : List Cg} (hr : Rise Cg.k C) {d' : List Cg} (hp : d'.Perm C) (hs : d'.Pairwise fun x y => ltOf cfC y x = false) : d' = C := by
  have h1 : Rise Cg.k d' := by
    unfold Rise
    have hn : (d'.map Cg.k).Nodup := (hp.map Cg.k).nodup_iff.2 hr.nodupC
    rw [List.Nodup, List.pairwise_map] at hn
    refine (hs.and hn).imp fun {a b} h => ?_
    have h2 := h.1
    rw [ltC] at h2
    exact before_of_not h2 (fun e => h.2 e.symm)
  exact h1.ext Cg.k hr fun x => hp.mem_iff
/-- Changes that lie somewhere. -/
def CgAt (w : World) (ad : Option Addr) (C : List Cg) : Prop := 0 < C.length → ∃ b off, ad = some ⟨b, off, none⟩ ∧ ∀ j x, C[j]? = some x →
  w.cell? ⟨b, off + j * 3, none⟩ = some (encStr x.k) ∧ w.cell? ⟨b, off + j * 3 + 1, none⟩ = some (encStr x.v) ∧ w.cell? ⟨b, off + j * 3 + 2, none⟩ = some (.bool x.g)
theorem CgAt.lt {w : World} {ad : Option Addr} {C : List Cg} (h : CgAt w ad C) {a : Addr} (e : ad = some a) (hn : 0 < C.length) : a.block < w.heap.size := by
  obtain ⟨b, off, rfl, hc⟩ := h hn
  cases e
  exact World.block_lt_of_cell? w _ (hc 0 _ (List.getElem?_eq_getElem hn)).1
theorem CgAt.keep {w w' : World} {ad : Option Addr} {C : List Cg} (h : CgAt w ad C) (hk : ∀ a, ad = some a → 0 < C.length → w'.heap[a.block]? = w.heap[a.block]?) : CgAt w' ad C := fun hn => by
  obtain ⟨b, off, rfl, hc⟩ := h hn
  refine ⟨b, off, rfl, fun j x hx => ?_⟩
  have e := hk ⟨b, off, none⟩ rfl hn
  rw [World.cell?_of_block (a := ⟨b, off + j * 3, none⟩) e, World.cell?_of_block (a := ⟨b, off + j * 3 + 1, none⟩) e, World.cell?_of_block (a := ⟨b, off + j * 3 + 2, none⟩) e]
  exact hc j x hx
theorem CgAt.below {w w' : World} {ad : Option Addr} {C : List Cg} (h : CgAt w ad C) (hb : Below w.heap.size w w') : CgAt w' ad C := h.keep fun _ e hn => hb.block _ (h.lt e hn)
theorem flatC_get : ∀ (C : List Cg) (j i : Nat) (x : Cg), C[j]? = some x → i < 3 → (flatC C)[j * 3 + i]? = (cgL x)[i]?
  | [], j, _, _, h, _ => by simp at h
  | y :: r, 0, i, x, h, hi => by
    simp at h; subst h
    rw [flatC, List.flatMap_cons, Nat.zero_mul, Nat.zero_add, List.getElem?_append_left (by simpa [cgL] using hi)]
  | y :: r, j + 1, i, x, h, hi => by
    have := flatC_get r j i x (by simpa using h) hi
    rw [flatC, List.flatMap_cons, List.getElem?_append_right (by simp [cgL]; omega)]
    rw [flatC] at this
    rw [← this]
    congr 1
    simp [cgL]; omega
theorem flat_eq (C : List Cg) : flatK cgL 3 C.toArray = (flatC C).toArray := by
  refine ext_get! (by simp [flatC_length]) fun t ht => ?_
  have ht' : t < C.length * 3 := by simpa using ht
  rw [get_flatK _ _ _ _ (by simpa using ht')]
  have h1 : t / 3 < C.length := by omega
  have h2 := flatC_get C (t / 3) (t % 3) C[t / 3] (List.getElem?_eq_getElem h1) (by omega)
  rw [show t / 3 * 3 + t % 3 = t from by omega] at h2
  have h3 : C.toArray[t / 3]! = C[t / 3] := by simp [h1]
  rw [h3]
  simp only [List.getElem!_toArray, List.getElem!_eq_getElem?_getD]
  rw [h2]
theorem row_holds {w : World} {B g cap n : Nat} {C : List Cg} (h : w.ownsRow B 70 3 (.slice (some ⟨g, 0, none⟩) n cap) C.length (flatC C)) : HoldsK cgL 3 w g 0 C.toArray := by
  rcases h.2 with ⟨e, _⟩ | ⟨g', cap', cur, e, hb, hg, rest⟩
  · cases e
  · cases e
    unfold HoldsK
    rw [flat_eq]
    intro j hj
    have hj' : j < (flatC C).length := by simpa using hj
    refine ⟨?_, by rw [Nat.zero_add]; exact frozen_of_row w g j _ _ hg⟩
    have := h.cells (g := g) rfl j (flatC C)[j] (List.getElem?_eq_getElem hj')
    rw [Addr.add_lit] at this
    rw [this]
    simp [hj']
theorem holds_at {w : World} {g : Nat} {C : List Cg} (h : HoldsK cgL 3 w g 0 C.toArray) : CgAt w (some ⟨g, 0, none⟩) C := fun _ => by
  refine ⟨g, 0, rfl, fun j x hx => ?_⟩
  unfold HoldsK at h
  rw [flat_eq] at h
  have hj : j < C.length := (List.getElem?_eq_some_iff.1 hx).1
  have key : ∀ i, i < 3 → w.cell? ⟨g, 0 + (j * 3 + i), none⟩ = some ((cgL x)[i]!) := fun i hi => by
    have h1 := (h (j * 3 + i) (by simp [flatC_length]; omega)).1
    rw [h1]
    have h2 := flatC_get C j i x hx hi
    simp only [List.getElem!_toArray, List.getElem!_eq_getElem?_getD, id]
    rw [h2]
  have k0 := key 0 (by omega)
  have k1 := key 1 (by omega)
  have k2 := key 2 (by omega)
  exact ⟨by simpa [cgL] using k0, by rw [Nat.add_assoc]; simpa [cgL] using k1, by rw [Nat.add_assoc]; simpa [cgL] using k2⟩
theorem sortK_below {w : World} {g off n : Nat} {d : Array Cg} {os : Array Obj} {B : Nat} (hB : B ≤ g) (hg : g < w.heap.size) : Below B w (sortWorldK cgL 3 w g off n d os) := by
  unfold sortWorldK putRowK
  refine ⟨rfl, rfl, rfl, by simp, fun k hk => ?_⟩
  rw [heap_grow_old _ _ (by simp; omega)]
  simp only [putRow, mapBlock, heap_ahead]
  rw [Array.getElem?_modify, if_neg (by omega)]
theorem sortF_any (g cap B : Nat) (xs C : List Cg) (hp : xs.Perm C) (hr : Rise Cg.k C) (hl : C.length ≤ 1000000) (w : World) (hH : HoldsK cgL 3 w g 0 xs.toArray) (hg : g < w.heap.size) (hB : B ≤ g) :
    Calls Tryz.prog 104 #[.slice (some ⟨g, 0, none⟩) xs.length cap, .func (.func 75) #[] #[]] w fun e w' => e = .returned (.tuple #[]) ∧ CgAt w' (some ⟨g, 0, none⟩) C ∧ Below B w w' := by
  have hxl : xs.length = C.length := hp.length_eq
  have eg : ∀ args w, (callFunc 75 args).run Tryz.prog w = .ok (.enter 75 args) w := enters_of Tryz.func75 (by kernel_rfl) rfl
  have hcon := AnyQ.slices_SortFunc Tryz.lSortF 3 Tryz.isAgg70 Tryz.sizeOf70 cgL (fun _ => rfl) cgL_one cfC swoC 75 #[] g 0 cap xs.toArray w eg (cmpLaysC g 0 xs.toArray.size w) hH hg (by simp; omega)
  change Calls Tryz.prog 104 _ _ _ at hcon
  have e0 : xs.toArray.size = xs.length := rfl
  rw [e0] at hcon
  refine hcon.mono ?_
  rintro e w' ⟨rfl, d', n, os, hpi, hs, rfl⟩
  obtain ⟨hsz, _, hpp⟩ := hpi
  have hd : d'.toList = C := by
    apply perm_rise hr
    · have h1 : (d'.extract 0 xs.length).toList = d'.toList := by rw [← e0, ← hsz]; simp
      have h2 : (xs.toArray.extract 0 xs.length).toList = xs := by simp
      rw [h1, h2] at hpp
      exact hpp.trans hp
    · rw [List.pairwise_iff_getElem]
      intro i j hi hj hij
      have := hs i j (Nat.zero_le _) hij (by rw [← e0, ← hsz]; simpa using hj)
      have hi' : i < d'.size := by simpa using hi
      have hj' : j < d'.size := by simpa using hj
      rw [getElem!_pos d' j hj', getElem!_pos d' i hi'] at this
      simpa using this
  refine ⟨rfl, ?_, sortK_below hB hg⟩
  rw [← hd]
  have := holdsK_sortWorldK_c cgL 3 w g 0 xs.toArray d' n os hH hg hsz
  exact holds_at (by simpa using this)
/-- What is told: a slice of its own. -/
def CgR (w : World) (C : List Cg) (e : Ending) (w' : World) : Prop := ∃ ad cap, e = .returned (.slice ad C.length cap) ∧ CgAt w' ad C ∧ (∀ a, ad = some a → w.heap.size ≤ a.block) ∧ Below w.heap.size w w'
set_option maxHeartbeats 1000000 in
theorem sortedF_any (Bm b : Nat) (C : List Cg) (hr : Rise Cg.k C) (hl : C.length ≤ 1000000) (w : World) (hm : w.cell? ⟨Bm, 0, none⟩ = some (.map (some b))) (hown : cgM w b C) :
    Calls Tryz.prog 73 #[.func (.func 105) #[] #[.pointer (some ⟨Bm, 0, none⟩)], .func (.func 75) #[] #[]] w (CgR w C) := by
  have hc := collect_any Bm b C hr hl w hm hown
  clear hm hown
  go_enter Tryz.func73, Tryz.ntmps73
  go_wp2_with fail
  refine hc.mono ?_
  rintro e w1 ⟨v, xs, rfl, hp, hrow, hb⟩
  have hxl : xs.length = C.length := hp.length_eq
  have H : (v = .slice none 0 0 ∧ C = []) ∨ ∃ g cap, v = .slice (some ⟨g, 0, none⟩) xs.length cap ∧ HoldsK cgL 3 w1 g 0 xs.toArray ∧ g < w1.heap.size ∧ w.heap.size ≤ g := by
    rcases hrow.2 with ⟨rfl, e⟩ | ⟨g, cap, cur, rfl, hbs, hg, rest⟩
    · exact .inl ⟨rfl, List.eq_nil_of_length_eq_zero (by omega)⟩
    · exact .inr ⟨g, cap, rfl, row_holds hrow, lt_of_block hg, hbs⟩
  clear hrow hc
  rcases H with ⟨rfl, rfl⟩ | ⟨g, cap, rfl, hH, hg, hbs⟩
  · have hcon := AnyF.slices_SortFunc_none (P := Tryz.prog) (ρ := Tryz.lSortF_ren) { Tryz.lSortF with } none 0 (.func (.func 75) #[] #[]) w1
    change Calls Tryz.prog 104 _ _ _ at hcon
    go_wp2_with fail
    refine hcon.mono ?_
    rintro e w2 ⟨rfl, rfl⟩
    go_wp2
    go_ret
    exact ⟨none, 0, rfl, (fun h => by cases h), (fun a h => by cases h), hb⟩
  · have hcon := sortF_any g cap w.heap.size xs C hp hr hl w1 hH hg hbs
    clear hH
    rw [hxl] at hcon ⊢
    go_wp2_with fail
    refine hcon.mono ?_
    rintro e w2 ⟨rfl, hat, hb2⟩
    go_wp2
    go_ret
    exact ⟨_, cap, rfl, hat, (fun a h => by cases h; exact hbs), hb.trans hb2⟩
end Go.Proofs.YtidmpblaeohfaaaGreatDoor
