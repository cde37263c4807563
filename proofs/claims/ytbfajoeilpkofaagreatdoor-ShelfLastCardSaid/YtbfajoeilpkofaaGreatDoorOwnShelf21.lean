/- The library's contracts laid at this program: which of its functions and types they speak of. -/
import Derived.Test.YtbfajoeilpkofaaGreatDoorProg
import Derived.Ground.SlmcProg
import Derived.Ground.NamesProg
import Derived.Ground.SlsfProg
import Derived.Shelf.SlGeneric
import Derived.Shelf.SlMaps.Clone
import Derived.Shelf.Small.Strs
import Derived.Shelf.Strconv.Clone
import Derived.Shelf.SlSortCmp.WholeK
import Derived.Test.YtbfajoeilpkofaaGreatDoorOwnShelf20
import Derived.Shelf.SlSortCmp.NoneTotal
import Derived.Test.YtbfajoeilpkofaaGreatDoorOwnShelf19
import Derived.Test.YtbfajoeilpkofaaGreatDoorOwnShelf18
import Derived.Maps.RangeWalk
namespace Go.Proofs
open Go.Shelf
def Tryz.lCloneM_ren : Go.Shelf.Ren := ⟨fun | 5 => 80 | 7 => 107 | n => n, fun | 23 => 81 | 25 => 9 | 3 => 101 | 4 => 4 | 20 => 20 | n => n, fun | n => n⟩
theorem Tryz.lCloneM : Go.Proofs.SlLaysW.n5 Tryz.prog Tryz.lCloneM_ren := {
  mixed := by kernel_rfl
  f5 := ⟨Tryz.f80.name, by decide, Tryz.func80.trans (congrArg some (by kernel_rfl))⟩
  f7 := Tryz.func107.trans (congrArg some (by kernel_rfl))
  t4 := Tryz.underlying4
  a4 := Tryz.isAgg4
  z4 := Tryz.sizeOf4
  v4 := Tryz.zeroValue4
  t20 := Tryz.underlying20
  a20 := Tryz.isAgg20
  z20 := Tryz.sizeOf20
  v20 := Tryz.zeroValue20
  t23 := Tryz.underlying81
  a23 := Tryz.isAgg81
  z23 := Tryz.sizeOf81
  v23 := Tryz.zeroValue81 }
def Tryz.lCompare_ren : Go.Shelf.Ren := ⟨fun | 106 => 76 | 213 => 106 | 265 => 120 | n => n, fun | 9 => 9 | 3 => 3 | n => n, fun | n => n⟩
theorem Tryz.lCompare : Go.Proofs.Lays.n106 Tryz.prog Tryz.lCompare_ren := {
  mixed := by kernel_rfl
  f106 := Tryz.func76.trans (congrArg some (by kernel_rfl))
  f213 := Tryz.func106.trans (congrArg some (by kernel_rfl))
  f265 := Tryz.func120.trans (congrArg some (by kernel_rfl))
  t3 := Tryz.underlying3
  a3 := Tryz.isAgg3
  z3 := Tryz.sizeOf3
  v3 := Tryz.zeroValue3
  t9 := Tryz.underlying9
  a9 := Tryz.isAgg9
  z9 := Tryz.sizeOf9
  v9 := Tryz.zeroValue9 }
def Tryz.lCloneS_ren : Go.Shelf.Ren := ⟨fun | 316 => 108 | n => n, fun | 9 => 9 | 3 => 3 | 4 => 4 | 37 => 29 | 0 => 0 | 127 => 208 | 5 => 5 | n => n, fun | n => n⟩
theorem Tryz.lCloneS : Go.Proofs.LaysM.n316 Tryz.prog Tryz.lCloneS_ren := {
  mixed := by kernel_rfl
  f316 := Tryz.func108.trans (congrArg some (by kernel_rfl))
  t0 := Tryz.underlying0
  a0 := Tryz.isAgg0
  z0 := Tryz.sizeOf0
  v0 := Tryz.zeroValue0
  t3 := Tryz.underlying3
  a3 := Tryz.isAgg3
  z3 := Tryz.sizeOf3
  v3 := Tryz.zeroValue3
  t4 := Tryz.underlying4
  a4 := Tryz.isAgg4
  z4 := Tryz.sizeOf4
  v4 := Tryz.zeroValue4
  t9 := Tryz.underlying9
  a9 := Tryz.isAgg9
  z9 := Tryz.sizeOf9
  v9 := Tryz.zeroValue9
  t37 := Tryz.underlying29
  a37 := Tryz.isAgg29
  z37 := Tryz.sizeOf29
  v37 := Tryz.zeroValue29
  t127 := Tryz.underlying208
  a127 := Tryz.isAgg208
  z127 := Tryz.sizeOf208
  v127 := Tryz.zeroValue208
  t5 := Tryz.underlying5
  a5 := Tryz.isAgg5
  z5 := Tryz.sizeOf5
  v5 := Tryz.zeroValue5
  i0 := by kernel_rfl
  i3 := by kernel_rfl
  i4 := by kernel_rfl
  i5 := by kernel_rfl
  i9 := by kernel_rfl
  i37 := by kernel_rfl
  i127 := by kernel_rfl }
def Tryz.lSortF_ren : Go.Shelf.Ren := ⟨fun | 6 => 104 | 15 => 111 | 14 => 119 | 28 => 130 | 29 => 131 | 20 => 141 | 21 => 142 | 22 => 143 | 23 => 144 | 24 => 145 | 25 => 146 | 26 => 147 | 27 => 148 | 46 => 159 | 47 => 150 | 48 => 151 | 49 => 160 | 50 => 161 | 57 => 164 | n => n, fun | 22 => 52 | 24 => 70 | 25 => 150 | 3 => 3 | 39 => 49 | 0 => 0 | 53 => 219 | 55 => 92 | 4 => 4 | 46 => 211 | 45 => 210 | 50 => 216 | 5 => 5 | 9 => 9 | 66 => 231 | 70 => 235 | 76 => 241 | 77 => 242 | n => n, fun | n => n⟩
theorem Tryz.lSortF : Go.Proofs.SlLaysF0.n6 Tryz.prog Tryz.lSortF_ren := {
  mixed := by kernel_rfl
  f6 := ⟨Tryz.f104.name, by decide, Tryz.func104.trans (congrArg some (by kernel_rfl))⟩
  f14 := ⟨Tryz.f119.name, by decide, Tryz.func119.trans (congrArg some (by kernel_rfl))⟩
  f15 := Tryz.func111.trans (congrArg some (by kernel_rfl))
  f20 := ⟨Tryz.f141.name, by decide, Tryz.func141.trans (congrArg some (by kernel_rfl))⟩
  f21 := ⟨Tryz.f142.name, by decide, Tryz.func142.trans (congrArg some (by kernel_rfl))⟩
  f22 := ⟨Tryz.f143.name, by decide, Tryz.func143.trans (congrArg some (by kernel_rfl))⟩
  f23 := ⟨Tryz.f144.name, by decide, Tryz.func144.trans (congrArg some (by kernel_rfl))⟩
  f24 := ⟨Tryz.f145.name, by decide, Tryz.func145.trans (congrArg some (by kernel_rfl))⟩
  f25 := ⟨Tryz.f146.name, by decide, Tryz.func146.trans (congrArg some (by kernel_rfl))⟩
  f26 := ⟨Tryz.f147.name, by decide, Tryz.func147.trans (congrArg some (by kernel_rfl))⟩
  f27 := ⟨Tryz.f148.name, by decide, Tryz.func148.trans (congrArg some (by kernel_rfl))⟩
  f28 := Tryz.func130.trans (congrArg some (by kernel_rfl))
  f29 := Tryz.func131.trans (congrArg some (by kernel_rfl))
  f46 := ⟨Tryz.f159.name, by decide, Tryz.func159.trans (congrArg some (by kernel_rfl))⟩
  f47 := Tryz.func150.trans (congrArg some (by kernel_rfl))
  f48 := Tryz.func151.trans (congrArg some (by kernel_rfl))
  f49 := ⟨Tryz.f160.name, by decide, Tryz.func160.trans (congrArg some (by kernel_rfl))⟩
  f50 := ⟨Tryz.f161.name, by decide, Tryz.func161.trans (congrArg some (by kernel_rfl))⟩
  f57 := ⟨Tryz.f164.name, by decide, Tryz.func164.trans (congrArg some (by kernel_rfl))⟩
  t0 := Tryz.underlying0
  a0 := Tryz.isAgg0
  z0 := Tryz.sizeOf0
  v0 := Tryz.zeroValue0
  t3 := Tryz.underlying3
  a3 := Tryz.isAgg3
  z3 := Tryz.sizeOf3
  v3 := Tryz.zeroValue3
  t4 := Tryz.underlying4
  a4 := Tryz.isAgg4
  z4 := Tryz.sizeOf4
  v4 := Tryz.zeroValue4
  t5 := Tryz.underlying5
  a5 := Tryz.isAgg5
  z5 := Tryz.sizeOf5
  v5 := Tryz.zeroValue5
  t9 := Tryz.underlying9
  a9 := Tryz.isAgg9
  z9 := Tryz.sizeOf9
  v9 := Tryz.zeroValue9
  t22 := Tryz.underlying52
  a22 := Tryz.isAgg52
  z22 := Tryz.sizeOf52
  v22 := Tryz.zeroValue52
  t25 := Tryz.underlying150
  a25 := Tryz.isAgg150
  z25 := Tryz.sizeOf150
  v25 := Tryz.zeroValue150
  t39 := Tryz.underlying49
  a39 := Tryz.isAgg49
  z39 := Tryz.sizeOf49
  v39 := Tryz.zeroValue49
  t45 := Tryz.underlying210
  a45 := Tryz.isAgg210
  z45 := Tryz.sizeOf210
  v45 := Tryz.zeroValue210
  t46 := Tryz.underlying211
  a46 := Tryz.isAgg211
  z46 := Tryz.sizeOf211
  v46 := Tryz.zeroValue211
  t50 := Tryz.underlying216
  a50 := Tryz.isAgg216
  z50 := Tryz.sizeOf216
  v50 := Tryz.zeroValue216
  t53 := Tryz.underlying219
  a53 := Tryz.isAgg219
  z53 := Tryz.sizeOf219
  v53 := Tryz.zeroValue219
  t55 := Tryz.underlying92
  a55 := Tryz.isAgg92
  z55 := Tryz.sizeOf92
  v55 := Tryz.zeroValue92
  t66 := Tryz.underlying231
  a66 := Tryz.isAgg231
  z66 := Tryz.sizeOf231
  v66 := Tryz.zeroValue231
  t70 := Tryz.underlying235
  a70 := Tryz.isAgg235
  z70 := Tryz.sizeOf235
  v70 := Tryz.zeroValue235
  t76 := Tryz.underlying241
  a76 := Tryz.isAgg241
  z76 := Tryz.sizeOf241
  v76 := Tryz.zeroValue241
  t77 := Tryz.underlying242
  a77 := Tryz.isAgg242
  z77 := Tryz.sizeOf242
  v77 := Tryz.zeroValue242 }
end Go.Proofs
/- What changes, by rising keys. -/
namespace Go.Proofs.YtbfajoeilpkofaaGreatDoor
open Go.RowKit Go.Shelf Go.Maps Go.Sort Go.Lib

attribute [local go_sem ↓] Go.wp_at_zero Go.wp_at_succ

def cfC (x y : Cg) : Int := Lib.compareBytes x.k y.k
theorem ltC (x y : Cg) : ltOf cfC x y = bytesBefore x.k y.k := by
  unfold ltOf cfC
  rw [compare_before]
  cases h : bytesBefore x.k y.k
  · cases bytesBefore y.k x.k <;> simp
  · simp
theorem swoC : SWO (ltOf cfC) where
  irrefl x := by rw [ltC]; exact before_irrefl _
  trans x y z h1 h2 := by rw [ltC] at *; exact WideShapes.bytes_trans _ _ _ h1 h2
  ntrans x y z h1 h2 := by
    rw [ltC] at *
    rw [before_lt] at *
    simp only [decide_eq_false_iff_not, List.not_lt] at *
    exact List.le_trans h2 h1
set_option maxHeartbeats 1000000 in
theorem chg2_any (x y : Cg) (W : World) : Calls Tryz.prog 75 #[.agg #[encStr x.k, encStr x.v, .bool x.g], .agg #[encStr y.k, encStr y.v, .bool y.g]] W fun e w' => e = .returned (.int .i64 (cfC x y)) ∧ ∃ q os', w' = grow (W.drewN q) os' := by
  have hcon := fun W' => Any.strings_Compare Tryz.lCompare ⟨x.k.toArray⟩ ⟨y.k.toArray⟩ W'
  change ∀ W', Calls Tryz.prog 76 #[encStr x.k, encStr y.k] W' _ at hcon
  have e1 : Lib.compareBytes (⟨x.k.toArray⟩ : ByteArray).data.toList (⟨y.k.toArray⟩ : ByteArray).data.toList = cfC x y := rfl
  rw [e1] at hcon
  generalize cfC x y = r at hcon ⊢
  go_enter Tryz.func75, Tryz.ntmps75
  go_wp2_with (go_at_call 76; refine (hcon _).mono ?_; rintro e w' ⟨rfl, rfl⟩)
  go_ret
  exact ⟨rfl, 0, _, by rw [alloc_eq_grow, alloc_eq_grow, grow_grow]; rfl⟩
theorem cmpLaysC (blk off size : Nat) (w : World) : CmpLays Tryz.prog 75 #[] cgL 3 cfC blk off size w :=
  fun _ _ _ _ x y => chg2_any x y _
theorem cgL_one (x : Cg) : ∀ v ∈ cgL x, v.oneCell' = true := by
  intro v hv
  simp [cgL] at hv
  rcases hv with rfl | rfl | rfl <;> rfl
theorem perm_rise {C : List Cg} (hr : Rise Cg.k C) {d' : List Cg} (hp : d'.Perm C) (hs : d'.Pairwise fun x y => ltOf cfC y x = false) : d' = C := by
  have h1 : Rise Cg.k d' := by
    unfold Rise
    have hn : (d'.map Cg.k).Nodup := (hp.map Cg.k).nodup_iff.2 hr.nodupC
    rw [List.Nodup, List.pairwise_map] at hn
    refine (hs.and hn).imp fun {a b} h => ?_
    have h2 := h.1
    rw [ltC] at h2
    exact before_of_not h2 (fun e => h.2 e.symm)
  exact h1.ext Cg.k hr fun x => hp.mem_iff
/-- Changes that lie somewhere. -/
def CgAt (w : World) (ad : Option Addr) (C : List Cg) : Prop := 0 < C.length → ∃ b off, ad = some ⟨b, off, none⟩ ∧ ∀ j x, C[j]? = some x →
  w.cell? ⟨b, off + j * 3, none⟩ = some (encStr x.k) ∧ w.cell? ⟨b, off + j * 3 + 1, none⟩ = some (encStr x.v) ∧ w.cell? ⟨b, off + j * 3 + 2, none⟩ = some (.bool x.g)
theorem CgAt.lt {w : World} {ad : Option Addr} {C : List Cg} (h : CgAt w ad C) {a : Addr} (e : ad = some a) (hn : 0 < C.length) : a.block < w.heap.size := by
  obtain ⟨b, off, rfl, hc⟩ := h hn
  cases e
  exact World.block_lt_of_cell? w _ (hc 0 _ (List.getElem?_eq_getElem hn)).1
theorem CgAt.keep {w w' : World} {ad : Option Addr} {C : List Cg} (h : CgAt w ad C) (hk : ∀ a, ad = some a → 0 < C.length → w'.heap[a.block]? = w.heap[a.block]?) : CgAt w' ad C := fun hn => by
  obtain ⟨b, off, rfl, hc⟩ := h hn
  refine ⟨b, off, rfl, fun j x hx => ?_⟩
  have e := hk ⟨b, off, none⟩ rfl hn
  rw [World.cell?_of_block (a := ⟨b, off + j * 3, none⟩) e, World.cell?_of_block (a := ⟨b, off + j * 3 + 1, none⟩) e, World.cell?_of_block (a := ⟨b, off + j * 3 + 2, none⟩) e]
  exact hc j x hx
theorem CgAt.below {w w' : World} {ad : Option Addr} {C : List Cg} (h : CgAt w ad C) (hb : Below w.heap.size w w') : CgAt w' ad C := h.keep fun _ e hn => hb.block _ (h.lt e hn)
theorem flatC_get : ∀ (C : List Cg) (j i : Nat) (x : Cg), C[j]? = some x → i < 3 → (flatC C)[j * 3 + i]? = (cgL x)[i]?
  | [], j, _, _, h, _ => by simp at h
  | y :: r, 0, i, x, h, hi => by
    simp at h; subst h
    rw [flatC, List.flatMap_cons, Nat.zero_mul, Nat.zero_add, List.getElem?_append_left (by simpa [cgL] using hi)]
  | y :: r, j + 1, i, x, h, hi => by
    have := flatC_get r j i x (by simpa using h) hi
    rw [flatC, List.flatMap_cons, List.getElem?_append_right (by simp [cgL]; omega)]
    rw [flatC] at this
    rw [← this]
    congr 1
    simp [cgL]; omega
theorem flat_eq (C : List Cg) : flatK cgL 3 C.toArray = (flatC C).toArray := by
  refine ext_get! (by simp [flatC_length]) fun t ht => ?_
  have ht' : t < C.length * 3 := by simpa using ht
  rw [get_flatK _ _ _ _ (by simpa using ht')]
  have h1 : t / 3 < C.length := by omega
  have h2 := flatC_get C (t / 3) (t % 3) C[t / 3] (List.getElem?_eq_getElem h1) (by omega)
  rw [show t / 3 * 3 + t % 3 = t from by omega] at h2
  have h3 : C.toArray[t / 3]! = C[t / 3] := by simp [h1]
  rw [h3]
  simp only [List.getElem!_toArray, List.getElem!_eq_getElem?_getD]
  rw [h2]
theorem row_holds {w : World} {B g cap n : Nat} {C : List Cg} (h : w.ownsRow B 70 3 (.slice (some ⟨g, 0, none⟩) n cap) C.length (flatC C)) : HoldsK cgL 3 w g 0 C.toArray := by
  rcases h.2 with ⟨e, _⟩ | ⟨g', cap', cur, e, hb, hg, rest⟩
  · cases e
  · cases e
    unfold HoldsK
    rw [flat_eq]
    intro j hj
    have hj' : j < (flatC C).length := by simpa using hj
    refine ⟨?_, by rw [Nat.zero_add]; exact frozen_of_row w g j _ _ hg⟩
    have := h.cells (g := g) rfl j (flatC C)[j] (List.getElem?_eq_getElem hj')
    rw [Addr.add_lit] at this
    rw [this]
    simp [hj']
theorem holds_at {w : World} {g : Nat} {C : List Cg} (h : HoldsK cgL 3 w g 0 C.toArray) : CgAt w (some ⟨g, 0, none⟩) C := fun _ => by
  refine ⟨g, 0, rfl, fun j x hx => ?_⟩
  unfold HoldsK at h
  rw [flat_eq] at h
  have hj : j < C.length := (List.getElem?_eq_some_iff.1 hx).1
  have key : ∀ i, i < 3 → w.cell? ⟨g, 0 + (j * 3 + i), none⟩ = some ((cgL x)[i]!) := fun i hi => by
    have h1 := (h (j * 3 + i) (by simp [flatC_length]; omega)).1
    rw [h1]
    have h2 := flatC_get C j i x hx hi
    simp only [List.getElem!_toArray, List.getElem!_eq_getElem?_getD, id]
    rw [h2]
  have k0 := key 0 (by omega)
  have k1 := key 1 (by omega)
  have k2 := key 2 (by omega)
  exact ⟨by simpa [cgL] using k0, by rw [Nat.add_assoc]; simpa [cgL] using k1, by rw [Nat.add_assoc]; simpa [cgL] using k2⟩
theorem sortK_below {w : World} {g off n : Nat} {d : Array Cg} {os : Array Obj} {B : Nat} (hB : B ≤ g) (hg : g < w.heap.size) : Below B w (sortWorldK cgL 3 w g off n d os) := by
  unfold sortWorldK putRowK
  refine ⟨rfl, rfl, rfl, by simp, fun k hk => ?_⟩
  rw [heap_grow_old _ _ (by simp; omega)]
  simp only [putRow, mapBlock, heap_ahead]
  rw [Array.getElem?_modify, if_neg (by omega)]
theorem sortF_any (g cap B : Nat) (xs C : List Cg) (hp : xs.Perm C) (hr : Rise Cg.k C) (hl : C.length ≤ 1000000) (w : World) (hH : HoldsK cgL 3 w g 0 xs.toArray) (hg : g < w.heap.size) (hB : B ≤ g) :
    Calls Tryz.prog 104 #[.slice (some ⟨g, 0, none⟩) xs.length cap, .func (.func 75) #[] #[]] w fun e w' => e = .returned (.tuple #[]) ∧ CgAt w' (some ⟨g, 0, none⟩) C ∧ Below B w w' := by
  have hxl : xs.length = C.length := hp.length_eq
  have eg : ∀ args w, (callFunc 75 args).run Tryz.prog w = .ok (.enter 75 args) w := enters_of Tryz.func75 (by kernel_rfl) rfl
  have hcon := AnyQ.slices_SortFunc Tryz.lSortF 3 Tryz.isAgg70 Tryz.sizeOf70 cgL (fun _ => rfl) cgL_one cfC swoC 75 #[] g 0 cap xs.toArray w eg (cmpLaysC g 0 xs.toArray.size w) hH hg (by simp; omega)
  change Calls Tryz.prog 104 _ _ _ at hcon
  have e0 : xs.toArray.size = xs.length := rfl
  rw [e0] at hcon
  refine hcon.mono ?_
  rintro e w' ⟨rfl, d', n, os, hpi, hs, rfl⟩
  obtain ⟨hsz, _, hpp⟩ := hpi
  have hd : d'.toList = C := by
    apply perm_rise hr
    · have h1 : (d'.extract 0 xs.length).toList = d'.toList := by rw [← e0, ← hsz]; simp
      have h2 : (xs.toArray.extract 0 xs.length).toList = xs := by simp
      rw [h1, h2] at hpp
      exact hpp.trans hp
    · rw [List.pairwise_iff_getElem]
      intro i j hi hj hij
      have := hs i j (Nat.zero_le _) hij (by rw [← e0, ← hsz]; simpa using hj)
      have hi' : i < d'.size := by simpa using hi
      have hj' : j < d'.size := by simpa using hj
      rw [getElem!_pos d' j hj', getElem!_pos d' i hi'] at this
      simpa using this
  refine ⟨rfl, ?_, sortK_below hB hg⟩
  rw [← hd]
  have := holdsK_sortWorldK_c cgL 3 w g 0 xs.toArray d' n os hH hg hsz
  exact holds_at (by simpa using this)
/-- What is told: a slice of its own. -/
def CgR (w : World) (C : List Cg) (e : Ending) (w' : World) : Prop := ∃ ad cap, e = .returned (.slice ad C.length cap) ∧ CgAt w' ad C ∧ (∀ a, ad = some a → w.heap.size ≤ a.block) ∧ Below w.heap.size w w'
set_option maxHeartbeats 1000000 in
theorem sortedF_any (Bm b : Nat) (C : List Cg) (hr : Rise Cg.k C) (hl : C.length ≤ 1000000) (w : World) (hm : w.cell? ⟨Bm, 0, none⟩ = some (.map (some b))) (hown : cgM w b C) :
    Calls Tryz.prog 73 #[.func (.func 105) #[] #[.pointer (some ⟨Bm, 0, none⟩)], .func (.func 75) #[] #[]] w (CgR w C) := by
  have hc := collect_any Bm b C hr hl w hm hown
  clear hm hown
  go_enter Tryz.func73, Tryz.ntmps73
  go_wp2_with fail
  refine hc.mono ?_
  rintro e w1 ⟨v, xs, rfl, hp, hrow, hb⟩
  have hxl : xs.length = C.length := hp.length_eq
  have H : (v = .slice none 0 0 ∧ C = []) ∨ ∃ g cap, v = .slice (some ⟨g, 0, none⟩) xs.length cap ∧ HoldsK cgL 3 w1 g 0 xs.toArray ∧ g < w1.heap.size ∧ w.heap.size ≤ g := by
    rcases hrow.2 with ⟨rfl, e⟩ | ⟨g, cap, cur, rfl, hbs, hg, rest⟩
    · exact .inl ⟨rfl, List.eq_nil_of_length_eq_zero (by omega)⟩
    · exact .inr ⟨g, cap, rfl, row_holds hrow, lt_of_block hg, hbs⟩
  clear hrow hc
  rcases H with ⟨rfl, rfl⟩ | ⟨g, cap, rfl, hH, hg, hbs⟩
  · have hcon := AnyF.slices_SortFunc_none (P := Tryz.prog) (ρ := Tryz.lSortF_ren) { Tryz.lSortF with } none 0 (.func (.func 75) #[] #[]) w1
    change Calls Tryz.prog 104 _ _ _ at hcon
    go_wp2_with fail
    refine hcon.mono ?_
    rintro e w2 ⟨rfl, rfl⟩
    go_wp2
    go_ret
    exact ⟨none, 0, rfl, (fun h => by cases h), (fun a h => by cases h), hb⟩
  · have hcon := sortF_any g cap w.heap.size xs C hp hr hl w1 hH hg hbs
    clear hH
    rw [hxl] at hcon ⊢
    go_wp2_with fail
    refine hcon.mono ?_
    rintro e w2 ⟨rfl, hat, hb2⟩
    go_wp2
    go_ret
    exact ⟨_, cap, rfl, hat, (fun a h => by cases h; exact hbs), hb.trans hb2⟩
end Go.Proofs.YtbfajoeilpkofaaGreatDoor
/- Which places are free. -/
namespace Go.Proofs.YtbfajoeilpkofaaGreatDoor
open Go.RowKit Go.Maps Go.Sort

attribute [local go_sem ↓] Go.wp_at_zero Go.wp_at_succ

def heldB (L : List Lf) (i : Nat) : Bool := L.any fun x => x.p == i
/-- The places of those leaves that have come. -/
def cameB (L : List Lf) (left : Lit → Bool) (i : Nat) : Bool := L.any fun x => x.p == i && !left (.string x.k)
theorem cameB_end {L : List Lf} {left : Lit → Bool} (h : ∀ kl, left kl = false) : cameB L left = heldB L := by
  funext i; simp [cameB, heldB, h]
theorem cameB_start (L : List Lf) : cameB L (Maps.has (dOf Lf.k Lf.en L)) = toldK [] := by
  funext i
  simp only [cameB, toldK, List.contains_nil, List.any_eq_false]
  intro x hx
  have : Maps.has (dOf Lf.k Lf.en L) (.string x.k) = true := by
    rw [dOf_has]
    cases e : getK Lf.k x.k L with
    | none => exact absurd rfl ((getK_none Lf.k).1 e x hx)
    | some y => rfl
  simp [this]
theorem cameB_step {L : List Lf} (hr : Rise Lf.k L) {left : Lit → Bool} {k : List UInt8} {x : Lf} (hx : getK Lf.k k L = some x) (n : Nat) :
    (tl (cameB L left) n).set x.p (.bool true) = tl (cameB L (fun z => left z && !z.sameKey (.string k))) n := by
  obtain ⟨hm, hk⟩ := getK_mem Lf.k hx
  unfold tl
  apply List.ext_getElem
  · simp
  · intro j h1 h2
    rw [List.getElem_set]
    simp only [List.getElem_map, List.getElem_range]
    split
    · rename_i e
      subst e
      congr 1
      symm
      simp only [cameB, List.any_eq_true]
      exact ⟨x, hm, by simp [Lit.sameKey, hk]⟩
    · rename_i e
      congr 1
      unfold cameB
      apply Bool.eq_iff_iff.2
      simp only [List.any_eq_true]
      constructor
      · rintro ⟨y, hy, h⟩
        refine ⟨y, hy, ?_⟩
        simp at h ⊢
        exact ⟨h.1, .inl h.2⟩
      · rintro ⟨y, hy, h⟩
        refine ⟨y, hy, ?_⟩
        simp [Lit.sameKey] at h ⊢
        refine ⟨h.1, ?_⟩
        cases hl : left (.string y.k) with
        | false => rfl
        | true =>
          have := h.2.resolve_left (by simp [hl])
          have : y = x := hr.inj Lf.k hy hm (this.trans hk.symm)
          subst this
          exact absurd h.1 e
/-- The free places below q. -/
def frL (L : List Lf) (q : Nat) : List Int := ((List.range' 1 (q - 1)).filter fun i => !heldB L i).map fun x : Nat => (x : Int)
theorem frL_one (L : List Lf) : frL L 1 = [] := rfl
theorem frL_succ (L : List Lf) {q : Nat} (hq : 1 ≤ q) : frL L (q + 1) = frL L q ++ (if heldB L q then [] else [(q : Int)]) := by
  unfold frL
  obtain ⟨r, rfl⟩ : ∃ r, q = r + 1 := ⟨q - 1, by omega⟩
  rw [show r + 1 + 1 - 1 = r + 1 from rfl, show r + 1 - 1 = r from rfl, List.range'_concat, List.filter_append, List.map_append]
  congr 1
  rw [show 1 + 1 * r = r + 1 from by omega]
  cases h : heldB L (r + 1) <;> simp [h]
theorem frL_le (L : List Lf) (q : Nat) : (frL L q).length ≤ q := by
  unfold frL
  rw [List.length_map]
  have := List.length_filter_le (fun i => !heldB L i) (List.range' 1 (q - 1))
  simp at this
  omega
/-- What comes out of a map of leaves. -/
theorem lf_came {L : List Lf} {x : List UInt8} {c : Nat × List UInt8} {kl : Lit} {y : DataW Unit × List MemPlace} (hkey : keyOf Tryz.prog 9 (encStr x) = some kl) (hv : lfR (.agg #[.int .i64 (c.1 : Int), encStr c.2]) = some y)
    (hat : ∀ zd, (dOf Lf.k Lf.en L).atKey kl zd = y.1) : kl = .string x ∧ ∃ f, getK Lf.k x L = some f ∧ f.p = c.1 ∧ f.v = c.2 := by
  obtain ⟨x', e, rfl, _⟩ := Maps.keyOf_str Tryz.underlying9 hkey
  obtain rfl := encStr_inj e
  have e1 : y = (lfD c.1 c.2, []) := Option.some.inj (hv.symm.trans (lfR_mk c.1 c.2))
  subst e1
  have h1 := hat .nil
  rw [dOf_at] at h1
  refine ⟨rfl, ?_⟩
  cases hg : getK Lf.k x L with
  | none => rw [hg] at h1; cases h1
  | some f => rw [hg] at h1; have := lfD_inj h1; exact ⟨f, rfl, this⟩
/-- While the map is gone over: the block hb holds what has come. -/
structure FrI (w wr : World) (n : Nat) (L : List Lf) (left : Lit → Bool) : Prop where
  at_ : wr.heap[w.heap.size]? = some (.cells (tl (cameB L left) n).toArray 4 (0, 0))
  below : Below w.heap.size w wr
set_option maxRecDepth 100000 in
set_option maxHeartbeats 1600000 in
theorem free_any (sh m p fr n : Nat) (L : List Lf) (dead : Int) (w : World) (h : ShAt w sh m p fr n L dead) :
    Calls Tryz.prog 46 #[.pointer (some ⟨sh, 0, none⟩)] w fun e w' => ∃ v, e = .returned v ∧ IOw w w' v (frL L n) := by
  have c2 := h.c2
  have c3 := h.c3
  have hn := h.count
  have lsh := h.lt
  have lm := h.ltm
  have hmk := make_told n (by omega) w
  have HH : Hid (ShAt w sh m p fr n L dead) := h
  clear h
  have hs1 : (w.alloc (.cells (tl (toldK []) n).toArray 4)).heap.size = w.heap.size + 1 := by simp
  have hb1 : Below w.heap.size w (w.alloc (.cells (tl (toldK []) n).toArray 4)) := (Below.refl _ w).alloc (Nat.le_refl _) _
  have hown : (w.alloc (.cells (tl (toldK []) n).toArray 4)).ownsMap Tryz.prog 9 lfR m L.length (dOf Lf.k Lf.en L) := owns_keepB HH.out.map (hb1.block m lm)
  have hat : (w.alloc (.cells (tl (toldK []) n).toArray 4)).heap[w.heap.size]? = some (.cells (tl (toldK []) n).toArray 4 (0, 0)) := heap_alloc_new w _
  go_enter Tryz.func46, Tryz.ntmps46
  go_wp2_with (first | (at_range; refine wpList_range_own _ rfl _ 81 rfl 9 101 strK Tryz.underlying81 _ m L.length _ rfl hown ?_; intro w2 hrg0 hg0 hs0) | fail)
  go_frame
  rw [hs1] at hrg0 hs0 ⊢
  have hI0 : FrI w w2 n L (Maps.has (dOf Lf.k Lf.en L)) := by
    refine ⟨?_, hb1.grown hg0 (by simp) (fun k e => by cases e)⟩
    rw [cameB_start, hg0.block _ (by simp) (by simp)]
    exact hat
  clear hown hat hg0 hmk
  go_loopw [5] (fun _ wr => ∃ (left : Lit → Bool) (cnt : Nat), wr.ranges Tryz.prog 9 lfR m (w.heap.size + 1) L.length (dOf Lf.k Lf.en L) left cnt ∧ FrI w wr n L left) (fun _ wr => wr.rangeLeft m (w.heap.size + 1))
  case atStart => exact ⟨_, _, hrg0, hI0⟩
  case round =>
    clear hrg0 hI0 hs0
    obtain ⟨left, cnt, hrg, hI⟩ := hrel
    have HI : Hid (FrI w wr n L left) := hI
    clear hI
    go_wp2_with (first | (at_next; refine wpList_next_ranges _ rfl _ rfl 9 strK lfR encStr (fun c : Nat × List UInt8 => Value.agg #[.int .i64 (c.1 : Int), encStr c.2]) (fun key kl hk => key_inv hk) (fun v y hv => lfR_val hv) m (w.heap.size + 1) L.length _ left cnt rfl hrg ?_ ?_) | fail)
    · intro hc0 hl0
      have hat := HI.out.at_
      rw [cameB_end hl0] at hat
      have HB : Hid (Below w.heap.size w wr) := HI.out.below
      have c2' : wr.cell? ⟨sh, 2, none⟩ = some (.int .i64 (n : Int)) := by rw [HB.out.cell (p := ⟨sh, 2, none⟩) lsh]; exact c2
      have HT : Hid (wr.heap[w.heap.size]? = some (.cells (tl (heldB L) n).toArray 4 (0, 0))) := hat
      clear hat HI hrg hl0 c2 c3 hs1 hb1
      generalize wr = wo at *
      go_wp2
      go_loopw [6, 7] (fun v iv wq => ∃ q : Nat, 1 ≤ q ∧ q ≤ n ∧ iv = .int .i64 q ∧ IOw wo wq v (frL L q)) (fun _ iv _ => n - (intOf iv).toNat)
      case atStart => exact ⟨1, Nat.le_refl _, by omega, rfl, IOw.nil wo⟩
      case round =>
        obtain ⟨q, hq1, hqn, rfl, hO⟩ := hrel
        have HO : Hid (IOw wo wr u6 (frL L q)) := hO
        clear hO
        have hlo : w.heap.size < wo.heap.size := lt_of_block HT.out
        have c2q : wr.cell? ⟨sh, 2, none⟩ = some (.int .i64 (n : Int)) := by rw [HO.out.below.cell (p := ⟨sh, 2, none⟩) (Nat.lt_of_lt_of_le lsh HB.out.size)]; exact c2'
        by_cases hlt : q < n
        · have hlt' : (q : Int) < n := by omega
          have ch : wr.cell? ⟨w.heap.size, q, none⟩ = some (.bool (heldB L q)) := by
            rw [HO.out.below.cell (p := ⟨w.heap.size, q, none⟩) hlo, cell_of_row wo _ q _ _ _ HT.out]
            simpa using tl_at hlt
          have hle := frL_le L q
          have hsc := frL_succ L hq1
          cases hh : heldB L q with
          | true =>
            rw [hh] at ch hsc
            simp only [if_true, List.append_nil] at hsc
            have HS : Hid (frL L (q + 1) = frL L q) := hsc
            clear hsc
            go_wp2
            refine ⟨⟨q + 1, by omega, by omega, by go_num, by rw [HS.out]; exact HO.out⟩, by simp [intOf]; omega⟩
          | false =>
            rw [hh] at ch hsc
            have hsc' : frL L (q + 1) = frL L q ++ [(q : Int)] := by simpa using hsc
            have HS : Hid (frL L (q + 1) = frL L q ++ [(q : Int)]) := hsc'
            clear hsc'
            clear hsc
            go_wp2_with (first | (at_builtin; refine wpList_append_I rfl _ _ rfl wo u6 _ (frL L q) [(q : Int)] rfl rfl (HO.out.alloc _) (one_isrc (heap_alloc_new wr _)) (by simp; omega) ?_; intro v1 w1 hO1) | fail)
            refine ⟨⟨q + 1, by omega, by omega, by go_num, by rw [HS.out]; exact hO1⟩, by simp [intOf]; omega⟩
        · obtain rfl : q = n := by omega
          have hlt' : ¬ ((q : Int) < q) := by omega
          go_wp2
          go_ret
          exact ⟨u6, rfl, HO.out.mono HB.out⟩
    · intro x cp cv kl yd yp w3 cnt3 hkey hlk hv hat hrg3 hlt hg3 hs3 hen
      obtain ⟨rfl, f, hgf, hfp, hfv⟩ := lf_came (c := (cp, cv)) (y := (yd, yp)) hkey hv hat
      have hpl := HH.out.ok.place f (getK_mem Lf.k hgf).1
      have hb3 : Below w.heap.size w w3 := HI.out.below.grown hg3 HI.out.below.size (fun k e => by cases e; omega)
      have hat3 : w3.heap[w.heap.size]? = some (.cells (tl (cameB L left) n).toArray 4 (0, 0)) := by rw [hg3.block _ (lt_of_block HI.out.at_) (by simp)]; exact HI.out.at_
      have l3 := lt_of_block hat3
      simp only at hfp hfv
      subst hfp
      have hpn : (f.p : Int) < n := by omega
      have ck : (w3.alloc (.cells #[.int .i64 (f.p : Int), encStr cv] 101)).cell? ⟨w.heap.size, f.p, none⟩ = some (.bool (cameB L left f.p)) := by
        rw [World.cell?_alloc_lt _ _ ⟨w.heap.size, f.p, none⟩ l3, cell_of_row w3 _ f.p _ _ _ hat3]
        simpa using tl_at hpl.2
      have fk : (w3.alloc (.cells #[.int .i64 (f.p : Int), encStr cv] 101)).frozen? ⟨w.heap.size, f.p, none⟩ = false := frozen_of_row _ _ _ _ _ ((Below.heap_alloc _ _ _ l3).trans hat3)
      have hne : m ≠ w.heap.size := by omega
      have hrl := hrg3.lt
      have hbE : Below w3.heap.size w3 (w3.alloc (.cells #[.int .i64 (f.p : Int), encStr cv] 101)) := (Below.refl _ w3).alloc (Nat.le_refl _) _
      have hE : FrI w ((w3.alloc (.cells #[.int .i64 (f.p : Int), encStr cv] 101)).setCell ⟨w.heap.size, f.p, none⟩ (.bool true)) n L (fun z => left z && !z.sameKey (.string x)) := by
        refine ⟨?_, (hb3.alloc hb3.size _).setCell (p := ⟨w.heap.size, f.p, none⟩) (Nat.le_refl _) _⟩
        rw [heap_setCell_same _ _ _ _ _ _ ((Below.heap_alloc _ _ _ l3).trans hat3), ← cameB_step HH.out.ok.rise hgf]
        congr 2
        apply Array.toList_inj.1
        simp
      have hrE : ((w3.alloc (.cells #[.int .i64 (f.p : Int), encStr cv] 101)).setCell ⟨w.heap.size, f.p, none⟩ (.bool true)).ranges Tryz.prog 9 lfR m (w.heap.size + 1) L.length (dOf Lf.k Lf.en L) (fun z => left z && !z.sameKey (.string x)) cnt3 :=
        ranges_keepB hrg3 ((Below.heap_setCell _ _ _ _ (by simpa using hne)).trans (Below.heap_alloc _ _ _ hrg3.owns.lt)) ((Below.heap_setCell _ _ _ _ (by simp)).trans (Below.heap_alloc _ _ _ hrl))
      have HE : Hid (FrI w ((w3.alloc (.cells #[.int .i64 (f.p : Int), encStr cv] 101)).setCell ⟨w.heap.size, f.p, none⟩ (.bool true)) n L (fun z => left z && !z.sameKey (.string x)) ∧ ((w3.alloc (.cells #[.int .i64 (f.p : Int), encStr cv] 101)).setCell ⟨w.heap.size, f.p, none⟩ (.bool true)).ranges Tryz.prog 9 lfR m (w.heap.size + 1) L.length (dOf Lf.k Lf.en L) (fun z => left z && !z.sameKey (.string x)) cnt3) := ⟨hE, hrE⟩
      clear hE hrE hrg3 hat3 hg3 hb3 hbE hat hv hkey hgf
      have hms : cnt3 < wr.rangeLeft m (w.heap.size + 1) := by rw [hrg.left_eq]; exact hlt
      clear hrg
      go_wp2
      refine ⟨⟨_, _, HE.out.2, HE.out.1⟩, ?_⟩
      rw [HE.out.2.left_eq]
      exact hms
set_option maxHeartbeats 800000 in
theorem free_cnt (sh m p fr n : Nat) (L : List Lf) (dead : Int) (w : World) (h : ShAt w sh m p fr n L dead) :
    Calls Tryz.prog 18 #[.pointer (some ⟨sh, 0, none⟩)] w fun e w' => e = .returned (.int .i64 (frL L n).length) ∧ Below w.heap.size w w' := by
  have hf := free_any sh m p fr n L dead w h
  clear h
  go_enter Tryz.func18, Tryz.ntmps18
  go_wp2_with fail
  refine hf.mono ?_
  rintro e w1 ⟨v, rfl, hO⟩
  obtain ⟨ad, cap, rfl, -, -⟩ := hO.sl
  go_wp2
  go_ret
  exact ⟨rfl, hO.below⟩
theorem free_nil (w : World) : Calls Tryz.prog 18 #[.pointer none] w fun e w' => e = .returned (.int .i64 0) ∧ w' = w := by
  go_enter Tryz.func18, Tryz.ntmps18
  go_wp2
  go_ret
  exact ⟨rfl, rfl⟩
end Go.Proofs.YtbfajoeilpkofaaGreatDoor
