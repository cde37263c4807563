/- The library's contracts laid at this program: which of its functions and types they speak of. -/
import Derived.Test.YtmekplaonlpfkaaGreatDoorProg
import Derived.Ground.GgzProg
import Derived.Ground.NamesProg
import Derived.Shelf.SlGeneric
import Derived.Shelf.SlIter.Sorted
import Derived.Shelf.Sort.Plain
import Derived.Shelf.Slices.In.SortNone
import Derived.Test.YtmekplaonlpfkaaGreatDoorOwnShelfApart08
import Derived.Test.YtmekplaonlpfkaaGreatDoorOwnShelfApart09
import Derived.Test.YtmekplaonlpfkaaGreatDoorOwnShelfApart11
namespace Go.Proofs
open Go.Shelf
def Tryz.lKeys_ren : Go.Shelf.Ren := ⟨fun | 7 => 51 | 10 => 87 | n => n, fun | 23 => 81 | 26 => 9 | 3 => 101 | 28 => 112 | 0 => 0 | 27 => 111 | 33 => 159 | 4 => 4 | n => n, fun | n => n⟩
theorem Tryz.lKeys : Go.Proofs.SlLaysZ.n7 Tryz.prog Tryz.lKeys_ren := {
  mixed := by kernel_rfl
  f7 := ⟨Tryz.f51.name, by decide, Tryz.func51.trans (congrArg some (by kernel_rfl))⟩
  f10 := ⟨Tryz.f87.name, by decide, Tryz.func87.trans (congrArg some (by kernel_rfl))⟩
  t0 := Tryz.underlying0
  a0 := Tryz.isAgg0
  z0 := Tryz.sizeOf0
  v0 := Tryz.zeroValue0
  t4 := Tryz.underlying4
  a4 := Tryz.isAgg4
  z4 := Tryz.sizeOf4
  v4 := Tryz.zeroValue4
  t23 := Tryz.underlying81
  a23 := Tryz.isAgg81
  z23 := Tryz.sizeOf81
  v23 := Tryz.zeroValue81
  t26 := Tryz.underlying9
  a26 := Tryz.isAgg9
  z26 := Tryz.sizeOf9
  v26 := Tryz.zeroValue9
  t27 := Tryz.underlying111
  a27 := Tryz.isAgg111
  z27 := Tryz.sizeOf111
  v27 := Tryz.zeroValue111
  t28 := Tryz.underlying112
  a28 := Tryz.isAgg112
  z28 := Tryz.sizeOf112
  v28 := Tryz.zeroValue112
  t33 := Tryz.underlying159
  a33 := Tryz.isAgg159
  z33 := Tryz.sizeOf159
  v33 := Tryz.zeroValue159 }
def Tryz.lSorted_ren : Go.Shelf.Ren := ⟨fun | 6 => 50 | 8 => 85 | 9 => 86 | 11 => 114 | 13 => 111 | 12 => 115 | 23 => 130 | 24 => 131 | 14 => 132 | 15 => 133 | 16 => 134 | 17 => 135 | 18 => 136 | 19 => 137 | 20 => 138 | 21 => 139 | 22 => 140 | 25 => 155 | 26 => 150 | 27 => 151 | 28 => 156 | 29 => 157 | 30 => 158 | 31 => 163 | n => n, fun | 26 => 9 | 28 => 112 | 24 => 46 | 0 => 0 | 3 => 3 | 37 => 49 | 48 => 219 | 50 => 92 | 4 => 4 | 40 => 211 | 39 => 210 | 45 => 216 | 5 => 5 | 9 => 9 | 51 => 231 | 55 => 235 | 57 => 241 | 58 => 242 | 33 => 159 | n => n, fun | n => n⟩
theorem Tryz.lSorted : Go.Proofs.SlLaysZ.n6 Tryz.prog Tryz.lSorted_ren := {
  mixed := by kernel_rfl
  f6 := ⟨Tryz.f50.name, by decide, Tryz.func50.trans (congrArg some (by kernel_rfl))⟩
  f8 := ⟨Tryz.f85.name, by decide, Tryz.func85.trans (congrArg some (by kernel_rfl))⟩
  f11 := ⟨Tryz.f114.name, by decide, Tryz.func114.trans (congrArg some (by kernel_rfl))⟩
  t0 := Tryz.underlying0
  a0 := Tryz.isAgg0
  z0 := Tryz.sizeOf0
  v0 := Tryz.zeroValue0
  t24 := Tryz.underlying46
  a24 := Tryz.isAgg46
  z24 := Tryz.sizeOf46
  v24 := Tryz.zeroValue46
  t26 := Tryz.underlying9
  a26 := Tryz.isAgg9
  z26 := Tryz.sizeOf9
  v26 := Tryz.zeroValue9
  t28 := Tryz.underlying112
  a28 := Tryz.isAgg112
  z28 := Tryz.sizeOf112
  v28 := Tryz.zeroValue112
  i26 := by kernel_rfl }
def Tryz.lSortS_ren : Go.Shelf.Ren := ⟨fun | 190 => 86 | 125 => 111 | 258 => 115 | 128 => 130 | 129 => 131 | 302 => 132 | 303 => 133 | 304 => 134 | 305 => 135 | 306 => 136 | 307 => 137 | 308 => 138 | 309 => 139 | 310 => 140 | 333 => 155 | 329 => 150 | 330 => 151 | 334 => 156 | 335 => 157 | 336 => 158 | 344 => 163 | n => n, fun | 31 => 46 | 9 => 9 | 3 => 3 | 46 => 49 | 0 => 0 | 51 => 219 | 53 => 92 | 4 => 4 | 183 => 211 | 182 => 210 | 131 => 216 | 5 => 5 | 218 => 231 | 222 => 235 | 228 => 241 | 229 => 242 | n => n, fun | n => n⟩
theorem Tryz.lSortS : Go.Proofs.Lays.n190 Tryz.prog Tryz.lSortS_ren := {
  mixed := by kernel_rfl
  f125 := Tryz.func111.trans (congrArg some (by kernel_rfl))
  f128 := Tryz.func130.trans (congrArg some (by kernel_rfl))
  f129 := Tryz.func131.trans (congrArg some (by kernel_rfl))
  f190 := Tryz.func86.trans (congrArg some (by kernel_rfl))
  f258 := Tryz.func115.trans (congrArg some (by kernel_rfl))
  f302 := Tryz.func132.trans (congrArg some (by kernel_rfl))
  f303 := Tryz.func133.trans (congrArg some (by kernel_rfl))
  f304 := Tryz.func134.trans (congrArg some (by kernel_rfl))
  f305 := Tryz.func135.trans (congrArg some (by kernel_rfl))
  f306 := Tryz.func136.trans (congrArg some (by kernel_rfl))
  f307 := Tryz.func137.trans (congrArg some (by kernel_rfl))
  f308 := Tryz.func138.trans (congrArg some (by kernel_rfl))
  f309 := Tryz.func139.trans (congrArg some (by kernel_rfl))
  f310 := Tryz.func140.trans (congrArg some (by kernel_rfl))
  f329 := Tryz.func150.trans (congrArg some (by kernel_rfl))
  f330 := Tryz.func151.trans (congrArg some (by kernel_rfl))
  f333 := Tryz.func155.trans (congrArg some (by kernel_rfl))
  f334 := Tryz.func156.trans (congrArg some (by kernel_rfl))
  f335 := Tryz.func157.trans (congrArg some (by kernel_rfl))
  f336 := Tryz.func158.trans (congrArg some (by kernel_rfl))
  f344 := Tryz.func163.trans (congrArg some (by kernel_rfl))
  t0 := Tryz.underlying0
  a0 := Tryz.isAgg0
  z0 := Tryz.sizeOf0
  v0 := Tryz.zeroValue0
  t3 := Tryz.underlying3
  a3 := Tryz.isAgg3
  z3 := Tryz.sizeOf3
  v3 := Tryz.zeroValue3
  t4 := Tryz.underlying4
  a4 := Tryz.isAgg4
  z4 := Tryz.sizeOf4
  v4 := Tryz.zeroValue4
  t5 := Tryz.underlying5
  a5 := Tryz.isAgg5
  z5 := Tryz.sizeOf5
  v5 := Tryz.zeroValue5
  t9 := Tryz.underlying9
  a9 := Tryz.isAgg9
  z9 := Tryz.sizeOf9
  v9 := Tryz.zeroValue9
  t31 := Tryz.underlying46
  a31 := Tryz.isAgg46
  z31 := Tryz.sizeOf46
  v31 := Tryz.zeroValue46
  t46 := Tryz.underlying49
  a46 := Tryz.isAgg49
  z46 := Tryz.sizeOf49
  v46 := Tryz.zeroValue49
  t51 := Tryz.underlying219
  a51 := Tryz.isAgg219
  z51 := Tryz.sizeOf219
  v51 := Tryz.zeroValue219
  t53 := Tryz.underlying92
  a53 := Tryz.isAgg92
  z53 := Tryz.sizeOf92
  v53 := Tryz.zeroValue92
  t131 := Tryz.underlying216
  a131 := Tryz.isAgg216
  z131 := Tryz.sizeOf216
  v131 := Tryz.zeroValue216
  t182 := Tryz.underlying210
  a182 := Tryz.isAgg210
  z182 := Tryz.sizeOf210
  v182 := Tryz.zeroValue210
  t183 := Tryz.underlying211
  a183 := Tryz.isAgg211
  z183 := Tryz.sizeOf211
  v183 := Tryz.zeroValue211
  t218 := Tryz.underlying231
  a218 := Tryz.isAgg231
  z218 := Tryz.sizeOf231
  v218 := Tryz.zeroValue231
  t222 := Tryz.underlying235
  a222 := Tryz.isAgg235
  z222 := Tryz.sizeOf235
  v222 := Tryz.zeroValue235
  t228 := Tryz.underlying241
  a228 := Tryz.isAgg241
  z228 := Tryz.sizeOf241
  v228 := Tryz.zeroValue241
  t229 := Tryz.underlying242
  a229 := Tryz.isAgg242
  z229 := Tryz.sizeOf242
  v229 := Tryz.zeroValue242 }
def Tryz.lSort_ren : Go.Shelf.Ren := ⟨fun | 189 => 83 | 125 => 111 | 257 => 110 | 128 => 130 | 129 => 131 | 294 => 121 | 295 => 122 | 296 => 123 | 297 => 124 | 298 => 125 | 299 => 126 | 216 => 127 | 300 => 128 | 301 => 129 | 328 => 149 | 329 => 150 | 330 => 151 | 331 => 152 | 332 => 153 | 215 => 154 | 343 => 162 | n => n, fun | 28 => 63 | 3 => 3 | 46 => 49 | 0 => 0 | 51 => 219 | 53 => 92 | 4 => 4 | 183 => 211 | 182 => 210 | 131 => 216 | 5 => 5 | 9 => 9 | 218 => 231 | 222 => 235 | 228 => 241 | 229 => 242 | n => n, fun | n => n⟩
theorem Tryz.lSort : Go.Proofs.Lays.n189 Tryz.prog Tryz.lSort_ren := {
  mixed := by kernel_rfl
  f125 := Tryz.func111.trans (congrArg some (by kernel_rfl))
  f128 := Tryz.func130.trans (congrArg some (by kernel_rfl))
  f129 := Tryz.func131.trans (congrArg some (by kernel_rfl))
  f189 := Tryz.func83.trans (congrArg some (by kernel_rfl))
  f215 := Tryz.func154.trans (congrArg some (by kernel_rfl))
  f216 := Tryz.func127.trans (congrArg some (by kernel_rfl))
  f257 := Tryz.func110.trans (congrArg some (by kernel_rfl))
  f294 := Tryz.func121.trans (congrArg some (by kernel_rfl))
  f295 := Tryz.func122.trans (congrArg some (by kernel_rfl))
  f296 := Tryz.func123.trans (congrArg some (by kernel_rfl))
  f297 := Tryz.func124.trans (congrArg some (by kernel_rfl))
  f298 := Tryz.func125.trans (congrArg some (by kernel_rfl))
  f299 := Tryz.func126.trans (congrArg some (by kernel_rfl))
  f300 := Tryz.func128.trans (congrArg some (by kernel_rfl))
  f301 := Tryz.func129.trans (congrArg some (by kernel_rfl))
  f328 := Tryz.func149.trans (congrArg some (by kernel_rfl))
  f329 := Tryz.func150.trans (congrArg some (by kernel_rfl))
  f330 := Tryz.func151.trans (congrArg some (by kernel_rfl))
  f331 := Tryz.func152.trans (congrArg some (by kernel_rfl))
  f332 := Tryz.func153.trans (congrArg some (by kernel_rfl))
  f343 := Tryz.func162.trans (congrArg some (by kernel_rfl))
  t0 := Tryz.underlying0
  a0 := Tryz.isAgg0
  z0 := Tryz.sizeOf0
  v0 := Tryz.zeroValue0
  t3 := Tryz.underlying3
  a3 := Tryz.isAgg3
  z3 := Tryz.sizeOf3
  v3 := Tryz.zeroValue3
  t4 := Tryz.underlying4
  a4 := Tryz.isAgg4
  z4 := Tryz.sizeOf4
  v4 := Tryz.zeroValue4
  t5 := Tryz.underlying5
  a5 := Tryz.isAgg5
  z5 := Tryz.sizeOf5
  v5 := Tryz.zeroValue5
  t9 := Tryz.underlying9
  a9 := Tryz.isAgg9
  z9 := Tryz.sizeOf9
  v9 := Tryz.zeroValue9
  t28 := Tryz.underlying63
  a28 := Tryz.isAgg63
  z28 := Tryz.sizeOf63
  v28 := Tryz.zeroValue63
  t46 := Tryz.underlying49
  a46 := Tryz.isAgg49
  z46 := Tryz.sizeOf49
  v46 := Tryz.zeroValue49
  t51 := Tryz.underlying219
  a51 := Tryz.isAgg219
  z51 := Tryz.sizeOf219
  v51 := Tryz.zeroValue219
  t53 := Tryz.underlying92
  a53 := Tryz.isAgg92
  z53 := Tryz.sizeOf92
  v53 := Tryz.zeroValue92
  t131 := Tryz.underlying216
  a131 := Tryz.isAgg216
  z131 := Tryz.sizeOf216
  v131 := Tryz.zeroValue216
  t182 := Tryz.underlying210
  a182 := Tryz.isAgg210
  z182 := Tryz.sizeOf210
  v182 := Tryz.zeroValue210
  t183 := Tryz.underlying211
  a183 := Tryz.isAgg211
  z183 := Tryz.sizeOf211
  v183 := Tryz.zeroValue211
  t218 := Tryz.underlying231
  a218 := Tryz.isAgg231
  z218 := Tryz.sizeOf231
  v218 := Tryz.zeroValue231
  t222 := Tryz.underlying235
  a222 := Tryz.isAgg235
  z222 := Tryz.sizeOf235
  v222 := Tryz.zeroValue235
  t228 := Tryz.underlying241
  a228 := Tryz.isAgg241
  z228 := Tryz.sizeOf241
  v228 := Tryz.zeroValue241
  t229 := Tryz.underlying242
  a229 := Tryz.isAgg242
  z229 := Tryz.sizeOf242
  v229 := Tryz.zeroValue242 }
end Go.Proofs
/- A shelf's Keys. -/
namespace Go.Proofs.YtmekplaonlpfkaaGreatDoor
open Go.RowKit Go.Shelf Go.Maps Go.Sort

attribute [local go_sem ↓] Go.wp_at_zero Go.wp_at_succ

theorem sorts (m : Nat) : AnyZ.SortsIn Tryz.prog Tryz.lSorted_ren Fence.wide m :=
  ⟨fun blk off cap ss W hH hblk hsz => callsIn_wide.2 (Any.slices_Sort_string Tryz.lSortS blk off cap ss W hH hblk hsz),
   fun p cap W => callsIn_wide.2 (Any.slices_Sort_string_none Tryz.lSortS p cap W)⟩
theorem keys_any (mb : Option Nat) (w : World) :
    Calls Tryz.prog 51 #[.map mb] w fun e w' => e = .returned (.func (.func 87) #[] #[.pointer (some ⟨w.heap.size, 0, none⟩)]) ∧ w' = w.alloc (.cells #[.map mb] 81) :=
  callsIn_wide.1 (AnyZ.keys_in Tryz.lKeys Fence.wide 5 trivial rfl mb w)
theorem rise_le {l : List (List UInt8)} (h : l.Pairwise fun a b => bytesBefore a b = true) : l.mergeSort (fun x y => decide (x ≤ y)) = l := by
  apply List.mergeSort_of_pairwise
  refine h.imp fun {a b} hab => ?_
  rw [before_lt] at hab
  have := of_decide_eq_true hab
  exact decide_eq_true (List.le_of_lt this)
/-- Strings of one's own. -/
def StrR (w w' : World) (v : Value) (ks : List (List UInt8)) : Prop := w'.ownsRow w.heap.size 9 1 v ks.length (ks.map encStr) ∧ Below w.heap.size w w'
theorem sorted_any (Bm b : Nat) (L : List Lf) (hr : Rise Lf.k L) (hl : L.length ≤ 1000000) (w : World) (hm : w.cell? ⟨Bm, 0, none⟩ = some (.map (some b))) (hown : lfM w b L) :
    Calls Tryz.prog 50 #[.func (.func 87) #[] #[.pointer (some ⟨Bm, 0, none⟩)]] w fun e w' => ∃ v, e = .returned v ∧ StrR w w' v (L.map Lf.k) := by
  have hown' : w.ownsMap Tryz.prog 9 lfR b L.length (dOf Lf.k Lf.en L) := hown
  have hseq : SeqGives Fence.wide 2 Tryz.prog 87 #[.pointer (some ⟨Bm, 0, none⟩)] encStr (fun ss => ss.Perm (strKeys (dOf Lf.k Lf.en L))) (Maps.size (dOf Lf.k Lf.en L)) w :=
    AnyZ.keys_gives (ρ := Tryz.lKeys_ren) { Tryz.lKeys with } Fence.wide _ trivial rfl (by omega) Bm b L.length (dOf Lf.k Lf.en L) w (World.block_lt_of_cell? w ⟨Bm, 0, none⟩ hm) hm hown'
  have cS := AnyZ.sorted_in Tryz.lSorted Fence.wide 5 trivial trivial trivial trivial rfl (by omega) (sorts _) (enters_of Tryz.func86 (by kernel_rfl) rfl) 87 #[.pointer (some ⟨Bm, 0, none⟩)] trivial (enters_of Tryz.func87 (by kernel_rfl) rfl) _ _ (by rw [dOf_size]; unfold maxLen; omega) (by rw [dOf_size]; omega) _ hseq
  change CallsIn _ _ Tryz.prog 50 _ _ _ at cS
  refine (callsIn_wide.1 cS).mono ?_
  rintro e w' ⟨v, ss, rfl, hp, hrow, -, hb⟩
  rw [dOf_keys] at hp
  have e1 : ss.mergeSort (fun x y => decide (x ≤ y)) = L.map Lf.k := by
    rw [mergeSort_of_perm hp]
    apply rise_le
    rw [List.pairwise_map]
    exact hr
  rw [e1] at hrow
  have e2 : ss.length = (L.map Lf.k).length := hp.length_eq
  rw [e2] at hrow
  exact ⟨v, rfl, hrow, hb⟩
theorem owns_base {W : World} {base base' : Nat} {e : TypeId} {size : Nat} {v : Value} {k : Nat} {xs : List Value} (h : W.ownsRow base e size v k xs) (hb : base' ≤ base) : W.ownsRow base' e size v k xs := by
  refine ⟨h.1, ?_⟩
  rcases h.2 with hn | ⟨g, cap, cur, hv, hbg, rest⟩
  · exact .inl hn
  · exact .inr ⟨g, cap, cur, hv, Nat.le_trans hb hbg, rest⟩
set_option maxHeartbeats 800000 in
theorem keysS_any (sh m p fr n : Nat) (L : List Lf) (dead : Int) (w : World) (h : ShAt w sh m p fr n L dead) :
    Calls Tryz.prog 17 #[.pointer (some ⟨sh, 0, none⟩)] w fun e w' => ∃ v, e = .returned v ∧ StrR w w' v (L.map Lf.k) := by
  have c3 := h.c3
  have hk := keys_any (some m) w
  have hbA : Below w.heap.size w (w.alloc (.cells #[.map (some m)] 81)) := (Below.refl _ w).alloc (Nat.le_refl _) _
  have hs := sorted_any w.heap.size m L h.ok.rise (by have := h.few; have := h.count; omega) (w.alloc (.cells #[.map (some m)] 81)) (by simp) (owns_keepB h.map (hbA.block m h.ltm))
  clear h
  go_enter Tryz.func17, Tryz.ntmps17
  go_wp2_with fail
  refine hk.mono ?_
  rintro e w1 ⟨rfl, rfl⟩
  go_wp2_with fail
  refine hs.mono ?_
  rintro e w1 ⟨v, rfl, hR⟩
  go_wp2
  go_ret
  exact ⟨v, rfl, owns_base hR.1 (by simp), Below.transS hbA hR.2⟩
theorem keysS_nil (w : World) : Calls Tryz.prog 17 #[.pointer none] w fun e w' => e = .returned (.slice none 0 0) ∧ w' = w := by
  go_enter Tryz.func17, Tryz.ntmps17
  go_wp2
  go_ret
  exact ⟨rfl, rfl⟩
end Go.Proofs.YtmekplaonlpfkaaGreatDoor
/- The root page. -/
namespace Go.Proofs.YtmekplaonlpfkaaGreatDoor
open Go.RowKit Go.Shelf Go.Maps Go.Sort

attribute [local go_sem ↓] Go.wp_at_zero Go.wp_at_succ

def srtI (l : List Int) : List Int := l.mergeSort fun x y => decide (x ≤ y)
theorem srtI_perm {l m : List Int} (h : l.Perm m) : srtI l = srtI m := by
  have hp : (srtI l).Perm (srtI m) := ((List.mergeSort_perm l _).trans h).trans (List.mergeSort_perm m _).symm
  have hs : ∀ k : List Int, (srtI k).Pairwise (fun x y => x ≤ y) := fun k => (List.pairwise_mergeSort (le := fun x y => decide (x ≤ y)) (fun a b c h1 h2 => by simp at *; omega) (fun a b => by simp; omega) k).imp fun {a b} h => of_decide_eq_true h
  exact hp.eq_of_pairwise (fun a b _ _ h1 h2 => Int.le_antisymm h1 h2) (hs l) (hs m)
/-- The places of leaves, ascending. -/
def plI (L : List Lf) : List Int := srtI (L.map fun x => (x.p : Int))
theorem plI_length (L : List Lf) : (plI L).length = L.length := by simp [plI, srtI]
theorem plI_mem {L : List Lf} {y : Int} (h : y ∈ plI L) : ∃ x ∈ L, y = (x.p : Int) := by
  have h1 := (List.mergeSort_perm (L.map fun x => (x.p : Int)) (fun x y => decide (x ≤ y))).mem_iff.1 h
  obtain ⟨x, hx, rfl⟩ := List.mem_map.1 h1
  exact ⟨x, hx, rfl⟩
def uBs (l : List Int) : List Int := l.flatMap uB
def rootB (L : List Lf) : List Int := uB (L.length : Int) ++ uBs (plI L)
theorem uBs_snoc (l : List Int) (x : Int) : uBs (l ++ [x]) = uBs l ++ uB x := by simp [uBs]
theorem uB_le (n : Int) : (uB n).length ≤ 9 := by
  have := sz_le n
  simp [uB, dgs_length]; omega
theorem uBs_le : ∀ l : List Int, (uBs l).length ≤ 9 * l.length
  | [] => by simp [uBs]
  | x :: r => by
    have h1 := uB_le x
    have h2 := uBs_le r
    unfold uBs at h2 ⊢
    simp only [List.flatMap_cons, List.length_append, List.length_cons]
    omega
/-- The leaves that have come. -/
def CameF (L : List Lf) (left : Lit → Bool) (xs : List Lf) : Prop := (xs.map Lf.k).Nodup ∧ ∀ x, x ∈ xs ↔ (x ∈ L ∧ left (.string x.k) = false)
theorem CameF.start (L : List Lf) : CameF L (Maps.has (dOf Lf.k Lf.en L)) [] := by
  refine ⟨List.nodup_nil, fun x => ⟨(fun h => by cases h), ?_⟩⟩
  rintro ⟨h1, h2⟩
  rw [dOf_has] at h2
  cases e : getK Lf.k x.k L with
  | none => exact absurd rfl ((getK_none Lf.k).1 e x h1)
  | some y => rw [e] at h2; cases h2
theorem CameF.step {L : List Lf} (hr : Rise Lf.k L) {left : Lit → Bool} {xs : List Lf} (h : CameF L left xs) {k : List UInt8} {c : Lf} (hc : getK Lf.k k L = some c) (hl : left (.string k) = true) :
    CameF L (fun z => left z && !z.sameKey (.string k)) (xs ++ [c]) := by
  obtain ⟨hm, rfl⟩ := getK_mem Lf.k hc
  refine ⟨?_, fun x => ?_⟩
  · rw [List.map_append, List.nodup_append]
    refine ⟨h.1, by simp, ?_⟩
    intro a ha b hb e
    simp at hb
    obtain ⟨y, hy, rfl⟩ := List.mem_map.1 ha
    have h1 := ((h.2 y).1 hy)
    rw [e, hb, hl] at h1
    cases h1.2
  · rw [List.mem_append, List.mem_singleton, h.2 x]
    constructor
    · rintro (⟨h1, h2⟩ | rfl)
      · exact ⟨h1, by simp [h2]⟩
      · exact ⟨hm, by simp [Lit.sameKey]⟩
    · rintro ⟨h1, h2⟩
      by_cases e : x.k = c.k
      · exact .inr (hr.inj Lf.k h1 hm e)
      · refine .inl ⟨h1, ?_⟩
        simpa [Lit.sameKey, e] using h2
theorem CameF.perm {L : List Lf} (hr : Rise Lf.k L) {left : Lit → Bool} {xs : List Lf} (h : CameF L left xs) (hl : ∀ kl, left kl = false) : xs.Perm L := by
  have h1 : xs.Nodup := List.Pairwise.of_map (S := (· ≠ ·)) Lf.k (fun a b hab e => hab (by rw [e])) h.1
  have h2 : L.Nodup := List.Pairwise.of_map (S := (· ≠ ·)) Lf.k (fun a b hab e => hab (by rw [e])) hr.nodup
  exact (List.perm_ext_iff_of_nodup h1 h2).2 fun x => by rw [h.2 x, hl]; simp
theorem make_ints (n : Nat) (hn : n ≤ 1000000) (w : World) : ∃ v w1, (Instr.makeSlice 63 (.int .i64 0) (.int .i64 (n : Int))).run Tryz.prog w = .ok v w1 ∧ IOw w w1 v [] ∧ w1.heap.size = w.heap.size + 1 ∧ ∃ g cap, v = .slice (some ⟨g, 0, none⟩) 0 cap := by
  obtain ⟨i0, hi0, hz0, hz1, hz2⟩ := info_parts infoInt
  have h := run_make (P := Tryz.prog) w 63 3 i0 (.int .i64 0) Tryz.underlying63 hi0 hz0 .i64 .i64 0 (n : Int) (Int.le_refl _) (by omega) (by rw [hz2]; omega) (by omega)
  refine ⟨_, _, h, ⟨?_, (Below.refl _ w).alloc (Nat.le_refl _) _⟩, by simp, _, _, rfl⟩
  have := World.ownsRow_made w (base := w.heap.size) (e := 3) (size := 1) (madeCells (Value.int .i64 0).cells (n * i0.size)) n (Nat.le_refl _) (by unfold maxLen; omega) (by simp [madeCells, hz1])
  simpa [iC] using this
theorem putRowI_below {w : World} {g off n : Nat} {d : Array Int} {os : Array Obj} {B : Nat} (hB : B ≤ g) (hg : g < w.heap.size) : Below B w (grow (putRow (Value.int .i64) (Sort.ahead w n) g off d) os) := by
  refine ⟨rfl, rfl, rfl, by simp, fun k hk => ?_⟩
  rw [heap_grow_old _ _ (by simp; omega)]
  simp only [putRow, mapBlock, heap_ahead]
  rw [Array.getElem?_modify, if_neg (by omega)]
/-- Ints that lie at the front of a block. -/
theorem sortI_any (g cap : Nat) (l : List Int) (w : World) (hc : ∀ j x, l[j]? = some x → w.cell? ⟨g, 0 + j, none⟩ = some (.int .i64 x) ∧ w.frozen? ⟨g, 0 + j, none⟩ = false) (hg : g < w.heap.size) (hn : l.length ≤ 1000000) (B : Nat) (hB : B ≤ g) :
    Calls Tryz.prog 83 #[.slice (some ⟨g, 0, none⟩) l.length cap] w fun e w' => e = .returned (.tuple #[]) ∧ IsL w' (some ⟨g, 0, none⟩) (srtI l) ∧ Below B w w' := by
  have hH : Holds (Value.int .i64) w g 0 l.toArray := fun j hj => by
    have hj' : j < l.length := by simpa using hj
    have := hc j l[j] (List.getElem?_eq_getElem hj')
    simpa [hj'] using this
  have hcon := Any.slices_Sort_int Tryz.lSort g 0 cap l w hH hg (by omega)
  change Calls Tryz.prog 83 _ _ _ at hcon
  refine hcon.mono ?_
  rintro e w' ⟨rfl, n, os, rfl⟩
  have hH2 : Holds (Value.int .i64) (grow (putRow (Value.int .i64) (Sort.ahead w n) g 0 (srtI l).toArray) os) g 0 (srtI l).toArray := holds_grow _ _ _ _ _ _ (by simpa using hg) (holds_putRow _ _ _ _ _ _ (holds_ahead _ _ _ _ _ _ hH) (by simp [srtI]))
  refine ⟨rfl, fun _ => ⟨g, 0, rfl, fun j x hx => ?_⟩, putRowI_below hB hg⟩
  have hj : j < (srtI l).length := (List.getElem?_eq_some_iff.1 hx).1
  have h1 := (hH2 j (by simpa using hj)).1
  have h2 : (srtI l).toArray[j]! = x := by
    have := (List.getElem?_eq_some_iff.1 hx).2
    simp [hj, this]
  rw [h2] at h1
  exact h1
/-- While the map is gone over: the places that have come. -/
structure RtI (w wr : World) (v : Value) (L : List Lf) (left : Lit → Bool) (cnt : Nat) : Prop where
  ex : ∃ xs, CameF L left xs ∧ IOw w wr v (xs.map fun x => (x.p : Int)) ∧ xs.length + cnt ≤ L.length ∧ ∃ g n cap, v = .slice (some ⟨g, 0, none⟩) n cap
theorem iow_cells {w0 w : World} {g n cap : Nat} {L : List Int} (h : IOw w0 w (.slice (some ⟨g, 0, none⟩) n cap) L) : n = L.length ∧ g < w.heap.size ∧ w0.heap.size ≤ g ∧ ∀ j x, L[j]? = some x → w.cell? ⟨g, 0 + j, none⟩ = some (.int .i64 x) ∧ w.frozen? ⟨g, 0 + j, none⟩ = false := by
  rcases h.own.2 with ⟨e, _⟩ | ⟨g', cap', cur, e, hbs, hg, hc, hm, _⟩
  · cases e
  · cases e
    refine ⟨rfl, lt_of_block hg, hbs, fun j x hx => ⟨?_, by rw [Nat.zero_add]; exact frozen_of_row w g j _ _ hg⟩⟩
    have := h.own.cells (g := g) rfl j (.int .i64 x) (by simp [iC, hx])
    rwa [Addr.add_lit] at this
theorem wpList_append_I2 {ops : Array Oper} {rest : List Oper} {o : Oper} {a : Act} {w : World} {Q : Exit → Act → World → Prop} (hgd : o.guard = none) (s x : Operand) (ho : o.op = .call { callee := .builtin .append, args := #[s, x], argTypes := #[63, 63] })
    (w0 : World) (v u : Value) (L ys : List Int) (hs : a.eval s = v) (hx : a.eval x = u) (hown : IOw w0 w v L) (hu : ISrc w u ys) (hlen : L.length + ys.length ≤ 1000000)
    (h : ∀ v' w1, IOw w0 w1 v' (L ++ ys) → (∀ k, k < w.heap.size → v.ownBlock ≠ some k → w1.heap[k]? = w.heap[k]?) → wpList Tryz.prog ops Q rest (a.put o.dst v') w1) : wpList Tryz.prog ops Q (o :: rest) a w := by
  obtain ⟨v', w1, hr, h2, h3⟩ := run_append_I w w0 o.type v u L ys hown hu hlen
  refine wpList_plain hgd fun K hK => ?_
  unfold Oper.wp execOp
  simp only [ho, resolve, invoke, builtin, Sem.run_bind, Sem.run_pure, Result.andThen_ok, List.map_toArray, List.map_cons, List.map_nil, hs, hx, hr]
  exact hK _ _ (h v' w1 h2 h3)
theorem iow_walk {w0 w w' : World} {v : Value} {L : List Int} {r : Nat} (h : IOw w0 w v L) (hg : w.grownBy w' (some r)) (hw : ∃ o : Obj, w.heap[r]? = some o ∧ o.isWalk = true) (hr : w0.heap.size ≤ r) : IOw w0 w' v L ∧ v.ownBlock ≠ some r := by
  have hne : v.ownBlock ≠ some r := fun e => by
    rcases h.own.2 with ⟨rfl, _⟩ | ⟨g, cap, cur, rfl, hbs, hgb, _⟩
    · cases e
    · cases e
      obtain ⟨o, ho, hk⟩ := hw
      rw [hgb] at ho; cases ho; cases hk
  refine ⟨⟨owns_row_keep h.own fun k e => hg.block k (h.own.lt k e).2 (fun e2 => hne (by rw [e, e2])), h.below.grown hg h.below.size (fun k e => by cases e; exact hr)⟩, hne⟩
theorem iow_some {w0 w1 : World} {v' : Value} {L : List Int} {y : Int} (h : IOw w0 w1 v' (L ++ [y])) : ∃ g n cap, v' = .slice (some ⟨g, 0, none⟩) n cap := by
  rcases h.form with ⟨_, e⟩ | ⟨g, cap, e, _⟩
  · simp at e
  · exact ⟨g, _, cap, e⟩
theorem newW_any (u : World) : Calls Tryz.prog 77 #[] u fun e u' => ∃ p, e = .returned (.pointer (some ⟨p, 0, none⟩)) ∧ WrAt u' u.heap.size p none [] ∧ Below u.heap.size u u' := by
  refine (newE_any u).mono ?_
  rintro e u' ⟨rfl, rfl⟩
  exact ⟨_, rfl, new_wr u, (Below.refl _ u).alloc (Nat.le_refl _) _⟩
/-- A number laid by a writer made since u. -/
theorem uintW_any (u w : World) (p : Nat) (g : Option Nat) (l : List Int) (n : Int) (hw : WrAt w u.heap.size p g l) (hb : Below u.heap.size u w) (hl : l.length ≤ 1000000) (hn : 0 ≤ n ∧ n ≤ 100000) :
    Calls Tryz.prog 84 #[.pointer (some ⟨p, 0, none⟩), .int .u64 n] w fun e w' => e = .returned (.pointer (some ⟨p, 0, none⟩)) ∧ ∃ g', WrAt w' u.heap.size p g' (l ++ uB n) ∧ Below u.heap.size u w' := by
  refine (wrUint_any p u.heap.size g l n w hw (by omega) (by omega)).mono ?_
  rintro e w' ⟨rfl, g', hw', hf, -⟩
  refine ⟨rfl, g', hw', hb.trans (hf.below hb.size (fun j hj => ?_))⟩
  simp at hj
  rcases hj with rfl | hj
  · exact hw.lt.2.1
  · exact (hw.lt.2.2 j hj).2
end Go.Proofs.YtmekplaonlpfkaaGreatDoor
/- The root page: the walk. -/
namespace Go.Proofs.YtmekplaonlpfkaaGreatDoor
open Go.RowKit Go.Shelf Go.Maps Go.Sort

attribute [local go_sem ↓] Go.wp_at_zero Go.wp_at_succ

set_option maxRecDepth 100000 in
set_option maxHeartbeats 3200000 in
theorem rootPage_any (m : Nat) (L : List Lf) (w : World) (hm : lfM w m L) (hr : Rise Lf.k L) (hl : L.length ≤ 2000) (hp : ∀ x ∈ L, x.p ≤ 2000) :
    Calls Tryz.prog 49 #[.map (some m)] w fun e w' => ∃ ad cap, e = .returned (.slice ad (rootB L).length cap) ∧ OwnB w w' ad cap (rootB L) := by
  have hown : w.ownsMap Tryz.prog 9 lfR m L.length (dOf Lf.k Lf.en L) := hm
  have hsz : Maps.size (dOf Lf.k Lf.en L) = L.length := dOf_size _ _ _
  obtain ⟨v0, w1, hmk, hI1, hs1, gv, cv, rfl⟩ := make_ints L.length (by omega) w
  have hown1 : w1.ownsMap Tryz.prog 9 lfR m L.length (dOf Lf.k Lf.en L) := owns_keepB hm (hI1.below.block m hown.lt)
  have lm := hown.lt
  have HI1 : Hid (IOw w w1 (.slice (some ⟨gv, 0, none⟩) 0 cv) []) := hI1
  have HP : Hid (Rise Lf.k L ∧ ∀ x ∈ L, x.p ≤ 2000) := ⟨hr, hp⟩
  have hlen : ∀ ty, (Builtin.len_ #[81] ty #[.map (some m)]).run Tryz.prog w = .ok (.int .i64 (L.length : Int)) w := fun ty => by
    have := hown.len Tryz.underlying81 ty
    rwa [hsz] at this
  clear hm hI1 hr hp
  go_enter Tryz.func49, Tryz.ntmps49
  go_wp2_with (first | (at_range; refine wpList_range_own _ rfl _ 81 rfl 9 101 strK Tryz.underlying81 _ m L.length _ rfl hown1 ?_; intro w2 hrg0 hg0 hs0) | fail)
  go_frame
  rw [hsz] at hrg0
  have hJ0 : RtI w w2 (.slice (some ⟨gv, 0, none⟩) 0 cv) L (Maps.has (dOf Lf.k Lf.en L)) L.length :=
    ⟨⟨[], CameF.start L, HI1.out.keep ⟨hg0.os, hg0.tape, hg0.output, hg0.size, fun k hk => hg0.block k hk (by simp)⟩, by simp, gv, _, cv, rfl⟩⟩
  have hbr : w.heap.size ≤ w1.heap.size := by omega
  generalize w1.heap.size = rr at *
  clear hown hown1 hmk hlen HI1 hg0 hs1 hs0
  go_loopw [3] (fun v wr => ∃ (left : Lit → Bool) (cnt : Nat), wr.ranges Tryz.prog 9 lfR m rr L.length (dOf Lf.k Lf.en L) left cnt ∧ RtI w wr v L left cnt) (fun _ wr => wr.rangeLeft m rr)
  case atStart => exact ⟨_, _, hrg0, hJ0⟩
  case round =>
    clear hrg0 hJ0
    obtain ⟨left, cnt, hrg, ⟨xs, hC, hO, hxl, g3, n3, c3, rfl⟩⟩ := hrel
    obtain ⟨hn3, hg3, hge3, hcells⟩ := iow_cells hO
    have HN3 : Hid (n3 = (xs.map fun x => (x.p : Int)).length) := hn3
    clear hn3
    have HO : Hid (IOw w wr (.slice (some ⟨g3, 0, none⟩) n3 c3) (xs.map fun x => (x.p : Int))) := hO
    have HCm : Hid (CameF L left xs) := hC
    have HCl : Hid (∀ j x, (xs.map fun x => (x.p : Int))[j]? = some x → wr.cell? ⟨g3, 0 + j, none⟩ = some (.int .i64 x) ∧ wr.frozen? ⟨g3, 0 + j, none⟩ = false) := hcells
    clear hO hC hcells
    go_wp2_with (first | (at_next; refine wpList_next_ranges _ rfl _ rfl 9 strK lfR encStr (fun c : Nat × List UInt8 => Value.agg #[.int .i64 (c.1 : Int), encStr c.2]) (fun key kl hk => key_inv hk) (fun v y hv => lfR_val hv) m rr L.length _ left cnt rfl hrg ?_ ?_) | fail)
    · intro hc0 hl0
      have hperm := HCm.out.perm HP.out.1 hl0
      have hsrt : srtI (xs.map fun x => (x.p : Int)) = plI L := srtI_perm (hperm.map _)
      have hso := sortI_any g3 c3 (xs.map fun x => (x.p : Int)) wr HCl.out hg3 (by simp; omega) w.heap.size hge3
      rw [hsrt, ← HN3.out] at hso
      have hn3 : n3 = L.length := by have := HN3.out; simp at this; have := hperm.length_eq; omega
      have HBw : Hid (Below w.heap.size w wr) := HO.out.below
      have HPl : Hid (∀ (j : Nat) (x : Int), (plI L)[j]? = some x → 0 ≤ x ∧ x ≤ 2000) := fun j x hx => by
        obtain ⟨y, hy, rfl⟩ := plI_mem (List.mem_of_getElem? hx)
        have := HP.out.2 y hy
        omega
      have hpln := plI_length L
      have hRB : uB (L.length : Int) ++ uBs ((plI L).take (plI L).length) = rootB L := by rw [List.take_length]; rfl
      have HRB : Hid (uB (L.length : Int) ++ uBs ((plI L).take (plI L).length) = rootB L) := hRB
      have hru := uB_le (L.length : Int)
      subst hn3
      clear HCm HCl HO HN3 hrg hperm hsrt hRB HP
      have hul : IntKind.u64.wrap (L.length : Int) = (L.length : Int) := by simp [IntKind.wrap, IntKind.bits, IntKind.signed]; omega
      generalize hPl : plI L = Pl at *
      clear hPl
      go_wp2_with fail
      refine hso.mono ?_
      rintro e w4 ⟨rfl, hP4, hb4⟩
      have HB4 : Hid (Below w.heap.size w w4) := HBw.out.trans hb4
      have HP4 : Hid (IsL w4 (some ⟨g3, 0, none⟩) Pl ∧ g3 < w4.heap.size) := ⟨hP4, Nat.lt_of_lt_of_le hg3 hb4.size⟩
      clear hso hP4 hb4 HBw
      go_wp2_with fail
      refine (newW_any w4).mono ?_
      rintro e w5 ⟨p5, rfl, hW5, hb5⟩
      go_wp2_with fail
      refine (uintW_any w4 w5 p5 none [] (L.length : Int) hW5 hb5 (by simp) (by omega)).mono ?_
      rintro e w6 ⟨rfl, g6, hW6, hb6⟩
      rw [List.nil_append] at hW6
      clear hW5 hb5
      go_wp2
      go_loopw [32] (fun iv wq => ∃ (i : Nat) (gq : Option Nat), i ≤ L.length ∧ iv = .int .i64 i ∧ WrAt wq w4.heap.size p5 gq (uB (L.length : Int) ++ uBs (Pl.take i)) ∧ Below w4.heap.size w4 wq) (fun iv _ => L.length - (intOf iv).toNat)
      case atStart => exact ⟨0, g6, Nat.zero_le _, rfl, by simpa [uBs] using hW6, hb6⟩
      case round =>
        clear hW6 hb6
        obtain ⟨i, gq, hi, rfl, hWq, hbq⟩ := hrel
        have hbd := uBs_le (Pl.take i)
        have hll : (uB (L.length : Int) ++ uBs (Pl.take i)).length ≤ 1000000 := by simp at hbd ⊢; omega
        by_cases hlt : i < L.length
        · have hlt' : (i : Int) < L.length := by omega
          have hlp : i < Pl.length := by omega
          have hx : Pl[i]? = some Pl[i] := List.getElem?_eq_getElem hlp
          have hxb := HPl.out i _ hx
          have htk : Pl.take (i + 1) = Pl.take i ++ [Pl[i]] := (List.take_append_getElem hlp).symm
          obtain ⟨b', off', e', hcz⟩ := HP4.out.1 (by omega)
          cases e'
          have hcx : wr.cell? ⟨g3, 0 + i, none⟩ = some (.int .i64 Pl[i]) := (hbq.cell (p := ⟨g3, 0 + i, none⟩) HP4.out.2).trans (hcz i _ hx)
          rw [Nat.zero_add] at hcx
          have htk2 : uB (L.length : Int) ++ uBs (Pl.take (i + 1)) = (uB (L.length : Int) ++ uBs (Pl.take i)) ++ uB Pl[i] := by rw [htk, uBs_snoc, List.append_assoc]
          have HT2 : Hid (uB (L.length : Int) ++ uBs (Pl.take (i + 1)) = (uB (L.length : Int) ++ uBs (Pl.take i)) ++ uB Pl[i]) := htk2
          clear htk htk2 hx hcz
          generalize Pl[i] = y at *
          have huy : IntKind.u64.wrap y = y := by simp [IntKind.wrap, IntKind.bits, IntKind.signed]; omega
          have hu := uintW_any w4 wr p5 gq _ y hWq hbq hll (by omega)
          clear hWq
          go_wp2_with fail
          refine hu.mono ?_
          rintro e w7 ⟨rfl, g7, hW7, hb7⟩
          go_wp2
          refine ⟨⟨i + 1, g7, by omega, by go_num, by rw [HT2.out]; exact hW7, hb7⟩, by simp [intOf]; omega⟩
        · obtain rfl : i = L.length := by omega
          have hlt' : ¬ ((L.length : Int) < L.length) := by omega
          have hWr : WrAt wr w4.heap.size p5 gq (rootB L) := by rw [← HRB.out, hpln]; exact hWq
          have hll2 : (rootB L).length ≤ 1000000 := by rw [← HRB.out, hpln]; exact hll
          have hbd2 : ∀ y, y ∈ rootB L → 0 ≤ y ∧ y ≤ 255 := by obtain ⟨_, _, _, _, _, hx⟩ := hWr; exact hx
          have HBD : Hid (∀ y, y ∈ rootB L → 0 ≤ y ∧ y ≤ 255) := hbd2
          have hdn := wrDone_any p5 w4.heap.size gq (rootB L) wr hWr (by omega)
          have HBq : Hid (Below w.heap.size w wr) := Below.transS HB4.out hbq
          clear hWq hWr hbd2 hll hbd
          go_wp2_with fail
          refine hdn.mono ?_
          rintro e w8 ⟨ad8, cap8, rfl, _, k2, k3, k4, hb8⟩
          have HE : Hid (OwnB w w8 ad8 cap8 (rootB L)) := ⟨k2, k3, (fun a e => Nat.le_trans HBq.out.size (k4 a e)), Below.transS HBq.out hb8, HBD.out⟩
          clear k2 k3 k4 hb8
          go_wp2
          go_ret
          exact ⟨ad8, cap8, rfl, HE.out⟩
    · intro x cp cv' kl yd yp w3 cnt3 hkey hlk hv hat hrg3 hlt hgr3 hs3 hen
      obtain ⟨rfl, f, hgf, hfp, hfv⟩ := lf_came (c := (cp, cv')) (y := (yd, yp)) hkey hv hat
      simp only at hfp hfv
      subst hfp
      have hC2 := HCm.out.step HP.out.1 hgf hlk
      obtain ⟨hO3, hne3⟩ := iow_walk HO.out hgr3 hrg.iter_walk hbr
      have hml3 := hrg3.owns.lt
      have hrl3 := hrg3.lt
      have hmg : g3 ≠ m := by omega
      have hrgn : g3 ≠ rr := fun e => hne3 (by rw [e]; rfl)
      have hms : cnt3 < wr.rangeLeft m rr := by rw [hrg.left_eq]; exact hlt
      have HO4 : Hid (IOw w ((w3.alloc (.cells #[.int .i64 (f.p : Int), encStr cv'] 101)).alloc (.cells #[.int .i64 (f.p : Int)] 3)) (.slice (some ⟨g3, 0, none⟩) n3 c3) (xs.map fun x => (x.p : Int))) := (hO3.alloc _).alloc _
      have HN : Hid (∀ v4 w4, IOw w w4 v4 ((xs.map fun x => (x.p : Int)) ++ [(f.p : Int)]) → (∀ k, k < ((w3.alloc (.cells #[.int .i64 (f.p : Int), encStr cv'] 101)).alloc (.cells #[.int .i64 (f.p : Int)] 3)).heap.size → (Value.slice (some ⟨g3, 0, none⟩) n3 c3).ownBlock ≠ some k → w4.heap[k]? = ((w3.alloc (.cells #[.int .i64 (f.p : Int), encStr cv'] 101)).alloc (.cells #[.int .i64 (f.p : Int)] 3)).heap[k]?) →
          w4.ranges Tryz.prog 9 lfR m rr L.length (dOf Lf.k Lf.en L) (fun z => left z && !z.sameKey (.string x)) cnt3 ∧ RtI w w4 v4 L (fun z => left z && !z.sameKey (.string x)) cnt3) := fun v4 w4 h1 h2 => by
        have e1 : ∀ k, k < w3.heap.size → g3 ≠ k → w4.heap[k]? = w3.heap[k]? := fun k hk hne => by
          rw [h2 k (by simp; omega) (fun e => hne (Option.some.inj e)), Below.heap_alloc _ _ _ (by simp; omega), Below.heap_alloc _ _ _ hk]
        refine ⟨ranges_keepB hrg3 (e1 m hml3 hmg) (e1 rr hrl3 hrgn), ⟨xs ++ [f], hC2, by simpa using h1, by simp; omega, iow_some h1⟩⟩
      have hxl' : (xs.map fun x => (x.p : Int)).length ≤ 2000 := by simp; omega
      clear hs3 hrg hrg3 hgr3 hO3 hat hv hkey hgf hlk HO HCm HCl hC2
      generalize (xs.map fun x => (x.p : Int)) = ps at *
      generalize f.p = fp at *
      have hnew : ((w3.alloc (.cells #[.int .i64 (fp : Int), encStr cv'] 101)).alloc (.cells #[.int .i64 (fp : Int)] 3)).heap[w3.heap.size + 1]? = some (.cells #[.int .i64 (fp : Int)] 3 (0, 0)) := by
        have := heap_alloc_new (w3.alloc (.cells #[.int .i64 (fp : Int), encStr cv'] 101)) (.cells #[.int .i64 (fp : Int)] 3)
        rwa [World.size_alloc] at this
      have HNew : Hid (ISrc ((w3.alloc (.cells #[.int .i64 (fp : Int), encStr cv'] 101)).alloc (.cells #[.int .i64 (fp : Int)] 3)) (.slice (some ⟨w3.heap.size + 1, 0, none⟩) 1 1) [(fp : Int)]) := one_isrc hnew
      clear hnew
      go_wp2_with (first | (at_builtin; (refine wpList_append_I2 rfl _ _ rfl w _ _ ps [(fp : Int)] rfl rfl HO4.out HNew.out (by simp; omega) ?_; intro v4 w4 hO5 hk5)) | fail)
      have hE := HN.out v4 w4 hO5 hk5
      refine ⟨⟨_, _, hE.1, hE.2⟩, ?_⟩
      rw [hE.1.left_eq]
      exact hms
end Go.Proofs.YtmekplaonlpfkaaGreatDoor
/- What a Set leaves: places, lengths, the root page's length. -/
namespace Go.Proofs.YtmekplaonlpfkaaGreatDoor
open Go.RowKit Go.Maps Go.Sort

theorem insK_perm {α : Type} (key : α → List UInt8) (x : α) : ∀ l : List α, (insK key x l).Perm (x :: l)
  | [] => List.Perm.refl _
  | y :: r => by
    unfold insK
    split
    · exact List.Perm.refl _
    · exact ((insK_perm key x r).cons y).trans (List.Perm.swap x y r)
theorem putK_perm {α : Type} (key : α → List UInt8) (x : α) (l : List α) : (putK key x l).Perm (x :: delK key (key x) l) := insK_perm key x _
/-- The free places. -/
def frN (L : List Lf) (n : Nat) : List Nat := (List.range' 1 (n - 1)).filter fun i => !heldB L i
theorem frL_frN (L : List Lf) (n : Nat) : frL L n = (frN L n).map fun x : Nat => (x : Int) := rfl
/-- While leaves are laid anew. -/
structure BOk (n : Nat) (f : List Nat) (M : List Lf) : Prop where
  ok : LOk n M
  nod : f.Nodup
  apart : ∀ x ∈ M, x.p ∉ f
  place : ∀ y ∈ f, 1 ≤ y ∧ y < n
theorem BOk.start {n : Nat} {L : List Lf} (h : LOk n L) : BOk n (frN L n) L := by
  refine ⟨h, (List.nodup_range' (step := 1)).filter _, fun x hx hm => ?_, fun y hy => ?_⟩
  · have := (List.mem_filter.1 hm).2
    simp [heldB] at this
    exact this x hx rfl
  · have := (List.mem_filter.1 hy).1
    simp [List.mem_range'_1] at this
    omega
theorem LOk.del {n : Nat} {M : List Lf} (h : LOk n M) (k : List UInt8) : LOk n (delK Lf.k k M) := by
  refine ⟨h.rise.del Lf.k k, ?_, fun x hx => h.place x ((mem_delK Lf.k).1 hx).1, fun x hx => h.len x ((mem_delK Lf.k).1 hx).1⟩
  exact (List.filter_sublist.map Lf.p).nodup h.apart
theorem BOk.del {n : Nat} {f : List Nat} {M : List Lf} (h : BOk n f M) (k : List UInt8) : BOk n f (delK Lf.k k M) :=
  ⟨h.ok.del k, h.nod, fun x hx => h.apart x ((mem_delK Lf.k).1 hx).1, h.place⟩
theorem BOk.put {n y : Nat} {f : List Nat} {M : List Lf} (h : BOk n (y :: f) M) {k v : List UInt8} (hk : k.length ≤ 4096) (hv : v.length ≤ 4096) : BOk n f (putK Lf.k ⟨k, y, v⟩ M) := by
  obtain ⟨n1, n2⟩ := List.nodup_cons.1 h.nod
  have hm : ∀ x ∈ putK Lf.k ⟨k, y, v⟩ M, x = ⟨k, y, v⟩ ∨ x ∈ M := fun x hx => ((mem_putK Lf.k).1 hx).imp id And.left
  refine ⟨⟨h.ok.rise.put Lf.k, ?_, fun x hx => ?_, fun x hx => ?_⟩, n2, fun x hx hf => ?_, fun z hz => h.place z (List.mem_cons_of_mem _ hz)⟩
  · have hp := (putK_perm Lf.k ⟨k, y, v⟩ M).map Lf.p
    rw [hp.nodup_iff, List.map_cons, List.nodup_cons]
    refine ⟨fun hy => ?_, (h.ok.del k).apart⟩
    obtain ⟨x, hx, e⟩ := List.mem_map.1 hy
    exact h.apart x ((mem_delK Lf.k).1 hx).1 (by rw [e]; exact List.mem_cons_self ..)
  · rcases hm x hx with rfl | hx
    · exact h.place y (List.mem_cons_self ..)
    · exact h.ok.place x hx
  · rcases hm x hx with rfl | hx
    · exact ⟨hk, hv⟩
    · exact h.ok.len x hx
  · rcases hm x hx with rfl | hx
    · exact n1 hf
    · exact h.apart x hx (List.mem_cons_of_mem _ hf)
theorem behL_ok {n : Nat} : ∀ (C : List Cg) (f : List Nat) (M : List Lf), BOk n f M → nlay C ≤ f.length → (∀ c ∈ C, c.g = false → c.k.length ≤ 4096 ∧ c.v.length ≤ 4096) → LOk n (behL C f M)
  | [], f, M, h, _, _ => h.ok
  | c :: r, f, M, h, hn, hl => by
    rw [nlay_cons] at hn
    unfold behL
    cases hg : c.g with
    | true =>
      rw [hg] at hn
      simp only [if_true] at hn ⊢
      exact behL_ok r f _ (h.del c.k) (by omega) fun d hd => hl d (List.mem_cons_of_mem _ hd)
    | false =>
      rw [hg] at hn
      have hl1 := hl c (List.mem_cons_self ..) hg
      cases f with
      | nil => simp at hn
      | cons y fs =>
        simp only [Bool.false_eq_true, if_false, List.tail_cons, List.headD_cons]
        exact behL_ok r fs _ ((h.del c.k).put hl1.1 hl1.2) (by simp at hn; omega) fun d hd => hl d (List.mem_cons_of_mem _ hd)
theorem esc_ge (z : Nat → Int) (k : Nat) : k ≤ (escF z k).length := by
  induction k with
  | zero => simp
  | succ k ih => have := esc_len (z k); simp only [escF, List.length_append]; omega
theorem encB_ge (u : List UInt8) : u.length ≤ (encB u).length := by
  have := esc_ge (fn (iU u)) u.length
  simp only [encB, List.length_append, List.length_cons, List.length_nil]
  omega
theorem layL_len : ∀ {C : List Cg} {ls : List (List Int)}, layL C = some ls → ∀ c ∈ C, c.g = false → c.k.length ≤ 4096 ∧ c.v.length ≤ 4096
  | [], _, _, c, hc, _ => by cases hc
  | d :: r, ls, h, c, hc, hg => by
    unfold layL at h
    cases hd : d.g with
    | true =>
      rw [hd] at h
      simp only [if_true] at h
      rcases List.mem_cons.1 hc with rfl | hc
      · rw [hd] at hg; cases hg
      · exact layL_len h c hc hg
    | false =>
      rw [hd] at h
      simp only [Bool.false_eq_true, if_false] at h
      split at h
      · cases h
      · rename_i hlg
        cases hr : layL r with
        | none => rw [hr] at h; cases h
        | some l2 =>
          rcases List.mem_cons.1 hc with rfl | hc
          · have h1 := encB_ge c.k
            have h2 := encB_ge c.v
            simp only [leafB, List.length_append] at hlg
            omega
          · exact layL_len hr c hc hg
theorem layL_n : ∀ {C : List Cg} {ls : List (List Int)}, layL C = some ls → ls.length = nlay C
  | [], _, h => by cases h; rfl
  | d :: r, ls, h => by
    unfold layL at h
    rw [nlay_cons]
    cases hd : d.g with
    | true =>
      rw [hd] at h
      simp only [if_true] at h ⊢
      rw [layL_n h]; omega
    | false =>
      rw [hd] at h
      simp only [Bool.false_eq_true, if_false] at h ⊢
      split at h
      · cases h
      · cases hr : layL r with
        | none => rw [hr] at h; cases h
        | some l2 =>
          rw [hr] at h
          cases h
          simp [layL_n hr]; omega
theorem LOk.few {n : Nat} {L : List Lf} (h : LOk n L) (hn : 2 ≤ n) : L.length < n := by
  have h2 : ∀ x ∈ L.map Lf.p, x ∈ List.range' 1 (n - 1) := fun x hx => by
    obtain ⟨y, hy, rfl⟩ := List.mem_map.1 hx
    have := h.place y hy
    simp [List.mem_range'_1]; omega
  have h3 := List.Nodup.length_le_of_subset h.apart h2
  simp at h3
  omega
theorem uB_small (x : Int) (h1 : x < 65536) : (uB x).length ≤ 3 := by
  have h : sz x ≤ 2 := by
    unfold sz
    by_cases a : x < 1
    · simp [a]
    · by_cases b : x < 256
      · simp [a, b]
      · simp [a, b, h1]
  simp [uB, dgs_length]; omega
theorem uBs_small : ∀ l : List Int, (∀ x ∈ l, 0 ≤ x ∧ x < 65536) → (uBs l).length ≤ 3 * l.length
  | [], _ => by simp [uBs]
  | x :: r, h => by
    have h1 := uB_small x (h x (List.mem_cons_self ..)).2
    have h2 := uBs_small r fun y hy => h y (List.mem_cons_of_mem _ hy)
    unfold uBs at h2 ⊢
    simp only [List.flatMap_cons, List.length_append, List.length_cons]
    omega
theorem rootB_le {n : Nat} {L : List Lf} (h : LOk n L) (hn : 2 ≤ n ∧ n ≤ 1024) : (rootB L).length ≤ 4096 := by
  have h1 := h.few hn.1
  have h2 := uB_small (L.length : Int) (by omega)
  have h3 := uBs_small (plI L) fun y hy => by
    obtain ⟨x, hx, rfl⟩ := plI_mem hy
    have := h.place x hx
    omega
  rw [plI_length] at h3
  simp only [rootB, List.length_append]
  omega
end Go.Proofs.YtmekplaonlpfkaaGreatDoor
