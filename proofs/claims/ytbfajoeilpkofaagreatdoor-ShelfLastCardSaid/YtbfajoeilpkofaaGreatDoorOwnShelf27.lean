/- The library's contracts laid at this program: which of its functions and types they speak of. -/
import Derived.Test.YtbfajoeilpkofaaGreatDoorProg
import Derived.Ground.GgzProg
import Derived.Ground.NamesProg
import Derived.Shelf.SlGeneric
import Derived.Shelf.SlIter.Sorted
import Derived.Shelf.Sort.Plain
import Derived.Shelf.Slices.In.SortNone
import Derived.Test.YtbfajoeilpkofaaGreatDoorOwnShelf21
import Derived.Test.YtbfajoeilpkofaaGreatDoorOwnShelf24
namespace Go.Proofs
open Go.Shelf
def Tryz.lKeys_ren : Go.Shelf.Ren := ⟨fun | 7 => 51 | 10 => 87 | n => n, fun | 23 => 81 | 26 => 9 | 3 => 101 | 28 => 112 | 0 => 0 | 27 => 111 | 33 => 159 | 4 => 4 | n => n, fun | n => n⟩
theorem Tryz.lKeys : Go.Proofs.SlLaysZ.n7 Tryz.prog Tryz.lKeys_ren := {
  mixed := by kernel_rfl
  f7 := ⟨Tryz.f51.name, by decide, Tryz.func51.trans (congrArg some (by kernel_rfl))⟩
  f10 := ⟨Tryz.f87.name, by decide, Tryz.func87.trans (congrArg some (by kernel_rfl))⟩
  t0 := Tryz.underlying0
  a0 := Tryz.isAgg0
  z0 := Tryz.sizeOf0
  v0 := Tryz.zeroValue0
  t4 := Tryz.underlying4
  a4 := Tryz.isAgg4
  z4 := Tryz.sizeOf4
  v4 := Tryz.zeroValue4
  t23 := Tryz.underlying81
  a23 := Tryz.isAgg81
  z23 := Tryz.sizeOf81
  v23 := Tryz.zeroValue81
  t26 := Tryz.underlying9
  a26 := Tryz.isAgg9
  z26 := Tryz.sizeOf9
  v26 := Tryz.zeroValue9
  t27 := Tryz.underlying111
  a27 := Tryz.isAgg111
  z27 := Tryz.sizeOf111
  v27 := Tryz.zeroValue111
  t28 := Tryz.underlying112
  a28 := Tryz.isAgg112
  z28 := Tryz.sizeOf112
  v28 := Tryz.zeroValue112
  t33 := Tryz.underlying159
  a33 := Tryz.isAgg159
  z33 := Tryz.sizeOf159
  v33 := Tryz.zeroValue159 }
def Tryz.lSorted_ren : Go.Shelf.Ren := ⟨fun | 6 => 50 | 8 => 85 | 9 => 86 | 11 => 114 | 13 => 111 | 12 => 115 | 23 => 130 | 24 => 131 | 14 => 132 | 15 => 133 | 16 => 134 | 17 => 135 | 18 => 136 | 19 => 137 | 20 => 138 | 21 => 139 | 22 => 140 | 25 => 155 | 26 => 150 | 27 => 151 | 28 => 156 | 29 => 157 | 30 => 158 | 31 => 163 | n => n, fun | 26 => 9 | 28 => 112 | 24 => 46 | 0 => 0 | 3 => 3 | 37 => 49 | 48 => 219 | 50 => 92 | 4 => 4 | 40 => 211 | 39 => 210 | 45 => 216 | 5 => 5 | 9 => 9 | 51 => 231 | 55 => 235 | 57 => 241 | 58 => 242 | 33 => 159 | n => n, fun | n => n⟩
theorem Tryz.lSorted : Go.Proofs.SlLaysZ.n6 Tryz.prog Tryz.lSorted_ren := {
  mixed := by kernel_rfl
  f6 := ⟨Tryz.f50.name, by decide, Tryz.func50.trans (congrArg some (by kernel_rfl))⟩
  f8 := ⟨Tryz.f85.name, by decide, Tryz.func85.trans (congrArg some (by kernel_rfl))⟩
  f11 := ⟨Tryz.f114.name, by decide, Tryz.func114.trans (congrArg some (by kernel_rfl))⟩
  t0 := Tryz.underlying0
  a0 := Tryz.isAgg0
  z0 := Tryz.sizeOf0
  v0 := Tryz.zeroValue0
  t24 := Tryz.underlying46
  a24 := Tryz.isAgg46
  z24 := Tryz.sizeOf46
  v24 := Tryz.zeroValue46
  t26 := Tryz.underlying9
  a26 := Tryz.isAgg9
  z26 := Tryz.sizeOf9
  v26 := Tryz.zeroValue9
  t28 := Tryz.underlying112
  a28 := Tryz.isAgg112
  z28 := Tryz.sizeOf112
  v28 := Tryz.zeroValue112
  i26 := by kernel_rfl }
def Tryz.lSortS_ren : Go.Shelf.Ren := ⟨fun | 190 => 86 | 125 => 111 | 258 => 115 | 128 => 130 | 129 => 131 | 302 => 132 | 303 => 133 | 304 => 134 | 305 => 135 | 306 => 136 | 307 => 137 | 308 => 138 | 309 => 139 | 310 => 140 | 333 => 155 | 329 => 150 | 330 => 151 | 334 => 156 | 335 => 157 | 336 => 158 | 344 => 163 | n => n, fun | 31 => 46 | 9 => 9 | 3 => 3 | 46 => 49 | 0 => 0 | 51 => 219 | 53 => 92 | 4 => 4 | 183 => 211 | 182 => 210 | 131 => 216 | 5 => 5 | 218 => 231 | 222 => 235 | 228 => 241 | 229 => 242 | n => n, fun | n => n⟩
theorem Tryz.lSortS : Go.Proofs.Lays.n190 Tryz.prog Tryz.lSortS_ren := {
  mixed := by kernel_rfl
  f125 := Tryz.func111.trans (congrArg some (by kernel_rfl))
  f128 := Tryz.func130.trans (congrArg some (by kernel_rfl))
  f129 := Tryz.func131.trans (congrArg some (by kernel_rfl))
  f190 := Tryz.func86.trans (congrArg some (by kernel_rfl))
  f258 := Tryz.func115.trans (congrArg some (by kernel_rfl))
  f302 := Tryz.func132.trans (congrArg some (by kernel_rfl))
  f303 := Tryz.func133.trans (congrArg some (by kernel_rfl))
  f304 := Tryz.func134.trans (congrArg some (by kernel_rfl))
  f305 := Tryz.func135.trans (congrArg some (by kernel_rfl))
  f306 := Tryz.func136.trans (congrArg some (by kernel_rfl))
  f307 := Tryz.func137.trans (congrArg some (by kernel_rfl))
  f308 := Tryz.func138.trans (congrArg some (by kernel_rfl))
  f309 := Tryz.func139.trans (congrArg some (by kernel_rfl))
  f310 := Tryz.func140.trans (congrArg some (by kernel_rfl))
  f329 := Tryz.func150.trans (congrArg some (by kernel_rfl))
  f330 := Tryz.func151.trans (congrArg some (by kernel_rfl))
  f333 := Tryz.func155.trans (congrArg some (by kernel_rfl))
  f334 := Tryz.func156.trans (congrArg some (by kernel_rfl))
  f335 := Tryz.func157.trans (congrArg some (by kernel_rfl))
  f336 := Tryz.func158.trans (congrArg some (by kernel_rfl))
  f344 := Tryz.func163.trans (congrArg some (by kernel_rfl))
  t0 := Tryz.underlying0
  a0 := Tryz.isAgg0
  z0 := Tryz.sizeOf0
  v0 := Tryz.zeroValue0
  t3 := Tryz.underlying3
  a3 := Tryz.isAgg3
  z3 := Tryz.sizeOf3
  v3 := Tryz.zeroValue3
  t4 := Tryz.underlying4
  a4 := Tryz.isAgg4
  z4 := Tryz.sizeOf4
  v4 := Tryz.zeroValue4
  t5 := Tryz.underlying5
  a5 := Tryz.isAgg5
  z5 := Tryz.sizeOf5
  v5 := Tryz.zeroValue5
  t9 := Tryz.underlying9
  a9 := Tryz.isAgg9
  z9 := Tryz.sizeOf9
  v9 := Tryz.zeroValue9
  t31 := Tryz.underlying46
  a31 := Tryz.isAgg46
  z31 := Tryz.sizeOf46
  v31 := Tryz.zeroValue46
  t46 := Tryz.underlying49
  a46 := Tryz.isAgg49
  z46 := Tryz.sizeOf49
  v46 := Tryz.zeroValue49
  t51 := Tryz.underlying219
  a51 := Tryz.isAgg219
  z51 := Tryz.sizeOf219
  v51 := Tryz.zeroValue219
  t53 := Tryz.underlying92
  a53 := Tryz.isAgg92
  z53 := Tryz.sizeOf92
  v53 := Tryz.zeroValue92
  t131 := Tryz.underlying216
  a131 := Tryz.isAgg216
  z131 := Tryz.sizeOf216
  v131 := Tryz.zeroValue216
  t182 := Tryz.underlying210
  a182 := Tryz.isAgg210
  z182 := Tryz.sizeOf210
  v182 := Tryz.zeroValue210
  t183 := Tryz.underlying211
  a183 := Tryz.isAgg211
  z183 := Tryz.sizeOf211
  v183 := Tryz.zeroValue211
  t218 := Tryz.underlying231
  a218 := Tryz.isAgg231
  z218 := Tryz.sizeOf231
  v218 := Tryz.zeroValue231
  t222 := Tryz.underlying235
  a222 := Tryz.isAgg235
  z222 := Tryz.sizeOf235
  v222 := Tryz.zeroValue235
  t228 := Tryz.underlying241
  a228 := Tryz.isAgg241
  z228 := Tryz.sizeOf241
  v228 := Tryz.zeroValue241
  t229 := Tryz.underlying242
  a229 := Tryz.isAgg242
  z229 := Tryz.sizeOf242
  v229 := Tryz.zeroValue242 }
def Tryz.lSort_ren : Go.Shelf.Ren := ⟨fun | 189 => 83 | 125 => 111 | 257 => 110 | 128 => 130 | 129 => 131 | 294 => 121 | 295 => 122 | 296 => 123 | 297 => 124 | 298 => 125 | 299 => 126 | 216 => 127 | 300 => 128 | 301 => 129 | 328 => 149 | 329 => 150 | 330 => 151 | 331 => 152 | 332 => 153 | 215 => 154 | 343 => 162 | n => n, fun | 28 => 63 | 3 => 3 | 46 => 49 | 0 => 0 | 51 => 219 | 53 => 92 | 4 => 4 | 183 => 211 | 182 => 210 | 131 => 216 | 5 => 5 | 9 => 9 | 218 => 231 | 222 => 235 | 228 => 241 | 229 => 242 | n => n, fun | n => n⟩
theorem Tryz.lSort : Go.Proofs.Lays.n189 Tryz.prog Tryz.lSort_ren := {
  mixed := by kernel_rfl
  f125 := Tryz.func111.trans (congrArg some (by kernel_rfl))
  f128 := Tryz.func130.trans (congrArg some (by kernel_rfl))
  f129 := Tryz.func131.trans (congrArg some (by kernel_rfl))
  f189 := Tryz.func83.trans (congrArg some (by kernel_rfl))
  f215 := Tryz.func154.trans (congrArg some (by kernel_rfl))
  f216 := Tryz.func127.trans (congrArg some (by kernel_rfl))
  f257 := Tryz.func110.trans (congrArg some (by kernel_rfl))
  f294 := Tryz.func121.trans (congrArg some (by kernel_rfl))
  f295 := Tryz.func122.trans (congrArg some (by kernel_rfl))
  f296 := Tryz.func123.trans (congrArg some (by kernel_rfl))
  f297 := Tryz.func124.trans (congrArg some (by kernel_rfl))
  f298 := Tryz.func125.trans (congrArg some (by kernel_rfl))
  f299 := Tryz.func126.trans (congrArg some (by kernel_rfl))
  f300 := Tryz.func128.trans (congrArg some (by kernel_rfl))
  f301 := Tryz.func129.trans (congrArg some (by kernel_rfl))
  f328 := Tryz.func149.trans (congrArg some (by kernel_rfl))
  f329 := Tryz.func150.trans (congrArg some (by kernel_rfl))
  f330 := Tryz.func151.trans (congrArg some (by kernel_rfl))
  f331 := Tryz.func152.trans (congrArg some (by kernel_rfl))
  f332 := Tryz.func153.trans (congrArg some (by kernel_rfl))
  f343 := Tryz.func162.trans (congrArg some (by kernel_rfl))
  t0 := Tryz.underlying0
  a0 := Tryz.isAgg0
  z0 := Tryz.sizeOf0
  v0 := Tryz.zeroValue0
  t3 := Tryz.underlying3
  a3 := Tryz.isAgg3
  z3 := Tryz.sizeOf3
  v3 := Tryz.zeroValue3
  t4 := Tryz.underlying4
  a4 := Tryz.isAgg4
  z4 := Tryz.sizeOf4
  v4 := Tryz.zeroValue4
  t5 := Tryz.underlying5
  a5 := Tryz.isAgg5
  z5 := Tryz.sizeOf5
  v5 := Tryz.zeroValue5
  t9 := Tryz.underlying9
  a9 := Tryz.isAgg9
  z9 := Tryz.sizeOf9
  v9 := Tryz.zeroValue9
  t28 := Tryz.underlying63
  a28 := Tryz.isAgg63
  z28 := Tryz.sizeOf63
  v28 := Tryz.zeroValue63
  t46 := Tryz.underlying49
  a46 := Tryz.isAgg49
  z46 := Tryz.sizeOf49
  v46 := Tryz.zeroValue49
  t51 := Tryz.underlying219
  a51 := Tryz.isAgg219
  z51 := Tryz.sizeOf219
  v51 := Tryz.zeroValue219
  t53 := Tryz.underlying92
  a53 := Tryz.isAgg92
  z53 := Tryz.sizeOf92
  v53 := Tryz.zeroValue92
  t131 := Tryz.underlying216
  a131 := Tryz.isAgg216
  z131 := Tryz.sizeOf216
  v131 := Tryz.zeroValue216
  t182 := Tryz.underlying210
  a182 := Tryz.isAgg210
  z182 := Tryz.sizeOf210
  v182 := Tryz.zeroValue210
  t183 := Tryz.underlying211
  a183 := Tryz.isAgg211
  z183 := Tryz.sizeOf211
  v183 := Tryz.zeroValue211
  t218 := Tryz.underlying231
  a218 := Tryz.isAgg231
  z218 := Tryz.sizeOf231
  v218 := Tryz.zeroValue231
  t222 := Tryz.underlying235
  a222 := Tryz.isAgg235
  z222 := Tryz.sizeOf235
  v222 := Tryz.zeroValue235
  t228 := Tryz.underlying241
  a228 := Tryz.isAgg241
  z228 := Tryz.sizeOf241
  v228 := Tryz.zeroValue241
  t229 := Tryz.underlying242
  a229 := Tryz.isAgg242
  z229 := Tryz.sizeOf242
  v229 := Tryz.zeroValue242 }
end Go.Proofs
/- A shelf's Keys. -/
namespace Go.Proofs.YtbfajoeilpkofaaGreatDoor
open Go.RowKit Go.Shelf Go.Maps Go.Sort

attribute [local go_sem ↓] Go.wp_at_zero Go.wp_at_succ

theorem sorts (m : Nat) : AnyZ.SortsIn Tryz.prog Tryz.lSorted_ren Fence.wide m :=
  ⟨fun blk off cap ss W hH hblk hsz => callsIn_wide.2 (Any.slices_Sort_string Tryz.lSortS blk off cap ss W hH hblk hsz),
   fun p cap W => callsIn_wide.2 (Any.slices_Sort_string_none Tryz.lSortS p cap W)⟩
theorem keys_any (mb : Option Nat) (w : World) :
    Calls Tryz.prog 51 #[.map mb] w fun e w' => e = .returned (.func (.func 87) #[] #[.pointer (some ⟨w.heap.size, 0, none⟩)]) ∧ w' = w.alloc (.cells #[.map mb] 81) :=
  callsIn_wide.1 (AnyZ.keys_in Tryz.lKeys Fence.wide 5 trivial rfl mb w)
theorem rise_le {l : List (List UInt8)} (h : l.Pairwise fun a b => bytesBefore a b = true) : l.mergeSort (fun x y => decide (x ≤ y)) = l := by
  apply List.mergeSort_of_pairwise
  refine h.imp fun {a b} hab => ?_
  rw [before_lt] at hab
  have := of_decide_eq_true hab
  exact decide_eq_true (List.le_of_lt this)
/-- Strings of one's own. -/
def StrR (w w' : World) (v : Value) (ks : List (List UInt8)) : Prop := w'.ownsRow w.heap.size 9 1 v ks.length (ks.map encStr) ∧ Below w.heap.size w w'
theorem sorted_any (Bm b : Nat) (L : List Lf) (hr : Rise Lf.k L) (hl : L.length ≤ 1000000) (w : World) (hm : w.cell? ⟨Bm, 0, none⟩ = some (.map (some b))) (hown : lfM w b L) :
    Calls Tryz.prog 50 #[.func (.func 87) #[] #[.pointer (some ⟨Bm, 0, none⟩)]] w fun e w' => ∃ v, e = .returned v ∧ StrR w w' v (L.map Lf.k) := by
  have hown' : w.ownsMap Tryz.prog 9 lfR b L.length (dOf Lf.k Lf.en L) := hown
  have hseq : SeqGives Fence.wide 2 Tryz.prog 87 #[.pointer (some ⟨Bm, 0, none⟩)] encStr (fun ss => ss.Perm (strKeys (dOf Lf.k Lf.en L))) (Maps.size (dOf Lf.k Lf.en L)) w :=
    AnyZ.keys_gives (ρ := Tryz.lKeys_ren) { Tryz.lKeys with } Fence.wide _ trivial rfl (by omega) Bm b L.length (dOf Lf.k Lf.en L) w (World.block_lt_of_cell? w ⟨Bm, 0, none⟩ hm) hm hown'
  have cS := AnyZ.sorted_in Tryz.lSorted Fence.wide 5 trivial trivial trivial trivial rfl (by omega) (sorts _) (enters_of Tryz.func86 (by kernel_rfl) rfl) 87 #[.pointer (some ⟨Bm, 0, none⟩)] trivial (enters_of Tryz.func87 (by kernel_rfl) rfl) _ _ (by rw [dOf_size]; unfold maxLen; omega) (by rw [dOf_size]; omega) _ hseq
  change CallsIn _ _ Tryz.prog 50 _ _ _ at cS
  refine (callsIn_wide.1 cS).mono ?_
  rintro e w' ⟨v, ss, rfl, hp, hrow, -, hb⟩
  rw [dOf_keys] at hp
  have e1 : ss.mergeSort (fun x y => decide (x ≤ y)) = L.map Lf.k := by
    rw [mergeSort_of_perm hp]
    apply rise_le
    rw [List.pairwise_map]
    exact hr
  rw [e1] at hrow
  have e2 : ss.length = (L.map Lf.k).length := hp.length_eq
  rw [e2] at hrow
  exact ⟨v, rfl, hrow, hb⟩
theorem owns_base {W : World} {base base' : Nat} {e : TypeId} {size : Nat} {v : Value} {k : Nat} {xs : List Value} (h : W.ownsRow base e size v k xs) (hb : base' ≤ base) : W.ownsRow base' e size v k xs := by
  refine ⟨h.1, ?_⟩
  rcases h.2 with hn | ⟨g, cap, cur, hv, hbg, rest⟩
  · exact .inl hn
  · exact .inr ⟨g, cap, cur, hv, Nat.le_trans hb hbg, rest⟩
set_option maxHeartbeats 800000 in
theorem keysS_any (sh m p fr n : Nat) (L : List Lf) (dead : Int) (w : World) (h : ShAt w sh m p fr n L dead) :
    Calls Tryz.prog 17 #[.pointer (some ⟨sh, 0, none⟩)] w fun e w' => ∃ v, e = .returned v ∧ StrR w w' v (L.map Lf.k) := by
  have c3 := h.c3
  have hk := keys_any (some m) w
  have hbA : Below w.heap.size w (w.alloc (.cells #[.map (some m)] 81)) := (Below.refl _ w).alloc (Nat.le_refl _) _
  have hs := sorted_any w.heap.size m L h.ok.rise (by have := h.few; have := h.count; omega) (w.alloc (.cells #[.map (some m)] 81)) (by simp) (owns_keepB h.map (hbA.block m h.ltm))
  clear h
  go_enter Tryz.func17, Tryz.ntmps17
  go_wp2_with fail
  refine hk.mono ?_
  rintro e w1 ⟨rfl, rfl⟩
  go_wp2_with fail
  refine hs.mono ?_
  rintro e w1 ⟨v, rfl, hR⟩
  go_wp2
  go_ret
  exact ⟨v, rfl, owns_base hR.1 (by simp), Below.transS hbA hR.2⟩
theorem keysS_nil (w : World) : Calls Tryz.prog 17 #[.pointer none] w fun e w' => e = .returned (.slice none 0 0) ∧ w' = w := by
  go_enter Tryz.func17, Tryz.ntmps17
  go_wp2
  go_ret
  exact ⟨rfl, rfl⟩
end Go.Proofs.YtbfajoeilpkofaaGreatDoor
/- The root page. -/
namespace Go.Proofs.YtbfajoeilpkofaaGreatDoor
open Go.RowKit Go.Shelf Go.Maps Go.Sort

attribute [local go_sem ↓] Go.wp_at_zero Go.wp_at_succ

def srtI (l : List Int) : List Int := l.mergeSort fun x y => decide (x ≤ y)
theorem srtI_perm {l m : List Int} (h : l.Perm m) : srtI l = srtI m := by
  have hp : (srtI l).Perm (srtI m) := ((List.mergeSort_perm l _).trans h).trans (List.mergeSort_perm m _).symm
  have hs : ∀ k : List Int, (srtI k).Pairwise (fun x y => x ≤ y) := fun k => (List.pairwise_mergeSort (le := fun x y => decide (x ≤ y)) (fun a b c h1 h2 => by simp at *; omega) (fun a b => by simp; omega) k).imp fun {a b} h => of_decide_eq_true h
  exact hp.eq_of_pairwise (fun a b _ _ h1 h2 => Int.le_antisymm h1 h2) (hs l) (hs m)
/-- The places of leaves, ascending. -/
def plI (L : List Lf) : List Int := srtI (L.map fun x => (x.p : Int))
theorem plI_length (L : List Lf) : (plI L).length = L.length := by simp [plI, srtI]
theorem plI_mem {L : List Lf} {y : Int} (h : y ∈ plI L) : ∃ x ∈ L, y = (x.p : Int) := by
  have h1 := (List.mergeSort_perm (L.map fun x => (x.p : Int)) (fun x y => decide (x ≤ y))).mem_iff.1 h
  obtain ⟨x, hx, rfl⟩ := List.mem_map.1 h1
  exact ⟨x, hx, rfl⟩
def uBs (l : List Int) : List Int := l.flatMap uB
def rootB (L : List Lf) : List Int := uB (L.length : Int) ++ uBs (plI L)
theorem uBs_snoc (l : List Int) (x : Int) : uBs (l ++ [x]) = uBs l ++ uB x := by simp [uBs]
theorem uB_le (n : Int) : (uB n).length ≤ 9 := by
  have := sz_le n
  simp [uB, dgs_length]; omega
theorem uBs_le : ∀ l : List Int, (uBs l).length ≤ 9 * l.length
  | [] => by simp [uBs]
  | x :: r => by
    have h1 := uB_le x
    have h2 := uBs_le r
    unfold uBs at h2 ⊢
    simp only [List.flatMap_cons, List.length_append, List.length_cons]
    omega
/-- The leaves that have come. -/
def CameF (L : List Lf) (left : Lit → Bool) (xs : List Lf) : Prop := (xs.map Lf.k).Nodup ∧ ∀ x, x ∈ xs ↔ (x ∈ L ∧ left (.string x.k) = false)
theorem CameF.start (L : List Lf) : CameF L (Maps.has (dOf Lf.k Lf.en L)) [] := by
  refine ⟨List.nodup_nil, fun x => ⟨(fun h => by cases h), ?_⟩⟩
  rintro ⟨h1, h2⟩
  rw [dOf_has] at h2
  cases e : getK Lf.k x.k L with
  | none => exact absurd rfl ((getK_none Lf.k).1 e x h1)
  | some y => rw [e] at h2; cases h2
theorem CameF.step {L : List Lf} (hr : Rise Lf.k L) {left : Lit → Bool} {xs : List Lf} (h : CameF L left xs) {k : List UInt8} {c : Lf} (hc : getK Lf.k k L = some c) (hl : left (.string k) = true) :
    CameF L (fun z => left z && !z.sameKey (.string k)) (xs ++ [c]) := by
  obtain ⟨hm, rfl⟩ := getK_mem Lf.k hc
  refine ⟨?_, fun x => ?_⟩
  · rw [List.map_append, List.nodup_append]
    refine ⟨h.1, by simp, ?_⟩
    intro a ha b hb e
    simp at hb
    obtain ⟨y, hy, rfl⟩ := List.mem_map.1 ha
    have h1 := ((h.2 y).1 hy)
    rw [e, hb, hl] at h1
    cases h1.2
  · rw [List.mem_append, List.mem_singleton, h.2 x]
    constructor
    · rintro (⟨h1, h2⟩ | rfl)
      · exact ⟨h1, by simp [h2]⟩
      · exact ⟨hm, by simp [Lit.sameKey]⟩
    · rintro ⟨h1, h2⟩
      by_cases e : x.k = c.k
      · exact .inr (hr.inj Lf.k h1 hm e)
      · refine .inl ⟨h1, ?_⟩
        simpa [Lit.sameKey, e] using h2
theorem CameF.perm {L : List Lf} (hr : Rise Lf.k L) {left : Lit → Bool} {xs : List Lf} (h : CameF L left xs) (hl : ∀ kl, left kl = false) : xs.Perm L := by
  have h1 : xs.Nodup := List.Pairwise.of_map (S := (· ≠ ·)) Lf.k (fun a b hab e => hab (by rw [e])) h.1
  have h2 : L.Nodup := List.Pairwise.of_map (S := (· ≠ ·)) Lf.k (fun a b hab e => hab (by rw [e])) hr.nodup
  exact (List.perm_ext_iff_of_nodup h1 h2).2 fun x => by rw [h.2 x, hl]; simp
theorem make_ints (n : Nat) (hn : n ≤ 1000000) (w : World) : ∃ v w1, (Instr.makeSlice 63 (.int .i64 0) (.int .i64 (n : Int))).run Tryz.prog w = .ok v w1 ∧ IOw w w1 v [] ∧ w1.heap.size = w.heap.size + 1 ∧ ∃ g cap, v = .slice (some ⟨g, 0, none⟩) 0 cap := by
  obtain ⟨i0, hi0, hz0, hz1, hz2⟩ := info_parts infoInt
  have h := run_make (P := Tryz.prog) w 63 3 i0 (.int .i64 0) Tryz.underlying63 hi0 hz0 .i64 .i64 0 (n : Int) (Int.le_refl _) (by omega) (by rw [hz2]; omega) (by omega)
  refine ⟨_, _, h, ⟨?_, (Below.refl _ w).alloc (Nat.le_refl _) _⟩, by simp, _, _, rfl⟩
  have := World.ownsRow_made w (base := w.heap.size) (e := 3) (size := 1) (madeCells (Value.int .i64 0).cells (n * i0.size)) n (Nat.le_refl _) (by unfold maxLen; omega) (by simp [madeCells, hz1])
  simpa [iC] using this
theorem putRowI_below {w : World} {g off n : Nat} {d : Array Int} {os : Array Obj} {B : Nat} (hB : B ≤ g) (hg : g < w.heap.size) : Below B w (grow (putRow (Value.int .i64) (Sort.ahead w n) g off d) os) := by
  refine ⟨rfl, rfl, rfl, by simp, fun k hk => ?_⟩
  rw [heap_grow_old _ _ (by simp; omega)]
  simp only [putRow, mapBlock, heap_ahead]
  rw [Array.getElem?_modify, if_neg (by omega)]
/-- Ints that lie at the front of a block. -/
theorem sortI_any (g cap : Nat) (l : List Int) (w : World) (hc : ∀ j x, l[j]? = some x → w.cell? ⟨g, 0 + j, none⟩ = some (.int .i64 x) ∧ w.frozen? ⟨g, 0 + j, none⟩ = false) (hg : g < w.heap.size) (hn : l.length ≤ 1000000) (B : Nat) (hB : B ≤ g) :
    Calls Tryz.prog 83 #[.slice (some ⟨g, 0, none⟩) l.length cap] w fun e w' => e = .returned (.tuple #[]) ∧ IsL w' (some ⟨g, 0, none⟩) (srtI l) ∧ Below B w w' := by
  have hH : Holds (Value.int .i64) w g 0 l.toArray := fun j hj => by
    have hj' : j < l.length := by simpa using hj
    have := hc j l[j] (List.getElem?_eq_getElem hj')
    simpa [hj'] using this
  have hcon := Any.slices_Sort_int Tryz.lSort g 0 cap l w hH hg (by omega)
  change Calls Tryz.prog 83 _ _ _ at hcon
  refine hcon.mono ?_
  rintro e w' ⟨rfl, n, os, rfl⟩
  have hH2 : Holds (Value.int .i64) (grow (putRow (Value.int .i64) (Sort.ahead w n) g 0 (srtI l).toArray) os) g 0 (srtI l).toArray := holds_grow _ _ _ _ _ _ (by simpa using hg) (holds_putRow _ _ _ _ _ _ (holds_ahead _ _ _ _ _ _ hH) (by simp [srtI]))
  refine ⟨rfl, fun _ => ⟨g, 0, rfl, fun j x hx => ?_⟩, putRowI_below hB hg⟩
  have hj : j < (srtI l).length := (List.getElem?_eq_some_iff.1 hx).1
  have h1 := (hH2 j (by simpa using hj)).1
  have h2 : (srtI l).toArray[j]! = x := by
    have := (List.getElem?_eq_some_iff.1 hx).2
    simp [hj, this]
  rw [h2] at h1
  exact h1
/-- While the map is gone over: the places that have come. -/
structure RtI (w wr : World) (v : Value) (L : List Lf) (left : Lit → Bool) (cnt : Nat) : Prop where
  ex : ∃ xs, CameF L left xs ∧ IOw w wr v (xs.map fun x => (x.p : Int)) ∧ xs.length + cnt ≤ L.length ∧ ∃ g n cap, v = .slice (some ⟨g, 0, none⟩) n cap
theorem iow_cells {w0 w : World} {g n cap : Nat} {L : List Int} (h : IOw w0 w (.slice (some ⟨g, 0, none⟩) n cap) L) : n = L.length ∧ g < w.heap.size ∧ w0.heap.size ≤ g ∧ ∀ j x, L[j]? = some x → w.cell? ⟨g, 0 + j, none⟩ = some (.int .i64 x) ∧ w.frozen? ⟨g, 0 + j, none⟩ = false := by
  rcases h.own.2 with ⟨e, _⟩ | ⟨g', cap', cur, e, hbs, hg, hc, hm, _⟩
  · cases e
  · cases e
    refine ⟨rfl, lt_of_block hg, hbs, fun j x hx => ⟨?_, by rw [Nat.zero_add]; exact frozen_of_row w g j _ _ hg⟩⟩
    have := h.own.cells (g := g) rfl j (.int .i64 x) (by simp [iC, hx])
    rwa [Addr.add_lit] at this
theorem wpList_append_I2 {ops : Array Oper} {rest : List Oper} {o : Oper} {a : Act} {w : World} {Q : Exit → Act → World → Prop} (hgd : o.guard = none) (s x : Operand) (ho : o.op = .call { callee := .builtin .append, args := #[s, x], argTypes := #[63, 63] })
    (w0 : World) (v u : Value) (L ys : List Int) (hs : a.eval s = v) (hx : a.eval x = u) (hown : IOw w0 w v L) (hu : ISrc w u ys) (hlen : L.length + ys.length ≤ 1000000)
    (h : ∀ v' w1, IOw w0 w1 v' (L ++ ys) → (∀ k, k < w.heap.size → v.ownBlock ≠ some k → w1.heap[k]? = w.heap[k]?) → wpList Tryz.prog ops Q rest (a.put o.dst v') w1) : wpList Tryz.prog ops Q (o :: rest) a w := by
  obtain ⟨v', w1, hr, h2, h3⟩ := run_append_I w w0 o.type v u L ys hown hu hlen
  refine wpList_plain hgd fun K hK => ?_
  unfold Oper.wp execOp
  simp only [ho, resolve, invoke, builtin, Sem.run_bind, Sem.run_pure, Result.andThen_ok, List.map_toArray, List.map_cons, List.map_nil, hs, hx, hr]
  exact hK _ _ (h v' w1 h2 h3)
theorem iow_walk {w0 w w' : World} {v : Value} {L : List Int} {r : Nat} (h : IOw w0 w v L) (hg : w.grownBy w' (some r)) (hw : ∃ o : Obj, w.heap[r]? = some o ∧ o.isWalk = true) (hr : w0.heap.size ≤ r) : IOw w0 w' v L ∧ v.ownBlock ≠ some r := by
  have hne : v.ownBlock ≠ some r := fun e => by
    rcases h.own.2 with ⟨rfl, _⟩ | ⟨g, cap, cur, rfl, hbs, hgb, _⟩
    · cases e
    · cases e
      obtain ⟨o, ho, hk⟩ := hw
      rw [hgb] at ho; cases ho; cases hk
  refine ⟨⟨owns_row_keep h.own fun k e => hg.block k (h.own.lt k e).2 (fun e2 => hne (by rw [e, e2])), h.below.grown hg h.below.size (fun k e => by cases e; exact hr)⟩, hne⟩
theorem iow_some {w0 w1 : World} {v' : Value} {L : List Int} {y : Int} (h : IOw w0 w1 v' (L ++ [y])) : ∃ g n cap, v' = .slice (some ⟨g, 0, none⟩) n cap := by
  rcases h.form with ⟨_, e⟩ | ⟨g, cap, e, _⟩
  · simp at e
  · exact ⟨g, _, cap, e⟩
theorem newW_any (u : World) : Calls Tryz.prog 77 #[] u fun e u' => ∃ p, e = .returned (.pointer (some ⟨p, 0, none⟩)) ∧ WrAt u' u.heap.size p none [] ∧ Below u.heap.size u u' := by
  refine (newE_any u).mono ?_
  rintro e u' ⟨rfl, rfl⟩
  exact ⟨_, rfl, new_wr u, (Below.refl _ u).alloc (Nat.le_refl _) _⟩
/-- A number laid by a writer made since u. -/
theorem uintW_any (u w : World) (p : Nat) (g : Option Nat) (l : List Int) (n : Int) (hw : WrAt w u.heap.size p g l) (hb : Below u.heap.size u w) (hl : l.length ≤ 1000000) (hn : 0 ≤ n ∧ n ≤ 100000) :
    Calls Tryz.prog 84 #[.pointer (some ⟨p, 0, none⟩), .int .u64 n] w fun e w' => e = .returned (.pointer (some ⟨p, 0, none⟩)) ∧ ∃ g', WrAt w' u.heap.size p g' (l ++ uB n) ∧ Below u.heap.size u w' := by
  refine (wrUint_any p u.heap.size g l n w hw (by omega) (by omega)).mono ?_
  rintro e w' ⟨rfl, g', hw', hf, -⟩
  refine ⟨rfl, g', hw', hb.trans (hf.below hb.size (fun j hj => ?_))⟩
  simp at hj
  rcases hj with rfl | hj
  · exact hw.lt.2.1
  · exact (hw.lt.2.2 j hj).2
end Go.Proofs.YtbfajoeilpkofaaGreatDoor
