/- The writer's Hash; a nil writer's calls. -/
import Derived.Test.YtbehkajfckadfaaDoorOwnShelf18
import Derived.Great.Ranges
import Derived.Test.YtbehkajfckadfaaDoorOwnShelf16
import Derived.Laws.IdiomStrings
import Derived.Lib.BufferRead
import Derived.Test.YtbehkajfckadfaaDoorOwnShelf11
import Derived.Test.YtbehkajfckadfaaDoorProg
import Derived.Ground.Names8Prog
import Derived.Shelf.Spec.SlicesGrow
import Derived.Ground.Names2Prog
import Derived.Ground.NamesProg
import Derived.Shelf.Slices.Clone
import Derived.Shelf.Slices.CompactI
import Derived.Shelf.Slices.Turned
import Derived.Shelf.Sort.Plain
import Derived.Shelf.SlGeneric
import Derived.Test.YtbehkajfckadfaaDoorOwnShelf13
namespace Go.Proofs.YtbehkajfckadfaaDoor
open Go.RowKit

attribute [local go_sem ↓] Go.wp_at_zero Go.wp_at_succ

/-- A sum's bytes. -/
def hB (z : Nat → Int) : List Int := (List.range 32).map z
theorem hB_length (z : Nat → Int) : (hB z).length = 32 := by simp [hB]
theorem hB_bl (z : Nat → Int) : (hB z).map (Value.int .u8) = bl z 32 := by simp [hB, bl]

set_option maxRecDepth 100000 in
set_option maxHeartbeats 1600000 in
theorem wrHash_any (p B : Nat) (g : Option Nat) (l : List Int) (z : Nat → Int) (w : World) (hw : WrAt w B p g l) (hl : l.length + 32 ≤ 140737488355328) (hz : ∀ j, j < 32 → 0 ≤ z j ∧ z j ≤ 255) :
    Calls Tryd.prog 36 #[.pointer (some ⟨p, 0, none⟩), .agg (hv z)] w fun e w' => e = .returned (.pointer (some ⟨p, 0, none⟩)) ∧ WrGrown w w' B p g (l ++ hB z) := by
  obtain ⟨i0, hi0, hz0, hz1, hz2⟩ := info_parts Tryd.infoB
  have H : Hid (Tryd.prog.info? 5 = some i0 ∧ i0.zero = some (.int .u8 0) ∧ i0.size = 1 ∧ i0.bytes = 1) := ⟨hi0, hz0, hz1, hz2⟩
  clear hi0 hz0 hz1 hz2
  have HZ : Hid (∀ j, j < 32 → 0 ≤ z j ∧ z j ≤ 255) := hz
  clear hz
  obtain ⟨v, hp, hown, hg, hB0, hx⟩ := hw
  have hc := cell_of_one hp
  have hf := free_of_one hp
  have hplt := lt_of_block hp
  have hne : some p ≠ v.ownBlock := fun e => own_ne hown hp e.symm
  have HO : Hid (w.ownsRow B 5 1 v l.length (l.map (Value.int .u8))) := hown
  have HP : Hid (w.heap[p]? = some (.cells #[v] 139 (0, 0))) := hp
  clear hown hp
  have HN : Hid (((w.alloc (.cells (hv z) 51)).drew).heap[w.heap.size]? = some (.cells (hv z) 51 (0, 0))) := heap_alloc_new w (.cells (hv z) 51)
  go_enter Tryd.func36, Tryd.ntmps36
  go_wp2_with (refine Go.Great.wpList_boxTo rfl _ _ rfl _ rfl _ rfl (hv z) rfl ?_)
  go_region_law (refine step_append_lies _ (by rfl) _ _ _ (by rfl) B 5 i0 _ 1 1 Tryd.underlying54 H.out.1 H.out.2.1 H.out.2.2.1 H.out.2.2.2 rfl (by omega) v l.length (l.map (Value.int .u8)) (by rfl) ((HO.out.alloc _).drew) ⟨w.heap.size, 0, none⟩ 32 32 (bl z 32) (by rfl) (by simp [bl_length]) (by have := World.news_of_block HN.out; rw [hv_list] at this; exact this) (bl_one z 32) (by omega) (by simp [maxLen]; omega) (by simp; omega) (by simp; omega) (w.heap.size + 1) (by simp) ?_; intro gg cap w1 hown1 hgrow hat hlt1; have hp1 := grown_keep (((Frm.refl [] w).alloc _).drew) hgrow HP.out hne; have hc1 := cell_of_one hp1; have hf1 := free_of_one hp1)
  all_goals
    have R := wr_step (ys := hB z) HP.out (((Frm.refl [] w).alloc _).drew) (by rw [hB_bl, hB_length]; exact hown1) hgrow hat hg (.inl rfl) (Frm.refl _ w) hB0 hx (by intro y hy; simp [hB] at hy; obtain ⟨j, hj, rfl⟩ := hy; exact HZ.out j hj) hne
    rw [hB_length] at R
    clear hown1 hgrow hp1
    go_wp2
    go_ret
    exact ⟨rfl, R⟩

end Go.Proofs.YtbehkajfckadfaaDoor
/- Bytes as a string. -/
namespace Go.Proofs.YtbehkajfckadfaaDoor
open Go.RowKit

/-- n bytes z as a string. -/
def strB (z : Nat → Int) (n : Nat) : ByteArray := ⟨((List.range n).map fun j => UInt8.ofNat (z j).toNat).toArray⟩

theorem conv_any (ad : Option Addr) (n cap : Nat) (z : Nat → Int) (w : World) (hs : SlAt w ad n z) (hnil : ad = none → n = 0 ∧ cap = 0) :
    (convert 54 9 (.slice ad n cap)).run Tryd.prog w = .ok (.string (strB z n)) w := by
  cases ad with
  | none =>
    obtain ⟨rfl, rfl⟩ := hnil rfl
    exact Lib.run_convert_nil_bytes w 54 9 5 0 Tryd.underlying54 Tryd.underlying5 Tryd.underlying9
  | some a =>
    have h := run_convert_bytes_back (P := Tryd.prog) w 54 9 5 a cap ((List.range n).map fun j => UInt8.ofNat (z j).toNat) Tryd.underlying54 Tryd.underlying5 Tryd.underlying9 ?_
    · simpa [strB] using h
    · intro j hj
      simp at hj
      obtain ⟨b, off, e, hc⟩ := hs.2 (by omega)
      cases e
      have hz := hs.1 j hj
      rw [Addr.add_lit, hc j hj]
      simp
      omega
end Go.Proofs.YtbehkajfckadfaaDoor
/- cond.lay: ints laid by a writer. -/
namespace Go.Proofs.YtbehkajfckadfaaDoor.Cd
open Go.RowKit

/-- An int as a number from 0 on. -/
def u64 (n : Int) : Int := IntKind.u64.wrap n
theorem u64_bd (n : Int) : 0 ≤ u64 n ∧ u64 n ≤ 18446744073709551615 := by
  unfold u64
  simp [IntKind.wrap, IntKind.bits, IntKind.signed]
  omega
theorem u64_nat (n : Nat) (h : n ≤ 9223372036854775807) : u64 (n : Int) = n := by
  unfold u64
  simp [IntKind.wrap, IntKind.bits, IntKind.signed]
  omega
/-- Ints as they are laid. -/
def laidK (z : Nat → Int) : Nat → List Int
  | 0 => []
  | j + 1 => laidK z j ++ uB (u64 (z j))
theorem uB_len (n : Int) : (uB n).length ≤ 9 := by
  have := sz_le n
  simp [uB, dgs_length]
  omega
theorem laidK_len (z : Nat → Int) : ∀ j, (laidK z j).length ≤ 9 * j
  | 0 => by simp [laidK]
  | j + 1 => by
    have h1 := laidK_len z j
    have h2 := uB_len (u64 (z j))
    simp only [laidK, List.length_append]
    omega
theorem laidK_congr {z y : Nat → Int} : ∀ n, (∀ j, j < n → z j = y j) → laidK z n = laidK y n
  | 0, _ => rfl
  | n + 1, h => by rw [laidK, laidK, laidK_congr n (fun j hj => h j (by omega)), h n (by omega)]
theorem _root_.Go.Proofs.YtbehkajfckadfaaDoor.WrGrown.refl {w : World} {B p : Nat} {g : Option Nat} {l : List Int} (h : WrAt w B p g l) : WrGrown w w B p g l := ⟨g, h, Frm.refl _ _, .inl rfl⟩
theorem _root_.Go.Proofs.YtbehkajfckadfaaDoor.WrGrown.next {w w1 w2 : World} {B p : Nat} {g g1 : Option Nat} {l l' : List Int} (h : WrGrown w w1 B p g l) (h1 : WrAt w1 B p g1 l) (h2 : WrGrown w1 w2 B p g1 l') : WrGrown w w2 B p g l' :=
  h.trans fun g' hg' => by rw [hg'.same h1]; exact h2
theorem isAt_frm {S : List Nat} {w w' : World} {ad : Option Addr} {n : Nat} {z : Nat → Int} (h : IsAt w ad n z) (hf : Frm S w w') (ha : ∀ a, ad = some a → a.block ∉ S) : IsAt w' ad n z := by
  intro hn
  obtain ⟨b, off, e, hc⟩ := h hn
  refine ⟨b, off, e, fun j hj => ?_⟩
  have h1 := hc j hj
  rw [World.cell?_of_block (a := ⟨b, off + j, none⟩) (hf.block b (World.block_lt_of_cell? w ⟨b, off + j, none⟩ h1) (ha _ e))]
  exact h1

set_option maxHeartbeats 1600000 in
theorem lay_any (p B : Nat) (g : Option Nat) (l : List Int) (ad : Option Addr) (n cap : Nat) (z : Nat → Int) (w : World) (hw : WrAt w B p g l) (hl : l.length + 9 * n + 16 ≤ 140737488355328) (hI : IsAt w ad n z) (ha : 0 < n → ∀ a, ad = some a → a.block ∉ p :: g.toList) (hn : n ≤ 1000000) :
    Calls Tryd.prog 75 #[.pointer (some ⟨p, 0, none⟩), .slice ad n cap] w fun e w' => e = .returned (.tuple #[]) ∧ WrGrown w w' B p g (l ++ laidK z n) := by
  have HI : Hid (IsAt w ad n z ∧ (0 < n → ∀ a, ad = some a → a.block ∉ p :: g.toList)) := ⟨hI, ha⟩
  have h0 : WrGrown w w B p g (l ++ laidK z 0) := by simpa [laidK] using WrGrown.refl hw
  clear hI ha hw
  go_enter Tryd.func75, Tryd.ntmps75
  go_wp2
  go_loopw [5, 8] (fun _ iv wr => ∃ i : Nat, i ≤ n ∧ iv = .int .i64 i ∧ WrGrown w wr B p g (l ++ laidK z i)) (fun _ iv _ => n + 1 - (intOf iv).toNat)
  case atStart => exact ⟨0, by omega, rfl, h0⟩
  case round =>
    clear h0
    obtain ⟨i, hi, rfl, hW⟩ := hrel
    have HW : Hid (WrGrown w wr B p g (l ++ laidK z i)) := hW
    clear hW
    by_cases hlt : i < n
    · have hlt' : (i : Int) < n := by omega
      obtain ⟨g1, hA1, hF1, -⟩ := HW.out
      obtain ⟨b, off, rfl, hc⟩ := (isAt_frm HI.out.1 hF1 (HI.out.2 (by omega))) (by omega)
      have hci := hc i hlt
      have hbd := u64_bd (z i)
      have hll := laidK_len z i
      have hcall := wrUint_any p B g1 (l ++ laidK z i) (u64 (z i)) wr hA1 (by simp; omega) hbd
      have HA : Hid (WrAt wr B p g1 (l ++ laidK z i)) := hA1
      clear hc hF1 hA1
      unfold u64 at hcall
      go_wp2_with (go_at_call 60; refine hcall.mono ?_; rintro e w1 ⟨rfl, hW1⟩)
      have HN : Hid (WrGrown w w1 B p g (l ++ laidK z (i + 1))) := by
        have := HW.out.next HA.out hW1
        rw [List.append_assoc] at this
        exact this
      clear hW1 hcall
      go_roundw
      case rel => exact ⟨i + 1, by omega, by go_num, HN.out⟩
      case measure => simp [intOf]; omega
    · obtain rfl : i = n := by omega
      have hnn : ¬ ((i : Int) < i) := by omega
      have hW := HW.out
      go_wp2
      go_end0
      exact ⟨rfl, hW⟩
end Go.Proofs.YtbehkajfckadfaaDoor.Cd
/- The library's contracts laid at this program: which of its functions and types they speak of. -/
namespace Go.Proofs
open Go.Shelf
def Tryd.lGrow_ren : Go.Shelf.Ren := ⟨fun | 4 => 80 | n => n, fun | 22 => 54 | 25 => 5 | 3 => 3 | 4 => 4 | 9 => 9 | 20 => 20 | 0 => 0 | n => n, fun | n => n⟩
theorem Tryd.lGrow : Go.Proofs.Lays8.n4 Tryd.prog Tryd.lGrow_ren := {
  mixed := by kernel_rfl
  f4 := ⟨Tryd.f80.name, by decide, Tryd.func80.trans (congrArg some (by kernel_rfl))⟩
  t0 := Tryd.underlying0
  a0 := Tryd.isAgg0
  z0 := Tryd.sizeOf0
  v0 := Tryd.zeroValue0
  t3 := Tryd.underlying3
  a3 := Tryd.isAgg3
  z3 := Tryd.sizeOf3
  v3 := Tryd.zeroValue3
  t4 := Tryd.underlying4
  a4 := Tryd.isAgg4
  z4 := Tryd.sizeOf4
  v4 := Tryd.zeroValue4
  t9 := Tryd.underlying9
  a9 := Tryd.isAgg9
  z9 := Tryd.sizeOf9
  v9 := Tryd.zeroValue9
  t20 := Tryd.underlying20
  a20 := Tryd.isAgg20
  z20 := Tryd.sizeOf20
  v20 := Tryd.zeroValue20
  t22 := Tryd.underlying54
  a22 := Tryd.isAgg54
  z22 := Tryd.sizeOf54
  v22 := Tryd.zeroValue54 }
end Go.Proofs
/- slices.Concat of two rows of bytes. -/
namespace Go.Proofs.YtbehkajfckadfaaDoor.Cd
open Go.RowKit Go.Shelf

/-- Room made for n bytes behind nothing. -/
theorem grow_nil (n : Nat) (w : World) (hn : n ≤ 140737488355328) :
    Calls Tryd.prog 80 #[.slice none 0 0, .int .i64 n] w fun e w' => ∃ v, e = .returned v ∧ Ow w w' v [] := by
  rcases Nat.eq_zero_or_pos n with h0 | hp
  · subst h0
    have hcon := Any8.slices_Grow_room Tryd.lGrow none 0 0 0 w (Nat.le_refl _) (by omega) (by omega) (by omega)
    change Calls Tryd.prog 80 _ _ _ at hcon
    refine hcon.mono ?_
    rintro e w' ⟨rfl, rfl⟩
    exact ⟨_, rfl, Ow.nil _⟩
  · obtain ⟨i0, hi0, hz0, hz1, hz2⟩ := info_parts Tryd.infoB
    have hcon := Any8.slices_Grow_grow Tryd.lGrow i0 (.int .u8 0) hi0 hz0 (by omega) none 0 0 n [] w (Nat.le_refl _) (by omega) (by rw [hz2]; omega) (by omega) (by simp) (fun _ => rfl) (fun a h => by cases h)
    change Calls Tryd.prog 80 _ _ _ at hcon
    refine hcon.mono ?_
    rintro e w' ⟨rfl, rfl⟩
    refine ⟨_, rfl, ⟨⟨by simp, .inr ⟨w.heap.size, _, _, rfl, Nat.le_refl _, heap_alloc_new w.drew _, Nat.zero_le _, ?_, ?_, by simp⟩⟩, ((Below.refl _ w).drew).alloc (Nat.le_refl _) _, fun x h => by cases h⟩⟩
    · exact grownCap_le_maxLen _ _ _ _ (by unfold maxLen; omega)
    · have := grownCap_ge w n 0 (Tryd.lGrow_ren.t 25)
      simp [size_zeroCells, Value.cells]
      omega

theorem bd_of {w : World} {ad : Option Addr} {l : List Int} (h : SlAt w ad l.length (fn l)) : ∀ y, y ∈ l → 0 ≤ y ∧ y ≤ 255 := by
  intro y hy
  obtain ⟨j, hj, rfl⟩ := List.mem_iff_getElem.1 hy
  have := h.1 j hj
  rwa [fn_get l j hj] at this
/-- Two slices of bytes, as they lie in a row of two. -/
structure TwoAt (w : World) (q : Nat) (v1 v2 : Value) : Prop where
  c0 : w.cell? ⟨q, 0, none⟩ = some v1
  c1 : w.cell? ⟨q, 1, none⟩ = some v2

set_option maxRecDepth 100000 in
set_option maxHeartbeats 3200000 in
theorem concat_two (q : Nat) (ad1 : Option Addr) (l1 : List Int) (c1 : Nat) (ad2 : Option Addr) (l2 : List Int) (c2 : Nat) (w : World) (hT : TwoAt w q (.slice ad1 l1.length c1) (.slice ad2 l2.length c2)) (hs1 : SlAt w ad1 l1.length (fn l1)) (hn1 : ad1 = none → l1.length = 0 ∧ c1 = 0) (hs2 : SlAt w ad2 l2.length (fn l2)) (hn2 : ad2 = none → l2.length = 0 ∧ c2 = 0) (hl : l1.length + l2.length ≤ 140737488355328) :
    Calls Tryd.prog 76 #[.slice (some ⟨q, 0, none⟩) 2 2] w fun e w' => ∃ v, e = .returned v ∧ Ow w w' v (l1 ++ l2) := by
  obtain ⟨h0, h1⟩ := hT
  have HS : Hid ((SlAt w ad1 l1.length (fn l1) ∧ (ad1 = none → l1.length = 0 ∧ c1 = 0)) ∧ (SlAt w ad2 l2.length (fn l2) ∧ (ad2 = none → l2.length = 0 ∧ c2 = 0))) := ⟨⟨hs1, hn1⟩, hs2, hn2⟩
  clear hs1 hn1 hs2 hn2
  have hb0 := Below.refl w.heap.size w
  have hq := World.block_lt_of_cell? w ⟨q, 0, none⟩ h0
  have e1 : wrap64 ((l1.length : Int) + l2.length) = ((l1.length + l2.length : Nat) : Int) := by unfold wrap64; omega
  have e2 : ¬ (l1.length : Int) < 0 := by omega
  go_enter Tryd.func76, Tryd.ntmps76
  go_wp2
  refine wp_loop_rounds 3 ?_
  rw [rounds_succ]
  go_wp2
  rw [rounds_succ]
  go_wp2
  rw [rounds_succ]
  go_wp2_with fail
  have hgr := grow_nil (l1.length + l2.length) w hl
  rw [Int.natCast_add] at hgr
  refine hgr.mono ?_
  rintro e w1 ⟨v, rfl, hO1⟩
  have d0 : w1.cell? ⟨q, 0, none⟩ = some (.slice ad1 l1.length c1) := by rw [hO1.below.cell (p := ⟨q, 0, none⟩) hq]; exact h0
  have HO1 : Hid (Ow w w1 v [] ∧ BSrc w1 (.slice ad1 l1.length c1) l1) := ⟨hO1, SlAt.src (HS.out.1.1.below hO1.below) HS.out.1.2⟩
  have HD : Hid (∀ w' v' L, Ow w w' v' L → w'.cell? ⟨q, 1, none⟩ = some (.slice ad2 l2.length c2) ∧ BSrc w' (.slice ad2 l2.length c2) l2) := fun w' v' L h => ⟨by rw [h.below.cell (p := ⟨q, 1, none⟩) hq]; exact h1, SlAt.src (HS.out.2.1.below h.below) HS.out.2.2⟩
  have HY : Hid ((∀ y, y ∈ l1 → 0 ≤ y ∧ y ≤ 255) ∧ (∀ y, y ∈ l2 → 0 ≤ y ∧ y ≤ 255)) := ⟨bd_of HS.out.1.1, bd_of HS.out.2.1⟩
  clear hgr hO1 h0 h1 hb0
  go_wp2
  refine wp_loop_rounds 3 ?_
  rw [rounds_succ]
  go_wp2_with (at_builtin; refine wpList_append_B rfl _ _ rfl w _ _ [] l1 rfl rfl HO1.out.1 HO1.out.2 HY.out.1 (by simp; omega) ?_; intro v2 w2 hO2; obtain ⟨d1, hs2⟩ := HD.out w2 v2 _ hO2; have HO2 : Hid (Ow w w2 v2 l1 ∧ BSrc w2 (.slice ad2 l2.length c2) l2) := ⟨by simpa using hO2, hs2⟩; clear hO2 hs2)
  rw [rounds_succ]
  go_wp2_with (at_builtin; refine wpList_append_B rfl _ _ rfl w _ _ l1 l2 rfl rfl HO2.out.1 HO2.out.2 HY.out.2 (by omega) ?_; intro v3 w3 hO3)
  rw [rounds_succ]
  go_wp2
  go_ret
  exact ⟨_, rfl, hO3⟩
end Go.Proofs.YtbehkajfckadfaaDoor.Cd
/- The library's contracts laid at this program: which of its functions and types they speak of. -/
namespace Go.Proofs
open Go.Shelf
def Tryd.lClone_ren : Go.Shelf.Ren := ⟨fun | 15 => 14 | n => n, fun | 22 => 22 | 3 => 3 | 4 => 4 | n => n, fun | n => n⟩
theorem Tryd.lClone : Go.Proofs.Lays2.n15 Tryd.prog Tryd.lClone_ren := {
  mixed := by kernel_rfl
  f15 := Tryd.func14.trans (congrArg some (by kernel_rfl))
  t3 := Tryd.underlying3
  a3 := Tryd.isAgg3
  z3 := Tryd.sizeOf3
  v3 := Tryd.zeroValue3
  t4 := Tryd.underlying4
  a4 := Tryd.isAgg4
  z4 := Tryd.sizeOf4
  v4 := Tryd.zeroValue4
  t22 := Tryd.underlying22
  a22 := Tryd.isAgg22
  z22 := Tryd.sizeOf22
  v22 := Tryd.zeroValue22
  i3 := by kernel_rfl }
def Tryd.lCompact_ren : Go.Shelf.Ren := ⟨fun | 20 => 16 | n => n, fun | 22 => 22 | 3 => 3 | 4 => 4 | 0 => 0 | n => n, fun | n => n⟩
theorem Tryd.lCompact : Go.Proofs.Lays2.n20 Tryd.prog Tryd.lCompact_ren := {
  mixed := by kernel_rfl
  f20 := Tryd.func16.trans (congrArg some (by kernel_rfl))
  t0 := Tryd.underlying0
  a0 := Tryd.isAgg0
  z0 := Tryd.sizeOf0
  v0 := Tryd.zeroValue0
  t3 := Tryd.underlying3
  a3 := Tryd.isAgg3
  z3 := Tryd.sizeOf3
  v3 := Tryd.zeroValue3
  t4 := Tryd.underlying4
  a4 := Tryd.isAgg4
  z4 := Tryd.sizeOf4
  v4 := Tryd.zeroValue4
  t22 := Tryd.underlying22
  a22 := Tryd.isAgg22
  z22 := Tryd.sizeOf22
  v22 := Tryd.zeroValue22
  i3 := by kernel_rfl }
def Tryd.lSort_ren : Go.Shelf.Ren := ⟨fun | 189 => 15 | 125 => 30 | 257 => 29 | 128 => 52 | 129 => 53 | 294 => 43 | 295 => 44 | 296 => 45 | 297 => 46 | 298 => 47 | 299 => 48 | 216 => 49 | 300 => 50 | 301 => 51 | 328 => 63 | 329 => 64 | 330 => 65 | 331 => 66 | 332 => 67 | 215 => 68 | 343 => 77 | n => n, fun | 28 => 22 | 3 => 3 | 46 => 91 | 0 => 0 | 51 => 128 | 53 => 130 | 4 => 4 | 183 => 120 | 182 => 119 | 131 => 125 | 5 => 5 | 9 => 9 | 218 => 143 | 222 => 147 | 228 => 159 | 229 => 46 | n => n, fun | n => n⟩
theorem Tryd.lSort : Go.Proofs.Lays.n189 Tryd.prog Tryd.lSort_ren := {
  mixed := by kernel_rfl
  f125 := Tryd.func30.trans (congrArg some (by kernel_rfl))
  f128 := Tryd.func52.trans (congrArg some (by kernel_rfl))
  f129 := Tryd.func53.trans (congrArg some (by kernel_rfl))
  f189 := Tryd.func15.trans (congrArg some (by kernel_rfl))
  f215 := Tryd.func68.trans (congrArg some (by kernel_rfl))
  f216 := Tryd.func49.trans (congrArg some (by kernel_rfl))
  f257 := Tryd.func29.trans (congrArg some (by kernel_rfl))
  f294 := Tryd.func43.trans (congrArg some (by kernel_rfl))
  f295 := Tryd.func44.trans (congrArg some (by kernel_rfl))
  f296 := Tryd.func45.trans (congrArg some (by kernel_rfl))
  f297 := Tryd.func46.trans (congrArg some (by kernel_rfl))
  f298 := Tryd.func47.trans (congrArg some (by kernel_rfl))
  f299 := Tryd.func48.trans (congrArg some (by kernel_rfl))
  f300 := Tryd.func50.trans (congrArg some (by kernel_rfl))
  f301 := Tryd.func51.trans (congrArg some (by kernel_rfl))
  f328 := Tryd.func63.trans (congrArg some (by kernel_rfl))
  f329 := Tryd.func64.trans (congrArg some (by kernel_rfl))
  f330 := Tryd.func65.trans (congrArg some (by kernel_rfl))
  f331 := Tryd.func66.trans (congrArg some (by kernel_rfl))
  f332 := Tryd.func67.trans (congrArg some (by kernel_rfl))
  f343 := Tryd.func77.trans (congrArg some (by kernel_rfl))
  t0 := Tryd.underlying0
  a0 := Tryd.isAgg0
  z0 := Tryd.sizeOf0
  v0 := Tryd.zeroValue0
  t3 := Tryd.underlying3
  a3 := Tryd.isAgg3
  z3 := Tryd.sizeOf3
  v3 := Tryd.zeroValue3
  t4 := Tryd.underlying4
  a4 := Tryd.isAgg4
  z4 := Tryd.sizeOf4
  v4 := Tryd.zeroValue4
  t5 := Tryd.underlying5
  a5 := Tryd.isAgg5
  z5 := Tryd.sizeOf5
  v5 := Tryd.zeroValue5
  t9 := Tryd.underlying9
  a9 := Tryd.isAgg9
  z9 := Tryd.sizeOf9
  v9 := Tryd.zeroValue9
  t28 := Tryd.underlying22
  a28 := Tryd.isAgg22
  z28 := Tryd.sizeOf22
  v28 := Tryd.zeroValue22
  t46 := Tryd.underlying91
  a46 := Tryd.isAgg91
  z46 := Tryd.sizeOf91
  v46 := Tryd.zeroValue91
  t51 := Tryd.underlying128
  a51 := Tryd.isAgg128
  z51 := Tryd.sizeOf128
  v51 := Tryd.zeroValue128
  t53 := Tryd.underlying130
  a53 := Tryd.isAgg130
  z53 := Tryd.sizeOf130
  v53 := Tryd.zeroValue130
  t131 := Tryd.underlying125
  a131 := Tryd.isAgg125
  z131 := Tryd.sizeOf125
  v131 := Tryd.zeroValue125
  t182 := Tryd.underlying119
  a182 := Tryd.isAgg119
  z182 := Tryd.sizeOf119
  v182 := Tryd.zeroValue119
  t183 := Tryd.underlying120
  a183 := Tryd.isAgg120
  z183 := Tryd.sizeOf120
  v183 := Tryd.zeroValue120
  t218 := Tryd.underlying143
  a218 := Tryd.isAgg143
  z218 := Tryd.sizeOf143
  v218 := Tryd.zeroValue143
  t222 := Tryd.underlying147
  a222 := Tryd.isAgg147
  z222 := Tryd.sizeOf147
  v222 := Tryd.zeroValue147
  t228 := Tryd.underlying159
  a228 := Tryd.isAgg159
  z228 := Tryd.sizeOf159
  v228 := Tryd.zeroValue159
  t229 := Tryd.underlying46
  a229 := Tryd.isAgg46
  z229 := Tryd.sizeOf46
  v229 := Tryd.zeroValue46 }
end Go.Proofs
/- Ints cloned, sorted, and made single: the library's three. -/
namespace Go.Proofs.YtbehkajfckadfaaDoor.Cd
open Go.RowKit Go.Shelf Go.Sort

/-- The first n ints as a list. -/
def keysL (z : Nat → Int) (n : Nat) : List Int := (List.range n).map z
theorem keysL_length (z : Nat → Int) (n : Nat) : (keysL z n).length = n := by simp [keysL]
theorem keysL_getD (z : Nat → Int) (n j : Nat) (h : j < n) : (keysL z n).getD j 0 = z j := by simp [keysL, h]
def srt (l : List Int) : List Int := l.mergeSort fun x y => decide (x ≤ y)
theorem srt_length (l : List Int) : (srt l).length = l.length := by simp [srt]

theorem clone_pos (b off n cap : Nat) (z : Nat → Int) (w : World) (h : ∀ j, j < n → w.cell? ⟨b, off + j, none⟩ = some (.int .i64 (z j))) (hn : n ≤ 1000000) :
    Calls Tryd.prog 14 #[.slice (some ⟨b, off, none⟩) n cap] w fun e w' => ∃ g cap', e = .returned (.slice (some ⟨g, 0, none⟩) n cap') ∧ n ≤ cap' ∧ Holds (Value.int .i64) w' g 0 (keysL z n).toArray ∧ w.heap.size ≤ g ∧ g < w'.heap.size ∧ Below w.heap.size w w' := by
  have hcon := Any.slices_Clone_int Tryd.lClone b off n cap (keysL z n) w (by simp [keysL]) (by omega) (fun j hj => by
    rw [keysL_length] at hj
    rw [h j hj, keysL_getD z n j hj])
  change Calls Tryd.prog 14 _ _ _ at hcon
  refine hcon.mono ?_
  rintro e w' ⟨v', rfl, hown, hne, hb⟩
  have ht : (keysL z n).take n = keysL z n := List.take_of_length_le (by simp [keysL])
  rw [ht] at hown
  rcases hown.2 with ⟨e, _⟩ | ⟨g, cap', cur, rfl, hg, hgc, hcap, _, hcs, htk⟩
  · exact absurd e hne
  · refine ⟨g, cap', rfl, hcap, fun j hj => ?_, hg, lt_of_block hgc, hb⟩
    have hj' : j < (keysL z n).length := by simpa using hj
    have hc := hown.cells (g := g) rfl j (.int .i64 (keysL z n)[j]) (by simp [hj'])
    rw [Addr.add_lit] at hc
    refine ⟨?_, ?_⟩
    · rw [hc]; simp [hj']
    · rw [Nat.zero_add]; exact frozen_of_row w' g j _ _ hgc

theorem putRow_below {w : World} {g off n : Nat} {d : Array Int} {os : Array Obj} {B : Nat} (hB : B ≤ g) (hg : g < w.heap.size) : Below B w (grow (putRow (Value.int .i64) (Sort.ahead w n) g off d) os) := by
  refine ⟨rfl, rfl, rfl, by simp, fun k hk => ?_⟩
  rw [heap_grow_old _ _ (by simp; omega)]
  simp only [putRow, mapBlock, heap_ahead]
  rw [Array.getElem?_modify, if_neg (by omega)]

theorem sort_pos (g cap : Nat) (L : List Int) (w : World) (hH : Holds (Value.int .i64) w g 0 L.toArray) (hg : g < w.heap.size) (hn : L.length ≤ 1000000) (B : Nat) (hB : B ≤ g) :
    Calls Tryd.prog 15 #[.slice (some ⟨g, 0, none⟩) L.length cap] w fun e w' => e = .returned (.tuple #[]) ∧ Holds (Value.int .i64) w' g 0 (srt L).toArray ∧ g < w'.heap.size ∧ Below B w w' := by
  have hcon := Any.slices_Sort_int Tryd.lSort g 0 cap L w hH hg (by omega)
  change Calls Tryd.prog 15 _ _ _ at hcon
  refine hcon.mono ?_
  rintro e w' ⟨rfl, n, os, rfl⟩
  refine ⟨rfl, holds_grow _ _ _ _ _ _ (by simpa using hg) (holds_putRow _ _ _ _ _ _ (holds_ahead _ _ _ _ _ _ hH) (by simp)), by simp; omega, putRow_below hB hg⟩

theorem compact_pos (g cap : Nat) (L : List Int) (w : World) (hH : Holds (Value.int .i64) w g 0 L.toArray) (hg : g < w.heap.size) (hn : L.length ≤ 1000000) (hc : L.length ≤ cap) (B : Nat) (hB : B ≤ g) :
    Calls Tryd.prog 16 #[.slice (some ⟨g, 0, none⟩) L.length cap] w fun e w' => e = .returned (.slice (some ⟨g, 0, none⟩) (Lib.compact L).length cap) ∧ IsAt w' (some ⟨g, 0, none⟩) (Lib.compact L).length (fun j => (Lib.compact L).getD j 0) ∧ g < w'.heap.size ∧ Below B w w' := by
  have hcon := Any.slices_Compact_int Tryd.lCompact g 0 cap L w hH (by omega) hc
  change Calls Tryd.prog 16 _ _ _ at hcon
  refine hcon.mono ?_
  rintro e w' ⟨rfl, q, rfl⟩
  have hcl : (Lib.compact L).length ≤ L.length := by
    have := List.length_filter_le (Lib.keeps L.toArray) (List.range L.length)
    simpa [Lib.compact, Lib.compactUpTo] using this
  have hH2 := holds_putRow (Value.int .i64) (Sort.ahead w q) g 0 L.toArray (Lib.compact L ++ List.replicate (L.length - (Lib.compact L).length) 0).toArray (holds_ahead _ _ _ _ _ _ hH) (by simp; omega)
  refine ⟨rfl, fun hn => ⟨g, 0, rfl, fun j hj => ?_⟩, by simpa using hg, ?_⟩
  · rw [(hH2 j (by simp; omega)).1]
    simp only [List.getElem!_toArray, List.getElem!_eq_getElem?_getD, List.getD_eq_getElem?_getD]
    rw [List.getElem?_append_left hj]
    rfl
  · have := putRow_below (n := q) (off := 0) (d := (Lib.compact L ++ List.replicate (L.length - (Lib.compact L).length) 0).toArray) (os := #[]) hB hg
    simpa using this
end Go.Proofs.YtbehkajfckadfaaDoor.Cd
/- cond.All of some ints, at least one. -/
namespace Go.Proofs.YtbehkajfckadfaaDoor.Cd
open Go.RowKit Go.Shelf Go.Sort

/-- The branch that just asks for these keys. -/
def kb (L : List Int) : Bv := ⟨L.length, fun j => L.getD j 0, nz, 0, 0⟩
theorem build_b (L : List Int) (ka : Option Addr) (kc : Nat) (w : World) : (Instr.build 68 #[(0, .slice ka L.length kc)]).run Tryd.prog w = .ok (.agg (bv (kb L) ka kc)) w := by kernel_rfl
section
variable {ops : Array Oper} {rest : List Oper} {o : Oper} {a : Act} {w : World} {Q : Exit → Act → World → Prop}
theorem wpList_buildB (hgd : o.guard = none) (x : Operand) (ho : o.op = .build 68 #[(0, x)]) (L : List Int) (ka : Option Addr) (kc : Nat) (hx : a.eval x = .slice ka L.length kc)
    (h : wpList Tryd.prog ops Q rest (a.put o.dst (.agg (bv (kb L) ka kc))) w) : wpList Tryd.prog ops Q (o :: rest) a w := by
  refine wpList_plain hgd fun K hK => ?_
  unfold Oper.wp execOp
  simp only [ho, List.map_toArray, List.map_cons, List.map_nil, hx, Sem.run_bind, build_b, Result.andThen]
  exact hK _ _ h
end
theorem compact_mem {L : List Int} {x : Int} (h : x ∈ Lib.compact L) : x ∈ L := by
  simp only [Lib.compact, Lib.compactUpTo, List.mem_map, List.mem_filter, List.mem_range] at h
  obtain ⟨j, ⟨h1, _⟩, rfl⟩ := h
  simp [h1]
theorem kb_ok {L : List Int} (h : ∀ x ∈ L, Ib x) : (kb L).Ok := by
  refine ⟨fun j hj => ?_, fun j _ => by simp [kb, nz], by simp [kb, Ib], by simp [kb, Ib]⟩
  have hj' : j < L.length := hj
  simp only [kb, List.getD_eq_getElem?_getD, List.getElem?_eq_getElem hj', Option.getD_some]
  exact h _ (List.getElem_mem hj')
theorem nrm_ib {z : Nat → Int} {n : Nat} (h : ∀ j, j < n → Ib (z j)) : ∀ x ∈ Lib.compact (srt (keysL z n)), Ib x := by
  intro x hx
  have := compact_mem hx
  simp only [srt, List.mem_mergeSort, keysL, List.mem_map, List.mem_range] at this
  obtain ⟨j, hj, rfl⟩ := this
  exact h j hj

set_option maxRecDepth 100000 in
set_option maxHeartbeats 1600000 in
theorem all_posI (b off n cap : Nat) (z : Nat → Int) (w : World) (h : ∀ j, j < n → w.cell? ⟨b, off + j, none⟩ = some (.int .i64 (z j))) (hz : ∀ j, j < n → Ib (z j)) (hn : n ≤ 1000000) :
    Calls Tryd.prog 8 #[.slice (some ⟨b, off, none⟩) n cap] w fun e w' => ∃ g, e = .returned (.agg #[.slice (some ⟨g, 0, none⟩) 1 1]) ∧ BrIn w' w.heap.size (some ⟨g, 0, none⟩) 1 (fun _ => kb (Lib.compact (srt (keysL z n)))) ∧ Below w.heap.size w w' := by
  obtain ⟨K, hK⟩ : ∃ K, K = Lib.compact (srt (keysL z n)) := ⟨_, rfl⟩
  rw [← hK]
  have HOK : (kb K).Ok := by rw [hK]; exact kb_ok (nrm_ib hz)
  have hb0 : Below w.heap.size w (w.alloc (.cells #[.slice none 0 0] 34)) := (Below.refl _ w).alloc (Nat.le_refl _) _
  have hr0 : (w.alloc (.cells #[.slice none 0 0] 34)).heap[w.heap.size]? = some (.cells #[.slice none 0 0] 34 (0, 0)) := heap_alloc_new w _
  have hc := clone_pos b off n cap z (w.alloc (.cells #[.slice none 0 0] 34)) (fun j hj => by
    have := h j hj
    rw [hb0.cell (p := ⟨b, off + j, none⟩) (World.block_lt_of_cell? w ⟨b, off + j, none⟩ this)]; exact this) hn
  have hs0 : w.heap.size < (w.alloc (.cells #[.slice none 0 0] 34)).heap.size := by simp
  clear h
  go_enter Tryd.func8, Tryd.ntmps8
  go_wp2_with fail
  generalize w.alloc (.cells #[.slice none 0 0] 34) = W0 at *
  refine hc.mono ?_
  rintro e w1 ⟨g, cap1, rfl, hcap, hH1, hg0, hg1, hb1⟩
  clear hc
  have hl : (keysL z n).length = n := keysL_length z n
  have hl2 : (srt (keysL z n)).length = n := by rw [srt_length, hl]
  have hsort := sort_pos g cap1 (keysL z n) w1 hH1 hg1 (by omega) W0.heap.size hg0
  rw [hl] at hsort
  clear hH1
  go_wp2_with fail
  refine hsort.mono ?_
  rintro e w2 ⟨rfl, hH2, hg2, hb2⟩
  clear hsort
  have hcom := compact_pos g cap1 (srt (keysL z n)) w2 hH2 hg2 (by omega) (by omega) W0.heap.size hg0
  rw [hl2, ← hK] at hcom
  clear hH2
  go_wp2_with fail
  refine hcom.mono ?_
  rintro e w3 ⟨rfl, hI3, hg3, hb3⟩
  have hbw : Below W0.heap.size W0 w3 := (hb1.trans hb2).trans hb3
  have hr3 : w3.heap[w.heap.size]? = some (.cells #[.slice none 0 0] 34 (0, 0)) := by rw [hbw.block _ hs0]; exact hr0
  clear hcom hb1 hb2 hb3 hr0 hK hz
  have hlt := hbw.size
  have hn4 := heap_alloc_new w3 (.cells (bv (kb K) (some ⟨g, 0, none⟩) cap1) 68)
  have hb4 : Below w3.heap.size w3 (w3.alloc (.cells (bv (kb K) (some ⟨g, 0, none⟩) cap1) 68)) := (Below.refl _ _).alloc (Nat.le_refl _) _
  have hr4 : (w3.alloc (.cells (bv (kb K) (some ⟨g, 0, none⟩) cap1) 68)).heap[w.heap.size]? = some (.cells #[.slice none 0 0] 34 (0, 0)) := by rw [hb4.block _ (by omega)]; exact hr3
  have c4 : (w3.alloc (.cells (bv (kb K) (some ⟨g, 0, none⟩) cap1) 68)).cell? ⟨w.heap.size, 0, none⟩ = some (.slice none 0 0) := by rw [cell_of_row _ _ 0 _ _ _ hr4]; rfl
  have f4 : (w3.alloc (.cells (bv (kb K) (some ⟨g, 0, none⟩) cap1) 68)).frozen? ⟨w.heap.size, 0, none⟩ = false := frozen_of_row _ _ 0 _ _ hr4
  have HE : Hid (((w3.alloc (.cells (bv (kb K) (some ⟨g, 0, none⟩) cap1) 68)).setCell ⟨w.heap.size, 0, none⟩ (.slice (some ⟨w3.heap.size, 0, none⟩) 1 1)).heap[w.heap.size]? = some (.cells #[.slice (some ⟨w3.heap.size, 0, none⟩) 1 1] 34 (0, 0))
      ∧ BrIn ((w3.alloc (.cells (bv (kb K) (some ⟨g, 0, none⟩) cap1) 68)).setCell ⟨w.heap.size, 0, none⟩ (.slice (some ⟨w3.heap.size, 0, none⟩) 1 1)) w.heap.size (some ⟨w3.heap.size, 0, none⟩) 1 (fun _ => kb K)
      ∧ Below w.heap.size w ((w3.alloc (.cells (bv (kb K) (some ⟨g, 0, none⟩) cap1) 68)).setCell ⟨w.heap.size, 0, none⟩ (.slice (some ⟨w3.heap.size, 0, none⟩) 1 1))) := by
    refine ⟨heap_setCell_same _ _ 0 _ _ _ hr4, fun w' hw => ⟨fun _ _ => HOK, fun _ => ⟨w3.heap.size, 0, rfl, fun i hi => ⟨some ⟨g, 0, none⟩, cap1, fun j u hu => ?_, ?_⟩⟩⟩, ?_⟩
    · obtain rfl : i = 0 := by omega
      rw [World.cell?_of_block (a := ⟨w3.heap.size, 0 + 0 * 35 + j, none⟩) (hw w3.heap.size (by omega) (by simp [World.setCell])), World.cell?_of_block (a := ⟨w3.heap.size, 0 + 0 * 35 + j, none⟩) (Below.heap_setCell _ _ _ _ (by show w3.heap.size ≠ w.heap.size; omega)), cell_of_row _ _ _ _ _ _ hn4]
      simpa [bv] using hu
    · have h1 := isAt_set (g := w.heap.size) (o := 0) (u := .slice (some ⟨w3.heap.size, 0, none⟩) 1 1) (hI3.below hb4) (fun a e => by cases e; show g ≠ w.heap.size; omega)
      intro hp
      obtain ⟨b', off', e, hc⟩ := h1 hp
      cases e
      refine ⟨g, 0, rfl, fun j hj => ?_⟩
      rw [World.cell?_of_block (a := ⟨g, 0 + j, none⟩) (hw g (by omega) (by simp [World.setCell]; omega))]
      exact hc j hj
    · exact ((hb0.trans (hbw.mono (by omega))).trans (hb4.mono (by omega))).setCell (Nat.le_refl _) _
  clear hn4 hr4 hr3 hI3 hb4 hbw hb0
  go_wp2_with (first | (refine wpList_buildB rfl _ rfl K (some ⟨g, 0, none⟩) cap1 rfl ?_) | (refine wpList_sliceB rfl _ rfl (kb K) (some ⟨g, 0, none⟩) cap1 rfl ?_) | fail)
  exact bodyPost_ret (results_cell_row Tryd.results8 _ _ w.heap.size 34 #[.slice (some ⟨w3.heap.size, 0, none⟩) 1 1] (0, 0) _ rfl HE.out.1 Tryd.underlying34 rfl szC) rfl ⟨_, rfl, HE.out.2⟩
theorem all_pos (b off n cap : Nat) (z : Nat → Int) (w : World) (h : ∀ j, j < n → w.cell? ⟨b, off + j, none⟩ = some (.int .i64 (z j))) (hz : ∀ j, j < n → Ib (z j)) (hn : n ≤ 1000000) :
    Calls Tryd.prog 8 #[.slice (some ⟨b, off, none⟩) n cap] w fun e w' => ∃ g, e = .returned (.agg #[.slice (some ⟨g, 0, none⟩) 1 1]) ∧ BrAt w' (some ⟨g, 0, none⟩) 1 (fun _ => kb (Lib.compact (srt (keysL z n)))) ∧ Below w.heap.size w w' := by
  refine (all_posI b off n cap z w h hz hn).mono ?_
  rintro e w' ⟨g, rfl, h1, h2⟩
  exact ⟨g, rfl, h1.brAt, h2⟩
end Go.Proofs.YtbehkajfckadfaaDoor.Cd
/- Two laws that laying a condition wants. -/
namespace Go.Proofs.YtbehkajfckadfaaDoor.Cd
open Go.RowKit

theorem one_at (w : World) (x : Int) (z : Nat → Int) (h0 : z 0 = x) : ∀ j, j < 1 → (w.alloc (.cells #[.int .i64 x] 3)).cell? ⟨w.heap.size, 0 + j, none⟩ = some (.int .i64 (z j)) := by
  intro j hj
  rw [cell_of_row _ _ _ _ _ _ (heap_alloc_new w _)]
  match j, hj with
  | 0, _ => rw [h0]; rfl
theorem brl_lock (x : Bv) (ka : Option Addr) (kc : Nat) {w : World} {g : Nat} {t : TypeId} {fr : Nat × Nat} (h : w.heap[g]? = some (.cells (bv x ka kc) t fr)) : w.rangeAt g 1 (bl x.lk 32) := by
  intro j u hu
  have hj : j < 32 := (bl_get hu).1
  rw [cell_of_row w g (1 + j) _ _ _ h]
  simp only [bv, List.getElem?_toArray, brl, Nat.add_comm 1 j, List.getElem?_cons_succ]
  rw [List.getElem?_append_left (by simpa [bl_length] using hj)]
  exact hu
theorem szHl (z : Nat → Int) : (Tryd.prog.info? 51).map (·.size) = some (bl z 32).length := by rw [bl_length]; exact hsz
theorem pair_at (w : World) (x y : Int) (z : Nat → Int) (h0 : z 0 = x) (h1 : z 1 = y) : ∀ j, j < 2 → (w.alloc (.cells #[.int .i64 x, .int .i64 y] 3)).cell? ⟨w.heap.size, 0 + j, none⟩ = some (.int .i64 (z j)) := by
  intro j hj
  rw [cell_of_row _ _ _ _ _ _ (heap_alloc_new w _)]
  match j, hj with
  | 0, _ => rw [h0]; rfl
  | 1, _ => rw [h1]; rfl
end Go.Proofs.YtbehkajfckadfaaDoor.Cd
