/- Which places the root page tells: the walk. -/
import Derived.Test.YtmekplaonlpfkaaGreatDoorOwnShelfApart06
import Derived.Deep.CutBlock
import Derived.Deep.DeepCutAuto
import Derived.Test.YtmekplaonlpfkaaGreatDoorOwnShelfApart03
import Derived.Maps.RangeWalk
import Derived.Deep.MidRow
import Derived.Shelf.SlMaps.DeleteFunc
import Derived.Shelf.Abstract
import Derived.RangeFuncNested
import Derived.RangeFuncBound
import Derived.RangeFuncCalls
import Derived.RangeFuncLeaves
import Derived.Shelf.AbstractIn
import Derived.Shelf.RegionOpen
import Derived.Shelf.SlIter.AllValues
import Derived.WalkKit
import Derived.OwnWalkIn
import Derived.TacticsInMore
import Derived.LoopNIn
import Derived.LoopIn
import Derived.Maps.AppendAt
import Derived.Test.YtmekplaonlpfkaaGreatDoorProg
import Derived.Ground.SlmcProg
import Derived.Ground.NamesProg
import Derived.Ground.SlsfProg
import Derived.Shelf.SlGeneric
import Derived.Shelf.SlMaps.Clone
import Derived.Shelf.Small.Strs
import Derived.Shelf.Strconv.Clone
import Derived.Shelf.SlSortCmp.WholeK
namespace Go.Proofs.YtmekplaonlpfkaaGreatDoor
open Go.RowKit

attribute [local go_sem ↓] Go.wp_at_zero Go.wp_at_succ

/-- What readRoot tells. -/
def RrR (w : World) (r : Option (List Int)) (e : Ending) (w' : World) : Prop :=
  ((r = none ∧ e = .returned (.tuple #[.slice none 0 0, .iface 72 (.int .i64 14)])) ∨ ∃ ps ad cap, r = some ps ∧ e = .returned (.tuple #[.slice ad ps.length cap, .nilIface]) ∧ IsL w' ad ps) ∧ Below w.heap.size w w'
/-- Numbers read so far, noughts behind them. -/
def rowN (v : Nat → Int) (i k : Nat) : List Int := (List.range k).map fun j => if j < i then v j else 0
theorem rowN_set (v : Nat → Int) (i k : Nat) : (rowN v i k).set i (v i) = rowN v (i + 1) k := by
  unfold rowN
  apply List.ext_getElem
  · simp
  · intro j h1 h2
    rw [List.getElem_set]
    simp only [List.getElem_map, List.getElem_range]
    split
    · rename_i e; subst e; simp
    · rename_i e
      by_cases h : j < i
      · rw [if_pos h, if_pos (by omega)]
      · rw [if_neg h, if_neg (by omega)]
theorem rowN_all (v : Nat → Int) (k : Nat) : rowN v k k = (List.range k).map v := by
  unfold rowN
  apply List.map_congr_left
  intro j hj
  rw [if_pos (by simpa using hj)]
theorem make_row (k : Nat) (hk : k ≤ 1000000) (v : Nat → Int) (w : World) : (Instr.makeSlice 63 (.int .i64 (k : Int)) (.int .i64 (k : Int))).run Tryz.prog w = .ok (.slice (some ⟨w.heap.size, 0, none⟩) k k) (w.alloc (.cells ((rowN v 0 k).map (Value.int .i64)).toArray 3)) := by
  obtain ⟨i0, hi0, hz0, hz1, hz2⟩ := info_parts infoInt
  have h := run_make (P := Tryz.prog) w 63 3 i0 (.int .i64 0) Tryz.underlying63 hi0 hz0 .i64 .i64 (k : Int) (k : Int) (by omega) (Int.le_refl _) (by rw [hz2]; omega) (by omega)
  have e : madeCells (Value.int .i64 0).cells k = ((rowN v 0 k).map (Value.int .i64)).toArray := by
    apply Array.toList_inj.1
    simp only [madeCells, rowN]
    apply List.ext_getElem
    · simp
    · intro j h1 h2
      simp [Value.cells, Nat.mod_one]
  rw [h]
  simp only [Int.toNat_natCast, hz1, Nat.mul_one, e]
/-- While numbers are read. -/
structure RdI (w wr : World) (rb pb k i : Nat) (most : Int) (q : Option (List Int)) : Prop where
  rs : RS wr rb (stN most i q)
  row : wr.heap[pb]? = some (.cells ((rowN (fun j => vlN most j q) i k).map (Value.int .i64)).toArray 3 (0, 0))
  below : Below w.heap.size w wr
set_option maxRecDepth 100000 in
set_option maxHeartbeats 3200000 in
theorem readRoot_any (sh m p fr n N : Nat) (L : List Lf) (dead : Int) (G : Nat → Prop) (c : Ct) (w : World) (h : ShAt w sh m p fr n L dead) (hc : CtAt w G p c) (ho : c.Ok N) (hN : fr + n ≤ N) :
    Calls Tryz.prog 35 #[.pointer (some ⟨sh, 0, none⟩)] w (RrR w (rootR ((n - 1 : Nat) : Int) (c.last (fr : Int)))) := by
  have c0 := h.c0
  have c1 := h.c1
  have c2 := h.c2
  have lsh := h.lt
  have hn := h.count
  have hrd := read_ct G p c N (fr : Int) w.drew (hc.below (Below.refl _ _).drew) ho (by omega)
  have HS : Hid (∀ w' : World, Below w.drew.heap.size w.drew w' → w'.cell? ⟨sh, 0, none⟩ = some (.pointer (some ⟨p, 0, none⟩)) ∧ w'.cell? ⟨sh, 1, none⟩ = some (.int .i64 (fr : Int)) ∧ w'.cell? ⟨sh, 2, none⟩ = some (.int .i64 (n : Int))) := fun w' hb => by
    have h1 := hb.block sh lsh
    exact ⟨by rw [World.cell?_of_block (a := ⟨sh, 0, none⟩) h1]; exact c0, by rw [World.cell?_of_block (a := ⟨sh, 1, none⟩) h1]; exact c1, by rw [World.cell?_of_block (a := ⟨sh, 2, none⟩) h1]; exact c2⟩
  have hbl := hc.last_le (fr : Int)
  generalize c.last (fr : Int) = b at *
  clear h hc ho c0 c1 c2
  go_enter Tryz.func35, Tryz.ntmps35
  go_upto_region 1 with fail
  refine wp_region_noPanic ?_
  refine wp_region_held_drew (S := fun w' => w'.cell? ⟨sh, 0, none⟩ = some (.pointer (some ⟨p, 0, none⟩)) ∧ w'.cell? ⟨sh, 1, none⟩ = some (.int .i64 (fr : Int)) ∧ w'.cell? ⟨sh, 2, none⟩ = some (.int .i64 (n : Int))) (by kernel_rfl) (HS.out _ (Below.refl _ _)) (fun hHeld => ?_)
  refine wpAnyH_take (i := 0) (oi := { dst := some 11, op := Go.Op.move (Go.Operand.tmp 0), type := 31, pos := "shelf.go:122", after := #[], guard := none }) (v := ?_) rfl (by kernel_rfl) (by kernel_rfl) (by kernel_rfl) (fun _ _ _ h => h) (Or.inl ⟨by rfl, ?_⟩) (by assumption) ?_
  rotate_left
  · intro wz hSw; (try dsimp only at hSw); go_simp; (try with_reducible rfl)
  try simp only [Act.put, List.setIfInBounds_toArray, List.set_cons_zero, List.set_cons_succ]
  refine wpAnyH_take (i := 1) (oi := { dst := some 12, op := Go.Op.nilCheck (Go.Operand.tmp 11), type := 0, pos := "shelf.go:122", after := #[{ on := 0, ground := Go.Ground.data }], guard := none }) (v := ?_) rfl (by kernel_rfl) (by kernel_rfl) (by kernel_rfl) (fun _ _ _ h => h) (Or.inl ⟨by rfl, ?_⟩) (by assumption) ?_
  rotate_left
  · intro wz hSw; (try dsimp only at hSw); go_simp; (try with_reducible rfl)
  try simp only [Act.put, List.setIfInBounds_toArray, List.set_cons_zero, List.set_cons_succ]
  refine wpAnyH_take (i := 2) (oi := { dst := some 13, op := Go.Op.fieldAddr 83 (Go.Operand.tmp 12) 0, type := 0, pos := "shelf.go:122", after := #[{ on := 1, ground := Go.Ground.data }], guard := none }) (v := ?_) rfl (by kernel_rfl) (by kernel_rfl) (by kernel_rfl) (fun _ _ _ h => h) (Or.inl ⟨by rfl, ?_⟩) (by assumption) ?_
  rotate_left
  · intro wz hSw; (try dsimp only at hSw); go_simp; (try with_reducible rfl)
  try simp only [Act.put, List.setIfInBounds_toArray, List.set_cons_zero, List.set_cons_succ]
  refine wpAnyH_take (i := 3) (oi := { dst := some 14, op := Go.Op.load 24 (Go.Operand.tmp 13), type := 24, pos := "shelf.go:122", after := #[{ on := 2, ground := Go.Ground.data }], guard := none }) (v := .pointer (some ⟨p, 0, none⟩)) rfl (by kernel_rfl) (by kernel_rfl) (by kernel_rfl) (fun _ _ _ h => h) (Or.inl ⟨by rfl, ?_⟩) (by assumption) ?_
  · intro wz hSw; (try dsimp only at hSw); have h1 := hSw.1; go_simp; try rfl
  try simp only [Act.put, List.setIfInBounds_toArray, List.set_cons_zero, List.set_cons_succ]
  refine wpAnyH_take (i := 4) (oi := { dst := some 15, op := Go.Op.move (Go.Operand.tmp 0), type := 31, pos := "shelf.go:122", after := #[], guard := none }) (v := ?_) rfl (by kernel_rfl) (by kernel_rfl) (by kernel_rfl) (fun _ _ _ h => h) (Or.inl ⟨by rfl, ?_⟩) (by assumption) ?_
  rotate_left
  · intro wz hSw; (try dsimp only at hSw); go_simp; (try with_reducible rfl)
  try simp only [Act.put, List.setIfInBounds_toArray, List.set_cons_zero, List.set_cons_succ]
  refine wpAnyH_take (i := 5) (oi := { dst := some 16, op := Go.Op.nilCheck (Go.Operand.tmp 15), type := 0, pos := "shelf.go:122", after := #[{ on := 4, ground := Go.Ground.data }], guard := none }) (v := ?_) rfl (by kernel_rfl) (by kernel_rfl) (by kernel_rfl) (fun _ _ _ h => h) (Or.inl ⟨by rfl, ?_⟩) (by assumption) ?_
  rotate_left
  · intro wz hSw; (try dsimp only at hSw); go_simp; (try with_reducible rfl)
  try simp only [Act.put, List.setIfInBounds_toArray, List.set_cons_zero, List.set_cons_succ]
  refine wpAnyH_take (i := 6) (oi := { dst := some 17, op := Go.Op.fieldAddr 83 (Go.Operand.tmp 16) 1, type := 0, pos := "shelf.go:122", after := #[{ on := 5, ground := Go.Ground.data }], guard := none }) (v := ?_) rfl (by kernel_rfl) (by kernel_rfl) (by kernel_rfl) (fun _ _ _ h => h) (Or.inl ⟨by rfl, ?_⟩) (by assumption) ?_
  rotate_left
  · intro wz hSw; (try dsimp only at hSw); go_simp; (try with_reducible rfl)
  try simp only [Act.put, List.setIfInBounds_toArray, List.set_cons_zero, List.set_cons_succ]
  refine wpAnyH_take (i := 7) (oi := { dst := some 18, op := Go.Op.fieldAddr 35 (Go.Operand.tmp 17) 0, type := 0, pos := "shelf.go:122", after := #[{ on := 6, ground := Go.Ground.data }], guard := none }) (v := ?_) rfl (by kernel_rfl) (by kernel_rfl) (by kernel_rfl) (fun _ _ _ h => h) (Or.inl ⟨by rfl, ?_⟩) (by assumption) ?_
  rotate_left
  · intro wz hSw; (try dsimp only at hSw); go_simp; (try with_reducible rfl)
  try simp only [Act.put, List.setIfInBounds_toArray, List.set_cons_zero, List.set_cons_succ]
  refine wpAnyH_take (i := 8) (oi := { dst := some 19, op := Go.Op.load 3 (Go.Operand.tmp 18), type := 3, pos := "shelf.go:122", after := #[{ on := 7, ground := Go.Ground.data }], guard := none }) (v := .int .i64 (fr : Int)) rfl (by kernel_rfl) (by kernel_rfl) (by kernel_rfl) (fun _ _ _ h => h) (Or.inl ⟨by rfl, ?_⟩) (by assumption) ?_
  · intro wz hSw; (try dsimp only at hSw); have h1 := hSw.2.1; go_simp; try rfl
  try simp only [Act.put, List.setIfInBounds_toArray, List.set_cons_zero, List.set_cons_succ]
  refine wpAnyH_ready (rs := [9]) (by kernel_rfl) (by simp) ?_
  refine (AllReadyH.cons (o := { dst := some 20, op := Go.Op.call { callee := Go.Callee.value (Go.Operand.func 23), args := #[Go.Operand.tmp 14, Go.Operand.tmp 19], argTypes := #[24, 3] }, type := 56, pos := "shelf.go:122", after := #[{ on := 3, ground := Go.Ground.data }, { on := 8, ground := Go.Ground.data }], guard := none }) rfl (fun K hK => ?_) AllReadyH.nil)
  go_simp
  refine hrd.mono ?_
  rintro e w1 ⟨ad1, cap1, rfl, hO1⟩
  have hb1 : Below w.drew.heap.size w.drew w1 := hO1.below
  refine hK.out _ _ (HS.out w1 hb1) (fun _ => ?_)
  clear hK K
  try simp only [Act.put, List.setIfInBounds_toArray, List.set_cons_zero, List.set_cons_succ]
  refine wpAnyH_take (i := 10) (oi := { dst := some 10, op := Go.Op.move (Go.Operand.tmp 20), type := 56, pos := "shelf.go:122", after := #[{ on := 9, ground := Go.Ground.data }], guard := none }) (v := ?_) rfl (by kernel_rfl) (by kernel_rfl) (by kernel_rfl) (fun _ _ _ h => h) (Or.inl ⟨by rfl, ?_⟩) (by assumption) ?_
  rotate_left
  · intro wz hSw; (try dsimp only at hSw); go_simp; (try with_reducible rfl)
  try simp only [Act.put, List.setIfInBounds_toArray, List.set_cons_zero, List.set_cons_succ]
  refine wpAnyH_take (i := 11) (oi := { dst := some 21, op := Go.Op.extract (Go.Operand.tmp 10) 0, type := 29, pos := "shelf.go:122", after := #[{ on := 10, ground := Go.Ground.data }], guard := none }) (v := ?_) rfl (by kernel_rfl) (by kernel_rfl) (by kernel_rfl) (fun _ _ _ h => h) (Or.inl ⟨by rfl, ?_⟩) (by assumption) ?_
  rotate_left
  · intro wz hSw; (try dsimp only at hSw); go_simp; (try with_reducible rfl)
  try simp only [Act.put, List.setIfInBounds_toArray, List.set_cons_zero, List.set_cons_succ]
  refine wpAnyH_take (i := 12) (oi := { dst := some 22, op := Go.Op.extract (Go.Operand.tmp 10) 1, type := 26, pos := "shelf.go:122", after := #[{ on := 10, ground := Go.Ground.data }, { on := 13, ground := Go.Ground.gcOnly Go.Departure.lateStores }], guard := none }) (v := ?_) rfl (by kernel_rfl) (by kernel_rfl) (by kernel_rfl) (fun _ _ _ h => h) (Or.inl ⟨by rfl, ?_⟩) (by assumption) ?_
  rotate_left
  · intro wz hSw; (try dsimp only at hSw); go_simp; (try with_reducible rfl)
  try simp only [Act.put, List.setIfInBounds_toArray, List.set_cons_zero, List.set_cons_succ]
  refine wpAnyH_take (i := 13) (oi := { dst := some 4, op := Go.Op.assign (Go.Operand.tmp 21), type := 29, pos := "shelf.go:122", after := #[{ on := 11, ground := Go.Ground.data }, { on := 9, ground := Go.Ground.chain }, { on := 0, ground := Go.Ground.phase }, { on := 1, ground := Go.Ground.phase }, { on := 2, ground := Go.Ground.phase }, { on := 3, ground := Go.Ground.phase }, { on := 4, ground := Go.Ground.phase }, { on := 5, ground := Go.Ground.phase }, { on := 6, ground := Go.Ground.phase }, { on := 7, ground := Go.Ground.phase }, { on := 8, ground := Go.Ground.phase }, { on := 9, ground := Go.Ground.phase }, { on := 10, ground := Go.Ground.phase }, { on := 11, ground := Go.Ground.phase }, { on := 12, ground := Go.Ground.textOnly Go.Departure.lateStores }], guard := none }) (v := ?_) rfl (by kernel_rfl) (by kernel_rfl) (by kernel_rfl) (fun _ _ _ h => h) (Or.inl ⟨by rfl, ?_⟩) (by assumption) ?_
  rotate_left
  · intro wz hSw; (try dsimp only at hSw); go_simp; (try with_reducible rfl)
  try simp only [Act.put, List.setIfInBounds_toArray, List.set_cons_zero, List.set_cons_succ]
  refine wpAnyH_take (i := 14) (oi := { dst := some 5, op := Go.Op.assign (Go.Operand.tmp 22), type := 26, pos := "shelf.go:122", after := #[{ on := 12, ground := Go.Ground.data }, { on := 13, ground := Go.Ground.chain }, { on := 0, ground := Go.Ground.phase }, { on := 1, ground := Go.Ground.phase }, { on := 2, ground := Go.Ground.phase }, { on := 3, ground := Go.Ground.phase }, { on := 4, ground := Go.Ground.phase }, { on := 5, ground := Go.Ground.phase }, { on := 6, ground := Go.Ground.phase }, { on := 7, ground := Go.Ground.phase }, { on := 8, ground := Go.Ground.phase }, { on := 9, ground := Go.Ground.phase }, { on := 10, ground := Go.Ground.phase }, { on := 11, ground := Go.Ground.phase }, { on := 12, ground := Go.Ground.phase }, { on := 13, ground := Go.Ground.phase }], guard := none }) (v := ?_) rfl (by kernel_rfl) (by kernel_rfl) (by kernel_rfl) (fun _ _ _ h => h) (Or.inl ⟨by rfl, ?_⟩) (by assumption) ?_
  rotate_left
  · intro wz hSw; (try dsimp only at hSw); go_simp; (try with_reducible rfl)
  try simp only [Act.put, List.setIfInBounds_toArray, List.set_cons_zero, List.set_cons_succ]
  refine wpAnyH_done (by kernel_rfl) (NoPanic.normal ?_) _
  try simp only [Act.put, List.setIfInBounds_toArray, List.set_cons_zero, List.set_cons_succ]
  have hB1 : Below w.heap.size w w1 := Below.transS (Below.refl _ _).drew hb1
  have HB1 : Hid (Below w.heap.size w w1) := hB1
  have e2 := (HS.out w1 hb1).2.2
  have hFr := hO1.fresh
  have hbd1 : ∀ y, y ∈ b → 0 ≤ y ∧ y ≤ 255 := hO1.bd
  have HBd : Hid (∀ y, y ∈ b → 0 ≤ y ∧ y ≤ 255) := hbd1
  have HSl : Hid (SlAt w1 ad1 b.length (fn b) ∧ (ad1 = none → b.length = 0 ∧ cap1 = 0)) := ⟨hFr.2.1, hFr.2.2.1⟩
  clear hO1 hb1 hB1 hrd hHeld HS hFr hbd1
  obtain ⟨R, hR⟩ : ∃ R, rootR ((n - 1 : Nat) : Int) b = R := ⟨_, rfl⟩
  have HR : Hid (rootR ((n - 1 : Nat) : Int) b = R) := hR
  have lsh1 : sh < w1.heap.size := Nat.lt_of_lt_of_le lsh HB1.out.size
  clear hR
  by_cases b0 : b.length = 0
  · have b0' : ((b.length : Int) == 0) = true := by simp [b0]
    have HE : Hid (RrR w (rootR ((n - 1 : Nat) : Int) b) (.returned (.tuple #[.slice none 0 0, .nilIface])) w1) := by
      refine ⟨.inr ⟨[], none, 0, ?_, rfl, fun h => by cases h⟩, HB1.out⟩
      rw [rootR, if_pos b0]
    clear b0
    go_wp2
    go_ret2
    exact HE.out
  · have b0' : ((b.length : Int) == 0) = false := by simp; exact fun e => b0 (by rw [e]; rfl)
    have hre := readE_rs ad1 cap1 b w1 HSl.out.1 HSl.out.2 (by omega)
    go_wp2_with fail
    refine hre.mono ?_
    rintro e w2 ⟨rb, rfl, hRS2, hrb, hb2⟩
    have e22 : w2.cell? ⟨sh, 2, none⟩ = some (.int .i64 (n : Int)) := by rw [hb2.cell (p := ⟨sh, 2, none⟩) lsh1]; exact e2
    have hsub : IntKind.i64.wrap ((n : Int) - 1) = ((n - 1 : Nat) : Int) := by rw [IntKind.wrap_i64]; omega
    have hct := count_rs rb ((n - 1 : Nat) : Int) b w2 hRS2 (by omega)
    have hQb : QBd ((countR ((n - 1 : Nat) : Int) b).map Prod.snd) ∧ 0 ≤ ((countR ((n - 1 : Nat) : Int) b).map Prod.fst).getD 0 ∧ ((countR ((n - 1 : Nat) : Int) b).map Prod.fst).getD 0 ≤ ((n - 1 : Nat) : Int) := by
      cases hcr : countR ((n - 1 : Nat) : Int) b with
      | none => exact ⟨(fun l e => by cases e), by simp, by simp⟩
      | some x =>
        have := countR_bd (by omega) HBd.out hcr
        exact ⟨(fun l e => by cases e; exact this.2.2), by simpa using this.1, by simpa using this.2.1⟩
    have hRR : R = if endsR (stN ((n - 1 : Nat) : Int) (((countR ((n - 1 : Nat) : Int) b).map Prod.fst).getD 0).toNat ((countR ((n - 1 : Nat) : Int) b).map Prod.snd)) = true ∧ riseI 0 (vals ((n - 1 : Nat) : Int) (((countR ((n - 1 : Nat) : Int) b).map Prod.fst).getD 0).toNat ((countR ((n - 1 : Nat) : Int) b).map Prod.snd)) = true
      then some (vals ((n - 1 : Nat) : Int) (((countR ((n - 1 : Nat) : Int) b).map Prod.fst).getD 0).toNat ((countR ((n - 1 : Nat) : Int) b).map Prod.snd)) else none := by rw [← HR.out, rootR, if_neg b0]
    obtain ⟨k, hk⟩ : ∃ k : Nat, ((countR ((n - 1 : Nat) : Int) b).map Prod.fst).getD 0 = (k : Int) := ⟨_, (Int.toNat_of_nonneg hQb.2.1).symm⟩
    have hkl : (k : Int) ≤ ((n - 1 : Nat) : Int) := by rw [← hk]; exact hQb.2.2
    rw [hk] at hct hRR
    rw [Int.toNat_natCast] at hRR
    have HQ : Hid (QBd ((countR ((n - 1 : Nat) : Int) b).map Prod.snd)) := hQb.1
    generalize (countR ((n - 1 : Nat) : Int) b).map Prod.snd = q at *
    have HRR : Hid (R = if endsR (stN ((n - 1 : Nat) : Int) k q) = true ∧ riseI 0 (vals ((n - 1 : Nat) : Int) k q) = true then some (vals ((n - 1 : Nat) : Int) k q) else none) := hRR
    have HB2 : Hid (Below w.heap.size w w2 ∧ w.heap.size ≤ rb) := ⟨Below.transS HB1.out hb2, Nat.le_trans HB1.out.size hrb⟩
    clear hre hRS2 hrb hb2 hQb hk hRR e2 b0
    generalize hnl : n - 1 = nl at *
    go_wp2_with fail
    refine hct.mono ?_
    rintro e w3 ⟨rfl, hF3, hRS3⟩
    have hmk := make_row k (by omega) (fun j => vlN (nl : Int) j q) w3
    have hb3 : Below w.heap.size w w3 := HB2.out.1.trans (hF3.below HB2.out.1.size (by simpa using HB2.out.2))
    have hbA : Below w3.heap.size w3 (w3.alloc (.cells ((rowN (fun j => vlN (nl : Int) j q) 0 k).map (Value.int .i64)).toArray 3)) := (Below.refl _ w3).alloc (Nat.le_refl _) _
    have hI0 : RdI w (w3.alloc (.cells ((rowN (fun j => vlN (nl : Int) j q) 0 k).map (Value.int .i64)).toArray 3)) rb w3.heap.size k 0 (nl : Int) q := ⟨hRS3.keep hbA, heap_alloc_new w3 _, Below.transS hb3 hbA⟩
    have hrp : rb < w3.heap.size := hRS3.lt
    have hwp : w.heap.size ≤ w3.heap.size := hb3.size
    have hun : IntKind.u64.wrap (nl : Int) = (nl : Int) := by simp [IntKind.wrap, IntKind.bits, IntKind.signed]; omega
    clear hct hF3 hRS3 hb3 hbA
    go_wp2
    generalize w3.heap.size = pb at *
    clear hmk
    go_loopw [45] (fun iv wr => ∃ i : Nat, i ≤ k ∧ iv = .int .i64 i ∧ RdI w wr rb pb k i (nl : Int) q) (fun iv _ => k - (intOf iv).toNat)
    case atStart => exact ⟨0, Nat.zero_le _, rfl, hI0⟩
    case round =>
      clear hI0
      obtain ⟨i, hi, rfl, hI⟩ := hrel
      by_cases hlt : i < k
      · have hlt' : (i : Int) < k := by omega
        have hv := vlN_bd (most := (nl : Int)) (by omega) HQ.out i
        have hui := uint_rs rb (nl : Int) (stN (nl : Int) i q) wr hI.rs
        have hval : ((((stN (nl : Int) i q).bind (uintR (nl : Int))).map Prod.fst).getD 0) = vlN (nl : Int) i q := rfl
        have hst : (((stN (nl : Int) i q).bind (uintR (nl : Int))).map Prod.snd) = stN (nl : Int) (i + 1) q := rfl
        rw [hval, hst] at hui
        have HI : Hid (RdI w wr rb pb k i (nl : Int) q) := hI
        have HN : Hid (∀ w5, Frm [rb] wr w5 → RS w5 rb (stN (nl : Int) (i + 1) q) → RdI w (w5.setCell ⟨pb, i, none⟩ (.int .i64 (vlN (nl : Int) i q))) rb pb k (i + 1) (nl : Int) q ∧ w5.cell? ⟨pb, i, none⟩ = some (.int .i64 ((rowN (fun j => vlN (nl : Int) j q) i k).getD i 0)) ∧ w5.frozen? ⟨pb, i, none⟩ = false) := fun w5 hF hR5 => by
          have hr5 := hF.heap HI.out.row (by simp; omega)
          refine ⟨⟨hR5.frm (S := [pb]) ((Frm.refl _ _).setCell _ _ (by simp)) (by simpa using hrp), ?_, ?_⟩, ?_, frozen_of_row _ _ _ _ _ hr5⟩
          · rw [heap_setCell_same _ _ _ _ _ _ hr5, ← rowN_set]
            congr 2
            apply Array.toList_inj.1
            simp [List.map_set]
          · exact (HI.out.below.trans (hF.below HI.out.below.size (by simpa using HB2.out.2))).setCell (p := ⟨pb, i, none⟩) hwp _
          · rw [cell_of_row _ _ i _ _ _ hr5]
            have : i < (rowN (fun j => vlN (nl : Int) j q) i k).length := by simpa [rowN] using hlt
            simp [this]
        clear hI hval hst
        generalize vlN (nl : Int) i q = x at *
        have hix : IntKind.i64.wrap x = x := by rw [IntKind.wrap_i64]; omega
        go_wp2_with fail
        refine hui.mono ?_
        rintro e w5 ⟨rfl, hF5, hR5⟩
        obtain ⟨n1, n2, n3⟩ := HN.out w5 hF5 hR5
        have HN1 : Hid (RdI w (w5.setCell ⟨pb, i, none⟩ (.int .i64 x)) rb pb k (i + 1) (nl : Int) q) := n1
        clear n1 hF5 hR5 hui HI HN
        generalize (rowN (fun j => vlN (nl : Int) j q) i k).getD i 0 = old at *
        go_wp2
        refine ⟨⟨i + 1, by omega, by go_num, HN1.out⟩, by simp [intOf]; omega⟩
      · obtain rfl : i = k := by omega
        have hlt' : ¬ ((i : Int) < i) := by omega
        have hdn := done_rs rb _ wr hI.rs
        have hL : IsL wr (some ⟨pb, 0, none⟩) (vals (nl : Int) i q) := fun _ => ⟨pb, 0, rfl, fun j x hx => by
          rw [Nat.zero_add, cell_of_row _ _ j _ _ _ hI.row, rowN_all]
          have e1 : (List.range i).map (fun j => vlN (nl : Int) j q) = vals (nl : Int) i q := rfl
          rw [e1]
          simp [hx]⟩
        have hri := rise_any (some ⟨pb, 0, none⟩) i (vals (nl : Int) i q) wr hL (by rw [vals_length]; omega)
        rw [vals_length] at hri
        have HL : Hid (IsL wr (some ⟨pb, 0, none⟩) (vals (nl : Int) i q)) := hL
        have HBw : Hid (Below w.heap.size w wr) := hI.below
        have hvl := vals_length (nl : Int) i q
        clear hI hL
        generalize stN (nl : Int) i q = qe at *
        generalize vals (nl : Int) i q = V at *
        have hdn' : Calls Tryz.prog 62 #[.pointer (some ⟨rb, 0, none⟩)] wr fun e w' => ((endsR qe = true ∧ e = .returned .nilIface) ∨ (endsR qe = false ∧ ∃ x, e = .returned (.iface 72 (.int .i64 x)))) ∧ w' = wr := hdn.mono fun e w' hh => by
          obtain ⟨⟨x, rfl, hx⟩, rfl⟩ := hh
          refine ⟨?_, rfl⟩
          by_cases h0 : x = 0
          · subst h0; exact .inl ⟨hx.2 rfl, rfl⟩
          · refine .inr ⟨?_, x, by rw [errV_ne h0]⟩
            cases he : endsR qe with
            | true => exact absurd (hx.1 he) h0
            | false => rfl
        clear hdn
        go_wp2_with fail
        refine hdn'.mono ?_
        rintro e w6 ⟨⟨he, rfl⟩ | ⟨he, x, rfl⟩, rfl⟩
        · go_wp2_with fail
          refine hri.mono ?_
          rintro e w7 ⟨rfl, rfl⟩
          cases hrs : riseI 0 V with
          | true =>
            have HE : Hid (RrR w (rootR (nl : Int) b) (.returned (.tuple #[.slice (some ⟨pb, 0, none⟩) i i, .nilIface])) w7) := by
              refine ⟨.inr ⟨V, some ⟨pb, 0, none⟩, i, ?_, by rw [hvl], HL.out⟩, HBw.out⟩
              rw [HR.out, HRR.out, if_pos ⟨he, hrs⟩]
            clear hri hdn'
            go_wp2
            go_ret2
            exact HE.out
          | false =>
            have HE : Hid (RrR w (rootR (nl : Int) b) (.returned (.tuple #[.slice none 0 0, .iface 72 (.int .i64 14)])) w7) := by
              refine ⟨.inl ⟨?_, rfl⟩, HBw.out⟩
              rw [HR.out, HRR.out, if_neg (by simp [hrs])]
            clear hri hdn'
            go_wp2
            go_ret2
            exact HE.out
        · have HE : Hid (RrR w (rootR (nl : Int) b) (.returned (.tuple #[.slice none 0 0, .iface 72 (.int .i64 14)])) w6) := by
            refine ⟨.inl ⟨?_, rfl⟩, HBw.out⟩
            rw [HR.out, HRR.out, if_neg (by simp [he])]
          clear hri hdn'
          go_wp2
          go_ret2
          exact HE.out
end Go.Proofs.YtmekplaonlpfkaaGreatDoor
/- A shelf's Get. -/
namespace Go.Proofs.YtmekplaonlpfkaaGreatDoor
open Go.RowKit Go.Maps Go.Sort

attribute [local go_sem ↓] Go.wp_at_zero Go.wp_at_succ

theorem zeroLf (w : World) : (zeroValue 101).run Tryz.prog w = .ok (.agg #[.int .i64 0, .string ⟨#[]⟩]) w := by kernel_rfl
theorem lfR_zero : lfR (.agg #[.int .i64 0, .string ⟨#[]⟩]) = some (lfD 0 [], []) := by simp [lfR]
/-- What a map of leaves answers at a key. -/
theorem look_lf {w : World} {m : Nat} {L : List Lf} (h : lfM w m L) {k : List UInt8} (hk : k.length ≤ maxLen) :
    ∃ (p : Nat) (u : List UInt8), (Instr.lookup 81 (.map (some m)) (encStr k) true).run Tryz.prog w = .ok (.tuple #[.agg #[.int .i64 (p : Int), encStr u], .bool (getK Lf.k k L).isSome]) w ∧ ((getK Lf.k k L = none ∧ p = 0 ∧ u = []) ∨ ∃ x, getK Lf.k k L = some x ∧ p = x.p ∧ u = x.v) := by
  obtain ⟨v, ps, hrun, hv⟩ := World.ownsMap.look_ok h strK Tryz.underlying81 (zeroLf w) lfR_zero (key_str hk)
  obtain ⟨p, u, rfl, hy⟩ := lfR_inv hv
  rw [dOf_has] at hrun
  rw [dOf_at] at hy
  refine ⟨p, u, hrun, ?_⟩
  have h1 := (Prod.mk.inj hy).1
  cases hg : getK Lf.k k L with
  | none => rw [hg] at h1; have := lfD_inj h1; exact .inl ⟨rfl, this.1.symm, this.2.symm⟩
  | some x => rw [hg] at h1; have := lfD_inj h1; exact .inr ⟨x, rfl, this.1.symm, this.2.symm⟩
def valK (k : List UInt8) (L : List Lf) : List UInt8 := match getK Lf.k k L with | some x => x.v | none => []
set_option maxRecDepth 100000 in
set_option maxHeartbeats 800000 in
theorem get_any (sh m p fr n : Nat) (L : List Lf) (dead : Int) (k : List UInt8) (w : World) (h : ShAt w sh m p fr n L dead) (hk : k.length ≤ maxLen) :
    Calls Tryz.prog 15 #[.pointer (some ⟨sh, 0, none⟩), encStr k] w fun e w' => e = .returned (.tuple #[encStr (valK k L), .bool (getK Lf.k k L).isSome]) ∧ Below w.heap.size w w' := by
  have c3 := h.c3
  obtain ⟨q, u, hrun, hv⟩ := look_lf h.map hk
  have hu : u = valK k L := by
    unfold valK
    rcases hv with ⟨e, _, rfl⟩ | ⟨x, e, _, rfl⟩ <;> rw [e]
  subst hu
  generalize valK k L = u at *
  generalize (getK Lf.k k L).isSome = b at *
  clear h hv
  go_enter Tryz.func15, Tryz.ntmps15
  go_wp2
  go_ret2
  exact ⟨rfl, (by repeat (first | exact Below.refl _ _ | refine Below.alloc ?_ (by simp; try omega) _ | refine Below.setCell ?_ (by simp) _ | refine below_drewN ?_ _ | refine Below.drew ?_))⟩
set_option maxHeartbeats 800000 in
theorem get_nil (k : Value) (w : World) :
    Calls Tryz.prog 15 #[.pointer none, k] w fun e w' => e = .returned (.tuple #[encStr [], .bool false]) ∧ w' = w := by
  go_enter Tryz.func15, Tryz.ntmps15
  go_wp2
  go_ret2
  exact ⟨rfl, rfl⟩
end Go.Proofs.YtmekplaonlpfkaaGreatDoor
/- What changes nothing is struck: maps.DeleteFunc with the closure of changes. -/
namespace Go.Proofs.YtmekplaonlpfkaaGreatDoor
open Go.RowKit Go.Maps Go.Sort

attribute [local go_sem ↓] Go.wp_at_zero Go.wp_at_succ

/-- Does a change change nothing of leaves? -/
def sameC (L : List Lf) (c : Cg) : Bool := match getK Lf.k c.k L with | none => c.g | some f => !c.g && f.v == c.v
def pdD (pd : Cg → Bool) (_ : Lit) (d : DataW Unit) : Bool := match d with
  | .agg [.lit (.string a), .lit (.string b), .lit (.bool g)] => pd ⟨a, b, g⟩
  | _ => false
theorem pdD_en (pd : Cg → Bool) (kl : Lit) (x : Cg) : pdD pd kl x.en = pd x := rfl
/-- What comes out of a map of changes. -/
theorem cg_came {L : List Cg} {x : List UInt8} {c : Cg} {kl : Lit} {y : DataW Unit × List MemPlace} (hkey : keyOf Tryz.prog 9 (encStr x) = some kl) (hv : cgR (cgV c) = some y)
    (hat : ∀ zd, (dOf Cg.k Cg.en L).atKey kl zd = y.1) : kl = .string x ∧ getK Cg.k x L = some c ∧ y.1 = c.en := by
  obtain ⟨x', e, rfl, _⟩ := Maps.keyOf_str Tryz.underlying9 hkey
  obtain rfl := encStr_inj e
  have e1 : y = (c.en, []) := Option.some.inj (hv.symm.trans (cgR_mk c))
  subst e1
  have h1 := hat .nil
  rw [dOf_at] at h1
  refine ⟨rfl, ?_, rfl⟩
  cases hg : getK Cg.k x L with
  | none => rw [hg] at h1; cases h1
  | some f => rw [hg] at h1; rw [Cg.en_inj h1]
set_option maxRecDepth 100000 in
set_option maxHeartbeats 800000 in
theorem chg1_any (sh m p fr n bx : Nat) (L : List Lf) (dead : Int) (x : Cg) (w : World) (h : ShAt w sh m p fr n L dead) (hx : x.k.length ≤ maxLen) (hb : w.cell? ⟨bx, 0, none⟩ = some (.pointer (some ⟨sh, 0, none⟩))) :
    Calls Tryz.prog 72 #[encStr x.k, .agg #[encStr x.k, encStr x.v, .bool x.g], .pointer (some ⟨bx, 0, none⟩)] w fun e w' => e = .returned (.bool (sameC L x)) ∧ Below w.heap.size w w' := by
  have c3 := h.c3
  have l1 := h.lt
  have l2 := h.ltm
  have l3 : bx < w.heap.size := World.block_lt_of_cell? w ⟨bx, 0, none⟩ hb
  have hm1 : lfM (w.alloc (.cells #[encStr x.k, encStr x.v, .bool x.g] 70)) m L := World.ownsMap.alloc h.map _
  obtain ⟨q, u, hrun, hv⟩ := look_lf hm1 hx
  have hq := eq_str u x.v
  have hsame : sameC L x = if x.g then !(getK Lf.k x.k L).isSome else ((getK Lf.k x.k L).isSome && u == x.v) := by
    unfold sameC
    rcases hv with ⟨e, _, rfl⟩ | ⟨f, e, _, rfl⟩ <;> rw [e] <;> cases x.g <;> simp
  rw [hsame]
  generalize (getK Lf.k x.k L).isSome = b at *
  generalize x.g = gg at *
  generalize x.v = vv at *
  generalize x.k = kk at *
  clear h hv hm1 hsame hx
  cases gg
  · cases b
    · go_enter Tryz.func72, Tryz.ntmps72
      go_wp2
      go_ret
      exact ⟨rfl, (by repeat (first | exact Below.refl _ _ | refine Below.alloc ?_ (by simp; try omega) _ | refine Below.setCell ?_ (by simp) _ | refine below_drewN ?_ _ | refine Below.drew ?_))⟩
    · go_enter Tryz.func72, Tryz.ntmps72
      go_wp2
      go_ret
      exact ⟨by simp, (by repeat (first | exact Below.refl _ _ | refine Below.alloc ?_ (by simp; try omega) _ | refine Below.setCell ?_ (by simp) _ | refine below_drewN ?_ _ | refine Below.drew ?_))⟩
  · go_enter Tryz.func72, Tryz.ntmps72
    go_wp2
    go_ret
    exact ⟨by simp, (by repeat (first | exact Below.refl _ _ | refine Below.alloc ?_ (by simp; try omega) _ | refine Below.setCell ?_ (by simp) _ | refine below_drewN ?_ _ | refine Below.drew ?_))⟩
theorem below_grown {a b : World} (h : Below a.heap.size a b) : a.grownBy b none := ⟨h.os, h.tape, h.output, h.size, fun k hk _ => h.block k hk⟩
set_option maxRecDepth 100000 in
set_option maxHeartbeats 4000000 in
theorem delFunc_any (pd : Cg → Bool) (b : Nat) (bx : Value) (C : List Cg) (w : World) (hown : cgM w b C)
    (hdel : ∀ W x, x ∈ C → w.grownBy W (some b) → Calls Tryz.prog 72 #[encStr x.k, .agg #[encStr x.k, encStr x.v, .bool x.g], bx] W fun e w' => e = .returned (.bool (pd x)) ∧ W.grownBy w' none) :
    Calls Tryz.prog 71 #[.map (some b), .func (.func 72) #[] #[bx]] w fun e w' => e = .returned (.tuple #[]) ∧ cgM w' b (C.filter fun x => !pd x) ∧ w.grownBy w' (some b) := by
  have hD : Lib.deleteFuncD (pdD pd) (dOf Cg.k Cg.en C) = dOf Cg.k Cg.en (C.filter fun x => !pd x) := by rw [dOf_filter]; rfl
  obtain ⟨es0, he0, hap, hkeys⟩ := World.ownsMap.entries hown strK
  have HE : Hid (dOf Cg.k Cg.en C = .map es0) := he0
  have HD : Hid (Lib.deleteFuncD (pdD pd) (.map es0) = dOf Cg.k Cg.en (C.filter fun x => !pd x)) := by rw [he0] at hD; exact hD
  have HX : Hid (∀ W x, x ∈ C → w.grownBy W (some b) → Calls Tryz.prog 72 #[encStr x.k, .agg #[encStr x.k, encStr x.v, .bool x.g], bx] W fun e w' => e = .returned (.bool (pd x)) ∧ W.grownBy w' none) := hdel
  have HK : Hid (es0.Pairwise (fun p q => p.1 ≠ q.1) ∧ ∀ p ∈ es0, WideAt.IsKeyLit p.1) := ⟨hap, hkeys⟩
  have hown' : w.ownsMap Tryz.prog 9 cgR b C.length (.map es0) := by rw [← he0]; exact hown
  have hcl : Maps.size (.map es0 : DataW Unit) = C.length := by rw [← he0, dOf_size]
  clear hdel hD he0 hown hap hkeys
  go_enter Tryz.func71, Tryz.ntmps71
  go_wp2_with (first
    | (at_range; refine wpList_range_own _ rfl _ 142 rfl 9 70 strK Tryz.underlying142 cgR b C.length _ rfl hown' ?_; intro w0 hrg0 hg0 hs0)
    | fail)
  go_frame
  go_loopw [8] (fun _ wr => ∃ (left : Lit → Bool) (cnt : Nat), wr.ranges Tryz.prog 9 cgR b w.heap.size C.length (Fk (pdD pd) es0 left) left cnt ∧ w.grownBy wr (some b))
    (fun _ wr => wr.rangeLeft b w.heap.size)
  case atStart => exact ⟨_, _, by rw [Fk_start HK.out.2]; exact hrg0, hg0.but _⟩
  case round =>
    obtain ⟨left, cnt, hrg, hgw⟩ := hrel
    clear hrg0 hg0 hs0 hown'
    go_wp2_with (first
      | (at_next; refine wpList_next_ranges _ rfl _ rfl 9 strK cgR encStr (fun c : Cg => Value.agg #[encStr c.k, encStr c.v, .bool c.g]) (fun key kl hk => key_inv hk) (fun v y hv => cgR_val hv) b w.heap.size C.length _ _ _ rfl hrg ?_ ?_)
      | fail)
    · intro _ hl0
      have HR : Hid (cgM wr b (C.filter fun x => !pd x) ∧ w.grownBy wr (some b)) := by
        refine ⟨?_, hgw⟩
        have := hrg.owns
        rw [Fk_end hl0, HD.out] at this
        exact cgM.of this
      clear hrg hgw hl0
      go_wp2
      go_end0
      exact ⟨rfl, HR.out⟩
    · intro x c kl yd yp w1 cnt1 hkey hlx hv hat hrg1 hlt hg1 hs1 hen
      have hcame : pdD pd kl yd = pd c ∧ c ∈ C ∧ c.k = x := by
        have hat0 : ∀ zd, (dOf Cg.k Cg.en C).atKey kl zd = yd := fun zd => by
          have h1 := at_cameK HK.out.1 (strK.key hkey) hlx hat
          have h2 := hat .nil
          have hm : (kl, yd) ∈ es0 := by
            have h3 := hrg1.owns
            by_cases hex : ∃ p ∈ es0, p.1 = kl
            · obtain ⟨p, hp, hpk⟩ := hex
              rw [← hpk, ← h1 p hp hpk]; exact hp
            · exfalso
              have h5 : (Fk (pdD pd) es0 left).atKey kl .nil = .nil := by
                unfold Fk DataW.atKey
                dsimp only
                rw [List.find?_eq_none.2 (fun p hp => by
                  intro hs
                  exact hex ⟨p, (List.mem_filter.1 hp).1, WideAt.sameKey_eq hs⟩)]
              rw [h5] at h2
              obtain ⟨_, _, e3⟩ := cgR_inv hv
              have e4 := (Prod.mk.inj e3).1
              rw [← h2] at e4
              cases e4
          rw [HE.out]
          exact WideAt.atKey_mem zd (strK.key hkey) HK.out.1 hm
        obtain ⟨rfl, hg, hy⟩ := cg_came (c := c) (y := (yd, yp)) hkey hv hat0
        obtain ⟨hm, hk⟩ := getK_mem Cg.k hg
        refine ⟨?_, hm, hk⟩
        rw [show yd = c.en from hy]
        rfl
      obtain ⟨hpd, hcm, hck⟩ := hcame
      subst hck
      have hgw1 := hgw.andThen hg1 (fun j hj => by cases hj; exact Or.inl (Nat.le_refl _))
      have hgw2 := hgw1.andThen (World.grownBy_alloc w1 (.cells #[encStr c.k, encStr c.v, .bool c.g] 70) none) (fun j hj => by cases hj)
      have hc := HX.out _ c hcm hgw2
      have hrg1' := hrg1.alloc (.cells #[encStr c.k, encStr c.v, .bool c.g] 70)
      cases hp : pd c with
      | false =>
        rw [hp] at hc hpd
        have HS : Hid (Fk (pdD pd) es0 left = Fk (pdD pd) es0 (fun z => left z && !z.sameKey kl)) := Fk_stays HK.out.1 (strK.key hkey) hlx hpd hat
        have hms : cnt1 < wr.rangeLeft b w.heap.size := by rw [hrg.left_eq]; exact hlt
        have HR : Hid ((w1.alloc (.cells #[encStr c.k, encStr c.v, .bool c.g] 70)).ranges Tryz.prog 9 cgR b w.heap.size C.length (Fk (pdD pd) es0 left) (fun z => left z && !z.sameKey kl) cnt1) := hrg1'
        have HG : Hid (w.grownBy (w1.alloc (.cells #[encStr c.k, encStr c.v, .bool c.g] 70)) (some b)) := hgw2
        clear hrg hrg1 hrg1' hgw hgw1 hgw2 hg1 hat hv hkey hlx hpd hlt hcm
        generalize c.k = ck at *
        generalize c.v = cv at *
        generalize c.g = cg at *
        go_wp2_with fail
        refine hc.mono ?_
        rintro e w2 ⟨rfl, hg2⟩
        go_wp2
        have hrg2 := HR.out.kept hg2 (by simp) (by simp)
        refine ⟨⟨_, cnt1, by rw [← HS.out]; exact hrg2, HG.out.andThen hg2 (fun j hj => by cases hj)⟩, ?_⟩
        rw [hrg2.left_eq]; exact hms
      | true =>
        rw [hp] at hc hpd
        have HS : Hid ((Fk (pdD pd) es0 left).del kl = Fk (pdD pd) es0 (fun z => left z && !z.sameKey kl)) := Fk_struck HK.out.1 (strK.key hkey) hlx hpd hat
        have hms : cnt1 < wr.rangeLeft b w.heap.size := by rw [hrg.left_eq]; exact hlt
        have HR : Hid ((w1.alloc (.cells #[encStr c.k, encStr c.v, .bool c.g] 70)).ranges Tryz.prog 9 cgR b w.heap.size C.length (Fk (pdD pd) es0 left) (fun z => left z && !z.sameKey kl) cnt1) := hrg1'
        have HG : Hid (w.grownBy (w1.alloc (.cells #[encStr c.k, encStr c.v, .bool c.g] 70)) (some b)) := hgw2
        have HY : Hid (keyOf Tryz.prog 9 (encStr c.k) = some kl) := hkey
        clear hrg hrg1 hrg1' hgw hgw1 hgw2 hg1 hat hv hkey hlx hpd hlt hcm
        generalize c.k = ck at *
        generalize c.v = cv at *
        generalize c.g = cg at *
        go_wp2_with fail
        refine hc.mono ?_
        rintro e w2 ⟨rfl, hg2⟩
        have hrg2 := HR.out.kept hg2 (by simp) (by simp)
        go_wp2_with (first
          | (at_delete; refine wpList_delete_ranges _ rfl _ _ 142 9 rfl 70 strK Tryz.underlying142 cgR b w.heap.size C.length _ _ _ rfl hrg2 _ _ rfl HY.out ?_; intro w3 cnt3 hrg3 hle hturn; go_frame)
          | fail)
        rw [strike_twice, HS.out] at hrg3
        refine ⟨⟨_, cnt3, hrg3, (HG.out.andThen hg2 (fun j hj => by cases hj)).andThen hturn.grown (fun j hj => by cases hj; exact Or.inr rfl)⟩, ?_⟩
        rw [hrg3.left_eq]; omega
end Go.Proofs.YtmekplaonlpfkaaGreatDoor
/- The values of a map of changes, collected. -/
namespace Go.Proofs.YtmekplaonlpfkaaGreatDoor
open Go.RowKit Go.Shelf Go.Maps Go.Sort

attribute [local go_sem] Oper.semAt_some

/-- The changes that have come. -/
def CameV (C : List Cg) (left : Lit → Bool) (xs : List Cg) : Prop := (xs.map Cg.k).Nodup ∧ ∀ x, x ∈ xs ↔ (x ∈ C ∧ left (.string x.k) = false)
theorem Rise.nodupC {C : List Cg} (h : Rise Cg.k C) : (C.map Cg.k).Nodup := by
  unfold Rise at h
  rw [List.Nodup, List.pairwise_map]
  exact h.imp fun {a b} hab e => by rw [e, before_irrefl] at hab; cases hab
theorem CameV.start (C : List Cg) : CameV C (Maps.has (dOf Cg.k Cg.en C)) [] := by
  refine ⟨List.nodup_nil, fun x => ⟨(fun h => by cases h), ?_⟩⟩
  rintro ⟨h1, h2⟩
  rw [dOf_has] at h2
  cases e : getK Cg.k x.k C with
  | none => exact absurd rfl ((getK_none Cg.k).1 e x h1)
  | some y => rw [e] at h2; cases h2
theorem CameV.step {C : List Cg} (hr : Rise Cg.k C) {left : Lit → Bool} {xs : List Cg} (h : CameV C left xs) {k : List UInt8} {c : Cg} (hc : getK Cg.k k C = some c) (hl : left (.string k) = true) :
    CameV C (fun z => left z && !z.sameKey (.string k)) (xs ++ [c]) := by
  obtain ⟨hm, rfl⟩ := getK_mem Cg.k hc
  refine ⟨?_, fun x => ?_⟩
  · rw [List.map_append, List.nodup_append]
    refine ⟨h.1, by simp, ?_⟩
    intro a ha b hb e
    simp at hb
    obtain ⟨y, hy, rfl⟩ := List.mem_map.1 ha
    have h1 := ((h.2 y).1 hy)
    rw [e, hb, hl] at h1
    cases h1.2
  · rw [List.mem_append, List.mem_singleton, h.2 x]
    constructor
    · rintro (⟨h1, h2⟩ | rfl)
      · exact ⟨h1, by simp [h2]⟩
      · exact ⟨hm, by simp [Lit.sameKey]⟩
    · rintro ⟨h1, h2⟩
      by_cases e : x.k = c.k
      · exact .inr (hr.inj Cg.k h1 hm e)
      · refine .inl ⟨h1, ?_⟩
        simpa [Lit.sameKey, e] using h2
theorem CameV.perm {C : List Cg} (hr : Rise Cg.k C) {left : Lit → Bool} {xs : List Cg} (h : CameV C left xs) (hl : ∀ kl, left kl = false) : xs.Perm C := by
  have h1 : xs.Nodup := List.Pairwise.of_map (S := (· ≠ ·)) Cg.k (fun a b hab e => hab (by rw [e])) h.1
  have h2 : C.Nodup := List.Pairwise.of_map (S := (· ≠ ·)) Cg.k (fun a b hab e => hab (by rw [e])) hr.nodupC
  exact (List.perm_ext_iff_of_nodup h1 h2).2 fun x => by rw [h.2 x, hl]; simp

set_option maxRecDepth 100000 in
set_option maxHeartbeats 2000000 in
theorem vals1_in (F : Fence) (n : Nat) (hfn : F.fn 105) (hro : F.round = none) (hn : 1 ≤ n) (l Bm b : Nat) (C : List Cg) (hr : Rise Cg.k C) (J Jx : List Cg → World → Prop)
    (hY : ∀ pre x W, J pre W → pre.length < C.length → YieldAt F (n - 1) Tryz.prog l #[.agg #[encStr x.k, encStr x.v, .bool x.g]] W fun e W' =>
      (e = .returned (.bool true) ∧ J (pre ++ [x]) W' ∧ KeepsWalks W W') ∨ (e = .returned (.bool false) ∧ Jx (pre ++ [x]) W'))
    (W : World) (hJ : AbidesFrom W.heap.size J) (hm : W.cell? ⟨Bm, 0, none⟩ = some (.map (some b))) (hown : cgM W b C) (h0 : J [] W) :
    CallsIn F n Tryz.prog 105 #[.func (.yield l) #[] #[], .pointer (some ⟨Bm, 0, none⟩)] W fun e W' => (∃ v, e = .returned v) ∧
      ((∃ xs, xs.Perm C ∧ J xs W') ∨ (∃ pre, True ∧ Jx pre W')) := by
  have hown' : W.ownsMap Tryz.prog 9 cgR b C.length (dOf Cg.k Cg.en C) := hown
  have hsz : Maps.size (dOf Cg.k Cg.en C) = C.length := dOf_size _ _ _
  refine callsIn_of_wp Tryz.func105 rfl hfn ?_ hro
  simp only [Tryz.ntmps105, List.size_toArray, List.length_cons, List.length_nil, Nat.reduceAdd, Nat.reduceSub, Array.replicate_succ, Array.replicate_zero, List.push_toArray, List.append_toArray, List.nil_append, List.cons_append]
  gi_wp2_with (first
    | (gi_at_range; refine wpListIn_range_own _ rfl _ 142 rfl 9 70 strK Tryz.underlying142 _ b C.length _ rfl hown' ?_; intro w0 hrg0 hg0 hs0)
    | gi_in)
  go_frame
  gi_loopw [4] (fun _ wr => ∃ (left : Lit → Bool) (cnt : Nat) (xs : List Cg), wr.ranges Tryz.prog 9 cgR b W.heap.size C.length (dOf Cg.k Cg.en C) left cnt ∧ xs.length + cnt ≤ C.length ∧ CameV C left xs ∧ J xs wr)
    (fun _ wr => wr.rangeLeft b W.heap.size)
  case atStart =>
    exact ⟨_, _, [], hrg0, by simp [hsz], CameV.start C, hJ [] W w0 none h0 hg0 (fun r e => by cases e)⟩
  case round =>
    obtain ⟨left, cnt, xs, hrg, hcs, hC, hJs⟩ := hrel
    gi_wp2_with (first
      | (gi_at_next; refine wpListIn_next_ranges _ rfl _ rfl 9 strK cgR encStr (fun c : Cg => Value.agg #[encStr c.k, encStr c.v, .bool c.g]) (fun key kl hk => key_inv hk) (fun v y hv => cgR_val hv) b W.heap.size C.length _ _ _ rfl hrg ?_ ?_)
      | gi_in)
    · intro hc0 hl0
      gi_wp2
      go_end0
      exact ⟨⟨_, rfl⟩, .inl ⟨xs, hC.perm hr hl0, hJs⟩⟩
    · intro x c kl yd yp w2 cnt2 hkey hlk hv hat hrg2 hlt hg2 hs2 hen
      obtain ⟨rfl, hgc, -⟩ := cg_came (c := c) (y := (yd, yp)) hkey hv hat
      have hC2 := hC.step hr hgc hlk
      have hJ2 : J xs w2 := hJ xs wr w2 (some W.heap.size) hJs hg2 (fun r e => by cases e; exact ⟨Nat.le_refl _, hrg.iter_walk⟩)
      have hJ3 : J xs (w2.alloc (.cells #[encStr c.k, encStr c.v, .bool c.g] 70)) := hJ xs _ _ none hJ2 (World.grownBy_alloc w2 _ none) (fun r e => by cases e)
      obtain ⟨fn, tmps, assign, body, hy, hR⟩ := hY xs c _ hJ3 (by omega)
      have hrg2' := hrg2.alloc (.cells #[encStr c.k, encStr c.v, .bool c.g] 70)
      have hms : cnt2 < wr.rangeLeft b W.heap.size := by rw [hrg.left_eq]; exact hlt
      clear hs2 hrg2 hrg hJ2 hJ3 hJs hC hat hv hkey hgc hlk hown hown'
      generalize c.k = ck at *
      generalize c.v = cv at *
      generalize c.g = cg at *
      gi_wp2
      refine hR.mono ?_
      rintro e W3 (⟨rfl, hJ3, hk3⟩ | ⟨rfl, hJx3⟩)
      · gi_wp2
        have hrg3 := hrg2'.of_walks hk3
        go_roundw
        case rel => exact ⟨_, cnt2, xs ++ [c], hrg3, by simp; omega, hC2, hJ3⟩
        case measure => rw [hrg3.left_eq]; exact hms
      · gi_wp2
        refine bodyPost_ret (results_none rfl _ _ _) rfl ?_
        exact ⟨⟨_, rfl⟩, .inr ⟨_, trivial, hJx3⟩⟩
theorem vals_stops (F : Fence) (n : Nat) (hfn : F.fn 105) (hro : F.round = none) (hn : 1 ≤ n) (Bm b : Nat) (C : List Cg) (hr : Rise Cg.k C) (w : World) (hBm : Bm < w.heap.size)
    (hm : w.cell? ⟨Bm, 0, none⟩ = some (.map (some b))) (hown : cgM w b C) :
    SeqStopsK F n Tryz.prog 105 #[.pointer (some ⟨Bm, 0, none⟩)] (fun x : Cg => #[Value.agg #[encStr x.k, encStr x.v, .bool x.g]]) KeepsWalks (fun xs => xs.Perm C) (fun _ => True) C.length w := fun l J Jx W hW hJ _ hY h0 =>
  vals1_in F n hfn hro hn l Bm b C hr J Jx hY W hJ ((hW.cell (p := ⟨Bm, 0, none⟩) hBm).trans hm) (owns_keepB hown (hW.block b (World.ownsMap.lt hown))) h0
set_option maxHeartbeats 1000000 in
theorem vals_in (F : Fence) (n : Nat) (hf : F.fn 74) (hro : F.round = none) (mb : Option Nat) (w : World) :
    CallsIn F n Tryz.prog 74 #[.map mb] w fun e w' => e = .returned (.func (.func 105) #[] #[.pointer (some ⟨w.heap.size, 0, none⟩)]) ∧ w' = w.alloc (.cells #[.map mb] 142) := by
  refine callsIn_of_wp Tryz.func74 rfl hf ?_ hro
  simp only [Tryz.ntmps74, List.size_toArray, List.length_cons, List.length_nil, Nat.reduceAdd, Nat.reduceSub, Array.replicate_succ, Array.replicate_zero, List.push_toArray, List.append_toArray, List.nil_append, List.cons_append]
  gi_wp2
  go_ret
  exact ⟨rfl, rfl⟩
/-- Changes as cells. -/
def flatC (l : List Cg) : List Value := l.flatMap cgL
theorem flatC_append (l m : List Cg) : flatC (l ++ m) = flatC l ++ flatC m := List.flatMap_append
theorem flatC_length : ∀ l : List Cg, (flatC l).length = l.length * 3
  | [] => rfl
  | x :: r => by
    have := flatC_length r
    simp only [flatC, List.flatMap_cons, List.length_append, List.length_cons] at this ⊢
    rw [this]
    simp [cgL]
    omega
theorem Tryz.infoCg : (Tryz.prog.info? 70).map (fun i => (i.zero, i.size, i.bytes)) = some (some (.agg #[.string ⟨#[]⟩, .string ⟨#[]⟩, .bool false]), 3, 40) := by kernel_rfl
theorem three_own {B Bx : Nat} {a b c : Value} {t : TypeId} : OwnFrom B (fun (_ : Unit) (W : World) => W.heap[Bx]? = some (.cells #[a, b, c] t (0, 0))) := fun _ X Y row hs hg hr => by
  dsimp only at hs ⊢
  rw [hg.block Bx (lt_of_block hs) (fun e => by
    obtain ⟨_, o, ho, hc⟩ := hr Bx e.symm
    rw [hs] at ho
    cases ho
    cases hc)]
  exact hs
/-- What is collected: a slice of its own. -/
def ColR (w : World) (xs : List Cg) (v : Value) (w' : World) : Prop := w'.ownsRow w.heap.size 70 3 v xs.length (flatC xs) ∧ Below w.heap.size w w'
set_option maxRecDepth 100000 in
set_option maxHeartbeats 2000000 in
theorem appSeq_in (F : Fence) (n : Nat) (hA : F.fn 118) (hV : F.fn 105) (hro : F.round = none) (hn : 3 ≤ n) (Bm b : Nat) (C : List Cg) (hr : Rise Cg.k C) (hlen : C.length ≤ 1000000) (w : World)
    (hm : w.cell? ⟨Bm, 0, none⟩ = some (.map (some b))) (hown : cgM w b C) :
    CallsIn F n Tryz.prog 118 #[.slice none 0 0, .func (.func 105) #[] #[.pointer (some ⟨Bm, 0, none⟩)]] w fun e W' => ∃ v xs, e = .returned v ∧ xs.Perm C ∧ ColR w xs v W' := by
  have h1 : 1 ≤ n := by omega
  obtain ⟨i0, hi0, hz0, hz1, hz2⟩ := info_parts Tryz.infoCg
  have hBm : Bm < w.heap.size := World.block_lt_of_cell? w ⟨Bm, 0, none⟩ hm
  refine callsIn_of_wp_marks Tryz.func118 rfl hA ?_ hro
  simp only [Tryz.ntmps118, List.size_toArray, List.length_cons, List.length_nil, Nat.reduceAdd, Nat.reduceSub, Array.replicate_succ, Array.replicate_zero, List.push_toArray, List.append_toArray, List.nil_append, List.cons_append]
  gi_wp2
  have bS := Boxed.new w 52 (.slice none 0 0)
  have hB0 : Below w.heap.size w (w.alloc (.cells #[.slice none 0 0] 52)) := (Below.refl _ w).alloc (Nat.le_refl _) _
  have hsz : (w.alloc (.cells #[.slice none 0 0] 52)).heap.size = w.heap.size + 1 := by simp
  obtain ⟨W0, hW0⟩ : ∃ W0, w.alloc (.cells #[.slice none 0 0] 52) = W0 := ⟨_, rfl⟩
  rw [hW0] at bS hB0 hsz ⊢
  clear hW0
  have hown0 : cgM W0 b C := owns_keepB hown (hB0.block b (World.ownsMap.lt hown))
  have hm0 : W0.cell? ⟨Bm, 0, none⟩ = some (.map (some b)) := (hB0.cell (p := ⟨Bm, 0, none⟩) hBm).trans hm
  refine wpIn_rangeFunc_ownH hro h1 (gf := 105) (lb := #[.pointer (some ⟨Bm, 0, none⟩)]) rfl hV (enters_of Tryz.func105 (by kernel_rfl) rfl)
    (vals_stops F (n - 1) hV hro (by omega) Bm b C hr W0 (by omega) hm0 hown0) walksK_t walksK_b (Below.refl _ _) (fun _ => rfl)
    (fun pre W => (∃ v, Boxed W w.heap.size 52 v ∧ W.ownsRow w.heap.size 70 3 v pre.length (flatC pre) ∧ True) ∧ (Below w.heap.size w W ∧ W0.heap.size ≤ W.heap.size))
    (fun _ _ _ => False)
    (OwnFrom.and (Own.from (holdsRow_own w.heap.size w.heap.size 52 70 3 (fun pre : List Cg => pre.length) flatC (fun _ _ => True)) _) (OwnFrom.and (ownFrom_below (Nat.le_refl _) (by omega)) (fun _ _ _ _ hs hg _ => Nat.le_trans hs hg.size)))
    (fun c _ _ _ _ hs _ _ => hs.elim)
    ⟨⟨_, bS, World.ownsRow_nil _ _ _ _, trivial⟩, hB0, Nat.le_refl _⟩
    (fun x a' W => ∃ Bx, w.heap.size < Bx ∧ W.heap[Bx]? = some (.cells #[encStr x.k, encStr x.v, .bool x.g] 70 (0, 0)) ∧ a' = { tmps := #[.slice none 0 0, .func (.func 105) #[] #[.pointer (some ⟨Bm, 0, none⟩)], .pointer (some ⟨w.heap.size, 0, none⟩), undef, .slice none 0 0, .pointer (some ⟨Bx, 0, none⟩), .func (.func 105) #[] #[.pointer (some ⟨Bm, 0, none⟩)], .agg #[encStr x.k, encStr x.v, .bool x.g], undef, undef, undef, undef, undef], defers := [] })
    (fun x a' _ X Y row hs hg hr => by obtain ⟨Bx, h1, h2, h3⟩ := hs; exact ⟨Bx, h1, three_own () X Y row h2 hg hr, h3⟩)
    ?assign ?body ?done ?stop
  case assign =>
    rintro l pre x W K ⟨⟨v, bv, hrow, -⟩, hB1, hW0⟩ hK
    gi_wp2
    exact hK _ _ ((KeepsOthers.alloc _ _).from _) (KeepsWalks.alloc _ _) ⟨⟨v, bv.alloc _, hrow.alloc _, trivial⟩, hB1.alloc hB1.size _, by simp; omega⟩ ⟨W.heap.size, bv.lt, heap_alloc_new W _, rfl⟩
  case body =>
    rintro l pre x a' W hl ⟨r, hr⟩ ⟨⟨v, hv, hrow, -⟩, hB1, hW0⟩ ⟨Bx, hBx, bX, rfl⟩ hlt
    have cS := hv.cell
    have fS := hv.frozen
    have x0 : W.cell? ⟨Bx, 0, none⟩ = some (encStr x.k) := by rw [cell_of_row _ _ 0 _ _ _ bX]; rfl
    have x1 : W.cell? ⟨Bx, 1, none⟩ = some (encStr x.v) := by rw [cell_of_row _ _ 1 _ _ _ bX]; rfl
    have x2 : W.cell? ⟨Bx, 2, none⟩ = some (.bool x.g) := by rw [cell_of_row _ _ 2 _ _ _ bX]; rfl
    have hfl : flatC (pre ++ [x]) = flatC pre ++ [encStr x.k, encStr x.v, .bool x.g] := by rw [flatC_append]; rfl
    have HF : Hid (flatC (pre ++ [x]) = flatC pre ++ [encStr x.k, encStr x.v, .bool x.g]) := hfl
    clear hfl
    gi_wp2_with (first
      | (gi_at_builtin; refine wpListIn_append_own _ rfl _ _ 52 rfl w.heap.size 70 i0 _ 3 40 Tryz.underlying52 hi0 hz0 hz1 hz2 rfl (by decide) v pre.length (flatC pre) rfl (hrow.alloc _) ⟨W.heap.size, 0, none⟩ 1 1 [encStr x.k, encStr x.v, .bool x.g] rfl rfl (World.news_of_block (cs := #[encStr x.k, encStr x.v, .bool x.g]) (t := 70) (fr := (0, 0)) (heap_alloc_new W _)) (by simp [Value.oneCell', encStr]) (by unfold maxLen; omega) (by omega) (by have := hB1.size; simp; omega) ?_; intro v' w1 hown' hgrow _; obtain ⟨g', cap', rfl⟩ := ownsRow_succ hown'; obtain ⟨hv1, hv2, hr2, hk2, hb2⟩ := hv.appended (by decide) hrow hB1.size (Nat.le_refl _) hown' hgrow; have hc1 := hv1.cell; have hf1 := hv1.frozen)
      | gi_in)
    exact ⟨hk2.from _, hk2.walks, ⟨_, hv2, by rw [HF.out]; simpa using hr2, trivial⟩, hB1.trans hb2, Nat.le_trans hW0 hk2.size⟩
  case done =>
    rintro D ys W hD hys ⟨⟨v, hv, hrow, -⟩, hB1, hW0⟩ hK
    have cS := hv.cell
    gi_wp2
    refine ⟨by simp, .inl ⟨_, _, rfl, run_takeDeferred hK, ?_⟩⟩
    exact ⟨_, results_tmp rfl _ _ _, v, ys, rfl, hys, ownsRow_putObj hrow _ hK rfl, hB1.trans (belowK_b (w := w) (Nat.le_refl _) W D _ _ (by omega) hK rfl rfl)⟩
  case stop =>
    rintro D c pre W hD _ hF
    exact hF.elim
set_option maxHeartbeats 1000000 in
theorem collect_in (F : Fence) (n : Nat) (hC : F.fn 103) (hA : F.fn 118) (hV : F.fn 105) (hro : F.round = none) (hn : 4 ≤ n) (Bm b : Nat) (C : List Cg) (hr : Rise Cg.k C) (hlen : C.length ≤ 1000000) (w : World)
    (hm : w.cell? ⟨Bm, 0, none⟩ = some (.map (some b))) (hown : cgM w b C) :
    CallsIn F n Tryz.prog 103 #[.func (.func 105) #[] #[.pointer (some ⟨Bm, 0, none⟩)]] w fun e W' => ∃ v xs, e = .returned v ∧ xs.Perm C ∧ ColR w xs v W' := by
  have h1 : 1 ≤ n := by omega
  have hc := appSeq_in F (n - 1) hA hV hro (by omega) Bm b C hr hlen w hm hown
  clear hown hm
  refine callsIn_of_wp Tryz.func103 rfl hC ?_ hro
  simp only [Tryz.ntmps103, List.size_toArray, List.length_cons, List.length_nil, Nat.reduceAdd, Nat.reduceSub, Array.replicate_succ, Array.replicate_zero, List.push_toArray, List.append_toArray, List.nil_append, List.cons_append]
  gi_wp2_with (gi_at_call 118; refine hc.mono ?_; rintro e w' ⟨v, xs, rfl, hp, hR⟩)
  go_ret
  exact ⟨v, xs, rfl, hp, hR⟩
theorem collect_any (Bm b : Nat) (C : List Cg) (hr : Rise Cg.k C) (hlen : C.length ≤ 1000000) (w : World) (hm : w.cell? ⟨Bm, 0, none⟩ = some (.map (some b))) (hown : cgM w b C) :
    Calls Tryz.prog 103 #[.func (.func 105) #[] #[.pointer (some ⟨Bm, 0, none⟩)]] w fun e W' => ∃ v xs, e = .returned v ∧ xs.Perm C ∧ ColR w xs v W' :=
  callsIn_wide.1 (collect_in Fence.wide 6 trivial trivial trivial rfl (by omega) Bm b C hr hlen w hm hown)
theorem vals_any (mb : Option Nat) (w : World) :
    Calls Tryz.prog 74 #[.map mb] w fun e w' => e = .returned (.func (.func 105) #[] #[.pointer (some ⟨w.heap.size, 0, none⟩)]) ∧ w' = w.alloc (.cells #[.map mb] 142) :=
  callsIn_wide.1 (vals_in Fence.wide 3 trivial rfl mb w)
end Go.Proofs.YtmekplaonlpfkaaGreatDoor
/- The library's contracts laid at this program: which of its functions and types they speak of. -/
namespace Go.Proofs
open Go.Shelf
def Tryz.lCloneM_ren : Go.Shelf.Ren := ⟨fun | 5 => 80 | 7 => 107 | n => n, fun | 23 => 81 | 25 => 9 | 3 => 101 | 4 => 4 | 20 => 20 | n => n, fun | n => n⟩
theorem Tryz.lCloneM : Go.Proofs.SlLaysW.n5 Tryz.prog Tryz.lCloneM_ren := {
  mixed := by kernel_rfl
  f5 := ⟨Tryz.f80.name, by decide, Tryz.func80.trans (congrArg some (by kernel_rfl))⟩
  f7 := Tryz.func107.trans (congrArg some (by kernel_rfl))
  t4 := Tryz.underlying4
  a4 := Tryz.isAgg4
  z4 := Tryz.sizeOf4
  v4 := Tryz.zeroValue4
  t20 := Tryz.underlying20
  a20 := Tryz.isAgg20
  z20 := Tryz.sizeOf20
  v20 := Tryz.zeroValue20
  t23 := Tryz.underlying81
  a23 := Tryz.isAgg81
  z23 := Tryz.sizeOf81
  v23 := Tryz.zeroValue81 }
def Tryz.lCompare_ren : Go.Shelf.Ren := ⟨fun | 106 => 76 | 213 => 106 | 265 => 120 | n => n, fun | 9 => 9 | 3 => 3 | n => n, fun | n => n⟩
theorem Tryz.lCompare : Go.Proofs.Lays.n106 Tryz.prog Tryz.lCompare_ren := {
  mixed := by kernel_rfl
  f106 := Tryz.func76.trans (congrArg some (by kernel_rfl))
  f213 := Tryz.func106.trans (congrArg some (by kernel_rfl))
  f265 := Tryz.func120.trans (congrArg some (by kernel_rfl))
  t3 := Tryz.underlying3
  a3 := Tryz.isAgg3
  z3 := Tryz.sizeOf3
  v3 := Tryz.zeroValue3
  t9 := Tryz.underlying9
  a9 := Tryz.isAgg9
  z9 := Tryz.sizeOf9
  v9 := Tryz.zeroValue9 }
def Tryz.lCloneS_ren : Go.Shelf.Ren := ⟨fun | 316 => 108 | n => n, fun | 9 => 9 | 3 => 3 | 4 => 4 | 37 => 29 | 0 => 0 | 127 => 208 | 5 => 5 | n => n, fun | n => n⟩
theorem Tryz.lCloneS : Go.Proofs.LaysM.n316 Tryz.prog Tryz.lCloneS_ren := {
  mixed := by kernel_rfl
  f316 := Tryz.func108.trans (congrArg some (by kernel_rfl))
  t0 := Tryz.underlying0
  a0 := Tryz.isAgg0
  z0 := Tryz.sizeOf0
  v0 := Tryz.zeroValue0
  t3 := Tryz.underlying3
  a3 := Tryz.isAgg3
  z3 := Tryz.sizeOf3
  v3 := Tryz.zeroValue3
  t4 := Tryz.underlying4
  a4 := Tryz.isAgg4
  z4 := Tryz.sizeOf4
  v4 := Tryz.zeroValue4
  t9 := Tryz.underlying9
  a9 := Tryz.isAgg9
  z9 := Tryz.sizeOf9
  v9 := Tryz.zeroValue9
  t37 := Tryz.underlying29
  a37 := Tryz.isAgg29
  z37 := Tryz.sizeOf29
  v37 := Tryz.zeroValue29
  t127 := Tryz.underlying208
  a127 := Tryz.isAgg208
  z127 := Tryz.sizeOf208
  v127 := Tryz.zeroValue208
  t5 := Tryz.underlying5
  a5 := Tryz.isAgg5
  z5 := Tryz.sizeOf5
  v5 := Tryz.zeroValue5
  i0 := by kernel_rfl
  i3 := by kernel_rfl
  i4 := by kernel_rfl
  i5 := by kernel_rfl
  i9 := by kernel_rfl
  i37 := by kernel_rfl
  i127 := by kernel_rfl }
def Tryz.lSortF_ren : Go.Shelf.Ren := ⟨fun | 6 => 104 | 15 => 111 | 14 => 119 | 28 => 130 | 29 => 131 | 20 => 141 | 21 => 142 | 22 => 143 | 23 => 144 | 24 => 145 | 25 => 146 | 26 => 147 | 27 => 148 | 46 => 159 | 47 => 150 | 48 => 151 | 49 => 160 | 50 => 161 | 57 => 164 | n => n, fun | 22 => 52 | 24 => 70 | 25 => 150 | 3 => 3 | 39 => 49 | 0 => 0 | 53 => 219 | 55 => 92 | 4 => 4 | 46 => 211 | 45 => 210 | 50 => 216 | 5 => 5 | 9 => 9 | 66 => 231 | 70 => 235 | 76 => 241 | 77 => 242 | n => n, fun | n => n⟩
theorem Tryz.lSortF : Go.Proofs.SlLaysF0.n6 Tryz.prog Tryz.lSortF_ren := {
  mixed := by kernel_rfl
  f6 := ⟨Tryz.f104.name, by decide, Tryz.func104.trans (congrArg some (by kernel_rfl))⟩
  f14 := ⟨Tryz.f119.name, by decide, Tryz.func119.trans (congrArg some (by kernel_rfl))⟩
  f15 := Tryz.func111.trans (congrArg some (by kernel_rfl))
  f20 := ⟨Tryz.f141.name, by decide, Tryz.func141.trans (congrArg some (by kernel_rfl))⟩
  f21 := ⟨Tryz.f142.name, by decide, Tryz.func142.trans (congrArg some (by kernel_rfl))⟩
  f22 := ⟨Tryz.f143.name, by decide, Tryz.func143.trans (congrArg some (by kernel_rfl))⟩
  f23 := ⟨Tryz.f144.name, by decide, Tryz.func144.trans (congrArg some (by kernel_rfl))⟩
  f24 := ⟨Tryz.f145.name, by decide, Tryz.func145.trans (congrArg some (by kernel_rfl))⟩
  f25 := ⟨Tryz.f146.name, by decide, Tryz.func146.trans (congrArg some (by kernel_rfl))⟩
  f26 := ⟨Tryz.f147.name, by decide, Tryz.func147.trans (congrArg some (by kernel_rfl))⟩
  f27 := ⟨Tryz.f148.name, by decide, Tryz.func148.trans (congrArg some (by kernel_rfl))⟩
  f28 := Tryz.func130.trans (congrArg some (by kernel_rfl))
  f29 := Tryz.func131.trans (congrArg some (by kernel_rfl))
  f46 := ⟨Tryz.f159.name, by decide, Tryz.func159.trans (congrArg some (by kernel_rfl))⟩
  f47 := Tryz.func150.trans (congrArg some (by kernel_rfl))
  f48 := Tryz.func151.trans (congrArg some (by kernel_rfl))
  f49 := ⟨Tryz.f160.name, by decide, Tryz.func160.trans (congrArg some (by kernel_rfl))⟩
  f50 := ⟨Tryz.f161.name, by decide, Tryz.func161.trans (congrArg some (by kernel_rfl))⟩
  f57 := ⟨Tryz.f164.name, by decide, Tryz.func164.trans (congrArg some (by kernel_rfl))⟩
  t0 := Tryz.underlying0
  a0 := Tryz.isAgg0
  z0 := Tryz.sizeOf0
  v0 := Tryz.zeroValue0
  t3 := Tryz.underlying3
  a3 := Tryz.isAgg3
  z3 := Tryz.sizeOf3
  v3 := Tryz.zeroValue3
  t4 := Tryz.underlying4
  a4 := Tryz.isAgg4
  z4 := Tryz.sizeOf4
  v4 := Tryz.zeroValue4
  t5 := Tryz.underlying5
  a5 := Tryz.isAgg5
  z5 := Tryz.sizeOf5
  v5 := Tryz.zeroValue5
  t9 := Tryz.underlying9
  a9 := Tryz.isAgg9
  z9 := Tryz.sizeOf9
  v9 := Tryz.zeroValue9
  t22 := Tryz.underlying52
  a22 := Tryz.isAgg52
  z22 := Tryz.sizeOf52
  v22 := Tryz.zeroValue52
  t25 := Tryz.underlying150
  a25 := Tryz.isAgg150
  z25 := Tryz.sizeOf150
  v25 := Tryz.zeroValue150
  t39 := Tryz.underlying49
  a39 := Tryz.isAgg49
  z39 := Tryz.sizeOf49
  v39 := Tryz.zeroValue49
  t45 := Tryz.underlying210
  a45 := Tryz.isAgg210
  z45 := Tryz.sizeOf210
  v45 := Tryz.zeroValue210
  t46 := Tryz.underlying211
  a46 := Tryz.isAgg211
  z46 := Tryz.sizeOf211
  v46 := Tryz.zeroValue211
  t50 := Tryz.underlying216
  a50 := Tryz.isAgg216
  z50 := Tryz.sizeOf216
  v50 := Tryz.zeroValue216
  t53 := Tryz.underlying219
  a53 := Tryz.isAgg219
  z53 := Tryz.sizeOf219
  v53 := Tryz.zeroValue219
  t55 := Tryz.underlying92
  a55 := Tryz.isAgg92
  z55 := Tryz.sizeOf92
  v55 := Tryz.zeroValue92
  t66 := Tryz.underlying231
  a66 := Tryz.isAgg231
  z66 := Tryz.sizeOf231
  v66 := Tryz.zeroValue231
  t70 := Tryz.underlying235
  a70 := Tryz.isAgg235
  z70 := Tryz.sizeOf235
  v70 := Tryz.zeroValue235
  t76 := Tryz.underlying241
  a76 := Tryz.isAgg241
  z76 := Tryz.sizeOf241
  v76 := Tryz.zeroValue241
  t77 := Tryz.underlying242
  a77 := Tryz.isAgg242
  z77 := Tryz.sizeOf242
  v77 := Tryz.zeroValue242 }
end Go.Proofs
