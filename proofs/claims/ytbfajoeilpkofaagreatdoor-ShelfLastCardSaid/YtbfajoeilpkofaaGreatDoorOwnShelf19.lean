/- Which places the root page tells: the walk. -/
import Derived.Test.YtbfajoeilpkofaaGreatDoorOwnShelf18
import Derived.Deep.CutBlock
import Derived.Deep.DeepCutAuto
import Derived.Test.YtbfajoeilpkofaaGreatDoorOwnShelf12
namespace Go.Proofs.YtbfajoeilpkofaaGreatDoor
open Go.RowKit

attribute [local go_sem ↓] Go.wp_at_zero Go.wp_at_succ

/-- What readRoot tells. -/
def RrR (w : World) (r : Option (List Int)) (e : Ending) (w' : World) : Prop :=
  ((r = none ∧ e = .returned (.tuple #[.slice none 0 0, .iface 72 (.int .i64 14)])) ∨ ∃ ps ad cap, r = some ps ∧ e = .returned (.tuple #[.slice ad ps.length cap, .nilIface]) ∧ IsL w' ad ps) ∧ Below w.heap.size w w'
/-- Numbers read so far, noughts behind them. -/
def rowN (v : Nat → Int) (i k : Nat) : List Int := (List.range k).map fun j => if j < i then v j else 0
theorem rowN_set (v : Nat → Int) (i k : Nat) : (rowN v i k).set i (v i) = rowN v (i + 1) k := by
  unfold rowN
  apply List.ext_getElem
  · simp
  · intro j h1 h2
    rw [List.getElem_set]
    simp only [List.getElem_map, List.getElem_range]
    split
    · rename_i e; subst e; simp
    · rename_i e
      by_cases h : j < i
      · rw [if_pos h, if_pos (by omega)]
      · rw [if_neg h, if_neg (by omega)]
theorem rowN_all (v : Nat → Int) (k : Nat) : rowN v k k = (List.range k).map v := by
  unfold rowN
  apply List.map_congr_left
  intro j hj
  rw [if_pos (by simpa using hj)]
theorem make_row (k : Nat) (hk : k ≤ 1000000) (v : Nat → Int) (w : World) : (Instr.makeSlice 63 (.int .i64 (k : Int)) (.int .i64 (k : Int))).run Tryz.prog w = .ok (.slice (some ⟨w.heap.size, 0, none⟩) k k) (w.alloc (.cells ((rowN v 0 k).map (Value.int .i64)).toArray 3)) := by
  obtain ⟨i0, hi0, hz0, hz1, hz2⟩ := info_parts infoInt
  have h := run_make (P := Tryz.prog) w 63 3 i0 (.int .i64 0) Tryz.underlying63 hi0 hz0 .i64 .i64 (k : Int) (k : Int) (by omega) (Int.le_refl _) (by rw [hz2]; omega) (by omega)
  have e : madeCells (Value.int .i64 0).cells k = ((rowN v 0 k).map (Value.int .i64)).toArray := by
    apply Array.toList_inj.1
    simp only [madeCells, rowN]
    apply List.ext_getElem
    · simp
    · intro j h1 h2
      simp [Value.cells, Nat.mod_one]
  rw [h]
  simp only [Int.toNat_natCast, hz1, Nat.mul_one, e]
/-- While numbers are read. -/
structure RdI (w wr : World) (rb pb k i : Nat) (most : Int) (q : Option (List Int)) : Prop where
  rs : RS wr rb (stN most i q)
  row : wr.heap[pb]? = some (.cells ((rowN (fun j => vlN most j q) i k).map (Value.int .i64)).toArray 3 (0, 0))
  below : Below w.heap.size w wr
set_option maxRecDepth 100000 in
set_option maxHeartbeats 3200000 in
theorem readRoot_any (sh m p fr n N : Nat) (L : List Lf) (dead : Int) (G : Nat → Prop) (c : Ct) (w : World) (h : ShAt w sh m p fr n L dead) (hc : CtAt w G p c) (ho : c.Ok N) (hN : fr + n ≤ N) :
    Calls Tryz.prog 35 #[.pointer (some ⟨sh, 0, none⟩)] w (RrR w (rootR ((n - 1 : Nat) : Int) (c.last (fr : Int)))) := by
  have c0 := h.c0
  have c1 := h.c1
  have c2 := h.c2
  have lsh := h.lt
  have hn := h.count
  have hrd := read_ct G p c N (fr : Int) w.drew (hc.below (Below.refl _ _).drew) ho (by omega)
  have HS : Hid (∀ w' : World, Below w.drew.heap.size w.drew w' → w'.cell? ⟨sh, 0, none⟩ = some (.pointer (some ⟨p, 0, none⟩)) ∧ w'.cell? ⟨sh, 1, none⟩ = some (.int .i64 (fr : Int)) ∧ w'.cell? ⟨sh, 2, none⟩ = some (.int .i64 (n : Int))) := fun w' hb => by
    have h1 := hb.block sh lsh
    exact ⟨by rw [World.cell?_of_block (a := ⟨sh, 0, none⟩) h1]; exact c0, by rw [World.cell?_of_block (a := ⟨sh, 1, none⟩) h1]; exact c1, by rw [World.cell?_of_block (a := ⟨sh, 2, none⟩) h1]; exact c2⟩
  have hbl := hc.last_le (fr : Int)
  generalize c.last (fr : Int) = b at *
  clear h hc ho c0 c1 c2
  go_enter Tryz.func35, Tryz.ntmps35
  go_upto_region 1 with fail
  refine wp_region_noPanic ?_
  refine wp_region_held_drew (S := fun w' => w'.cell? ⟨sh, 0, none⟩ = some (.pointer (some ⟨p, 0, none⟩)) ∧ w'.cell? ⟨sh, 1, none⟩ = some (.int .i64 (fr : Int)) ∧ w'.cell? ⟨sh, 2, none⟩ = some (.int .i64 (n : Int))) (by kernel_rfl) (HS.out _ (Below.refl _ _)) (fun hHeld => ?_)
  refine wpAnyH_take (i := 0) (oi := { dst := some 11, op := Go.Op.move (Go.Operand.tmp 0), type := 31, pos := "shelf.go:122", after := #[], guard := none }) (v := ?_) rfl (by kernel_rfl) (by kernel_rfl) (by kernel_rfl) (fun _ _ _ h => h) (Or.inl ⟨by rfl, ?_⟩) (by assumption) ?_
  rotate_left
  · intro wz hSw; (try dsimp only at hSw); go_simp; (try with_reducible rfl)
  try simp only [Act.put, List.setIfInBounds_toArray, List.set_cons_zero, List.set_cons_succ]
  refine wpAnyH_take (i := 1) (oi := { dst := some 12, op := Go.Op.nilCheck (Go.Operand.tmp 11), type := 0, pos := "shelf.go:122", after := #[{ on := 0, ground := Go.Ground.data }], guard := none }) (v := ?_) rfl (by kernel_rfl) (by kernel_rfl) (by kernel_rfl) (fun _ _ _ h => h) (Or.inl ⟨by rfl, ?_⟩) (by assumption) ?_
  rotate_left
  · intro wz hSw; (try dsimp only at hSw); go_simp; (try with_reducible rfl)
  try simp only [Act.put, List.setIfInBounds_toArray, List.set_cons_zero, List.set_cons_succ]
  refine wpAnyH_take (i := 2) (oi := { dst := some 13, op := Go.Op.fieldAddr 83 (Go.Operand.tmp 12) 0, type := 0, pos := "shelf.go:122", after := #[{ on := 1, ground := Go.Ground.data }], guard := none }) (v := ?_) rfl (by kernel_rfl) (by kernel_rfl) (by kernel_rfl) (fun _ _ _ h => h) (Or.inl ⟨by rfl, ?_⟩) (by assumption) ?_
  rotate_left
  · intro wz hSw; (try dsimp only at hSw); go_simp; (try with_reducible rfl)
  try simp only [Act.put, List.setIfInBounds_toArray, List.set_cons_zero, List.set_cons_succ]
  refine wpAnyH_take (i := 3) (oi := { dst := some 14, op := Go.Op.load 24 (Go.Operand.tmp 13), type := 24, pos := "shelf.go:122", after := #[{ on := 2, ground := Go.Ground.data }], guard := none }) (v := .pointer (some ⟨p, 0, none⟩)) rfl (by kernel_rfl) (by kernel_rfl) (by kernel_rfl) (fun _ _ _ h => h) (Or.inl ⟨by rfl, ?_⟩) (by assumption) ?_
  · intro wz hSw; (try dsimp only at hSw); have h1 := hSw.1; go_simp; try rfl
  try simp only [Act.put, List.setIfInBounds_toArray, List.set_cons_zero, List.set_cons_succ]
  refine wpAnyH_take (i := 4) (oi := { dst := some 15, op := Go.Op.move (Go.Operand.tmp 0), type := 31, pos := "shelf.go:122", after := #[], guard := none }) (v := ?_) rfl (by kernel_rfl) (by kernel_rfl) (by kernel_rfl) (fun _ _ _ h => h) (Or.inl ⟨by rfl, ?_⟩) (by assumption) ?_
  rotate_left
  · intro wz hSw; (try dsimp only at hSw); go_simp; (try with_reducible rfl)
  try simp only [Act.put, List.setIfInBounds_toArray, List.set_cons_zero, List.set_cons_succ]
  refine wpAnyH_take (i := 5) (oi := { dst := some 16, op := Go.Op.nilCheck (Go.Operand.tmp 15), type := 0, pos := "shelf.go:122", after := #[{ on := 4, ground := Go.Ground.data }], guard := none }) (v := ?_) rfl (by kernel_rfl) (by kernel_rfl) (by kernel_rfl) (fun _ _ _ h => h) (Or.inl ⟨by rfl, ?_⟩) (by assumption) ?_
  rotate_left
  · intro wz hSw; (try dsimp only at hSw); go_simp; (try with_reducible rfl)
  try simp only [Act.put, List.setIfInBounds_toArray, List.set_cons_zero, List.set_cons_succ]
  refine wpAnyH_take (i := 6) (oi := { dst := some 17, op := Go.Op.fieldAddr 83 (Go.Operand.tmp 16) 1, type := 0, pos := "shelf.go:122", after := #[{ on := 5, ground := Go.Ground.data }], guard := none }) (v := ?_) rfl (by kernel_rfl) (by kernel_rfl) (by kernel_rfl) (fun _ _ _ h => h) (Or.inl ⟨by rfl, ?_⟩) (by assumption) ?_
  rotate_left
  · intro wz hSw; (try dsimp only at hSw); go_simp; (try with_reducible rfl)
  try simp only [Act.put, List.setIfInBounds_toArray, List.set_cons_zero, List.set_cons_succ]
  refine wpAnyH_take (i := 7) (oi := { dst := some 18, op := Go.Op.fieldAddr 35 (Go.Operand.tmp 17) 0, type := 0, pos := "shelf.go:122", after := #[{ on := 6, ground := Go.Ground.data }], guard := none }) (v := ?_) rfl (by kernel_rfl) (by kernel_rfl) (by kernel_rfl) (fun _ _ _ h => h) (Or.inl ⟨by rfl, ?_⟩) (by assumption) ?_
  rotate_left
  · intro wz hSw; (try dsimp only at hSw); go_simp; (try with_reducible rfl)
  try simp only [Act.put, List.setIfInBounds_toArray, List.set_cons_zero, List.set_cons_succ]
  refine wpAnyH_take (i := 8) (oi := { dst := some 19, op := Go.Op.load 3 (Go.Operand.tmp 18), type := 3, pos := "shelf.go:122", after := #[{ on := 7, ground := Go.Ground.data }], guard := none }) (v := .int .i64 (fr : Int)) rfl (by kernel_rfl) (by kernel_rfl) (by kernel_rfl) (fun _ _ _ h => h) (Or.inl ⟨by rfl, ?_⟩) (by assumption) ?_
  · intro wz hSw; (try dsimp only at hSw); have h1 := hSw.2.1; go_simp; try rfl
  try simp only [Act.put, List.setIfInBounds_toArray, List.set_cons_zero, List.set_cons_succ]
  refine wpAnyH_ready (rs := [9]) (by kernel_rfl) (by simp) ?_
  refine (AllReadyH.cons (o := { dst := some 20, op := Go.Op.call { callee := Go.Callee.value (Go.Operand.func 23), args := #[Go.Operand.tmp 14, Go.Operand.tmp 19], argTypes := #[24, 3] }, type := 56, pos := "shelf.go:122", after := #[{ on := 3, ground := Go.Ground.data }, { on := 8, ground := Go.Ground.data }], guard := none }) rfl (fun K hK => ?_) AllReadyH.nil)
  go_simp
  refine hrd.mono ?_
  rintro e w1 ⟨ad1, cap1, rfl, hO1⟩
  have hb1 : Below w.drew.heap.size w.drew w1 := hO1.below
  refine hK.out _ _ (HS.out w1 hb1) (fun _ => ?_)
  clear hK K
  try simp only [Act.put, List.setIfInBounds_toArray, List.set_cons_zero, List.set_cons_succ]
  refine wpAnyH_take (i := 10) (oi := { dst := some 10, op := Go.Op.move (Go.Operand.tmp 20), type := 56, pos := "shelf.go:122", after := #[{ on := 9, ground := Go.Ground.data }], guard := none }) (v := ?_) rfl (by kernel_rfl) (by kernel_rfl) (by kernel_rfl) (fun _ _ _ h => h) (Or.inl ⟨by rfl, ?_⟩) (by assumption) ?_
  rotate_left
  · intro wz hSw; (try dsimp only at hSw); go_simp; (try with_reducible rfl)
  try simp only [Act.put, List.setIfInBounds_toArray, List.set_cons_zero, List.set_cons_succ]
  refine wpAnyH_take (i := 11) (oi := { dst := some 21, op := Go.Op.extract (Go.Operand.tmp 10) 0, type := 29, pos := "shelf.go:122", after := #[{ on := 10, ground := Go.Ground.data }], guard := none }) (v := ?_) rfl (by kernel_rfl) (by kernel_rfl) (by kernel_rfl) (fun _ _ _ h => h) (Or.inl ⟨by rfl, ?_⟩) (by assumption) ?_
  rotate_left
  · intro wz hSw; (try dsimp only at hSw); go_simp; (try with_reducible rfl)
  try simp only [Act.put, List.setIfInBounds_toArray, List.set_cons_zero, List.set_cons_succ]
  refine wpAnyH_take (i := 12) (oi := { dst := some 22, op := Go.Op.extract (Go.Operand.tmp 10) 1, type := 26, pos := "shelf.go:122", after := #[{ on := 10, ground := Go.Ground.data }, { on := 13, ground := Go.Ground.gcOnly Go.Departure.lateStores }], guard := none }) (v := ?_) rfl (by kernel_rfl) (by kernel_rfl) (by kernel_rfl) (fun _ _ _ h => h) (Or.inl ⟨by rfl, ?_⟩) (by assumption) ?_
  rotate_left
  · intro wz hSw; (try dsimp only at hSw); go_simp; (try with_reducible rfl)
  try simp only [Act.put, List.setIfInBounds_toArray, List.set_cons_zero, List.set_cons_succ]
  refine wpAnyH_take (i := 13) (oi := { dst := some 4, op := Go.Op.assign (Go.Operand.tmp 21), type := 29, pos := "shelf.go:122", after := #[{ on := 11, ground := Go.Ground.data }, { on := 9, ground := Go.Ground.chain }, { on := 0, ground := Go.Ground.phase }, { on := 1, ground := Go.Ground.phase }, { on := 2, ground := Go.Ground.phase }, { on := 3, ground := Go.Ground.phase }, { on := 4, ground := Go.Ground.phase }, { on := 5, ground := Go.Ground.phase }, { on := 6, ground := Go.Ground.phase }, { on := 7, ground := Go.Ground.phase }, { on := 8, ground := Go.Ground.phase }, { on := 9, ground := Go.Ground.phase }, { on := 10, ground := Go.Ground.phase }, { on := 11, ground := Go.Ground.phase }, { on := 12, ground := Go.Ground.textOnly Go.Departure.lateStores }], guard := none }) (v := ?_) rfl (by kernel_rfl) (by kernel_rfl) (by kernel_rfl) (fun _ _ _ h => h) (Or.inl ⟨by rfl, ?_⟩) (by assumption) ?_
  rotate_left
  · intro wz hSw; (try dsimp only at hSw); go_simp; (try with_reducible rfl)
  try simp only [Act.put, List.setIfInBounds_toArray, List.set_cons_zero, List.set_cons_succ]
  refine wpAnyH_take (i := 14) (oi := { dst := some 5, op := Go.Op.assign (Go.Operand.tmp 22), type := 26, pos := "shelf.go:122", after := #[{ on := 12, ground := Go.Ground.data }, { on := 13, ground := Go.Ground.chain }, { on := 0, ground := Go.Ground.phase }, { on := 1, ground := Go.Ground.phase }, { on := 2, ground := Go.Ground.phase }, { on := 3, ground := Go.Ground.phase }, { on := 4, ground := Go.Ground.phase }, { on := 5, ground := Go.Ground.phase }, { on := 6, ground := Go.Ground.phase }, { on := 7, ground := Go.Ground.phase }, { on := 8, ground := Go.Ground.phase }, { on := 9, ground := Go.Ground.phase }, { on := 10, ground := Go.Ground.phase }, { on := 11, ground := Go.Ground.phase }, { on := 12, ground := Go.Ground.phase }, { on := 13, ground := Go.Ground.phase }], guard := none }) (v := ?_) rfl (by kernel_rfl) (by kernel_rfl) (by kernel_rfl) (fun _ _ _ h => h) (Or.inl ⟨by rfl, ?_⟩) (by assumption) ?_
  rotate_left
  · intro wz hSw; (try dsimp only at hSw); go_simp; (try with_reducible rfl)
  try simp only [Act.put, List.setIfInBounds_toArray, List.set_cons_zero, List.set_cons_succ]
  refine wpAnyH_done (by kernel_rfl) (NoPanic.normal ?_) _
  try simp only [Act.put, List.setIfInBounds_toArray, List.set_cons_zero, List.set_cons_succ]
  have hB1 : Below w.heap.size w w1 := Below.transS (Below.refl _ _).drew hb1
  have HB1 : Hid (Below w.heap.size w w1) := hB1
  have e2 := (HS.out w1 hb1).2.2
  have hFr := hO1.fresh
  have hbd1 : ∀ y, y ∈ b → 0 ≤ y ∧ y ≤ 255 := hO1.bd
  have HBd : Hid (∀ y, y ∈ b → 0 ≤ y ∧ y ≤ 255) := hbd1
  have HSl : Hid (SlAt w1 ad1 b.length (fn b) ∧ (ad1 = none → b.length = 0 ∧ cap1 = 0)) := ⟨hFr.2.1, hFr.2.2.1⟩
  clear hO1 hb1 hB1 hrd hHeld HS hFr hbd1
  obtain ⟨R, hR⟩ : ∃ R, rootR ((n - 1 : Nat) : Int) b = R := ⟨_, rfl⟩
  have HR : Hid (rootR ((n - 1 : Nat) : Int) b = R) := hR
  have lsh1 : sh < w1.heap.size := Nat.lt_of_lt_of_le lsh HB1.out.size
  clear hR
  by_cases b0 : b.length = 0
  · have b0' : ((b.length : Int) == 0) = true := by simp [b0]
    have HE : Hid (RrR w (rootR ((n - 1 : Nat) : Int) b) (.returned (.tuple #[.slice none 0 0, .nilIface])) w1) := by
      refine ⟨.inr ⟨[], none, 0, ?_, rfl, fun h => by cases h⟩, HB1.out⟩
      rw [rootR, if_pos b0]
    clear b0
    go_wp2
    go_ret2
    exact HE.out
  · have b0' : ((b.length : Int) == 0) = false := by simp; exact fun e => b0 (by rw [e]; rfl)
    have hre := readE_rs ad1 cap1 b w1 HSl.out.1 HSl.out.2 (by omega)
    go_wp2_with fail
    refine hre.mono ?_
    rintro e w2 ⟨rb, rfl, hRS2, hrb, hb2⟩
    have e22 : w2.cell? ⟨sh, 2, none⟩ = some (.int .i64 (n : Int)) := by rw [hb2.cell (p := ⟨sh, 2, none⟩) lsh1]; exact e2
    have hsub : IntKind.i64.wrap ((n : Int) - 1) = ((n - 1 : Nat) : Int) := by rw [IntKind.wrap_i64]; omega
    have hct := count_rs rb ((n - 1 : Nat) : Int) b w2 hRS2 (by omega)
    have hQb : QBd ((countR ((n - 1 : Nat) : Int) b).map Prod.snd) ∧ 0 ≤ ((countR ((n - 1 : Nat) : Int) b).map Prod.fst).getD 0 ∧ ((countR ((n - 1 : Nat) : Int) b).map Prod.fst).getD 0 ≤ ((n - 1 : Nat) : Int) := by
      cases hcr : countR ((n - 1 : Nat) : Int) b with
      | none => exact ⟨(fun l e => by cases e), by simp, by simp⟩
      | some x =>
        have := countR_bd (by omega) HBd.out hcr
        exact ⟨(fun l e => by cases e; exact this.2.2), by simpa using this.1, by simpa using this.2.1⟩
    have hRR : R = if endsR (stN ((n - 1 : Nat) : Int) (((countR ((n - 1 : Nat) : Int) b).map Prod.fst).getD 0).toNat ((countR ((n - 1 : Nat) : Int) b).map Prod.snd)) = true ∧ riseI 0 (vals ((n - 1 : Nat) : Int) (((countR ((n - 1 : Nat) : Int) b).map Prod.fst).getD 0).toNat ((countR ((n - 1 : Nat) : Int) b).map Prod.snd)) = true
      then some (vals ((n - 1 : Nat) : Int) (((countR ((n - 1 : Nat) : Int) b).map Prod.fst).getD 0).toNat ((countR ((n - 1 : Nat) : Int) b).map Prod.snd)) else none := by rw [← HR.out, rootR, if_neg b0]
    obtain ⟨k, hk⟩ : ∃ k : Nat, ((countR ((n - 1 : Nat) : Int) b).map Prod.fst).getD 0 = (k : Int) := ⟨_, (Int.toNat_of_nonneg hQb.2.1).symm⟩
    have hkl : (k : Int) ≤ ((n - 1 : Nat) : Int) := by rw [← hk]; exact hQb.2.2
    rw [hk] at hct hRR
    rw [Int.toNat_natCast] at hRR
    have HQ : Hid (QBd ((countR ((n - 1 : Nat) : Int) b).map Prod.snd)) := hQb.1
    generalize (countR ((n - 1 : Nat) : Int) b).map Prod.snd = q at *
    have HRR : Hid (R = if endsR (stN ((n - 1 : Nat) : Int) k q) = true ∧ riseI 0 (vals ((n - 1 : Nat) : Int) k q) = true then some (vals ((n - 1 : Nat) : Int) k q) else none) := hRR
    have HB2 : Hid (Below w.heap.size w w2 ∧ w.heap.size ≤ rb) := ⟨Below.transS HB1.out hb2, Nat.le_trans HB1.out.size hrb⟩
    clear hre hRS2 hrb hb2 hQb hk hRR e2 b0
    generalize hnl : n - 1 = nl at *
    go_wp2_with fail
    refine hct.mono ?_
    rintro e w3 ⟨rfl, hF3, hRS3⟩
    have hmk := make_row k (by omega) (fun j => vlN (nl : Int) j q) w3
    have hb3 : Below w.heap.size w w3 := HB2.out.1.trans (hF3.below HB2.out.1.size (by simpa using HB2.out.2))
    have hbA : Below w3.heap.size w3 (w3.alloc (.cells ((rowN (fun j => vlN (nl : Int) j q) 0 k).map (Value.int .i64)).toArray 3)) := (Below.refl _ w3).alloc (Nat.le_refl _) _
    have hI0 : RdI w (w3.alloc (.cells ((rowN (fun j => vlN (nl : Int) j q) 0 k).map (Value.int .i64)).toArray 3)) rb w3.heap.size k 0 (nl : Int) q := ⟨hRS3.keep hbA, heap_alloc_new w3 _, Below.transS hb3 hbA⟩
    have hrp : rb < w3.heap.size := hRS3.lt
    have hwp : w.heap.size ≤ w3.heap.size := hb3.size
    have hun : IntKind.u64.wrap (nl : Int) = (nl : Int) := by simp [IntKind.wrap, IntKind.bits, IntKind.signed]; omega
    clear hct hF3 hRS3 hb3 hbA
    go_wp2
    generalize w3.heap.size = pb at *
    clear hmk
    go_loopw [45] (fun iv wr => ∃ i : Nat, i ≤ k ∧ iv = .int .i64 i ∧ RdI w wr rb pb k i (nl : Int) q) (fun iv _ => k - (intOf iv).toNat)
    case atStart => exact ⟨0, Nat.zero_le _, rfl, hI0⟩
    case round =>
      clear hI0
      obtain ⟨i, hi, rfl, hI⟩ := hrel
      by_cases hlt : i < k
      · have hlt' : (i : Int) < k := by omega
        have hv := vlN_bd (most := (nl : Int)) (by omega) HQ.out i
        have hui := uint_rs rb (nl : Int) (stN (nl : Int) i q) wr hI.rs
        have hval : ((((stN (nl : Int) i q).bind (uintR (nl : Int))).map Prod.fst).getD 0) = vlN (nl : Int) i q := rfl
        have hst : (((stN (nl : Int) i q).bind (uintR (nl : Int))).map Prod.snd) = stN (nl : Int) (i + 1) q := rfl
        rw [hval, hst] at hui
        have HI : Hid (RdI w wr rb pb k i (nl : Int) q) := hI
        have HN : Hid (∀ w5, Frm [rb] wr w5 → RS w5 rb (stN (nl : Int) (i + 1) q) → RdI w (w5.setCell ⟨pb, i, none⟩ (.int .i64 (vlN (nl : Int) i q))) rb pb k (i + 1) (nl : Int) q ∧ w5.cell? ⟨pb, i, none⟩ = some (.int .i64 ((rowN (fun j => vlN (nl : Int) j q) i k).getD i 0)) ∧ w5.frozen? ⟨pb, i, none⟩ = false) := fun w5 hF hR5 => by
          have hr5 := hF.heap HI.out.row (by simp; omega)
          refine ⟨⟨hR5.frm (S := [pb]) ((Frm.refl _ _).setCell _ _ (by simp)) (by simpa using hrp), ?_, ?_⟩, ?_, frozen_of_row _ _ _ _ _ hr5⟩
          · rw [heap_setCell_same _ _ _ _ _ _ hr5, ← rowN_set]
            congr 2
            apply Array.toList_inj.1
            simp [List.map_set]
          · exact (HI.out.below.trans (hF.below HI.out.below.size (by simpa using HB2.out.2))).setCell (p := ⟨pb, i, none⟩) hwp _
          · rw [cell_of_row _ _ i _ _ _ hr5]
            have : i < (rowN (fun j => vlN (nl : Int) j q) i k).length := by simpa [rowN] using hlt
            simp [this]
        clear hI hval hst
        generalize vlN (nl : Int) i q = x at *
        have hix : IntKind.i64.wrap x = x := by rw [IntKind.wrap_i64]; omega
        go_wp2_with fail
        refine hui.mono ?_
        rintro e w5 ⟨rfl, hF5, hR5⟩
        obtain ⟨n1, n2, n3⟩ := HN.out w5 hF5 hR5
        have HN1 : Hid (RdI w (w5.setCell ⟨pb, i, none⟩ (.int .i64 x)) rb pb k (i + 1) (nl : Int) q) := n1
        clear n1 hF5 hR5 hui HI HN
        generalize (rowN (fun j => vlN (nl : Int) j q) i k).getD i 0 = old at *
        go_wp2
        refine ⟨⟨i + 1, by omega, by go_num, HN1.out⟩, by simp [intOf]; omega⟩
      · obtain rfl : i = k := by omega
        have hlt' : ¬ ((i : Int) < i) := by omega
        have hdn := done_rs rb _ wr hI.rs
        have hL : IsL wr (some ⟨pb, 0, none⟩) (vals (nl : Int) i q) := fun _ => ⟨pb, 0, rfl, fun j x hx => by
          rw [Nat.zero_add, cell_of_row _ _ j _ _ _ hI.row, rowN_all]
          have e1 : (List.range i).map (fun j => vlN (nl : Int) j q) = vals (nl : Int) i q := rfl
          rw [e1]
          simp [hx]⟩
        have hri := rise_any (some ⟨pb, 0, none⟩) i (vals (nl : Int) i q) wr hL (by rw [vals_length]; omega)
        rw [vals_length] at hri
        have HL : Hid (IsL wr (some ⟨pb, 0, none⟩) (vals (nl : Int) i q)) := hL
        have HBw : Hid (Below w.heap.size w wr) := hI.below
        have hvl := vals_length (nl : Int) i q
        clear hI hL
        generalize stN (nl : Int) i q = qe at *
        generalize vals (nl : Int) i q = V at *
        have hdn' : Calls Tryz.prog 62 #[.pointer (some ⟨rb, 0, none⟩)] wr fun e w' => ((endsR qe = true ∧ e = .returned .nilIface) ∨ (endsR qe = false ∧ ∃ x, e = .returned (.iface 72 (.int .i64 x)))) ∧ w' = wr := hdn.mono fun e w' hh => by
          obtain ⟨⟨x, rfl, hx⟩, rfl⟩ := hh
          refine ⟨?_, rfl⟩
          by_cases h0 : x = 0
          · subst h0; exact .inl ⟨hx.2 rfl, rfl⟩
          · refine .inr ⟨?_, x, by rw [errV_ne h0]⟩
            cases he : endsR qe with
            | true => exact absurd (hx.1 he) h0
            | false => rfl
        clear hdn
        go_wp2_with fail
        refine hdn'.mono ?_
        rintro e w6 ⟨⟨he, rfl⟩ | ⟨he, x, rfl⟩, rfl⟩
        · go_wp2_with fail
          refine hri.mono ?_
          rintro e w7 ⟨rfl, rfl⟩
          cases hrs : riseI 0 V with
          | true =>
            have HE : Hid (RrR w (rootR (nl : Int) b) (.returned (.tuple #[.slice (some ⟨pb, 0, none⟩) i i, .nilIface])) w7) := by
              refine ⟨.inr ⟨V, some ⟨pb, 0, none⟩, i, ?_, by rw [hvl], HL.out⟩, HBw.out⟩
              rw [HR.out, HRR.out, if_pos ⟨he, hrs⟩]
            clear hri hdn'
            go_wp2
            go_ret2
            exact HE.out
          | false =>
            have HE : Hid (RrR w (rootR (nl : Int) b) (.returned (.tuple #[.slice none 0 0, .iface 72 (.int .i64 14)])) w7) := by
              refine ⟨.inl ⟨?_, rfl⟩, HBw.out⟩
              rw [HR.out, HRR.out, if_neg (by simp [hrs])]
            clear hri hdn'
            go_wp2
            go_ret2
            exact HE.out
        · have HE : Hid (RrR w (rootR (nl : Int) b) (.returned (.tuple #[.slice none 0 0, .iface 72 (.int .i64 14)])) w6) := by
            refine ⟨.inl ⟨?_, rfl⟩, HBw.out⟩
            rw [HR.out, HRR.out, if_neg (by simp [he])]
          clear hri hdn'
          go_wp2
          go_ret2
          exact HE.out
end Go.Proofs.YtbfajoeilpkofaaGreatDoor
/- A shelf's Get. -/
namespace Go.Proofs.YtbfajoeilpkofaaGreatDoor
open Go.RowKit Go.Maps Go.Sort

attribute [local go_sem ↓] Go.wp_at_zero Go.wp_at_succ

theorem zeroLf (w : World) : (zeroValue 101).run Tryz.prog w = .ok (.agg #[.int .i64 0, .string ⟨#[]⟩]) w := by kernel_rfl
theorem lfR_zero : lfR (.agg #[.int .i64 0, .string ⟨#[]⟩]) = some (lfD 0 [], []) := by simp [lfR]
/-- What a map of leaves answers at a key. -/
theorem look_lf {w : World} {m : Nat} {L : List Lf} (h : lfM w m L) {k : List UInt8} (hk : k.length ≤ maxLen) :
    ∃ (p : Nat) (u : List UInt8), (Instr.lookup 81 (.map (some m)) (encStr k) true).run Tryz.prog w = .ok (.tuple #[.agg #[.int .i64 (p : Int), encStr u], .bool (getK Lf.k k L).isSome]) w ∧ ((getK Lf.k k L = none ∧ p = 0 ∧ u = []) ∨ ∃ x, getK Lf.k k L = some x ∧ p = x.p ∧ u = x.v) := by
  obtain ⟨v, ps, hrun, hv⟩ := World.ownsMap.look_ok h strK Tryz.underlying81 (zeroLf w) lfR_zero (key_str hk)
  obtain ⟨p, u, rfl, hy⟩ := lfR_inv hv
  rw [dOf_has] at hrun
  rw [dOf_at] at hy
  refine ⟨p, u, hrun, ?_⟩
  have h1 := (Prod.mk.inj hy).1
  cases hg : getK Lf.k k L with
  | none => rw [hg] at h1; have := lfD_inj h1; exact .inl ⟨rfl, this.1.symm, this.2.symm⟩
  | some x => rw [hg] at h1; have := lfD_inj h1; exact .inr ⟨x, rfl, this.1.symm, this.2.symm⟩
def valK (k : List UInt8) (L : List Lf) : List UInt8 := match getK Lf.k k L with | some x => x.v | none => []
set_option maxRecDepth 100000 in
set_option maxHeartbeats 800000 in
theorem get_any (sh m p fr n : Nat) (L : List Lf) (dead : Int) (k : List UInt8) (w : World) (h : ShAt w sh m p fr n L dead) (hk : k.length ≤ maxLen) :
    Calls Tryz.prog 15 #[.pointer (some ⟨sh, 0, none⟩), encStr k] w fun e w' => e = .returned (.tuple #[encStr (valK k L), .bool (getK Lf.k k L).isSome]) ∧ Below w.heap.size w w' := by
  have c3 := h.c3
  obtain ⟨q, u, hrun, hv⟩ := look_lf h.map hk
  have hu : u = valK k L := by
    unfold valK
    rcases hv with ⟨e, _, rfl⟩ | ⟨x, e, _, rfl⟩ <;> rw [e]
  subst hu
  generalize valK k L = u at *
  generalize (getK Lf.k k L).isSome = b at *
  clear h hv
  go_enter Tryz.func15, Tryz.ntmps15
  go_wp2
  go_ret2
  exact ⟨rfl, (by repeat (first | exact Below.refl _ _ | refine Below.alloc ?_ (by simp; try omega) _ | refine Below.setCell ?_ (by simp) _ | refine below_drewN ?_ _ | refine Below.drew ?_))⟩
set_option maxHeartbeats 800000 in
theorem get_nil (k : Value) (w : World) :
    Calls Tryz.prog 15 #[.pointer none, k] w fun e w' => e = .returned (.tuple #[encStr [], .bool false]) ∧ w' = w := by
  go_enter Tryz.func15, Tryz.ntmps15
  go_wp2
  go_ret2
  exact ⟨rfl, rfl⟩
end Go.Proofs.YtbfajoeilpkofaaGreatDoor
