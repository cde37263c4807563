/- tx.Less: which of two points is ahead. -/
import Derived.Test.YtbehkajfckadfaaGreatDoorOwnShelf27
import Derived.Test.YtbehkajfckadfaaGreatDoorOwnShelf12
import Derived.Lib.Bytealg
import Derived.Lib.BytesEntry
namespace Go.Proofs.YtbehkajfckadfaaGreatDoor
open Go.RowKit

theorem run_compareSl (w : World) (x y : Addr) (xs ys : List Int) (c d : Nat) (hx : ∀ j v, xs[j]? = some v → w.cell? (x.add j) = some (.int .u8 v)) (hy : ∀ j v, ys[j]? = some v → w.cell? (y.add j) = some (.int .u8 v)) :
    (Extern.BytealgCompare.compare #[.slice (some x) xs.length c, .slice (some y) ys.length d]).run Tryz.prog w = .ok (.int .i64 (Lib.compareBytes (Lib.bytesOf xs) (Lib.bytesOf ys))) w := by
  change Sem.run Tryz.prog (do pure (goInt (Extern.BytealgCompare.cmp (← Extern.Bytes.bytesOf (.slice (some x) xs.length c)) (← Extern.Bytes.bytesOf (.slice (some y) ys.length d))))) w = _
  have h1 := Lib.run_loadBytesX (P := Tryz.prog) w xs x .empty hx
  have h2 := Lib.run_loadBytesX (P := Tryz.prog) w ys y .empty hy
  simp only [Extern.Bytes.bytesOf, Sem.run_bind, h1, h2, Sem.run_pure, Result.andThen]
  rw [Lib.cmp_eq]
  simp [goInt]
/-- A sum's bytes in a row. -/
def zl (z : Nat → Int) : List Int := (List.range 32).map z
theorem zl_ub (z : Nat → Int) : Lib.bytesOf (zl z) = ub z := by
  simp [Lib.bytesOf, zl, ub]
theorem zl_length (z : Nat → Int) : (zl z).length = 32 := by simp [zl]
theorem zl_cells {w : World} {g : Nat} {z : Nat → Int} {n : Int} (h : w.rangeAt g 0 (ptl z n)) : ∀ j v, (zl z)[j]? = some v → w.cell? ((⟨g, 0, none⟩ : Addr).add j) = some (.int .u8 v) := by
  intro j v hv
  have hj : j < 32 := by simpa [zl_length] using (List.getElem?_eq_some_iff.1 hv).1
  have e : v = z j := by simpa [zl, hj] using hv.symm
  have h1 := h j (.int .u8 (z j)) (by rw [ptl, List.getElem?_append_left (by rw [bl_length]; exact hj), bl_at hj])
  rw [Addr.add_lit, e]
  exact h1
set_option maxRecDepth 100000 in
theorem kcompare_any (g1 g2 : Nat) (z1 z2 : Nat → Int) (n1 n2 : Int) (w : World) (h1 : w.rangeAt g1 0 (ptl z1 n1)) (h2 : w.rangeAt g2 0 (ptl z2 n2)) :
    Calls Tryz.prog 32 #[.slice (some ⟨g1, 0, none⟩) 32 32, .slice (some ⟨g2, 0, none⟩) 32 32] w fun e w' => e = .returned (.int .i64 (Lib.compareBytes (ub z1) (ub z2))) ∧ w' = w := by
  have hr := run_compareSl w ⟨g1, 0, none⟩ ⟨g2, 0, none⟩ (zl z1) (zl z2) 32 32 (zl_cells h1) (zl_cells h2)
  rw [zl_length, zl_length, zl_ub, zl_ub] at hr
  clear h1 h2
  go_enter Tryz.func32, Tryz.ntmps32
  go_wp2
  rw [run_callFunc_extern Tryz.func49 (by kernel_rfl) (by kernel_rfl) (by kernel_rfl) (e := Extern.BytealgCompare.compare) (by kernel_rfl), hr]
  simp only [Result.andThen]
  rw [Oper.upon_value]
  go_wp2
  go_ret
  exact ⟨rfl, rfl⟩
/-- Which of two points is ahead. -/
def lessB (z1 : Nat → Int) (n1 : Int) (z2 : Nat → Int) (n2 : Int) : Bool := if hq z1 z2 = true then decide (n1 < n2) else decide (Lib.compareBytes (ub z1) (ub z2) < 0)
theorem neq_hv {z y : Nat → Int} (hz : ∀ j, j < 32 → 0 ≤ z j ∧ z j ≤ 255) (hy : ∀ j, j < 32 → 0 ≤ y j ∧ y j ≤ 255) (w : World) :
    (binOp .neq 44 (.agg (hv z)) (.agg (hv y))).run Tryz.prog w = .ok (.bool (!hq z y)) w := by
  rw [hv_ub hz, hv_ub hy, run_neq_struct, run_equalIn_bytes w 9998 44 5 32 Tryz.underlying44 Tryz.underlying5 hsz1 (ub z) (ub y) (by simp [ub]) (by simp [ub])]
  rfl
theorem szHl (z : Nat → Int) : (Tryz.prog.info? 44).map (·.size) = some (bl z 32).length := by rw [bl_length]; kernel_rfl
section
variable {ops : Array Oper} {rest : List Oper} {o : Oper} {a : Act} {w : World} {Q : Exit → Act → World → Prop}
theorem wpList_neqH (z y : Nat → Int) (b : Bool) (hb : (!hq z y) = b) (hz : ∀ j, j < 32 → 0 ≤ z j ∧ z j ≤ 255) (hy : ∀ j, j < 32 → 0 ≤ y j ∧ y j ≤ 255) (hgd : o.guard = none) (x u : Operand) (ho : o.op = .binOp .neq 44 x u 44) (hx : a.eval x = .agg (hv z)) (hu : a.eval u = .agg (hv y))
    (h : wpList Tryz.prog ops Q rest (a.put o.dst (.bool b)) w) : wpList Tryz.prog ops Q (o :: rest) a w := by
  refine wpList_plain hgd fun K hK => ?_
  unfold Oper.wp execOp
  simp only [ho, hx, hu, Sem.run_bind, run_eqGuard_agg w .neq 44 x u _ _ guardHs2, neq_hv hz hy, hb, Result.andThen]
  exact hK _ _ h
end
theorem hash_range {w : World} {g : Nat} {z : Nat → Int} {n : Int} (h : w.rangeAt g 0 (ptl z n)) : w.rangeAt g 0 (bl z 32) := fun j v hv => h j v (by rw [ptl, List.getElem?_append_left (List.getElem?_eq_some_iff.1 hv).1]; exact hv)
theorem num_cell {w : World} {g : Nat} {z : Nat → Int} {n : Int} (h : w.rangeAt g 0 (ptl z n)) : w.cell? ⟨g, 32, none⟩ = some (.int .i64 n) := by
  have := h 32 (.int .i64 n) (by rw [ptl, List.getElem?_append_right (by rw [bl_length]; exact Nat.le_refl _), bl_length]; rfl)
  simpa using this
set_option maxRecDepth 100000 in
set_option maxHeartbeats 3200000 in
theorem kless_any (z1 : Nat → Int) (n1 : Int) (z2 : Nat → Int) (n2 : Int) (w : World) (hz1 : ∀ j, j < 32 → 0 ≤ z1 j ∧ z1 j ≤ 255) (hz2 : ∀ j, j < 32 → 0 ≤ z2 j ∧ z2 j ≤ 255) :
    Calls Tryz.prog 16 #[.agg (ptv z1 n1), .agg (ptv z2 n2)] w fun e w' => e = .returned (.bool (lessB z1 n1 z2 n2)) ∧ Below w.heap.size w w' := by
  go_enter Tryz.func16, Tryz.ntmps16
  go_upto_region 1 with (first | (refine wpList_boxN rfl _ _ rfl (ptv z1 n1) rfl ?_; intro v1 N1) | (refine wpList_boxN rfl _ _ rfl (ptv z2 n2) rfl ?_; intro v2 N2) | fail)
  have HR := hidV (And.intro (ptl_range (heap_below N2.below N1.blk)) (ptl_range N2.blk))
  have HB := hidV (Below.transS N1.below N2.below)
  clear N1 N2
  have HH1 := hidV (hash_range HR.out.1)
  have HH2 := hidV (hash_range HR.out.2)
  by_cases hh : hq z1 z2 = true
  · have hb : (!hq z1 z2) = false := by simp [hh]
    have HE : Hid (lessB z1 n1 z2 n2 = decide (n1 < n2)) := if_pos hh
    have c1 := num_cell HR.out.1
    have c2 := num_cell HR.out.2
    clear hh
    go_wp2_with (first | (refine wpList_load_mid rfl 44 _ rfl w.heap.size 0 rfl (bl z1 32) _ HH1.out Tryz.underlying44 rfl (szHl z1) ?_) | (refine wpList_load_mid rfl 44 _ rfl v1.heap.size 0 rfl (bl z2 32) _ HH2.out Tryz.underlying44 rfl (szHl z2) ?_) | (refine wpList_neqH z1 z2 false hb hz1 hz2 rfl _ _ rfl rfl rfl ?_) | fail)
    go_wp2
    go_ret
    exact ⟨by rw [HE.out]; rfl, HB.out⟩
  · have hb : (!hq z1 z2) = true := by simpa using hh
    have HE : Hid (lessB z1 n1 z2 n2 = decide (Lib.compareBytes (ub z1) (ub z2) < 0)) := if_neg hh
    clear hh
    go_wp2_with (first | (refine wpList_load_mid rfl 44 _ rfl w.heap.size 0 rfl (bl z1 32) _ HH1.out Tryz.underlying44 rfl (szHl z1) ?_) | (refine wpList_load_mid rfl 44 _ rfl v1.heap.size 0 rfl (bl z2 32) _ HH2.out Tryz.underlying44 rfl (szHl z2) ?_) | (refine wpList_neqH z1 z2 true hb hz1 hz2 rfl _ _ rfl rfl rfl ?_) | fail)
    go_upto_region 2 with fail
    refine wp_region_noPanic ?_
    refine wp_region_held_drew (S := fun w' => w'.rangeAt w.heap.size 0 (ptl z1 n1) ∧ w'.rangeAt v1.heap.size 0 (ptl z2 n2)) (by kernel_rfl) (range2_below HR.out (Below.refl _ _).drew) (fun hHeld => ?_)
    have Kvd := hidV (Below.transS HB.out (Below.refl v2.heap.size v2).drew)
    have Svd := range2_below HR.out (Below.refl v2.heap.size v2).drew
    clear HR HB HH1 HH2 hb
    generalize v2.drew = vd at *
    refine wpAnyH_take (i := 0) (oi := { dst := some 10, op := Go.Op.fieldAddr 46 (Go.Operand.tmp 2) 0, type := 0, pos := "tx.go:122", after := #[], guard := none }) (v := ?_) rfl (by kernel_rfl) (by kernel_rfl) (by kernel_rfl) (fun _ _ _ h => h) (Or.inl ⟨by rfl, ?_⟩) (by assumption) ?_
    rotate_left
    · intro wz hSw; (try dsimp only at hSw); go_simp; (try with_reducible rfl)
    try simp only [Act.put, List.setIfInBounds_toArray, List.set_cons_zero, List.set_cons_succ]
    refine wpAnyH_take (i := 1) (oi := { dst := some 11, op := Go.Op.slice 44 (Go.Operand.tmp 10) none none none, type := 42, pos := "tx.go:122", after := #[{ on := 0, ground := Go.Ground.data }], guard := none }) (v := ?_) rfl (by kernel_rfl) (by kernel_rfl) (by kernel_rfl) (fun _ _ _ h => h) (Or.inl ⟨by rfl, ?_⟩) (by assumption) ?_
    rotate_left
    · intro wz hSw; (try dsimp only at hSw); go_simp; (try with_reducible rfl)
    try simp only [Act.put, List.setIfInBounds_toArray, List.set_cons_zero, List.set_cons_succ]
    refine wpAnyH_take (i := 2) (oi := { dst := some 12, op := Go.Op.fieldAddr 46 (Go.Operand.tmp 3) 0, type := 0, pos := "tx.go:122", after := #[], guard := none }) (v := ?_) rfl (by kernel_rfl) (by kernel_rfl) (by kernel_rfl) (fun _ _ _ h => h) (Or.inl ⟨by rfl, ?_⟩) (by assumption) ?_
    rotate_left
    · intro wz hSw; (try dsimp only at hSw); go_simp; (try with_reducible rfl)
    try simp only [Act.put, List.setIfInBounds_toArray, List.set_cons_zero, List.set_cons_succ]
    refine wpAnyH_take (i := 3) (oi := { dst := some 13, op := Go.Op.slice 44 (Go.Operand.tmp 12) none none none, type := 42, pos := "tx.go:122", after := #[{ on := 2, ground := Go.Ground.data }], guard := none }) (v := ?_) rfl (by kernel_rfl) (by kernel_rfl) (by kernel_rfl) (fun _ _ _ h => h) (Or.inl ⟨by rfl, ?_⟩) (by assumption) ?_
    rotate_left
    · intro wz hSw; (try dsimp only at hSw); go_simp; (try with_reducible rfl)
    try simp only [Act.put, List.setIfInBounds_toArray, List.set_cons_zero, List.set_cons_succ]
    refine wpAnyH_ready (rs := [4]) (by kernel_rfl) (by simp) ?_
    refine (AllReadyH.cons (o := { dst := some 14, op := Go.Op.call { callee := Go.Callee.value (Go.Operand.func 32), args := #[Go.Operand.tmp 11, Go.Operand.tmp 13], argTypes := #[42, 42] }, type := 3, pos := "tx.go:122", after := #[{ on := 1, ground := Go.Ground.data }, { on := 3, ground := Go.Ground.data }], guard := none }) rfl (fun K hK => ?_) AllReadyH.nil)
    go_simp
    refine (kcompare_any w.heap.size v1.heap.size z1 z2 n1 n2 vd Svd.1 Svd.2).mono ?_
    rintro e ve ⟨rfl, rfl⟩
    refine hK.out _ _ Svd (fun _ => ?_)
    clear hK K
    try simp only [Act.put, List.setIfInBounds_toArray, List.set_cons_zero, List.set_cons_succ]
    refine wpAnyH_take (i := 5) (oi := { dst := some 15, op := Go.Op.binOp Go.BinOp.lss 3 (Go.Operand.tmp 14) (Go.Operand.const (Go.Value.int Go.IntKind.i64 0)) 3, type := 4, pos := "tx.go:122", after := #[{ on := 4, ground := Go.Ground.data }], guard := none }) (v := ?_) rfl (by kernel_rfl) (by kernel_rfl) (by kernel_rfl) (fun _ _ _ h => h) (Or.inl ⟨by rfl, ?_⟩) (by assumption) ?_
    rotate_left
    · intro wz hSw; (try dsimp only at hSw); go_simp; (try with_reducible rfl)
    try simp only [Act.put, List.setIfInBounds_toArray, List.set_cons_zero, List.set_cons_succ]
    refine wpAnyH_take (i := 6) (oi := { dst := some 4, op := Go.Op.assign (Go.Operand.tmp 15), type := 4, pos := "tx.go:122", after := #[{ on := 5, ground := Go.Ground.data }, { on := 4, ground := Go.Ground.chain }, { on := 0, ground := Go.Ground.phase }, { on := 1, ground := Go.Ground.phase }, { on := 2, ground := Go.Ground.phase }, { on := 3, ground := Go.Ground.phase }, { on := 4, ground := Go.Ground.phase }, { on := 5, ground := Go.Ground.phase }], guard := none }) (v := ?_) rfl (by kernel_rfl) (by kernel_rfl) (by kernel_rfl) (fun _ _ _ h => h) (Or.inl ⟨by rfl, ?_⟩) (by assumption) ?_
    rotate_left
    · intro wz hSw; (try dsimp only at hSw); go_simp; (try with_reducible rfl)
    try simp only [Act.put, List.setIfInBounds_toArray, List.set_cons_zero, List.set_cons_succ]
    refine wpAnyH_done (by kernel_rfl) (NoPanic.normal ?_) _
    try simp only [Act.put, List.setIfInBounds_toArray, List.set_cons_zero, List.set_cons_succ]
    clear hHeld
    go_wp2
    go_ret
    exact ⟨by rw [HE.out]; rfl, Kvd.out⟩
end Go.Proofs.YtbehkajfckadfaaGreatDoor
/- TxOrder: what 'ahead of' keeps to. -/
namespace Go.Proofs.YtbehkajfckadfaaGreatDoor
open Go.RowKit

theorem cb_self : ∀ a : List UInt8, Lib.compareBytes a a = 0
  | [] => rfl
  | x :: a => by
    unfold Lib.compareBytes
    simp only [UInt8.lt_iff_toNat_lt]
    rw [if_neg (by omega), if_neg (by omega)]
    exact cb_self a
theorem cb_anti : ∀ a b : List UInt8, Lib.compareBytes b a = - Lib.compareBytes a b
  | [], [] => rfl
  | [], _ :: _ => rfl
  | _ :: _, [] => rfl
  | x :: a, y :: b => by
    have ih := cb_anti a b
    unfold Lib.compareBytes
    simp only [UInt8.lt_iff_toNat_lt]
    by_cases h1 : x.toNat < y.toNat
    · rw [if_neg (by omega), if_pos h1, if_pos h1]; rfl
    · by_cases h2 : y.toNat < x.toNat
      · rw [if_pos h2, if_neg h1, if_pos h2]
      · rw [if_neg h2, if_neg h1, if_neg h1, if_neg h2]; exact ih
theorem cb_zero : ∀ a b : List UInt8, Lib.compareBytes a b = 0 → a = b
  | [], [], _ => rfl
  | [], _ :: _, h => by simp [Lib.compareBytes] at h
  | _ :: _, [], h => by simp [Lib.compareBytes] at h
  | x :: a, y :: b, h => by
    have ih := cb_zero a b
    unfold Lib.compareBytes at h
    simp only [UInt8.lt_iff_toNat_lt] at h
    split at h
    · omega
    · split at h
      · omega
      · have e : x = y := UInt8.toNat_inj.1 (by omega)
        rw [e, ih h]
theorem cb_trans : ∀ a b c : List UInt8, Lib.compareBytes a b < 0 → Lib.compareBytes b c < 0 → Lib.compareBytes a c < 0
  | [], [], _, h, _ => by simp [Lib.compareBytes] at h
  | [], _ :: _, [], _, h => by simp [Lib.compareBytes] at h
  | [], _ :: _, _ :: _, _, _ => by simp [Lib.compareBytes]
  | _ :: _, [], _, h, _ => by simp [Lib.compareBytes] at h
  | _ :: _, _ :: _, [], _, h => by simp [Lib.compareBytes] at h
  | x :: a, y :: b, z :: c, h1, h2 => by
    have ih := cb_trans a b c
    unfold Lib.compareBytes at h1 h2 ⊢
    simp only [UInt8.lt_iff_toNat_lt] at h1 h2 ⊢
    split at h1
    · split at h2
      · rw [if_pos (by omega)]; decide
      · split at h2
        · omega
        · rw [if_pos (by omega)]; decide
    · split at h1
      · omega
      · split at h2
        · rw [if_pos (by omega)]; decide
        · split at h2
          · omega
          · rw [if_neg (by omega), if_neg (by omega)]; exact ih h1 h2
theorem hq_iff (z y : Nat → Int) : hq z y = true ↔ ub z = ub y := by simp [hq]
theorem less_iff (z1 : Nat → Int) (n1 : Int) (z2 : Nat → Int) (n2 : Int) : lessB z1 n1 z2 n2 = true ↔ (ub z1 = ub z2 ∧ n1 < n2) ∨ (ub z1 ≠ ub z2 ∧ Lib.compareBytes (ub z1) (ub z2) < 0) := by
  unfold lessB
  by_cases h : hq z1 z2 = true
  · rw [if_pos h]
    have e := (hq_iff z1 z2).1 h
    simp [e]
  · rw [if_neg h]
    have e : ub z1 ≠ ub z2 := fun e => h ((hq_iff z1 z2).2 e)
    simp [e]
theorem less_asym {z1 z2 : Nat → Int} {n1 n2 : Int} (h : lessB z1 n1 z2 n2 = true) : lessB z2 n2 z1 n1 = false := by
  cases h2 : lessB z2 n2 z1 n1 with
  | false => rfl
  | true =>
    exfalso
    have a := cb_anti (ub z1) (ub z2)
    rcases (less_iff _ _ _ _).1 h with ⟨e, h3⟩ | ⟨e, h3⟩ <;> rcases (less_iff _ _ _ _).1 h2 with ⟨e', h4⟩ | ⟨e', h4⟩
    · omega
    · exact e' e.symm
    · exact e e'.symm
    · omega
theorem less_eq (z1 : Nat → Int) (n1 : Int) (z2 : Nat → Int) (n2 : Int) : (hq z1 z2 && decide (n1 = n2)) = (!lessB z1 n1 z2 n2 && !lessB z2 n2 z1 n1) := by
  rw [Bool.eq_iff_iff]
  simp only [Bool.and_eq_true, Bool.not_eq_true', decide_eq_true_eq, ← Bool.not_eq_true, less_iff, hq_iff]
  have a := cb_anti (ub z1) (ub z2)
  constructor
  · rintro ⟨e, e2⟩
    exact ⟨fun h => by rcases h with ⟨_, h⟩ | ⟨h, _⟩; (· omega); (· exact h e), fun h => by rcases h with ⟨_, h⟩ | ⟨h, _⟩; (· omega); (· exact h e.symm)⟩
  · rintro ⟨h1, h2⟩
    by_cases e : ub z1 = ub z2
    · refine ⟨e, ?_⟩
      have h3 : ¬ n1 < n2 := fun h => h1 (.inl ⟨e, h⟩)
      have h4 : ¬ n2 < n1 := fun h => h2 (.inl ⟨e.symm, h⟩)
      omega
    · exfalso
      have h3 : ¬ Lib.compareBytes (ub z1) (ub z2) < 0 := fun h => h1 (.inr ⟨e, h⟩)
      have h4 : ¬ Lib.compareBytes (ub z2) (ub z1) < 0 := fun h => h2 (.inr ⟨fun h => e h.symm, h⟩)
      exact e (cb_zero _ _ (by omega))
theorem less_trans {z1 z2 z3 : Nat → Int} {n1 n2 n3 : Int} (h1 : lessB z1 n1 z2 n2 = true) (h2 : lessB z2 n2 z3 n3 = true) : lessB z1 n1 z3 n3 = true := by
  rw [less_iff] at h1 h2 ⊢
  rcases h1 with ⟨e1, l1⟩ | ⟨e1, l1⟩ <;> rcases h2 with ⟨e2, l2⟩ | ⟨e2, l2⟩
  · exact .inl ⟨e1.trans e2, by omega⟩
  · exact .inr ⟨fun h => e2 (e1.symm.trans h), by rw [e1]; exact l2⟩
  · exact .inr ⟨fun h => e1 (h.trans e2.symm), by rw [← e2]; exact l1⟩
  · have h3 := cb_trans _ _ _ l1 l2
    refine .inr ⟨fun h => ?_, h3⟩
    rw [h, cb_self] at h3
    omega
/-! ### Points held against each other -/
theorem ktPt3 : Tryz.prog.keyTypeAt 3 46 = true := by kernel_rfl
theorem formedPt (z : Nat → Int) (n : Int) : (Value.agg (ptv z n)).formed Tryz.prog 46 = true := by
  simp only [Value.formed, Tryz.underlying46]
  simp [Kp.cellsS, ptv_size]
theorem guardPt : Tryz.prog.eqGuardType Tryz.prog.depth 46 = false := by kernel_rfl
theorem lits_iff {z y : Nat → Int} (hz : Hb z) (hy : Hb y) (n m : Int) : (((List.range 32).map fun j => Lit.int .u8 (z j)) ++ [Lit.int .i64 n] = ((List.range 32).map fun j => Lit.int .u8 (y j)) ++ [Lit.int .i64 m]) ↔ (ub z = ub y ∧ n = m) := by
  have h1 : ((List.range 32).map fun j => Lit.int .u8 (z j)) = ((List.range 32).map fun j => Lit.int .u8 (y j)) ↔ ub z = ub y := by
    unfold ub
    rw [List.map_inj_left, List.map_inj_left]
    refine forall_congr' fun j => forall_congr' fun hj => ?_
    have hj' : j < 32 := List.mem_range.1 hj
    have a := hz j hj'
    have b := hy j hj'
    constructor
    · intro h
      have e : z j = y j := by simpa using h
      rw [e]
    · intro h
      have e := congrArg UInt8.toNat h
      simp only [UInt8.toNat_ofNat'] at e
      have e2 : z j = y j := by omega
      rw [e2]
  rw [← h1]
  constructor
  · intro h
    have h2 := List.append_inj h (by simp)
    exact ⟨h2.1, by simpa using h2.2⟩
  · rintro ⟨e1, e2⟩
    rw [e1, e2]
set_option maxRecDepth 20000 in
theorem eql_pt {z y : Nat → Int} {n m : Int} (hz : Hb z) (hy : Hb y) (hn : Kp.Ib n) (hm : Kp.Ib m) (w : World) :
    (binOp .eql 46 (.agg (ptv z n)) (.agg (ptv y m))).run Tryz.prog w = .ok (.bool (hq z y && decide (n = m))) w := by
  obtain ⟨r, h1, h2⟩ := run_equalIn_deep (P := Tryz.prog) 9997 3 46 ktPt3 w 3 3 (.agg (ptv z n)) (.agg (ptv y m)) _ _ (formedPt z n) (formedPt y m) (Kp.lits_sig 0 hn hz) (Kp.lits_sig 0 hm hy)
  have e : r = (hq z y && decide (n = m)) := by
    rw [Bool.eq_iff_iff, h2, lits_iff hz hy]
    simp [hq_iff]
  rw [run_eql_struct, show (10000 : Nat) = 9997 + 3 from rfl, h1, e]
  rfl
theorem exec_eqPt {a : Act} {o : Oper} (x y : Operand) (ho : o.op = .binOp .eql 46 x y 46) {z u : Nat → Int} {n m : Int} (hz : Hb z) (hu : Hb u) (hn : Kp.Ib n) (hm : Kp.Ib m) (b : Bool) (hb : (hq z u && decide (n = m)) = b) (hx : a.eval x = .agg (ptv z n)) (hy : a.eval y = .agg (ptv u m)) (w : World) :
    (execOp a.eval o).run Tryz.prog w = .ok (.value (.bool b)) w := by
  have e1 := eql_pt hz hu hn hm w
  rw [hb] at e1
  unfold execOp
  simp only [ho, hx, hy, Sem.run_bind, run_eqGuard_agg w .eql 46 x y _ _ guardPt, e1, Result.andThen_ok, Sem.run_pure]
end Go.Proofs.YtbehkajfckadfaaGreatDoor
