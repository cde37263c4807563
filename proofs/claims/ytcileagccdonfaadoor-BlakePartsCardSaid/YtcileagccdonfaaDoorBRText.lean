/- The document's Text. -/
import Derived.Test.YtcileagccdonfaaDoorBText
namespace Go.Proofs.YtcileagccdonfaaDoor
open Go.RowKit

theorem strL_two (L : List Int) (a b : Nat) : (strL L ++ ByteArray.mk #[UInt8.ofNat a]) ++ ByteArray.mk #[UInt8.ofNat b] = strL (L ++ [(a : Int), (b : Int)]) := by
  rw [strL_eq, strL_eq]
  apply ByteArray.ext
  simp [ByteArray.data_append]
/-- 'digits[q:q+1]'. -/
theorem sliceD0 (w : World) : (Instr.sliceAt 9 (.string dgS) (some (.int .u8 (((0 : Nat)) : Int))) (some (.int .u8 (((0 : Nat) : Int) + 1))) none).run Tryd.prog w = .ok (.string ⟨#[UInt8.ofNat (dg 0)]⟩) w := by kernel_rfl
theorem sliceD1 (w : World) : (Instr.sliceAt 9 (.string dgS) (some (.int .u8 (((1 : Nat)) : Int))) (some (.int .u8 (((1 : Nat) : Int) + 1))) none).run Tryd.prog w = .ok (.string ⟨#[UInt8.ofNat (dg 1)]⟩) w := by kernel_rfl
theorem sliceD2 (w : World) : (Instr.sliceAt 9 (.string dgS) (some (.int .u8 (((2 : Nat)) : Int))) (some (.int .u8 (((2 : Nat) : Int) + 1))) none).run Tryd.prog w = .ok (.string ⟨#[UInt8.ofNat (dg 2)]⟩) w := by kernel_rfl
theorem sliceD3 (w : World) : (Instr.sliceAt 9 (.string dgS) (some (.int .u8 (((3 : Nat)) : Int))) (some (.int .u8 (((3 : Nat) : Int) + 1))) none).run Tryd.prog w = .ok (.string ⟨#[UInt8.ofNat (dg 3)]⟩) w := by kernel_rfl
theorem sliceD4 (w : World) : (Instr.sliceAt 9 (.string dgS) (some (.int .u8 (((4 : Nat)) : Int))) (some (.int .u8 (((4 : Nat) : Int) + 1))) none).run Tryd.prog w = .ok (.string ⟨#[UInt8.ofNat (dg 4)]⟩) w := by kernel_rfl
theorem sliceD5 (w : World) : (Instr.sliceAt 9 (.string dgS) (some (.int .u8 (((5 : Nat)) : Int))) (some (.int .u8 (((5 : Nat) : Int) + 1))) none).run Tryd.prog w = .ok (.string ⟨#[UInt8.ofNat (dg 5)]⟩) w := by kernel_rfl
theorem sliceD6 (w : World) : (Instr.sliceAt 9 (.string dgS) (some (.int .u8 (((6 : Nat)) : Int))) (some (.int .u8 (((6 : Nat) : Int) + 1))) none).run Tryd.prog w = .ok (.string ⟨#[UInt8.ofNat (dg 6)]⟩) w := by kernel_rfl
theorem sliceD7 (w : World) : (Instr.sliceAt 9 (.string dgS) (some (.int .u8 (((7 : Nat)) : Int))) (some (.int .u8 (((7 : Nat) : Int) + 1))) none).run Tryd.prog w = .ok (.string ⟨#[UInt8.ofNat (dg 7)]⟩) w := by kernel_rfl
theorem sliceD8 (w : World) : (Instr.sliceAt 9 (.string dgS) (some (.int .u8 (((8 : Nat)) : Int))) (some (.int .u8 (((8 : Nat) : Int) + 1))) none).run Tryd.prog w = .ok (.string ⟨#[UInt8.ofNat (dg 8)]⟩) w := by kernel_rfl
theorem sliceD9 (w : World) : (Instr.sliceAt 9 (.string dgS) (some (.int .u8 (((9 : Nat)) : Int))) (some (.int .u8 (((9 : Nat) : Int) + 1))) none).run Tryd.prog w = .ok (.string ⟨#[UInt8.ofNat (dg 9)]⟩) w := by kernel_rfl
theorem sliceD10 (w : World) : (Instr.sliceAt 9 (.string dgS) (some (.int .u8 (((10 : Nat)) : Int))) (some (.int .u8 (((10 : Nat) : Int) + 1))) none).run Tryd.prog w = .ok (.string ⟨#[UInt8.ofNat (dg 10)]⟩) w := by kernel_rfl
theorem sliceD11 (w : World) : (Instr.sliceAt 9 (.string dgS) (some (.int .u8 (((11 : Nat)) : Int))) (some (.int .u8 (((11 : Nat) : Int) + 1))) none).run Tryd.prog w = .ok (.string ⟨#[UInt8.ofNat (dg 11)]⟩) w := by kernel_rfl
theorem sliceD12 (w : World) : (Instr.sliceAt 9 (.string dgS) (some (.int .u8 (((12 : Nat)) : Int))) (some (.int .u8 (((12 : Nat) : Int) + 1))) none).run Tryd.prog w = .ok (.string ⟨#[UInt8.ofNat (dg 12)]⟩) w := by kernel_rfl
theorem sliceD13 (w : World) : (Instr.sliceAt 9 (.string dgS) (some (.int .u8 (((13 : Nat)) : Int))) (some (.int .u8 (((13 : Nat) : Int) + 1))) none).run Tryd.prog w = .ok (.string ⟨#[UInt8.ofNat (dg 13)]⟩) w := by kernel_rfl
theorem sliceD14 (w : World) : (Instr.sliceAt 9 (.string dgS) (some (.int .u8 (((14 : Nat)) : Int))) (some (.int .u8 (((14 : Nat) : Int) + 1))) none).run Tryd.prog w = .ok (.string ⟨#[UInt8.ofNat (dg 14)]⟩) w := by kernel_rfl
theorem sliceD15 (w : World) : (Instr.sliceAt 9 (.string dgS) (some (.int .u8 (((15 : Nat)) : Int))) (some (.int .u8 (((15 : Nat) : Int) + 1))) none).run Tryd.prog w = .ok (.string ⟨#[UInt8.ofNat (dg 15)]⟩) w := by kernel_rfl
theorem run_sliceD {q : Nat} (hq : q < 16) (w : World) : (Instr.sliceAt 9 (.string dgS) (some (.int .u8 (q : Int))) (some (.int .u8 ((q : Int) + 1))) none).run Tryd.prog w = .ok (.string ⟨#[UInt8.ofNat (dg q)]⟩) w := by
  have h : q = 0 ∨ q = 1 ∨ q = 2 ∨ q = 3 ∨ q = 4 ∨ q = 5 ∨ q = 6 ∨ q = 7 ∨ q = 8 ∨ q = 9 ∨ q = 10 ∨ q = 11 ∨ q = 12 ∨ q = 13 ∨ q = 14 ∨ q = 15 := by omega
  rcases h with rfl | rfl | rfl | rfl | rfl | rfl | rfl | rfl | rfl | rfl | rfl | rfl | rfl | rfl | rfl | rfl
  · exact sliceD0 w
  · exact sliceD1 w
  · exact sliceD2 w
  · exact sliceD3 w
  · exact sliceD4 w
  · exact sliceD5 w
  · exact sliceD6 w
  · exact sliceD7 w
  · exact sliceD8 w
  · exact sliceD9 w
  · exact sliceD10 w
  · exact sliceD11 w
  · exact sliceD12 w
  · exact sliceD13 w
  · exact sliceD14 w
  · exact sliceD15 w
theorem ru_sliceD {o : Oper} {a : Act} {w : World} {x y : Operand} {q : Nat} (ho : o.op = .slice 9 (.const (.string dgS)) (some x) (some y) none) (hx : a.eval x = .int .u8 (q : Int)) (hy : a.eval y = .int .u8 ((q : Int) + 1)) (hq : q < 16) :
    (execOp a.eval o).run Tryd.prog w = .ok (.value (.string ⟨#[UInt8.ofNat (dg q)]⟩)) w := by
  unfold execOp
  simp only [ho, hx, hy, show a.eval (.const (.string dgS)) = .string dgS from rfl, Option.map_some, Option.map_none, Sem.run_bind, run_sliceD hq, Result.andThen]
  rfl
theorem ru_addS {o : Oper} {a : Act} {w : World} {x y : Operand} {t u : TypeId} {r s : ByteArray} (ho : o.op = .binOp .add t x y u) (hx : a.eval x = .string r) (hy : a.eval y = .string s) (hl : r.size + s.size ≤ 1000) :
    (execOp a.eval o).run Tryd.prog w = .ok (.value (.string (r ++ s))) w := by
  unfold execOp
  simp only [ho, hx, hy]
  go_simp
  omega

set_option maxRecDepth 20000 in
set_option maxHeartbeats 4000000 in
theorem rtext_any (h : List Nat) (w : World) (hh : By 32 h) :
    Calls Tryd.prog 11 #[.agg (sv h)] w fun e w' => e = .returned (.string (hexB h)) ∧ Below w.heap.size w w' := by
  have hn0 := heap_alloc_new w (.cells (sv h) 25)
  have hb0 : Below w.heap.size w (w.alloc (.cells (sv h) 25)) := (Below.refl _ w).alloc (Nat.le_refl _) _
  go_enter Tryd.func11, Tryd.ntmps11
  go_wp2_with (first | (refine Go.Great.wpList_boxTo rfl _ _ rfl _ rfl _ rfl (sv h) rfl ?_) | fail)
  generalize w.alloc (.cells (sv h) 25) = W0 at *
  have hl0 := lt_of_block hn0
  go_loopw [3, 4] (fun tv iv (w' : World) => ∃ k : Nat, k ≤ 32 ∧ iv = .int .i64 k ∧ tv = .string (strL (txI h k)) ∧ Below W0.heap.size W0 w') (fun _ iv _ => 32 - (intOf iv).toNat)
  case atStart => exact ⟨0, by omega, rfl, rfl, Below.refl _ _⟩
  case round =>
    obtain ⟨k, hk, rfl, rfl, hB⟩ := hrel
    by_cases hlt : k < 32
    · have hk' : (k : Int) < 32 := by omega
      obtain ⟨x, hx⟩ : ∃ x, x = h.getD k 0 := ⟨_, rfl⟩
      have lx : x < 256 := by rw [hx]; exact hh.2 k
      have hn1 : wr.heap[w.heap.size]? = some (.cells (sv h) 25 (0, 0)) := by rw [hB.block _ hl0]; exact hn0
      have c1 : wr.drew.cell? ⟨w.heap.size, k, none⟩ = some (.int .u8 (x : Nat)) := by rw [cell_of_row wr.drew _ k _ _ _ hn1, hx]; exact sv_at (by rw [hh.1]; exact hlt)
      obtain ⟨qa, hqa⟩ : ∃ q, q = x / 16 := ⟨_, rfl⟩
      obtain ⟨qb, hqb⟩ : ∃ q, q = x % 16 := ⟨_, rfl⟩
      have q1 : qa < 16 := by omega
      have q2 : qb < 16 := by omega
      have n0 : (x : Int) / 16 = qa := by omega
      have n1 : IntKind.u8.wrap (qa : Int) = qa := by rw [IntKind.wrap_u8]; omega
      have n2 : (x : Int).tmod 16 = qb := by rw [Int.tmod_eq_emod_of_nonneg (by omega)]; omega
      have n3 : IntKind.u8.wrap ((qa : Int) + 1) = (qa : Int) + 1 := by rw [IntKind.wrap_u8]; omega
      have n4 : IntKind.u8.wrap ((qb : Int) + 1) = (qb : Int) + 1 := by rw [IntKind.wrap_u8]; omega
      have n5 : IntKind.u8.wrap (qb : Int) = qb := by rw [IntKind.wrap_u8]; omega
      have HS : Hid ((strL (txI h k) ++ ByteArray.mk #[UInt8.ofNat (dg qa)]) ++ ByteArray.mk #[UInt8.ofNat (dg qb)] = strL (txI h (k + 1))) := by
        show _ = _
        rw [strL_two, hqa, hqb, hx, txI]
      have HB : Hid (Below W0.heap.size W0 wr) := hB
      clear hqa hqb hx hn1 hB
      have HZ : Hid ((strL (txI h k)).size + (ByteArray.mk #[UInt8.ofNat (dg qa)]).size ≤ 1000 ∧ (strL (txI h k) ++ ByteArray.mk #[UInt8.ofNat (dg qa)]).size + (ByteArray.mk #[UInt8.ofNat (dg qb)]).size ≤ 1000) := by
        have h1 : (strL (txI h k)).size = 2 * k := by rw [strL_eq]; simp [ByteArray.size, txI_len]
        have h2 : ∀ c, (ByteArray.mk #[c]).size = 1 := fun c => rfl
        refine ⟨by rw [h1, h2]; omega, by rw [ByteArray.size_append, h1, h2, h2]; omega⟩
      obtain ⟨S1, hS1⟩ : ∃ S1, S1 = strL (txI h (k + 1)) := ⟨_, rfl⟩
      rw [← hS1] at HS
      have HS1 : Hid (S1 = strL (txI h (k + 1))) := hS1
      clear hS1
      generalize strL (txI h k) = S0 at *
      go_wp2_with fail
      refine region_seq (c := 23) (f := 60) (ts := [(0, 0), (0, 1), (0, 2), (1, 3), (0, 4), (0, 5), (0, 6), (1, 7), (0, 8), (0, 9), (0, 10), (0, 11), (0, 12), (0, 13), (1, 14), (0, 15), (0, 16), (0, 17), (1, 18), (0, 19), (0, 20), (0, 21), (0, 22), (2, 23)]) (by kernel_rfl) (by kernel_rfl) ?_
      refine seq_W (o := { dst := some 9, op := Go.Op.move (Go.Operand.tmp 3), type := 9, pos := "ref.go:110", after := #[], guard := none }) (v := ?_) rfl rfl (fun wz => ?_) ?_
      rotate_left
      · go_simp; (try with_reducible rfl)
      try simp only [Act.put, List.setIfInBounds_toArray, List.set_cons_zero, List.set_cons_succ]
      refine seq_W (o := { dst := some 10, op := Go.Op.move (Go.Operand.tmp 4), type := 3, pos := "ref.go:110", after := #[], guard := none }) (v := ?_) rfl rfl (fun wz => ?_) ?_
      rotate_left
      · go_simp; (try with_reducible rfl)
      try simp only [Act.put, List.setIfInBounds_toArray, List.set_cons_zero, List.set_cons_succ]
      refine seq_W (o := { dst := some 11, op := Go.Op.indexAddr 25 (Go.Operand.tmp 1) (Go.Operand.tmp 10), type := 0, pos := "ref.go:110", after := #[{ on := 1, ground := Go.Ground.data }], guard := none }) (v := ?_) rfl rfl (fun wz => ?_) ?_
      rotate_left
      · go_simp; (try with_reducible rfl)
      try simp only [Act.put, List.setIfInBounds_toArray, List.set_cons_zero, List.set_cons_succ]
      refine seq_R (o := { dst := some 12, op := Go.Op.load 5 (Go.Operand.tmp 11), type := 5, pos := "ref.go:110", after := #[{ on := 2, ground := Go.Ground.data }], guard := none }) (v := ?_) rfl rfl ?_ ?_
      rotate_left
      · go_simp; (try with_reducible rfl)
      try simp only [Act.put, List.setIfInBounds_toArray, List.set_cons_zero, List.set_cons_succ]
      refine seq_W (o := { dst := some 13, op := Go.Op.binOp Go.BinOp.quo 5 (Go.Operand.tmp 12) (Go.Operand.const (Go.Value.int Go.IntKind.u8 16)) 5, type := 5, pos := "ref.go:110", after := #[{ on := 3, ground := Go.Ground.data }], guard := none }) (v := ?_) rfl rfl (fun wz => ?_) ?_
      rotate_left
      · go_simp; (try with_reducible rfl)
      try simp only [Act.put, List.setIfInBounds_toArray, List.set_cons_zero, List.set_cons_succ]
      refine seq_W (o := { dst := some 14, op := Go.Op.move (Go.Operand.tmp 4), type := 3, pos := "ref.go:110", after := #[], guard := none }) (v := ?_) rfl rfl (fun wz => ?_) ?_
      rotate_left
      · go_simp; (try with_reducible rfl)
      try simp only [Act.put, List.setIfInBounds_toArray, List.set_cons_zero, List.set_cons_succ]
      refine seq_W (o := { dst := some 15, op := Go.Op.indexAddr 25 (Go.Operand.tmp 1) (Go.Operand.tmp 14), type := 0, pos := "ref.go:110", after := #[{ on := 5, ground := Go.Ground.data }], guard := none }) (v := ?_) rfl rfl (fun wz => ?_) ?_
      rotate_left
      · go_simp; (try with_reducible rfl)
      try simp only [Act.put, List.setIfInBounds_toArray, List.set_cons_zero, List.set_cons_succ]
      refine seq_R (o := { dst := some 16, op := Go.Op.load 5 (Go.Operand.tmp 15), type := 5, pos := "ref.go:110", after := #[{ on := 6, ground := Go.Ground.data }], guard := none }) (v := ?_) rfl rfl ?_ ?_
      rotate_left
      · go_simp; (try with_reducible rfl)
      try simp only [Act.put, List.setIfInBounds_toArray, List.set_cons_zero, List.set_cons_succ]
      refine seq_W (o := { dst := some 17, op := Go.Op.binOp Go.BinOp.quo 5 (Go.Operand.tmp 16) (Go.Operand.const (Go.Value.int Go.IntKind.u8 16)) 5, type := 5, pos := "ref.go:110", after := #[{ on := 7, ground := Go.Ground.data }], guard := none }) (v := ?_) rfl rfl (fun wz => ?_) ?_
      rotate_left
      · go_simp; (try with_reducible rfl)
      try simp only [Act.put, List.setIfInBounds_toArray, List.set_cons_zero, List.set_cons_succ]
      refine seq_W (o := { dst := some 18, op := Go.Op.binOp Go.BinOp.add 5 (Go.Operand.tmp 17) (Go.Operand.const (Go.Value.int Go.IntKind.u8 1)) 5, type := 5, pos := "ref.go:110", after := #[{ on := 8, ground := Go.Ground.data }], guard := none }) (v := ?_) rfl rfl (fun wz => ?_) ?_
      rotate_left
      · go_simp; (try with_reducible rfl)
      try simp only [Act.put, List.setIfInBounds_toArray, List.set_cons_zero, List.set_cons_succ]
      refine seq_W (o := { dst := some 19, op := Go.Op.slice 9 (Go.Operand.const (Go.Value.string { data := #[48, 49, 50, 51, 52, 53, 54, 55, 56, 57, 97, 98, 99, 100, 101, 102] })) (some (Go.Operand.tmp 13)) (some (Go.Operand.tmp 18)) none, type := 9, pos := "ref.go:110", after := #[{ on := 4, ground := Go.Ground.data }, { on := 9, ground := Go.Ground.data }], guard := none }) rfl rfl (fun wz => ru_sliceD rfl rfl rfl q1) ?_
      try simp only [Act.put, List.setIfInBounds_toArray, List.set_cons_zero, List.set_cons_succ]
      refine seq_W (o := { dst := some 20, op := Go.Op.binOp Go.BinOp.add 9 (Go.Operand.tmp 9) (Go.Operand.tmp 19) 9, type := 9, pos := "ref.go:110", after := #[{ on := 0, ground := Go.Ground.data }, { on := 10, ground := Go.Ground.data }], guard := none }) rfl rfl (fun wz => ru_addS rfl rfl rfl HZ.out.1) ?_
      try simp only [Act.put, List.setIfInBounds_toArray, List.set_cons_zero, List.set_cons_succ]
      refine seq_W (o := { dst := some 21, op := Go.Op.move (Go.Operand.tmp 4), type := 3, pos := "ref.go:110", after := #[], guard := none }) (v := ?_) rfl rfl (fun wz => ?_) ?_
      rotate_left
      · go_simp; (try with_reducible rfl)
      try simp only [Act.put, List.setIfInBounds_toArray, List.set_cons_zero, List.set_cons_succ]
      refine seq_W (o := { dst := some 22, op := Go.Op.indexAddr 25 (Go.Operand.tmp 1) (Go.Operand.tmp 21), type := 0, pos := "ref.go:110", after := #[{ on := 12, ground := Go.Ground.data }], guard := none }) (v := ?_) rfl rfl (fun wz => ?_) ?_
      rotate_left
      · go_simp; (try with_reducible rfl)
      try simp only [Act.put, List.setIfInBounds_toArray, List.set_cons_zero, List.set_cons_succ]
      refine seq_R (o := { dst := some 23, op := Go.Op.load 5 (Go.Operand.tmp 22), type := 5, pos := "ref.go:110", after := #[{ on := 13, ground := Go.Ground.data }], guard := none }) (v := ?_) rfl rfl ?_ ?_
      rotate_left
      · go_simp; (try with_reducible rfl)
      try simp only [Act.put, List.setIfInBounds_toArray, List.set_cons_zero, List.set_cons_succ]
      refine seq_W (o := { dst := some 24, op := Go.Op.binOp Go.BinOp.rem 5 (Go.Operand.tmp 23) (Go.Operand.const (Go.Value.int Go.IntKind.u8 16)) 5, type := 5, pos := "ref.go:110", after := #[{ on := 14, ground := Go.Ground.data }], guard := none }) (v := ?_) rfl rfl (fun wz => ?_) ?_
      rotate_left
      · go_simp; (try with_reducible rfl)
      try simp only [Act.put, List.setIfInBounds_toArray, List.set_cons_zero, List.set_cons_succ]
      refine seq_W (o := { dst := some 25, op := Go.Op.move (Go.Operand.tmp 4), type := 3, pos := "ref.go:110", after := #[], guard := none }) (v := ?_) rfl rfl (fun wz => ?_) ?_
      rotate_left
      · go_simp; (try with_reducible rfl)
      try simp only [Act.put, List.setIfInBounds_toArray, List.set_cons_zero, List.set_cons_succ]
      refine seq_W (o := { dst := some 26, op := Go.Op.indexAddr 25 (Go.Operand.tmp 1) (Go.Operand.tmp 25), type := 0, pos := "ref.go:110", after := #[{ on := 16, ground := Go.Ground.data }], guard := none }) (v := ?_) rfl rfl (fun wz => ?_) ?_
      rotate_left
      · go_simp; (try with_reducible rfl)
      try simp only [Act.put, List.setIfInBounds_toArray, List.set_cons_zero, List.set_cons_succ]
      refine seq_R (o := { dst := some 27, op := Go.Op.load 5 (Go.Operand.tmp 26), type := 5, pos := "ref.go:110", after := #[{ on := 17, ground := Go.Ground.data }], guard := none }) (v := ?_) rfl rfl ?_ ?_
      rotate_left
      · go_simp; (try with_reducible rfl)
      try simp only [Act.put, List.setIfInBounds_toArray, List.set_cons_zero, List.set_cons_succ]
      refine seq_W (o := { dst := some 28, op := Go.Op.binOp Go.BinOp.rem 5 (Go.Operand.tmp 27) (Go.Operand.const (Go.Value.int Go.IntKind.u8 16)) 5, type := 5, pos := "ref.go:110", after := #[{ on := 18, ground := Go.Ground.data }], guard := none }) (v := ?_) rfl rfl (fun wz => ?_) ?_
      rotate_left
      · go_simp; (try with_reducible rfl)
      try simp only [Act.put, List.setIfInBounds_toArray, List.set_cons_zero, List.set_cons_succ]
      refine seq_W (o := { dst := some 29, op := Go.Op.binOp Go.BinOp.add 5 (Go.Operand.tmp 28) (Go.Operand.const (Go.Value.int Go.IntKind.u8 1)) 5, type := 5, pos := "ref.go:110", after := #[{ on := 19, ground := Go.Ground.data }], guard := none }) (v := ?_) rfl rfl (fun wz => ?_) ?_
      rotate_left
      · go_simp; (try with_reducible rfl)
      try simp only [Act.put, List.setIfInBounds_toArray, List.set_cons_zero, List.set_cons_succ]
      refine seq_W (o := { dst := some 30, op := Go.Op.slice 9 (Go.Operand.const (Go.Value.string { data := #[48, 49, 50, 51, 52, 53, 54, 55, 56, 57, 97, 98, 99, 100, 101, 102] })) (some (Go.Operand.tmp 24)) (some (Go.Operand.tmp 29)) none, type := 9, pos := "ref.go:110", after := #[{ on := 15, ground := Go.Ground.data }, { on := 20, ground := Go.Ground.data }], guard := none }) rfl rfl (fun wz => ru_sliceD rfl rfl rfl q2) ?_
      try simp only [Act.put, List.setIfInBounds_toArray, List.set_cons_zero, List.set_cons_succ]
      refine seq_W (o := { dst := some 31, op := Go.Op.binOp Go.BinOp.add 9 (Go.Operand.tmp 20) (Go.Operand.tmp 30) 9, type := 9, pos := "ref.go:110", after := #[{ on := 11, ground := Go.Ground.data }, { on := 21, ground := Go.Ground.data }], guard := none }) rfl rfl (fun wz => ru_addS rfl rfl rfl HZ.out.2) ?_
      try simp only [Act.put, List.setIfInBounds_toArray, List.set_cons_zero, List.set_cons_succ]
      rw [HS.out]
      refine seq_A (o := { dst := some 3, op := Go.Op.assign (Go.Operand.tmp 31), type := 9, pos := "ref.go:110", after := #[{ on := 22, ground := Go.Ground.data }, { on := 0, ground := Go.Ground.phase }, { on := 1, ground := Go.Ground.phase }, { on := 2, ground := Go.Ground.phase }, { on := 3, ground := Go.Ground.phase }, { on := 4, ground := Go.Ground.phase }, { on := 5, ground := Go.Ground.phase }, { on := 6, ground := Go.Ground.phase }, { on := 7, ground := Go.Ground.phase }, { on := 8, ground := Go.Ground.phase }, { on := 9, ground := Go.Ground.phase }, { on := 10, ground := Go.Ground.phase }, { on := 11, ground := Go.Ground.phase }, { on := 12, ground := Go.Ground.phase }, { on := 13, ground := Go.Ground.phase }, { on := 14, ground := Go.Ground.phase }, { on := 15, ground := Go.Ground.phase }, { on := 16, ground := Go.Ground.phase }, { on := 17, ground := Go.Ground.phase }, { on := 18, ground := Go.Ground.phase }, { on := 19, ground := Go.Ground.phase }, { on := 20, ground := Go.Ground.phase }, { on := 21, ground := Go.Ground.phase }, { on := 22, ground := Go.Ground.phase }], guard := none }) rfl rfl (fun K hK => ?_)
      go_simp
      refine hK _ _ ?_
      clear hK K
      try simp only [Act.put, List.setIfInBounds_toArray, List.set_cons_zero, List.set_cons_succ]
      refine seq_nil (NoPanic.normal ?_)
      try simp only [Act.put, List.setIfInBounds_toArray, List.set_cons_zero, List.set_cons_succ]
      go_wp2
      refine ⟨⟨k + 1, by omega, by go_num, by rw [HS1.out], HB.out.drew⟩, ?_⟩
      simp [intOf]
      omega
    · obtain rfl : k = 32 := by omega
      have hbw : Below w.heap.size w wr := hb0.trans (hB.mono hb0.size)
      clear hB
      go_wp2
      go_ret
      exact ⟨rfl, hbw⟩
end Go.Proofs.YtcileagccdonfaaDoor
