/- A sum as text: blake.Text and the document's. -/
import Derived.Test.YtcileagccdonfaaDoorBKeyed
import Derived.Test.YtcileagccdonfaaDoorBOw
namespace Go.Proofs.YtcileagccdonfaaDoor
open Go.RowKit

/-- A digit of base 16, as a byte. -/
def dg (d : Nat) : Nat := if d < 10 then 48 + d else 87 + d
def dgS : ByteArray := ⟨#[48, 49, 50, 51, 52, 53, 54, 55, 56, 57, 97, 98, 99, 100, 101, 102]⟩
/-- The digits of the first k bytes. -/
def txI (h : List Nat) : Nat → List Int
  | 0 => []
  | k + 1 => txI h k ++ [((dg (h.getD k 0 / 16) : Nat) : Int), ((dg (h.getD k 0 % 16) : Nat) : Int)]
theorem txI_len (h : List Nat) : ∀ k, (txI h k).length = 2 * k
  | 0 => rfl
  | k + 1 => by simp [txI, txI_len h k]; omega
def strL (L : List Int) : ByteArray := strB (fn L) L.length
theorem strL_eq (L : List Int) : strL L = ⟨(L.map fun x => UInt8.ofNat x.toNat).toArray⟩ := by
  unfold strL strB
  congr 2
  apply List.ext_getElem?
  intro j
  simp only [List.getElem?_map]
  by_cases hj : j < L.length
  · simp [List.getElem?_range hj, fn, List.getElem?_eq_getElem hj]
  · rw [List.getElem?_eq_none (l := List.range L.length) (by simp; omega), List.getElem?_eq_none (l := L) (by omega)]; rfl
def hexB (h : List Nat) : ByteArray := strL (txI h 32)
theorem dg_lt {d : Nat} (h : d < 16) : dg d < 256 := by unfold dg; split <;> omega
theorem dgS_at {d : Nat} (h : d < 16) : dgS[d]? = some (UInt8.ofNat (dg d)) := by
  have : ∀ j : Fin 16, dgS[j.val]? = some (UInt8.ofNat (dg j.val)) := by decide
  exact this ⟨d, h⟩
theorem ru_idxS {P : Program} {o : Oper} {a : Act} {w : World} {t : TypeId} {y : Operand} {d : Nat} {k : IntKind} {i : Int} (hu : P.underlying t = some .string) (ho : o.op = .index t (.const (.string dgS)) y) (hy : a.eval y = .int k i) (hi : i = d) (hd : d < 16) :
    (execOp a.eval o).run P w = .ok (.value (.int .u8 (dg d : Nat))) w := by
  subst hi
  have h1 := dgS_at hd
  have h2 : (UInt8.ofNat (dg d)).toNat = dg d := by have := dg_lt hd; simp; omega
  have h3 : (dg d % 256 : Nat) = dg d := Nat.mod_eq_of_lt (dg_lt hd)
  unfold execOp
  simp [ho, hy, show a.eval (.const (.string dgS)) = .string dgS from rfl, Instr.index, run_underlying hu, asIntOf, h1, h3]
theorem run_build2 (x y : Int) (w : World) : (Instr.buildSlice 22 2 #[(0, .int .u8 x), (1, .int .u8 y)]).run Tryd.prog w = .ok (.slice (some ⟨w.heap.size, 0, none⟩) 2 2) (w.alloc (.cells #[.int .u8 x, .int .u8 y] 5)) := by kernel_rfl
theorem wp_build2 {o : Oper} {a : Act} {w : World} {K : Act → World → Prop} {Q : Exit → Act → World → Prop} {x y : Operand} {n m : Int} (ho : o.op = .buildSlice 22 2 #[(0, x), (1, y)]) (hx : a.eval x = .int .u8 n) (hy : a.eval y = .int .u8 m)
    (h : K (a.put o.dst (.slice (some ⟨w.heap.size, 0, none⟩) 2 2)) (w.alloc (.cells #[.int .u8 n, .int .u8 m] 5))) : o.wp Tryd.prog a w K Q := by
  unfold Oper.wp execOp
  simp only [ho, List.map_toArray, List.map_cons, List.map_nil, hx, hy, Sem.run_bind, run_build2, Result.andThen]
  exact h
theorem wp_append_B {o : Oper} {a : Act} {w : World} {K : Act → World → Prop} {Q : Exit → Act → World → Prop} {s x : Operand} (ho : o.op = .call { callee := .builtin .append, args := #[s, x], argTypes := #[22, 22] })
    {w0 : World} {v u : Value} {L ys : List Int} (hs : a.eval s = v) (hx : a.eval x = u) (hown : Ow w0 w v L) (hu : BSrc w u ys) (hy : ∀ y, y ∈ ys → 0 ≤ y ∧ y ≤ 255) (hlen : L.length + ys.length ≤ 140737488355328)
    (h : ∀ v' w1, Ow w0 w1 v' (L ++ ys) → K (a.put o.dst v') w1) : o.wp Tryd.prog a w K Q := by
  obtain ⟨v', w1, hr, h2⟩ := run_append_B w w0 o.type v u L ys hown hu hy hlen
  unfold Oper.wp execOp
  simp only [ho, resolve, invoke, builtin, Sem.run_bind, Sem.run_pure, Result.andThen_ok, List.map_toArray, List.map_cons, List.map_nil, hs, hx, hr]
  exact h v' w1 h2

set_option maxRecDepth 20000 in
set_option maxHeartbeats 4000000 in
theorem text_any (h : List Nat) (w : World) (hh : By 32 h) :
    Calls Tryd.prog 10 #[.agg (sv h)] w fun e w' => e = .returned (.string (hexB h)) ∧ Below w.heap.size w w' := by
  have hn0 := heap_alloc_new w (.cells (sv h) 25)
  have hb0 : Below w.heap.size w (w.alloc (.cells (sv h) 25)) := (Below.refl _ w).alloc (Nat.le_refl _) _
  go_enter Tryd.func10, Tryd.ntmps10
  go_wp2_with (first | (refine Go.Great.wpList_boxTo rfl _ _ rfl _ rfl _ rfl (sv h) rfl ?_) | (refine wpList_loadHs rfl _ rfl w.heap.size rfl h hh.1 _ _ hn0 ?_) | fail)
  generalize w.alloc (.cells (sv h) 25) = W0 at *
  go_loopw [3, 7] (fun tv iv (w' : World) => ∃ k : Nat, k ≤ 32 ∧ iv = .int .i64 k ∧ Ow W0 w' tv (txI h k)) (fun _ iv _ => 32 - (intOf iv).toNat)
  case atStart => exact ⟨0, by omega, rfl, Ow.nil W0⟩
  case round =>
    obtain ⟨k, hk, rfl, hO⟩ := hrel
    by_cases hlt : k < 32
    · have hk' : (k : Int) < 32 := by omega
      obtain ⟨x, hx⟩ : ∃ x, x = h.getD k 0 := ⟨_, rfl⟩
      have lx : x < 256 := by rw [hx]; exact hh.2 k
      have hix : (sv h)[k]? = some (.int .u8 (x : Nat)) := by rw [hx]; exact sv_at (by rw [hh.1]; exact hlt)
      have hrun : ∀ wx, (Instr.index 25 (.agg (sv h)) (.int .i64 (k : Int))).run Tryd.prog wx = .ok (.int .u8 (x : Nat)) wx := fun wx => run_idx Tryd.underlying25 hsz1 ag8 hlt hix wx
      have HX : Hid (txI h (k + 1) = txI h k ++ [((dg (x / 16) : Nat) : Int), ((dg (x % 16) : Nat) : Int)]) := by show _ = _; rw [txI, hx]
      have HO : Hid (Ow W0 wr u3 (txI h k)) := hO
      have hl := txI_len h k
      have HL : Hid ((txI h k).length = 2 * k) := hl
      have n1 : IntKind.u8.wrap ((x : Int) / 16) = (x / 16 : Nat) := by rw [IntKind.wrap_u8]; omega
      have n2 : bits .and .u8 (x : Int) 15 = ((x % 16 : Nat) : Int) := by
        rw [u8_and (x : Int) 15 (by omega) (by omega) (by decide) (by decide)]
        rw [Int.toNat_natCast, show (15 : Int).toNat = 15 from rfl, show x &&& 15 = x % 16 from Nat.and_two_pow_sub_one_eq_mod x 4]
      have q1 : x / 16 < 16 := by omega
      have q2 : x % 16 < 16 := by omega
      clear hx hix hO hl
      obtain ⟨qa, hqa⟩ : ∃ q, q = x / 16 := ⟨_, rfl⟩
      obtain ⟨qb, hqb⟩ : ∃ q, q = x % 16 := ⟨_, rfl⟩
      rw [← hqa] at n1 q1 HX
      rw [← hqb] at n2 q2 HX
      have n0 : (x : Int) / 16 = qa := by omega
      clear hqa hqb
      rw [n0] at n1
      go_wp2_with fail
      refine region_seq (c := 7) (f := 60) (ts := [(0, 0), (0, 1), (0, 2), (0, 3), (0, 4), (0, 5), (0, 6), (2, 7), (2, 8), (0, 9)]) (by kernel_rfl) (by kernel_rfl) ?_
      refine seq_W (o := { dst := some 10, op := Go.Op.move (Go.Operand.tmp 3), type := 22, pos := "blake.go:55", after := #[], guard := none }) (v := ?_) rfl rfl (fun wz => ?_) ?_
      rotate_left
      · go_simp; (try with_reducible rfl)
      try simp only [Act.put, List.setIfInBounds_toArray, List.set_cons_zero, List.set_cons_succ]
      refine seq_W (o := { dst := some 11, op := Go.Op.move (Go.Operand.tmp 5), type := 5, pos := "blake.go:55", after := #[], guard := none }) (v := ?_) rfl rfl (fun wz => ?_) ?_
      rotate_left
      · go_simp; (try with_reducible rfl)
      try simp only [Act.put, List.setIfInBounds_toArray, List.set_cons_zero, List.set_cons_succ]
      refine seq_W (o := { dst := some 12, op := Go.Op.binOp Go.BinOp.shr 5 (Go.Operand.tmp 11) (Go.Operand.const (Go.Value.int Go.IntKind.u64 4)) 46, type := 5, pos := "blake.go:55", after := #[{ on := 1, ground := Go.Ground.data }], guard := none }) (v := ?_) rfl rfl (fun wz => ?_) ?_
      rotate_left
      · go_simp; (try with_reducible rfl)
      try simp only [Act.put, List.setIfInBounds_toArray, List.set_cons_zero, List.set_cons_succ]
      refine seq_W (o := { dst := some 13, op := Go.Op.index 9 (Go.Operand.const (Go.Value.string { data := #[48, 49, 50, 51, 52, 53, 54, 55, 56, 57, 97, 98, 99, 100, 101, 102] })) (Go.Operand.tmp 12), type := 5, pos := "blake.go:55", after := #[{ on := 2, ground := Go.Ground.data }], guard := none }) rfl rfl (fun wz => ru_idxS Tryd.underlying9 rfl rfl rfl q1) ?_
      try simp only [Act.put, List.setIfInBounds_toArray, List.set_cons_zero, List.set_cons_succ]
      refine seq_W (o := { dst := some 14, op := Go.Op.move (Go.Operand.tmp 5), type := 5, pos := "blake.go:55", after := #[], guard := none }) (v := ?_) rfl rfl (fun wz => ?_) ?_
      rotate_left
      · go_simp; (try with_reducible rfl)
      try simp only [Act.put, List.setIfInBounds_toArray, List.set_cons_zero, List.set_cons_succ]
      refine seq_W (o := { dst := some 15, op := Go.Op.binOp Go.BinOp.and 5 (Go.Operand.tmp 14) (Go.Operand.const (Go.Value.int Go.IntKind.u8 15)) 5, type := 5, pos := "blake.go:55", after := #[{ on := 4, ground := Go.Ground.data }], guard := none }) (v := ?_) rfl rfl (fun wz => ?_) ?_
      rotate_left
      · go_simp; (try with_reducible rfl)
      try simp only [Act.put, List.setIfInBounds_toArray, List.set_cons_zero, List.set_cons_succ]
      refine seq_W (o := { dst := some 16, op := Go.Op.index 9 (Go.Operand.const (Go.Value.string { data := #[48, 49, 50, 51, 52, 53, 54, 55, 56, 57, 97, 98, 99, 100, 101, 102] })) (Go.Operand.tmp 15), type := 5, pos := "blake.go:55", after := #[{ on := 5, ground := Go.Ground.data }], guard := none }) rfl rfl (fun wz => ru_idxS Tryd.underlying9 rfl rfl rfl q2) ?_
      try simp only [Act.put, List.setIfInBounds_toArray, List.set_cons_zero, List.set_cons_succ]
      refine seq_A (o := { dst := some 17, op := Go.Op.buildSlice 22 2 #[(0, Go.Operand.tmp 13), (1, Go.Operand.tmp 16)], type := 22, pos := "blake.go:55", after := #[{ on := 3, ground := Go.Ground.data }, { on := 6, ground := Go.Ground.data }], guard := none }) rfl rfl (fun K hK => ?_)
      refine wp_build2 rfl rfl rfl (hK _ _ ?_)
      clear hK K
      try simp only [Act.put, List.setIfInBounds_toArray, List.set_cons_zero, List.set_cons_succ]
      refine seq_A (o := { dst := some 18, op := Go.Op.call { callee := Go.Callee.builtin Go.Builtin.append, args := #[Go.Operand.tmp 10, Go.Operand.tmp 17], argTypes := #[22, 22] }, type := 22, pos := "blake.go:55", after := #[{ on := 0, ground := Go.Ground.data }, { on := 7, ground := Go.Ground.data }], guard := none }) rfl rfl (fun K hK => ?_)
      refine wp_append_B rfl rfl rfl (HO.out.drew.alloc _) (two_src _ _ _) (by intro y hy; have := dg_lt q1; have := dg_lt q2; simp at hy; omega) (by have := HL.out; simp; omega) ?_
      intro v1 W1 hO1
      rw [← HX.out] at hO1
      refine hK _ _ ?_
      clear hK K
      have HO1 : Hid (Ow W0 W1 v1 (txI h (k + 1))) := hO1
      obtain ⟨ad1, cp1, hv1⟩ := hO1.form
      subst hv1
      clear hO1
      try simp only [Act.put, List.setIfInBounds_toArray, List.set_cons_zero, List.set_cons_succ]
      refine seq_W (o := { dst := some 3, op := Go.Op.assign (Go.Operand.tmp 18), type := 22, pos := "blake.go:55", after := #[{ on := 8, ground := Go.Ground.data }, { on := 8, ground := Go.Ground.chain }, { on := 0, ground := Go.Ground.phase }, { on := 1, ground := Go.Ground.phase }, { on := 2, ground := Go.Ground.phase }, { on := 3, ground := Go.Ground.phase }, { on := 4, ground := Go.Ground.phase }, { on := 5, ground := Go.Ground.phase }, { on := 6, ground := Go.Ground.phase }, { on := 7, ground := Go.Ground.phase }, { on := 8, ground := Go.Ground.phase }], guard := none }) (v := ?_) rfl rfl (fun wz => ?_) ?_
      rotate_left
      · go_simp; (try with_reducible rfl)
      try simp only [Act.put, List.setIfInBounds_toArray, List.set_cons_zero, List.set_cons_succ]
      refine seq_nil (NoPanic.normal ?_)
      try simp only [Act.put, List.setIfInBounds_toArray, List.set_cons_zero, List.set_cons_succ]
      go_wp2
      go_roundw
      case rel => exact ⟨k + 1, by omega, by go_num, HO1.out⟩
      case measure => simp [intOf]; omega
    · obtain rfl : k = 32 := by omega
      obtain ⟨ad1, cp1, hv1⟩ := hO.form
      subst hv1
      obtain ⟨_, hs, hnl, _, _⟩ := hO.fresh
      have hcv := conv_any ad1 _ cp1 _ wr hs hnl
      have hbw : Below w.heap.size w wr := hb0.trans (hO.below.mono hb0.size)
      clear hO hs hnl
      go_wp2
      go_ret
      exact ⟨rfl, hbw⟩
end Go.Proofs.YtcileagccdonfaaDoor
