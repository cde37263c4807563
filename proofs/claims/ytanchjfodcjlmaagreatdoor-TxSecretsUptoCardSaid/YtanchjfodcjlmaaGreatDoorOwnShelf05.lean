/- blake.wordsOf: a block's words. -/
import Derived.Test.YtanchjfodcjlmaaGreatDoorOwnShelf04
namespace Go.Proofs.YtanchjfodcjlmaaGreatDoor
open Go.RowKit

theorem sl8_bl (s : List Nat) : sl8 s = bl (fun j => (s.getD j 0 : Nat)) s.length := by
  apply List.ext_getElem?
  intro j
  simp only [sl8, bl, List.getElem?_map]
  by_cases h : j < s.length
  · simp [List.getElem?_range h, List.getElem?_eq_getElem h, List.getD_eq_getElem?_getD]
  · simp [List.getElem?_eq_none (Nat.le_of_not_lt h), List.getElem?_eq_none (l := List.range s.length) (by simpa using h)]
theorem sz64 : (Tryz.prog.info? 182).map (·.size) = some 64 := by kernel_rfl
theorem sz16 : (Tryz.prog.info? 198).map (·.size) = some 16 := by kernel_rfl
theorem run_alloc16 (w : World) : (Instr.alloc 198 true (.tuple #[])).run Tryz.prog w = .ok (.pointer (some ⟨w.heap.size, 0, none⟩)) (w.alloc (.cells (wv z16) 198)) := by kernel_rfl
section
variable {ops : Array Oper} {rest : List Oper} {o : Oper} {a : Act} {w : World} {Q : Exit → Act → World → Prop}
theorem wpList_alloc16 (hgd : o.guard = none) (ho : o.op = .alloc 198)
    (h : wpList Tryz.prog ops Q rest (a.put o.dst (.pointer (some ⟨w.heap.size, 0, none⟩))) (w.alloc (.cells (wv z16) 198))) : wpList Tryz.prog ops Q (o :: rest) a w := by
  refine wpList_plain hgd fun K hK => ?_
  unfold Oper.wp execOp
  simp only [ho, Sem.run_bind, run_alloc16, Result.andThen]
  exact hK _ _ h
theorem wpList_load16 (hgd : o.guard = none) (x : Operand) (ho : o.op = .load 198 x) (g : Nat) (hx : a.eval x = .pointer (some ⟨g, 0, none⟩)) (v : List Nat) (hl : v.length = 16) (t : TypeId) (fr : Nat × Nat) (hg : w.heap[g]? = some (.cells (wv v) t fr))
    (h : wpList Tryz.prog ops Q rest (a.put o.dst (.agg (wv v))) w) : wpList Tryz.prog ops Q (o :: rest) a w :=
  wpList_load_row hgd 198 x ho g hx t (wv v) fr _ hg Tryz.underlying198 rfl (by rw [wv_size, hl]; exact sz16) h
/-- A whole row of words stored into a variable of its own. -/
theorem wpList_store16 (hgd : o.guard = none) (x y : Operand) (ho : o.op = .store 198 x y) (g : Nat) (hx : a.eval x = .pointer (some ⟨g, 0, none⟩)) (v u : List Nat) (hl : v.length = 16) (hu : u.length = 16) (t : TypeId) (hy : a.eval y = .agg (wv v)) (hg : w.heap[g]? = some (.cells (wv u) t (0, 0)))
    (h : ∀ w', w'.heap[g]? = some (.cells (wv v) t (0, 0)) → Frm [g] w w' → wpList Tryz.prog ops Q rest (a.put o.dst undef) w') : wpList Tryz.prog ops Q (o :: rest) a w := by
  refine wpList_store_mid hgd 198 x y ho g 0 (wv v) hx hy ?_ (by rw [wv_size, hl]; exact sz16) (wv_one v) (h _ ?_ (setCells_frm g _ 0 w))
  · intro j hj
    rw [wv_size, hl] at hj
    refine ⟨?_, ?_⟩
    · rw [Nat.zero_add, cell_of_row w g j _ t _ hg]
      simp [wv_size, hu, hj]
    · rw [Nat.zero_add]; exact frozen_of_row w g j _ t hg
  · have := setCells_at g (wv v).toList 0 w [] (wv u).toList t (by simpa using hg) rfl (by simp [wv_size, hl, hu])
    rw [this]
    simp [wv_size, hl, hu, List.drop_eq_nil_of_le]
end
section
variable {ops : Array Oper} {rest : List Oper} {o : Oper} {a : Act} {w : World} {Q : Exit → Act → World → Prop}
theorem wpList_load64 (hgd : o.guard = none) (x : Operand) (ho : o.op = .load 182 x) (g : Nat) (hx : a.eval x = .pointer (some ⟨g, 0, none⟩)) (b : List Nat) (hl : b.length = 64) (t : TypeId) (fr : Nat × Nat) (hg : w.heap[g]? = some (.cells (sv b) t fr))
    (h : wpList Tryz.prog ops Q rest (a.put o.dst (.agg (sv b))) w) : wpList Tryz.prog ops Q (o :: rest) a w :=
  wpList_load_row hgd 182 x ho g hx t (sv b) fr _ hg Tryz.underlying182 rfl (by rw [sv_size, hl]; exact sz64) h
end
theorem run_idx {P : Program} {t e : TypeId} {n i : Nat} {cs : Array Value} {u : Value} {k : IntKind} (hu : P.underlying t = some (.array n e)) (hz : ∀ w, (sizeOf e).run P w = .ok 1 w) (ha : ∀ w, (isAgg e).run P w = .ok false w) (hi : i < n) (hc : cs[i]? = some u) (w : World) :
    (Instr.index t (.agg cs) (.int k (i : Int))).run P w = .ok u w := by
  simp [Instr.index, run_underlying hu, asIntOf, part, hz, ha, hi, hc]
theorem ag8 (w : World) : (isAgg 5).run Tryz.prog w = .ok false w := by kernel_rfl
theorem ag32 (w : World) : (isAgg 151).run Tryz.prog w = .ok false w := by kernel_rfl
theorem or_W (a b : Nat) (ha : a < 4294967296) (hb : b < 4294967296) : bits .or .u32 (a : Int) (b : Int) = ((a ||| b : Nat) : Int) := by
  have := u32_or (a : Int) b (by omega) (by omega) (by omega) (by omega)
  simpa using this

set_option maxRecDepth 20000 in
set_option maxHeartbeats 4000000 in
theorem wordsOf_any (b : List Nat) (w : World) (hb : By 64 b) :
    Calls Tryz.prog 112 #[.agg (sv b)] w fun e w' => e = .returned (.agg (wv (mP b 64))) ∧ Below w.heap.size w w' := by
  have hn0 : (((w.alloc (.cells (sv b) 182)).alloc (.cells (wv z16) 198)).alloc (.cells (wv z16) 198)).heap[w.heap.size]? = some (.cells (sv b) 182 (0, 0)) := by
    rw [Below.heap_alloc _ _ _ (by simp; omega), Below.heap_alloc _ _ _ (by simp)]; exact heap_alloc_new w _
  have hn1 : (((w.alloc (.cells (sv b) 182)).alloc (.cells (wv z16) 198)).alloc (.cells (wv z16) 198)).heap[w.heap.size + 1]? = some (.cells (wv z16) 198 (0, 0)) := by
    rw [Below.heap_alloc _ _ _ (by simp)]
    have := heap_alloc_new (w.alloc (.cells (sv b) 182)) (.cells (wv z16) 198)
    simpa using this
  have hn2 : (((w.alloc (.cells (sv b) 182)).alloc (.cells (wv z16) 198)).alloc (.cells (wv z16) 198)).heap[w.heap.size + 1 + 1]? = some (.cells (wv z16) 198 (0, 0)) := by
    have := heap_alloc_new ((w.alloc (.cells (sv b) 182)).alloc (.cells (wv z16) 198)) (.cells (wv z16) 198)
    simpa using this
  have hb0 : Below w.heap.size w (((w.alloc (.cells (sv b) 182)).alloc (.cells (wv z16) 198)).alloc (.cells (wv z16) 198)) := (((Below.refl _ w).alloc (Nat.le_refl _) _).alloc (by simp) _).alloc (by simp; omega) _
  go_enter Tryz.func112, Tryz.ntmps112
  go_wp2_with (first | (refine Go.Great.wpList_boxTo rfl _ _ rfl _ rfl _ rfl (sv b) rfl ?_) | (refine wpList_alloc16 rfl rfl ?_) | (refine wpList_load64 rfl _ rfl w.heap.size rfl b hb.1 _ _ hn0 ?_) | fail)
  generalize (((w.alloc (.cells (sv b) 182)).alloc (.cells (wv z16) 198)).alloc (.cells (wv z16) 198)) = W0 at *
  go_loopw [7] (fun i (w' : World) => ∃ k : Nat, k ≤ 64 ∧ i = .int .i64 k ∧ w'.heap[w.heap.size + 1 + 1]? = some (.cells (wv (mP b k)) 198 (0, 0)) ∧ Frm [w.heap.size + 1 + 1] W0 w') (fun i _ => 64 - (intOf i).toNat)
  case atStart => exact ⟨0, by omega, rfl, hn2, Frm.refl _ _⟩
  case round =>
    obtain ⟨k, hk, rfl, hm, hF⟩ := hrel
    by_cases hlt : k < 64
    · have hk' : (k : Int) < 64 := by omega
      obtain ⟨x, hx⟩ : ∃ x, x = b.getD k 0 := ⟨_, rfl⟩
      obtain ⟨y, hy⟩ : ∃ y, y = (mP b k).getD (k / 4) 0 := ⟨_, rfl⟩
      have hxl : x < 256 := by rw [hx]; exact hb.2 k
      have hxi : (x : Int) ≤ 255 := by omega
      have hyl : y < 4294967296 := by rw [hy]; exact (mP_ok hb.2 k).2 _
      have hix : (sv b)[k]? = some (.int .u8 (x : Nat)) := by rw [hx]; exact sv_at (by rw [hb.1]; exact hlt)
      have hrun : ∀ wx, (Instr.index 182 (.agg (sv b)) (.int .i64 (k : Int))).run Tryz.prog wx = .ok (.int .u8 (x : Nat)) wx := fun wx => run_idx Tryz.underlying182 hsz1 ag8 hlt hix wx
      obtain ⟨q, hq⟩ : ∃ q, q = k / 4 := ⟨_, rfl⟩
      have hq4 : (q : Int) < 16 := by omega
      have hqi : (k : Int) / 4 = q := by omega
      have hc : wr.drew.cell? ⟨w.heap.size + 1 + 1, q, none⟩ = some (.int .u32 (y : Nat)) := by
        rw [cell_of_row wr.drew _ q _ _ _ hm, hy, ← hq]; exact wv_at (by rw [(mP_ok hb.2 k).1]; omega)
      have hf : wr.drew.frozen? ⟨w.heap.size + 1 + 1, q, none⟩ = false := frozen_of_row wr.drew _ q _ _ hm
      have HN : Hid (∀ z : Nat, z = y ||| (x <<< (8 * (k % 4))) → (wr.drew.setCell ⟨w.heap.size + 1 + 1, q, none⟩ (.int .u32 (z : Nat))).heap[w.heap.size + 1 + 1]? = some (.cells (wv (mP b (k + 1))) 198 (0, 0)) ∧ Frm [w.heap.size + 1 + 1] W0 (wr.drew.setCell ⟨w.heap.size + 1 + 1, q, none⟩ (.int .u32 (z : Nat)))) := by
        intro z hz
        refine ⟨?_, hF.drew.setCell _ _ (by simp)⟩
        have := wv_set (w := wr.drew) hm q z
        rw [this, mP, ← hq, hz, hy, hx, ← hq]
      clear hix hm hF
      have hrc : k % 4 = 0 ∨ k % 4 = 1 ∨ k % 4 = 2 ∨ k % 4 = 3 := by omega
      rcases hrc with hr | hr | hr | hr
      · have e3 : (k : Int).tmod 4 = 0 := by rw [Int.tmod_eq_emod_of_nonneg (by omega)]; omega
        have e4 : IntKind.i64.wrap 0 = 0 := by kernel_rfl
        have e1 : IntKind.i64.wrap (q : Int) = q := by rw [IntKind.wrap_i64]; omega
        have e2 : IntKind.u32.wrap (x : Int) = x := by rw [IntKind.wrap_u32]; omega
        obtain ⟨z, hz⟩ : ∃ z, z = y ||| (x <<< (8 * (k % 4))) := ⟨_, rfl⟩
        have hor : bits .or .u32 (y : Int) (x : Int) = (z : Nat) := by
          have hs : (x : Int) = ((x <<< (8 * 0) : Nat) : Int) := by rw [Nat.shiftLeft_eq]; omega
          rw [hs, hz, hr]; exact or_W y _ hyl (shl_lt hxl (by omega))
        have HZ : Hid _ := HN.out z hz
        clear HN hr hx hy hq hz
        go_wp2_with fail
        refine region_seq (c := 12) (f := 60) (ts := [(0, 0), (0, 1), (0, 2), (1, 3), (0, 4), (0, 5), (0, 6), (0, 7), (0, 8), (0, 9), (0, 10), (0, 11), (2, 12)]) (by kernel_rfl) (by kernel_rfl) ?_
        refine seq_W (o := { dst := some 11, op := Go.Op.move (Go.Operand.tmp 4), type := 3, pos := "blake.go:150", after := #[], guard := none }) (v := ?_) rfl rfl (fun wz => ?_) ?_
        rotate_left
        · go_simp; (try with_reducible rfl)
        try simp only [Act.put, List.setIfInBounds_toArray, List.set_cons_zero, List.set_cons_succ]
        refine seq_W (o := { dst := some 12, op := Go.Op.binOp Go.BinOp.quo 3 (Go.Operand.tmp 11) (Go.Operand.const (Go.Value.int Go.IntKind.i64 4)) 3, type := 3, pos := "blake.go:150", after := #[{ on := 0, ground := Go.Ground.data }], guard := none }) (v := ?_) rfl rfl (fun wz => ?_) ?_
        rotate_left
        · go_simp; (try with_reducible rfl)
        try simp only [Act.put, List.setIfInBounds_toArray, List.set_cons_zero, List.set_cons_succ]
        refine seq_W (o := { dst := some 13, op := Go.Op.indexAddr 198 (Go.Operand.tmp 3) (Go.Operand.tmp 12), type := 0, pos := "blake.go:150", after := #[{ on := 1, ground := Go.Ground.data }], guard := none }) (v := ?_) rfl rfl (fun wz => ?_) ?_
        rotate_left
        · go_simp; (try with_reducible rfl)
        try simp only [Act.put, List.setIfInBounds_toArray, List.set_cons_zero, List.set_cons_succ]
        refine seq_R (o := { dst := some 14, op := Go.Op.load 151 (Go.Operand.tmp 13), type := 151, pos := "blake.go:150", after := #[{ on := 2, ground := Go.Ground.data }], guard := none }) (v := ?_) rfl rfl ?_ ?_
        rotate_left
        · go_simp; (try with_reducible rfl)
        try simp only [Act.put, List.setIfInBounds_toArray, List.set_cons_zero, List.set_cons_succ]
        refine seq_W (o := { dst := some 15, op := Go.Op.move (Go.Operand.tmp 5), type := 5, pos := "blake.go:150", after := #[], guard := none }) (v := ?_) rfl rfl (fun wz => ?_) ?_
        rotate_left
        · go_simp; (try with_reducible rfl)
        try simp only [Act.put, List.setIfInBounds_toArray, List.set_cons_zero, List.set_cons_succ]
        refine seq_W (o := { dst := some 16, op := Go.Op.convert 5 151 (Go.Operand.tmp 15), type := 151, pos := "blake.go:150", after := #[{ on := 4, ground := Go.Ground.data }], guard := none }) (v := ?_) rfl rfl (fun wz => ?_) ?_
        rotate_left
        · go_simp; (try with_reducible rfl)
        try simp only [Act.put, List.setIfInBounds_toArray, List.set_cons_zero, List.set_cons_succ]
        refine seq_W (o := { dst := some 17, op := Go.Op.move (Go.Operand.tmp 4), type := 3, pos := "blake.go:150", after := #[], guard := none }) (v := ?_) rfl rfl (fun wz => ?_) ?_
        rotate_left
        · go_simp; (try with_reducible rfl)
        try simp only [Act.put, List.setIfInBounds_toArray, List.set_cons_zero, List.set_cons_succ]
        refine seq_W (o := { dst := some 18, op := Go.Op.binOp Go.BinOp.rem 3 (Go.Operand.tmp 17) (Go.Operand.const (Go.Value.int Go.IntKind.i64 4)) 3, type := 3, pos := "blake.go:150", after := #[{ on := 6, ground := Go.Ground.data }], guard := none }) (v := ?_) rfl rfl (fun wz => ?_) ?_
        rotate_left
        · go_simp; (try with_reducible rfl)
        try simp only [Act.put, List.setIfInBounds_toArray, List.set_cons_zero, List.set_cons_succ]
        refine seq_W (o := { dst := some 19, op := Go.Op.binOp Go.BinOp.mul 3 (Go.Operand.const (Go.Value.int Go.IntKind.i64 8)) (Go.Operand.tmp 18) 3, type := 3, pos := "blake.go:150", after := #[{ on := 7, ground := Go.Ground.data }], guard := none }) (v := ?_) rfl rfl (fun wz => ?_) ?_
        rotate_left
        · go_simp; (try with_reducible rfl)
        try simp only [Act.put, List.setIfInBounds_toArray, List.set_cons_zero, List.set_cons_succ]
        refine seq_W (o := { dst := some 20, op := Go.Op.binOp Go.BinOp.shl 151 (Go.Operand.tmp 16) (Go.Operand.tmp 19) 3, type := 151, pos := "blake.go:150", after := #[{ on := 5, ground := Go.Ground.data }, { on := 8, ground := Go.Ground.data }], guard := none }) (v := ?_) rfl rfl (fun wz => ?_) ?_
        rotate_left
        · go_simp; (try with_reducible rfl)
        try simp only [Act.put, List.setIfInBounds_toArray, List.set_cons_zero, List.set_cons_succ]
        refine seq_W (o := { dst := some 21, op := Go.Op.binOp Go.BinOp.or 151 (Go.Operand.tmp 14) (Go.Operand.tmp 20) 151, type := 151, pos := "blake.go:150", after := #[{ on := 3, ground := Go.Ground.data }, { on := 9, ground := Go.Ground.data }], guard := none }) (v := ?_) rfl rfl (fun wz => ?_) ?_
        rotate_left
        · go_simp; (try with_reducible rfl)
        try simp only [Act.put, List.setIfInBounds_toArray, List.set_cons_zero, List.set_cons_succ]
        refine seq_W (o := { dst := some 22, op := Go.Op.indexAddr 198 (Go.Operand.tmp 3) (Go.Operand.tmp 12), type := 0, pos := "blake.go:150", after := #[{ on := 1, ground := Go.Ground.data }, { on := 0, ground := Go.Ground.phase }, { on := 1, ground := Go.Ground.phase }, { on := 2, ground := Go.Ground.phase }, { on := 3, ground := Go.Ground.phase }, { on := 4, ground := Go.Ground.phase }, { on := 5, ground := Go.Ground.phase }, { on := 6, ground := Go.Ground.phase }, { on := 7, ground := Go.Ground.phase }, { on := 8, ground := Go.Ground.phase }, { on := 9, ground := Go.Ground.phase }, { on := 10, ground := Go.Ground.phase }], guard := none }) (v := ?_) rfl rfl (fun wz => ?_) ?_
        rotate_left
        · go_simp; (try with_reducible rfl)
        try simp only [Act.put, List.setIfInBounds_toArray, List.set_cons_zero, List.set_cons_succ]
        refine seq_A (o := { dst := none, op := Go.Op.store 151 (Go.Operand.tmp 22) (Go.Operand.tmp 21), type := 0, pos := "blake.go:150", after := #[{ on := 11, ground := Go.Ground.data }, { on := 10, ground := Go.Ground.data }, { on := 0, ground := Go.Ground.phase }, { on := 1, ground := Go.Ground.phase }, { on := 2, ground := Go.Ground.phase }, { on := 3, ground := Go.Ground.phase }, { on := 4, ground := Go.Ground.phase }, { on := 5, ground := Go.Ground.phase }, { on := 6, ground := Go.Ground.phase }, { on := 7, ground := Go.Ground.phase }, { on := 8, ground := Go.Ground.phase }, { on := 9, ground := Go.Ground.phase }, { on := 10, ground := Go.Ground.phase }], guard := none }) rfl rfl (fun K hK => ?_)
        go_simp
        refine hK _ _ ?_
        clear hK K
        try simp only [Act.put, List.setIfInBounds_toArray, List.set_cons_zero, List.set_cons_succ]
        refine seq_nil (NoPanic.normal ?_)
        try simp only [Act.put, List.setIfInBounds_toArray, List.set_cons_zero, List.set_cons_succ]
        go_wp2
        go_roundw
        case rel => exact ⟨k + 1, by omega, by go_num, HZ.out.1, HZ.out.2⟩
        case measure => simp [intOf]; omega
      · have e3 : (k : Int).tmod 4 = 1 := by rw [Int.tmod_eq_emod_of_nonneg (by omega)]; omega
        have e4 : IntKind.i64.wrap 8 = 8 := by kernel_rfl
        have e1 : IntKind.i64.wrap (q : Int) = q := by rw [IntKind.wrap_i64]; omega
        have e2 : IntKind.u32.wrap (x : Int) = x := by rw [IntKind.wrap_u32]; omega
        obtain ⟨z, hz⟩ : ∃ z, z = y ||| (x <<< (8 * (k % 4))) := ⟨_, rfl⟩
        have hor : bits .or .u32 (y : Int) (IntKind.u32.wrap ((x : Int) * 256)) = (z : Nat) := by
          have hs : (IntKind.u32.wrap ((x : Int) * 256)) = ((x <<< (8 * 1) : Nat) : Int) := by rw [IntKind.wrap_u32, Nat.shiftLeft_eq]; omega
          rw [hs, hz, hr]; exact or_W y _ hyl (shl_lt hxl (by omega))
        have HZ : Hid _ := HN.out z hz
        clear HN hr hx hy hq hz
        go_wp2_with fail
        refine region_seq (c := 12) (f := 60) (ts := [(0, 0), (0, 1), (0, 2), (1, 3), (0, 4), (0, 5), (0, 6), (0, 7), (0, 8), (0, 9), (0, 10), (0, 11), (2, 12)]) (by kernel_rfl) (by kernel_rfl) ?_
        refine seq_W (o := { dst := some 11, op := Go.Op.move (Go.Operand.tmp 4), type := 3, pos := "blake.go:150", after := #[], guard := none }) (v := ?_) rfl rfl (fun wz => ?_) ?_
        rotate_left
        · go_simp; (try with_reducible rfl)
        try simp only [Act.put, List.setIfInBounds_toArray, List.set_cons_zero, List.set_cons_succ]
        refine seq_W (o := { dst := some 12, op := Go.Op.binOp Go.BinOp.quo 3 (Go.Operand.tmp 11) (Go.Operand.const (Go.Value.int Go.IntKind.i64 4)) 3, type := 3, pos := "blake.go:150", after := #[{ on := 0, ground := Go.Ground.data }], guard := none }) (v := ?_) rfl rfl (fun wz => ?_) ?_
        rotate_left
        · go_simp; (try with_reducible rfl)
        try simp only [Act.put, List.setIfInBounds_toArray, List.set_cons_zero, List.set_cons_succ]
        refine seq_W (o := { dst := some 13, op := Go.Op.indexAddr 198 (Go.Operand.tmp 3) (Go.Operand.tmp 12), type := 0, pos := "blake.go:150", after := #[{ on := 1, ground := Go.Ground.data }], guard := none }) (v := ?_) rfl rfl (fun wz => ?_) ?_
        rotate_left
        · go_simp; (try with_reducible rfl)
        try simp only [Act.put, List.setIfInBounds_toArray, List.set_cons_zero, List.set_cons_succ]
        refine seq_R (o := { dst := some 14, op := Go.Op.load 151 (Go.Operand.tmp 13), type := 151, pos := "blake.go:150", after := #[{ on := 2, ground := Go.Ground.data }], guard := none }) (v := ?_) rfl rfl ?_ ?_
        rotate_left
        · go_simp; (try with_reducible rfl)
        try simp only [Act.put, List.setIfInBounds_toArray, List.set_cons_zero, List.set_cons_succ]
        refine seq_W (o := { dst := some 15, op := Go.Op.move (Go.Operand.tmp 5), type := 5, pos := "blake.go:150", after := #[], guard := none }) (v := ?_) rfl rfl (fun wz => ?_) ?_
        rotate_left
        · go_simp; (try with_reducible rfl)
        try simp only [Act.put, List.setIfInBounds_toArray, List.set_cons_zero, List.set_cons_succ]
        refine seq_W (o := { dst := some 16, op := Go.Op.convert 5 151 (Go.Operand.tmp 15), type := 151, pos := "blake.go:150", after := #[{ on := 4, ground := Go.Ground.data }], guard := none }) (v := ?_) rfl rfl (fun wz => ?_) ?_
        rotate_left
        · go_simp; (try with_reducible rfl)
        try simp only [Act.put, List.setIfInBounds_toArray, List.set_cons_zero, List.set_cons_succ]
        refine seq_W (o := { dst := some 17, op := Go.Op.move (Go.Operand.tmp 4), type := 3, pos := "blake.go:150", after := #[], guard := none }) (v := ?_) rfl rfl (fun wz => ?_) ?_
        rotate_left
        · go_simp; (try with_reducible rfl)
        try simp only [Act.put, List.setIfInBounds_toArray, List.set_cons_zero, List.set_cons_succ]
        refine seq_W (o := { dst := some 18, op := Go.Op.binOp Go.BinOp.rem 3 (Go.Operand.tmp 17) (Go.Operand.const (Go.Value.int Go.IntKind.i64 4)) 3, type := 3, pos := "blake.go:150", after := #[{ on := 6, ground := Go.Ground.data }], guard := none }) (v := ?_) rfl rfl (fun wz => ?_) ?_
        rotate_left
        · go_simp; (try with_reducible rfl)
        try simp only [Act.put, List.setIfInBounds_toArray, List.set_cons_zero, List.set_cons_succ]
        refine seq_W (o := { dst := some 19, op := Go.Op.binOp Go.BinOp.mul 3 (Go.Operand.const (Go.Value.int Go.IntKind.i64 8)) (Go.Operand.tmp 18) 3, type := 3, pos := "blake.go:150", after := #[{ on := 7, ground := Go.Ground.data }], guard := none }) (v := ?_) rfl rfl (fun wz => ?_) ?_
        rotate_left
        · go_simp; (try with_reducible rfl)
        try simp only [Act.put, List.setIfInBounds_toArray, List.set_cons_zero, List.set_cons_succ]
        refine seq_W (o := { dst := some 20, op := Go.Op.binOp Go.BinOp.shl 151 (Go.Operand.tmp 16) (Go.Operand.tmp 19) 3, type := 151, pos := "blake.go:150", after := #[{ on := 5, ground := Go.Ground.data }, { on := 8, ground := Go.Ground.data }], guard := none }) (v := ?_) rfl rfl (fun wz => ?_) ?_
        rotate_left
        · go_simp; (try with_reducible rfl)
        try simp only [Act.put, List.setIfInBounds_toArray, List.set_cons_zero, List.set_cons_succ]
        refine seq_W (o := { dst := some 21, op := Go.Op.binOp Go.BinOp.or 151 (Go.Operand.tmp 14) (Go.Operand.tmp 20) 151, type := 151, pos := "blake.go:150", after := #[{ on := 3, ground := Go.Ground.data }, { on := 9, ground := Go.Ground.data }], guard := none }) (v := ?_) rfl rfl (fun wz => ?_) ?_
        rotate_left
        · go_simp; (try with_reducible rfl)
        try simp only [Act.put, List.setIfInBounds_toArray, List.set_cons_zero, List.set_cons_succ]
        refine seq_W (o := { dst := some 22, op := Go.Op.indexAddr 198 (Go.Operand.tmp 3) (Go.Operand.tmp 12), type := 0, pos := "blake.go:150", after := #[{ on := 1, ground := Go.Ground.data }, { on := 0, ground := Go.Ground.phase }, { on := 1, ground := Go.Ground.phase }, { on := 2, ground := Go.Ground.phase }, { on := 3, ground := Go.Ground.phase }, { on := 4, ground := Go.Ground.phase }, { on := 5, ground := Go.Ground.phase }, { on := 6, ground := Go.Ground.phase }, { on := 7, ground := Go.Ground.phase }, { on := 8, ground := Go.Ground.phase }, { on := 9, ground := Go.Ground.phase }, { on := 10, ground := Go.Ground.phase }], guard := none }) (v := ?_) rfl rfl (fun wz => ?_) ?_
        rotate_left
        · go_simp; (try with_reducible rfl)
        try simp only [Act.put, List.setIfInBounds_toArray, List.set_cons_zero, List.set_cons_succ]
        refine seq_A (o := { dst := none, op := Go.Op.store 151 (Go.Operand.tmp 22) (Go.Operand.tmp 21), type := 0, pos := "blake.go:150", after := #[{ on := 11, ground := Go.Ground.data }, { on := 10, ground := Go.Ground.data }, { on := 0, ground := Go.Ground.phase }, { on := 1, ground := Go.Ground.phase }, { on := 2, ground := Go.Ground.phase }, { on := 3, ground := Go.Ground.phase }, { on := 4, ground := Go.Ground.phase }, { on := 5, ground := Go.Ground.phase }, { on := 6, ground := Go.Ground.phase }, { on := 7, ground := Go.Ground.phase }, { on := 8, ground := Go.Ground.phase }, { on := 9, ground := Go.Ground.phase }, { on := 10, ground := Go.Ground.phase }], guard := none }) rfl rfl (fun K hK => ?_)
        go_simp
        refine hK _ _ ?_
        clear hK K
        try simp only [Act.put, List.setIfInBounds_toArray, List.set_cons_zero, List.set_cons_succ]
        refine seq_nil (NoPanic.normal ?_)
        try simp only [Act.put, List.setIfInBounds_toArray, List.set_cons_zero, List.set_cons_succ]
        go_wp2
        go_roundw
        case rel => exact ⟨k + 1, by omega, by go_num, HZ.out.1, HZ.out.2⟩
        case measure => simp [intOf]; omega
      · have e3 : (k : Int).tmod 4 = 2 := by rw [Int.tmod_eq_emod_of_nonneg (by omega)]; omega
        have e4 : IntKind.i64.wrap 16 = 16 := by kernel_rfl
        have e1 : IntKind.i64.wrap (q : Int) = q := by rw [IntKind.wrap_i64]; omega
        have e2 : IntKind.u32.wrap (x : Int) = x := by rw [IntKind.wrap_u32]; omega
        obtain ⟨z, hz⟩ : ∃ z, z = y ||| (x <<< (8 * (k % 4))) := ⟨_, rfl⟩
        have hor : bits .or .u32 (y : Int) (IntKind.u32.wrap ((x : Int) * 65536)) = (z : Nat) := by
          have hs : (IntKind.u32.wrap ((x : Int) * 65536)) = ((x <<< (8 * 2) : Nat) : Int) := by rw [IntKind.wrap_u32, Nat.shiftLeft_eq]; omega
          rw [hs, hz, hr]; exact or_W y _ hyl (shl_lt hxl (by omega))
        have HZ : Hid _ := HN.out z hz
        clear HN hr hx hy hq hz
        go_wp2_with fail
        refine region_seq (c := 12) (f := 60) (ts := [(0, 0), (0, 1), (0, 2), (1, 3), (0, 4), (0, 5), (0, 6), (0, 7), (0, 8), (0, 9), (0, 10), (0, 11), (2, 12)]) (by kernel_rfl) (by kernel_rfl) ?_
        refine seq_W (o := { dst := some 11, op := Go.Op.move (Go.Operand.tmp 4), type := 3, pos := "blake.go:150", after := #[], guard := none }) (v := ?_) rfl rfl (fun wz => ?_) ?_
        rotate_left
        · go_simp; (try with_reducible rfl)
        try simp only [Act.put, List.setIfInBounds_toArray, List.set_cons_zero, List.set_cons_succ]
        refine seq_W (o := { dst := some 12, op := Go.Op.binOp Go.BinOp.quo 3 (Go.Operand.tmp 11) (Go.Operand.const (Go.Value.int Go.IntKind.i64 4)) 3, type := 3, pos := "blake.go:150", after := #[{ on := 0, ground := Go.Ground.data }], guard := none }) (v := ?_) rfl rfl (fun wz => ?_) ?_
        rotate_left
        · go_simp; (try with_reducible rfl)
        try simp only [Act.put, List.setIfInBounds_toArray, List.set_cons_zero, List.set_cons_succ]
        refine seq_W (o := { dst := some 13, op := Go.Op.indexAddr 198 (Go.Operand.tmp 3) (Go.Operand.tmp 12), type := 0, pos := "blake.go:150", after := #[{ on := 1, ground := Go.Ground.data }], guard := none }) (v := ?_) rfl rfl (fun wz => ?_) ?_
        rotate_left
        · go_simp; (try with_reducible rfl)
        try simp only [Act.put, List.setIfInBounds_toArray, List.set_cons_zero, List.set_cons_succ]
        refine seq_R (o := { dst := some 14, op := Go.Op.load 151 (Go.Operand.tmp 13), type := 151, pos := "blake.go:150", after := #[{ on := 2, ground := Go.Ground.data }], guard := none }) (v := ?_) rfl rfl ?_ ?_
        rotate_left
        · go_simp; (try with_reducible rfl)
        try simp only [Act.put, List.setIfInBounds_toArray, List.set_cons_zero, List.set_cons_succ]
        refine seq_W (o := { dst := some 15, op := Go.Op.move (Go.Operand.tmp 5), type := 5, pos := "blake.go:150", after := #[], guard := none }) (v := ?_) rfl rfl (fun wz => ?_) ?_
        rotate_left
        · go_simp; (try with_reducible rfl)
        try simp only [Act.put, List.setIfInBounds_toArray, List.set_cons_zero, List.set_cons_succ]
        refine seq_W (o := { dst := some 16, op := Go.Op.convert 5 151 (Go.Operand.tmp 15), type := 151, pos := "blake.go:150", after := #[{ on := 4, ground := Go.Ground.data }], guard := none }) (v := ?_) rfl rfl (fun wz => ?_) ?_
        rotate_left
        · go_simp; (try with_reducible rfl)
        try simp only [Act.put, List.setIfInBounds_toArray, List.set_cons_zero, List.set_cons_succ]
        refine seq_W (o := { dst := some 17, op := Go.Op.move (Go.Operand.tmp 4), type := 3, pos := "blake.go:150", after := #[], guard := none }) (v := ?_) rfl rfl (fun wz => ?_) ?_
        rotate_left
        · go_simp; (try with_reducible rfl)
        try simp only [Act.put, List.setIfInBounds_toArray, List.set_cons_zero, List.set_cons_succ]
        refine seq_W (o := { dst := some 18, op := Go.Op.binOp Go.BinOp.rem 3 (Go.Operand.tmp 17) (Go.Operand.const (Go.Value.int Go.IntKind.i64 4)) 3, type := 3, pos := "blake.go:150", after := #[{ on := 6, ground := Go.Ground.data }], guard := none }) (v := ?_) rfl rfl (fun wz => ?_) ?_
        rotate_left
        · go_simp; (try with_reducible rfl)
        try simp only [Act.put, List.setIfInBounds_toArray, List.set_cons_zero, List.set_cons_succ]
        refine seq_W (o := { dst := some 19, op := Go.Op.binOp Go.BinOp.mul 3 (Go.Operand.const (Go.Value.int Go.IntKind.i64 8)) (Go.Operand.tmp 18) 3, type := 3, pos := "blake.go:150", after := #[{ on := 7, ground := Go.Ground.data }], guard := none }) (v := ?_) rfl rfl (fun wz => ?_) ?_
        rotate_left
        · go_simp; (try with_reducible rfl)
        try simp only [Act.put, List.setIfInBounds_toArray, List.set_cons_zero, List.set_cons_succ]
        refine seq_W (o := { dst := some 20, op := Go.Op.binOp Go.BinOp.shl 151 (Go.Operand.tmp 16) (Go.Operand.tmp 19) 3, type := 151, pos := "blake.go:150", after := #[{ on := 5, ground := Go.Ground.data }, { on := 8, ground := Go.Ground.data }], guard := none }) (v := ?_) rfl rfl (fun wz => ?_) ?_
        rotate_left
        · go_simp; (try with_reducible rfl)
        try simp only [Act.put, List.setIfInBounds_toArray, List.set_cons_zero, List.set_cons_succ]
        refine seq_W (o := { dst := some 21, op := Go.Op.binOp Go.BinOp.or 151 (Go.Operand.tmp 14) (Go.Operand.tmp 20) 151, type := 151, pos := "blake.go:150", after := #[{ on := 3, ground := Go.Ground.data }, { on := 9, ground := Go.Ground.data }], guard := none }) (v := ?_) rfl rfl (fun wz => ?_) ?_
        rotate_left
        · go_simp; (try with_reducible rfl)
        try simp only [Act.put, List.setIfInBounds_toArray, List.set_cons_zero, List.set_cons_succ]
        refine seq_W (o := { dst := some 22, op := Go.Op.indexAddr 198 (Go.Operand.tmp 3) (Go.Operand.tmp 12), type := 0, pos := "blake.go:150", after := #[{ on := 1, ground := Go.Ground.data }, { on := 0, ground := Go.Ground.phase }, { on := 1, ground := Go.Ground.phase }, { on := 2, ground := Go.Ground.phase }, { on := 3, ground := Go.Ground.phase }, { on := 4, ground := Go.Ground.phase }, { on := 5, ground := Go.Ground.phase }, { on := 6, ground := Go.Ground.phase }, { on := 7, ground := Go.Ground.phase }, { on := 8, ground := Go.Ground.phase }, { on := 9, ground := Go.Ground.phase }, { on := 10, ground := Go.Ground.phase }], guard := none }) (v := ?_) rfl rfl (fun wz => ?_) ?_
        rotate_left
        · go_simp; (try with_reducible rfl)
        try simp only [Act.put, List.setIfInBounds_toArray, List.set_cons_zero, List.set_cons_succ]
        refine seq_A (o := { dst := none, op := Go.Op.store 151 (Go.Operand.tmp 22) (Go.Operand.tmp 21), type := 0, pos := "blake.go:150", after := #[{ on := 11, ground := Go.Ground.data }, { on := 10, ground := Go.Ground.data }, { on := 0, ground := Go.Ground.phase }, { on := 1, ground := Go.Ground.phase }, { on := 2, ground := Go.Ground.phase }, { on := 3, ground := Go.Ground.phase }, { on := 4, ground := Go.Ground.phase }, { on := 5, ground := Go.Ground.phase }, { on := 6, ground := Go.Ground.phase }, { on := 7, ground := Go.Ground.phase }, { on := 8, ground := Go.Ground.phase }, { on := 9, ground := Go.Ground.phase }, { on := 10, ground := Go.Ground.phase }], guard := none }) rfl rfl (fun K hK => ?_)
        go_simp
        refine hK _ _ ?_
        clear hK K
        try simp only [Act.put, List.setIfInBounds_toArray, List.set_cons_zero, List.set_cons_succ]
        refine seq_nil (NoPanic.normal ?_)
        try simp only [Act.put, List.setIfInBounds_toArray, List.set_cons_zero, List.set_cons_succ]
        go_wp2
        go_roundw
        case rel => exact ⟨k + 1, by omega, by go_num, HZ.out.1, HZ.out.2⟩
        case measure => simp [intOf]; omega
      · have e3 : (k : Int).tmod 4 = 3 := by rw [Int.tmod_eq_emod_of_nonneg (by omega)]; omega
        have e4 : IntKind.i64.wrap 24 = 24 := by kernel_rfl
        have e1 : IntKind.i64.wrap (q : Int) = q := by rw [IntKind.wrap_i64]; omega
        have e2 : IntKind.u32.wrap (x : Int) = x := by rw [IntKind.wrap_u32]; omega
        obtain ⟨z, hz⟩ : ∃ z, z = y ||| (x <<< (8 * (k % 4))) := ⟨_, rfl⟩
        have hor : bits .or .u32 (y : Int) (IntKind.u32.wrap ((x : Int) * 16777216)) = (z : Nat) := by
          have hs : (IntKind.u32.wrap ((x : Int) * 16777216)) = ((x <<< (8 * 3) : Nat) : Int) := by rw [IntKind.wrap_u32, Nat.shiftLeft_eq]; omega
          rw [hs, hz, hr]; exact or_W y _ hyl (shl_lt hxl (by omega))
        have HZ : Hid _ := HN.out z hz
        clear HN hr hx hy hq hz
        go_wp2_with fail
        refine region_seq (c := 12) (f := 60) (ts := [(0, 0), (0, 1), (0, 2), (1, 3), (0, 4), (0, 5), (0, 6), (0, 7), (0, 8), (0, 9), (0, 10), (0, 11), (2, 12)]) (by kernel_rfl) (by kernel_rfl) ?_
        refine seq_W (o := { dst := some 11, op := Go.Op.move (Go.Operand.tmp 4), type := 3, pos := "blake.go:150", after := #[], guard := none }) (v := ?_) rfl rfl (fun wz => ?_) ?_
        rotate_left
        · go_simp; (try with_reducible rfl)
        try simp only [Act.put, List.setIfInBounds_toArray, List.set_cons_zero, List.set_cons_succ]
        refine seq_W (o := { dst := some 12, op := Go.Op.binOp Go.BinOp.quo 3 (Go.Operand.tmp 11) (Go.Operand.const (Go.Value.int Go.IntKind.i64 4)) 3, type := 3, pos := "blake.go:150", after := #[{ on := 0, ground := Go.Ground.data }], guard := none }) (v := ?_) rfl rfl (fun wz => ?_) ?_
        rotate_left
        · go_simp; (try with_reducible rfl)
        try simp only [Act.put, List.setIfInBounds_toArray, List.set_cons_zero, List.set_cons_succ]
        refine seq_W (o := { dst := some 13, op := Go.Op.indexAddr 198 (Go.Operand.tmp 3) (Go.Operand.tmp 12), type := 0, pos := "blake.go:150", after := #[{ on := 1, ground := Go.Ground.data }], guard := none }) (v := ?_) rfl rfl (fun wz => ?_) ?_
        rotate_left
        · go_simp; (try with_reducible rfl)
        try simp only [Act.put, List.setIfInBounds_toArray, List.set_cons_zero, List.set_cons_succ]
        refine seq_R (o := { dst := some 14, op := Go.Op.load 151 (Go.Operand.tmp 13), type := 151, pos := "blake.go:150", after := #[{ on := 2, ground := Go.Ground.data }], guard := none }) (v := ?_) rfl rfl ?_ ?_
        rotate_left
        · go_simp; (try with_reducible rfl)
        try simp only [Act.put, List.setIfInBounds_toArray, List.set_cons_zero, List.set_cons_succ]
        refine seq_W (o := { dst := some 15, op := Go.Op.move (Go.Operand.tmp 5), type := 5, pos := "blake.go:150", after := #[], guard := none }) (v := ?_) rfl rfl (fun wz => ?_) ?_
        rotate_left
        · go_simp; (try with_reducible rfl)
        try simp only [Act.put, List.setIfInBounds_toArray, List.set_cons_zero, List.set_cons_succ]
        refine seq_W (o := { dst := some 16, op := Go.Op.convert 5 151 (Go.Operand.tmp 15), type := 151, pos := "blake.go:150", after := #[{ on := 4, ground := Go.Ground.data }], guard := none }) (v := ?_) rfl rfl (fun wz => ?_) ?_
        rotate_left
        · go_simp; (try with_reducible rfl)
        try simp only [Act.put, List.setIfInBounds_toArray, List.set_cons_zero, List.set_cons_succ]
        refine seq_W (o := { dst := some 17, op := Go.Op.move (Go.Operand.tmp 4), type := 3, pos := "blake.go:150", after := #[], guard := none }) (v := ?_) rfl rfl (fun wz => ?_) ?_
        rotate_left
        · go_simp; (try with_reducible rfl)
        try simp only [Act.put, List.setIfInBounds_toArray, List.set_cons_zero, List.set_cons_succ]
        refine seq_W (o := { dst := some 18, op := Go.Op.binOp Go.BinOp.rem 3 (Go.Operand.tmp 17) (Go.Operand.const (Go.Value.int Go.IntKind.i64 4)) 3, type := 3, pos := "blake.go:150", after := #[{ on := 6, ground := Go.Ground.data }], guard := none }) (v := ?_) rfl rfl (fun wz => ?_) ?_
        rotate_left
        · go_simp; (try with_reducible rfl)
        try simp only [Act.put, List.setIfInBounds_toArray, List.set_cons_zero, List.set_cons_succ]
        refine seq_W (o := { dst := some 19, op := Go.Op.binOp Go.BinOp.mul 3 (Go.Operand.const (Go.Value.int Go.IntKind.i64 8)) (Go.Operand.tmp 18) 3, type := 3, pos := "blake.go:150", after := #[{ on := 7, ground := Go.Ground.data }], guard := none }) (v := ?_) rfl rfl (fun wz => ?_) ?_
        rotate_left
        · go_simp; (try with_reducible rfl)
        try simp only [Act.put, List.setIfInBounds_toArray, List.set_cons_zero, List.set_cons_succ]
        refine seq_W (o := { dst := some 20, op := Go.Op.binOp Go.BinOp.shl 151 (Go.Operand.tmp 16) (Go.Operand.tmp 19) 3, type := 151, pos := "blake.go:150", after := #[{ on := 5, ground := Go.Ground.data }, { on := 8, ground := Go.Ground.data }], guard := none }) (v := ?_) rfl rfl (fun wz => ?_) ?_
        rotate_left
        · go_simp; (try with_reducible rfl)
        try simp only [Act.put, List.setIfInBounds_toArray, List.set_cons_zero, List.set_cons_succ]
        refine seq_W (o := { dst := some 21, op := Go.Op.binOp Go.BinOp.or 151 (Go.Operand.tmp 14) (Go.Operand.tmp 20) 151, type := 151, pos := "blake.go:150", after := #[{ on := 3, ground := Go.Ground.data }, { on := 9, ground := Go.Ground.data }], guard := none }) (v := ?_) rfl rfl (fun wz => ?_) ?_
        rotate_left
        · go_simp; (try with_reducible rfl)
        try simp only [Act.put, List.setIfInBounds_toArray, List.set_cons_zero, List.set_cons_succ]
        refine seq_W (o := { dst := some 22, op := Go.Op.indexAddr 198 (Go.Operand.tmp 3) (Go.Operand.tmp 12), type := 0, pos := "blake.go:150", after := #[{ on := 1, ground := Go.Ground.data }, { on := 0, ground := Go.Ground.phase }, { on := 1, ground := Go.Ground.phase }, { on := 2, ground := Go.Ground.phase }, { on := 3, ground := Go.Ground.phase }, { on := 4, ground := Go.Ground.phase }, { on := 5, ground := Go.Ground.phase }, { on := 6, ground := Go.Ground.phase }, { on := 7, ground := Go.Ground.phase }, { on := 8, ground := Go.Ground.phase }, { on := 9, ground := Go.Ground.phase }, { on := 10, ground := Go.Ground.phase }], guard := none }) (v := ?_) rfl rfl (fun wz => ?_) ?_
        rotate_left
        · go_simp; (try with_reducible rfl)
        try simp only [Act.put, List.setIfInBounds_toArray, List.set_cons_zero, List.set_cons_succ]
        refine seq_A (o := { dst := none, op := Go.Op.store 151 (Go.Operand.tmp 22) (Go.Operand.tmp 21), type := 0, pos := "blake.go:150", after := #[{ on := 11, ground := Go.Ground.data }, { on := 10, ground := Go.Ground.data }, { on := 0, ground := Go.Ground.phase }, { on := 1, ground := Go.Ground.phase }, { on := 2, ground := Go.Ground.phase }, { on := 3, ground := Go.Ground.phase }, { on := 4, ground := Go.Ground.phase }, { on := 5, ground := Go.Ground.phase }, { on := 6, ground := Go.Ground.phase }, { on := 7, ground := Go.Ground.phase }, { on := 8, ground := Go.Ground.phase }, { on := 9, ground := Go.Ground.phase }, { on := 10, ground := Go.Ground.phase }], guard := none }) rfl rfl (fun K hK => ?_)
        go_simp
        refine hK _ _ ?_
        clear hK K
        try simp only [Act.put, List.setIfInBounds_toArray, List.set_cons_zero, List.set_cons_succ]
        refine seq_nil (NoPanic.normal ?_)
        try simp only [Act.put, List.setIfInBounds_toArray, List.set_cons_zero, List.set_cons_succ]
        go_wp2
        go_roundw
        case rel => exact ⟨k + 1, by omega, by go_num, HZ.out.1, HZ.out.2⟩
        case measure => simp [intOf]; omega
    · obtain rfl : k = 64 := by omega
      have hl := (mP_ok hb.2 64).1
      have hF1 : wr.heap[w.heap.size + 1]? = some (.cells (wv z16) 198 (0, 0)) := hF.heap hn1 (by simp)
      have hW : Hid (Below w.heap.size w wr) := hb0.trans (hF.below (by have := hb0.size; omega) (by simp; omega))
      go_wp2_with (first | (refine wpList_load16 rfl _ rfl (w.heap.size + 1 + 1) rfl (mP b 64) hl _ _ hm ?_) | (refine wpList_store16 rfl _ _ rfl (w.heap.size + 1) rfl (mP b 64) z16 hl rfl 198 rfl hF1 ?_; intro w2 hg2 hf2) | fail)
      exact bodyPost_ret (results_cell_row Tryz.results112 _ w2 (w.heap.size + 1) 198 (wv (mP b 64)) (0, 0) _ rfl hg2 Tryz.underlying198 rfl (by rw [wv_size, hl]; exact sz16)) rfl ⟨rfl, hW.out.trans (hf2.below (by have := hW.out.size; omega) (by simp))⟩
end Go.Proofs.YtanchjfodcjlmaaGreatDoor
