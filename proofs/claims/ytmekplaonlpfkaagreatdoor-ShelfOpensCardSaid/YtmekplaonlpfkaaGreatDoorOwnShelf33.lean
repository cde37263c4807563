/- The document's leaves: with. -/
import Derived.Test.YtmekplaonlpfkaaGreatDoorOwnShelf32
import Derived.Deep.RegionHeld
import Derived.Deep.RegionHeld3
import Derived.Deep.CutBlock
import Derived.Deep.DeepCutAuto
namespace Go.Proofs.YtmekplaonlpfkaaGreatDoor
open Go.RowKit Go.Maps Go.Sort

attribute [local go_sem ↓] Go.wp_at_zero Go.wp_at_succ

theorem less_before : ∀ a b : List UInt8, Op.bytesLess a b = bytesBefore a b
  | [], [] => rfl
  | [], _ :: _ => rfl
  | _ :: _, [] => rfl
  | a :: x, b :: y => by rw [Op.bytesLess, bytesBefore, less_before x y]
theorem lss_str (a b : List UInt8) (w : World) : (binOp .lss 9 (encStr a) (encStr b)).run Tryz.prog w = .ok (.bool (bytesBefore a b)) w := by
  show (binOp .lss 9 (.string ⟨a.toArray⟩) (.string ⟨b.toArray⟩)).run Tryz.prog w = _
  rw [binOp_string_lss]
  have e1 : ∀ l : List UInt8, (⟨l.toArray⟩ : ByteArray).toList = l := fun l => by rw [ByteArray.toList_eq]
  rw [e1, e1, less_before]
  rfl
/-- Where a leaf is put. -/
theorem insK_at {x : Lf} : ∀ {L : List Lf} {i : Nat}, i ≤ L.length → (∀ y ∈ L.take i, bytesBefore y.k x.k = true) → (∀ y, L[i]? = some y → bytesBefore y.k x.k = false) → (∀ y ∈ L, y.k ≠ x.k) → insK Lf.k x L = L.take i ++ x :: L.drop i
  | [], i, hi, _, _, _ => by
    have : i = 0 := by simp at hi; exact hi
    subst this; rfl
  | y :: r, 0, _, _, h2, h3 => by
    have h4 := h2 y rfl
    have h5 := before_of_not h4 (h3 y (List.mem_cons_self ..))
    unfold insK
    rw [if_pos h5]; rfl
  | y :: r, i + 1, hi, h1, h2, h3 => by
    have h4 := h1 y (by simp)
    have h5 : bytesBefore x.k y.k = false := by
      cases e : bytesBefore x.k y.k with
      | false => rfl
      | true =>
        rw [before_lt, decide_eq_true_iff] at e h4
        exact absurd (List.lt_trans e h4) (List.lt_irrefl _)
    have ih := insK_at (L := r) (i := i) (x := x) (by simpa using hi) (fun z hz => h1 z (by simp [hz])) (fun z hz => h2 z (by simpa using hz)) (fun z hz => h3 z (List.mem_cons_of_mem _ hz))
    unfold insK
    rw [if_neg (by simp [h5]), ih]
    rfl
section
variable {ops : Array Oper} {o : Oper} {a : Act} {w : World} {K : Act → World → Prop} {Q : Exit → Act → World → Prop} {E : Prop}
theorem step_append_Lr (hgd : o.guard = none) (s x : Operand) (ho : o.op = .call { callee := .builtin .append, args := #[s, x], argTypes := #[37, 37] })
    (w0 : World) (v : Value) (L ys : List Lf) (ad : Option Addr) (c : Nat) (hs : a.eval s = v) (hx : a.eval x = .slice ad ys.length c) (hown : LrOw w0 w v L) (hr : LrAt w ad ys) (hnil : ad = none → ys = []) (hn : L.length + ys.length ≤ 100000)
    (h : ∀ v' w1, LrOw w0 w1 v' (L ++ ys) → (∀ k, k < w.heap.size → v.ownBlock ≠ some k → w1.heap[k]? = w.heap[k]?) → K (a.put o.dst v') w1) : if Region.wanted o (yielded ops a.tmps) = true then Oper.wp Tryz.prog o a w K Q else E := by
  have hw : Region.wanted o (yielded ops a.tmps) = true := by simp [Region.wanted, hgd]
  rw [if_pos hw]
  obtain ⟨v', w1, hrun, h2, h3⟩ := run_append_Lr (c := c) hown hr hnil hn o.type
  unfold Oper.wp execOp
  simp only [ho, resolve, invoke, builtin, Sem.run_bind, Sem.run_pure, Result.andThen_ok, List.map_toArray, List.map_cons, List.map_nil, hs, hx, hrun]
  exact h v' w1 h2 h3
theorem slice_lr (k v : List UInt8) (p : Int) (w : World) : (Instr.buildSlice 37 1 #[(0, .agg #[encStr k, encStr v, .int .i64 p])]).run Tryz.prog w = .ok (.slice (some ⟨w.heap.size, 0, none⟩) 1 1) (w.alloc (.cells #[encStr k, encStr v, .int .i64 p] 60)) := by kernel_rfl
theorem step_sliceLr (hgd : o.guard = none) (x : Operand) (ho : o.op = .buildSlice 37 1 #[(0, x)]) (k v : List UInt8) (p : Int) (hx : a.eval x = .agg #[encStr k, encStr v, .int .i64 p])
    (h : K (a.put o.dst (.slice (some ⟨w.heap.size, 0, none⟩) 1 1)) (w.alloc (.cells #[encStr k, encStr v, .int .i64 p] 60))) : if Region.wanted o (yielded ops a.tmps) = true then Oper.wp Tryz.prog o a w K Q else E := by
  have hw : Region.wanted o (yielded ops a.tmps) = true := by simp [Region.wanted, hgd]
  rw [if_pos hw]
  unfold Oper.wp execOp
  simp only [ho, List.map_toArray, List.map_cons, List.map_nil, hx, Sem.run_bind, slice_lr, Result.andThen]
  exact h
end
theorem LrAt.take {w : World} {ad : Option Addr} {L : List Lf} (h : LrAt w ad L) (i : Nat) : LrAt w ad (L.take i) := fun hn => by
  have hp : 0 < L.length := by rw [List.length_take] at hn; omega
  obtain ⟨b, off, rfl, hc⟩ := h hp
  refine ⟨b, off, rfl, fun j x hx => hc j x ?_⟩
  rw [List.getElem?_take] at hx
  split at hx
  · exact hx
  · cases hx
theorem LrAt.drop {w : World} {b off : Nat} {L : List Lf} (h : LrAt w (some ⟨b, off, none⟩) L) (i : Nat) : LrAt w (some ⟨b, off + i * 3, none⟩) (L.drop i) := fun hn => by
  have hp : 0 < L.length := by rw [List.length_drop] at hn; omega
  obtain ⟨b', off', e, hc⟩ := h hp
  cases e
  refine ⟨b, off + i * 3, rfl, fun j x hx => ?_⟩
  rw [List.getElem?_drop] at hx
  have e1 : off + (i + j) * 3 = off + i * 3 + j * 3 := by omega
  have := hc (i + j) x hx
  rwa [e1] at this
theorem LrOw.block {w w1 : World} {v : Value} {L : List Lf} (h : LrOw w w1 v L) : ∀ k, v.ownBlock = some k → w.heap.size ≤ k := fun k e => (h.own.lt k e).1
/-- While the place is looked for. -/
structure WiI (w wr : World) (x : Lf) (L : List Lf) (i : Nat) : Prop where
  box : wr.heap[w.heap.size]? = some (.cells #[encStr x.k, encStr x.v, .int .i64 (x.p : Int)] 60 (0, 0))
  below : Below w.heap.size w wr
  ahead : ∀ y ∈ L.take i, bytesBefore y.k x.k = true
set_option maxRecDepth 100000 in
set_option maxHeartbeats 3200000 in
theorem with_any (ad : Option Addr) (cap : Nat) (L : List Lf) (x : Lf) (w : World) (h : LrAt w ad L) (hl : L.length ≤ 1000) (hcap : L.length ≤ cap) (hnil : ad = none → L.length = 0 ∧ cap = 0) (hsp : ∀ a, ad = some a → ∃ bb off, a = ⟨bb, off, none⟩) (hne : ∀ y ∈ L, y.k ≠ x.k) :
    Calls Tryz.prog 43 #[.slice ad L.length cap, .agg #[encStr x.k, encStr x.v, .int .i64 (x.p : Int)]] w fun e w' => ∃ v, e = .returned v ∧ LrOw w w' v (insK Lf.k x L) := by
  have HL : Hid (LrAt w ad L) := h
  have HNE : Hid (∀ y ∈ L, y.k ≠ x.k) := hne
  clear h hne
  have HI0 : Hid (WiI w (w.alloc (.cells #[encStr x.k, encStr x.v, .int .i64 (x.p : Int)] 60)) x L 0) := ⟨heap_alloc_new w _, (Below.refl _ w).alloc (Nat.le_refl _) _, fun y hy => by simp at hy⟩
  obtain ⟨xk, hxk⟩ : ∃ xk, x.k = xk := ⟨_, rfl⟩
  obtain ⟨xv, hxv⟩ : ∃ xv, x.v = xv := ⟨_, rfl⟩
  obtain ⟨xp, hxp⟩ : ∃ xp : Int, (x.p : Int) = xp := ⟨_, rfl⟩
  have HX : Hid (x.k = xk ∧ x.v = xv ∧ (x.p : Int) = xp) := ⟨hxk, hxv, hxp⟩
  rw [hxk, hxv, hxp] at HI0 ⊢
  clear hxk hxv hxp
  go_enter Tryz.func43, Tryz.ntmps43
  go_wp2
  go_loopw [5] (fun iv wr => ∃ i : Nat, i ≤ L.length ∧ iv = .int .i64 i ∧ WiI w wr x L i) (fun iv _ => L.length - (intOf iv).toNat)
  case atStart => exact ⟨0, Nat.zero_le _, rfl, HI0.out⟩
  case round =>
    clear HI0
    obtain ⟨i, hi, rfl, hI⟩ := hrel
    have HI : Hid (WiI w wr x L i) := hI
    clear hI
    have b0 : wr.cell? ⟨w.heap.size, 0, none⟩ = some (encStr xk) := by rw [cell_of_row _ _ 0 _ _ _ HI.out.box]; simp [HX.out.1]
    by_cases hlt : i < L.length
    · have hlt' : (i : Int) < L.length := by omega
      have hx : L[i]? = some L[i] := List.getElem?_eq_getElem hlt
      have htk : L.take (i + 1) = L.take i ++ [L[i]] := (List.take_append_getElem hlt).symm
      obtain ⟨bb, off, rfl, hc⟩ := (HL.out.below HI.out.below) (by omega)
      have c0 := (hc i _ hx).1
      have HB2 : Hid (Below w.heap.size w wr.drew) := HI.out.below.drew
      have HBX : Hid (wr.drew.heap[w.heap.size]? = some (.cells #[encStr x.k, encStr x.v, .int .i64 (x.p : Int)] 60 (0, 0))) := HI.out.box
      clear hc
      cases hbf : bytesBefore L[i].k xk with
      | true =>
        have HN : Hid (WiI w wr.drew x L (i + 1)) := ⟨HBX.out, HB2.out, fun y hy => by
          rw [htk] at hy
          rcases List.mem_append.1 hy with hy | hy
          · exact HI.out.ahead y hy
          · rw [List.mem_singleton.1 hy, HX.out.1]; exact hbf⟩
        have hls : Op.bytesLess L[i].k xk = true := by rw [less_before]; exact hbf
        clear hbf hx htk
        generalize L[i].k = y at *
        go_upto_region 2 with fail
        refine wp_region_noPanic ?_
        refine wp_region_held_drew (S := fun w' => w'.cell? ⟨bb, off + i * 3, none⟩ = some (encStr y) ∧ w'.cell? ⟨w.heap.size, 0, none⟩ = some (encStr xk)) (by kernel_rfl) ⟨c0, b0⟩ (fun hHeld => ?_)
        refine wpAnyH_take (i := 0) (oi := { dst := some 7, op := Go.Op.move (Go.Operand.tmp 5), type := 3, pos := "ref.go:42", after := #[], guard := none }) (v := ?_) rfl (by kernel_rfl) (by kernel_rfl) (by kernel_rfl) (fun _ _ _ h => h) (Or.inl ⟨by rfl, ?_⟩) (by assumption) ?_
        rotate_left
        · intro wz hSw; (try dsimp only at hSw); go_simp; (try with_reducible rfl)
        try simp only [Act.put, List.setIfInBounds_toArray, List.set_cons_zero, List.set_cons_succ]
        refine wpAnyH_take (i := 1) (oi := { dst := some 8, op := Go.Op.move (Go.Operand.tmp 0), type := 37, pos := "ref.go:42", after := #[], guard := none }) (v := ?_) rfl (by kernel_rfl) (by kernel_rfl) (by kernel_rfl) (fun _ _ _ h => h) (Or.inl ⟨by rfl, ?_⟩) (by assumption) ?_
        rotate_left
        · intro wz hSw; (try dsimp only at hSw); go_simp; (try with_reducible rfl)
        try simp only [Act.put, List.setIfInBounds_toArray, List.set_cons_zero, List.set_cons_succ]
        refine wpAnyH_take (i := 2) (oi := { dst := some 9, op := Go.Op.call { callee := Go.Callee.builtin Go.Builtin.len, args := #[Go.Operand.tmp 8], argTypes := #[37] }, type := 3, pos := "ref.go:42", after := #[{ on := 1, ground := Go.Ground.data }], guard := none }) (v := ?_) rfl (by kernel_rfl) (by kernel_rfl) (by kernel_rfl) (fun _ _ _ h => h) (Or.inl ⟨by rfl, ?_⟩) (by assumption) ?_
        rotate_left
        · intro wz hSw; (try dsimp only at hSw); go_simp; (try with_reducible rfl)
        try simp only [Act.put, List.setIfInBounds_toArray, List.set_cons_zero, List.set_cons_succ]
        refine wpAnyH_take (i := 3) (oi := { dst := some 10, op := Go.Op.binOp Go.BinOp.lss 3 (Go.Operand.tmp 7) (Go.Operand.tmp 9) 3, type := 4, pos := "ref.go:42", after := #[{ on := 0, ground := Go.Ground.data }, { on := 2, ground := Go.Ground.data }], guard := none }) (v := ?_) rfl (by kernel_rfl) (by kernel_rfl) (by kernel_rfl) (fun _ _ _ h => h) (Or.inl ⟨by rfl, ?_⟩) (by assumption) ?_
        rotate_left
        · intro wz hSw; (try dsimp only at hSw); go_simp; (try with_reducible rfl)
        try simp only [Act.put, List.setIfInBounds_toArray, List.set_cons_zero, List.set_cons_succ]
        refine wpAnyH_take (i := 4) (oi := { dst := some 11, op := Go.Op.move (Go.Operand.tmp 10), type := 4, pos := "ref.go:42", after := #[{ on := 3, ground := Go.Ground.data }], guard := none }) (v := ?_) rfl (by kernel_rfl) (by kernel_rfl) (by kernel_rfl) (fun _ _ _ h => h) (Or.inl ⟨by rfl, ?_⟩) (by assumption) ?_
        rotate_left
        · intro wz hSw; (try dsimp only at hSw); go_simp; (try with_reducible rfl)
        try simp only [Act.put, List.setIfInBounds_toArray, List.set_cons_zero, List.set_cons_succ]
        refine wpAnyH_take (i := 5) (oi := { dst := some 12, op := Go.Op.move (Go.Operand.tmp 0), type := 37, pos := "ref.go:42", after := #[{ on := 4, ground := Go.Ground.guard }], guard := some (4, true) }) (v := ?_) rfl (by kernel_rfl) (by kernel_rfl) (by kernel_rfl) (fun _ _ _ h => h) (Or.inl ⟨by rfl, ?_⟩) (by assumption) ?_
        rotate_left
        · intro wz hSw; (try dsimp only at hSw); go_simp; (try with_reducible rfl)
        try simp only [Act.put, List.setIfInBounds_toArray, List.set_cons_zero, List.set_cons_succ]
        refine wpAnyH_take (i := 6) (oi := { dst := some 13, op := Go.Op.move (Go.Operand.tmp 5), type := 3, pos := "ref.go:42", after := #[{ on := 4, ground := Go.Ground.guard }], guard := some (4, true) }) (v := ?_) rfl (by kernel_rfl) (by kernel_rfl) (by kernel_rfl) (fun _ _ _ h => h) (Or.inl ⟨by rfl, ?_⟩) (by assumption) ?_
        rotate_left
        · intro wz hSw; (try dsimp only at hSw); go_simp; (try with_reducible rfl)
        try simp only [Act.put, List.setIfInBounds_toArray, List.set_cons_zero, List.set_cons_succ]
        refine wpAnyH_take (i := 7) (oi := { dst := some 14, op := Go.Op.indexAddr 37 (Go.Operand.tmp 12) (Go.Operand.tmp 13), type := 0, pos := "ref.go:42", after := #[{ on := 5, ground := Go.Ground.data }, { on := 6, ground := Go.Ground.data }, { on := 4, ground := Go.Ground.guard }], guard := some (4, true) }) (v := ?_) rfl (by kernel_rfl) (by kernel_rfl) (by kernel_rfl) (fun _ _ _ h => h) (Or.inl ⟨by rfl, ?_⟩) (by assumption) ?_
        rotate_left
        · intro wz hSw; (try dsimp only at hSw); go_simp; (try with_reducible rfl)
        try simp only [Act.put, List.setIfInBounds_toArray, List.set_cons_zero, List.set_cons_succ]
        refine wpAnyH_take (i := 8) (oi := { dst := some 15, op := Go.Op.fieldAddr 60 (Go.Operand.tmp 14) 0, type := 0, pos := "ref.go:42", after := #[{ on := 7, ground := Go.Ground.data }, { on := 4, ground := Go.Ground.guard }], guard := some (4, true) }) (v := ?_) rfl (by kernel_rfl) (by kernel_rfl) (by kernel_rfl) (fun _ _ _ h => h) (Or.inl ⟨by rfl, ?_⟩) (by assumption) ?_
        rotate_left
        · intro wz hSw; (try dsimp only at hSw); go_simp; (try with_reducible rfl)
        try simp only [Act.put, List.setIfInBounds_toArray, List.set_cons_zero, List.set_cons_succ]
        refine wpAnyH_take (i := 9) (oi := { dst := some 16, op := Go.Op.load 9 (Go.Operand.tmp 15), type := 9, pos := "ref.go:42", after := #[{ on := 8, ground := Go.Ground.data }, { on := 4, ground := Go.Ground.guard }], guard := some (4, true) }) (v := encStr y) rfl (by kernel_rfl) (by kernel_rfl) (by kernel_rfl) (fun _ _ _ h => h) (Or.inl ⟨by rfl, ?_⟩) (by assumption) ?_
        · intro wz hSw; (try dsimp only at hSw); have h1 := hSw.1; go_simp; try rfl
        try simp only [Act.put, List.setIfInBounds_toArray, List.set_cons_zero, List.set_cons_succ]
        refine wpAnyH_take (i := 10) (oi := { dst := some 17, op := Go.Op.fieldAddr 60 (Go.Operand.tmp 3) 0, type := 0, pos := "ref.go:42", after := #[{ on := 4, ground := Go.Ground.guard }], guard := some (4, true) }) (v := ?_) rfl (by kernel_rfl) (by kernel_rfl) (by kernel_rfl) (fun _ _ _ h => h) (Or.inl ⟨by rfl, ?_⟩) (by assumption) ?_
        rotate_left
        · intro wz hSw; (try dsimp only at hSw); go_simp; (try with_reducible rfl)
        try simp only [Act.put, List.setIfInBounds_toArray, List.set_cons_zero, List.set_cons_succ]
        refine wpAnyH_take (i := 11) (oi := { dst := some 18, op := Go.Op.load 9 (Go.Operand.tmp 17), type := 9, pos := "ref.go:42", after := #[{ on := 10, ground := Go.Ground.data }, { on := 4, ground := Go.Ground.guard }], guard := some (4, true) }) (v := encStr xk) rfl (by kernel_rfl) (by kernel_rfl) (by kernel_rfl) (fun _ _ _ h => h) (Or.inl ⟨by rfl, ?_⟩) (by assumption) ?_
        · intro wz hSw; (try dsimp only at hSw); have h1 := hSw.2; go_simp; try rfl
        try simp only [Act.put, List.setIfInBounds_toArray, List.set_cons_zero, List.set_cons_succ]
        refine wpAnyH_take (i := 12) (oi := { dst := some 19, op := Go.Op.binOp Go.BinOp.lss 9 (Go.Operand.tmp 16) (Go.Operand.tmp 18) 9, type := 4, pos := "ref.go:42", after := #[{ on := 9, ground := Go.Ground.data }, { on := 11, ground := Go.Ground.data }, { on := 4, ground := Go.Ground.guard }], guard := some (4, true) }) (v := .bool true) rfl (by kernel_rfl) (by kernel_rfl) (by kernel_rfl) (fun _ _ _ h => h) (Or.inl ⟨by rfl, ?_⟩) (by assumption) ?_
        · intro wz hSw; (try dsimp only at hSw); go_simp; try exact hls
        try simp only [Act.put, List.setIfInBounds_toArray, List.set_cons_zero, List.set_cons_succ]
        refine wpAnyH_take (i := 13) (oi := { dst := some 20, op := Go.Op.pick (Go.Operand.tmp 11) (Go.Operand.tmp 19) (Go.Operand.const (Go.Value.bool false)), type := 4, pos := "ref.go:42", after := #[{ on := 4, ground := Go.Ground.data }, { on := 12, ground := Go.Ground.data }], guard := none }) (v := ?_) rfl (by kernel_rfl) (by kernel_rfl) (by kernel_rfl) (fun _ _ _ h => h) (Or.inl ⟨by rfl, ?_⟩) (by assumption) ?_
        rotate_left
        · intro wz hSw; (try dsimp only at hSw); go_simp; (try with_reducible rfl)
        try simp only [Act.put, List.setIfInBounds_toArray, List.set_cons_zero, List.set_cons_succ]
        refine wpAnyH_done (by kernel_rfl) (NoPanic.normal ?_) _
        try simp only [Act.put, List.setIfInBounds_toArray, List.set_cons_zero, List.set_cons_succ]
        clear hls c0 b0 hHeld
        go_wp2
        exact ⟨⟨i + 1, by omega, by go_num, HN.out⟩, by simp [intOf]; omega⟩
      | false =>
        have hls : Op.bytesLess L[i].k xk = false := by rw [less_before]; exact hbf
        have HIN : Hid (insK Lf.k x L = L.take i ++ x :: L.drop i) := insK_at hi HI.out.ahead (fun y hy => by rw [hx] at hy; cases hy; rw [HX.out.1]; exact hbf) HNE.out
        clear hbf hx htk
        generalize L[i].k = y at *
        go_upto_region 2 with fail
        refine wp_region_noPanic ?_
        refine wp_region_held_drew (S := fun w' => w'.cell? ⟨bb, off + i * 3, none⟩ = some (encStr y) ∧ w'.cell? ⟨w.heap.size, 0, none⟩ = some (encStr xk)) (by kernel_rfl) ⟨c0, b0⟩ (fun hHeld => ?_)
        refine wpAnyH_take (i := 0) (oi := { dst := some 7, op := Go.Op.move (Go.Operand.tmp 5), type := 3, pos := "ref.go:42", after := #[], guard := none }) (v := ?_) rfl (by kernel_rfl) (by kernel_rfl) (by kernel_rfl) (fun _ _ _ h => h) (Or.inl ⟨by rfl, ?_⟩) (by assumption) ?_
        rotate_left
        · intro wz hSw; (try dsimp only at hSw); go_simp; (try with_reducible rfl)
        try simp only [Act.put, List.setIfInBounds_toArray, List.set_cons_zero, List.set_cons_succ]
        refine wpAnyH_take (i := 1) (oi := { dst := some 8, op := Go.Op.move (Go.Operand.tmp 0), type := 37, pos := "ref.go:42", after := #[], guard := none }) (v := ?_) rfl (by kernel_rfl) (by kernel_rfl) (by kernel_rfl) (fun _ _ _ h => h) (Or.inl ⟨by rfl, ?_⟩) (by assumption) ?_
        rotate_left
        · intro wz hSw; (try dsimp only at hSw); go_simp; (try with_reducible rfl)
        try simp only [Act.put, List.setIfInBounds_toArray, List.set_cons_zero, List.set_cons_succ]
        refine wpAnyH_take (i := 2) (oi := { dst := some 9, op := Go.Op.call { callee := Go.Callee.builtin Go.Builtin.len, args := #[Go.Operand.tmp 8], argTypes := #[37] }, type := 3, pos := "ref.go:42", after := #[{ on := 1, ground := Go.Ground.data }], guard := none }) (v := ?_) rfl (by kernel_rfl) (by kernel_rfl) (by kernel_rfl) (fun _ _ _ h => h) (Or.inl ⟨by rfl, ?_⟩) (by assumption) ?_
        rotate_left
        · intro wz hSw; (try dsimp only at hSw); go_simp; (try with_reducible rfl)
        try simp only [Act.put, List.setIfInBounds_toArray, List.set_cons_zero, List.set_cons_succ]
        refine wpAnyH_take (i := 3) (oi := { dst := some 10, op := Go.Op.binOp Go.BinOp.lss 3 (Go.Operand.tmp 7) (Go.Operand.tmp 9) 3, type := 4, pos := "ref.go:42", after := #[{ on := 0, ground := Go.Ground.data }, { on := 2, ground := Go.Ground.data }], guard := none }) (v := ?_) rfl (by kernel_rfl) (by kernel_rfl) (by kernel_rfl) (fun _ _ _ h => h) (Or.inl ⟨by rfl, ?_⟩) (by assumption) ?_
        rotate_left
        · intro wz hSw; (try dsimp only at hSw); go_simp; (try with_reducible rfl)
        try simp only [Act.put, List.setIfInBounds_toArray, List.set_cons_zero, List.set_cons_succ]
        refine wpAnyH_take (i := 4) (oi := { dst := some 11, op := Go.Op.move (Go.Operand.tmp 10), type := 4, pos := "ref.go:42", after := #[{ on := 3, ground := Go.Ground.data }], guard := none }) (v := ?_) rfl (by kernel_rfl) (by kernel_rfl) (by kernel_rfl) (fun _ _ _ h => h) (Or.inl ⟨by rfl, ?_⟩) (by assumption) ?_
        rotate_left
        · intro wz hSw; (try dsimp only at hSw); go_simp; (try with_reducible rfl)
        try simp only [Act.put, List.setIfInBounds_toArray, List.set_cons_zero, List.set_cons_succ]
        refine wpAnyH_take (i := 5) (oi := { dst := some 12, op := Go.Op.move (Go.Operand.tmp 0), type := 37, pos := "ref.go:42", after := #[{ on := 4, ground := Go.Ground.guard }], guard := some (4, true) }) (v := ?_) rfl (by kernel_rfl) (by kernel_rfl) (by kernel_rfl) (fun _ _ _ h => h) (Or.inl ⟨by rfl, ?_⟩) (by assumption) ?_
        rotate_left
        · intro wz hSw; (try dsimp only at hSw); go_simp; (try with_reducible rfl)
        try simp only [Act.put, List.setIfInBounds_toArray, List.set_cons_zero, List.set_cons_succ]
        refine wpAnyH_take (i := 6) (oi := { dst := some 13, op := Go.Op.move (Go.Operand.tmp 5), type := 3, pos := "ref.go:42", after := #[{ on := 4, ground := Go.Ground.guard }], guard := some (4, true) }) (v := ?_) rfl (by kernel_rfl) (by kernel_rfl) (by kernel_rfl) (fun _ _ _ h => h) (Or.inl ⟨by rfl, ?_⟩) (by assumption) ?_
        rotate_left
        · intro wz hSw; (try dsimp only at hSw); go_simp; (try with_reducible rfl)
        try simp only [Act.put, List.setIfInBounds_toArray, List.set_cons_zero, List.set_cons_succ]
        refine wpAnyH_take (i := 7) (oi := { dst := some 14, op := Go.Op.indexAddr 37 (Go.Operand.tmp 12) (Go.Operand.tmp 13), type := 0, pos := "ref.go:42", after := #[{ on := 5, ground := Go.Ground.data }, { on := 6, ground := Go.Ground.data }, { on := 4, ground := Go.Ground.guard }], guard := some (4, true) }) (v := ?_) rfl (by kernel_rfl) (by kernel_rfl) (by kernel_rfl) (fun _ _ _ h => h) (Or.inl ⟨by rfl, ?_⟩) (by assumption) ?_
        rotate_left
        · intro wz hSw; (try dsimp only at hSw); go_simp; (try with_reducible rfl)
        try simp only [Act.put, List.setIfInBounds_toArray, List.set_cons_zero, List.set_cons_succ]
        refine wpAnyH_take (i := 8) (oi := { dst := some 15, op := Go.Op.fieldAddr 60 (Go.Operand.tmp 14) 0, type := 0, pos := "ref.go:42", after := #[{ on := 7, ground := Go.Ground.data }, { on := 4, ground := Go.Ground.guard }], guard := some (4, true) }) (v := ?_) rfl (by kernel_rfl) (by kernel_rfl) (by kernel_rfl) (fun _ _ _ h => h) (Or.inl ⟨by rfl, ?_⟩) (by assumption) ?_
        rotate_left
        · intro wz hSw; (try dsimp only at hSw); go_simp; (try with_reducible rfl)
        try simp only [Act.put, List.setIfInBounds_toArray, List.set_cons_zero, List.set_cons_succ]
        refine wpAnyH_take (i := 9) (oi := { dst := some 16, op := Go.Op.load 9 (Go.Operand.tmp 15), type := 9, pos := "ref.go:42", after := #[{ on := 8, ground := Go.Ground.data }, { on := 4, ground := Go.Ground.guard }], guard := some (4, true) }) (v := encStr y) rfl (by kernel_rfl) (by kernel_rfl) (by kernel_rfl) (fun _ _ _ h => h) (Or.inl ⟨by rfl, ?_⟩) (by assumption) ?_
        · intro wz hSw; (try dsimp only at hSw); have h1 := hSw.1; go_simp; try rfl
        try simp only [Act.put, List.setIfInBounds_toArray, List.set_cons_zero, List.set_cons_succ]
        refine wpAnyH_take (i := 10) (oi := { dst := some 17, op := Go.Op.fieldAddr 60 (Go.Operand.tmp 3) 0, type := 0, pos := "ref.go:42", after := #[{ on := 4, ground := Go.Ground.guard }], guard := some (4, true) }) (v := ?_) rfl (by kernel_rfl) (by kernel_rfl) (by kernel_rfl) (fun _ _ _ h => h) (Or.inl ⟨by rfl, ?_⟩) (by assumption) ?_
        rotate_left
        · intro wz hSw; (try dsimp only at hSw); go_simp; (try with_reducible rfl)
        try simp only [Act.put, List.setIfInBounds_toArray, List.set_cons_zero, List.set_cons_succ]
        refine wpAnyH_take (i := 11) (oi := { dst := some 18, op := Go.Op.load 9 (Go.Operand.tmp 17), type := 9, pos := "ref.go:42", after := #[{ on := 10, ground := Go.Ground.data }, { on := 4, ground := Go.Ground.guard }], guard := some (4, true) }) (v := encStr xk) rfl (by kernel_rfl) (by kernel_rfl) (by kernel_rfl) (fun _ _ _ h => h) (Or.inl ⟨by rfl, ?_⟩) (by assumption) ?_
        · intro wz hSw; (try dsimp only at hSw); have h1 := hSw.2; go_simp; try rfl
        try simp only [Act.put, List.setIfInBounds_toArray, List.set_cons_zero, List.set_cons_succ]
        refine wpAnyH_take (i := 12) (oi := { dst := some 19, op := Go.Op.binOp Go.BinOp.lss 9 (Go.Operand.tmp 16) (Go.Operand.tmp 18) 9, type := 4, pos := "ref.go:42", after := #[{ on := 9, ground := Go.Ground.data }, { on := 11, ground := Go.Ground.data }, { on := 4, ground := Go.Ground.guard }], guard := some (4, true) }) (v := .bool false) rfl (by kernel_rfl) (by kernel_rfl) (by kernel_rfl) (fun _ _ _ h => h) (Or.inl ⟨by rfl, ?_⟩) (by assumption) ?_
        · intro wz hSw; (try dsimp only at hSw); go_simp; try exact hls
        try simp only [Act.put, List.setIfInBounds_toArray, List.set_cons_zero, List.set_cons_succ]
        refine wpAnyH_take (i := 13) (oi := { dst := some 20, op := Go.Op.pick (Go.Operand.tmp 11) (Go.Operand.tmp 19) (Go.Operand.const (Go.Value.bool false)), type := 4, pos := "ref.go:42", after := #[{ on := 4, ground := Go.Ground.data }, { on := 12, ground := Go.Ground.data }], guard := none }) (v := ?_) rfl (by kernel_rfl) (by kernel_rfl) (by kernel_rfl) (fun _ _ _ h => h) (Or.inl ⟨by rfl, ?_⟩) (by assumption) ?_
        rotate_left
        · intro wz hSw; (try dsimp only at hSw); go_simp; (try with_reducible rfl)
        try simp only [Act.put, List.setIfInBounds_toArray, List.set_cons_zero, List.set_cons_succ]
        refine wpAnyH_done (by kernel_rfl) (NoPanic.normal ?_) _
        try simp only [Act.put, List.setIfInBounds_toArray, List.set_cons_zero, List.set_cons_succ]
        clear hls c0 b0 hHeld
        generalize wr.drew = wd at *
        have x0 : wd.drew.cell? ⟨w.heap.size, 0, none⟩ = some (encStr xk) := by
          have h1 : wd.drew.cell? ⟨w.heap.size, 0, none⟩ = wd.cell? ⟨w.heap.size, 0, none⟩ := World.cell?_of_block (a := ⟨w.heap.size, 0, none⟩) rfl
          rw [h1, cell_of_row _ _ 0 _ _ _ HBX.out]; simp [HX.out.1]
        have x1 : wd.drew.cell? ⟨w.heap.size, 1, none⟩ = some (encStr xv) := by
          have h1 : wd.drew.cell? ⟨w.heap.size, 1, none⟩ = wd.cell? ⟨w.heap.size, 1, none⟩ := World.cell?_of_block (a := ⟨w.heap.size, 1, none⟩) rfl
          rw [h1, cell_of_row _ _ 1 _ _ _ HBX.out]; simp [HX.out.2.1]
        have x2 : wd.drew.cell? ⟨w.heap.size, 2, none⟩ = some (.int .i64 xp) := by
          have h1 : wd.drew.cell? ⟨w.heap.size, 2, none⟩ = wd.cell? ⟨w.heap.size, 2, none⟩ := World.cell?_of_block (a := ⟨w.heap.size, 2, none⟩) rfl
          rw [h1, cell_of_row _ _ 2 _ _ _ HBX.out]; simp [HX.out.2.2]
        have hszd : w.heap.size < wd.drew.heap.size := World.block_lt_of_cell? _ _ x0
        have hT : (L.take i).length = i := by rw [List.length_take]; omega
        have hD : (L.drop i).length = L.length - i := by simp 
        have HO0 : Hid (LrOw wd.drew wd.drew (.slice none 0 0) []) := LrOw.nil' (Below.refl _ _)
        have HLQ : Hid (LrAt wd.drew (some ⟨bb, off, none⟩) L) := HL.out.below HB2.out.drew
        have HDR : Hid (∀ W : World, LrAt W (some ⟨bb, off, none⟩) L → LrAt W (if cap = i then some ⟨bb, off, none⟩ else some ⟨bb, off + i * 3, none⟩) (L.drop i)) := fun W h => by split; exact (fun hn => by rw [List.length_drop] at hn; omega); exact h.drop i
        have HSK : Hid (∀ W W' : World, (∀ k, k < W.heap.size → k ≤ w.heap.size → W'.heap[k]? = W.heap[k]?) → w.heap.size < W.heap.size → (W.cell? ⟨w.heap.size, 0, none⟩ = some (encStr xk) ∧ W.cell? ⟨w.heap.size, 1, none⟩ = some (encStr xv) ∧ W.cell? ⟨w.heap.size, 2, none⟩ = some (.int .i64 xp)) → (W'.cell? ⟨w.heap.size, 0, none⟩ = some (encStr xk) ∧ W'.cell? ⟨w.heap.size, 1, none⟩ = some (encStr xv) ∧ W'.cell? ⟨w.heap.size, 2, none⟩ = some (.int .i64 xp))) := fun W W' hk hs hc => by
          have h1 := hk w.heap.size hs (Nat.le_refl _)
          exact ⟨by rw [World.cell?_of_block (a := ⟨w.heap.size, 0, none⟩) h1]; exact hc.1, by rw [World.cell?_of_block (a := ⟨w.heap.size, 1, none⟩) h1]; exact hc.2.1, by rw [World.cell?_of_block (a := ⟨w.heap.size, 2, none⟩) h1]; exact hc.2.2⟩
        have HONE : Hid (∀ W : World, LrAt (W.alloc (.cells #[encStr xk, encStr xv, .int .i64 xp] 60)) (some ⟨W.heap.size, 0, none⟩) [x]) := fun W => by
          have := LrAt.one x W
          rwa [HX.out.1, HX.out.2.1, HX.out.2.2] at this
        go_upto_region 5 with fail
        refine wp_region_noPanic ?_
        refine wp_region_held_drew (S := fun w' => w'.cell? ⟨w.heap.size, 0, none⟩ = some (encStr xk) ∧ w'.cell? ⟨w.heap.size, 1, none⟩ = some (encStr xv) ∧ w'.cell? ⟨w.heap.size, 2, none⟩ = some (.int .i64 xp)) (by kernel_rfl) ⟨x0, x1, x2⟩ (fun hHeld => ?_)
        refine wpAnyH_take (i := 0) (oi := { dst := some 23, op := Go.Op.move (Go.Operand.tmp 6), type := 37, pos := "ref.go:46", after := #[], guard := none }) (v := ?_) rfl (by kernel_rfl) (by kernel_rfl) (by kernel_rfl) (fun _ _ _ h => h) (Or.inl ⟨by rfl, ?_⟩) (by assumption) ?_
        rotate_left
        · intro wz hSw; (try dsimp only at hSw); go_simp; (try with_reducible rfl)
        try simp only [Act.put, List.setIfInBounds_toArray, List.set_cons_zero, List.set_cons_succ]
        refine wpAnyH_take (i := 1) (oi := { dst := some 24, op := Go.Op.move (Go.Operand.tmp 0), type := 37, pos := "ref.go:46", after := #[], guard := none }) (v := ?_) rfl (by kernel_rfl) (by kernel_rfl) (by kernel_rfl) (fun _ _ _ h => h) (Or.inl ⟨by rfl, ?_⟩) (by assumption) ?_
        rotate_left
        · intro wz hSw; (try dsimp only at hSw); go_simp; (try with_reducible rfl)
        try simp only [Act.put, List.setIfInBounds_toArray, List.set_cons_zero, List.set_cons_succ]
        refine wpAnyH_take (i := 2) (oi := { dst := some 25, op := Go.Op.move (Go.Operand.tmp 5), type := 3, pos := "ref.go:46", after := #[], guard := none }) (v := ?_) rfl (by kernel_rfl) (by kernel_rfl) (by kernel_rfl) (fun _ _ _ h => h) (Or.inl ⟨by rfl, ?_⟩) (by assumption) ?_
        rotate_left
        · intro wz hSw; (try dsimp only at hSw); go_simp; (try with_reducible rfl)
        try simp only [Act.put, List.setIfInBounds_toArray, List.set_cons_zero, List.set_cons_succ]
        refine wpAnyH_take (i := 3) (oi := { dst := some 26, op := Go.Op.slice 37 (Go.Operand.tmp 24) none (some (Go.Operand.tmp 25)) none, type := 37, pos := "ref.go:46", after := #[{ on := 1, ground := Go.Ground.data }, { on := 2, ground := Go.Ground.data }], guard := none }) (v := .slice (some ⟨bb, off, none⟩) i cap) rfl (by kernel_rfl) (by kernel_rfl) (by kernel_rfl) (fun _ _ _ h => h) (Or.inl ⟨by rfl, ?_⟩) (by assumption) ?_
        · intro wz hSw; (try dsimp only at hSw); go_simp; try (intro hbad; omega)
        try simp only [Act.put, List.setIfInBounds_toArray, List.set_cons_zero, List.set_cons_succ]
        refine wpAnyH_take (i := 5) (oi := { dst := some 28, op := Go.Op.load 60 (Go.Operand.tmp 3), type := 60, pos := "ref.go:46", after := #[], guard := none }) (v := .agg #[encStr xk, encStr xv, .int .i64 xp]) rfl (by kernel_rfl) (by kernel_rfl) (by kernel_rfl) (fun _ _ _ h => h) (Or.inl ⟨by rfl, ?_⟩) (by assumption) ?_
        · intro wz hSw; (try dsimp only at hSw); have h1 := hSw.1; have h2 := hSw.2.1; have h3 := hSw.2.2; go_simp; try rfl
        try simp only [Act.put, List.setIfInBounds_toArray, List.set_cons_zero, List.set_cons_succ]
        refine wpAnyH_take (i := 8) (oi := { dst := some 31, op := Go.Op.move (Go.Operand.tmp 0), type := 37, pos := "ref.go:46", after := #[], guard := none }) (v := ?_) rfl (by kernel_rfl) (by kernel_rfl) (by kernel_rfl) (fun _ _ _ h => h) (Or.inl ⟨by rfl, ?_⟩) (by assumption) ?_
        rotate_left
        · intro wz hSw; (try dsimp only at hSw); go_simp; (try with_reducible rfl)
        try simp only [Act.put, List.setIfInBounds_toArray, List.set_cons_zero, List.set_cons_succ]
        refine wpAnyH_take (i := 9) (oi := { dst := some 32, op := Go.Op.move (Go.Operand.tmp 5), type := 3, pos := "ref.go:46", after := #[], guard := none }) (v := ?_) rfl (by kernel_rfl) (by kernel_rfl) (by kernel_rfl) (fun _ _ _ h => h) (Or.inl ⟨by rfl, ?_⟩) (by assumption) ?_
        rotate_left
        · intro wz hSw; (try dsimp only at hSw); go_simp; (try with_reducible rfl)
        try simp only [Act.put, List.setIfInBounds_toArray, List.set_cons_zero, List.set_cons_succ]
        refine wpAnyH_take (i := 10) (oi := { dst := some 33, op := Go.Op.slice 37 (Go.Operand.tmp 31) (some (Go.Operand.tmp 32)) none none, type := 37, pos := "ref.go:46", after := #[{ on := 8, ground := Go.Ground.data }, { on := 9, ground := Go.Ground.data }], guard := none }) (v := .slice (if cap = i then some ⟨bb, off, none⟩ else some ⟨bb, off + i * 3, none⟩) (L.length - i) (cap - i)) rfl (by kernel_rfl) (by kernel_rfl) (by kernel_rfl) (fun _ _ _ h => h) (Or.inl ⟨by rfl, ?_⟩) (by assumption) ?_
        · intro wz hSw; (try dsimp only at hSw); go_simp; try (intro hbad; omega)
        try simp only [Act.put, List.setIfInBounds_toArray, List.set_cons_zero, List.set_cons_succ]
        refine wpAnyH_ready (rs := [4, 6]) (by kernel_rfl) (by simp) ?_
        refine (AllReadyH.cons (o := { dst := some 27, op := Go.Op.call { callee := Go.Callee.builtin Go.Builtin.append, args := #[Go.Operand.tmp 23, Go.Operand.tmp 26], argTypes := #[37, 37] }, type := 37, pos := "ref.go:46", after := #[{ on := 0, ground := Go.Ground.data }, { on := 3, ground := Go.Ground.data }], guard := none }) rfl (fun K hK => ?_) (AllReadyH.cons (o := { dst := some 29, op := Go.Op.buildSlice 37 1 #[(0, Go.Operand.tmp 28)], type := 37, pos := "ref.go:46", after := #[{ on := 5, ground := Go.Ground.data }], guard := none }) rfl (fun K hK => ?_) AllReadyH.nil))
        · refine step_append_Lr rfl (.tmp 23) (.tmp 26) rfl wd.drew (.slice none 0 0) [] (L.take i) (some ⟨bb, off, none⟩) cap (by rfl) (by rw [hT]; rfl) HO0.out (HLQ.out.take i) (fun e => by cases e) (by simp <;> omega) ?_
          intro v1 w1 hO1 hk1
          have hS1 := HSK.out wd.drew w1 (fun k h1 _ => hk1 k h1 (by simp [Value.ownBlock])) hszd ⟨x0, x1, x2⟩
          refine hK.out _ _ hS1 (fun _ => ?_)
          clear hK K
          try simp only [Act.put, List.setIfInBounds_toArray, List.set_cons_zero, List.set_cons_succ]
          refine wpAnyH_ready (rs := [6]) (by kernel_rfl) (by simp) ?_
          refine (AllReadyH.cons (o := { dst := some 29, op := Go.Op.buildSlice 37 1 #[(0, Go.Operand.tmp 28)], type := 37, pos := "ref.go:46", after := #[{ on := 5, ground := Go.Ground.data }], guard := none }) rfl (fun K hK => ?_) AllReadyH.nil)
          refine step_sliceLr rfl (.tmp 28) rfl xk xv xp (by rfl) ?_
          have hb2 : Below w1.heap.size w1 (w1.alloc (.cells #[encStr xk, encStr xv, .int .i64 xp] 60)) := (Below.refl _ w1).alloc (Nat.le_refl _) _
          have hS2 := HSK.out w1 (w1.alloc (.cells #[encStr xk, encStr xv, .int .i64 xp] 60)) (fun k h1 _ => hb2.block k h1) (World.block_lt_of_cell? _ _ hS1.1) hS1
          refine hK.out _ _ hS2 (fun _ => ?_)
          clear hK K
          try simp only [Act.put, List.setIfInBounds_toArray, List.set_cons_zero, List.set_cons_succ]
          refine wpAnyH_ready (rs := [7]) (by kernel_rfl) (by simp) ?_
          refine (AllReadyH.cons (o := { dst := some 30, op := Go.Op.call { callee := Go.Callee.builtin Go.Builtin.append, args := #[Go.Operand.tmp 27, Go.Operand.tmp 29], argTypes := #[37, 37] }, type := 37, pos := "ref.go:46", after := #[{ on := 4, ground := Go.Ground.data }, { on := 6, ground := Go.Ground.data }, { on := 4, ground := Go.Ground.chain }], guard := none }) rfl (fun K hK => ?_) AllReadyH.nil)
          refine step_append_Lr rfl (.tmp 27) (.tmp 29) rfl wd.drew v1 ([] ++ L.take i) [x] (some ⟨w1.heap.size, 0, none⟩) 1 (by rfl) (by rfl) (hO1.keep hb2) (HONE.out w1) (fun e => by cases e) (by simp <;> omega) ?_
          intro v3 w3 hO3 hk3
          have hS3 := HSK.out _ w3 (fun k h1 h2 => hk3 k h1 (fun e => by have := hO1.block k e; omega)) (World.block_lt_of_cell? _ _ hS2.1) hS2
          refine hK.out _ _ hS3 (fun _ => ?_)
          clear hK K
          try simp only [Act.put, List.setIfInBounds_toArray, List.set_cons_zero, List.set_cons_succ]
          refine wpAnyH_ready (rs := [11]) (by kernel_rfl) (by simp) ?_
          refine (AllReadyH.cons (o := { dst := some 34, op := Go.Op.call { callee := Go.Callee.builtin Go.Builtin.append, args := #[Go.Operand.tmp 30, Go.Operand.tmp 33], argTypes := #[37, 37] }, type := 37, pos := "ref.go:46", after := #[{ on := 7, ground := Go.Ground.data }, { on := 10, ground := Go.Ground.data }, { on := 7, ground := Go.Ground.chain }], guard := none }) rfl (fun K hK => ?_) AllReadyH.nil)
          refine step_append_Lr rfl (.tmp 30) (.tmp 33) rfl wd.drew v3 ([] ++ L.take i ++ [x]) (L.drop i) (if cap = i then some ⟨bb, off, none⟩ else some ⟨bb, off + i * 3, none⟩) (cap - i) (by rfl) (by rw [hD]; rfl) hO3 (HDR.out w3 (HLQ.out.below hO3.below)) (fun e => by split at e <;> cases e) (by simp <;> omega) ?_
          intro v4 w4 hO4 hk4
          have hS4 := HSK.out _ w4 (fun k h1 h2 => hk4 k h1 (fun e => by have := hO3.block k e; omega)) (World.block_lt_of_cell? _ _ hS3.1) hS3
          refine hK.out _ _ hS4 (fun _ => ?_)
          clear hK K
          try simp only [Act.put, List.setIfInBounds_toArray, List.set_cons_zero, List.set_cons_succ]
          refine wpAnyH_take (i := 12) (oi := { dst := some 4, op := Go.Op.assign (Go.Operand.tmp 34), type := 37, pos := "ref.go:46", after := #[{ on := 11, ground := Go.Ground.data }, { on := 11, ground := Go.Ground.chain }, { on := 0, ground := Go.Ground.phase }, { on := 1, ground := Go.Ground.phase }, { on := 2, ground := Go.Ground.phase }, { on := 3, ground := Go.Ground.phase }, { on := 4, ground := Go.Ground.phase }, { on := 5, ground := Go.Ground.phase }, { on := 6, ground := Go.Ground.phase }, { on := 7, ground := Go.Ground.phase }, { on := 8, ground := Go.Ground.phase }, { on := 9, ground := Go.Ground.phase }, { on := 10, ground := Go.Ground.phase }, { on := 11, ground := Go.Ground.phase }], guard := none }) (v := ?_) rfl (by kernel_rfl) (by kernel_rfl) (by kernel_rfl) (fun _ _ _ h => h) (Or.inl ⟨by rfl, ?_⟩) (by assumption) ?_
          rotate_left
          · intro wz hSw; (try dsimp only at hSw); go_simp; (try with_reducible rfl)
          try simp only [Act.put, List.setIfInBounds_toArray, List.set_cons_zero, List.set_cons_succ]
          refine wpAnyH_done (by kernel_rfl) (NoPanic.normal ?_) _
          try simp only [Act.put, List.setIfInBounds_toArray, List.set_cons_zero, List.set_cons_succ]
          have hE : LrOw w w4 v4 (insK Lf.k x L) := by
            have h1 := hO4.mono HB2.out.drew
            rw [HIN.out]
            simpa using h1
          have HE : Hid (LrOw w w4 v4 (insK Lf.k x L)) := hE
          clear hE
          clear hO1 hO3 hO4 hk1 hk3 hk4 hS1 hS2 hS3 hS4 x0 x1 x2 hT hD hszd hHeld
          go_wp2
          all_goals go_ret
          all_goals first | exact ⟨_, rfl, HE.out⟩ | exact ⟨_, rfl, by have := HE.out; rw [hLe] at this; exact this⟩
        · refine step_sliceLr rfl (.tmp 28) rfl xk xv xp (by rfl) ?_
          have hb1 : Below wd.drew.heap.size wd.drew (wd.drew.alloc (.cells #[encStr xk, encStr xv, .int .i64 xp] 60)) := (Below.refl _ wd.drew).alloc (Nat.le_refl _) _
          have hS1 := HSK.out wd.drew (wd.drew.alloc (.cells #[encStr xk, encStr xv, .int .i64 xp] 60)) (fun k h1 _ => hb1.block k h1) hszd ⟨x0, x1, x2⟩
          have hlt1 : wd.drew.heap.size < (wd.drew.alloc (.cells #[encStr xk, encStr xv, .int .i64 xp] 60)).heap.size := by simp
          refine hK.out _ _ hS1 (fun _ => ?_)
          clear hK K
          try simp only [Act.put, List.setIfInBounds_toArray, List.set_cons_zero, List.set_cons_succ]
          refine wpAnyH_ready (rs := [4]) (by kernel_rfl) (by simp) ?_
          refine (AllReadyH.cons (o := { dst := some 27, op := Go.Op.call { callee := Go.Callee.builtin Go.Builtin.append, args := #[Go.Operand.tmp 23, Go.Operand.tmp 26], argTypes := #[37, 37] }, type := 37, pos := "ref.go:46", after := #[{ on := 0, ground := Go.Ground.data }, { on := 3, ground := Go.Ground.data }], guard := none }) rfl (fun K hK => ?_) AllReadyH.nil)
          refine step_append_Lr rfl (.tmp 23) (.tmp 26) rfl wd.drew (.slice none 0 0) [] (L.take i) (some ⟨bb, off, none⟩) cap (by rfl) (by rw [hT]; rfl) (HO0.out.keep hb1) ((HLQ.out.below hb1).take i) (fun e => by cases e) (by simp <;> omega) ?_
          intro v1 w2 hO1 hk1
          have hS2 := HSK.out (wd.drew.alloc (.cells #[encStr xk, encStr xv, .int .i64 xp] 60)) w2 (fun k h1 _ => hk1 k h1 (by simp [Value.ownBlock])) (World.block_lt_of_cell? _ _ hS1.1) hS1
          have hone : LrAt w2 (some ⟨wd.drew.heap.size, 0, none⟩) [x] := (HONE.out wd.drew).keep (fun a e _ => by cases e; exact hk1 _ hlt1 (by simp [Value.ownBlock]))
          refine hK.out _ _ hS2 (fun _ => ?_)
          clear hK K
          try simp only [Act.put, List.setIfInBounds_toArray, List.set_cons_zero, List.set_cons_succ]
          refine wpAnyH_ready (rs := [7]) (by kernel_rfl) (by simp) ?_
          refine (AllReadyH.cons (o := { dst := some 30, op := Go.Op.call { callee := Go.Callee.builtin Go.Builtin.append, args := #[Go.Operand.tmp 27, Go.Operand.tmp 29], argTypes := #[37, 37] }, type := 37, pos := "ref.go:46", after := #[{ on := 4, ground := Go.Ground.data }, { on := 6, ground := Go.Ground.data }, { on := 4, ground := Go.Ground.chain }], guard := none }) rfl (fun K hK => ?_) AllReadyH.nil)
          refine step_append_Lr rfl (.tmp 27) (.tmp 29) rfl wd.drew v1 ([] ++ L.take i) [x] (some ⟨wd.drew.heap.size, 0, none⟩) 1 (by rfl) (by rfl) hO1 hone (fun e => by cases e) (by simp <;> omega) ?_
          intro v3 w3 hO3 hk3
          have hS3 := HSK.out _ w3 (fun k h1 h2 => hk3 k h1 (fun e => by have := hO1.block k e; omega)) (World.block_lt_of_cell? _ _ hS2.1) hS2
          refine hK.out _ _ hS3 (fun _ => ?_)
          clear hK K
          try simp only [Act.put, List.setIfInBounds_toArray, List.set_cons_zero, List.set_cons_succ]
          refine wpAnyH_ready (rs := [11]) (by kernel_rfl) (by simp) ?_
          refine (AllReadyH.cons (o := { dst := some 34, op := Go.Op.call { callee := Go.Callee.builtin Go.Builtin.append, args := #[Go.Operand.tmp 30, Go.Operand.tmp 33], argTypes := #[37, 37] }, type := 37, pos := "ref.go:46", after := #[{ on := 7, ground := Go.Ground.data }, { on := 10, ground := Go.Ground.data }, { on := 7, ground := Go.Ground.chain }], guard := none }) rfl (fun K hK => ?_) AllReadyH.nil)
          refine step_append_Lr rfl (.tmp 30) (.tmp 33) rfl wd.drew v3 ([] ++ L.take i ++ [x]) (L.drop i) (if cap = i then some ⟨bb, off, none⟩ else some ⟨bb, off + i * 3, none⟩) (cap - i) (by rfl) (by rw [hD]; rfl) hO3 (HDR.out w3 (HLQ.out.below hO3.below)) (fun e => by split at e <;> cases e) (by simp <;> omega) ?_
          intro v4 w4 hO4 hk4
          have hS4 := HSK.out _ w4 (fun k h1 h2 => hk4 k h1 (fun e => by have := hO3.block k e; omega)) (World.block_lt_of_cell? _ _ hS3.1) hS3
          refine hK.out _ _ hS4 (fun _ => ?_)
          clear hK K
          try simp only [Act.put, List.setIfInBounds_toArray, List.set_cons_zero, List.set_cons_succ]
          refine wpAnyH_take (i := 12) (oi := { dst := some 4, op := Go.Op.assign (Go.Operand.tmp 34), type := 37, pos := "ref.go:46", after := #[{ on := 11, ground := Go.Ground.data }, { on := 11, ground := Go.Ground.chain }, { on := 0, ground := Go.Ground.phase }, { on := 1, ground := Go.Ground.phase }, { on := 2, ground := Go.Ground.phase }, { on := 3, ground := Go.Ground.phase }, { on := 4, ground := Go.Ground.phase }, { on := 5, ground := Go.Ground.phase }, { on := 6, ground := Go.Ground.phase }, { on := 7, ground := Go.Ground.phase }, { on := 8, ground := Go.Ground.phase }, { on := 9, ground := Go.Ground.phase }, { on := 10, ground := Go.Ground.phase }, { on := 11, ground := Go.Ground.phase }], guard := none }) (v := ?_) rfl (by kernel_rfl) (by kernel_rfl) (by kernel_rfl) (fun _ _ _ h => h) (Or.inl ⟨by rfl, ?_⟩) (by assumption) ?_
          rotate_left
          · intro wz hSw; (try dsimp only at hSw); go_simp; (try with_reducible rfl)
          try simp only [Act.put, List.setIfInBounds_toArray, List.set_cons_zero, List.set_cons_succ]
          refine wpAnyH_done (by kernel_rfl) (NoPanic.normal ?_) _
          try simp only [Act.put, List.setIfInBounds_toArray, List.set_cons_zero, List.set_cons_succ]
          have hE : LrOw w w4 v4 (insK Lf.k x L) := by
            have h1 := hO4.mono HB2.out.drew
            rw [HIN.out]
            simpa using h1
          have HE : Hid (LrOw w w4 v4 (insK Lf.k x L)) := hE
          clear hE
          clear hO1 hO3 hO4 hk1 hk3 hk4 hS1 hS2 hS3 hS4 x0 x1 x2 hT hD hszd hHeld
          go_wp2
          all_goals go_ret
          all_goals first | exact ⟨_, rfl, HE.out⟩ | exact ⟨_, rfl, by have := HE.out; rw [hLe] at this; exact this⟩

    · have hlt' : ¬ ((i : Int) < L.length) := by omega
      have HB2 : Hid (Below w.heap.size w wr.drew) := HI.out.below.drew
      have HBX : Hid (wr.drew.heap[w.heap.size]? = some (.cells #[encStr x.k, encStr x.v, .int .i64 (x.p : Int)] 60 (0, 0))) := HI.out.box
      have HIN : Hid (insK Lf.k x L = L.take i ++ x :: L.drop i) := insK_at hi HI.out.ahead (fun y hy => by rw [List.getElem?_eq_none (by omega)] at hy; cases hy) HNE.out
      go_upto_region 2 with fail
      refine wp_region_noPanic ?_
      refine wp_region_held_drew (S := fun _ => True) (by kernel_rfl) trivial (fun hHeld => ?_)
      refine wpAnyH_take (i := 0) (oi := { dst := some 7, op := Go.Op.move (Go.Operand.tmp 5), type := 3, pos := "ref.go:42", after := #[], guard := none }) (v := ?_) rfl (by kernel_rfl) (by kernel_rfl) (by kernel_rfl) (fun _ _ _ h => h) (Or.inl ⟨by rfl, ?_⟩) (by assumption) ?_
      rotate_left
      · intro wz hSw; (try dsimp only at hSw); go_simp; (try with_reducible rfl)
      try simp only [Act.put, List.setIfInBounds_toArray, List.set_cons_zero, List.set_cons_succ]
      refine wpAnyH_take (i := 1) (oi := { dst := some 8, op := Go.Op.move (Go.Operand.tmp 0), type := 37, pos := "ref.go:42", after := #[], guard := none }) (v := ?_) rfl (by kernel_rfl) (by kernel_rfl) (by kernel_rfl) (fun _ _ _ h => h) (Or.inl ⟨by rfl, ?_⟩) (by assumption) ?_
      rotate_left
      · intro wz hSw; (try dsimp only at hSw); go_simp; (try with_reducible rfl)
      try simp only [Act.put, List.setIfInBounds_toArray, List.set_cons_zero, List.set_cons_succ]
      refine wpAnyH_take (i := 2) (oi := { dst := some 9, op := Go.Op.call { callee := Go.Callee.builtin Go.Builtin.len, args := #[Go.Operand.tmp 8], argTypes := #[37] }, type := 3, pos := "ref.go:42", after := #[{ on := 1, ground := Go.Ground.data }], guard := none }) (v := ?_) rfl (by kernel_rfl) (by kernel_rfl) (by kernel_rfl) (fun _ _ _ h => h) (Or.inl ⟨by rfl, ?_⟩) (by assumption) ?_
      rotate_left
      · intro wz hSw; (try dsimp only at hSw); go_simp; (try with_reducible rfl)
      try simp only [Act.put, List.setIfInBounds_toArray, List.set_cons_zero, List.set_cons_succ]
      refine wpAnyH_take (i := 3) (oi := { dst := some 10, op := Go.Op.binOp Go.BinOp.lss 3 (Go.Operand.tmp 7) (Go.Operand.tmp 9) 3, type := 4, pos := "ref.go:42", after := #[{ on := 0, ground := Go.Ground.data }, { on := 2, ground := Go.Ground.data }], guard := none }) (v := ?_) rfl (by kernel_rfl) (by kernel_rfl) (by kernel_rfl) (fun _ _ _ h => h) (Or.inl ⟨by rfl, ?_⟩) (by assumption) ?_
      rotate_left
      · intro wz hSw; (try dsimp only at hSw); go_simp; (try with_reducible rfl)
      try simp only [Act.put, List.setIfInBounds_toArray, List.set_cons_zero, List.set_cons_succ]
      refine wpAnyH_take (i := 4) (oi := { dst := some 11, op := Go.Op.move (Go.Operand.tmp 10), type := 4, pos := "ref.go:42", after := #[{ on := 3, ground := Go.Ground.data }], guard := none }) (v := ?_) rfl (by kernel_rfl) (by kernel_rfl) (by kernel_rfl) (fun _ _ _ h => h) (Or.inl ⟨by rfl, ?_⟩) (by assumption) ?_
      rotate_left
      · intro wz hSw; (try dsimp only at hSw); go_simp; (try with_reducible rfl)
      try simp only [Act.put, List.setIfInBounds_toArray, List.set_cons_zero, List.set_cons_succ]
      refine wpAnyH_take (i := 5) (oi := { dst := some 12, op := Go.Op.move (Go.Operand.tmp 0), type := 37, pos := "ref.go:42", after := #[{ on := 4, ground := Go.Ground.guard }], guard := some (4, true) }) (v := undef) rfl (by kernel_rfl) (by kernel_rfl) (by kernel_rfl) (fun _ _ _ h => h) (Or.inr ⟨by rfl, rfl⟩) (by assumption) ?_
      try simp only [Act.put, List.setIfInBounds_toArray, List.set_cons_zero, List.set_cons_succ]
      refine wpAnyH_take (i := 6) (oi := { dst := some 13, op := Go.Op.move (Go.Operand.tmp 5), type := 3, pos := "ref.go:42", after := #[{ on := 4, ground := Go.Ground.guard }], guard := some (4, true) }) (v := undef) rfl (by kernel_rfl) (by kernel_rfl) (by kernel_rfl) (fun _ _ _ h => h) (Or.inr ⟨by rfl, rfl⟩) (by assumption) ?_
      try simp only [Act.put, List.setIfInBounds_toArray, List.set_cons_zero, List.set_cons_succ]
      refine wpAnyH_take (i := 7) (oi := { dst := some 14, op := Go.Op.indexAddr 37 (Go.Operand.tmp 12) (Go.Operand.tmp 13), type := 0, pos := "ref.go:42", after := #[{ on := 5, ground := Go.Ground.data }, { on := 6, ground := Go.Ground.data }, { on := 4, ground := Go.Ground.guard }], guard := some (4, true) }) (v := undef) rfl (by kernel_rfl) (by kernel_rfl) (by kernel_rfl) (fun _ _ _ h => h) (Or.inr ⟨by rfl, rfl⟩) (by assumption) ?_
      try simp only [Act.put, List.setIfInBounds_toArray, List.set_cons_zero, List.set_cons_succ]
      refine wpAnyH_take (i := 8) (oi := { dst := some 15, op := Go.Op.fieldAddr 60 (Go.Operand.tmp 14) 0, type := 0, pos := "ref.go:42", after := #[{ on := 7, ground := Go.Ground.data }, { on := 4, ground := Go.Ground.guard }], guard := some (4, true) }) (v := undef) rfl (by kernel_rfl) (by kernel_rfl) (by kernel_rfl) (fun _ _ _ h => h) (Or.inr ⟨by rfl, rfl⟩) (by assumption) ?_
      try simp only [Act.put, List.setIfInBounds_toArray, List.set_cons_zero, List.set_cons_succ]
      refine wpAnyH_take (i := 9) (oi := { dst := some 16, op := Go.Op.load 9 (Go.Operand.tmp 15), type := 9, pos := "ref.go:42", after := #[{ on := 8, ground := Go.Ground.data }, { on := 4, ground := Go.Ground.guard }], guard := some (4, true) }) (v := undef) rfl (by kernel_rfl) (by kernel_rfl) (by kernel_rfl) (fun _ _ _ h => h) (Or.inr ⟨by rfl, rfl⟩) (by assumption) ?_
      try simp only [Act.put, List.setIfInBounds_toArray, List.set_cons_zero, List.set_cons_succ]
      refine wpAnyH_take (i := 10) (oi := { dst := some 17, op := Go.Op.fieldAddr 60 (Go.Operand.tmp 3) 0, type := 0, pos := "ref.go:42", after := #[{ on := 4, ground := Go.Ground.guard }], guard := some (4, true) }) (v := undef) rfl (by kernel_rfl) (by kernel_rfl) (by kernel_rfl) (fun _ _ _ h => h) (Or.inr ⟨by rfl, rfl⟩) (by assumption) ?_
      try simp only [Act.put, List.setIfInBounds_toArray, List.set_cons_zero, List.set_cons_succ]
      refine wpAnyH_take (i := 11) (oi := { dst := some 18, op := Go.Op.load 9 (Go.Operand.tmp 17), type := 9, pos := "ref.go:42", after := #[{ on := 10, ground := Go.Ground.data }, { on := 4, ground := Go.Ground.guard }], guard := some (4, true) }) (v := undef) rfl (by kernel_rfl) (by kernel_rfl) (by kernel_rfl) (fun _ _ _ h => h) (Or.inr ⟨by rfl, rfl⟩) (by assumption) ?_
      try simp only [Act.put, List.setIfInBounds_toArray, List.set_cons_zero, List.set_cons_succ]
      refine wpAnyH_take (i := 12) (oi := { dst := some 19, op := Go.Op.binOp Go.BinOp.lss 9 (Go.Operand.tmp 16) (Go.Operand.tmp 18) 9, type := 4, pos := "ref.go:42", after := #[{ on := 9, ground := Go.Ground.data }, { on := 11, ground := Go.Ground.data }, { on := 4, ground := Go.Ground.guard }], guard := some (4, true) }) (v := undef) rfl (by kernel_rfl) (by kernel_rfl) (by kernel_rfl) (fun _ _ _ h => h) (Or.inr ⟨by rfl, rfl⟩) (by assumption) ?_
      try simp only [Act.put, List.setIfInBounds_toArray, List.set_cons_zero, List.set_cons_succ]
      refine wpAnyH_take (i := 13) (oi := { dst := some 20, op := Go.Op.pick (Go.Operand.tmp 11) (Go.Operand.tmp 19) (Go.Operand.const (Go.Value.bool false)), type := 4, pos := "ref.go:42", after := #[{ on := 4, ground := Go.Ground.data }, { on := 12, ground := Go.Ground.data }], guard := none }) (v := ?_) rfl (by kernel_rfl) (by kernel_rfl) (by kernel_rfl) (fun _ _ _ h => h) (Or.inl ⟨by rfl, ?_⟩) (by assumption) ?_
      rotate_left
      · intro wz hSw; (try dsimp only at hSw); go_simp; (try with_reducible rfl)
      try simp only [Act.put, List.setIfInBounds_toArray, List.set_cons_zero, List.set_cons_succ]
      refine wpAnyH_done (by kernel_rfl) (NoPanic.normal ?_) _
      try simp only [Act.put, List.setIfInBounds_toArray, List.set_cons_zero, List.set_cons_succ]
      clear hHeld b0
      cases ad with
      | none =>
        have hL0 : L.length = 0 := (hnil rfl).1
        have hLe : L = [] := List.eq_nil_of_length_eq_zero hL0
        obtain rfl : i = 0 := by have := (hnil rfl).1; omega
        obtain rfl : cap = 0 := (hnil rfl).2
        generalize wr.drew = wd at *
        have x0 : wd.drew.cell? ⟨w.heap.size, 0, none⟩ = some (encStr xk) := by
          have h1 : wd.drew.cell? ⟨w.heap.size, 0, none⟩ = wd.cell? ⟨w.heap.size, 0, none⟩ := World.cell?_of_block (a := ⟨w.heap.size, 0, none⟩) rfl
          rw [h1, cell_of_row _ _ 0 _ _ _ HBX.out]; simp [HX.out.1]
        have x1 : wd.drew.cell? ⟨w.heap.size, 1, none⟩ = some (encStr xv) := by
          have h1 : wd.drew.cell? ⟨w.heap.size, 1, none⟩ = wd.cell? ⟨w.heap.size, 1, none⟩ := World.cell?_of_block (a := ⟨w.heap.size, 1, none⟩) rfl
          rw [h1, cell_of_row _ _ 1 _ _ _ HBX.out]; simp [HX.out.2.1]
        have x2 : wd.drew.cell? ⟨w.heap.size, 2, none⟩ = some (.int .i64 xp) := by
          have h1 : wd.drew.cell? ⟨w.heap.size, 2, none⟩ = wd.cell? ⟨w.heap.size, 2, none⟩ := World.cell?_of_block (a := ⟨w.heap.size, 2, none⟩) rfl
          rw [h1, cell_of_row _ _ 2 _ _ _ HBX.out]; simp [HX.out.2.2]
        have hszd : w.heap.size < wd.drew.heap.size := World.block_lt_of_cell? _ _ x0
        have hT : (L.take 0).length = 0 := by rw [List.length_take]; omega
        have hD : (L.drop 0).length = 0 := by simp [hL0]
        have HO0 : Hid (LrOw wd.drew wd.drew (.slice none 0 0) []) := LrOw.nil' (Below.refl _ _)
        have HLQ : Hid (LrAt wd.drew none L) := HL.out.below HB2.out.drew
        have HDR : Hid (∀ W : World, LrAt W none L → LrAt W none (L.drop 0)) := fun W h => by intro hn; rw [List.length_drop] at hn; omega
        have HSK : Hid (∀ W W' : World, (∀ k, k < W.heap.size → k ≤ w.heap.size → W'.heap[k]? = W.heap[k]?) → w.heap.size < W.heap.size → (W.cell? ⟨w.heap.size, 0, none⟩ = some (encStr xk) ∧ W.cell? ⟨w.heap.size, 1, none⟩ = some (encStr xv) ∧ W.cell? ⟨w.heap.size, 2, none⟩ = some (.int .i64 xp)) → (W'.cell? ⟨w.heap.size, 0, none⟩ = some (encStr xk) ∧ W'.cell? ⟨w.heap.size, 1, none⟩ = some (encStr xv) ∧ W'.cell? ⟨w.heap.size, 2, none⟩ = some (.int .i64 xp))) := fun W W' hk hs hc => by
          have h1 := hk w.heap.size hs (Nat.le_refl _)
          exact ⟨by rw [World.cell?_of_block (a := ⟨w.heap.size, 0, none⟩) h1]; exact hc.1, by rw [World.cell?_of_block (a := ⟨w.heap.size, 1, none⟩) h1]; exact hc.2.1, by rw [World.cell?_of_block (a := ⟨w.heap.size, 2, none⟩) h1]; exact hc.2.2⟩
        have HONE : Hid (∀ W : World, LrAt (W.alloc (.cells #[encStr xk, encStr xv, .int .i64 xp] 60)) (some ⟨W.heap.size, 0, none⟩) [x]) := fun W => by
          have := LrAt.one x W
          rwa [HX.out.1, HX.out.2.1, HX.out.2.2] at this
        go_upto_region 5 with fail
        refine wp_region_noPanic ?_
        refine wp_region_held_drew (S := fun w' => w'.cell? ⟨w.heap.size, 0, none⟩ = some (encStr xk) ∧ w'.cell? ⟨w.heap.size, 1, none⟩ = some (encStr xv) ∧ w'.cell? ⟨w.heap.size, 2, none⟩ = some (.int .i64 xp)) (by kernel_rfl) ⟨x0, x1, x2⟩ (fun hHeld => ?_)
        refine wpAnyH_take (i := 0) (oi := { dst := some 23, op := Go.Op.move (Go.Operand.tmp 6), type := 37, pos := "ref.go:46", after := #[], guard := none }) (v := ?_) rfl (by kernel_rfl) (by kernel_rfl) (by kernel_rfl) (fun _ _ _ h => h) (Or.inl ⟨by rfl, ?_⟩) (by assumption) ?_
        rotate_left
        · intro wz hSw; (try dsimp only at hSw); go_simp; (try with_reducible rfl)
        try simp only [Act.put, List.setIfInBounds_toArray, List.set_cons_zero, List.set_cons_succ]
        refine wpAnyH_take (i := 1) (oi := { dst := some 24, op := Go.Op.move (Go.Operand.tmp 0), type := 37, pos := "ref.go:46", after := #[], guard := none }) (v := ?_) rfl (by kernel_rfl) (by kernel_rfl) (by kernel_rfl) (fun _ _ _ h => h) (Or.inl ⟨by rfl, ?_⟩) (by assumption) ?_
        rotate_left
        · intro wz hSw; (try dsimp only at hSw); go_simp; (try with_reducible rfl)
        try simp only [Act.put, List.setIfInBounds_toArray, List.set_cons_zero, List.set_cons_succ]
        refine wpAnyH_take (i := 2) (oi := { dst := some 25, op := Go.Op.move (Go.Operand.tmp 5), type := 3, pos := "ref.go:46", after := #[], guard := none }) (v := ?_) rfl (by kernel_rfl) (by kernel_rfl) (by kernel_rfl) (fun _ _ _ h => h) (Or.inl ⟨by rfl, ?_⟩) (by assumption) ?_
        rotate_left
        · intro wz hSw; (try dsimp only at hSw); go_simp; (try with_reducible rfl)
        try simp only [Act.put, List.setIfInBounds_toArray, List.set_cons_zero, List.set_cons_succ]
        refine wpAnyH_take (i := 3) (oi := { dst := some 26, op := Go.Op.slice 37 (Go.Operand.tmp 24) none (some (Go.Operand.tmp 25)) none, type := 37, pos := "ref.go:46", after := #[{ on := 1, ground := Go.Ground.data }, { on := 2, ground := Go.Ground.data }], guard := none }) (v := .slice none 0 0) rfl (by kernel_rfl) (by kernel_rfl) (by kernel_rfl) (fun _ _ _ h => h) (Or.inl ⟨by rfl, ?_⟩) (by assumption) ?_
        · intro wz hSw; (try dsimp only at hSw); go_simp; try (intro hbad; omega)
        try simp only [Act.put, List.setIfInBounds_toArray, List.set_cons_zero, List.set_cons_succ]
        refine wpAnyH_take (i := 5) (oi := { dst := some 28, op := Go.Op.load 60 (Go.Operand.tmp 3), type := 60, pos := "ref.go:46", after := #[], guard := none }) (v := .agg #[encStr xk, encStr xv, .int .i64 xp]) rfl (by kernel_rfl) (by kernel_rfl) (by kernel_rfl) (fun _ _ _ h => h) (Or.inl ⟨by rfl, ?_⟩) (by assumption) ?_
        · intro wz hSw; (try dsimp only at hSw); have h1 := hSw.1; have h2 := hSw.2.1; have h3 := hSw.2.2; go_simp; try rfl
        try simp only [Act.put, List.setIfInBounds_toArray, List.set_cons_zero, List.set_cons_succ]
        refine wpAnyH_take (i := 8) (oi := { dst := some 31, op := Go.Op.move (Go.Operand.tmp 0), type := 37, pos := "ref.go:46", after := #[], guard := none }) (v := ?_) rfl (by kernel_rfl) (by kernel_rfl) (by kernel_rfl) (fun _ _ _ h => h) (Or.inl ⟨by rfl, ?_⟩) (by assumption) ?_
        rotate_left
        · intro wz hSw; (try dsimp only at hSw); go_simp; (try with_reducible rfl)
        try simp only [Act.put, List.setIfInBounds_toArray, List.set_cons_zero, List.set_cons_succ]
        refine wpAnyH_take (i := 9) (oi := { dst := some 32, op := Go.Op.move (Go.Operand.tmp 5), type := 3, pos := "ref.go:46", after := #[], guard := none }) (v := ?_) rfl (by kernel_rfl) (by kernel_rfl) (by kernel_rfl) (fun _ _ _ h => h) (Or.inl ⟨by rfl, ?_⟩) (by assumption) ?_
        rotate_left
        · intro wz hSw; (try dsimp only at hSw); go_simp; (try with_reducible rfl)
        try simp only [Act.put, List.setIfInBounds_toArray, List.set_cons_zero, List.set_cons_succ]
        refine wpAnyH_take (i := 10) (oi := { dst := some 33, op := Go.Op.slice 37 (Go.Operand.tmp 31) (some (Go.Operand.tmp 32)) none none, type := 37, pos := "ref.go:46", after := #[{ on := 8, ground := Go.Ground.data }, { on := 9, ground := Go.Ground.data }], guard := none }) (v := .slice none 0 0) rfl (by kernel_rfl) (by kernel_rfl) (by kernel_rfl) (fun _ _ _ h => h) (Or.inl ⟨by rfl, ?_⟩) (by assumption) ?_
        · intro wz hSw; (try dsimp only at hSw); go_simp; try (intro hbad; omega)
        try simp only [Act.put, List.setIfInBounds_toArray, List.set_cons_zero, List.set_cons_succ]
        refine wpAnyH_ready (rs := [4, 6]) (by kernel_rfl) (by simp) ?_
        refine (AllReadyH.cons (o := { dst := some 27, op := Go.Op.call { callee := Go.Callee.builtin Go.Builtin.append, args := #[Go.Operand.tmp 23, Go.Operand.tmp 26], argTypes := #[37, 37] }, type := 37, pos := "ref.go:46", after := #[{ on := 0, ground := Go.Ground.data }, { on := 3, ground := Go.Ground.data }], guard := none }) rfl (fun K hK => ?_) (AllReadyH.cons (o := { dst := some 29, op := Go.Op.buildSlice 37 1 #[(0, Go.Operand.tmp 28)], type := 37, pos := "ref.go:46", after := #[{ on := 5, ground := Go.Ground.data }], guard := none }) rfl (fun K hK => ?_) AllReadyH.nil))
        · refine step_append_Lr rfl (.tmp 23) (.tmp 26) rfl wd.drew (.slice none 0 0) [] (L.take 0) none 0 (by rfl) (by rw [hT]; rfl) HO0.out (HLQ.out.take 0) (fun _ => by simp [hLe]) (by simp <;> omega) ?_
          intro v1 w1 hO1 hk1
          have hS1 := HSK.out wd.drew w1 (fun k h1 _ => hk1 k h1 (by simp [Value.ownBlock])) hszd ⟨x0, x1, x2⟩
          refine hK.out _ _ hS1 (fun _ => ?_)
          clear hK K
          try simp only [Act.put, List.setIfInBounds_toArray, List.set_cons_zero, List.set_cons_succ]
          refine wpAnyH_ready (rs := [6]) (by kernel_rfl) (by simp) ?_
          refine (AllReadyH.cons (o := { dst := some 29, op := Go.Op.buildSlice 37 1 #[(0, Go.Operand.tmp 28)], type := 37, pos := "ref.go:46", after := #[{ on := 5, ground := Go.Ground.data }], guard := none }) rfl (fun K hK => ?_) AllReadyH.nil)
          refine step_sliceLr rfl (.tmp 28) rfl xk xv xp (by rfl) ?_
          have hb2 : Below w1.heap.size w1 (w1.alloc (.cells #[encStr xk, encStr xv, .int .i64 xp] 60)) := (Below.refl _ w1).alloc (Nat.le_refl _) _
          have hS2 := HSK.out w1 (w1.alloc (.cells #[encStr xk, encStr xv, .int .i64 xp] 60)) (fun k h1 _ => hb2.block k h1) (World.block_lt_of_cell? _ _ hS1.1) hS1
          refine hK.out _ _ hS2 (fun _ => ?_)
          clear hK K
          try simp only [Act.put, List.setIfInBounds_toArray, List.set_cons_zero, List.set_cons_succ]
          refine wpAnyH_ready (rs := [7]) (by kernel_rfl) (by simp) ?_
          refine (AllReadyH.cons (o := { dst := some 30, op := Go.Op.call { callee := Go.Callee.builtin Go.Builtin.append, args := #[Go.Operand.tmp 27, Go.Operand.tmp 29], argTypes := #[37, 37] }, type := 37, pos := "ref.go:46", after := #[{ on := 4, ground := Go.Ground.data }, { on := 6, ground := Go.Ground.data }, { on := 4, ground := Go.Ground.chain }], guard := none }) rfl (fun K hK => ?_) AllReadyH.nil)
          refine step_append_Lr rfl (.tmp 27) (.tmp 29) rfl wd.drew v1 ([] ++ L.take 0) [x] (some ⟨w1.heap.size, 0, none⟩) 1 (by rfl) (by rfl) (hO1.keep hb2) (HONE.out w1) (fun e => by cases e) (by simp <;> omega) ?_
          intro v3 w3 hO3 hk3
          have hS3 := HSK.out _ w3 (fun k h1 h2 => hk3 k h1 (fun e => by have := hO1.block k e; omega)) (World.block_lt_of_cell? _ _ hS2.1) hS2
          refine hK.out _ _ hS3 (fun _ => ?_)
          clear hK K
          try simp only [Act.put, List.setIfInBounds_toArray, List.set_cons_zero, List.set_cons_succ]
          refine wpAnyH_ready (rs := [11]) (by kernel_rfl) (by simp) ?_
          refine (AllReadyH.cons (o := { dst := some 34, op := Go.Op.call { callee := Go.Callee.builtin Go.Builtin.append, args := #[Go.Operand.tmp 30, Go.Operand.tmp 33], argTypes := #[37, 37] }, type := 37, pos := "ref.go:46", after := #[{ on := 7, ground := Go.Ground.data }, { on := 10, ground := Go.Ground.data }, { on := 7, ground := Go.Ground.chain }], guard := none }) rfl (fun K hK => ?_) AllReadyH.nil)
          refine step_append_Lr rfl (.tmp 30) (.tmp 33) rfl wd.drew v3 ([] ++ L.take 0 ++ [x]) (L.drop 0) none (0 - 0) (by rfl) (by rw [hD]; rfl) hO3 (HDR.out w3 (HLQ.out.below hO3.below)) (fun _ => by simp [hLe]) (by simp <;> omega) ?_
          intro v4 w4 hO4 hk4
          have hS4 := HSK.out _ w4 (fun k h1 h2 => hk4 k h1 (fun e => by have := hO3.block k e; omega)) (World.block_lt_of_cell? _ _ hS3.1) hS3
          refine hK.out _ _ hS4 (fun _ => ?_)
          clear hK K
          try simp only [Act.put, List.setIfInBounds_toArray, List.set_cons_zero, List.set_cons_succ]
          refine wpAnyH_take (i := 12) (oi := { dst := some 4, op := Go.Op.assign (Go.Operand.tmp 34), type := 37, pos := "ref.go:46", after := #[{ on := 11, ground := Go.Ground.data }, { on := 11, ground := Go.Ground.chain }, { on := 0, ground := Go.Ground.phase }, { on := 1, ground := Go.Ground.phase }, { on := 2, ground := Go.Ground.phase }, { on := 3, ground := Go.Ground.phase }, { on := 4, ground := Go.Ground.phase }, { on := 5, ground := Go.Ground.phase }, { on := 6, ground := Go.Ground.phase }, { on := 7, ground := Go.Ground.phase }, { on := 8, ground := Go.Ground.phase }, { on := 9, ground := Go.Ground.phase }, { on := 10, ground := Go.Ground.phase }, { on := 11, ground := Go.Ground.phase }], guard := none }) (v := ?_) rfl (by kernel_rfl) (by kernel_rfl) (by kernel_rfl) (fun _ _ _ h => h) (Or.inl ⟨by rfl, ?_⟩) (by assumption) ?_
          rotate_left
          · intro wz hSw; (try dsimp only at hSw); go_simp; (try with_reducible rfl)
          try simp only [Act.put, List.setIfInBounds_toArray, List.set_cons_zero, List.set_cons_succ]
          refine wpAnyH_done (by kernel_rfl) (NoPanic.normal ?_) _
          try simp only [Act.put, List.setIfInBounds_toArray, List.set_cons_zero, List.set_cons_succ]
          have hE : LrOw w w4 v4 (insK Lf.k x L) := by
            have h1 := hO4.mono HB2.out.drew
            rw [HIN.out]
            simpa using h1
          have HE : Hid (LrOw w w4 v4 (insK Lf.k x L)) := hE
          clear hE
          clear hO1 hO3 hO4 hk1 hk3 hk4 hS1 hS2 hS3 hS4 x0 x1 x2 hT hD hszd hHeld
          go_wp2
          all_goals go_ret
          all_goals first | exact ⟨_, rfl, HE.out⟩ | exact ⟨_, rfl, by have := HE.out; rw [hLe] at this; exact this⟩
        · refine step_sliceLr rfl (.tmp 28) rfl xk xv xp (by rfl) ?_
          have hb1 : Below wd.drew.heap.size wd.drew (wd.drew.alloc (.cells #[encStr xk, encStr xv, .int .i64 xp] 60)) := (Below.refl _ wd.drew).alloc (Nat.le_refl _) _
          have hS1 := HSK.out wd.drew (wd.drew.alloc (.cells #[encStr xk, encStr xv, .int .i64 xp] 60)) (fun k h1 _ => hb1.block k h1) hszd ⟨x0, x1, x2⟩
          have hlt1 : wd.drew.heap.size < (wd.drew.alloc (.cells #[encStr xk, encStr xv, .int .i64 xp] 60)).heap.size := by simp
          refine hK.out _ _ hS1 (fun _ => ?_)
          clear hK K
          try simp only [Act.put, List.setIfInBounds_toArray, List.set_cons_zero, List.set_cons_succ]
          refine wpAnyH_ready (rs := [4]) (by kernel_rfl) (by simp) ?_
          refine (AllReadyH.cons (o := { dst := some 27, op := Go.Op.call { callee := Go.Callee.builtin Go.Builtin.append, args := #[Go.Operand.tmp 23, Go.Operand.tmp 26], argTypes := #[37, 37] }, type := 37, pos := "ref.go:46", after := #[{ on := 0, ground := Go.Ground.data }, { on := 3, ground := Go.Ground.data }], guard := none }) rfl (fun K hK => ?_) AllReadyH.nil)
          refine step_append_Lr rfl (.tmp 23) (.tmp 26) rfl wd.drew (.slice none 0 0) [] (L.take 0) none 0 (by rfl) (by rw [hT]; rfl) (HO0.out.keep hb1) ((HLQ.out.below hb1).take 0) (fun _ => by simp [hLe]) (by simp <;> omega) ?_
          intro v1 w2 hO1 hk1
          have hS2 := HSK.out (wd.drew.alloc (.cells #[encStr xk, encStr xv, .int .i64 xp] 60)) w2 (fun k h1 _ => hk1 k h1 (by simp [Value.ownBlock])) (World.block_lt_of_cell? _ _ hS1.1) hS1
          have hone : LrAt w2 (some ⟨wd.drew.heap.size, 0, none⟩) [x] := (HONE.out wd.drew).keep (fun a e _ => by cases e; exact hk1 _ hlt1 (by simp [Value.ownBlock]))
          refine hK.out _ _ hS2 (fun _ => ?_)
          clear hK K
          try simp only [Act.put, List.setIfInBounds_toArray, List.set_cons_zero, List.set_cons_succ]
          refine wpAnyH_ready (rs := [7]) (by kernel_rfl) (by simp) ?_
          refine (AllReadyH.cons (o := { dst := some 30, op := Go.Op.call { callee := Go.Callee.builtin Go.Builtin.append, args := #[Go.Operand.tmp 27, Go.Operand.tmp 29], argTypes := #[37, 37] }, type := 37, pos := "ref.go:46", after := #[{ on := 4, ground := Go.Ground.data }, { on := 6, ground := Go.Ground.data }, { on := 4, ground := Go.Ground.chain }], guard := none }) rfl (fun K hK => ?_) AllReadyH.nil)
          refine step_append_Lr rfl (.tmp 27) (.tmp 29) rfl wd.drew v1 ([] ++ L.take 0) [x] (some ⟨wd.drew.heap.size, 0, none⟩) 1 (by rfl) (by rfl) hO1 hone (fun e => by cases e) (by simp <;> omega) ?_
          intro v3 w3 hO3 hk3
          have hS3 := HSK.out _ w3 (fun k h1 h2 => hk3 k h1 (fun e => by have := hO1.block k e; omega)) (World.block_lt_of_cell? _ _ hS2.1) hS2
          refine hK.out _ _ hS3 (fun _ => ?_)
          clear hK K
          try simp only [Act.put, List.setIfInBounds_toArray, List.set_cons_zero, List.set_cons_succ]
          refine wpAnyH_ready (rs := [11]) (by kernel_rfl) (by simp) ?_
          refine (AllReadyH.cons (o := { dst := some 34, op := Go.Op.call { callee := Go.Callee.builtin Go.Builtin.append, args := #[Go.Operand.tmp 30, Go.Operand.tmp 33], argTypes := #[37, 37] }, type := 37, pos := "ref.go:46", after := #[{ on := 7, ground := Go.Ground.data }, { on := 10, ground := Go.Ground.data }, { on := 7, ground := Go.Ground.chain }], guard := none }) rfl (fun K hK => ?_) AllReadyH.nil)
          refine step_append_Lr rfl (.tmp 30) (.tmp 33) rfl wd.drew v3 ([] ++ L.take 0 ++ [x]) (L.drop 0) none (0 - 0) (by rfl) (by rw [hD]; rfl) hO3 (HDR.out w3 (HLQ.out.below hO3.below)) (fun _ => by simp [hLe]) (by simp <;> omega) ?_
          intro v4 w4 hO4 hk4
          have hS4 := HSK.out _ w4 (fun k h1 h2 => hk4 k h1 (fun e => by have := hO3.block k e; omega)) (World.block_lt_of_cell? _ _ hS3.1) hS3
          refine hK.out _ _ hS4 (fun _ => ?_)
          clear hK K
          try simp only [Act.put, List.setIfInBounds_toArray, List.set_cons_zero, List.set_cons_succ]
          refine wpAnyH_take (i := 12) (oi := { dst := some 4, op := Go.Op.assign (Go.Operand.tmp 34), type := 37, pos := "ref.go:46", after := #[{ on := 11, ground := Go.Ground.data }, { on := 11, ground := Go.Ground.chain }, { on := 0, ground := Go.Ground.phase }, { on := 1, ground := Go.Ground.phase }, { on := 2, ground := Go.Ground.phase }, { on := 3, ground := Go.Ground.phase }, { on := 4, ground := Go.Ground.phase }, { on := 5, ground := Go.Ground.phase }, { on := 6, ground := Go.Ground.phase }, { on := 7, ground := Go.Ground.phase }, { on := 8, ground := Go.Ground.phase }, { on := 9, ground := Go.Ground.phase }, { on := 10, ground := Go.Ground.phase }, { on := 11, ground := Go.Ground.phase }], guard := none }) (v := ?_) rfl (by kernel_rfl) (by kernel_rfl) (by kernel_rfl) (fun _ _ _ h => h) (Or.inl ⟨by rfl, ?_⟩) (by assumption) ?_
          rotate_left
          · intro wz hSw; (try dsimp only at hSw); go_simp; (try with_reducible rfl)
          try simp only [Act.put, List.setIfInBounds_toArray, List.set_cons_zero, List.set_cons_succ]
          refine wpAnyH_done (by kernel_rfl) (NoPanic.normal ?_) _
          try simp only [Act.put, List.setIfInBounds_toArray, List.set_cons_zero, List.set_cons_succ]
          have hE : LrOw w w4 v4 (insK Lf.k x L) := by
            have h1 := hO4.mono HB2.out.drew
            rw [HIN.out]
            simpa using h1
          have HE : Hid (LrOw w w4 v4 (insK Lf.k x L)) := hE
          clear hE
          clear hO1 hO3 hO4 hk1 hk3 hk4 hS1 hS2 hS3 hS4 x0 x1 x2 hT hD hszd hHeld
          go_wp2
          all_goals go_ret
          all_goals first | exact ⟨_, rfl, HE.out⟩ | exact ⟨_, rfl, by have := HE.out; rw [hLe] at this; exact this⟩

      | some adr =>
        obtain ⟨bb, off, rfl⟩ := hsp adr rfl
        generalize wr.drew = wd at *
        have x0 : wd.drew.cell? ⟨w.heap.size, 0, none⟩ = some (encStr xk) := by
          have h1 : wd.drew.cell? ⟨w.heap.size, 0, none⟩ = wd.cell? ⟨w.heap.size, 0, none⟩ := World.cell?_of_block (a := ⟨w.heap.size, 0, none⟩) rfl
          rw [h1, cell_of_row _ _ 0 _ _ _ HBX.out]; simp [HX.out.1]
        have x1 : wd.drew.cell? ⟨w.heap.size, 1, none⟩ = some (encStr xv) := by
          have h1 : wd.drew.cell? ⟨w.heap.size, 1, none⟩ = wd.cell? ⟨w.heap.size, 1, none⟩ := World.cell?_of_block (a := ⟨w.heap.size, 1, none⟩) rfl
          rw [h1, cell_of_row _ _ 1 _ _ _ HBX.out]; simp [HX.out.2.1]
        have x2 : wd.drew.cell? ⟨w.heap.size, 2, none⟩ = some (.int .i64 xp) := by
          have h1 : wd.drew.cell? ⟨w.heap.size, 2, none⟩ = wd.cell? ⟨w.heap.size, 2, none⟩ := World.cell?_of_block (a := ⟨w.heap.size, 2, none⟩) rfl
          rw [h1, cell_of_row _ _ 2 _ _ _ HBX.out]; simp [HX.out.2.2]
        have hszd : w.heap.size < wd.drew.heap.size := World.block_lt_of_cell? _ _ x0
        have hT : (L.take i).length = i := by rw [List.length_take]; omega
        have hD : (L.drop i).length = L.length - i := by simp 
        have HO0 : Hid (LrOw wd.drew wd.drew (.slice none 0 0) []) := LrOw.nil' (Below.refl _ _)
        have HLQ : Hid (LrAt wd.drew (some ⟨bb, off, none⟩) L) := HL.out.below HB2.out.drew
        have HDR : Hid (∀ W : World, LrAt W (some ⟨bb, off, none⟩) L → LrAt W (if cap = i then some ⟨bb, off, none⟩ else some ⟨bb, off + i * 3, none⟩) (L.drop i)) := fun W h => by split; exact (fun hn => by rw [List.length_drop] at hn; omega); exact h.drop i
        have HSK : Hid (∀ W W' : World, (∀ k, k < W.heap.size → k ≤ w.heap.size → W'.heap[k]? = W.heap[k]?) → w.heap.size < W.heap.size → (W.cell? ⟨w.heap.size, 0, none⟩ = some (encStr xk) ∧ W.cell? ⟨w.heap.size, 1, none⟩ = some (encStr xv) ∧ W.cell? ⟨w.heap.size, 2, none⟩ = some (.int .i64 xp)) → (W'.cell? ⟨w.heap.size, 0, none⟩ = some (encStr xk) ∧ W'.cell? ⟨w.heap.size, 1, none⟩ = some (encStr xv) ∧ W'.cell? ⟨w.heap.size, 2, none⟩ = some (.int .i64 xp))) := fun W W' hk hs hc => by
          have h1 := hk w.heap.size hs (Nat.le_refl _)
          exact ⟨by rw [World.cell?_of_block (a := ⟨w.heap.size, 0, none⟩) h1]; exact hc.1, by rw [World.cell?_of_block (a := ⟨w.heap.size, 1, none⟩) h1]; exact hc.2.1, by rw [World.cell?_of_block (a := ⟨w.heap.size, 2, none⟩) h1]; exact hc.2.2⟩
        have HONE : Hid (∀ W : World, LrAt (W.alloc (.cells #[encStr xk, encStr xv, .int .i64 xp] 60)) (some ⟨W.heap.size, 0, none⟩) [x]) := fun W => by
          have := LrAt.one x W
          rwa [HX.out.1, HX.out.2.1, HX.out.2.2] at this
        go_upto_region 5 with fail
        refine wp_region_noPanic ?_
        refine wp_region_held_drew (S := fun w' => w'.cell? ⟨w.heap.size, 0, none⟩ = some (encStr xk) ∧ w'.cell? ⟨w.heap.size, 1, none⟩ = some (encStr xv) ∧ w'.cell? ⟨w.heap.size, 2, none⟩ = some (.int .i64 xp)) (by kernel_rfl) ⟨x0, x1, x2⟩ (fun hHeld => ?_)
        refine wpAnyH_take (i := 0) (oi := { dst := some 23, op := Go.Op.move (Go.Operand.tmp 6), type := 37, pos := "ref.go:46", after := #[], guard := none }) (v := ?_) rfl (by kernel_rfl) (by kernel_rfl) (by kernel_rfl) (fun _ _ _ h => h) (Or.inl ⟨by rfl, ?_⟩) (by assumption) ?_
        rotate_left
        · intro wz hSw; (try dsimp only at hSw); go_simp; (try with_reducible rfl)
        try simp only [Act.put, List.setIfInBounds_toArray, List.set_cons_zero, List.set_cons_succ]
        refine wpAnyH_take (i := 1) (oi := { dst := some 24, op := Go.Op.move (Go.Operand.tmp 0), type := 37, pos := "ref.go:46", after := #[], guard := none }) (v := ?_) rfl (by kernel_rfl) (by kernel_rfl) (by kernel_rfl) (fun _ _ _ h => h) (Or.inl ⟨by rfl, ?_⟩) (by assumption) ?_
        rotate_left
        · intro wz hSw; (try dsimp only at hSw); go_simp; (try with_reducible rfl)
        try simp only [Act.put, List.setIfInBounds_toArray, List.set_cons_zero, List.set_cons_succ]
        refine wpAnyH_take (i := 2) (oi := { dst := some 25, op := Go.Op.move (Go.Operand.tmp 5), type := 3, pos := "ref.go:46", after := #[], guard := none }) (v := ?_) rfl (by kernel_rfl) (by kernel_rfl) (by kernel_rfl) (fun _ _ _ h => h) (Or.inl ⟨by rfl, ?_⟩) (by assumption) ?_
        rotate_left
        · intro wz hSw; (try dsimp only at hSw); go_simp; (try with_reducible rfl)
        try simp only [Act.put, List.setIfInBounds_toArray, List.set_cons_zero, List.set_cons_succ]
        refine wpAnyH_take (i := 3) (oi := { dst := some 26, op := Go.Op.slice 37 (Go.Operand.tmp 24) none (some (Go.Operand.tmp 25)) none, type := 37, pos := "ref.go:46", after := #[{ on := 1, ground := Go.Ground.data }, { on := 2, ground := Go.Ground.data }], guard := none }) (v := .slice (some ⟨bb, off, none⟩) i cap) rfl (by kernel_rfl) (by kernel_rfl) (by kernel_rfl) (fun _ _ _ h => h) (Or.inl ⟨by rfl, ?_⟩) (by assumption) ?_
        · intro wz hSw; (try dsimp only at hSw); go_simp; try (intro hbad; omega)
        try simp only [Act.put, List.setIfInBounds_toArray, List.set_cons_zero, List.set_cons_succ]
        refine wpAnyH_take (i := 5) (oi := { dst := some 28, op := Go.Op.load 60 (Go.Operand.tmp 3), type := 60, pos := "ref.go:46", after := #[], guard := none }) (v := .agg #[encStr xk, encStr xv, .int .i64 xp]) rfl (by kernel_rfl) (by kernel_rfl) (by kernel_rfl) (fun _ _ _ h => h) (Or.inl ⟨by rfl, ?_⟩) (by assumption) ?_
        · intro wz hSw; (try dsimp only at hSw); have h1 := hSw.1; have h2 := hSw.2.1; have h3 := hSw.2.2; go_simp; try rfl
        try simp only [Act.put, List.setIfInBounds_toArray, List.set_cons_zero, List.set_cons_succ]
        refine wpAnyH_take (i := 8) (oi := { dst := some 31, op := Go.Op.move (Go.Operand.tmp 0), type := 37, pos := "ref.go:46", after := #[], guard := none }) (v := ?_) rfl (by kernel_rfl) (by kernel_rfl) (by kernel_rfl) (fun _ _ _ h => h) (Or.inl ⟨by rfl, ?_⟩) (by assumption) ?_
        rotate_left
        · intro wz hSw; (try dsimp only at hSw); go_simp; (try with_reducible rfl)
        try simp only [Act.put, List.setIfInBounds_toArray, List.set_cons_zero, List.set_cons_succ]
        refine wpAnyH_take (i := 9) (oi := { dst := some 32, op := Go.Op.move (Go.Operand.tmp 5), type := 3, pos := "ref.go:46", after := #[], guard := none }) (v := ?_) rfl (by kernel_rfl) (by kernel_rfl) (by kernel_rfl) (fun _ _ _ h => h) (Or.inl ⟨by rfl, ?_⟩) (by assumption) ?_
        rotate_left
        · intro wz hSw; (try dsimp only at hSw); go_simp; (try with_reducible rfl)
        try simp only [Act.put, List.setIfInBounds_toArray, List.set_cons_zero, List.set_cons_succ]
        refine wpAnyH_take (i := 10) (oi := { dst := some 33, op := Go.Op.slice 37 (Go.Operand.tmp 31) (some (Go.Operand.tmp 32)) none none, type := 37, pos := "ref.go:46", after := #[{ on := 8, ground := Go.Ground.data }, { on := 9, ground := Go.Ground.data }], guard := none }) (v := .slice (if cap = i then some ⟨bb, off, none⟩ else some ⟨bb, off + i * 3, none⟩) (L.length - i) (cap - i)) rfl (by kernel_rfl) (by kernel_rfl) (by kernel_rfl) (fun _ _ _ h => h) (Or.inl ⟨by rfl, ?_⟩) (by assumption) ?_
        · intro wz hSw; (try dsimp only at hSw); go_simp; try (intro hbad; omega)
        try simp only [Act.put, List.setIfInBounds_toArray, List.set_cons_zero, List.set_cons_succ]
        refine wpAnyH_ready (rs := [4, 6]) (by kernel_rfl) (by simp) ?_
        refine (AllReadyH.cons (o := { dst := some 27, op := Go.Op.call { callee := Go.Callee.builtin Go.Builtin.append, args := #[Go.Operand.tmp 23, Go.Operand.tmp 26], argTypes := #[37, 37] }, type := 37, pos := "ref.go:46", after := #[{ on := 0, ground := Go.Ground.data }, { on := 3, ground := Go.Ground.data }], guard := none }) rfl (fun K hK => ?_) (AllReadyH.cons (o := { dst := some 29, op := Go.Op.buildSlice 37 1 #[(0, Go.Operand.tmp 28)], type := 37, pos := "ref.go:46", after := #[{ on := 5, ground := Go.Ground.data }], guard := none }) rfl (fun K hK => ?_) AllReadyH.nil))
        · refine step_append_Lr rfl (.tmp 23) (.tmp 26) rfl wd.drew (.slice none 0 0) [] (L.take i) (some ⟨bb, off, none⟩) cap (by rfl) (by rw [hT]; rfl) HO0.out (HLQ.out.take i) (fun e => by cases e) (by simp <;> omega) ?_
          intro v1 w1 hO1 hk1
          have hS1 := HSK.out wd.drew w1 (fun k h1 _ => hk1 k h1 (by simp [Value.ownBlock])) hszd ⟨x0, x1, x2⟩
          refine hK.out _ _ hS1 (fun _ => ?_)
          clear hK K
          try simp only [Act.put, List.setIfInBounds_toArray, List.set_cons_zero, List.set_cons_succ]
          refine wpAnyH_ready (rs := [6]) (by kernel_rfl) (by simp) ?_
          refine (AllReadyH.cons (o := { dst := some 29, op := Go.Op.buildSlice 37 1 #[(0, Go.Operand.tmp 28)], type := 37, pos := "ref.go:46", after := #[{ on := 5, ground := Go.Ground.data }], guard := none }) rfl (fun K hK => ?_) AllReadyH.nil)
          refine step_sliceLr rfl (.tmp 28) rfl xk xv xp (by rfl) ?_
          have hb2 : Below w1.heap.size w1 (w1.alloc (.cells #[encStr xk, encStr xv, .int .i64 xp] 60)) := (Below.refl _ w1).alloc (Nat.le_refl _) _
          have hS2 := HSK.out w1 (w1.alloc (.cells #[encStr xk, encStr xv, .int .i64 xp] 60)) (fun k h1 _ => hb2.block k h1) (World.block_lt_of_cell? _ _ hS1.1) hS1
          refine hK.out _ _ hS2 (fun _ => ?_)
          clear hK K
          try simp only [Act.put, List.setIfInBounds_toArray, List.set_cons_zero, List.set_cons_succ]
          refine wpAnyH_ready (rs := [7]) (by kernel_rfl) (by simp) ?_
          refine (AllReadyH.cons (o := { dst := some 30, op := Go.Op.call { callee := Go.Callee.builtin Go.Builtin.append, args := #[Go.Operand.tmp 27, Go.Operand.tmp 29], argTypes := #[37, 37] }, type := 37, pos := "ref.go:46", after := #[{ on := 4, ground := Go.Ground.data }, { on := 6, ground := Go.Ground.data }, { on := 4, ground := Go.Ground.chain }], guard := none }) rfl (fun K hK => ?_) AllReadyH.nil)
          refine step_append_Lr rfl (.tmp 27) (.tmp 29) rfl wd.drew v1 ([] ++ L.take i) [x] (some ⟨w1.heap.size, 0, none⟩) 1 (by rfl) (by rfl) (hO1.keep hb2) (HONE.out w1) (fun e => by cases e) (by simp <;> omega) ?_
          intro v3 w3 hO3 hk3
          have hS3 := HSK.out _ w3 (fun k h1 h2 => hk3 k h1 (fun e => by have := hO1.block k e; omega)) (World.block_lt_of_cell? _ _ hS2.1) hS2
          refine hK.out _ _ hS3 (fun _ => ?_)
          clear hK K
          try simp only [Act.put, List.setIfInBounds_toArray, List.set_cons_zero, List.set_cons_succ]
          refine wpAnyH_ready (rs := [11]) (by kernel_rfl) (by simp) ?_
          refine (AllReadyH.cons (o := { dst := some 34, op := Go.Op.call { callee := Go.Callee.builtin Go.Builtin.append, args := #[Go.Operand.tmp 30, Go.Operand.tmp 33], argTypes := #[37, 37] }, type := 37, pos := "ref.go:46", after := #[{ on := 7, ground := Go.Ground.data }, { on := 10, ground := Go.Ground.data }, { on := 7, ground := Go.Ground.chain }], guard := none }) rfl (fun K hK => ?_) AllReadyH.nil)
          refine step_append_Lr rfl (.tmp 30) (.tmp 33) rfl wd.drew v3 ([] ++ L.take i ++ [x]) (L.drop i) (if cap = i then some ⟨bb, off, none⟩ else some ⟨bb, off + i * 3, none⟩) (cap - i) (by rfl) (by rw [hD]; rfl) hO3 (HDR.out w3 (HLQ.out.below hO3.below)) (fun e => by split at e <;> cases e) (by simp <;> omega) ?_
          intro v4 w4 hO4 hk4
          have hS4 := HSK.out _ w4 (fun k h1 h2 => hk4 k h1 (fun e => by have := hO3.block k e; omega)) (World.block_lt_of_cell? _ _ hS3.1) hS3
          refine hK.out _ _ hS4 (fun _ => ?_)
          clear hK K
          try simp only [Act.put, List.setIfInBounds_toArray, List.set_cons_zero, List.set_cons_succ]
          refine wpAnyH_take (i := 12) (oi := { dst := some 4, op := Go.Op.assign (Go.Operand.tmp 34), type := 37, pos := "ref.go:46", after := #[{ on := 11, ground := Go.Ground.data }, { on := 11, ground := Go.Ground.chain }, { on := 0, ground := Go.Ground.phase }, { on := 1, ground := Go.Ground.phase }, { on := 2, ground := Go.Ground.phase }, { on := 3, ground := Go.Ground.phase }, { on := 4, ground := Go.Ground.phase }, { on := 5, ground := Go.Ground.phase }, { on := 6, ground := Go.Ground.phase }, { on := 7, ground := Go.Ground.phase }, { on := 8, ground := Go.Ground.phase }, { on := 9, ground := Go.Ground.phase }, { on := 10, ground := Go.Ground.phase }, { on := 11, ground := Go.Ground.phase }], guard := none }) (v := ?_) rfl (by kernel_rfl) (by kernel_rfl) (by kernel_rfl) (fun _ _ _ h => h) (Or.inl ⟨by rfl, ?_⟩) (by assumption) ?_
          rotate_left
          · intro wz hSw; (try dsimp only at hSw); go_simp; (try with_reducible rfl)
          try simp only [Act.put, List.setIfInBounds_toArray, List.set_cons_zero, List.set_cons_succ]
          refine wpAnyH_done (by kernel_rfl) (NoPanic.normal ?_) _
          try simp only [Act.put, List.setIfInBounds_toArray, List.set_cons_zero, List.set_cons_succ]
          have hE : LrOw w w4 v4 (insK Lf.k x L) := by
            have h1 := hO4.mono HB2.out.drew
            rw [HIN.out]
            simpa using h1
          have HE : Hid (LrOw w w4 v4 (insK Lf.k x L)) := hE
          clear hE
          clear hO1 hO3 hO4 hk1 hk3 hk4 hS1 hS2 hS3 hS4 x0 x1 x2 hT hD hszd hHeld
          go_wp2
          all_goals go_ret
          all_goals first | exact ⟨_, rfl, HE.out⟩ | exact ⟨_, rfl, by have := HE.out; rw [hLe] at this; exact this⟩
        · refine step_sliceLr rfl (.tmp 28) rfl xk xv xp (by rfl) ?_
          have hb1 : Below wd.drew.heap.size wd.drew (wd.drew.alloc (.cells #[encStr xk, encStr xv, .int .i64 xp] 60)) := (Below.refl _ wd.drew).alloc (Nat.le_refl _) _
          have hS1 := HSK.out wd.drew (wd.drew.alloc (.cells #[encStr xk, encStr xv, .int .i64 xp] 60)) (fun k h1 _ => hb1.block k h1) hszd ⟨x0, x1, x2⟩
          have hlt1 : wd.drew.heap.size < (wd.drew.alloc (.cells #[encStr xk, encStr xv, .int .i64 xp] 60)).heap.size := by simp
          refine hK.out _ _ hS1 (fun _ => ?_)
          clear hK K
          try simp only [Act.put, List.setIfInBounds_toArray, List.set_cons_zero, List.set_cons_succ]
          refine wpAnyH_ready (rs := [4]) (by kernel_rfl) (by simp) ?_
          refine (AllReadyH.cons (o := { dst := some 27, op := Go.Op.call { callee := Go.Callee.builtin Go.Builtin.append, args := #[Go.Operand.tmp 23, Go.Operand.tmp 26], argTypes := #[37, 37] }, type := 37, pos := "ref.go:46", after := #[{ on := 0, ground := Go.Ground.data }, { on := 3, ground := Go.Ground.data }], guard := none }) rfl (fun K hK => ?_) AllReadyH.nil)
          refine step_append_Lr rfl (.tmp 23) (.tmp 26) rfl wd.drew (.slice none 0 0) [] (L.take i) (some ⟨bb, off, none⟩) cap (by rfl) (by rw [hT]; rfl) (HO0.out.keep hb1) ((HLQ.out.below hb1).take i) (fun e => by cases e) (by simp <;> omega) ?_
          intro v1 w2 hO1 hk1
          have hS2 := HSK.out (wd.drew.alloc (.cells #[encStr xk, encStr xv, .int .i64 xp] 60)) w2 (fun k h1 _ => hk1 k h1 (by simp [Value.ownBlock])) (World.block_lt_of_cell? _ _ hS1.1) hS1
          have hone : LrAt w2 (some ⟨wd.drew.heap.size, 0, none⟩) [x] := (HONE.out wd.drew).keep (fun a e _ => by cases e; exact hk1 _ hlt1 (by simp [Value.ownBlock]))
          refine hK.out _ _ hS2 (fun _ => ?_)
          clear hK K
          try simp only [Act.put, List.setIfInBounds_toArray, List.set_cons_zero, List.set_cons_succ]
          refine wpAnyH_ready (rs := [7]) (by kernel_rfl) (by simp) ?_
          refine (AllReadyH.cons (o := { dst := some 30, op := Go.Op.call { callee := Go.Callee.builtin Go.Builtin.append, args := #[Go.Operand.tmp 27, Go.Operand.tmp 29], argTypes := #[37, 37] }, type := 37, pos := "ref.go:46", after := #[{ on := 4, ground := Go.Ground.data }, { on := 6, ground := Go.Ground.data }, { on := 4, ground := Go.Ground.chain }], guard := none }) rfl (fun K hK => ?_) AllReadyH.nil)
          refine step_append_Lr rfl (.tmp 27) (.tmp 29) rfl wd.drew v1 ([] ++ L.take i) [x] (some ⟨wd.drew.heap.size, 0, none⟩) 1 (by rfl) (by rfl) hO1 hone (fun e => by cases e) (by simp <;> omega) ?_
          intro v3 w3 hO3 hk3
          have hS3 := HSK.out _ w3 (fun k h1 h2 => hk3 k h1 (fun e => by have := hO1.block k e; omega)) (World.block_lt_of_cell? _ _ hS2.1) hS2
          refine hK.out _ _ hS3 (fun _ => ?_)
          clear hK K
          try simp only [Act.put, List.setIfInBounds_toArray, List.set_cons_zero, List.set_cons_succ]
          refine wpAnyH_ready (rs := [11]) (by kernel_rfl) (by simp) ?_
          refine (AllReadyH.cons (o := { dst := some 34, op := Go.Op.call { callee := Go.Callee.builtin Go.Builtin.append, args := #[Go.Operand.tmp 30, Go.Operand.tmp 33], argTypes := #[37, 37] }, type := 37, pos := "ref.go:46", after := #[{ on := 7, ground := Go.Ground.data }, { on := 10, ground := Go.Ground.data }, { on := 7, ground := Go.Ground.chain }], guard := none }) rfl (fun K hK => ?_) AllReadyH.nil)
          refine step_append_Lr rfl (.tmp 30) (.tmp 33) rfl wd.drew v3 ([] ++ L.take i ++ [x]) (L.drop i) (if cap = i then some ⟨bb, off, none⟩ else some ⟨bb, off + i * 3, none⟩) (cap - i) (by rfl) (by rw [hD]; rfl) hO3 (HDR.out w3 (HLQ.out.below hO3.below)) (fun e => by split at e <;> cases e) (by simp <;> omega) ?_
          intro v4 w4 hO4 hk4
          have hS4 := HSK.out _ w4 (fun k h1 h2 => hk4 k h1 (fun e => by have := hO3.block k e; omega)) (World.block_lt_of_cell? _ _ hS3.1) hS3
          refine hK.out _ _ hS4 (fun _ => ?_)
          clear hK K
          try simp only [Act.put, List.setIfInBounds_toArray, List.set_cons_zero, List.set_cons_succ]
          refine wpAnyH_take (i := 12) (oi := { dst := some 4, op := Go.Op.assign (Go.Operand.tmp 34), type := 37, pos := "ref.go:46", after := #[{ on := 11, ground := Go.Ground.data }, { on := 11, ground := Go.Ground.chain }, { on := 0, ground := Go.Ground.phase }, { on := 1, ground := Go.Ground.phase }, { on := 2, ground := Go.Ground.phase }, { on := 3, ground := Go.Ground.phase }, { on := 4, ground := Go.Ground.phase }, { on := 5, ground := Go.Ground.phase }, { on := 6, ground := Go.Ground.phase }, { on := 7, ground := Go.Ground.phase }, { on := 8, ground := Go.Ground.phase }, { on := 9, ground := Go.Ground.phase }, { on := 10, ground := Go.Ground.phase }, { on := 11, ground := Go.Ground.phase }], guard := none }) (v := ?_) rfl (by kernel_rfl) (by kernel_rfl) (by kernel_rfl) (fun _ _ _ h => h) (Or.inl ⟨by rfl, ?_⟩) (by assumption) ?_
          rotate_left
          · intro wz hSw; (try dsimp only at hSw); go_simp; (try with_reducible rfl)
          try simp only [Act.put, List.setIfInBounds_toArray, List.set_cons_zero, List.set_cons_succ]
          refine wpAnyH_done (by kernel_rfl) (NoPanic.normal ?_) _
          try simp only [Act.put, List.setIfInBounds_toArray, List.set_cons_zero, List.set_cons_succ]
          have hE : LrOw w w4 v4 (insK Lf.k x L) := by
            have h1 := hO4.mono HB2.out.drew
            rw [HIN.out]
            simpa using h1
          have HE : Hid (LrOw w w4 v4 (insK Lf.k x L)) := hE
          clear hE
          clear hO1 hO3 hO4 hk1 hk3 hk4 hS1 hS2 hS3 hS4 x0 x1 x2 hT hD hszd hHeld
          go_wp2
          all_goals go_ret
          all_goals first | exact ⟨_, rfl, HE.out⟩ | exact ⟨_, rfl, by have := HE.out; rw [hLe] at this; exact this⟩

end Go.Proofs.YtmekplaonlpfkaaGreatDoor
