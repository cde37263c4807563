/- build: the closure that lays an output. -/
import Derived.Test.YtbafipjiaeoinaaGreatDoorOwnShelf21
namespace Go.Proofs.YtbafipjiaeoinaaGreatDoor
open Go.RowKit

def to0 : To := ⟨0, 0, fun _ => default⟩
theorem infoTo : (Tryz.prog.info? 95).map (fun i => (i.zero, i.size, i.bytes)) = some (some (.agg #[.int .i64 0, .slice none 0 0]), 2, 32) := by kernel_rfl
theorem infoPl : (Tryz.prog.info? 71).map (fun i => (i.zero, i.size, i.bytes)) = some (some (.agg #[.int .i64 0, .int .i64 0]), 2, 16) := by kernel_rfl
theorem slice_to (am : Int) (ca : Option Addr) (n cc : Nat) (w : World) : (Instr.buildSlice 48 1 #[(0, .agg #[.int .i64 am, .slice ca n cc])]).run Tryz.prog w = .ok (.slice (some ⟨w.heap.size, 0, none⟩) 1 1) (w.alloc (.cells #[.int .i64 am, .slice ca n cc] 95)) := by kernel_rfl
theorem slice_pl (x y : Int) (w : World) : (Instr.buildSlice 61 1 #[(0, .agg #[.int .i64 x, .int .i64 y])]).run Tryz.prog w = .ok (.slice (some ⟨w.heap.size, 0, none⟩) 1 1) (w.alloc (.cells #[.int .i64 x, .int .i64 y] 71)) := by kernel_rfl
theorem run_append_To (w : World) (B q : Nat) (ty : TypeId) (v : Value) (i : Nat) (xs : List Value) (am : Int) (ca : Option Addr) (n cc : Nat) (hown : w.ownsRow B 95 2 v i xs) (hB : B ≤ w.heap.size) (hq : w.heap[q]? = some (.cells #[.int .i64 am, .slice ca n cc] 95 (0, 0))) (hi : i ≤ 1000000) :
    ∃ va vc w1, (Builtin.append_ #[48, 48] ty #[v, .slice (some ⟨q, 0, none⟩) 1 1]).run Tryz.prog w = .ok (.slice va (i + 1) vc) w1 ∧ w1.ownsRow B 95 2 (.slice va (i + 1) vc) (i + 1) (xs ++ [.int .i64 am, .slice ca n cc]) ∧ w.grownBy w1 v.ownBlock ∧ ((Value.slice va (i + 1) vc).ownBlock = v.ownBlock ∨ (Value.slice va (i + 1) vc).ownBlock = some w.heap.size) := by
  obtain ⟨i0, hi0, hz0, hz1, hz2⟩ := info_parts infoTo
  obtain ⟨v', w1, hr, h2, h3, _, h5⟩ := run_append_own_at (P := Tryz.prog) w B 48 ty 95 i0 (.agg #[.int .i64 0, .slice none 0 0]) 2 32 Tryz.underlying48 hi0 hz0 hz1 hz2 rfl (by omega) v i xs hown ⟨q, 0, none⟩ 1 1 [.int .i64 am, .slice ca n cc] rfl (fun j u hj => by
      rw [Addr.add_lit, Nat.zero_add, cell_of_row _ _ j _ _ _ hq]
      simpa using hj) (fun u hu => by simp at hu; rcases hu with rfl | rfl <;> rfl) (by unfold maxLen; omega) (by omega) hB
  obtain ⟨va, vc, rfl, _, _⟩ := own_frmV h2
  exact ⟨va, vc, w1, hr, h2, h3, h5⟩
theorem run_append_Pl (w : World) (B q : Nat) (ty : TypeId) (v : Value) (i : Nat) (xs : List Value) (x y : Int) (hown : w.ownsRow B 71 2 v i xs) (hB : B ≤ w.heap.size) (hq : w.heap[q]? = some (.cells #[.int .i64 x, .int .i64 y] 71 (0, 0))) (hi : i ≤ 1000000) :
    ∃ va vc w1, (Builtin.append_ #[61, 61] ty #[v, .slice (some ⟨q, 0, none⟩) 1 1]).run Tryz.prog w = .ok (.slice va (i + 1) vc) w1 ∧ w1.ownsRow B 71 2 (.slice va (i + 1) vc) (i + 1) (xs ++ [.int .i64 x, .int .i64 y]) ∧ w.grownBy w1 v.ownBlock ∧ ((Value.slice va (i + 1) vc).ownBlock = v.ownBlock ∨ (Value.slice va (i + 1) vc).ownBlock = some w.heap.size) := by
  obtain ⟨i0, hi0, hz0, hz1, hz2⟩ := info_parts infoPl
  obtain ⟨v', w1, hr, h2, h3, _, h5⟩ := run_append_own_at (P := Tryz.prog) w B 61 ty 71 i0 (.agg #[.int .i64 0, .int .i64 0]) 2 16 Tryz.underlying61 hi0 hz0 hz1 hz2 rfl (by omega) v i xs hown ⟨q, 0, none⟩ 1 1 [.int .i64 x, .int .i64 y] rfl (fun j u hj => by
      rw [Addr.add_lit, Nat.zero_add, cell_of_row _ _ j _ _ _ hq]
      simpa using hj) (fun u hu => by simp at hu; rcases hu with rfl | rfl <;> rfl) (by unfold maxLen; omega) (by omega) hB
  obtain ⟨va, vc, rfl, _, _⟩ := own_frmV h2
  exact ⟨va, vc, w1, hr, h2, h3, h5⟩
section
variable {ops : Array Oper} {rest : List Oper} {o : Oper} {a : Act} {w : World} {Q : Exit → Act → World → Prop} {K : Act → World → Prop} {E : Prop}
theorem step_sliceTo (hgd : o.guard = none) (x : Operand) (ho : o.op = .buildSlice 48 1 #[(0, x)]) (am : Int) (ca : Option Addr) (n cc : Nat) (hx : a.eval x = .agg #[.int .i64 am, .slice ca n cc])
    (h : ∀ q w1, w1.heap[q]? = some (.cells #[.int .i64 am, .slice ca n cc] 95 (0, 0)) → w.heap.size ≤ q → Below w.heap.size w w1 → K (a.put o.dst (.slice (some ⟨q, 0, none⟩) 1 1)) w1) : if Region.wanted o (yielded ops a.tmps) = true then Oper.wp Tryz.prog o a w K Q else E := by
  have hw : Region.wanted o (yielded ops a.tmps) = true := by simp [Region.wanted, hgd]
  rw [if_pos hw]
  unfold Oper.wp execOp
  simp only [ho, List.map_toArray, List.map_cons, List.map_nil, hx, Sem.run_bind, slice_to, Result.andThen]
  exact h _ _ (heap_alloc_new _ _) (Nat.le_refl _) ((Below.refl _ _).alloc (Nat.le_refl _) _)
theorem step_append_To (hgd : o.guard = none) (s x : Operand) (ho : o.op = .call { callee := .builtin .append, args := #[s, x], argTypes := #[48, 48] }) (B q : Nat) (v : Value) (i : Nat) (xs : List Value) (am : Int) (ca : Option Addr) (n cc : Nat) (hs : a.eval s = v) (hx : a.eval x = .slice (some ⟨q, 0, none⟩) 1 1) (hown : w.ownsRow B 95 2 v i xs) (hB : B ≤ w.heap.size) (hq : w.heap[q]? = some (.cells #[.int .i64 am, .slice ca n cc] 95 (0, 0))) (hi : i ≤ 1000000)
    (h : ∀ va vc w1, w1.ownsRow B 95 2 (.slice va (i + 1) vc) (i + 1) (xs ++ [.int .i64 am, .slice ca n cc]) → w.grownBy w1 v.ownBlock → ((Value.slice va (i + 1) vc).ownBlock = v.ownBlock ∨ (Value.slice va (i + 1) vc).ownBlock = some w.heap.size) → K (a.put o.dst (.slice va (i + 1) vc)) w1) : if Region.wanted o (yielded ops a.tmps) = true then Oper.wp Tryz.prog o a w K Q else E := by
  have hw : Region.wanted o (yielded ops a.tmps) = true := by simp [Region.wanted, hgd]
  rw [if_pos hw]
  obtain ⟨va, vc, w1, hr, h1, h2, h3⟩ := run_append_To w B q o.type v i xs am ca n cc hown hB hq hi
  unfold Oper.wp execOp
  simp only [ho, resolve, invoke, builtin, Sem.run_bind, Sem.run_pure, Result.andThen_ok, List.map_toArray, List.map_cons, List.map_nil, hs, hx, hr]
  exact h _ _ _ h1 h2 h3
theorem wpList_slicePl (hgd : o.guard = none) (x : Operand) (ho : o.op = .buildSlice 61 1 #[(0, x)]) (y z : Int) (hx : a.eval x = .agg #[.int .i64 y, .int .i64 z])
    (h : ∀ w1, New w w1 #[.int .i64 y, .int .i64 z] 71 → wpList Tryz.prog ops Q rest (a.put o.dst (.slice (some ⟨w.heap.size, 0, none⟩) 1 1)) w1) : wpList Tryz.prog ops Q (o :: rest) a w := by
  refine wpList_plain hgd fun K hK => ?_
  unfold Oper.wp execOp
  simp only [ho, List.map_toArray, List.map_cons, List.map_nil, hx, Sem.run_bind, slice_pl, Result.andThen]
  exact hK _ _ (h _ (new_alloc w _ _))
theorem wpList_append_Pl (hgd : o.guard = none) (s x : Operand) (ho : o.op = .call { callee := .builtin .append, args := #[s, x], argTypes := #[61, 61] }) (B q : Nat) (v : Value) (i : Nat) (xs : List Value) (y z : Int) (hs : a.eval s = v) (hx : a.eval x = .slice (some ⟨q, 0, none⟩) 1 1) (hown : w.ownsRow B 71 2 v i xs) (hB : B ≤ w.heap.size) (hq : w.heap[q]? = some (.cells #[.int .i64 y, .int .i64 z] 71 (0, 0))) (hi : i ≤ 1000000)
    (h : ∀ va vc w1, w1.ownsRow B 71 2 (.slice va (i + 1) vc) (i + 1) (xs ++ [.int .i64 y, .int .i64 z]) → w.grownBy w1 v.ownBlock → ((Value.slice va (i + 1) vc).ownBlock = v.ownBlock ∨ (Value.slice va (i + 1) vc).ownBlock = some w.heap.size) → wpList Tryz.prog ops Q rest (a.put o.dst (.slice va (i + 1) vc)) w1) : wpList Tryz.prog ops Q (o :: rest) a w := by
  obtain ⟨va, vc, w1, hr, h1, h2, h3⟩ := run_append_Pl w B q o.type v i xs y z hown hB hq hi
  refine wpList_plain hgd fun K hK => ?_
  unfold Oper.wp execOp
  simp only [ho, resolve, invoke, builtin, Sem.run_bind, Sem.run_pure, Result.andThen_ok, List.map_toArray, List.map_cons, List.map_nil, hs, hx, hr]
  exact hK _ _ (h _ _ _ h1 h2 h3)
end
/-- What a method expression that is handed to the closure answers: a condition in blocks of its own. -/
def UndR (n : Nat) (X : Nat → Cd.Bv) (w : World) : Ending → World → Prop := fun e w' => ∃ g, e = .returned (.agg #[.slice (some ⟨g, 0, none⟩) n n]) ∧ Cd.BrIn w' w.heap.size (some ⟨g, 0, none⟩) n X ∧ Below w.heap.size w w'
def LayPost (B bo bp bc : Nat) (c : Cm) (ka : Option Addr) (kc : Nat) (os : List To) (zs : List (Int × Int)) (w : World) : Ending → World → Prop := fun e w' => e = .returned (.tuple #[]) ∧ LayS w' B bo bp bc c ka kc os zs ∧ FrB B [bo, bp] w w'
set_option maxRecDepth 100000 in
set_option maxHeartbeats 1600000 in
theorem lay_no (kf : Nat) (k id am : Int) (B bo bp bc : Nat) (c : Cm) (ka : Option Addr) (kc : Nat) (os : List To) (zs : List (Int × Int)) (w : World) (h : LayS w B bo bp bc c ka kc os zs) (ha : ¬ 10 ≤ am) :
    Calls Tryz.prog 46 #[.int .i64 k, .int .i64 id, .int .i64 am, .func (.func kf) #[] #[], .pointer (some ⟨bo, 0, none⟩), .pointer (some ⟨bc, 0, none⟩), .pointer (some ⟨bp, 0, none⟩)] w (LayPost B bo bp bc c ka kc os zs w) := by
  have HL : Hid (LayS w B bo bp bc c ka kc os zs) := h
  have hd : decide (10 ≤ am) = false := by simpa using ha
  clear h
  go_enter Tryz.func46, Tryz.ntmps46
  go_wp2
  refine bodyPost_ret (results_none rfl _ _ _) rfl ?_
  exact ⟨rfl, HL.out, FrB.refl _ _ _⟩
set_option maxRecDepth 100000 in
set_option maxHeartbeats 3200000 in
theorem lay_yes (kf : Nat) (eg : ∀ args w, (callFunc kf args).run Tryz.prog w = .ok (.enter kf args) w) (k id am : Int) (n : Nat) (X : Nat → Cd.Bv) (B bo bp bc : Nat) (c : Cm) (ka : Option Addr) (kc : Nat) (os : List To) (zs : List (Int × Int)) (w : World) (h : LayS w B bo bp bc c ka kc os zs) (ha : 10 ≤ am)
    (hU : Calls Tryz.prog kf #[.agg (cmv c ka kc)] w.drew (UndR n X w.drew)) (ho : os.length ≤ 1000) (hz : zs.length ≤ 1000) :
    Calls Tryz.prog 46 #[.int .i64 k, .int .i64 id, .int .i64 am, .func (.func kf) #[] #[], .pointer (some ⟨bo, 0, none⟩), .pointer (some ⟨bc, 0, none⟩), .pointer (some ⟨bp, 0, none⟩)] w (LayPost B bo bp bc c ka kc (os ++ [⟨am, n, X⟩]) (zs ++ [(k, id)]) w) := by
  obtain ⟨va, vc, ua, uc, A, I, hL⟩ := h
  have HL : Hid (LayR w.drew B bo bp bc c ka kc os zs va vc ua uc A I) := hL.below (Below.refl _ _).drew
  have HU : Hid (Calls Tryz.prog kf #[.agg (cmv c ka kc)] w.drew (UndR n X w.drew)) := hU
  have HN : Hid (os.length ≤ 1000 ∧ zs.length ≤ 1000) := ⟨ho, hz⟩
  have HS : Hid (∀ w', Below w.drew.heap.size w.drew w' → w'.cell? ⟨bo, 0, none⟩ = some (.slice va os.length vc) ∧ w'.rangeAt bc 0 (cml c ka kc)) := fun w' hb => ⟨by rw [cell_of_row _ _ 0 _ _ _ (heap_below hb HL.out.fo)]; rfl, cml_range (heap_below hb HL.out.fc)⟩
  have HF0 : Hid (FrB B [bo, bp] w w.drew) := FrB.ofBelow (Below.refl _ _).drew hL.lt.2.2.2.2.2.2
  clear hL hU ho hz
  go_enter Tryz.func46, Tryz.ntmps46
  go_upto_region 1 with fail
  refine wp_region_noPanic ?_
  refine wp_region_K (S := fun w' => w'.cell? ⟨bo, 0, none⟩ = some (.slice va os.length vc) ∧ w'.rangeAt bc 0 (cml c ka kc)) 8 (by kernel_rfl) (HS.out w.drew (Below.refl _ _)) (fun hHeld => ?_)
  generalize w.drew = w0 at *
  refine wpAnyK_take (by kernel_rfl) (i := 0) (oi := { dst := some 13, op := Go.Op.load 48 (Go.Operand.tmp 4), type := 48, pos := "build.go:168", after := #[], guard := none }) (v := ?_) rfl (by kernel_rfl) (by kernel_rfl) (by kernel_rfl) (fun _ _ _ h => h) (Or.inl ⟨by rfl, ?_⟩) (by assumption) ?_
  rotate_left
  · intro wz hSw; (try dsimp only at hSw); go_simp; (try with_reducible rfl)
  try simp only [Act.put, List.setIfInBounds_toArray, List.set_cons_zero, List.set_cons_succ]
  refine wpAnyK_take (by kernel_rfl) (i := 1) (oi := { dst := some 14, op := Go.Op.move (Go.Operand.tmp 2), type := 3, pos := "build.go:168", after := #[], guard := none }) (v := ?_) rfl (by kernel_rfl) (by kernel_rfl) (by kernel_rfl) (fun _ _ _ h => h) (Or.inl ⟨by rfl, ?_⟩) (by assumption) ?_
  rotate_left
  · intro wz hSw; (try dsimp only at hSw); go_simp; (try with_reducible rfl)
  try simp only [Act.put, List.setIfInBounds_toArray, List.set_cons_zero, List.set_cons_succ]
  refine wpAnyK_take (by kernel_rfl) (i := 2) (oi := { dst := some 15, op := Go.Op.move (Go.Operand.tmp 3), type := 134, pos := "build.go:168", after := #[], guard := none }) (v := ?_) rfl (by kernel_rfl) (by kernel_rfl) (by kernel_rfl) (fun _ _ _ h => h) (Or.inl ⟨by rfl, ?_⟩) (by assumption) ?_
  rotate_left
  · intro wz hSw; (try dsimp only at hSw); go_simp; (try with_reducible rfl)
  try simp only [Act.put, List.setIfInBounds_toArray, List.set_cons_zero, List.set_cons_succ]
  refine wpAnyK_take (by kernel_rfl) (i := 3) (oi := { dst := some 16, op := Go.Op.load 104 (Go.Operand.tmp 5), type := 104, pos := "build.go:168", after := #[], guard := none }) rfl (by kernel_rfl) (by kernel_rfl) (by kernel_rfl) (fun _ _ _ h => h) (yieldsIf_load_mid (by rfl) _ _ rfl bc 0 rfl (cml c ka kc) _ (fun _ h => h.2) Tryz.underlying104 rfl (szCml _ _ _)) (by assumption) ?_
  try simp only [Act.put, List.setIfInBounds_toArray, List.set_cons_zero, List.set_cons_succ]
  refine wpAnyK_ready (rs := [4]) (by kernel_rfl) (by simp) ?_
  refine (AllReadyK.cons (o := { dst := some 17, op := Go.Op.call { callee := Go.Callee.value (Go.Operand.tmp 15), args := #[Go.Operand.tmp 16], argTypes := #[104] }, type := 93, pos := "build.go:168", after := #[{ on := 2, ground := Go.Ground.data }, { on := 3, ground := Go.Ground.data }], guard := none }) rfl (fun K hK => ?_) AllReadyK.nil)
  go_simp
  refine HU.out.mono ?_
  rintro e w1 ⟨g, rfl, hI, hb1⟩
  have H1 := hidV (And.intro hI hb1)
  clear hI hb1
  refine hK.out _ _ (fun _ => HS.out w1 H1.out.2) (fun hq => ?_)
  have hq := hq (by decide)
  clear hK K
  try simp only [Act.put, List.setIfInBounds_toArray, List.set_cons_zero, List.set_cons_succ]
  refine wpAnyK_take (by kernel_rfl) (i := 5) (oi := { dst := some 18, op := Go.Op.build 95 #[(0, Go.Operand.tmp 14), (1, Go.Operand.tmp 17)], type := 95, pos := "build.go:168", after := #[{ on := 1, ground := Go.Ground.data }, { on := 4, ground := Go.Ground.data }], guard := none }) (v := .agg #[.int .i64 am, .slice (some ⟨g, 0, none⟩) n n]) rfl (by kernel_rfl) (by kernel_rfl) (by kernel_rfl) (fun _ _ _ h => h) (Or.inl ⟨by rfl, ?_⟩) (by assumption) ?_
  · intro wz hSw; (try dsimp only at hSw); kernel_rfl
  try simp only [Act.put, List.setIfInBounds_toArray, List.set_cons_zero, List.set_cons_succ]
  refine wpAnyK_ready (rs := [6]) (by kernel_rfl) (by simp) ?_
  refine (AllReadyK.cons (o := { dst := some 19, op := Go.Op.buildSlice 48 1 #[(0, Go.Operand.tmp 18)], type := 48, pos := "build.go:168", after := #[{ on := 5, ground := Go.Ground.data }], guard := none }) rfl (fun K hK => ?_) AllReadyK.nil)
  refine step_sliceTo rfl (.tmp 18) rfl am (some ⟨g, 0, none⟩) n n (by rfl) ?_
  intro q w2 hq hql hb2
  have H2 : Hid (Below w0.heap.size w0 w2 ∧ LayR w2 B bo bp bc c ka kc os zs va vc ua uc A I ∧ Cd.BrIn w2 w0.heap.size (some ⟨g, 0, none⟩) n X ∧ w2.heap[q]? = some (.cells #[.int .i64 am, .slice (some ⟨g, 0, none⟩) n n] 95 (0, 0))) := ⟨Below.transS H1.out.2 hb2, HL.out.below (Below.transS H1.out.2 hb2), brIn_below H1.out.1 hb2, hq⟩
  clear hq hql hb2
  refine hK.out _ _ (fun _ => HS.out w2 H2.out.1) (fun hq => ?_)
  have hq := hq (by decide)
  clear hK K
  try simp only [Act.put, List.setIfInBounds_toArray, List.set_cons_zero, List.set_cons_succ]
  refine wpAnyK_ready (rs := [7]) (by kernel_rfl) (by simp) ?_
  refine (AllReadyK.cons (o := { dst := some 20, op := Go.Op.call { callee := Go.Callee.builtin Go.Builtin.append, args := #[Go.Operand.tmp 13, Go.Operand.tmp 19], argTypes := #[48, 48] }, type := 48, pos := "build.go:168", after := #[{ on := 0, ground := Go.Ground.data }, { on := 6, ground := Go.Ground.data }, { on := 4, ground := Go.Ground.chain }], guard := none }) rfl (fun K hK => ?_) AllReadyK.nil)
  refine step_append_To rfl (.tmp 13) (.tmp 19) rfl B q (.slice va os.length vc) os.length (flatL (oL os A) os.length) am (some ⟨g, 0, none⟩) n n (by rfl) (by rfl) H2.out.2.1.outs H2.out.2.1.lt.2.2.2.2.2.2 H2.out.2.2.2 (by have := HN.out; omega) ?_
  intro va' vc' w3 hown hgrow hloc
  have HO := H2.out.2.1.outs.lt
  have hfo : w3.heap[bo]? = some (.cells #[.slice va os.length vc] 48 (0, 0)) := by rw [hgrow.block bo (lt_of_block H2.out.2.1.fo) (fun e => by have := (HO bo e.symm).1; have := H2.out.2.1.lt; omega)]; exact H2.out.2.1.fo
  have hfc : w3.heap[bc]? = some (.cells (cmv c ka kc) 104 (0, 0)) := by rw [hgrow.block bc (lt_of_block H2.out.2.1.fc) (fun e => by have := (HO bc e.symm).1; have := H2.out.2.1.lt; omega)]; exact H2.out.2.1.fc
  have s3 : w3.cell? ⟨bo, 0, none⟩ = some (.slice va os.length vc) := by rw [cell_of_row _ _ 0 _ _ _ hfo]; rfl
  have f3 : w3.frozen? ⟨bo, 0, none⟩ = false := frozen_of_row w3 bo 0 _ _ hfo
  have hS3 : w3.cell? ⟨bo, 0, none⟩ = some (.slice va os.length vc) ∧ w3.rangeAt bc 0 (cml c ka kc) := ⟨s3, cml_range hfc⟩
  have HP : Hid (LayR (w3.setCell ⟨bo, 0, none⟩ (.slice va' (os.length + 1) vc')) B bo bp bc c ka kc (os ++ [⟨am, n, X⟩]) zs va' vc' ua uc (fun j => if j = os.length then (some ⟨g, 0, none⟩, n) else A j) (fun j => if j = os.length then (w0.heap.size, w2.heap.size) else I j)) :=
    H2.out.2.1.pushO hown hgrow hloc H2.out.2.2.1 HL.out.lt.2.2.2.2.2.2 (Nat.le_refl _) (fun g e => (HL.out.outs.lt g e).2) (fun g e => (HL.out.pls.lt g e).2) (by simp)
  have HF3 : Hid (FrB B [bo, bp] w (w3.setCell ⟨bo, 0, none⟩ (.slice va' (os.length + 1) vc'))) := ((HF0.out.trans (FrB.ofBelow H2.out.1 HL.out.lt.2.2.2.2.2.2)).trans (FrB.grown hgrow H2.out.2.1.lt.2.2.2.2.2.2 (fun g e => (HO g e).1))).setCell _ _ (by simp)
  clear hown hgrow hloc HO hfo hfc H1 H2 HL HU HS HF0
  refine hK.out _ _ (fun _ => hS3) (fun hq => ?_)
  have hq := hq (by decide)
  clear hK K hS3
  try simp only [Act.put, List.setIfInBounds_toArray, List.set_cons_zero, List.set_cons_succ]
  refine wpAnyK_ready (rs := [8]) (by kernel_rfl) (by simp) ?_
  refine (AllReadyK.cons (o := { dst := none, op := Go.Op.store 48 (Go.Operand.tmp 4) (Go.Operand.tmp 20), type := 0, pos := "build.go:168", after := #[{ on := 7, ground := Go.Ground.data }, { on := 7, ground := Go.Ground.chain }, { on := 0, ground := Go.Ground.phase }, { on := 1, ground := Go.Ground.phase }, { on := 2, ground := Go.Ground.phase }, { on := 3, ground := Go.Ground.phase }, { on := 4, ground := Go.Ground.phase }, { on := 5, ground := Go.Ground.phase }, { on := 6, ground := Go.Ground.phase }, { on := 7, ground := Go.Ground.phase }], guard := none }) rfl (fun K hK => ?_) AllReadyK.nil)
  go_simp
  refine hK.out _ _ (fun e => absurd rfl e) (fun _ => ?_)
  clear hK K
  try simp only [Act.put]
  refine wpAnyK_done (by kernel_rfl) (NoPanic.normal ?_) _
  try simp only [Act.put, List.setIfInBounds_toArray, List.set_cons_zero, List.set_cons_succ]
  clear hHeld s3 f3
  generalize w3.setCell ⟨bo, 0, none⟩ (.slice va' (os.length + 1) vc') = w4 at *
  have s4 : w4.cell? ⟨bp, 0, none⟩ = some (.slice ua zs.length uc) := by rw [cell_of_row _ _ 0 _ _ _ HP.out.fp]; rfl
  have HW4 : Hid (∀ w' : World, w'.heap[bp]? = some (.cells #[.slice ua zs.length uc] 61 (0, 0)) → w'.cell? ⟨bp, 0, none⟩ = some (.slice ua zs.length uc) ∧ w'.frozen? ⟨bp, 0, none⟩ = false) := fun w' h => ⟨by rw [cell_of_row _ _ 0 _ _ _ h]; rfl, frozen_of_row w' bp 0 _ _ h⟩
  go_wp2_with (first | (refine wpList_slicePl rfl _ rfl k id rfl ?_; intro w5 N5; have H5 := hidV (And.intro (HP.out.below N5.below) (And.intro N5.blk N5.below)); clear N5 s4) | (at_builtin; refine wpList_append_Pl rfl _ _ rfl B w4.heap.size (.slice ua zs.length uc) zs.length (flatL (pL zs) zs.length) k id rfl rfl H5.out.1.pls H5.out.1.lt.2.2.2.2.2.2 H5.out.2.1 (by have := HN.out; omega) ?_; intro ua' uc' w6 hown hgrow hloc; have HO := H5.out.1.pls.lt; have hfp : w6.heap[bp]? = some (.cells #[.slice ua zs.length uc] 61 (0, 0)) := (by rw [hgrow.block bp (lt_of_block H5.out.1.fp) (fun e => by have := (HO bp e.symm).1; have := H5.out.1.lt; omega)]; exact H5.out.1.fp); obtain ⟨s6, f6⟩ := HW4.out w6 hfp) | fail)
  refine bodyPost_ret (results_none rfl _ _ _) rfl ?_
  have hR := H5.out.1.pushP (x := (k, id)) hown hgrow hloc
  exact ⟨rfl, ⟨_, _, _, _, _, _, hR⟩, ((HF3.out.trans (FrB.ofBelow H5.out.2.2 HP.out.lt.2.2.2.2.2.2)).trans (FrB.grown hgrow H5.out.1.lt.2.2.2.2.2.2 (fun g e => (HO g e).1))).setCell _ _ (by simp)⟩
end Go.Proofs.YtbafipjiaeoinaaGreatDoor
