/- build: the closure that lays an output. -/
import Derived.Test.YtjnepkggdkccaaaGreatDoorOwnShelf19
import Derived.Deep.QuietTactic
import Derived.BigQuiet
namespace Go.Proofs.YtjnepkggdkccaaaGreatDoor
open Go.RowKit

def to0 : To := ⟨0, 0, fun _ => default⟩
theorem infoTo : (Tryz.prog.info? 95).map (fun i => (i.zero, i.size, i.bytes)) = some (some (.agg #[.int .i64 0, .slice none 0 0]), 2, 32) := by kernel_rfl
theorem infoPl : (Tryz.prog.info? 71).map (fun i => (i.zero, i.size, i.bytes)) = some (some (.agg #[.int .i64 0, .int .i64 0]), 2, 16) := by kernel_rfl
theorem slice_to (am : Int) (ca : Option Addr) (n cc : Nat) (w : World) : (Instr.buildSlice 48 1 #[(0, .agg #[.int .i64 am, .slice ca n cc])]).run Tryz.prog w = .ok (.slice (some ⟨w.heap.size, 0, none⟩) 1 1) (w.alloc (.cells #[.int .i64 am, .slice ca n cc] 95)) := by kernel_rfl
theorem slice_pl (x y : Int) (w : World) : (Instr.buildSlice 61 1 #[(0, .agg #[.int .i64 x, .int .i64 y])]).run Tryz.prog w = .ok (.slice (some ⟨w.heap.size, 0, none⟩) 1 1) (w.alloc (.cells #[.int .i64 x, .int .i64 y] 71)) := by kernel_rfl
theorem run_append_To (w : World) (B q : Nat) (ty : TypeId) (v : Value) (i : Nat) (xs : List Value) (am : Int) (ca : Option Addr) (n cc : Nat) (hown : w.ownsRow B 95 2 v i xs) (hB : B ≤ w.heap.size) (hq : w.heap[q]? = some (.cells #[.int .i64 am, .slice ca n cc] 95 (0, 0))) (hi : i ≤ 1000000) :
    ∃ va vc w1, (Builtin.append_ #[48, 48] ty #[v, .slice (some ⟨q, 0, none⟩) 1 1]).run Tryz.prog w = .ok (.slice va (i + 1) vc) w1 ∧ w1.ownsRow B 95 2 (.slice va (i + 1) vc) (i + 1) (xs ++ [.int .i64 am, .slice ca n cc]) ∧ w.grownBy w1 v.ownBlock ∧ ((Value.slice va (i + 1) vc).ownBlock = v.ownBlock ∨ (Value.slice va (i + 1) vc).ownBlock = some w.heap.size) := by
  obtain ⟨i0, hi0, hz0, hz1, hz2⟩ := info_parts infoTo
  obtain ⟨v', w1, hr, h2, h3, _, h5⟩ := run_append_own_at (P := Tryz.prog) w B 48 ty 95 i0 (.agg #[.int .i64 0, .slice none 0 0]) 2 32 Tryz.underlying48 hi0 hz0 hz1 hz2 rfl (by omega) v i xs hown ⟨q, 0, none⟩ 1 1 [.int .i64 am, .slice ca n cc] rfl (fun j u hj => by
      rw [Addr.add_lit, Nat.zero_add, cell_of_row _ _ j _ _ _ hq]
      simpa using hj) (fun u hu => by simp at hu; rcases hu with rfl | rfl <;> rfl) (by unfold maxLen; omega) (by omega) hB
  obtain ⟨va, vc, rfl, _, _⟩ := own_frmV h2
  exact ⟨va, vc, w1, hr, h2, h3, h5⟩
theorem run_append_Pl (w : World) (B q : Nat) (ty : TypeId) (v : Value) (i : Nat) (xs : List Value) (x y : Int) (hown : w.ownsRow B 71 2 v i xs) (hB : B ≤ w.heap.size) (hq : w.heap[q]? = some (.cells #[.int .i64 x, .int .i64 y] 71 (0, 0))) (hi : i ≤ 1000000) :
    ∃ va vc w1, (Builtin.append_ #[61, 61] ty #[v, .slice (some ⟨q, 0, none⟩) 1 1]).run Tryz.prog w = .ok (.slice va (i + 1) vc) w1 ∧ w1.ownsRow B 71 2 (.slice va (i + 1) vc) (i + 1) (xs ++ [.int .i64 x, .int .i64 y]) ∧ w.grownBy w1 v.ownBlock ∧ ((Value.slice va (i + 1) vc).ownBlock = v.ownBlock ∨ (Value.slice va (i + 1) vc).ownBlock = some w.heap.size) := by
  obtain ⟨i0, hi0, hz0, hz1, hz2⟩ := info_parts infoPl
  obtain ⟨v', w1, hr, h2, h3, _, h5⟩ := run_append_own_at (P := Tryz.prog) w B 61 ty 71 i0 (.agg #[.int .i64 0, .int .i64 0]) 2 16 Tryz.underlying61 hi0 hz0 hz1 hz2 rfl (by omega) v i xs hown ⟨q, 0, none⟩ 1 1 [.int .i64 x, .int .i64 y] rfl (fun j u hj => by
      rw [Addr.add_lit, Nat.zero_add, cell_of_row _ _ j _ _ _ hq]
      simpa using hj) (fun u hu => by simp at hu; rcases hu with rfl | rfl <;> rfl) (by unfold maxLen; omega) (by omega) hB
  obtain ⟨va, vc, rfl, _, _⟩ := own_frmV h2
  exact ⟨va, vc, w1, hr, h2, h3, h5⟩
section
variable {ops : Array Oper} {rest : List Oper} {o : Oper} {a : Act} {w : World} {Q : Exit → Act → World → Prop} {K : Act → World → Prop} {E : Prop}
theorem step_sliceTo (hgd : o.guard = none) (x : Operand) (ho : o.op = .buildSlice 48 1 #[(0, x)]) (am : Int) (ca : Option Addr) (n cc : Nat) (hx : a.eval x = .agg #[.int .i64 am, .slice ca n cc])
    (h : ∀ q w1, w1.heap[q]? = some (.cells #[.int .i64 am, .slice ca n cc] 95 (0, 0)) → w.heap.size ≤ q → Below w.heap.size w w1 → K (a.put o.dst (.slice (some ⟨q, 0, none⟩) 1 1)) w1) : if Region.wanted o (yielded ops a.tmps) = true then Oper.wp Tryz.prog o a w K Q else E := by
  have hw : Region.wanted o (yielded ops a.tmps) = true := by simp [Region.wanted, hgd]
  rw [if_pos hw]
  unfold Oper.wp execOp
  simp only [ho, List.map_toArray, List.map_cons, List.map_nil, hx, Sem.run_bind, slice_to, Result.andThen]
  exact h _ _ (heap_alloc_new _ _) (Nat.le_refl _) ((Below.refl _ _).alloc (Nat.le_refl _) _)
theorem step_append_To (hgd : o.guard = none) (s x : Operand) (ho : o.op = .call { callee := .builtin .append, args := #[s, x], argTypes := #[48, 48] }) (B q : Nat) (v : Value) (i : Nat) (xs : List Value) (am : Int) (ca : Option Addr) (n cc : Nat) (hs : a.eval s = v) (hx : a.eval x = .slice (some ⟨q, 0, none⟩) 1 1) (hown : w.ownsRow B 95 2 v i xs) (hB : B ≤ w.heap.size) (hq : w.heap[q]? = some (.cells #[.int .i64 am, .slice ca n cc] 95 (0, 0))) (hi : i ≤ 1000000)
    (h : ∀ va vc w1, w1.ownsRow B 95 2 (.slice va (i + 1) vc) (i + 1) (xs ++ [.int .i64 am, .slice ca n cc]) → w.grownBy w1 v.ownBlock → ((Value.slice va (i + 1) vc).ownBlock = v.ownBlock ∨ (Value.slice va (i + 1) vc).ownBlock = some w.heap.size) → K (a.put o.dst (.slice va (i + 1) vc)) w1) : if Region.wanted o (yielded ops a.tmps) = true then Oper.wp Tryz.prog o a w K Q else E := by
  have hw : Region.wanted o (yielded ops a.tmps) = true := by simp [Region.wanted, hgd]
  rw [if_pos hw]
  obtain ⟨va, vc, w1, hr, h1, h2, h3⟩ := run_append_To w B q o.type v i xs am ca n cc hown hB hq hi
  unfold Oper.wp execOp
  simp only [ho, resolve, invoke, builtin, Sem.run_bind, Sem.run_pure, Result.andThen_ok, List.map_toArray, List.map_cons, List.map_nil, hs, hx, hr]
  exact h _ _ _ h1 h2 h3
theorem wpList_slicePl (hgd : o.guard = none) (x : Operand) (ho : o.op = .buildSlice 61 1 #[(0, x)]) (y z : Int) (hx : a.eval x = .agg #[.int .i64 y, .int .i64 z])
    (h : ∀ w1, New w w1 #[.int .i64 y, .int .i64 z] 71 → wpList Tryz.prog ops Q rest (a.put o.dst (.slice (some ⟨w.heap.size, 0, none⟩) 1 1)) w1) : wpList Tryz.prog ops Q (o :: rest) a w := by
  refine wpList_plain hgd fun K hK => ?_
  unfold Oper.wp execOp
  simp only [ho, List.map_toArray, List.map_cons, List.map_nil, hx, Sem.run_bind, slice_pl, Result.andThen]
  exact hK _ _ (h _ (new_alloc w _ _))
theorem wpList_append_Pl (hgd : o.guard = none) (s x : Operand) (ho : o.op = .call { callee := .builtin .append, args := #[s, x], argTypes := #[61, 61] }) (B q : Nat) (v : Value) (i : Nat) (xs : List Value) (y z : Int) (hs : a.eval s = v) (hx : a.eval x = .slice (some ⟨q, 0, none⟩) 1 1) (hown : w.ownsRow B 71 2 v i xs) (hB : B ≤ w.heap.size) (hq : w.heap[q]? = some (.cells #[.int .i64 y, .int .i64 z] 71 (0, 0))) (hi : i ≤ 1000000)
    (h : ∀ va vc w1, w1.ownsRow B 71 2 (.slice va (i + 1) vc) (i + 1) (xs ++ [.int .i64 y, .int .i64 z]) → w.grownBy w1 v.ownBlock → ((Value.slice va (i + 1) vc).ownBlock = v.ownBlock ∨ (Value.slice va (i + 1) vc).ownBlock = some w.heap.size) → wpList Tryz.prog ops Q rest (a.put o.dst (.slice va (i + 1) vc)) w1) : wpList Tryz.prog ops Q (o :: rest) a w := by
  obtain ⟨va, vc, w1, hr, h1, h2, h3⟩ := run_append_Pl w B q o.type v i xs y z hown hB hq hi
  refine wpList_plain hgd fun K hK => ?_
  unfold Oper.wp execOp
  simp only [ho, resolve, invoke, builtin, Sem.run_bind, Sem.run_pure, Result.andThen_ok, List.map_toArray, List.map_cons, List.map_nil, hs, hx, hr]
  exact hK _ _ (h _ _ _ h1 h2 h3)
end
/-- What a method expression that is handed to the closure answers: a condition in blocks of its own. -/
def UndR (n : Nat) (X : Nat → Cd.Bv) (w : World) : Ending → World → Prop := fun e w' => ∃ g, e = .returned (.agg #[.slice (some ⟨g, 0, none⟩) n n]) ∧ Cd.BrIn w' w.heap.size (some ⟨g, 0, none⟩) n X ∧ Below w.heap.size w w'
def LayPost (B bo bp bc : Nat) (c : Cm) (ka : Option Addr) (kc : Nat) (os : List To) (zs : List (Int × Int)) (w : World) : Ending → World → Prop := fun e w' => e = .returned (.tuple #[]) ∧ LayS w' B bo bp bc c ka kc os zs ∧ FrB B [bo, bp] w w'
set_option maxRecDepth 100000 in
set_option maxHeartbeats 1600000 in
theorem lay_no (kf : Nat) (k id am : Int) (B bo bp bc : Nat) (c : Cm) (ka : Option Addr) (kc : Nat) (os : List To) (zs : List (Int × Int)) (w : World) (h : LayS w B bo bp bc c ka kc os zs) (ha : ¬ 10 ≤ am) :
    Calls Tryz.prog 46 #[.int .i64 k, .int .i64 id, .int .i64 am, .func (.func kf) #[] #[], .pointer (some ⟨bo, 0, none⟩), .pointer (some ⟨bc, 0, none⟩), .pointer (some ⟨bp, 0, none⟩)] w (LayPost B bo bp bc c ka kc os zs w) := by
  have HL : Hid (LayS w B bo bp bc c ka kc os zs) := h
  have hd : decide (10 ≤ am) = false := by simpa using ha
  clear h
  go_enter Tryz.func46, Tryz.ntmps46
  go_wp2
  refine bodyPost_ret (results_none rfl _ _ _) rfl ?_
  exact ⟨rfl, HL.out, FrB.refl _ _ _⟩
set_option maxRecDepth 100000 in
set_option maxHeartbeats 3200000 in
theorem lay_yes (kf : Nat) (eg : ∀ args w, (callFunc kf args).run Tryz.prog w = .ok (.enter kf args) w) (k id am : Int) (n : Nat) (X : Nat → Cd.Bv) (B bo bp bc : Nat) (c : Cm) (ka : Option Addr) (kc : Nat) (os : List To) (zs : List (Int × Int)) (w : World) (h : LayS w B bo bp bc c ka kc os zs) (ha : 10 ≤ am)
    (hU : Calls Tryz.prog kf #[.agg (cmv c ka kc)] w.drew (UndR n X w.drew)) (ho : os.length ≤ 1000) (hz : zs.length ≤ 1000) :
    Calls Tryz.prog 46 #[.int .i64 k, .int .i64 id, .int .i64 am, .func (.func kf) #[] #[], .pointer (some ⟨bo, 0, none⟩), .pointer (some ⟨bc, 0, none⟩), .pointer (some ⟨bp, 0, none⟩)] w (LayPost B bo bp bc c ka kc (os ++ [⟨am, n, X⟩]) (zs ++ [(k, id)]) w) := by
  obtain ⟨va, vc, ua, uc, A, I, hL⟩ := h
  have HL : Hid (LayR w.drew B bo bp bc c ka kc os zs va vc ua uc A I) := hL.below (Below.refl _ _).drew
  have HU : Hid (Calls Tryz.prog kf #[.agg (cmv c ka kc)] w.drew (UndR n X w.drew)) := hU
  have HN : Hid (os.length ≤ 1000 ∧ zs.length ≤ 1000) := ⟨ho, hz⟩
  have HS : Hid (∀ w', Below w.drew.heap.size w.drew w' → w'.cell? ⟨bo, 0, none⟩ = some (.slice va os.length vc) ∧ w'.rangeAt bc 0 (cml c ka kc)) := fun w' hb => ⟨by rw [cell_of_row _ _ 0 _ _ _ (heap_below hb HL.out.fo)]; rfl, cml_range (heap_below hb HL.out.fc)⟩
  have HF0 : Hid (FrB B [bo, bp] w w.drew) := FrB.ofBelow (Below.refl _ _).drew hL.lt.2.2.2.2.2.2
  clear hL hU ho hz
  go_enter Tryz.func46, Tryz.ntmps46
  go_upto_region 1 with fail
  refine wp_region_noPanic ?_
  refine wp_region_K (S := fun w' => w'.cell? ⟨bo, 0, none⟩ = some (.slice va os.length vc) ∧ w'.rangeAt bc 0 (cml c ka kc)) 8 (by kernel_rfl) (HS.out w.drew (Below.refl _ _)) (fun hHeld => ?_)
  generalize w.drew = w0 at *
  refine wpAnyK_take (by kernel_rfl) (i := 0) (oi := { dst := some 13, op := Go.Op.load 48 (Go.Operand.tmp 4), type := 48, pos := "build.go:168", after := #[], guard := none }) (v := ?_) rfl (by kernel_rfl) (by kernel_rfl) (by kernel_rfl) (fun _ _ _ h => h) (Or.inl ⟨by rfl, ?_⟩) (by assumption) ?_
  rotate_left
  · intro wz hSw; (try dsimp only at hSw); go_simp; (try with_reducible rfl)
  try simp only [Act.put, List.setIfInBounds_toArray, List.set_cons_zero, List.set_cons_succ]
  refine wpAnyK_take (by kernel_rfl) (i := 1) (oi := { dst := some 14, op := Go.Op.move (Go.Operand.tmp 2), type := 3, pos := "build.go:168", after := #[], guard := none }) (v := ?_) rfl (by kernel_rfl) (by kernel_rfl) (by kernel_rfl) (fun _ _ _ h => h) (Or.inl ⟨by rfl, ?_⟩) (by assumption) ?_
  rotate_left
  · intro wz hSw; (try dsimp only at hSw); go_simp; (try with_reducible rfl)
  try simp only [Act.put, List.setIfInBounds_toArray, List.set_cons_zero, List.set_cons_succ]
  refine wpAnyK_take (by kernel_rfl) (i := 2) (oi := { dst := some 15, op := Go.Op.move (Go.Operand.tmp 3), type := 134, pos := "build.go:168", after := #[], guard := none }) (v := ?_) rfl (by kernel_rfl) (by kernel_rfl) (by kernel_rfl) (fun _ _ _ h => h) (Or.inl ⟨by rfl, ?_⟩) (by assumption) ?_
  rotate_left
  · intro wz hSw; (try dsimp only at hSw); go_simp; (try with_reducible rfl)
  try simp only [Act.put, List.setIfInBounds_toArray, List.set_cons_zero, List.set_cons_succ]
  refine wpAnyK_take (by kernel_rfl) (i := 3) (oi := { dst := some 16, op := Go.Op.load 104 (Go.Operand.tmp 5), type := 104, pos := "build.go:168", after := #[], guard := none }) rfl (by kernel_rfl) (by kernel_rfl) (by kernel_rfl) (fun _ _ _ h => h) (yieldsIf_load_mid (by rfl) _ _ rfl bc 0 rfl (cml c ka kc) _ (fun _ h => h.2) Tryz.underlying104 rfl (szCml _ _ _)) (by assumption) ?_
  try simp only [Act.put, List.setIfInBounds_toArray, List.set_cons_zero, List.set_cons_succ]
  refine wpAnyK_ready (rs := [4]) (by kernel_rfl) (by simp) ?_
  refine (AllReadyK.cons (o := { dst := some 17, op := Go.Op.call { callee := Go.Callee.value (Go.Operand.tmp 15), args := #[Go.Operand.tmp 16], argTypes := #[104] }, type := 93, pos := "build.go:168", after := #[{ on := 2, ground := Go.Ground.data }, { on := 3, ground := Go.Ground.data }], guard := none }) rfl (fun K hK => ?_) AllReadyK.nil)
  go_simp
  refine HU.out.mono ?_
  rintro e w1 ⟨g, rfl, hI, hb1⟩
  have H1 := hidV (And.intro hI hb1)
  clear hI hb1
  refine hK.out _ _ (fun _ => HS.out w1 H1.out.2) (fun hq => ?_)
  have hq := hq (by decide)
  clear hK K
  try simp only [Act.put, List.setIfInBounds_toArray, List.set_cons_zero, List.set_cons_succ]
  refine wpAnyK_take (by kernel_rfl) (i := 5) (oi := { dst := some 18, op := Go.Op.build 95 #[(0, Go.Operand.tmp 14), (1, Go.Operand.tmp 17)], type := 95, pos := "build.go:168", after := #[{ on := 1, ground := Go.Ground.data }, { on := 4, ground := Go.Ground.data }], guard := none }) (v := .agg #[.int .i64 am, .slice (some ⟨g, 0, none⟩) n n]) rfl (by kernel_rfl) (by kernel_rfl) (by kernel_rfl) (fun _ _ _ h => h) (Or.inl ⟨by rfl, ?_⟩) (by assumption) ?_
  · intro wz hSw; (try dsimp only at hSw); kernel_rfl
  try simp only [Act.put, List.setIfInBounds_toArray, List.set_cons_zero, List.set_cons_succ]
  refine wpAnyK_ready (rs := [6]) (by kernel_rfl) (by simp) ?_
  refine (AllReadyK.cons (o := { dst := some 19, op := Go.Op.buildSlice 48 1 #[(0, Go.Operand.tmp 18)], type := 48, pos := "build.go:168", after := #[{ on := 5, ground := Go.Ground.data }], guard := none }) rfl (fun K hK => ?_) AllReadyK.nil)
  refine step_sliceTo rfl (.tmp 18) rfl am (some ⟨g, 0, none⟩) n n (by rfl) ?_
  intro q w2 hq hql hb2
  have H2 : Hid (Below w0.heap.size w0 w2 ∧ LayR w2 B bo bp bc c ka kc os zs va vc ua uc A I ∧ Cd.BrIn w2 w0.heap.size (some ⟨g, 0, none⟩) n X ∧ w2.heap[q]? = some (.cells #[.int .i64 am, .slice (some ⟨g, 0, none⟩) n n] 95 (0, 0))) := ⟨Below.transS H1.out.2 hb2, HL.out.below (Below.transS H1.out.2 hb2), brIn_below H1.out.1 hb2, hq⟩
  clear hq hql hb2
  refine hK.out _ _ (fun _ => HS.out w2 H2.out.1) (fun hq => ?_)
  have hq := hq (by decide)
  clear hK K
  try simp only [Act.put, List.setIfInBounds_toArray, List.set_cons_zero, List.set_cons_succ]
  refine wpAnyK_ready (rs := [7]) (by kernel_rfl) (by simp) ?_
  refine (AllReadyK.cons (o := { dst := some 20, op := Go.Op.call { callee := Go.Callee.builtin Go.Builtin.append, args := #[Go.Operand.tmp 13, Go.Operand.tmp 19], argTypes := #[48, 48] }, type := 48, pos := "build.go:168", after := #[{ on := 0, ground := Go.Ground.data }, { on := 6, ground := Go.Ground.data }, { on := 4, ground := Go.Ground.chain }], guard := none }) rfl (fun K hK => ?_) AllReadyK.nil)
  refine step_append_To rfl (.tmp 13) (.tmp 19) rfl B q (.slice va os.length vc) os.length (flatL (oL os A) os.length) am (some ⟨g, 0, none⟩) n n (by rfl) (by rfl) H2.out.2.1.outs H2.out.2.1.lt.2.2.2.2.2.2 H2.out.2.2.2 (by have := HN.out; omega) ?_
  intro va' vc' w3 hown hgrow hloc
  have HO := H2.out.2.1.outs.lt
  have hfo : w3.heap[bo]? = some (.cells #[.slice va os.length vc] 48 (0, 0)) := by rw [hgrow.block bo (lt_of_block H2.out.2.1.fo) (fun e => by have := (HO bo e.symm).1; have := H2.out.2.1.lt; omega)]; exact H2.out.2.1.fo
  have hfc : w3.heap[bc]? = some (.cells (cmv c ka kc) 104 (0, 0)) := by rw [hgrow.block bc (lt_of_block H2.out.2.1.fc) (fun e => by have := (HO bc e.symm).1; have := H2.out.2.1.lt; omega)]; exact H2.out.2.1.fc
  have s3 : w3.cell? ⟨bo, 0, none⟩ = some (.slice va os.length vc) := by rw [cell_of_row _ _ 0 _ _ _ hfo]; rfl
  have f3 : w3.frozen? ⟨bo, 0, none⟩ = false := frozen_of_row w3 bo 0 _ _ hfo
  have hS3 : w3.cell? ⟨bo, 0, none⟩ = some (.slice va os.length vc) ∧ w3.rangeAt bc 0 (cml c ka kc) := ⟨s3, cml_range hfc⟩
  have HP : Hid (LayR (w3.setCell ⟨bo, 0, none⟩ (.slice va' (os.length + 1) vc')) B bo bp bc c ka kc (os ++ [⟨am, n, X⟩]) zs va' vc' ua uc (fun j => if j = os.length then (some ⟨g, 0, none⟩, n) else A j) (fun j => if j = os.length then (w0.heap.size, w2.heap.size) else I j)) :=
    H2.out.2.1.pushO hown hgrow hloc H2.out.2.2.1 HL.out.lt.2.2.2.2.2.2 (Nat.le_refl _) (fun g e => (HL.out.outs.lt g e).2) (fun g e => (HL.out.pls.lt g e).2) (by simp)
  have HF3 : Hid (FrB B [bo, bp] w (w3.setCell ⟨bo, 0, none⟩ (.slice va' (os.length + 1) vc'))) := ((HF0.out.trans (FrB.ofBelow H2.out.1 HL.out.lt.2.2.2.2.2.2)).trans (FrB.grown hgrow H2.out.2.1.lt.2.2.2.2.2.2 (fun g e => (HO g e).1))).setCell _ _ (by simp)
  clear hown hgrow hloc HO hfo hfc H1 H2 HL HU HS HF0
  refine hK.out _ _ (fun _ => hS3) (fun hq => ?_)
  have hq := hq (by decide)
  clear hK K hS3
  try simp only [Act.put, List.setIfInBounds_toArray, List.set_cons_zero, List.set_cons_succ]
  refine wpAnyK_ready (rs := [8]) (by kernel_rfl) (by simp) ?_
  refine (AllReadyK.cons (o := { dst := none, op := Go.Op.store 48 (Go.Operand.tmp 4) (Go.Operand.tmp 20), type := 0, pos := "build.go:168", after := #[{ on := 7, ground := Go.Ground.data }, { on := 7, ground := Go.Ground.chain }, { on := 0, ground := Go.Ground.phase }, { on := 1, ground := Go.Ground.phase }, { on := 2, ground := Go.Ground.phase }, { on := 3, ground := Go.Ground.phase }, { on := 4, ground := Go.Ground.phase }, { on := 5, ground := Go.Ground.phase }, { on := 6, ground := Go.Ground.phase }, { on := 7, ground := Go.Ground.phase }], guard := none }) rfl (fun K hK => ?_) AllReadyK.nil)
  go_simp
  refine hK.out _ _ (fun e => absurd rfl e) (fun _ => ?_)
  clear hK K
  try simp only [Act.put]
  refine wpAnyK_done (by kernel_rfl) (NoPanic.normal ?_) _
  try simp only [Act.put, List.setIfInBounds_toArray, List.set_cons_zero, List.set_cons_succ]
  clear hHeld s3 f3
  generalize w3.setCell ⟨bo, 0, none⟩ (.slice va' (os.length + 1) vc') = w4 at *
  have s4 : w4.cell? ⟨bp, 0, none⟩ = some (.slice ua zs.length uc) := by rw [cell_of_row _ _ 0 _ _ _ HP.out.fp]; rfl
  have HW4 : Hid (∀ w' : World, w'.heap[bp]? = some (.cells #[.slice ua zs.length uc] 61 (0, 0)) → w'.cell? ⟨bp, 0, none⟩ = some (.slice ua zs.length uc) ∧ w'.frozen? ⟨bp, 0, none⟩ = false) := fun w' h => ⟨by rw [cell_of_row _ _ 0 _ _ _ h]; rfl, frozen_of_row w' bp 0 _ _ h⟩
  go_wp2_with (first | (refine wpList_slicePl rfl _ rfl k id rfl ?_; intro w5 N5; have H5 := hidV (And.intro (HP.out.below N5.below) (And.intro N5.blk N5.below)); clear N5 s4) | (at_builtin; refine wpList_append_Pl rfl _ _ rfl B w4.heap.size (.slice ua zs.length uc) zs.length (flatL (pL zs) zs.length) k id rfl rfl H5.out.1.pls H5.out.1.lt.2.2.2.2.2.2 H5.out.2.1 (by have := HN.out; omega) ?_; intro ua' uc' w6 hown hgrow hloc; have HO := H5.out.1.pls.lt; have hfp : w6.heap[bp]? = some (.cells #[.slice ua zs.length uc] 61 (0, 0)) := (by rw [hgrow.block bp (lt_of_block H5.out.1.fp) (fun e => by have := (HO bp e.symm).1; have := H5.out.1.lt; omega)]; exact H5.out.1.fp); obtain ⟨s6, f6⟩ := HW4.out w6 hfp) | fail)
  refine bodyPost_ret (results_none rfl _ _ _) rfl ?_
  have hR := H5.out.1.pushP (x := (k, id)) hown hgrow hloc
  exact ⟨rfl, ⟨_, _, _, _, _, _, hR⟩, ((HF3.out.trans (FrB.ofBelow H5.out.2.2 HP.out.lt.2.2.2.2.2.2)).trans (FrB.grown hgrow H5.out.1.lt.2.2.2.2.2.2 (fun g e => (HO g e).1))).setCell _ _ (by simp)⟩
end Go.Proofs.YtjnepkggdkccaaaGreatDoor
/- build: a commitment's outputs, and what they are for. -/
namespace Go.Proofs.YtjnepkggdkccaaaGreatDoor
open Go.RowKit

def ifL {α : Type} (am : Int) (x : α) : List α := if 10 ≤ am then [x] else []
theorem ifL_len {α : Type} (am : Int) (x : α) : (ifL am x).length ≤ 1 := by unfold ifL; split <;> simp
theorem lay_any (kf : Nat) (eg : ∀ args w, (callFunc kf args).run Tryz.prog w = .ok (.enter kf args) w) (k id am : Int) (n : Nat) (X : Nat → Cd.Bv) (B bo bp bc : Nat) (c : Cm) (ka : Option Addr) (kc : Nat) (os : List To) (zs : List (Int × Int)) (w : World) (h : LayS w B bo bp bc c ka kc os zs)
    (hU : Calls Tryz.prog kf #[.agg (cmv c ka kc)] w.drew (UndR n X w.drew)) (ho : os.length ≤ 1000) (hz : zs.length ≤ 1000) :
    Calls Tryz.prog 46 #[.int .i64 k, .int .i64 id, .int .i64 am, .func (.func kf) #[] #[], .pointer (some ⟨bo, 0, none⟩), .pointer (some ⟨bc, 0, none⟩), .pointer (some ⟨bp, 0, none⟩)] w (LayPost B bo bp bc c ka kc (os ++ ifL am ⟨am, n, X⟩) (zs ++ ifL am (k, id)) w) := by
  by_cases ha : 10 ≤ am
  · rw [show ifL am (To.mk am n X) = [⟨am, n, X⟩] from if_pos ha, show ifL am (k, id) = [(k, id)] from if_pos ha]
    exact lay_yes kf eg k id am n X B bo bp bc c ka kc os zs w h ha hU ho hz
  · rw [show ifL am (To.mk am n X) = [] from if_neg ha, show ifL am (k, id) = [] from if_neg ha, List.append_nil, List.append_nil]
    exact lay_no kf k id am B bo bp bc c ka kc os zs w h ha
theorem LayR.setC {w w1 : World} {B bo bp bc : Nat} {c c' : Cm} {ka ka' : Option Addr} {kc kc' : Nat} {os : List To} {zs : List (Int × Int)} {va : Option Addr} {vc : Nat} {ua : Option Addr} {uc : Nat} {A : Nat → Option Addr × Nat} {I : Nat → Nat × Nat} (h : LayR w B bo bp bc c ka kc os zs va vc ua uc A I) (hf : Frm [bc] w w1) (hn : w1.heap[bc]? = some (.cells (cmv c' ka' kc') 104 (0, 0))) : LayR w1 B bo bp bc c' ka' kc' os zs va vc ua uc A I := by
  obtain ⟨l1, l2, l3, l4, l5, l6, l7⟩ := h.lt
  have hs := hf.size
  refine ⟨hf.heap h.fo (by simp; omega), hf.heap h.fp (by simp; omega), hn, ⟨l1, l2, l3, l4, l5, l6, by omega⟩, own_keep h.outs (fun g e => hf.block g (h.outs.lt g e).2 (by have := (h.outs.lt g e).1; simp; omega)), own_keep h.pls (fun g e => hf.block g (h.pls.lt g e).2 (by have := (h.pls.lt g e).1; simp; omega)), fun j hj w' hw => h.cond j hj w' (fun k h1 h2 => ?_), fun j hj => ⟨(h.int j hj).1, by have := (h.int j hj).2.1; omega, (h.int j hj).2.2⟩, h.apO, h.apP⟩
  rw [hw k h1 h2]
  have := h.int j hj
  exact hf.block k (by omega) (by simp; omega)
theorem cm_setY (c : Cm) (ka : Option Addr) (kc : Nat) (y : Py) {w : World} {g : Nat} {t : TypeId} (h : w.heap[g]? = some (.cells (cmv c ka kc) t (0, 0))) : (w.setCells g 71 (pyl y)).heap[g]? = some (.cells (cmv { c with y := y } ka kc) t (0, 0)) := by
  have := setCells_at g (pyl y) 71 w (pml c.P ++ ([.int .i64 c.o] ++ bl c.lk 32)) (pyl c.y ++ hdl c.h ka kc) t (by simpa [cmv, cml] using h) (by simp [pml_length, bl_length]) (by simp [pyl_length])
  rw [this]
  simp [cmv, cml, pyl_length]
theorem cm_setH (c : Cm) (ka ka' : Option Addr) (kc kc' : Nat) (x : Hd) {w : World} {g : Nat} {t : TypeId} (h : w.heap[g]? = some (.cells (cmv c ka kc) t (0, 0))) : (w.setCells g 107 (hdl x ka' kc')).heap[g]? = some (.cells (cmv { c with h := x } ka' kc') t (0, 0)) := by
  have := setCells_at g (hdl x ka' kc') 107 w (pml c.P ++ ([.int .i64 c.o] ++ (bl c.lk 32 ++ pyl c.y))) (hdl c.h ka kc) t (by simpa [cmv, cml] using h) (by simp [pml_length, bl_length, pyl_length]) (by simp [hdl])
  rw [this]
  simp [cmv, cml, hdl]
theorem hdl1 (x : Hd) (ka : Option Addr) (kc : Nat) : ∀ u ∈ hdl x ka kc, u.oneCell' = true := by
  intro u hu
  simp [hdl] at hu
  rcases hu with rfl | rfl | rfl <;> rfl
section
variable {ops : Array Oper} {rest : List Oper} {o : Oper} {a : Act} {w : World} {Q : Exit → Act → World → Prop}
theorem wpList_storeCy (hgd : o.guard = none) (x y : Operand) (ho : o.op = .store 97 x y) (g : Nat) (hx : a.eval x = .pointer (some ⟨g, 71, none⟩)) (z : Py) (hy : a.eval y = .agg (pyl z).toArray) (c : Cm) (ka : Option Addr) (kc : Nat) (t : TypeId) (hg : w.heap[g]? = some (.cells (cmv c ka kc) t (0, 0)))
    (h : ∀ w', w'.heap[g]? = some (.cells (cmv { c with y := z } ka kc) t (0, 0)) → Frm [g] w w' → wpList Tryz.prog ops Q rest (a.put o.dst undef) w') : wpList Tryz.prog ops Q (o :: rest) a w := by
  refine wpList_store_mid hgd 97 x y ho g 71 (pyl z).toArray hx hy ?_ (szPv z) (all_oneCell_toArray (pyl_one z)) (h _ (cm_setY c ka kc z hg) (setCells_frm g _ 71 w))
  intro j hj
  simp only [List.size_toArray, pyl_length] at hj
  refine ⟨?_, frozen_of_row w g _ _ t hg⟩
  rw [cell_of_row w g _ _ t _ hg]
  simp [cmv_size]
  omega
theorem wpList_storeCh (hgd : o.guard = none) (x y : Operand) (ho : o.op = .store 99 x y) (g : Nat) (hx : a.eval x = .pointer (some ⟨g, 107, none⟩)) (z : Hd) (ka' : Option Addr) (kc' : Nat) (hy : a.eval y = .agg (hdl z ka' kc').toArray) (c : Cm) (ka : Option Addr) (kc : Nat) (t : TypeId) (hg : w.heap[g]? = some (.cells (cmv c ka kc) t (0, 0)))
    (h : ∀ w', w'.heap[g]? = some (.cells (cmv { c with h := z } ka' kc') t (0, 0)) → Frm [g] w w' → wpList Tryz.prog ops Q rest (a.put o.dst undef) w') : wpList Tryz.prog ops Q (o :: rest) a w := by
  refine wpList_store_mid hgd 99 x y ho g 107 (hdl z ka' kc').toArray hx hy ?_ szH (all_oneCell_toArray (hdl1 z ka' kc')) (h _ (cm_setH c ka ka' kc kc' z hg) (setCells_frm g _ 107 w))
  intro j hj
  simp only [List.size_toArray, hdl, List.length_cons, List.length_nil] at hj
  refine ⟨?_, frozen_of_row w g _ _ t hg⟩
  rw [cell_of_row w g _ _ t _ hg]
  simp [cmv_size]
  omega
end
theorem run_allocTos (w : World) : (Instr.alloc 48 true (.tuple #[])).run Tryz.prog w = .ok (.pointer (some ⟨w.heap.size, 0, none⟩)) (w.alloc (.cells #[.slice none 0 0] 48)) := by kernel_rfl
theorem run_allocPls (w : World) : (Instr.alloc 61 true (.tuple #[])).run Tryz.prog w = .ok (.pointer (some ⟨w.heap.size, 0, none⟩)) (w.alloc (.cells #[.slice none 0 0] 61)) := by kernel_rfl
theorem run_allocPy (w : World) : (Instr.alloc 97 true (.tuple #[])).run Tryz.prog w = .ok (.pointer (some ⟨w.heap.size, 0, none⟩)) (w.alloc (.cells (pyv p0) 97)) := by kernel_rfl
theorem run_allocHd (w : World) : (Instr.alloc 99 true (.tuple #[])).run Tryz.prog w = .ok (.pointer (some ⟨w.heap.size, 0, none⟩)) (w.alloc (.cells (hdv default none 0) 99)) := by kernel_rfl
theorem pyl_range {w : World} {g : Nat} {x : Py} {t : TypeId} {fr : Nat × Nat} (h : w.heap[g]? = some (.cells (pyv x) t fr)) : w.rangeAt g 0 (pyl x) := fun j v hv => by
  rw [Nat.zero_add, cell_of_row _ _ j _ _ _ h]
  simpa [pyv] using hv
theorem hdl_range {w : World} {g : Nat} {x : Hd} {ka : Option Addr} {kc : Nat} {t : TypeId} {fr : Nat × Nat} (h : w.heap[g]? = some (.cells (hdv x ka kc) t fr)) : w.rangeAt g 0 (hdl x ka kc) := fun j v hv => by
  rw [Nat.zero_add, cell_of_row _ _ j _ _ _ h]
  simpa [hdv, hdl] using hv
/-- The other side's, for either owner. -/
theorem other_any (c : Cm) (ka : Option Addr) (kc : Nat) (w : World) (ho : c.o = 0 ∨ c.o = 1) (hk : Ib c.P.k0 ∧ Ib c.P.k1) :
    Calls Tryz.prog 48 #[.agg (cmv c ka kc)] w (UndR 1 (fun _ => Cd.kb [keyS c.P (1 - c.o)]) w) := by
  obtain ⟨P, o, lk, y, h⟩ := c
  rcases ho with rfl | rfl
  · exact other_0 P lk y h ka kc w hk.2
  · exact other_1 P lk y h ka kc w hk.1
/-- What a commitment's outputs are: its own, the other side's, the payments', the holds'. -/
def ownO (c : Cm) (s : Sv) : To := ⟨leftF c.P s c.o, 2, fun i => if i = 0 then brS c c.o else rvS c⟩
def othO (c : Cm) (s : Sv) : To := ⟨leftF c.P s (1 - c.o), 1, fun _ => Cd.kb [keyS c.P (1 - c.o)]⟩
def payO (c : Cm) (y : Py) : To := ⟨y.am, 3, pdS { c with y := y }⟩
def hldO (x : Hd) : To := ⟨x.am, 1, fun _ => Cd.kb (Cd.insL x.z x.n)⟩
def sideO (c : Cm) (s : Sv) : List To := ifL (leftF c.P s c.o) (ownO c s) ++ ifL (leftF c.P s (1 - c.o)) (othO c s)
def sideZ (c : Cm) (s : Sv) : List (Int × Int) := ifL (leftF c.P s c.o) (1, 0) ++ ifL (leftF c.P s (1 - c.o)) (2, 0)
def paysO (c : Cm) (s : Sv) (n : Nat) : List To := sideO c s ++ (List.range n).map fun i => payO c (s.P i)
def paysZ (c : Cm) (s : Sv) (n : Nat) : List (Int × Int) := sideZ c s ++ (List.range n).map fun i => (3, (s.P i).id)
def outsO (c : Cm) (s : Sv) (n : Nat) : List To := paysO c s s.pn ++ (List.range n).map fun i => hldO (s.H i)
def outsZ (c : Cm) (s : Sv) (n : Nat) : List (Int × Int) := paysZ c s s.pn ++ (List.range n).map fun i => (4, (s.H i).id)
theorem sideO_len (c : Cm) (s : Sv) : (sideO c s).length ≤ 2 ∧ (sideZ c s).length ≤ 2 := by
  have h1 := ifL_len (leftF c.P s c.o) (ownO c s)
  have h2 := ifL_len (leftF c.P s (1 - c.o)) (othO c s)
  have h3 := ifL_len (leftF c.P s c.o) ((1, 0) : Int × Int)
  have h4 := ifL_len (leftF c.P s (1 - c.o)) ((2, 0) : Int × Int)
  simp only [sideO, sideZ, List.length_append]
  omega
theorem paysO_len (c : Cm) (s : Sv) (n : Nat) : (paysO c s n).length ≤ 2 + n ∧ (paysZ c s n).length ≤ 2 + n := by
  have := sideO_len c s
  simp only [paysO, paysZ, List.length_append, List.length_map, List.length_range]
  omega
theorem outsO_len (c : Cm) (s : Sv) (n : Nat) : (outsO c s n).length ≤ 2 + s.pn + n ∧ (outsZ c s n).length ≤ 2 + s.pn + n := by
  have := paysO_len c s s.pn
  simp only [outsO, outsZ, List.length_append, List.length_map, List.length_range]
  omega
theorem paysO_succ (c : Cm) (s : Sv) (n : Nat) (h : 10 ≤ (s.P n).am) : paysO c s n ++ ifL (s.P n).am (payO c (s.P n)) = paysO c s (n + 1) ∧ paysZ c s n ++ ifL (s.P n).am (3, (s.P n).id) = paysZ c s (n + 1) := by
  simp [paysO, paysZ, ifL, h, List.range_succ]
theorem outsO_succ (c : Cm) (s : Sv) (n : Nat) (h : 10 ≤ (s.H n).am) : outsO c s n ++ ifL (s.H n).am (hldO (s.H n)) = outsO c s (n + 1) ∧ outsZ c s n ++ ifL (s.H n).am (4, (s.H n).id) = outsZ c s (n + 1) := by
  simp [outsO, outsZ, ifL, h, List.range_succ]
/-- Params, an owner and a lock that may be. -/
structure CmOk (c : Cm) : Prop where
  o : c.o = 0 ∨ c.o = 1
  k : (0 ≤ c.P.k0 ∧ c.P.k0 ≤ 15) ∧ (0 ≤ c.P.k1 ∧ c.P.k1 ≤ 15)
  dl : 0 ≤ c.P.dl ∧ c.P.dl ≤ 65536
  fe : 0 ≤ c.P.fe ∧ c.P.fe ≤ 1125899906842624
  lk : Zb c.lk
theorem keyS_ib {c : Cm} (h : CmOk c) (d : Int) : Ib (keyS c.P d) := by
  have := h.k
  unfold keyS Ib
  split <;> omega
theorem nz_zb : Zb nz := fun j _ => by simp [nz]
theorem brS_ok {c : Cm} (h : CmOk c) (d : Int) : (brS c d).Ok := by
  refine ⟨fun j _ => keyS_ib h d, nz_zb, by simp [brS, Cd.Ib], ?_⟩
  have := h.dl
  simp only [brS, Cd.Ib]
  split <;> omega
theorem rvS_ok {c : Cm} (h : CmOk c) : (rvS c).Ok := ⟨fun j _ => keyS_ib h _, h.lk, by simp [rvS, Cd.Ib], by simp [rvS, Cd.Ib]⟩
theorem toS_ok {c : Cm} (h : CmOk c) (hy : Zb c.y.lk) : (toS c).Ok := ⟨(brS_ok h (1 - c.y.fr)).z, hy, (brS_ok h (1 - c.y.fr)).af, (brS_ok h (1 - c.y.fr)).ol⟩
theorem bkS_ok {c : Cm} (h : CmOk c) (hy : 0 ≤ c.y.af ∧ c.y.af ≤ 1099511627776) : (bkS c).Ok := ⟨(brS_ok h c.y.fr).z, (brS_ok h c.y.fr).lk, by simp only [bkS, Cd.Ib]; omega, (brS_ok h c.y.fr).ol⟩
theorem lay_start {w : World} {B bo bp bc : Nat} {c : Cm} {ka : Option Addr} {kc : Nat} (fo : w.heap[bo]? = some (.cells #[.slice none 0 0] 48 (0, 0))) (fp : w.heap[bp]? = some (.cells #[.slice none 0 0] 61 (0, 0))) (fc : w.heap[bc]? = some (.cells (cmv c ka kc) 104 (0, 0))) (lt : bo < B ∧ bp < B ∧ bc < B ∧ bo ≠ bp ∧ bo ≠ bc ∧ bp ≠ bc ∧ B ≤ w.heap.size) : LayS w B bo bp bc c ka kc [] [] :=
  ⟨none, 0, none, 0, fun _ => (none, 0), fun _ => (0, 0), fo, fp, fc, lt, World.ownsRow_nil _ _ _ _, World.ownsRow_nil _ _ _ _, (fun j hj => by simp at hj), (fun j hj => by simp at hj), (fun j hj => by simp at hj), (fun j hj => by simp at hj)⟩
theorem LayS.below {w w1 : World} {B bo bp bc : Nat} {c : Cm} {ka : Option Addr} {kc : Nat} {os : List To} {zs : List (Int × Int)} (h : LayS w B bo bp bc c ka kc os zs) (hb : Below w.heap.size w w1) : LayS w1 B bo bp bc c ka kc os zs := by
  obtain ⟨va, vc, ua, uc, A, I, h⟩ := h
  exact ⟨va, vc, ua, uc, A, I, h.below hb⟩
theorem LayS.setC {w w1 : World} {B bo bp bc : Nat} {c c' : Cm} {ka ka' : Option Addr} {kc kc' : Nat} {os : List To} {zs : List (Int × Int)} (h : LayS w B bo bp bc c ka kc os zs) (hf : Frm [bc] w w1) (hn : w1.heap[bc]? = some (.cells (cmv c' ka' kc') 104 (0, 0))) : LayS w1 B bo bp bc c' ka' kc' os zs := by
  obtain ⟨va, vc, ua, uc, A, I, h⟩ := h
  exact ⟨va, vc, ua, uc, A, I, h.setC hf hn⟩
theorem LayS.fc {w : World} {B bo bp bc : Nat} {c : Cm} {ka : Option Addr} {kc : Nat} {os : List To} {zs : List (Int × Int)} (h : LayS w B bo bp bc c ka kc os zs) : w.heap[bc]? = some (.cells (cmv c ka kc) 104 (0, 0)) ∧ B ≤ w.heap.size := by
  obtain ⟨va, vc, ua, uc, A, I, h⟩ := h
  exact ⟨h.fc, h.lt.2.2.2.2.2.2⟩
/-- The outputs and places as they are answered. -/
structure OutR (w : World) (B : Nat) (os : List To) (zs : List (Int × Int)) (va : Option Addr) (vc : Nat) (ua : Option Addr) (uc : Nat) (A : Nat → Option Addr × Nat) (I : Nat → Nat × Nat) : Prop where
  outs : w.ownsRow B 95 2 (.slice va os.length vc) os.length (flatL (oL os A) os.length)
  pls : w.ownsRow B 71 2 (.slice ua zs.length uc) zs.length (flatL (pL zs) zs.length)
  cond : ∀ j, j < os.length → ∀ w' : World, (∀ k, (I j).1 ≤ k → k < (I j).2 → w'.heap[k]? = w.heap[k]?) → Cd.BrAt w' (A j).1 (os.getD j default).cn (os.getD j default).X
  int : ∀ j, j < os.length → B ≤ (I j).1 ∧ (I j).2 ≤ w.heap.size ∧ (A j).1 ≠ none
  apO : ∀ j, j < os.length → ∀ g, (Value.slice va os.length vc).ownBlock = some g → g < (I j).1 ∨ (I j).2 ≤ g
theorem LayR.out {w : World} {B bo bp bc : Nat} {c : Cm} {ka : Option Addr} {kc : Nat} {os : List To} {zs : List (Int × Int)} {va : Option Addr} {vc : Nat} {ua : Option Addr} {uc : Nat} {A : Nat → Option Addr × Nat} {I : Nat → Nat × Nat} (h : LayR w B bo bp bc c ka kc os zs va vc ua uc A I) {B' : Nat} (hB : B' ≤ B) : OutR w B' os zs va vc ua uc A I :=
  ⟨own_low h.outs hB, own_low h.pls hB, h.cond, fun j hj => ⟨by have := (h.int j hj).1; omega, (h.int j hj).2⟩, h.apO⟩
end Go.Proofs.YtjnepkggdkccaaaGreatDoor
