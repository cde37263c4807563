/- Write, walked. -/
import Derived.Test.YtbfajoeilpkofaaGreatDoorOwnShelf13
namespace Go.Proofs.YtbfajoeilpkofaaGreatDoor
open Go.RowKit

attribute [local go_sem ↓] Go.wp_at_zero Go.wp_at_succ

/-- What a write leaves. -/
def WrR (p q : Nat) (lo : Value) (F : Nat → Prop) (S : St) (pg : Int) (l : List Int) (w : World) (e : Ending) (w' : World) : Prop :=
  e = .returned (errV (stepE S)) ∧ ∃ y : Bs, y.l = l ∧ ∃ lo' F', St0 w' p q lo' F' (stepS (S.put pg y)) ∧ Fr (Mine p q lo F) w w' ∧ ∀ k, Mine p q lo' F' k → Mine p q lo F k ∨ (w.heap.size ≤ k ∧ k < w'.heap.size)
theorem stepE_put (S : St) (pg : Int) (y : Bs) : stepE (S.put pg y) = stepE S := rfl
theorem app_run {w w1 : World} {p q : Nat} {lo : Value} {F : Nat → Prop} {S : St} {ad : Option Addr} {cap : Nat} {l : List Int} (h : St0 w p q lo F S) (how : Ow w w1 (.slice ad l.length cap) l) (pg : Int) (hfew : S.loose.length < 1000000) :
    ∃ v' w3, (Builtin.append_ #[73, 73] 73 #[lo, .slice (some ⟨w1.heap.size, 0, none⟩) 1 1]).run Tryz.prog (w1.alloc (.cells #[.int .i64 pg, .slice ad l.length cap] 79)) = .ok v' w3 ∧
      w3.ownsRow 0 79 2 v' (S.loose.length + 1) (flatW S.loose ++ [.int .i64 pg, .slice ad l.length cap]) ∧ (w1.alloc (.cells #[.int .i64 pg, .slice ad l.length cap] 79)).grownBy w3 lo.ownBlock ∧ (v'.ownBlock = lo.ownBlock ∨ v'.ownBlock = some (w1.alloc (.cells #[.int .i64 pg, .slice ad l.length cap] 79)).heap.size) := by
  obtain ⟨i0, hi0, hz0, hz1, hz2⟩ := info_parts Tryz.infoW
  have hown : (w1.alloc (.cells #[.int .i64 pg, .slice ad l.length cap] 79)).ownsRow 0 79 2 lo S.loose.length (flatW S.loose) :=
    (owns_row_keep h.loose fun k e => how.below.block k (h.ltlo e)).alloc _
  obtain ⟨v', w4, hr, h2, h3, _, h5⟩ := run_append_own_at (P := Tryz.prog) _ 0 73 73 79 i0 (.agg #[.int .i64 0, .slice none 0 0]) 2 32 Tryz.underlying73 hi0 hz0 hz1 hz2 rfl (by decide) lo S.loose.length (flatW S.loose) hown ⟨w1.heap.size, 0, none⟩ 1 1 [.int .i64 pg, .slice ad l.length cap] (by simp)
    (fun j u hj => by
      have hnew := heap_alloc_new w1 (.cells #[.int .i64 pg, .slice ad l.length cap] 79)
      rw [Addr.add_lit, Nat.zero_add, cell_of_row _ _ j _ _ _ hnew]
      simpa using hj)
    (by simp [Value.oneCell']) (by unfold maxLen; omega) (by omega) (by omega)
  exact ⟨v', w4, hr, h2, h3, h5⟩
theorem put_cell {w w1 w3 : World} {p q : Nat} {lo : Value} {F : Nat → Prop} {S : St} {v : Value} {l : List Int} {o : Obj} (h : St0 w p q lo F S) (how : Ow w w1 v l) (hgrow : (w1.alloc o).grownBy w3 lo.ownBlock) : w3.cell? ⟨p, 1, none⟩ = some lo ∧ w3.frozen? ⟨p, 1, none⟩ = false := by
  have lp := h.lt (k := p) (.inl rfl)
  have s1 := how.below.size
  have c3 : w3.heap[p]? = some (.cells (stC q lo S) 75 (0, 0)) := by
    rw [hgrow.block p (by simp; omega) (fun e => (h.nlo p e.symm).1 rfl), Below.heap_alloc _ _ _ (by omega), how.below.block p lp]; exact h.cells
  exact ⟨by rw [cell_of_row w3 p 1 _ _ _ c3]; rfl, frozen_of_row w3 p 1 _ _ c3⟩
theorem wr_end {w w3 : World} {p q : Nat} {lo lo' : Value} {F F' : Nat → Prop} {S : St} {pg : Int} {y : Bs} (_ : St0 w3 p q lo' F' (S.put pg y)) (hF : Fr (Mine p q lo F) w w3) (hM : ∀ k, Mine p q lo' F' k → Mine p q lo F k ∨ (w.heap.size ≤ k ∧ k < w3.heap.size)) {e : Ending} {w' : World} (h : StepR p q lo' F' (S.put pg y) w3 e w') : WrR p q lo F S pg y.l w e w' := by
  obtain ⟨rfl, hs, hf, hz⟩ := h
  refine ⟨rfl, y, rfl, lo', F', hs, hF.trans (Fr.ofFrm hf) (fun i _ hi => ?_), fun k hk => ?_⟩
  · have : i = p := by simpa using hi
    exact .inl this
  · rw [hz]; exact hM k hk
set_option maxRecDepth 100000 in
set_option maxHeartbeats 1600000 in
theorem write_ok (p q : Nat) (lo : Value) (F : Nat → Prop) (S : St) (pg : Int) (ad : Option Addr) (cap : Nat) (l : List Int) (w : World) (h : St0 w p q lo F S) (hs : 0 ≤ S.steps ∧ S.steps < 9223372036854775808)
    (hp : 0 ≤ pg ∧ pg < S.safe.length) (hd : S.down = false) (hfew : S.loose.length < 1000000) (hb : SlAt w ad l.length (fn l)) (hn : ad = none → l.length = 0 ∧ cap = 0) (hy : ∀ y, y ∈ l → 0 ≤ y ∧ y ≤ 255) (hl : l.length ≤ 4096) :
    Calls Tryz.prog 10 #[.pointer (some ⟨p, 0, none⟩), .int .i64 pg, .slice ad l.length cap] w (WrR p q lo F S pg l w) := by
  have hh := has_any p q lo F S pg w h
  have e1 : decide (0 ≤ pg ∧ pg < S.safe.length) = true := by simp [hp]
  rw [e1] at hh
  have h4 := h.c4
  rw [hd] at h4
  have h1 := h.c1
  have hlI : ¬ ((4096 : Int) < (l.length : Int)) := by omega
  have hlD : decide ((4096 : Int) < (l.length : Int)) = false := by simp; omega
  have H0 : Hid (St0 w p q lo F S) := h
  have hcl := clone_any ad cap l w.drew hb hn hy (by omega)
  have HP : Hid (0 ≤ pg ∧ pg < S.safe.length) := hp
  clear h hd hb hn hy e1 hp
  go_enter Tryz.func10, Tryz.ntmps10
  go_wp2_with fail
  refine hh.mono ?_
  rintro e w0 ⟨rfl, hw0⟩
  rw [hw0]
  clear hh hw0 w0
  go_wp2_with fail
  refine wp_region_noPanic ?_
  refine wp_region_held_drew (S := fun _ => True) (by kernel_rfl) trivial (fun hHeld => ?_)
  refine wpAnyH_take (i := 0) (oi := { dst := some 24, op := Go.Op.move (Go.Operand.tmp 0), type := 24, pos := "pages.go:62", after := #[], guard := none }) (v := ?_) rfl (by kernel_rfl) (by kernel_rfl) (by kernel_rfl) (fun _ _ _ h => h) (Or.inl ⟨by rfl, ?_⟩) (by assumption) ?_
  rotate_left
  · intro wz hSw; (try dsimp only at hSw); go_simp; (try with_reducible rfl)
  try simp only [Act.put, List.setIfInBounds_toArray, List.set_cons_zero, List.set_cons_succ]
  refine wpAnyH_take (i := 1) (oi := { dst := some 25, op := Go.Op.move (Go.Operand.tmp 0), type := 24, pos := "pages.go:62", after := #[], guard := none }) (v := ?_) rfl (by kernel_rfl) (by kernel_rfl) (by kernel_rfl) (fun _ _ _ h => h) (Or.inl ⟨by rfl, ?_⟩) (by assumption) ?_
  rotate_left
  · intro wz hSw; (try dsimp only at hSw); go_simp; (try with_reducible rfl)
  try simp only [Act.put, List.setIfInBounds_toArray, List.set_cons_zero, List.set_cons_succ]
  refine wpAnyH_take (i := 2) (oi := { dst := some 26, op := Go.Op.nilCheck (Go.Operand.tmp 25), type := 0, pos := "pages.go:62", after := #[{ on := 1, ground := Go.Ground.data }], guard := none }) (v := ?_) rfl (by kernel_rfl) (by kernel_rfl) (by kernel_rfl) (fun _ _ _ h => h) (Or.inl ⟨by rfl, ?_⟩) (by assumption) ?_
  rotate_left
  · intro wz hSw; (try dsimp only at hSw); go_simp; (try with_reducible rfl)
  try simp only [Act.put, List.setIfInBounds_toArray, List.set_cons_zero, List.set_cons_succ]
  refine wpAnyH_take (i := 3) (oi := { dst := some 27, op := Go.Op.fieldAddr 75 (Go.Operand.tmp 26) 1, type := 0, pos := "pages.go:62", after := #[{ on := 2, ground := Go.Ground.data }], guard := none }) (v := ?_) rfl (by kernel_rfl) (by kernel_rfl) (by kernel_rfl) (fun _ _ _ h => h) (Or.inl ⟨by rfl, ?_⟩) (by assumption) ?_
  rotate_left
  · intro wz hSw; (try dsimp only at hSw); go_simp; (try with_reducible rfl)
  try simp only [Act.put, List.setIfInBounds_toArray, List.set_cons_zero, List.set_cons_succ]
  refine wpAnyH_take (i := 5) (oi := { dst := some 29, op := Go.Op.move (Go.Operand.tmp 1), type := 3, pos := "pages.go:62", after := #[], guard := none }) (v := ?_) rfl (by kernel_rfl) (by kernel_rfl) (by kernel_rfl) (fun _ _ _ h => h) (Or.inl ⟨by rfl, ?_⟩) (by assumption) ?_
  rotate_left
  · intro wz hSw; (try dsimp only at hSw); go_simp; (try with_reducible rfl)
  try simp only [Act.put, List.setIfInBounds_toArray, List.set_cons_zero, List.set_cons_succ]
  refine wpAnyH_take (i := 6) (oi := { dst := some 30, op := Go.Op.move (Go.Operand.tmp 2), type := 29, pos := "pages.go:62", after := #[], guard := none }) (v := ?_) rfl (by kernel_rfl) (by kernel_rfl) (by kernel_rfl) (fun _ _ _ h => h) (Or.inl ⟨by rfl, ?_⟩) (by assumption) ?_
  rotate_left
  · intro wz hSw; (try dsimp only at hSw); go_simp; (try with_reducible rfl)
  try simp only [Act.put, List.setIfInBounds_toArray, List.set_cons_zero, List.set_cons_succ]
  refine wpAnyH_ready (rs := [4, 7]) (by kernel_rfl) (by simp) ?_
  refine (AllReadyH.cons (o := { dst := some 28, op := Go.Op.load 73 (Go.Operand.tmp 27), type := 73, pos := "pages.go:62", after := #[{ on := 3, ground := Go.Ground.data }], guard := none }) rfl (fun K hK => ?_) (AllReadyH.cons (o := { dst := some 31, op := Go.Op.call { callee := Go.Callee.value (Go.Operand.func 31), args := #[Go.Operand.tmp 30], argTypes := #[29] }, type := 29, pos := "pages.go:62", after := #[{ on := 6, ground := Go.Ground.data }], guard := none }) rfl (fun K hK => ?_) AllReadyH.nil))
  · go_simp
    refine hK.out _ _ trivial (fun _ => ?_)
    clear hK K
    try simp only [Act.put, List.setIfInBounds_toArray, List.set_cons_zero, List.set_cons_succ]
    refine wpAnyH_ready (rs := [7]) (by kernel_rfl) (by simp) ?_
    refine (AllReadyH.cons (o := { dst := some 31, op := Go.Op.call { callee := Go.Callee.value (Go.Operand.func 31), args := #[Go.Operand.tmp 30], argTypes := #[29] }, type := 29, pos := "pages.go:62", after := #[{ on := 6, ground := Go.Ground.data }], guard := none }) rfl (fun K hK => ?_) AllReadyH.nil)
    go_simp
    refine hcl.mono ?_
    rintro e w1 ⟨ad1, cp1, rfl, how0⟩
    have how := how0.ofDrew
    have k1 : w1.cell? ⟨p, 1, none⟩ = some lo := by rw [how.below.cell (p := ⟨p, 1, none⟩) (H0.out.lt (.inl rfl))]; exact h1
    obtain ⟨v', w3, hrunA, hown', hgrow, hloc⟩ := app_run (w1 := w1) H0.out how pg hfew
    have hk2 : w1.heap[p]? = w.heap[p]? := how.below.block p (H0.out.lt (.inl rfl))
    have k2 : (w1.alloc (.cells #[.int .i64 pg, .slice ad1 l.length cp1] 79)).cell? ⟨p, 1, none⟩ = some lo := by rw [World.cell?_alloc_lt _ _ _ (World.block_lt_of_cell? w1 _ k1)]; exact k1
    obtain ⟨F', hS', hF', hM'⟩ := put_end H0.out how hl HP.out hfew hown' hgrow hloc
    have HN : Hid (∀ e w', StepR p q v' F' (S.put pg ⟨ad1, cp1, l⟩) (w3.setCell ⟨p, 1, none⟩ v') e w' → WrR p q lo F S pg l w e w') := fun e w' hh => wr_end hS' hF' hM' hh
    have hst := step_any p q v' F' (S.put pg ⟨ad1, cp1, l⟩) _ hS' hs
    obtain ⟨k3, f3⟩ := put_cell H0.out how hgrow
    obtain ⟨va, vc, rfl⟩ : ∃ a c, v' = .slice a (S.loose.length + 1) c := by
      rcases hown'.2 with ⟨_, e⟩ | ⟨q, cap, cur, e, -⟩
      · omega
      · exact ⟨_, _, e⟩
    clear how how0 hS' hF' hM' hown' hgrow hloc hk2
    refine hK.out _ _ trivial (fun _ => ?_)
    clear hK K
    try simp only [Act.put, List.setIfInBounds_toArray, List.set_cons_zero, List.set_cons_succ]
    refine wpAnyH_take (i := 8) (oi := { dst := some 32, op := Go.Op.build 79 #[(0, Go.Operand.tmp 29), (1, Go.Operand.tmp 31)], type := 79, pos := "pages.go:62", after := #[{ on := 5, ground := Go.Ground.data }, { on := 7, ground := Go.Ground.data }], guard := none }) (v := .agg #[.int .i64 pg, .slice ad1 l.length cp1]) rfl (by kernel_rfl) (by kernel_rfl) (by kernel_rfl) (fun _ _ _ h => h) (Or.inl ⟨by rfl, ?_⟩) (by assumption) ?_
    · intro wz hSw; (try dsimp only at hSw); kernel_rfl
    try simp only [Act.put, List.setIfInBounds_toArray, List.set_cons_zero, List.set_cons_succ]
    refine wpAnyH_ready (rs := [9]) (by kernel_rfl) (by simp) ?_
    refine (AllReadyH.cons (o := { dst := some 33, op := Go.Op.buildSlice 73 1 #[(0, Go.Operand.tmp 32)], type := 73, pos := "pages.go:62", after := #[{ on := 8, ground := Go.Ground.data }], guard := none }) rfl (fun K hK => ?_) AllReadyH.nil)
    refine step_sliceW rfl _ rfl (.int .i64 pg) (.slice ad1 l.length cp1) (by rfl) ?_
    refine hK.out _ _ trivial (fun _ => ?_)
    clear hK K
    try simp only [Act.put, List.setIfInBounds_toArray, List.set_cons_zero, List.set_cons_succ]
    refine wpAnyH_ready (rs := [10]) (by kernel_rfl) (by simp) ?_
    refine (AllReadyH.cons (o := { dst := some 34, op := Go.Op.call { callee := Go.Callee.builtin Go.Builtin.append, args := #[Go.Operand.tmp 28, Go.Operand.tmp 33], argTypes := #[73, 73] }, type := 73, pos := "pages.go:62", after := #[{ on := 4, ground := Go.Ground.data }, { on := 9, ground := Go.Ground.data }, { on := 7, ground := Go.Ground.chain }], guard := none }) rfl (fun K hK => ?_) AllReadyH.nil)
    refine step_append rfl _ _ _ rfl (by rfl) (by rfl) hrunA ?_
    refine hK.out _ _ trivial (fun _ => ?_)
    clear hK K
    try simp only [Act.put, List.setIfInBounds_toArray, List.set_cons_zero, List.set_cons_succ]
    refine wpAnyH_take (i := 11) (oi := { dst := some 35, op := Go.Op.nilCheck (Go.Operand.tmp 24), type := 0, pos := "pages.go:62", after := #[{ on := 0, ground := Go.Ground.data }, { on := 0, ground := Go.Ground.phase }, { on := 1, ground := Go.Ground.phase }, { on := 2, ground := Go.Ground.phase }, { on := 3, ground := Go.Ground.phase }, { on := 4, ground := Go.Ground.phase }, { on := 5, ground := Go.Ground.phase }, { on := 6, ground := Go.Ground.phase }, { on := 7, ground := Go.Ground.phase }, { on := 8, ground := Go.Ground.phase }, { on := 9, ground := Go.Ground.phase }, { on := 10, ground := Go.Ground.phase }], guard := none }) (v := ?_) rfl (by kernel_rfl) (by kernel_rfl) (by kernel_rfl) (fun _ _ _ h => h) (Or.inl ⟨by rfl, ?_⟩) (by assumption) ?_
    rotate_left
    · intro wz hSw; (try dsimp only at hSw); go_simp; (try with_reducible rfl)
    try simp only [Act.put, List.setIfInBounds_toArray, List.set_cons_zero, List.set_cons_succ]
    refine wpAnyH_take (i := 12) (oi := { dst := some 36, op := Go.Op.fieldAddr 75 (Go.Operand.tmp 35) 1, type := 0, pos := "pages.go:62", after := #[{ on := 11, ground := Go.Ground.data }, { on := 0, ground := Go.Ground.phase }, { on := 1, ground := Go.Ground.phase }, { on := 2, ground := Go.Ground.phase }, { on := 3, ground := Go.Ground.phase }, { on := 4, ground := Go.Ground.phase }, { on := 5, ground := Go.Ground.phase }, { on := 6, ground := Go.Ground.phase }, { on := 7, ground := Go.Ground.phase }, { on := 8, ground := Go.Ground.phase }, { on := 9, ground := Go.Ground.phase }, { on := 10, ground := Go.Ground.phase }], guard := none }) (v := ?_) rfl (by kernel_rfl) (by kernel_rfl) (by kernel_rfl) (fun _ _ _ h => h) (Or.inl ⟨by rfl, ?_⟩) (by assumption) ?_
    rotate_left
    · intro wz hSw; (try dsimp only at hSw); go_simp; (try with_reducible rfl)
    try simp only [Act.put, List.setIfInBounds_toArray, List.set_cons_zero, List.set_cons_succ]
    refine wpAnyH_ready (rs := [13]) (by kernel_rfl) (by simp) ?_
    refine (AllReadyH.cons (o := { dst := none, op := Go.Op.store 73 (Go.Operand.tmp 36) (Go.Operand.tmp 34), type := 0, pos := "pages.go:62", after := #[{ on := 12, ground := Go.Ground.data }, { on := 10, ground := Go.Ground.data }, { on := 10, ground := Go.Ground.chain }, { on := 0, ground := Go.Ground.phase }, { on := 1, ground := Go.Ground.phase }, { on := 2, ground := Go.Ground.phase }, { on := 3, ground := Go.Ground.phase }, { on := 4, ground := Go.Ground.phase }, { on := 5, ground := Go.Ground.phase }, { on := 6, ground := Go.Ground.phase }, { on := 7, ground := Go.Ground.phase }, { on := 8, ground := Go.Ground.phase }, { on := 9, ground := Go.Ground.phase }, { on := 10, ground := Go.Ground.phase }], guard := none }) rfl (fun K hK => ?_) AllReadyH.nil)
    go_simp
    refine hK.out _ _ trivial (fun _ => ?_)
    clear hK K
    try simp only [Act.put, List.setIfInBounds_toArray, List.set_cons_zero, List.set_cons_succ]
    refine wpAnyH_done (by kernel_rfl) (NoPanic.normal ?_) _
    try simp only [Act.put, List.setIfInBounds_toArray, List.set_cons_zero, List.set_cons_succ]
    go_wp2_with fail
    refine hst.mono ?_
    rintro e w4 ⟨rfl, hX⟩
    have HE := HN.out _ _ ⟨rfl, hX⟩
    clear HN hX hst
    go_wp2
    go_ret
    exact HE
  · go_simp
    refine hcl.mono ?_
    rintro e w1 ⟨ad1, cp1, rfl, how0⟩
    have how := how0.ofDrew
    have k1 : w1.cell? ⟨p, 1, none⟩ = some lo := by rw [how.below.cell (p := ⟨p, 1, none⟩) (H0.out.lt (.inl rfl))]; exact h1
    obtain ⟨v', w3, hrunA, hown', hgrow, hloc⟩ := app_run (w1 := w1) H0.out how pg hfew
    have hk2 : w1.heap[p]? = w.heap[p]? := how.below.block p (H0.out.lt (.inl rfl))
    have k2 : (w1.alloc (.cells #[.int .i64 pg, .slice ad1 l.length cp1] 79)).cell? ⟨p, 1, none⟩ = some lo := by rw [World.cell?_alloc_lt _ _ _ (World.block_lt_of_cell? w1 _ k1)]; exact k1
    obtain ⟨F', hS', hF', hM'⟩ := put_end H0.out how hl HP.out hfew hown' hgrow hloc
    have HN : Hid (∀ e w', StepR p q v' F' (S.put pg ⟨ad1, cp1, l⟩) (w3.setCell ⟨p, 1, none⟩ v') e w' → WrR p q lo F S pg l w e w') := fun e w' hh => wr_end hS' hF' hM' hh
    have hst := step_any p q v' F' (S.put pg ⟨ad1, cp1, l⟩) _ hS' hs
    obtain ⟨k3, f3⟩ := put_cell H0.out how hgrow
    obtain ⟨va, vc, rfl⟩ : ∃ a c, v' = .slice a (S.loose.length + 1) c := by
      rcases hown'.2 with ⟨_, e⟩ | ⟨q, cap, cur, e, -⟩
      · omega
      · exact ⟨_, _, e⟩
    clear how how0 hS' hF' hM' hown' hgrow hloc hk2
    refine hK.out _ _ trivial (fun _ => ?_)
    clear hK K
    try simp only [Act.put, List.setIfInBounds_toArray, List.set_cons_zero, List.set_cons_succ]
    refine wpAnyH_take (i := 8) (oi := { dst := some 32, op := Go.Op.build 79 #[(0, Go.Operand.tmp 29), (1, Go.Operand.tmp 31)], type := 79, pos := "pages.go:62", after := #[{ on := 5, ground := Go.Ground.data }, { on := 7, ground := Go.Ground.data }], guard := none }) (v := .agg #[.int .i64 pg, .slice ad1 l.length cp1]) rfl (by kernel_rfl) (by kernel_rfl) (by kernel_rfl) (fun _ _ _ h => h) (Or.inl ⟨by rfl, ?_⟩) (by assumption) ?_
    · intro wz hSw; (try dsimp only at hSw); kernel_rfl
    try simp only [Act.put, List.setIfInBounds_toArray, List.set_cons_zero, List.set_cons_succ]
    refine wpAnyH_ready (rs := [4, 9]) (by kernel_rfl) (by simp) ?_
    refine (AllReadyH.cons (o := { dst := some 28, op := Go.Op.load 73 (Go.Operand.tmp 27), type := 73, pos := "pages.go:62", after := #[{ on := 3, ground := Go.Ground.data }], guard := none }) rfl (fun K hK => ?_) (AllReadyH.cons (o := { dst := some 33, op := Go.Op.buildSlice 73 1 #[(0, Go.Operand.tmp 32)], type := 73, pos := "pages.go:62", after := #[{ on := 8, ground := Go.Ground.data }], guard := none }) rfl (fun K hK => ?_) AllReadyH.nil))
    · go_simp
      refine hK.out _ _ trivial (fun _ => ?_)
      clear hK K
      try simp only [Act.put, List.setIfInBounds_toArray, List.set_cons_zero, List.set_cons_succ]
      refine wpAnyH_ready (rs := [9]) (by kernel_rfl) (by simp) ?_
      refine (AllReadyH.cons (o := { dst := some 33, op := Go.Op.buildSlice 73 1 #[(0, Go.Operand.tmp 32)], type := 73, pos := "pages.go:62", after := #[{ on := 8, ground := Go.Ground.data }], guard := none }) rfl (fun K hK => ?_) AllReadyH.nil)
      refine step_sliceW rfl _ rfl (.int .i64 pg) (.slice ad1 l.length cp1) (by rfl) ?_
      refine hK.out _ _ trivial (fun _ => ?_)
      clear hK K
      try simp only [Act.put, List.setIfInBounds_toArray, List.set_cons_zero, List.set_cons_succ]
      refine wpAnyH_ready (rs := [10]) (by kernel_rfl) (by simp) ?_
      refine (AllReadyH.cons (o := { dst := some 34, op := Go.Op.call { callee := Go.Callee.builtin Go.Builtin.append, args := #[Go.Operand.tmp 28, Go.Operand.tmp 33], argTypes := #[73, 73] }, type := 73, pos := "pages.go:62", after := #[{ on := 4, ground := Go.Ground.data }, { on := 9, ground := Go.Ground.data }, { on := 7, ground := Go.Ground.chain }], guard := none }) rfl (fun K hK => ?_) AllReadyH.nil)
      refine step_append rfl _ _ _ rfl (by rfl) (by rfl) hrunA ?_
      refine hK.out _ _ trivial (fun _ => ?_)
      clear hK K
      try simp only [Act.put, List.setIfInBounds_toArray, List.set_cons_zero, List.set_cons_succ]
      refine wpAnyH_take (i := 11) (oi := { dst := some 35, op := Go.Op.nilCheck (Go.Operand.tmp 24), type := 0, pos := "pages.go:62", after := #[{ on := 0, ground := Go.Ground.data }, { on := 0, ground := Go.Ground.phase }, { on := 1, ground := Go.Ground.phase }, { on := 2, ground := Go.Ground.phase }, { on := 3, ground := Go.Ground.phase }, { on := 4, ground := Go.Ground.phase }, { on := 5, ground := Go.Ground.phase }, { on := 6, ground := Go.Ground.phase }, { on := 7, ground := Go.Ground.phase }, { on := 8, ground := Go.Ground.phase }, { on := 9, ground := Go.Ground.phase }, { on := 10, ground := Go.Ground.phase }], guard := none }) (v := ?_) rfl (by kernel_rfl) (by kernel_rfl) (by kernel_rfl) (fun _ _ _ h => h) (Or.inl ⟨by rfl, ?_⟩) (by assumption) ?_
      rotate_left
      · intro wz hSw; (try dsimp only at hSw); go_simp; (try with_reducible rfl)
      try simp only [Act.put, List.setIfInBounds_toArray, List.set_cons_zero, List.set_cons_succ]
      refine wpAnyH_take (i := 12) (oi := { dst := some 36, op := Go.Op.fieldAddr 75 (Go.Operand.tmp 35) 1, type := 0, pos := "pages.go:62", after := #[{ on := 11, ground := Go.Ground.data }, { on := 0, ground := Go.Ground.phase }, { on := 1, ground := Go.Ground.phase }, { on := 2, ground := Go.Ground.phase }, { on := 3, ground := Go.Ground.phase }, { on := 4, ground := Go.Ground.phase }, { on := 5, ground := Go.Ground.phase }, { on := 6, ground := Go.Ground.phase }, { on := 7, ground := Go.Ground.phase }, { on := 8, ground := Go.Ground.phase }, { on := 9, ground := Go.Ground.phase }, { on := 10, ground := Go.Ground.phase }], guard := none }) (v := ?_) rfl (by kernel_rfl) (by kernel_rfl) (by kernel_rfl) (fun _ _ _ h => h) (Or.inl ⟨by rfl, ?_⟩) (by assumption) ?_
      rotate_left
      · intro wz hSw; (try dsimp only at hSw); go_simp; (try with_reducible rfl)
      try simp only [Act.put, List.setIfInBounds_toArray, List.set_cons_zero, List.set_cons_succ]
      refine wpAnyH_ready (rs := [13]) (by kernel_rfl) (by simp) ?_
      refine (AllReadyH.cons (o := { dst := none, op := Go.Op.store 73 (Go.Operand.tmp 36) (Go.Operand.tmp 34), type := 0, pos := "pages.go:62", after := #[{ on := 12, ground := Go.Ground.data }, { on := 10, ground := Go.Ground.data }, { on := 10, ground := Go.Ground.chain }, { on := 0, ground := Go.Ground.phase }, { on := 1, ground := Go.Ground.phase }, { on := 2, ground := Go.Ground.phase }, { on := 3, ground := Go.Ground.phase }, { on := 4, ground := Go.Ground.phase }, { on := 5, ground := Go.Ground.phase }, { on := 6, ground := Go.Ground.phase }, { on := 7, ground := Go.Ground.phase }, { on := 8, ground := Go.Ground.phase }, { on := 9, ground := Go.Ground.phase }, { on := 10, ground := Go.Ground.phase }], guard := none }) rfl (fun K hK => ?_) AllReadyH.nil)
      go_simp
      refine hK.out _ _ trivial (fun _ => ?_)
      clear hK K
      try simp only [Act.put, List.setIfInBounds_toArray, List.set_cons_zero, List.set_cons_succ]
      refine wpAnyH_done (by kernel_rfl) (NoPanic.normal ?_) _
      try simp only [Act.put, List.setIfInBounds_toArray, List.set_cons_zero, List.set_cons_succ]
      go_wp2_with fail
      refine hst.mono ?_
      rintro e w4 ⟨rfl, hX⟩
      have HE := HN.out _ _ ⟨rfl, hX⟩
      clear HN hX hst
      go_wp2
      go_ret
      exact HE
    · refine step_sliceW rfl _ rfl (.int .i64 pg) (.slice ad1 l.length cp1) (by rfl) ?_
      refine hK.out _ _ trivial (fun _ => ?_)
      clear hK K
      try simp only [Act.put, List.setIfInBounds_toArray, List.set_cons_zero, List.set_cons_succ]
      refine wpAnyH_ready (rs := [4]) (by kernel_rfl) (by simp) ?_
      refine (AllReadyH.cons (o := { dst := some 28, op := Go.Op.load 73 (Go.Operand.tmp 27), type := 73, pos := "pages.go:62", after := #[{ on := 3, ground := Go.Ground.data }], guard := none }) rfl (fun K hK => ?_) AllReadyH.nil)
      go_simp
      refine hK.out _ _ trivial (fun _ => ?_)
      clear hK K
      try simp only [Act.put, List.setIfInBounds_toArray, List.set_cons_zero, List.set_cons_succ]
      refine wpAnyH_ready (rs := [10]) (by kernel_rfl) (by simp) ?_
      refine (AllReadyH.cons (o := { dst := some 34, op := Go.Op.call { callee := Go.Callee.builtin Go.Builtin.append, args := #[Go.Operand.tmp 28, Go.Operand.tmp 33], argTypes := #[73, 73] }, type := 73, pos := "pages.go:62", after := #[{ on := 4, ground := Go.Ground.data }, { on := 9, ground := Go.Ground.data }, { on := 7, ground := Go.Ground.chain }], guard := none }) rfl (fun K hK => ?_) AllReadyH.nil)
      refine step_append rfl _ _ _ rfl (by rfl) (by rfl) hrunA ?_
      refine hK.out _ _ trivial (fun _ => ?_)
      clear hK K
      try simp only [Act.put, List.setIfInBounds_toArray, List.set_cons_zero, List.set_cons_succ]
      refine wpAnyH_take (i := 11) (oi := { dst := some 35, op := Go.Op.nilCheck (Go.Operand.tmp 24), type := 0, pos := "pages.go:62", after := #[{ on := 0, ground := Go.Ground.data }, { on := 0, ground := Go.Ground.phase }, { on := 1, ground := Go.Ground.phase }, { on := 2, ground := Go.Ground.phase }, { on := 3, ground := Go.Ground.phase }, { on := 4, ground := Go.Ground.phase }, { on := 5, ground := Go.Ground.phase }, { on := 6, ground := Go.Ground.phase }, { on := 7, ground := Go.Ground.phase }, { on := 8, ground := Go.Ground.phase }, { on := 9, ground := Go.Ground.phase }, { on := 10, ground := Go.Ground.phase }], guard := none }) (v := ?_) rfl (by kernel_rfl) (by kernel_rfl) (by kernel_rfl) (fun _ _ _ h => h) (Or.inl ⟨by rfl, ?_⟩) (by assumption) ?_
      rotate_left
      · intro wz hSw; (try dsimp only at hSw); go_simp; (try with_reducible rfl)
      try simp only [Act.put, List.setIfInBounds_toArray, List.set_cons_zero, List.set_cons_succ]
      refine wpAnyH_take (i := 12) (oi := { dst := some 36, op := Go.Op.fieldAddr 75 (Go.Operand.tmp 35) 1, type := 0, pos := "pages.go:62", after := #[{ on := 11, ground := Go.Ground.data }, { on := 0, ground := Go.Ground.phase }, { on := 1, ground := Go.Ground.phase }, { on := 2, ground := Go.Ground.phase }, { on := 3, ground := Go.Ground.phase }, { on := 4, ground := Go.Ground.phase }, { on := 5, ground := Go.Ground.phase }, { on := 6, ground := Go.Ground.phase }, { on := 7, ground := Go.Ground.phase }, { on := 8, ground := Go.Ground.phase }, { on := 9, ground := Go.Ground.phase }, { on := 10, ground := Go.Ground.phase }], guard := none }) (v := ?_) rfl (by kernel_rfl) (by kernel_rfl) (by kernel_rfl) (fun _ _ _ h => h) (Or.inl ⟨by rfl, ?_⟩) (by assumption) ?_
      rotate_left
      · intro wz hSw; (try dsimp only at hSw); go_simp; (try with_reducible rfl)
      try simp only [Act.put, List.setIfInBounds_toArray, List.set_cons_zero, List.set_cons_succ]
      refine wpAnyH_ready (rs := [13]) (by kernel_rfl) (by simp) ?_
      refine (AllReadyH.cons (o := { dst := none, op := Go.Op.store 73 (Go.Operand.tmp 36) (Go.Operand.tmp 34), type := 0, pos := "pages.go:62", after := #[{ on := 12, ground := Go.Ground.data }, { on := 10, ground := Go.Ground.data }, { on := 10, ground := Go.Ground.chain }, { on := 0, ground := Go.Ground.phase }, { on := 1, ground := Go.Ground.phase }, { on := 2, ground := Go.Ground.phase }, { on := 3, ground := Go.Ground.phase }, { on := 4, ground := Go.Ground.phase }, { on := 5, ground := Go.Ground.phase }, { on := 6, ground := Go.Ground.phase }, { on := 7, ground := Go.Ground.phase }, { on := 8, ground := Go.Ground.phase }, { on := 9, ground := Go.Ground.phase }, { on := 10, ground := Go.Ground.phase }], guard := none }) rfl (fun K hK => ?_) AllReadyH.nil)
      go_simp
      refine hK.out _ _ trivial (fun _ => ?_)
      clear hK K
      try simp only [Act.put, List.setIfInBounds_toArray, List.set_cons_zero, List.set_cons_succ]
      refine wpAnyH_done (by kernel_rfl) (NoPanic.normal ?_) _
      try simp only [Act.put, List.setIfInBounds_toArray, List.set_cons_zero, List.set_cons_succ]
      go_wp2_with fail
      refine hst.mono ?_
      rintro e w4 ⟨rfl, hX⟩
      have HE := HN.out _ _ ⟨rfl, hX⟩
      clear HN hX hst
      go_wp2
      go_ret
      exact HE
end Go.Proofs.YtbfajoeilpkofaaGreatDoor
