/- The queue's heap of items: what it is made of; ahead; Less and Len. -/
import Derived.Test.YthnobkiiaflelaaDoorOwnShelf20
import Derived.Test.YthnobkiiaflelaaDoorOwnShelf04
import Derived.Test.YthnobkiiaflelaaDoorOwnShelf05
import Derived.Test.YthnobkiiaflelaaDoorOwnShelf21
namespace Go.Proofs.YthnobkiiaflelaaDoor
open Go.RowKit Go.Maps Go.Sort

attribute [local go_sem ↓] Go.wp_at_zero Go.wp_at_succ

/-- An item's cells: its event, its place. -/
def itC (x : Ev) (pl : Int) : Array Value := #[.int .i64 x.id, .int .i64 x.due, encStr x.nm, .int .i64 pl]
def ptB (b : Nat) : Value := .pointer (some ⟨b, 0, none⟩)
/-- What the heap's own row holds. -/
def ptL (β : Int → Nat) (n : Nat) (a : Nat → Ev) : List Value := (rowA n a).map fun x => ptB (β x.id)
theorem ptL_at (β : Int → Nat) {n k : Nat} (a : Nat → Ev) (h : k < n) : (ptL β n a)[k]? = some (ptB (β (a k).id)) := by
  simp [ptL, rowA, List.getElem?_map, List.getElem?_range h]
theorem ptL_len (β : Int → Nat) (n : Nat) (a : Nat → Ev) : (ptL β n a).length = n := by simp [ptL, rowA]
theorem ptL_one (β : Int → Nat) (n : Nat) (a : Nat → Ev) : ∀ u ∈ ptL β n a, u.oneCell' = true := by
  intro u hu
  simp only [ptL, List.mem_map] at hu
  obtain ⟨_, _, rfl⟩ := hu
  rfl
/-- Block p is a queue whose heap holds the first n of a; its items lie where β says; K: the events that have an item; R: where the row may lie. -/
structure Wt (p m : Nat) (last : Int) (β : Int → Nat) (K : Ev → Prop) (R : Nat → Prop) (w : World) (n : Nat) (a : Nat → Ev) : Prop where
  few : n ≤ 1000000
  q : ∃ v, w.heap[p]? = some (.cells #[.int .i64 last, v, .map (some m)] 65 (0, 0)) ∧ w.ownsRow 0 66 1 v n (ptL β n a) ∧ ∀ r, v.ownBlock = some r → R r
  it : ∀ x, K x → ∃ pl : Int, w.heap[β x.id]? = some (.cells (itC x pl) 69 (0, 0))
  pl : ∀ k, k < n → K (a k) ∧ w.heap[β (a k).id]? = some (.cells (itC (a k) k) 69 (0, 0))
  apart : (¬ R p) ∧ (∀ x, K x → ¬ R (β x.id) ∧ β x.id ≠ p)
/-- What a heap's calls may change. -/
def wtM (p : Nat) (β : Int → Nat) (K : Ev → Prop) (R : Nat → Prop) (k : Nat) : Prop := k = p ∨ R k ∨ ∃ x, K x ∧ k = β x.id
section
variable {p m : Nat} {last : Int} {β : Int → Nat} {K : Ev → Prop} {R : Nat → Prop} {w w' : World} {n : Nat} {a : Nat → Ev}
theorem Wt.keep (h : Wt p m last β K R w n a) (hk : ∀ k, wtM p β K R k → k < w.heap.size → w'.heap[k]? = w.heap[k]?) : Wt p m last β K R w' n a := by
  obtain ⟨v, hq, ho, hr⟩ := h.q
  refine ⟨h.few, ⟨v, by rw [hk p (.inl rfl) (lt_of_block hq)]; exact hq, owns_row_keep ho fun k e => hk k (.inr (.inl (hr k e))) (ho.lt k e).2, hr⟩, fun x hx => ?_, fun k hkn => ?_, h.apart⟩
  · obtain ⟨pl, hp⟩ := h.it x hx
    exact ⟨pl, by rw [hk _ (.inr (.inr ⟨x, hx, rfl⟩)) (lt_of_block hp)]; exact hp⟩
  · obtain ⟨h1, h2⟩ := h.pl k hkn
    exact ⟨h1, by rw [hk _ (.inr (.inr ⟨_, h1, rfl⟩)) (lt_of_block h2)]; exact h2⟩
theorem Wt.below (h : Wt p m last β K R w n a) (hb : Below w.heap.size w w') : Wt p m last β K R w' n a := h.keep fun k _ hlt => hb.block k hlt
theorem Wt.cell (h : Wt p m last β K R w n a) : ∃ v, w.cell? ⟨p, 1, none⟩ = some v := by
  obtain ⟨v, hq, _⟩ := h.q
  exact ⟨v, by rw [cell_of_row _ _ 1 _ _ _ hq]; rfl⟩
/-- The row's value, where something is in it. -/
theorem Wt.row (h : Wt p m last β K R w n a) {v : Value} (hv : w.cell? ⟨p, 1, none⟩ = some v) (hn : 0 < n) : ∃ g cap, v = .slice (some ⟨g, 0, none⟩) n cap ∧ R g ∧ g < w.heap.size ∧ (∀ k, k < n → w.cell? ⟨g, k, none⟩ = some (ptB (β (a k).id))) ∧ n ≤ cap ∧ (∀ o, w.frozen? ⟨g, o, none⟩ = false) ∧ w.ownsRow 0 66 1 v n (ptL β n a) := by
  obtain ⟨v', hq, ho, hr⟩ := h.q
  have e : v = v' := by
    rw [cell_of_row _ _ 1 _ _ _ hq] at hv
    exact (Option.some.inj hv).symm
  subst e
  have ho' := ho
  rcases ho.2 with ⟨rfl, e⟩ | ⟨g, cap, cur, rfl, _, hg, hc, _, _, _⟩
  · omega
  · refine ⟨g, cap, rfl, hr g rfl, lt_of_block hg, fun k hk => ?_, hc, fun o => by simp [World.frozen?, hg], ho'⟩
    have := ho.cells (g := g) rfl k _ (ptL_at β a hk)
    rwa [Addr.add_lit, Nat.zero_add] at this
theorem Wt.item (h : Wt p m last β K R w n a) {k : Nat} (hk : k < n) : w.cell? ⟨β (a k).id, 0, none⟩ = some (.int .i64 (a k).id) ∧ w.cell? ⟨β (a k).id, 1, none⟩ = some (.int .i64 (a k).due) ∧ w.cell? ⟨β (a k).id, 2, none⟩ = some (encStr (a k).nm) ∧ w.cell? ⟨β (a k).id, 3, none⟩ = some (.int .i64 k) ∧ ∀ o, w.frozen? ⟨β (a k).id, o, none⟩ = false := by
  have hb := (h.pl k hk).2
  exact ⟨by rw [cell_of_row _ _ 0 _ _ _ hb]; rfl, by rw [cell_of_row _ _ 1 _ _ _ hb]; rfl, by rw [cell_of_row _ _ 2 _ _ _ hb]; rfl, by rw [cell_of_row _ _ 3 _ _ _ hb]; rfl, fun o => by simp [World.frozen?, hb]⟩
end

theorem ltE_cases (x y : Ev) : ltE x y = if x.due = y.due then decide (x.id < y.id) else decide (x.due < y.due) := by
  unfold ltE
  split
  · rename_i h; simp [h]
  · rename_i h; simp [h]
set_option maxRecDepth 100000 in
set_option maxHeartbeats 800000 in
theorem ahead_any (x y : Ev) (w : World) : Calls Tryd.prog 25 #[.agg #[.int .i64 x.id, .int .i64 x.due, encStr x.nm], .agg #[.int .i64 y.id, .int .i64 y.due, encStr y.nm]] w fun e w' => e = .returned (.bool (ltE x y)) ∧ Below w.heap.size w w' := by
  rw [ltE_cases]
  generalize x.id = xi
  generalize y.id = yi
  generalize x.due = xd
  generalize y.due = yd
  generalize encStr x.nm = xn
  generalize encStr y.nm = yn
  by_cases h : xd = yd
  · subst h
    rw [if_pos rfl]
    go_enter Tryd.func25, Tryd.ntmps25
    go_wp2
    go_ret
    exact ⟨rfl, (by repeat (first | exact Below.refl _ _ | refine Below.alloc ?_ (by simp; try omega) _ | refine Below.setCell ?_ (by simp) _ | refine below_drewN ?_ _ | refine Below.drew ?_))⟩
  · rw [if_neg h]
    go_enter Tryd.func25, Tryd.ntmps25
    go_wp2
    go_ret
    exact ⟨rfl, (by repeat (first | exact Below.refl _ _ | refine Below.alloc ?_ (by simp; try omega) _ | refine Below.setCell ?_ (by simp) _ | refine below_drewN ?_ _ | refine Below.drew ?_))⟩
set_option maxRecDepth 100000 in
set_option maxHeartbeats 1600000 in
theorem less_wt {p m : Nat} {last : Int} {β : Int → Nat} {K : Ev → Prop} {R : Nat → Prop} (w : World) (n : Nat) (a : Nat → Ev) (v : Value) (i j : Nat) (h : Wt p m last β K R w n a) (hv : w.cell? ⟨p, 1, none⟩ = some v) (hi : i < n) (hj : j < n) :
    Calls Tryd.prog 86 #[v, .int .i64 (i : Int), .int .i64 (j : Int)] w fun e w' => e = .returned (.bool (ltE (a i) (a j))) ∧ Below w.heap.size w w' := by
  obtain ⟨g, cap, rfl, -, -, hc, hcap, -, -⟩ := h.row hv (by omega)
  have ci := hc i hi
  have cj := hc j hj
  unfold ptB at ci cj
  obtain ⟨x0, x1, x2, -, -⟩ := h.item hi
  obtain ⟨y0, y1, y2, -, -⟩ := h.item hj
  have hN := h.few
  have hA := ahead_any (a i) (a j) w.drew
  generalize (a i) = x at *
  generalize (a j) = y at *
  generalize β x.id = bx at *
  generalize β y.id = bb at *
  clear hv hc h
  go_enter Tryd.func86, Tryd.ntmps86
  go_upto_region 1 with fail
  refine region_seq (c := 14) (f := 60) (ts := [(0, 0), (0, 1), (0, 2), (1, 3), (0, 4), (0, 5), (1, 6), (0, 7), (0, 8), (0, 9), (1, 10), (0, 11), (0, 12), (1, 13), (2, 14), (0, 15)]) (by kernel_rfl) (by kernel_rfl) ?_
  refine seq_W (o := { dst := some 7, op := Go.Op.move (Go.Operand.tmp 0), type := 62, pos := "timer.go:127", after := #[], guard := none }) (v := ?_) rfl rfl (fun wz => ?_) ?_
  rotate_left
  · go_simp; (try with_reducible rfl)
  try simp only [Act.put, List.setIfInBounds_toArray, List.set_cons_zero, List.set_cons_succ]
  refine seq_W (o := { dst := some 8, op := Go.Op.move (Go.Operand.tmp 1), type := 3, pos := "timer.go:127", after := #[], guard := none }) (v := ?_) rfl rfl (fun wz => ?_) ?_
  rotate_left
  · go_simp; (try with_reducible rfl)
  try simp only [Act.put, List.setIfInBounds_toArray, List.set_cons_zero, List.set_cons_succ]
  refine seq_W (o := { dst := some 9, op := Go.Op.indexAddr 62 (Go.Operand.tmp 7) (Go.Operand.tmp 8), type := 0, pos := "timer.go:127", after := #[{ on := 0, ground := Go.Ground.data }, { on := 1, ground := Go.Ground.data }], guard := none }) (v := ?_) rfl rfl (fun wz => ?_) ?_
  rotate_left
  · go_simp; (try with_reducible rfl)
  try simp only [Act.put, List.setIfInBounds_toArray, List.set_cons_zero, List.set_cons_succ]
  refine seq_R (o := { dst := some 10, op := Go.Op.load 66 (Go.Operand.tmp 9), type := 66, pos := "timer.go:127", after := #[{ on := 2, ground := Go.Ground.data }], guard := none }) (v := ?_) rfl rfl ?_ ?_
  rotate_left
  · go_simp; (try with_reducible rfl)
  try simp only [Act.put, List.setIfInBounds_toArray, List.set_cons_zero, List.set_cons_succ]
  refine seq_W (o := { dst := some 11, op := Go.Op.nilCheck (Go.Operand.tmp 10), type := 0, pos := "timer.go:127", after := #[{ on := 3, ground := Go.Ground.data }], guard := none }) (v := ?_) rfl rfl (fun wz => ?_) ?_
  rotate_left
  · go_simp; (try with_reducible rfl)
  try simp only [Act.put, List.setIfInBounds_toArray, List.set_cons_zero, List.set_cons_succ]
  refine seq_W (o := { dst := some 12, op := Go.Op.fieldAddr 69 (Go.Operand.tmp 11) 0, type := 0, pos := "timer.go:127", after := #[{ on := 4, ground := Go.Ground.data }], guard := none }) (v := ?_) rfl rfl (fun wz => ?_) ?_
  rotate_left
  · go_simp; (try with_reducible rfl)
  try simp only [Act.put, List.setIfInBounds_toArray, List.set_cons_zero, List.set_cons_succ]
  refine seq_R (o := { dst := some 13, op := Go.Op.load 58 (Go.Operand.tmp 12), type := 58, pos := "timer.go:127", after := #[{ on := 5, ground := Go.Ground.data }], guard := none }) (v := ?_) rfl rfl ?_ ?_
  rotate_left
  · go_simp; (try with_reducible rfl)
  try simp only [Act.put, List.setIfInBounds_toArray, List.set_cons_zero, List.set_cons_succ]
  refine seq_W (o := { dst := some 14, op := Go.Op.move (Go.Operand.tmp 0), type := 62, pos := "timer.go:127", after := #[], guard := none }) (v := ?_) rfl rfl (fun wz => ?_) ?_
  rotate_left
  · go_simp; (try with_reducible rfl)
  try simp only [Act.put, List.setIfInBounds_toArray, List.set_cons_zero, List.set_cons_succ]
  refine seq_W (o := { dst := some 15, op := Go.Op.move (Go.Operand.tmp 2), type := 3, pos := "timer.go:127", after := #[], guard := none }) (v := ?_) rfl rfl (fun wz => ?_) ?_
  rotate_left
  · go_simp; (try with_reducible rfl)
  try simp only [Act.put, List.setIfInBounds_toArray, List.set_cons_zero, List.set_cons_succ]
  refine seq_W (o := { dst := some 16, op := Go.Op.indexAddr 62 (Go.Operand.tmp 14) (Go.Operand.tmp 15), type := 0, pos := "timer.go:127", after := #[{ on := 7, ground := Go.Ground.data }, { on := 8, ground := Go.Ground.data }], guard := none }) (v := ?_) rfl rfl (fun wz => ?_) ?_
  rotate_left
  · go_simp; (try with_reducible rfl)
  try simp only [Act.put, List.setIfInBounds_toArray, List.set_cons_zero, List.set_cons_succ]
  refine seq_R (o := { dst := some 17, op := Go.Op.load 66 (Go.Operand.tmp 16), type := 66, pos := "timer.go:127", after := #[{ on := 9, ground := Go.Ground.data }], guard := none }) (v := ?_) rfl rfl ?_ ?_
  rotate_left
  · go_simp; (try with_reducible rfl)
  try simp only [Act.put, List.setIfInBounds_toArray, List.set_cons_zero, List.set_cons_succ]
  refine seq_W (o := { dst := some 18, op := Go.Op.nilCheck (Go.Operand.tmp 17), type := 0, pos := "timer.go:127", after := #[{ on := 10, ground := Go.Ground.data }], guard := none }) (v := ?_) rfl rfl (fun wz => ?_) ?_
  rotate_left
  · go_simp; (try with_reducible rfl)
  try simp only [Act.put, List.setIfInBounds_toArray, List.set_cons_zero, List.set_cons_succ]
  refine seq_W (o := { dst := some 19, op := Go.Op.fieldAddr 69 (Go.Operand.tmp 18) 0, type := 0, pos := "timer.go:127", after := #[{ on := 11, ground := Go.Ground.data }], guard := none }) (v := ?_) rfl rfl (fun wz => ?_) ?_
  rotate_left
  · go_simp; (try with_reducible rfl)
  try simp only [Act.put, List.setIfInBounds_toArray, List.set_cons_zero, List.set_cons_succ]
  refine seq_R (o := { dst := some 20, op := Go.Op.load 58 (Go.Operand.tmp 19), type := 58, pos := "timer.go:127", after := #[{ on := 12, ground := Go.Ground.data }], guard := none }) (v := ?_) rfl rfl ?_ ?_
  rotate_left
  · go_simp; (try with_reducible rfl)
  try simp only [Act.put, List.setIfInBounds_toArray, List.set_cons_zero, List.set_cons_succ]
  refine seq_A (o := { dst := some 21, op := Go.Op.call { callee := Go.Callee.value (Go.Operand.func 25), args := #[Go.Operand.tmp 13, Go.Operand.tmp 20], argTypes := #[58, 58] }, type := 4, pos := "timer.go:127", after := #[{ on := 6, ground := Go.Ground.data }, { on := 13, ground := Go.Ground.data }], guard := none }) rfl rfl (fun K hK => ?_)
  go_simp
  refine hA.mono ?_
  rintro e w1 ⟨rfl, hb1⟩
  refine hK _ _ ?_
  clear hK
  try simp only [Act.put, List.setIfInBounds_toArray, List.set_cons_zero, List.set_cons_succ]
  refine seq_W (o := { dst := some 6, op := Go.Op.assign (Go.Operand.tmp 21), type := 4, pos := "timer.go:127", after := #[{ on := 14, ground := Go.Ground.data }, { on := 14, ground := Go.Ground.chain }, { on := 0, ground := Go.Ground.phase }, { on := 1, ground := Go.Ground.phase }, { on := 2, ground := Go.Ground.phase }, { on := 3, ground := Go.Ground.phase }, { on := 4, ground := Go.Ground.phase }, { on := 5, ground := Go.Ground.phase }, { on := 6, ground := Go.Ground.phase }, { on := 7, ground := Go.Ground.phase }, { on := 8, ground := Go.Ground.phase }, { on := 9, ground := Go.Ground.phase }, { on := 10, ground := Go.Ground.phase }, { on := 11, ground := Go.Ground.phase }, { on := 12, ground := Go.Ground.phase }, { on := 13, ground := Go.Ground.phase }, { on := 14, ground := Go.Ground.phase }], guard := none }) (v := ?_) rfl rfl (fun wz => ?_) ?_
  rotate_left
  · go_simp; (try with_reducible rfl)
  try simp only [Act.put, List.setIfInBounds_toArray, List.set_cons_zero, List.set_cons_succ]
  refine seq_nil (NoPanic.normal ?_)
  try simp only [Act.put, List.setIfInBounds_toArray, List.set_cons_zero, List.set_cons_succ]
  go_wp2
  go_ret
  exact ⟨rfl, Below.transS (Below.refl _ w).drew hb1⟩
set_option maxHeartbeats 400000 in
theorem len_wt {p m : Nat} {last : Int} {β : Int → Nat} {K : Ev → Prop} {R : Nat → Prop} (w : World) (n : Nat) (a : Nat → Ev) (v : Value) (h : Wt p m last β K R w n a) (hv : w.cell? ⟨p, 1, none⟩ = some v) :
    Calls Tryd.prog 85 #[v] w fun e w' => e = .returned (.int .i64 (n : Int)) ∧ w' = w := by
  obtain ⟨v', hq, ho, hr⟩ := h.q
  have e : v = v' := by
    rw [cell_of_row _ _ 1 _ _ _ hq] at hv
    exact (Option.some.inj hv).symm
  subst e
  obtain ⟨ad, cap, rfl⟩ : ∃ ad cap, v = .slice ad n cap := by
    rcases ho.2 with ⟨rfl, e⟩ | ⟨g, cap, cur, rfl, _⟩
    · exact ⟨none, 0, by rw [e]⟩
    · exact ⟨_, cap, rfl⟩
  clear h hv hq ho hr
  go_enter Tryd.func85, Tryd.ntmps85
  go_wp2
  go_ret
  exact ⟨rfl, rfl⟩
end Go.Proofs.YthnobkiiaflelaaDoor
