/- The row that Events sorts, as sort's functions see it. -/
import Derived.Test.YthnobkiiaflelaaDoorOwnShelf33
import Derived.Test.YthnobkiiaflelaaDoorOwnShelf34
import Derived.Test.YthnobkiiaflelaaDoorOwnShelf35
namespace Go.Proofs.YthnobkiiaflelaaDoor
open Go.RowKit Go.Maps Go.Sort Go.Lib Go.Shelf

attribute [local go_sem ↓] Go.wp_at_zero Go.wp_at_succ

def set3 (c : Array Value) (p : Nat) (e : Ev) : Array Value := ((c.setIfInBounds p (.int .i64 e.id)).setIfInBounds (p + 1) (.int .i64 e.due)).setIfInBounds (p + 2) (encStr e.nm)
theorem set3_size (c : Array Value) (p : Nat) (e : Ev) : (set3 c p e).size = c.size := by simp [set3]
theorem set3_same {c : Array Value} {p : Nat} (e : Ev) (h : p + 2 < c.size) : (set3 c p e)[p]? = some (.int .i64 e.id) ∧ (set3 c p e)[p + 1]? = some (.int .i64 e.due) ∧ (set3 c p e)[p + 2]? = some (encStr e.nm) := by
  unfold set3
  refine ⟨?_, ?_, ?_⟩
  · rw [Array.getElem?_setIfInBounds_ne (by omega), Array.getElem?_setIfInBounds_ne (by omega), Array.getElem?_setIfInBounds_self_of_lt (by omega)]
  · rw [Array.getElem?_setIfInBounds_ne (by omega), Array.getElem?_setIfInBounds_self_of_lt (by simp; omega)]
  · rw [Array.getElem?_setIfInBounds_self_of_lt (by simp; omega)]
theorem set3_other {c : Array Value} {p q : Nat} (e : Ev) (h : q < p ∨ p + 2 < q) : (set3 c p e)[q]? = c[q]? := by
  unfold set3
  rw [Array.getElem?_setIfInBounds_ne (by omega), Array.getElem?_setIfInBounds_ne (by omega), Array.getElem?_setIfInBounds_ne (by omega)]
/-- The first n of d lie in a row of cells. -/
structure Row3 (n : Nat) (c : Array Value) (d : Nat → Ev) : Prop where
  size : n * 3 ≤ c.size
  at_ : ∀ k, k < n → c[k * 3]? = some (.int .i64 (d k).id) ∧ c[k * 3 + 1]? = some (.int .i64 (d k).due) ∧ c[k * 3 + 2]? = some (encStr (d k).nm)
theorem Row3.swap {n i j : Nat} {c : Array Value} {d : Nat → Ev} (h : Row3 n c d) (hi : i < n) (hj : j < n) : Row3 n (set3 (set3 c (i * 3) (d j)) (j * 3) (d i)) (swapA d i j) := by
  have hs := h.size
  refine ⟨by rw [set3_size, set3_size]; exact hs, fun k hk => ?_⟩
  by_cases e1 : k = j
  · subst e1
    rw [swapA_j]
    exact set3_same (p := k * 3) _ (by rw [set3_size]; omega)
  · rw [set3_other (p := j * 3) (q := k * 3) _ (by omega), set3_other (p := j * 3) (q := k * 3 + 1) _ (by omega), set3_other (p := j * 3) (q := k * 3 + 2) _ (by omega)]
    by_cases e2 : k = i
    · subst e2
      rw [swapA_i]
      exact set3_same (p := k * 3) _ (by omega)
    · rw [set3_other (p := i * 3) (q := k * 3) _ (by omega), set3_other (p := i * 3) (q := k * 3 + 1) _ (by omega), set3_other (p := i * 3) (q := k * 3 + 2) _ (by omega), swapA_o d e2 e1]
      exact h.at_ k hk
/-- The row in block blk, the variable that holds it in block bs. -/
structure EvS (blk bs n cap : Nat) (w : World) (d : Nat → Ev) : Prop where
  row : ∃ c, w.heap[blk]? = some (.cells c 58 (0, 0)) ∧ Row3 n c d
  box : w.heap[bs]? = some (.cells #[.slice (some ⟨blk, 0, none⟩) n cap] 34 (0, 0))
theorem setCells3 (w : World) (b o : Nat) (x y z : Value) : w.setCells b o [x, y, z] = ((w.setCell ⟨b, o, none⟩ x).setCell ⟨b, o + 1, none⟩ y).setCell ⟨b, o + 2, none⟩ z := rfl
theorem EvS.cells {blk bs n cap : Nat} {w : World} {d : Nat → Ev} (h : EvS blk bs n cap w d) {k : Nat} (hk : k < n) : w.cell? ⟨blk, k * 3, none⟩ = some (.int .i64 (d k).id) ∧ w.cell? ⟨blk, k * 3 + 1, none⟩ = some (.int .i64 (d k).due) ∧ w.cell? ⟨blk, k * 3 + 2, none⟩ = some (encStr (d k).nm) ∧ ∀ o, w.frozen? ⟨blk, o, none⟩ = false := by
  obtain ⟨c, hc, hr⟩ := h.row
  obtain ⟨h1, h2, h3⟩ := hr.at_ k hk
  exact ⟨by rw [cell_of_row _ _ _ _ _ _ hc]; exact h1, by rw [cell_of_row _ _ _ _ _ _ hc]; exact h2, by rw [cell_of_row _ _ _ _ _ _ hc]; exact h3, fun o => by simp [World.frozen?, hc]⟩
noncomputable def evT : TypeInfo := (Tryd.prog.info? 34).get (by kernel_rfl)
noncomputable def evE : TypeInfo := (Tryd.prog.info? 58).get (by kernel_rfl)
theorem evK (n : Nat) (h2 : 2 ≤ n) : Lib.swapperK n evE 25 = 9 := by
  have a : evE.hasPointers = true := by kernel_rfl
  have b : evE.bytes = 32 := by kernel_rfl
  have c : (n == 0) = false := by simp; omega
  have d : (n == 1) = false := by simp; omega
  simp [Lib.swapperK, a, b, c, d]
theorem swapX (args : Array Value) (W : World) : (callFunc 49 args).run Tryd.prog W = ((Extern.ReflectliteSwapper.swap false args).run Tryd.prog W).andThen fun v w' => .ok (.value v) w' :=
  run_callFunc_extern Tryd.func49 (by kernel_rfl) (by kernel_rfl) (by kernel_rfl) (e := Extern.ReflectliteSwapper.swap false) (by kernel_rfl) args W
theorem aggE (w : World) : (isAgg 58).run Tryd.prog w = .ok true w := by kernel_rfl
theorem Fr.setB {blk : Nat} {a b : World} (h : Fr (fun k => k = blk) a b) (o : Nat) (u : Value) : Fr (fun k => k = blk) a (b.setCell ⟨blk, o, none⟩ u) := h.set _ _ rfl
theorem swap_ev {blk bs n cap : Nat} (hne : bs ≠ blk) (w : World) (d : Nat → Ev) (i j : Nat) (h : EvS blk bs n cap w d) (hi : i < n) (hj : j < n) :
    ∃ w', (callFunc 49 (#[.int .i64 (i : Int), .int .i64 (j : Int)] ++ #[.slice (some ⟨blk, 0, none⟩) n cap, typeHandle Tryd.prog 58])).run Tryd.prog w = .ok (.value (.tuple #[])) w' ∧ EvS blk bs n cap w' (swapA d i j) ∧ Fr (fun k => k = blk) w w' := by
  have hsz : evE.size = 3 := by kernel_rfl
  have cc : ∀ x, x < n → ∀ u v, (evL (d x))[u]? = some v → w.cell? ⟨blk, 0 + x * evE.size + u, none⟩ = some v := fun x hx u v hv => by
    rw [hsz, Nat.zero_add]
    obtain ⟨h1, h2, h3, _⟩ := h.cells hx
    rcases u with _ | _ | _ | u
    · cases hv; exact h1
    · cases hv; exact h2
    · cases hv; exact h3
    · simp [evL] at hv
  have one : ∀ x : Ev, ∀ v ∈ evL x, v.oneCell' = true := fun x v hv => by simp [evL] at hv; rcases hv with rfl | rfl | rfl <;> rfl
  have hrun := run_swap_cells (P := Tryd.prog) false 58 evE (by kernel_rfl) aggE blk 0 n cap i j hi hj (evL (d i)) (evL (d j)) (by rw [hsz]; rfl) (by rw [hsz]; rfl) (one _) (one _) w (cc i hi) (cc j hj)
    (fun u _ => (h.cells hi).2.2.2 _) (fun u _ => (h.cells hj).2.2.2 _)
  rw [hsz, Nat.zero_add, Nat.zero_add] at hrun
  obtain ⟨c, hc, hr⟩ := h.row
  refine ⟨_, by rw [swapX, show (#[Value.int .i64 (i : Int), Value.int .i64 (j : Int)] ++ #[Value.slice (some ⟨blk, 0, none⟩) n cap, typeHandle Tryd.prog 58]) = #[.int .i64 i, .int .i64 j, .slice (some ⟨blk, 0, none⟩) n cap, typeHandle Tryd.prog 58] from rfl, hrun]; rfl, ?_, ?_⟩
  · unfold evL
    simp only [setCells3]
    refine ⟨⟨set3 (set3 c (i * 3) (d j)) (j * 3) (d i), ?_, hr.swap hi hj⟩, ?_⟩
    · rw [heap_setCell_same _ _ _ _ _ _ (heap_setCell_same _ _ _ _ _ _ (heap_setCell_same _ _ _ _ _ _ (heap_setCell_same _ _ _ _ _ _ (heap_setCell_same _ _ _ _ _ _ (heap_setCell_same _ _ _ _ _ _ hc)))))]
      rfl
    · rw [setc _ _ _ _ hne, setc _ _ _ _ hne, setc _ _ _ _ hne, setc _ _ _ _ hne, setc _ _ _ _ hne, setc _ _ _ _ hne]
      exact h.box
  · unfold evL
    simp only [setCells3]
    exact ((((((Fr.refl _ w).setB _ _).setB _ _).setB _ _).setB _ _).setB _ _).setB _ _
set_option maxRecDepth 100000 in
set_option maxHeartbeats 1600000 in
theorem less_ev {blk bs n cap : Nat} (w : World) (d : Nat → Ev) (i j : Nat) (h : EvS blk bs n cap w d) (_hn : n ≤ 1000000) (_hcap : n ≤ cap) (hi : i < n) (hj : j < n) :
    Calls Tryd.prog 24 (#[.int .i64 (i : Int), .int .i64 (j : Int)] ++ #[.pointer (some ⟨bs, 0, none⟩)]) w fun e w' => e = .returned (.bool (ltE (d i) (d j))) ∧ Below w.heap.size w w' := by
  obtain ⟨x0, x1, x2, -⟩ := h.cells hi
  obtain ⟨y0, y1, y2, -⟩ := h.cells hj
  have cb : w.cell? ⟨bs, 0, none⟩ = some (.slice (some ⟨blk, 0, none⟩) n cap) := by rw [cell_of_row _ _ 0 _ _ _ h.box]; rfl
  have hA := ahead_any (d i) (d j) w.drew
  generalize (d i) = x at *
  generalize (d j) = y at *
  clear h
  show Calls Tryd.prog 24 #[.int .i64 (i : Int), .int .i64 (j : Int), .pointer (some ⟨bs, 0, none⟩)] w _
  go_enter Tryd.func24, Tryd.ntmps24
  go_upto_region 1 with fail
  refine region_seq (c := 8) (f := 60) (ts := [(1, 0), (0, 1), (0, 2), (1, 3), (1, 4), (0, 5), (0, 6), (1, 7), (2, 8), (0, 9)]) (by kernel_rfl) (by kernel_rfl) ?_
  refine seq_R (o := { dst := some 6, op := Go.Op.load 34 (Go.Operand.tmp 2), type := 34, pos := "timer.go:93", after := #[], guard := none }) (v := ?_) rfl rfl ?_ ?_
  rotate_left
  · go_simp; (try with_reducible rfl)
  try simp only [Act.put, List.setIfInBounds_toArray, List.set_cons_zero, List.set_cons_succ]
  refine seq_W (o := { dst := some 7, op := Go.Op.move (Go.Operand.tmp 0), type := 3, pos := "timer.go:93", after := #[], guard := none }) (v := ?_) rfl rfl (fun wz => ?_) ?_
  rotate_left
  · go_simp; (try with_reducible rfl)
  try simp only [Act.put, List.setIfInBounds_toArray, List.set_cons_zero, List.set_cons_succ]
  refine seq_W (o := { dst := some 8, op := Go.Op.indexAddr 34 (Go.Operand.tmp 6) (Go.Operand.tmp 7), type := 0, pos := "timer.go:93", after := #[{ on := 0, ground := Go.Ground.data }, { on := 1, ground := Go.Ground.data }], guard := none }) (v := ?_) rfl rfl (fun wz => ?_) ?_
  rotate_left
  · go_simp; (try with_reducible rfl)
  try simp only [Act.put, List.setIfInBounds_toArray, List.set_cons_zero, List.set_cons_succ]
  refine seq_R (o := { dst := some 9, op := Go.Op.load 58 (Go.Operand.tmp 8), type := 58, pos := "timer.go:93", after := #[{ on := 2, ground := Go.Ground.data }], guard := none }) (v := ?_) rfl rfl ?_ ?_
  rotate_left
  · go_simp; (try with_reducible rfl)
  try simp only [Act.put, List.setIfInBounds_toArray, List.set_cons_zero, List.set_cons_succ]
  refine seq_R (o := { dst := some 10, op := Go.Op.load 34 (Go.Operand.tmp 2), type := 34, pos := "timer.go:93", after := #[], guard := none }) (v := ?_) rfl rfl ?_ ?_
  rotate_left
  · go_simp; (try with_reducible rfl)
  try simp only [Act.put, List.setIfInBounds_toArray, List.set_cons_zero, List.set_cons_succ]
  refine seq_W (o := { dst := some 11, op := Go.Op.move (Go.Operand.tmp 1), type := 3, pos := "timer.go:93", after := #[], guard := none }) (v := ?_) rfl rfl (fun wz => ?_) ?_
  rotate_left
  · go_simp; (try with_reducible rfl)
  try simp only [Act.put, List.setIfInBounds_toArray, List.set_cons_zero, List.set_cons_succ]
  refine seq_W (o := { dst := some 12, op := Go.Op.indexAddr 34 (Go.Operand.tmp 10) (Go.Operand.tmp 11), type := 0, pos := "timer.go:93", after := #[{ on := 4, ground := Go.Ground.data }, { on := 5, ground := Go.Ground.data }], guard := none }) (v := ?_) rfl rfl (fun wz => ?_) ?_
  rotate_left
  · go_simp; (try with_reducible rfl)
  try simp only [Act.put, List.setIfInBounds_toArray, List.set_cons_zero, List.set_cons_succ]
  refine seq_R (o := { dst := some 13, op := Go.Op.load 58 (Go.Operand.tmp 12), type := 58, pos := "timer.go:93", after := #[{ on := 6, ground := Go.Ground.data }], guard := none }) (v := ?_) rfl rfl ?_ ?_
  rotate_left
  · go_simp; (try with_reducible rfl)
  try simp only [Act.put, List.setIfInBounds_toArray, List.set_cons_zero, List.set_cons_succ]
  refine seq_A (o := { dst := some 14, op := Go.Op.call { callee := Go.Callee.value (Go.Operand.func 25), args := #[Go.Operand.tmp 9, Go.Operand.tmp 13], argTypes := #[58, 58] }, type := 4, pos := "timer.go:93", after := #[{ on := 3, ground := Go.Ground.data }, { on := 7, ground := Go.Ground.data }], guard := none }) rfl rfl (fun K hK => ?_)
  go_simp
  refine hA.mono ?_
  rintro e w1 ⟨rfl, hb1⟩
  refine hK _ _ ?_
  clear hK
  try simp only [Act.put, List.setIfInBounds_toArray, List.set_cons_zero, List.set_cons_succ]
  refine seq_W (o := { dst := some 5, op := Go.Op.assign (Go.Operand.tmp 14), type := 4, pos := "timer.go:93", after := #[{ on := 8, ground := Go.Ground.data }, { on := 8, ground := Go.Ground.chain }, { on := 0, ground := Go.Ground.phase }, { on := 1, ground := Go.Ground.phase }, { on := 2, ground := Go.Ground.phase }, { on := 3, ground := Go.Ground.phase }, { on := 4, ground := Go.Ground.phase }, { on := 5, ground := Go.Ground.phase }, { on := 6, ground := Go.Ground.phase }, { on := 7, ground := Go.Ground.phase }, { on := 8, ground := Go.Ground.phase }], guard := none }) (v := ?_) rfl rfl (fun wz => ?_) ?_
  rotate_left
  · go_simp; (try with_reducible rfl)
  try simp only [Act.put, List.setIfInBounds_toArray, List.set_cons_zero, List.set_cons_succ]
  refine seq_nil (NoPanic.normal ?_)
  try simp only [Act.put, List.setIfInBounds_toArray, List.set_cons_zero, List.set_cons_succ]
  go_wp2
  go_ret
  exact ⟨rfl, Below.transS (Below.refl _ w).drew hb1⟩
/-- All that sort's functions ask. -/
def evSr (blk bs n cap : Nat) (hn : n ≤ 1000000) (hcap : n ≤ cap) (hne : bs ≠ blk) : SrC 24 #[.pointer (some ⟨bs, 0, none⟩)] 49 #[.slice (some ⟨blk, 0, none⟩) n cap, typeHandle Tryd.prog 58] n where
  at_ w d := EvS blk bs n cap w d
  blk := blk
  bs := bs
  few := hn
  low h := by
    obtain ⟨c, hc, _⟩ := h.row
    exact ⟨lt_of_block hc, lt_of_block h.box⟩
  keep h hk := by
    obtain ⟨c, hc, hr⟩ := h.row
    exact ⟨⟨c, (hk _ (.inl rfl)).trans hc, hr⟩, (hk _ (.inr rfl)).trans h.box⟩
  eg := enters_of Tryd.func24 (by kernel_rfl) rfl
  less w d i j h hi hj := less_ev w d i j h hn hcap hi hj
  swap w d i j h hi hj := swap_ev hne w d i j h hi hj
end Go.Proofs.YthnobkiiaflelaaDoor
