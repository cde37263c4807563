/- Who signed a sum: Who; two lists of ints held against one another: ints. -/
import Derived.Test.YtlddjniofijnnaaDoorOSign
namespace Go.Proofs.YtlddjniofijnnaaDoor
open Go.RowKit

attribute [local go_sem ↓] Go.wp_at_zero Go.wp_at_succ

/-- Those below q that signed a sum. -/
def whoL (S : List (Int × List UInt8)) (z : Nat → Int) (q : Nat) : List Nat := (List.range q).filter fun i => S.contains ((i : Int), ub z)
def iv (l : List Nat) : List Value := l.map fun (i : Nat) => .int .i64 (i : Int)
theorem whoL_succ (S : List (Int × List UInt8)) (z : Nat → Int) (q : Nat) : whoL S z (q + 1) = if S.contains ((q : Int), ub z) then whoL S z q ++ [q] else whoL S z q := by
  unfold whoL
  rw [List.range_succ, List.filter_append]
  by_cases h : S.contains ((q : Int), ub z) = true
  · rw [if_pos h]; simp only [List.filter_cons, h, if_true, List.filter_nil]
  · rw [if_neg h]; simp only [List.filter_cons, h, List.filter_nil, List.append_nil, Bool.false_eq_true, if_false]
theorem whoL_len (S : List (Int × List UInt8)) (z : Nat → Int) (q : Nat) : (whoL S z q).length ≤ q := by
  have := List.length_filter_le (fun i => S.contains (((i : Nat) : Int), ub z)) (List.range q)
  simpa [whoL] using this
theorem infoI : (Tryd.prog.info? 3).map (fun i => (i.zero, i.size, i.bytes)) = some (some (.int .i64 0), 1, 8) := by kernel_rfl
/-- At each round of Who. -/
structure WhoR (w wr : World) (v : Value) (z : Nat → Int) (l : List Nat) : Prop where
  below : Below w.heap.size w wr
  box : wr.heap[w.heap.size]? = some (.cells (hv z) 32 (0, 0))
  own : wr.ownsRow (w.heap.size + 1) 3 1 v l.length (iv l)
theorem WhoR.keep {w wr w' : World} {v : Value} {z : Nat → Int} {l : List Nat} (h : WhoR w wr v z l) (hb : Below wr.heap.size wr w') : WhoR w w' v z l := by
  obtain ⟨h1, h2, h3⟩ := h
  refine ⟨Below.transS h1 hb, by rw [hb.block _ (lt_of_block h2)]; exact h2, h3.1, ?_⟩
  rcases h3.2 with hn | ⟨g, cap, cur, e, hbs, hg, rest⟩
  · exact .inl hn
  · exact .inr ⟨g, cap, cur, e, hbs, by rw [hb.block _ (lt_of_block hg)]; exact hg, rest⟩
theorem WhoR.next {w wr w' : World} {v v' : Value} {z : Nat → Int} {l : List Nat} {q : Nat} {o : Obj} (h : WhoR w wr v z l) (hown : w'.ownsRow (w.heap.size + 1) 3 1 v' (l.length + 1) (iv l ++ [.int .i64 (q : Int)])) (hg : (wr.alloc o).grownBy w' v.ownBlock) : WhoR w w' v' z (l ++ [q]) := by
  have hlt := h.own.lt
  have hbox := lt_of_block h.box
  refine ⟨?_, ?_, ?_⟩
  · exact (h.below.alloc h.below.size o).trans ⟨hg.os, hg.tape, hg.output, hg.size, fun k hk => hg.block k (by have := h.below.size; simp; omega) (fun e => by have := (hlt k e.symm).1; omega)⟩
  · rw [hg.block _ (by simp; omega) (fun e => by have := (hlt _ e.symm).1; omega), Below.heap_alloc _ _ _ hbox]
    exact h.box
  · have e1 : (l ++ [q]).length = l.length + 1 := by simp
    have e2 : iv (l ++ [q]) = iv l ++ [.int .i64 (q : Int)] := by simp [iv]
    rw [e1, e2]; exact hown
/-- Ints that lie at an address. -/
def IsAt (w : World) (ad : Option Addr) (n : Nat) (z : Nat → Int) : Prop := 0 < n → ∃ b off, ad = some ⟨b, off, none⟩ ∧ ∀ j, j < n → w.cell? ⟨b, off + j, none⟩ = some (.int .i64 (z j))
def gt (l : List Nat) (j : Nat) : Int := ((l.getD j 0 : Nat) : Int)

set_option maxRecDepth 100000 in
set_option maxHeartbeats 1600000 in
theorem who_any (p m B : Nat) (g : Nat → Option Nat) (S : List (Int × List UInt8)) (z : Nat → Int) (w : World) (h : BkAt w B p m g S) (hz : Zb z) :
    Calls Tryd.prog 16 #[.pointer (some ⟨p, 0, none⟩), .agg (hv z)] w fun e w' => ∃ ad cap, e = .returned (.slice ad (whoL S z 16).length cap) ∧ IsAt w' ad (whoL S z 16).length (gt (whoL S z 16)) ∧ Below w.heap.size w w' ∧ (∀ a, ad = some a → w.heap.size ≤ a.block) := by
  obtain ⟨i0, hi0, hz0, hz1, hz2⟩ := info_parts infoI
  have HI0 : Hid (Tryd.prog.info? 3 = some i0 ∧ i0.zero = some (.int .i64 0) ∧ i0.size = 1 ∧ i0.bytes = 8) := ⟨hi0, hz0, hz1, hz2⟩
  clear hi0 hz0 hz1 hz2
  have HH : Hid (BkAt w B p m g S) := h
  have h0 : WhoR w (w.alloc (.cells (hv z) 32)) (.slice none 0 0) z (whoL S z 0) := ⟨(Below.refl _ w).alloc (Nat.le_refl _) _, heap_alloc_new w _, World.ownsRow_nil _ _ _ _⟩
  clear h
  go_enter Tryd.func16, Tryd.ntmps16
  go_wp2_with (first | (refine Go.Great.wpList_boxTo rfl _ _ rfl _ rfl _ rfl (hv z) rfl ?_) | fail)
  generalize w.alloc (.cells (hv z) 32) = W0 at *
  go_loopw [5, 7] (fun sv iv wr => ∃ (q : Nat) (v : Value), q ≤ 16 ∧ v = sv ∧ iv = .int .i64 q ∧ WhoR w wr v z (whoL S z q)) (fun _ iv _ => 17 - (intOf iv).toNat)
  case atStart => exact ⟨0, _, by omega, rfl, rfl, h0⟩
  case round =>
    clear h0
    obtain ⟨q, v, hq, rfl, rfl, hR⟩ := hrel
    have HR : Hid (WhoR w wr v z (whoL S z q)) := hR
    have hbx := hR.box
    have hlen := whoL_len S z q
    have HB : Hid (BkAt wr B p m g S) := HH.out.below hR.below
    have hws := hR.below.size
    clear hR
    by_cases hlt : q < 16
    · have hlt' : (q : Int) < 16 := by omega
      have hi : Ib (q : Int) := by unfold Ib; omega
      by_cases hc : S.contains ((q : Int), ub z) = true
      · have HN : Hid (whoL S z (q + 1) = whoL S z q ++ [q]) := by show _ = _; rw [whoL_succ, if_pos hc]
        go_wp2_with (first | (refine wpList_loadH rfl _ rfl w.heap.size rfl z _ _ hbx ?_) | (go_at_call 10; refine (has_any p m B g S _ z _ HB.out hi hz).mono ?_; rintro e w1 ⟨rfl, hb1⟩; rw [hc]; have HR1 : Hid (WhoR w w1 v z (whoL S z q)) := HR.out.keep hb1) | (at_builtin; refine wpList_append_own_at _ rfl _ _ 38 rfl (w.heap.size + 1) 3 i0 (.int .i64 0) 1 8 Tryd.underlying38 HI0.out.1 HI0.out.2.1 HI0.out.2.2.1 HI0.out.2.2.2 rfl (by omega) _ _ _ rfl (HR1.out.own.alloc _) ⟨w1.heap.size, 0, none⟩ 1 1 [.int .i64 (q : Int)] rfl rfl (cell_one_new _ _ _) (by intro u hu; simp at hu; subst hu; rfl) (by unfold maxLen; omega) (by omega) (by have := HR1.out.below.size; have := lt_of_block HR1.out.box; simp; omega) ?_; intro v' w2 hown' hgrow hnil hloc) | fail)
        go_roundw
        case rel => exact ⟨q + 1, v', by omega, rfl, by go_num, by rw [HN.out]; exact HR1.out.next hown' hgrow⟩
        case measure => simp [intOf]; omega
      · have hc' : S.contains ((q : Int), ub z) = false := by simpa using hc
        have HN : Hid (whoL S z (q + 1) = whoL S z q) := by show _ = _; rw [whoL_succ, if_neg hc]
        go_wp2_with (first | (refine wpList_loadH rfl _ rfl w.heap.size rfl z _ _ hbx ?_) | (go_at_call 10; refine (has_any p m B g S _ z _ HB.out hi hz).mono ?_; rintro e w1 ⟨rfl, hb1⟩; rw [hc']) | fail)
        go_roundw
        case rel => exact ⟨q + 1, v, by omega, rfl, by go_num, by rw [HN.out]; exact HR.out.keep hb1⟩
        case measure => simp [intOf]; omega
    · obtain rfl : q = 16 := by omega
      have hR := HR.out
      obtain ⟨ad, cap, hv'⟩ : ∃ ad cap, v = .slice ad (whoL S z 16).length cap := by
        rcases hR.own.2 with ⟨e, e2⟩ | ⟨q, cap, cur, e, -⟩
        · exact ⟨none, 0, by rw [e, e2]⟩
        · exact ⟨_, _, e⟩
      subst hv'
      have HE : Hid (IsAt wr ad (whoL S z 16).length (gt (whoL S z 16)) ∧ ∀ a, ad = some a → w.heap.size ≤ a.block) := by
        refine ⟨fun hn => ?_, fun a e => ?_⟩
        · rcases hR.own.2 with ⟨e, e2⟩ | ⟨q, cap', cur, e, hbs, hg, hnc, -, hcs, htk⟩
          · omega
          · simp only [Value.slice.injEq] at e
            obtain ⟨rfl, -, rfl⟩ := e
            refine ⟨q, 0, rfl, fun j hj => ?_⟩
            have := hR.own.cells (g := q) rfl j (.int .i64 (gt (whoL S z 16) j)) (by simp [iv, gt, hj])
            rwa [Addr.add_lit] at this
        · rcases hR.own.2 with ⟨e1, e2⟩ | ⟨q, cap', cur, e1, hbs, -⟩
          · simp only [Value.slice.injEq] at e1
            rw [e1.1] at e; cases e
          · simp only [Value.slice.injEq] at e1
            rw [e1.1] at e
            cases e
            show w.heap.size ≤ q
            omega
      have hbl := hR.below
      clear hR HR
      go_wp2
      go_ret
      exact ⟨_, _, rfl, HE.out.1, hbl, HE.out.2⟩

set_option maxHeartbeats 800000 in
theorem ints_same (ad bd : Option Addr) (n cap cap2 : Nat) (z : Nat → Int) (w : World) (h1 : IsAt w ad n z) (h2 : IsAt w bd n z) (hn : n ≤ 1000000) :
    Calls Tryd.prog 15 #[.slice ad n cap, .slice bd n cap2] w fun e w' => e = .returned (.bool true) ∧ Below w.heap.size w w' := by
  have H1 : Hid (IsAt w ad n z) := h1
  have H2 : Hid (IsAt w bd n z) := h2
  have hb0 := Below.refl w.heap.size w
  clear h1 h2
  go_enter Tryd.func15, Tryd.ntmps15
  go_wp2_with fail
  go_loopw [5] (fun iv wr => ∃ q : Nat, q ≤ n ∧ iv = .int .i64 q ∧ Below w.heap.size w wr) (fun iv _ => n + 1 - (intOf iv).toNat)
  case atStart => exact ⟨0, by omega, rfl, hb0⟩
  case round =>
    clear hb0
    obtain ⟨q, hq, rfl, hb⟩ := hrel
    by_cases hlt : q < n
    · have hlt' : (q : Int) < n := by omega
      obtain ⟨b, off, rfl, hc⟩ := H1.out (by omega)
      obtain ⟨b2, off2, rfl, hc2⟩ := H2.out (by omega)
      have k1 : wr.drew.cell? ⟨b, off + q, none⟩ = some (.int .i64 (z q)) := by
        have := hc q hlt
        have hl : b < w.heap.size := World.block_lt_of_cell? w ⟨b, off + q, none⟩ this
        rw [hb.drew.cell (p := ⟨b, off + q, none⟩) hl]; exact this
      have k2 : wr.drew.cell? ⟨b2, off2 + q, none⟩ = some (.int .i64 (z q)) := by
        have := hc2 q hlt
        have hl : b2 < w.heap.size := World.block_lt_of_cell? w ⟨b2, off2 + q, none⟩ this
        rw [hb.drew.cell (p := ⟨b2, off2 + q, none⟩) hl]; exact this
      clear hc hc2
      go_wp2_with fail
      refine wp_region_noPanic ?_
      refine wp_region_held_drew (S := fun w' => w'.cell? ⟨b, off + q, none⟩ = some (.int .i64 (z q)) ∧ w'.cell? ⟨b2, off2 + q, none⟩ = some (.int .i64 (z q))) (by kernel_rfl) ⟨k1, k2⟩ (fun hHeld => ?_)
      refine wpAnyH_take (i := 0) (oi := { dst := some 17, op := Go.Op.move (Go.Operand.tmp 0), type := 38, pos := "law.go:30", after := #[], guard := none }) (v := ?_) rfl (by kernel_rfl) (by kernel_rfl) (by kernel_rfl) (fun _ _ _ h => h) (Or.inl ⟨by rfl, ?_⟩) (by assumption) ?_
      rotate_left
      · intro wz hSw; (try dsimp only at hSw); go_simp; (try with_reducible rfl)
      try simp only [Act.put, List.setIfInBounds_toArray, List.set_cons_zero, List.set_cons_succ]
      refine wpAnyH_take (i := 1) (oi := { dst := some 18, op := Go.Op.move (Go.Operand.tmp 5), type := 3, pos := "law.go:30", after := #[], guard := none }) (v := ?_) rfl (by kernel_rfl) (by kernel_rfl) (by kernel_rfl) (fun _ _ _ h => h) (Or.inl ⟨by rfl, ?_⟩) (by assumption) ?_
      rotate_left
      · intro wz hSw; (try dsimp only at hSw); go_simp; (try with_reducible rfl)
      try simp only [Act.put, List.setIfInBounds_toArray, List.set_cons_zero, List.set_cons_succ]
      refine wpAnyH_take (i := 2) (oi := { dst := some 19, op := Go.Op.indexAddr 38 (Go.Operand.tmp 17) (Go.Operand.tmp 18), type := 0, pos := "law.go:30", after := #[{ on := 0, ground := Go.Ground.data }, { on := 1, ground := Go.Ground.data }], guard := none }) (v := ?_) rfl (by kernel_rfl) (by kernel_rfl) (by kernel_rfl) (fun _ _ _ h => h) (Or.inl ⟨by rfl, ?_⟩) (by assumption) ?_
      rotate_left
      · intro wz hSw; (try dsimp only at hSw); go_simp; (try with_reducible rfl)
      try simp only [Act.put, List.setIfInBounds_toArray, List.set_cons_zero, List.set_cons_succ]
      refine wpAnyH_take (i := 3) (oi := { dst := some 20, op := Go.Op.load 3 (Go.Operand.tmp 19), type := 3, pos := "law.go:30", after := #[{ on := 2, ground := Go.Ground.data }], guard := none }) (v := ?_) rfl (by kernel_rfl) (by kernel_rfl) (by kernel_rfl) (fun _ _ _ h => h) (Or.inl ⟨by rfl, ?_⟩) (by assumption) ?_
      rotate_left
      · intro wz hSw; (try dsimp only at hSw); go_simp; (try with_reducible rfl)
      try simp only [Act.put, List.setIfInBounds_toArray, List.set_cons_zero, List.set_cons_succ]
      refine wpAnyH_take (i := 4) (oi := { dst := some 21, op := Go.Op.move (Go.Operand.tmp 1), type := 38, pos := "law.go:30", after := #[], guard := none }) (v := ?_) rfl (by kernel_rfl) (by kernel_rfl) (by kernel_rfl) (fun _ _ _ h => h) (Or.inl ⟨by rfl, ?_⟩) (by assumption) ?_
      rotate_left
      · intro wz hSw; (try dsimp only at hSw); go_simp; (try with_reducible rfl)
      try simp only [Act.put, List.setIfInBounds_toArray, List.set_cons_zero, List.set_cons_succ]
      refine wpAnyH_take (i := 5) (oi := { dst := some 22, op := Go.Op.move (Go.Operand.tmp 5), type := 3, pos := "law.go:30", after := #[], guard := none }) (v := ?_) rfl (by kernel_rfl) (by kernel_rfl) (by kernel_rfl) (fun _ _ _ h => h) (Or.inl ⟨by rfl, ?_⟩) (by assumption) ?_
      rotate_left
      · intro wz hSw; (try dsimp only at hSw); go_simp; (try with_reducible rfl)
      try simp only [Act.put, List.setIfInBounds_toArray, List.set_cons_zero, List.set_cons_succ]
      refine wpAnyH_take (i := 6) (oi := { dst := some 23, op := Go.Op.indexAddr 38 (Go.Operand.tmp 21) (Go.Operand.tmp 22), type := 0, pos := "law.go:30", after := #[{ on := 4, ground := Go.Ground.data }, { on := 5, ground := Go.Ground.data }], guard := none }) (v := ?_) rfl (by kernel_rfl) (by kernel_rfl) (by kernel_rfl) (fun _ _ _ h => h) (Or.inl ⟨by rfl, ?_⟩) (by assumption) ?_
      rotate_left
      · intro wz hSw; (try dsimp only at hSw); go_simp; (try with_reducible rfl)
      try simp only [Act.put, List.setIfInBounds_toArray, List.set_cons_zero, List.set_cons_succ]
      refine wpAnyH_take (i := 7) (oi := { dst := some 24, op := Go.Op.load 3 (Go.Operand.tmp 23), type := 3, pos := "law.go:30", after := #[{ on := 6, ground := Go.Ground.data }], guard := none }) (v := ?_) rfl (by kernel_rfl) (by kernel_rfl) (by kernel_rfl) (fun _ _ _ h => h) (Or.inl ⟨by rfl, ?_⟩) (by assumption) ?_
      rotate_left
      · intro wz hSw; (try dsimp only at hSw); go_simp; (try with_reducible rfl)
      try simp only [Act.put, List.setIfInBounds_toArray, List.set_cons_zero, List.set_cons_succ]
      refine wpAnyH_take (i := 8) (oi := { dst := some 25, op := Go.Op.binOp Go.BinOp.neq 3 (Go.Operand.tmp 20) (Go.Operand.tmp 24) 3, type := 4, pos := "law.go:30", after := #[{ on := 3, ground := Go.Ground.data }, { on := 7, ground := Go.Ground.data }], guard := none }) (v := ?_) rfl (by kernel_rfl) (by kernel_rfl) (by kernel_rfl) (fun _ _ _ h => h) (Or.inl ⟨by rfl, ?_⟩) (by assumption) ?_
      rotate_left
      · intro wz hSw; (try dsimp only at hSw); go_simp; (try with_reducible rfl)
      try simp only [Act.put, List.setIfInBounds_toArray, List.set_cons_zero, List.set_cons_succ]
      refine wpAnyH_done (by kernel_rfl) (NoPanic.normal ?_) _
      try simp only [Act.put, List.setIfInBounds_toArray, List.set_cons_zero, List.set_cons_succ]
      have hb' := hb.drew
      clear hHeld k1 k2
      go_wp2
      go_roundw
      case rel => exact ⟨q + 1, by omega, by go_num, hb'⟩
      case measure => simp [intOf]; omega
    · obtain rfl : q = n := by omega
      go_wp2
      go_ret
      exact ⟨rfl, hb⟩
end Go.Proofs.YtlddjniofijnnaaDoor
