/- cond.Same of two conditions that are laid as the same bytes. -/
import Derived.Test.YtfdcpbolofkopaaGreatDoorCDecW
namespace Go.Proofs.YtfdcpbolofkopaaGreatDoor
open Go.RowKit

theorem Ow.stay {w0 w w' : World} {v : Value} {L : List Int} (h : Ow w0 w v L) (hb : Below w.heap.size w w') : Ow w0 w' v L := by
  refine ⟨⟨h.own.1, ?_⟩, h.below.trans (hb.mono h.below.size), h.bd⟩
  rcases h.own.2 with hn | ⟨g, cap, cur, e, hbs, hg, rest⟩
  · exact .inl hn
  · exact .inr ⟨g, cap, cur, e, hbs, by rw [hb.block _ (lt_of_block hg)]; exact hg, rest⟩
theorem conv_own {w0 w : World} {v : Value} {L : List Int} (h : Ow w0 w v L) : (convert 25 9 v).run Tryz.prog w = .ok (.string (strB (fn L) L.length)) w := by
  obtain ⟨ad, cp, rfl⟩ := h.form
  obtain ⟨_, hs, hn, _, _⟩ := h.fresh
  exact conv_any ad _ cp _ w hs hn
theorem Glob.belowB {w w' : World} (h : Glob w) (hb : Below w.heap.size w w') : Glob w' := h.below hb h.pos

theorem equal_same (v1 v2 : Value) (L : List Int) (w1 w2 w : World) (h1 : Ow w1 w v1 L) (h2 : Ow w2 w v2 L) :
    Calls Tryz.prog 36 #[v1, v2] w fun e w' => e = .returned (.bool true) ∧ w' = w := by
  have c1 := conv_own h1
  have c2 := conv_own h2
  clear h1 h2
  go_enter Tryz.func36, Tryz.ntmps36
  go_wp2
  go_ret
  exact ⟨by simp, rfl⟩

set_option maxRecDepth 100000 in
set_option maxHeartbeats 3200000 in
theorem same_any (ad1 : Option Addr) (cap1 : Nat) (Y : Nat → Bv) (ad2 : Option Addr) (cap2 : Nat) (X : Nat → Bv) (n : Nat) (w : World) (h1 : BrAt w ad1 n Y) (h2 : BrAt w ad2 n X) (hL : laidC Y n = laidC X n) (hn : n ≤ 1000) (hy : ∀ i, i < n → (Y i).n ≤ 1000000) (hx : ∀ i, i < n → (X i).n ≤ 1000000) :
    Calls Tryz.prog 14 #[.agg #[.slice ad1 n cap1], .agg #[.slice ad2 n cap2]] w fun e w' => e = .returned (.bool true) ∧ Below w.heap.size w w' := by
  have hb0 : Below w.heap.size w (((w.alloc (.cells #[.slice ad1 n cap1] 30)).alloc (.cells #[.slice ad2 n cap2] 30)).drew) := (((Below.refl _ w).alloc (Nat.le_refl _) _).alloc (by simp) _).drew
  have c1 : (((w.alloc (.cells #[.slice ad1 n cap1] 30)).alloc (.cells #[.slice ad2 n cap2] 30)).drew).cell? ⟨w.heap.size, 0, none⟩ = some (.slice ad1 n cap1) := by
    show ((w.alloc (.cells #[.slice ad1 n cap1] 30)).alloc (.cells #[.slice ad2 n cap2] 30)).cell? ⟨w.heap.size, 0, none⟩ = _
    rw [World.cell?_alloc_lt _ _ ⟨w.heap.size, 0, none⟩ (by simp)]; simp
  have c2 : (((w.alloc (.cells #[.slice ad1 n cap1] 30)).alloc (.cells #[.slice ad2 n cap2] 30)).drew).cell? ⟨w.heap.size + 1, 0, none⟩ = some (.slice ad2 n cap2) := by
    show ((w.alloc (.cells #[.slice ad1 n cap1] 30)).alloc (.cells #[.slice ad2 n cap2] 30)).cell? ⟨w.heap.size + 1, 0, none⟩ = _
    have := heap_alloc_new (w.alloc (.cells #[.slice ad1 n cap1] 30)) (.cells #[.slice ad2 n cap2] 30)
    rw [cell_of_row _ _ 0 _ _ _ (by simpa using this)]; rfl
  have HB : Hid (BrAt w ad1 n Y ∧ BrAt w ad2 n X ∧ laidC Y n = laidC X n) := ⟨h1, h2, hL⟩
  clear h1 h2 hL
  go_enter Tryz.func14, Tryz.ntmps14
  go_wp2_with fail
  generalize (w.alloc (.cells #[.slice ad1 n cap1] 30)).alloc (.cells #[.slice ad2 n cap2] 30) = W at *
  have H0 : Hid (Below w.heap.size w W.drew ∧ W.drew.cell? ⟨w.heap.size, 0, none⟩ = some (.slice ad1 n cap1) ∧ W.drew.cell? ⟨w.heap.size + 1, 0, none⟩ = some (.slice ad2 n cap2)) := ⟨hb0, c1, c2⟩
  have keep : ∀ w1 w2 : World, Below w.heap.size w w1 ∧ w1.cell? ⟨w.heap.size, 0, none⟩ = some (.slice ad1 n cap1) ∧ w1.cell? ⟨w.heap.size + 1, 0, none⟩ = some (.slice ad2 n cap2) → Below w1.heap.size w1 w2 → Below w.heap.size w w2 ∧ w2.cell? ⟨w.heap.size, 0, none⟩ = some (.slice ad1 n cap1) ∧ w2.cell? ⟨w.heap.size + 1, 0, none⟩ = some (.slice ad2 n cap2) := fun w1 w2 h1 h2 =>
    ⟨h1.1.trans (h2.mono h1.1.size), by rw [h2.cell (p := ⟨w.heap.size, 0, none⟩) (World.block_lt_of_cell? w1 ⟨w.heap.size, 0, none⟩ h1.2.1)]; exact h1.2.1, by rw [h2.cell (p := ⟨w.heap.size + 1, 0, none⟩) (World.block_lt_of_cell? w1 ⟨w.heap.size + 1, 0, none⟩ h1.2.2)]; exact h1.2.2⟩
  have KP : Hid _ := keep
  clear hb0 keep
  refine wp_region_noPanic ?_
  refine wp_region_held_drew (S := fun w' => w'.cell? ⟨w.heap.size, 0, none⟩ = some (.slice ad1 n cap1) ∧ w'.cell? ⟨w.heap.size + 1, 0, none⟩ = some (.slice ad2 n cap2)) (by kernel_rfl) ⟨c1, c2⟩ (fun hHeld => ?_)
  clear c1 c2
  refine wpAnyH_take (i := 0) (oi := { dst := some 5, op := Go.Op.load 30 (Go.Operand.tmp 2), type := 30, pos := "cond.go:116", after := #[], guard := none }) (v := ?_) rfl (by kernel_rfl) (by kernel_rfl) (by kernel_rfl) (fun _ _ _ h => h) (Or.inl ⟨by rfl, ?_⟩) (by assumption) ?_
  rotate_left
  · intro wz hSw; (try dsimp only at hSw); go_simp; (try with_reducible rfl)
  try simp only [Act.put, List.setIfInBounds_toArray, List.set_cons_zero, List.set_cons_succ]
  refine wpAnyH_take (i := 2) (oi := { dst := some 7, op := Go.Op.load 30 (Go.Operand.tmp 3), type := 30, pos := "cond.go:116", after := #[], guard := none }) (v := ?_) rfl (by kernel_rfl) (by kernel_rfl) (by kernel_rfl) (fun _ _ _ h => h) (Or.inl ⟨by rfl, ?_⟩) (by assumption) ?_
  rotate_left
  · intro wz hSw; (try dsimp only at hSw); go_simp; (try with_reducible rfl)
  try simp only [Act.put, List.setIfInBounds_toArray, List.set_cons_zero, List.set_cons_succ]
  refine wpAnyH_ready (rs := [1]) (by kernel_rfl) (by simp) ?_
  refine (AllReadyH.cons (o := { dst := some 6, op := Go.Op.call { callee := Go.Callee.value (Go.Operand.func 12), args := #[Go.Operand.const (Go.Value.slice none 0 0), Go.Operand.tmp 5], argTypes := #[25, 30] }, type := 25, pos := "cond.go:116", after := #[{ on := 0, ground := Go.Ground.data }], guard := none }) rfl (fun K hK => ?_) AllReadyH.nil)
  go_simp
  refine (put_any none [] 0 ad1 n cap1 Y _ (SlAt.zero _ _) (fun _ => ⟨rfl, rfl⟩) (HB.out.1.below H0.out.1) hn hy (by simp)).mono ?_
  rintro e w1 ⟨v1, rfl, hO1⟩
  rw [List.nil_append] at hO1
  have H1 : Hid ((Below w.heap.size w w1 ∧ w1.cell? ⟨w.heap.size, 0, none⟩ = some (.slice ad1 n cap1) ∧ w1.cell? ⟨w.heap.size + 1, 0, none⟩ = some (.slice ad2 n cap2)) ∧ Ow W.drew w1 v1 (laidC Y n)) := ⟨KP.out _ _ H0.out hO1.below, hO1⟩
  clear hO1
  refine hK.out _ _ H1.out.1.2 (fun _ => ?_)
  clear hK K
  try simp only [Act.put, List.setIfInBounds_toArray, List.set_cons_zero, List.set_cons_succ]
  refine wpAnyH_ready (rs := [3]) (by kernel_rfl) (by simp) ?_
  refine (AllReadyH.cons (o := { dst := some 8, op := Go.Op.call { callee := Go.Callee.value (Go.Operand.func 12), args := #[Go.Operand.const (Go.Value.slice none 0 0), Go.Operand.tmp 7], argTypes := #[25, 30] }, type := 25, pos := "cond.go:116", after := #[{ on := 2, ground := Go.Ground.data }, { on := 1, ground := Go.Ground.chain }], guard := none }) rfl (fun K hK => ?_) AllReadyH.nil)
  go_simp
  refine (put_any none [] 0 ad2 n cap2 X _ (SlAt.zero _ _) (fun _ => ⟨rfl, rfl⟩) (HB.out.2.1.below H1.out.1.1) hn hx (by simp)).mono ?_
  rintro e w2 ⟨v2, rfl, hO2⟩
  rw [List.nil_append, ← HB.out.2.2] at hO2
  have H2 : Hid ((Below w.heap.size w w2 ∧ w2.cell? ⟨w.heap.size, 0, none⟩ = some (.slice ad1 n cap1) ∧ w2.cell? ⟨w.heap.size + 1, 0, none⟩ = some (.slice ad2 n cap2)) ∧ Ow W.drew w2 v1 (laidC Y n) ∧ Ow w1 w2 v2 (laidC Y n)) := ⟨KP.out _ _ H1.out.1 hO2.below, H1.out.2.stay hO2.below, hO2⟩
  clear hO2
  refine hK.out _ _ H2.out.1.2 (fun _ => ?_)
  clear hK K
  try simp only [Act.put, List.setIfInBounds_toArray, List.set_cons_zero, List.set_cons_succ]
  refine wpAnyH_ready (rs := [4]) (by kernel_rfl) (by simp) ?_
  refine (AllReadyH.cons (o := { dst := some 9, op := Go.Op.call { callee := Go.Callee.value (Go.Operand.func 36), args := #[Go.Operand.tmp 6, Go.Operand.tmp 8], argTypes := #[25, 25] }, type := 4, pos := "cond.go:116", after := #[{ on := 1, ground := Go.Ground.data }, { on := 3, ground := Go.Ground.data }, { on := 3, ground := Go.Ground.chain }], guard := none }) rfl (fun K hK => ?_) AllReadyH.nil)
  go_simp
  refine (equal_same v1 v2 _ _ _ _ H2.out.2.1 H2.out.2.2).mono ?_
  rintro e w3 ⟨rfl, rfl⟩
  refine hK.out _ _ H2.out.1.2 (fun _ => ?_)
  clear hK K
  try simp only [Act.put, List.setIfInBounds_toArray, List.set_cons_zero, List.set_cons_succ]
  refine wpAnyH_take (i := 5) (oi := { dst := some 4, op := Go.Op.assign (Go.Operand.tmp 9), type := 4, pos := "cond.go:116", after := #[{ on := 4, ground := Go.Ground.data }, { on := 4, ground := Go.Ground.chain }, { on := 0, ground := Go.Ground.phase }, { on := 1, ground := Go.Ground.phase }, { on := 2, ground := Go.Ground.phase }, { on := 3, ground := Go.Ground.phase }, { on := 4, ground := Go.Ground.phase }], guard := none }) (v := ?_) rfl (by kernel_rfl) (by kernel_rfl) (by kernel_rfl) (fun _ _ _ h => h) (Or.inl ⟨by rfl, ?_⟩) (by assumption) ?_
  rotate_left
  · intro wz hSw; (try dsimp only at hSw); go_simp; (try with_reducible rfl)
  try simp only [Act.put, List.setIfInBounds_toArray, List.set_cons_zero, List.set_cons_succ]
  refine wpAnyH_done (by kernel_rfl) (NoPanic.normal ?_) _
  try simp only [Act.put, List.setIfInBounds_toArray, List.set_cons_zero, List.set_cons_succ]
  clear hHeld
  have hbe := H2.out.1.1
  go_wp2
  go_ret
  exact ⟨rfl, hbe⟩
end Go.Proofs.YtfdcpbolofkopaaGreatDoor
