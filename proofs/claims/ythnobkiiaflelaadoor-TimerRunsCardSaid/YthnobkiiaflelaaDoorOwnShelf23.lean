/- The queue's heap of items: Swap. -/
import Derived.Test.YthnobkiiaflelaaDoorOwnShelf22
namespace Go.Proofs.YthnobkiiaflelaaDoor
open Go.RowKit Go.Maps Go.Sort

attribute [local go_sem ↓] Go.wp_at_zero Go.wp_at_succ

theorem setc (w : World) (b o : Nat) (u : Value) {k : Nat} (h : k ≠ b) : (w.setCell ⟨b, o, none⟩ u).heap[k]? = w.heap[k]? := Below.heap_setCell _ _ _ _ h
theorem itC_set (x : Ev) (pl : Int) (k : Int) : (itC x pl).setIfInBounds 3 (.int .i64 k) = itC x k := rfl
theorem it_set {W : World} {b : Nat} {x : Ev} {pl : Int} (h : W.heap[b]? = some (.cells (itC x pl) 69 (0, 0))) (b' : Nat) (k : Int) :
    ∃ pl', (W.setCell ⟨b', 3, none⟩ (.int .i64 k)).heap[b]? = some (.cells (itC x pl') 69 (0, 0)) ∧ (b' = b → pl' = k) ∧ (b' ≠ b → pl' = pl) := by
  by_cases e : b' = b
  · subst e
    exact ⟨k, by rw [heap_setCell_same _ _ 3 _ _ _ h, itC_set], fun _ => rfl, fun h => absurd rfl h⟩
  · exact ⟨pl, by rw [setc _ _ _ _ (Ne.symm e)]; exact h, fun h => absurd h e, fun _ => rfl⟩
section
variable {p m : Nat} {last : Int} {β : Int → Nat} {K : Ev → Prop} {R : Nat → Prop} {w w' : World} {n : Nat} {a : Nat → Ev}
theorem Wt.place (h : Wt p m last β K R w n a) {k l : Nat} (hk : k < n) (hl : l < n) (e : β (a k).id = β (a l).id) : k = l := by
  have h1 := (h.pl k hk).2
  rw [e, (h.pl l hl).2] at h1
  simp [itC] at h1
  omega
theorem ptL_swap (β : Int → Nat) {n i j : Nat} (a : Nat → Ev) {l : List Value} (h : l.take n = ptL β n a) (hl : n ≤ l.length) : (((l.set i (ptB (β (a j).id))).set j (ptB (β (a i).id)))).take n = ptL β n (swapA a i j) := by
  apply List.ext_getElem?
  intro k
  by_cases hk : k < n
  · rw [List.getElem?_take_of_lt hk, ptL_at β _ hk, List.getElem?_set, List.getElem?_set]
    have hkl : k < l.length := by omega
    have h0 : l[k]? = some (ptB (β (a k).id)) := by rw [← List.getElem?_take_of_lt hk, h, ptL_at β _ hk]
    by_cases e1 : j = k
    · subst e1
      rw [swapA_j]; simp [hkl]
    · by_cases e2 : i = k
      · subst e2
        rw [swapA_i]; simp [e1, hkl]
      · rw [swapA_o a (Ne.symm e2) (Ne.symm e1)]; simp [e1, e2, h0]
  · rw [List.getElem?_eq_none (by rw [List.length_take]; omega), List.getElem?_eq_none (by rw [ptL_len]; omega)]
set_option maxHeartbeats 1600000 in
/-- What Swap leaves. -/
theorem Wt.swap (h : Wt p m last β K R w n a) {g cap i j : Nat} (hv : w.cell? ⟨p, 1, none⟩ = some (.slice (some ⟨g, 0, none⟩) n cap)) (hi : i < n) (hj : j < n) :
    Wt p m last β K R ((((w.setCell ⟨g, i, none⟩ (ptB (β (a j).id))).setCell ⟨g, j, none⟩ (ptB (β (a i).id))).setCell ⟨β (a j).id, 3, none⟩ (.int .i64 i)).setCell ⟨β (a i).id, 3, none⟩ (.int .i64 j)) n (swapA a i j) := by
  obtain ⟨v, hq, ho, hr⟩ := h.q
  have e : v = .slice (some ⟨g, 0, none⟩) n cap := by
    rw [cell_of_row _ _ 1 _ _ _ hq] at hv
    exact Option.some.inj hv
  subst e
  have hRg := hr g rfl
  obtain ⟨hKi, hbi⟩ := h.pl i hi
  obtain ⟨hKj, hbj⟩ := h.pl j hj
  have hpg : p ≠ g := fun e => h.apart.1 (e ▸ hRg)
  have hxg : ∀ x, K x → β x.id ≠ g := fun x hx e => (h.apart.2 x hx).1 (e ▸ hRg)
  have hxp : ∀ x, K x → β x.id ≠ p := fun x hx => (h.apart.2 x hx).2
  have hkept : ∀ x pl, K x → w.heap[β x.id]? = some (.cells (itC x pl) 69 (0, 0)) → ((w.setCell ⟨g, i, none⟩ (ptB (β (a j).id))).setCell ⟨g, j, none⟩ (ptB (β (a i).id))).heap[β x.id]? = some (.cells (itC x pl) 69 (0, 0)) := fun x pl hx hb => by
    rw [setc _ _ _ _ (hxg x hx), setc _ _ _ _ (hxg x hx)]; exact hb
  refine ⟨h.few, ⟨.slice (some ⟨g, 0, none⟩) n cap, ?_, ?_, hr⟩, fun x hx => ?_, fun k hk => ?_, h.apart⟩
  · rw [setc _ _ _ _ (Ne.symm (hxp _ hKi)), setc _ _ _ _ (Ne.symm (hxp _ hKj)), setc _ _ _ _ (hpg), setc _ _ _ _ (hpg)]
    exact hq
  · refine ⟨by rw [ptL_len, Nat.mul_one], ?_⟩
    rcases ho.2 with ⟨e, _⟩ | ⟨g', cap', cur, e, hB, hg, hc, hm, hs, ht⟩
    · cases e
    · cases e
      have hg1 := heap_setCell_same _ _ i _ _ (ptB (β (a j).id)) hg
      have hg2 := heap_setCell_same _ _ j _ _ (ptB (β (a i).id)) hg1
      refine .inr ⟨g, cap, (cur.setIfInBounds i (ptB (β (a j).id))).setIfInBounds j (ptB (β (a i).id)), rfl, hB, ?_, hc, hm, ?_, ?_⟩
      · rw [setc _ _ _ _ (Ne.symm (hxg _ hKi)), setc _ _ _ _ (Ne.symm (hxg _ hKj))]
        exact hg2
      · simpa using hs
      · rw [Nat.mul_one] at ht ⊢
        rw [Array.toList_setIfInBounds, Array.toList_setIfInBounds]
        exact ptL_swap β a ht (by rw [Array.length_toList, hs]; omega)
  · obtain ⟨pl, hp⟩ := h.it x hx
    obtain ⟨pl1, h1, _, _⟩ := it_set (hkept x pl hx hp) (β (a j).id) i
    obtain ⟨pl2, h2, _, _⟩ := it_set h1 (β (a i).id) j
    exact ⟨pl2, h2⟩
  · have hgen : ∀ l, l < n → ∃ pl, ((((w.setCell ⟨g, i, none⟩ (ptB (β (a j).id))).setCell ⟨g, j, none⟩ (ptB (β (a i).id))).setCell ⟨β (a j).id, 3, none⟩ (.int .i64 i)).setCell ⟨β (a i).id, 3, none⟩ (.int .i64 j)).heap[β (a l).id]? = some (.cells (itC (a l) pl) 69 (0, 0)) ∧ (l = i → pl = j) ∧ (l ≠ i → l = j → pl = i) ∧ (l ≠ i → l ≠ j → pl = l) := fun l hl => by
      obtain ⟨hKl, hbl⟩ := h.pl l hl
      obtain ⟨pl1, h1, h11, h12⟩ := it_set (hkept _ _ hKl hbl) (β (a j).id) i
      obtain ⟨pl2, h2, h21, h22⟩ := it_set h1 (β (a i).id) j
      refine ⟨pl2, h2, fun e => h21 (by rw [e]), fun e1 e2 => ?_, fun e1 e2 => ?_⟩
      · rw [h22 (fun e => e1 (h.place hi hl e).symm)]
        exact h11 (by rw [e2])
      · rw [h22 (fun e => e1 (h.place hi hl e).symm)]
        exact h12 (fun e => e2 (h.place hj hl e).symm)
    by_cases e1 : k = i
    · subst e1
      rw [swapA_i]
      obtain ⟨pl, h1, h2, h3, _⟩ := hgen j hj
      refine ⟨hKj, ?_⟩
      have : pl = k := by
        by_cases e : j = k
        · rw [h2 e, e]
        · exact h3 e rfl
      rw [this] at h1; exact h1
    · by_cases e2 : k = j
      · subst e2
        rw [swapA_j]
        obtain ⟨pl, h1, h2, _, _⟩ := hgen i hi
        refine ⟨hKi, ?_⟩
        rw [h2 rfl] at h1; exact h1
      · rw [swapA_o a e1 e2]
        obtain ⟨pl, h1, _, _, h4⟩ := hgen k hk
        refine ⟨(h.pl k hk).1, ?_⟩
        rw [h4 e1 e2] at h1; exact h1
end
theorem Fr.set {M : Nat → Prop} {a b : World} (h : Fr M a b) (q : Addr) (u : Value) (hq : M q.block) : Fr M a (b.setCell q u) :=
  ⟨h.os, h.tape, h.output, by simpa [World.setCell] using h.size, fun k hk hn => by
    rw [Below.heap_setCell _ _ _ _ (fun e : k = q.block => hn (by rw [e]; exact hq))]; exact h.block k hk hn⟩
theorem Fr.drew {M : Nat → Prop} {a b : World} (h : Fr M a b) : Fr M a b.drew := ⟨h.os, h.tape, h.output, h.size, h.block⟩
set_option maxRecDepth 100000 in
set_option maxHeartbeats 3200000 in
theorem swap_wt {p m : Nat} {last : Int} {β : Int → Nat} {K : Ev → Prop} {R : Nat → Prop} (w : World) (n : Nat) (a : Nat → Ev) (v : Value) (i j : Nat) (h : Wt p m last β K R w n a) (hv : w.cell? ⟨p, 1, none⟩ = some v) (hi : i < n) (hj : j < n) :
    Calls Tryd.prog 87 #[v, .int .i64 (i : Int), .int .i64 (j : Int)] w fun e w' => e = .returned (.tuple #[]) ∧ Wt p m last β K R w' n (swapA a i j) ∧ Fr (wtM p β K R) w w' := by
  obtain ⟨g, cap, rfl, hRg, hgl, hc, hcap, hfr, -⟩ := h.row hv (by omega)
  have HS := h.swap hv hi hj
  have ci : w.cell? ⟨g, i, none⟩ = some (ptB (β (a i).id)) := hc i hi
  have cj : w.cell? ⟨g, j, none⟩ = some (ptB (β (a j).id)) := hc j hj
  obtain ⟨W1, hW1⟩ : ∃ W1, (w.setCell ⟨g, i, none⟩ (ptB (β (a j).id))).setCell ⟨g, j, none⟩ (ptB (β (a i).id)) = W1 := ⟨_, rfl⟩
  have k1 : (w.setCell ⟨g, i, none⟩ (ptB (β (a j).id))).cell? ⟨g, j, none⟩ = some (ptB (β (a j).id)) := by
    by_cases e : i = j
    · subst e; rw [World.cell?_setCell_same _ _ _ ci]
    · rw [World.cell?_setCell_other (h := by simp)]; exact cj
  have dj : W1.cell? ⟨g, j, none⟩ = some (ptB (β (a i).id)) := by
    rw [← hW1, World.cell?_setCell_same _ _ _ k1]
  have di : W1.cell? ⟨g, i, none⟩ = some (ptB (β (a j).id)) := by
    rw [← hW1]
    by_cases e : i = j
    · subst e; rw [World.cell?_setCell_same _ _ _ k1]
    · rw [World.cell?_setCell_other (h := by simp), World.cell?_setCell_same _ _ _ ci]
  have fi : w.frozen? ⟨g, i, none⟩ = false := hfr i
  have fj : w.frozen? ⟨g, j, none⟩ = false := hfr j
  obtain ⟨-, -, -, pj, ffj⟩ := h.item hj
  obtain ⟨-, -, -, pi, ffi⟩ := h.item hi
  have hKi := (h.pl i hi).1
  have hKj := (h.pl j hj).1
  have hgi : β (a i).id ≠ g := fun e => (h.apart.2 _ hKi).1 (e ▸ hRg)
  have hgj : β (a j).id ≠ g := fun e => (h.apart.2 _ hKj).1 (e ▸ hRg)
  have ej : W1.cell? ⟨β (a j).id, 3, none⟩ = some (.int .i64 j) := by
    rw [← hW1, World.cell?_setCell_far _ _ _ _ (Ne.symm hgj), World.cell?_setCell_far _ _ _ _ (Ne.symm hgj)]; exact pj
  have ei : W1.cell? ⟨β (a i).id, 3, none⟩ = some (.int .i64 i) := by
    rw [← hW1, World.cell?_setCell_far _ _ _ _ (Ne.symm hgi), World.cell?_setCell_far _ _ _ _ (Ne.symm hgi)]; exact pi
  have gj : W1.frozen? ⟨β (a j).id, 3, none⟩ = false := by
    rw [← hW1]; simpa using ffj 3
  obtain ⟨W2, hW2⟩ : ∃ W2, W1.setCell ⟨β (a j).id, 3, none⟩ (.int .i64 i) = W2 := ⟨_, rfl⟩
  have gi : W2.frozen? ⟨β (a i).id, 3, none⟩ = false := by
    rw [← hW2, ← hW1]; simpa using ffi 3
  have ei2 : ∃ u, W2.cell? ⟨β (a i).id, 3, none⟩ = some u := by
    rw [← hW2]; exact cell?_setCell_some ei
  obtain ⟨u2, ei2⟩ := ei2
  have HE : Hid (Wt p m last β K R (W2.setCell ⟨β (a i).id, 3, none⟩ (.int .i64 j)).drew.drew n (swapA a i j) ∧ Fr (wtM p β K R) w (W2.setCell ⟨β (a i).id, 3, none⟩ (.int .i64 j)).drew.drew) := by
    refine ⟨HS.keep fun k _ _ => by rw [← hW2, ← hW1]; rfl, ?_⟩
    rw [← hW2, ← hW1]
    exact (((((Fr.refl _ w).set _ _ (.inr (.inl hRg))).set _ _ (.inr (.inl hRg))).set _ _ (.inr (.inr ⟨_, hKj, rfl⟩))).set _ _ (.inr (.inr ⟨_, hKi, rfl⟩))).drew.drew
  have hN := h.few
  clear h hv HS hc hfr pj pi ffj ffi hgi hgj ei hKi hKj
  unfold ptB at *
  generalize β (a i).id = bi at *
  generalize β (a j).id = bj at *
  go_enter Tryd.func87, Tryd.ntmps87
  go_upto_region 0 with fail
  refine region_seq (c := 13) (f := 60) (ts := [(0, 0), (0, 1), (0, 2), (0, 3), (0, 4), (0, 5), (0, 6), (1, 7), (0, 8), (0, 9), (0, 10), (1, 11), (0, 12), (2, 13), (0, 14), (2, 15)]) (by kernel_rfl) (by kernel_rfl) ?_
  refine seq_W (o := { dst := some 6, op := Go.Op.move (Go.Operand.tmp 0), type := 62, pos := "timer.go:131", after := #[], guard := none }) (v := ?_) rfl rfl (fun wz => ?_) ?_
  rotate_left
  · go_simp; (try with_reducible rfl)
  try simp only [Act.put, List.setIfInBounds_toArray, List.set_cons_zero, List.set_cons_succ]
  refine seq_W (o := { dst := some 7, op := Go.Op.move (Go.Operand.tmp 1), type := 3, pos := "timer.go:131", after := #[], guard := none }) (v := ?_) rfl rfl (fun wz => ?_) ?_
  rotate_left
  · go_simp; (try with_reducible rfl)
  try simp only [Act.put, List.setIfInBounds_toArray, List.set_cons_zero, List.set_cons_succ]
  refine seq_W (o := { dst := some 8, op := Go.Op.move (Go.Operand.tmp 0), type := 62, pos := "timer.go:131", after := #[{ on := 13, ground := Go.Ground.gcOnly Go.Departure.lateStores }], guard := none }) (v := ?_) rfl rfl (fun wz => ?_) ?_
  rotate_left
  · go_simp; (try with_reducible rfl)
  try simp only [Act.put, List.setIfInBounds_toArray, List.set_cons_zero, List.set_cons_succ]
  refine seq_W (o := { dst := some 9, op := Go.Op.move (Go.Operand.tmp 2), type := 3, pos := "timer.go:131", after := #[{ on := 13, ground := Go.Ground.gcOnly Go.Departure.lateStores }], guard := none }) (v := ?_) rfl rfl (fun wz => ?_) ?_
  rotate_left
  · go_simp; (try with_reducible rfl)
  try simp only [Act.put, List.setIfInBounds_toArray, List.set_cons_zero, List.set_cons_succ]
  refine seq_W (o := { dst := some 10, op := Go.Op.move (Go.Operand.tmp 0), type := 62, pos := "timer.go:131", after := #[], guard := none }) (v := ?_) rfl rfl (fun wz => ?_) ?_
  rotate_left
  · go_simp; (try with_reducible rfl)
  try simp only [Act.put, List.setIfInBounds_toArray, List.set_cons_zero, List.set_cons_succ]
  refine seq_W (o := { dst := some 11, op := Go.Op.move (Go.Operand.tmp 2), type := 3, pos := "timer.go:131", after := #[], guard := none }) (v := ?_) rfl rfl (fun wz => ?_) ?_
  rotate_left
  · go_simp; (try with_reducible rfl)
  try simp only [Act.put, List.setIfInBounds_toArray, List.set_cons_zero, List.set_cons_succ]
  refine seq_W (o := { dst := some 12, op := Go.Op.indexAddr 62 (Go.Operand.tmp 10) (Go.Operand.tmp 11), type := 0, pos := "timer.go:131", after := #[{ on := 4, ground := Go.Ground.data }, { on := 5, ground := Go.Ground.data }], guard := none }) (v := ?_) rfl rfl (fun wz => ?_) ?_
  rotate_left
  · go_simp; (try with_reducible rfl)
  try simp only [Act.put, List.setIfInBounds_toArray, List.set_cons_zero, List.set_cons_succ]
  refine seq_R (o := { dst := some 13, op := Go.Op.load 66 (Go.Operand.tmp 12), type := 66, pos := "timer.go:131", after := #[{ on := 6, ground := Go.Ground.data }], guard := none }) (v := ?_) rfl rfl ?_ ?_
  rotate_left
  · go_simp; (try with_reducible rfl)
  try simp only [Act.put, List.setIfInBounds_toArray, List.set_cons_zero, List.set_cons_succ]
  refine seq_W (o := { dst := some 14, op := Go.Op.move (Go.Operand.tmp 0), type := 62, pos := "timer.go:131", after := #[], guard := none }) (v := ?_) rfl rfl (fun wz => ?_) ?_
  rotate_left
  · go_simp; (try with_reducible rfl)
  try simp only [Act.put, List.setIfInBounds_toArray, List.set_cons_zero, List.set_cons_succ]
  refine seq_W (o := { dst := some 15, op := Go.Op.move (Go.Operand.tmp 1), type := 3, pos := "timer.go:131", after := #[], guard := none }) (v := ?_) rfl rfl (fun wz => ?_) ?_
  rotate_left
  · go_simp; (try with_reducible rfl)
  try simp only [Act.put, List.setIfInBounds_toArray, List.set_cons_zero, List.set_cons_succ]
  refine seq_W (o := { dst := some 16, op := Go.Op.indexAddr 62 (Go.Operand.tmp 14) (Go.Operand.tmp 15), type := 0, pos := "timer.go:131", after := #[{ on := 8, ground := Go.Ground.data }, { on := 9, ground := Go.Ground.data }], guard := none }) (v := ?_) rfl rfl (fun wz => ?_) ?_
  rotate_left
  · go_simp; (try with_reducible rfl)
  try simp only [Act.put, List.setIfInBounds_toArray, List.set_cons_zero, List.set_cons_succ]
  refine seq_R (o := { dst := some 17, op := Go.Op.load 66 (Go.Operand.tmp 16), type := 66, pos := "timer.go:131", after := #[{ on := 10, ground := Go.Ground.data }], guard := none }) (v := ?_) rfl rfl ?_ ?_
  rotate_left
  · go_simp; (try with_reducible rfl)
  try simp only [Act.put, List.setIfInBounds_toArray, List.set_cons_zero, List.set_cons_succ]
  refine seq_W (o := { dst := some 18, op := Go.Op.indexAddr 62 (Go.Operand.tmp 6) (Go.Operand.tmp 7), type := 0, pos := "timer.go:131", after := #[{ on := 0, ground := Go.Ground.data }, { on := 1, ground := Go.Ground.data }, { on := 0, ground := Go.Ground.phase }, { on := 1, ground := Go.Ground.phase }, { on := 2, ground := Go.Ground.textOnly Go.Departure.lateStores }, { on := 3, ground := Go.Ground.textOnly Go.Departure.lateStores }, { on := 4, ground := Go.Ground.phase }, { on := 5, ground := Go.Ground.phase }, { on := 6, ground := Go.Ground.phase }, { on := 7, ground := Go.Ground.phase }, { on := 8, ground := Go.Ground.textOnly Go.Departure.lateStores }, { on := 9, ground := Go.Ground.textOnly Go.Departure.lateStores }, { on := 10, ground := Go.Ground.textOnly Go.Departure.lateStoresUnsure }, { on := 11, ground := Go.Ground.phase }], guard := none }) (v := ?_) rfl rfl (fun wz => ?_) ?_
  rotate_left
  · go_simp; (try with_reducible rfl)
  try simp only [Act.put, List.setIfInBounds_toArray, List.set_cons_zero, List.set_cons_succ]
  refine seq_A (o := { dst := none, op := Go.Op.store 66 (Go.Operand.tmp 18) (Go.Operand.tmp 13), type := 0, pos := "timer.go:131", after := #[{ on := 12, ground := Go.Ground.data }, { on := 7, ground := Go.Ground.data }, { on := 0, ground := Go.Ground.phase }, { on := 1, ground := Go.Ground.phase }, { on := 2, ground := Go.Ground.textOnly Go.Departure.lateStores }, { on := 3, ground := Go.Ground.textOnly Go.Departure.lateStores }, { on := 4, ground := Go.Ground.phase }, { on := 5, ground := Go.Ground.phase }, { on := 6, ground := Go.Ground.phase }, { on := 7, ground := Go.Ground.phase }, { on := 8, ground := Go.Ground.textOnly Go.Departure.lateStores }, { on := 9, ground := Go.Ground.textOnly Go.Departure.lateStores }, { on := 10, ground := Go.Ground.textOnly Go.Departure.lateStoresUnsure }, { on := 11, ground := Go.Ground.phase }], guard := none }) rfl rfl (fun K hK => ?_)
  go_simp
  refine hK _ _ ?_
  clear hK K
  try simp only [Act.put, List.setIfInBounds_toArray, List.set_cons_zero, List.set_cons_succ]
  refine seq_W (o := { dst := some 19, op := Go.Op.indexAddr 62 (Go.Operand.tmp 8) (Go.Operand.tmp 9), type := 0, pos := "timer.go:131", after := #[{ on := 2, ground := Go.Ground.data }, { on := 3, ground := Go.Ground.data }, { on := 0, ground := Go.Ground.phase }, { on := 1, ground := Go.Ground.phase }, { on := 2, ground := Go.Ground.phase }, { on := 3, ground := Go.Ground.phase }, { on := 4, ground := Go.Ground.phase }, { on := 5, ground := Go.Ground.phase }, { on := 6, ground := Go.Ground.phase }, { on := 7, ground := Go.Ground.phase }, { on := 8, ground := Go.Ground.phase }, { on := 9, ground := Go.Ground.phase }, { on := 10, ground := Go.Ground.phase }, { on := 11, ground := Go.Ground.phase }, { on := 12, ground := Go.Ground.phase }, { on := 13, ground := Go.Ground.phase }], guard := none }) (v := ?_) rfl rfl (fun wz => ?_) ?_
  rotate_left
  · go_simp; (try with_reducible rfl)
  try simp only [Act.put, List.setIfInBounds_toArray, List.set_cons_zero, List.set_cons_succ]
  refine seq_A (o := { dst := none, op := Go.Op.store 66 (Go.Operand.tmp 19) (Go.Operand.tmp 17), type := 0, pos := "timer.go:131", after := #[{ on := 14, ground := Go.Ground.data }, { on := 11, ground := Go.Ground.data }, { on := 13, ground := Go.Ground.chain }, { on := 0, ground := Go.Ground.phase }, { on := 1, ground := Go.Ground.phase }, { on := 2, ground := Go.Ground.phase }, { on := 3, ground := Go.Ground.phase }, { on := 4, ground := Go.Ground.phase }, { on := 5, ground := Go.Ground.phase }, { on := 6, ground := Go.Ground.phase }, { on := 7, ground := Go.Ground.phase }, { on := 8, ground := Go.Ground.phase }, { on := 9, ground := Go.Ground.phase }, { on := 10, ground := Go.Ground.phase }, { on := 11, ground := Go.Ground.phase }, { on := 12, ground := Go.Ground.phase }, { on := 13, ground := Go.Ground.phase }], guard := none }) rfl rfl (fun K hK => ?_)
  go_simp
  refine hK _ _ ?_
  clear hK K
  try simp only [Act.put, List.setIfInBounds_toArray, List.set_cons_zero, List.set_cons_succ]
  refine seq_nil (NoPanic.normal ?_)
  try simp only [Act.put, List.setIfInBounds_toArray, List.set_cons_zero, List.set_cons_succ]
  go_upto_region 1 with fail
  refine region_seq (c := 12) (f := 60) (ts := [(0, 0), (0, 1), (0, 2), (1, 3), (0, 4), (0, 5), (0, 6), (1, 7), (0, 8), (0, 9), (0, 10), (0, 11), (2, 12), (0, 13), (0, 14), (2, 15)]) (by kernel_rfl) (by kernel_rfl) ?_
  refine seq_W (o := { dst := some 20, op := Go.Op.move (Go.Operand.tmp 0), type := 62, pos := "timer.go:132", after := #[], guard := none }) (v := ?_) rfl rfl (fun wz => ?_) ?_
  rotate_left
  · go_simp; (try with_reducible rfl)
  try simp only [Act.put, List.setIfInBounds_toArray, List.set_cons_zero, List.set_cons_succ]
  refine seq_W (o := { dst := some 21, op := Go.Op.move (Go.Operand.tmp 1), type := 3, pos := "timer.go:132", after := #[], guard := none }) (v := ?_) rfl rfl (fun wz => ?_) ?_
  rotate_left
  · go_simp; (try with_reducible rfl)
  try simp only [Act.put, List.setIfInBounds_toArray, List.set_cons_zero, List.set_cons_succ]
  refine seq_W (o := { dst := some 22, op := Go.Op.indexAddr 62 (Go.Operand.tmp 20) (Go.Operand.tmp 21), type := 0, pos := "timer.go:132", after := #[{ on := 0, ground := Go.Ground.data }, { on := 1, ground := Go.Ground.data }], guard := none }) (v := ?_) rfl rfl (fun wz => ?_) ?_
  rotate_left
  · go_simp; (try with_reducible rfl)
  try simp only [Act.put, List.setIfInBounds_toArray, List.set_cons_zero, List.set_cons_succ]
  refine seq_R (o := { dst := some 23, op := Go.Op.load 66 (Go.Operand.tmp 22), type := 66, pos := "timer.go:132", after := #[{ on := 2, ground := Go.Ground.data }], guard := none }) (v := ?_) rfl rfl ?_ ?_
  rotate_left
  · go_simp; (try with_reducible rfl)
  try simp only [Act.put, List.setIfInBounds_toArray, List.set_cons_zero, List.set_cons_succ]
  refine seq_W (o := { dst := some 24, op := Go.Op.move (Go.Operand.tmp 0), type := 62, pos := "timer.go:132", after := #[], guard := none }) (v := ?_) rfl rfl (fun wz => ?_) ?_
  rotate_left
  · go_simp; (try with_reducible rfl)
  try simp only [Act.put, List.setIfInBounds_toArray, List.set_cons_zero, List.set_cons_succ]
  refine seq_W (o := { dst := some 25, op := Go.Op.move (Go.Operand.tmp 2), type := 3, pos := "timer.go:132", after := #[], guard := none }) (v := ?_) rfl rfl (fun wz => ?_) ?_
  rotate_left
  · go_simp; (try with_reducible rfl)
  try simp only [Act.put, List.setIfInBounds_toArray, List.set_cons_zero, List.set_cons_succ]
  refine seq_W (o := { dst := some 26, op := Go.Op.indexAddr 62 (Go.Operand.tmp 24) (Go.Operand.tmp 25), type := 0, pos := "timer.go:132", after := #[{ on := 4, ground := Go.Ground.data }, { on := 5, ground := Go.Ground.data }], guard := none }) (v := ?_) rfl rfl (fun wz => ?_) ?_
  rotate_left
  · go_simp; (try with_reducible rfl)
  try simp only [Act.put, List.setIfInBounds_toArray, List.set_cons_zero, List.set_cons_succ]
  refine seq_R (o := { dst := some 27, op := Go.Op.load 66 (Go.Operand.tmp 26), type := 66, pos := "timer.go:132", after := #[{ on := 6, ground := Go.Ground.data }], guard := none }) (v := ?_) rfl rfl ?_ ?_
  rotate_left
  · go_simp; (try with_reducible rfl)
  try simp only [Act.put, List.setIfInBounds_toArray, List.set_cons_zero, List.set_cons_succ]
  refine seq_W (o := { dst := some 28, op := Go.Op.move (Go.Operand.tmp 1), type := 3, pos := "timer.go:132", after := #[], guard := none }) (v := ?_) rfl rfl (fun wz => ?_) ?_
  rotate_left
  · go_simp; (try with_reducible rfl)
  try simp only [Act.put, List.setIfInBounds_toArray, List.set_cons_zero, List.set_cons_succ]
  refine seq_W (o := { dst := some 29, op := Go.Op.move (Go.Operand.tmp 2), type := 3, pos := "timer.go:132", after := #[{ on := 12, ground := Go.Ground.gcOnly Go.Departure.lateStores }], guard := none }) (v := ?_) rfl rfl (fun wz => ?_) ?_
  rotate_left
  · go_simp; (try with_reducible rfl)
  try simp only [Act.put, List.setIfInBounds_toArray, List.set_cons_zero, List.set_cons_succ]
  refine seq_W (o := { dst := some 30, op := Go.Op.nilCheck (Go.Operand.tmp 23), type := 0, pos := "timer.go:132", after := #[{ on := 3, ground := Go.Ground.data }, { on := 0, ground := Go.Ground.phase }, { on := 1, ground := Go.Ground.phase }, { on := 2, ground := Go.Ground.phase }, { on := 3, ground := Go.Ground.phase }, { on := 4, ground := Go.Ground.textOnly Go.Departure.lateStores }, { on := 5, ground := Go.Ground.textOnly Go.Departure.lateStores }, { on := 6, ground := Go.Ground.textOnly Go.Departure.lateStoresUnsure }, { on := 7, ground := Go.Ground.phase }, { on := 8, ground := Go.Ground.phase }, { on := 9, ground := Go.Ground.textOnly Go.Departure.lateStores }], guard := none }) (v := ?_) rfl rfl (fun wz => ?_) ?_
  rotate_left
  · go_simp; (try with_reducible rfl)
  try simp only [Act.put, List.setIfInBounds_toArray, List.set_cons_zero, List.set_cons_succ]
  refine seq_W (o := { dst := some 31, op := Go.Op.fieldAddr 69 (Go.Operand.tmp 30) 1, type := 0, pos := "timer.go:132", after := #[{ on := 10, ground := Go.Ground.data }, { on := 0, ground := Go.Ground.phase }, { on := 1, ground := Go.Ground.phase }, { on := 2, ground := Go.Ground.phase }, { on := 3, ground := Go.Ground.phase }, { on := 4, ground := Go.Ground.textOnly Go.Departure.lateStores }, { on := 5, ground := Go.Ground.textOnly Go.Departure.lateStores }, { on := 6, ground := Go.Ground.textOnly Go.Departure.lateStoresUnsure }, { on := 7, ground := Go.Ground.phase }, { on := 8, ground := Go.Ground.phase }, { on := 9, ground := Go.Ground.textOnly Go.Departure.lateStores }], guard := none }) (v := ?_) rfl rfl (fun wz => ?_) ?_
  rotate_left
  · go_simp; (try with_reducible rfl)
  try simp only [Act.put, List.setIfInBounds_toArray, List.set_cons_zero, List.set_cons_succ]
  refine seq_A (o := { dst := none, op := Go.Op.store 3 (Go.Operand.tmp 31) (Go.Operand.tmp 28), type := 0, pos := "timer.go:132", after := #[{ on := 11, ground := Go.Ground.data }, { on := 8, ground := Go.Ground.data }, { on := 0, ground := Go.Ground.phase }, { on := 1, ground := Go.Ground.phase }, { on := 2, ground := Go.Ground.phase }, { on := 3, ground := Go.Ground.phase }, { on := 4, ground := Go.Ground.textOnly Go.Departure.lateStores }, { on := 5, ground := Go.Ground.textOnly Go.Departure.lateStores }, { on := 6, ground := Go.Ground.textOnly Go.Departure.lateStoresUnsure }, { on := 7, ground := Go.Ground.phase }, { on := 8, ground := Go.Ground.phase }, { on := 9, ground := Go.Ground.textOnly Go.Departure.lateStores }], guard := none }) rfl rfl (fun K hK => ?_)
  go_simp
  refine hK _ _ ?_
  clear hK K
  try simp only [Act.put, List.setIfInBounds_toArray, List.set_cons_zero, List.set_cons_succ]
  refine seq_W (o := { dst := some 32, op := Go.Op.nilCheck (Go.Operand.tmp 27), type := 0, pos := "timer.go:132", after := #[{ on := 7, ground := Go.Ground.data }, { on := 0, ground := Go.Ground.phase }, { on := 1, ground := Go.Ground.phase }, { on := 2, ground := Go.Ground.phase }, { on := 3, ground := Go.Ground.phase }, { on := 4, ground := Go.Ground.phase }, { on := 5, ground := Go.Ground.phase }, { on := 6, ground := Go.Ground.phase }, { on := 7, ground := Go.Ground.phase }, { on := 8, ground := Go.Ground.phase }, { on := 9, ground := Go.Ground.phase }, { on := 10, ground := Go.Ground.phase }, { on := 11, ground := Go.Ground.phase }, { on := 12, ground := Go.Ground.phase }], guard := none }) (v := ?_) rfl rfl (fun wz => ?_) ?_
  rotate_left
  · go_simp; (try with_reducible rfl)
  try simp only [Act.put, List.setIfInBounds_toArray, List.set_cons_zero, List.set_cons_succ]
  refine seq_W (o := { dst := some 33, op := Go.Op.fieldAddr 69 (Go.Operand.tmp 32) 1, type := 0, pos := "timer.go:132", after := #[{ on := 13, ground := Go.Ground.data }, { on := 0, ground := Go.Ground.phase }, { on := 1, ground := Go.Ground.phase }, { on := 2, ground := Go.Ground.phase }, { on := 3, ground := Go.Ground.phase }, { on := 4, ground := Go.Ground.phase }, { on := 5, ground := Go.Ground.phase }, { on := 6, ground := Go.Ground.phase }, { on := 7, ground := Go.Ground.phase }, { on := 8, ground := Go.Ground.phase }, { on := 9, ground := Go.Ground.phase }, { on := 10, ground := Go.Ground.phase }, { on := 11, ground := Go.Ground.phase }, { on := 12, ground := Go.Ground.phase }], guard := none }) (v := ?_) rfl rfl (fun wz => ?_) ?_
  rotate_left
  · go_simp; (try with_reducible rfl)
  try simp only [Act.put, List.setIfInBounds_toArray, List.set_cons_zero, List.set_cons_succ]
  refine seq_A (o := { dst := none, op := Go.Op.store 3 (Go.Operand.tmp 33) (Go.Operand.tmp 29), type := 0, pos := "timer.go:132", after := #[{ on := 14, ground := Go.Ground.data }, { on := 9, ground := Go.Ground.data }, { on := 12, ground := Go.Ground.chain }, { on := 0, ground := Go.Ground.phase }, { on := 1, ground := Go.Ground.phase }, { on := 2, ground := Go.Ground.phase }, { on := 3, ground := Go.Ground.phase }, { on := 4, ground := Go.Ground.phase }, { on := 5, ground := Go.Ground.phase }, { on := 6, ground := Go.Ground.phase }, { on := 7, ground := Go.Ground.phase }, { on := 8, ground := Go.Ground.phase }, { on := 9, ground := Go.Ground.phase }, { on := 10, ground := Go.Ground.phase }, { on := 11, ground := Go.Ground.phase }, { on := 12, ground := Go.Ground.phase }], guard := none }) rfl rfl (fun K hK => ?_)
  go_simp
  refine hK _ _ ?_
  clear hK K
  try simp only [Act.put, List.setIfInBounds_toArray, List.set_cons_zero, List.set_cons_succ]
  refine seq_nil (NoPanic.normal ?_)
  try simp only [Act.put, List.setIfInBounds_toArray, List.set_cons_zero, List.set_cons_succ]
  go_wp2
  go_end0
  exact ⟨rfl, HE.out⟩
end Go.Proofs.YthnobkiiaflelaaDoor
