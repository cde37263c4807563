/- settle, walked. -/
import Derived.Test.YtbfajoeilpkofaaGreatDoorOwnShelf13
namespace Go.Proofs.YtbfajoeilpkofaaGreatDoor
open Go.RowKit

attribute [local go_sem ↓] Go.wp_at_zero Go.wp_at_succ

theorem szW : (Tryz.prog.info? 79).map (·.size) = some 2 := by kernel_rfl
theorem getL {L : List (Int × Bs)} {i : Nat} (h : i < L.length) : L[i]? = some L[i] := List.getElem?_eq_getElem h
/-- What the closure answers, wherever some blocks are as they were. -/
def Tells (kf : Nat) (cs : Array Value) (K : Nat → Bool) (T : List Nat) (n : Nat) (w : World) : Prop :=
  ∀ W i, i < n → (∀ k, k ∈ T → W.heap[k]? = w.heap[k]?) → Calls Tryz.prog kf (#[.int .i64 (i : Int)] ++ cs) W fun e W' => e = .returned (.bool (K i)) ∧ W' = W
/-- Behind i rounds. -/
structure SetI (q : Nat) (S : St) (K : Nat → Bool) (w wr : World) (i : Nat) : Prop where
  at_ : wr.heap[q]? = some (.cells ((setF K 0 (S.loose.take i) S.safe).map Bs.v).toArray 29 (0, 0))
  frm : Frm [q] w wr
theorem SetI.step {q : Nat} {S : St} {K : Nat → Bool} {w wr : World} {i : Nat} (h : SetI q S K w wr i) (hi : i < S.loose.length) (hK : K i = false) (o : Obj) : SetI q S K w (wr.alloc o) (i + 1) := by
  refine ⟨?_, h.frm.alloc o⟩
  rw [Below.heap_alloc _ _ _ (lt_of_block h.at_), h.at_, List.take_add_one, getL hi]
  simp only [Option.toList_some]
  rw [setF_snoc]
  have : K (0 + (S.loose.take i).length) = false := by simp [Nat.min_eq_left (Nat.le_of_lt hi), hK]
  rw [this]; rfl
theorem SetI.set {q : Nat} {S : St} {K : Nat → Bool} {w wr : World} {i : Nat} (h : SetI q S K w wr i) (hi : i < S.loose.length) (hK : K i = true) (o : Obj) (pg : Nat) (hp : S.loose[i].1 = (pg : Int)) : SetI q S K w ((wr.alloc o).setCell ⟨q, pg, none⟩ S.loose[i].2.v).drew (i + 1) := by
  have hlt := lt_of_block h.at_
  refine ⟨?_, ((h.frm.alloc o).setCell _ _ (by simp)).drew⟩
  have h0 : (wr.alloc o).heap[q]? = some (.cells ((setF K 0 (S.loose.take i) S.safe).map Bs.v).toArray 29 (0, 0)) := by
    rw [Below.heap_alloc _ _ _ hlt]; exact h.at_
  show ((wr.alloc o).setCell ⟨q, pg, none⟩ S.loose[i].2.v).heap[q]? = _
  rw [heap_setCell_same _ q pg _ _ _ h0, List.take_add_one, getL hi]
  simp only [Option.toList_some]
  rw [setF_snoc]
  have : K (0 + (S.loose.take i).length) = true := by simp [Nat.min_eq_left (Nat.le_of_lt hi), hK]
  rw [if_pos this, hp]
  congr 2
  apply Array.toList_inj.1
  simp [List.map_set]
set_option maxRecDepth 100000 in
set_option maxHeartbeats 1600000 in
theorem settle_any (p q : Nat) (lo : Value) (F : Nat → Prop) (S : St) (kf : Nat) (cs : Array Value) (K : Nat → Bool) (T : List Nat) (w : World) (h : St0 w p q lo F S) (eK : ∀ args w, (callFunc kf args).run Tryz.prog w = .ok (.enter kf args) w)
    (hK : Tells kf cs K T S.loose.length w) (hT : ∀ k, k ∈ T → k < w.heap.size ∧ k ≠ q) :
    Calls Tryz.prog 57 #[.pointer (some ⟨p, 0, none⟩), .func (.func kf) #[] cs] w (SetR p q lo F S K w) := by
  have h1 := h.c1
  obtain ⟨ad, cap, rfl⟩ := h.lform
  have H0 : Hid (St0 w p q (.slice ad S.loose.length cap) F S) := h
  have HI0 : SetI q S K w w 0 := ⟨by simpa [setF] using h.safe, Frm.refl _ _⟩
  have hfew := h.few
  have HT : Hid (∀ k, k ∈ T → k < w.heap.size ∧ k ≠ q) := hT
  have HK : Hid (Tells kf cs K T S.loose.length w) := hK
  clear h hK hT
  go_enter Tryz.func57, Tryz.ntmps57
  go_wp2
  go_loopw [4, 5, 11] (fun nv wv iv wr => ∃ i : Nat, i ≤ S.loose.length ∧ iv = .int .i64 i ∧ SetI q S K w wr i) (fun _ _ iv _ => S.loose.length + 1 - (intOf iv).toNat)
  case atStart => exact ⟨0, by omega, rfl, HI0⟩
  case round =>
    clear HI0
    obtain ⟨i, hi, rfl, hI⟩ := hrel
    by_cases hlt : i < S.loose.length
    · obtain ⟨g, rfl⟩ : ∃ g, ad = some ⟨g, 0, none⟩ := by
        rcases H0.out.loose.2 with ⟨_, e⟩ | ⟨g, c, cur, e, _⟩
        · omega
        · cases e; exact ⟨g, rfl⟩
      have hgq : g ≠ q ∧ g < w.heap.size ∧ g ≠ p := ⟨(H0.out.nlo g rfl).2.1, H0.out.ltlo rfl, (H0.out.nlo g rfl).1⟩
      have hlt' : (i : Int) < S.loose.length := by omega
      obtain ⟨x, hx⟩ : ∃ x, S.loose[i] = x := ⟨_, rfl⟩
      have hxm : x ∈ S.loose := hx ▸ List.getElem_mem hlt
      obtain ⟨pg, hpg⟩ : ∃ pg : Nat, x.1 = (pg : Int) := ⟨x.1.toNat, by have := (H0.out.ls x hxm).2.2; omega⟩
      have hpl : pg < S.safe.length := by have := (H0.out.ls x hxm).2.2; omega
      have hcell : ∀ j u, (flatW S.loose)[j]? = some u → wr.cell? ⟨g, j, none⟩ = some u := fun j u hu => by
        have h0 := H0.out.loose.cells (g := g) rfl j u hu
        rw [Addr.add_lit, Nat.zero_add] at h0
        rw [World.cell?_of_block (a := ⟨g, j, none⟩) (hI.frm.block g hgq.2.1 (by simpa using hgq.1))]; exact h0
      have d0 := hcell _ _ (flatW_at0 S.loose i x (by rw [getL hlt, hx]))
      have d1 := hcell _ _ (flatW_at1 S.loose i x (by rw [getL hlt, hx]))
      rw [hpg] at d0
      have hpq : wr.heap[p]? = w.heap[p]? := hI.frm.block p (H0.out.lt (.inl rfl)) (by simpa using H0.out.npq)
      have lp : p < wr.heap.size := Nat.lt_of_lt_of_le (H0.out.lt (.inl rfl)) hI.frm.size
      have e0 : (wr.alloc (.cells #[.int .i64 pg, x.2.v] 79)).cell? ⟨p, 0, none⟩ = some (.slice (some ⟨q, 0, none⟩) S.safe.length S.safe.length) := by
        rw [World.cell?_alloc_lt _ _ _ lp, World.cell?_of_block (a := ⟨p, 0, none⟩) hpq]; exact H0.out.c0
      have hcall := HK.out (wr.alloc (.cells #[.int .i64 pg, x.2.v] 79)) i hlt (fun k hk => by
        have := HT.out k hk
        rw [Below.heap_alloc _ _ _ (Nat.lt_of_lt_of_le this.1 hI.frm.size)]; exact hI.frm.block k this.1 (by simpa using this.2))
      have hq0 : (wr.alloc (.cells #[.int .i64 pg, x.2.v] 79)).heap[q]? = some (.cells ((setF K 0 (S.loose.take i) S.safe).map Bs.v).toArray 29 (0, 0)) := by rw [Below.heap_alloc _ _ _ (lt_of_block hI.at_)]; exact hI.at_
      have hbx := heap_alloc_new wr (.cells #[.int .i64 pg, x.2.v] 79)
      have b0 : (wr.alloc (.cells #[.int .i64 pg, x.2.v] 79)).cell? ⟨wr.heap.size, 0, none⟩ = some (.int .i64 pg) := by rw [cell_of_row _ _ 0 _ _ _ hbx]; rfl
      have b1 : (wr.alloc (.cells #[.int .i64 pg, x.2.v] 79)).cell? ⟨wr.heap.size, 1, none⟩ = some x.2.v := by rw [cell_of_row _ _ 1 _ _ _ hbx]; rfl
      have qc0 : ((wr.alloc (.cells #[.int .i64 pg, x.2.v] 79)).cell? ⟨q, pg, none⟩).isSome = true := by
        rw [cell_of_row _ _ pg _ _ _ hq0]; simp [setF_length, hpl]
      obtain ⟨qu, qc⟩ := Option.isSome_iff_exists.1 qc0
      have qf : (wr.alloc (.cells #[.int .i64 pg, x.2.v] 79)).frozen? ⟨q, pg, none⟩ = false := frozen_of_row _ _ pg _ _ hq0
      have hpl' : (pg : Int) < S.safe.length := by omega
      have hne : ¬ p = q ∧ ¬ wr.heap.size = q := ⟨H0.out.npq, by have := H0.out.lt (k := q) (.inr (.inl rfl)); have := hI.frm.size; omega⟩
      have hv : ∃ a n c, x.2.v = .slice a n c := ⟨_, _, _, rfl⟩
      have HS := fun hk => hI.set hlt hk (.cells #[.int .i64 pg, x.2.v] 79) pg (by rw [hx]; exact hpg)
      have HN := fun hk => hI.step hlt hk (.cells #[.int .i64 pg, x.2.v] 79)
      rw [hx] at HS
      clear hI hcell hpq hq0 hbx hgq hx hxm hpg qc0
      generalize x.2.v = xv at *
      obtain ⟨xa, xn, xc, rfl⟩ := hv
      cases hk : K i with
      | true =>
        rw [hk] at hcall
        have HS' : Hid (SetI q S K w ((wr.alloc (.cells #[.int .i64 pg, .slice xa xn xc] 79)).setCell ⟨q, pg, none⟩ (.slice xa xn xc)).drew (i + 1)) := HS hk
        clear HS HN
        go_wp2_with fail
        refine hcall.mono ?_
        rintro e w1 ⟨rfl, hw1⟩
        rw [hw1]
        clear hcall hw1 w1
        go_wp2_with fail
        refine wp_region_noPanic ?_
        refine wp_region_held_drew (S := fun w' => w'.cell? ⟨p, 0, none⟩ = some (.slice (some ⟨q, 0, none⟩) S.safe.length S.safe.length) ∧ w'.cell? ⟨wr.heap.size, 0, none⟩ = some (.int .i64 pg) ∧ w'.cell? ⟨wr.heap.size, 1, none⟩ = some (.slice xa xn xc)) (by kernel_rfl) ⟨e0, b0, b1⟩ (fun hHeld => ?_)
        refine wpAnyH_take (i := 0) (oi := { dst := some 19, op := Go.Op.move (Go.Operand.tmp 0), type := 24, pos := "pages.go:146", after := #[], guard := none }) (v := ?_) rfl (by kernel_rfl) (by kernel_rfl) (by kernel_rfl) (fun _ _ _ h => h) (Or.inl ⟨by rfl, ?_⟩) (by assumption) ?_
        rotate_left
        · intro wz hSw; (try dsimp only at hSw); go_simp; (try with_reducible rfl)
        try simp only [Act.put, List.setIfInBounds_toArray, List.set_cons_zero, List.set_cons_succ]
        refine wpAnyH_take (i := 1) (oi := { dst := some 20, op := Go.Op.nilCheck (Go.Operand.tmp 19), type := 0, pos := "pages.go:146", after := #[{ on := 0, ground := Go.Ground.data }], guard := none }) (v := ?_) rfl (by kernel_rfl) (by kernel_rfl) (by kernel_rfl) (fun _ _ _ h => h) (Or.inl ⟨by rfl, ?_⟩) (by assumption) ?_
        rotate_left
        · intro wz hSw; (try dsimp only at hSw); go_simp; (try with_reducible rfl)
        try simp only [Act.put, List.setIfInBounds_toArray, List.set_cons_zero, List.set_cons_succ]
        refine wpAnyH_take (i := 2) (oi := { dst := some 21, op := Go.Op.fieldAddr 75 (Go.Operand.tmp 20) 0, type := 0, pos := "pages.go:146", after := #[{ on := 1, ground := Go.Ground.data }], guard := none }) (v := ?_) rfl (by kernel_rfl) (by kernel_rfl) (by kernel_rfl) (fun _ _ _ h => h) (Or.inl ⟨by rfl, ?_⟩) (by assumption) ?_
        rotate_left
        · intro wz hSw; (try dsimp only at hSw); go_simp; (try with_reducible rfl)
        try simp only [Act.put, List.setIfInBounds_toArray, List.set_cons_zero, List.set_cons_succ]
        refine wpAnyH_take (i := 3) (oi := { dst := some 22, op := Go.Op.load 22 (Go.Operand.tmp 21), type := 22, pos := "pages.go:146", after := #[{ on := 2, ground := Go.Ground.data }], guard := none }) (v := ?_) rfl (by kernel_rfl) (by kernel_rfl) (by kernel_rfl) (fun _ _ _ h => h) (Or.inl ⟨by rfl, ?_⟩) (by assumption) ?_
        rotate_left
        · intro wz hSw; (try dsimp only at hSw); go_simp; (try with_reducible rfl)
        try simp only [Act.put, List.setIfInBounds_toArray, List.set_cons_zero, List.set_cons_succ]
        refine wpAnyH_take (i := 4) (oi := { dst := some 23, op := Go.Op.fieldAddr 79 (Go.Operand.tmp 5) 0, type := 0, pos := "pages.go:146", after := #[], guard := none }) (v := ?_) rfl (by kernel_rfl) (by kernel_rfl) (by kernel_rfl) (fun _ _ _ h => h) (Or.inl ⟨by rfl, ?_⟩) (by assumption) ?_
        rotate_left
        · intro wz hSw; (try dsimp only at hSw); go_simp; (try with_reducible rfl)
        try simp only [Act.put, List.setIfInBounds_toArray, List.set_cons_zero, List.set_cons_succ]
        refine wpAnyH_take (i := 5) (oi := { dst := some 24, op := Go.Op.load 3 (Go.Operand.tmp 23), type := 3, pos := "pages.go:146", after := #[{ on := 4, ground := Go.Ground.data }], guard := none }) (v := ?_) rfl (by kernel_rfl) (by kernel_rfl) (by kernel_rfl) (fun _ _ _ h => h) (Or.inl ⟨by rfl, ?_⟩) (by assumption) ?_
        rotate_left
        · intro wz hSw; (try dsimp only at hSw); go_simp; (try with_reducible rfl)
        try simp only [Act.put, List.setIfInBounds_toArray, List.set_cons_zero, List.set_cons_succ]
        refine wpAnyH_take (i := 6) (oi := { dst := some 25, op := Go.Op.fieldAddr 79 (Go.Operand.tmp 5) 1, type := 0, pos := "pages.go:146", after := #[], guard := none }) (v := ?_) rfl (by kernel_rfl) (by kernel_rfl) (by kernel_rfl) (fun _ _ _ h => h) (Or.inl ⟨by rfl, ?_⟩) (by assumption) ?_
        rotate_left
        · intro wz hSw; (try dsimp only at hSw); go_simp; (try with_reducible rfl)
        try simp only [Act.put, List.setIfInBounds_toArray, List.set_cons_zero, List.set_cons_succ]
        refine wpAnyH_take (i := 7) (oi := { dst := some 26, op := Go.Op.load 29 (Go.Operand.tmp 25), type := 29, pos := "pages.go:146", after := #[{ on := 6, ground := Go.Ground.data }], guard := none }) (v := ?_) rfl (by kernel_rfl) (by kernel_rfl) (by kernel_rfl) (fun _ _ _ h => h) (Or.inl ⟨by rfl, ?_⟩) (by assumption) ?_
        rotate_left
        · intro wz hSw; (try dsimp only at hSw); go_simp; (try with_reducible rfl)
        try simp only [Act.put, List.setIfInBounds_toArray, List.set_cons_zero, List.set_cons_succ]
        refine wpAnyH_take (i := 8) (oi := { dst := some 27, op := Go.Op.indexAddr 22 (Go.Operand.tmp 22) (Go.Operand.tmp 24), type := 0, pos := "pages.go:146", after := #[{ on := 3, ground := Go.Ground.data }, { on := 5, ground := Go.Ground.data }, { on := 0, ground := Go.Ground.phase }, { on := 1, ground := Go.Ground.phase }, { on := 2, ground := Go.Ground.phase }, { on := 3, ground := Go.Ground.phase }, { on := 4, ground := Go.Ground.phase }, { on := 5, ground := Go.Ground.phase }, { on := 6, ground := Go.Ground.phase }, { on := 7, ground := Go.Ground.phase }], guard := none }) (v := ?_) rfl (by kernel_rfl) (by kernel_rfl) (by kernel_rfl) (fun _ _ _ h => h) (Or.inl ⟨by rfl, ?_⟩) (by assumption) ?_
        rotate_left
        · intro wz hSw; (try dsimp only at hSw); go_simp; (try with_reducible rfl)
        try simp only [Act.put, List.setIfInBounds_toArray, List.set_cons_zero, List.set_cons_succ]
        refine wpAnyH_ready (rs := [9]) (by kernel_rfl) (by simp) ?_
        refine (AllReadyH.cons (o := { dst := none, op := Go.Op.store 29 (Go.Operand.tmp 27) (Go.Operand.tmp 26), type := 0, pos := "pages.go:146", after := #[{ on := 8, ground := Go.Ground.data }, { on := 7, ground := Go.Ground.data }, { on := 0, ground := Go.Ground.phase }, { on := 1, ground := Go.Ground.phase }, { on := 2, ground := Go.Ground.phase }, { on := 3, ground := Go.Ground.phase }, { on := 4, ground := Go.Ground.phase }, { on := 5, ground := Go.Ground.phase }, { on := 6, ground := Go.Ground.phase }, { on := 7, ground := Go.Ground.phase }], guard := none }) rfl (fun K hK => ?_) AllReadyH.nil)
        go_simp
        refine hK.out _ _ ?_ (fun _ => ?_)
        · exact ⟨(World.cell?_setCell_other _ _ _ _ (fun e => hne.1 (by cases e; rfl))).trans e0, (World.cell?_setCell_other _ _ _ _ (fun e => hne.2 (congrArg Addr.block e).symm)).trans b0, (World.cell?_setCell_other _ _ _ _ (fun e => hne.2 (congrArg Addr.block e).symm)).trans b1⟩
        clear hK K
        try simp only [Act.put, List.setIfInBounds_toArray, List.set_cons_zero, List.set_cons_succ]
        refine wpAnyH_done (by kernel_rfl) (NoPanic.normal ?_) _
        try simp only [Act.put, List.setIfInBounds_toArray, List.set_cons_zero, List.set_cons_succ]
        go_wp2_with fail
        go_roundw
        case rel => exact ⟨i + 1, by omega, by go_num, HS'.out⟩
        case measure => simp [intOf]; omega
      | false =>
        rw [hk] at hcall
        have HS' := HN hk
        clear HS HN
        go_wp2_with fail
        refine hcall.mono ?_
        rintro e w1 ⟨rfl, hw1⟩
        rw [hw1]
        clear hcall hw1 w1
        go_wp2_with fail
        go_roundw
        case rel => exact ⟨i + 1, by omega, by go_num, HS'⟩
        case measure => simp [intOf]; omega
    · obtain rfl : i = S.loose.length := by omega
      have hnn : ¬ ((S.loose.length : Int) < S.loose.length) := by omega
      have hfr := hI.frm
      have hat : wr.heap[q]? = some (.cells ((setF K 0 S.loose S.safe).map Bs.v).toArray 29 (0, 0)) := by have := hI.at_; rwa [List.take_length] at this
      have hloW : wr.ownsRow 0 79 2 (.slice ad S.loose.length cap) S.loose.length (flatW S.loose) := owns_row_keep H0.out.loose fun k e => hfr.block k (H0.out.ltlo e) (by simpa using (H0.out.nlo k e).2.1)
      obtain ⟨w2, hrun, hk2, ho1, ho2, ho3, ho4, hcl⟩ := run_clearW wr _ _ _ hloW 0
      have HE : Hid (SetR p q (.slice ad S.loose.length cap) F S K w (.returned (.tuple #[])) (w2.setCell ⟨p, 1, none⟩ (cut0 (.slice ad S.loose.length cap)))) := settle_end H0.out hat hfr hk2 ⟨ho1, ho2, ho3, ho4⟩ hcl
      have lp := H0.out.lt (k := p) (.inl rfl)
      have hpr : wr.heap[p]? = some (.cells (stC q (.slice ad S.loose.length cap) S) 75 (0, 0)) := by rw [hfr.block p lp (by simpa using H0.out.npq)]; exact H0.out.cells
      have hp2 : w2.heap[p]? = some (.cells (stC q (.slice ad S.loose.length cap) S) 75 (0, 0)) := by rw [hk2 p (fun e => (H0.out.nlo p e).1 rfl)]; exact hpr
      have r1 : wr.cell? ⟨p, 1, none⟩ = some (.slice ad S.loose.length cap) := by rw [cell_of_row _ p 1 _ _ _ hpr]; rfl
      have r2 : w2.cell? ⟨p, 1, none⟩ = some (.slice ad S.loose.length cap) := by rw [cell_of_row _ p 1 _ _ _ hp2]; rfl
      have f2 : w2.frozen? ⟨p, 1, none⟩ = false := frozen_of_row _ p 1 _ _ hp2
      clear hI hfr hat hloW hk2 ho1 ho2 ho3 ho4 hcl hpr hp2
      go_wp2_with fail
      go_end0
      exact HE.out
end Go.Proofs.YtbfajoeilpkofaaGreatDoor
