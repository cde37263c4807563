/- build: what a payment's output asks for. -/
import Derived.Test.YtjnepkggdkccaaaGreatDoorOwnShelf11
namespace Go.Proofs.YtjnepkggdkccaaaGreatDoor
open Go.RowKit

/-- What the branches of a payment's output say. -/
def toS (c : Cm) : Cd.Bv := { brS c (1 - c.y.fr) with lk := c.y.lk }
def bkS (c : Cm) : Cd.Bv := { brS c c.y.fr with af := c.y.af }
def pdS (c : Cm) : Nat → Cd.Bv := fun i => if i = 0 then toS c else if i = 1 then bkS c else rvS c
def z0 : Cd.Bv := ⟨0, nz, nz, 0, 0⟩
theorem run_allocBrZ (w : World) : (Instr.alloc 164 true (.tuple #[])).run Tryz.prog w = .ok (.pointer (some ⟨w.heap.size, 0, none⟩)) (w.alloc (.cells (Cd.bv z0 none 0) 164)) := run_allocBr w
/-- Where the twelve orders meet. -/
structure PdM (W0 w : World) (c : Cm) (k1 k2 p3 p4 : Nat) : Prop where
 below : Below W0.heap.size W0 w
 c1 : w.cell? ⟨k1, 0, none⟩ = some (.int .i64 (keyS c.P (1 - c.y.fr)))
 c2 : w.cell? ⟨k2, 0, none⟩ = some (.int .i64 (keyS c.P c.y.fr))
 b3 : w.heap[p3]? = some (.cells (Cd.bv z0 none 0) 164 (0, 0))
 b4 : w.heap[p4]? = some (.cells (Cd.bv z0 none 0) 164 (0, 0))
 low : W0.heap.size ≤ k1 ∧ W0.heap.size ≤ k2 ∧ W0.heap.size ≤ p3 ∧ W0.heap.size ≤ p4
 ne : p3 ≠ p4 ∧ k1 ≠ p3 ∧ k1 ≠ p4 ∧ k2 ≠ p3 ∧ k2 ≠ p4
/-- The same, on the way. -/
structure PdW (W0 w : World) (c : Cm) (k1 k2 p3 p4 : Option Nat) : Prop where
 below : Below W0.heap.size W0 w
 c1 : ∀ k, k1 = some k → w.cell? ⟨k, 0, none⟩ = some (.int .i64 (keyS c.P (1 - c.y.fr))) ∧ W0.heap.size ≤ k
 c2 : ∀ k, k2 = some k → w.cell? ⟨k, 0, none⟩ = some (.int .i64 (keyS c.P c.y.fr)) ∧ W0.heap.size ≤ k
 b3 : ∀ k, p3 = some k → w.heap[k]? = some (.cells (Cd.bv z0 none 0) 164 (0, 0)) ∧ W0.heap.size ≤ k
 b4 : ∀ k, p4 = some k → w.heap[k]? = some (.cells (Cd.bv z0 none 0) 164 (0, 0)) ∧ W0.heap.size ≤ k
 ne : ∀ k, p3 = some k → p4 ≠ some k ∧ k1 ≠ some k ∧ k2 ≠ some k
 ne' : ∀ k, p4 = some k → k1 ≠ some k ∧ k2 ≠ some k
theorem PdW.init (W0 : World) (c : Cm) : PdW W0 W0.drew c none none none none := ⟨(Below.refl _ _).drew, (fun _ h => by cases h), (fun _ h => by cases h), (fun _ h => by cases h), (fun _ h => by cases h), (fun _ h => by cases h), (fun _ h => by cases h)⟩
theorem PdW.lt {W0 w : World} {c : Cm} {k1 k2 p3 p4 : Option Nat} (h : PdW W0 w c k1 k2 p3 p4) : (∀ k, k1 = some k → k < w.heap.size) ∧ (∀ k, k2 = some k → k < w.heap.size) ∧ (∀ k, p3 = some k → k < w.heap.size) ∧ (∀ k, p4 = some k → k < w.heap.size) :=
 ⟨fun k e => World.block_lt_of_cell? w ⟨k, 0, none⟩ (h.c1 k e).1, fun k e => World.block_lt_of_cell? w ⟨k, 0, none⟩ (h.c2 k e).1, fun k e => lt_of_block (h.b3 k e).1, fun k e => lt_of_block (h.b4 k e).1⟩
theorem PdW.keep {W0 w w1 : World} {c : Cm} {k1 k2 p3 p4 : Option Nat} (h : PdW W0 w c k1 k2 p3 p4) (hb : Below w.heap.size w w1) : PdW W0 w1 c k1 k2 p3 p4 :=
 ⟨Below.transS h.below hb, fun k e => ⟨cell_below hb (h.c1 k e).1, (h.c1 k e).2⟩, fun k e => ⟨cell_below hb (h.c2 k e).1, (h.c2 k e).2⟩, fun k e => ⟨heap_below hb (h.b3 k e).1, (h.b3 k e).2⟩, fun k e => ⟨heap_below hb (h.b4 k e).1, (h.b4 k e).2⟩, h.ne, h.ne'⟩
theorem PdW.call1 {W0 w w1 : World} {c : Cm} {k2 p3 p4 : Option Nat} {k : Nat} (h : PdW W0 w c none k2 p3 p4) (hk : w1.cell? ⟨k, 0, none⟩ = some (.int .i64 (keyS c.P (1 - c.y.fr)))) (hl : w.heap.size ≤ k) (hb : Below w.heap.size w w1) : PdW W0 w1 c (some k) k2 p3 p4 := by
 have h' := h.keep hb
 have hs := h.below.size
 refine ⟨h'.below, fun q e => by cases e; exact ⟨hk, by omega⟩, h'.c2, h'.b3, h'.b4, fun q e => ⟨(h.ne q e).1, fun e2 => ?_, (h.ne q e).2.2⟩, fun q e => ⟨fun e2 => ?_, (h.ne' q e).2⟩⟩
 ·cases e2; have := h.lt.2.2.1 _ e; omega
 ·cases e2; have := h.lt.2.2.2 _ e; omega
theorem PdW.call2 {W0 w w1 : World} {c : Cm} {k1 p3 p4 : Option Nat} {k : Nat} (h : PdW W0 w c k1 none p3 p4) (hk : w1.cell? ⟨k, 0, none⟩ = some (.int .i64 (keyS c.P c.y.fr))) (hl : w.heap.size ≤ k) (hb : Below w.heap.size w w1) : PdW W0 w1 c k1 (some k) p3 p4 := by
 have h' := h.keep hb
 have hs := h.below.size
 refine ⟨h'.below, h'.c1, fun q e => by cases e; exact ⟨hk, by omega⟩, h'.b3, h'.b4, fun q e => ⟨(h.ne q e).1, (h.ne q e).2.1, fun e2 => ?_⟩, fun q e => ⟨(h.ne' q e).1, fun e2 => ?_⟩⟩
 ·cases e2; have := h.lt.2.2.1 _ e; omega
 ·cases e2; have := h.lt.2.2.2 _ e; omega
theorem PdW.new3 {W0 w w1 : World} {c : Cm} {k1 k2 p4 : Option Nat} {k : Nat} (h : PdW W0 w c k1 k2 none p4) (hk : w1.heap[k]? = some (.cells (Cd.bv z0 none 0) 164 (0, 0))) (hl : w.heap.size ≤ k) (hb : Below w.heap.size w w1) : PdW W0 w1 c k1 k2 (some k) p4 := by
 have h' := h.keep hb
 have hs := h.below.size
 refine ⟨h'.below, h'.c1, h'.c2, fun q e => by cases e; exact ⟨hk, by omega⟩, h'.b4, fun q e => ?_, h.ne'⟩
 cases e
 refine ⟨fun e2 => ?_, fun e2 => ?_, fun e2 => ?_⟩
 ·have := h.lt.2.2.2 _ e2; omega
 ·have := h.lt.1 _ e2; omega
 ·have := h.lt.2.1 _ e2; omega
theorem PdW.new4 {W0 w w1 : World} {c : Cm} {k1 k2 p3 : Option Nat} {k : Nat} (h : PdW W0 w c k1 k2 p3 none) (hk : w1.heap[k]? = some (.cells (Cd.bv z0 none 0) 164 (0, 0))) (hl : w.heap.size ≤ k) (hb : Below w.heap.size w w1) : PdW W0 w1 c k1 k2 p3 (some k) := by
 have h' := h.keep hb
 have hs := h.below.size
 refine ⟨h'.below, h'.c1, h'.c2, h'.b3, fun q e => by cases e; exact ⟨hk, by omega⟩, fun q e => ⟨fun e2 => ?_, (h.ne q e).2⟩, fun q e => ?_⟩
 ·cases e2; have := h.lt.2.2.1 _ e; omega
 ·cases e
  exact ⟨fun e2 => by have := h.lt.1 _ e2; omega, fun e2 => by have := h.lt.2.1 _ e2; omega⟩
theorem PdW.meet {W0 w : World} {c : Cm} {k1 k2 p3 p4 : Nat} (h : PdW W0 w c (some k1) (some k2) (some p3) (some p4)) : PdM W0 w c k1 k2 p3 p4 :=
 ⟨h.below, (h.c1 _ rfl).1, (h.c2 _ rfl).1, (h.b3 _ rfl).1, (h.b4 _ rfl).1, ⟨(h.c1 _ rfl).2, (h.c2 _ rfl).2, (h.b3 _ rfl).2, (h.b4 _ rfl).2⟩, ⟨fun e => (h.ne _ rfl).1 (by rw [e]), fun e => (h.ne _ rfl).2.1 (by rw [e]), fun e => (h.ne' _ rfl).1 (by rw [e]), fun e => (h.ne _ rfl).2.2 (by rw [e]), fun e => (h.ne' _ rfl).2 (by rw [e])⟩⟩

set_option maxRecDepth 100000 in
set_option maxHeartbeats 6400000 in
theorem paid_any (c : Cm) (ka : Option Addr) (kc : Nat) (w : World) (ho : c.o = 0 ∨ c.o = 1) (hf : c.y.fr = 0 ∨ c.y.fr = 1) (h1 : (toS c).Ok) (h2 : (bkS c).Ok) (h3 : (rvS c).Ok) :
  Calls Tryz.prog 49 #[.agg (cmv c ka kc)] w fun e w' => ∃ b, e = .returned (.agg #[.slice (some ⟨b, 0, none⟩) 3 3]) ∧ Cd.BrIn w' w.heap.size (some ⟨b, 0, none⟩) 3 (pdS c) ∧ Below w.heap.size w w' := by
 have HOK := hidV (And.intro h1 (And.intro h2 h3))
 have hwr : IntKind.i64.wrap (1 - c.y.fr) = 1 - c.y.fr := by rw [IntKind.wrap_i64]; omega
 have hfd : 1 - c.y.fr = 0 ∨ 1 - c.y.fr = 1 := by omega
 have HD : Hid ((c.o = 0 ∨ c.o = 1) ∧ (c.y.fr = 0 ∨ c.y.fr = 1) ∧ (1 - c.y.fr = 0 ∨ 1 - c.y.fr = 1)) := ⟨ho, hf, hfd⟩
 clear h1 h2 h3 ho hf hfd
 go_enter Tryz.func49, Tryz.ntmps49
 go_wp2_with (first | (refine wpList_boxN rfl _ _ rfl (cmv c ka kc) rfl ?_; intro v1 N1) | (refine wpList_allocN 93 #[.slice none 0 0] run_allocCond rfl rfl ?_; intro W0 N2) | fail)
 have HB0 : Hid (Below w.heap.size w W0 ∧ w.heap.size < v1.heap.size ∧ v1.heap.size < W0.heap.size) := ⟨Below.transS N1.below N2.below, by have := N1.size; omega, by have := N2.size; omega⟩
 have HS : Hid (∀ w', Below W0.heap.size W0 w' → w'.rangeAt w.heap.size 0 (cml c ka kc) ∧ w'.cell? ⟨w.heap.size, 72, none⟩ = some (.int .i64 c.y.fr)) := fun w' hb => by
  have h1 := cml_range (w := w') (g := w.heap.size) (heap_below hb (N2.old N1.blk))
  exact ⟨h1, (cmPay h1).fr⟩
 have HRS : Hid (∀ w', Below W0.heap.size W0 w' → w'.heap[v1.heap.size]? = some (.cells #[.slice none 0 0] 93 (0, 0))) := fun w' hb => heap_below hb N2.blk
 clear N1 N2
 refine wp_region_noPanic ?_
 refine wp_region_held_drew (S := fun w' => w'.rangeAt w.heap.size 0 (cml c ka kc) ∧ w'.cell? ⟨w.heap.size, 72, none⟩ = some (.int .i64 c.y.fr)) (by kernel_rfl) (HS.out W0.drew (Below.refl _ W0).drew) (fun hHeld => ?_)
 have M0 : Hid (PdW W0 W0.drew c none none none none) := PdW.init W0 c
 generalize W0.drew = w0 at *
 refine wpT (i := 1) (oi := ⟨some 6, .fieldAddr 104 (.tmp 1) 3, 0, _, _, none⟩) (v := ?_) rfl (by kernel_rfl) (fun _ _ _ h => h) (Or.inl ⟨by rfl, ?_⟩) (by assumption) ?_
 rotate_left
 ·intro wz hSw; (try dsimp only at hSw); go_simp; (try with_reducible rfl)
 try simp only [Act.put, zA, zB, zC]
 refine wpT (i := 2) (oi := ⟨some 7, .fieldAddr 97 (.tmp 6) 1, 0, _, _, none⟩) (v := ?_) rfl (by kernel_rfl) (fun _ _ _ h => h) (Or.inl ⟨by rfl, ?_⟩) (by assumption) ?_
 rotate_left
 ·intro wz hSw; (try dsimp only at hSw); go_simp; (try with_reducible rfl)
 try simp only [Act.put, zA, zB, zC]
 refine wpT (i := 3) (oi := ⟨some 8, .load 3 (.tmp 7), 3, _, _, none⟩) (v := ?_) rfl (by kernel_rfl) (fun _ _ _ h => h) (Or.inl ⟨by rfl, ?_⟩) (by assumption) ?_
 rotate_left
 ·intro wz hSw; (try dsimp only at hSw); go_simp; (try with_reducible rfl)
 try simp only [Act.put, zA, zB, zC]
 refine wpT (i := 4) (oi := ⟨some 9, .binOp .sub 3 (.const (.int .i64 1)) (.tmp 8) 3, 3, _, _, none⟩) (v := ?_) rfl (by kernel_rfl) (fun _ _ _ h => h) (Or.inl ⟨by rfl, ?_⟩) (by assumption) ?_
 rotate_left
 ·intro wz hSw; (try dsimp only at hSw); go_simp; (try with_reducible rfl)
 try simp only [Act.put, zA, zB, zC]
 refine wpT (i := 7) (oi := ⟨some 12, .fieldAddr 104 (.tmp 1) 3, 0, _, _, none⟩) (v := ?_) rfl (by kernel_rfl) (fun _ _ _ h => h) (Or.inl ⟨by rfl, ?_⟩) (by assumption) ?_
 rotate_left
 ·intro wz hSw; (try dsimp only at hSw); go_simp; (try with_reducible rfl)
 try simp only [Act.put, zA, zB, zC]
 refine wpT (i := 8) (oi := ⟨some 13, .fieldAddr 97 (.tmp 12) 1, 0, _, _, none⟩) (v := ?_) rfl (by kernel_rfl) (fun _ _ _ h => h) (Or.inl ⟨by rfl, ?_⟩) (by assumption) ?_
 rotate_left
 ·intro wz hSw; (try dsimp only at hSw); go_simp; (try with_reducible rfl)
 try simp only [Act.put, zA, zB, zC]
 refine wpT (i := 9) (oi := ⟨some 14, .load 3 (.tmp 13), 3, _, _, none⟩) (v := ?_) rfl (by kernel_rfl) (fun _ _ _ h => h) (Or.inl ⟨by rfl, ?_⟩) (by assumption) ?_
 rotate_left
 ·intro wz hSw; (try dsimp only at hSw); go_simp; (try with_reducible rfl)
 try simp only [Act.put, zA, zB, zC]
 refine wpAnyH_take (i := 0) (oi := ⟨some 5, .load 104 (.tmp 1), 104, _, _, none⟩) rfl (by kernel_rfl) (by kernel_rfl) (by kernel_rfl) (fun _ _ _ h => h) (yieldsIf_load_mid (by rfl) _ _ rfl w.heap.size 0 rfl (cml c ka kc) _ (fun _ h => h.1) Tryz.underlying104 rfl (szCml _ _ _)) (by assumption) ?_
 try simp only [Act.put, zA, zB, zC]
 refine wpAnyH_take (i := 6) (oi := ⟨some 11, .load 104 (.tmp 1), 104, _, _, none⟩) rfl (by kernel_rfl) (by kernel_rfl) (by kernel_rfl) (fun _ _ _ h => h) (yieldsIf_load_mid (by rfl) _ _ rfl w.heap.size 0 rfl (cml c ka kc) _ (fun _ h => h.1) Tryz.underlying104 rfl (szCml _ _ _)) (by assumption) ?_
 try simp only [Act.put, zA, zB, zC]

 refine wpAnyH_ready (rs := [5, 11, 12]) (by kernel_rfl) (by simp) ?_
 refine (AllReadyH.cons (o := ⟨some 10, .call { callee := Go.Callee.value (.func 76), args := #[.tmp 5, .tmp 9], argTypes := #[104, 3] }, 164, _, _, none⟩) rfl (fun K hK => ?_) (AllReadyH.cons (o := ⟨some 3, .alloc 164, 0, _, _, none⟩) rfl (fun K hK => ?_) (AllReadyH.cons (o := ⟨some 4, .alloc 164, 0, _, _, none⟩) rfl (fun K hK => ?_) AllReadyH.nil)))
 focus
  go_simp
  refine (branch_any c ka kc (1 - c.y.fr) w0 HD.out.2.2 HD.out.1).mono ?_
  rintro e w1 ⟨k1, rfl, hk, hl, hb⟩
  have M1 := hidV (M0.out.call1 hk hl hb)
  clear hk hl hb M0
  refine hK.out _ _ (HS.out w1 M1.out.below) (fun _ => ?_)
  clear hK K
  try simp only [Act.put, zA, zB, zC]
  refine wpAnyH_ready (rs := [10, 11, 12]) (by kernel_rfl) (by simp) ?_
  refine (AllReadyH.cons (o := ⟨some 15, .call { callee := Go.Callee.value (.func 76), args := #[.tmp 11, .tmp 14], argTypes := #[104, 3] }, 164, _, _, none⟩) rfl (fun K hK => ?_) (AllReadyH.cons (o := ⟨some 3, .alloc 164, 0, _, _, none⟩) rfl (fun K hK => ?_) (AllReadyH.cons (o := ⟨some 4, .alloc 164, 0, _, _, none⟩) rfl (fun K hK => ?_) AllReadyH.nil)))
  focus
   go_simp
   refine (branch_any c ka kc c.y.fr w1 HD.out.2.1 HD.out.1).mono ?_
   rintro e w2 ⟨k2, rfl, hk, hl, hb⟩
   have M2 := hidV (M1.out.call2 hk hl hb)
   clear hk hl hb M1
   refine hK.out _ _ (HS.out w2 M2.out.below) (fun _ => ?_)
   clear hK K
   try simp only [Act.put, zA, zB, zC]
   refine wpAnyH_ready (rs := [11, 12]) (by kernel_rfl) (by simp) ?_
   refine (AllReadyH.cons (o := ⟨some 3, .alloc 164, 0, _, _, none⟩) rfl (fun K hK => ?_) (AllReadyH.cons (o := ⟨some 4, .alloc 164, 0, _, _, none⟩) rfl (fun K hK => ?_) AllReadyH.nil))
   focus
    refine step_allocP 164 (Cd.bv z0 none 0) run_allocBrZ rfl rfl ?_
    intro p3 w3 hk hl hb
    have M3 := hidV (M2.out.new3 hk hl hb)
    clear hk hl hb M2
    refine hK.out _ _ (HS.out w3 M3.out.below) (fun _ => ?_)
    clear hK K
    try simp only [Act.put, zA, zB, zC]
    refine wpAnyH_ready (rs := [12]) (by kernel_rfl) (by simp) ?_
    refine (AllReadyH.cons (o := ⟨some 4, .alloc 164, 0, _, _, none⟩) rfl (fun K hK => ?_) AllReadyH.nil)
    refine step_allocP 164 (Cd.bv z0 none 0) run_allocBrZ rfl rfl ?_
    intro p4 w4 hk hl hb
    have M4 := hidV (M3.out.new4 hk hl hb)
    clear hk hl hb M3
    refine hK.out _ _ (HS.out w4 M4.out.below) (fun _ => ?_)
    clear hK K
    try simp only [Act.put, zA, zB, zC]
    have MM := hidV M4.out.meet
    clear M4
    rename World => w4
   rotate_left 1
   focus
    refine step_allocP 164 (Cd.bv z0 none 0) run_allocBrZ rfl rfl ?_
    intro p4 w3 hk hl hb
    have M3 := hidV (M2.out.new4 hk hl hb)
    clear hk hl hb M2
    refine hK.out _ _ (HS.out w3 M3.out.below) (fun _ => ?_)
    clear hK K
    try simp only [Act.put, zA, zB, zC]
    refine wpAnyH_ready (rs := [11]) (by kernel_rfl) (by simp) ?_
    refine (AllReadyH.cons (o := ⟨some 3, .alloc 164, 0, _, _, none⟩) rfl (fun K hK => ?_) AllReadyH.nil)
    refine step_allocP 164 (Cd.bv z0 none 0) run_allocBrZ rfl rfl ?_
    intro p3 w4 hk hl hb
    have M4 := hidV (M3.out.new3 hk hl hb)
    clear hk hl hb M3
    refine hK.out _ _ (HS.out w4 M4.out.below) (fun _ => ?_)
    clear hK K
    try simp only [Act.put, zA, zB, zC]
    have MM := hidV M4.out.meet
    clear M4
    rename World => w4
   rotate_left 1
  rotate_left 2
  focus
   refine step_allocP 164 (Cd.bv z0 none 0) run_allocBrZ rfl rfl ?_
   intro p3 w2 hk hl hb
   have M2 := hidV (M1.out.new3 hk hl hb)
   clear hk hl hb M1
   refine hK.out _ _ (HS.out w2 M2.out.below) (fun _ => ?_)
   clear hK K
   try simp only [Act.put, zA, zB, zC]
   refine wpAnyH_ready (rs := [10, 12]) (by kernel_rfl) (by simp) ?_
   refine (AllReadyH.cons (o := ⟨some 15, .call { callee := Go.Callee.value (.func 76), args := #[.tmp 11, .tmp 14], argTypes := #[104, 3] }, 164, _, _, none⟩) rfl (fun K hK => ?_) (AllReadyH.cons (o := ⟨some 4, .alloc 164, 0, _, _, none⟩) rfl (fun K hK => ?_) AllReadyH.nil))
   focus
    go_simp
    refine (branch_any c ka kc c.y.fr w2 HD.out.2.1 HD.out.1).mono ?_
    rintro e w3 ⟨k2, rfl, hk, hl, hb⟩
    have M3 := hidV (M2.out.call2 hk hl hb)
    clear hk hl hb M2
    refine hK.out _ _ (HS.out w3 M3.out.below) (fun _ => ?_)
    clear hK K
    try simp only [Act.put, zA, zB, zC]
    refine wpAnyH_ready (rs := [12]) (by kernel_rfl) (by simp) ?_
    refine (AllReadyH.cons (o := ⟨some 4, .alloc 164, 0, _, _, none⟩) rfl (fun K hK => ?_) AllReadyH.nil)
    refine step_allocP 164 (Cd.bv z0 none 0) run_allocBrZ rfl rfl ?_
    intro p4 w4 hk hl hb
    have M4 := hidV (M3.out.new4 hk hl hb)
    clear hk hl hb M3
    refine hK.out _ _ (HS.out w4 M4.out.below) (fun _ => ?_)
    clear hK K
    try simp only [Act.put, zA, zB, zC]
    have MM := hidV M4.out.meet
    clear M4
    rename World => w4
   rotate_left 1
   focus
    refine step_allocP 164 (Cd.bv z0 none 0) run_allocBrZ rfl rfl ?_
    intro p4 w3 hk hl hb
    have M3 := hidV (M2.out.new4 hk hl hb)
    clear hk hl hb M2
    refine hK.out _ _ (HS.out w3 M3.out.below) (fun _ => ?_)
    clear hK K
    try simp only [Act.put, zA, zB, zC]
    refine wpAnyH_ready (rs := [10]) (by kernel_rfl) (by simp) ?_
    refine (AllReadyH.cons (o := ⟨some 15, .call { callee := Go.Callee.value (.func 76), args := #[.tmp 11, .tmp 14], argTypes := #[104, 3] }, 164, _, _, none⟩) rfl (fun K hK => ?_) AllReadyH.nil)
    go_simp
    refine (branch_any c ka kc c.y.fr w3 HD.out.2.1 HD.out.1).mono ?_
    rintro e w4 ⟨k2, rfl, hk, hl, hb⟩
    have M4 := hidV (M3.out.call2 hk hl hb)
    clear hk hl hb M3
    refine hK.out _ _ (HS.out w4 M4.out.below) (fun _ => ?_)
    clear hK K
    try simp only [Act.put, zA, zB, zC]
    have MM := hidV M4.out.meet
    clear M4
    rename World => w4
   rotate_left 1
  rotate_left 2
  focus
   refine step_allocP 164 (Cd.bv z0 none 0) run_allocBrZ rfl rfl ?_
   intro p4 w2 hk hl hb
   have M2 := hidV (M1.out.new4 hk hl hb)
   clear hk hl hb M1
   refine hK.out _ _ (HS.out w2 M2.out.below) (fun _ => ?_)
   clear hK K
   try simp only [Act.put, zA, zB, zC]
   refine wpAnyH_ready (rs := [10, 11]) (by kernel_rfl) (by simp) ?_
   refine (AllReadyH.cons (o := ⟨some 15, .call { callee := Go.Callee.value (.func 76), args := #[.tmp 11, .tmp 14], argTypes := #[104, 3] }, 164, _, _, none⟩) rfl (fun K hK => ?_) (AllReadyH.cons (o := ⟨some 3, .alloc 164, 0, _, _, none⟩) rfl (fun K hK => ?_) AllReadyH.nil))
   focus
    go_simp
    refine (branch_any c ka kc c.y.fr w2 HD.out.2.1 HD.out.1).mono ?_
    rintro e w3 ⟨k2, rfl, hk, hl, hb⟩
    have M3 := hidV (M2.out.call2 hk hl hb)
    clear hk hl hb M2
    refine hK.out _ _ (HS.out w3 M3.out.below) (fun _ => ?_)
    clear hK K
    try simp only [Act.put, zA, zB, zC]
    refine wpAnyH_ready (rs := [11]) (by kernel_rfl) (by simp) ?_
    refine (AllReadyH.cons (o := ⟨some 3, .alloc 164, 0, _, _, none⟩) rfl (fun K hK => ?_) AllReadyH.nil)
    refine step_allocP 164 (Cd.bv z0 none 0) run_allocBrZ rfl rfl ?_
    intro p3 w4 hk hl hb
    have M4 := hidV (M3.out.new3 hk hl hb)
    clear hk hl hb M3
    refine hK.out _ _ (HS.out w4 M4.out.below) (fun _ => ?_)
    clear hK K
    try simp only [Act.put, zA, zB, zC]
    have MM := hidV M4.out.meet
    clear M4
    rename World => w4
   rotate_left 1
   focus
    refine step_allocP 164 (Cd.bv z0 none 0) run_allocBrZ rfl rfl ?_
    intro p3 w3 hk hl hb
    have M3 := hidV (M2.out.new3 hk hl hb)
    clear hk hl hb M2
    refine hK.out _ _ (HS.out w3 M3.out.below) (fun _ => ?_)
    clear hK K
    try simp only [Act.put, zA, zB, zC]
    refine wpAnyH_ready (rs := [10]) (by kernel_rfl) (by simp) ?_
    refine (AllReadyH.cons (o := ⟨some 15, .call { callee := Go.Callee.value (.func 76), args := #[.tmp 11, .tmp 14], argTypes := #[104, 3] }, 164, _, _, none⟩) rfl (fun K hK => ?_) AllReadyH.nil)
    go_simp
    refine (branch_any c ka kc c.y.fr w3 HD.out.2.1 HD.out.1).mono ?_
    rintro e w4 ⟨k2, rfl, hk, hl, hb⟩
    have M4 := hidV (M3.out.call2 hk hl hb)
    clear hk hl hb M3
    refine hK.out _ _ (HS.out w4 M4.out.below) (fun _ => ?_)
    clear hK K
    try simp only [Act.put, zA, zB, zC]
    have MM := hidV M4.out.meet
    clear M4
    rename World => w4
   rotate_left 1
  rotate_left 2
 rotate_left 6
 focus
  refine step_allocP 164 (Cd.bv z0 none 0) run_allocBrZ rfl rfl ?_
  intro p3 w1 hk hl hb
  have M1 := hidV (M0.out.new3 hk hl hb)
  clear hk hl hb M0
  refine hK.out _ _ (HS.out w1 M1.out.below) (fun _ => ?_)
  clear hK K
  try simp only [Act.put, zA, zB, zC]
  refine wpAnyH_ready (rs := [5, 12]) (by kernel_rfl) (by simp) ?_
  refine (AllReadyH.cons (o := ⟨some 10, .call { callee := Go.Callee.value (.func 76), args := #[.tmp 5, .tmp 9], argTypes := #[104, 3] }, 164, _, _, none⟩) rfl (fun K hK => ?_) (AllReadyH.cons (o := ⟨some 4, .alloc 164, 0, _, _, none⟩) rfl (fun K hK => ?_) AllReadyH.nil))
  focus
   go_simp
   refine (branch_any c ka kc (1 - c.y.fr) w1 HD.out.2.2 HD.out.1).mono ?_
   rintro e w2 ⟨k1, rfl, hk, hl, hb⟩
   have M2 := hidV (M1.out.call1 hk hl hb)
   clear hk hl hb M1
   refine hK.out _ _ (HS.out w2 M2.out.below) (fun _ => ?_)
   clear hK K
   try simp only [Act.put, zA, zB, zC]
   refine wpAnyH_ready (rs := [10, 12]) (by kernel_rfl) (by simp) ?_
   refine (AllReadyH.cons (o := ⟨some 15, .call { callee := Go.Callee.value (.func 76), args := #[.tmp 11, .tmp 14], argTypes := #[104, 3] }, 164, _, _, none⟩) rfl (fun K hK => ?_) (AllReadyH.cons (o := ⟨some 4, .alloc 164, 0, _, _, none⟩) rfl (fun K hK => ?_) AllReadyH.nil))
   focus
    go_simp
    refine (branch_any c ka kc c.y.fr w2 HD.out.2.1 HD.out.1).mono ?_
    rintro e w3 ⟨k2, rfl, hk, hl, hb⟩
    have M3 := hidV (M2.out.call2 hk hl hb)
    clear hk hl hb M2
    refine hK.out _ _ (HS.out w3 M3.out.below) (fun _ => ?_)
    clear hK K
    try simp only [Act.put, zA, zB, zC]
    refine wpAnyH_ready (rs := [12]) (by kernel_rfl) (by simp) ?_
    refine (AllReadyH.cons (o := ⟨some 4, .alloc 164, 0, _, _, none⟩) rfl (fun K hK => ?_) AllReadyH.nil)
    refine step_allocP 164 (Cd.bv z0 none 0) run_allocBrZ rfl rfl ?_
    intro p4 w4 hk hl hb
    have M4 := hidV (M3.out.new4 hk hl hb)
    clear hk hl hb M3
    refine hK.out _ _ (HS.out w4 M4.out.below) (fun _ => ?_)
    clear hK K
    try simp only [Act.put, zA, zB, zC]
    have MM := hidV M4.out.meet
    clear M4
    rename World => w4
   rotate_left 1
   focus
    refine step_allocP 164 (Cd.bv z0 none 0) run_allocBrZ rfl rfl ?_
    intro p4 w3 hk hl hb
    have M3 := hidV (M2.out.new4 hk hl hb)
    clear hk hl hb M2
    refine hK.out _ _ (HS.out w3 M3.out.below) (fun _ => ?_)
    clear hK K
    try simp only [Act.put, zA, zB, zC]
    refine wpAnyH_ready (rs := [10]) (by kernel_rfl) (by simp) ?_
    refine (AllReadyH.cons (o := ⟨some 15, .call { callee := Go.Callee.value (.func 76), args := #[.tmp 11, .tmp 14], argTypes := #[104, 3] }, 164, _, _, none⟩) rfl (fun K hK => ?_) AllReadyH.nil)
    go_simp
    refine (branch_any c ka kc c.y.fr w3 HD.out.2.1 HD.out.1).mono ?_
    rintro e w4 ⟨k2, rfl, hk, hl, hb⟩
    have M4 := hidV (M3.out.call2 hk hl hb)
    clear hk hl hb M3
    refine hK.out _ _ (HS.out w4 M4.out.below) (fun _ => ?_)
    clear hK K
    try simp only [Act.put, zA, zB, zC]
    have MM := hidV M4.out.meet
    clear M4
    rename World => w4
   rotate_left 1
  rotate_left 2
  focus
   refine step_allocP 164 (Cd.bv z0 none 0) run_allocBrZ rfl rfl ?_
   intro p4 w2 hk hl hb
   have M2 := hidV (M1.out.new4 hk hl hb)
   clear hk hl hb M1
   refine hK.out _ _ (HS.out w2 M2.out.below) (fun _ => ?_)
   clear hK K
   try simp only [Act.put, zA, zB, zC]
   refine wpAnyH_ready (rs := [5]) (by kernel_rfl) (by simp) ?_
   refine (AllReadyH.cons (o := ⟨some 10, .call { callee := Go.Callee.value (.func 76), args := #[.tmp 5, .tmp 9], argTypes := #[104, 3] }, 164, _, _, none⟩) rfl (fun K hK => ?_) AllReadyH.nil)
   go_simp
   refine (branch_any c ka kc (1 - c.y.fr) w2 HD.out.2.2 HD.out.1).mono ?_
   rintro e w3 ⟨k1, rfl, hk, hl, hb⟩
   have M3 := hidV (M2.out.call1 hk hl hb)
   clear hk hl hb M2
   refine hK.out _ _ (HS.out w3 M3.out.below) (fun _ => ?_)
   clear hK K
   try simp only [Act.put, zA, zB, zC]
   refine wpAnyH_ready (rs := [10]) (by kernel_rfl) (by simp) ?_
   refine (AllReadyH.cons (o := ⟨some 15, .call { callee := Go.Callee.value (.func 76), args := #[.tmp 11, .tmp 14], argTypes := #[104, 3] }, 164, _, _, none⟩) rfl (fun K hK => ?_) AllReadyH.nil)
   go_simp
   refine (branch_any c ka kc c.y.fr w3 HD.out.2.1 HD.out.1).mono ?_
   rintro e w4 ⟨k2, rfl, hk, hl, hb⟩
   have M4 := hidV (M3.out.call2 hk hl hb)
   clear hk hl hb M3
   refine hK.out _ _ (HS.out w4 M4.out.below) (fun _ => ?_)
   clear hK K
   try simp only [Act.put, zA, zB, zC]
   have MM := hidV M4.out.meet
   clear M4
   rename World => w4
  rotate_left 1
 rotate_left 3
 focus
  refine step_allocP 164 (Cd.bv z0 none 0) run_allocBrZ rfl rfl ?_
  intro p4 w1 hk hl hb
  have M1 := hidV (M0.out.new4 hk hl hb)
  clear hk hl hb M0
  refine hK.out _ _ (HS.out w1 M1.out.below) (fun _ => ?_)
  clear hK K
  try simp only [Act.put, zA, zB, zC]
  refine wpAnyH_ready (rs := [5, 11]) (by kernel_rfl) (by simp) ?_
  refine (AllReadyH.cons (o := ⟨some 10, .call { callee := Go.Callee.value (.func 76), args := #[.tmp 5, .tmp 9], argTypes := #[104, 3] }, 164, _, _, none⟩) rfl (fun K hK => ?_) (AllReadyH.cons (o := ⟨some 3, .alloc 164, 0, _, _, none⟩) rfl (fun K hK => ?_) AllReadyH.nil))
  focus
   go_simp
   refine (branch_any c ka kc (1 - c.y.fr) w1 HD.out.2.2 HD.out.1).mono ?_
   rintro e w2 ⟨k1, rfl, hk, hl, hb⟩
   have M2 := hidV (M1.out.call1 hk hl hb)
   clear hk hl hb M1
   refine hK.out _ _ (HS.out w2 M2.out.below) (fun _ => ?_)
   clear hK K
   try simp only [Act.put, zA, zB, zC]
   refine wpAnyH_ready (rs := [10, 11]) (by kernel_rfl) (by simp) ?_
   refine (AllReadyH.cons (o := ⟨some 15, .call { callee := Go.Callee.value (.func 76), args := #[.tmp 11, .tmp 14], argTypes := #[104, 3] }, 164, _, _, none⟩) rfl (fun K hK => ?_) (AllReadyH.cons (o := ⟨some 3, .alloc 164, 0, _, _, none⟩) rfl (fun K hK => ?_) AllReadyH.nil))
   focus
    go_simp
    refine (branch_any c ka kc c.y.fr w2 HD.out.2.1 HD.out.1).mono ?_
    rintro e w3 ⟨k2, rfl, hk, hl, hb⟩
    have M3 := hidV (M2.out.call2 hk hl hb)
    clear hk hl hb M2
    refine hK.out _ _ (HS.out w3 M3.out.below) (fun _ => ?_)
    clear hK K
    try simp only [Act.put, zA, zB, zC]
    refine wpAnyH_ready (rs := [11]) (by kernel_rfl) (by simp) ?_
    refine (AllReadyH.cons (o := ⟨some 3, .alloc 164, 0, _, _, none⟩) rfl (fun K hK => ?_) AllReadyH.nil)
    refine step_allocP 164 (Cd.bv z0 none 0) run_allocBrZ rfl rfl ?_
    intro p3 w4 hk hl hb
    have M4 := hidV (M3.out.new3 hk hl hb)
    clear hk hl hb M3
    refine hK.out _ _ (HS.out w4 M4.out.below) (fun _ => ?_)
    clear hK K
    try simp only [Act.put, zA, zB, zC]
    have MM := hidV M4.out.meet
    clear M4
    rename World => w4
   rotate_left 1
   focus
    refine step_allocP 164 (Cd.bv z0 none 0) run_allocBrZ rfl rfl ?_
    intro p3 w3 hk hl hb
    have M3 := hidV (M2.out.new3 hk hl hb)
    clear hk hl hb M2
    refine hK.out _ _ (HS.out w3 M3.out.below) (fun _ => ?_)
    clear hK K
    try simp only [Act.put, zA, zB, zC]
    refine wpAnyH_ready (rs := [10]) (by kernel_rfl) (by simp) ?_
    refine (AllReadyH.cons (o := ⟨some 15, .call { callee := Go.Callee.value (.func 76), args := #[.tmp 11, .tmp 14], argTypes := #[104, 3] }, 164, _, _, none⟩) rfl (fun K hK => ?_) AllReadyH.nil)
    go_simp
    refine (branch_any c ka kc c.y.fr w3 HD.out.2.1 HD.out.1).mono ?_
    rintro e w4 ⟨k2, rfl, hk, hl, hb⟩
    have M4 := hidV (M3.out.call2 hk hl hb)
    clear hk hl hb M3
    refine hK.out _ _ (HS.out w4 M4.out.below) (fun _ => ?_)
    clear hK K
    try simp only [Act.put, zA, zB, zC]
    have MM := hidV M4.out.meet
    clear M4
    rename World => w4
   rotate_left 1
  rotate_left 2
  focus
   refine step_allocP 164 (Cd.bv z0 none 0) run_allocBrZ rfl rfl ?_
   intro p3 w2 hk hl hb
   have M2 := hidV (M1.out.new3 hk hl hb)
   clear hk hl hb M1
   refine hK.out _ _ (HS.out w2 M2.out.below) (fun _ => ?_)
   clear hK K
   try simp only [Act.put, zA, zB, zC]
   refine wpAnyH_ready (rs := [5]) (by kernel_rfl) (by simp) ?_
   refine (AllReadyH.cons (o := ⟨some 10, .call { callee := Go.Callee.value (.func 76), args := #[.tmp 5, .tmp 9], argTypes := #[104, 3] }, 164, _, _, none⟩) rfl (fun K hK => ?_) AllReadyH.nil)
   go_simp
   refine (branch_any c ka kc (1 - c.y.fr) w2 HD.out.2.2 HD.out.1).mono ?_
   rintro e w3 ⟨k1, rfl, hk, hl, hb⟩
   have M3 := hidV (M2.out.call1 hk hl hb)
   clear hk hl hb M2
   refine hK.out _ _ (HS.out w3 M3.out.below) (fun _ => ?_)
   clear hK K
   try simp only [Act.put, zA, zB, zC]
   refine wpAnyH_ready (rs := [10]) (by kernel_rfl) (by simp) ?_
   refine (AllReadyH.cons (o := ⟨some 15, .call { callee := Go.Callee.value (.func 76), args := #[.tmp 11, .tmp 14], argTypes := #[104, 3] }, 164, _, _, none⟩) rfl (fun K hK => ?_) AllReadyH.nil)
   go_simp
   refine (branch_any c ka kc c.y.fr w3 HD.out.2.1 HD.out.1).mono ?_
   rintro e w4 ⟨k2, rfl, hk, hl, hb⟩
   have M4 := hidV (M3.out.call2 hk hl hb)
   clear hk hl hb M3
   refine hK.out _ _ (HS.out w4 M4.out.below) (fun _ => ?_)
   clear hK K
   try simp only [Act.put, zA, zB, zC]
   have MM := hidV M4.out.meet
   clear M4
   rename World => w4
  rotate_left 1
 rotate_left 3
 all_goals
  refine wpAnyH_ready (rs := [13]) (by kernel_rfl) (by simp) ?_
  refine (AllReadyH.cons (o := ⟨none, .store 164 (.tmp 3) (.tmp 10), 0, _, _, none⟩) rfl (fun K hK => ?_) AllReadyH.nil)
  refine step_storeG 164 Cd.szB rfl (.tmp 3) (.tmp 10) rfl p3 (by rfl) (Cd.bv (brS c (1 - c.y.fr)) (some ⟨k1, 0, none⟩) 1) (Cd.bv z0 none 0) (Cd.bv_size _ _ _) (Cd.bv_size _ _ _) (Cd.bv_one _ _ _) 164 (by rfl) MM.out.b3 ?_
  intro w5 hg5 hf5
  have hb5 : Below W0.heap.size W0 w5 := MM.out.below.trans (hf5.below MM.out.below.size (by have := MM.out.low; simp; omega))
  have HB5 := hidV (And.intro hg5 (And.intro (hf5.heap MM.out.b4 (by have := MM.out.ne; simp; omega)) (And.intro (cell_frm hf5 MM.out.c1 (by have := MM.out.ne; simp; omega)) (And.intro (cell_frm hf5 MM.out.c2 (by have := MM.out.ne; simp; omega)) hb5))))
  clear hg5 hf5 hb5
  refine hK.out _ _ (HS.out w5 HB5.out.2.2.2.2) (fun _ => ?_)
  clear hK K
  try simp only [Act.put]
  refine wpAnyH_ready (rs := [14]) (by kernel_rfl) (by simp) ?_
  refine (AllReadyH.cons (o := ⟨none, .store 164 (.tmp 4) (.tmp 15), 0, _, _, none⟩) rfl (fun K hK => ?_) AllReadyH.nil)
  refine step_storeG 164 Cd.szB rfl (.tmp 4) (.tmp 15) rfl p4 (by rfl) (Cd.bv (brS c c.y.fr) (some ⟨k2, 0, none⟩) 1) (Cd.bv z0 none 0) (Cd.bv_size _ _ _) (Cd.bv_size _ _ _) (Cd.bv_one _ _ _) 164 (by rfl) HB5.out.2.1 ?_
  intro w6 hg6 hf6
  have hb6 : Below W0.heap.size W0 w6 := HB5.out.2.2.2.2.trans (hf6.below HB5.out.2.2.2.2.size (by have := MM.out.low; simp; omega))
  have HB6 := hidV (And.intro (hf6.heap HB5.out.1 (by have := MM.out.ne; simp; omega)) (And.intro hg6 (And.intro (cell_frm hf6 HB5.out.2.2.1 (by have := MM.out.ne; simp; omega)) (And.intro (cell_frm hf6 HB5.out.2.2.2.1 (by have := MM.out.ne; simp; omega)) hb6))))
  have HNE : Hid (p3 ≠ p4 ∧ (W0.heap.size ≤ k1 ∧ W0.heap.size ≤ k2 ∧ W0.heap.size ≤ p3 ∧ W0.heap.size ≤ p4) ∧ (k1 ≠ p3 ∧ k1 ≠ p4 ∧ k2 ≠ p3 ∧ k2 ≠ p4)) := ⟨MM.out.ne.1, MM.out.low, MM.out.ne.2⟩
  clear hg6 hf6 hb6 HB5 MM
  refine hK.out _ _ (HS.out w6 HB6.out.2.2.2.2) (fun _ => ?_)
  clear hK K
  try simp only [Act.put]
  refine wpAnyH_done (by kernel_rfl) (NoPanic.normal ?_) _
  try simp only [Act.put, zA, zB, zC]
  clear hHeld
  go_wp2_with fail
  have HP : Hid (∀ w', Below W0.heap.size W0 w' → w'.rangeAt w.heap.size 75 (bl c.y.lk 32) ∧ w'.cell? ⟨w.heap.size, 74, none⟩ = some (.int .i64 c.y.af)) := fun w' hb => ⟨(cmPay (HS.out w' hb).1).lk, (cmPay (HS.out w' hb).1).af⟩
  have HB7 : Hid (w6.drew.heap[p3]? = some (.cells (Cd.bv (brS c (1 - c.y.fr)) (some ⟨k1, 0, none⟩) 1) 164 (0, 0)) ∧ w6.drew.heap[p4]? = some (.cells (Cd.bv (brS c c.y.fr) (some ⟨k2, 0, none⟩) 1) 164 (0, 0)) ∧ w6.drew.cell? ⟨k1, 0, none⟩ = some (.int .i64 (keyS c.P (1 - c.y.fr))) ∧ w6.drew.cell? ⟨k2, 0, none⟩ = some (.int .i64 (keyS c.P c.y.fr)) ∧ Below W0.heap.size W0 w6.drew) := ⟨HB6.out.1, HB6.out.2.1, HB6.out.2.2.1, HB6.out.2.2.2.1, HB6.out.2.2.2.2.drew⟩
  refine wp_region_noPanic ?_
  refine wp_region_held_drew (S := fun w' => w'.rangeAt w.heap.size 75 (bl c.y.lk 32) ∧ w'.cell? ⟨w.heap.size, 74, none⟩ = some (.int .i64 c.y.af)) (by kernel_rfl) (HP.out w6.drew HB7.out.2.2.2.2) (fun hHeld => ?_)
  clear HB6
  generalize w6.drew = w7 at *
  refine wpT (i := 0) (oi := ⟨some 16, .fieldAddr 104 (.tmp 1) 3, 0, _, _, none⟩) (v := ?_) rfl (by kernel_rfl) (fun _ _ _ h => h) (Or.inl ⟨by rfl, ?_⟩) (by assumption) ?_
  rotate_left
  ·intro wz hSw; (try dsimp only at hSw); go_simp; (try with_reducible rfl)
  try simp only [Act.put, zA, zB, zC]
  refine wpT (i := 1) (oi := ⟨some 17, .fieldAddr 97 (.tmp 16) 4, 0, _, _, none⟩) (v := ?_) rfl (by kernel_rfl) (fun _ _ _ h => h) (Or.inl ⟨by rfl, ?_⟩) (by assumption) ?_
  rotate_left
  ·intro wz hSw; (try dsimp only at hSw); go_simp; (try with_reducible rfl)
  try simp only [Act.put, zA, zB, zC]
  refine wpT (i := 3) (oi := ⟨some 19, .fieldAddr 104 (.tmp 1) 3, 0, _, _, none⟩) (v := ?_) rfl (by kernel_rfl) (fun _ _ _ h => h) (Or.inl ⟨by rfl, ?_⟩) (by assumption) ?_
  rotate_left
  ·intro wz hSw; (try dsimp only at hSw); go_simp; (try with_reducible rfl)
  try simp only [Act.put, zA, zB, zC]
  refine wpT (i := 4) (oi := ⟨some 20, .fieldAddr 97 (.tmp 19) 3, 0, _, _, none⟩) (v := ?_) rfl (by kernel_rfl) (fun _ _ _ h => h) (Or.inl ⟨by rfl, ?_⟩) (by assumption) ?_
  rotate_left
  ·intro wz hSw; (try dsimp only at hSw); go_simp; (try with_reducible rfl)
  try simp only [Act.put, zA, zB, zC]
  refine wpT (i := 5) (oi := ⟨some 21, .load 3 (.tmp 20), 3, _, _, none⟩) (v := ?_) rfl (by kernel_rfl) (fun _ _ _ h => h) (Or.inl ⟨by rfl, ?_⟩) (by assumption) ?_
  rotate_left
  ·intro wz hSw; (try dsimp only at hSw); go_simp; (try with_reducible rfl)
  try simp only [Act.put, zA, zB, zC]
  refine wpAnyH_take (i := 2) (oi := ⟨some 18, .load 23 (.tmp 17), 23, _, _, none⟩) rfl (by kernel_rfl) (by kernel_rfl) (by kernel_rfl) (fun _ _ _ h => h) (yieldsIf_load_mid (by rfl) _ _ rfl w.heap.size 75 rfl (bl c.y.lk 32) _ (fun _ h => h.1) Tryz.underlying23 rfl (szHb _)) (by assumption) ?_
  try simp only [Act.put, zA, zB, zC]
  refine wpT (i := 6) (oi := ⟨some 22, .fieldAddr 164 (.tmp 3) 1, 0, _, _, none⟩) (v := ?_) rfl (by kernel_rfl) (fun _ _ _ h => h) (Or.inl ⟨by rfl, ?_⟩) (by assumption) ?_
  rotate_left
  ·intro wz hSw; (try dsimp only at hSw); go_simp; (try with_reducible rfl)
  try simp only [Act.put, zA, zB, zC]
  refine wpAnyH_ready (rs := [7]) (by kernel_rfl) (by simp) ?_
  refine (AllReadyH.cons (o := ⟨none, .store 23 (.tmp 22) (.tmp 18), 0, _, _, none⟩) rfl (fun K hK => ?_) AllReadyH.nil)
  refine step_storeLkB rfl (.tmp 22) (.tmp 18) rfl p3 (by rfl) c.y.lk (by rfl) (brS c (1 - c.y.fr)) (some ⟨k1, 0, none⟩) 1 164 HB7.out.1 ?_
  intro w8 hg8 hf8
  have HB8 : Hid (w8.heap[p3]? = some (.cells (Cd.bv (toS c) (some ⟨k1, 0, none⟩) 1) 164 (0, 0)) ∧ w8.heap[p4]? = some (.cells (Cd.bv (brS c c.y.fr) (some ⟨k2, 0, none⟩) 1) 164 (0, 0)) ∧ w8.cell? ⟨k1, 0, none⟩ = some (.int .i64 (keyS c.P (1 - c.y.fr))) ∧ w8.cell? ⟨k2, 0, none⟩ = some (.int .i64 (keyS c.P c.y.fr)) ∧ Below W0.heap.size W0 w8) := ⟨hg8, hf8.heap HB7.out.2.1 (by have := HNE.out; simp; omega), cell_frm hf8 HB7.out.2.2.1 (by have := HNE.out; simp; omega), cell_frm hf8 HB7.out.2.2.2.1 (by have := HNE.out; simp; omega), HB7.out.2.2.2.2.trans (hf8.below HB7.out.2.2.2.2.size (by have := HNE.out; simp; omega))⟩
  clear hg8 hf8 HB7
  refine hK.out _ _ (HP.out w8 HB8.out.2.2.2.2) (fun _ => ?_)
  clear hK K
  try simp only [Act.put]
  have c8 : w8.cell? ⟨p4, 33, none⟩ = some (.int .i64 0) := (Cd.bbox_of HB8.out.2.1).c33
  have f8 : w8.frozen? ⟨p4, 33, none⟩ = false := frozen_of_row w8 p4 33 _ _ HB8.out.2.1
  refine wpT (i := 8) (oi := ⟨some 23, .fieldAddr 164 (.tmp 4) 2, 0, _, _, none⟩) (v := ?_) rfl (by kernel_rfl) (fun _ _ _ h => h) (Or.inl ⟨by rfl, ?_⟩) (by assumption) ?_
  rotate_left
  ·intro wz hSw; (try dsimp only at hSw); go_simp; (try with_reducible rfl)
  try simp only [Act.put, zA, zB, zC]
  refine wpAnyH_ready (rs := [9]) (by kernel_rfl) (by simp) ?_
  refine (AllReadyH.cons (o := ⟨none, .store 3 (.tmp 23) (.tmp 21), 0, _, _, none⟩) rfl (fun K hK => ?_) AllReadyH.nil)
  go_simp
  have hg9 := heap_setCell_same w8 p4 33 _ _ (.int .i64 c.y.af) HB8.out.2.1
  rw [bv_s33] at hg9
  have hf9 : Frm [p4] w8 (w8.setCell ⟨p4, 33, none⟩ (.int .i64 c.y.af)) := (Frm.refl _ _).setCell _ _ (by simp)
  clear c8 f8
  generalize w8.setCell ⟨p4, 33, none⟩ (.int .i64 c.y.af) = w9 at *
  have HB9 : Hid (w9.heap[p3]? = some (.cells (Cd.bv (toS c) (some ⟨k1, 0, none⟩) 1) 164 (0, 0)) ∧ w9.heap[p4]? = some (.cells (Cd.bv (bkS c) (some ⟨k2, 0, none⟩) 1) 164 (0, 0)) ∧ w9.cell? ⟨k1, 0, none⟩ = some (.int .i64 (keyS c.P (1 - c.y.fr))) ∧ w9.cell? ⟨k2, 0, none⟩ = some (.int .i64 (keyS c.P c.y.fr)) ∧ Below W0.heap.size W0 w9) := ⟨hf9.heap HB8.out.1 (by have := HNE.out; simp; omega), hg9, cell_frm hf9 HB8.out.2.2.1 (by have := HNE.out; simp; omega), cell_frm hf9 HB8.out.2.2.2.1 (by have := HNE.out; simp; omega), HB8.out.2.2.2.2.trans (hf9.below HB8.out.2.2.2.2.size (by have := HNE.out; simp; omega))⟩
  clear hg9 hf9 HB8
  refine hK.out _ _ (HP.out w9 HB9.out.2.2.2.2) (fun _ => ?_)
  clear hK K
  refine wpAnyH_done (by kernel_rfl) (NoPanic.normal ?_) _
  try simp only [Act.put, zA, zB, zC]
  clear hHeld
  go_wp2_with fail
  have HB10 : Hid (w9.drew.heap[p3]? = some (.cells (Cd.bv (toS c) (some ⟨k1, 0, none⟩) 1) 164 (0, 0)) ∧ w9.drew.heap[p4]? = some (.cells (Cd.bv (bkS c) (some ⟨k2, 0, none⟩) 1) 164 (0, 0)) ∧ w9.drew.cell? ⟨k1, 0, none⟩ = some (.int .i64 (keyS c.P (1 - c.y.fr))) ∧ w9.drew.cell? ⟨k2, 0, none⟩ = some (.int .i64 (keyS c.P c.y.fr)) ∧ Below W0.heap.size W0 w9.drew) := ⟨HB9.out.1, HB9.out.2.1, HB9.out.2.2.1, HB9.out.2.2.2.1, HB9.out.2.2.2.2.drew⟩
  have HQ : Hid (∀ w', Below W0.heap.size W0 w' → w'.heap[p3]? = some (.cells (Cd.bv (toS c) (some ⟨k1, 0, none⟩) 1) 164 (0, 0)) → w'.heap[p4]? = some (.cells (Cd.bv (bkS c) (some ⟨k2, 0, none⟩) 1) 164 (0, 0)) → w'.rangeAt p3 0 (Cd.brl (toS c) (some ⟨k1, 0, none⟩) 1) ∧ w'.rangeAt p4 0 (Cd.brl (bkS c) (some ⟨k2, 0, none⟩) 1) ∧ w'.rangeAt w.heap.size 0 (cml c ka kc)) := fun w' hb h1 h2 => ⟨br_range h1, br_range h2, (HS.out w' hb).1⟩
  refine wp_region_noPanic ?_
  refine wp_region_held_drew (S := fun w' => w'.rangeAt p3 0 (Cd.brl (toS c) (some ⟨k1, 0, none⟩) 1) ∧ w'.rangeAt p4 0 (Cd.brl (bkS c) (some ⟨k2, 0, none⟩) 1) ∧ w'.rangeAt w.heap.size 0 (cml c ka kc)) (by kernel_rfl) (HQ.out w9.drew HB10.out.2.2.2.2 HB10.out.1 HB10.out.2.1) (fun hHeld => ?_)
  clear HB9
  generalize w9.drew = w10 at *
  refine wpAnyH_take (i := 0) (oi := ⟨some 24, .load 164 (.tmp 3), 164, _, _, none⟩) rfl (by kernel_rfl) (by kernel_rfl) (by kernel_rfl) (fun _ _ _ h => h) (yieldsIf_load_mid (by rfl) _ _ rfl p3 0 rfl (Cd.brl (toS c) (some ⟨k1, 0, none⟩) 1) _ (fun _ h => h.1) Tryz.underlying164 rfl (Cd.szBl _ _ _)) (by assumption) ?_
  try simp only [Act.put, zA, zB, zC]
  refine wpAnyH_take (i := 1) (oi := ⟨some 25, .load 164 (.tmp 4), 164, _, _, none⟩) rfl (by kernel_rfl) (by kernel_rfl) (by kernel_rfl) (fun _ _ _ h => h) (yieldsIf_load_mid (by rfl) _ _ rfl p4 0 rfl (Cd.brl (bkS c) (some ⟨k2, 0, none⟩) 1) _ (fun _ h => h.2.1) Tryz.underlying164 rfl (Cd.szBl _ _ _)) (by assumption) ?_
  try simp only [Act.put, zA, zB, zC]
  refine wpAnyH_take (i := 2) (oi := ⟨some 26, .load 104 (.tmp 1), 104, _, _, none⟩) rfl (by kernel_rfl) (by kernel_rfl) (by kernel_rfl) (fun _ _ _ h => h) (yieldsIf_load_mid (by rfl) _ _ rfl w.heap.size 0 rfl (cml c ka kc) _ (fun _ h => h.2.2) Tryz.underlying104 rfl (szCml _ _ _)) (by assumption) ?_
  try simp only [Act.put, zA, zB, zC]
  refine wpAnyH_ready (rs := [3]) (by kernel_rfl) (by simp) ?_
  refine (AllReadyH.cons (o := ⟨some 27, .call { callee := Go.Callee.value (.func 77), args := #[.tmp 26], argTypes := #[104] }, 164, _, _, none⟩) rfl (fun K hK => ?_) AllReadyH.nil)
  go_simp
  refine (revoked_any c ka kc w10 HD.out.1).mono ?_
  rintro e w11 ⟨k3, rfl, hk3, hkl3, hb11⟩
  have HB11 : Hid (w11.heap[p3]? = some (.cells (Cd.bv (toS c) (some ⟨k1, 0, none⟩) 1) 164 (0, 0)) ∧ w11.heap[p4]? = some (.cells (Cd.bv (bkS c) (some ⟨k2, 0, none⟩) 1) 164 (0, 0)) ∧ w11.cell? ⟨k1, 0, none⟩ = some (.int .i64 (keyS c.P (1 - c.y.fr))) ∧ w11.cell? ⟨k2, 0, none⟩ = some (.int .i64 (keyS c.P c.y.fr)) ∧ w11.cell? ⟨k3, 0, none⟩ = some (.int .i64 (keyS c.P (1 - c.o))) ∧ Below W0.heap.size W0 w11 ∧ W0.heap.size ≤ k3) := ⟨heap_below hb11 HB10.out.1, heap_below hb11 HB10.out.2.1, cell_below hb11 HB10.out.2.2.1, cell_below hb11 HB10.out.2.2.2.1, hk3, Below.transS HB10.out.2.2.2.2 hb11, Nat.le_trans HB10.out.2.2.2.2.size hkl3⟩
  clear hk3 hkl3 hb11 HB10
  refine hK.out _ _ (HQ.out w11 HB11.out.2.2.2.2.2.1 HB11.out.1 HB11.out.2.1) (fun _ => ?_)
  clear hK K
  try simp only [Act.put, zA, zB, zC]
  refine wpAnyH_ready (rs := [4]) (by kernel_rfl) (by simp) ?_
  refine (AllReadyH.cons (o := ⟨some 28, .buildSlice 91 3 #[(0, .tmp 24), (1, .tmp 25), (2, .tmp 27)], 91, _, _, none⟩) rfl (fun K hK => ?_) AllReadyH.nil)
  refine step_sliceB3 rfl (.tmp 24) (.tmp 25) (.tmp 27) rfl (toS c) (bkS c) (rvS c) (some ⟨k1, 0, none⟩) (some ⟨k2, 0, none⟩) (some ⟨k3, 0, none⟩) 1 1 1 (by rfl) (by rfl) (by rfl) ?_
  intro q w12 hq hql hb12
  have HB12 : Hid (Below W0.heap.size W0 w12 ∧ w12.heap[q]? = some (.cells (Cd.brl (toS c) (some ⟨k1, 0, none⟩) 1 ++ (Cd.brl (bkS c) (some ⟨k2, 0, none⟩) 1 ++ Cd.brl (rvS c) (some ⟨k3, 0, none⟩) 1)).toArray 164 (0, 0)) ∧ w12.cell? ⟨k1, 0, none⟩ = some (.int .i64 (keyS c.P (1 - c.y.fr))) ∧ w12.cell? ⟨k2, 0, none⟩ = some (.int .i64 (keyS c.P c.y.fr)) ∧ w12.cell? ⟨k3, 0, none⟩ = some (.int .i64 (keyS c.P (1 - c.o))) ∧ W0.heap.size ≤ q) := ⟨Below.transS HB11.out.2.2.2.2.2.1 hb12, hq, cell_below hb12 HB11.out.2.2.1, cell_below hb12 HB11.out.2.2.2.1, cell_below hb12 HB11.out.2.2.2.2.1, Nat.le_trans HB11.out.2.2.2.2.2.1.size hql⟩
  have hq12 := HQ.out w12 HB12.out.1 (heap_below hb12 HB11.out.1) (heap_below hb12 HB11.out.2.1)
  have HK3 : Hid (W0.heap.size ≤ k3) := HB11.out.2.2.2.2.2.2
  have HX : Hid (w12.heap[p3]? = some (.cells (Cd.bv (toS c) (some ⟨k1, 0, none⟩) 1) 164 (0, 0)) ∧ w12.heap[p4]? = some (.cells (Cd.bv (bkS c) (some ⟨k2, 0, none⟩) 1) 164 (0, 0))) := ⟨heap_below hb12 HB11.out.1, heap_below hb12 HB11.out.2.1⟩
  clear hq hql hb12 HB11
  refine hK.out _ _ hq12 (fun _ => ?_)
  clear hK K hq12
  try simp only [Act.put, zA, zB, zC]
  refine wpT (i := 5) (oi := ⟨some 29, .build 93 #[(0, .tmp 28)], 93, _, _, none⟩) (v := .agg #[.slice (some ⟨q, 0, none⟩) 3 3]) rfl (by kernel_rfl) (fun _ _ _ h => h) (Or.inl ⟨by rfl, ?_⟩) (by assumption) ?_
  ·intro wz hSw; (try dsimp only at hSw); kernel_rfl
  try simp only [Act.put, zA, zB, zC]
  refine wpAnyH_ready (rs := [6]) (by kernel_rfl) (by simp) ?_
  refine (AllReadyH.cons (o := ⟨none, .store 93 (.tmp 2) (.tmp 29), 0, _, _, none⟩) rfl (fun K hK => ?_) AllReadyH.nil)
  refine step_storeG 93 szCond rfl (.tmp 2) (.tmp 29) rfl v1.heap.size (by rfl) #[.slice (some ⟨q, 0, none⟩) 3 3] #[.slice none 0 0] rfl rfl (cond_one _ _ _) 93 (by rfl) (HRS.out w12 HB12.out.1) ?_
  intro w13 hg13 hf13
  have hb13 : Below w.heap.size w w13 := (HB0.out.1.trans (HB12.out.1.mono HB0.out.1.size)).trans (hf13.below (by have := HB0.out; have := HB12.out.1.size; omega) (by have := HB0.out; simp; omega))
  have hi13 : Cd.BrIn w13 w.heap.size (some ⟨q, 0, none⟩) 3 (pdS c) := by
   intro z hz
   have hh := hf13.heap HB12.out.2.1 (by have := HB0.out; have := HB12.out.2.2.2.2.2; simp; omega)
   have h1 := cell_frm hf13 HB12.out.2.2.1 (by have := HB0.out; have := HNE.out; simp; omega)
   have h2 := cell_frm hf13 HB12.out.2.2.2.1 (by have := HB0.out; have := HNE.out; simp; omega)
   have h3 := cell_frm hf13 HB12.out.2.2.2.2.1 (by have := HB0.out; have := HK3.out; simp; omega)
   refine brAt3 (by rw [hz q (by have := HB0.out; have := HB12.out.2.2.2.2.2; omega) (lt_of_block hh)]; exact hh) rfl rfl rfl HOK.out.1 HOK.out.2.1 HOK.out.2.2 ?_ ?_ ?_
   ·rw [World.cell?_of_block (a := ⟨k1, 0, none⟩) (hz k1 (by have := HB0.out; have := HNE.out; omega) (World.block_lt_of_cell? _ ⟨k1, 0, none⟩ h1))]; exact h1
   ·rw [World.cell?_of_block (a := ⟨k2, 0, none⟩) (hz k2 (by have := HB0.out; have := HNE.out; omega) (World.block_lt_of_cell? _ ⟨k2, 0, none⟩ h2))]; exact h2
   ·rw [World.cell?_of_block (a := ⟨k3, 0, none⟩) (hz k3 (by have := HB0.out; have := HK3.out; omega) (World.block_lt_of_cell? _ ⟨k3, 0, none⟩ h3))]; exact h3
  have HE := hidV (And.intro hg13 (And.intro hi13 hb13))
  have hq13 : w13.rangeAt p3 0 (Cd.brl (toS c) (some ⟨k1, 0, none⟩) 1) ∧ w13.rangeAt p4 0 (Cd.brl (bkS c) (some ⟨k2, 0, none⟩) 1) ∧ w13.rangeAt w.heap.size 0 (cml c ka kc) := ⟨br_range (hf13.heap HX.out.1 (by have := HB0.out; have := HNE.out; simp; omega)), br_range (hf13.heap HX.out.2 (by have := HB0.out; have := HNE.out; simp; omega)), range_frm (HS.out w12 HB12.out.1).1 hf13 (by have := HB0.out; simp; omega)⟩
  clear hg13 hi13 hb13 hf13
  refine hK.out _ _ hq13 (fun _ => ?_)
  clear hK K hq13
  try simp only [Act.put]
  refine wpAnyH_done (by kernel_rfl) (NoPanic.normal ?_) _
  try simp only [Act.put, zA, zB, zC]
  clear hHeld
  go_wp2
  exact bodyPost_ret (results_cell_row Tryz.results49 _ w13 v1.heap.size 93 _ (0, 0) _ rfl HE.out.1 Tryz.underlying93 rfl szCond) rfl ⟨q, rfl, HE.out.2.1, HE.out.2.2⟩
end Go.Proofs.YtjnepkggdkccaaaGreatDoor
