/- Whether all of some signed a sum: the program's All, the document's. -/
import Derived.Test.YtlddjniofijnnaaDoorOLaid
namespace Go.Proofs.YtlddjniofijnnaaDoor
open Go.RowKit

attribute [local go_sem ↓] Go.wp_at_zero Go.wp_at_succ

/-- Whether all of the first n did. -/
def allB (S : List (Int × List UInt8)) (y : Nat → Int) (z : Nat → Int) (n : Nat) : Bool := (List.range n).all fun j => S.contains (y j, ub z)
theorem allB_no {S : List (Int × List UInt8)} {y z : Nat → Int} {n i : Nat} (hi : i < n) (h : S.contains (y i, ub z) = false) : allB S y z n = false := by
  unfold allB
  rw [List.all_eq_false]
  exact ⟨i, List.mem_range.2 hi, by simpa using h⟩
theorem allB_succ {S : List (Int × List UInt8)} {y z : Nat → Int} {i : Nat} (h : allB S y z i = true) (hc : S.contains (y i, ub z) = true) : allB S y z (i + 1) = true := by
  unfold allB at *
  rw [List.range_succ, List.all_append, h]
  simpa using hc
theorem int_below {W w : World} {b o : Nat} {v : Value} (h : W.cell? ⟨b, o, none⟩ = some v) (hb : Below W.heap.size W w) : w.cell? ⟨b, o, none⟩ = some v := by
  have hl : b < W.heap.size := World.block_lt_of_cell? W ⟨b, o, none⟩ h
  rw [hb.cell (p := ⟨b, o, none⟩) hl]; exact h

set_option maxRecDepth 100000 in
set_option maxHeartbeats 3200000 in
theorem all_any (p m B : Nat) (g : Nat → Option Nat) (S : List (Int × List UInt8)) (ad : Option Addr) (n cap : Nat) (y z : Nat → Int) (w : World) (h : BkAt w B p m g S) (hI : IsAt w ad n y) (hy : ∀ j, j < n → Ib (y j)) (hz : Zb z) (hn : n ≤ 1000000) :
    Calls Tryd.prog 12 #[.pointer (some ⟨p, 0, none⟩), .slice ad n cap, .agg (hv z)] w fun e w' => e = .returned (.bool (allB S y z n)) ∧ Below w.heap.size w w' := by
  have HH : Hid (BkAt w B p m g S) := h
  have HI : Hid (IsAt w ad n y) := hI
  have HY : Hid (∀ j, j < n → Ib (y j)) := hy
  have h0 : Below w.heap.size w (w.alloc (.cells (hv z) 32)) ∧ (w.alloc (.cells (hv z) 32)).heap[w.heap.size]? = some (.cells (hv z) 32 (0, 0)) := ⟨(Below.refl _ w).alloc (Nat.le_refl _) _, heap_alloc_new w _⟩
  clear h hI hy
  go_enter Tryd.func12, Tryd.ntmps12
  go_wp2_with (first | (refine Go.Great.wpList_boxTo rfl _ _ rfl _ rfl _ rfl (hv z) rfl ?_) | fail)
  generalize w.alloc (.cells (hv z) 32) = W0 at *
  go_loopw [11] (fun iv wr => ∃ i : Nat, i ≤ n ∧ iv = .int .i64 i ∧ allB S y z i = true ∧ Below w.heap.size w wr ∧ wr.heap[w.heap.size]? = some (.cells (hv z) 32 (0, 0))) (fun iv _ => n + 1 - (intOf iv).toNat)
  case atStart => exact ⟨0, by omega, rfl, rfl, h0⟩
  case round =>
    clear h0
    obtain ⟨i, hi, rfl, hall, hb, hbx⟩ := hrel
    have HA : Hid (allB S y z i = true) := hall
    clear hall
    have HB : Hid (BkAt wr B p m g S) := HH.out.below hb
    by_cases hlt : i < n
    · have hlt' : (i : Int) < n := by omega
      obtain ⟨b, off, rfl, hc⟩ := HI.out (by omega)
      have c1 := int_below (hc i hlt) hb
      have hyi := HY.out i hlt
      clear hc
      by_cases hc : S.contains (y i, ub z) = true
      · go_wp2_with (first | (refine wpList_loadH rfl _ rfl w.heap.size rfl z _ _ hbx ?_) | (go_at_call 10; refine (has_any p m B g S _ z _ HB.out hyi hz).mono ?_; rintro e w1 ⟨rfl, hb1⟩; rw [hc]) | fail)
        go_roundw
        case rel => exact ⟨i + 1, by omega, by go_num, allB_succ HA.out hc, Below.transS hb hb1, by rw [hb1.block _ (lt_of_block hbx)]; exact hbx⟩
        case measure => simp [intOf]; omega
      · have hc' : S.contains (y i, ub z) = false := by simpa using hc
        have hno := allB_no (n := n) hlt hc'
        go_wp2_with (first | (refine wpList_loadH rfl _ rfl w.heap.size rfl z _ _ hbx ?_) | (go_at_call 10; refine (has_any p m B g S _ z _ HB.out hyi hz).mono ?_; rintro e w1 ⟨rfl, hb1⟩; rw [hc']) | fail)
        go_ret
        exact ⟨by rw [hno]; rfl, Below.transS hb hb1⟩
    · obtain rfl : i = n := by omega
      have hall := HA.out
      go_wp2
      go_ret
      exact ⟨by rw [hall]; rfl, hb⟩

set_option maxRecDepth 100000 in
set_option maxHeartbeats 3200000 in
theorem rall_any (ra : Option Addr) (rn rc : Nat) (Y : Nat → Sg) (ad : Option Addr) (n cap : Nat) (y z : Nat → Int) (w : World) (h : SgAt w ra rn Y) (hrn : rn ≤ 100000) (hI : IsAt w ad n y) (hz : Zb z) (hn : n ≤ 1000000) :
    Calls Tryd.prog 13 #[.slice ra rn rc, .slice ad n cap, .agg (hv z)] w fun e w' => e = .returned (.bool (allB (SgL Y rn) y z n)) ∧ Below w.heap.size w w' := by
  have HH : Hid (SgAt w ra rn Y) := h
  have HI : Hid (IsAt w ad n y) := hI
  have h0 : Below w.heap.size w (w.alloc (.cells (hv z) 32)) ∧ (w.alloc (.cells (hv z) 32)).heap[w.heap.size]? = some (.cells (hv z) 32 (0, 0)) := ⟨(Below.refl _ w).alloc (Nat.le_refl _) _, heap_alloc_new w _⟩
  clear h hI
  go_enter Tryd.func13, Tryd.ntmps13
  go_wp2_with (first | (refine Go.Great.wpList_boxTo rfl _ _ rfl _ rfl _ rfl (hv z) rfl ?_) | fail)
  generalize w.alloc (.cells (hv z) 32) = W0 at *
  go_loopw [7] (fun iv wr => ∃ i : Nat, i ≤ n ∧ iv = .int .i64 i ∧ allB (SgL Y rn) y z i = true ∧ Below w.heap.size w wr ∧ wr.heap[w.heap.size]? = some (.cells (hv z) 32 (0, 0))) (fun iv _ => n + 1 - (intOf iv).toNat)
  case atStart => exact ⟨0, by omega, rfl, rfl, h0⟩
  case round =>
    clear h0
    obtain ⟨i, hi, rfl, hall, hb, hbx⟩ := hrel
    have HA : Hid (allB (SgL Y rn) y z i = true) := hall
    clear hall
    by_cases hlt : i < n
    · have hlt' : (i : Int) < n := by omega
      obtain ⟨b, off, rfl, hc⟩ := HI.out (by omega)
      have HC : Hid (w.cell? ⟨b, off + i, none⟩ = some (.int .i64 (y i))) := hc i hlt
      have HBd : Hid (Below w.heap.size w wr.drew ∧ wr.drew.heap[w.heap.size]? = some (.cells (hv z) 32 (0, 0))) := ⟨hb.drew, hbx⟩
      have S1 : wr.drew.cell? ⟨b, off + i, none⟩ = some (.int .i64 (y i)) ∧ wr.drew.rangeAt w.heap.size 0 (bl z 32) := ⟨int_below HC.out hb.drew, hv_range (w := wr.drew) hbx⟩
      have HB : Hid (SgAt wr.drew ra rn Y) := HH.out.below hb.drew
      clear hc hb hbx
      generalize hcc : (SgL Y rn).contains (y i, ub z) = c
      go_wp2_with fail
      refine wp_region_noPanic ?_
      refine wp_region_held_drew (S := fun w' => w'.cell? ⟨b, off + i, none⟩ = some (.int .i64 (y i)) ∧ w'.rangeAt w.heap.size 0 (bl z 32)) (by kernel_rfl) S1 (fun hHeld => ?_)
      refine wpAnyH_take (i := 0) (oi := { dst := some 14, op := Go.Op.move (Go.Operand.tmp 0), type := 22, pos := "ref.go:42", after := #[], guard := none }) (v := ?_) rfl (by kernel_rfl) (by kernel_rfl) (by kernel_rfl) (fun _ _ _ h => h) (Or.inl ⟨by rfl, ?_⟩) (by assumption) ?_
      rotate_left
      · intro wz hSw; (try dsimp only at hSw); go_simp; (try with_reducible rfl)
      try simp only [Act.put, List.setIfInBounds_toArray, List.set_cons_zero, List.set_cons_succ]
      refine wpAnyH_take (i := 1) (oi := { dst := some 15, op := Go.Op.move (Go.Operand.tmp 1), type := 38, pos := "ref.go:42", after := #[], guard := none }) (v := ?_) rfl (by kernel_rfl) (by kernel_rfl) (by kernel_rfl) (fun _ _ _ h => h) (Or.inl ⟨by rfl, ?_⟩) (by assumption) ?_
      rotate_left
      · intro wz hSw; (try dsimp only at hSw); go_simp; (try with_reducible rfl)
      try simp only [Act.put, List.setIfInBounds_toArray, List.set_cons_zero, List.set_cons_succ]
      refine wpAnyH_take (i := 2) (oi := { dst := some 16, op := Go.Op.move (Go.Operand.tmp 7), type := 3, pos := "ref.go:42", after := #[], guard := none }) (v := ?_) rfl (by kernel_rfl) (by kernel_rfl) (by kernel_rfl) (fun _ _ _ h => h) (Or.inl ⟨by rfl, ?_⟩) (by assumption) ?_
      rotate_left
      · intro wz hSw; (try dsimp only at hSw); go_simp; (try with_reducible rfl)
      try simp only [Act.put, List.setIfInBounds_toArray, List.set_cons_zero, List.set_cons_succ]
      refine wpAnyH_take (i := 3) (oi := { dst := some 17, op := Go.Op.indexAddr 38 (Go.Operand.tmp 15) (Go.Operand.tmp 16), type := 0, pos := "ref.go:42", after := #[{ on := 1, ground := Go.Ground.data }, { on := 2, ground := Go.Ground.data }], guard := none }) (v := ?_) rfl (by kernel_rfl) (by kernel_rfl) (by kernel_rfl) (fun _ _ _ h => h) (Or.inl ⟨by rfl, ?_⟩) (by assumption) ?_
      rotate_left
      · intro wz hSw; (try dsimp only at hSw); go_simp; (try with_reducible rfl)
      try simp only [Act.put, List.setIfInBounds_toArray, List.set_cons_zero, List.set_cons_succ]
      refine wpAnyH_take (i := 4) (oi := { dst := some 18, op := Go.Op.load 3 (Go.Operand.tmp 17), type := 3, pos := "ref.go:42", after := #[{ on := 3, ground := Go.Ground.data }], guard := none }) (v := ?_) rfl (by kernel_rfl) (by kernel_rfl) (by kernel_rfl) (fun _ _ _ h => h) (Or.inl ⟨by rfl, ?_⟩) (by assumption) ?_
      rotate_left
      · intro wz hSw; (try dsimp only at hSw); go_simp; (try with_reducible rfl)
      try simp only [Act.put, List.setIfInBounds_toArray, List.set_cons_zero, List.set_cons_succ]
      refine wpAnyH_take (i := 5) (oi := { dst := some 19, op := Go.Op.load 32 (Go.Operand.tmp 5), type := 32, pos := "ref.go:42", after := #[], guard := none }) rfl (by kernel_rfl) (by kernel_rfl) (by kernel_rfl) (fun _ _ _ h => h) (yieldsIf_load_mid (by rfl) _ _ rfl w.heap.size 0 rfl (bl z 32) _ (fun _ h => h.2) Tryd.underlying32 rfl (bl_size _)) (by assumption) ?_
      try simp only [Act.put, List.setIfInBounds_toArray, List.set_cons_zero, List.set_cons_succ]
      refine wpAnyH_ready (rs := [6]) (by kernel_rfl) (by simp) ?_
      refine (AllReadyH.cons (o := { dst := some 20, op := Go.Op.call { callee := Go.Callee.value (Go.Operand.func 21), args := #[Go.Operand.tmp 14, Go.Operand.tmp 18, Go.Operand.tmp 19], argTypes := #[22, 3, 32] }, type := 4, pos := "ref.go:42", after := #[{ on := 0, ground := Go.Ground.data }, { on := 4, ground := Go.Ground.data }, { on := 5, ground := Go.Ground.data }], guard := none }) rfl (fun K hK => ?_) AllReadyH.nil)
      go_simp
      refine (rhas_any ra rn rc Y (y i) z _ HB.out hz (by omega)).mono ?_
      rintro e w1 ⟨rfl, hb1⟩
      have hw1 : Below w.heap.size w w1 := Below.transS HBd.out.1 hb1
      have hx1 : w1.heap[w.heap.size]? = some (.cells (hv z) 32 (0, 0)) := by rw [hb1.block _ (lt_of_block HBd.out.2)]; exact HBd.out.2
      rw [hcc]
      refine hK.out _ _ ⟨int_below HC.out hw1, hv_range hx1⟩ (fun _ => ?_)
      clear hK K
      try simp only [Act.put, List.setIfInBounds_toArray, List.set_cons_zero, List.set_cons_succ]
      refine wpAnyH_take (i := 7) (oi := { dst := some 21, op := Go.Op.unOp Go.UnOp.not 4 (Go.Operand.tmp 20), type := 4, pos := "ref.go:42", after := #[{ on := 6, ground := Go.Ground.data }], guard := none }) (v := ?_) rfl (by kernel_rfl) (by kernel_rfl) (by kernel_rfl) (fun _ _ _ h => h) (Or.inl ⟨by rfl, ?_⟩) (by assumption) ?_
      rotate_left
      · intro wz hSw; (try dsimp only at hSw); go_simp; (try with_reducible rfl)
      try simp only [Act.put, List.setIfInBounds_toArray, List.set_cons_zero, List.set_cons_succ]
      refine wpAnyH_done (by kernel_rfl) (NoPanic.normal ?_) _
      try simp only [Act.put, List.setIfInBounds_toArray, List.set_cons_zero, List.set_cons_succ]
      clear S1 hHeld HBd HB hb1
      cases c with
      | true =>
        go_wp2
        go_roundw
        case rel => exact ⟨i + 1, by omega, by go_num, allB_succ HA.out hcc, hw1, hx1⟩
        case measure => simp [intOf]; omega
      | false =>
        have hno := allB_no (n := n) hlt hcc
        go_wp2
        go_ret
        exact ⟨by rw [hno]; rfl, hw1⟩
    · obtain rfl : i = n := by omega
      have hall := HA.out
      go_wp2
      go_ret
      exact ⟨by rw [hall]; rfl, hb⟩
end Go.Proofs.YtlddjniofijnnaaDoor
