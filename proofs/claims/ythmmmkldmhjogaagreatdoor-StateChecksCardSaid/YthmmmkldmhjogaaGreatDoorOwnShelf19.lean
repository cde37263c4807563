/- state.Decode: the walk. -/
import Derived.Test.YthmmmkldmhjogaaGreatDoorOwnShelf16
import Derived.Test.YthmmmkldmhjogaaGreatDoorOwnShelf12
import Derived.WalkSmall
import Derived.Deep.QuietTactic
import Derived.BigQuiet
import Derived.RegionTactic
import Derived.BigRegion
namespace Go.Proofs.YthmmmkldmhjogaaGreatDoor
open Go.RowKit

set_option maxRecDepth 100000 in
set_option maxHeartbeats 6400000 in
theorem decode_any (ad : Option Addr) (cap : Nat) (l : List Int) (w : World) (hs : SlAt w ad l.length (fn l)) (hnil : ad = none → l.length = 0 ∧ cap = 0) (hn : l.length ≤ 140737488351232) :
  Calls Tryz.prog 6 #[.slice ad l.length cap] w fun e w' => ∃ p, e = .returned (.tuple #[.agg (svv (decT l) p), errV (decE l)]) ∧ SvAt w' (decT l) p ∧ Below w.heap.size w w' := by
 have hb0 : Below w.heap.size w (w.alloc (.cells #[.int .i64 0, .int .i64 0, .int .i64 0, .slice none 0 0, .slice none 0 0] 33)) := (Below.refl _ w).alloc (Nat.le_refl _) _
 have hp0 : (w.alloc (.cells #[.int .i64 0, .int .i64 0, .int .i64 0, .slice none 0 0, .slice none 0 0] 33)).heap[w.heap.size]? = some (.cells #[.int .i64 0, .int .i64 0, .int .i64 0, .slice none 0 0, .slice none 0 0] 33 (0, 0)) := heap_alloc_new w _
 have hs0 : (w.alloc (.cells #[.int .i64 0, .int .i64 0, .int .i64 0, .slice none 0 0, .slice none 0 0] 33)).heap.size = w.heap.size + 1 := by simp
 have hsm := decS_small l
 have hpn := decS_pn l
 have hhn := decS_hn l
 obtain ⟨s, he⟩ : ∃ s, decS l = s := ⟨_, rfl⟩
 have ENu : Hid ((d1 l).1 = s.nu ∧ (d2 l).1 = s.a ∧ (d3 l).1 = s.b ∧ (∀ i, (pyS (stP (d4 l).2 i)).1 = s.P i) ∧ ∀ j, (hdS (stH (d5 l).2 j)).1 = s.H j) := by subst he; exact ⟨rfl, rfl, rfl, fun _ => rfl, fun _ => rfl⟩
 have EN : Hid ((d4 l).1.toNat = s.pn ∧ (d5 l).1.toNat = s.hn) := by subst he; exact ⟨rfl, rfl⟩
 have HE : Hid (decS l = s) := he
 have HSM : Hid s.Small := by rw [← he]; exact hsm
 rw [he] at hpn hhn
 clear he hsm
 have hrd := read_rs ad cap l _ (hs.frm (S := []) (Frm.ofBelow hb0) (by simp)) hnil hn
 clear hs hnil hn
 go_enter Tryz.func6, Tryz.ntmps6
 go_wp2_with fail
 generalize w.alloc (.cells #[.int .i64 0, .int .i64 0, .int .i64 0, .slice none 0 0, .slice none 0 0] 33) = W0 at *
 refine hrd.mono ?_
 rintro e w1 ⟨rb, rfl, h1, hrb, hb1⟩
 clear hrd
 go_wp2_with fail
 have k1 := snum_any rb (some l) w1 h1
 change Calls _ _ _ _ (fun e w' => e = .returned (.int .i64 (d1 l).1) ∧ Frm [rb] w1 w' ∧ RS w' rb (d1 l).2) at k1
 rw [ENu.out.1] at k1
 refine k1.mono ?_
 rintro e w2 ⟨rfl, hF2, h2⟩
 clear k1
 go_wp2_with fail
 have k2 := snum_any rb (d1 l).2 w2 h2
 change Calls _ _ _ _ (fun e w' => e = .returned (.int .i64 (d2 l).1) ∧ Frm [rb] w2 w' ∧ RS w' rb (d2 l).2) at k2
 rw [ENu.out.2.1] at k2
 refine k2.mono ?_
 rintro e w3 ⟨rfl, hF3, h3⟩
 clear k2
 go_wp2_with fail
 have k3 := snum_any rb (d2 l).2 w3 h3
 change Calls _ _ _ _ (fun e w' => e = .returned (.int .i64 (d3 l).1) ∧ Frm [rb] w3 w' ∧ RS w' rb (d3 l).2) at k3
 rw [ENu.out.2.2.1] at k3
 refine k3.mono ?_
 rintro e w4 ⟨rfl, hF4, h4⟩
 clear k3
 have hb4 : Below w.heap.size w w4 := (hb0.trans (hb1.mono (by omega))).trans (((hF2.trans hF3).trans hF4).below (by have := hb1.size; omega) (by simp; omega))
 have hp4 : w4.heap[w.heap.size]? = some (.cells #[.int .i64 0, .int .i64 0, .int .i64 0, .slice none 0 0, .slice none 0 0] 33 (0, 0)) := ((hF2.trans hF3).trans hF4).heap (by rw [hb1.block _ (by omega)]; exact hp0) (by simp; omega)
 have HH : Hid (Below w.heap.size w w4 ∧ w4.heap[w.heap.size]? = some (.cells #[.int .i64 0, .int .i64 0, .int .i64 0, .slice none 0 0, .slice none 0 0] 33 (0, 0)) ∧ RS w4 rb (d3 l).2) := ⟨hb4, hp4, h4⟩
 have hrb1 : w.heap.size < rb := by omega
 clear hb0 hp0 hs0 h1 hrb hb1 hF2 h2 hF3 h3 hF4 h4 hb4 hp4
 go_wp2_with fail
 have hb5 : Below w4.heap.size w4 (w4.alloc (.cells #[.int .i64 s.nu, .int .i64 s.a, .int .i64 s.b, .slice none 0 0, .slice none 0 0] 33)) := (Below.refl _ _).alloc (Nat.le_refl _) _
 have hx5 : (w4.alloc (.cells #[.int .i64 s.nu, .int .i64 s.a, .int .i64 s.b, .slice none 0 0, .slice none 0 0] 33)).heap[w4.heap.size]? = some (.cells #[.int .i64 s.nu, .int .i64 s.a, .int .i64 s.b, .slice none 0 0, .slice none 0 0] 33 (0, 0)) := heap_alloc_new _ _
 have hD0 : DcS w (w4.alloc (.cells #[.int .i64 s.nu, .int .i64 s.a, .int .i64 s.b, .slice none 0 0, .slice none 0 0] 33)) rb w4.heap.size s pl0 (fun _ => (none, 0)) 0 0 (d3 l).2 :=
  ⟨HH.out.1.trans (hb5.mono HH.out.1.size), hrb1, HH.out.2.2.lt, by rw [hb5.block _ (lt_of_block HH.out.2.1)]; exact HH.out.2.1, hx5, World.ownsRow_nil _ _ _ _, World.ownsRow_nil _ _ _ _, fun k hk => by omega, fun k hk => by omega, HH.out.2.2.keep hb5⟩
 have k5 := count_rs rb 8 (d3 l).2 _ hD0.rs (by decide)
 change Calls _ _ _ _ (fun e w' => e = .returned (.int .i64 (d4 l).1) ∧ Frm [rb] _ w' ∧ RS w' rb (d4 l).2) at k5
 have h40 : 0 ≤ (d4 l).1 := (cntS_bd (most := 8) hD0.rs.by (by decide)).1
 rw [show (d4 l).1 = (s.pn : Int) by have := EN.out.1; omega] at k5
 generalize w4.alloc (.cells #[.int .i64 s.nu, .int .i64 s.a, .int .i64 s.b, .slice none 0 0, .slice none 0 0] 33) = W5 at *
 generalize w4.heap.size = g at *
 refine k5.mono ?_
 rintro e w6 ⟨rfl, hF6, h6⟩
 have hD6 := hD0.frm hF6 h6
 clear k5 hD0 hF6 h6 HH hb5 hx5 h40
 go_wp2_with fail
 go_loopw [18] (fun iv wr => ∃ (i : Nat) (p : Pl), i ≤ s.pn ∧ iv = .int .i64 i ∧ DcS w wr rb g s p (fun _ => (none, 0)) i 0 (stP (d4 l).2 i)) (fun iv _ => s.pn + 1 - (intOf iv).toNat)
 case atStart => exact ⟨0, pl0, by omega, rfl, hD6⟩
 case round =>
  clear hD6
  obtain ⟨i, p, hi, rfl, hG⟩ := hrel
  have HG : Hid (DcS w wr rb g s p (fun _ => (none, 0)) i 0 (stP (d4 l).2 i)) := hG
  have hbig := hG.big
  have l1 := hG.l1
  have l2 := hG.l2
  clear hG
  by_cases hlt : i < s.pn
  ·have hlt' : (i : Int) < s.pn := by omega
   have hGd : DcS w wr.drew rb g s p (fun _ => (none, 0)) i 0 (stP (d4 l).2 i) := HG.out.keep ((Below.refl _ wr).drew)
   have HGd : Hid (DcS w wr.drew rb g s p (fun _ => (none, 0)) i 0 (stP (d4 l).2 i)) := hGd
   obtain ⟨_, _, _, S0, _, _⟩ := five_of hGd.box
   obtain ⟨_, _, _, c3, _, _⟩ := five_of HG.out.box
   clear hGd
   go_wp2_with fail
   refine wp_region_noPanic ?_
   refine wp_region_K (S := fun w' => w'.cell? ⟨g, 3, none⟩ = some (.slice p.pa i p.pc)) 7 (by kernel_rfl) S0 (fun hHeld => ?_)
   clear HG c3
   generalize wr.drew = Wd at *
   refine wpAnyK_take (by kernel_rfl) (i := 0) (oi := ⟨some 20, .fieldAddr 33 (.tmp 5) 2, 0, _, _, none⟩) (v := ?_) rfl (by kernel_rfl) (by kernel_rfl) (by kernel_rfl) (fun _ _ _ h => h) (Or.inl ⟨by rfl, ?_⟩) (by assumption) ?_
   rotate_left
   ·intro wz hSw; (try dsimp only at hSw); go_simp; (try with_reducible rfl)
   try simp only [Act.put, sqA, sqB, sqC]
   refine wpAnyK_take (by kernel_rfl) (i := 1) (oi := ⟨some 21, .load 30 (.tmp 20), 30, _, _, none⟩) (v := ?_) rfl (by kernel_rfl) (by kernel_rfl) (by kernel_rfl) (fun _ _ _ h => h) (Or.inl ⟨by rfl, ?_⟩) (by assumption) ?_
   rotate_left
   ·intro wz hSw; (try dsimp only at hSw); go_simp; (try with_reducible rfl)
   try simp only [Act.put, sqA, sqB, sqC]
   refine wpAnyK_take (by kernel_rfl) (i := 2) (oi := ⟨some 22, .move (.tmp 4), 57, _, _, none⟩) (v := ?_) rfl (by kernel_rfl) (by kernel_rfl) (by kernel_rfl) (fun _ _ _ h => h) (Or.inl ⟨by rfl, ?_⟩) (by assumption) ?_
   rotate_left
   ·intro wz hSw; (try dsimp only at hSw); go_simp; (try with_reducible rfl)
   try simp only [Act.put, sqA, sqB, sqC]
   refine wpAnyK_ready (rs := [3]) (by kernel_rfl) (by simp) ?_
   refine (AllReadyK.cons (o := ⟨some 23, .call { callee := Go.Callee.value (.func 23), args := #[.tmp 22], argTypes := #[57] }, 62, _, _, none⟩) rfl (fun K hK => ?_) AllReadyK.nil)
   go_simp
   have kp := rdPay_any rb (stP (d4 l).2 i) Wd HGd.out.rs
   rw [ENu.out.2.2.2.1 i] at kp
   refine kp.mono ?_
   rintro e w7 ⟨rfl, hF7, h7, hz7⟩
   clear kp
   have HG7 : Hid (DcS w w7 rb g s p (fun _ => (none, 0)) i 0 (stP (d4 l).2 (i + 1)) ∧ Zb (s.P i).lk) := ⟨HGd.out.frm hF7 h7, hz7⟩
   clear hF7 h7 hz7 HGd
   have S7 : w7.cell? ⟨g, 3, none⟩ = some (.slice p.pa i p.pc) := (five_of HG7.out.1.box).c3
   refine hK.out _ _ (fun _ => S7) (fun _ => ?_)
   clear hK K
   try simp only [Act.put, sqA, sqB, sqC]
   refine wpAnyK_ready (rs := [4]) (by kernel_rfl) (by simp) ?_
   refine (AllReadyK.cons (o := ⟨some 24, .buildSlice 30 1 #[(0, .tmp 23)], 30, _, _, none⟩) rfl (fun K hK => ?_) AllReadyK.nil)
   refine step_sliceP rfl (.tmp 23) rfl (s.P i) (by rfl) ?_
   have hb8 : Below w7.heap.size w7 (w7.alloc (.cells (pyv (s.P i)) 62)) := (Below.refl _ _).alloc (Nat.le_refl _) _
   have hq8 : (w7.alloc (.cells (pyv (s.P i)) 62)).heap[w7.heap.size]? = some (.cells (pyv (s.P i)) 62 (0, 0)) := heap_alloc_new w7 _
   generalize w7.alloc (.cells (pyv (s.P i)) 62) = w8 at *
   have HG8 : Hid (DcS w w8 rb g s p (fun _ => (none, 0)) i 0 (stP (d4 l).2 (i + 1)) ∧ Zb (s.P i).lk) := ⟨HG7.out.1.keep hb8, HG7.out.2⟩
   clear hb8 HG7
   have S8 : w8.cell? ⟨g, 3, none⟩ = some (.slice p.pa i p.pc) := (five_of HG8.out.1.box).c3
   refine hK.out _ _ (fun _ => S8) (fun _ => ?_)
   clear hK K
   try simp only [Act.put, sqA, sqB, sqC]
   refine wpAnyK_ready (rs := [5]) (by kernel_rfl) (by simp) ?_
   refine (AllReadyK.cons (o := ⟨some 25, .call { callee := Go.Callee.builtin Go.Builtin.append, args := #[.tmp 21, .tmp 24], argTypes := #[30, 30] }, 30, _, _, none⟩) rfl (fun K hK => ?_) AllReadyK.nil)
   refine step_append_P rfl (.tmp 21) (.tmp 24) rfl (g + 1) w7.heap.size (.slice p.pa i p.pc) i (flatL (pf s.P) i) (s.P i) (by rfl) (by rfl) HG8.out.1.py HG8.out.1.big hq8 (by omega) ?_
   intro va vc w9 hown hgrow
   have hlo := grown_low HG8.out.1.py hgrow HG8.out.1.big
   have hx9 : w9.heap[g]? = some (.cells #[.int .i64 s.nu, .int .i64 s.a, .int .i64 s.b, .slice p.pa i p.pc, .slice p.ha 0 p.hc] 33 (0, 0)) := by rw [hlo _ (by omega)]; exact HG8.out.1.box
   have S9 : w9.cell? ⟨g, 3, none⟩ = some (.slice p.pa i p.pc) := (five_of hx9).c3
   have f9 : ∀ o, w9.frozen? ⟨g, o, none⟩ = false := fun o => frozen_of_row _ _ o _ _ hx9
   have HN : Hid (DcS w (w9.setCell ⟨g, 3, none⟩ (.slice va (i + 1) vc)) rb g s ⟨va, vc, p.ha, p.hc⟩ (fun _ => (none, 0)) (i + 1) 0 (stP (d4 l).2 (i + 1))) := HG8.out.1.pushP HG8.out.2 hown hgrow
   refine hK.out _ _ (fun _ => S9) (fun _ => ?_)
   clear hK K hown hgrow hlo hx9 hq8 HG8 S7 S8 S0
   try simp only [Act.put, sqA, sqB, sqC]
   refine wpAnyK_take (by kernel_rfl) (i := 6) (oi := ⟨some 26, .fieldAddr 33 (.tmp 5) 2, 0, _, _, none⟩) (v := ?_) rfl (by kernel_rfl) (by kernel_rfl) (by kernel_rfl) (fun _ _ _ h => h) (Or.inl ⟨by rfl, ?_⟩) (by assumption) ?_
   rotate_left
   ·intro wz hSw; (try dsimp only at hSw); go_simp; (try with_reducible rfl)
   try simp only [Act.put, sqA, sqB, sqC]
   refine wpAnyK_ready (rs := [7]) (by kernel_rfl) (by simp) ?_
   refine (AllReadyK.cons (o := ⟨none, .store 30 (.tmp 26) (.tmp 25), 0, _, _, none⟩) rfl (fun K hK => ?_) AllReadyK.nil)
   go_simp
   refine hK.out _ _ (fun h => absurd rfl h) (fun _ => ?_)
   clear hK K
   refine wpAnyK_done (by kernel_rfl) (NoPanic.normal ?_) _
   try simp only [Act.put, sqA, sqB, sqC]
   clear hHeld S9 f9
   go_wp2
   go_roundw
   case rel => exact ⟨i + 1, _, by omega, by go_num, HN.out⟩
   case measure => simp [intOf]; omega
  ·have hin : i = s.pn := by omega
   have hnn : ¬ ((i : Int) < s.pn) := by omega
   have HG2 : Hid (DcS w wr rb g s p (fun _ => (none, 0)) s.pn 0 (stP (d4 l).2 s.pn)) := by rw [← hin]; exact HG.out
   clear HG hin
   generalize wr = wo at *
   go_wp2_with fail
   have k6 := count_rs rb 8 (stP (d4 l).2 s.pn) wo HG2.out.rs (by decide)
   have e5 : cntS 8 (stP (d4 l).2 s.pn) = d5 l := by rw [← EN.out.1]; rfl
   have h50 := (cntS_bd (most := 8) HG2.out.rs.by (by decide)).1
   rw [e5] at k6 h50
   rw [show (d5 l).1 = (s.hn : Int) by have := EN.out.2; omega] at k6
   refine k6.mono ?_
   rintro e w10 ⟨rfl, hF10, h10⟩
   have h20 : DcS w w10 rb g s p (fun _ => (none, 0)) s.pn 0 (d5 l).2 := HG2.out.frm hF10 h10
   clear k6 e5 h50 HG2 hF10 h10
   go_wp2_with fail
   go_loopw [30] (fun iv wr => ∃ (j : Nat) (p : Pl) (A : Nat → Option Addr × Nat), j ≤ s.hn ∧ iv = .int .i64 j ∧ DcS w wr rb g s p A s.pn j (stH (d5 l).2 j)) (fun iv _ => s.hn + 1 - (intOf iv).toNat)
   case atStart => exact ⟨0, p, _, by omega, rfl, h20⟩
   case round =>
    clear h20
    obtain ⟨j, p', A, hj, rfl, hG⟩ := hrel
    have HG : Hid (DcS w wr rb g s p' A s.pn j (stH (d5 l).2 j)) := hG
    have hbig' := hG.big
    clear hG
    by_cases hlt : j < s.hn
    ·have hlt' : (j : Int) < s.hn := by omega
     have hGd : DcS w wr.drew rb g s p' A s.pn j (stH (d5 l).2 j) := HG.out.keep ((Below.refl _ wr).drew)
     have HGd : Hid (DcS w wr.drew rb g s p' A s.pn j (stH (d5 l).2 j)) := hGd
     obtain ⟨_, _, _, _, S0, _⟩ := five_of hGd.box
     obtain ⟨_, _, _, _, c4, _⟩ := five_of HG.out.box
     clear hGd
     go_wp2_with fail
     refine wp_region_noPanic ?_
     refine wp_region_K (S := fun w' => w'.cell? ⟨g, 4, none⟩ = some (.slice p'.ha j p'.hc)) 7 (by kernel_rfl) S0 (fun hHeld => ?_)
     clear HG c4
     generalize wr.drew = Wd at *
     refine wpAnyK_take (by kernel_rfl) (i := 0) (oi := ⟨some 32, .fieldAddr 33 (.tmp 5) 3, 0, _, _, none⟩) (v := ?_) rfl (by kernel_rfl) (by kernel_rfl) (by kernel_rfl) (fun _ _ _ h => h) (Or.inl ⟨by rfl, ?_⟩) (by assumption) ?_
     rotate_left
     ·intro wz hSw; (try dsimp only at hSw); go_simp; (try with_reducible rfl)
     try simp only [Act.put, sqA, sqB, sqC]
     refine wpAnyK_take (by kernel_rfl) (i := 1) (oi := ⟨some 33, .load 31 (.tmp 32), 31, _, _, none⟩) (v := ?_) rfl (by kernel_rfl) (by kernel_rfl) (by kernel_rfl) (fun _ _ _ h => h) (Or.inl ⟨by rfl, ?_⟩) (by assumption) ?_
     rotate_left
     ·intro wz hSw; (try dsimp only at hSw); go_simp; (try with_reducible rfl)
     try simp only [Act.put, sqA, sqB, sqC]
     refine wpAnyK_take (by kernel_rfl) (i := 2) (oi := ⟨some 34, .move (.tmp 4), 57, _, _, none⟩) (v := ?_) rfl (by kernel_rfl) (by kernel_rfl) (by kernel_rfl) (fun _ _ _ h => h) (Or.inl ⟨by rfl, ?_⟩) (by assumption) ?_
     rotate_left
     ·intro wz hSw; (try dsimp only at hSw); go_simp; (try with_reducible rfl)
     try simp only [Act.put, sqA, sqB, sqC]
     refine wpAnyK_ready (rs := [3]) (by kernel_rfl) (by simp) ?_
     refine (AllReadyK.cons (o := ⟨some 35, .call { callee := Go.Callee.value (.func 24), args := #[.tmp 34], argTypes := #[57] }, 64, _, _, none⟩) rfl (fun K hK => ?_) AllReadyK.nil)
     go_simp
     have kp := rdHold_any rb (stH (d5 l).2 j) Wd HGd.out.rs
     rw [ENu.out.2.2.2.2 j] at kp
     refine kp.mono ?_
     rintro e w7 ⟨ka, kc, rfl, hF7, h7, ho7⟩
     clear kp
     have HG7 : Hid (DcS w w7 rb g s p' A s.pn j (stH (d5 l).2 (j + 1)) ∧ w7.ownsRow (g + 1) 3 1 (.slice ka (s.H j).n kc) (s.H j).n (kL (s.H j))) := ⟨HGd.out.frm hF7 h7, own_low ho7 HGd.out.big⟩
     clear hF7 h7 ho7 HGd
     have S7 : w7.cell? ⟨g, 4, none⟩ = some (.slice p'.ha j p'.hc) := (five_of HG7.out.1.box).c4
     refine hK.out _ _ (fun _ => S7) (fun _ => ?_)
     clear hK K
     try simp only [Act.put, sqA, sqB, sqC]
     refine wpAnyK_ready (rs := [4]) (by kernel_rfl) (by simp) ?_
     refine (AllReadyK.cons (o := ⟨some 36, .buildSlice 31 1 #[(0, .tmp 35)], 31, _, _, none⟩) rfl (fun K hK => ?_) AllReadyK.nil)
     refine step_sliceH rfl (.tmp 35) rfl (s.H j) ka kc (by rfl) ?_
     have hb8 : Below w7.heap.size w7 (w7.alloc (.cells (hdv (s.H j) ka kc) 64)) := (Below.refl _ _).alloc (Nat.le_refl _) _
     have hq8 : (w7.alloc (.cells (hdv (s.H j) ka kc) 64)).heap[w7.heap.size]? = some (.cells (hdv (s.H j) ka kc) 64 (0, 0)) := heap_alloc_new w7 _
     generalize w7.alloc (.cells (hdv (s.H j) ka kc) 64) = w8 at *
     have HG8 : Hid (DcS w w8 rb g s p' A s.pn j (stH (d5 l).2 (j + 1)) ∧ w8.ownsRow (g + 1) 3 1 (.slice ka (s.H j).n kc) (s.H j).n (kL (s.H j))) := ⟨HG7.out.1.keep hb8, own_below HG7.out.2 hb8⟩
     clear hb8 HG7
     have S8 : w8.cell? ⟨g, 4, none⟩ = some (.slice p'.ha j p'.hc) := (five_of HG8.out.1.box).c4
     refine hK.out _ _ (fun _ => S8) (fun _ => ?_)
     clear hK K
     try simp only [Act.put, sqA, sqB, sqC]
     refine wpAnyK_ready (rs := [5]) (by kernel_rfl) (by simp) ?_
     refine (AllReadyK.cons (o := ⟨some 37, .call { callee := Go.Callee.builtin Go.Builtin.append, args := #[.tmp 33, .tmp 36], argTypes := #[31, 31] }, 31, _, _, none⟩) rfl (fun K hK => ?_) AllReadyK.nil)
     refine step_append_H rfl (.tmp 33) (.tmp 36) rfl (g + 1) w7.heap.size (.slice p'.ha j p'.hc) j (flatL (hf s.H A) j) (s.H j) ka kc (by rfl) (by rfl) HG8.out.1.hd HG8.out.1.big hq8 (by omega) ?_
     intro va vc w9 hown hgrow
     have hlo := grown_low HG8.out.1.hd hgrow HG8.out.1.big
     have hx9 : w9.heap[g]? = some (.cells #[.int .i64 s.nu, .int .i64 s.a, .int .i64 s.b, .slice p'.pa s.pn p'.pc, .slice p'.ha j p'.hc] 33 (0, 0)) := by rw [hlo _ (by omega)]; exact HG8.out.1.box
     have S9 : w9.cell? ⟨g, 4, none⟩ = some (.slice p'.ha j p'.hc) := (five_of hx9).c4
     have f9 : ∀ o, w9.frozen? ⟨g, o, none⟩ = false := fun o => frozen_of_row _ _ o _ _ hx9
     have HN : Hid (DcS w (w9.setCell ⟨g, 4, none⟩ (.slice va (j + 1) vc)) rb g s ⟨p'.pa, p'.pc, va, vc⟩ (fun k => if k = j then (ka, kc) else A k) s.pn (j + 1) (stH (d5 l).2 (j + 1))) := HG8.out.1.pushH HG8.out.2 hown hgrow
     refine hK.out _ _ (fun _ => S9) (fun _ => ?_)
     clear hK K hown hgrow hlo hx9 hq8 HG8 S7 S8 S0
     try simp only [Act.put, sqA, sqB, sqC]
     refine wpAnyK_take (by kernel_rfl) (i := 6) (oi := ⟨some 38, .fieldAddr 33 (.tmp 5) 3, 0, _, _, none⟩) (v := ?_) rfl (by kernel_rfl) (by kernel_rfl) (by kernel_rfl) (fun _ _ _ h => h) (Or.inl ⟨by rfl, ?_⟩) (by assumption) ?_
     rotate_left
     ·intro wz hSw; (try dsimp only at hSw); go_simp; (try with_reducible rfl)
     try simp only [Act.put, sqA, sqB, sqC]
     refine wpAnyK_ready (rs := [7]) (by kernel_rfl) (by simp) ?_
     refine (AllReadyK.cons (o := ⟨none, .store 31 (.tmp 38) (.tmp 37), 0, _, _, none⟩) rfl (fun K hK => ?_) AllReadyK.nil)
     go_simp
     refine hK.out _ _ (fun h => absurd rfl h) (fun _ => ?_)
     clear hK K
     refine wpAnyK_done (by kernel_rfl) (NoPanic.normal ?_) _
     try simp only [Act.put, sqA, sqB, sqC]
     clear hHeld S9 f9
     go_wp2
     go_roundw
     case rel => exact ⟨j + 1, _, _, by omega, by go_num, HN.out⟩
     case measure => simp [intOf]; omega
    ·have hin : j = s.hn := by omega
     have hnn' : ¬ ((j : Int) < s.hn) := by omega
     have hqe : stH (d5 l).2 s.hn = decQ l := by rw [← EN.out.2]; rfl
     have HG2 : Hid (DcS w wr rb g s p' A s.pn s.hn (decQ l)) := by rw [← hqe, ← hin]; exact HG.out
     clear HG hin hqe
     go_wp2_with fail
     refine (done_rs rb (decQ l) wr HG2.out.rs).mono ?_
     rintro e w11 ⟨⟨x, rfl, hx⟩, hW⟩
     rw [hW]
     clear hW
     obtain ⟨y0, y1, y2, y3, y4, yf⟩ := five_of HG2.out.res
     obtain ⟨x0, x1, x2, x3, x4, xf⟩ := five_of HG2.out.box
     have HSA : Hid (SvAt wr s p') := SvOw.at (B := g + 1) (A := A) ⟨HG2.out.lk, HG2.out.py, HG2.out.hd, HG2.out.ks⟩
     have HRS : Hid (wr.heap[w.heap.size]? = some (.cells #[.int .i64 0, .int .i64 0, .int .i64 0, .slice none 0 0, .slice none 0 0] 33 (0, 0)) ∧ Below w.heap.size w wr ∧ wr.heap[g]? = some (.cells #[.int .i64 s.nu, .int .i64 s.a, .int .i64 s.b, .slice p'.pa s.pn p'.pc, .slice p'.ha s.hn p'.hc] 33 (0, 0))) := ⟨HG2.out.res, HG2.out.below, HG2.out.box⟩
     by_cases hq : decQ l = some []
     ·have hx0 : x = 0 := hx.1 hq
      subst hx0
      have he0 := errV_0
      clear hx
      go_wp2_with fail
      have kc := check_any s p' wr HSA.out HSM.out
      unfold svv at kc
      by_cases hok : SOk s
      ·have hc0 : chkE s = 0 := if_pos hok
       rw [hc0, errV_0] at kc
       have HT : Hid (decT l = s ∧ decE l = 0) := by
        have hd : decOk l := ⟨hq, by rw [HE.out]; exact hok⟩
        exact ⟨by rw [decT, if_pos hd, HE.out], by rw [decE, if_pos hd]⟩
       refine kc.mono ?_
       rintro e w12 ⟨rfl, hb12⟩
       have hr12 : w12.heap[w.heap.size]? = some (.cells #[.int .i64 0, .int .i64 0, .int .i64 0, .slice none 0 0, .slice none 0 0] 33 (0, 0)) := by rw [hb12.block _ (lt_of_block HRS.out.1)]; exact HRS.out.1
       have hg12 : w12.heap[g]? = some (.cells #[.int .i64 s.nu, .int .i64 s.a, .int .i64 s.b, .slice p'.pa s.pn p'.pc, .slice p'.ha s.hn p'.hc] 33 (0, 0)) := by rw [hb12.block _ (lt_of_block HRS.out.2.2)]; exact HRS.out.2.2
       have HRZ : Hid (w12.heap[w.heap.size]? = some (.cells #[.int .i64 0, .int .i64 0, .int .i64 0, .slice none 0 0, .slice none 0 0] 33 (0, 0)) ∧ Below w.heap.size w w12 ∧ SvOw (g + 1) w12 s p' A) := ⟨hr12, HRS.out.2.1.trans (hb12.mono HRS.out.2.1.size), (⟨HG2.out.lk, HG2.out.py, HG2.out.hd, HG2.out.ks⟩ : SvOw (g + 1) wr s p' A).below hb12⟩
       clear y0 y1 y2 y3 y4 yf x0 x1 x2 x3 x4 xf kc hc0 hb12 HRS HSA hq hok he0
       obtain ⟨y0, y1, y2, y3, y4, yf⟩ := five_of hr12
       obtain ⟨x0, x1, x2, x3, x4, xf⟩ := five_of hg12
       clear hr12 hg12
       go_wp2
       have hw2 := HRZ.out.1
       refine bodyPost_ret (results_S2 Tryz.results6 _ _ w.heap.size 33 _ _ _ _ _ (0, 0) rfl (five_all hw2)) rfl ⟨p', ?_, ?_, five_below HRZ.out.2.1 (Nat.le_refl _)⟩
       ·rw [HT.out.1, HT.out.2]; rfl
       ·rw [HT.out.1]
        exact (HRZ.out.2.2.frm fun k h1 h2 => five_other (by omega)).at
      ·have hc1 : chkE s = 1 := if_neg hok
       rw [hc1] at kc
       have he1 : errV 1 = .iface 67 (.int .i64 1) := rfl
       have HT : Hid (decT l = sv0 ∧ decE l = 3) := by
        have hd : ¬ decOk l := fun h => hok (by rw [← HE.out]; exact h.2)
        exact ⟨by rw [decT, if_neg hd], by rw [decE, if_neg hd]⟩
       rw [he1] at kc
       refine kc.mono ?_
       rintro e w12 ⟨rfl, hb12⟩
       have hr12 : w12.heap[w.heap.size]? = some (.cells #[.int .i64 0, .int .i64 0, .int .i64 0, .slice none 0 0, .slice none 0 0] 33 (0, 0)) := by rw [hb12.block _ (lt_of_block HRS.out.1)]; exact HRS.out.1
       have HRZ : Hid (w12.heap[w.heap.size]? = some (.cells #[.int .i64 0, .int .i64 0, .int .i64 0, .slice none 0 0, .slice none 0 0] 33 (0, 0)) ∧ Below w.heap.size w w12) := ⟨hr12, HRS.out.2.1.trans (hb12.mono HRS.out.2.1.size)⟩
       clear y0 y1 y2 y3 y4 yf x0 x1 x2 x3 x4 xf kc hc1 hb12 HRS HSA hq hok he0 he1
       obtain ⟨y0, y1, y2, y3, y4, yf⟩ := five_of hr12
       clear hr12
       go_wp2
       have hw2 := HRZ.out.1
       refine bodyPost_ret (results_S2 Tryz.results6 _ _ w.heap.size 33 _ _ _ _ _ (0, 0) rfl (five_all hw2)) rfl ⟨pl0, ?_, ?_, five_below HRZ.out.2 (Nat.le_refl _)⟩
       ·rw [HT.out.1, HT.out.2]; rfl
       ·rw [HT.out.1]; exact sv0_at _
     ·have hx1 : x ≠ 0 := fun h => hq (hx.2 h)
      rw [errV_ne hx1]
      have HT : Hid (decT l = sv0 ∧ decE l = 3) := by
       have hd : ¬ decOk l := fun h => hq h.1
       exact ⟨by rw [decT, if_neg hd], by rw [decE, if_neg hd]⟩
      have HRZ : Hid (wr.heap[w.heap.size]? = some (.cells #[.int .i64 0, .int .i64 0, .int .i64 0, .slice none 0 0, .slice none 0 0] 33 (0, 0)) ∧ Below w.heap.size w wr) := ⟨HRS.out.1, HRS.out.2.1⟩
      clear hx hq hx1 HRS HSA x0 x1 x2 x3 x4 xf
      go_wp2
      have hw2 := HRZ.out.1
      refine bodyPost_ret (results_S2 Tryz.results6 _ _ w.heap.size 33 _ _ _ _ _ (0, 0) rfl (five_all hw2)) rfl ⟨pl0, ?_, ?_, five_below HRZ.out.2 (Nat.le_refl _)⟩
      ·rw [HT.out.1, HT.out.2]; rfl
      ·rw [HT.out.1]; exact sv0_at _
end Go.Proofs.YthmmmkldmhjogaaGreatDoor
/- The document's number: so many bytes behind the first one. -/
namespace Go.Proofs.YthmmmkldmhjogaaGreatDoor
open Go.RowKit

set_option maxHeartbeats 400000 in
theorem refnum_short (ad : Option Addr) (n cap k : Nat) (t : Bool) (w : World) (h : n < 1 + k) (_hk8 : k ≤ 8) :
  Calls Tryz.prog 79 #[.slice ad n cap, .int .i64 k, .bool t] w fun e w' => e = .returned (.tuple #[.int .u64 0, .int .i64 12]) ∧ w' = w := by
 go_enter Tryz.func79, Tryz.ntmps79
 go_wp2
 go_ret2
 exact ⟨rfl, rfl⟩

set_option maxHeartbeats 400000 in
theorem refnum_more_false (b off n cap k : Nat) (z : Nat → Int) (w : World) (hk : k < n) (hk8 : k ≤ 8) (_hlc : n ≤ cap) (_hn : n ≤ 140737488351232) (h0 : 0 < k → behind false z 0 ≠ 0)
  (hz : ∀ j, j < n → 0 ≤ z j ∧ z j ≤ 255) (hc : ∀ j, j < n → w.cell? ⟨b, off + j, none⟩ = some (.int .u8 (z j))) :
  Calls Tryz.prog 79 #[.slice (some ⟨b, off, none⟩) n cap, .int .i64 k, .bool false] w fun e w' => e = .returned (.tuple #[.int .u64 (valF (behind false z) k), .int .i64 0]) ∧ w' = w := by
 have H0 : Hid (0 < k → behind false z 0 ≠ 0) := h0
 clear h0
 go_enter Tryz.func79, Tryz.ntmps79
 go_wp2
 go_loop [8, 9] (fun m i => ∃ q : Nat, q ≤ k ∧ i = .int .i64 (q + 1) ∧ m = .int .u64 (valF (behind false z) q)) (fun _ i => k + 1 - (intOf i).toNat)
 case atStart => exact ⟨0, Nat.zero_le _, rfl, rfl⟩
 case round =>
  obtain ⟨q, hq, rfl, rfl⟩ := hrel
  by_cases hlt : q < k
  ·have hcq := hc (q + 1) (by omega)
   have hzq := hz (q + 1) (by omega)
   have hb := valF_lt7 (f := behind false z) (k := q) (by omega) (fun j hj => trn_bd (hz _ (by omega)))
   have hb2 := valF_lt (f := behind false z) (k := q + 1) (by omega) (fun j hj => trn_bd (hz _ (by omega)))
   have HS : Hid (256 * valF (behind false z) q + (z (q + 1)) = valF (behind false z) (q + 1)) := rfl
   have hb3 : 256 * valF (behind false z) q + (z (q + 1)) ≤ 18446744073709551615 := by rw [HS.out]; exact hb2.2
   clear hb2
   by_cases hq0 : q = 0
   ·subst hq0
    have hx : ((z (0 + 1)) == 0) = false := by
     have := H0.out (by omega)
     simp [behind, trn] at this
     simpa using this
    simp only [Nat.zero_add] at *
    go_wp2
    go_round
    case rel => exact ⟨1, by omega, rfl, rfl⟩
    case measure => simp [intOf]; omega
   ·have hq1 : (((q : Int) + 1) == 1) = false := by simp; omega
    go_wp2
    go_round
    case rel => exact ⟨q + 1, by omega, by go_num, by rw [HS.out]⟩
    case measure => simp [intOf]; omega
  ·have : q = k := by omega
   subst this
   go_wp2
   go_ret2
   exact ⟨rfl, rfl⟩

set_option maxHeartbeats 400000 in
theorem refnum_more_true (b off n cap k : Nat) (z : Nat → Int) (w : World) (hk : k < n) (hk8 : k ≤ 8) (_hlc : n ≤ cap) (_hn : n ≤ 140737488351232) (h0 : 0 < k → behind true z 0 ≠ 0)
  (hz : ∀ j, j < n → 0 ≤ z j ∧ z j ≤ 255) (hc : ∀ j, j < n → w.cell? ⟨b, off + j, none⟩ = some (.int .u8 (z j))) :
  Calls Tryz.prog 79 #[.slice (some ⟨b, off, none⟩) n cap, .int .i64 k, .bool true] w fun e w' => e = .returned (.tuple #[.int .u64 (valF (behind true z) k), .int .i64 0]) ∧ w' = w := by
 have H0 : Hid (0 < k → behind true z 0 ≠ 0) := h0
 clear h0
 go_enter Tryz.func79, Tryz.ntmps79
 go_wp2
 go_loop [8, 9] (fun m i => ∃ q : Nat, q ≤ k ∧ i = .int .i64 (q + 1) ∧ m = .int .u64 (valF (behind true z) q)) (fun _ i => k + 1 - (intOf i).toNat)
 case atStart => exact ⟨0, Nat.zero_le _, rfl, rfl⟩
 case round =>
  obtain ⟨q, hq, rfl, rfl⟩ := hrel
  by_cases hlt : q < k
  ·have hcq := hc (q + 1) (by omega)
   have hzq := hz (q + 1) (by omega)
   have hb := valF_lt7 (f := behind true z) (k := q) (by omega) (fun j hj => trn_bd (hz _ (by omega)))
   have hb2 := valF_lt (f := behind true z) (k := q + 1) (by omega) (fun j hj => trn_bd (hz _ (by omega)))
   have HS : Hid (256 * valF (behind true z) q + (255 - z (q + 1)) = valF (behind true z) (q + 1)) := rfl
   have hb3 : 256 * valF (behind true z) q + (255 - z (q + 1)) ≤ 18446744073709551615 := by rw [HS.out]; exact hb2.2
   clear hb2
   by_cases hq0 : q = 0
   ·subst hq0
    have hx : ((255 - z (0 + 1)) == 0) = false := by
     have := H0.out (by omega)
     simp [behind, trn] at this
     simpa using this
    simp only [Nat.zero_add] at *
    go_wp2
    go_round
    case rel => exact ⟨1, by omega, rfl, rfl⟩
    case measure => simp [intOf]; omega
   ·have hq1 : (((q : Int) + 1) == 1) = false := by simp; omega
    go_wp2
    go_round
    case rel => exact ⟨q + 1, by omega, by go_num, by rw [HS.out]⟩
    case measure => simp [intOf]; omega
  ·have : q = k := by omega
   subst this
   go_wp2
   go_ret2
   exact ⟨rfl, rfl⟩


set_option maxHeartbeats 400000 in
theorem refnum_form_false (b off n cap k : Nat) (z : Nat → Int) (w : World) (hk : k < n) (hk8 : k ≤ 8) (_hlc : n ≤ cap) (_hn : n ≤ 140737488351232) (hk0 : 0 < k) (hx : ((z 1) == 0) = true) (_hz1 : 0 ≤ z 1 ∧ z 1 ≤ 255)
  (hc : w.cell? ⟨b, off + 1, none⟩ = some (.int .u8 (z 1))) :
  Calls Tryz.prog 79 #[.slice (some ⟨b, off, none⟩) n cap, .int .i64 k, .bool false] w fun e w' => e = .returned (.tuple #[.int .u64 0, .int .i64 3]) ∧ w' = w := by
 go_enter Tryz.func79, Tryz.ntmps79
 go_wp2
 refine wp_loop_rounds 1 ?_
 rw [rounds_succ]
 go_wp2
 go_ret2
 exact ⟨rfl, rfl⟩

set_option maxHeartbeats 400000 in
theorem refnum_form_true (b off n cap k : Nat) (z : Nat → Int) (w : World) (hk : k < n) (hk8 : k ≤ 8) (_hlc : n ≤ cap) (_hn : n ≤ 140737488351232) (hk0 : 0 < k) (hx : ((255 - z 1) == 0) = true) (_hz1 : 0 ≤ z 1 ∧ z 1 ≤ 255)
  (hc : w.cell? ⟨b, off + 1, none⟩ = some (.int .u8 (z 1))) :
  Calls Tryz.prog 79 #[.slice (some ⟨b, off, none⟩) n cap, .int .i64 k, .bool true] w fun e w' => e = .returned (.tuple #[.int .u64 0, .int .i64 3]) ∧ w' = w := by
 go_enter Tryz.func79, Tryz.ntmps79
 go_wp2
 refine wp_loop_rounds 1 ?_
 rw [rounds_succ]
 go_wp2
 go_ret2
 exact ⟨rfl, rfl⟩

theorem refnum_any (b off n cap : Nat) (k : Int) (t : Bool) (z : Nat → Int) (w : World) (hn0 : 0 < n) (h0 : 0 ≤ k) (h8 : k ≤ 8) (hlc : n ≤ cap) (hn : n ≤ 140737488351232)
  (hz : ∀ j, j < n → 0 ≤ z j ∧ z j ≤ 255) (hc : ∀ j, j < n → w.cell? ⟨b, off + j, none⟩ = some (.int .u8 (z j))) :
  Calls Tryz.prog 79 #[.slice (some ⟨b, off, none⟩) n cap, .int .i64 k, .bool t] w fun e w' =>
   e = .returned (.tuple #[.int .u64 (numV (n - 1) (behind t z) k.toNat), .int .i64 (numE (n - 1) (behind t z) k.toNat)]) ∧ w' = w := by
 obtain ⟨q, rfl⟩ := Int.eq_ofNat_of_zero_le h0
 rw [Int.toNat_natCast]
 by_cases h1 : n - 1 < q
 ·have e : numE (n - 1) (behind t z) q = 12 := by simp [numE, h1]
  rw [numV, e, if_neg (by decide)]
  exact refnum_short _ n cap q t w (by omega) (by omega)
 ·by_cases h2 : 0 < q ∧ behind t z 0 = 0
  ·have e : numE (n - 1) (behind t z) q = 3 := by simp [numE, h1, h2]
   rw [numV, e, if_neg (by decide)]
   have hb := h2.2
   cases t
   ·exact refnum_form_false b off n cap q z w (by omega) (by omega) hlc hn h2.1 (by simpa [behind, trn] using hb) (hz 1 (by omega)) (hc 1 (by omega))
   ·exact refnum_form_true b off n cap q z w (by omega) (by omega) hlc hn h2.1 (by simpa [behind, trn] using hb) (hz 1 (by omega)) (hc 1 (by omega))
  ·have e : numE (n - 1) (behind t z) q = 0 := by simp only [numE]; rw [if_neg h1, if_neg h2]
   rw [numV, e, if_pos rfl]
   cases t
   ·exact refnum_more_false b off n cap q z w (by omega) (by omega) hlc hn (fun h e => h2 ⟨h, e⟩) hz hc
   ·exact refnum_more_true b off n cap q z w (by omega) (by omega) hlc hn (fun h e => h2 ⟨h, e⟩) hz hc
end Go.Proofs.YthmmmkldmhjogaaGreatDoor
/- The document's readers: ReadUint and ReadInt. -/
namespace Go.Proofs.YthmmmkldmhjogaaGreatDoor
open Go.RowKit

/-- What a document's reader answers that has taken k bytes off. -/
def RefTook (w : World) (ad : Option Addr) (n cap k : Nat) (v : Value) (e : Ending) (w' : World) : Prop :=
 ∃ ad', (ad' = ad ∧ cap = k ∨ ad' = Option.map (fun x => x.add k) ad) ∧ e = .returned (.tuple #[.agg #[.slice ad' (n - k) (cap - k), .int .i64 0], v]) ∧ Below w.heap.size w w'
theorem RefTook.all {w w' : World} {ad : Option Addr} {n k : Nat} {v : Value} (h : Below w.heap.size w w') : RefTook w ad n k k v (.returned (.tuple #[.agg #[.slice ad (n - k) 0, .int .i64 0], v])) w' := ⟨ad, .inl ⟨rfl, rfl⟩, by simp, h⟩
theorem RefTook.part {w w' : World} {b off n cap k : Nat} {v : Value} (h : Below w.heap.size w w') : RefTook w (some ⟨b, off, none⟩) n cap k v (.returned (.tuple #[.agg #[.slice (some ⟨b, off + k, none⟩) (n - k) (cap - k), .int .i64 0], v])) w' := ⟨_, .inr rfl, by simp [Addr.add_lit], h⟩

set_option maxHeartbeats 400000 in
theorem fail_0 (a : Option Addr) (n c : Nat) (e : Int) (w : World) :
  Calls Tryz.prog 58 #[.agg #[.slice a n c, .int .i64 0], .int .i64 e] w fun ev w' => ev = .returned (.agg #[.slice a n c, .int .i64 e]) ∧ w' = (w.alloc (.cells #[.slice a n c, .int .i64 e] 69)).alloc (.cells #[.slice a n c, .int .i64 e] 69) := by
 go_enter Tryz.func58, Tryz.ntmps58
 go_wp2
 exact bodyPost_ret (v := .agg #[.slice a n c, .int .i64 e]) (by simp [results, Tryz.results58, go_sem]) rfl ⟨rfl, rfl⟩

set_option maxHeartbeats 400000 in
theorem refUint_nil (ad : Option Addr) (cap : Nat) (most : Int) (w : World) :
  Calls Tryz.prog 57 #[.agg #[.slice ad 0 cap, .int .i64 0], .int .u64 most] w fun e w' =>
   e = .returned (.tuple #[.agg #[.slice ad 0 cap, .int .i64 12], .int .u64 0]) ∧ Below w.heap.size w w' := by
 go_enter Tryz.func57, Tryz.ntmps57
 go_wp2_with (go_at_call 58; refine (fail_0 _ _ _ _ _).mono ?_; rintro e w1 ⟨rfl, rfl⟩)
 refine bodyPost_ret (v := .tuple #[.agg #[.slice ad 0 cap, .int .i64 12], .int .u64 0]) (by simp [results, Tryz.results57, go_sem]) rfl ⟨rfl, (by repeat (first | exact Below.refl _ _ | refine Below.alloc ?_ (by simp; try omega) _ | refine Below.setCell ?_ (by simp) _ | refine Go.below_drewN ?_ _ | refine Below.drew ?_))⟩

set_option maxHeartbeats 400000 in
theorem refUint_wide (b off n cap : Nat) (most : Int) (z : Nat → Int) (w : World) (hn : 0 < n) (hc : w.cell? ⟨b, off, none⟩ = some (.int .u8 (z 0))) (h8 : 8 < z 0) :
  Calls Tryz.prog 57 #[.agg #[.slice (some ⟨b, off, none⟩) n cap, .int .i64 0], .int .u64 most] w fun e w' =>
   e = .returned (.tuple #[.agg #[.slice (some ⟨b, off, none⟩) n cap, .int .i64 3], .int .u64 0]) ∧ Below w.heap.size w w' := by
 have hlt : b < w.heap.size := World.block_lt_of_cell? w _ hc
 go_enter Tryz.func57, Tryz.ntmps57
 go_wp2_with (go_at_call 58; refine (fail_0 _ _ _ _ _).mono ?_; rintro e w1 ⟨rfl, rfl⟩)
 refine bodyPost_ret (v := .tuple #[.agg #[.slice (some ⟨b, off, none⟩) n cap, .int .i64 3], .int .u64 0]) (by simp [results, Tryz.results57, go_sem]) rfl ⟨rfl, (by repeat (first | exact Below.refl _ _ | refine Below.alloc ?_ (by simp; try omega) _ | refine Below.setCell ?_ (by simp) _ | refine Go.below_drewN ?_ _ | refine Below.drew ?_))⟩

set_option maxHeartbeats 400000 in
theorem refUint_err (b off n cap : Nat) (most : Int) (z : Nat → Int) (er : Int) (w : World) (hn : 0 < n) (hlc : n ≤ cap) (hnm : n ≤ 140737488351232) (hz : ∀ j, j < n → 0 ≤ z j ∧ z j ≤ 255) (hc : ∀ j, j < n → w.cell? ⟨b, off + j, none⟩ = some (.int .u8 (z j))) (h8 : z 0 ≤ 8)
  (hE : numE (n - 1) (behind false z) (z 0).toNat = er) (he : (er == 0) = false) :
  Calls Tryz.prog 57 #[.agg #[.slice (some ⟨b, off, none⟩) n cap, .int .i64 0], .int .u64 most] w fun e w' =>
   e = .returned (.tuple #[.agg #[.slice (some ⟨b, off, none⟩) n cap, .int .i64 er], .int .u64 0]) ∧ Below w.heap.size w w' := by
 have c0 : w.cell? ⟨b, off, none⟩ = some (.int .u8 (z 0)) := by simpa using hc 0 hn
 have hlt : b < w.heap.size := World.block_lt_of_cell? w _ c0
 have hz0 := hz 0 hn
 have hc2 : ∀ wx : World, Below w.heap.size w wx → ∀ j, j < n → wx.cell? ⟨b, off + j, none⟩ = some (.int .u8 (z j)) := fun wx hb j hj => by rw [hb.cell (p := ⟨b, off + j, none⟩) hlt]; exact hc j hj
 have HC : Hid (∀ wx : World, Below w.heap.size w wx → ∀ j, j < n → wx.cell? ⟨b, off + j, none⟩ = some (.int .u8 (z j))) := hc2
 have HZ : Hid (∀ j, j < n → 0 ≤ z j ∧ z j ≤ 255) := hz
 clear hc hc2 hz
 have hn1 : (1 : Int) ≤ (n : Int) := by omega
 go_enter Tryz.func57, Tryz.ntmps57
 go_wp2_with fail
 go_quiet ((go_at_call 79; exact Calls.quiet_of_same (refnum_any b off n cap (z 0) false z _ hn hz0.1 h8 hlc hnm HZ.out (HC.out _ (by repeat (first | exact Below.refl _ _ | refine Below.alloc ?_ (by simp; try omega) _ | refine Below.setCell ?_ (by simp) _ | refine Go.below_drewN ?_ _ | refine Below.drew ?_))))))
 go_wp2_with (go_at_call 58; refine (fail_0 _ _ _ _ _).mono ?_; rintro e w1 ⟨rfl, rfl⟩)
 refine bodyPost_ret (v := .tuple #[.agg #[.slice (some ⟨b, off, none⟩) n cap, .int .i64 er], .int .u64 0]) (by simp [results, Tryz.results57, go_sem]) rfl ⟨rfl, (by repeat (first | exact Below.refl _ _ | refine Below.alloc ?_ (by simp; try omega) _ | refine Below.setCell ?_ (by simp) _ | refine Go.below_drewN ?_ _ | refine Below.drew ?_))⟩

set_option maxHeartbeats 400000 in
theorem refUint_range (b off n cap : Nat) (most : Int) (z : Nat → Int) (w : World) (hn : 0 < n) (hlc : n ≤ cap) (hnm : n ≤ 140737488351232) (hz : ∀ j, j < n → 0 ≤ z j ∧ z j ≤ 255) (hc : ∀ j, j < n → w.cell? ⟨b, off + j, none⟩ = some (.int .u8 (z j))) (h8 : z 0 ≤ 8)
  (hE : numE (n - 1) (behind false z) (z 0).toNat = 0) (hm : most < numV (n - 1) (behind false z) (z 0).toNat) :
  Calls Tryz.prog 57 #[.agg #[.slice (some ⟨b, off, none⟩) n cap, .int .i64 0], .int .u64 most] w fun e w' =>
   e = .returned (.tuple #[.agg #[.slice (some ⟨b, off, none⟩) n cap, .int .i64 4], .int .u64 0]) ∧ Below w.heap.size w w' := by
 have c0 : w.cell? ⟨b, off, none⟩ = some (.int .u8 (z 0)) := by simpa using hc 0 hn
 have hlt : b < w.heap.size := World.block_lt_of_cell? w _ c0
 have hz0 := hz 0 hn
 have hc2 : ∀ wx : World, Below w.heap.size w wx → ∀ j, j < n → wx.cell? ⟨b, off + j, none⟩ = some (.int .u8 (z j)) := fun wx hb j hj => by rw [hb.cell (p := ⟨b, off + j, none⟩) hlt]; exact hc j hj
 have HC : Hid (∀ wx : World, Below w.heap.size w wx → ∀ j, j < n → wx.cell? ⟨b, off + j, none⟩ = some (.int .u8 (z j))) := hc2
 have HZ : Hid (∀ j, j < n → 0 ≤ z j ∧ z j ≤ 255) := hz
 clear hc hc2 hz
 have hn1 : (1 : Int) ≤ (n : Int) := by omega
 go_enter Tryz.func57, Tryz.ntmps57
 go_wp2_with fail
 go_quiet ((go_at_call 79; exact Calls.quiet_of_same (refnum_any b off n cap (z 0) false z _ hn hz0.1 h8 hlc hnm HZ.out (HC.out _ (by repeat (first | exact Below.refl _ _ | refine Below.alloc ?_ (by simp; try omega) _ | refine Below.setCell ?_ (by simp) _ | refine Go.below_drewN ?_ _ | refine Below.drew ?_))))))
 go_wp2_with (go_at_call 58; refine (fail_0 _ _ _ _ _).mono ?_; rintro e w1 ⟨rfl, rfl⟩)
 refine bodyPost_ret (v := .tuple #[.agg #[.slice (some ⟨b, off, none⟩) n cap, .int .i64 4], .int .u64 0]) (by simp [results, Tryz.results57, go_sem]) rfl ⟨rfl, (by repeat (first | exact Below.refl _ _ | refine Below.alloc ?_ (by simp; try omega) _ | refine Below.setCell ?_ (by simp) _ | refine Go.below_drewN ?_ _ | refine Below.drew ?_))⟩

set_option maxHeartbeats 400000 in
theorem refUint_ok (b off n cap : Nat) (most : Int) (z : Nat → Int) (w : World) (hn : 0 < n) (hlc : n ≤ cap) (hnm : n ≤ 140737488351232) (hz : ∀ j, j < n → 0 ≤ z j ∧ z j ≤ 255) (hc : ∀ j, j < n → w.cell? ⟨b, off + j, none⟩ = some (.int .u8 (z j))) (h8 : z 0 ≤ 8)
  (hE : numE (n - 1) (behind false z) (z 0).toNat = 0) (hm : ¬ most < numV (n - 1) (behind false z) (z 0).toNat) (hkn : 1 + z 0 ≤ n) :
  Calls Tryz.prog 57 #[.agg #[.slice (some ⟨b, off, none⟩) n cap, .int .i64 0], .int .u64 most] w fun e w' =>
   RefTook w (some ⟨b, off, none⟩) n cap (1 + z 0).toNat (.int .u64 (numV (n - 1) (behind false z) (z 0).toNat)) e w' := by
 have c0 : w.cell? ⟨b, off, none⟩ = some (.int .u8 (z 0)) := by simpa using hc 0 hn
 have hlt : b < w.heap.size := World.block_lt_of_cell? w _ c0
 have hz0 := hz 0 hn
 have hc2 : ∀ wx : World, Below w.heap.size w wx → ∀ j, j < n → wx.cell? ⟨b, off + j, none⟩ = some (.int .u8 (z j)) := fun wx hb j hj => by rw [hb.cell (p := ⟨b, off + j, none⟩) hlt]; exact hc j hj
 have HC : Hid (∀ wx : World, Below w.heap.size w wx → ∀ j, j < n → wx.cell? ⟨b, off + j, none⟩ = some (.int .u8 (z j))) := hc2
 have HZ : Hid (∀ j, j < n → 0 ≤ z j ∧ z j ≤ 255) := hz
 clear hc hc2 hz
 have hn1 : (1 : Int) ≤ (n : Int) := by omega
 go_enter Tryz.func57, Tryz.ntmps57
 go_wp2_with fail
 go_quiet ((go_at_call 79; exact Calls.quiet_of_same (refnum_any b off n cap (z 0) false z _ hn hz0.1 h8 hlc hnm HZ.out (HC.out _ (by repeat (first | exact Below.refl _ _ | refine Below.alloc ?_ (by simp; try omega) _ | refine Below.setCell ?_ (by simp) _ | refine Go.below_drewN ?_ _ | refine Below.drew ?_))))))
 go_wp2
 have hk0 : (0 : Int) ≤ 1 + z 0 := by omega
 have hlc1 : (n : Int) ≤ (cap : Int) := by omega
 go_region
 all_goals go_wp2
 ·subst h
  exact bodyPost_ret (v := .tuple #[.agg #[.slice (some ⟨b, off, none⟩) (n - (1 + z 0).toNat) 0, .int .i64 0], .int .u64 (numV (n - 1) (behind false z) (z 0).toNat)]) (by simp [results, Tryz.results57, go_sem]) rfl (RefTook.all (by repeat (first | exact Below.refl _ _ | refine Below.alloc ?_ (by simp; try omega) _ | refine Below.setCell ?_ (by simp) _ | refine Go.below_drewN ?_ _ | refine Below.drew ?_)))
 ·exact bodyPost_ret (v := .tuple #[.agg #[.slice (some ⟨b, off + (1 + z 0).toNat, none⟩) (n - (1 + z 0).toNat) (cap - (1 + z 0).toNat), .int .i64 0], .int .u64 (numV (n - 1) (behind false z) (z 0).toNat)]) (by simp [results, Tryz.results57, go_sem]) rfl (RefTook.part (by repeat (first | exact Below.refl _ _ | refine Below.alloc ?_ (by simp; try omega) _ | refine Below.setCell ?_ (by simp) _ | refine Go.below_drewN ?_ _ | refine Below.drew ?_)))
end Go.Proofs.YthmmmkldmhjogaaGreatDoor
/- The document's reader ReadInt. -/
namespace Go.Proofs.YthmmmkldmhjogaaGreatDoor
open Go.RowKit

/-- What a document's reader answers: the reader behind, its error, the value. -/
def RefPost (w : World) (ad0 : Option Addr) (n : Nat) (z : Nat → Int) (k : Nat) (er : Int) (v : Value) (e : Ending) (w' : World) : Prop :=
 ∃ ad cap, e = .returned (.tuple #[.agg #[.slice ad (n - k) cap, .int .i64 er], v]) ∧ n - k ≤ cap ∧ SlAt w ad (n - k) (fun j => z (j + k)) ∧ Below w.heap.size w w' ∧ ∀ b off, 0 < n - k → ad = some ⟨b, off, none⟩ → ∃ off0, ad0 = some ⟨b, off0, none⟩

theorem RefTook.post {w w' : World} {b off n cap k : Nat} {z : Nat → Int} {v : Value} {e : Ending} (h : RefTook w (some ⟨b, off, none⟩) n cap k v e w') (hlc : n ≤ cap) (hkn : k ≤ n) (hs : SlAt w (some ⟨b, off, none⟩) n z) : RefPost w (some ⟨b, off, none⟩) n z k 0 v e w' := by
 obtain ⟨ad', he, rfl, hb⟩ := h
 rcases he with ⟨rfl, hc⟩ | rfl
 ·refine ⟨_, cap - k, rfl, by omega, ?_, hb, fun b o h0 e => by omega⟩
  rw [show n - k = 0 from by omega]; exact SlAt.zero _ _
 ·refine ⟨_, cap - k, rfl, by omega, hs.drop, hb, fun b2 o h0 e => ⟨off, ?_⟩⟩
  simp only [Option.map_some, Option.some.injEq, Addr.add_lit] at e
  cases e
  rfl

theorem RefPost.err {w w' : World} {ad : Option Addr} {n cap : Nat} {z : Nat → Int} {er : Int} {v : Value} (hlc : n ≤ cap) (hs : SlAt w ad n z) (hb : Below w.heap.size w w') : RefPost w ad n z 0 er v (.returned (.tuple #[.agg #[.slice ad n cap, .int .i64 er], v])) w' :=
 ⟨ad, cap, rfl, hlc, hs, hb, fun _ off _ h => ⟨off, h⟩⟩

theorem refRdU_any (ad : Option Addr) (n cap : Nat) (most : Int) (z : Nat → Int) (w : World) (hlc : n ≤ cap) (hnm : n ≤ 140737488351232) (hs : SlAt w ad n z) :
  Calls Tryz.prog 57 #[.agg #[.slice ad n cap, .int .i64 0], .int .u64 most] w fun e w' => RefPost w ad n z (uN n z most) (uE n z most) (.int .u64 (uV n z most)) e w' := by
 have hs0 := hs
 obtain ⟨hz, hs⟩ := hs
 by_cases hn : n = 0
 ·subst hn
  have e : uE 0 z most = 12 := by simp [uE]
  rw [uV, uN, e, if_neg (by decide), if_neg (by decide)]
  exact (refUint_nil ad cap most w).mono fun e w' ⟨h1, h2⟩ => by rw [h1]; exact RefPost.err hlc hs0 h2
 ·obtain ⟨b, off, rfl, hc⟩ := hs (by omega)
  have c0 : w.cell? ⟨b, off, none⟩ = some (.int .u8 (z 0)) := by simpa using hc 0 (by omega)
  by_cases h8 : 8 < z 0
  ·have e : uE n z most = 3 := by simp [uE, hn, h8]
   rw [uV, uN, e, if_neg (by decide), if_neg (by decide)]
   exact (refUint_wide b off n cap most z w (by omega) c0 h8).mono fun e w' ⟨h1, h2⟩ => by rw [h1]; exact RefPost.err hlc hs0 h2
  ·have hz0 := hz 0 (by omega)
   by_cases hE : numE (n - 1) (behind false z) (z 0).toNat = 0
   ·by_cases hm : most < numV (n - 1) (behind false z) (z 0).toNat
    ·have e : uE n z most = 4 := by simp [uE, hn, h8, hE, hm]
     rw [uV, uN, e, if_neg (by decide), if_neg (by decide)]
     exact (refUint_range b off n cap most z w (by omega) hlc hnm hz hc (by omega) hE hm).mono fun e w' ⟨h1, h2⟩ => by rw [h1]; exact RefPost.err hlc hs0 h2
    ·have e : uE n z most = 0 := by simp [uE, hn, h8, hE, hm]
     have hle := uN_le e
     rw [uN, if_pos e] at hle
     rw [uV, uN, e, if_pos rfl, if_pos rfl]
     have hw : (1 + z 0).toNat = 1 + (z 0).toNat := by omega
     have := refUint_ok b off n cap most z w (by omega) hlc hnm hz hc (by omega) hE hm (by omega)
     rw [hw] at this
     exact this.mono fun e w' h => h.post hlc hle hs0
   ·have e : uE n z most = numE (n - 1) (behind false z) (z 0).toNat := by simp [uE, hn, h8, hE]
    rw [uV, uN, e, if_neg hE, if_neg hE]
    exact (refUint_err b off n cap most z _ w (by omega) hlc hnm hz hc (by omega) rfl (by simp [hE])).mono fun e w' ⟨h1, h2⟩ => by rw [h1]; exact RefPost.err hlc hs0 h2

end Go.Proofs.YthmmmkldmhjogaaGreatDoor
