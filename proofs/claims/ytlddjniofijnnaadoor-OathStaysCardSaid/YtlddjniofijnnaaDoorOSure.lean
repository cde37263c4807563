/- sure: what must come whatever the input is. -/
import Derived.Test.YtlddjniofijnnaaDoorOWho
import Derived.Test.YtlddjniofijnnaaDoorONum
namespace Go.Proofs.YtlddjniofijnnaaDoor
open Go.RowKit

attribute [local go_sem ↓] Go.wp_at_zero Go.wp_at_succ

def z7 : Nat → Int := fun j => if j = 0 then 7 else 0
theorem z7_bd : Zb z7 := fun j _ => by unfold z7; split <;> omega
theorem h7_eq : hv z7 = #[.int .u8 7, .int .u8 0, .int .u8 0, .int .u8 0, .int .u8 0, .int .u8 0, .int .u8 0, .int .u8 0, .int .u8 0, .int .u8 0, .int .u8 0, .int .u8 0, .int .u8 0, .int .u8 0, .int .u8 0, .int .u8 0, .int .u8 0, .int .u8 0, .int .u8 0, .int .u8 0, .int .u8 0, .int .u8 0, .int .u8 0, .int .u8 0, .int .u8 0, .int .u8 0, .int .u8 0, .int .u8 0, .int .u8 0, .int .u8 0, .int .u8 0, .int .u8 0] := by kernel_rfl
theorem h0_eq : hv nz = #[.int .u8 0, .int .u8 0, .int .u8 0, .int .u8 0, .int .u8 0, .int .u8 0, .int .u8 0, .int .u8 0, .int .u8 0, .int .u8 0, .int .u8 0, .int .u8 0, .int .u8 0, .int .u8 0, .int .u8 0, .int .u8 0, .int .u8 0, .int .u8 0, .int .u8 0, .int .u8 0, .int .u8 0, .int .u8 0, .int .u8 0, .int .u8 0, .int .u8 0, .int .u8 0, .int .u8 0, .int .u8 0, .int .u8 0, .int .u8 0, .int .u8 0, .int .u8 0] := by kernel_rfl
theorem IsAt.below {w w' : World} {ad : Option Addr} {n : Nat} {z : Nat → Int} (h : IsAt w ad n z) (hb : Below w.heap.size w w') : IsAt w' ad n z := by
  intro hn
  obtain ⟨b, off, e, hc⟩ := h hn
  refine ⟨b, off, e, fun j hj => ?_⟩
  have := hc j hj
  have hl : b < w.heap.size := World.block_lt_of_cell? w ⟨b, off + j, none⟩ this
  rw [hb.cell (p := ⟨b, off + j, none⟩) hl]; exact this
theorem BkAt.belowB {w w' : World} {B p m : Nat} {g : Nat → Option Nat} {S : List (Int × List UInt8)} (h : BkAt w B p m g S) (hB : B ≤ w.heap.size) (hf : Frm (fpL p m g) w w') : Below B w w' := hf.below hB (fun _ hk => (h.lt hk).1)

set_option maxRecDepth 100000 in
set_option maxHeartbeats 3200000 in
theorem sure_any (w : World) (hg : Glob w) :
    Calls Tryd.prog 11 #[] w fun e w' => e = .returned (.bool true) ∧ Below w.heap.size w w' := by
  have hpos := hg.pos
  have HG : Hid (Glob w) := hg
  clear hg
  go_enter Tryd.func11, Tryd.ntmps11
  go_wp2_with fail
  refine (new_any w w.heap.size (Nat.le_refl _)).mono ?_
  rintro e w1 ⟨rfl, hk1, hb1, -⟩
  have HK1 : Hid (BkAt w1 w.heap.size (w.heap.size + 1) w.heap.size (fun _ => none) []) := hk1
  have hs1 := hb1.size
  clear hk1
  go_wp2_with fail
  rw [← h7_eq]
  refine (sign_any _ _ _ _ _ 1 z7 _ HK1.out (by unfold Ib; omega) z7_bd (by simp) hs1).mono ?_
  rintro e w2 ⟨rfl, g2, hk2, hf2, -⟩
  have hb2 : Below w.heap.size w w2 := hb1.trans (HK1.out.belowB hs1 hf2)
  have e2 : sgnS [] 1 z7 = [(1, ub z7)] := rfl
  rw [e2] at hk2
  have HK2 : Hid (BkAt w2 w.heap.size (w.heap.size + 1) w.heap.size g2 [(1, ub z7)]) := hk2
  have ee : errV (sgnE 1) = .nilIface := rfl
  rw [ee]
  have hs2 := hb2.size
  clear hk2 hf2 HK1 e2 ee
  go_wp2_with fail
  rw [← h7_eq]
  refine (has_any _ _ _ _ _ 1 z7 _ HK2.out (by unfold Ib; omega) z7_bd).mono ?_
  rintro e w3 ⟨rfl, hb3⟩
  have c1 : List.contains [((1 : Int), ub z7)] (1, ub z7) = true := by decide
  rw [c1]
  have HK3 : Hid (BkAt w3 w.heap.size (w.heap.size + 1) w.heap.size g2 [(1, ub z7)]) := HK2.out.below hb3
  have hb3' : Below w.heap.size w w3 := hb2.trans (hb3.mono hs2)
  have hs3 := hb3'.size
  clear hb3 HK2 c1
  go_wp2_with fail
  rw [← h7_eq]
  refine (has_any _ _ _ _ _ 2 z7 _ HK3.out (by unfold Ib; omega) z7_bd).mono ?_
  rintro e w4 ⟨rfl, hb4⟩
  have c1 : List.contains [((1 : Int), ub z7)] (2, ub z7) = false := by decide
  rw [c1]
  have HK4 : Hid (BkAt w4 w.heap.size (w.heap.size + 1) w.heap.size g2 [(1, ub z7)]) := HK3.out.below hb4
  have hb4' : Below w.heap.size w w4 := hb3'.trans (hb4.mono hs3)
  have hs4 := hb4'.size
  clear hb4 HK3 c1
  go_wp2_with fail
  rw [← h7_eq]
  refine (who_any _ _ _ _ _ z7 _ HK4.out z7_bd).mono ?_
  rintro e w5 ⟨ad, cap, rfl, hI, hb5, -⟩
  have e5 : whoL [((1 : Int), ub z7)] z7 16 = [1] := by decide
  rw [e5] at hI ⊢
  have hb5' : Below w.heap.size w w5 := hb4'.trans (hb5.mono hs4)
  have HK5 : Hid (BkAt w5 w.heap.size (w.heap.size + 1) w.heap.size g2 [(1, ub z7)]) := HK4.out.below hb5
  have HI5 : Hid (IsAt w5 ad ([1] : List Nat).length (gt [1])) := hI
  have hs5 := hb5'.size
  clear hb5 HK4 hI e5
  go_wp2_with fail
  refine (ints_same ad (some ⟨w5.heap.size, 0, none⟩) 1 cap 1 (gt [1]) _ (IsAt.below HI5.out ((Below.refl _ w5).alloc (Nat.le_refl _) _)) (fun _ => ⟨w5.heap.size, 0, rfl, fun j hj => ?_⟩) (by omega)).mono ?_
  · obtain rfl : j = 0 := by omega
    simp [gt]
  rintro e w6 ⟨rfl, hb6⟩
  have hb6' : Below w.heap.size w w6 := (hb5'.alloc hs5 _).trans (hb6.mono (by simp; omega))
  have hs6 := hb6'.size
  clear hb6 HI5
  go_wp2_with fail
  rw [← h0_eq]
  refine (sign_out _ 16 nz _ (by decide)).mono ?_
  rintro e w7 ⟨rfl, hb7⟩
  have hb7' : Below w.heap.size w w7 := hb6'.trans (hb7.mono hs6)
  have hs7 := hb7'.size
  clear hb7
  go_wp2_with fail
  refine (num_hit 33 _ (HG.out.below hb7' hpos)).mono ?_
  rintro e w8 ⟨rfl, hb8⟩
  have hb8' : Below w.heap.size w w8 := hb7'.trans (hb8.mono hs7)
  clear hb8
  go_wp2
  go_ret
  exact ⟨rfl, hb8'⟩
end Go.Proofs.YtlddjniofijnnaaDoor
