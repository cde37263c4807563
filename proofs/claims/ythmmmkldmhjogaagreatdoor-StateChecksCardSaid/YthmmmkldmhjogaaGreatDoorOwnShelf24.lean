/- The document's Decode of a state: the walk. -/
import Derived.Test.YthmmmkldmhjogaaGreatDoorOwnShelf23
import Derived.Test.YthmmmkldmhjogaaGreatDoorOwnShelf22
import Derived.Deep.DeepCutAuto
import Derived.Deep.CutBlock
import Derived.Test.YthmmmkldmhjogaaGreatDoorOwnShelf16
import Derived.Test.YthmmmkldmhjogaaGreatDoorOwnShelf17
import Derived.Test.YthmmmkldmhjogaaGreatDoorOwnShelf18
import Derived.Test.YthmmmkldmhjogaaGreatDoorOwnShelf19
namespace Go.Proofs.YthmmmkldmhjogaaGreatDoor
open Go.RowKit

set_option maxRecDepth 100000 in
set_option maxHeartbeats 12800000 in
theorem rdecode_any (ad0 : Option Addr) (cap0 : Nat) (l : List Int) (w : World) (hs : SlAt w ad0 l.length (fn l)) (hcap : l.length ≤ cap0) (hn : l.length ≤ 140737488351232) :
  Calls Tryz.prog 7 #[.slice ad0 l.length cap0] w fun e w' => ∃ p, e = .returned (.tuple #[.agg (svv (docT l) p), .int .i64 (docE l)]) ∧ SvAt w' (docT l) p ∧ Below w.heap.size w w' := by
 have hpn := docS_pn l
 have hhn := docS_hn l
 obtain ⟨s, he⟩ : ∃ s, docS l = s := ⟨_, rfl⟩
 have ENu : Hid ((f1 l).1 = s.nu ∧ (f2 l).1 = s.a ∧ (f3 l).1 = s.b ∧ (∀ i, (pyD (stPD (f4 l).2 i)).1 = s.P i) ∧ ∀ j, (hdD (stHD (f5 l).2 j)).1 = s.H j) := by subst he; exact ⟨rfl, rfl, rfl, fun _ => rfl, fun _ => rfl⟩
 have EN : Hid (f4n l = s.pn ∧ f5n l = s.hn) := by subst he; exact ⟨rfl, rfl⟩
 have HE : Hid (docS l = s) := he
 have HSM : Hid s.Small := by rw [← he]; exact docS_small l
 rw [he] at hpn hhn
 clear he
 have hD0 : DdS w (((w.alloc (.cells #[.int .i64 0, .int .i64 0, .int .i64 0, .slice none 0 0, .slice none 0 0] 26)).alloc (.cells #[.int .i64 0, .int .i64 0, .int .i64 0, .slice none 0 0, .slice none 0 0] 26)).alloc (.cells #[.slice ad0 l.length cap0, .int .i64 0] 69)) 0 0 0 s.P s.H pl0 (fun _ => (none, 0)) 0 0 ad0 l.length cap0 0 (some l) := by
  refine ⟨(three_new w _ _ _).2, ?_, ?_, ?_, World.ownsRow_nil _ _ _ _, World.ownsRow_nil _ _ _ _, fun k hk => by omega, fun k hk => by omega, ⟨rfl, rfl, hcap, hs, hn⟩⟩
  ·rw [Below.heap_alloc _ _ _ (by simp; omega), Below.heap_alloc _ _ _ (by simp)]; exact heap_alloc_new w _
  ·rw [Below.heap_alloc _ _ _ (by simp)]
   exact two_allocs_1 w _ _
  ·have := heap_alloc_new ((w.alloc (.cells #[.int .i64 0, .int .i64 0, .int .i64 0, .slice none 0 0, .slice none 0 0] 26)).alloc (.cells #[.int .i64 0, .int .i64 0, .int .i64 0, .slice none 0 0, .slice none 0 0] 26)) (.cells #[.slice ad0 l.length cap0, .int .i64 0] 69)
   have e2 : ((w.alloc (.cells #[.int .i64 0, .int .i64 0, .int .i64 0, .slice none 0 0, .slice none 0 0] 26)).alloc (.cells #[.int .i64 0, .int .i64 0, .int .i64 0, .slice none 0 0, .slice none 0 0] 26)).heap.size = w.heap.size + 2 := by simp
   rw [e2] at this
   exact this
 clear hs hcap hn
 go_enter Tryz.func7, Tryz.ntmps7
 go_wp2_with fail
 generalize ((w.alloc (.cells #[.int .i64 0, .int .i64 0, .int .i64 0, .slice none 0 0, .slice none 0 0] 26)).alloc (.cells #[.int .i64 0, .int .i64 0, .int .i64 0, .slice none 0 0, .slice none 0 0] 26)).alloc (.cells #[.slice ad0 l.length cap0, .int .i64 0] 69) = W0 at *
 have HD0 : Hid (DdS w W0 0 0 0 s.P s.H pl0 (fun _ => (none, 0)) 0 0 ad0 l.length cap0 0 (some l)) := hD0
 clear hD0
 have k1 := dnum_any w ad0 l.length cap0 0 (some l) W0 HD0.out.below HD0.out.dr
 change Calls _ _ _ _ (fun e w' => ∃ ad' n' cap' er', e = .returned (.tuple #[.agg #[.slice ad' n' cap', .int .i64 er'], .int .i64 (f1 l).1]) ∧ DR w ad' n' cap' er' (f1 l).2 ∧ Below W0.heap.size W0 w') at k1
 rw [ENu.out.1] at k1
 refine k1.mono ?_
 rintro e v1 ⟨a1, n1, c1, e1, rfl, hd, hb⟩
 have hK := HD0.out.keep hb
 obtain ⟨z0, z1, z2, z3, z4, zf⟩ := five_of hK.box
 have r0 := two_cell0 hK.rd
 have r1 := two_cell1 hK.rd
 have rf := two_free hK.rd
 have HN : Hid (DdS w (((v1.setCell ⟨w.heap.size + 2, 0, none⟩ (.slice a1 n1 c1)).setCell ⟨w.heap.size + 2, 1, none⟩ (.int .i64 e1)).setCell ⟨w.heap.size + 1, 0, none⟩ (.int .i64 s.nu)) s.nu 0 0 s.P s.H pl0 (fun _ => (none, 0)) 0 0 a1 n1 c1 e1 (f1 l).2) := (HD0.out.rdSet hb hd).boxSet 0 _ (five_set0 (HD0.out.rdSet hb hd).box)
 clear k1 hd hb hK HD0
 go_wp2_with fail
 clear z0 z1 z2 z3 z4 zf r0 r1 rf
 generalize ((v1.setCell ⟨w.heap.size + 2, 0, none⟩ (.slice a1 n1 c1)).setCell ⟨w.heap.size + 2, 1, none⟩ (.int .i64 e1)).setCell ⟨w.heap.size + 1, 0, none⟩ (.int .i64 s.nu) = W1 at *
 have HD1 := HN
 clear HN
 have k1 := dnum_any w a1 n1 c1 e1 ((f1 l).2) W1 HD1.out.below HD1.out.dr
 change Calls _ _ _ _ (fun e w' => ∃ ad' n' cap' er', e = .returned (.tuple #[.agg #[.slice ad' n' cap', .int .i64 er'], .int .i64 (f2 l).1]) ∧ DR w ad' n' cap' er' (f2 l).2 ∧ Below W1.heap.size W1 w') at k1
 rw [ENu.out.2.1] at k1
 refine k1.mono ?_
 rintro e v2 ⟨a2, n2, c2, e2, rfl, hd, hb⟩
 have hK := HD1.out.keep hb
 obtain ⟨z0, z1, z2, z3, z4, zf⟩ := five_of hK.box
 have r0 := two_cell0 hK.rd
 have r1 := two_cell1 hK.rd
 have rf := two_free hK.rd
 have HN : Hid (DdS w (((v2.setCell ⟨w.heap.size + 2, 0, none⟩ (.slice a2 n2 c2)).setCell ⟨w.heap.size + 2, 1, none⟩ (.int .i64 e2)).setCell ⟨w.heap.size + 1, 1, none⟩ (.int .i64 s.a)) s.nu s.a 0 s.P s.H pl0 (fun _ => (none, 0)) 0 0 a2 n2 c2 e2 (f2 l).2) := (HD1.out.rdSet hb hd).boxSet 1 _ (five_set1 (HD1.out.rdSet hb hd).box)
 clear k1 hd hb hK HD1
 go_wp2_with fail
 clear z0 z1 z2 z3 z4 zf r0 r1 rf
 generalize ((v2.setCell ⟨w.heap.size + 2, 0, none⟩ (.slice a2 n2 c2)).setCell ⟨w.heap.size + 2, 1, none⟩ (.int .i64 e2)).setCell ⟨w.heap.size + 1, 1, none⟩ (.int .i64 s.a) = W2 at *
 have HD2 := HN
 clear HN
 have k1 := dnum_any w a2 n2 c2 e2 ((f2 l).2) W2 HD2.out.below HD2.out.dr
 change Calls _ _ _ _ (fun e w' => ∃ ad' n' cap' er', e = .returned (.tuple #[.agg #[.slice ad' n' cap', .int .i64 er'], .int .i64 (f3 l).1]) ∧ DR w ad' n' cap' er' (f3 l).2 ∧ Below W2.heap.size W2 w') at k1
 rw [ENu.out.2.2.1] at k1
 refine k1.mono ?_
 rintro e v3 ⟨a3, n3, c3, e3, rfl, hd, hb⟩
 have hK := HD2.out.keep hb
 obtain ⟨z0, z1, z2, z3, z4, zf⟩ := five_of hK.box
 have r0 := two_cell0 hK.rd
 have r1 := two_cell1 hK.rd
 have rf := two_free hK.rd
 have HN : Hid (DdS w (((v3.setCell ⟨w.heap.size + 2, 0, none⟩ (.slice a3 n3 c3)).setCell ⟨w.heap.size + 2, 1, none⟩ (.int .i64 e3)).setCell ⟨w.heap.size + 1, 2, none⟩ (.int .i64 s.b)) s.nu s.a s.b s.P s.H pl0 (fun _ => (none, 0)) 0 0 a3 n3 c3 e3 (f3 l).2) := (HD2.out.rdSet hb hd).boxSet 2 _ (five_set2 (HD2.out.rdSet hb hd).box)
 clear k1 hd hb hK HD2
 go_wp2_with fail
 clear z0 z1 z2 z3 z4 zf r0 r1 rf
 generalize ((v3.setCell ⟨w.heap.size + 2, 0, none⟩ (.slice a3 n3 c3)).setCell ⟨w.heap.size + 2, 1, none⟩ (.int .i64 e3)).setCell ⟨w.heap.size + 1, 2, none⟩ (.int .i64 s.b) = W3 at *
 have HD3 := HN
 clear HN
 have k4 := count_dr w a3 n3 c3 e3 8 (f3 l).2 W3 HD3.out.below HD3.out.dr (by decide)
 change Calls _ _ _ _ (fun e w' => ∃ ad' n' cap' er', e = .returned (.tuple #[.agg #[.slice ad' n' cap', .int .i64 er'], .int .i64 (f4 l).1]) ∧ DR w ad' n' cap' er' (f4 l).2 ∧ Below W3.heap.size W3 w') at k4
 have h40 : 0 ≤ (f4 l).1 := (cntS_bd (most := 8) HD3.out.dr.by (by decide)).1
 have h48 : (f4 l).1 ≤ 8 := cntS_le _ (by decide)
 obtain ⟨m, hm⟩ : ∃ m : Nat, (f4 l).1 = m := ⟨(f4 l).1.toNat, by omega⟩
 have hm8 : m ≤ 8 := by omega
 have HM : Hid (up (stPD (f4 l).2) m = s.pn) := by
  have := EN.out.1
  unfold f4n at this
  rw [hm] at this
  exact this
 rw [hm] at k4
 clear h40 h48 hm
 refine k4.mono ?_
 rintro e v4 ⟨a4, n4, c4, e4, rfl, hd, hb⟩
 have hK := HD3.out.keep hb
 have r0 := two_cell0 hK.rd
 have r1 := two_cell1 hK.rd
 have rf := two_free hK.rd
 have h20 : DdS w ((v4.setCell ⟨w.heap.size + 2, 0, none⟩ (.slice a4 n4 c4)).setCell ⟨w.heap.size + 2, 1, none⟩ (.int .i64 e4)) s.nu s.a s.b s.P s.H pl0 (fun _ => (none, 0)) 0 0 a4 n4 c4 e4 (f4 l).2 := HD3.out.rdSet hb hd
 have HD4 := hid_mk h20
 clear h20 k4 hd hb hK HD3
 go_upto_block 0 with fail
 clear r0 r1 rf
 generalize (v4.setCell ⟨w.heap.size + 2, 0, none⟩ (.slice a4 n4 c4)).setCell ⟨w.heap.size + 2, 1, none⟩ (.int .i64 e4) = W4 at *
 go_cut [] (fun wc => ∃ (p : Pl) (ad : Option Addr) (n cap : Nat) (er : Int), Hid (DdS w wc s.nu s.a s.b s.P s.H p (fun _ => (none, 0)) s.pn 0 ad n cap er (stPD (f4 l).2 s.pn)))
 case first =>
  go_wp2_with fail
  go_loopw [7, 8] (fun iv _ wr => ∃ (i : Nat) (p : Pl) (ad : Option Addr) (n cap : Nat) (er : Int), i ≤ m ∧ iv = .int .i64 i ∧ up (stPD (f4 l).2) i = i ∧ DdS w wr s.nu s.a s.b s.P s.H p (fun _ => (none, 0)) i 0 ad n cap er (stPD (f4 l).2 i)) (fun iv _ _ => m + 1 - (intOf iv).toNat)
  case atStart => exact ⟨0, pl0, a4, n4, c4, e4, by omega, rfl, rfl, HD4.out⟩
  case round =>
   clear HD4
   obtain ⟨i, p, ad, n, cap, er, hi, rfl, hup, hG⟩ := hrel
   have HUP := hid_mk hup
   have HG := hid_mk hG
   have hbig := hG.big
   have r0 := two_cell0 hG.rd
   have r1 := two_cell1 hG.rd
   have rf := two_free hG.rd
   clear hG hup
   by_cases hgo : i < m ∧ er = 0
   ·obtain ⟨hlt, rfl⟩ := hgo
    have hlt' : (i : Int) < m := by omega
    have hqn : stPD (f4 l).2 i ≠ none := fun h => by have := HG.out.dr; rw [h] at this; simp [DR] at this
    have HQN := hid_mk hqn
    clear hqn
    have hR : w.heap.size + 2 < wr.heap.size := by omega
    obtain ⟨q0, hq0⟩ : ∃ q, stPD (f4 l).2 i = q := ⟨_, rfl⟩
    obtain ⟨x1, ex1⟩ : ∃ x, nD q0 = x := ⟨_, rfl⟩
    obtain ⟨x2, ex2⟩ : ∃ x, nD x1.2 = x := ⟨_, rfl⟩
    obtain ⟨x3, ex3⟩ : ∃ x, nD x2.2 = x := ⟨_, rfl⟩
    obtain ⟨x4, ex4⟩ : ∃ x, nD x3.2 = x := ⟨_, rfl⟩
    obtain ⟨x5, ex5⟩ : ∃ x, hshS x4.2 = x := ⟨_, rfl⟩
    have HPI : Hid (s.P i = ⟨x1.1, x2.1, x3.1, x4.1, x5.1⟩ ∧ stPD (f4 l).2 (i + 1) = x5.2) := by
     refine ⟨?_, ?_⟩
     ·rw [← ENu.out.2.2.2.1 i, hq0]
      unfold pyD
      rw [ex1, ex2, ex3, ex4, ex5]
     ·rw [stPD, hq0]
      unfold pyD
      rw [ex1, ex2, ex3, ex4, ex5]
    have EX1 := hid_mk ex1
    have EX2 := hid_mk ex2
    have EX3 := hid_mk ex3
    have EX4 := hid_mk ex4
    have EX5 := hid_mk ex5
    have HG0 : Hid (DdS w wr s.nu s.a s.b s.P s.H p (fun _ => (none, 0)) i 0 ad n cap 0 q0) := by rw [← hq0]; exact HG.out
    clear ex1 ex2 ex3 ex4 ex5 hq0 HG
    go_wp2_with (first | (refine wpList_buildPr rfl rfl ?_) | (refine wpList_allocPr rfl rfl ?_) | (refine wpList_storeP _ szPr rfl _ _ rfl wr.heap.size rfl p0 p0 73 rfl (heap_alloc_new wr _) ?_; intro u0 hg5 hf5; have hb5 := frm_new hf5; have HM0 : Hid (MdS w wr u0 (w.heap.size + 2) wr.heap.size (pyv p0) 73 ad n cap 0 q0) := ⟨Frm.ofBelow hb5, hR, Nat.le_refl _, hg5, by rw [hb5.block _ hR]; exact HG0.out.rd, HG0.out.dr⟩; have r0 := two_cell0 HM0.out.rd; have r1 := two_cell1 HM0.out.rd; have rf := two_free HM0.out.rd; clear hg5 hf5 hb5) | fail)
    clear r0 r1 rf
    generalize hPB : wr.heap.size = PB at *
    have hRg : w.heap.size + 2 < PB := hR
    have hbw : Below w.heap.size w u0 := HG0.out.below.trans (HM0.out.frm.below (by rw [hPB]; have := HG0.out.below.size; omega) (by simp))
    have kk := dnum_any w ad n cap (0 : Int) (q0) u0 hbw HM0.out.dr
    change Calls _ _ _ _ (fun e w' => ∃ ad' n' cap' er', e = .returned (.tuple #[.agg #[.slice ad' n' cap', .int .i64 er'], .int .i64 (nD q0).1]) ∧ DR w ad' n' cap' er' (nD q0).2 ∧ Below u0.heap.size u0 w') at kk
    rw [EX1.out] at kk
    refine kk.mono ?_
    rintro e t1 ⟨b1, m1, d1, g1, rfl, hd, hb⟩
    have hK := HM0.out.keep hb
    have r0 := two_cell0 hK.rd
    have r1 := two_cell1 hK.rd
    have rf := two_free hK.rd
    have pc := (pbox_of hK.var).c0
    have pf' : ∀ o, t1.frozen? ⟨PB, o, none⟩ = false := fun o => frozen_of_row _ _ o _ _ hK.var
    have HN : Hid (MdS w wr (((t1.setCell ⟨w.heap.size + 2, 0, none⟩ (.slice b1 m1 d1)).setCell ⟨w.heap.size + 2, 1, none⟩ (.int .i64 g1)).setCell ⟨PB, 0, none⟩ (.int .i64 x1.1)) (w.heap.size + 2) PB (pyv ⟨x1.1, 0, 0, 0, nz⟩) 73 b1 m1 d1 g1 x1.2) := by
     have := (HM0.out.rdSet hb hd).varSet 0 (.int .i64 x1.1)
     rw [pyv_s0] at this
     exact this
    clear kk hd hb hK hbw HM0
    go_wp2_with fail
    clear r0 r1 rf pc pf'
    generalize ((t1.setCell ⟨w.heap.size + 2, 0, none⟩ (.slice b1 m1 d1)).setCell ⟨w.heap.size + 2, 1, none⟩ (.int .i64 g1)).setCell ⟨PB, 0, none⟩ (.int .i64 x1.1) = u1 at *
    have HM1 := HN
    clear HN
    have hbw : Below w.heap.size w u1 := HG0.out.below.trans (HM1.out.frm.below (by rw [hPB]; have := HG0.out.below.size; omega) (by simp))
    have kk := dnum_any w b1 m1 d1 g1 (x1.2) u1 hbw HM1.out.dr
    change Calls _ _ _ _ (fun e w' => ∃ ad' n' cap' er', e = .returned (.tuple #[.agg #[.slice ad' n' cap', .int .i64 er'], .int .i64 (nD x1.2).1]) ∧ DR w ad' n' cap' er' (nD x1.2).2 ∧ Below u1.heap.size u1 w') at kk
    rw [EX2.out] at kk
    refine kk.mono ?_
    rintro e t2 ⟨b2, m2, d2, g2, rfl, hd, hb⟩
    have hK := HM1.out.keep hb
    have r0 := two_cell0 hK.rd
    have r1 := two_cell1 hK.rd
    have rf := two_free hK.rd
    have pc := (pbox_of hK.var).c1
    have pf' : ∀ o, t2.frozen? ⟨PB, o, none⟩ = false := fun o => frozen_of_row _ _ o _ _ hK.var
    have HN : Hid (MdS w wr (((t2.setCell ⟨w.heap.size + 2, 0, none⟩ (.slice b2 m2 d2)).setCell ⟨w.heap.size + 2, 1, none⟩ (.int .i64 g2)).setCell ⟨PB, 1, none⟩ (.int .i64 x2.1)) (w.heap.size + 2) PB (pyv ⟨x1.1, x2.1, 0, 0, nz⟩) 73 b2 m2 d2 g2 x2.2) := by
     have := (HM1.out.rdSet hb hd).varSet 1 (.int .i64 x2.1)
     rw [pyv_s1] at this
     exact this
    clear kk hd hb hK hbw HM1
    go_wp2_with fail
    clear r0 r1 rf pc pf'
    generalize ((t2.setCell ⟨w.heap.size + 2, 0, none⟩ (.slice b2 m2 d2)).setCell ⟨w.heap.size + 2, 1, none⟩ (.int .i64 g2)).setCell ⟨PB, 1, none⟩ (.int .i64 x2.1) = u2 at *
    have HM2 := HN
    clear HN
    have hbw : Below w.heap.size w u2 := HG0.out.below.trans (HM2.out.frm.below (by rw [hPB]; have := HG0.out.below.size; omega) (by simp))
    have kk := dnum_any w b2 m2 d2 g2 (x2.2) u2 hbw HM2.out.dr
    change Calls _ _ _ _ (fun e w' => ∃ ad' n' cap' er', e = .returned (.tuple #[.agg #[.slice ad' n' cap', .int .i64 er'], .int .i64 (nD x2.2).1]) ∧ DR w ad' n' cap' er' (nD x2.2).2 ∧ Below u2.heap.size u2 w') at kk
    rw [EX3.out] at kk
    refine kk.mono ?_
    rintro e t3 ⟨b3, m3, d3, g3, rfl, hd, hb⟩
    have hK := HM2.out.keep hb
    have r0 := two_cell0 hK.rd
    have r1 := two_cell1 hK.rd
    have rf := two_free hK.rd
    have pc := (pbox_of hK.var).c2
    have pf' : ∀ o, t3.frozen? ⟨PB, o, none⟩ = false := fun o => frozen_of_row _ _ o _ _ hK.var
    have HN : Hid (MdS w wr (((t3.setCell ⟨w.heap.size + 2, 0, none⟩ (.slice b3 m3 d3)).setCell ⟨w.heap.size + 2, 1, none⟩ (.int .i64 g3)).setCell ⟨PB, 2, none⟩ (.int .i64 x3.1)) (w.heap.size + 2) PB (pyv ⟨x1.1, x2.1, x3.1, 0, nz⟩) 73 b3 m3 d3 g3 x3.2) := by
     have := (HM2.out.rdSet hb hd).varSet 2 (.int .i64 x3.1)
     rw [pyv_s2] at this
     exact this
    clear kk hd hb hK hbw HM2
    go_wp2_with fail
    clear r0 r1 rf pc pf'
    generalize ((t3.setCell ⟨w.heap.size + 2, 0, none⟩ (.slice b3 m3 d3)).setCell ⟨w.heap.size + 2, 1, none⟩ (.int .i64 g3)).setCell ⟨PB, 2, none⟩ (.int .i64 x3.1) = u3 at *
    have HM3 := HN
    clear HN
    have hbw : Below w.heap.size w u3 := HG0.out.below.trans (HM3.out.frm.below (by rw [hPB]; have := HG0.out.below.size; omega) (by simp))
    have kk := dnum_any w b3 m3 d3 g3 (x3.2) u3 hbw HM3.out.dr
    change Calls _ _ _ _ (fun e w' => ∃ ad' n' cap' er', e = .returned (.tuple #[.agg #[.slice ad' n' cap', .int .i64 er'], .int .i64 (nD x3.2).1]) ∧ DR w ad' n' cap' er' (nD x3.2).2 ∧ Below u3.heap.size u3 w') at kk
    rw [EX4.out] at kk
    refine kk.mono ?_
    rintro e t4 ⟨b4, m4, d4, g4, rfl, hd, hb⟩
    have hK := HM3.out.keep hb
    have r0 := two_cell0 hK.rd
    have r1 := two_cell1 hK.rd
    have rf := two_free hK.rd
    have pc := (pbox_of hK.var).c3
    have pf' : ∀ o, t4.frozen? ⟨PB, o, none⟩ = false := fun o => frozen_of_row _ _ o _ _ hK.var
    have HN : Hid (MdS w wr (((t4.setCell ⟨w.heap.size + 2, 0, none⟩ (.slice b4 m4 d4)).setCell ⟨w.heap.size + 2, 1, none⟩ (.int .i64 g4)).setCell ⟨PB, 3, none⟩ (.int .i64 x4.1)) (w.heap.size + 2) PB (pyv ⟨x1.1, x2.1, x3.1, x4.1, nz⟩) 73 b4 m4 d4 g4 x4.2) := by
     have := (HM3.out.rdSet hb hd).varSet 3 (.int .i64 x4.1)
     rw [pyv_s3] at this
     exact this
    clear kk hd hb hK hbw HM3
    go_wp2_with fail
    clear r0 r1 rf pc pf'
    generalize ((t4.setCell ⟨w.heap.size + 2, 0, none⟩ (.slice b4 m4 d4)).setCell ⟨w.heap.size + 2, 1, none⟩ (.int .i64 g4)).setCell ⟨PB, 3, none⟩ (.int .i64 x4.1) = u4 at *
    have HM4 := HN
    clear HN
    have hbw : Below w.heap.size w u4 := HG0.out.below.trans (HM4.out.frm.below (by rw [hPB]; have := HG0.out.below.size; omega) (by simp))
    have hz := hshS_bd HM4.out.dr.by
    have kk := hash_dr w b4 m4 d4 g4 x4.2 u4 hbw HM4.out.dr
    rw [EX5.out] at kk hz
    have HZ := hid_mk hz
    clear hz
    refine kk.mono ?_
    rintro e t5 ⟨b5, m5, d5, g5, rfl, hd, hb⟩
    have hK := HM4.out.keep hb
    have r0 := two_cell0 hK.rd
    have r1 := two_cell1 hK.rd
    have rf := two_free hK.rd
    have HN : Hid (MdS w wr ((t5.setCell ⟨w.heap.size + 2, 0, none⟩ (.slice b5 m5 d5)).setCell ⟨w.heap.size + 2, 1, none⟩ (.int .i64 g5)) (w.heap.size + 2) PB (pyv ⟨x1.1, x2.1, x3.1, x4.1, nz⟩) 73 b5 m5 d5 g5 x5.2) := HM4.out.rdSet hb hd
    have hpv := HN.out.var
    clear kk hd hb hK hbw HM4
    go_upto_region 16 with (first | (refine wpList_storeLkP rfl _ _ rfl PB rfl x5.1 rfl ⟨x1.1, x2.1, x3.1, x4.1, nz⟩ 73 hpv ?_; intro u5 hg5 hf5) | fail)
    have hfr5 : Frm [w.heap.size + 2] wr u5 := by
     have h1 : Frm [w.heap.size + 2, PB] wr u5 := (HN.out.frm.mono (by simp)).trans (hf5.mono (by simp))
     exact h1.old (fun k hk hlt => by simp at hk ⊢; omega)
    have hrd5 : u5.heap[w.heap.size + 2]? = some (.cells #[.slice b5 m5 d5, .int .i64 g5] 69 (0, 0)) := hf5.heap HN.out.rd (by simp; omega)
    have hD5 : DdS w u5 s.nu s.a s.b s.P s.H p (fun _ => (none, 0)) i 0 b5 m5 d5 g5 (stPD (f4 l).2 (i + 1)) := by rw [HPI.out.2]; exact HG0.out.frm hfr5 hrd5 HN.out.dr
    have hg5' : u5.heap[PB]? = some (.cells (pyv (s.P i)) 73 (0, 0)) := by rw [HPI.out.1]; exact hg5
    have hrg : u5.rangeAt PB 0 (pyl (s.P i)) := range_row hg5'
    have HRG := hid_mk hrg
    have HD5 : Hid (DdS w u5 s.nu s.a s.b s.P s.H p (fun _ => (none, 0)) i 0 b5 m5 d5 g5 (stPD (f4 l).2 (i + 1)) ∧ Zb (s.P i).lk) := ⟨hD5, by rw [HPI.out.1]; exact HZ.out⟩
    obtain ⟨_, _, _, z3, _, _⟩ := five_of hD5.box
    clear r0 r1 rf hpv hg5 hf5 hfr5 hrd5 hD5 hg5' hrg HN HG0 HZ HPI EX1 EX2 EX3 EX4 EX5
    go_wp2_with (first | (refine wpList_load_mid rfl 73 _ rfl PB 0 rfl (pyl (s.P i)) _ HRG.out Tryz.underlying73 rfl (szPrl _) ?_) | (refine wpList_slicePr rfl _ rfl (s.P i) rfl ?_; have hb6 : Below u5.heap.size u5 (u5.alloc (.cells (pyv (s.P i)) 73)) := (Below.refl _ _).alloc (Nat.le_refl _) _; have hq6 : (u5.alloc (.cells (pyv (s.P i)) 73)).heap[u5.heap.size]? = some (.cells (pyv (s.P i)) 73 (0, 0)) := heap_alloc_new _ _; have HD6 : Hid (DdS w (u5.alloc (.cells (pyv (s.P i)) 73)) s.nu s.a s.b s.P s.H p (fun _ => (none, 0)) i 0 b5 m5 d5 g5 (stPD (f4 l).2 (i + 1))) := HD5.out.1.keep hb6; generalize u5.alloc (.cells (pyv (s.P i)) 73) = u6 at *) | (at_builtin; refine wpList_app1 rfl _ _ 23 rfl (.slice p.pa i p.pc) (.slice (some ⟨u5.heap.size, 0, none⟩) 1 1) rfl rfl (fun v' w1 => ∃ va vc, v' = .slice va (i + 1) vc ∧ w1.ownsRow (w.heap.size + 3) 73 36 (.slice va (i + 1) vc) (i + 1) (flatL (pf s.P) i ++ pyl (s.P i)) ∧ u6.grownBy w1 (Value.slice p.pa i p.pc).ownBlock) (fun ty => by obtain ⟨va, vc, w1, h1, h2, h3⟩ := run_append_Pr u6 (w.heap.size + 3) u5.heap.size ty (.slice p.pa i p.pc) i (flatL (pf s.P) i) (s.P i) HD6.out.py HD6.out.big hq6 (by omega); exact ⟨_, w1, h1, va, vc, rfl, h2, h3⟩) ?_; rintro v' u7 ⟨va, vc, rfl, hown, hgrow⟩; have hlo := grown_low HD6.out.py hgrow HD6.out.big; have hx7 : u7.heap[w.heap.size + 1]? = some (.cells #[.int .i64 s.nu, .int .i64 s.a, .int .i64 s.b, .slice p.pa i p.pc, .slice p.ha 0 p.hc] 26 (0, 0)) := (by rw [hlo _ (by omega)]; exact HD6.out.box); have y3 := (five_of hx7).c3; have yf : ∀ o, u7.frozen? ⟨w.heap.size + 1, o, none⟩ = false := (fun o => frozen_of_row _ _ o _ _ hx7); have HN7 : Hid (DdS w (u7.setCell ⟨w.heap.size + 1, 3, none⟩ (.slice va (i + 1) vc)) s.nu s.a s.b s.P s.H ⟨va, vc, p.ha, p.hc⟩ (fun _ => (none, 0)) (i + 1) 0 b5 m5 d5 g5 (stPD (f4 l).2 (i + 1))) := HD6.out.pushP HD5.out.2 hown hgrow; clear hown hgrow hlo hx7) | fail)
    go_roundw
    case rel => exact ⟨i + 1, _, _, _, _, _, by omega, by go_num, up_next HUP.out HQN.out, HN7.out⟩
    case measure => simp [intOf]; omega
   ·have hpi : i = s.pn ∧ (er = 0 → ¬ (i : Int) < m) := by
     have h1 := HM.out
     by_cases hlt : i < m
     ·have he : er ≠ 0 := fun h => hgo ⟨hlt, h⟩
      have hqn : stPD (f4 l).2 i = none := by
       have h2 := HG.out.dr
       cases e : stPD (f4 l).2 i with
       | none => rfl
       | some l' => rw [e] at h2; exact absurd h2.1 he
      exact ⟨by rw [← h1]; exact (up_stop HUP.out hqn m (by omega)).symm, fun h => absurd h he⟩
     ·obtain rfl : i = m := by omega
      exact ⟨by rw [← h1]; exact HUP.out.symm, fun _ => by omega⟩
    have HEX : Hid (DdS w wr s.nu s.a s.b s.P s.H p (fun _ => (none, 0)) s.pn 0 ad n cap er (stPD (f4 l).2 s.pn)) := by rw [← hpi.1]; exact HG.out
    by_cases he : er = 0
    ·have hnn := hpi.2 he
     subst he
     clear hpi hgo HG HUP
     go_wp2_with fail
     go_meet
     exact ⟨p, ad, n, cap, 0, HEX.out⟩
    ·have he' : (er == 0) = false := by simpa using he
     clear hpi hgo HG HUP he
     by_cases hlt : (i : Int) < m
     ·go_wp2_with fail
      go_meet
      exact ⟨p, ad, n, cap, er, HEX.out⟩
     ·go_wp2_with fail
      go_meet
      exact ⟨p, ad, n, cap, er, HEX.out⟩
 case rest =>
 obtain ⟨p, ad, n, cap, er, HD5⟩ := hcut
 clear HD4 HM
 generalize wc = W5 at *
 have e5 : cntS 8 (stPD (f4 l).2 s.pn) = f5 l := by rw [← EN.out.1]; rfl
 have k5 := count_dr w ad n cap er 8 (stPD (f4 l).2 s.pn) W5 HD5.out.below HD5.out.dr (by decide)
 have h50 := (cntS_bd (most := 8) HD5.out.dr.by (by decide)).1
 have h58 := cntS_le (stPD (f4 l).2 s.pn) (most := 8) (by decide)
 rw [e5] at k5 h50 h58
 obtain ⟨m', hm'⟩ : ∃ m : Nat, (f5 l).1 = m := ⟨(f5 l).1.toNat, by omega⟩
 have hm8' : m' ≤ 8 := by omega
 have HM' : Hid (up (stHD (f5 l).2) m' = s.hn) := by
  have := EN.out.2
  unfold f5n at this
  rw [hm'] at this
  exact this
 rw [hm'] at k5
 obtain ⟨z0, z1, z2, z3, z4, zf⟩ := five_of HD5.out.box
 have r0 := two_cell0 HD5.out.rd
 have r1 := two_cell1 HD5.out.rd
 clear h50 h58 hm' e5
 go_wp2_with fail
 clear z0 z1 z2 z3 z4 zf r0 r1
 refine k5.mono ?_
 rintro e v6 ⟨a6, n6, c6, e6, rfl, hd, hb⟩
 have hK := HD5.out.keep hb
 have r0 := two_cell0 hK.rd
 have r1 := two_cell1 hK.rd
 have rf := two_free hK.rd
 have HD6 : Hid (DdS w ((v6.setCell ⟨w.heap.size + 2, 0, none⟩ (.slice a6 n6 c6)).setCell ⟨w.heap.size + 2, 1, none⟩ (.int .i64 e6)) s.nu s.a s.b s.P s.H p (fun _ => (none, 0)) s.pn 0 a6 n6 c6 e6 (f5 l).2) := HD5.out.rdSet hb hd
 clear k5 hd hb hK HD5
 go_upto_block 2 with fail
 clear r0 r1 rf
 generalize (v6.setCell ⟨w.heap.size + 2, 0, none⟩ (.slice a6 n6 c6)).setCell ⟨w.heap.size + 2, 1, none⟩ (.int .i64 e6) = W6 at *
 go_cut [] (fun wc => ∃ (p : Pl) (A : Nat → Option Addr × Nat) (ad : Option Addr) (n cap : Nat) (er : Int), Hid (DdS w wc s.nu s.a s.b s.P s.H p A s.pn s.hn ad n cap er (stHD (f5 l).2 s.hn)))
 case first =>
  go_wp2_with fail
  go_loopw [9, 10, 11, 12, 13] (fun iv _ _ _ _ wr => ∃ (i : Nat) (p : Pl) (A : Nat → Option Addr × Nat) (ad : Option Addr) (n cap : Nat) (er : Int), i ≤ m' ∧ iv = .int .i64 i ∧ up (stHD (f5 l).2) i = i ∧ DdS w wr s.nu s.a s.b s.P s.H p A s.pn i ad n cap er (stHD (f5 l).2 i)) (fun iv _ _ _ _ _ => m' + 1 - (intOf iv).toNat)
  case atStart => exact ⟨0, p, _, a6, n6, c6, e6, by omega, rfl, rfl, HD6.out⟩
  case round =>
   clear HD6
   obtain ⟨i, p, A, ad, n, cap, er, hi, rfl, hup, hG⟩ := hrel
   have HUP := hid_mk hup
   have HG := hid_mk hG
   have hbig := hG.big
   have r0 := two_cell0 hG.rd
   have r1 := two_cell1 hG.rd
   have rf := two_free hG.rd
   clear hG hup
   by_cases hgo : i < m' ∧ er = 0
   ·obtain ⟨hlt, rfl⟩ := hgo
    have hlt' : (i : Int) < m' := by omega
    have hqn : stHD (f5 l).2 i ≠ none := fun h => by have := HG.out.dr; rw [h] at this; simp [DR] at this
    have HQN := hid_mk hqn
    clear hqn
    have hR : w.heap.size + 2 < wr.heap.size := by omega
    obtain ⟨q0, hq0⟩ : ∃ q, stHD (f5 l).2 i = q := ⟨_, rfl⟩
    obtain ⟨x1, ex1⟩ : ∃ x, nD q0 = x := ⟨_, rfl⟩
    obtain ⟨x2, ex2⟩ : ∃ x, nD x1.2 = x := ⟨_, rfl⟩
    obtain ⟨x3, ex3⟩ : ∃ x, cntS 16 x2.2 = x := ⟨_, rfl⟩
    have HPI : Hid (s.H i = ⟨x1.1, x2.1, hdK x3, fun j => (nD (stND x3.2 j)).1⟩ ∧ stHD (f5 l).2 (i + 1) = stND x3.2 (hdK x3)) := by
     refine ⟨?_, ?_⟩
     ·rw [← ENu.out.2.2.2.2 i, hq0]
      unfold hdD
      rw [ex1, ex2, ex3]
     ·rw [stHD, hq0]
      unfold hdD
      rw [ex1, ex2, ex3]
    have EX1 := hid_mk ex1
    have EX2 := hid_mk ex2
    have EX3 := hid_mk ex3
    have HG0 : Hid (DdS w wr s.nu s.a s.b s.P s.H p A s.pn i ad n cap 0 q0) := by rw [← hq0]; exact HG.out
    clear ex1 ex2 ex3 hq0 HG
    have HM0 : Hid (MdS w wr (wr.alloc (.cells #[.int .i64 0, .int .i64 0, .slice none 0 0] 55)) (w.heap.size + 2) wr.heap.size #[.int .i64 0, .int .i64 0, .slice none 0 0] 55 ad n cap 0 q0) :=
     ⟨(Frm.refl _ _).alloc _, hR, Nat.le_refl _, heap_alloc_new wr _, by rw [Below.heap_alloc _ _ _ hR]; exact HG0.out.rd, HG0.out.dr⟩
    go_wp2_with fail
    clear r0 r1 rf
    generalize wr.alloc (.cells #[.int .i64 0, .int .i64 0, .slice none 0 0] 55) = u0 at *
    generalize hPB : wr.heap.size = PB at *
    have hRg : w.heap.size + 2 < PB := hR
    have hbw : Below w.heap.size w u0 := HG0.out.below.trans (HM0.out.frm.below (by rw [hPB]; have := HG0.out.below.size; omega) (by simp))
    have kk := dnum_any w ad n cap (0 : Int) (q0) u0 hbw HM0.out.dr
    change Calls _ _ _ _ (fun e w' => ∃ ad' n' cap' er', e = .returned (.tuple #[.agg #[.slice ad' n' cap', .int .i64 er'], .int .i64 (nD q0).1]) ∧ DR w ad' n' cap' er' (nD q0).2 ∧ Below u0.heap.size u0 w') at kk
    rw [EX1.out] at kk
    refine kk.mono ?_
    rintro e t1 ⟨b1, m1, d1, g1, rfl, hd, hb⟩
    have hK := HM0.out.keep hb
    have r0 := two_cell0 hK.rd
    have r1 := two_cell1 hK.rd
    have rf := two_free hK.rd
    have pc : t1.cell? ⟨PB, 0, none⟩ = some (.int .i64 0) := by rw [cell_of_row _ _ 0 _ _ _ hK.var]; rfl
    have pf' : ∀ o, t1.frozen? ⟨PB, o, none⟩ = false := fun o => frozen_of_row _ _ o _ _ hK.var
    have HN : Hid (MdS w wr (((t1.setCell ⟨w.heap.size + 2, 0, none⟩ (.slice b1 m1 d1)).setCell ⟨w.heap.size + 2, 1, none⟩ (.int .i64 g1)).setCell ⟨PB, 0, none⟩ (.int .i64 x1.1)) (w.heap.size + 2) PB #[.int .i64 x1.1, .int .i64 0, .slice none 0 0] 55 b1 m1 d1 g1 x1.2) := (HM0.out.rdSet hb hd).varSet 0 (.int .i64 x1.1)
    clear kk hd hb hK hbw HM0
    go_wp2_with fail
    clear r0 r1 rf pc pf'
    generalize ((t1.setCell ⟨w.heap.size + 2, 0, none⟩ (.slice b1 m1 d1)).setCell ⟨w.heap.size + 2, 1, none⟩ (.int .i64 g1)).setCell ⟨PB, 0, none⟩ (.int .i64 x1.1) = u1 at *
    have HM1 := HN
    clear HN
    have hbw : Below w.heap.size w u1 := HG0.out.below.trans (HM1.out.frm.below (by rw [hPB]; have := HG0.out.below.size; omega) (by simp))
    have kk := dnum_any w b1 m1 d1 g1 (x1.2) u1 hbw HM1.out.dr
    change Calls _ _ _ _ (fun e w' => ∃ ad' n' cap' er', e = .returned (.tuple #[.agg #[.slice ad' n' cap', .int .i64 er'], .int .i64 (nD x1.2).1]) ∧ DR w ad' n' cap' er' (nD x1.2).2 ∧ Below u1.heap.size u1 w') at kk
    rw [EX2.out] at kk
    refine kk.mono ?_
    rintro e t2 ⟨b2, m2, d2, g2, rfl, hd, hb⟩
    have hK := HM1.out.keep hb
    have r0 := two_cell0 hK.rd
    have r1 := two_cell1 hK.rd
    have rf := two_free hK.rd
    have pc : t2.cell? ⟨PB, 1, none⟩ = some (.int .i64 0) := by rw [cell_of_row _ _ 1 _ _ _ hK.var]; rfl
    have pf' : ∀ o, t2.frozen? ⟨PB, o, none⟩ = false := fun o => frozen_of_row _ _ o _ _ hK.var
    have HN : Hid (MdS w wr (((t2.setCell ⟨w.heap.size + 2, 0, none⟩ (.slice b2 m2 d2)).setCell ⟨w.heap.size + 2, 1, none⟩ (.int .i64 g2)).setCell ⟨PB, 1, none⟩ (.int .i64 x2.1)) (w.heap.size + 2) PB #[.int .i64 x1.1, .int .i64 x2.1, .slice none 0 0] 55 b2 m2 d2 g2 x2.2) := (HM1.out.rdSet hb hd).varSet 1 (.int .i64 x2.1)
    clear kk hd hb hK hbw HM1
    go_wp2_with fail
    clear r0 r1 rf pc pf'
    generalize ((t2.setCell ⟨w.heap.size + 2, 0, none⟩ (.slice b2 m2 d2)).setCell ⟨w.heap.size + 2, 1, none⟩ (.int .i64 g2)).setCell ⟨PB, 1, none⟩ (.int .i64 x2.1) = u2 at *
    have HM2 := HN
    clear HN
    have hbw : Below w.heap.size w u2 := HG0.out.below.trans (HM2.out.frm.below (by rw [hPB]; have := HG0.out.below.size; omega) (by simp))
    have kk := count_dr w b2 m2 d2 g2 16 x2.2 u2 hbw HM2.out.dr (by decide)
    have h30 := (cntS_bd (most := 16) HM2.out.dr.by (by decide)).1
    have h38 := cntS_le x2.2 (most := 16) (by decide)
    rw [EX3.out] at kk h30 h38
    obtain ⟨mk, hmk⟩ : ∃ m : Nat, x3.1 = m := ⟨x3.1.toNat, by omega⟩
    have hmk16 : mk ≤ 16 := by omega
    have HMK : Hid (up (stND x3.2) mk = hdK x3) := by
     unfold hdK
     rw [hmk]
     rfl
    rw [hmk] at kk
    clear h30 h38 hmk
    refine kk.mono ?_
    rintro e t3 ⟨b3, m3, d3, g3, rfl, hd, hb⟩
    have hK := HM2.out.keep hb
    have r0 := two_cell0 hK.rd
    have r1 := two_cell1 hK.rd
    have rf := two_free hK.rd
    have HM3 : Hid (MdS w wr ((t3.setCell ⟨w.heap.size + 2, 0, none⟩ (.slice b3 m3 d3)).setCell ⟨w.heap.size + 2, 1, none⟩ (.int .i64 g3)) (w.heap.size + 2) PB #[.int .i64 x1.1, .int .i64 x2.1, .slice none 0 0] 55 b3 m3 d3 g3 x3.2) := HM2.out.rdSet hb hd
    clear kk hd hb hK hbw HM2
    go_upto_block 4 with fail
    clear r0 r1 rf
    generalize (t3.setCell ⟨w.heap.size + 2, 0, none⟩ (.slice b3 m3 d3)).setCell ⟨w.heap.size + 2, 1, none⟩ (.int .i64 g3) = u3 at *
    generalize wr = wo at *
    have HM3' : Hid (MkS w wo u3 (w.heap.size + 2) PB x1.1 x2.1 (fun j => (nD (stND x3.2 j)).1) none 0 0 b3 m3 d3 g3 x3.2) := ⟨HM3.out, World.ownsRow_nil _ _ _ _⟩
    clear HM3
    go_cut [] (fun wc => ∃ (ka : Option Addr) (kc : Nat) (ad : Option Addr) (n cap : Nat) (er : Int), Hid (MkS w wo wc (w.heap.size + 2) PB x1.1 x2.1 (fun j => (nD (stND x3.2 j)).1) ka (hdK x3) kc ad n cap er (stND x3.2 (hdK x3))))
    case first =>
     go_wp2_with fail
     go_loopw [12, 13] (fun iv _ wq => ∃ (k : Nat) (ka : Option Addr) (kc : Nat) (ad : Option Addr) (n cap : Nat) (er : Int), k ≤ mk ∧ iv = .int .i64 k ∧ up (stND x3.2) k = k ∧ MkS w wo wq (w.heap.size + 2) PB x1.1 x2.1 (fun j => (nD (stND x3.2 j)).1) ka k kc ad n cap er (stND x3.2 k)) (fun iv _ _ => mk + 1 - (intOf iv).toNat)
     case atStart => exact ⟨0, none, 0, b3, m3, d3, g3, by omega, rfl, rfl, HM3'.out⟩
     case round =>
      clear HM3'
      obtain ⟨k, ka, kc, bd, n, cap, er, hk, rfl, hupk, hGk⟩ := hrel
      have HUK := hid_mk hupk
      have HGK := hid_mk hGk
      have hbigk := hGk.big
      have r0 := two_cell0 hGk.md.rd
      have r1 := two_cell1 hGk.md.rd
      have rf := two_free hGk.md.rd
      clear hGk hupk
      by_cases hgo : k < mk ∧ er = 0
      ·obtain ⟨hltk, rfl⟩ := hgo
       have hltk' : (k : Int) < mk := by omega
       have hqn : stND x3.2 k ≠ none := fun h => by have := HGK.out.md.dr; rw [h] at this; simp [DR] at this
       have HQK := hid_mk hqn
       clear hqn
       obtain ⟨x, ex⟩ : ∃ x, nD (stND x3.2 k) = x := ⟨_, rfl⟩
       have HX : Hid (nD (stND x3.2 k) = x ∧ stND x3.2 (k + 1) = x.2) := ⟨ex, by rw [stND, ex]⟩
       clear ex
       go_wp2_with fail
       clear r0 r1 rf
       have hbw : Below w.heap.size w wr := HG0.out.below.trans (HGK.out.md.frm.below (by rw [hPB]; have := HG0.out.below.size; omega) (by simp))
       have kk := dnum_any w bd n cap (0 : Int) (stND x3.2 k) wr hbw HGK.out.md.dr
       change Calls _ _ _ _ (fun e w' => ∃ ad' n' cap' er', e = .returned (.tuple #[.agg #[.slice ad' n' cap', .int .i64 er'], .int .i64 (nD (stND x3.2 k)).1]) ∧ DR w ad' n' cap' er' (nD (stND x3.2 k)).2 ∧ Below wr.heap.size wr w') at kk
       rw [HX.out.1] at kk
       refine kk.mono ?_
       rintro e t4 ⟨b4, m4, d4, g4, rfl, hd, hb⟩
       have hK := HGK.out.keep hb
       have r0 := two_cell0 hK.md.rd
       have r1 := two_cell1 hK.md.rd
       have rf := two_free hK.md.rd
       have HN4 : Hid (MkS w wo ((t4.setCell ⟨w.heap.size + 2, 0, none⟩ (.slice b4 m4 d4)).setCell ⟨w.heap.size + 2, 1, none⟩ (.int .i64 g4)) (w.heap.size + 2) PB x1.1 x2.1 (fun j => (nD (stND x3.2 j)).1) ka k kc b4 m4 d4 g4 (stND x3.2 (k + 1))) := by rw [HX.out.2]; exact HGK.out.rdSet hb hd
       clear kk hd hb hK hbw HGK
       go_upto_region 31 with fail
       clear r0 r1 rf
       generalize (t4.setCell ⟨w.heap.size + 2, 0, none⟩ (.slice b4 m4 d4)).setCell ⟨w.heap.size + 2, 1, none⟩ (.int .i64 g4) = u4 at *
       have pc : u4.cell? ⟨PB, 2, none⟩ = some (.slice ka k kc) := by rw [cell_of_row _ _ 2 _ _ _ HN4.out.md.var]; rfl
       have pf' : ∀ o, u4.frozen? ⟨PB, o, none⟩ = false := fun o => frozen_of_row _ _ o _ _ HN4.out.md.var
       go_wp2_with (first | (refine wpList_sliceKr rfl _ rfl x.1 rfl ?_; have hb6 : Below u4.heap.size u4 (u4.alloc (.cells #[.int .i64 x.1] 3)) := (Below.refl _ _).alloc (Nat.le_refl _) _; have hq6 : (u4.alloc (.cells #[.int .i64 x.1] 3)).heap[u4.heap.size]? = some (.cells #[.int .i64 x.1] 3 (0, 0)) := heap_alloc_new _ _; have HN6 := hid_mk (HN4.out.keep hb6); generalize u4.alloc (.cells #[.int .i64 x.1] 3) = u6 at *) | (at_builtin; refine wpList_app1 rfl _ _ 53 rfl (.slice ka k kc) (.slice (some ⟨u4.heap.size, 0, none⟩) 1 1) rfl rfl (fun v' w1 => ∃ va vc, v' = .slice va (k + 1) vc ∧ w1.ownsRow (PB + 1) 3 1 (.slice va (k + 1) vc) (k + 1) (kL ⟨x1.1, x2.1, k, fun j => (nD (stND x3.2 j)).1⟩ ++ [.int .i64 x.1]) ∧ u6.grownBy w1 (Value.slice ka k kc).ownBlock) (fun ty => by obtain ⟨va, vc, w1, h1, h2, h3⟩ := run_append_K u6 (PB + 1) u4.heap.size ty (.slice ka k kc) k (kL ⟨x1.1, x2.1, k, fun j => (nD (stND x3.2 j)).1⟩) x.1 HN6.out.own HN6.out.big hq6 (by omega); exact ⟨_, w1, h1, va, vc, rfl, h2, h3⟩) ?_; rintro v' u7 ⟨va, vc, rfl, hown, hgrow⟩; have hlo := grown_low HN6.out.own hgrow HN6.out.big; have hx7 : u7.heap[PB]? = some (.cells #[.int .i64 x1.1, .int .i64 x2.1, .slice ka k kc] 55 (0, 0)) := (by rw [hlo _ (by omega)]; exact HN6.out.md.var); have y2 : u7.cell? ⟨PB, 2, none⟩ = some (.slice ka k kc) := (by rw [cell_of_row _ _ 2 _ _ _ hx7]; rfl); have yf : ∀ o, u7.frozen? ⟨PB, o, none⟩ = false := (fun o => frozen_of_row _ _ o _ _ hx7); have HN7 : Hid (MkS w wo (u7.setCell ⟨PB, 2, none⟩ (.slice va (k + 1) vc)) (w.heap.size + 2) PB x1.1 x2.1 (fun j => (nD (stND x3.2 j)).1) va (k + 1) vc b4 m4 d4 g4 (stND x3.2 (k + 1))) := HN6.out.push (by rw [HX.out.1]; exact hown) hgrow; clear hown hgrow hlo hx7) | fail)
       go_roundw
       case rel => exact ⟨k + 1, _, _, _, _, _, _, by omega, by go_num, up_next HUK.out HQK.out, HN7.out⟩
       case measure => simp [intOf]; omega
      ·have hpi : k = hdK x3 ∧ (er = 0 → ¬ (k : Int) < mk) := by
        have h1 := HMK.out
        by_cases hlt : k < mk
        ·have he : er ≠ 0 := fun h => hgo ⟨hlt, h⟩
         have hqn : stND x3.2 k = none := by
          have h2 := HGK.out.md.dr
          cases e : stND x3.2 k with
          | none => rfl
          | some l' => rw [e] at h2; exact absurd h2.1 he
         exact ⟨by rw [← h1]; exact (up_stop HUK.out hqn mk (by omega)).symm, fun h => absurd h he⟩
        ·obtain rfl : k = mk := by omega
         exact ⟨by rw [← h1]; exact HUK.out.symm, fun _ => by omega⟩
       have HEX : Hid (MkS w wo wr (w.heap.size + 2) PB x1.1 x2.1 (fun j => (nD (stND x3.2 j)).1) ka (hdK x3) kc bd n cap er (stND x3.2 (hdK x3))) := by rw [← hpi.1]; exact HGK.out
       by_cases he : er = 0
       ·have hnn := hpi.2 he
        subst he
        clear hpi hgo HGK HUK
        go_wp2_with fail
        go_meet
        exact ⟨ka, kc, bd, n, cap, 0, HEX.out⟩
       ·have he' : (er == 0) = false := by simpa using he
        clear hpi hgo HGK HUK he
        by_cases hlt : (k : Int) < mk
        ·go_wp2_with fail
         go_meet
         exact ⟨ka, kc, bd, n, cap, er, HEX.out⟩
        ·go_wp2_with fail
         go_meet
         exact ⟨ka, kc, bd, n, cap, er, HEX.out⟩
    case rest =>
    obtain ⟨ka, kc, bd, n', cap', er', HK3⟩ := hcut
    clear HM3' HMK
    generalize wc = u4 at *
    have hD5 : DdS w u4 s.nu s.a s.b s.P s.H p A s.pn i bd n' cap' er' (stHD (f5 l).2 (i + 1)) := by rw [HPI.out.2]; exact HG0.out.frm HK3.out.md.frm HK3.out.md.rd HK3.out.md.dr
    have hg5 : u4.heap[PB]? = some (.cells (hdv (s.H i) ka kc) 55 (0, 0)) := by rw [HPI.out.1]; exact HK3.out.md.var
    have hk5 : u4.ownsRow (w.heap.size + 3) 3 1 (.slice ka (s.H i).n kc) (s.H i).n (kL (s.H i)) := by rw [HPI.out.1]; exact own_low HK3.out.own (by omega)
    have hrg : u4.rangeAt PB 0 (hdl (s.H i) ka kc) := range_row hg5
    have HRG := hid_mk hrg
    have HD5 : Hid (DdS w u4 s.nu s.a s.b s.P s.H p A s.pn i bd n' cap' er' (stHD (f5 l).2 (i + 1)) ∧ u4.ownsRow (w.heap.size + 3) 3 1 (.slice ka (s.H i).n kc) (s.H i).n (kL (s.H i))) := ⟨hD5, hk5⟩
    obtain ⟨_, _, _, _, z4, _⟩ := five_of hD5.box
    clear hD5 hg5 hk5 hrg HK3 HG0 HPI EX1 EX2 EX3
    go_wp2_with (first | (refine wpList_load_mid rfl 55 _ rfl PB 0 rfl (hdl (s.H i) ka kc) _ HRG.out Tryz.underlying55 rfl szHr ?_) | (refine wpList_sliceHr rfl _ rfl (s.H i) ka kc rfl ?_; have hb6 : Below u4.heap.size u4 (u4.alloc (.cells (hdv (s.H i) ka kc) 55)) := (Below.refl _ _).alloc (Nat.le_refl _) _; have hq6 : (u4.alloc (.cells (hdv (s.H i) ka kc) 55)).heap[u4.heap.size]? = some (.cells (hdv (s.H i) ka kc) 55 (0, 0)) := heap_alloc_new _ _; have HD6 : Hid (DdS w (u4.alloc (.cells (hdv (s.H i) ka kc) 55)) s.nu s.a s.b s.P s.H p A s.pn i bd n' cap' er' (stHD (f5 l).2 (i + 1)) ∧ (u4.alloc (.cells (hdv (s.H i) ka kc) 55)).ownsRow (w.heap.size + 3) 3 1 (.slice ka (s.H i).n kc) (s.H i).n (kL (s.H i))) := ⟨HD5.out.1.keep hb6, own_below HD5.out.2 hb6⟩; generalize u4.alloc (.cells (hdv (s.H i) ka kc) 55) = u6 at *) | (at_builtin; refine wpList_app1 rfl _ _ 24 rfl (.slice p.ha i p.hc) (.slice (some ⟨u4.heap.size, 0, none⟩) 1 1) rfl rfl (fun v' w1 => ∃ va vc, v' = .slice va (i + 1) vc ∧ w1.ownsRow (w.heap.size + 3) 55 3 (.slice va (i + 1) vc) (i + 1) (flatL (hf s.H A) i ++ hdl (s.H i) ka kc) ∧ u6.grownBy w1 (Value.slice p.ha i p.hc).ownBlock) (fun ty => by obtain ⟨va, vc, w1, h1, h2, h3⟩ := run_append_Hr u6 (w.heap.size + 3) u4.heap.size ty (.slice p.ha i p.hc) i (flatL (hf s.H A) i) (s.H i) ka kc HD6.out.1.hd HD6.out.1.big hq6 (by omega); exact ⟨_, w1, h1, va, vc, rfl, h2, h3⟩) ?_; rintro v' u7 ⟨va, vc, rfl, hown, hgrow⟩; have hlo := grown_low HD6.out.1.hd hgrow HD6.out.1.big; have hx7 : u7.heap[w.heap.size + 1]? = some (.cells #[.int .i64 s.nu, .int .i64 s.a, .int .i64 s.b, .slice p.pa s.pn p.pc, .slice p.ha i p.hc] 26 (0, 0)) := (by rw [hlo _ (by omega)]; exact HD6.out.1.box); have y4 := (five_of hx7).c4; have yf : ∀ o, u7.frozen? ⟨w.heap.size + 1, o, none⟩ = false := (fun o => frozen_of_row _ _ o _ _ hx7); have HN7 : Hid (DdS w (u7.setCell ⟨w.heap.size + 1, 4, none⟩ (.slice va (i + 1) vc)) s.nu s.a s.b s.P s.H ⟨p.pa, p.pc, va, vc⟩ (fun k => if k = i then (ka, kc) else A k) s.pn (i + 1) bd n' cap' er' (stHD (f5 l).2 (i + 1))) := HD6.out.1.pushH HD6.out.2 hown hgrow; clear hown hgrow hlo hx7) | fail)
    go_roundw
    case rel => exact ⟨i + 1, _, _, _, _, _, _, by omega, by go_num, up_next HUP.out HQN.out, HN7.out⟩
    case measure => simp [intOf]; omega
   ·have hpi : i = s.hn ∧ (er = 0 → ¬ (i : Int) < m') := by
     have h1 := HM'.out
     by_cases hlt : i < m'
     ·have he : er ≠ 0 := fun h => hgo ⟨hlt, h⟩
      have hqn : stHD (f5 l).2 i = none := by
       have h2 := HG.out.dr
       cases e : stHD (f5 l).2 i with
       | none => rfl
       | some l' => rw [e] at h2; exact absurd h2.1 he
      exact ⟨by rw [← h1]; exact (up_stop HUP.out hqn m' (by omega)).symm, fun h => absurd h he⟩
     ·obtain rfl : i = m' := by omega
      exact ⟨by rw [← h1]; exact HUP.out.symm, fun _ => by omega⟩
    have HEX : Hid (DdS w wr s.nu s.a s.b s.P s.H p A s.pn s.hn ad n cap er (stHD (f5 l).2 s.hn)) := by rw [← hpi.1]; exact HG.out
    by_cases he : er = 0
    ·have hnn := hpi.2 he
     subst he
     clear hpi hgo HG HUP
     go_wp2_with fail
     go_meet
     exact ⟨p, A, ad, n, cap, 0, HEX.out⟩
    ·have he' : (er == 0) = false := by simpa using he
     clear hpi hgo HG HUP he
     by_cases hlt : (i : Int) < m'
     ·go_wp2_with fail
      go_meet
      exact ⟨p, A, ad, n, cap, er, HEX.out⟩
     ·go_wp2_with fail
      go_meet
      exact ⟨p, A, ad, n, cap, er, HEX.out⟩
 case rest =>
 obtain ⟨p, A, ad, n, cap, er, HD7⟩ := hcut
 clear HD6 HM'
 generalize wc = W7 at *
 have hqe : stHD (f5 l).2 s.hn = docQ l := by rw [← EN.out.2]; rfl
 have HG2 : Hid (DdS w W7 s.nu s.a s.b s.P s.H p A s.pn s.hn ad n cap er (docQ l)) := by rw [← hqe]; exact HD7.out
 clear hqe HD7
 have r0 := two_cell0 HG2.out.rd
 have r1 := two_cell1 HG2.out.rd
 go_wp2_with fail
 clear r0 r1
 refine (done_dr w ad n cap er (docQ l) W7 HG2.out.dr).mono ?_
 rintro e w11 ⟨⟨x, rfl, hx⟩, hb11⟩
 have HG3 : Hid (DdS w w11 s.nu s.a s.b s.P s.H p A s.pn s.hn ad n cap er (docQ l)) := HG2.out.keep hb11
 clear hb11 HG2
 obtain ⟨y0, y1, y2, y3, y4, yf⟩ := five_of HG3.out.res
 obtain ⟨x0, x1, x2, x3, x4, xf⟩ := five_of HG3.out.box
 have HSA : Hid (SvAt w11 s p) := HG3.out.at w11 (fun _ _ _ => rfl)
 by_cases hq : docQ l = some []
 ·have hx0 : x = 0 := hx.1 hq
  subst hx0
  clear hx
  go_wp2_with fail
  have kc := rcheck_any s p w11 HSA.out HSM.out
  unfold svv at kc
  by_cases hok : SOk s
  ·have hc0 : chkE s = 0 := if_pos hok
   rw [hc0] at kc
   have HT : Hid (docT l = s ∧ docE l = 0) := by
    have hd : docOk l := ⟨hq, by rw [HE.out]; exact hok⟩
    exact ⟨by rw [docT, if_pos hd, HE.out], by rw [docE, if_pos hd]⟩
   refine kc.mono ?_
   rintro e w12 ⟨rfl, hb12⟩
   have HG4 : Hid (DdS w w12 s.nu s.a s.b s.P s.H p A s.pn s.hn ad n cap er (docQ l)) := HG3.out.keep hb12
   clear y0 y1 y2 y3 y4 yf x0 x1 x2 x3 x4 xf kc hc0 hb12 HSA hq hok HG3
   obtain ⟨y0, y1, y2, y3, y4, yf⟩ := five_of HG4.out.res
   obtain ⟨x0, x1, x2, x3, x4, xf⟩ := five_of HG4.out.box
   go_wp2
   have hw2 := HG4.out.res
   refine bodyPost_ret (results_R2 Tryz.results7 _ _ w.heap.size 26 _ _ _ _ _ (0, 0) rfl (five_all hw2)) rfl ⟨p, ?_, ?_, five_below HG4.out.below (Nat.le_refl _)⟩
   ·rw [HT.out.1, HT.out.2]; rfl
   ·rw [HT.out.1]
    exact HG4.out.at _ (fun k h1 h2 => five_other (by omega))
  ·have hc1 : chkE s = 1 := if_neg hok
   rw [hc1] at kc
   have HT : Hid (docT l = sv0 ∧ docE l = 3) := by
    have hd : ¬ docOk l := fun h => hok (by rw [← HE.out]; exact h.2)
    exact ⟨by rw [docT, if_neg hd], by rw [docE, if_neg hd]⟩
   refine kc.mono ?_
   rintro e w12 ⟨rfl, hb12⟩
   have HG4 : Hid (DdS w w12 s.nu s.a s.b s.P s.H p A s.pn s.hn ad n cap er (docQ l)) := HG3.out.keep hb12
   clear y0 y1 y2 y3 y4 yf x0 x1 x2 x3 x4 xf kc hc1 hb12 HSA hq hok HG3
   obtain ⟨y0, y1, y2, y3, y4, yf⟩ := five_of HG4.out.res
   go_wp2
   have hw2 := HG4.out.res
   refine bodyPost_ret (results_R2 Tryz.results7 _ _ w.heap.size 26 _ _ _ _ _ (0, 0) rfl (five_all hw2)) rfl ⟨pl0, ?_, ?_, five_below HG4.out.below (Nat.le_refl _)⟩
   ·rw [HT.out.1, HT.out.2]; rfl
   ·rw [HT.out.1]; exact sv0_at _
 ·have hx1 : (x == 0) = false := by simpa using fun h => hq (hx.2 h)
  have hx2 : (x != 0) = true := by simp [bne, hx1]
  have hx3 : ¬ x = 0 := by simpa using hx1
  have HT : Hid (docT l = sv0 ∧ docE l = 3) := by
   have hd : ¬ docOk l := fun h => hq h.1
   exact ⟨by rw [docT, if_neg hd], by rw [docE, if_neg hd]⟩
  clear hx hq HSA x0 x1 x2 x3 x4 xf
  go_wp2
  have hw2 := HG3.out.res
  refine bodyPost_ret (results_R2 Tryz.results7 _ _ w.heap.size 26 _ _ _ _ _ (0, 0) rfl (five_all hw2)) rfl ⟨pl0, ?_, ?_, five_below HG3.out.below (Nat.le_refl _)⟩
  ·rw [HT.out.1, HT.out.2]; rfl
  ·rw [HT.out.1]; exact sv0_at _
end Go.Proofs.YthmmmkldmhjogaaGreatDoor
/- The document's readers are those of a bound. -/
namespace Go.Proofs.YthmmmkldmhjogaaGreatDoor
open Go.RowKit

theorem pyD_M (q : Option (List Int)) : pyD q = pyM 1125899906842624 q := rfl
theorem stND_M (q : Option (List Int)) : ∀ j, stND q j = stM 1125899906842624 q j
 | 0 => rfl
 | j + 1 => by rw [stND, stM, stND_M q j]; rfl
theorem up_all {f : Nat → Option (List Int)} : ∀ m, (∀ i, i < m → f i ≠ none) → up f m = m
 | 0, _ => rfl
 | m + 1, h => up_next (up_all m fun i hi => h i (by omega)) (h m (by omega))
theorem up_full {f : Nat → Option (List Int)} : ∀ m, f (up f m) ≠ none → up f m = m
 | 0, _ => rfl
 | m + 1, h => by
  unfold up at h ⊢
  split at h
  ·rename_i h1
   exact absurd (Option.isNone_iff_eq_none.1 h1) h
  ·rename_i h1
   rw [if_neg h1, up_full m (fun h0 => h1 (by rw [h0]; rfl))]
theorem stPD_dead {q : Option (List Int)} (i : Nat) (h : stPD q i = none) : stPD q (i + 1) = none := by rw [stPD, h]; rfl
theorem stHD_dead {q : Option (List Int)} (i : Nat) (h : stHD q i = none) : stHD q (i + 1) = none := by rw [stHD, h]; rfl
theorem hdD_M (q : Option (List Int)) : hdD q = hdM 1125899906842624 q (hdK (cntS 16 (numM 1125899906842624 (numM 1125899906842624 q).2).2)) := by
 unfold hdD hdM
 simp only [stND_M]
 rfl
end Go.Proofs.YthmmmkldmhjogaaGreatDoor
/- Both readers read the same states. -/
namespace Go.Proofs.YthmmmkldmhjogaaGreatDoor
open Go.RowKit

theorem hdK_full {x : Int × Option (List Int)} (h : stND x.2 (hdK x) ≠ none) : hdK x = x.1.toNat := up_full _ h
theorem hdD_laid (q : Option (List Int)) (r : List Int) (hb : ByQ q) (h : (hdD q).2 = some r) : q = some (laidH (hdD q).1 ++ r) ∧ ByQ (some r) := by
 have h0 : hdK (cntS 16 (nD (nD q).2).2) = (cntS 16 (nD (nD q).2).2).1.toNat := hdK_full (by
  have h' : stND (cntS 16 (nD (nD q).2).2).2 (hdK (cntS 16 (nD (nD q).2).2)) = some r := h
  rw [h']; exact fun h => by cases h)
 rw [hdD_M] at h ⊢
 exact hdM_laid (by decide) hb h0 h
theorem docS_laid {l : List Int} (hb : ByQ (some l)) (h : docQ l = some []) : laidS (docS l) = l := by
 have hn : stHD (f5 l).2 (f5n l) ≠ none := by
  have h' : stHD (f5 l).2 (f5n l) = some [] := h
  rw [h']; exact fun h => by cases h
 have h5n : f5n l = (f5 l).1.toNat := up_full _ hn
 have n5 : (f5 l).2 ≠ none := none_up (f := stHD (f5 l).2) (fun i => stHD_dead i) (f5n l) 0 (by omega) hn
 have n4 : stPD (f4 l).2 (f4n l) ≠ none := fun h => n5 (by unfold f5; rw [h]; rfl)
 have h4n : f4n l = (f4 l).1.toNat := up_full _ n4
 exact state_laid (M := 1125899906842624) (by decide) hb (f1 l) (f2 l) (f3 l) (f4 l) (f5 l) rfl rfl rfl rfl pyD hdD (stPD (f4 l).2) (stHD (f5 l).2) rfl (fun _ => rfl) rfl (fun q r hq hr => by rw [pyD_M] at hr ⊢; exact pyM_laid (by decide) hq hr) (f4n l) (f5n l) h4n rfl rfl (fun _ => rfl) rfl hdD_laid h5n h
/-- Both read the same numbers. -/
theorem numA {q : Option (List Int)} (h : (nD q).2 ≠ none) : numS q = nD q := by
 obtain ⟨r, hr⟩ := some_of h
 obtain ⟨l, rfl, e⟩ := tk_some hr
 have e2 := uintR_up (M1 := 9223372036854775807) (by decide) e
 show tk (uintR 9223372036854775807) 0 (some l) = _
 simp only [tk, e2]
 exact Prod.ext rfl hr.symm
theorem numB {q : Option (List Int)} (h : (numS q).2 ≠ none) (hv : (numS q).1 ≤ 1125899906842624) : nD q = numS q := by
 obtain ⟨r, hr⟩ := some_of h
 obtain ⟨l, rfl, e⟩ := tk_some hr
 have e2 := uintR_down (M2 := 1125899906842624) hv e
 show tk (uintR 1125899906842624) 0 (some l) = _
 simp only [tk, e2]
 exact Prod.ext rfl hr.symm
theorem stA {q : Option (List Int)} {n : Nat} (h : stND q n ≠ none) : ∀ j, j ≤ n → stN q j = stND q j
 | 0, _ => rfl
 | j + 1, hj => by
  have h1 : stND q (j + 1) ≠ none := none_up (f := stND q) (fun i h => by rw [stND, h]; rfl) n (j + 1) hj h
  rw [stN, stA h j (by omega), numA h1]
  rfl
theorem stB {q : Option (List Int)} {n : Nat} (h : stN q n ≠ none) (hv : ∀ j, j < n → (numS (stN q j)).1 ≤ 1125899906842624) : ∀ j, j ≤ n → stND q j = stN q j
 | 0, _ => rfl
 | j + 1, hj => by
  have h1 : stN q (j + 1) ≠ none := none_up (f := stN q) (fun i h => by rw [stN, h]; rfl) n (j + 1) hj h
  rw [stND, stB h hv j (by omega), numB h1 (hv j (by omega))]
  rfl
theorem pyA {q : Option (List Int)} (h : (pyD q).2 ≠ none) : pyS q = pyD q := by
 have n4 : (nD (nD (nD (nD q).2).2).2).2 ≠ none := fun h0 => h (by show (hshS (nD (nD (nD (nD q).2).2).2).2).2 = none; rw [h0]; rfl)
 have n3 : (nD (nD (nD q).2).2).2 ≠ none := fun h0 => n4 (by rw [h0]; rfl)
 have n2 : (nD (nD q).2).2 ≠ none := fun h0 => n3 (by rw [h0]; rfl)
 have n1 : (nD q).2 ≠ none := fun h0 => n2 (by rw [h0]; rfl)
 unfold pyS pyD
 rw [numA n1, numA n2, numA n3, numA n4]
theorem pyB {q : Option (List Int)} (h : (pyS q).2 ≠ none) (v1 : (pyS q).1.id ≤ 1125899906842624) (v2 : (pyS q).1.fr ≤ 1125899906842624) (v3 : (pyS q).1.am ≤ 1125899906842624) (v4 : (pyS q).1.af ≤ 1125899906842624) : pyD q = pyS q := by
 have n4 : (numS (numS (numS (numS q).2).2).2).2 ≠ none := fun h0 => h (by show (hshS (numS (numS (numS (numS q).2).2).2).2).2 = none; rw [h0]; rfl)
 have n3 : (numS (numS (numS q).2).2).2 ≠ none := fun h0 => n4 (by rw [h0]; rfl)
 have n2 : (numS (numS q).2).2 ≠ none := fun h0 => n3 (by rw [h0]; rfl)
 have n1 : (numS q).2 ≠ none := fun h0 => n2 (by rw [h0]; rfl)
 unfold pyS pyD
 rw [numB n1 v1, numB n2 v2, numB n3 v3, numB n4 v4]
theorem hdA {q : Option (List Int)} (h : (hdD q).2 ≠ none) : (hdS q).2 = (hdD q).2 ∧ HA (hdS q).1 (hdD q).1 := by
 have hk : stND (cntS 16 (nD (nD q).2).2).2 (hdK (cntS 16 (nD (nD q).2).2)) ≠ none := h
 have n3 : (cntS 16 (nD (nD q).2).2).2 ≠ none := none_up (f := stND (cntS 16 (nD (nD q).2).2).2) (fun i h => by rw [stND, h]; rfl) _ 0 (by omega) hk
 have n2 : (nD (nD q).2).2 ≠ none := fun h0 => n3 (by rw [h0]; rfl)
 have n1 : (nD q).2 ≠ none := fun h0 => n2 (by rw [h0]; rfl)
 have hf := hdK_full hk
 unfold hdS hdD HA
 rw [numA n1, numA n2]
 dsimp only
 rw [hf] at hk
 rw [hf]
 refine ⟨stA hk _ (Nat.le_refl _), rfl, rfl, rfl, fun j hj => ?_⟩
 rw [stA hk j (by omega), numA]
 exact none_up (f := stND (cntS 16 (nD (nD q).2).2).2) (fun i h => by rw [stND, h]; rfl) _ (j + 1) hj hk
theorem hdB {q : Option (List Int)} (h : (hdS q).2 ≠ none) (v1 : (hdS q).1.id ≤ 1125899906842624) (v2 : (hdS q).1.am ≤ 1125899906842624) (v3 : ∀ j, j < (hdS q).1.n → (hdS q).1.z j ≤ 1125899906842624) : (hdD q).2 = (hdS q).2 ∧ HA (hdD q).1 (hdS q).1 := by
 have hk : stN (cntS 16 (numS (numS q).2).2).2 (cntS 16 (numS (numS q).2).2).1.toNat ≠ none := h
 have n3 : (cntS 16 (numS (numS q).2).2).2 ≠ none := none_up (f := stN (cntS 16 (numS (numS q).2).2).2) (fun i h => by rw [stN, h]; rfl) _ 0 (by omega) hk
 have n2 : (numS (numS q).2).2 ≠ none := fun h0 => n3 (by rw [h0]; rfl)
 have n1 : (numS q).2 ≠ none := fun h0 => n2 (by rw [h0]; rfl)
 have hs := stB hk v3
 unfold hdS hdD HA
 rw [numB n1 v1, numB n2 v2]
 dsimp only
 have hf : hdK (cntS 16 (numS (numS q).2).2) = (cntS 16 (numS (numS q).2).2).1.toNat := up_all _ (fun i hi => by
  rw [hs i (by omega)]
  exact none_up (f := stN (cntS 16 (numS (numS q).2).2).2) (fun i h => by rw [stN, h]; rfl) _ i (by omega) hk)
 rw [hf]
 refine ⟨hs _ (Nat.le_refl _), rfl, rfl, rfl, fun j hj => ?_⟩
 rw [hs j (by omega), numB]
 ·exact none_up (f := stN (cntS 16 (numS (numS q).2).2).2) (fun i h => by rw [stN, h]; rfl) _ (j + 1) hj hk
 ·exact v3 j hj
theorem rowA {X : Type} {g g' : Option (List Int) → X × Option (List Int)} {st st' : Nat → Option (List Int)} (h0 : st 0 = st' 0) (hs : ∀ i, st (i + 1) = (g (st i)).2) (hs' : ∀ i, st' (i + 1) = (g' (st' i)).2) {n : Nat} (hg : ∀ i, i < n → (g (st' i)).2 = (g' (st' i)).2) : ∀ i, i ≤ n → st i = st' i
 | 0, _ => h0
 | i + 1, hi => by rw [hs, hs', rowA h0 hs hs' hg i (by omega), hg i (by omega)]
theorem doc_dec {l : List Int} (h : docOk l) : decOk l := by
 obtain ⟨hq, ho⟩ := h
 have hn : stHD (f5 l).2 (f5n l) ≠ none := by
  have h' : stHD (f5 l).2 (f5n l) = some [] := hq
  rw [h']; exact fun h => by cases h
 have h5n : f5n l = (f5 l).1.toNat := up_full _ hn
 have n5 : (f5 l).2 ≠ none := none_up (f := stHD (f5 l).2) (fun i => stHD_dead i) (f5n l) 0 (by omega) hn
 have n4 : stPD (f4 l).2 (f4n l) ≠ none := fun h => n5 (by unfold f5; rw [h]; rfl)
 have h4n : f4n l = (f4 l).1.toNat := up_full _ n4
 have n40 : (f4 l).2 ≠ none := none_up (f := stPD (f4 l).2) (fun i => stPD_dead i) (f4n l) 0 (by omega) n4
 have n3 : (f3 l).2 ≠ none := fun h => n40 (by unfold f4; rw [h]; rfl)
 have n2 : (f2 l).2 ≠ none := fun h => n3 (by unfold f3; rw [h]; rfl)
 have n1 : (f1 l).2 ≠ none := fun h => n2 (by unfold f2; rw [h]; rfl)
 have e1 : d1 l = f1 l := numA n1
 have e2 : d2 l = f2 l := by unfold d2; rw [e1]; exact numA n2
 have e3 : d3 l = f3 l := by unfold d3; rw [e2]; exact numA n3
 have e4 : d4 l = f4 l := by unfold d4; rw [e3]; rfl
 have rp : ∀ i, i ≤ f4n l → stP (f4 l).2 i = stPD (f4 l).2 i := rowA (g := pyS) (g' := pyD) (st := stP (f4 l).2) (st' := stPD (f4 l).2) rfl (fun _ => rfl) (fun _ => rfl) (fun i hi => by rw [pyA (none_up (f := stPD (f4 l).2) (fun i => stPD_dead i) (f4n l) (i + 1) hi n4)])
 have e5 : d5 l = f5 l := by unfold d5 f5; rw [e4, ← h4n, rp _ (Nat.le_refl _)]
 have nh : ∀ i, i < f5n l → (hdD (stHD (f5 l).2 i)).2 ≠ none := fun i hi => none_up (f := stHD (f5 l).2) (fun i => stHD_dead i) (f5n l) (i + 1) hi hn
 have rh : ∀ i, i ≤ f5n l → stH (f5 l).2 i = stHD (f5 l).2 i := rowA (g := hdS) (g' := hdD) (st := stH (f5 l).2) (st' := stHD (f5 l).2) rfl (fun _ => rfl) (fun _ => rfl) (fun i hi => (hdA (nh i hi)).1)
 refine ⟨?_, SOk_congr (s := docS l) ?_ ?_ ?_ ?_ (fun j hj => ?_) ?_ (fun j hj => ?_) ho⟩
 ·unfold decQ
  rw [e5, ← h5n, rh _ (Nat.le_refl _)]
  exact hq
 ·show (f1 l).1 = (d1 l).1; rw [e1]
 ·show (f2 l).1 = (d2 l).1; rw [e2]
 ·show (f3 l).1 = (d3 l).1; rw [e3]
 ·show f4n l = (d4 l).1.toNat; rw [e4, h4n]
 ·have hj' : j < f4n l := hj
  show (pyD (stPD (f4 l).2 j)).1 = (pyS (stP (d4 l).2 j)).1
  rw [e4, rp j (by omega), pyA (none_up (f := stPD (f4 l).2) (fun i => stPD_dead i) (f4n l) (j + 1) hj' n4)]
 ·show f5n l = (d5 l).1.toNat; rw [e5, h5n]
 ·have hj' : j < f5n l := hj
  show HA (hdD (stHD (f5 l).2 j)).1 (hdS (stH (d5 l).2 j)).1
  rw [e5, rh j (by omega)]
  obtain ⟨a, b, c, d⟩ := (hdA (nh j hj')).2
  exact ⟨a.symm, b.symm, c.symm, fun k hk => (d k (by rw [c]; exact hk)).symm⟩
theorem dec_doc {l : List Int} (h : decOk l) : docOk l := by
 obtain ⟨hq, ho⟩ := h
 have hnum := ho.1
 have hps : PsOk (fun i => (pyS (stP (d4 l).2 i)).1) (d4 l).1.toNat := ho.2.1.2.1
 have hhs : HsOk (fun i => (hdS (stH (d5 l).2 i)).1) (d5 l).1.toNat := ho.2.1.2.2
 have hn : stH (d5 l).2 (d5 l).1.toNat ≠ none := by
  have h' : stH (d5 l).2 (d5 l).1.toNat = some [] := hq
  rw [h']; exact fun h => by cases h
 have n5 : (d5 l).2 ≠ none := none_up (f := stH (d5 l).2) (fun i => stH_dead i) _ 0 (by omega) hn
 have n4 : stP (d4 l).2 (d4 l).1.toNat ≠ none := fun h => n5 (by unfold d5; rw [h]; rfl)
 have n40 : (d4 l).2 ≠ none := none_up (f := stP (d4 l).2) (fun i => stP_dead i) _ 0 (by omega) n4
 have n3 : (d3 l).2 ≠ none := fun h => n40 (by unfold d4; rw [h]; rfl)
 have n2 : (d2 l).2 ≠ none := fun h => n3 (by unfold d3; rw [h]; rfl)
 have n1 : (d1 l).2 ≠ none := fun h => n2 (by unfold d2; rw [h]; rfl)
 have v1 : (d1 l).1 ≤ 1099511627776 := hnum.1.2
 have v2 : (d2 l).1 ≤ 1125899906842624 := hnum.2.1.2
 have v3 : (d3 l).1 ≤ 1125899906842624 := hnum.2.2.2
 have e1 : f1 l = d1 l := numB n1 (Int.le_trans v1 (by decide))
 have e2 : f2 l = d2 l := by unfold f2; rw [e1]; exact numB n2 v2
 have e3 : f3 l = d3 l := by unfold f3; rw [e2]; exact numB n3 v3
 have e4 : f4 l = d4 l := by unfold f4; rw [e3]; rfl
 have pb : ∀ i, i < (d4 l).1.toNat → pyD (stP (d4 l).2 i) = pyS (stP (d4 l).2 i) := fun i hi => by
  obtain ⟨_, h1, h2, h3, h4, _⟩ := hps i hi
  dsimp only at h1 h2 h3 h4
  exact pyB (none_up (f := stP (d4 l).2) (fun i => stP_dead i) _ (i + 1) hi n4) (by omega) (by omega) (by omega) (by omega)
 have rp : ∀ i, i ≤ (d4 l).1.toNat → stPD (d4 l).2 i = stP (d4 l).2 i := rowA (g := pyD) (g' := pyS) (st := stPD (d4 l).2) (st' := stP (d4 l).2) rfl (fun _ => rfl) (fun _ => rfl) (fun i hi => by rw [pb i hi])
 have h4n : f4n l = (d4 l).1.toNat := by
  unfold f4n
  rw [e4]
  exact up_all _ (fun i hi => by rw [rp i (by omega)]; exact none_up (f := stP (d4 l).2) (fun i => stP_dead i) _ i (by omega) n4)
 have e5 : f5 l = d5 l := by unfold d5 f5; rw [e4, h4n, rp _ (Nat.le_refl _)]
 have hb' : ∀ i, i < (d5 l).1.toNat → (hdD (stH (d5 l).2 i)).2 = (hdS (stH (d5 l).2 i)).2 ∧ HA (hdD (stH (d5 l).2 i)).1 (hdS (stH (d5 l).2 i)).1 := fun i hi => by
  obtain ⟨_, h1, h2, h3, _⟩ := hhs i hi
  dsimp only at h1 h2 h3
  exact hdB (none_up (f := stH (d5 l).2) (fun i => stH_dead i) _ (i + 1) hi hn) (by omega) (by omega) (fun j hj => by have := (h3 j hj).2; omega)
 have rh : ∀ i, i ≤ (d5 l).1.toNat → stHD (d5 l).2 i = stH (d5 l).2 i := rowA (g := hdD) (g' := hdS) (st := stHD (d5 l).2) (st' := stH (d5 l).2) rfl (fun _ => rfl) (fun _ => rfl) (fun i hi => (hb' i hi).1)
 have h5n : f5n l = (d5 l).1.toNat := by
  unfold f5n
  rw [e5]
  exact up_all _ (fun i hi => by rw [rh i (by omega)]; exact none_up (f := stH (d5 l).2) (fun i => stH_dead i) _ i (by omega) hn)
 refine ⟨?_, SOk_congr (s := decS l) ?_ ?_ ?_ ?_ (fun j hj => ?_) ?_ (fun j hj => ?_) ho⟩
 ·unfold docQ
  rw [e5, h5n, rh _ (Nat.le_refl _)]
  exact hq
 ·show (d1 l).1 = (f1 l).1; rw [e1]
 ·show (d2 l).1 = (f2 l).1; rw [e2]
 ·show (d3 l).1 = (f3 l).1; rw [e3]
 ·show (d4 l).1.toNat = f4n l; rw [h4n]
 ·have hj' : j < (d4 l).1.toNat := hj
  show (pyS (stP (d4 l).2 j)).1 = (pyD (stPD (f4 l).2 j)).1
  rw [e4, rp j (by omega), pb j hj']
 ·show (d5 l).1.toNat = f5n l; rw [h5n]
 ·have hj' : j < (d5 l).1.toNat := hj
  show HA (hdS (stH (d5 l).2 j)).1 (hdD (stHD (f5 l).2 j)).1
  rw [e5, rh j (by omega)]
  obtain ⟨a, b, c, d⟩ := (hb' j hj').2
  exact ⟨a.symm, b.symm, c.symm, fun k hk => (d k (by rw [c]; exact hk)).symm⟩
theorem decE_doc (l : List Int) : decE l = docE l := by
 unfold decE docE
 by_cases h : decOk l
 ·rw [if_pos h, if_pos (dec_doc h)]
 ·rw [if_neg h, if_neg (fun h' => h (doc_dec h'))]
theorem laid_T {l : List Int} (hb : ByQ (some l)) : laidS (decT l) = laidS (docT l) := by
 unfold decT docT
 by_cases h : decOk l
 ·rw [if_pos h, if_pos (dec_doc h), decS_laid hb h.1, docS_laid hb (dec_doc h).1]
 ·rw [if_neg h, if_neg (fun h' => h (doc_dec h'))]
end Go.Proofs.YthmmmkldmhjogaaGreatDoor
/- StateReads: the walk. -/
namespace Go.Proofs.YthmmmkldmhjogaaGreatDoor
open Go.RowKit

theorem docT_small (l : List Int) : (docT l).Small := by
 unfold docT
 split
 ·exact docS_small l
 ·exact sv0_small
end Go.Proofs.YthmmmkldmhjogaaGreatDoor
