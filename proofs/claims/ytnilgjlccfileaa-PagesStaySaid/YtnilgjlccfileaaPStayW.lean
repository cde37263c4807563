/- PagesStay: a page to which nothing was written stays. -/
import Derived.Test.YtnilgjlccfileaaPStayK
import Derived.Deep.CutBlock
import Derived.Deep.DeepCutAuto
namespace Go.Proofs.Ytnilgjlccfileaa
open Go.RowKit

attribute [local go_sem ↓] Go.wp_at_zero Go.wp_at_succ

theorem StAt.drew {w : World} {G : Nat → Prop} {p : Nat} {S : St} (h : StAt w G p S) : StAt w.drew G p S := h.keep (Nat.le_refl _) (fun _ _ _ => rfl)
/-- Behind i writes. -/
structure L1 (w : World) (p : Nat) (wr : World) (i : Nat) : Prop where
  st : ∃ S, StAt wr (w.heap.size ≤ ·) p S ∧ Calm S ∧ S.safe.length = 6 ∧ S.loose.length ≤ i
  bel : Below w.heap.size w wr
theorem L1.write {w wr : World} {p i : Nat} (h : L1 w p wr i) (hi : i ≤ 100) (pg : Int) (x : Bs) (hx : DtAt wr x) :
    Calls Try.prog 6 #[.pointer (some ⟨p, 0, none⟩), .int .i64 pg, .slice x.ad x.l.length x.cap] wr.drew fun e w' => (∃ v, e = .returned (errV v)) ∧ L1 w p w' (i + 1) := by
  obtain ⟨S, h1, h2, h3, h4⟩ := h.st
  refine (write_calm _ p S pg x wr.drew h1.drew h2 (by omega) ⟨hx.lies, hx.nil, hx.bd⟩).mono ?_
  rintro e w' ⟨rfl, S', hS, hF, hor⟩
  refine ⟨⟨_, rfl⟩, ⟨S', hS.up h.bel.size, ?_⟩, h.bel.drew.trans (hF.up h.bel.size)⟩
  rcases hor with ⟨_, y, _, rfl⟩ | ⟨_, rfl⟩
  · exact ⟨h2, h3, by simp [St.put]; omega⟩
  · exact ⟨h2, h3, by omega⟩
theorem L1.mono {w wr : World} {p i j : Nat} (h : L1 w p wr i) (hj : i ≤ j) : L1 w p wr j := by
  obtain ⟨S, h1, h2, h3, h4⟩ := h.st
  exact ⟨⟨S, h1, h2, h3, by omega⟩, h.bel⟩
set_option maxRecDepth 100000 in
set_option maxHeartbeats 3200000 in
theorem stay_any (aa : Option Addr) (la ca : Nat) (X : Nat → Ac) (ba : Option Addr) (lb cb : Nat) (Y : Nat → Ac) (ka : Option Addr) (kc : Nat) (ks : List Int) (w : World) (hX : AcAt w aa la X) (hY : AcAt w ba lb Y) (hla : la ≤ 9223372036854775807) (hlb : lb ≤ 9223372036854775807)
    (hks : IsL w ka ks) (hkn : ka = none → ks.length = 0 ∧ kc = 0) (hkl : ks.length * 8 ≤ 140737488355328) :
    Calls Try.prog 3 #[.slice aa la ca, .slice ba lb cb, .slice ka ks.length kc] w fun e w' => e = .returned (.bool true) ∧ Below w.heap.size w w' := by
  have HX : Hid (AcAt w aa la X) := hX
  have HY : Hid (AcAt w ba lb Y) := hY
  have HKS : Hid (IsL w ka ks ∧ (ka = none → ks.length = 0 ∧ kc = 0) ∧ ks.length * 8 ≤ 140737488355328) := ⟨hks, hkn, hkl⟩
  clear hX hY hks hkn hkl
  go_enter Try.func3, Try.ntmps3
  go_wp2_with fail
  refine (new_st 6 (by omega) (by omega) w).mono ?_
  rintro e w1 ⟨rfl, hS1', hb1⟩
  have HI0 : L1 w (w.heap.size + 1) w1 0 := ⟨⟨newS 6, hS1'.mono fun k hk => by
    rcases hk with hk | hk
    · exact hk.elim
    · exact hk.1, ⟨rfl, rfl, by simp [newS]⟩, by simp [newS], by simp [newS]⟩, hb1⟩
  clear hS1' hb1
  go_upto_block 0 with fail
  go_cut [] (fun wc => L1 w (w.heap.size + 1) wc 20)
  case first =>
   go_wp2_with fail
   go_loopw [9] (fun iv wr => ∃ i : Nat, i ≤ la ∧ i ≤ 20 ∧ iv = .int .i64 i ∧ L1 w (w.heap.size + 1) wr i) (fun iv _ => la + 1 - (intOf iv).toNat)
   case atStart => exact ⟨0, by omega, by omega, rfl, HI0⟩
   case round =>
     clear HI0
     obtain ⟨i, hi, hi20, rfl, hI⟩ := hrel
     by_cases hlt : i < la ∧ i < 20
     · have hl1 : (i : Int) < la := by omega
       have hl2 : (i : Int) < 20 := by omega
       obtain ⟨b, off, rfl, hbw, hc⟩ := HX.out.cells (by omega)
       obtain ⟨_, c1, _, c3, _⟩ := hc i hlt.1
       have k1 : ∀ w', Below w.heap.size w w' → w'.cell? ⟨b, off + i * 5 + 1, none⟩ = some (.int .i64 (X i).page) := fun w' hb => (hb.cell (p := ⟨b, off + i * 5 + 1, none⟩) hbw).trans c1
       have k3 : ∀ w', Below w.heap.size w w' → w'.cell? ⟨b, off + i * 5 + 3, none⟩ = some (.slice (X i).d.ad (X i).d.l.length (X i).d.cap) := fun w' hb => (hb.cell (p := ⟨b, off + i * 5 + 3, none⟩) hbw).trans c3
       have hwr := hI.write (by omega) (X i).page (X i).d ((HX.out.data i hlt.1).below hI.bel)
       have HB : Hid (Below w.heap.size w wr) := hI.bel
       generalize X i = x at *
       clear hc c1 c3 hI hbw
       go_wp2_with fail
       refine wp_region_noPanic ?_
       refine wp_region_held_drew (S := fun w' => w'.cell? ⟨b, off + i * 5 + 1, none⟩ = some (.int .i64 x.page) ∧ w'.cell? ⟨b, off + i * 5 + 3, none⟩ = some (.slice x.d.ad x.d.l.length x.d.cap)) (by kernel_rfl) ⟨k1 _ HB.out.drew, k3 _ HB.out.drew⟩ (fun hHeld => ?_)
       refine wpAnyH_take (i := 0) (oi := { dst := some 42, op := Go.Op.move (Go.Operand.tmp 7), type := 24, pos := "law.go:108", after := #[], guard := none }) (v := ?_) rfl (by kernel_rfl) (by kernel_rfl) (by kernel_rfl) (fun _ _ _ h => h) (Or.inl ⟨by rfl, ?_⟩) (by assumption) ?_
       rotate_left
       · intro wz hSw; (try dsimp only at hSw); go_simp; (try with_reducible rfl)
       try simp only [Act.put, List.setIfInBounds_toArray, List.set_cons_zero, List.set_cons_succ]
       refine wpAnyH_take (i := 1) (oi := { dst := some 43, op := Go.Op.move (Go.Operand.tmp 0), type := 22, pos := "law.go:108", after := #[], guard := none }) (v := ?_) rfl (by kernel_rfl) (by kernel_rfl) (by kernel_rfl) (fun _ _ _ h => h) (Or.inl ⟨by rfl, ?_⟩) (by assumption) ?_
       rotate_left
       · intro wz hSw; (try dsimp only at hSw); go_simp; (try with_reducible rfl)
       try simp only [Act.put, List.setIfInBounds_toArray, List.set_cons_zero, List.set_cons_succ]
       refine wpAnyH_take (i := 2) (oi := { dst := some 44, op := Go.Op.move (Go.Operand.tmp 9), type := 3, pos := "law.go:108", after := #[], guard := none }) (v := ?_) rfl (by kernel_rfl) (by kernel_rfl) (by kernel_rfl) (fun _ _ _ h => h) (Or.inl ⟨by rfl, ?_⟩) (by assumption) ?_
       rotate_left
       · intro wz hSw; (try dsimp only at hSw); go_simp; (try with_reducible rfl)
       try simp only [Act.put, List.setIfInBounds_toArray, List.set_cons_zero, List.set_cons_succ]
       refine wpAnyH_take (i := 3) (oi := { dst := some 45, op := Go.Op.indexAddr 22 (Go.Operand.tmp 43) (Go.Operand.tmp 44), type := 0, pos := "law.go:108", after := #[{ on := 1, ground := Go.Ground.data }, { on := 2, ground := Go.Ground.data }], guard := none }) (v := ?_) rfl (by kernel_rfl) (by kernel_rfl) (by kernel_rfl) (fun _ _ _ h => h) (Or.inl ⟨by rfl, ?_⟩) (by assumption) ?_
       rotate_left
       · intro wz hSw; (try dsimp only at hSw); go_simp; (try with_reducible rfl)
       try simp only [Act.put, List.setIfInBounds_toArray, List.set_cons_zero, List.set_cons_succ]
       refine wpAnyH_take (i := 4) (oi := { dst := some 46, op := Go.Op.fieldAddr 32 (Go.Operand.tmp 45) 1, type := 0, pos := "law.go:108", after := #[{ on := 3, ground := Go.Ground.data }], guard := none }) (v := ?_) rfl (by kernel_rfl) (by kernel_rfl) (by kernel_rfl) (fun _ _ _ h => h) (Or.inl ⟨by rfl, ?_⟩) (by assumption) ?_
       rotate_left
       · intro wz hSw; (try dsimp only at hSw); go_simp; (try with_reducible rfl)
       try simp only [Act.put, List.setIfInBounds_toArray, List.set_cons_zero, List.set_cons_succ]
       refine wpAnyH_take (i := 5) (oi := { dst := some 47, op := Go.Op.load 3 (Go.Operand.tmp 46), type := 3, pos := "law.go:108", after := #[{ on := 4, ground := Go.Ground.data }], guard := none }) (v := ?_) rfl (by kernel_rfl) (by kernel_rfl) (by kernel_rfl) (fun _ _ _ h => h) (Or.inl ⟨by rfl, ?_⟩) (by assumption) ?_
       rotate_left
       · intro wz hSw; (try dsimp only at hSw); go_simp; (try with_reducible rfl)
       try simp only [Act.put, List.setIfInBounds_toArray, List.set_cons_zero, List.set_cons_succ]
       refine wpAnyH_take (i := 6) (oi := { dst := some 48, op := Go.Op.move (Go.Operand.tmp 0), type := 22, pos := "law.go:108", after := #[], guard := none }) (v := ?_) rfl (by kernel_rfl) (by kernel_rfl) (by kernel_rfl) (fun _ _ _ h => h) (Or.inl ⟨by rfl, ?_⟩) (by assumption) ?_
       rotate_left
       · intro wz hSw; (try dsimp only at hSw); go_simp; (try with_reducible rfl)
       try simp only [Act.put, List.setIfInBounds_toArray, List.set_cons_zero, List.set_cons_succ]
       refine wpAnyH_take (i := 7) (oi := { dst := some 49, op := Go.Op.move (Go.Operand.tmp 9), type := 3, pos := "law.go:108", after := #[], guard := none }) (v := ?_) rfl (by kernel_rfl) (by kernel_rfl) (by kernel_rfl) (fun _ _ _ h => h) (Or.inl ⟨by rfl, ?_⟩) (by assumption) ?_
       rotate_left
       · intro wz hSw; (try dsimp only at hSw); go_simp; (try with_reducible rfl)
       try simp only [Act.put, List.setIfInBounds_toArray, List.set_cons_zero, List.set_cons_succ]
       refine wpAnyH_take (i := 8) (oi := { dst := some 50, op := Go.Op.indexAddr 22 (Go.Operand.tmp 48) (Go.Operand.tmp 49), type := 0, pos := "law.go:108", after := #[{ on := 6, ground := Go.Ground.data }, { on := 7, ground := Go.Ground.data }], guard := none }) (v := ?_) rfl (by kernel_rfl) (by kernel_rfl) (by kernel_rfl) (fun _ _ _ h => h) (Or.inl ⟨by rfl, ?_⟩) (by assumption) ?_
       rotate_left
       · intro wz hSw; (try dsimp only at hSw); go_simp; (try with_reducible rfl)
       try simp only [Act.put, List.setIfInBounds_toArray, List.set_cons_zero, List.set_cons_succ]
       refine wpAnyH_take (i := 9) (oi := { dst := some 51, op := Go.Op.fieldAddr 32 (Go.Operand.tmp 50) 3, type := 0, pos := "law.go:108", after := #[{ on := 8, ground := Go.Ground.data }], guard := none }) (v := ?_) rfl (by kernel_rfl) (by kernel_rfl) (by kernel_rfl) (fun _ _ _ h => h) (Or.inl ⟨by rfl, ?_⟩) (by assumption) ?_
       rotate_left
       · intro wz hSw; (try dsimp only at hSw); go_simp; (try with_reducible rfl)
       try simp only [Act.put, List.setIfInBounds_toArray, List.set_cons_zero, List.set_cons_succ]
       refine wpAnyH_take (i := 10) (oi := { dst := some 52, op := Go.Op.load 30 (Go.Operand.tmp 51), type := 30, pos := "law.go:108", after := #[{ on := 9, ground := Go.Ground.data }], guard := none }) (v := ?_) rfl (by kernel_rfl) (by kernel_rfl) (by kernel_rfl) (fun _ _ _ h => h) (Or.inl ⟨by rfl, ?_⟩) (by assumption) ?_
       rotate_left
       · intro wz hSw; (try dsimp only at hSw); go_simp; (try with_reducible rfl)
       try simp only [Act.put, List.setIfInBounds_toArray, List.set_cons_zero, List.set_cons_succ]
       refine wpAnyH_ready (rs := [11]) (by kernel_rfl) (by simp) ?_
       refine (AllReadyH.cons (o := { dst := some 53, op := Go.Op.call { callee := Go.Callee.value (Go.Operand.func 6), args := #[Go.Operand.tmp 42, Go.Operand.tmp 47, Go.Operand.tmp 52], argTypes := #[24, 3, 30] }, type := 26, pos := "law.go:108", after := #[{ on := 0, ground := Go.Ground.data }, { on := 5, ground := Go.Ground.data }, { on := 10, ground := Go.Ground.data }], guard := none }) rfl (fun K hK => ?_) AllReadyH.nil)
       go_simp
       refine hwr.mono ?_
       rintro e w2 ⟨⟨v, rfl⟩, hJ⟩
       refine hK.out _ _ ⟨k1 _ hJ.bel, k3 _ hJ.bel⟩ (fun _ => ?_)
       clear hK K
       try simp only [Act.put, List.setIfInBounds_toArray, List.set_cons_zero, List.set_cons_succ]
       refine wpAnyH_done (by kernel_rfl) (NoPanic.normal ?_) _
       try simp only [Act.put, List.setIfInBounds_toArray, List.set_cons_zero, List.set_cons_succ]
       have HJ : Hid (L1 w (w.heap.size + 1) w2 (i + 1)) := hJ
       clear hwr hJ k1 k3
       go_wp2
       go_roundw
       case rel => exact ⟨i + 1, by omega, by omega, by go_num, HJ.out⟩
       case measure => simp [intOf]; omega
     · have HE : Hid (L1 w (w.heap.size + 1) wr 20) := hI.mono (by omega)
       clear hI
       by_cases h1 : i < la
       · have h1' : (i : Int) < la := by omega
         have h2' : (20 : Int) ≤ i := by omega
         go_wp2_with fail
         go_meet
         exact HE.out
       · have h1' : (la : Int) ≤ i := by omega
         go_wp2_with fail
         go_meet
         exact HE.out
  case rest =>
  clear HI0
  obtain ⟨S, h1, h2, h3, h4⟩ := hcut.st
  have hb0 := hcut.bel
  have hz0 := hb0.size
  have hsy := sync_st _ _ S wc h1 h2.2.2 h2.2.1
  have es : syncS S = S.settled allK := by rw [syncS, if_pos h2.stepE, h2.step]
  have HS2 : Hid (Calm (S.settled allK) ∧ (S.settled allK).safe.length = 6) := ⟨h2, by simp [St.settled, setF_length, h3]⟩
  have he0 := h2.stepE
  clear h1 h2 h3 h4 hcut
  go_wp2_with fail
  refine hsy.mono ?_
  rintro e w3 ⟨rfl, hS3, hF3⟩
  rw [es] at hS3
  rw [he0]
  have hb3 := hb0.trans (hF3.up hz0)
  have hlo := loose_st _ _ _ w3 hS3
  rw [show (S.settled allK).loose.length = 0 from rfl] at hlo
  have hlast : ∀ pg, lastB (S.settled allK) pg = ((S.settled allK).safe[pg.toNat]?).getD nilBs := fun pg => lastB_none (fun x hx => by cases hx)
  have hl0 : (S.settled allK).loose = [] := rfl
  generalize S.settled allK = S2 at *
  have e0 : errV 0 = .nilIface := rfl
  rw [e0]
  clear hsy es he0 hF3 hb0 hz0 e0 S
  go_wp2_with fail
  refine hlo.mono ?_
  rintro e w4 ⟨rfl, hw4⟩
  rw [hw4]
  clear hw4 w4 hlo
  have hFl0 : Fld w w3.heap.size (w.heap.size + 1) (strsA S2 0) 35 (fun k => w.heap.size ≤ k ∧ k < w3.heap.size) S2 (.slice none 0 0) (.slice none 0 0) [] [] (w3.alloc (.cells #[.string ⟨#[]⟩, .string ⟨#[]⟩, .string ⟨#[]⟩, .string ⟨#[]⟩, .string ⟨#[]⟩, .string ⟨#[]⟩] 35)) := Fld.new hS3 hb3 (strsA S2 0) 35
  clear hS3 hb3
  go_upto_block 2 with fail
  generalize w3.alloc (.cells #[.string ⟨#[]⟩, .string ⟨#[]⟩, .string ⟨#[]⟩, .string ⟨#[]⟩, .string ⟨#[]⟩, .string ⟨#[]⟩] 35) = wA at *
  generalize w3.heap.size = c at *
  clear w3
  go_cut [] (fun wc => Fld w c (w.heap.size + 1) (strsA S2 6) 35 (fun k => w.heap.size ≤ k ∧ k < c) S2 (.slice none 0 0) (.slice none 0 0) [] [] wc)
  case first =>
   go_wp2_with fail
   go_loopw [11, 12, 13] (fun iv _ _ wr => ∃ i : Nat, i ≤ 6 ∧ iv = .int .i64 i ∧ Fld w c (w.heap.size + 1) (strsA S2 i) 35 (fun k => w.heap.size ≤ k ∧ k < c) S2 (.slice none 0 0) (.slice none 0 0) [] [] wr) (fun iv _ _ _ => 7 - (intOf iv).toNat)
   case atStart => exact ⟨0, by omega, rfl, hFl0⟩
   case round =>
     clear hFl0
     obtain ⟨i, hi, rfl, hI⟩ := hrel
     by_cases hlt : i < 6
     · have hl1 : (i : Int) < 6 := by omega
       have hrd := read_st _ _ S2 i wr hI.st (by rw [HS2.out.2]; omega) HS2.out.1.2.1
       rw [hlast, Int.toNat_natCast] at hrd
       have HI : Hid (Fld w c (w.heap.size + 1) (strsA S2 i) 35 (fun k => w.heap.size ≤ k ∧ k < c) S2 (.slice none 0 0) (.slice none 0 0) [] [] wr) := hI
       clear hI
       go_wp2_with fail
       refine hrd.mono ?_
       rintro e w5 ⟨ra, rc, rfl, how⟩
       have hI5 := HI.out.below how.below
       have hcv : (convert 30 9 (.slice ra ((S2.safe[i]?).getD nilBs).l.length rc)).run Try.prog w5 = .ok (.string (strL ((S2.safe[i]?).getD nilBs).l)) w5 := conv_any ra _ rc (fn ((S2.safe[i]?).getD nilBs).l) w5 how.fresh.2.1 how.fresh.2.2.1
       have hcc : ∃ u, w5.cell? ⟨c, i, none⟩ = some u := by
         rw [cell_of_row w5 c i _ _ _ hI5.cc]
         exact ⟨_, Array.getElem?_eq_getElem (by rw [strsA_size]; omega)⟩
       obtain ⟨u, hcc⟩ := hcc
       have hcf : w5.frozen? ⟨c, i, none⟩ = false := frozen_of_row w5 c i _ _ hI5.cc
       have HN : Hid (Fld w c (w.heap.size + 1) (strsA S2 (i + 1)) 35 (fun k => w.heap.size ≤ k ∧ k < c) S2 (.slice none 0 0) (.slice none 0 0) [] [] (w5.setCell ⟨c, i, none⟩ (.string (strL ((S2.safe[i]?).getD nilBs).l)))) := by
         have := hI5.setC i (.string (strL ((S2.safe[i]?).getD nilBs).l))
         rw [strsA_set] at this
         exact this
       clear hrd how hI5 HI
       generalize ((S2.safe[i]?).getD nilBs).l = l at *
       generalize strL l = sl at *
       go_wp2
       go_roundw
       case rel => exact ⟨i + 1, by omega, by go_num, HN.out⟩
       case measure => simp [intOf]; omega
     · obtain rfl : i = 6 := by omega
       go_wp2_with fail
       go_meet
       exact hI
  case rest =>
  clear hFl0
  have hL0 : L3G w c (w.heap.size + 1) S2 [] [] [] (.slice none 0 0) (.slice none 0 0) wc := ⟨_, S2, hcut, HS2.out.1, rfl, by rw [hl0], by rw [hl0]⟩
  clear hcut
  go_upto_block 4 with fail
  go_cut [14, 15] (fun va vb wd => ∃ L, L3G w c (w.heap.size + 1) S2 L L L va vb wd ∧ L.length ≤ 20 ∧ ∀ e ∈ L, DtAt w e.2)
  case first =>
   go_wp2_with fail
   go_loopw [14, 15, 16] (fun va vb iv wr => ∃ (i : Nat) (L : List (Int × Bs)), i ≤ lb ∧ i ≤ 20 ∧ iv = .int .i64 i ∧ L3G w c (w.heap.size + 1) S2 L L L va vb wr ∧ L.length ≤ i ∧ ∀ e ∈ L, DtAt w e.2) (fun _ _ iv _ => 21 - (intOf iv).toNat)
   case atStart => exact ⟨0, [], by omega, by omega, rfl, hL0, by simp, fun e h => by cases h⟩
   case round =>
     clear hL0
     obtain ⟨i, L, hi, hi20, rfl, hI, hLi, hLd⟩ := hrel
     obtain ⟨⟨a14, k14, rfl⟩, ⟨a15, k15, rfl⟩⟩ := hI.forms
     have HLd : Hid (∀ e ∈ L, DtAt w e.2) := hLd
     clear hLd
     by_cases hlt : i < lb ∧ i < 20
     · have hl1 : (i : Int) < lb := by omega
       have hl2 : (i : Int) < 20 := by omega
       obtain ⟨b, off, rfl, hbw, hc⟩ := HY.out.cells (by omega)
       obtain ⟨_, c1, _, c3, _⟩ := hc i hlt.1
       have k1 : ∀ w', Below w.heap.size w w' → w'.cell? ⟨b, off + i * 5 + 1, none⟩ = some (.int .i64 (Y i).page) := fun w' hb => (hb.cell (p := ⟨b, off + i * 5 + 1, none⟩) hbw).trans c1
       have k3 : ∀ w', Below w.heap.size w w' → w'.cell? ⟨b, off + i * 5 + 3, none⟩ = some (.slice (Y i).d.ad (Y i).d.l.length (Y i).d.cap) := fun w' hb => (hb.cell (p := ⟨b, off + i * 5 + 3, none⟩) hbw).trans c3
       have HD : Hid (DtAt w (Y i).d) := HY.out.data i hlt.1
       have hwr := hI.drew.write HS2.out.2 (by omega) (Y i).page (Y i).d (HD.out.below hI.bel.drew)
       have HB : Hid (Below w.heap.size w wr) := hI.bel
       generalize Y i = x at *
       clear hc c1 c3 hI hbw
       go_wp2_with fail
       refine wp_region_noPanic ?_
       refine wp_region_held_drew (S := fun w' => w'.cell? ⟨b, off + i * 5 + 1, none⟩ = some (.int .i64 x.page) ∧ w'.cell? ⟨b, off + i * 5 + 3, none⟩ = some (.slice x.d.ad x.d.l.length x.d.cap)) (by kernel_rfl) ⟨k1 _ HB.out.drew, k3 _ HB.out.drew⟩ (fun hHeld => ?_)
       refine wpAnyH_take (i := 0) (oi := { dst := some 88, op := Go.Op.move (Go.Operand.tmp 7), type := 24, pos := "law.go:124", after := #[], guard := none }) (v := ?_) rfl (by kernel_rfl) (by kernel_rfl) (by kernel_rfl) (fun _ _ _ h => h) (Or.inl ⟨by rfl, ?_⟩) (by assumption) ?_
       rotate_left
       · intro wz hSw; (try dsimp only at hSw); go_simp; (try with_reducible rfl)
       try simp only [Act.put, List.setIfInBounds_toArray, List.set_cons_zero, List.set_cons_succ]
       refine wpAnyH_take (i := 1) (oi := { dst := some 89, op := Go.Op.move (Go.Operand.tmp 1), type := 22, pos := "law.go:124", after := #[], guard := none }) (v := ?_) rfl (by kernel_rfl) (by kernel_rfl) (by kernel_rfl) (fun _ _ _ h => h) (Or.inl ⟨by rfl, ?_⟩) (by assumption) ?_
       rotate_left
       · intro wz hSw; (try dsimp only at hSw); go_simp; (try with_reducible rfl)
       try simp only [Act.put, List.setIfInBounds_toArray, List.set_cons_zero, List.set_cons_succ]
       refine wpAnyH_take (i := 2) (oi := { dst := some 90, op := Go.Op.move (Go.Operand.tmp 16), type := 3, pos := "law.go:124", after := #[], guard := none }) (v := ?_) rfl (by kernel_rfl) (by kernel_rfl) (by kernel_rfl) (fun _ _ _ h => h) (Or.inl ⟨by rfl, ?_⟩) (by assumption) ?_
       rotate_left
       · intro wz hSw; (try dsimp only at hSw); go_simp; (try with_reducible rfl)
       try simp only [Act.put, List.setIfInBounds_toArray, List.set_cons_zero, List.set_cons_succ]
       refine wpAnyH_take (i := 3) (oi := { dst := some 91, op := Go.Op.indexAddr 22 (Go.Operand.tmp 89) (Go.Operand.tmp 90), type := 0, pos := "law.go:124", after := #[{ on := 1, ground := Go.Ground.data }, { on := 2, ground := Go.Ground.data }], guard := none }) (v := ?_) rfl (by kernel_rfl) (by kernel_rfl) (by kernel_rfl) (fun _ _ _ h => h) (Or.inl ⟨by rfl, ?_⟩) (by assumption) ?_
       rotate_left
       · intro wz hSw; (try dsimp only at hSw); go_simp; (try with_reducible rfl)
       try simp only [Act.put, List.setIfInBounds_toArray, List.set_cons_zero, List.set_cons_succ]
       refine wpAnyH_take (i := 4) (oi := { dst := some 92, op := Go.Op.fieldAddr 32 (Go.Operand.tmp 91) 1, type := 0, pos := "law.go:124", after := #[{ on := 3, ground := Go.Ground.data }], guard := none }) (v := ?_) rfl (by kernel_rfl) (by kernel_rfl) (by kernel_rfl) (fun _ _ _ h => h) (Or.inl ⟨by rfl, ?_⟩) (by assumption) ?_
       rotate_left
       · intro wz hSw; (try dsimp only at hSw); go_simp; (try with_reducible rfl)
       try simp only [Act.put, List.setIfInBounds_toArray, List.set_cons_zero, List.set_cons_succ]
       refine wpAnyH_take (i := 5) (oi := { dst := some 93, op := Go.Op.load 3 (Go.Operand.tmp 92), type := 3, pos := "law.go:124", after := #[{ on := 4, ground := Go.Ground.data }], guard := none }) (v := ?_) rfl (by kernel_rfl) (by kernel_rfl) (by kernel_rfl) (fun _ _ _ h => h) (Or.inl ⟨by rfl, ?_⟩) (by assumption) ?_
       rotate_left
       · intro wz hSw; (try dsimp only at hSw); go_simp; (try with_reducible rfl)
       try simp only [Act.put, List.setIfInBounds_toArray, List.set_cons_zero, List.set_cons_succ]
       refine wpAnyH_take (i := 6) (oi := { dst := some 94, op := Go.Op.move (Go.Operand.tmp 1), type := 22, pos := "law.go:124", after := #[], guard := none }) (v := ?_) rfl (by kernel_rfl) (by kernel_rfl) (by kernel_rfl) (fun _ _ _ h => h) (Or.inl ⟨by rfl, ?_⟩) (by assumption) ?_
       rotate_left
       · intro wz hSw; (try dsimp only at hSw); go_simp; (try with_reducible rfl)
       try simp only [Act.put, List.setIfInBounds_toArray, List.set_cons_zero, List.set_cons_succ]
       refine wpAnyH_take (i := 7) (oi := { dst := some 95, op := Go.Op.move (Go.Operand.tmp 16), type := 3, pos := "law.go:124", after := #[], guard := none }) (v := ?_) rfl (by kernel_rfl) (by kernel_rfl) (by kernel_rfl) (fun _ _ _ h => h) (Or.inl ⟨by rfl, ?_⟩) (by assumption) ?_
       rotate_left
       · intro wz hSw; (try dsimp only at hSw); go_simp; (try with_reducible rfl)
       try simp only [Act.put, List.setIfInBounds_toArray, List.set_cons_zero, List.set_cons_succ]
       refine wpAnyH_take (i := 8) (oi := { dst := some 96, op := Go.Op.indexAddr 22 (Go.Operand.tmp 94) (Go.Operand.tmp 95), type := 0, pos := "law.go:124", after := #[{ on := 6, ground := Go.Ground.data }, { on := 7, ground := Go.Ground.data }], guard := none }) (v := ?_) rfl (by kernel_rfl) (by kernel_rfl) (by kernel_rfl) (fun _ _ _ h => h) (Or.inl ⟨by rfl, ?_⟩) (by assumption) ?_
       rotate_left
       · intro wz hSw; (try dsimp only at hSw); go_simp; (try with_reducible rfl)
       try simp only [Act.put, List.setIfInBounds_toArray, List.set_cons_zero, List.set_cons_succ]
       refine wpAnyH_take (i := 9) (oi := { dst := some 97, op := Go.Op.fieldAddr 32 (Go.Operand.tmp 96) 3, type := 0, pos := "law.go:124", after := #[{ on := 8, ground := Go.Ground.data }], guard := none }) (v := ?_) rfl (by kernel_rfl) (by kernel_rfl) (by kernel_rfl) (fun _ _ _ h => h) (Or.inl ⟨by rfl, ?_⟩) (by assumption) ?_
       rotate_left
       · intro wz hSw; (try dsimp only at hSw); go_simp; (try with_reducible rfl)
       try simp only [Act.put, List.setIfInBounds_toArray, List.set_cons_zero, List.set_cons_succ]
       refine wpAnyH_take (i := 10) (oi := { dst := some 98, op := Go.Op.load 30 (Go.Operand.tmp 97), type := 30, pos := "law.go:124", after := #[{ on := 9, ground := Go.Ground.data }], guard := none }) (v := ?_) rfl (by kernel_rfl) (by kernel_rfl) (by kernel_rfl) (fun _ _ _ h => h) (Or.inl ⟨by rfl, ?_⟩) (by assumption) ?_
       rotate_left
       · intro wz hSw; (try dsimp only at hSw); go_simp; (try with_reducible rfl)
       try simp only [Act.put, List.setIfInBounds_toArray, List.set_cons_zero, List.set_cons_succ]
       refine wpAnyH_ready (rs := [11]) (by kernel_rfl) (by simp) ?_
       refine (AllReadyH.cons (o := { dst := some 99, op := Go.Op.call { callee := Go.Callee.value (Go.Operand.func 6), args := #[Go.Operand.tmp 88, Go.Operand.tmp 93, Go.Operand.tmp 98], argTypes := #[24, 3, 30] }, type := 26, pos := "law.go:124", after := #[{ on := 0, ground := Go.Ground.data }, { on := 5, ground := Go.Ground.data }, { on := 10, ground := Go.Ground.data }], guard := none }) rfl (fun K hK => ?_) AllReadyH.nil)
       go_simp
       refine hwr.mono ?_
       rintro e w2 (⟨hp, hd, rfl, hJ⟩ | ⟨_, ⟨v, hv, rfl⟩, hJ⟩)
       · refine hK.out _ _ ⟨k1 _ hJ.bel, k3 _ hJ.bel⟩ (fun _ => ?_)
         clear hK K
         try simp only [Act.put, List.setIfInBounds_toArray, List.set_cons_zero, List.set_cons_succ]
         refine wpAnyH_take (i := 12) (oi := { dst := some 100, op := Go.Op.binOp Go.BinOp.eql 26 (Go.Operand.tmp 99) (Go.Operand.const Go.Value.nilIface) 26, type := 4, pos := "law.go:124", after := #[{ on := 11, ground := Go.Ground.data }], guard := none }) (v := ?_) rfl (by kernel_rfl) (by kernel_rfl) (by kernel_rfl) (fun _ _ _ h => h) (Or.inl ⟨by rfl, ?_⟩) (by assumption) ?_
         rotate_left
         · intro wz hSw; (try dsimp only at hSw); go_simp; (try with_reducible rfl)
         try simp only [Act.put, List.setIfInBounds_toArray, List.set_cons_zero, List.set_cons_succ]
         refine wpAnyH_done (by kernel_rfl) (NoPanic.normal ?_) _
         try simp only [Act.put, List.setIfInBounds_toArray, List.set_cons_zero, List.set_cons_succ]
         obtain ⟨va', w4, hrA, hA⟩ := hJ.appA (by omega) x.page x.d
         obtain ⟨vb', w5, hrB, hB⟩ := hA.appB (by omega) x.page x.d
         have q3 := k3 _ hJ.bel
         have q1 := k1 _ hA.bel
         have HN : Hid (L3G w c (w.heap.size + 1) S2 (L ++ [(x.page, x.d)]) (L ++ [(x.page, x.d)]) (L ++ [(x.page, x.d)]) va' vb' w5) := hB
         clear hwr hJ hA hB k1 k3 hHeld hp hd
         go_wp2_with (first | (at_builtin; refine wpList_append_run rfl _ _ _ rfl rfl rfl hrA ?_) | (at_builtin; refine wpList_append_run rfl _ _ _ rfl rfl rfl hrB ?_) | fail)
         go_roundw
         case rel => exact ⟨i + 1, _, by omega, by omega, by go_num, HN.out, by simp; omega, fun e he => by
           rcases List.mem_append.1 he with h | h
           · exact HLd.out e h
           · have : e = (x.page, x.d) := by simpa using h
             rw [this]; exact HD.out⟩
         case measure => simp [intOf]; omega
       · refine hK.out _ _ ⟨k1 _ hJ.bel, k3 _ hJ.bel⟩ (fun _ => ?_)
         clear hK K
         try simp only [Act.put, List.setIfInBounds_toArray, List.set_cons_zero, List.set_cons_succ]
         refine wpAnyH_take (i := 12) (oi := { dst := some 100, op := Go.Op.binOp Go.BinOp.eql 26 (Go.Operand.tmp 99) (Go.Operand.const Go.Value.nilIface) 26, type := 4, pos := "law.go:124", after := #[{ on := 11, ground := Go.Ground.data }], guard := none }) (v := ?_) rfl (by kernel_rfl) (by kernel_rfl) (by kernel_rfl) (fun _ _ _ h => h) (Or.inl ⟨by rfl, ?_⟩) (by assumption) ?_
         rotate_left
         · intro wz hSw; (try dsimp only at hSw); go_simp; (try with_reducible rfl)
         try simp only [Act.put, List.setIfInBounds_toArray, List.set_cons_zero, List.set_cons_succ]
         refine wpAnyH_done (by kernel_rfl) (NoPanic.normal ?_) _
         try simp only [Act.put, List.setIfInBounds_toArray, List.set_cons_zero, List.set_cons_succ]
         have HN : Hid (L3G w c (w.heap.size + 1) S2 L L L (.slice a14 L.length k14) (.slice a15 L.length k15) w2) := hJ
         clear hwr hJ k1 k3 hHeld
         go_wp2_with fail
         go_roundw
         case rel => exact ⟨i + 1, L, by omega, by omega, by go_num, HN.out, by omega, HLd.out⟩
         case measure => simp [intOf]; omega
     · have HE : Hid (L3G w c (w.heap.size + 1) S2 L L L (.slice a14 L.length k14) (.slice a15 L.length k15) wr) := hI
       clear hI
       by_cases h1 : i < lb
       · have h1' : (i : Int) < lb := by omega
         have h2' : (20 : Int) ≤ i := by omega
         go_wp2_with fail
         go_meet
         exact ⟨L, HE.out, by omega, HLd.out⟩
       · have h1' : (lb : Int) ≤ i := by omega
         go_wp2_with fail
         go_meet
         exact ⟨L, HE.out, by omega, HLd.out⟩
  case rest =>
  clear hL0
  obtain ⟨L, hL, hL20, hLd⟩ := hcut
  obtain ⟨⟨a14, k14, rfl⟩, ⟨a15, k15, rfl⟩⟩ := hL.forms
  have HLd : Hid (∀ e ∈ L, DtAt w e.2) := hLd
  have hbc := hL.bel
  have hks := HKS.out.1.keep (w' := wc) (fun a e hn => hbc.block _ (HKS.out.1.lt e hn))
  have how := ownI_any ka kc ks wc hks HKS.out.2.1 HKS.out.2.2
  have HL : Hid (L3G w c (w.heap.size + 1) S2 L L L (.slice a14 L.length k14) (.slice a15 L.length k15) wc) := hL
  clear hL hLd hbc hks
  go_wp2_with fail
  refine how.mono ?_
  rintro e w3 ⟨oa, oc, rfl, hoI, hob⟩
  obtain ⟨G, S, hF, hcm, hsf, hl1, hl2⟩ := HL.out.below hob
  have hst := start_st G _ S oa oc ks w3 hF.st hoI (by have := HKS.out.2.2; omega)
  have HOK : Hid (∀ j : Nat, j < 6 → okB ((S2.safe[j]?).getD nilBs).l (((S.started (toldK ks)).safe[j]?).getD nilBs).l j L L.length = true) := fun j hj => ok_end hsf hl1 hl2 hF.st.nonneg (by rw [HS2.out.2]; exact hj)
  have HF : Hid (Fld w c (w.heap.size + 1) (strsA S2 6) 35 G S (.slice a14 L.length k14) (.slice a15 L.length k15) (L.map fun e => e.2.v) (L.map fun e => .int .i64 e.1) w3) := hF
  have hlen4 : (S.started (toldK ks)).safe.length = 6 := by simp only [St.started, St.settled, setF_length, hsf]; exact HS2.out.2
  clear how hob hoI HL hF hcm hsf hl1 hl2
  go_wp2_with fail
  refine hst.mono ?_
  rintro e w4 ⟨rfl, hS4, hF4⟩
  have hFl0 := HF.out.start hS4 hF4
  have hlast4 : ∀ pg, lastB (S.started (toldK ks)) pg = ((S.started (toldK ks)).safe[pg.toNat]?).getD nilBs := fun pg => lastB_none (fun x hx => by cases hx)
  have hd4 : (S.started (toldK ks)).down = false := rfl
  generalize S.started (toldK ks) = S4 at *
  clear hst HF hS4 hF4 S
  go_upto_block 6 with fail
  go_cut [] (fun wd => Below w.heap.size w wd)
  case first =>
   go_wp2_with fail
   go_loopw [17, 18, 19, 20, 21] (fun iv _ _ _ _ wr => ∃ i : Nat, i ≤ 6 ∧ iv = .int .i64 i ∧ Fld w c (w.heap.size + 1) (strsA S2 6) 35 G S4 (.slice a14 L.length k14) (.slice a15 L.length k15) (L.map fun e => e.2.v) (L.map fun e => .int .i64 e.1) wr) (fun iv _ _ _ _ _ => 7 - (intOf iv).toNat)
   case atStart => exact ⟨0, by omega, rfl, hFl0⟩
   case round =>
     clear hFl0
     obtain ⟨i, hi, rfl, hI⟩ := hrel
     by_cases hlt : i < 6
     · have hl1 : (i : Int) < 6 := by omega
       have hrd := read_st _ _ S4 i wr hI.st (by rw [hlen4]; omega) hd4
       rw [hlast4, Int.toNat_natCast] at hrd
       have hok := HOK.out i hlt
       have HI : Hid (Fld w c (w.heap.size + 1) (strsA S2 6) 35 G S4 (.slice a14 L.length k14) (.slice a15 L.length k15) (L.map fun e => e.2.v) (L.map fun e => .int .i64 e.1) wr) := hI
       clear hI
       go_wp2_with fail
       refine hrd.mono ?_
       rintro e w5 ⟨ra, rc, rfl, how⟩
       have HI5 : Hid (Fld w c (w.heap.size + 1) (strsA S2 6) 35 G S4 (.slice a14 L.length k14) (.slice a15 L.length k15) (L.map fun e => e.2.v) (L.map fun e => .int .i64 e.1) w5) := HI.out.below how.below
       have hcc : w5.cell? ⟨c, i, none⟩ = some (.string (strL ((S2.safe[i]?).getD nilBs).l)) := by
         rw [cell_of_row w5 c i _ _ _ HI5.out.cc]; exact strsA_at S2 hlt hlt
       have hsl := how.fresh.2.1
       have hsn := how.fresh.2.2.1
       generalize ((S4.safe[i]?).getD nilBs).l = xl at *
       generalize ((S2.safe[i]?).getD nilBs).l = sl at *
       have HSL : Hid (SlAt w5 ra xl.length (fn xl) ∧ (ra = none → xl.length = 0 ∧ rc = 0)) := ⟨hsl, hsn⟩
       have hS0 : w5.drew.cell? ⟨c, i, none⟩ = some (.string (strL sl)) ∧ (convert 30 9 (.slice ra xl.length rc)).run Try.prog w5.drew = .ok (.string (strL xl)) w5.drew := ⟨hcc, conv_any ra xl.length rc (fn xl) w5.drew hsl hsn⟩
       clear hrd how hcc hsl hsn HI
       go_wp2_with fail
       refine wp_region_noPanic ?_
       refine wp_region_held_drew (S := fun w' => w'.cell? ⟨c, i, none⟩ = some (.string (strL sl)) ∧ (convert 30 9 (.slice ra xl.length rc)).run Try.prog w' = .ok (.string (strL xl)) w') (by kernel_rfl) hS0 (fun hHeld => ?_)
       refine wpAnyH_take (i := 0) (oi := { dst := some 131, op := Go.Op.move (Go.Operand.tmp 18), type := 30, pos := "law.go:132", after := #[], guard := none }) (v := ?_) rfl (by kernel_rfl) (by kernel_rfl) (by kernel_rfl) (fun _ _ _ h => h) (Or.inl ⟨by rfl, ?_⟩) (by assumption) ?_
       rotate_left
       · intro wz hSw; (try dsimp only at hSw); go_simp; (try with_reducible rfl)
       try simp only [Act.put, List.setIfInBounds_toArray, List.set_cons_zero, List.set_cons_succ]
       refine wpAnyH_take (i := 1) (oi := { dst := some 132, op := Go.Op.convert 30 9 (Go.Operand.tmp 131), type := 9, pos := "law.go:132", after := #[{ on := 0, ground := Go.Ground.data }], guard := none }) (v := ?_) rfl (by kernel_rfl) (by kernel_rfl) (by kernel_rfl) (fun _ _ _ h => h) (Or.inl ⟨by rfl, ?_⟩) (by assumption) ?_
       rotate_left
       · intro wz hSw; (try dsimp only at hSw); go_simp; (try with_reducible rfl)
       try simp only [Act.put, List.setIfInBounds_toArray, List.set_cons_zero, List.set_cons_succ]
       refine wpAnyH_take (i := 2) (oi := { dst := some 133, op := Go.Op.move (Go.Operand.tmp 17), type := 3, pos := "law.go:132", after := #[], guard := none }) (v := ?_) rfl (by kernel_rfl) (by kernel_rfl) (by kernel_rfl) (fun _ _ _ h => h) (Or.inl ⟨by rfl, ?_⟩) (by assumption) ?_
       rotate_left
       · intro wz hSw; (try dsimp only at hSw); go_simp; (try with_reducible rfl)
       try simp only [Act.put, List.setIfInBounds_toArray, List.set_cons_zero, List.set_cons_succ]
       refine wpAnyH_take (i := 3) (oi := { dst := some 134, op := Go.Op.indexAddr 35 (Go.Operand.tmp 10) (Go.Operand.tmp 133), type := 0, pos := "law.go:132", after := #[{ on := 2, ground := Go.Ground.data }], guard := none }) (v := ?_) rfl (by kernel_rfl) (by kernel_rfl) (by kernel_rfl) (fun _ _ _ h => h) (Or.inl ⟨by rfl, ?_⟩) (by assumption) ?_
       rotate_left
       · intro wz hSw; (try dsimp only at hSw); go_simp; (try with_reducible rfl)
       try simp only [Act.put, List.setIfInBounds_toArray, List.set_cons_zero, List.set_cons_succ]
       refine wpAnyH_take (i := 4) (oi := { dst := some 135, op := Go.Op.load 9 (Go.Operand.tmp 134), type := 9, pos := "law.go:132", after := #[{ on := 3, ground := Go.Ground.data }], guard := none }) (v := ?_) rfl (by kernel_rfl) (by kernel_rfl) (by kernel_rfl) (fun _ _ _ h => h) (Or.inl ⟨by rfl, ?_⟩) (by assumption) ?_
       rotate_left
       · intro wz hSw; (try dsimp only at hSw); go_simp; (try with_reducible rfl)
       try simp only [Act.put, List.setIfInBounds_toArray, List.set_cons_zero, List.set_cons_succ]
       refine wpAnyH_take (i := 5) (oi := { dst := some 136, op := Go.Op.binOp Go.BinOp.eql 9 (Go.Operand.tmp 132) (Go.Operand.tmp 135) 9, type := 4, pos := "law.go:132", after := #[{ on := 1, ground := Go.Ground.data }, { on := 4, ground := Go.Ground.data }], guard := none }) (v := ?_) rfl (by kernel_rfl) (by kernel_rfl) (by kernel_rfl) (fun _ _ _ h => h) (Or.inl ⟨by rfl, ?_⟩) (by assumption) ?_
       rotate_left
       · intro wz hSw; (try dsimp only at hSw); go_simp; (try with_reducible rfl)
       try simp only [Act.put, List.setIfInBounds_toArray, List.set_cons_zero, List.set_cons_succ]
       refine wpAnyH_take (i := 6) (oi := { dst := some 20, op := Go.Op.assign (Go.Operand.tmp 136), type := 4, pos := "law.go:132", after := #[{ on := 5, ground := Go.Ground.data }, { on := 0, ground := Go.Ground.phase }, { on := 1, ground := Go.Ground.phase }, { on := 2, ground := Go.Ground.phase }, { on := 3, ground := Go.Ground.phase }, { on := 4, ground := Go.Ground.phase }, { on := 5, ground := Go.Ground.phase }], guard := none }) (v := ?_) rfl (by kernel_rfl) (by kernel_rfl) (by kernel_rfl) (fun _ _ _ h => h) (Or.inl ⟨by rfl, ?_⟩) (by assumption) ?_
       rotate_left
       · intro wz hSw; (try dsimp only at hSw); go_simp; (try with_reducible rfl)
       try simp only [Act.put, List.setIfInBounds_toArray, List.set_cons_zero, List.set_cons_succ]
       refine wpAnyH_done (by kernel_rfl) (NoPanic.normal ?_) _
       try simp only [Act.put, List.setIfInBounds_toArray, List.set_cons_zero, List.set_cons_succ]
       clear hS0 hHeld
       have HI6 : Hid (Fld w c (w.heap.size + 1) (strsA S2 6) 35 G S4 (.slice a14 L.length k14) (.slice a15 L.length k15) (L.map fun e => e.2.v) (L.map fun e => .int .i64 e.1) w5.drew ∧ SlAt w5.drew ra xl.length (fn xl)) := ⟨HI5.out.drew, HSL.out.1⟩
       have HSN : Hid (ra = none → xl.length = 0 ∧ rc = 0) := HSL.out.2
       have hz0 := okB_zero sl xl i L
       rw [← hz0]
       clear hz0 HI5 HSL
       generalize w5.drew = w6 at *
       generalize wr = wo at *
       go_upto_block 8 with fail
       go_cut [20] (fun v wd => v = .bool true ∧ Fld w c (w.heap.size + 1) (strsA S2 6) 35 G S4 (.slice a14 L.length k14) (.slice a15 L.length k15) (L.map fun e => e.2.v) (L.map fun e => .int .i64 e.1) wd)
       case first =>
         go_wp2_with fail
         go_loopw [20, 21] (fun ov kv wr => ∃ k : Nat, k ≤ L.length ∧ kv = .int .i64 k ∧ ov = .bool (okB sl xl i L k) ∧ Fld w c (w.heap.size + 1) (strsA S2 6) 35 G S4 (.slice a14 L.length k14) (.slice a15 L.length k15) (L.map fun e => e.2.v) (L.map fun e => .int .i64 e.1) wr ∧ SlAt wr ra xl.length (fn xl)) (fun _ kv _ => L.length + 1 - (intOf kv).toNat)
         case atStart => exact ⟨0, by omega, rfl, rfl, HI6.out.1, HI6.out.2⟩
         case round =>
           clear HI6
           obtain ⟨k, hk, rfl, rfl, hI, hsx⟩ := hrel
           by_cases hkl : k < L.length
           · have hkl' : (k : Int) < L.length := by omega
             obtain ⟨e, he⟩ : ∃ e, L[k]? = some e := ⟨_, List.getElem?_eq_getElem hkl⟩
             have hem : e ∈ L := List.mem_of_getElem? he
             obtain ⟨g14, rfl⟩ : ∃ g, a14 = some ⟨g, 0, none⟩ := by
               rcases hI.ra.2 with ⟨_, e2⟩ | ⟨g, _, _, e2, _⟩
               · simp at e2; subst e2; simp at hkl
               · simp at e2; exact ⟨g, e2.1⟩
             obtain ⟨g15, rfl⟩ : ∃ g, a15 = some ⟨g, 0, none⟩ := by
               rcases hI.rb.2 with ⟨_, e2⟩ | ⟨g, _, _, e2, _⟩
               · simp at e2; subst e2; simp at hkl
               · simp at e2; exact ⟨g, e2.1⟩
             have c14 : wr.cell? ⟨g14, k, none⟩ = some (.slice e.2.ad e.2.l.length e.2.cap) := by
               have := hI.ra.cells (g := g14) rfl k e.2.v (by rw [List.getElem?_map, he]; rfl)
               rwa [Addr.add_lit, Nat.zero_add] at this
             have c15 : wr.cell? ⟨g15, k, none⟩ = some (.int .i64 e.1) := by
               have := hI.rb.cells (g := g15) rfl k (.int .i64 e.1) (by rw [List.getElem?_map, he]; rfl)
               rwa [Addr.add_lit, Nat.zero_add] at this
             have hde := (HLd.out e hem).below hI.bel
             have S1 : wr.drew.cell? ⟨g15, k, none⟩ = some (.int .i64 e.1) ∧ wr.drew.cell? ⟨g14, k, none⟩ = some (.slice e.2.ad e.2.l.length e.2.cap) ∧ (convert 30 9 (.slice e.2.ad e.2.l.length e.2.cap)).run Try.prog wr.drew = .ok (.string (strL e.2.l)) wr.drew ∧ (convert 30 9 (.slice ra xl.length rc)).run Try.prog wr.drew = .ok (.string (strL xl)) wr.drew :=
               ⟨c15, c14, conv_any _ _ _ (fn e.2.l) wr.drew hde.lies hde.nil, conv_any ra xl.length rc (fn xl) wr.drew hsx HSN.out⟩
             have HId : Hid (Fld w c (w.heap.size + 1) (strsA S2 6) 35 G S4 (.slice (some ⟨g14, 0, none⟩) L.length k14) (.slice (some ⟨g15, 0, none⟩) L.length k15) (L.map fun e => e.2.v) (L.map fun e => .int .i64 e.1) wr.drew ∧ SlAt wr.drew ra xl.length (fn xl)) := ⟨hI.drew, hsx⟩
             have hsuc := okB_succ sl xl i L he
             generalize hov : okB sl xl i L k = ov at *
             have HSU : Hid (okB sl xl i L (k + 1) = (ov || (e.1 == (i : Int) && ((strL e.2.l).toList == (strL xl).toList)))) := hsuc
             clear hI hsx c14 c15 hde hsuc hov he hem
             cases ov with
             | true =>
               go_wp2_with fail
               refine wp_region_noPanic ?_
               refine wp_region_held_drew (S := fun w' => w'.cell? ⟨g15, k, none⟩ = some (.int .i64 e.1) ∧ w'.cell? ⟨g14, k, none⟩ = some (.slice e.2.ad e.2.l.length e.2.cap) ∧ (convert 30 9 (.slice e.2.ad e.2.l.length e.2.cap)).run Try.prog w' = .ok (.string (strL e.2.l)) w' ∧ (convert 30 9 (.slice ra xl.length rc)).run Try.prog w' = .ok (.string (strL xl)) w') (by kernel_rfl) S1 (fun hHeld => ?_)
               refine wpAnyH_take (i := 0) (oi := { dst := some 149, op := Go.Op.move (Go.Operand.tmp 20), type := 4, pos := "law.go:134", after := #[], guard := none }) (v := ?_) rfl (by kernel_rfl) (by kernel_rfl) (by kernel_rfl) (fun _ _ _ h => h) (Or.inl ⟨by rfl, ?_⟩) (by assumption) ?_
               rotate_left
               · intro wz hSw; (try dsimp only at hSw); go_simp; (try with_reducible rfl)
               try simp only [Act.put, List.setIfInBounds_toArray, List.set_cons_zero, List.set_cons_succ]
               refine wpAnyH_take (i := 1) (oi := { dst := some 150, op := Go.Op.move (Go.Operand.tmp 149), type := 4, pos := "law.go:134", after := #[{ on := 0, ground := Go.Ground.data }], guard := none }) (v := ?_) rfl (by kernel_rfl) (by kernel_rfl) (by kernel_rfl) (fun _ _ _ h => h) (Or.inl ⟨by rfl, ?_⟩) (by assumption) ?_
               rotate_left
               · intro wz hSw; (try dsimp only at hSw); go_simp; (try with_reducible rfl)
               try simp only [Act.put, List.setIfInBounds_toArray, List.set_cons_zero, List.set_cons_succ]
               refine wpAnyH_take (i := 2) (oi := { dst := some 151, op := Go.Op.move (Go.Operand.tmp 15), type := 23, pos := "law.go:134", after := #[{ on := 1, ground := Go.Ground.guard }], guard := some (1, false) }) (v := undef) rfl (by kernel_rfl) (by kernel_rfl) (by kernel_rfl) (fun _ _ _ h => h) (Or.inr ⟨by rfl, rfl⟩) (by assumption) ?_
               try simp only [Act.put, List.setIfInBounds_toArray, List.set_cons_zero, List.set_cons_succ]
               refine wpAnyH_take (i := 3) (oi := { dst := some 152, op := Go.Op.move (Go.Operand.tmp 21), type := 3, pos := "law.go:134", after := #[{ on := 1, ground := Go.Ground.guard }], guard := some (1, false) }) (v := undef) rfl (by kernel_rfl) (by kernel_rfl) (by kernel_rfl) (fun _ _ _ h => h) (Or.inr ⟨by rfl, rfl⟩) (by assumption) ?_
               try simp only [Act.put, List.setIfInBounds_toArray, List.set_cons_zero, List.set_cons_succ]
               refine wpAnyH_take (i := 4) (oi := { dst := some 153, op := Go.Op.indexAddr 23 (Go.Operand.tmp 151) (Go.Operand.tmp 152), type := 0, pos := "law.go:134", after := #[{ on := 2, ground := Go.Ground.data }, { on := 3, ground := Go.Ground.data }, { on := 1, ground := Go.Ground.guard }], guard := some (1, false) }) (v := undef) rfl (by kernel_rfl) (by kernel_rfl) (by kernel_rfl) (fun _ _ _ h => h) (Or.inr ⟨by rfl, rfl⟩) (by assumption) ?_
               try simp only [Act.put, List.setIfInBounds_toArray, List.set_cons_zero, List.set_cons_succ]
               refine wpAnyH_take (i := 5) (oi := { dst := some 154, op := Go.Op.load 3 (Go.Operand.tmp 153), type := 3, pos := "law.go:134", after := #[{ on := 4, ground := Go.Ground.data }, { on := 1, ground := Go.Ground.guard }], guard := some (1, false) }) (v := undef) rfl (by kernel_rfl) (by kernel_rfl) (by kernel_rfl) (fun _ _ _ h => h) (Or.inr ⟨by rfl, rfl⟩) (by assumption) ?_
               try simp only [Act.put, List.setIfInBounds_toArray, List.set_cons_zero, List.set_cons_succ]
               refine wpAnyH_take (i := 6) (oi := { dst := some 155, op := Go.Op.move (Go.Operand.tmp 17), type := 3, pos := "law.go:134", after := #[{ on := 1, ground := Go.Ground.guard }], guard := some (1, false) }) (v := undef) rfl (by kernel_rfl) (by kernel_rfl) (by kernel_rfl) (fun _ _ _ h => h) (Or.inr ⟨by rfl, rfl⟩) (by assumption) ?_
               try simp only [Act.put, List.setIfInBounds_toArray, List.set_cons_zero, List.set_cons_succ]
               refine wpAnyH_take (i := 7) (oi := { dst := some 156, op := Go.Op.binOp Go.BinOp.eql 3 (Go.Operand.tmp 154) (Go.Operand.tmp 155) 3, type := 4, pos := "law.go:134", after := #[{ on := 5, ground := Go.Ground.data }, { on := 6, ground := Go.Ground.data }, { on := 1, ground := Go.Ground.guard }], guard := some (1, false) }) (v := undef) rfl (by kernel_rfl) (by kernel_rfl) (by kernel_rfl) (fun _ _ _ h => h) (Or.inr ⟨by rfl, rfl⟩) (by assumption) ?_
               try simp only [Act.put, List.setIfInBounds_toArray, List.set_cons_zero, List.set_cons_succ]
               refine wpAnyH_take (i := 8) (oi := { dst := some 157, op := Go.Op.move (Go.Operand.tmp 156), type := 4, pos := "law.go:134", after := #[{ on := 7, ground := Go.Ground.data }, { on := 1, ground := Go.Ground.chain }, { on := 1, ground := Go.Ground.guard }], guard := some (1, false) }) (v := undef) rfl (by kernel_rfl) (by kernel_rfl) (by kernel_rfl) (fun _ _ _ h => h) (Or.inr ⟨by rfl, rfl⟩) (by assumption) ?_
               try simp only [Act.put, List.setIfInBounds_toArray, List.set_cons_zero, List.set_cons_succ]
               refine wpAnyH_take (i := 9) (oi := { dst := some 158, op := Go.Op.move (Go.Operand.tmp 14), type := 38, pos := "law.go:134", after := #[{ on := 8, ground := Go.Ground.guard }], guard := some (8, true) }) (v := undef) rfl (by kernel_rfl) (by kernel_rfl) (by kernel_rfl) (fun _ _ _ h => h) (Or.inr ⟨by rfl, rfl⟩) (by assumption) ?_
               try simp only [Act.put, List.setIfInBounds_toArray, List.set_cons_zero, List.set_cons_succ]
               refine wpAnyH_take (i := 10) (oi := { dst := some 159, op := Go.Op.move (Go.Operand.tmp 21), type := 3, pos := "law.go:134", after := #[{ on := 8, ground := Go.Ground.guard }], guard := some (8, true) }) (v := undef) rfl (by kernel_rfl) (by kernel_rfl) (by kernel_rfl) (fun _ _ _ h => h) (Or.inr ⟨by rfl, rfl⟩) (by assumption) ?_
               try simp only [Act.put, List.setIfInBounds_toArray, List.set_cons_zero, List.set_cons_succ]
               refine wpAnyH_take (i := 11) (oi := { dst := some 160, op := Go.Op.indexAddr 38 (Go.Operand.tmp 158) (Go.Operand.tmp 159), type := 0, pos := "law.go:134", after := #[{ on := 9, ground := Go.Ground.data }, { on := 10, ground := Go.Ground.data }, { on := 8, ground := Go.Ground.guard }], guard := some (8, true) }) (v := undef) rfl (by kernel_rfl) (by kernel_rfl) (by kernel_rfl) (fun _ _ _ h => h) (Or.inr ⟨by rfl, rfl⟩) (by assumption) ?_
               try simp only [Act.put, List.setIfInBounds_toArray, List.set_cons_zero, List.set_cons_succ]
               refine wpAnyH_take (i := 12) (oi := { dst := some 161, op := Go.Op.load 30 (Go.Operand.tmp 160), type := 30, pos := "law.go:134", after := #[{ on := 11, ground := Go.Ground.data }, { on := 8, ground := Go.Ground.guard }], guard := some (8, true) }) (v := undef) rfl (by kernel_rfl) (by kernel_rfl) (by kernel_rfl) (fun _ _ _ h => h) (Or.inr ⟨by rfl, rfl⟩) (by assumption) ?_
               try simp only [Act.put, List.setIfInBounds_toArray, List.set_cons_zero, List.set_cons_succ]
               refine wpAnyH_take (i := 13) (oi := { dst := some 162, op := Go.Op.convert 30 9 (Go.Operand.tmp 161), type := 9, pos := "law.go:134", after := #[{ on := 12, ground := Go.Ground.data }, { on := 8, ground := Go.Ground.guard }], guard := some (8, true) }) (v := undef) rfl (by kernel_rfl) (by kernel_rfl) (by kernel_rfl) (fun _ _ _ h => h) (Or.inr ⟨by rfl, rfl⟩) (by assumption) ?_
               try simp only [Act.put, List.setIfInBounds_toArray, List.set_cons_zero, List.set_cons_succ]
               refine wpAnyH_take (i := 14) (oi := { dst := some 163, op := Go.Op.move (Go.Operand.tmp 18), type := 30, pos := "law.go:134", after := #[{ on := 8, ground := Go.Ground.guard }], guard := some (8, true) }) (v := undef) rfl (by kernel_rfl) (by kernel_rfl) (by kernel_rfl) (fun _ _ _ h => h) (Or.inr ⟨by rfl, rfl⟩) (by assumption) ?_
               try simp only [Act.put, List.setIfInBounds_toArray, List.set_cons_zero, List.set_cons_succ]
               refine wpAnyH_take (i := 15) (oi := { dst := some 164, op := Go.Op.convert 30 9 (Go.Operand.tmp 163), type := 9, pos := "law.go:134", after := #[{ on := 14, ground := Go.Ground.data }, { on := 8, ground := Go.Ground.guard }], guard := some (8, true) }) (v := undef) rfl (by kernel_rfl) (by kernel_rfl) (by kernel_rfl) (fun _ _ _ h => h) (Or.inr ⟨by rfl, rfl⟩) (by assumption) ?_
               try simp only [Act.put, List.setIfInBounds_toArray, List.set_cons_zero, List.set_cons_succ]
               refine wpAnyH_take (i := 16) (oi := { dst := some 165, op := Go.Op.binOp Go.BinOp.eql 9 (Go.Operand.tmp 162) (Go.Operand.tmp 164) 9, type := 4, pos := "law.go:134", after := #[{ on := 13, ground := Go.Ground.data }, { on := 15, ground := Go.Ground.data }, { on := 8, ground := Go.Ground.guard }], guard := some (8, true) }) (v := undef) rfl (by kernel_rfl) (by kernel_rfl) (by kernel_rfl) (fun _ _ _ h => h) (Or.inr ⟨by rfl, rfl⟩) (by assumption) ?_
               try simp only [Act.put, List.setIfInBounds_toArray, List.set_cons_zero, List.set_cons_succ]
               refine wpAnyH_take (i := 17) (oi := { dst := some 166, op := Go.Op.pick (Go.Operand.tmp 157) (Go.Operand.tmp 165) (Go.Operand.const (Go.Value.bool false)), type := 4, pos := "law.go:134", after := #[{ on := 8, ground := Go.Ground.data }, { on := 16, ground := Go.Ground.data }, { on := 1, ground := Go.Ground.guard }], guard := some (1, false) }) (v := undef) rfl (by kernel_rfl) (by kernel_rfl) (by kernel_rfl) (fun _ _ _ h => h) (Or.inr ⟨by rfl, rfl⟩) (by assumption) ?_
               try simp only [Act.put, List.setIfInBounds_toArray, List.set_cons_zero, List.set_cons_succ]
               refine wpAnyH_take (i := 18) (oi := { dst := some 167, op := Go.Op.pick (Go.Operand.tmp 150) (Go.Operand.const (Go.Value.bool true)) (Go.Operand.tmp 166), type := 4, pos := "law.go:134", after := #[{ on := 1, ground := Go.Ground.data }, { on := 17, ground := Go.Ground.data }], guard := none }) (v := ?_) rfl (by kernel_rfl) (by kernel_rfl) (by kernel_rfl) (fun _ _ _ h => h) (Or.inl ⟨by rfl, ?_⟩) (by assumption) ?_
               rotate_left
               · intro wz hSw; (try dsimp only at hSw); go_simp; (try with_reducible rfl)
               try simp only [Act.put, List.setIfInBounds_toArray, List.set_cons_zero, List.set_cons_succ]
               refine wpAnyH_take (i := 19) (oi := { dst := some 20, op := Go.Op.assign (Go.Operand.tmp 167), type := 4, pos := "law.go:134", after := #[{ on := 18, ground := Go.Ground.data }, { on := 8, ground := Go.Ground.chain }, { on := 0, ground := Go.Ground.phase }, { on := 1, ground := Go.Ground.phase }, { on := 2, ground := Go.Ground.phase }, { on := 3, ground := Go.Ground.phase }, { on := 4, ground := Go.Ground.phase }, { on := 5, ground := Go.Ground.phase }, { on := 6, ground := Go.Ground.phase }, { on := 7, ground := Go.Ground.phase }, { on := 8, ground := Go.Ground.phase }, { on := 9, ground := Go.Ground.phase }, { on := 10, ground := Go.Ground.phase }, { on := 11, ground := Go.Ground.phase }, { on := 12, ground := Go.Ground.phase }, { on := 13, ground := Go.Ground.phase }, { on := 14, ground := Go.Ground.phase }, { on := 15, ground := Go.Ground.phase }, { on := 16, ground := Go.Ground.phase }, { on := 17, ground := Go.Ground.phase }, { on := 18, ground := Go.Ground.phase }], guard := none }) (v := ?_) rfl (by kernel_rfl) (by kernel_rfl) (by kernel_rfl) (fun _ _ _ h => h) (Or.inl ⟨by rfl, ?_⟩) (by assumption) ?_
               rotate_left
               · intro wz hSw; (try dsimp only at hSw); go_simp; (try with_reducible rfl)
               try simp only [Act.put, List.setIfInBounds_toArray, List.set_cons_zero, List.set_cons_succ]
               refine wpAnyH_done (by kernel_rfl) (NoPanic.normal ?_) _
               try simp only [Act.put, List.setIfInBounds_toArray, List.set_cons_zero, List.set_cons_succ]
               clear S1 hHeld
               go_wp2_with fail
               go_roundw
               case rel => exact ⟨k + 1, by omega, by go_num, by rw [HSU.out]; rfl, HId.out⟩
               case measure => simp [intOf]; omega
             | false =>
               cases hq : (e.1 == (i : Int)) with
               | true =>
                 go_wp2_with fail
                 refine wp_region_noPanic ?_
                 refine wp_region_held_drew (S := fun w' => w'.cell? ⟨g15, k, none⟩ = some (.int .i64 e.1) ∧ w'.cell? ⟨g14, k, none⟩ = some (.slice e.2.ad e.2.l.length e.2.cap) ∧ (convert 30 9 (.slice e.2.ad e.2.l.length e.2.cap)).run Try.prog w' = .ok (.string (strL e.2.l)) w' ∧ (convert 30 9 (.slice ra xl.length rc)).run Try.prog w' = .ok (.string (strL xl)) w') (by kernel_rfl) S1 (fun hHeld => ?_)
                 refine wpAnyH_take (i := 0) (oi := { dst := some 149, op := Go.Op.move (Go.Operand.tmp 20), type := 4, pos := "law.go:134", after := #[], guard := none }) (v := ?_) rfl (by kernel_rfl) (by kernel_rfl) (by kernel_rfl) (fun _ _ _ h => h) (Or.inl ⟨by rfl, ?_⟩) (by assumption) ?_
                 rotate_left
                 · intro wz hSw; (try dsimp only at hSw); go_simp; (try with_reducible rfl)
                 try simp only [Act.put, List.setIfInBounds_toArray, List.set_cons_zero, List.set_cons_succ]
                 refine wpAnyH_take (i := 1) (oi := { dst := some 150, op := Go.Op.move (Go.Operand.tmp 149), type := 4, pos := "law.go:134", after := #[{ on := 0, ground := Go.Ground.data }], guard := none }) (v := ?_) rfl (by kernel_rfl) (by kernel_rfl) (by kernel_rfl) (fun _ _ _ h => h) (Or.inl ⟨by rfl, ?_⟩) (by assumption) ?_
                 rotate_left
                 · intro wz hSw; (try dsimp only at hSw); go_simp; (try with_reducible rfl)
                 try simp only [Act.put, List.setIfInBounds_toArray, List.set_cons_zero, List.set_cons_succ]
                 refine wpAnyH_take (i := 2) (oi := { dst := some 151, op := Go.Op.move (Go.Operand.tmp 15), type := 23, pos := "law.go:134", after := #[{ on := 1, ground := Go.Ground.guard }], guard := some (1, false) }) (v := ?_) rfl (by kernel_rfl) (by kernel_rfl) (by kernel_rfl) (fun _ _ _ h => h) (Or.inl ⟨by rfl, ?_⟩) (by assumption) ?_
                 rotate_left
                 · intro wz hSw; (try dsimp only at hSw); go_simp; (try with_reducible rfl)
                 try simp only [Act.put, List.setIfInBounds_toArray, List.set_cons_zero, List.set_cons_succ]
                 refine wpAnyH_take (i := 3) (oi := { dst := some 152, op := Go.Op.move (Go.Operand.tmp 21), type := 3, pos := "law.go:134", after := #[{ on := 1, ground := Go.Ground.guard }], guard := some (1, false) }) (v := ?_) rfl (by kernel_rfl) (by kernel_rfl) (by kernel_rfl) (fun _ _ _ h => h) (Or.inl ⟨by rfl, ?_⟩) (by assumption) ?_
                 rotate_left
                 · intro wz hSw; (try dsimp only at hSw); go_simp; (try with_reducible rfl)
                 try simp only [Act.put, List.setIfInBounds_toArray, List.set_cons_zero, List.set_cons_succ]
                 refine wpAnyH_take (i := 4) (oi := { dst := some 153, op := Go.Op.indexAddr 23 (Go.Operand.tmp 151) (Go.Operand.tmp 152), type := 0, pos := "law.go:134", after := #[{ on := 2, ground := Go.Ground.data }, { on := 3, ground := Go.Ground.data }, { on := 1, ground := Go.Ground.guard }], guard := some (1, false) }) (v := ?_) rfl (by kernel_rfl) (by kernel_rfl) (by kernel_rfl) (fun _ _ _ h => h) (Or.inl ⟨by rfl, ?_⟩) (by assumption) ?_
                 rotate_left
                 · intro wz hSw; (try dsimp only at hSw); go_simp; (try with_reducible rfl)
                 try simp only [Act.put, List.setIfInBounds_toArray, List.set_cons_zero, List.set_cons_succ]
                 refine wpAnyH_take (i := 5) (oi := { dst := some 154, op := Go.Op.load 3 (Go.Operand.tmp 153), type := 3, pos := "law.go:134", after := #[{ on := 4, ground := Go.Ground.data }, { on := 1, ground := Go.Ground.guard }], guard := some (1, false) }) (v := ?_) rfl (by kernel_rfl) (by kernel_rfl) (by kernel_rfl) (fun _ _ _ h => h) (Or.inl ⟨by rfl, ?_⟩) (by assumption) ?_
                 rotate_left
                 · intro wz hSw; (try dsimp only at hSw); go_simp; (try with_reducible rfl)
                 try simp only [Act.put, List.setIfInBounds_toArray, List.set_cons_zero, List.set_cons_succ]
                 refine wpAnyH_take (i := 6) (oi := { dst := some 155, op := Go.Op.move (Go.Operand.tmp 17), type := 3, pos := "law.go:134", after := #[{ on := 1, ground := Go.Ground.guard }], guard := some (1, false) }) (v := ?_) rfl (by kernel_rfl) (by kernel_rfl) (by kernel_rfl) (fun _ _ _ h => h) (Or.inl ⟨by rfl, ?_⟩) (by assumption) ?_
                 rotate_left
                 · intro wz hSw; (try dsimp only at hSw); go_simp; (try with_reducible rfl)
                 try simp only [Act.put, List.setIfInBounds_toArray, List.set_cons_zero, List.set_cons_succ]
                 refine wpAnyH_take (i := 7) (oi := { dst := some 156, op := Go.Op.binOp Go.BinOp.eql 3 (Go.Operand.tmp 154) (Go.Operand.tmp 155) 3, type := 4, pos := "law.go:134", after := #[{ on := 5, ground := Go.Ground.data }, { on := 6, ground := Go.Ground.data }, { on := 1, ground := Go.Ground.guard }], guard := some (1, false) }) (v := ?_) rfl (by kernel_rfl) (by kernel_rfl) (by kernel_rfl) (fun _ _ _ h => h) (Or.inl ⟨by rfl, ?_⟩) (by assumption) ?_
                 rotate_left
                 · intro wz hSw; (try dsimp only at hSw); go_simp; (try with_reducible rfl)
                 try simp only [Act.put, List.setIfInBounds_toArray, List.set_cons_zero, List.set_cons_succ]
                 refine wpAnyH_take (i := 8) (oi := { dst := some 157, op := Go.Op.move (Go.Operand.tmp 156), type := 4, pos := "law.go:134", after := #[{ on := 7, ground := Go.Ground.data }, { on := 1, ground := Go.Ground.chain }, { on := 1, ground := Go.Ground.guard }], guard := some (1, false) }) (v := ?_) rfl (by kernel_rfl) (by kernel_rfl) (by kernel_rfl) (fun _ _ _ h => h) (Or.inl ⟨by rfl, ?_⟩) (by assumption) ?_
                 rotate_left
                 · intro wz hSw; (try dsimp only at hSw); go_simp; (try with_reducible rfl)
                 try simp only [Act.put, List.setIfInBounds_toArray, List.set_cons_zero, List.set_cons_succ]
                 refine wpAnyH_take (i := 9) (oi := { dst := some 158, op := Go.Op.move (Go.Operand.tmp 14), type := 38, pos := "law.go:134", after := #[{ on := 8, ground := Go.Ground.guard }], guard := some (8, true) }) (v := ?_) rfl (by kernel_rfl) (by kernel_rfl) (by kernel_rfl) (fun _ _ _ h => h) (Or.inl ⟨by rfl, ?_⟩) (by assumption) ?_
                 rotate_left
                 · intro wz hSw; (try dsimp only at hSw); go_simp; (try with_reducible rfl)
                 try simp only [Act.put, List.setIfInBounds_toArray, List.set_cons_zero, List.set_cons_succ]
                 refine wpAnyH_take (i := 10) (oi := { dst := some 159, op := Go.Op.move (Go.Operand.tmp 21), type := 3, pos := "law.go:134", after := #[{ on := 8, ground := Go.Ground.guard }], guard := some (8, true) }) (v := ?_) rfl (by kernel_rfl) (by kernel_rfl) (by kernel_rfl) (fun _ _ _ h => h) (Or.inl ⟨by rfl, ?_⟩) (by assumption) ?_
                 rotate_left
                 · intro wz hSw; (try dsimp only at hSw); go_simp; (try with_reducible rfl)
                 try simp only [Act.put, List.setIfInBounds_toArray, List.set_cons_zero, List.set_cons_succ]
                 refine wpAnyH_take (i := 11) (oi := { dst := some 160, op := Go.Op.indexAddr 38 (Go.Operand.tmp 158) (Go.Operand.tmp 159), type := 0, pos := "law.go:134", after := #[{ on := 9, ground := Go.Ground.data }, { on := 10, ground := Go.Ground.data }, { on := 8, ground := Go.Ground.guard }], guard := some (8, true) }) (v := ?_) rfl (by kernel_rfl) (by kernel_rfl) (by kernel_rfl) (fun _ _ _ h => h) (Or.inl ⟨by rfl, ?_⟩) (by assumption) ?_
                 rotate_left
                 · intro wz hSw; (try dsimp only at hSw); go_simp; (try with_reducible rfl)
                 try simp only [Act.put, List.setIfInBounds_toArray, List.set_cons_zero, List.set_cons_succ]
                 refine wpAnyH_take (i := 12) (oi := { dst := some 161, op := Go.Op.load 30 (Go.Operand.tmp 160), type := 30, pos := "law.go:134", after := #[{ on := 11, ground := Go.Ground.data }, { on := 8, ground := Go.Ground.guard }], guard := some (8, true) }) (v := ?_) rfl (by kernel_rfl) (by kernel_rfl) (by kernel_rfl) (fun _ _ _ h => h) (Or.inl ⟨by rfl, ?_⟩) (by assumption) ?_
                 rotate_left
                 · intro wz hSw; (try dsimp only at hSw); go_simp; (try with_reducible rfl)
                 try simp only [Act.put, List.setIfInBounds_toArray, List.set_cons_zero, List.set_cons_succ]
                 refine wpAnyH_take (i := 13) (oi := { dst := some 162, op := Go.Op.convert 30 9 (Go.Operand.tmp 161), type := 9, pos := "law.go:134", after := #[{ on := 12, ground := Go.Ground.data }, { on := 8, ground := Go.Ground.guard }], guard := some (8, true) }) (v := ?_) rfl (by kernel_rfl) (by kernel_rfl) (by kernel_rfl) (fun _ _ _ h => h) (Or.inl ⟨by rfl, ?_⟩) (by assumption) ?_
                 rotate_left
                 · intro wz hSw; (try dsimp only at hSw); go_simp; (try with_reducible rfl)
                 try simp only [Act.put, List.setIfInBounds_toArray, List.set_cons_zero, List.set_cons_succ]
                 refine wpAnyH_take (i := 14) (oi := { dst := some 163, op := Go.Op.move (Go.Operand.tmp 18), type := 30, pos := "law.go:134", after := #[{ on := 8, ground := Go.Ground.guard }], guard := some (8, true) }) (v := ?_) rfl (by kernel_rfl) (by kernel_rfl) (by kernel_rfl) (fun _ _ _ h => h) (Or.inl ⟨by rfl, ?_⟩) (by assumption) ?_
                 rotate_left
                 · intro wz hSw; (try dsimp only at hSw); go_simp; (try with_reducible rfl)
                 try simp only [Act.put, List.setIfInBounds_toArray, List.set_cons_zero, List.set_cons_succ]
                 refine wpAnyH_take (i := 15) (oi := { dst := some 164, op := Go.Op.convert 30 9 (Go.Operand.tmp 163), type := 9, pos := "law.go:134", after := #[{ on := 14, ground := Go.Ground.data }, { on := 8, ground := Go.Ground.guard }], guard := some (8, true) }) (v := ?_) rfl (by kernel_rfl) (by kernel_rfl) (by kernel_rfl) (fun _ _ _ h => h) (Or.inl ⟨by rfl, ?_⟩) (by assumption) ?_
                 rotate_left
                 · intro wz hSw; (try dsimp only at hSw); go_simp; (try with_reducible rfl)
                 try simp only [Act.put, List.setIfInBounds_toArray, List.set_cons_zero, List.set_cons_succ]
                 refine wpAnyH_take (i := 16) (oi := { dst := some 165, op := Go.Op.binOp Go.BinOp.eql 9 (Go.Operand.tmp 162) (Go.Operand.tmp 164) 9, type := 4, pos := "law.go:134", after := #[{ on := 13, ground := Go.Ground.data }, { on := 15, ground := Go.Ground.data }, { on := 8, ground := Go.Ground.guard }], guard := some (8, true) }) (v := ?_) rfl (by kernel_rfl) (by kernel_rfl) (by kernel_rfl) (fun _ _ _ h => h) (Or.inl ⟨by rfl, ?_⟩) (by assumption) ?_
                 rotate_left
                 · intro wz hSw; (try dsimp only at hSw); go_simp; (try with_reducible rfl)
                 try simp only [Act.put, List.setIfInBounds_toArray, List.set_cons_zero, List.set_cons_succ]
                 refine wpAnyH_take (i := 17) (oi := { dst := some 166, op := Go.Op.pick (Go.Operand.tmp 157) (Go.Operand.tmp 165) (Go.Operand.const (Go.Value.bool false)), type := 4, pos := "law.go:134", after := #[{ on := 8, ground := Go.Ground.data }, { on := 16, ground := Go.Ground.data }, { on := 1, ground := Go.Ground.guard }], guard := some (1, false) }) (v := ?_) rfl (by kernel_rfl) (by kernel_rfl) (by kernel_rfl) (fun _ _ _ h => h) (Or.inl ⟨by rfl, ?_⟩) (by assumption) ?_
                 rotate_left
                 · intro wz hSw; (try dsimp only at hSw); go_simp; (try with_reducible rfl)
                 try simp only [Act.put, List.setIfInBounds_toArray, List.set_cons_zero, List.set_cons_succ]
                 refine wpAnyH_take (i := 18) (oi := { dst := some 167, op := Go.Op.pick (Go.Operand.tmp 150) (Go.Operand.const (Go.Value.bool true)) (Go.Operand.tmp 166), type := 4, pos := "law.go:134", after := #[{ on := 1, ground := Go.Ground.data }, { on := 17, ground := Go.Ground.data }], guard := none }) (v := ?_) rfl (by kernel_rfl) (by kernel_rfl) (by kernel_rfl) (fun _ _ _ h => h) (Or.inl ⟨by rfl, ?_⟩) (by assumption) ?_
                 rotate_left
                 · intro wz hSw; (try dsimp only at hSw); go_simp; (try with_reducible rfl)
                 try simp only [Act.put, List.setIfInBounds_toArray, List.set_cons_zero, List.set_cons_succ]
                 refine wpAnyH_take (i := 19) (oi := { dst := some 20, op := Go.Op.assign (Go.Operand.tmp 167), type := 4, pos := "law.go:134", after := #[{ on := 18, ground := Go.Ground.data }, { on := 8, ground := Go.Ground.chain }, { on := 0, ground := Go.Ground.phase }, { on := 1, ground := Go.Ground.phase }, { on := 2, ground := Go.Ground.phase }, { on := 3, ground := Go.Ground.phase }, { on := 4, ground := Go.Ground.phase }, { on := 5, ground := Go.Ground.phase }, { on := 6, ground := Go.Ground.phase }, { on := 7, ground := Go.Ground.phase }, { on := 8, ground := Go.Ground.phase }, { on := 9, ground := Go.Ground.phase }, { on := 10, ground := Go.Ground.phase }, { on := 11, ground := Go.Ground.phase }, { on := 12, ground := Go.Ground.phase }, { on := 13, ground := Go.Ground.phase }, { on := 14, ground := Go.Ground.phase }, { on := 15, ground := Go.Ground.phase }, { on := 16, ground := Go.Ground.phase }, { on := 17, ground := Go.Ground.phase }, { on := 18, ground := Go.Ground.phase }], guard := none }) (v := ?_) rfl (by kernel_rfl) (by kernel_rfl) (by kernel_rfl) (fun _ _ _ h => h) (Or.inl ⟨by rfl, ?_⟩) (by assumption) ?_
                 rotate_left
                 · intro wz hSw; (try dsimp only at hSw); go_simp; (try with_reducible rfl)
                 try simp only [Act.put, List.setIfInBounds_toArray, List.set_cons_zero, List.set_cons_succ]
                 refine wpAnyH_done (by kernel_rfl) (NoPanic.normal ?_) _
                 try simp only [Act.put, List.setIfInBounds_toArray, List.set_cons_zero, List.set_cons_succ]
                 clear S1 hHeld
                 go_wp2_with fail
                 go_roundw
                 case rel => exact ⟨k + 1, by omega, by go_num, by rw [HSU.out, hq]; simp, HId.out⟩
                 case measure => simp [intOf]; omega
               | false =>
                 go_wp2_with fail
                 refine wp_region_noPanic ?_
                 refine wp_region_held_drew (S := fun w' => w'.cell? ⟨g15, k, none⟩ = some (.int .i64 e.1) ∧ w'.cell? ⟨g14, k, none⟩ = some (.slice e.2.ad e.2.l.length e.2.cap) ∧ (convert 30 9 (.slice e.2.ad e.2.l.length e.2.cap)).run Try.prog w' = .ok (.string (strL e.2.l)) w' ∧ (convert 30 9 (.slice ra xl.length rc)).run Try.prog w' = .ok (.string (strL xl)) w') (by kernel_rfl) S1 (fun hHeld => ?_)
                 refine wpAnyH_take (i := 0) (oi := { dst := some 149, op := Go.Op.move (Go.Operand.tmp 20), type := 4, pos := "law.go:134", after := #[], guard := none }) (v := ?_) rfl (by kernel_rfl) (by kernel_rfl) (by kernel_rfl) (fun _ _ _ h => h) (Or.inl ⟨by rfl, ?_⟩) (by assumption) ?_
                 rotate_left
                 · intro wz hSw; (try dsimp only at hSw); go_simp; (try with_reducible rfl)
                 try simp only [Act.put, List.setIfInBounds_toArray, List.set_cons_zero, List.set_cons_succ]
                 refine wpAnyH_take (i := 1) (oi := { dst := some 150, op := Go.Op.move (Go.Operand.tmp 149), type := 4, pos := "law.go:134", after := #[{ on := 0, ground := Go.Ground.data }], guard := none }) (v := ?_) rfl (by kernel_rfl) (by kernel_rfl) (by kernel_rfl) (fun _ _ _ h => h) (Or.inl ⟨by rfl, ?_⟩) (by assumption) ?_
                 rotate_left
                 · intro wz hSw; (try dsimp only at hSw); go_simp; (try with_reducible rfl)
                 try simp only [Act.put, List.setIfInBounds_toArray, List.set_cons_zero, List.set_cons_succ]
                 refine wpAnyH_take (i := 2) (oi := { dst := some 151, op := Go.Op.move (Go.Operand.tmp 15), type := 23, pos := "law.go:134", after := #[{ on := 1, ground := Go.Ground.guard }], guard := some (1, false) }) (v := ?_) rfl (by kernel_rfl) (by kernel_rfl) (by kernel_rfl) (fun _ _ _ h => h) (Or.inl ⟨by rfl, ?_⟩) (by assumption) ?_
                 rotate_left
                 · intro wz hSw; (try dsimp only at hSw); go_simp; (try with_reducible rfl)
                 try simp only [Act.put, List.setIfInBounds_toArray, List.set_cons_zero, List.set_cons_succ]
                 refine wpAnyH_take (i := 3) (oi := { dst := some 152, op := Go.Op.move (Go.Operand.tmp 21), type := 3, pos := "law.go:134", after := #[{ on := 1, ground := Go.Ground.guard }], guard := some (1, false) }) (v := ?_) rfl (by kernel_rfl) (by kernel_rfl) (by kernel_rfl) (fun _ _ _ h => h) (Or.inl ⟨by rfl, ?_⟩) (by assumption) ?_
                 rotate_left
                 · intro wz hSw; (try dsimp only at hSw); go_simp; (try with_reducible rfl)
                 try simp only [Act.put, List.setIfInBounds_toArray, List.set_cons_zero, List.set_cons_succ]
                 refine wpAnyH_take (i := 4) (oi := { dst := some 153, op := Go.Op.indexAddr 23 (Go.Operand.tmp 151) (Go.Operand.tmp 152), type := 0, pos := "law.go:134", after := #[{ on := 2, ground := Go.Ground.data }, { on := 3, ground := Go.Ground.data }, { on := 1, ground := Go.Ground.guard }], guard := some (1, false) }) (v := ?_) rfl (by kernel_rfl) (by kernel_rfl) (by kernel_rfl) (fun _ _ _ h => h) (Or.inl ⟨by rfl, ?_⟩) (by assumption) ?_
                 rotate_left
                 · intro wz hSw; (try dsimp only at hSw); go_simp; (try with_reducible rfl)
                 try simp only [Act.put, List.setIfInBounds_toArray, List.set_cons_zero, List.set_cons_succ]
                 refine wpAnyH_take (i := 5) (oi := { dst := some 154, op := Go.Op.load 3 (Go.Operand.tmp 153), type := 3, pos := "law.go:134", after := #[{ on := 4, ground := Go.Ground.data }, { on := 1, ground := Go.Ground.guard }], guard := some (1, false) }) (v := ?_) rfl (by kernel_rfl) (by kernel_rfl) (by kernel_rfl) (fun _ _ _ h => h) (Or.inl ⟨by rfl, ?_⟩) (by assumption) ?_
                 rotate_left
                 · intro wz hSw; (try dsimp only at hSw); go_simp; (try with_reducible rfl)
                 try simp only [Act.put, List.setIfInBounds_toArray, List.set_cons_zero, List.set_cons_succ]
                 refine wpAnyH_take (i := 6) (oi := { dst := some 155, op := Go.Op.move (Go.Operand.tmp 17), type := 3, pos := "law.go:134", after := #[{ on := 1, ground := Go.Ground.guard }], guard := some (1, false) }) (v := ?_) rfl (by kernel_rfl) (by kernel_rfl) (by kernel_rfl) (fun _ _ _ h => h) (Or.inl ⟨by rfl, ?_⟩) (by assumption) ?_
                 rotate_left
                 · intro wz hSw; (try dsimp only at hSw); go_simp; (try with_reducible rfl)
                 try simp only [Act.put, List.setIfInBounds_toArray, List.set_cons_zero, List.set_cons_succ]
                 refine wpAnyH_take (i := 7) (oi := { dst := some 156, op := Go.Op.binOp Go.BinOp.eql 3 (Go.Operand.tmp 154) (Go.Operand.tmp 155) 3, type := 4, pos := "law.go:134", after := #[{ on := 5, ground := Go.Ground.data }, { on := 6, ground := Go.Ground.data }, { on := 1, ground := Go.Ground.guard }], guard := some (1, false) }) (v := ?_) rfl (by kernel_rfl) (by kernel_rfl) (by kernel_rfl) (fun _ _ _ h => h) (Or.inl ⟨by rfl, ?_⟩) (by assumption) ?_
                 rotate_left
                 · intro wz hSw; (try dsimp only at hSw); go_simp; (try with_reducible rfl)
                 try simp only [Act.put, List.setIfInBounds_toArray, List.set_cons_zero, List.set_cons_succ]
                 refine wpAnyH_take (i := 8) (oi := { dst := some 157, op := Go.Op.move (Go.Operand.tmp 156), type := 4, pos := "law.go:134", after := #[{ on := 7, ground := Go.Ground.data }, { on := 1, ground := Go.Ground.chain }, { on := 1, ground := Go.Ground.guard }], guard := some (1, false) }) (v := ?_) rfl (by kernel_rfl) (by kernel_rfl) (by kernel_rfl) (fun _ _ _ h => h) (Or.inl ⟨by rfl, ?_⟩) (by assumption) ?_
                 rotate_left
                 · intro wz hSw; (try dsimp only at hSw); go_simp; (try with_reducible rfl)
                 try simp only [Act.put, List.setIfInBounds_toArray, List.set_cons_zero, List.set_cons_succ]
                 refine wpAnyH_take (i := 9) (oi := { dst := some 158, op := Go.Op.move (Go.Operand.tmp 14), type := 38, pos := "law.go:134", after := #[{ on := 8, ground := Go.Ground.guard }], guard := some (8, true) }) (v := undef) rfl (by kernel_rfl) (by kernel_rfl) (by kernel_rfl) (fun _ _ _ h => h) (Or.inr ⟨by rfl, rfl⟩) (by assumption) ?_
                 try simp only [Act.put, List.setIfInBounds_toArray, List.set_cons_zero, List.set_cons_succ]
                 refine wpAnyH_take (i := 10) (oi := { dst := some 159, op := Go.Op.move (Go.Operand.tmp 21), type := 3, pos := "law.go:134", after := #[{ on := 8, ground := Go.Ground.guard }], guard := some (8, true) }) (v := undef) rfl (by kernel_rfl) (by kernel_rfl) (by kernel_rfl) (fun _ _ _ h => h) (Or.inr ⟨by rfl, rfl⟩) (by assumption) ?_
                 try simp only [Act.put, List.setIfInBounds_toArray, List.set_cons_zero, List.set_cons_succ]
                 refine wpAnyH_take (i := 11) (oi := { dst := some 160, op := Go.Op.indexAddr 38 (Go.Operand.tmp 158) (Go.Operand.tmp 159), type := 0, pos := "law.go:134", after := #[{ on := 9, ground := Go.Ground.data }, { on := 10, ground := Go.Ground.data }, { on := 8, ground := Go.Ground.guard }], guard := some (8, true) }) (v := undef) rfl (by kernel_rfl) (by kernel_rfl) (by kernel_rfl) (fun _ _ _ h => h) (Or.inr ⟨by rfl, rfl⟩) (by assumption) ?_
                 try simp only [Act.put, List.setIfInBounds_toArray, List.set_cons_zero, List.set_cons_succ]
                 refine wpAnyH_take (i := 12) (oi := { dst := some 161, op := Go.Op.load 30 (Go.Operand.tmp 160), type := 30, pos := "law.go:134", after := #[{ on := 11, ground := Go.Ground.data }, { on := 8, ground := Go.Ground.guard }], guard := some (8, true) }) (v := undef) rfl (by kernel_rfl) (by kernel_rfl) (by kernel_rfl) (fun _ _ _ h => h) (Or.inr ⟨by rfl, rfl⟩) (by assumption) ?_
                 try simp only [Act.put, List.setIfInBounds_toArray, List.set_cons_zero, List.set_cons_succ]
                 refine wpAnyH_take (i := 13) (oi := { dst := some 162, op := Go.Op.convert 30 9 (Go.Operand.tmp 161), type := 9, pos := "law.go:134", after := #[{ on := 12, ground := Go.Ground.data }, { on := 8, ground := Go.Ground.guard }], guard := some (8, true) }) (v := undef) rfl (by kernel_rfl) (by kernel_rfl) (by kernel_rfl) (fun _ _ _ h => h) (Or.inr ⟨by rfl, rfl⟩) (by assumption) ?_
                 try simp only [Act.put, List.setIfInBounds_toArray, List.set_cons_zero, List.set_cons_succ]
                 refine wpAnyH_take (i := 14) (oi := { dst := some 163, op := Go.Op.move (Go.Operand.tmp 18), type := 30, pos := "law.go:134", after := #[{ on := 8, ground := Go.Ground.guard }], guard := some (8, true) }) (v := undef) rfl (by kernel_rfl) (by kernel_rfl) (by kernel_rfl) (fun _ _ _ h => h) (Or.inr ⟨by rfl, rfl⟩) (by assumption) ?_
                 try simp only [Act.put, List.setIfInBounds_toArray, List.set_cons_zero, List.set_cons_succ]
                 refine wpAnyH_take (i := 15) (oi := { dst := some 164, op := Go.Op.convert 30 9 (Go.Operand.tmp 163), type := 9, pos := "law.go:134", after := #[{ on := 14, ground := Go.Ground.data }, { on := 8, ground := Go.Ground.guard }], guard := some (8, true) }) (v := undef) rfl (by kernel_rfl) (by kernel_rfl) (by kernel_rfl) (fun _ _ _ h => h) (Or.inr ⟨by rfl, rfl⟩) (by assumption) ?_
                 try simp only [Act.put, List.setIfInBounds_toArray, List.set_cons_zero, List.set_cons_succ]
                 refine wpAnyH_take (i := 16) (oi := { dst := some 165, op := Go.Op.binOp Go.BinOp.eql 9 (Go.Operand.tmp 162) (Go.Operand.tmp 164) 9, type := 4, pos := "law.go:134", after := #[{ on := 13, ground := Go.Ground.data }, { on := 15, ground := Go.Ground.data }, { on := 8, ground := Go.Ground.guard }], guard := some (8, true) }) (v := undef) rfl (by kernel_rfl) (by kernel_rfl) (by kernel_rfl) (fun _ _ _ h => h) (Or.inr ⟨by rfl, rfl⟩) (by assumption) ?_
                 try simp only [Act.put, List.setIfInBounds_toArray, List.set_cons_zero, List.set_cons_succ]
                 refine wpAnyH_take (i := 17) (oi := { dst := some 166, op := Go.Op.pick (Go.Operand.tmp 157) (Go.Operand.tmp 165) (Go.Operand.const (Go.Value.bool false)), type := 4, pos := "law.go:134", after := #[{ on := 8, ground := Go.Ground.data }, { on := 16, ground := Go.Ground.data }, { on := 1, ground := Go.Ground.guard }], guard := some (1, false) }) (v := ?_) rfl (by kernel_rfl) (by kernel_rfl) (by kernel_rfl) (fun _ _ _ h => h) (Or.inl ⟨by rfl, ?_⟩) (by assumption) ?_
                 rotate_left
                 · intro wz hSw; (try dsimp only at hSw); go_simp; (try with_reducible rfl)
                 try simp only [Act.put, List.setIfInBounds_toArray, List.set_cons_zero, List.set_cons_succ]
                 refine wpAnyH_take (i := 18) (oi := { dst := some 167, op := Go.Op.pick (Go.Operand.tmp 150) (Go.Operand.const (Go.Value.bool true)) (Go.Operand.tmp 166), type := 4, pos := "law.go:134", after := #[{ on := 1, ground := Go.Ground.data }, { on := 17, ground := Go.Ground.data }], guard := none }) (v := ?_) rfl (by kernel_rfl) (by kernel_rfl) (by kernel_rfl) (fun _ _ _ h => h) (Or.inl ⟨by rfl, ?_⟩) (by assumption) ?_
                 rotate_left
                 · intro wz hSw; (try dsimp only at hSw); go_simp; (try with_reducible rfl)
                 try simp only [Act.put, List.setIfInBounds_toArray, List.set_cons_zero, List.set_cons_succ]
                 refine wpAnyH_take (i := 19) (oi := { dst := some 20, op := Go.Op.assign (Go.Operand.tmp 167), type := 4, pos := "law.go:134", after := #[{ on := 18, ground := Go.Ground.data }, { on := 8, ground := Go.Ground.chain }, { on := 0, ground := Go.Ground.phase }, { on := 1, ground := Go.Ground.phase }, { on := 2, ground := Go.Ground.phase }, { on := 3, ground := Go.Ground.phase }, { on := 4, ground := Go.Ground.phase }, { on := 5, ground := Go.Ground.phase }, { on := 6, ground := Go.Ground.phase }, { on := 7, ground := Go.Ground.phase }, { on := 8, ground := Go.Ground.phase }, { on := 9, ground := Go.Ground.phase }, { on := 10, ground := Go.Ground.phase }, { on := 11, ground := Go.Ground.phase }, { on := 12, ground := Go.Ground.phase }, { on := 13, ground := Go.Ground.phase }, { on := 14, ground := Go.Ground.phase }, { on := 15, ground := Go.Ground.phase }, { on := 16, ground := Go.Ground.phase }, { on := 17, ground := Go.Ground.phase }, { on := 18, ground := Go.Ground.phase }], guard := none }) (v := ?_) rfl (by kernel_rfl) (by kernel_rfl) (by kernel_rfl) (fun _ _ _ h => h) (Or.inl ⟨by rfl, ?_⟩) (by assumption) ?_
                 rotate_left
                 · intro wz hSw; (try dsimp only at hSw); go_simp; (try with_reducible rfl)
                 try simp only [Act.put, List.setIfInBounds_toArray, List.set_cons_zero, List.set_cons_succ]
                 refine wpAnyH_done (by kernel_rfl) (NoPanic.normal ?_) _
                 try simp only [Act.put, List.setIfInBounds_toArray, List.set_cons_zero, List.set_cons_succ]
                 clear S1 hHeld
                 go_wp2_with fail
                 go_roundw
                 case rel => exact ⟨k + 1, by omega, by go_num, by rw [HSU.out, hq]; rfl, HId.out⟩
                 case measure => simp [intOf]; omega
           · obtain rfl : k = L.length := by omega
             have hnn : ¬ ((L.length : Int) < L.length) := by omega
             rw [hok]
             go_wp2_with fail
             go_meet
             exact ⟨rfl, hI⟩
       case rest =>
       obtain ⟨rfl, hI7⟩ := hcut
       have HI7 : Hid (Fld w c (w.heap.size + 1) (strsA S2 6) 35 G S4 (.slice a14 L.length k14) (.slice a15 L.length k15) (L.map fun e => e.2.v) (L.map fun e => .int .i64 e.1) wc) := hI7
       clear hI7 HI6
       go_wp2_with fail
       go_roundw
       case rel => exact ⟨i + 1, by omega, by go_num, HI7.out⟩
       case measure => simp [intOf]; omega
     · obtain rfl : i = 6 := by omega
       have HE := hI.bel
       go_wp2_with fail
       go_meet
       exact HE
  case rest =>
  clear hFl0
  have hsu := sure_any wc
  have hz := hcut.size
  go_wp2_with fail
  refine hsu.mono ?_
  rintro e w5 ⟨rfl, hb5⟩
  have HE := hcut.trans (hb5.mono hz)
  clear hsu
  go_wp2
  go_ret
  exact ⟨rfl, HE⟩
end Go.Proofs.Ytnilgjlccfileaa
