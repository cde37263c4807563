/- TimerAdds, on a queue's contracts (made by tools/mktad.py). -/
import Derived.Test.YthnobkiiaflelaaDoorOwnShelf16
import Derived.Deep.CutBlock
import Derived.Deep.DeepCutAuto
namespace Go.Proofs.YthnobkiiaflelaaDoor
open Go.RowKit Go.Maps Go.Sort

/-- Strings that lie somewhere. -/
def VsL (w : World) (ad : Option Addr) (ns : List (List UInt8)) : Prop := 0 < ns.length → ∃ b off, ad = some ⟨b, off, none⟩ ∧ ∀ j x, ns[j]? = some x → w.cell? ⟨b, off + j, none⟩ = some (encStr x)
theorem VsL.below {w w' : World} {ad : Option Addr} {ks : List (List UInt8)} (h : VsL w ad ks) (hb : Below w.heap.size w w') : VsL w' ad ks := fun hn => by
  obtain ⟨b, off, rfl, hc⟩ := h hn
  have hlt : b < w.heap.size := World.block_lt_of_cell? w _ (hc 0 _ (List.getElem?_eq_getElem hn))
  exact ⟨b, off, rfl, fun j x hx => by rw [World.cell?_of_block (a := ⟨b, off + j, none⟩) (hb.block b hlt)]; exact hc j x hx⟩
/-- While events are laid in, on both sides. -/
structure AdI (QS : World → (Nat → Prop) → Nat → List Ev → Int → Prop) (w wr : World) (p R : Nat) (i : Nat) : Prop where
  mk :: (out : ∃ A ad cap M last, (Below w.heap.size w wr ∧ QAt QS w.heap.size wr A p M last ∧ DR w.heap.size A R wr ad cap M last) ∧ last ≤ (i : Int))

set_option maxRecDepth 100000 in
set_option maxHeartbeats 3200000 in
theorem adds_any {QS : World → (Nat → Prop) → Nat → List Ev → Int → Prop} (hK : QK QS) (kd bd : Option Addr) (kcap cap2 : Nat) (ks : List Int) (ns : List (List UInt8)) (w : World) (hg : Glob w) (hk : IsL w kd ks) (hks : ks.length ≤ 140737488355328) (hkb : ∀ x ∈ ks, -9223372036854775808 ≤ x ∧ x ≤ 9223372036854775807) (hb : VsL w bd ns) (hns : ns.length ≤ 140737488355328) (hnb : ∀ s ∈ ns, s.length ≤ maxLen) :
    Calls Tryd.prog 4 #[.slice kd ks.length kcap, .slice bd ns.length cap2] w fun e w' => e = .returned (.bool true) ∧ Below w.heap.size w w' := by
  have HK : Hid (QK QS) := hK
  have HG : Hid (∀ W : World, Below w.heap.size w W → Glob W) := fun W hb => hg.below hb hg.pos
  have HI : Hid (IsL w kd ks ∧ VsL w bd ns) := ⟨hk, hb⟩
  have HBD : Hid ((∀ x ∈ ks, -9223372036854775808 ≤ x ∧ x ≤ 9223372036854775807) ∧ ∀ s ∈ ns, s.length ≤ maxLen) := ⟨hkb, hnb⟩
  clear hK hg hk hb hkb hnb
  go_enter Tryd.func4, Tryd.ntmps4
  go_wp2_with fail
  refine (HK.out.new w).mono ?_
  rintro e w1 ⟨p, A1, rfl, hq1, hA1, hb1⟩
  have HC1 : Hid (AdI QS w (w1.alloc (.cells #[.slice none 0 0, .int .i64 0] 39)) p w1.heap.size 0) := by
    have h2 := heap_alloc_new w1 (.cells #[.slice none 0 0, .int .i64 0] 39)
    have hbW : Below w1.heap.size w1 (w1.alloc (.cells #[.slice none 0 0, .int .i64 0] 39)) := (Below.refl _ w1).alloc (Nat.le_refl _) _
    have hlow := HK.out.low hq1
    exact ⟨⟨A1, none, 0, [], 0, ⟨hb1.trans (hbW.mono hb1.size), QAt.keep HK.out ⟨hq1, hA1⟩ hbW.size (fun k hk => hbW.block k (hlow k hk)), ⟨h2, (fun hn => by simp at hn), (fun h => by have := hlow _ h; omega), hb1.size, (fun a e => by cases e), Nat.le_refl _, (fun _ => ⟨rfl, rfl⟩), (fun a e => by cases e)⟩⟩, by simp⟩⟩
  clear hq1 hA1 hb1
  go_wp2_with fail
  generalize w1.heap.size = R at *
  go_loopw [7, 8, 9, 10, 11, 12, 13] (fun iv _ _ _ _ _ _ wr => ∃ i : Nat, i ≤ ks.length ∧ i ≤ 60 ∧ iv = .int .i64 i ∧ AdI QS w wr p R i) (fun iv _ _ _ _ _ _ _ => ks.length - (intOf iv).toNat)
  case atStart => exact ⟨0, Nat.zero_le _, Nat.zero_le _, rfl, HC1.out⟩
  case round =>
    clear HC1
    obtain ⟨i, hi, hi6, rfl, hC⟩ := hrel
    obtain ⟨A, ad, cap, M, last, hT, hla⟩ := hC.out
    have HT : Hid (Below w.heap.size w wr ∧ QAt QS w.heap.size wr A p M last ∧ DR w.heap.size A R wr ad cap M last) := hT
    have hlok := HK.out.ok hT.2.1.q
    have hl0 := hlok.nn
    have hlen := hlok.le
    clear hT hC
    by_cases hlt : i < ks.length ∧ i < 60
    · clear hlok
      obtain ⟨hlt, hlt6⟩ := hlt
      have hlt' : (i : Int) < ks.length := by omega
      have hlt6' : (i : Int) < 60 := by omega
      have hx : ks[i]? = some ks[i] := List.getElem?_eq_getElem hlt
      have hxb := HBD.out.1 ks[i] (List.getElem_mem hlt)
      obtain ⟨kb, koff, rfl, hc⟩ := HI.out.1 (by omega)
      have HKX : Hid (∀ W : World, Below w.heap.size w W → W.cell? ⟨kb, koff + i, none⟩ = some (.int .i64 ks[i])) := fun W hb => by
        have h0 := hc i _ hx
        rw [hb.cell (p := ⟨kb, koff + i, none⟩) (World.block_lt_of_cell? w _ h0)]; exact h0
      have k0 := HKX.out wr HT.out.1
      clear hc hx
      generalize ks[i] = x at *
      by_cases hin : i < ns.length
      · have hin' : (i : Int) < ns.length := by omega
        have hs : ns[i]? = some ns[i] := List.getElem?_eq_getElem hin
        have hnm := HBD.out.2 ns[i] (List.getElem_mem hin)
        obtain ⟨nb, noff, rfl, hc⟩ := (HI.out.2.below HT.out.1) (by omega)
        have n0 := hc i _ hs
        clear hc hs
        generalize ns[i] = nm at *
        go_wp2_with fail
        refine (HK.out.add x nm HT.out.2.1.q (by omega) hxb hnm).mono ?_
        rintro e w1 ⟨A1, rfl, hr1⟩
        have HQ1 : Hid (QAt QS w.heap.size w1 A1 p (addL last x nm M) (addN last x nm) ∧ Below w.heap.size w w1) := ⟨(hr1.at HT.out.2.1 HT.out.1.size).1, HT.out.1.trans (hr1.at HT.out.2.1 HT.out.1.size).2⟩
        have HD1 : Hid (DR w.heap.size A1 R w1 ad cap M last) := HT.out.2.2.queue hr1
        have k1 : w1.cell? ⟨kb, koff + i, none⟩ = some (.int .i64 x) := HKX.out w1 HQ1.out.2
        clear hr1 k0
        go_upto_region 12 with fail
        have HD2 : Hid (DR w.heap.size A1 R w1.drew ad cap M last ∧ Below w.heap.size w w1.drew ∧ Below w1.heap.size w1 w1.drew) := ⟨HD1.out.below (Below.refl _ w1).drew, HQ1.out.2.drew, (Below.refl _ w1).drew⟩
        have HSK : Hid (∀ W : World, Below w1.drew.heap.size w1.drew W → (W.cell? ⟨R, 0, none⟩ = some (.slice ad M.length cap) ∧ W.cell? ⟨R, 1, none⟩ = some (.int .i64 last)) ∧ W.cell? ⟨kb, koff + i, none⟩ = some (.int .i64 x)) := fun W hb => ⟨(HD2.out.1.below hb).cells, HKX.out W (HD2.out.2.1.trans (hb.mono HD2.out.2.1.size))⟩
        refine wp_region_noPanic ?_
        refine wp_region_held_drew (S := fun w' => (w'.cell? ⟨R, 0, none⟩ = some (.slice ad M.length cap) ∧ w'.cell? ⟨R, 1, none⟩ = some (.int .i64 last)) ∧ w'.cell? ⟨kb, koff + i, none⟩ = some (.int .i64 x)) (by kernel_rfl) (HSK.out _ (Below.refl _ _)) (fun hHeld => ?_)
        obtain ⟨wd, hwd⟩ : ∃ wd, w1.drew = wd := ⟨_, rfl⟩
        rw [hwd] at hHeld HD2 HSK ⊢
        clear hwd k1
        refine wpAnyH_take (i := 0) (oi := { dst := some 47, op := Go.Op.load 39 (Go.Operand.tmp 6), type := 39, pos := "law.go:152", after := #[], guard := none }) (v := .agg #[.slice ad M.length cap, .int .i64 last]) rfl (by kernel_rfl) (by kernel_rfl) (by kernel_rfl) (fun _ _ _ h => h) (Or.inl ⟨by rfl, ?_⟩) (by assumption) ?_
        · intro wz hSw; (try dsimp only at hSw); have h1 := hSw.1.1; have h2 := hSw.1.2; go_simp; try rfl
        try simp only [Act.put, List.setIfInBounds_toArray, List.set_cons_zero, List.set_cons_succ]
        refine wpAnyH_take (i := 1) (oi := { dst := some 48, op := Go.Op.move (Go.Operand.tmp 0), type := 54, pos := "law.go:152", after := #[], guard := none }) (v := ?_) rfl (by kernel_rfl) (by kernel_rfl) (by kernel_rfl) (fun _ _ _ h => h) (Or.inl ⟨by rfl, ?_⟩) (by assumption) ?_
        rotate_left
        · intro wz hSw; (try dsimp only at hSw); go_simp; (try with_reducible rfl)
        try simp only [Act.put, List.setIfInBounds_toArray, List.set_cons_zero, List.set_cons_succ]
        refine wpAnyH_take (i := 2) (oi := { dst := some 49, op := Go.Op.move (Go.Operand.tmp 7), type := 3, pos := "law.go:152", after := #[], guard := none }) (v := ?_) rfl (by kernel_rfl) (by kernel_rfl) (by kernel_rfl) (fun _ _ _ h => h) (Or.inl ⟨by rfl, ?_⟩) (by assumption) ?_
        rotate_left
        · intro wz hSw; (try dsimp only at hSw); go_simp; (try with_reducible rfl)
        try simp only [Act.put, List.setIfInBounds_toArray, List.set_cons_zero, List.set_cons_succ]
        refine wpAnyH_take (i := 3) (oi := { dst := some 50, op := Go.Op.indexAddr 54 (Go.Operand.tmp 48) (Go.Operand.tmp 49), type := 0, pos := "law.go:152", after := #[{ on := 1, ground := Go.Ground.data }, { on := 2, ground := Go.Ground.data }], guard := none }) (v := ?_) rfl (by kernel_rfl) (by kernel_rfl) (by kernel_rfl) (fun _ _ _ h => h) (Or.inl ⟨by rfl, ?_⟩) (by assumption) ?_
        rotate_left
        · intro wz hSw; (try dsimp only at hSw); go_simp; (try with_reducible rfl)
        try simp only [Act.put, List.setIfInBounds_toArray, List.set_cons_zero, List.set_cons_succ]
        refine wpAnyH_take (i := 4) (oi := { dst := some 51, op := Go.Op.load 3 (Go.Operand.tmp 50), type := 3, pos := "law.go:152", after := #[{ on := 3, ground := Go.Ground.data }], guard := none }) (v := .int .i64 x) rfl (by kernel_rfl) (by kernel_rfl) (by kernel_rfl) (fun _ _ _ h => h) (Or.inl ⟨by rfl, ?_⟩) (by assumption) ?_
        · intro wz hSw; (try dsimp only at hSw); have h1 := hSw.2; go_simp; try rfl
        try simp only [Act.put, List.setIfInBounds_toArray, List.set_cons_zero, List.set_cons_succ]
        refine wpAnyH_take (i := 5) (oi := { dst := some 52, op := Go.Op.move (Go.Operand.tmp 8), type := 9, pos := "law.go:152", after := #[], guard := none }) (v := ?_) rfl (by kernel_rfl) (by kernel_rfl) (by kernel_rfl) (fun _ _ _ h => h) (Or.inl ⟨by rfl, ?_⟩) (by assumption) ?_
        rotate_left
        · intro wz hSw; (try dsimp only at hSw); go_simp; (try with_reducible rfl)
        try simp only [Act.put, List.setIfInBounds_toArray, List.set_cons_zero, List.set_cons_succ]
        refine wpAnyH_ready (rs := [6, 11]) (by kernel_rfl) (by simp) ?_
        refine (AllReadyH.cons (o := { dst := some 53, op := Go.Op.call { callee := Go.Callee.value (Go.Operand.func 17), args := #[Go.Operand.tmp 47, Go.Operand.tmp 51, Go.Operand.tmp 52], argTypes := #[39, 3, 9] }, type := 48, pos := "law.go:152", after := #[{ on := 0, ground := Go.Ground.data }, { on := 4, ground := Go.Ground.data }, { on := 5, ground := Go.Ground.data }], guard := none }) rfl (fun K hK => ?_) (AllReadyH.cons (o := { dst := some 11, op := Go.Op.alloc 39, type := 0, pos := "law.go:152", after := #[], guard := none }) rfl (fun K hK => ?_) AllReadyH.nil))
        · have HBW : Hid (Below wd.heap.size wd wd) := Below.refl _ _
          go_simp
          refine (radd_any ad cap M last x nm wd (HD2.out.1.below HBW.out).row (by omega) HD1.out.capL HD1.out.nil HD1.out.spot (by omega) (by omega) hnm).mono ?_
          rintro e w2 h2
          obtain ⟨v, rfl, hv⟩ := h2.uni
          clear h2
          obtain ⟨va, vc, rfl⟩ : ∃ va vc, v = .slice va (addL last x nm M).length vc := by
            rcases hv.2 with ⟨h1, h2⟩ | h1
            · exact ⟨ad, cap, by rw [h1, h2]⟩
            · obtain ⟨a1, a2, h2, _⟩ := h1.sl
              exact ⟨a1, a2, h2⟩
          have HV2 : Hid (RowV wd w2 ad cap M (addL last x nm M) (.slice va (addL last x nm M).length vc)) := hv
          clear hv
          refine hK.out _ _ (HSK.out _ HV2.out.1) (fun _ => ?_)
          clear hK K
          try simp only [Act.put, List.setIfInBounds_toArray, List.set_cons_zero, List.set_cons_succ]
          refine wpAnyH_take (i := 7) (oi := { dst := some 46, op := Go.Op.move (Go.Operand.tmp 53), type := 48, pos := "law.go:152", after := #[{ on := 6, ground := Go.Ground.data }], guard := none }) (v := ?_) rfl (by kernel_rfl) (by kernel_rfl) (by kernel_rfl) (fun _ _ _ h => h) (Or.inl ⟨by rfl, ?_⟩) (by assumption) ?_
          rotate_left
          · intro wz hSw; (try dsimp only at hSw); go_simp; (try with_reducible rfl)
          try simp only [Act.put, List.setIfInBounds_toArray, List.set_cons_zero, List.set_cons_succ]
          refine wpAnyH_take (i := 8) (oi := { dst := some 54, op := Go.Op.extract (Go.Operand.tmp 46) 0, type := 39, pos := "law.go:152", after := #[{ on := 7, ground := Go.Ground.data }], guard := none }) (v := ?_) rfl (by kernel_rfl) (by kernel_rfl) (by kernel_rfl) (fun _ _ _ h => h) (Or.inl ⟨by rfl, ?_⟩) (by assumption) ?_
          rotate_left
          · intro wz hSw; (try dsimp only at hSw); go_simp; (try with_reducible rfl)
          try simp only [Act.put, List.setIfInBounds_toArray, List.set_cons_zero, List.set_cons_succ]
          refine wpAnyH_take (i := 9) (oi := { dst := some 55, op := Go.Op.extract (Go.Operand.tmp 46) 1, type := 3, pos := "law.go:152", after := #[{ on := 7, ground := Go.Ground.data }, { on := 12, ground := Go.Ground.gcOnly Go.Departure.lateStores }], guard := none }) (v := ?_) rfl (by kernel_rfl) (by kernel_rfl) (by kernel_rfl) (fun _ _ _ h => h) (Or.inl ⟨by rfl, ?_⟩) (by assumption) ?_
          rotate_left
          · intro wz hSw; (try dsimp only at hSw); go_simp; (try with_reducible rfl)
          try simp only [Act.put, List.setIfInBounds_toArray, List.set_cons_zero, List.set_cons_succ]
          refine wpAnyH_take (i := 10) (oi := { dst := some 56, op := Go.Op.extract (Go.Operand.tmp 46) 2, type := 3, pos := "law.go:152", after := #[{ on := 7, ground := Go.Ground.data }, { on := 13, ground := Go.Ground.gcOnly Go.Departure.lateStores }], guard := none }) (v := ?_) rfl (by kernel_rfl) (by kernel_rfl) (by kernel_rfl) (fun _ _ _ h => h) (Or.inl ⟨by rfl, ?_⟩) (by assumption) ?_
          rotate_left
          · intro wz hSw; (try dsimp only at hSw); go_simp; (try with_reducible rfl)
          try simp only [Act.put, List.setIfInBounds_toArray, List.set_cons_zero, List.set_cons_succ]
          refine wpAnyH_ready (rs := [11]) (by kernel_rfl) (by simp) ?_
          refine (AllReadyH.cons (o := { dst := some 11, op := Go.Op.alloc 39, type := 0, pos := "law.go:152", after := #[], guard := none }) rfl (fun K hK => ?_) AllReadyH.nil)
          go_simp
          have HW3 : Hid (∀ o : Obj, Below w2.heap.size w2 (w2.alloc o)) := fun o => (Below.refl _ w2).alloc (Nat.le_refl _) _
          refine hK.out _ _ (HSK.out _ (HV2.out.keep (HW3.out _)).1) (fun _ => ?_)
          clear hK K
          try simp only [Act.put, List.setIfInBounds_toArray, List.set_cons_zero, List.set_cons_succ]
          have HWS : Hid (Below wd.heap.size wd (w2.alloc (.cells #[(.slice va (addL last x nm M).length vc), (.int .i64 (addN last x nm))] 39))) := (HV2.out.keep (HW3.out _)).1
          have HX0 : Hid (RowV w1 (w2.alloc (.cells #[(.slice va (addL last x nm M).length vc), (.int .i64 (addN last x nm))] 39)) ad cap M (addL last x nm M) (.slice va (addL last x nm M).length vc) ∧ (w2.alloc (.cells #[(.slice va (addL last x nm M).length vc), (.int .i64 (addN last x nm))] 39)).heap[w2.heap.size]? = some (.cells #[(.slice va (addL last x nm M).length vc), (.int .i64 (addN last x nm))] 39 (0, 0))) := ⟨(HV2.out.keep (HW3.out _)).mono HD2.out.2.2, heap_alloc_new w2 _⟩
          refine wpAnyH_ready (rs := [12]) (by kernel_rfl) (by simp) ?_
          refine (AllReadyH.cons (o := { dst := none, op := Go.Op.store 39 (Go.Operand.tmp 11) (Go.Operand.tmp 54), type := 0, pos := "law.go:152", after := #[{ on := 11, ground := Go.Ground.data }, { on := 8, ground := Go.Ground.data }, { on := 6, ground := Go.Ground.chain }, { on := 0, ground := Go.Ground.phase }, { on := 1, ground := Go.Ground.phase }, { on := 2, ground := Go.Ground.phase }, { on := 3, ground := Go.Ground.phase }, { on := 4, ground := Go.Ground.phase }, { on := 5, ground := Go.Ground.phase }, { on := 6, ground := Go.Ground.phase }, { on := 7, ground := Go.Ground.phase }, { on := 8, ground := Go.Ground.phase }, { on := 9, ground := Go.Ground.textOnly Go.Departure.lateStores }, { on := 10, ground := Go.Ground.textOnly Go.Departure.lateStores }, { on := 11, ground := Go.Ground.phase }], guard := none }) rfl (fun K hK => ?_) AllReadyH.nil)
          go_simp
          refine hK.out _ _ (HSK.out _ HWS.out) (fun _ => ?_)
          clear hK K
          try simp only [Act.put, List.setIfInBounds_toArray, List.set_cons_zero, List.set_cons_succ]
          refine wpAnyH_take (i := 13) (oi := { dst := some 12, op := Go.Op.assign (Go.Operand.tmp 55), type := 3, pos := "law.go:152", after := #[{ on := 9, ground := Go.Ground.data }, { on := 12, ground := Go.Ground.chain }, { on := 0, ground := Go.Ground.phase }, { on := 1, ground := Go.Ground.phase }, { on := 2, ground := Go.Ground.phase }, { on := 3, ground := Go.Ground.phase }, { on := 4, ground := Go.Ground.phase }, { on := 5, ground := Go.Ground.phase }, { on := 6, ground := Go.Ground.phase }, { on := 7, ground := Go.Ground.phase }, { on := 8, ground := Go.Ground.phase }, { on := 9, ground := Go.Ground.phase }, { on := 10, ground := Go.Ground.textOnly Go.Departure.lateStores }, { on := 11, ground := Go.Ground.phase }, { on := 12, ground := Go.Ground.phase }], guard := none }) (v := ?_) rfl (by kernel_rfl) (by kernel_rfl) (by kernel_rfl) (fun _ _ _ h => h) (Or.inl ⟨by rfl, ?_⟩) (by assumption) ?_
          rotate_left
          · intro wz hSw; (try dsimp only at hSw); go_simp; (try with_reducible rfl)
          try simp only [Act.put, List.setIfInBounds_toArray, List.set_cons_zero, List.set_cons_succ]
          refine wpAnyH_take (i := 14) (oi := { dst := some 13, op := Go.Op.assign (Go.Operand.tmp 56), type := 3, pos := "law.go:152", after := #[{ on := 10, ground := Go.Ground.data }, { on := 13, ground := Go.Ground.chain }, { on := 0, ground := Go.Ground.phase }, { on := 1, ground := Go.Ground.phase }, { on := 2, ground := Go.Ground.phase }, { on := 3, ground := Go.Ground.phase }, { on := 4, ground := Go.Ground.phase }, { on := 5, ground := Go.Ground.phase }, { on := 6, ground := Go.Ground.phase }, { on := 7, ground := Go.Ground.phase }, { on := 8, ground := Go.Ground.phase }, { on := 9, ground := Go.Ground.phase }, { on := 10, ground := Go.Ground.phase }, { on := 11, ground := Go.Ground.phase }, { on := 12, ground := Go.Ground.phase }, { on := 13, ground := Go.Ground.phase }], guard := none }) (v := ?_) rfl (by kernel_rfl) (by kernel_rfl) (by kernel_rfl) (fun _ _ _ h => h) (Or.inl ⟨by rfl, ?_⟩) (by assumption) ?_
          rotate_left
          · intro wz hSw; (try dsimp only at hSw); go_simp; (try with_reducible rfl)
          try simp only [Act.put, List.setIfInBounds_toArray, List.set_cons_zero, List.set_cons_succ]
          refine wpAnyH_done (by kernel_rfl) (NoPanic.normal ?_) _
          try simp only [Act.put, List.setIfInBounds_toArray, List.set_cons_zero, List.set_cons_succ]
          generalize w2.alloc (.cells #[(.slice va (addL last x nm M).length vc), (.int .i64 (addN last x nm))] 39) = wx at *
          obtain ⟨T, hTT⟩ : ∃ T, w2.heap.size = T := ⟨_, rfl⟩
          rw [hTT] at HX0 ⊢
          clear hTT HWS HW3 HV2
          have HX := HX0
          clear hHeld HSK
          have HDX : Hid (DR w.heap.size A1 R wx ad cap M last ∧ Below w.heap.size w wx) := ⟨HD1.out.below HX.out.1.1, HQ1.out.2.trans (HX.out.1.1.mono HQ1.out.2.size)⟩
          have t0 : wx.cell? ⟨T, 0, none⟩ = some (.slice va (addL last x nm M).length vc) := by rw [cell_of_row _ _ 0 _ _ _ HX.out.2]; rfl
          have t1 : wx.cell? ⟨T, 1, none⟩ = some (.int .i64 (addN last x nm)) := by rw [cell_of_row _ _ 1 _ _ _ HX.out.2]; rfl
          have r0 := HDX.out.1.cells.1
          have r1 := HDX.out.1.cells.2
          have f0 := HDX.out.1.free.1
          have f1 := HDX.out.1.free.2
          have HP := HD1.out.put (lm' := addN last x nm) HX.out.1 HQ1.out.2.size (HK.out.low HQ1.out.1.q)
          obtain ⟨ad', cap', hv', hD'⟩ := HP
          cases hv'
          have HD' : Hid (DR w.heap.size A1 R ((wx.setCell ⟨R, 0, none⟩ (.slice va (addL last x nm M).length vc)).setCell ⟨R, 1, none⟩ (.int .i64 (addN last x nm))) va vc (addL last x nm M) (addN last x nm)) := hD'
          have HQ' : Hid (QAt QS w.heap.size ((wx.setCell ⟨R, 0, none⟩ (.slice va (addL last x nm M).length vc)).setCell ⟨R, 1, none⟩ (.int .i64 (addN last x nm))) A1 p (addL last x nm M) (addN last x nm)) := HQ1.out.1.keep HK.out (by simpa using HX.out.1.1.size) (fun k hk => by
            have hkR : k ≠ R := fun e => HD1.out.nR (e ▸ hk)
            rw [Below.heap_setCell _ _ _ _ (by simpa using hkR), Below.heap_setCell _ _ _ _ (by simpa using hkR)]
            exact HX.out.1.1.block k (HK.out.low HQ1.out.1.q k hk))
          have HB' : Hid (Below w.heap.size w ((wx.setCell ⟨R, 0, none⟩ (.slice va (addL last x nm M).length vc)).setCell ⟨R, 1, none⟩ (.int .i64 (addN last x nm)))) := HDX.out.2.trans (((Below.refl _ wx).setCell HD1.out.R0 _).setCell HD1.out.R0 _)
          clear hD'
          generalize hM' : addL last x nm M = M' at *
          generalize hN' : addN last x nm = last' at *
          generalize addI last x nm = ri at *
          generalize addE x nm = re at *
          have HL' : Hid (last' ≤ ((i + 1 : Nat) : Int)) := by
            have : last' ≤ (i : Int) + 1 := by
              rw [← hN']; unfold addN; split <;> omega
            exact (by omega : last' ≤ ((i + 1 : Nat) : Int))
          have hnum := num_any re _ (HG.out _ HB'.out)
          clear hM' hN' HX HT hla
          go_wp2_with fail
          refine hnum.mono ?_
          rintro e w9 ⟨rfl, hb9⟩
          have HN : Hid (AdI QS w w9 p R (i + 1)) := ⟨⟨A1, va, vc, M', last', ⟨Below.transS HB'.out hb9, HQ'.out.keep HK.out hb9.size (fun k hk => hb9.block k (HK.out.low HQ'.out.q k hk)), HD'.out.below hb9⟩, HL'.out⟩⟩
          clear hnum hb9
          go_wp2
          exact ⟨⟨i + 1, by omega, by omega, by go_num, HN.out⟩, by simp [intOf]; omega⟩
        · go_simp
          have HW3 : Hid (Below wd.heap.size wd (wd.alloc (.cells #[.slice none 0 0, .int .i64 0] 39))) := (Below.refl _ wd).alloc (Nat.le_refl _) _
          have hz3 := heap_alloc_new wd (.cells #[.slice none 0 0, .int .i64 0] 39)
          refine hK.out _ _ (HSK.out _ HW3.out) (fun _ => ?_)
          clear hK K
          try simp only [Act.put, List.setIfInBounds_toArray, List.set_cons_zero, List.set_cons_succ]
          obtain ⟨w3, hw3⟩ : ∃ w3, wd.alloc (.cells #[.slice none 0 0, .int .i64 0] 39) = w3 := ⟨_, rfl⟩
          have hT3 : wd.heap.size < w3.heap.size := by rw [← hw3]; simp
          rw [hw3] at HW3 hz3 ⊢
          have hS3 := HSK.out _ HW3.out
          have HBW : Hid (Below wd.heap.size wd w3) := HW3.out
          clear hw3
          refine wpAnyH_ready (rs := [6]) (by kernel_rfl) (by simp) ?_
          refine (AllReadyH.cons (o := { dst := some 53, op := Go.Op.call { callee := Go.Callee.value (Go.Operand.func 17), args := #[Go.Operand.tmp 47, Go.Operand.tmp 51, Go.Operand.tmp 52], argTypes := #[39, 3, 9] }, type := 48, pos := "law.go:152", after := #[{ on := 0, ground := Go.Ground.data }, { on := 4, ground := Go.Ground.data }, { on := 5, ground := Go.Ground.data }], guard := none }) rfl (fun K hK => ?_) AllReadyH.nil)
          go_simp
          refine (radd_any ad cap M last x nm w3 (HD2.out.1.below HBW.out).row (by omega) HD1.out.capL HD1.out.nil HD1.out.spot (by omega) (by omega) hnm).mono ?_
          rintro e w2 h2
          obtain ⟨v, rfl, hv⟩ := h2.uni
          clear h2
          obtain ⟨va, vc, rfl⟩ : ∃ va vc, v = .slice va (addL last x nm M).length vc := by
            rcases hv.2 with ⟨h1, h2⟩ | h1
            · exact ⟨ad, cap, by rw [h1, h2]⟩
            · obtain ⟨a1, a2, h2, _⟩ := h1.sl
              exact ⟨a1, a2, h2⟩
          have HV2 : Hid (RowV w3 w2 ad cap M (addL last x nm M) (.slice va (addL last x nm M).length vc)) := hv
          have hz2 : w2.heap[wd.heap.size]? = some (.cells #[.slice none 0 0, .int .i64 0] 39 (0, 0)) := (hv.1.block _ hT3).trans hz3
          clear hv
          have z0 : w2.cell? ⟨wd.heap.size, 0, none⟩ = some (.slice none 0 0) := by rw [cell_of_row _ _ 0 _ _ _ hz2]; rfl
          have z1 : w2.cell? ⟨wd.heap.size, 1, none⟩ = some (.int .i64 0) := by rw [cell_of_row _ _ 1 _ _ _ hz2]; rfl
          have g0 : w2.frozen? ⟨wd.heap.size, 0, none⟩ = false := frozen_of_row w2 _ 0 _ _ hz2
          have g1 : w2.frozen? ⟨wd.heap.size, 1, none⟩ = false := frozen_of_row w2 _ 1 _ _ hz2
          refine hK.out _ _ (HSK.out _ (Below.transS HW3.out HV2.out.1)) (fun _ => ?_)
          clear hK K
          try simp only [Act.put, List.setIfInBounds_toArray, List.set_cons_zero, List.set_cons_succ]
          refine wpAnyH_take (i := 7) (oi := { dst := some 46, op := Go.Op.move (Go.Operand.tmp 53), type := 48, pos := "law.go:152", after := #[{ on := 6, ground := Go.Ground.data }], guard := none }) (v := ?_) rfl (by kernel_rfl) (by kernel_rfl) (by kernel_rfl) (fun _ _ _ h => h) (Or.inl ⟨by rfl, ?_⟩) (by assumption) ?_
          rotate_left
          · intro wz hSw; (try dsimp only at hSw); go_simp; (try with_reducible rfl)
          try simp only [Act.put, List.setIfInBounds_toArray, List.set_cons_zero, List.set_cons_succ]
          refine wpAnyH_take (i := 8) (oi := { dst := some 54, op := Go.Op.extract (Go.Operand.tmp 46) 0, type := 39, pos := "law.go:152", after := #[{ on := 7, ground := Go.Ground.data }], guard := none }) (v := ?_) rfl (by kernel_rfl) (by kernel_rfl) (by kernel_rfl) (fun _ _ _ h => h) (Or.inl ⟨by rfl, ?_⟩) (by assumption) ?_
          rotate_left
          · intro wz hSw; (try dsimp only at hSw); go_simp; (try with_reducible rfl)
          try simp only [Act.put, List.setIfInBounds_toArray, List.set_cons_zero, List.set_cons_succ]
          refine wpAnyH_take (i := 9) (oi := { dst := some 55, op := Go.Op.extract (Go.Operand.tmp 46) 1, type := 3, pos := "law.go:152", after := #[{ on := 7, ground := Go.Ground.data }, { on := 12, ground := Go.Ground.gcOnly Go.Departure.lateStores }], guard := none }) (v := ?_) rfl (by kernel_rfl) (by kernel_rfl) (by kernel_rfl) (fun _ _ _ h => h) (Or.inl ⟨by rfl, ?_⟩) (by assumption) ?_
          rotate_left
          · intro wz hSw; (try dsimp only at hSw); go_simp; (try with_reducible rfl)
          try simp only [Act.put, List.setIfInBounds_toArray, List.set_cons_zero, List.set_cons_succ]
          refine wpAnyH_take (i := 10) (oi := { dst := some 56, op := Go.Op.extract (Go.Operand.tmp 46) 2, type := 3, pos := "law.go:152", after := #[{ on := 7, ground := Go.Ground.data }, { on := 13, ground := Go.Ground.gcOnly Go.Departure.lateStores }], guard := none }) (v := ?_) rfl (by kernel_rfl) (by kernel_rfl) (by kernel_rfl) (fun _ _ _ h => h) (Or.inl ⟨by rfl, ?_⟩) (by assumption) ?_
          rotate_left
          · intro wz hSw; (try dsimp only at hSw); go_simp; (try with_reducible rfl)
          try simp only [Act.put, List.setIfInBounds_toArray, List.set_cons_zero, List.set_cons_succ]
          have HX0 : Hid (RowV wd ((w2.setCell ⟨wd.heap.size, 0, none⟩ (.slice va (addL last x nm M).length vc)).setCell ⟨wd.heap.size, 1, none⟩ (.int .i64 (addN last x nm))) ad cap M (addL last x nm M) (.slice va (addL last x nm M).length vc) ∧ ((w2.setCell ⟨wd.heap.size, 0, none⟩ (.slice va (addL last x nm M).length vc)).setCell ⟨wd.heap.size, 1, none⟩ (.int .i64 (addN last x nm))).heap[wd.heap.size]? = some (.cells #[(.slice va (addL last x nm M).length vc), (.int .i64 (addN last x nm))] 39 (0, 0))) := ⟨HV2.out.set HW3.out (Nat.le_refl _) hT3, box_set hz2⟩
          have HWS : Hid (Below wd.heap.size wd ((w2.setCell ⟨wd.heap.size, 0, none⟩ (.slice va (addL last x nm M).length vc)).setCell ⟨wd.heap.size, 1, none⟩ (.int .i64 (addN last x nm)))) := HX0.out.1.1
          clear hz2 hz3 hS3
          refine wpAnyH_ready (rs := [12]) (by kernel_rfl) (by simp) ?_
          refine (AllReadyH.cons (o := { dst := none, op := Go.Op.store 39 (Go.Operand.tmp 11) (Go.Operand.tmp 54), type := 0, pos := "law.go:152", after := #[{ on := 11, ground := Go.Ground.data }, { on := 8, ground := Go.Ground.data }, { on := 6, ground := Go.Ground.chain }, { on := 0, ground := Go.Ground.phase }, { on := 1, ground := Go.Ground.phase }, { on := 2, ground := Go.Ground.phase }, { on := 3, ground := Go.Ground.phase }, { on := 4, ground := Go.Ground.phase }, { on := 5, ground := Go.Ground.phase }, { on := 6, ground := Go.Ground.phase }, { on := 7, ground := Go.Ground.phase }, { on := 8, ground := Go.Ground.phase }, { on := 9, ground := Go.Ground.textOnly Go.Departure.lateStores }, { on := 10, ground := Go.Ground.textOnly Go.Departure.lateStores }, { on := 11, ground := Go.Ground.phase }], guard := none }) rfl (fun K hK => ?_) AllReadyH.nil)
          go_simp
          refine hK.out _ _ (HSK.out _ HWS.out) (fun _ => ?_)
          clear hK K
          try simp only [Act.put, List.setIfInBounds_toArray, List.set_cons_zero, List.set_cons_succ]
          refine wpAnyH_take (i := 13) (oi := { dst := some 12, op := Go.Op.assign (Go.Operand.tmp 55), type := 3, pos := "law.go:152", after := #[{ on := 9, ground := Go.Ground.data }, { on := 12, ground := Go.Ground.chain }, { on := 0, ground := Go.Ground.phase }, { on := 1, ground := Go.Ground.phase }, { on := 2, ground := Go.Ground.phase }, { on := 3, ground := Go.Ground.phase }, { on := 4, ground := Go.Ground.phase }, { on := 5, ground := Go.Ground.phase }, { on := 6, ground := Go.Ground.phase }, { on := 7, ground := Go.Ground.phase }, { on := 8, ground := Go.Ground.phase }, { on := 9, ground := Go.Ground.phase }, { on := 10, ground := Go.Ground.textOnly Go.Departure.lateStores }, { on := 11, ground := Go.Ground.phase }, { on := 12, ground := Go.Ground.phase }], guard := none }) (v := ?_) rfl (by kernel_rfl) (by kernel_rfl) (by kernel_rfl) (fun _ _ _ h => h) (Or.inl ⟨by rfl, ?_⟩) (by assumption) ?_
          rotate_left
          · intro wz hSw; (try dsimp only at hSw); go_simp; (try with_reducible rfl)
          try simp only [Act.put, List.setIfInBounds_toArray, List.set_cons_zero, List.set_cons_succ]
          refine wpAnyH_take (i := 14) (oi := { dst := some 13, op := Go.Op.assign (Go.Operand.tmp 56), type := 3, pos := "law.go:152", after := #[{ on := 10, ground := Go.Ground.data }, { on := 13, ground := Go.Ground.chain }, { on := 0, ground := Go.Ground.phase }, { on := 1, ground := Go.Ground.phase }, { on := 2, ground := Go.Ground.phase }, { on := 3, ground := Go.Ground.phase }, { on := 4, ground := Go.Ground.phase }, { on := 5, ground := Go.Ground.phase }, { on := 6, ground := Go.Ground.phase }, { on := 7, ground := Go.Ground.phase }, { on := 8, ground := Go.Ground.phase }, { on := 9, ground := Go.Ground.phase }, { on := 10, ground := Go.Ground.phase }, { on := 11, ground := Go.Ground.phase }, { on := 12, ground := Go.Ground.phase }, { on := 13, ground := Go.Ground.phase }], guard := none }) (v := ?_) rfl (by kernel_rfl) (by kernel_rfl) (by kernel_rfl) (fun _ _ _ h => h) (Or.inl ⟨by rfl, ?_⟩) (by assumption) ?_
          rotate_left
          · intro wz hSw; (try dsimp only at hSw); go_simp; (try with_reducible rfl)
          try simp only [Act.put, List.setIfInBounds_toArray, List.set_cons_zero, List.set_cons_succ]
          refine wpAnyH_done (by kernel_rfl) (NoPanic.normal ?_) _
          try simp only [Act.put, List.setIfInBounds_toArray, List.set_cons_zero, List.set_cons_succ]
          clear z0 z1 g0 g1 hT3
          generalize (w2.setCell ⟨wd.heap.size, 0, none⟩ (.slice va (addL last x nm M).length vc)).setCell ⟨wd.heap.size, 1, none⟩ (.int .i64 (addN last x nm)) = wx at *
          obtain ⟨T, hTT⟩ : ∃ T, wd.heap.size = T := ⟨_, rfl⟩
          have HX1 : Hid (RowV w1 wx ad cap M (addL last x nm M) (.slice va (addL last x nm M).length vc) ∧ wx.heap[wd.heap.size]? = some (.cells #[(.slice va (addL last x nm M).length vc), (.int .i64 (addN last x nm))] 39 (0, 0))) := ⟨HX0.out.1.mono HD2.out.2.2, HX0.out.2⟩
          rw [hTT] at HX1 ⊢
          clear hTT HWS HW3 HV2 HX0
          have HX := HX1
          clear hHeld HSK
          have HDX : Hid (DR w.heap.size A1 R wx ad cap M last ∧ Below w.heap.size w wx) := ⟨HD1.out.below HX.out.1.1, HQ1.out.2.trans (HX.out.1.1.mono HQ1.out.2.size)⟩
          have t0 : wx.cell? ⟨T, 0, none⟩ = some (.slice va (addL last x nm M).length vc) := by rw [cell_of_row _ _ 0 _ _ _ HX.out.2]; rfl
          have t1 : wx.cell? ⟨T, 1, none⟩ = some (.int .i64 (addN last x nm)) := by rw [cell_of_row _ _ 1 _ _ _ HX.out.2]; rfl
          have r0 := HDX.out.1.cells.1
          have r1 := HDX.out.1.cells.2
          have f0 := HDX.out.1.free.1
          have f1 := HDX.out.1.free.2
          have HP := HD1.out.put (lm' := addN last x nm) HX.out.1 HQ1.out.2.size (HK.out.low HQ1.out.1.q)
          obtain ⟨ad', cap', hv', hD'⟩ := HP
          cases hv'
          have HD' : Hid (DR w.heap.size A1 R ((wx.setCell ⟨R, 0, none⟩ (.slice va (addL last x nm M).length vc)).setCell ⟨R, 1, none⟩ (.int .i64 (addN last x nm))) va vc (addL last x nm M) (addN last x nm)) := hD'
          have HQ' : Hid (QAt QS w.heap.size ((wx.setCell ⟨R, 0, none⟩ (.slice va (addL last x nm M).length vc)).setCell ⟨R, 1, none⟩ (.int .i64 (addN last x nm))) A1 p (addL last x nm M) (addN last x nm)) := HQ1.out.1.keep HK.out (by simpa using HX.out.1.1.size) (fun k hk => by
            have hkR : k ≠ R := fun e => HD1.out.nR (e ▸ hk)
            rw [Below.heap_setCell _ _ _ _ (by simpa using hkR), Below.heap_setCell _ _ _ _ (by simpa using hkR)]
            exact HX.out.1.1.block k (HK.out.low HQ1.out.1.q k hk))
          have HB' : Hid (Below w.heap.size w ((wx.setCell ⟨R, 0, none⟩ (.slice va (addL last x nm M).length vc)).setCell ⟨R, 1, none⟩ (.int .i64 (addN last x nm)))) := HDX.out.2.trans (((Below.refl _ wx).setCell HD1.out.R0 _).setCell HD1.out.R0 _)
          clear hD'
          generalize hM' : addL last x nm M = M' at *
          generalize hN' : addN last x nm = last' at *
          generalize addI last x nm = ri at *
          generalize addE x nm = re at *
          have HL' : Hid (last' ≤ ((i + 1 : Nat) : Int)) := by
            have : last' ≤ (i : Int) + 1 := by
              rw [← hN']; unfold addN; split <;> omega
            exact (by omega : last' ≤ ((i + 1 : Nat) : Int))
          have hnum := num_any re _ (HG.out _ HB'.out)
          clear hM' hN' HX HT hla
          go_wp2_with fail
          refine hnum.mono ?_
          rintro e w9 ⟨rfl, hb9⟩
          have HN : Hid (AdI QS w w9 p R (i + 1)) := ⟨⟨A1, va, vc, M', last', ⟨Below.transS HB'.out hb9, HQ'.out.keep HK.out hb9.size (fun k hk => hb9.block k (HK.out.low HQ'.out.q k hk)), HD'.out.below hb9⟩, HL'.out⟩⟩
          clear hnum hb9
          go_wp2
          exact ⟨⟨i + 1, by omega, by omega, by go_num, HN.out⟩, by simp [intOf]; omega⟩
      · have hin' : ¬ ((i : Int) < ns.length) := by omega
        have hnm : ([] : List UInt8).length ≤ maxLen := by decide
        go_wp2_with fail
        refine (HK.out.add x [] HT.out.2.1.q (by omega) hxb hnm).mono ?_
        rintro e w1 ⟨A1, rfl, hr1⟩
        have HQ1 : Hid (QAt QS w.heap.size w1 A1 p (addL last x [] M) (addN last x []) ∧ Below w.heap.size w w1) := ⟨(hr1.at HT.out.2.1 HT.out.1.size).1, HT.out.1.trans (hr1.at HT.out.2.1 HT.out.1.size).2⟩
        have HD1 : Hid (DR w.heap.size A1 R w1 ad cap M last) := HT.out.2.2.queue hr1
        have k1 : w1.cell? ⟨kb, koff + i, none⟩ = some (.int .i64 x) := HKX.out w1 HQ1.out.2
        clear hr1 k0
        go_upto_region 12 with fail
        have HD2 : Hid (DR w.heap.size A1 R w1.drew ad cap M last ∧ Below w.heap.size w w1.drew ∧ Below w1.heap.size w1 w1.drew) := ⟨HD1.out.below (Below.refl _ w1).drew, HQ1.out.2.drew, (Below.refl _ w1).drew⟩
        have HSK : Hid (∀ W : World, Below w1.drew.heap.size w1.drew W → (W.cell? ⟨R, 0, none⟩ = some (.slice ad M.length cap) ∧ W.cell? ⟨R, 1, none⟩ = some (.int .i64 last)) ∧ W.cell? ⟨kb, koff + i, none⟩ = some (.int .i64 x)) := fun W hb => ⟨(HD2.out.1.below hb).cells, HKX.out W (HD2.out.2.1.trans (hb.mono HD2.out.2.1.size))⟩
        refine wp_region_noPanic ?_
        refine wp_region_held_drew (S := fun w' => (w'.cell? ⟨R, 0, none⟩ = some (.slice ad M.length cap) ∧ w'.cell? ⟨R, 1, none⟩ = some (.int .i64 last)) ∧ w'.cell? ⟨kb, koff + i, none⟩ = some (.int .i64 x)) (by kernel_rfl) (HSK.out _ (Below.refl _ _)) (fun hHeld => ?_)
        obtain ⟨wd, hwd⟩ : ∃ wd, w1.drew = wd := ⟨_, rfl⟩
        rw [hwd] at hHeld HD2 HSK ⊢
        clear hwd k1
        refine wpAnyH_take (i := 0) (oi := { dst := some 47, op := Go.Op.load 39 (Go.Operand.tmp 6), type := 39, pos := "law.go:152", after := #[], guard := none }) (v := .agg #[.slice ad M.length cap, .int .i64 last]) rfl (by kernel_rfl) (by kernel_rfl) (by kernel_rfl) (fun _ _ _ h => h) (Or.inl ⟨by rfl, ?_⟩) (by assumption) ?_
        · intro wz hSw; (try dsimp only at hSw); have h1 := hSw.1.1; have h2 := hSw.1.2; go_simp; try rfl
        try simp only [Act.put, List.setIfInBounds_toArray, List.set_cons_zero, List.set_cons_succ]
        refine wpAnyH_take (i := 1) (oi := { dst := some 48, op := Go.Op.move (Go.Operand.tmp 0), type := 54, pos := "law.go:152", after := #[], guard := none }) (v := ?_) rfl (by kernel_rfl) (by kernel_rfl) (by kernel_rfl) (fun _ _ _ h => h) (Or.inl ⟨by rfl, ?_⟩) (by assumption) ?_
        rotate_left
        · intro wz hSw; (try dsimp only at hSw); go_simp; (try with_reducible rfl)
        try simp only [Act.put, List.setIfInBounds_toArray, List.set_cons_zero, List.set_cons_succ]
        refine wpAnyH_take (i := 2) (oi := { dst := some 49, op := Go.Op.move (Go.Operand.tmp 7), type := 3, pos := "law.go:152", after := #[], guard := none }) (v := ?_) rfl (by kernel_rfl) (by kernel_rfl) (by kernel_rfl) (fun _ _ _ h => h) (Or.inl ⟨by rfl, ?_⟩) (by assumption) ?_
        rotate_left
        · intro wz hSw; (try dsimp only at hSw); go_simp; (try with_reducible rfl)
        try simp only [Act.put, List.setIfInBounds_toArray, List.set_cons_zero, List.set_cons_succ]
        refine wpAnyH_take (i := 3) (oi := { dst := some 50, op := Go.Op.indexAddr 54 (Go.Operand.tmp 48) (Go.Operand.tmp 49), type := 0, pos := "law.go:152", after := #[{ on := 1, ground := Go.Ground.data }, { on := 2, ground := Go.Ground.data }], guard := none }) (v := ?_) rfl (by kernel_rfl) (by kernel_rfl) (by kernel_rfl) (fun _ _ _ h => h) (Or.inl ⟨by rfl, ?_⟩) (by assumption) ?_
        rotate_left
        · intro wz hSw; (try dsimp only at hSw); go_simp; (try with_reducible rfl)
        try simp only [Act.put, List.setIfInBounds_toArray, List.set_cons_zero, List.set_cons_succ]
        refine wpAnyH_take (i := 4) (oi := { dst := some 51, op := Go.Op.load 3 (Go.Operand.tmp 50), type := 3, pos := "law.go:152", after := #[{ on := 3, ground := Go.Ground.data }], guard := none }) (v := .int .i64 x) rfl (by kernel_rfl) (by kernel_rfl) (by kernel_rfl) (fun _ _ _ h => h) (Or.inl ⟨by rfl, ?_⟩) (by assumption) ?_
        · intro wz hSw; (try dsimp only at hSw); have h1 := hSw.2; go_simp; try rfl
        try simp only [Act.put, List.setIfInBounds_toArray, List.set_cons_zero, List.set_cons_succ]
        refine wpAnyH_take (i := 5) (oi := { dst := some 52, op := Go.Op.move (Go.Operand.tmp 8), type := 9, pos := "law.go:152", after := #[], guard := none }) (v := ?_) rfl (by kernel_rfl) (by kernel_rfl) (by kernel_rfl) (fun _ _ _ h => h) (Or.inl ⟨by rfl, ?_⟩) (by assumption) ?_
        rotate_left
        · intro wz hSw; (try dsimp only at hSw); go_simp; (try with_reducible rfl)
        try simp only [Act.put, List.setIfInBounds_toArray, List.set_cons_zero, List.set_cons_succ]
        refine wpAnyH_ready (rs := [6, 11]) (by kernel_rfl) (by simp) ?_
        refine (AllReadyH.cons (o := { dst := some 53, op := Go.Op.call { callee := Go.Callee.value (Go.Operand.func 17), args := #[Go.Operand.tmp 47, Go.Operand.tmp 51, Go.Operand.tmp 52], argTypes := #[39, 3, 9] }, type := 48, pos := "law.go:152", after := #[{ on := 0, ground := Go.Ground.data }, { on := 4, ground := Go.Ground.data }, { on := 5, ground := Go.Ground.data }], guard := none }) rfl (fun K hK => ?_) (AllReadyH.cons (o := { dst := some 11, op := Go.Op.alloc 39, type := 0, pos := "law.go:152", after := #[], guard := none }) rfl (fun K hK => ?_) AllReadyH.nil))
        · have HBW : Hid (Below wd.heap.size wd wd) := Below.refl _ _
          go_simp
          refine (radd_any ad cap M last x [] wd (HD2.out.1.below HBW.out).row (by omega) HD1.out.capL HD1.out.nil HD1.out.spot (by omega) (by omega) hnm).mono ?_
          rintro e w2 h2
          obtain ⟨v, rfl, hv⟩ := h2.uni
          clear h2
          obtain ⟨va, vc, rfl⟩ : ∃ va vc, v = .slice va (addL last x [] M).length vc := by
            rcases hv.2 with ⟨h1, h2⟩ | h1
            · exact ⟨ad, cap, by rw [h1, h2]⟩
            · obtain ⟨a1, a2, h2, _⟩ := h1.sl
              exact ⟨a1, a2, h2⟩
          have HV2 : Hid (RowV wd w2 ad cap M (addL last x [] M) (.slice va (addL last x [] M).length vc)) := hv
          clear hv
          refine hK.out _ _ (HSK.out _ HV2.out.1) (fun _ => ?_)
          clear hK K
          try simp only [Act.put, List.setIfInBounds_toArray, List.set_cons_zero, List.set_cons_succ]
          refine wpAnyH_take (i := 7) (oi := { dst := some 46, op := Go.Op.move (Go.Operand.tmp 53), type := 48, pos := "law.go:152", after := #[{ on := 6, ground := Go.Ground.data }], guard := none }) (v := ?_) rfl (by kernel_rfl) (by kernel_rfl) (by kernel_rfl) (fun _ _ _ h => h) (Or.inl ⟨by rfl, ?_⟩) (by assumption) ?_
          rotate_left
          · intro wz hSw; (try dsimp only at hSw); go_simp; (try with_reducible rfl)
          try simp only [Act.put, List.setIfInBounds_toArray, List.set_cons_zero, List.set_cons_succ]
          refine wpAnyH_take (i := 8) (oi := { dst := some 54, op := Go.Op.extract (Go.Operand.tmp 46) 0, type := 39, pos := "law.go:152", after := #[{ on := 7, ground := Go.Ground.data }], guard := none }) (v := ?_) rfl (by kernel_rfl) (by kernel_rfl) (by kernel_rfl) (fun _ _ _ h => h) (Or.inl ⟨by rfl, ?_⟩) (by assumption) ?_
          rotate_left
          · intro wz hSw; (try dsimp only at hSw); go_simp; (try with_reducible rfl)
          try simp only [Act.put, List.setIfInBounds_toArray, List.set_cons_zero, List.set_cons_succ]
          refine wpAnyH_take (i := 9) (oi := { dst := some 55, op := Go.Op.extract (Go.Operand.tmp 46) 1, type := 3, pos := "law.go:152", after := #[{ on := 7, ground := Go.Ground.data }, { on := 12, ground := Go.Ground.gcOnly Go.Departure.lateStores }], guard := none }) (v := ?_) rfl (by kernel_rfl) (by kernel_rfl) (by kernel_rfl) (fun _ _ _ h => h) (Or.inl ⟨by rfl, ?_⟩) (by assumption) ?_
          rotate_left
          · intro wz hSw; (try dsimp only at hSw); go_simp; (try with_reducible rfl)
          try simp only [Act.put, List.setIfInBounds_toArray, List.set_cons_zero, List.set_cons_succ]
          refine wpAnyH_take (i := 10) (oi := { dst := some 56, op := Go.Op.extract (Go.Operand.tmp 46) 2, type := 3, pos := "law.go:152", after := #[{ on := 7, ground := Go.Ground.data }, { on := 13, ground := Go.Ground.gcOnly Go.Departure.lateStores }], guard := none }) (v := ?_) rfl (by kernel_rfl) (by kernel_rfl) (by kernel_rfl) (fun _ _ _ h => h) (Or.inl ⟨by rfl, ?_⟩) (by assumption) ?_
          rotate_left
          · intro wz hSw; (try dsimp only at hSw); go_simp; (try with_reducible rfl)
          try simp only [Act.put, List.setIfInBounds_toArray, List.set_cons_zero, List.set_cons_succ]
          refine wpAnyH_ready (rs := [11]) (by kernel_rfl) (by simp) ?_
          refine (AllReadyH.cons (o := { dst := some 11, op := Go.Op.alloc 39, type := 0, pos := "law.go:152", after := #[], guard := none }) rfl (fun K hK => ?_) AllReadyH.nil)
          go_simp
          have HW3 : Hid (∀ o : Obj, Below w2.heap.size w2 (w2.alloc o)) := fun o => (Below.refl _ w2).alloc (Nat.le_refl _) _
          refine hK.out _ _ (HSK.out _ (HV2.out.keep (HW3.out _)).1) (fun _ => ?_)
          clear hK K
          try simp only [Act.put, List.setIfInBounds_toArray, List.set_cons_zero, List.set_cons_succ]
          have HWS : Hid (Below wd.heap.size wd (w2.alloc (.cells #[(.slice va (addL last x [] M).length vc), (.int .i64 (addN last x []))] 39))) := (HV2.out.keep (HW3.out _)).1
          have HX0 : Hid (RowV w1 (w2.alloc (.cells #[(.slice va (addL last x [] M).length vc), (.int .i64 (addN last x []))] 39)) ad cap M (addL last x [] M) (.slice va (addL last x [] M).length vc) ∧ (w2.alloc (.cells #[(.slice va (addL last x [] M).length vc), (.int .i64 (addN last x []))] 39)).heap[w2.heap.size]? = some (.cells #[(.slice va (addL last x [] M).length vc), (.int .i64 (addN last x []))] 39 (0, 0))) := ⟨(HV2.out.keep (HW3.out _)).mono HD2.out.2.2, heap_alloc_new w2 _⟩
          refine wpAnyH_ready (rs := [12]) (by kernel_rfl) (by simp) ?_
          refine (AllReadyH.cons (o := { dst := none, op := Go.Op.store 39 (Go.Operand.tmp 11) (Go.Operand.tmp 54), type := 0, pos := "law.go:152", after := #[{ on := 11, ground := Go.Ground.data }, { on := 8, ground := Go.Ground.data }, { on := 6, ground := Go.Ground.chain }, { on := 0, ground := Go.Ground.phase }, { on := 1, ground := Go.Ground.phase }, { on := 2, ground := Go.Ground.phase }, { on := 3, ground := Go.Ground.phase }, { on := 4, ground := Go.Ground.phase }, { on := 5, ground := Go.Ground.phase }, { on := 6, ground := Go.Ground.phase }, { on := 7, ground := Go.Ground.phase }, { on := 8, ground := Go.Ground.phase }, { on := 9, ground := Go.Ground.textOnly Go.Departure.lateStores }, { on := 10, ground := Go.Ground.textOnly Go.Departure.lateStores }, { on := 11, ground := Go.Ground.phase }], guard := none }) rfl (fun K hK => ?_) AllReadyH.nil)
          go_simp
          refine hK.out _ _ (HSK.out _ HWS.out) (fun _ => ?_)
          clear hK K
          try simp only [Act.put, List.setIfInBounds_toArray, List.set_cons_zero, List.set_cons_succ]
          refine wpAnyH_take (i := 13) (oi := { dst := some 12, op := Go.Op.assign (Go.Operand.tmp 55), type := 3, pos := "law.go:152", after := #[{ on := 9, ground := Go.Ground.data }, { on := 12, ground := Go.Ground.chain }, { on := 0, ground := Go.Ground.phase }, { on := 1, ground := Go.Ground.phase }, { on := 2, ground := Go.Ground.phase }, { on := 3, ground := Go.Ground.phase }, { on := 4, ground := Go.Ground.phase }, { on := 5, ground := Go.Ground.phase }, { on := 6, ground := Go.Ground.phase }, { on := 7, ground := Go.Ground.phase }, { on := 8, ground := Go.Ground.phase }, { on := 9, ground := Go.Ground.phase }, { on := 10, ground := Go.Ground.textOnly Go.Departure.lateStores }, { on := 11, ground := Go.Ground.phase }, { on := 12, ground := Go.Ground.phase }], guard := none }) (v := ?_) rfl (by kernel_rfl) (by kernel_rfl) (by kernel_rfl) (fun _ _ _ h => h) (Or.inl ⟨by rfl, ?_⟩) (by assumption) ?_
          rotate_left
          · intro wz hSw; (try dsimp only at hSw); go_simp; (try with_reducible rfl)
          try simp only [Act.put, List.setIfInBounds_toArray, List.set_cons_zero, List.set_cons_succ]
          refine wpAnyH_take (i := 14) (oi := { dst := some 13, op := Go.Op.assign (Go.Operand.tmp 56), type := 3, pos := "law.go:152", after := #[{ on := 10, ground := Go.Ground.data }, { on := 13, ground := Go.Ground.chain }, { on := 0, ground := Go.Ground.phase }, { on := 1, ground := Go.Ground.phase }, { on := 2, ground := Go.Ground.phase }, { on := 3, ground := Go.Ground.phase }, { on := 4, ground := Go.Ground.phase }, { on := 5, ground := Go.Ground.phase }, { on := 6, ground := Go.Ground.phase }, { on := 7, ground := Go.Ground.phase }, { on := 8, ground := Go.Ground.phase }, { on := 9, ground := Go.Ground.phase }, { on := 10, ground := Go.Ground.phase }, { on := 11, ground := Go.Ground.phase }, { on := 12, ground := Go.Ground.phase }, { on := 13, ground := Go.Ground.phase }], guard := none }) (v := ?_) rfl (by kernel_rfl) (by kernel_rfl) (by kernel_rfl) (fun _ _ _ h => h) (Or.inl ⟨by rfl, ?_⟩) (by assumption) ?_
          rotate_left
          · intro wz hSw; (try dsimp only at hSw); go_simp; (try with_reducible rfl)
          try simp only [Act.put, List.setIfInBounds_toArray, List.set_cons_zero, List.set_cons_succ]
          refine wpAnyH_done (by kernel_rfl) (NoPanic.normal ?_) _
          try simp only [Act.put, List.setIfInBounds_toArray, List.set_cons_zero, List.set_cons_succ]
          generalize w2.alloc (.cells #[(.slice va (addL last x [] M).length vc), (.int .i64 (addN last x []))] 39) = wx at *
          obtain ⟨T, hTT⟩ : ∃ T, w2.heap.size = T := ⟨_, rfl⟩
          rw [hTT] at HX0 ⊢
          clear hTT HWS HW3 HV2
          have HX := HX0
          clear hHeld HSK
          have HDX : Hid (DR w.heap.size A1 R wx ad cap M last ∧ Below w.heap.size w wx) := ⟨HD1.out.below HX.out.1.1, HQ1.out.2.trans (HX.out.1.1.mono HQ1.out.2.size)⟩
          have t0 : wx.cell? ⟨T, 0, none⟩ = some (.slice va (addL last x [] M).length vc) := by rw [cell_of_row _ _ 0 _ _ _ HX.out.2]; rfl
          have t1 : wx.cell? ⟨T, 1, none⟩ = some (.int .i64 (addN last x [])) := by rw [cell_of_row _ _ 1 _ _ _ HX.out.2]; rfl
          have r0 := HDX.out.1.cells.1
          have r1 := HDX.out.1.cells.2
          have f0 := HDX.out.1.free.1
          have f1 := HDX.out.1.free.2
          have HP := HD1.out.put (lm' := addN last x []) HX.out.1 HQ1.out.2.size (HK.out.low HQ1.out.1.q)
          obtain ⟨ad', cap', hv', hD'⟩ := HP
          cases hv'
          have HD' : Hid (DR w.heap.size A1 R ((wx.setCell ⟨R, 0, none⟩ (.slice va (addL last x [] M).length vc)).setCell ⟨R, 1, none⟩ (.int .i64 (addN last x []))) va vc (addL last x [] M) (addN last x [])) := hD'
          have HQ' : Hid (QAt QS w.heap.size ((wx.setCell ⟨R, 0, none⟩ (.slice va (addL last x [] M).length vc)).setCell ⟨R, 1, none⟩ (.int .i64 (addN last x []))) A1 p (addL last x [] M) (addN last x [])) := HQ1.out.1.keep HK.out (by simpa using HX.out.1.1.size) (fun k hk => by
            have hkR : k ≠ R := fun e => HD1.out.nR (e ▸ hk)
            rw [Below.heap_setCell _ _ _ _ (by simpa using hkR), Below.heap_setCell _ _ _ _ (by simpa using hkR)]
            exact HX.out.1.1.block k (HK.out.low HQ1.out.1.q k hk))
          have HB' : Hid (Below w.heap.size w ((wx.setCell ⟨R, 0, none⟩ (.slice va (addL last x [] M).length vc)).setCell ⟨R, 1, none⟩ (.int .i64 (addN last x [])))) := HDX.out.2.trans (((Below.refl _ wx).setCell HD1.out.R0 _).setCell HD1.out.R0 _)
          clear hD'
          generalize hM' : addL last x [] M = M' at *
          generalize hN' : addN last x [] = last' at *
          generalize addI last x [] = ri at *
          generalize addE x [] = re at *
          have HL' : Hid (last' ≤ ((i + 1 : Nat) : Int)) := by
            have : last' ≤ (i : Int) + 1 := by
              rw [← hN']; unfold addN; split <;> omega
            exact (by omega : last' ≤ ((i + 1 : Nat) : Int))
          have hnum := num_any re _ (HG.out _ HB'.out)
          clear hM' hN' HX HT hla
          go_wp2_with fail
          refine hnum.mono ?_
          rintro e w9 ⟨rfl, hb9⟩
          have HN : Hid (AdI QS w w9 p R (i + 1)) := ⟨⟨A1, va, vc, M', last', ⟨Below.transS HB'.out hb9, HQ'.out.keep HK.out hb9.size (fun k hk => hb9.block k (HK.out.low HQ'.out.q k hk)), HD'.out.below hb9⟩, HL'.out⟩⟩
          clear hnum hb9
          go_wp2
          exact ⟨⟨i + 1, by omega, by omega, by go_num, HN.out⟩, by simp [intOf]; omega⟩
        · go_simp
          have HW3 : Hid (Below wd.heap.size wd (wd.alloc (.cells #[.slice none 0 0, .int .i64 0] 39))) := (Below.refl _ wd).alloc (Nat.le_refl _) _
          have hz3 := heap_alloc_new wd (.cells #[.slice none 0 0, .int .i64 0] 39)
          refine hK.out _ _ (HSK.out _ HW3.out) (fun _ => ?_)
          clear hK K
          try simp only [Act.put, List.setIfInBounds_toArray, List.set_cons_zero, List.set_cons_succ]
          obtain ⟨w3, hw3⟩ : ∃ w3, wd.alloc (.cells #[.slice none 0 0, .int .i64 0] 39) = w3 := ⟨_, rfl⟩
          have hT3 : wd.heap.size < w3.heap.size := by rw [← hw3]; simp
          rw [hw3] at HW3 hz3 ⊢
          have hS3 := HSK.out _ HW3.out
          have HBW : Hid (Below wd.heap.size wd w3) := HW3.out
          clear hw3
          refine wpAnyH_ready (rs := [6]) (by kernel_rfl) (by simp) ?_
          refine (AllReadyH.cons (o := { dst := some 53, op := Go.Op.call { callee := Go.Callee.value (Go.Operand.func 17), args := #[Go.Operand.tmp 47, Go.Operand.tmp 51, Go.Operand.tmp 52], argTypes := #[39, 3, 9] }, type := 48, pos := "law.go:152", after := #[{ on := 0, ground := Go.Ground.data }, { on := 4, ground := Go.Ground.data }, { on := 5, ground := Go.Ground.data }], guard := none }) rfl (fun K hK => ?_) AllReadyH.nil)
          go_simp
          refine (radd_any ad cap M last x [] w3 (HD2.out.1.below HBW.out).row (by omega) HD1.out.capL HD1.out.nil HD1.out.spot (by omega) (by omega) hnm).mono ?_
          rintro e w2 h2
          obtain ⟨v, rfl, hv⟩ := h2.uni
          clear h2
          obtain ⟨va, vc, rfl⟩ : ∃ va vc, v = .slice va (addL last x [] M).length vc := by
            rcases hv.2 with ⟨h1, h2⟩ | h1
            · exact ⟨ad, cap, by rw [h1, h2]⟩
            · obtain ⟨a1, a2, h2, _⟩ := h1.sl
              exact ⟨a1, a2, h2⟩
          have HV2 : Hid (RowV w3 w2 ad cap M (addL last x [] M) (.slice va (addL last x [] M).length vc)) := hv
          have hz2 : w2.heap[wd.heap.size]? = some (.cells #[.slice none 0 0, .int .i64 0] 39 (0, 0)) := (hv.1.block _ hT3).trans hz3
          clear hv
          have z0 : w2.cell? ⟨wd.heap.size, 0, none⟩ = some (.slice none 0 0) := by rw [cell_of_row _ _ 0 _ _ _ hz2]; rfl
          have z1 : w2.cell? ⟨wd.heap.size, 1, none⟩ = some (.int .i64 0) := by rw [cell_of_row _ _ 1 _ _ _ hz2]; rfl
          have g0 : w2.frozen? ⟨wd.heap.size, 0, none⟩ = false := frozen_of_row w2 _ 0 _ _ hz2
          have g1 : w2.frozen? ⟨wd.heap.size, 1, none⟩ = false := frozen_of_row w2 _ 1 _ _ hz2
          refine hK.out _ _ (HSK.out _ (Below.transS HW3.out HV2.out.1)) (fun _ => ?_)
          clear hK K
          try simp only [Act.put, List.setIfInBounds_toArray, List.set_cons_zero, List.set_cons_succ]
          refine wpAnyH_take (i := 7) (oi := { dst := some 46, op := Go.Op.move (Go.Operand.tmp 53), type := 48, pos := "law.go:152", after := #[{ on := 6, ground := Go.Ground.data }], guard := none }) (v := ?_) rfl (by kernel_rfl) (by kernel_rfl) (by kernel_rfl) (fun _ _ _ h => h) (Or.inl ⟨by rfl, ?_⟩) (by assumption) ?_
          rotate_left
          · intro wz hSw; (try dsimp only at hSw); go_simp; (try with_reducible rfl)
          try simp only [Act.put, List.setIfInBounds_toArray, List.set_cons_zero, List.set_cons_succ]
          refine wpAnyH_take (i := 8) (oi := { dst := some 54, op := Go.Op.extract (Go.Operand.tmp 46) 0, type := 39, pos := "law.go:152", after := #[{ on := 7, ground := Go.Ground.data }], guard := none }) (v := ?_) rfl (by kernel_rfl) (by kernel_rfl) (by kernel_rfl) (fun _ _ _ h => h) (Or.inl ⟨by rfl, ?_⟩) (by assumption) ?_
          rotate_left
          · intro wz hSw; (try dsimp only at hSw); go_simp; (try with_reducible rfl)
          try simp only [Act.put, List.setIfInBounds_toArray, List.set_cons_zero, List.set_cons_succ]
          refine wpAnyH_take (i := 9) (oi := { dst := some 55, op := Go.Op.extract (Go.Operand.tmp 46) 1, type := 3, pos := "law.go:152", after := #[{ on := 7, ground := Go.Ground.data }, { on := 12, ground := Go.Ground.gcOnly Go.Departure.lateStores }], guard := none }) (v := ?_) rfl (by kernel_rfl) (by kernel_rfl) (by kernel_rfl) (fun _ _ _ h => h) (Or.inl ⟨by rfl, ?_⟩) (by assumption) ?_
          rotate_left
          · intro wz hSw; (try dsimp only at hSw); go_simp; (try with_reducible rfl)
          try simp only [Act.put, List.setIfInBounds_toArray, List.set_cons_zero, List.set_cons_succ]
          refine wpAnyH_take (i := 10) (oi := { dst := some 56, op := Go.Op.extract (Go.Operand.tmp 46) 2, type := 3, pos := "law.go:152", after := #[{ on := 7, ground := Go.Ground.data }, { on := 13, ground := Go.Ground.gcOnly Go.Departure.lateStores }], guard := none }) (v := ?_) rfl (by kernel_rfl) (by kernel_rfl) (by kernel_rfl) (fun _ _ _ h => h) (Or.inl ⟨by rfl, ?_⟩) (by assumption) ?_
          rotate_left
          · intro wz hSw; (try dsimp only at hSw); go_simp; (try with_reducible rfl)
          try simp only [Act.put, List.setIfInBounds_toArray, List.set_cons_zero, List.set_cons_succ]
          have HX0 : Hid (RowV wd ((w2.setCell ⟨wd.heap.size, 0, none⟩ (.slice va (addL last x [] M).length vc)).setCell ⟨wd.heap.size, 1, none⟩ (.int .i64 (addN last x []))) ad cap M (addL last x [] M) (.slice va (addL last x [] M).length vc) ∧ ((w2.setCell ⟨wd.heap.size, 0, none⟩ (.slice va (addL last x [] M).length vc)).setCell ⟨wd.heap.size, 1, none⟩ (.int .i64 (addN last x []))).heap[wd.heap.size]? = some (.cells #[(.slice va (addL last x [] M).length vc), (.int .i64 (addN last x []))] 39 (0, 0))) := ⟨HV2.out.set HW3.out (Nat.le_refl _) hT3, box_set hz2⟩
          have HWS : Hid (Below wd.heap.size wd ((w2.setCell ⟨wd.heap.size, 0, none⟩ (.slice va (addL last x [] M).length vc)).setCell ⟨wd.heap.size, 1, none⟩ (.int .i64 (addN last x [])))) := HX0.out.1.1
          clear hz2 hz3 hS3
          refine wpAnyH_ready (rs := [12]) (by kernel_rfl) (by simp) ?_
          refine (AllReadyH.cons (o := { dst := none, op := Go.Op.store 39 (Go.Operand.tmp 11) (Go.Operand.tmp 54), type := 0, pos := "law.go:152", after := #[{ on := 11, ground := Go.Ground.data }, { on := 8, ground := Go.Ground.data }, { on := 6, ground := Go.Ground.chain }, { on := 0, ground := Go.Ground.phase }, { on := 1, ground := Go.Ground.phase }, { on := 2, ground := Go.Ground.phase }, { on := 3, ground := Go.Ground.phase }, { on := 4, ground := Go.Ground.phase }, { on := 5, ground := Go.Ground.phase }, { on := 6, ground := Go.Ground.phase }, { on := 7, ground := Go.Ground.phase }, { on := 8, ground := Go.Ground.phase }, { on := 9, ground := Go.Ground.textOnly Go.Departure.lateStores }, { on := 10, ground := Go.Ground.textOnly Go.Departure.lateStores }, { on := 11, ground := Go.Ground.phase }], guard := none }) rfl (fun K hK => ?_) AllReadyH.nil)
          go_simp
          refine hK.out _ _ (HSK.out _ HWS.out) (fun _ => ?_)
          clear hK K
          try simp only [Act.put, List.setIfInBounds_toArray, List.set_cons_zero, List.set_cons_succ]
          refine wpAnyH_take (i := 13) (oi := { dst := some 12, op := Go.Op.assign (Go.Operand.tmp 55), type := 3, pos := "law.go:152", after := #[{ on := 9, ground := Go.Ground.data }, { on := 12, ground := Go.Ground.chain }, { on := 0, ground := Go.Ground.phase }, { on := 1, ground := Go.Ground.phase }, { on := 2, ground := Go.Ground.phase }, { on := 3, ground := Go.Ground.phase }, { on := 4, ground := Go.Ground.phase }, { on := 5, ground := Go.Ground.phase }, { on := 6, ground := Go.Ground.phase }, { on := 7, ground := Go.Ground.phase }, { on := 8, ground := Go.Ground.phase }, { on := 9, ground := Go.Ground.phase }, { on := 10, ground := Go.Ground.textOnly Go.Departure.lateStores }, { on := 11, ground := Go.Ground.phase }, { on := 12, ground := Go.Ground.phase }], guard := none }) (v := ?_) rfl (by kernel_rfl) (by kernel_rfl) (by kernel_rfl) (fun _ _ _ h => h) (Or.inl ⟨by rfl, ?_⟩) (by assumption) ?_
          rotate_left
          · intro wz hSw; (try dsimp only at hSw); go_simp; (try with_reducible rfl)
          try simp only [Act.put, List.setIfInBounds_toArray, List.set_cons_zero, List.set_cons_succ]
          refine wpAnyH_take (i := 14) (oi := { dst := some 13, op := Go.Op.assign (Go.Operand.tmp 56), type := 3, pos := "law.go:152", after := #[{ on := 10, ground := Go.Ground.data }, { on := 13, ground := Go.Ground.chain }, { on := 0, ground := Go.Ground.phase }, { on := 1, ground := Go.Ground.phase }, { on := 2, ground := Go.Ground.phase }, { on := 3, ground := Go.Ground.phase }, { on := 4, ground := Go.Ground.phase }, { on := 5, ground := Go.Ground.phase }, { on := 6, ground := Go.Ground.phase }, { on := 7, ground := Go.Ground.phase }, { on := 8, ground := Go.Ground.phase }, { on := 9, ground := Go.Ground.phase }, { on := 10, ground := Go.Ground.phase }, { on := 11, ground := Go.Ground.phase }, { on := 12, ground := Go.Ground.phase }, { on := 13, ground := Go.Ground.phase }], guard := none }) (v := ?_) rfl (by kernel_rfl) (by kernel_rfl) (by kernel_rfl) (fun _ _ _ h => h) (Or.inl ⟨by rfl, ?_⟩) (by assumption) ?_
          rotate_left
          · intro wz hSw; (try dsimp only at hSw); go_simp; (try with_reducible rfl)
          try simp only [Act.put, List.setIfInBounds_toArray, List.set_cons_zero, List.set_cons_succ]
          refine wpAnyH_done (by kernel_rfl) (NoPanic.normal ?_) _
          try simp only [Act.put, List.setIfInBounds_toArray, List.set_cons_zero, List.set_cons_succ]
          clear z0 z1 g0 g1 hT3
          generalize (w2.setCell ⟨wd.heap.size, 0, none⟩ (.slice va (addL last x [] M).length vc)).setCell ⟨wd.heap.size, 1, none⟩ (.int .i64 (addN last x [])) = wx at *
          obtain ⟨T, hTT⟩ : ∃ T, wd.heap.size = T := ⟨_, rfl⟩
          have HX1 : Hid (RowV w1 wx ad cap M (addL last x [] M) (.slice va (addL last x [] M).length vc) ∧ wx.heap[wd.heap.size]? = some (.cells #[(.slice va (addL last x [] M).length vc), (.int .i64 (addN last x []))] 39 (0, 0))) := ⟨HX0.out.1.mono HD2.out.2.2, HX0.out.2⟩
          rw [hTT] at HX1 ⊢
          clear hTT HWS HW3 HV2 HX0
          have HX := HX1
          clear hHeld HSK
          have HDX : Hid (DR w.heap.size A1 R wx ad cap M last ∧ Below w.heap.size w wx) := ⟨HD1.out.below HX.out.1.1, HQ1.out.2.trans (HX.out.1.1.mono HQ1.out.2.size)⟩
          have t0 : wx.cell? ⟨T, 0, none⟩ = some (.slice va (addL last x [] M).length vc) := by rw [cell_of_row _ _ 0 _ _ _ HX.out.2]; rfl
          have t1 : wx.cell? ⟨T, 1, none⟩ = some (.int .i64 (addN last x [])) := by rw [cell_of_row _ _ 1 _ _ _ HX.out.2]; rfl
          have r0 := HDX.out.1.cells.1
          have r1 := HDX.out.1.cells.2
          have f0 := HDX.out.1.free.1
          have f1 := HDX.out.1.free.2
          have HP := HD1.out.put (lm' := addN last x []) HX.out.1 HQ1.out.2.size (HK.out.low HQ1.out.1.q)
          obtain ⟨ad', cap', hv', hD'⟩ := HP
          cases hv'
          have HD' : Hid (DR w.heap.size A1 R ((wx.setCell ⟨R, 0, none⟩ (.slice va (addL last x [] M).length vc)).setCell ⟨R, 1, none⟩ (.int .i64 (addN last x []))) va vc (addL last x [] M) (addN last x [])) := hD'
          have HQ' : Hid (QAt QS w.heap.size ((wx.setCell ⟨R, 0, none⟩ (.slice va (addL last x [] M).length vc)).setCell ⟨R, 1, none⟩ (.int .i64 (addN last x []))) A1 p (addL last x [] M) (addN last x [])) := HQ1.out.1.keep HK.out (by simpa using HX.out.1.1.size) (fun k hk => by
            have hkR : k ≠ R := fun e => HD1.out.nR (e ▸ hk)
            rw [Below.heap_setCell _ _ _ _ (by simpa using hkR), Below.heap_setCell _ _ _ _ (by simpa using hkR)]
            exact HX.out.1.1.block k (HK.out.low HQ1.out.1.q k hk))
          have HB' : Hid (Below w.heap.size w ((wx.setCell ⟨R, 0, none⟩ (.slice va (addL last x [] M).length vc)).setCell ⟨R, 1, none⟩ (.int .i64 (addN last x [])))) := HDX.out.2.trans (((Below.refl _ wx).setCell HD1.out.R0 _).setCell HD1.out.R0 _)
          clear hD'
          generalize hM' : addL last x [] M = M' at *
          generalize hN' : addN last x [] = last' at *
          generalize addI last x [] = ri at *
          generalize addE x [] = re at *
          have HL' : Hid (last' ≤ ((i + 1 : Nat) : Int)) := by
            have : last' ≤ (i : Int) + 1 := by
              rw [← hN']; unfold addN; split <;> omega
            exact (by omega : last' ≤ ((i + 1 : Nat) : Int))
          have hnum := num_any re _ (HG.out _ HB'.out)
          clear hM' hN' HX HT hla
          go_wp2_with fail
          refine hnum.mono ?_
          rintro e w9 ⟨rfl, hb9⟩
          have HN : Hid (AdI QS w w9 p R (i + 1)) := ⟨⟨A1, va, vc, M', last', ⟨Below.transS HB'.out hb9, HQ'.out.keep HK.out hb9.size (fun k hk => hb9.block k (HK.out.low HQ'.out.q k hk)), HD'.out.below hb9⟩, HL'.out⟩⟩
          clear hnum hb9
          go_wp2
          exact ⟨⟨i + 1, by omega, by omega, by go_num, HN.out⟩, by simp [intOf]; omega⟩
    · by_cases hk1 : i < ks.length
      · have hk1' : (i : Int) < ks.length := by omega
        have hk2' : ¬ ((i : Int) < 60) := by omega
        have HOK : Hid (∀ y ∈ M, y.Ok) := fun y hy => by
          have h1 := hlok.id y hy
          have h2 := hlok.due y hy
          have h3 := hlok.nm y hy
          exact ⟨⟨by omega, by omega⟩, ⟨by omega, by omega⟩, Nat.le_trans h3 (by decide)⟩
        clear hlok
        go_upto_region 16 with fail
        have HT2 : Hid (Below w.heap.size w wr.drew ∧ QAt QS w.heap.size wr.drew A p M last ∧ DR w.heap.size A R wr.drew ad cap M last) := ⟨HT.out.1.drew, HT.out.2.1.keep HK.out (Nat.le_refl _) (fun _ _ => rfl), HT.out.2.2.below (Below.refl _ wr).drew⟩
        refine wp_region_noPanic ?_
        refine wp_region_held_drew (S := fun w' => w'.cell? ⟨R, 0, none⟩ = some (.slice ad M.length cap)) (by kernel_rfl) HT2.out.2.2.cells.1 (fun hHeld => ?_)
        obtain ⟨wd, hwd⟩ : ∃ wd, wr.drew = wd := ⟨_, rfl⟩
        rw [hwd] at hHeld HT2 ⊢
        clear hwd HT
        refine wpAnyH_take (i := 0) (oi := { dst := some 67, op := Go.Op.move (Go.Operand.tmp 5), type := 23, pos := "law.go:158", after := #[], guard := none }) (v := ?_) rfl (by kernel_rfl) (by kernel_rfl) (by kernel_rfl) (fun _ _ _ h => h) (Or.inl ⟨by rfl, ?_⟩) (by assumption) ?_
        rotate_left
        · intro wz hSw; (try dsimp only at hSw); go_simp; (try with_reducible rfl)
        try simp only [Act.put, List.setIfInBounds_toArray, List.set_cons_zero, List.set_cons_succ]
        refine wpAnyH_take (i := 2) (oi := { dst := some 69, op := Go.Op.fieldAddr 39 (Go.Operand.tmp 6) 0, type := 0, pos := "law.go:158", after := #[], guard := none }) (v := ?_) rfl (by kernel_rfl) (by kernel_rfl) (by kernel_rfl) (fun _ _ _ h => h) (Or.inl ⟨by rfl, ?_⟩) (by assumption) ?_
        rotate_left
        · intro wz hSw; (try dsimp only at hSw); go_simp; (try with_reducible rfl)
        try simp only [Act.put, List.setIfInBounds_toArray, List.set_cons_zero, List.set_cons_succ]
        refine wpAnyH_take (i := 3) (oi := { dst := some 70, op := Go.Op.load 37 (Go.Operand.tmp 69), type := 37, pos := "law.go:158", after := #[{ on := 2, ground := Go.Ground.data }], guard := none }) (v := .slice ad M.length cap) rfl (by kernel_rfl) (by kernel_rfl) (by kernel_rfl) (fun _ _ _ h => h) (Or.inl ⟨by rfl, ?_⟩) (by assumption) ?_
        · intro wz hSw; (try dsimp only at hSw); have h1 := hSw; go_simp; try rfl
        try simp only [Act.put, List.setIfInBounds_toArray, List.set_cons_zero, List.set_cons_succ]
        refine wpAnyH_ready (rs := [1]) (by kernel_rfl) (by simp) ?_
        refine (AllReadyH.cons (o := { dst := some 68, op := Go.Op.call { callee := Go.Callee.value (Go.Operand.func 13), args := #[Go.Operand.tmp 67], argTypes := #[23] }, type := 34, pos := "law.go:158", after := #[{ on := 0, ground := Go.Ground.data }], guard := none }) rfl (fun K hK => ?_) AllReadyH.nil)
        go_simp
        refine (HK.out.events HT2.out.2.1.q (by omega)).mono ?_
        rintro e w5 ⟨A5, pd, pc, rfl, hr5, hev5, hfar5, hcap5⟩
        have HQ5 : Hid (Below w.heap.size w w5 ∧ DR w.heap.size A5 R w5 ad cap M last) := ⟨HT2.out.1.trans (hr5.at HT2.out.2.1 HT2.out.1.size).2, HT2.out.2.2.queue hr5⟩
        have HE5 : Hid (EvAt w5 pd M) := hev5
        clear hr5 hev5 hfar5 hcap5
        refine hK.out _ _ HQ5.out.2.cells.1 (fun _ => ?_)
        clear hK K
        try simp only [Act.put, List.setIfInBounds_toArray, List.set_cons_zero, List.set_cons_succ]
        refine wpAnyH_ready (rs := [4]) (by kernel_rfl) (by simp) ?_
        refine (AllReadyH.cons (o := { dst := some 71, op := Go.Op.call { callee := Go.Callee.value (Go.Operand.func 16), args := #[Go.Operand.tmp 68, Go.Operand.tmp 70], argTypes := #[34, 37] }, type := 4, pos := "law.go:158", after := #[{ on := 1, ground := Go.Ground.data }, { on := 3, ground := Go.Ground.data }, { on := 1, ground := Go.Ground.chain }], guard := none }) rfl (fun K hK => ?_) AllReadyH.nil)
        go_simp
        refine (events_any pd ad pc cap M M w5 HE5.out HQ5.out.2.row (by omega) HOK.out HOK.out).mono ?_
        rintro e w6 h6
        obtain ⟨r6, rfl, hr6, hb6⟩ := h6.out
        obtain rfl : r6 = true := hr6.2 rfl
        have HQ6 : Hid (Below w.heap.size w w6 ∧ DR w.heap.size A5 R w6 ad cap M last) := ⟨Below.transS HQ5.out.1 hb6, HQ5.out.2.below hb6⟩
        clear h6 hr6 hb6
        refine hK.out _ _ HQ6.out.2.cells.1 (fun _ => ?_)
        clear hK K
        try simp only [Act.put, List.setIfInBounds_toArray, List.set_cons_zero, List.set_cons_succ]
        refine wpAnyH_take (i := 5) (oi := { dst := some 72, op := Go.Op.move (Go.Operand.tmp 71), type := 4, pos := "law.go:158", after := #[{ on := 4, ground := Go.Ground.data }, { on := 4, ground := Go.Ground.chain }], guard := none }) (v := ?_) rfl (by kernel_rfl) (by kernel_rfl) (by kernel_rfl) (fun _ _ _ h => h) (Or.inl ⟨by rfl, ?_⟩) (by assumption) ?_
        rotate_left
        · intro wz hSw; (try dsimp only at hSw); go_simp; (try with_reducible rfl)
        try simp only [Act.put, List.setIfInBounds_toArray, List.set_cons_zero, List.set_cons_succ]
        refine wpAnyH_ready (rs := [6]) (by kernel_rfl) (by simp) ?_
        refine (AllReadyH.cons (o := { dst := some 73, op := Go.Op.call { callee := Go.Callee.value (Go.Operand.func 18), args := #[], argTypes := #[] }, type := 4, pos := "law.go:158", after := #[{ on := 5, ground := Go.Ground.chain }, { on := 5, ground := Go.Ground.guard }], guard := some (5, true) }) rfl (fun K hK => ?_) AllReadyH.nil)
        go_simp
        refine (sure_any HK.out w6).mono ?_
        rintro e w7 ⟨rfl, hb7⟩
        have HQ7 : Hid (Below w.heap.size w w7 ∧ DR w.heap.size A5 R w7 ad cap M last) := ⟨Below.transS HQ6.out.1 hb7, HQ6.out.2.below hb7⟩
        clear hb7
        refine hK.out _ _ HQ7.out.2.cells.1 (fun _ => ?_)
        clear hK K
        try simp only [Act.put, List.setIfInBounds_toArray, List.set_cons_zero, List.set_cons_succ]
        refine wpAnyH_take (i := 7) (oi := { dst := some 74, op := Go.Op.pick (Go.Operand.tmp 72) (Go.Operand.tmp 73) (Go.Operand.const (Go.Value.bool false)), type := 4, pos := "law.go:158", after := #[{ on := 5, ground := Go.Ground.data }, { on := 6, ground := Go.Ground.data }], guard := none }) (v := ?_) rfl (by kernel_rfl) (by kernel_rfl) (by kernel_rfl) (fun _ _ _ h => h) (Or.inl ⟨by rfl, ?_⟩) (by assumption) ?_
        rotate_left
        · intro wz hSw; (try dsimp only at hSw); go_simp; (try with_reducible rfl)
        try simp only [Act.put, List.setIfInBounds_toArray, List.set_cons_zero, List.set_cons_succ]
        refine wpAnyH_take (i := 8) (oi := { dst := some 4, op := Go.Op.assign (Go.Operand.tmp 74), type := 4, pos := "law.go:158", after := #[{ on := 7, ground := Go.Ground.data }, { on := 6, ground := Go.Ground.chain }, { on := 0, ground := Go.Ground.phase }, { on := 1, ground := Go.Ground.phase }, { on := 2, ground := Go.Ground.phase }, { on := 3, ground := Go.Ground.phase }, { on := 4, ground := Go.Ground.phase }, { on := 5, ground := Go.Ground.phase }, { on := 6, ground := Go.Ground.phase }, { on := 7, ground := Go.Ground.phase }], guard := none }) (v := ?_) rfl (by kernel_rfl) (by kernel_rfl) (by kernel_rfl) (fun _ _ _ h => h) (Or.inl ⟨by rfl, ?_⟩) (by assumption) ?_
        rotate_left
        · intro wz hSw; (try dsimp only at hSw); go_simp; (try with_reducible rfl)
        try simp only [Act.put, List.setIfInBounds_toArray, List.set_cons_zero, List.set_cons_succ]
        refine wpAnyH_done (by kernel_rfl) (NoPanic.normal ?_) _
        try simp only [Act.put, List.setIfInBounds_toArray, List.set_cons_zero, List.set_cons_succ]
        go_wp2
        go_ret
        exact ⟨rfl, HQ7.out.1⟩
      · have hk1' : ¬ ((i : Int) < ks.length) := by omega
        have HOK : Hid (∀ y ∈ M, y.Ok) := fun y hy => by
          have h1 := hlok.id y hy
          have h2 := hlok.due y hy
          have h3 := hlok.nm y hy
          exact ⟨⟨by omega, by omega⟩, ⟨by omega, by omega⟩, Nat.le_trans h3 (by decide)⟩
        clear hlok
        go_upto_region 16 with fail
        have HT2 : Hid (Below w.heap.size w wr.drew ∧ QAt QS w.heap.size wr.drew A p M last ∧ DR w.heap.size A R wr.drew ad cap M last) := ⟨HT.out.1.drew, HT.out.2.1.keep HK.out (Nat.le_refl _) (fun _ _ => rfl), HT.out.2.2.below (Below.refl _ wr).drew⟩
        refine wp_region_noPanic ?_
        refine wp_region_held_drew (S := fun w' => w'.cell? ⟨R, 0, none⟩ = some (.slice ad M.length cap)) (by kernel_rfl) HT2.out.2.2.cells.1 (fun hHeld => ?_)
        obtain ⟨wd, hwd⟩ : ∃ wd, wr.drew = wd := ⟨_, rfl⟩
        rw [hwd] at hHeld HT2 ⊢
        clear hwd HT
        refine wpAnyH_take (i := 0) (oi := { dst := some 67, op := Go.Op.move (Go.Operand.tmp 5), type := 23, pos := "law.go:158", after := #[], guard := none }) (v := ?_) rfl (by kernel_rfl) (by kernel_rfl) (by kernel_rfl) (fun _ _ _ h => h) (Or.inl ⟨by rfl, ?_⟩) (by assumption) ?_
        rotate_left
        · intro wz hSw; (try dsimp only at hSw); go_simp; (try with_reducible rfl)
        try simp only [Act.put, List.setIfInBounds_toArray, List.set_cons_zero, List.set_cons_succ]
        refine wpAnyH_take (i := 2) (oi := { dst := some 69, op := Go.Op.fieldAddr 39 (Go.Operand.tmp 6) 0, type := 0, pos := "law.go:158", after := #[], guard := none }) (v := ?_) rfl (by kernel_rfl) (by kernel_rfl) (by kernel_rfl) (fun _ _ _ h => h) (Or.inl ⟨by rfl, ?_⟩) (by assumption) ?_
        rotate_left
        · intro wz hSw; (try dsimp only at hSw); go_simp; (try with_reducible rfl)
        try simp only [Act.put, List.setIfInBounds_toArray, List.set_cons_zero, List.set_cons_succ]
        refine wpAnyH_take (i := 3) (oi := { dst := some 70, op := Go.Op.load 37 (Go.Operand.tmp 69), type := 37, pos := "law.go:158", after := #[{ on := 2, ground := Go.Ground.data }], guard := none }) (v := .slice ad M.length cap) rfl (by kernel_rfl) (by kernel_rfl) (by kernel_rfl) (fun _ _ _ h => h) (Or.inl ⟨by rfl, ?_⟩) (by assumption) ?_
        · intro wz hSw; (try dsimp only at hSw); have h1 := hSw; go_simp; try rfl
        try simp only [Act.put, List.setIfInBounds_toArray, List.set_cons_zero, List.set_cons_succ]
        refine wpAnyH_ready (rs := [1]) (by kernel_rfl) (by simp) ?_
        refine (AllReadyH.cons (o := { dst := some 68, op := Go.Op.call { callee := Go.Callee.value (Go.Operand.func 13), args := #[Go.Operand.tmp 67], argTypes := #[23] }, type := 34, pos := "law.go:158", after := #[{ on := 0, ground := Go.Ground.data }], guard := none }) rfl (fun K hK => ?_) AllReadyH.nil)
        go_simp
        refine (HK.out.events HT2.out.2.1.q (by omega)).mono ?_
        rintro e w5 ⟨A5, pd, pc, rfl, hr5, hev5, hfar5, hcap5⟩
        have HQ5 : Hid (Below w.heap.size w w5 ∧ DR w.heap.size A5 R w5 ad cap M last) := ⟨HT2.out.1.trans (hr5.at HT2.out.2.1 HT2.out.1.size).2, HT2.out.2.2.queue hr5⟩
        have HE5 : Hid (EvAt w5 pd M) := hev5
        clear hr5 hev5 hfar5 hcap5
        refine hK.out _ _ HQ5.out.2.cells.1 (fun _ => ?_)
        clear hK K
        try simp only [Act.put, List.setIfInBounds_toArray, List.set_cons_zero, List.set_cons_succ]
        refine wpAnyH_ready (rs := [4]) (by kernel_rfl) (by simp) ?_
        refine (AllReadyH.cons (o := { dst := some 71, op := Go.Op.call { callee := Go.Callee.value (Go.Operand.func 16), args := #[Go.Operand.tmp 68, Go.Operand.tmp 70], argTypes := #[34, 37] }, type := 4, pos := "law.go:158", after := #[{ on := 1, ground := Go.Ground.data }, { on := 3, ground := Go.Ground.data }, { on := 1, ground := Go.Ground.chain }], guard := none }) rfl (fun K hK => ?_) AllReadyH.nil)
        go_simp
        refine (events_any pd ad pc cap M M w5 HE5.out HQ5.out.2.row (by omega) HOK.out HOK.out).mono ?_
        rintro e w6 h6
        obtain ⟨r6, rfl, hr6, hb6⟩ := h6.out
        obtain rfl : r6 = true := hr6.2 rfl
        have HQ6 : Hid (Below w.heap.size w w6 ∧ DR w.heap.size A5 R w6 ad cap M last) := ⟨Below.transS HQ5.out.1 hb6, HQ5.out.2.below hb6⟩
        clear h6 hr6 hb6
        refine hK.out _ _ HQ6.out.2.cells.1 (fun _ => ?_)
        clear hK K
        try simp only [Act.put, List.setIfInBounds_toArray, List.set_cons_zero, List.set_cons_succ]
        refine wpAnyH_take (i := 5) (oi := { dst := some 72, op := Go.Op.move (Go.Operand.tmp 71), type := 4, pos := "law.go:158", after := #[{ on := 4, ground := Go.Ground.data }, { on := 4, ground := Go.Ground.chain }], guard := none }) (v := ?_) rfl (by kernel_rfl) (by kernel_rfl) (by kernel_rfl) (fun _ _ _ h => h) (Or.inl ⟨by rfl, ?_⟩) (by assumption) ?_
        rotate_left
        · intro wz hSw; (try dsimp only at hSw); go_simp; (try with_reducible rfl)
        try simp only [Act.put, List.setIfInBounds_toArray, List.set_cons_zero, List.set_cons_succ]
        refine wpAnyH_ready (rs := [6]) (by kernel_rfl) (by simp) ?_
        refine (AllReadyH.cons (o := { dst := some 73, op := Go.Op.call { callee := Go.Callee.value (Go.Operand.func 18), args := #[], argTypes := #[] }, type := 4, pos := "law.go:158", after := #[{ on := 5, ground := Go.Ground.chain }, { on := 5, ground := Go.Ground.guard }], guard := some (5, true) }) rfl (fun K hK => ?_) AllReadyH.nil)
        go_simp
        refine (sure_any HK.out w6).mono ?_
        rintro e w7 ⟨rfl, hb7⟩
        have HQ7 : Hid (Below w.heap.size w w7 ∧ DR w.heap.size A5 R w7 ad cap M last) := ⟨Below.transS HQ6.out.1 hb7, HQ6.out.2.below hb7⟩
        clear hb7
        refine hK.out _ _ HQ7.out.2.cells.1 (fun _ => ?_)
        clear hK K
        try simp only [Act.put, List.setIfInBounds_toArray, List.set_cons_zero, List.set_cons_succ]
        refine wpAnyH_take (i := 7) (oi := { dst := some 74, op := Go.Op.pick (Go.Operand.tmp 72) (Go.Operand.tmp 73) (Go.Operand.const (Go.Value.bool false)), type := 4, pos := "law.go:158", after := #[{ on := 5, ground := Go.Ground.data }, { on := 6, ground := Go.Ground.data }], guard := none }) (v := ?_) rfl (by kernel_rfl) (by kernel_rfl) (by kernel_rfl) (fun _ _ _ h => h) (Or.inl ⟨by rfl, ?_⟩) (by assumption) ?_
        rotate_left
        · intro wz hSw; (try dsimp only at hSw); go_simp; (try with_reducible rfl)
        try simp only [Act.put, List.setIfInBounds_toArray, List.set_cons_zero, List.set_cons_succ]
        refine wpAnyH_take (i := 8) (oi := { dst := some 4, op := Go.Op.assign (Go.Operand.tmp 74), type := 4, pos := "law.go:158", after := #[{ on := 7, ground := Go.Ground.data }, { on := 6, ground := Go.Ground.chain }, { on := 0, ground := Go.Ground.phase }, { on := 1, ground := Go.Ground.phase }, { on := 2, ground := Go.Ground.phase }, { on := 3, ground := Go.Ground.phase }, { on := 4, ground := Go.Ground.phase }, { on := 5, ground := Go.Ground.phase }, { on := 6, ground := Go.Ground.phase }, { on := 7, ground := Go.Ground.phase }], guard := none }) (v := ?_) rfl (by kernel_rfl) (by kernel_rfl) (by kernel_rfl) (fun _ _ _ h => h) (Or.inl ⟨by rfl, ?_⟩) (by assumption) ?_
        rotate_left
        · intro wz hSw; (try dsimp only at hSw); go_simp; (try with_reducible rfl)
        try simp only [Act.put, List.setIfInBounds_toArray, List.set_cons_zero, List.set_cons_succ]
        refine wpAnyH_done (by kernel_rfl) (NoPanic.normal ?_) _
        try simp only [Act.put, List.setIfInBounds_toArray, List.set_cons_zero, List.set_cons_succ]
        go_wp2
        go_ret
        exact ⟨rfl, HQ7.out.1⟩
end Go.Proofs.YthnobkiiaflelaaDoor
