/- TxChecks: the walk. -/
import Derived.Test.YtbehkajfckadfaaGreatDoorOwnShelf27
import Derived.Test.YtbehkajfckadfaaGreatDoorOwnShelf22
import Derived.Test.YtbehkajfckadfaaGreatDoorOwnShelf29
import Derived.Test.YtbehkajfckadfaaGreatDoorOwnShelf30
import Derived.Test.YtbehkajfckadfaaGreatDoorOwnShelf32
namespace Go.Proofs.YtbehkajfckadfaaGreatDoor
open Go.RowKit

theorem szTxr : (Tryz.prog.info? 25).map (·.size) = some 3 := by kernel_rfl
set_option maxRecDepth 100000 in
set_option maxHeartbeats 3200000 in
theorem lchecks_any (t : Tc5) (S : Nat → Option Addr × Nat) (w : World) (hg : Cd.Glob w) (hT : Tab w) (h : TxIn w t S) :
    Calls Tryz.prog 3 #[.agg (txv t.lk t.ia t.n t.ic t.oa t.m t.oc)] w fun e w' => e = .returned (.bool true) ∧ Below w.heap.size w w' := by
  have hgl := hT.size
  have hpos := hg.pos
  have HI := hidV (And.intro h (And.intro hg hT))
  have HF : Hid (∀ w', Below w.heap.size w w' → Cd.Glob w' ∧ Tab w' ∧ 4 ≤ w'.heap.size) := fun w' hb => ⟨hg.below hb hpos, hT.frm (S := []) (Frm.ofBelow hb) (fun k hk => by cases hk), by have := hb.size; omega⟩
  have HA : Hid (∀ w', Below w.heap.size w w' → TiAt w' t.ia t.n t.X S ∧ ToAt w' t.oa t.m t.O ∧ ∀ k, k < t.n → SlAt w' (S k).1 (t.X k).sn (t.Z k)) := fun w' hb => ⟨h.ti.below hb, h.ou.below hb, fun k hk => (h.sc k hk).below hb⟩
  clear h hg hT hgl
  go_enter Tryz.func3, Tryz.ntmps3
  go_upto_region 1 with (first | (refine wpList_boxN rfl _ _ rfl (txv t.lk t.ia t.n t.ic t.oa t.m t.oc) rfl ?_; intro v1 N1) | fail)
  have HX : Hid (Below w.heap.size w v1 ∧ v1.rangeAt w.heap.size 0 (txl t.lk t.ia t.n t.ic t.oa t.m t.oc)) := ⟨N1.below, txl_range N1.blk⟩
  clear N1
  go_wp2_with (first | (refine wpList_load_mid rfl 25 _ rfl w.heap.size 0 rfl (txl t.lk t.ia t.n t.ic t.oa t.m t.oc) _ HX.out.2 Tryz.underlying25 rfl szTxr ?_) | fail)
  refine (longTx_any t.lk t.ia t.n t.ic t.oa t.m t.oc t.X S t.O v1 (HA.out v1 HX.out.1).1 (HA.out v1 HX.out.1).2.1 HI.out.1.bn.1 HI.out.1.bn.2 HI.out.1.bs (fun i hi => ⟨(HI.out.1.bo i hi).1, fun j hj => by have := (HI.out.1.bo i hi).2 j hj; omega⟩)).mono ?_
  rintro e v2 ⟨b, rfl, hNo, hb2⟩
  have HB2 := hidV (And.intro (Below.transS HX.out.1 hb2) (range_below HX.out.2 hb2))
  clear hb2 HX
  cases b with
  | true =>
    clear hNo
    go_wp2_with fail
    refine (sure_any v2 (HF.out v2 HB2.out.1).1 (HF.out v2 HB2.out.1).2.1 (HF.out v2 HB2.out.1).2.2).mono ?_
    rintro e v3 ⟨rfl, hb3⟩
    have HE := hidV (Below.transS HB2.out.1 hb3)
    clear hb3
    go_wp2
    go_ret
    exact ⟨rfl, HE.out⟩
  | false =>
    have HN := hidV (hNo rfl)
    have hnm := HN.out.nm
    clear hNo
    go_wp2_with (first | (refine wpList_load_mid rfl 25 _ rfl w.heap.size 0 rfl (txl t.lk t.ia t.n t.ic t.oa t.m t.oc) _ HB2.out.2 Tryz.underlying25 rfl szTxr ?_) | fail)
    refine (giveTx_any t S v2 (HA.out v2 HB2.out.1).1 (HA.out v2 HB2.out.1).2.1 (HA.out v2 HB2.out.1).2.2 HN.out (fun i hi => (HI.out.1.bo i hi).2)).mono ?_
    rintro e v3 ⟨ia, ic, oa, oc, S3, rfl, hA3, hb3⟩
    have HB3 := hidV (And.intro (Below.transS HB2.out.1 hb3) (And.intro (range_below HB2.out.2 hb3) hA3.ou))
    clear hb3 hA3 HB2
    go_wp2_with fail
    refine (ktotal_any t.lk ia t.n ic oa t.m oc t.O v3 HB3.out.2.2 (by omega)).mono ?_
    rintro e v4 ⟨rfl, hb4⟩
    have HB4 := hidV (And.intro (Below.transS HB3.out.1 hb4) (range_below HB3.out.2.1 hb4))
    clear hb4 HB3
    go_wp2_with (first | (refine wpList_load_mid rfl 25 _ rfl w.heap.size 0 rfl (txl t.lk t.ia t.n t.ic t.oa t.m t.oc) _ HB4.out.2 Tryz.underlying25 rfl szTxr ?_) | fail)
    refine (rktotal_any t.lk t.ia t.n t.ic t.oa t.m t.oc t.O v4 (HA.out v4 HB4.out.1).2.1 (by omega)).mono ?_
    rintro e v5 ⟨rfl, hb5⟩
    have HB5 := hidV (And.intro (Below.transS HB4.out.1 hb5) (range_below HB4.out.2 hb5))
    clear hb5 HB4
    generalize totV t.O t.m = tv at *
    generalize totE t.O t.m = te at *
    go_upto_region 5 with fail
    refine wp_region_noPanic ?_
    refine wp_region_held_drew (S := fun w' => w'.rangeAt w.heap.size 0 (txl t.lk t.ia t.n t.ic t.oa t.m t.oc)) (by kernel_rfl) (range_below HB5.out.2 (Below.refl _ _).drew) (fun hHeld => ?_)
    have Kvd := hidV (Below.transS HB5.out.1 (Below.refl v5.heap.size v5).drew)
    have Svd := range_below HB5.out.2 (Below.refl v5.heap.size v5).drew
    clear HB5
    generalize v5.drew = vd at *
    refine wpAnyH_take (i := 0) (oi := { dst := some 21, op := Go.Op.load 25 (Go.Operand.tmp 1), type := 25, pos := "law.go:83", after := #[], guard := none }) rfl (by kernel_rfl) (by kernel_rfl) (by kernel_rfl) (fun _ _ _ h => h) (yieldsIf_load_mid (by rfl) _ _ rfl w.heap.size 0 rfl (txl t.lk t.ia t.n t.ic t.oa t.m t.oc) _ (fun _ h => h) Tryz.underlying25 rfl szTxr) (by assumption) ?_
    try simp only [Act.put, List.setIfInBounds_toArray, List.set_cons_zero, List.set_cons_succ]
    refine wpAnyH_take (i := 4) (oi := { dst := some 25, op := Go.Op.load 25 (Go.Operand.tmp 1), type := 25, pos := "law.go:83", after := #[], guard := none }) rfl (by kernel_rfl) (by kernel_rfl) (by kernel_rfl) (fun _ _ _ h => h) (yieldsIf_load_mid (by rfl) _ _ rfl w.heap.size 0 rfl (txl t.lk t.ia t.n t.ic t.oa t.m t.oc) _ (fun _ h => h) Tryz.underlying25 rfl szTxr) (by assumption) ?_
    try simp only [Act.put, List.setIfInBounds_toArray, List.set_cons_zero, List.set_cons_succ]
    refine wpAnyH_ready (rs := [1]) (by kernel_rfl) (by simp) ?_
    refine (AllReadyH.cons (o := { dst := some 22, op := Go.Op.call { callee := Go.Callee.value (Go.Operand.func 9), args := #[Go.Operand.tmp 21], argTypes := #[25] }, type := 35, pos := "law.go:83", after := #[{ on := 0, ground := Go.Ground.data }], guard := none }) rfl (fun K hK => ?_) AllReadyH.nil)
    go_simp
    refine (giveTx_any t S vd (HA.out vd Kvd.out).1 (HA.out vd Kvd.out).2.1 (HA.out vd Kvd.out).2.2 HN.out (fun i hi => (HI.out.1.bo i hi).2)).mono ?_
    rintro e ve ⟨ib, jc, ob, pc, Se, rfl, hA, hb⟩
    have Kve := hidV (Below.transS Kvd.out hb)
    have Sve := range_below Svd hb
    have HAe := hidV (And.intro hA.ti hA.ou)
    clear hA
    clear hb Kvd Svd
    refine hK.out _ _ Sve (fun _ => ?_)
    clear hK K
    try simp only [Act.put, List.setIfInBounds_toArray, List.set_cons_zero, List.set_cons_succ]
    refine wpAnyH_ready (rs := [2]) (by kernel_rfl) (by simp) ?_
    refine (AllReadyH.cons (o := { dst := some 23, op := Go.Op.call { callee := Go.Callee.value (Go.Operand.func 12), args := #[Go.Operand.tmp 22], argTypes := #[35] }, type := 29, pos := "law.go:83", after := #[{ on := 1, ground := Go.Ground.data }, { on := 1, ground := Go.Ground.chain }], guard := none }) rfl (fun K hK => ?_) AllReadyH.nil)
    go_simp
    refine (kcheck_anyX t.lk ib t.n jc ob t.m pc t.X Se t.O ve HAe.out.1 HAe.out.2 (fun i hi => ⟨by have := HN.out.cn i hi; omega, (HI.out.1.bo i hi).2⟩) (by omega) (by omega)).mono ?_
    rintro e vf ⟨rfl, hb⟩
    have Kvf := hidV (Below.transS Kve.out hb)
    have Svf := range_below Sve hb
    clear hb Kve Sve
    refine hK.out _ _ Svf (fun _ => ?_)
    clear hK K
    try simp only [Act.put, List.setIfInBounds_toArray, List.set_cons_zero, List.set_cons_succ]
    generalize hE : txE t.lk t.n t.X t.m t.O = e1 at *
    refine wpAnyH_ready (rs := [3]) (by kernel_rfl) (by simp) ?_
    refine (AllReadyH.cons (o := { dst := some 24, op := Go.Op.call { callee := Go.Callee.value (Go.Operand.func 11), args := #[Go.Operand.tmp 23], argTypes := #[29] }, type := 3, pos := "law.go:83", after := #[{ on := 2, ground := Go.Ground.data }, { on := 2, ground := Go.Ground.chain }], guard := none }) rfl (fun K hK => ?_) AllReadyH.nil)
    go_simp
    refine (Cd.num_any e1 vf (HF.out vf Kvf.out).1).mono ?_
    rintro e vg ⟨rfl, hb⟩
    have Kvg := hidV (Below.transS Kvf.out hb)
    have Svg := range_below Svf hb
    clear hb Kvf Svf
    refine hK.out _ _ Svg (fun _ => ?_)
    clear hK K
    try simp only [Act.put, List.setIfInBounds_toArray, List.set_cons_zero, List.set_cons_succ]
    refine wpAnyH_ready (rs := [5]) (by kernel_rfl) (by simp) ?_
    refine (AllReadyH.cons (o := { dst := some 26, op := Go.Op.call { callee := Go.Callee.value (Go.Operand.func 13), args := #[Go.Operand.tmp 25], argTypes := #[25] }, type := 3, pos := "law.go:83", after := #[{ on := 4, ground := Go.Ground.data }, { on := 3, ground := Go.Ground.chain }], guard := none }) rfl (fun K hK => ?_) AllReadyH.nil)
    go_simp
    refine (rkcheck_anyX t.lk t.ia t.n t.ic t.oa t.m t.oc t.X S t.O vg (HA.out vg Kvg.out).1 (HA.out vg Kvg.out).2.1 (fun i hi => ⟨by have := HN.out.cn i hi; omega, (HI.out.1.bo i hi).2⟩) (by omega) (by omega)).mono ?_
    rintro e vh ⟨rfl, hb⟩
    have Kvh := hidV (Below.transS Kvg.out hb)
    have Svh := range_below Svg hb
    clear hb Kvg Svg
    refine hK.out _ _ Svh (fun _ => ?_)
    clear hK K
    try simp only [Act.put, List.setIfInBounds_toArray, List.set_cons_zero, List.set_cons_succ]
    rw [hE]
    clear hE
    refine wpAnyH_take (i := 6) (oi := { dst := some 27, op := Go.Op.binOp Go.BinOp.eql 3 (Go.Operand.tmp 24) (Go.Operand.tmp 26) 3, type := 4, pos := "law.go:83", after := #[{ on := 3, ground := Go.Ground.data }, { on := 5, ground := Go.Ground.data }], guard := none }) (v := ?_) rfl (by kernel_rfl) (by kernel_rfl) (by kernel_rfl) (fun _ _ _ h => h) (Or.inl ⟨by rfl, ?_⟩) (by assumption) ?_
    rotate_left
    · intro wz hSw; (try dsimp only at hSw); go_simp; (try with_reducible rfl)
    try simp only [Act.put, List.setIfInBounds_toArray, List.set_cons_zero, List.set_cons_succ]
    refine wpAnyH_take (i := 7) (oi := { dst := some 28, op := Go.Op.move (Go.Operand.tmp 27), type := 4, pos := "law.go:83", after := #[{ on := 6, ground := Go.Ground.data }, { on := 5, ground := Go.Ground.chain }], guard := none }) (v := ?_) rfl (by kernel_rfl) (by kernel_rfl) (by kernel_rfl) (fun _ _ _ h => h) (Or.inl ⟨by rfl, ?_⟩) (by assumption) ?_
    rotate_left
    · intro wz hSw; (try dsimp only at hSw); go_simp; (try with_reducible rfl)
    try simp only [Act.put, List.setIfInBounds_toArray, List.set_cons_zero, List.set_cons_succ]
    refine wpAnyH_take (i := 8) (oi := { dst := some 29, op := Go.Op.move (Go.Operand.tmp 3), type := 3, pos := "law.go:83", after := #[{ on := 7, ground := Go.Ground.guard }], guard := some (7, true) }) (v := ?_) rfl (by kernel_rfl) (by kernel_rfl) (by kernel_rfl) (fun _ _ _ h => h) (Or.inl ⟨by rfl, ?_⟩) (by assumption) ?_
    rotate_left
    · intro wz hSw; (try dsimp only at hSw); go_simp; (try with_reducible rfl)
    try simp only [Act.put, List.setIfInBounds_toArray, List.set_cons_zero, List.set_cons_succ]
    refine wpAnyH_take (i := 9) (oi := { dst := some 30, op := Go.Op.move (Go.Operand.tmp 5), type := 3, pos := "law.go:83", after := #[{ on := 7, ground := Go.Ground.guard }], guard := some (7, true) }) (v := ?_) rfl (by kernel_rfl) (by kernel_rfl) (by kernel_rfl) (fun _ _ _ h => h) (Or.inl ⟨by rfl, ?_⟩) (by assumption) ?_
    rotate_left
    · intro wz hSw; (try dsimp only at hSw); go_simp; (try with_reducible rfl)
    try simp only [Act.put, List.setIfInBounds_toArray, List.set_cons_zero, List.set_cons_succ]
    refine wpAnyH_take (i := 10) (oi := { dst := some 31, op := Go.Op.binOp Go.BinOp.eql 3 (Go.Operand.tmp 29) (Go.Operand.tmp 30) 3, type := 4, pos := "law.go:83", after := #[{ on := 8, ground := Go.Ground.data }, { on := 9, ground := Go.Ground.data }, { on := 7, ground := Go.Ground.guard }], guard := some (7, true) }) (v := ?_) rfl (by kernel_rfl) (by kernel_rfl) (by kernel_rfl) (fun _ _ _ h => h) (Or.inl ⟨by rfl, ?_⟩) (by assumption) ?_
    rotate_left
    · intro wz hSw; (try dsimp only at hSw); go_simp; (try with_reducible rfl)
    try simp only [Act.put, List.setIfInBounds_toArray, List.set_cons_zero, List.set_cons_succ]
    refine wpAnyH_take (i := 11) (oi := { dst := some 32, op := Go.Op.pick (Go.Operand.tmp 28) (Go.Operand.tmp 31) (Go.Operand.const (Go.Value.bool false)), type := 4, pos := "law.go:83", after := #[{ on := 7, ground := Go.Ground.data }, { on := 10, ground := Go.Ground.data }], guard := none }) (v := ?_) rfl (by kernel_rfl) (by kernel_rfl) (by kernel_rfl) (fun _ _ _ h => h) (Or.inl ⟨by rfl, ?_⟩) (by assumption) ?_
    rotate_left
    · intro wz hSw; (try dsimp only at hSw); go_simp; (try with_reducible rfl)
    try simp only [Act.put, List.setIfInBounds_toArray, List.set_cons_zero, List.set_cons_succ]
    refine wpAnyH_take (i := 12) (oi := { dst := some 33, op := Go.Op.move (Go.Operand.tmp 32), type := 4, pos := "law.go:83", after := #[{ on := 11, ground := Go.Ground.data }, { on := 7, ground := Go.Ground.chain }], guard := none }) (v := ?_) rfl (by kernel_rfl) (by kernel_rfl) (by kernel_rfl) (fun _ _ _ h => h) (Or.inl ⟨by rfl, ?_⟩) (by assumption) ?_
    rotate_left
    · intro wz hSw; (try dsimp only at hSw); go_simp; (try with_reducible rfl)
    try simp only [Act.put, List.setIfInBounds_toArray, List.set_cons_zero, List.set_cons_succ]
    refine wpAnyH_take (i := 13) (oi := { dst := some 34, op := Go.Op.move (Go.Operand.tmp 4), type := 29, pos := "law.go:83", after := #[{ on := 12, ground := Go.Ground.guard }], guard := some (12, true) }) (v := ?_) rfl (by kernel_rfl) (by kernel_rfl) (by kernel_rfl) (fun _ _ _ h => h) (Or.inl ⟨by rfl, ?_⟩) (by assumption) ?_
    rotate_left
    · intro wz hSw; (try dsimp only at hSw); go_simp; (try with_reducible rfl)
    try simp only [Act.put, List.setIfInBounds_toArray, List.set_cons_zero, List.set_cons_succ]
    refine wpAnyH_take (i := 15) (oi := { dst := some 36, op := Go.Op.move (Go.Operand.tmp 6), type := 3, pos := "law.go:83", after := #[{ on := 12, ground := Go.Ground.guard }], guard := some (12, true) }) (v := ?_) rfl (by kernel_rfl) (by kernel_rfl) (by kernel_rfl) (fun _ _ _ h => h) (Or.inl ⟨by rfl, ?_⟩) (by assumption) ?_
    rotate_left
    · intro wz hSw; (try dsimp only at hSw); go_simp; (try with_reducible rfl)
    try simp only [Act.put, List.setIfInBounds_toArray, List.set_cons_zero, List.set_cons_succ]
    refine wpAnyH_ready (rs := [14]) (by kernel_rfl) (by simp) ?_
    refine (AllReadyH.cons (o := { dst := some 35, op := Go.Op.call { callee := Go.Callee.value (Go.Operand.func 11), args := #[Go.Operand.tmp 34], argTypes := #[29] }, type := 3, pos := "law.go:83", after := #[{ on := 13, ground := Go.Ground.data }, { on := 12, ground := Go.Ground.chain }, { on := 12, ground := Go.Ground.guard }], guard := some (12, true) }) rfl (fun K hK => ?_) AllReadyH.nil)
    go_simp
    refine (Cd.num_any te vh (HF.out vh Kvh.out).1).mono ?_
    rintro e vi ⟨rfl, hb⟩
    have Kvi := hidV (Below.transS Kvh.out hb)
    have Svi := range_below Svh hb
    clear hb Kvh Svh
    refine hK.out _ _ Svi (fun _ => ?_)
    clear hK K
    try simp only [Act.put, List.setIfInBounds_toArray, List.set_cons_zero, List.set_cons_succ]
    refine wpAnyH_take (i := 16) (oi := { dst := some 37, op := Go.Op.binOp Go.BinOp.eql 3 (Go.Operand.tmp 35) (Go.Operand.tmp 36) 3, type := 4, pos := "law.go:83", after := #[{ on := 14, ground := Go.Ground.data }, { on := 15, ground := Go.Ground.data }, { on := 12, ground := Go.Ground.guard }], guard := some (12, true) }) (v := ?_) rfl (by kernel_rfl) (by kernel_rfl) (by kernel_rfl) (fun _ _ _ h => h) (Or.inl ⟨by rfl, ?_⟩) (by assumption) ?_
    rotate_left
    · intro wz hSw; (try dsimp only at hSw); go_simp; (try with_reducible rfl)
    try simp only [Act.put, List.setIfInBounds_toArray, List.set_cons_zero, List.set_cons_succ]
    refine wpAnyH_take (i := 17) (oi := { dst := some 38, op := Go.Op.pick (Go.Operand.tmp 33) (Go.Operand.tmp 37) (Go.Operand.const (Go.Value.bool false)), type := 4, pos := "law.go:83", after := #[{ on := 12, ground := Go.Ground.data }, { on := 16, ground := Go.Ground.data }], guard := none }) (v := ?_) rfl (by kernel_rfl) (by kernel_rfl) (by kernel_rfl) (fun _ _ _ h => h) (Or.inl ⟨by rfl, ?_⟩) (by assumption) ?_
    rotate_left
    · intro wz hSw; (try dsimp only at hSw); go_simp; (try with_reducible rfl)
    try simp only [Act.put, List.setIfInBounds_toArray, List.set_cons_zero, List.set_cons_succ]
    refine wpAnyH_take (i := 18) (oi := { dst := some 39, op := Go.Op.move (Go.Operand.tmp 38), type := 4, pos := "law.go:83", after := #[{ on := 17, ground := Go.Ground.data }, { on := 14, ground := Go.Ground.chain }], guard := none }) (v := ?_) rfl (by kernel_rfl) (by kernel_rfl) (by kernel_rfl) (fun _ _ _ h => h) (Or.inl ⟨by rfl, ?_⟩) (by assumption) ?_
    rotate_left
    · intro wz hSw; (try dsimp only at hSw); go_simp; (try with_reducible rfl)
    try simp only [Act.put, List.setIfInBounds_toArray, List.set_cons_zero, List.set_cons_succ]
    refine wpAnyH_ready (rs := [19]) (by kernel_rfl) (by simp) ?_
    refine (AllReadyH.cons (o := { dst := some 40, op := Go.Op.call { callee := Go.Callee.value (Go.Operand.func 7), args := #[], argTypes := #[] }, type := 4, pos := "law.go:83", after := #[{ on := 18, ground := Go.Ground.chain }, { on := 18, ground := Go.Ground.guard }], guard := some (18, true) }) rfl (fun K hK => ?_) AllReadyH.nil)
    go_simp
    refine (sure_any vi (HF.out vi Kvi.out).1 (HF.out vi Kvi.out).2.1 (HF.out vi Kvi.out).2.2).mono ?_
    rintro e vj ⟨rfl, hb⟩
    have Kvj := hidV (Below.transS Kvi.out hb)
    have Svj := range_below Svi hb
    clear hb Kvi Svi
    refine hK.out _ _ Svj (fun _ => ?_)
    clear hK K
    try simp only [Act.put, List.setIfInBounds_toArray, List.set_cons_zero, List.set_cons_succ]
    refine wpAnyH_take (i := 20) (oi := { dst := some 41, op := Go.Op.pick (Go.Operand.tmp 39) (Go.Operand.tmp 40) (Go.Operand.const (Go.Value.bool false)), type := 4, pos := "law.go:83", after := #[{ on := 18, ground := Go.Ground.data }, { on := 19, ground := Go.Ground.data }], guard := none }) (v := ?_) rfl (by kernel_rfl) (by kernel_rfl) (by kernel_rfl) (fun _ _ _ h => h) (Or.inl ⟨by rfl, ?_⟩) (by assumption) ?_
    rotate_left
    · intro wz hSw; (try dsimp only at hSw); go_simp; (try with_reducible rfl)
    try simp only [Act.put, List.setIfInBounds_toArray, List.set_cons_zero, List.set_cons_succ]
    refine wpAnyH_take (i := 21) (oi := { dst := some 2, op := Go.Op.assign (Go.Operand.tmp 41), type := 4, pos := "law.go:83", after := #[{ on := 20, ground := Go.Ground.data }, { on := 19, ground := Go.Ground.chain }, { on := 0, ground := Go.Ground.phase }, { on := 1, ground := Go.Ground.phase }, { on := 2, ground := Go.Ground.phase }, { on := 3, ground := Go.Ground.phase }, { on := 4, ground := Go.Ground.phase }, { on := 5, ground := Go.Ground.phase }, { on := 6, ground := Go.Ground.phase }, { on := 7, ground := Go.Ground.phase }, { on := 8, ground := Go.Ground.phase }, { on := 9, ground := Go.Ground.phase }, { on := 10, ground := Go.Ground.phase }, { on := 11, ground := Go.Ground.phase }, { on := 12, ground := Go.Ground.phase }, { on := 13, ground := Go.Ground.phase }, { on := 14, ground := Go.Ground.phase }, { on := 15, ground := Go.Ground.phase }, { on := 16, ground := Go.Ground.phase }, { on := 17, ground := Go.Ground.phase }, { on := 18, ground := Go.Ground.phase }, { on := 19, ground := Go.Ground.phase }, { on := 20, ground := Go.Ground.phase }], guard := none }) (v := ?_) rfl (by kernel_rfl) (by kernel_rfl) (by kernel_rfl) (fun _ _ _ h => h) (Or.inl ⟨by rfl, ?_⟩) (by assumption) ?_
    rotate_left
    · intro wz hSw; (try dsimp only at hSw); go_simp; (try with_reducible rfl)
    try simp only [Act.put, List.setIfInBounds_toArray, List.set_cons_zero, List.set_cons_succ]
    refine wpAnyH_done (by kernel_rfl) (NoPanic.normal ?_) _
    try simp only [Act.put, List.setIfInBounds_toArray, List.set_cons_zero, List.set_cons_succ]
    clear hHeld
    go_wp2
    go_ret
    exact ⟨rfl, Kvj.out⟩
end Go.Proofs.YtbehkajfckadfaaGreatDoor
