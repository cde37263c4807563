/- TxSecrets: the walk. -/
import Derived.Test.YtanchjfodcjlmaaGreatDoorOwnShelf29
import Derived.Test.YtanchjfodcjlmaaGreatDoorOwnShelf22
import Derived.Test.YtanchjfodcjlmaaGreatDoorOwnShelf30
import Derived.Test.YtanchjfodcjlmaaGreatDoorOwnShelf20
import Derived.Deep.DeepCutAuto
namespace Go.Proofs.YtanchjfodcjlmaaGreatDoor
open Go.RowKit

theorem szTxr : (Tryz.prog.info? 25).map (·.size) = some 3 := by kernel_rfl
theorem run_allocTx' (w : World) : (Instr.alloc 35 true (.tuple #[])).run Tryz.prog w = .ok (.pointer (some ⟨w.heap.size, 0, none⟩)) (w.alloc (.cells txZ 35)) := by kernel_rfl
theorem rem_ix (br : Int) (n : Nat) (h1 : 1 ≤ n) (h2 : n ≤ 1000000) : ∃ i : Nat, i < n ∧ IntKind.i64.wrap ((IntKind.u64.wrap br).tmod n) = (i : Int) := by
  have h0 : 0 ≤ IntKind.u64.wrap br := by rw [IntKind.wrap_u64]; omega
  have e : (IntKind.u64.wrap br).tmod n = IntKind.u64.wrap br % n := Int.tmod_eq_emod_of_nonneg h0
  have h3 := Int.emod_nonneg (IntKind.u64.wrap br) (b := (n : Int)) (by omega)
  have h4 := Int.emod_lt_of_pos (IntKind.u64.wrap br) (b := (n : Int)) (by omega)
  refine ⟨(IntKind.u64.wrap br % n).toNat, by omega, ?_⟩
  rw [e, IntKind.wrap_i64]
  omega
section
variable {ops : Array Oper} {rest : List Oper} {o : Oper} {a : Act} {w : World} {Q : Exit → Act → World → Prop} {K : Act → World → Prop} {E : Prop}
theorem step_allocTx (hgd : o.guard = none) (ho : o.op = .alloc 35)
    (h : ∀ k w1, w1.heap[k]? = some (.cells txZ 35 (0, 0)) → w.heap.size ≤ k → Below w.heap.size w w1 → K (a.put o.dst (.pointer (some ⟨k, 0, none⟩))) w1) : if Region.wanted o (yielded ops a.tmps) = true then Oper.wp Tryz.prog o a w K Q else E := by
  have hw : Region.wanted o (yielded ops a.tmps) = true := by simp [Region.wanted, hgd]
  rw [if_pos hw]
  have hr : (execOp a.eval o).run Tryz.prog w = .ok (.value (.pointer (some ⟨w.heap.size, 0, none⟩))) (w.alloc (.cells txZ 35)) := by
    have h1 := run_allocTx' w
    unfold execOp
    simp only [ho] at h1 ⊢
    simp only [Sem.run_bind] at h1 ⊢
    rw [h1]
    rfl
  unfold Oper.wp
  rw [hr]
  have N := new_alloc w txZ 35
  exact h _ _ N.blk (Nat.le_refl _) N.below
theorem step_storeTx (hgd : o.guard = none) (x y : Operand) (ho : o.op = .store 35 x y) (g : Nat) (hx : a.eval x = .pointer (some ⟨g, 0, none⟩)) (t : Tc5) (lk : Int) (q : Gt) (hy : a.eval y = .agg (txv lk q.ia t.n q.ic q.oa t.m q.oc)) (hg : w.heap[g]? = some (.cells txZ 35 (0, 0)))
    (h : ∀ w', w'.heap[g]? = some (.cells (txvG t lk q) 35 (0, 0)) → Frm [g] w w' → K (a.put o.dst undef) w') : if Region.wanted o (yielded ops a.tmps) = true then Oper.wp Tryz.prog o a w K Q else E := by
  have hw : Region.wanted o (yielded ops a.tmps) = true := by simp [Region.wanted, hgd]
  rw [if_pos hw]
  refine wp_store_mid 35 x y ho g 0 (txvG t lk q) hx hy ?_ szTx (txvG_one t lk q) (h _ ?_ (setCells_frm g _ 0 w))
  · intro j hj
    have hj3 : j < 3 := hj
    refine ⟨?_, ?_⟩
    · rw [Nat.zero_add, cell_of_row w g j _ _ _ hg]
      have : j < txZ.size := hj3
      simp [this]
    · rw [Nat.zero_add]; exact frozen_of_row w g j _ _ hg
  · have := setCells_at g (txvG t lk q).toList 0 w [] txZ.toList 35 (by simpa using hg) rfl (by show (3 : Nat) ≤ 3; exact Nat.le_refl _)
    rw [this]
    rfl
end
set_option maxRecDepth 100000 in
set_option maxHeartbeats 12800000 in
theorem lsecrets_any (t : Tc5) (S : Nat → Option Addr × Nat) (kk : Int) (sa : Option Addr) (sn sc : Nat) (sz : Nat → Int) (w : World) (hg : Cd.Glob w) (hT : Tab w) (h : TxIn w t S) (_ : Cd.Ib kk) (hs : SlAt w sa sn sz) :
    Calls Tryz.prog 5 #[.agg (txv t.lk t.ia t.n t.ic t.oa t.m t.oc), .int .i64 kk, .slice sa sn sc] w fun e w' => e = .returned (.bool true) ∧ Below w.heap.size w w' := by
  have hgl := hT.size
  have hpos := hg.pos
  have HI := hidV (And.intro h (And.intro hg hT))
  have HF : Hid (∀ w', Below w.heap.size w w' → Cd.Glob w' ∧ Tab w' ∧ 4 ≤ w'.heap.size) := fun w' hb => ⟨hg.below hb hpos, hT.frm (S := []) (Frm.ofBelow hb) (fun k hk => by cases hk), by have := hb.size; omega⟩
  have HA : Hid (∀ w', Below w.heap.size w w' → TiAt w' t.ia t.n t.X S ∧ ToAt w' t.oa t.m t.O ∧ ∀ k, k < t.n → SlAt w' (S k).1 (t.X k).sn (t.Z k)) := fun w' hb => ⟨h.ti.below hb, h.ou.below hb, fun k hk => (h.sc k hk).below hb⟩
  have HSC : Hid (∀ w', Below w.heap.size w w' → SlAt w' sa sn sz) := fun w' hb => hs.below hb
  clear h hg hT hgl hs
  go_enter Tryz.func5, Tryz.ntmps5
  go_upto_region 1 with (first | (refine wpList_boxN rfl _ _ rfl (txv t.lk t.ia t.n t.ic t.oa t.m t.oc) rfl ?_; intro v1 N1) | fail)
  have HX : Hid (Below w.heap.size w v1 ∧ v1.rangeAt w.heap.size 0 (txl t.lk t.ia t.n t.ic t.oa t.m t.oc)) := ⟨N1.below, txl_range N1.blk⟩
  clear N1
  go_wp2_with (first | (refine wpList_load_mid rfl 25 _ rfl w.heap.size 0 rfl (txl t.lk t.ia t.n t.ic t.oa t.m t.oc) _ HX.out.2 Tryz.underlying25 rfl szTxr ?_) | fail)
  refine (longTx_any t.lk t.ia t.n t.ic t.oa t.m t.oc t.X S t.O v1 (HA.out v1 HX.out.1).1 (HA.out v1 HX.out.1).2.1 HI.out.1.bn.1 HI.out.1.bn.2 HI.out.1.bs (fun i hi => ⟨(HI.out.1.bo i hi).1, fun j hj => by have := (HI.out.1.bo i hi).2 j hj; omega⟩)).mono ?_
  rintro e v2 ⟨b, rfl, hNo, hb2⟩
  have HB2 := hidV (And.intro (Below.transS HX.out.1 hb2) (range_below HX.out.2 hb2))
  clear hb2 HX
  have HEND : Hid (∀ w', Below w.heap.size w w' → Calls Tryz.prog 7 #[] w' fun e w'' => e = .returned (.bool true) ∧ Below w'.heap.size w' w'') := fun w' hb => sure_any w' (HF.out w' hb).1 (HF.out w' hb).2.1 (HF.out w' hb).2.2
  cases b with
  | true =>
    clear hNo
    go_wp2_with fail
    refine (HEND.out v2 HB2.out.1).mono ?_
    rintro e v3 ⟨rfl, hb3⟩
    have HE := hidV (Below.transS HB2.out.1 hb3)
    clear hb3
    go_wp2
    go_ret
    exact ⟨rfl, HE.out⟩
  | false =>
    have HN := hidV (hNo rfl)
    have hnm := HN.out.nm
    clear hNo
    by_cases hsl : 1000 < sn
    · have hsl1 : (1000 : Int) < sn := by omega
      go_wp2_with fail
      refine (HEND.out v2 HB2.out.1).mono ?_
      rintro e v3 ⟨rfl, hb3⟩
      have HE := hidV (Below.transS HB2.out.1 hb3)
      clear hb3
      go_wp2
      go_ret
      exact ⟨rfl, HE.out⟩
    have hsl1 : ¬ (1000 : Int) < sn := by omega
    have HKO : Hid (∀ i, i < t.m → ∀ j, j < (t.O i).cn → ((t.O i).X j).n ≤ 17592186043904) := fun i hi j hj => by have := (HI.out.1.bo i hi).2 j hj; omega
    have HSN : Hid (sn ≤ 1000000) := by show _ ≤ _; omega
    go_upto_region 3 with fail
    have HS : Hid (∀ w' : World, Below v2.heap.size v2 w' → w'.rangeAt w.heap.size 0 (txl t.lk t.ia t.n t.ic t.oa t.m t.oc)) := fun w' hb => range_below HB2.out.2 hb
    have HW : Hid (∀ w' : World, Below v2.heap.size v2 w' → Below w.heap.size w w') := fun w' hb => Below.transS HB2.out.1 hb
    clear HB2 hsl hsl1
    go_cut [7, 8, 9] (fun x y z wc => ∃ (A B C : Nat) (p q r : Gt), x = .pointer (some ⟨A, 0, none⟩) ∧ y = .pointer (some ⟨B, 0, none⟩) ∧ z = .pointer (some ⟨C, 0, none⟩) ∧ SxQ t v2 wc A B C t.lk p q r)
    case first =>
      refine wp_region_noPanic ?_
      refine wp_region_held_drew (S := fun w' => w'.rangeAt w.heap.size 0 (txl t.lk t.ia t.n t.ic t.oa t.m t.oc)) (by kernel_rfl) (HS.out v2.drew (Below.refl _ _).drew) (fun hHeld => ?_)
      have M0 : Hid (SxW t v2 v2.drew none none none none none none) := SxW.init t v2
      generalize v2.drew = z0 at *
      refine wpAnyH_take (i := 0) (oi := { dst := some 18, op := Go.Op.load 25 (Go.Operand.tmp 3), type := 25, pos := "law.go:113", after := #[], guard := none }) rfl (by kernel_rfl) (by kernel_rfl) (by kernel_rfl) (fun _ _ _ h => h) (yieldsIf_load_mid (by rfl) _ _ rfl w.heap.size 0 rfl (txl t.lk t.ia t.n t.ic t.oa t.m t.oc) _ (fun _ h => h) Tryz.underlying25 rfl szTxr) (by assumption) ?_
      try simp only [Act.put, List.setIfInBounds_toArray, List.set_cons_zero, List.set_cons_succ]
      refine wpAnyH_take (i := 2) (oi := { dst := some 20, op := Go.Op.load 25 (Go.Operand.tmp 3), type := 25, pos := "law.go:113", after := #[], guard := none }) rfl (by kernel_rfl) (by kernel_rfl) (by kernel_rfl) (fun _ _ _ h => h) (yieldsIf_load_mid (by rfl) _ _ rfl w.heap.size 0 rfl (txl t.lk t.ia t.n t.ic t.oa t.m t.oc) _ (fun _ h => h) Tryz.underlying25 rfl szTxr) (by assumption) ?_
      try simp only [Act.put, List.setIfInBounds_toArray, List.set_cons_zero, List.set_cons_succ]
      refine wpAnyH_take (i := 4) (oi := { dst := some 22, op := Go.Op.load 25 (Go.Operand.tmp 3), type := 25, pos := "law.go:113", after := #[], guard := none }) rfl (by kernel_rfl) (by kernel_rfl) (by kernel_rfl) (fun _ _ _ h => h) (yieldsIf_load_mid (by rfl) _ _ rfl w.heap.size 0 rfl (txl t.lk t.ia t.n t.ic t.oa t.m t.oc) _ (fun _ h => h) Tryz.underlying25 rfl szTxr) (by assumption) ?_
      try simp only [Act.put, List.setIfInBounds_toArray, List.set_cons_zero, List.set_cons_succ]
      refine name_any (fun G toG ofG => ?_)
      have st3_111 : ∀ (A B C : Nat) (p q r : Gt) (w1 : World), SxW t v2 w1 (some A) (some B) (some C) (some p) (some q) (some r) → G 3 #[true, true, true, true, true, true, true, true, true, false, false, false] { tmps := #[.agg (txv t.lk t.ia t.n t.ic t.oa t.m t.oc), .int .i64 kk, .slice sa sn sc, .pointer (some ⟨w.heap.size, 0, none⟩), undef, undef, .bool false, .pointer (some ⟨A, 0, none⟩), .pointer (some ⟨B, 0, none⟩), .pointer (some ⟨C, 0, none⟩), .agg (txl t.lk t.ia t.n t.ic t.oa t.m t.oc).toArray, .bool false, .bool false, .slice sa sn sc, .int .i64 sn, .bool (decide ((1000 : Int) < sn)), .bool (decide ((1000 : Int) < sn)), undef, .agg (txl t.lk t.ia t.n t.ic t.oa t.m t.oc).toArray, .agg (txv t.lk p.ia t.n p.ic p.oa t.m p.oc), .agg (txl t.lk t.ia t.n t.ic t.oa t.m t.oc).toArray, .agg (txv t.lk q.ia t.n q.ic q.oa t.m q.oc), .agg (txl t.lk t.ia t.n t.ic t.oa t.m t.oc).toArray, .agg (txv t.lk r.ia t.n r.ic r.oa t.m r.oc), undef, undef, undef, undef, undef, undef, undef, undef, undef, undef, undef, undef, undef, undef, undef, undef, undef, undef, undef, undef, undef, undef, undef, undef, undef, undef, undef, undef, undef, undef, undef, undef, undef, undef, undef, undef, undef, undef], defers := [] } w1 := by
        intro A B C p q r w1 M
        have M := hidV M
        refine toG _ _ _ _ ?_
        refine wpAnyH_ready (rs := [9]) (by kernel_rfl) (by simp) ?_
        refine (AllReadyH.cons (o := { dst := none, op := Go.Op.store 35 (Go.Operand.tmp 7) (Go.Operand.tmp 19), type := 0, pos := "law.go:113", after := #[{ on := 6, ground := Go.Ground.data }, { on := 1, ground := Go.Ground.data }, { on := 5, ground := Go.Ground.chain }, { on := 0, ground := Go.Ground.phase }, { on := 1, ground := Go.Ground.phase }, { on := 2, ground := Go.Ground.textOnly Go.Departure.lateStores }, { on := 3, ground := Go.Ground.textOnly Go.Departure.lateStoresUnsure }, { on := 4, ground := Go.Ground.textOnly Go.Departure.lateStores }, { on := 5, ground := Go.Ground.textOnly Go.Departure.lateStoresUnsure }, { on := 6, ground := Go.Ground.phase }, { on := 7, ground := Go.Ground.phase }, { on := 8, ground := Go.Ground.phase }], guard := none }) rfl (fun K hK => ?_) AllReadyH.nil)
        refine step_storeTx rfl _ _ rfl A rfl t t.lk p rfl (M.out.bx A (.inl rfl)).1 ?_
        intro y1 hg1 hf1
        have hb1 : Below v2.heap.size v2 y1 := M.out.below.trans (hf1.below M.out.below.size (by have := (M.out.bx A (.inl rfl)).2; simp; omega))
        refine hK.out _ _ (HS.out y1 hb1) (fun _ => ?_)
        clear hK K
        try simp only [Act.put]
        refine wpAnyH_ready (rs := [10]) (by kernel_rfl) (by simp) ?_
        refine (AllReadyH.cons (o := { dst := none, op := Go.Op.store 35 (Go.Operand.tmp 8) (Go.Operand.tmp 21), type := 0, pos := "law.go:113", after := #[{ on := 7, ground := Go.Ground.data }, { on := 3, ground := Go.Ground.data }, { on := 9, ground := Go.Ground.chain }, { on := 0, ground := Go.Ground.phase }, { on := 1, ground := Go.Ground.phase }, { on := 2, ground := Go.Ground.phase }, { on := 3, ground := Go.Ground.phase }, { on := 4, ground := Go.Ground.textOnly Go.Departure.lateStores }, { on := 5, ground := Go.Ground.textOnly Go.Departure.lateStoresUnsure }, { on := 6, ground := Go.Ground.phase }, { on := 7, ground := Go.Ground.phase }, { on := 8, ground := Go.Ground.phase }, { on := 9, ground := Go.Ground.phase }], guard := none }) rfl (fun K hK => ?_) AllReadyH.nil)
        refine step_storeTx rfl _ _ rfl B rfl t t.lk q rfl (hf1.heap (M.out.bx B (.inr (.inl rfl))).1 (by have := M.out.ab A B rfl rfl; simp; omega)) ?_
        intro y2 hg2 hf2
        have hb2 : Below v2.heap.size v2 y2 := hb1.trans (hf2.below hb1.size (by have := (M.out.bx B (.inr (.inl rfl))).2; simp; omega))
        refine hK.out _ _ (HS.out y2 hb2) (fun _ => ?_)
        clear hK K
        try simp only [Act.put]
        refine wpAnyH_ready (rs := [11]) (by kernel_rfl) (by simp) ?_
        refine (AllReadyH.cons (o := { dst := none, op := Go.Op.store 35 (Go.Operand.tmp 9) (Go.Operand.tmp 23), type := 0, pos := "law.go:113", after := #[{ on := 8, ground := Go.Ground.data }, { on := 5, ground := Go.Ground.data }, { on := 10, ground := Go.Ground.chain }, { on := 0, ground := Go.Ground.phase }, { on := 1, ground := Go.Ground.phase }, { on := 2, ground := Go.Ground.phase }, { on := 3, ground := Go.Ground.phase }, { on := 4, ground := Go.Ground.phase }, { on := 5, ground := Go.Ground.phase }, { on := 6, ground := Go.Ground.phase }, { on := 7, ground := Go.Ground.phase }, { on := 8, ground := Go.Ground.phase }, { on := 9, ground := Go.Ground.phase }, { on := 10, ground := Go.Ground.phase }], guard := none }) rfl (fun K hK => ?_) AllReadyH.nil)
        refine step_storeTx rfl _ _ rfl C rfl t t.lk r rfl (hf2.heap (hf1.heap (M.out.bx C (.inr (.inr rfl))).1 (by have := M.out.ac A C rfl rfl; simp; omega)) (by have := M.out.bc B C rfl rfl; simp; omega)) ?_
        intro y3 hg3 hf3
        have hb3 : Below v2.heap.size v2 y3 := hb2.trans (hf3.below hb2.size (by have := (M.out.bx C (.inr (.inr rfl))).2; simp; omega))
        refine hK.out _ _ (HS.out y3 hb3) (fun _ => ?_)
        clear hK K
        try simp only [Act.put]
        have HQ := hidV (M.out.stored hg1 hf1 hg2 hf2 hg3 hf3)
        clear hg1 hf1 hg2 hf2 hg3 hf3 hb1 hb2 hb3 M toG ofG
        refine wpAnyH_done (by kernel_rfl) (NoPanic.normal ?_) _
        try simp only [Act.put, List.setIfInBounds_toArray, List.set_cons_zero, List.set_cons_succ]
        clear hHeld
        go_wp2
        go_meet
        case rel => exact ⟨A, B, C, p, q, r, rfl, rfl, rfl, HQ.out⟩
      have st2_111 : ∀ (A B C : Nat) (p q : Gt) (w1 : World), SxW t v2 w1 (some A) (some B) (some C) (some p) (some q) none → G 4 #[true, true, true, true, true, false, true, true, true, false, false, false] { tmps := #[.agg (txv t.lk t.ia t.n t.ic t.oa t.m t.oc), .int .i64 kk, .slice sa sn sc, .pointer (some ⟨w.heap.size, 0, none⟩), undef, undef, .bool false, .pointer (some ⟨A, 0, none⟩), .pointer (some ⟨B, 0, none⟩), .pointer (some ⟨C, 0, none⟩), .agg (txl t.lk t.ia t.n t.ic t.oa t.m t.oc).toArray, .bool false, .bool false, .slice sa sn sc, .int .i64 sn, .bool (decide ((1000 : Int) < sn)), .bool (decide ((1000 : Int) < sn)), undef, .agg (txl t.lk t.ia t.n t.ic t.oa t.m t.oc).toArray, .agg (txv t.lk p.ia t.n p.ic p.oa t.m p.oc), .agg (txl t.lk t.ia t.n t.ic t.oa t.m t.oc).toArray, .agg (txv t.lk q.ia t.n q.ic q.oa t.m q.oc), .agg (txl t.lk t.ia t.n t.ic t.oa t.m t.oc).toArray, undef, undef, undef, undef, undef, undef, undef, undef, undef, undef, undef, undef, undef, undef, undef, undef, undef, undef, undef, undef, undef, undef, undef, undef, undef, undef, undef, undef, undef, undef, undef, undef, undef, undef, undef, undef, undef, undef, undef], defers := [] } w1 := by
        intro A B C p q w1 M
        have M := hidV M
        refine toG _ _ _ _ ?_
        refine wpAnyH_ready (rs := [5]) (by kernel_rfl) (by simp) ?_
        refine (AllReadyH.cons (o := { dst := some 23, op := Go.Op.call { callee := Go.Callee.value (Go.Operand.func 9), args := #[Go.Operand.tmp 22], argTypes := #[25] }, type := 35, pos := "law.go:113", after := #[{ on := 4, ground := Go.Ground.data }, { on := 3, ground := Go.Ground.chain }], guard := none }) rfl (fun K hK => ?_) AllReadyH.nil)
        go_simp
        refine (giveTx_any t S w1 (HA.out w1 (HW.out w1 M.out.below)).1 (HA.out w1 (HW.out w1 M.out.below)).2.1 (HA.out w1 (HW.out w1 M.out.below)).2.2 HN.out HKO.out).mono ?_
        rintro e w2 ⟨ia, ic, oa, oc, S', rfl, -, hb, hO⟩
        have M2 := M.out.giveR (TxIv.of (oc := oc) hO) rfl rfl hb
        refine hK.out _ _ (HS.out w2 M2.below) (fun _ => ?_)
        clear hK K
        try simp only [List.setIfInBounds_toArray, List.set_cons_zero, List.set_cons_succ]
        exact ofG _ _ _ _ (st3_111 A B C p q ⟨w1.heap.size, w2.heap.size, ia, ic, oa, oc, S'⟩ w2 M2)
      have st3_011 : ∀ (B C : Nat) (p q r : Gt) (w1 : World), SxW t v2 w1 none (some B) (some C) (some p) (some q) (some r) → G 4 #[true, true, true, true, true, true, false, true, true, false, false, false] { tmps := #[.agg (txv t.lk t.ia t.n t.ic t.oa t.m t.oc), .int .i64 kk, .slice sa sn sc, .pointer (some ⟨w.heap.size, 0, none⟩), undef, undef, .bool false, undef, .pointer (some ⟨B, 0, none⟩), .pointer (some ⟨C, 0, none⟩), .agg (txl t.lk t.ia t.n t.ic t.oa t.m t.oc).toArray, .bool false, .bool false, .slice sa sn sc, .int .i64 sn, .bool (decide ((1000 : Int) < sn)), .bool (decide ((1000 : Int) < sn)), undef, .agg (txl t.lk t.ia t.n t.ic t.oa t.m t.oc).toArray, .agg (txv t.lk p.ia t.n p.ic p.oa t.m p.oc), .agg (txl t.lk t.ia t.n t.ic t.oa t.m t.oc).toArray, .agg (txv t.lk q.ia t.n q.ic q.oa t.m q.oc), .agg (txl t.lk t.ia t.n t.ic t.oa t.m t.oc).toArray, .agg (txv t.lk r.ia t.n r.ic r.oa t.m r.oc), undef, undef, undef, undef, undef, undef, undef, undef, undef, undef, undef, undef, undef, undef, undef, undef, undef, undef, undef, undef, undef, undef, undef, undef, undef, undef, undef, undef, undef, undef, undef, undef, undef, undef, undef, undef, undef, undef], defers := [] } w1 := by
        intro B C p q r w1 M
        have M := hidV M
        refine toG _ _ _ _ ?_
        refine wpAnyH_ready (rs := [6]) (by kernel_rfl) (by simp) ?_
        refine (AllReadyH.cons (o := { dst := some 7, op := Go.Op.alloc 35, type := 0, pos := "law.go:113", after := #[], guard := none }) rfl (fun K hK => ?_) AllReadyH.nil)
        refine step_allocTx rfl rfl ?_
        intro k w2 hk hl hb
        have M2 := M.out.newA hk hl hb
        refine hK.out _ _ (HS.out w2 M2.below) (fun _ => ?_)
        clear hK K
        try simp only [Act.put, List.setIfInBounds_toArray, List.set_cons_zero, List.set_cons_succ]
        exact ofG _ _ _ _ (st3_111 k B C p q r w2 M2)
      have st3_101 : ∀ (A C : Nat) (p q r : Gt) (w1 : World), SxW t v2 w1 (some A) none (some C) (some p) (some q) (some r) → G 4 #[true, true, true, true, true, true, true, false, true, false, false, false] { tmps := #[.agg (txv t.lk t.ia t.n t.ic t.oa t.m t.oc), .int .i64 kk, .slice sa sn sc, .pointer (some ⟨w.heap.size, 0, none⟩), undef, undef, .bool false, .pointer (some ⟨A, 0, none⟩), undef, .pointer (some ⟨C, 0, none⟩), .agg (txl t.lk t.ia t.n t.ic t.oa t.m t.oc).toArray, .bool false, .bool false, .slice sa sn sc, .int .i64 sn, .bool (decide ((1000 : Int) < sn)), .bool (decide ((1000 : Int) < sn)), undef, .agg (txl t.lk t.ia t.n t.ic t.oa t.m t.oc).toArray, .agg (txv t.lk p.ia t.n p.ic p.oa t.m p.oc), .agg (txl t.lk t.ia t.n t.ic t.oa t.m t.oc).toArray, .agg (txv t.lk q.ia t.n q.ic q.oa t.m q.oc), .agg (txl t.lk t.ia t.n t.ic t.oa t.m t.oc).toArray, .agg (txv t.lk r.ia t.n r.ic r.oa t.m r.oc), undef, undef, undef, undef, undef, undef, undef, undef, undef, undef, undef, undef, undef, undef, undef, undef, undef, undef, undef, undef, undef, undef, undef, undef, undef, undef, undef, undef, undef, undef, undef, undef, undef, undef, undef, undef, undef, undef], defers := [] } w1 := by
        intro A C p q r w1 M
        have M := hidV M
        refine toG _ _ _ _ ?_
        refine wpAnyH_ready (rs := [7]) (by kernel_rfl) (by simp) ?_
        refine (AllReadyH.cons (o := { dst := some 8, op := Go.Op.alloc 35, type := 0, pos := "law.go:113", after := #[], guard := none }) rfl (fun K hK => ?_) AllReadyH.nil)
        refine step_allocTx rfl rfl ?_
        intro k w2 hk hl hb
        have M2 := M.out.newB hk hl hb
        refine hK.out _ _ (HS.out w2 M2.below) (fun _ => ?_)
        clear hK K
        try simp only [Act.put, List.setIfInBounds_toArray, List.set_cons_zero, List.set_cons_succ]
        exact ofG _ _ _ _ (st3_111 A k C p q r w2 M2)
      have st3_110 : ∀ (A B : Nat) (p q r : Gt) (w1 : World), SxW t v2 w1 (some A) (some B) none (some p) (some q) (some r) → G 4 #[true, true, true, true, true, true, true, true, false, false, false, false] { tmps := #[.agg (txv t.lk t.ia t.n t.ic t.oa t.m t.oc), .int .i64 kk, .slice sa sn sc, .pointer (some ⟨w.heap.size, 0, none⟩), undef, undef, .bool false, .pointer (some ⟨A, 0, none⟩), .pointer (some ⟨B, 0, none⟩), undef, .agg (txl t.lk t.ia t.n t.ic t.oa t.m t.oc).toArray, .bool false, .bool false, .slice sa sn sc, .int .i64 sn, .bool (decide ((1000 : Int) < sn)), .bool (decide ((1000 : Int) < sn)), undef, .agg (txl t.lk t.ia t.n t.ic t.oa t.m t.oc).toArray, .agg (txv t.lk p.ia t.n p.ic p.oa t.m p.oc), .agg (txl t.lk t.ia t.n t.ic t.oa t.m t.oc).toArray, .agg (txv t.lk q.ia t.n q.ic q.oa t.m q.oc), .agg (txl t.lk t.ia t.n t.ic t.oa t.m t.oc).toArray, .agg (txv t.lk r.ia t.n r.ic r.oa t.m r.oc), undef, undef, undef, undef, undef, undef, undef, undef, undef, undef, undef, undef, undef, undef, undef, undef, undef, undef, undef, undef, undef, undef, undef, undef, undef, undef, undef, undef, undef, undef, undef, undef, undef, undef, undef, undef, undef, undef], defers := [] } w1 := by
        intro A B p q r w1 M
        have M := hidV M
        refine toG _ _ _ _ ?_
        refine wpAnyH_ready (rs := [8]) (by kernel_rfl) (by simp) ?_
        refine (AllReadyH.cons (o := { dst := some 9, op := Go.Op.alloc 35, type := 0, pos := "law.go:113", after := #[], guard := none }) rfl (fun K hK => ?_) AllReadyH.nil)
        refine step_allocTx rfl rfl ?_
        intro k w2 hk hl hb
        have M2 := M.out.newC hk hl hb
        refine hK.out _ _ (HS.out w2 M2.below) (fun _ => ?_)
        clear hK K
        try simp only [Act.put, List.setIfInBounds_toArray, List.set_cons_zero, List.set_cons_succ]
        exact ofG _ _ _ _ (st3_111 A B k p q r w2 M2)
      have st1_111 : ∀ (A B C : Nat) (p : Gt) (w1 : World), SxW t v2 w1 (some A) (some B) (some C) (some p) none none → G 5 #[true, true, true, false, true, false, true, true, true, false, false, false] { tmps := #[.agg (txv t.lk t.ia t.n t.ic t.oa t.m t.oc), .int .i64 kk, .slice sa sn sc, .pointer (some ⟨w.heap.size, 0, none⟩), undef, undef, .bool false, .pointer (some ⟨A, 0, none⟩), .pointer (some ⟨B, 0, none⟩), .pointer (some ⟨C, 0, none⟩), .agg (txl t.lk t.ia t.n t.ic t.oa t.m t.oc).toArray, .bool false, .bool false, .slice sa sn sc, .int .i64 sn, .bool (decide ((1000 : Int) < sn)), .bool (decide ((1000 : Int) < sn)), undef, .agg (txl t.lk t.ia t.n t.ic t.oa t.m t.oc).toArray, .agg (txv t.lk p.ia t.n p.ic p.oa t.m p.oc), .agg (txl t.lk t.ia t.n t.ic t.oa t.m t.oc).toArray, undef, .agg (txl t.lk t.ia t.n t.ic t.oa t.m t.oc).toArray, undef, undef, undef, undef, undef, undef, undef, undef, undef, undef, undef, undef, undef, undef, undef, undef, undef, undef, undef, undef, undef, undef, undef, undef, undef, undef, undef, undef, undef, undef, undef, undef, undef, undef, undef, undef, undef, undef, undef], defers := [] } w1 := by
        intro A B C p w1 M
        have M := hidV M
        refine toG _ _ _ _ ?_
        refine wpAnyH_ready (rs := [3]) (by kernel_rfl) (by simp) ?_
        refine (AllReadyH.cons (o := { dst := some 21, op := Go.Op.call { callee := Go.Callee.value (Go.Operand.func 9), args := #[Go.Operand.tmp 20], argTypes := #[25] }, type := 35, pos := "law.go:113", after := #[{ on := 2, ground := Go.Ground.data }, { on := 1, ground := Go.Ground.chain }], guard := none }) rfl (fun K hK => ?_) AllReadyH.nil)
        go_simp
        refine (giveTx_any t S w1 (HA.out w1 (HW.out w1 M.out.below)).1 (HA.out w1 (HW.out w1 M.out.below)).2.1 (HA.out w1 (HW.out w1 M.out.below)).2.2 HN.out HKO.out).mono ?_
        rintro e w2 ⟨ia, ic, oa, oc, S', rfl, -, hb, hO⟩
        have M2 := M.out.giveQ (TxIv.of (oc := oc) hO) rfl rfl hb
        refine hK.out _ _ (HS.out w2 M2.below) (fun _ => ?_)
        clear hK K
        try simp only [List.setIfInBounds_toArray, List.set_cons_zero, List.set_cons_succ]
        exact ofG _ _ _ _ (st2_111 A B C p ⟨w1.heap.size, w2.heap.size, ia, ic, oa, oc, S'⟩ w2 M2)
      have st2_011 : ∀ (B C : Nat) (p q : Gt) (w1 : World), SxW t v2 w1 none (some B) (some C) (some p) (some q) none → G 5 #[true, true, true, true, true, false, false, true, true, false, false, false] { tmps := #[.agg (txv t.lk t.ia t.n t.ic t.oa t.m t.oc), .int .i64 kk, .slice sa sn sc, .pointer (some ⟨w.heap.size, 0, none⟩), undef, undef, .bool false, undef, .pointer (some ⟨B, 0, none⟩), .pointer (some ⟨C, 0, none⟩), .agg (txl t.lk t.ia t.n t.ic t.oa t.m t.oc).toArray, .bool false, .bool false, .slice sa sn sc, .int .i64 sn, .bool (decide ((1000 : Int) < sn)), .bool (decide ((1000 : Int) < sn)), undef, .agg (txl t.lk t.ia t.n t.ic t.oa t.m t.oc).toArray, .agg (txv t.lk p.ia t.n p.ic p.oa t.m p.oc), .agg (txl t.lk t.ia t.n t.ic t.oa t.m t.oc).toArray, .agg (txv t.lk q.ia t.n q.ic q.oa t.m q.oc), .agg (txl t.lk t.ia t.n t.ic t.oa t.m t.oc).toArray, undef, undef, undef, undef, undef, undef, undef, undef, undef, undef, undef, undef, undef, undef, undef, undef, undef, undef, undef, undef, undef, undef, undef, undef, undef, undef, undef, undef, undef, undef, undef, undef, undef, undef, undef, undef, undef, undef, undef], defers := [] } w1 := by
        intro B C p q w1 M
        have M := hidV M
        refine toG _ _ _ _ ?_
        refine wpAnyH_ready (rs := [5, 6]) (by kernel_rfl) (by simp) ?_
        refine (AllReadyH.cons (o := { dst := some 23, op := Go.Op.call { callee := Go.Callee.value (Go.Operand.func 9), args := #[Go.Operand.tmp 22], argTypes := #[25] }, type := 35, pos := "law.go:113", after := #[{ on := 4, ground := Go.Ground.data }, { on := 3, ground := Go.Ground.chain }], guard := none }) rfl (fun K hK => ?_) (AllReadyH.cons (o := { dst := some 7, op := Go.Op.alloc 35, type := 0, pos := "law.go:113", after := #[], guard := none }) rfl (fun K hK => ?_) AllReadyH.nil))
        · go_simp
          refine (giveTx_any t S w1 (HA.out w1 (HW.out w1 M.out.below)).1 (HA.out w1 (HW.out w1 M.out.below)).2.1 (HA.out w1 (HW.out w1 M.out.below)).2.2 HN.out HKO.out).mono ?_
          rintro e w2 ⟨ia, ic, oa, oc, S', rfl, -, hb, hO⟩
          have M2 := M.out.giveR (TxIv.of (oc := oc) hO) rfl rfl hb
          refine hK.out _ _ (HS.out w2 M2.below) (fun _ => ?_)
          clear hK K
          try simp only [List.setIfInBounds_toArray, List.set_cons_zero, List.set_cons_succ]
          exact ofG _ _ _ _ (st3_011 B C p q ⟨w1.heap.size, w2.heap.size, ia, ic, oa, oc, S'⟩ w2 M2)
        · refine step_allocTx rfl rfl ?_
          intro k w2 hk hl hb
          have M2 := M.out.newA hk hl hb
          refine hK.out _ _ (HS.out w2 M2.below) (fun _ => ?_)
          clear hK K
          try simp only [Act.put, List.setIfInBounds_toArray, List.set_cons_zero, List.set_cons_succ]
          exact ofG _ _ _ _ (st2_111 k B C p q w2 M2)
      have st2_101 : ∀ (A C : Nat) (p q : Gt) (w1 : World), SxW t v2 w1 (some A) none (some C) (some p) (some q) none → G 5 #[true, true, true, true, true, false, true, false, true, false, false, false] { tmps := #[.agg (txv t.lk t.ia t.n t.ic t.oa t.m t.oc), .int .i64 kk, .slice sa sn sc, .pointer (some ⟨w.heap.size, 0, none⟩), undef, undef, .bool false, .pointer (some ⟨A, 0, none⟩), undef, .pointer (some ⟨C, 0, none⟩), .agg (txl t.lk t.ia t.n t.ic t.oa t.m t.oc).toArray, .bool false, .bool false, .slice sa sn sc, .int .i64 sn, .bool (decide ((1000 : Int) < sn)), .bool (decide ((1000 : Int) < sn)), undef, .agg (txl t.lk t.ia t.n t.ic t.oa t.m t.oc).toArray, .agg (txv t.lk p.ia t.n p.ic p.oa t.m p.oc), .agg (txl t.lk t.ia t.n t.ic t.oa t.m t.oc).toArray, .agg (txv t.lk q.ia t.n q.ic q.oa t.m q.oc), .agg (txl t.lk t.ia t.n t.ic t.oa t.m t.oc).toArray, undef, undef, undef, undef, undef, undef, undef, undef, undef, undef, undef, undef, undef, undef, undef, undef, undef, undef, undef, undef, undef, undef, undef, undef, undef, undef, undef, undef, undef, undef, undef, undef, undef, undef, undef, undef, undef, undef, undef], defers := [] } w1 := by
        intro A C p q w1 M
        have M := hidV M
        refine toG _ _ _ _ ?_
        refine wpAnyH_ready (rs := [5, 7]) (by kernel_rfl) (by simp) ?_
        refine (AllReadyH.cons (o := { dst := some 23, op := Go.Op.call { callee := Go.Callee.value (Go.Operand.func 9), args := #[Go.Operand.tmp 22], argTypes := #[25] }, type := 35, pos := "law.go:113", after := #[{ on := 4, ground := Go.Ground.data }, { on := 3, ground := Go.Ground.chain }], guard := none }) rfl (fun K hK => ?_) (AllReadyH.cons (o := { dst := some 8, op := Go.Op.alloc 35, type := 0, pos := "law.go:113", after := #[], guard := none }) rfl (fun K hK => ?_) AllReadyH.nil))
        · go_simp
          refine (giveTx_any t S w1 (HA.out w1 (HW.out w1 M.out.below)).1 (HA.out w1 (HW.out w1 M.out.below)).2.1 (HA.out w1 (HW.out w1 M.out.below)).2.2 HN.out HKO.out).mono ?_
          rintro e w2 ⟨ia, ic, oa, oc, S', rfl, -, hb, hO⟩
          have M2 := M.out.giveR (TxIv.of (oc := oc) hO) rfl rfl hb
          refine hK.out _ _ (HS.out w2 M2.below) (fun _ => ?_)
          clear hK K
          try simp only [List.setIfInBounds_toArray, List.set_cons_zero, List.set_cons_succ]
          exact ofG _ _ _ _ (st3_101 A C p q ⟨w1.heap.size, w2.heap.size, ia, ic, oa, oc, S'⟩ w2 M2)
        · refine step_allocTx rfl rfl ?_
          intro k w2 hk hl hb
          have M2 := M.out.newB hk hl hb
          refine hK.out _ _ (HS.out w2 M2.below) (fun _ => ?_)
          clear hK K
          try simp only [Act.put, List.setIfInBounds_toArray, List.set_cons_zero, List.set_cons_succ]
          exact ofG _ _ _ _ (st2_111 A k C p q w2 M2)
      have st2_110 : ∀ (A B : Nat) (p q : Gt) (w1 : World), SxW t v2 w1 (some A) (some B) none (some p) (some q) none → G 5 #[true, true, true, true, true, false, true, true, false, false, false, false] { tmps := #[.agg (txv t.lk t.ia t.n t.ic t.oa t.m t.oc), .int .i64 kk, .slice sa sn sc, .pointer (some ⟨w.heap.size, 0, none⟩), undef, undef, .bool false, .pointer (some ⟨A, 0, none⟩), .pointer (some ⟨B, 0, none⟩), undef, .agg (txl t.lk t.ia t.n t.ic t.oa t.m t.oc).toArray, .bool false, .bool false, .slice sa sn sc, .int .i64 sn, .bool (decide ((1000 : Int) < sn)), .bool (decide ((1000 : Int) < sn)), undef, .agg (txl t.lk t.ia t.n t.ic t.oa t.m t.oc).toArray, .agg (txv t.lk p.ia t.n p.ic p.oa t.m p.oc), .agg (txl t.lk t.ia t.n t.ic t.oa t.m t.oc).toArray, .agg (txv t.lk q.ia t.n q.ic q.oa t.m q.oc), .agg (txl t.lk t.ia t.n t.ic t.oa t.m t.oc).toArray, undef, undef, undef, undef, undef, undef, undef, undef, undef, undef, undef, undef, undef, undef, undef, undef, undef, undef, undef, undef, undef, undef, undef, undef, undef, undef, undef, undef, undef, undef, undef, undef, undef, undef, undef, undef, undef, undef, undef], defers := [] } w1 := by
        intro A B p q w1 M
        have M := hidV M
        refine toG _ _ _ _ ?_
        refine wpAnyH_ready (rs := [5, 8]) (by kernel_rfl) (by simp) ?_
        refine (AllReadyH.cons (o := { dst := some 23, op := Go.Op.call { callee := Go.Callee.value (Go.Operand.func 9), args := #[Go.Operand.tmp 22], argTypes := #[25] }, type := 35, pos := "law.go:113", after := #[{ on := 4, ground := Go.Ground.data }, { on := 3, ground := Go.Ground.chain }], guard := none }) rfl (fun K hK => ?_) (AllReadyH.cons (o := { dst := some 9, op := Go.Op.alloc 35, type := 0, pos := "law.go:113", after := #[], guard := none }) rfl (fun K hK => ?_) AllReadyH.nil))
        · go_simp
          refine (giveTx_any t S w1 (HA.out w1 (HW.out w1 M.out.below)).1 (HA.out w1 (HW.out w1 M.out.below)).2.1 (HA.out w1 (HW.out w1 M.out.below)).2.2 HN.out HKO.out).mono ?_
          rintro e w2 ⟨ia, ic, oa, oc, S', rfl, -, hb, hO⟩
          have M2 := M.out.giveR (TxIv.of (oc := oc) hO) rfl rfl hb
          refine hK.out _ _ (HS.out w2 M2.below) (fun _ => ?_)
          clear hK K
          try simp only [List.setIfInBounds_toArray, List.set_cons_zero, List.set_cons_succ]
          exact ofG _ _ _ _ (st3_110 A B p q ⟨w1.heap.size, w2.heap.size, ia, ic, oa, oc, S'⟩ w2 M2)
        · refine step_allocTx rfl rfl ?_
          intro k w2 hk hl hb
          have M2 := M.out.newC hk hl hb
          refine hK.out _ _ (HS.out w2 M2.below) (fun _ => ?_)
          clear hK K
          try simp only [Act.put, List.setIfInBounds_toArray, List.set_cons_zero, List.set_cons_succ]
          exact ofG _ _ _ _ (st2_111 A B k p q w2 M2)
      have st3_001 : ∀ (C : Nat) (p q r : Gt) (w1 : World), SxW t v2 w1 none none (some C) (some p) (some q) (some r) → G 5 #[true, true, true, true, true, true, false, false, true, false, false, false] { tmps := #[.agg (txv t.lk t.ia t.n t.ic t.oa t.m t.oc), .int .i64 kk, .slice sa sn sc, .pointer (some ⟨w.heap.size, 0, none⟩), undef, undef, .bool false, undef, undef, .pointer (some ⟨C, 0, none⟩), .agg (txl t.lk t.ia t.n t.ic t.oa t.m t.oc).toArray, .bool false, .bool false, .slice sa sn sc, .int .i64 sn, .bool (decide ((1000 : Int) < sn)), .bool (decide ((1000 : Int) < sn)), undef, .agg (txl t.lk t.ia t.n t.ic t.oa t.m t.oc).toArray, .agg (txv t.lk p.ia t.n p.ic p.oa t.m p.oc), .agg (txl t.lk t.ia t.n t.ic t.oa t.m t.oc).toArray, .agg (txv t.lk q.ia t.n q.ic q.oa t.m q.oc), .agg (txl t.lk t.ia t.n t.ic t.oa t.m t.oc).toArray, .agg (txv t.lk r.ia t.n r.ic r.oa t.m r.oc), undef, undef, undef, undef, undef, undef, undef, undef, undef, undef, undef, undef, undef, undef, undef, undef, undef, undef, undef, undef, undef, undef, undef, undef, undef, undef, undef, undef, undef, undef, undef, undef, undef, undef, undef, undef, undef, undef], defers := [] } w1 := by
        intro C p q r w1 M
        have M := hidV M
        refine toG _ _ _ _ ?_
        refine wpAnyH_ready (rs := [6, 7]) (by kernel_rfl) (by simp) ?_
        refine (AllReadyH.cons (o := { dst := some 7, op := Go.Op.alloc 35, type := 0, pos := "law.go:113", after := #[], guard := none }) rfl (fun K hK => ?_) (AllReadyH.cons (o := { dst := some 8, op := Go.Op.alloc 35, type := 0, pos := "law.go:113", after := #[], guard := none }) rfl (fun K hK => ?_) AllReadyH.nil))
        · refine step_allocTx rfl rfl ?_
          intro k w2 hk hl hb
          have M2 := M.out.newA hk hl hb
          refine hK.out _ _ (HS.out w2 M2.below) (fun _ => ?_)
          clear hK K
          try simp only [Act.put, List.setIfInBounds_toArray, List.set_cons_zero, List.set_cons_succ]
          exact ofG _ _ _ _ (st3_101 k C p q r w2 M2)
        · refine step_allocTx rfl rfl ?_
          intro k w2 hk hl hb
          have M2 := M.out.newB hk hl hb
          refine hK.out _ _ (HS.out w2 M2.below) (fun _ => ?_)
          clear hK K
          try simp only [Act.put, List.setIfInBounds_toArray, List.set_cons_zero, List.set_cons_succ]
          exact ofG _ _ _ _ (st3_011 k C p q r w2 M2)
      have st3_010 : ∀ (B : Nat) (p q r : Gt) (w1 : World), SxW t v2 w1 none (some B) none (some p) (some q) (some r) → G 5 #[true, true, true, true, true, true, false, true, false, false, false, false] { tmps := #[.agg (txv t.lk t.ia t.n t.ic t.oa t.m t.oc), .int .i64 kk, .slice sa sn sc, .pointer (some ⟨w.heap.size, 0, none⟩), undef, undef, .bool false, undef, .pointer (some ⟨B, 0, none⟩), undef, .agg (txl t.lk t.ia t.n t.ic t.oa t.m t.oc).toArray, .bool false, .bool false, .slice sa sn sc, .int .i64 sn, .bool (decide ((1000 : Int) < sn)), .bool (decide ((1000 : Int) < sn)), undef, .agg (txl t.lk t.ia t.n t.ic t.oa t.m t.oc).toArray, .agg (txv t.lk p.ia t.n p.ic p.oa t.m p.oc), .agg (txl t.lk t.ia t.n t.ic t.oa t.m t.oc).toArray, .agg (txv t.lk q.ia t.n q.ic q.oa t.m q.oc), .agg (txl t.lk t.ia t.n t.ic t.oa t.m t.oc).toArray, .agg (txv t.lk r.ia t.n r.ic r.oa t.m r.oc), undef, undef, undef, undef, undef, undef, undef, undef, undef, undef, undef, undef, undef, undef, undef, undef, undef, undef, undef, undef, undef, undef, undef, undef, undef, undef, undef, undef, undef, undef, undef, undef, undef, undef, undef, undef, undef, undef], defers := [] } w1 := by
        intro B p q r w1 M
        have M := hidV M
        refine toG _ _ _ _ ?_
        refine wpAnyH_ready (rs := [6, 8]) (by kernel_rfl) (by simp) ?_
        refine (AllReadyH.cons (o := { dst := some 7, op := Go.Op.alloc 35, type := 0, pos := "law.go:113", after := #[], guard := none }) rfl (fun K hK => ?_) (AllReadyH.cons (o := { dst := some 9, op := Go.Op.alloc 35, type := 0, pos := "law.go:113", after := #[], guard := none }) rfl (fun K hK => ?_) AllReadyH.nil))
        · refine step_allocTx rfl rfl ?_
          intro k w2 hk hl hb
          have M2 := M.out.newA hk hl hb
          refine hK.out _ _ (HS.out w2 M2.below) (fun _ => ?_)
          clear hK K
          try simp only [Act.put, List.setIfInBounds_toArray, List.set_cons_zero, List.set_cons_succ]
          exact ofG _ _ _ _ (st3_110 k B p q r w2 M2)
        · refine step_allocTx rfl rfl ?_
          intro k w2 hk hl hb
          have M2 := M.out.newC hk hl hb
          refine hK.out _ _ (HS.out w2 M2.below) (fun _ => ?_)
          clear hK K
          try simp only [Act.put, List.setIfInBounds_toArray, List.set_cons_zero, List.set_cons_succ]
          exact ofG _ _ _ _ (st3_011 B k p q r w2 M2)
      have st3_100 : ∀ (A : Nat) (p q r : Gt) (w1 : World), SxW t v2 w1 (some A) none none (some p) (some q) (some r) → G 5 #[true, true, true, true, true, true, true, false, false, false, false, false] { tmps := #[.agg (txv t.lk t.ia t.n t.ic t.oa t.m t.oc), .int .i64 kk, .slice sa sn sc, .pointer (some ⟨w.heap.size, 0, none⟩), undef, undef, .bool false, .pointer (some ⟨A, 0, none⟩), undef, undef, .agg (txl t.lk t.ia t.n t.ic t.oa t.m t.oc).toArray, .bool false, .bool false, .slice sa sn sc, .int .i64 sn, .bool (decide ((1000 : Int) < sn)), .bool (decide ((1000 : Int) < sn)), undef, .agg (txl t.lk t.ia t.n t.ic t.oa t.m t.oc).toArray, .agg (txv t.lk p.ia t.n p.ic p.oa t.m p.oc), .agg (txl t.lk t.ia t.n t.ic t.oa t.m t.oc).toArray, .agg (txv t.lk q.ia t.n q.ic q.oa t.m q.oc), .agg (txl t.lk t.ia t.n t.ic t.oa t.m t.oc).toArray, .agg (txv t.lk r.ia t.n r.ic r.oa t.m r.oc), undef, undef, undef, undef, undef, undef, undef, undef, undef, undef, undef, undef, undef, undef, undef, undef, undef, undef, undef, undef, undef, undef, undef, undef, undef, undef, undef, undef, undef, undef, undef, undef, undef, undef, undef, undef, undef, undef], defers := [] } w1 := by
        intro A p q r w1 M
        have M := hidV M
        refine toG _ _ _ _ ?_
        refine wpAnyH_ready (rs := [7, 8]) (by kernel_rfl) (by simp) ?_
        refine (AllReadyH.cons (o := { dst := some 8, op := Go.Op.alloc 35, type := 0, pos := "law.go:113", after := #[], guard := none }) rfl (fun K hK => ?_) (AllReadyH.cons (o := { dst := some 9, op := Go.Op.alloc 35, type := 0, pos := "law.go:113", after := #[], guard := none }) rfl (fun K hK => ?_) AllReadyH.nil))
        · refine step_allocTx rfl rfl ?_
          intro k w2 hk hl hb
          have M2 := M.out.newB hk hl hb
          refine hK.out _ _ (HS.out w2 M2.below) (fun _ => ?_)
          clear hK K
          try simp only [Act.put, List.setIfInBounds_toArray, List.set_cons_zero, List.set_cons_succ]
          exact ofG _ _ _ _ (st3_110 A k p q r w2 M2)
        · refine step_allocTx rfl rfl ?_
          intro k w2 hk hl hb
          have M2 := M.out.newC hk hl hb
          refine hK.out _ _ (HS.out w2 M2.below) (fun _ => ?_)
          clear hK K
          try simp only [Act.put, List.setIfInBounds_toArray, List.set_cons_zero, List.set_cons_succ]
          exact ofG _ _ _ _ (st3_101 A k p q r w2 M2)
      have st0_111 : ∀ (A B C : Nat) (w1 : World), SxW t v2 w1 (some A) (some B) (some C) none none none → G 6 #[true, false, true, false, true, false, true, true, true, false, false, false] { tmps := #[.agg (txv t.lk t.ia t.n t.ic t.oa t.m t.oc), .int .i64 kk, .slice sa sn sc, .pointer (some ⟨w.heap.size, 0, none⟩), undef, undef, .bool false, .pointer (some ⟨A, 0, none⟩), .pointer (some ⟨B, 0, none⟩), .pointer (some ⟨C, 0, none⟩), .agg (txl t.lk t.ia t.n t.ic t.oa t.m t.oc).toArray, .bool false, .bool false, .slice sa sn sc, .int .i64 sn, .bool (decide ((1000 : Int) < sn)), .bool (decide ((1000 : Int) < sn)), undef, .agg (txl t.lk t.ia t.n t.ic t.oa t.m t.oc).toArray, undef, .agg (txl t.lk t.ia t.n t.ic t.oa t.m t.oc).toArray, undef, .agg (txl t.lk t.ia t.n t.ic t.oa t.m t.oc).toArray, undef, undef, undef, undef, undef, undef, undef, undef, undef, undef, undef, undef, undef, undef, undef, undef, undef, undef, undef, undef, undef, undef, undef, undef, undef, undef, undef, undef, undef, undef, undef, undef, undef, undef, undef, undef, undef, undef, undef], defers := [] } w1 := by
        intro A B C w1 M
        have M := hidV M
        refine toG _ _ _ _ ?_
        refine wpAnyH_ready (rs := [1]) (by kernel_rfl) (by simp) ?_
        refine (AllReadyH.cons (o := { dst := some 19, op := Go.Op.call { callee := Go.Callee.value (Go.Operand.func 9), args := #[Go.Operand.tmp 18], argTypes := #[25] }, type := 35, pos := "law.go:113", after := #[{ on := 0, ground := Go.Ground.data }], guard := none }) rfl (fun K hK => ?_) AllReadyH.nil)
        go_simp
        refine (giveTx_any t S w1 (HA.out w1 (HW.out w1 M.out.below)).1 (HA.out w1 (HW.out w1 M.out.below)).2.1 (HA.out w1 (HW.out w1 M.out.below)).2.2 HN.out HKO.out).mono ?_
        rintro e w2 ⟨ia, ic, oa, oc, S', rfl, -, hb, hO⟩
        have M2 := M.out.giveP (TxIv.of (oc := oc) hO) rfl rfl hb
        refine hK.out _ _ (HS.out w2 M2.below) (fun _ => ?_)
        clear hK K
        try simp only [List.setIfInBounds_toArray, List.set_cons_zero, List.set_cons_succ]
        exact ofG _ _ _ _ (st1_111 A B C ⟨w1.heap.size, w2.heap.size, ia, ic, oa, oc, S'⟩ w2 M2)
      have st1_011 : ∀ (B C : Nat) (p : Gt) (w1 : World), SxW t v2 w1 none (some B) (some C) (some p) none none → G 6 #[true, true, true, false, true, false, false, true, true, false, false, false] { tmps := #[.agg (txv t.lk t.ia t.n t.ic t.oa t.m t.oc), .int .i64 kk, .slice sa sn sc, .pointer (some ⟨w.heap.size, 0, none⟩), undef, undef, .bool false, undef, .pointer (some ⟨B, 0, none⟩), .pointer (some ⟨C, 0, none⟩), .agg (txl t.lk t.ia t.n t.ic t.oa t.m t.oc).toArray, .bool false, .bool false, .slice sa sn sc, .int .i64 sn, .bool (decide ((1000 : Int) < sn)), .bool (decide ((1000 : Int) < sn)), undef, .agg (txl t.lk t.ia t.n t.ic t.oa t.m t.oc).toArray, .agg (txv t.lk p.ia t.n p.ic p.oa t.m p.oc), .agg (txl t.lk t.ia t.n t.ic t.oa t.m t.oc).toArray, undef, .agg (txl t.lk t.ia t.n t.ic t.oa t.m t.oc).toArray, undef, undef, undef, undef, undef, undef, undef, undef, undef, undef, undef, undef, undef, undef, undef, undef, undef, undef, undef, undef, undef, undef, undef, undef, undef, undef, undef, undef, undef, undef, undef, undef, undef, undef, undef, undef, undef, undef, undef], defers := [] } w1 := by
        intro B C p w1 M
        have M := hidV M
        refine toG _ _ _ _ ?_
        refine wpAnyH_ready (rs := [3, 6]) (by kernel_rfl) (by simp) ?_
        refine (AllReadyH.cons (o := { dst := some 21, op := Go.Op.call { callee := Go.Callee.value (Go.Operand.func 9), args := #[Go.Operand.tmp 20], argTypes := #[25] }, type := 35, pos := "law.go:113", after := #[{ on := 2, ground := Go.Ground.data }, { on := 1, ground := Go.Ground.chain }], guard := none }) rfl (fun K hK => ?_) (AllReadyH.cons (o := { dst := some 7, op := Go.Op.alloc 35, type := 0, pos := "law.go:113", after := #[], guard := none }) rfl (fun K hK => ?_) AllReadyH.nil))
        · go_simp
          refine (giveTx_any t S w1 (HA.out w1 (HW.out w1 M.out.below)).1 (HA.out w1 (HW.out w1 M.out.below)).2.1 (HA.out w1 (HW.out w1 M.out.below)).2.2 HN.out HKO.out).mono ?_
          rintro e w2 ⟨ia, ic, oa, oc, S', rfl, -, hb, hO⟩
          have M2 := M.out.giveQ (TxIv.of (oc := oc) hO) rfl rfl hb
          refine hK.out _ _ (HS.out w2 M2.below) (fun _ => ?_)
          clear hK K
          try simp only [List.setIfInBounds_toArray, List.set_cons_zero, List.set_cons_succ]
          exact ofG _ _ _ _ (st2_011 B C p ⟨w1.heap.size, w2.heap.size, ia, ic, oa, oc, S'⟩ w2 M2)
        · refine step_allocTx rfl rfl ?_
          intro k w2 hk hl hb
          have M2 := M.out.newA hk hl hb
          refine hK.out _ _ (HS.out w2 M2.below) (fun _ => ?_)
          clear hK K
          try simp only [Act.put, List.setIfInBounds_toArray, List.set_cons_zero, List.set_cons_succ]
          exact ofG _ _ _ _ (st1_111 k B C p w2 M2)
      have st1_101 : ∀ (A C : Nat) (p : Gt) (w1 : World), SxW t v2 w1 (some A) none (some C) (some p) none none → G 6 #[true, true, true, false, true, false, true, false, true, false, false, false] { tmps := #[.agg (txv t.lk t.ia t.n t.ic t.oa t.m t.oc), .int .i64 kk, .slice sa sn sc, .pointer (some ⟨w.heap.size, 0, none⟩), undef, undef, .bool false, .pointer (some ⟨A, 0, none⟩), undef, .pointer (some ⟨C, 0, none⟩), .agg (txl t.lk t.ia t.n t.ic t.oa t.m t.oc).toArray, .bool false, .bool false, .slice sa sn sc, .int .i64 sn, .bool (decide ((1000 : Int) < sn)), .bool (decide ((1000 : Int) < sn)), undef, .agg (txl t.lk t.ia t.n t.ic t.oa t.m t.oc).toArray, .agg (txv t.lk p.ia t.n p.ic p.oa t.m p.oc), .agg (txl t.lk t.ia t.n t.ic t.oa t.m t.oc).toArray, undef, .agg (txl t.lk t.ia t.n t.ic t.oa t.m t.oc).toArray, undef, undef, undef, undef, undef, undef, undef, undef, undef, undef, undef, undef, undef, undef, undef, undef, undef, undef, undef, undef, undef, undef, undef, undef, undef, undef, undef, undef, undef, undef, undef, undef, undef, undef, undef, undef, undef, undef, undef], defers := [] } w1 := by
        intro A C p w1 M
        have M := hidV M
        refine toG _ _ _ _ ?_
        refine wpAnyH_ready (rs := [3, 7]) (by kernel_rfl) (by simp) ?_
        refine (AllReadyH.cons (o := { dst := some 21, op := Go.Op.call { callee := Go.Callee.value (Go.Operand.func 9), args := #[Go.Operand.tmp 20], argTypes := #[25] }, type := 35, pos := "law.go:113", after := #[{ on := 2, ground := Go.Ground.data }, { on := 1, ground := Go.Ground.chain }], guard := none }) rfl (fun K hK => ?_) (AllReadyH.cons (o := { dst := some 8, op := Go.Op.alloc 35, type := 0, pos := "law.go:113", after := #[], guard := none }) rfl (fun K hK => ?_) AllReadyH.nil))
        · go_simp
          refine (giveTx_any t S w1 (HA.out w1 (HW.out w1 M.out.below)).1 (HA.out w1 (HW.out w1 M.out.below)).2.1 (HA.out w1 (HW.out w1 M.out.below)).2.2 HN.out HKO.out).mono ?_
          rintro e w2 ⟨ia, ic, oa, oc, S', rfl, -, hb, hO⟩
          have M2 := M.out.giveQ (TxIv.of (oc := oc) hO) rfl rfl hb
          refine hK.out _ _ (HS.out w2 M2.below) (fun _ => ?_)
          clear hK K
          try simp only [List.setIfInBounds_toArray, List.set_cons_zero, List.set_cons_succ]
          exact ofG _ _ _ _ (st2_101 A C p ⟨w1.heap.size, w2.heap.size, ia, ic, oa, oc, S'⟩ w2 M2)
        · refine step_allocTx rfl rfl ?_
          intro k w2 hk hl hb
          have M2 := M.out.newB hk hl hb
          refine hK.out _ _ (HS.out w2 M2.below) (fun _ => ?_)
          clear hK K
          try simp only [Act.put, List.setIfInBounds_toArray, List.set_cons_zero, List.set_cons_succ]
          exact ofG _ _ _ _ (st1_111 A k C p w2 M2)
      have st1_110 : ∀ (A B : Nat) (p : Gt) (w1 : World), SxW t v2 w1 (some A) (some B) none (some p) none none → G 6 #[true, true, true, false, true, false, true, true, false, false, false, false] { tmps := #[.agg (txv t.lk t.ia t.n t.ic t.oa t.m t.oc), .int .i64 kk, .slice sa sn sc, .pointer (some ⟨w.heap.size, 0, none⟩), undef, undef, .bool false, .pointer (some ⟨A, 0, none⟩), .pointer (some ⟨B, 0, none⟩), undef, .agg (txl t.lk t.ia t.n t.ic t.oa t.m t.oc).toArray, .bool false, .bool false, .slice sa sn sc, .int .i64 sn, .bool (decide ((1000 : Int) < sn)), .bool (decide ((1000 : Int) < sn)), undef, .agg (txl t.lk t.ia t.n t.ic t.oa t.m t.oc).toArray, .agg (txv t.lk p.ia t.n p.ic p.oa t.m p.oc), .agg (txl t.lk t.ia t.n t.ic t.oa t.m t.oc).toArray, undef, .agg (txl t.lk t.ia t.n t.ic t.oa t.m t.oc).toArray, undef, undef, undef, undef, undef, undef, undef, undef, undef, undef, undef, undef, undef, undef, undef, undef, undef, undef, undef, undef, undef, undef, undef, undef, undef, undef, undef, undef, undef, undef, undef, undef, undef, undef, undef, undef, undef, undef, undef], defers := [] } w1 := by
        intro A B p w1 M
        have M := hidV M
        refine toG _ _ _ _ ?_
        refine wpAnyH_ready (rs := [3, 8]) (by kernel_rfl) (by simp) ?_
        refine (AllReadyH.cons (o := { dst := some 21, op := Go.Op.call { callee := Go.Callee.value (Go.Operand.func 9), args := #[Go.Operand.tmp 20], argTypes := #[25] }, type := 35, pos := "law.go:113", after := #[{ on := 2, ground := Go.Ground.data }, { on := 1, ground := Go.Ground.chain }], guard := none }) rfl (fun K hK => ?_) (AllReadyH.cons (o := { dst := some 9, op := Go.Op.alloc 35, type := 0, pos := "law.go:113", after := #[], guard := none }) rfl (fun K hK => ?_) AllReadyH.nil))
        · go_simp
          refine (giveTx_any t S w1 (HA.out w1 (HW.out w1 M.out.below)).1 (HA.out w1 (HW.out w1 M.out.below)).2.1 (HA.out w1 (HW.out w1 M.out.below)).2.2 HN.out HKO.out).mono ?_
          rintro e w2 ⟨ia, ic, oa, oc, S', rfl, -, hb, hO⟩
          have M2 := M.out.giveQ (TxIv.of (oc := oc) hO) rfl rfl hb
          refine hK.out _ _ (HS.out w2 M2.below) (fun _ => ?_)
          clear hK K
          try simp only [List.setIfInBounds_toArray, List.set_cons_zero, List.set_cons_succ]
          exact ofG _ _ _ _ (st2_110 A B p ⟨w1.heap.size, w2.heap.size, ia, ic, oa, oc, S'⟩ w2 M2)
        · refine step_allocTx rfl rfl ?_
          intro k w2 hk hl hb
          have M2 := M.out.newC hk hl hb
          refine hK.out _ _ (HS.out w2 M2.below) (fun _ => ?_)
          clear hK K
          try simp only [Act.put, List.setIfInBounds_toArray, List.set_cons_zero, List.set_cons_succ]
          exact ofG _ _ _ _ (st1_111 A B k p w2 M2)
      have st2_001 : ∀ (C : Nat) (p q : Gt) (w1 : World), SxW t v2 w1 none none (some C) (some p) (some q) none → G 6 #[true, true, true, true, true, false, false, false, true, false, false, false] { tmps := #[.agg (txv t.lk t.ia t.n t.ic t.oa t.m t.oc), .int .i64 kk, .slice sa sn sc, .pointer (some ⟨w.heap.size, 0, none⟩), undef, undef, .bool false, undef, undef, .pointer (some ⟨C, 0, none⟩), .agg (txl t.lk t.ia t.n t.ic t.oa t.m t.oc).toArray, .bool false, .bool false, .slice sa sn sc, .int .i64 sn, .bool (decide ((1000 : Int) < sn)), .bool (decide ((1000 : Int) < sn)), undef, .agg (txl t.lk t.ia t.n t.ic t.oa t.m t.oc).toArray, .agg (txv t.lk p.ia t.n p.ic p.oa t.m p.oc), .agg (txl t.lk t.ia t.n t.ic t.oa t.m t.oc).toArray, .agg (txv t.lk q.ia t.n q.ic q.oa t.m q.oc), .agg (txl t.lk t.ia t.n t.ic t.oa t.m t.oc).toArray, undef, undef, undef, undef, undef, undef, undef, undef, undef, undef, undef, undef, undef, undef, undef, undef, undef, undef, undef, undef, undef, undef, undef, undef, undef, undef, undef, undef, undef, undef, undef, undef, undef, undef, undef, undef, undef, undef, undef], defers := [] } w1 := by
        intro C p q w1 M
        have M := hidV M
        refine toG _ _ _ _ ?_
        refine wpAnyH_ready (rs := [5, 6, 7]) (by kernel_rfl) (by simp) ?_
        refine (AllReadyH.cons (o := { dst := some 23, op := Go.Op.call { callee := Go.Callee.value (Go.Operand.func 9), args := #[Go.Operand.tmp 22], argTypes := #[25] }, type := 35, pos := "law.go:113", after := #[{ on := 4, ground := Go.Ground.data }, { on := 3, ground := Go.Ground.chain }], guard := none }) rfl (fun K hK => ?_) (AllReadyH.cons (o := { dst := some 7, op := Go.Op.alloc 35, type := 0, pos := "law.go:113", after := #[], guard := none }) rfl (fun K hK => ?_) (AllReadyH.cons (o := { dst := some 8, op := Go.Op.alloc 35, type := 0, pos := "law.go:113", after := #[], guard := none }) rfl (fun K hK => ?_) AllReadyH.nil)))
        · go_simp
          refine (giveTx_any t S w1 (HA.out w1 (HW.out w1 M.out.below)).1 (HA.out w1 (HW.out w1 M.out.below)).2.1 (HA.out w1 (HW.out w1 M.out.below)).2.2 HN.out HKO.out).mono ?_
          rintro e w2 ⟨ia, ic, oa, oc, S', rfl, -, hb, hO⟩
          have M2 := M.out.giveR (TxIv.of (oc := oc) hO) rfl rfl hb
          refine hK.out _ _ (HS.out w2 M2.below) (fun _ => ?_)
          clear hK K
          try simp only [List.setIfInBounds_toArray, List.set_cons_zero, List.set_cons_succ]
          exact ofG _ _ _ _ (st3_001 C p q ⟨w1.heap.size, w2.heap.size, ia, ic, oa, oc, S'⟩ w2 M2)
        · refine step_allocTx rfl rfl ?_
          intro k w2 hk hl hb
          have M2 := M.out.newA hk hl hb
          refine hK.out _ _ (HS.out w2 M2.below) (fun _ => ?_)
          clear hK K
          try simp only [Act.put, List.setIfInBounds_toArray, List.set_cons_zero, List.set_cons_succ]
          exact ofG _ _ _ _ (st2_101 k C p q w2 M2)
        · refine step_allocTx rfl rfl ?_
          intro k w2 hk hl hb
          have M2 := M.out.newB hk hl hb
          refine hK.out _ _ (HS.out w2 M2.below) (fun _ => ?_)
          clear hK K
          try simp only [Act.put, List.setIfInBounds_toArray, List.set_cons_zero, List.set_cons_succ]
          exact ofG _ _ _ _ (st2_011 k C p q w2 M2)
      have st2_010 : ∀ (B : Nat) (p q : Gt) (w1 : World), SxW t v2 w1 none (some B) none (some p) (some q) none → G 6 #[true, true, true, true, true, false, false, true, false, false, false, false] { tmps := #[.agg (txv t.lk t.ia t.n t.ic t.oa t.m t.oc), .int .i64 kk, .slice sa sn sc, .pointer (some ⟨w.heap.size, 0, none⟩), undef, undef, .bool false, undef, .pointer (some ⟨B, 0, none⟩), undef, .agg (txl t.lk t.ia t.n t.ic t.oa t.m t.oc).toArray, .bool false, .bool false, .slice sa sn sc, .int .i64 sn, .bool (decide ((1000 : Int) < sn)), .bool (decide ((1000 : Int) < sn)), undef, .agg (txl t.lk t.ia t.n t.ic t.oa t.m t.oc).toArray, .agg (txv t.lk p.ia t.n p.ic p.oa t.m p.oc), .agg (txl t.lk t.ia t.n t.ic t.oa t.m t.oc).toArray, .agg (txv t.lk q.ia t.n q.ic q.oa t.m q.oc), .agg (txl t.lk t.ia t.n t.ic t.oa t.m t.oc).toArray, undef, undef, undef, undef, undef, undef, undef, undef, undef, undef, undef, undef, undef, undef, undef, undef, undef, undef, undef, undef, undef, undef, undef, undef, undef, undef, undef, undef, undef, undef, undef, undef, undef, undef, undef, undef, undef, undef, undef], defers := [] } w1 := by
        intro B p q w1 M
        have M := hidV M
        refine toG _ _ _ _ ?_
        refine wpAnyH_ready (rs := [5, 6, 8]) (by kernel_rfl) (by simp) ?_
        refine (AllReadyH.cons (o := { dst := some 23, op := Go.Op.call { callee := Go.Callee.value (Go.Operand.func 9), args := #[Go.Operand.tmp 22], argTypes := #[25] }, type := 35, pos := "law.go:113", after := #[{ on := 4, ground := Go.Ground.data }, { on := 3, ground := Go.Ground.chain }], guard := none }) rfl (fun K hK => ?_) (AllReadyH.cons (o := { dst := some 7, op := Go.Op.alloc 35, type := 0, pos := "law.go:113", after := #[], guard := none }) rfl (fun K hK => ?_) (AllReadyH.cons (o := { dst := some 9, op := Go.Op.alloc 35, type := 0, pos := "law.go:113", after := #[], guard := none }) rfl (fun K hK => ?_) AllReadyH.nil)))
        · go_simp
          refine (giveTx_any t S w1 (HA.out w1 (HW.out w1 M.out.below)).1 (HA.out w1 (HW.out w1 M.out.below)).2.1 (HA.out w1 (HW.out w1 M.out.below)).2.2 HN.out HKO.out).mono ?_
          rintro e w2 ⟨ia, ic, oa, oc, S', rfl, -, hb, hO⟩
          have M2 := M.out.giveR (TxIv.of (oc := oc) hO) rfl rfl hb
          refine hK.out _ _ (HS.out w2 M2.below) (fun _ => ?_)
          clear hK K
          try simp only [List.setIfInBounds_toArray, List.set_cons_zero, List.set_cons_succ]
          exact ofG _ _ _ _ (st3_010 B p q ⟨w1.heap.size, w2.heap.size, ia, ic, oa, oc, S'⟩ w2 M2)
        · refine step_allocTx rfl rfl ?_
          intro k w2 hk hl hb
          have M2 := M.out.newA hk hl hb
          refine hK.out _ _ (HS.out w2 M2.below) (fun _ => ?_)
          clear hK K
          try simp only [Act.put, List.setIfInBounds_toArray, List.set_cons_zero, List.set_cons_succ]
          exact ofG _ _ _ _ (st2_110 k B p q w2 M2)
        · refine step_allocTx rfl rfl ?_
          intro k w2 hk hl hb
          have M2 := M.out.newC hk hl hb
          refine hK.out _ _ (HS.out w2 M2.below) (fun _ => ?_)
          clear hK K
          try simp only [Act.put, List.setIfInBounds_toArray, List.set_cons_zero, List.set_cons_succ]
          exact ofG _ _ _ _ (st2_011 B k p q w2 M2)
      have st2_100 : ∀ (A : Nat) (p q : Gt) (w1 : World), SxW t v2 w1 (some A) none none (some p) (some q) none → G 6 #[true, true, true, true, true, false, true, false, false, false, false, false] { tmps := #[.agg (txv t.lk t.ia t.n t.ic t.oa t.m t.oc), .int .i64 kk, .slice sa sn sc, .pointer (some ⟨w.heap.size, 0, none⟩), undef, undef, .bool false, .pointer (some ⟨A, 0, none⟩), undef, undef, .agg (txl t.lk t.ia t.n t.ic t.oa t.m t.oc).toArray, .bool false, .bool false, .slice sa sn sc, .int .i64 sn, .bool (decide ((1000 : Int) < sn)), .bool (decide ((1000 : Int) < sn)), undef, .agg (txl t.lk t.ia t.n t.ic t.oa t.m t.oc).toArray, .agg (txv t.lk p.ia t.n p.ic p.oa t.m p.oc), .agg (txl t.lk t.ia t.n t.ic t.oa t.m t.oc).toArray, .agg (txv t.lk q.ia t.n q.ic q.oa t.m q.oc), .agg (txl t.lk t.ia t.n t.ic t.oa t.m t.oc).toArray, undef, undef, undef, undef, undef, undef, undef, undef, undef, undef, undef, undef, undef, undef, undef, undef, undef, undef, undef, undef, undef, undef, undef, undef, undef, undef, undef, undef, undef, undef, undef, undef, undef, undef, undef, undef, undef, undef, undef], defers := [] } w1 := by
        intro A p q w1 M
        have M := hidV M
        refine toG _ _ _ _ ?_
        refine wpAnyH_ready (rs := [5, 7, 8]) (by kernel_rfl) (by simp) ?_
        refine (AllReadyH.cons (o := { dst := some 23, op := Go.Op.call { callee := Go.Callee.value (Go.Operand.func 9), args := #[Go.Operand.tmp 22], argTypes := #[25] }, type := 35, pos := "law.go:113", after := #[{ on := 4, ground := Go.Ground.data }, { on := 3, ground := Go.Ground.chain }], guard := none }) rfl (fun K hK => ?_) (AllReadyH.cons (o := { dst := some 8, op := Go.Op.alloc 35, type := 0, pos := "law.go:113", after := #[], guard := none }) rfl (fun K hK => ?_) (AllReadyH.cons (o := { dst := some 9, op := Go.Op.alloc 35, type := 0, pos := "law.go:113", after := #[], guard := none }) rfl (fun K hK => ?_) AllReadyH.nil)))
        · go_simp
          refine (giveTx_any t S w1 (HA.out w1 (HW.out w1 M.out.below)).1 (HA.out w1 (HW.out w1 M.out.below)).2.1 (HA.out w1 (HW.out w1 M.out.below)).2.2 HN.out HKO.out).mono ?_
          rintro e w2 ⟨ia, ic, oa, oc, S', rfl, -, hb, hO⟩
          have M2 := M.out.giveR (TxIv.of (oc := oc) hO) rfl rfl hb
          refine hK.out _ _ (HS.out w2 M2.below) (fun _ => ?_)
          clear hK K
          try simp only [List.setIfInBounds_toArray, List.set_cons_zero, List.set_cons_succ]
          exact ofG _ _ _ _ (st3_100 A p q ⟨w1.heap.size, w2.heap.size, ia, ic, oa, oc, S'⟩ w2 M2)
        · refine step_allocTx rfl rfl ?_
          intro k w2 hk hl hb
          have M2 := M.out.newB hk hl hb
          refine hK.out _ _ (HS.out w2 M2.below) (fun _ => ?_)
          clear hK K
          try simp only [Act.put, List.setIfInBounds_toArray, List.set_cons_zero, List.set_cons_succ]
          exact ofG _ _ _ _ (st2_110 A k p q w2 M2)
        · refine step_allocTx rfl rfl ?_
          intro k w2 hk hl hb
          have M2 := M.out.newC hk hl hb
          refine hK.out _ _ (HS.out w2 M2.below) (fun _ => ?_)
          clear hK K
          try simp only [Act.put, List.setIfInBounds_toArray, List.set_cons_zero, List.set_cons_succ]
          exact ofG _ _ _ _ (st2_101 A k p q w2 M2)
      have st3_000 : ∀ (p q r : Gt) (w1 : World), SxW t v2 w1 none none none (some p) (some q) (some r) → G 6 #[true, true, true, true, true, true, false, false, false, false, false, false] { tmps := #[.agg (txv t.lk t.ia t.n t.ic t.oa t.m t.oc), .int .i64 kk, .slice sa sn sc, .pointer (some ⟨w.heap.size, 0, none⟩), undef, undef, .bool false, undef, undef, undef, .agg (txl t.lk t.ia t.n t.ic t.oa t.m t.oc).toArray, .bool false, .bool false, .slice sa sn sc, .int .i64 sn, .bool (decide ((1000 : Int) < sn)), .bool (decide ((1000 : Int) < sn)), undef, .agg (txl t.lk t.ia t.n t.ic t.oa t.m t.oc).toArray, .agg (txv t.lk p.ia t.n p.ic p.oa t.m p.oc), .agg (txl t.lk t.ia t.n t.ic t.oa t.m t.oc).toArray, .agg (txv t.lk q.ia t.n q.ic q.oa t.m q.oc), .agg (txl t.lk t.ia t.n t.ic t.oa t.m t.oc).toArray, .agg (txv t.lk r.ia t.n r.ic r.oa t.m r.oc), undef, undef, undef, undef, undef, undef, undef, undef, undef, undef, undef, undef, undef, undef, undef, undef, undef, undef, undef, undef, undef, undef, undef, undef, undef, undef, undef, undef, undef, undef, undef, undef, undef, undef, undef, undef, undef, undef], defers := [] } w1 := by
        intro p q r w1 M
        have M := hidV M
        refine toG _ _ _ _ ?_
        refine wpAnyH_ready (rs := [6, 7, 8]) (by kernel_rfl) (by simp) ?_
        refine (AllReadyH.cons (o := { dst := some 7, op := Go.Op.alloc 35, type := 0, pos := "law.go:113", after := #[], guard := none }) rfl (fun K hK => ?_) (AllReadyH.cons (o := { dst := some 8, op := Go.Op.alloc 35, type := 0, pos := "law.go:113", after := #[], guard := none }) rfl (fun K hK => ?_) (AllReadyH.cons (o := { dst := some 9, op := Go.Op.alloc 35, type := 0, pos := "law.go:113", after := #[], guard := none }) rfl (fun K hK => ?_) AllReadyH.nil)))
        · refine step_allocTx rfl rfl ?_
          intro k w2 hk hl hb
          have M2 := M.out.newA hk hl hb
          refine hK.out _ _ (HS.out w2 M2.below) (fun _ => ?_)
          clear hK K
          try simp only [Act.put, List.setIfInBounds_toArray, List.set_cons_zero, List.set_cons_succ]
          exact ofG _ _ _ _ (st3_100 k p q r w2 M2)
        · refine step_allocTx rfl rfl ?_
          intro k w2 hk hl hb
          have M2 := M.out.newB hk hl hb
          refine hK.out _ _ (HS.out w2 M2.below) (fun _ => ?_)
          clear hK K
          try simp only [Act.put, List.setIfInBounds_toArray, List.set_cons_zero, List.set_cons_succ]
          exact ofG _ _ _ _ (st3_010 k p q r w2 M2)
        · refine step_allocTx rfl rfl ?_
          intro k w2 hk hl hb
          have M2 := M.out.newC hk hl hb
          refine hK.out _ _ (HS.out w2 M2.below) (fun _ => ?_)
          clear hK K
          try simp only [Act.put, List.setIfInBounds_toArray, List.set_cons_zero, List.set_cons_succ]
          exact ofG _ _ _ _ (st3_001 k p q r w2 M2)
      have st0_011 : ∀ (B C : Nat) (w1 : World), SxW t v2 w1 none (some B) (some C) none none none → G 7 #[true, false, true, false, true, false, false, true, true, false, false, false] { tmps := #[.agg (txv t.lk t.ia t.n t.ic t.oa t.m t.oc), .int .i64 kk, .slice sa sn sc, .pointer (some ⟨w.heap.size, 0, none⟩), undef, undef, .bool false, undef, .pointer (some ⟨B, 0, none⟩), .pointer (some ⟨C, 0, none⟩), .agg (txl t.lk t.ia t.n t.ic t.oa t.m t.oc).toArray, .bool false, .bool false, .slice sa sn sc, .int .i64 sn, .bool (decide ((1000 : Int) < sn)), .bool (decide ((1000 : Int) < sn)), undef, .agg (txl t.lk t.ia t.n t.ic t.oa t.m t.oc).toArray, undef, .agg (txl t.lk t.ia t.n t.ic t.oa t.m t.oc).toArray, undef, .agg (txl t.lk t.ia t.n t.ic t.oa t.m t.oc).toArray, undef, undef, undef, undef, undef, undef, undef, undef, undef, undef, undef, undef, undef, undef, undef, undef, undef, undef, undef, undef, undef, undef, undef, undef, undef, undef, undef, undef, undef, undef, undef, undef, undef, undef, undef, undef, undef, undef, undef], defers := [] } w1 := by
        intro B C w1 M
        have M := hidV M
        refine toG _ _ _ _ ?_
        refine wpAnyH_ready (rs := [1, 6]) (by kernel_rfl) (by simp) ?_
        refine (AllReadyH.cons (o := { dst := some 19, op := Go.Op.call { callee := Go.Callee.value (Go.Operand.func 9), args := #[Go.Operand.tmp 18], argTypes := #[25] }, type := 35, pos := "law.go:113", after := #[{ on := 0, ground := Go.Ground.data }], guard := none }) rfl (fun K hK => ?_) (AllReadyH.cons (o := { dst := some 7, op := Go.Op.alloc 35, type := 0, pos := "law.go:113", after := #[], guard := none }) rfl (fun K hK => ?_) AllReadyH.nil))
        · go_simp
          refine (giveTx_any t S w1 (HA.out w1 (HW.out w1 M.out.below)).1 (HA.out w1 (HW.out w1 M.out.below)).2.1 (HA.out w1 (HW.out w1 M.out.below)).2.2 HN.out HKO.out).mono ?_
          rintro e w2 ⟨ia, ic, oa, oc, S', rfl, -, hb, hO⟩
          have M2 := M.out.giveP (TxIv.of (oc := oc) hO) rfl rfl hb
          refine hK.out _ _ (HS.out w2 M2.below) (fun _ => ?_)
          clear hK K
          try simp only [List.setIfInBounds_toArray, List.set_cons_zero, List.set_cons_succ]
          exact ofG _ _ _ _ (st1_011 B C ⟨w1.heap.size, w2.heap.size, ia, ic, oa, oc, S'⟩ w2 M2)
        · refine step_allocTx rfl rfl ?_
          intro k w2 hk hl hb
          have M2 := M.out.newA hk hl hb
          refine hK.out _ _ (HS.out w2 M2.below) (fun _ => ?_)
          clear hK K
          try simp only [Act.put, List.setIfInBounds_toArray, List.set_cons_zero, List.set_cons_succ]
          exact ofG _ _ _ _ (st0_111 k B C w2 M2)
      have st0_101 : ∀ (A C : Nat) (w1 : World), SxW t v2 w1 (some A) none (some C) none none none → G 7 #[true, false, true, false, true, false, true, false, true, false, false, false] { tmps := #[.agg (txv t.lk t.ia t.n t.ic t.oa t.m t.oc), .int .i64 kk, .slice sa sn sc, .pointer (some ⟨w.heap.size, 0, none⟩), undef, undef, .bool false, .pointer (some ⟨A, 0, none⟩), undef, .pointer (some ⟨C, 0, none⟩), .agg (txl t.lk t.ia t.n t.ic t.oa t.m t.oc).toArray, .bool false, .bool false, .slice sa sn sc, .int .i64 sn, .bool (decide ((1000 : Int) < sn)), .bool (decide ((1000 : Int) < sn)), undef, .agg (txl t.lk t.ia t.n t.ic t.oa t.m t.oc).toArray, undef, .agg (txl t.lk t.ia t.n t.ic t.oa t.m t.oc).toArray, undef, .agg (txl t.lk t.ia t.n t.ic t.oa t.m t.oc).toArray, undef, undef, undef, undef, undef, undef, undef, undef, undef, undef, undef, undef, undef, undef, undef, undef, undef, undef, undef, undef, undef, undef, undef, undef, undef, undef, undef, undef, undef, undef, undef, undef, undef, undef, undef, undef, undef, undef, undef], defers := [] } w1 := by
        intro A C w1 M
        have M := hidV M
        refine toG _ _ _ _ ?_
        refine wpAnyH_ready (rs := [1, 7]) (by kernel_rfl) (by simp) ?_
        refine (AllReadyH.cons (o := { dst := some 19, op := Go.Op.call { callee := Go.Callee.value (Go.Operand.func 9), args := #[Go.Operand.tmp 18], argTypes := #[25] }, type := 35, pos := "law.go:113", after := #[{ on := 0, ground := Go.Ground.data }], guard := none }) rfl (fun K hK => ?_) (AllReadyH.cons (o := { dst := some 8, op := Go.Op.alloc 35, type := 0, pos := "law.go:113", after := #[], guard := none }) rfl (fun K hK => ?_) AllReadyH.nil))
        · go_simp
          refine (giveTx_any t S w1 (HA.out w1 (HW.out w1 M.out.below)).1 (HA.out w1 (HW.out w1 M.out.below)).2.1 (HA.out w1 (HW.out w1 M.out.below)).2.2 HN.out HKO.out).mono ?_
          rintro e w2 ⟨ia, ic, oa, oc, S', rfl, -, hb, hO⟩
          have M2 := M.out.giveP (TxIv.of (oc := oc) hO) rfl rfl hb
          refine hK.out _ _ (HS.out w2 M2.below) (fun _ => ?_)
          clear hK K
          try simp only [List.setIfInBounds_toArray, List.set_cons_zero, List.set_cons_succ]
          exact ofG _ _ _ _ (st1_101 A C ⟨w1.heap.size, w2.heap.size, ia, ic, oa, oc, S'⟩ w2 M2)
        · refine step_allocTx rfl rfl ?_
          intro k w2 hk hl hb
          have M2 := M.out.newB hk hl hb
          refine hK.out _ _ (HS.out w2 M2.below) (fun _ => ?_)
          clear hK K
          try simp only [Act.put, List.setIfInBounds_toArray, List.set_cons_zero, List.set_cons_succ]
          exact ofG _ _ _ _ (st0_111 A k C w2 M2)
      have st0_110 : ∀ (A B : Nat) (w1 : World), SxW t v2 w1 (some A) (some B) none none none none → G 7 #[true, false, true, false, true, false, true, true, false, false, false, false] { tmps := #[.agg (txv t.lk t.ia t.n t.ic t.oa t.m t.oc), .int .i64 kk, .slice sa sn sc, .pointer (some ⟨w.heap.size, 0, none⟩), undef, undef, .bool false, .pointer (some ⟨A, 0, none⟩), .pointer (some ⟨B, 0, none⟩), undef, .agg (txl t.lk t.ia t.n t.ic t.oa t.m t.oc).toArray, .bool false, .bool false, .slice sa sn sc, .int .i64 sn, .bool (decide ((1000 : Int) < sn)), .bool (decide ((1000 : Int) < sn)), undef, .agg (txl t.lk t.ia t.n t.ic t.oa t.m t.oc).toArray, undef, .agg (txl t.lk t.ia t.n t.ic t.oa t.m t.oc).toArray, undef, .agg (txl t.lk t.ia t.n t.ic t.oa t.m t.oc).toArray, undef, undef, undef, undef, undef, undef, undef, undef, undef, undef, undef, undef, undef, undef, undef, undef, undef, undef, undef, undef, undef, undef, undef, undef, undef, undef, undef, undef, undef, undef, undef, undef, undef, undef, undef, undef, undef, undef, undef], defers := [] } w1 := by
        intro A B w1 M
        have M := hidV M
        refine toG _ _ _ _ ?_
        refine wpAnyH_ready (rs := [1, 8]) (by kernel_rfl) (by simp) ?_
        refine (AllReadyH.cons (o := { dst := some 19, op := Go.Op.call { callee := Go.Callee.value (Go.Operand.func 9), args := #[Go.Operand.tmp 18], argTypes := #[25] }, type := 35, pos := "law.go:113", after := #[{ on := 0, ground := Go.Ground.data }], guard := none }) rfl (fun K hK => ?_) (AllReadyH.cons (o := { dst := some 9, op := Go.Op.alloc 35, type := 0, pos := "law.go:113", after := #[], guard := none }) rfl (fun K hK => ?_) AllReadyH.nil))
        · go_simp
          refine (giveTx_any t S w1 (HA.out w1 (HW.out w1 M.out.below)).1 (HA.out w1 (HW.out w1 M.out.below)).2.1 (HA.out w1 (HW.out w1 M.out.below)).2.2 HN.out HKO.out).mono ?_
          rintro e w2 ⟨ia, ic, oa, oc, S', rfl, -, hb, hO⟩
          have M2 := M.out.giveP (TxIv.of (oc := oc) hO) rfl rfl hb
          refine hK.out _ _ (HS.out w2 M2.below) (fun _ => ?_)
          clear hK K
          try simp only [List.setIfInBounds_toArray, List.set_cons_zero, List.set_cons_succ]
          exact ofG _ _ _ _ (st1_110 A B ⟨w1.heap.size, w2.heap.size, ia, ic, oa, oc, S'⟩ w2 M2)
        · refine step_allocTx rfl rfl ?_
          intro k w2 hk hl hb
          have M2 := M.out.newC hk hl hb
          refine hK.out _ _ (HS.out w2 M2.below) (fun _ => ?_)
          clear hK K
          try simp only [Act.put, List.setIfInBounds_toArray, List.set_cons_zero, List.set_cons_succ]
          exact ofG _ _ _ _ (st0_111 A B k w2 M2)
      have st1_001 : ∀ (C : Nat) (p : Gt) (w1 : World), SxW t v2 w1 none none (some C) (some p) none none → G 7 #[true, true, true, false, true, false, false, false, true, false, false, false] { tmps := #[.agg (txv t.lk t.ia t.n t.ic t.oa t.m t.oc), .int .i64 kk, .slice sa sn sc, .pointer (some ⟨w.heap.size, 0, none⟩), undef, undef, .bool false, undef, undef, .pointer (some ⟨C, 0, none⟩), .agg (txl t.lk t.ia t.n t.ic t.oa t.m t.oc).toArray, .bool false, .bool false, .slice sa sn sc, .int .i64 sn, .bool (decide ((1000 : Int) < sn)), .bool (decide ((1000 : Int) < sn)), undef, .agg (txl t.lk t.ia t.n t.ic t.oa t.m t.oc).toArray, .agg (txv t.lk p.ia t.n p.ic p.oa t.m p.oc), .agg (txl t.lk t.ia t.n t.ic t.oa t.m t.oc).toArray, undef, .agg (txl t.lk t.ia t.n t.ic t.oa t.m t.oc).toArray, undef, undef, undef, undef, undef, undef, undef, undef, undef, undef, undef, undef, undef, undef, undef, undef, undef, undef, undef, undef, undef, undef, undef, undef, undef, undef, undef, undef, undef, undef, undef, undef, undef, undef, undef, undef, undef, undef, undef], defers := [] } w1 := by
        intro C p w1 M
        have M := hidV M
        refine toG _ _ _ _ ?_
        refine wpAnyH_ready (rs := [3, 6, 7]) (by kernel_rfl) (by simp) ?_
        refine (AllReadyH.cons (o := { dst := some 21, op := Go.Op.call { callee := Go.Callee.value (Go.Operand.func 9), args := #[Go.Operand.tmp 20], argTypes := #[25] }, type := 35, pos := "law.go:113", after := #[{ on := 2, ground := Go.Ground.data }, { on := 1, ground := Go.Ground.chain }], guard := none }) rfl (fun K hK => ?_) (AllReadyH.cons (o := { dst := some 7, op := Go.Op.alloc 35, type := 0, pos := "law.go:113", after := #[], guard := none }) rfl (fun K hK => ?_) (AllReadyH.cons (o := { dst := some 8, op := Go.Op.alloc 35, type := 0, pos := "law.go:113", after := #[], guard := none }) rfl (fun K hK => ?_) AllReadyH.nil)))
        · go_simp
          refine (giveTx_any t S w1 (HA.out w1 (HW.out w1 M.out.below)).1 (HA.out w1 (HW.out w1 M.out.below)).2.1 (HA.out w1 (HW.out w1 M.out.below)).2.2 HN.out HKO.out).mono ?_
          rintro e w2 ⟨ia, ic, oa, oc, S', rfl, -, hb, hO⟩
          have M2 := M.out.giveQ (TxIv.of (oc := oc) hO) rfl rfl hb
          refine hK.out _ _ (HS.out w2 M2.below) (fun _ => ?_)
          clear hK K
          try simp only [List.setIfInBounds_toArray, List.set_cons_zero, List.set_cons_succ]
          exact ofG _ _ _ _ (st2_001 C p ⟨w1.heap.size, w2.heap.size, ia, ic, oa, oc, S'⟩ w2 M2)
        · refine step_allocTx rfl rfl ?_
          intro k w2 hk hl hb
          have M2 := M.out.newA hk hl hb
          refine hK.out _ _ (HS.out w2 M2.below) (fun _ => ?_)
          clear hK K
          try simp only [Act.put, List.setIfInBounds_toArray, List.set_cons_zero, List.set_cons_succ]
          exact ofG _ _ _ _ (st1_101 k C p w2 M2)
        · refine step_allocTx rfl rfl ?_
          intro k w2 hk hl hb
          have M2 := M.out.newB hk hl hb
          refine hK.out _ _ (HS.out w2 M2.below) (fun _ => ?_)
          clear hK K
          try simp only [Act.put, List.setIfInBounds_toArray, List.set_cons_zero, List.set_cons_succ]
          exact ofG _ _ _ _ (st1_011 k C p w2 M2)
      have st1_010 : ∀ (B : Nat) (p : Gt) (w1 : World), SxW t v2 w1 none (some B) none (some p) none none → G 7 #[true, true, true, false, true, false, false, true, false, false, false, false] { tmps := #[.agg (txv t.lk t.ia t.n t.ic t.oa t.m t.oc), .int .i64 kk, .slice sa sn sc, .pointer (some ⟨w.heap.size, 0, none⟩), undef, undef, .bool false, undef, .pointer (some ⟨B, 0, none⟩), undef, .agg (txl t.lk t.ia t.n t.ic t.oa t.m t.oc).toArray, .bool false, .bool false, .slice sa sn sc, .int .i64 sn, .bool (decide ((1000 : Int) < sn)), .bool (decide ((1000 : Int) < sn)), undef, .agg (txl t.lk t.ia t.n t.ic t.oa t.m t.oc).toArray, .agg (txv t.lk p.ia t.n p.ic p.oa t.m p.oc), .agg (txl t.lk t.ia t.n t.ic t.oa t.m t.oc).toArray, undef, .agg (txl t.lk t.ia t.n t.ic t.oa t.m t.oc).toArray, undef, undef, undef, undef, undef, undef, undef, undef, undef, undef, undef, undef, undef, undef, undef, undef, undef, undef, undef, undef, undef, undef, undef, undef, undef, undef, undef, undef, undef, undef, undef, undef, undef, undef, undef, undef, undef, undef, undef], defers := [] } w1 := by
        intro B p w1 M
        have M := hidV M
        refine toG _ _ _ _ ?_
        refine wpAnyH_ready (rs := [3, 6, 8]) (by kernel_rfl) (by simp) ?_
        refine (AllReadyH.cons (o := { dst := some 21, op := Go.Op.call { callee := Go.Callee.value (Go.Operand.func 9), args := #[Go.Operand.tmp 20], argTypes := #[25] }, type := 35, pos := "law.go:113", after := #[{ on := 2, ground := Go.Ground.data }, { on := 1, ground := Go.Ground.chain }], guard := none }) rfl (fun K hK => ?_) (AllReadyH.cons (o := { dst := some 7, op := Go.Op.alloc 35, type := 0, pos := "law.go:113", after := #[], guard := none }) rfl (fun K hK => ?_) (AllReadyH.cons (o := { dst := some 9, op := Go.Op.alloc 35, type := 0, pos := "law.go:113", after := #[], guard := none }) rfl (fun K hK => ?_) AllReadyH.nil)))
        · go_simp
          refine (giveTx_any t S w1 (HA.out w1 (HW.out w1 M.out.below)).1 (HA.out w1 (HW.out w1 M.out.below)).2.1 (HA.out w1 (HW.out w1 M.out.below)).2.2 HN.out HKO.out).mono ?_
          rintro e w2 ⟨ia, ic, oa, oc, S', rfl, -, hb, hO⟩
          have M2 := M.out.giveQ (TxIv.of (oc := oc) hO) rfl rfl hb
          refine hK.out _ _ (HS.out w2 M2.below) (fun _ => ?_)
          clear hK K
          try simp only [List.setIfInBounds_toArray, List.set_cons_zero, List.set_cons_succ]
          exact ofG _ _ _ _ (st2_010 B p ⟨w1.heap.size, w2.heap.size, ia, ic, oa, oc, S'⟩ w2 M2)
        · refine step_allocTx rfl rfl ?_
          intro k w2 hk hl hb
          have M2 := M.out.newA hk hl hb
          refine hK.out _ _ (HS.out w2 M2.below) (fun _ => ?_)
          clear hK K
          try simp only [Act.put, List.setIfInBounds_toArray, List.set_cons_zero, List.set_cons_succ]
          exact ofG _ _ _ _ (st1_110 k B p w2 M2)
        · refine step_allocTx rfl rfl ?_
          intro k w2 hk hl hb
          have M2 := M.out.newC hk hl hb
          refine hK.out _ _ (HS.out w2 M2.below) (fun _ => ?_)
          clear hK K
          try simp only [Act.put, List.setIfInBounds_toArray, List.set_cons_zero, List.set_cons_succ]
          exact ofG _ _ _ _ (st1_011 B k p w2 M2)
      have st1_100 : ∀ (A : Nat) (p : Gt) (w1 : World), SxW t v2 w1 (some A) none none (some p) none none → G 7 #[true, true, true, false, true, false, true, false, false, false, false, false] { tmps := #[.agg (txv t.lk t.ia t.n t.ic t.oa t.m t.oc), .int .i64 kk, .slice sa sn sc, .pointer (some ⟨w.heap.size, 0, none⟩), undef, undef, .bool false, .pointer (some ⟨A, 0, none⟩), undef, undef, .agg (txl t.lk t.ia t.n t.ic t.oa t.m t.oc).toArray, .bool false, .bool false, .slice sa sn sc, .int .i64 sn, .bool (decide ((1000 : Int) < sn)), .bool (decide ((1000 : Int) < sn)), undef, .agg (txl t.lk t.ia t.n t.ic t.oa t.m t.oc).toArray, .agg (txv t.lk p.ia t.n p.ic p.oa t.m p.oc), .agg (txl t.lk t.ia t.n t.ic t.oa t.m t.oc).toArray, undef, .agg (txl t.lk t.ia t.n t.ic t.oa t.m t.oc).toArray, undef, undef, undef, undef, undef, undef, undef, undef, undef, undef, undef, undef, undef, undef, undef, undef, undef, undef, undef, undef, undef, undef, undef, undef, undef, undef, undef, undef, undef, undef, undef, undef, undef, undef, undef, undef, undef, undef, undef], defers := [] } w1 := by
        intro A p w1 M
        have M := hidV M
        refine toG _ _ _ _ ?_
        refine wpAnyH_ready (rs := [3, 7, 8]) (by kernel_rfl) (by simp) ?_
        refine (AllReadyH.cons (o := { dst := some 21, op := Go.Op.call { callee := Go.Callee.value (Go.Operand.func 9), args := #[Go.Operand.tmp 20], argTypes := #[25] }, type := 35, pos := "law.go:113", after := #[{ on := 2, ground := Go.Ground.data }, { on := 1, ground := Go.Ground.chain }], guard := none }) rfl (fun K hK => ?_) (AllReadyH.cons (o := { dst := some 8, op := Go.Op.alloc 35, type := 0, pos := "law.go:113", after := #[], guard := none }) rfl (fun K hK => ?_) (AllReadyH.cons (o := { dst := some 9, op := Go.Op.alloc 35, type := 0, pos := "law.go:113", after := #[], guard := none }) rfl (fun K hK => ?_) AllReadyH.nil)))
        · go_simp
          refine (giveTx_any t S w1 (HA.out w1 (HW.out w1 M.out.below)).1 (HA.out w1 (HW.out w1 M.out.below)).2.1 (HA.out w1 (HW.out w1 M.out.below)).2.2 HN.out HKO.out).mono ?_
          rintro e w2 ⟨ia, ic, oa, oc, S', rfl, -, hb, hO⟩
          have M2 := M.out.giveQ (TxIv.of (oc := oc) hO) rfl rfl hb
          refine hK.out _ _ (HS.out w2 M2.below) (fun _ => ?_)
          clear hK K
          try simp only [List.setIfInBounds_toArray, List.set_cons_zero, List.set_cons_succ]
          exact ofG _ _ _ _ (st2_100 A p ⟨w1.heap.size, w2.heap.size, ia, ic, oa, oc, S'⟩ w2 M2)
        · refine step_allocTx rfl rfl ?_
          intro k w2 hk hl hb
          have M2 := M.out.newB hk hl hb
          refine hK.out _ _ (HS.out w2 M2.below) (fun _ => ?_)
          clear hK K
          try simp only [Act.put, List.setIfInBounds_toArray, List.set_cons_zero, List.set_cons_succ]
          exact ofG _ _ _ _ (st1_110 A k p w2 M2)
        · refine step_allocTx rfl rfl ?_
          intro k w2 hk hl hb
          have M2 := M.out.newC hk hl hb
          refine hK.out _ _ (HS.out w2 M2.below) (fun _ => ?_)
          clear hK K
          try simp only [Act.put, List.setIfInBounds_toArray, List.set_cons_zero, List.set_cons_succ]
          exact ofG _ _ _ _ (st1_101 A k p w2 M2)
      have st2_000 : ∀ (p q : Gt) (w1 : World), SxW t v2 w1 none none none (some p) (some q) none → G 7 #[true, true, true, true, true, false, false, false, false, false, false, false] { tmps := #[.agg (txv t.lk t.ia t.n t.ic t.oa t.m t.oc), .int .i64 kk, .slice sa sn sc, .pointer (some ⟨w.heap.size, 0, none⟩), undef, undef, .bool false, undef, undef, undef, .agg (txl t.lk t.ia t.n t.ic t.oa t.m t.oc).toArray, .bool false, .bool false, .slice sa sn sc, .int .i64 sn, .bool (decide ((1000 : Int) < sn)), .bool (decide ((1000 : Int) < sn)), undef, .agg (txl t.lk t.ia t.n t.ic t.oa t.m t.oc).toArray, .agg (txv t.lk p.ia t.n p.ic p.oa t.m p.oc), .agg (txl t.lk t.ia t.n t.ic t.oa t.m t.oc).toArray, .agg (txv t.lk q.ia t.n q.ic q.oa t.m q.oc), .agg (txl t.lk t.ia t.n t.ic t.oa t.m t.oc).toArray, undef, undef, undef, undef, undef, undef, undef, undef, undef, undef, undef, undef, undef, undef, undef, undef, undef, undef, undef, undef, undef, undef, undef, undef, undef, undef, undef, undef, undef, undef, undef, undef, undef, undef, undef, undef, undef, undef, undef], defers := [] } w1 := by
        intro p q w1 M
        have M := hidV M
        refine toG _ _ _ _ ?_
        refine wpAnyH_ready (rs := [5, 6, 7, 8]) (by kernel_rfl) (by simp) ?_
        refine (AllReadyH.cons (o := { dst := some 23, op := Go.Op.call { callee := Go.Callee.value (Go.Operand.func 9), args := #[Go.Operand.tmp 22], argTypes := #[25] }, type := 35, pos := "law.go:113", after := #[{ on := 4, ground := Go.Ground.data }, { on := 3, ground := Go.Ground.chain }], guard := none }) rfl (fun K hK => ?_) (AllReadyH.cons (o := { dst := some 7, op := Go.Op.alloc 35, type := 0, pos := "law.go:113", after := #[], guard := none }) rfl (fun K hK => ?_) (AllReadyH.cons (o := { dst := some 8, op := Go.Op.alloc 35, type := 0, pos := "law.go:113", after := #[], guard := none }) rfl (fun K hK => ?_) (AllReadyH.cons (o := { dst := some 9, op := Go.Op.alloc 35, type := 0, pos := "law.go:113", after := #[], guard := none }) rfl (fun K hK => ?_) AllReadyH.nil))))
        · go_simp
          refine (giveTx_any t S w1 (HA.out w1 (HW.out w1 M.out.below)).1 (HA.out w1 (HW.out w1 M.out.below)).2.1 (HA.out w1 (HW.out w1 M.out.below)).2.2 HN.out HKO.out).mono ?_
          rintro e w2 ⟨ia, ic, oa, oc, S', rfl, -, hb, hO⟩
          have M2 := M.out.giveR (TxIv.of (oc := oc) hO) rfl rfl hb
          refine hK.out _ _ (HS.out w2 M2.below) (fun _ => ?_)
          clear hK K
          try simp only [List.setIfInBounds_toArray, List.set_cons_zero, List.set_cons_succ]
          exact ofG _ _ _ _ (st3_000 p q ⟨w1.heap.size, w2.heap.size, ia, ic, oa, oc, S'⟩ w2 M2)
        · refine step_allocTx rfl rfl ?_
          intro k w2 hk hl hb
          have M2 := M.out.newA hk hl hb
          refine hK.out _ _ (HS.out w2 M2.below) (fun _ => ?_)
          clear hK K
          try simp only [Act.put, List.setIfInBounds_toArray, List.set_cons_zero, List.set_cons_succ]
          exact ofG _ _ _ _ (st2_100 k p q w2 M2)
        · refine step_allocTx rfl rfl ?_
          intro k w2 hk hl hb
          have M2 := M.out.newB hk hl hb
          refine hK.out _ _ (HS.out w2 M2.below) (fun _ => ?_)
          clear hK K
          try simp only [Act.put, List.setIfInBounds_toArray, List.set_cons_zero, List.set_cons_succ]
          exact ofG _ _ _ _ (st2_010 k p q w2 M2)
        · refine step_allocTx rfl rfl ?_
          intro k w2 hk hl hb
          have M2 := M.out.newC hk hl hb
          refine hK.out _ _ (HS.out w2 M2.below) (fun _ => ?_)
          clear hK K
          try simp only [Act.put, List.setIfInBounds_toArray, List.set_cons_zero, List.set_cons_succ]
          exact ofG _ _ _ _ (st2_001 k p q w2 M2)
      have st0_001 : ∀ (C : Nat) (w1 : World), SxW t v2 w1 none none (some C) none none none → G 8 #[true, false, true, false, true, false, false, false, true, false, false, false] { tmps := #[.agg (txv t.lk t.ia t.n t.ic t.oa t.m t.oc), .int .i64 kk, .slice sa sn sc, .pointer (some ⟨w.heap.size, 0, none⟩), undef, undef, .bool false, undef, undef, .pointer (some ⟨C, 0, none⟩), .agg (txl t.lk t.ia t.n t.ic t.oa t.m t.oc).toArray, .bool false, .bool false, .slice sa sn sc, .int .i64 sn, .bool (decide ((1000 : Int) < sn)), .bool (decide ((1000 : Int) < sn)), undef, .agg (txl t.lk t.ia t.n t.ic t.oa t.m t.oc).toArray, undef, .agg (txl t.lk t.ia t.n t.ic t.oa t.m t.oc).toArray, undef, .agg (txl t.lk t.ia t.n t.ic t.oa t.m t.oc).toArray, undef, undef, undef, undef, undef, undef, undef, undef, undef, undef, undef, undef, undef, undef, undef, undef, undef, undef, undef, undef, undef, undef, undef, undef, undef, undef, undef, undef, undef, undef, undef, undef, undef, undef, undef, undef, undef, undef, undef], defers := [] } w1 := by
        intro C w1 M
        have M := hidV M
        refine toG _ _ _ _ ?_
        refine wpAnyH_ready (rs := [1, 6, 7]) (by kernel_rfl) (by simp) ?_
        refine (AllReadyH.cons (o := { dst := some 19, op := Go.Op.call { callee := Go.Callee.value (Go.Operand.func 9), args := #[Go.Operand.tmp 18], argTypes := #[25] }, type := 35, pos := "law.go:113", after := #[{ on := 0, ground := Go.Ground.data }], guard := none }) rfl (fun K hK => ?_) (AllReadyH.cons (o := { dst := some 7, op := Go.Op.alloc 35, type := 0, pos := "law.go:113", after := #[], guard := none }) rfl (fun K hK => ?_) (AllReadyH.cons (o := { dst := some 8, op := Go.Op.alloc 35, type := 0, pos := "law.go:113", after := #[], guard := none }) rfl (fun K hK => ?_) AllReadyH.nil)))
        · go_simp
          refine (giveTx_any t S w1 (HA.out w1 (HW.out w1 M.out.below)).1 (HA.out w1 (HW.out w1 M.out.below)).2.1 (HA.out w1 (HW.out w1 M.out.below)).2.2 HN.out HKO.out).mono ?_
          rintro e w2 ⟨ia, ic, oa, oc, S', rfl, -, hb, hO⟩
          have M2 := M.out.giveP (TxIv.of (oc := oc) hO) rfl rfl hb
          refine hK.out _ _ (HS.out w2 M2.below) (fun _ => ?_)
          clear hK K
          try simp only [List.setIfInBounds_toArray, List.set_cons_zero, List.set_cons_succ]
          exact ofG _ _ _ _ (st1_001 C ⟨w1.heap.size, w2.heap.size, ia, ic, oa, oc, S'⟩ w2 M2)
        · refine step_allocTx rfl rfl ?_
          intro k w2 hk hl hb
          have M2 := M.out.newA hk hl hb
          refine hK.out _ _ (HS.out w2 M2.below) (fun _ => ?_)
          clear hK K
          try simp only [Act.put, List.setIfInBounds_toArray, List.set_cons_zero, List.set_cons_succ]
          exact ofG _ _ _ _ (st0_101 k C w2 M2)
        · refine step_allocTx rfl rfl ?_
          intro k w2 hk hl hb
          have M2 := M.out.newB hk hl hb
          refine hK.out _ _ (HS.out w2 M2.below) (fun _ => ?_)
          clear hK K
          try simp only [Act.put, List.setIfInBounds_toArray, List.set_cons_zero, List.set_cons_succ]
          exact ofG _ _ _ _ (st0_011 k C w2 M2)
      have st0_010 : ∀ (B : Nat) (w1 : World), SxW t v2 w1 none (some B) none none none none → G 8 #[true, false, true, false, true, false, false, true, false, false, false, false] { tmps := #[.agg (txv t.lk t.ia t.n t.ic t.oa t.m t.oc), .int .i64 kk, .slice sa sn sc, .pointer (some ⟨w.heap.size, 0, none⟩), undef, undef, .bool false, undef, .pointer (some ⟨B, 0, none⟩), undef, .agg (txl t.lk t.ia t.n t.ic t.oa t.m t.oc).toArray, .bool false, .bool false, .slice sa sn sc, .int .i64 sn, .bool (decide ((1000 : Int) < sn)), .bool (decide ((1000 : Int) < sn)), undef, .agg (txl t.lk t.ia t.n t.ic t.oa t.m t.oc).toArray, undef, .agg (txl t.lk t.ia t.n t.ic t.oa t.m t.oc).toArray, undef, .agg (txl t.lk t.ia t.n t.ic t.oa t.m t.oc).toArray, undef, undef, undef, undef, undef, undef, undef, undef, undef, undef, undef, undef, undef, undef, undef, undef, undef, undef, undef, undef, undef, undef, undef, undef, undef, undef, undef, undef, undef, undef, undef, undef, undef, undef, undef, undef, undef, undef, undef], defers := [] } w1 := by
        intro B w1 M
        have M := hidV M
        refine toG _ _ _ _ ?_
        refine wpAnyH_ready (rs := [1, 6, 8]) (by kernel_rfl) (by simp) ?_
        refine (AllReadyH.cons (o := { dst := some 19, op := Go.Op.call { callee := Go.Callee.value (Go.Operand.func 9), args := #[Go.Operand.tmp 18], argTypes := #[25] }, type := 35, pos := "law.go:113", after := #[{ on := 0, ground := Go.Ground.data }], guard := none }) rfl (fun K hK => ?_) (AllReadyH.cons (o := { dst := some 7, op := Go.Op.alloc 35, type := 0, pos := "law.go:113", after := #[], guard := none }) rfl (fun K hK => ?_) (AllReadyH.cons (o := { dst := some 9, op := Go.Op.alloc 35, type := 0, pos := "law.go:113", after := #[], guard := none }) rfl (fun K hK => ?_) AllReadyH.nil)))
        · go_simp
          refine (giveTx_any t S w1 (HA.out w1 (HW.out w1 M.out.below)).1 (HA.out w1 (HW.out w1 M.out.below)).2.1 (HA.out w1 (HW.out w1 M.out.below)).2.2 HN.out HKO.out).mono ?_
          rintro e w2 ⟨ia, ic, oa, oc, S', rfl, -, hb, hO⟩
          have M2 := M.out.giveP (TxIv.of (oc := oc) hO) rfl rfl hb
          refine hK.out _ _ (HS.out w2 M2.below) (fun _ => ?_)
          clear hK K
          try simp only [List.setIfInBounds_toArray, List.set_cons_zero, List.set_cons_succ]
          exact ofG _ _ _ _ (st1_010 B ⟨w1.heap.size, w2.heap.size, ia, ic, oa, oc, S'⟩ w2 M2)
        · refine step_allocTx rfl rfl ?_
          intro k w2 hk hl hb
          have M2 := M.out.newA hk hl hb
          refine hK.out _ _ (HS.out w2 M2.below) (fun _ => ?_)
          clear hK K
          try simp only [Act.put, List.setIfInBounds_toArray, List.set_cons_zero, List.set_cons_succ]
          exact ofG _ _ _ _ (st0_110 k B w2 M2)
        · refine step_allocTx rfl rfl ?_
          intro k w2 hk hl hb
          have M2 := M.out.newC hk hl hb
          refine hK.out _ _ (HS.out w2 M2.below) (fun _ => ?_)
          clear hK K
          try simp only [Act.put, List.setIfInBounds_toArray, List.set_cons_zero, List.set_cons_succ]
          exact ofG _ _ _ _ (st0_011 B k w2 M2)
      have st0_100 : ∀ (A : Nat) (w1 : World), SxW t v2 w1 (some A) none none none none none → G 8 #[true, false, true, false, true, false, true, false, false, false, false, false] { tmps := #[.agg (txv t.lk t.ia t.n t.ic t.oa t.m t.oc), .int .i64 kk, .slice sa sn sc, .pointer (some ⟨w.heap.size, 0, none⟩), undef, undef, .bool false, .pointer (some ⟨A, 0, none⟩), undef, undef, .agg (txl t.lk t.ia t.n t.ic t.oa t.m t.oc).toArray, .bool false, .bool false, .slice sa sn sc, .int .i64 sn, .bool (decide ((1000 : Int) < sn)), .bool (decide ((1000 : Int) < sn)), undef, .agg (txl t.lk t.ia t.n t.ic t.oa t.m t.oc).toArray, undef, .agg (txl t.lk t.ia t.n t.ic t.oa t.m t.oc).toArray, undef, .agg (txl t.lk t.ia t.n t.ic t.oa t.m t.oc).toArray, undef, undef, undef, undef, undef, undef, undef, undef, undef, undef, undef, undef, undef, undef, undef, undef, undef, undef, undef, undef, undef, undef, undef, undef, undef, undef, undef, undef, undef, undef, undef, undef, undef, undef, undef, undef, undef, undef, undef], defers := [] } w1 := by
        intro A w1 M
        have M := hidV M
        refine toG _ _ _ _ ?_
        refine wpAnyH_ready (rs := [1, 7, 8]) (by kernel_rfl) (by simp) ?_
        refine (AllReadyH.cons (o := { dst := some 19, op := Go.Op.call { callee := Go.Callee.value (Go.Operand.func 9), args := #[Go.Operand.tmp 18], argTypes := #[25] }, type := 35, pos := "law.go:113", after := #[{ on := 0, ground := Go.Ground.data }], guard := none }) rfl (fun K hK => ?_) (AllReadyH.cons (o := { dst := some 8, op := Go.Op.alloc 35, type := 0, pos := "law.go:113", after := #[], guard := none }) rfl (fun K hK => ?_) (AllReadyH.cons (o := { dst := some 9, op := Go.Op.alloc 35, type := 0, pos := "law.go:113", after := #[], guard := none }) rfl (fun K hK => ?_) AllReadyH.nil)))
        · go_simp
          refine (giveTx_any t S w1 (HA.out w1 (HW.out w1 M.out.below)).1 (HA.out w1 (HW.out w1 M.out.below)).2.1 (HA.out w1 (HW.out w1 M.out.below)).2.2 HN.out HKO.out).mono ?_
          rintro e w2 ⟨ia, ic, oa, oc, S', rfl, -, hb, hO⟩
          have M2 := M.out.giveP (TxIv.of (oc := oc) hO) rfl rfl hb
          refine hK.out _ _ (HS.out w2 M2.below) (fun _ => ?_)
          clear hK K
          try simp only [List.setIfInBounds_toArray, List.set_cons_zero, List.set_cons_succ]
          exact ofG _ _ _ _ (st1_100 A ⟨w1.heap.size, w2.heap.size, ia, ic, oa, oc, S'⟩ w2 M2)
        · refine step_allocTx rfl rfl ?_
          intro k w2 hk hl hb
          have M2 := M.out.newB hk hl hb
          refine hK.out _ _ (HS.out w2 M2.below) (fun _ => ?_)
          clear hK K
          try simp only [Act.put, List.setIfInBounds_toArray, List.set_cons_zero, List.set_cons_succ]
          exact ofG _ _ _ _ (st0_110 A k w2 M2)
        · refine step_allocTx rfl rfl ?_
          intro k w2 hk hl hb
          have M2 := M.out.newC hk hl hb
          refine hK.out _ _ (HS.out w2 M2.below) (fun _ => ?_)
          clear hK K
          try simp only [Act.put, List.setIfInBounds_toArray, List.set_cons_zero, List.set_cons_succ]
          exact ofG _ _ _ _ (st0_101 A k w2 M2)
      have st1_000 : ∀ (p : Gt) (w1 : World), SxW t v2 w1 none none none (some p) none none → G 8 #[true, true, true, false, true, false, false, false, false, false, false, false] { tmps := #[.agg (txv t.lk t.ia t.n t.ic t.oa t.m t.oc), .int .i64 kk, .slice sa sn sc, .pointer (some ⟨w.heap.size, 0, none⟩), undef, undef, .bool false, undef, undef, undef, .agg (txl t.lk t.ia t.n t.ic t.oa t.m t.oc).toArray, .bool false, .bool false, .slice sa sn sc, .int .i64 sn, .bool (decide ((1000 : Int) < sn)), .bool (decide ((1000 : Int) < sn)), undef, .agg (txl t.lk t.ia t.n t.ic t.oa t.m t.oc).toArray, .agg (txv t.lk p.ia t.n p.ic p.oa t.m p.oc), .agg (txl t.lk t.ia t.n t.ic t.oa t.m t.oc).toArray, undef, .agg (txl t.lk t.ia t.n t.ic t.oa t.m t.oc).toArray, undef, undef, undef, undef, undef, undef, undef, undef, undef, undef, undef, undef, undef, undef, undef, undef, undef, undef, undef, undef, undef, undef, undef, undef, undef, undef, undef, undef, undef, undef, undef, undef, undef, undef, undef, undef, undef, undef, undef], defers := [] } w1 := by
        intro p w1 M
        have M := hidV M
        refine toG _ _ _ _ ?_
        refine wpAnyH_ready (rs := [3, 6, 7, 8]) (by kernel_rfl) (by simp) ?_
        refine (AllReadyH.cons (o := { dst := some 21, op := Go.Op.call { callee := Go.Callee.value (Go.Operand.func 9), args := #[Go.Operand.tmp 20], argTypes := #[25] }, type := 35, pos := "law.go:113", after := #[{ on := 2, ground := Go.Ground.data }, { on := 1, ground := Go.Ground.chain }], guard := none }) rfl (fun K hK => ?_) (AllReadyH.cons (o := { dst := some 7, op := Go.Op.alloc 35, type := 0, pos := "law.go:113", after := #[], guard := none }) rfl (fun K hK => ?_) (AllReadyH.cons (o := { dst := some 8, op := Go.Op.alloc 35, type := 0, pos := "law.go:113", after := #[], guard := none }) rfl (fun K hK => ?_) (AllReadyH.cons (o := { dst := some 9, op := Go.Op.alloc 35, type := 0, pos := "law.go:113", after := #[], guard := none }) rfl (fun K hK => ?_) AllReadyH.nil))))
        · go_simp
          refine (giveTx_any t S w1 (HA.out w1 (HW.out w1 M.out.below)).1 (HA.out w1 (HW.out w1 M.out.below)).2.1 (HA.out w1 (HW.out w1 M.out.below)).2.2 HN.out HKO.out).mono ?_
          rintro e w2 ⟨ia, ic, oa, oc, S', rfl, -, hb, hO⟩
          have M2 := M.out.giveQ (TxIv.of (oc := oc) hO) rfl rfl hb
          refine hK.out _ _ (HS.out w2 M2.below) (fun _ => ?_)
          clear hK K
          try simp only [List.setIfInBounds_toArray, List.set_cons_zero, List.set_cons_succ]
          exact ofG _ _ _ _ (st2_000 p ⟨w1.heap.size, w2.heap.size, ia, ic, oa, oc, S'⟩ w2 M2)
        · refine step_allocTx rfl rfl ?_
          intro k w2 hk hl hb
          have M2 := M.out.newA hk hl hb
          refine hK.out _ _ (HS.out w2 M2.below) (fun _ => ?_)
          clear hK K
          try simp only [Act.put, List.setIfInBounds_toArray, List.set_cons_zero, List.set_cons_succ]
          exact ofG _ _ _ _ (st1_100 k p w2 M2)
        · refine step_allocTx rfl rfl ?_
          intro k w2 hk hl hb
          have M2 := M.out.newB hk hl hb
          refine hK.out _ _ (HS.out w2 M2.below) (fun _ => ?_)
          clear hK K
          try simp only [Act.put, List.setIfInBounds_toArray, List.set_cons_zero, List.set_cons_succ]
          exact ofG _ _ _ _ (st1_010 k p w2 M2)
        · refine step_allocTx rfl rfl ?_
          intro k w2 hk hl hb
          have M2 := M.out.newC hk hl hb
          refine hK.out _ _ (HS.out w2 M2.below) (fun _ => ?_)
          clear hK K
          try simp only [Act.put, List.setIfInBounds_toArray, List.set_cons_zero, List.set_cons_succ]
          exact ofG _ _ _ _ (st1_001 k p w2 M2)
      have st0_000 : ∀ (w1 : World), SxW t v2 w1 none none none none none none → G 9 #[true, false, true, false, true, false, false, false, false, false, false, false] { tmps := #[.agg (txv t.lk t.ia t.n t.ic t.oa t.m t.oc), .int .i64 kk, .slice sa sn sc, .pointer (some ⟨w.heap.size, 0, none⟩), undef, undef, .bool false, undef, undef, undef, .agg (txl t.lk t.ia t.n t.ic t.oa t.m t.oc).toArray, .bool false, .bool false, .slice sa sn sc, .int .i64 sn, .bool (decide ((1000 : Int) < sn)), .bool (decide ((1000 : Int) < sn)), undef, .agg (txl t.lk t.ia t.n t.ic t.oa t.m t.oc).toArray, undef, .agg (txl t.lk t.ia t.n t.ic t.oa t.m t.oc).toArray, undef, .agg (txl t.lk t.ia t.n t.ic t.oa t.m t.oc).toArray, undef, undef, undef, undef, undef, undef, undef, undef, undef, undef, undef, undef, undef, undef, undef, undef, undef, undef, undef, undef, undef, undef, undef, undef, undef, undef, undef, undef, undef, undef, undef, undef, undef, undef, undef, undef, undef, undef, undef], defers := [] } w1 := by
        intro  w1 M
        have M := hidV M
        refine toG _ _ _ _ ?_
        refine wpAnyH_ready (rs := [1, 6, 7, 8]) (by kernel_rfl) (by simp) ?_
        refine (AllReadyH.cons (o := { dst := some 19, op := Go.Op.call { callee := Go.Callee.value (Go.Operand.func 9), args := #[Go.Operand.tmp 18], argTypes := #[25] }, type := 35, pos := "law.go:113", after := #[{ on := 0, ground := Go.Ground.data }], guard := none }) rfl (fun K hK => ?_) (AllReadyH.cons (o := { dst := some 7, op := Go.Op.alloc 35, type := 0, pos := "law.go:113", after := #[], guard := none }) rfl (fun K hK => ?_) (AllReadyH.cons (o := { dst := some 8, op := Go.Op.alloc 35, type := 0, pos := "law.go:113", after := #[], guard := none }) rfl (fun K hK => ?_) (AllReadyH.cons (o := { dst := some 9, op := Go.Op.alloc 35, type := 0, pos := "law.go:113", after := #[], guard := none }) rfl (fun K hK => ?_) AllReadyH.nil))))
        · go_simp
          refine (giveTx_any t S w1 (HA.out w1 (HW.out w1 M.out.below)).1 (HA.out w1 (HW.out w1 M.out.below)).2.1 (HA.out w1 (HW.out w1 M.out.below)).2.2 HN.out HKO.out).mono ?_
          rintro e w2 ⟨ia, ic, oa, oc, S', rfl, -, hb, hO⟩
          have M2 := M.out.giveP (TxIv.of (oc := oc) hO) rfl rfl hb
          refine hK.out _ _ (HS.out w2 M2.below) (fun _ => ?_)
          clear hK K
          try simp only [List.setIfInBounds_toArray, List.set_cons_zero, List.set_cons_succ]
          exact ofG _ _ _ _ (st1_000 ⟨w1.heap.size, w2.heap.size, ia, ic, oa, oc, S'⟩ w2 M2)
        · refine step_allocTx rfl rfl ?_
          intro k w2 hk hl hb
          have M2 := M.out.newA hk hl hb
          refine hK.out _ _ (HS.out w2 M2.below) (fun _ => ?_)
          clear hK K
          try simp only [Act.put, List.setIfInBounds_toArray, List.set_cons_zero, List.set_cons_succ]
          exact ofG _ _ _ _ (st0_100 k w2 M2)
        · refine step_allocTx rfl rfl ?_
          intro k w2 hk hl hb
          have M2 := M.out.newB hk hl hb
          refine hK.out _ _ (HS.out w2 M2.below) (fun _ => ?_)
          clear hK K
          try simp only [Act.put, List.setIfInBounds_toArray, List.set_cons_zero, List.set_cons_succ]
          exact ofG _ _ _ _ (st0_010 k w2 M2)
        · refine step_allocTx rfl rfl ?_
          intro k w2 hk hl hb
          have M2 := M.out.newC hk hl hb
          refine hK.out _ _ (HS.out w2 M2.below) (fun _ => ?_)
          clear hK K
          try simp only [Act.put, List.setIfInBounds_toArray, List.set_cons_zero, List.set_cons_succ]
          exact ofG _ _ _ _ (st0_001 k w2 M2)
      exact st0_000 _ M0.out
    case rest =>
      obtain ⟨A, B, C, p, q, r, rfl, rfl, rfl, hQ⟩ := hcut
      have HQ := hidV hQ
      clear hQ
      have c0 : wc.cell? ⟨A, 0, none⟩ = some (.int .i64 t.lk) := by rw [cell_of_row _ _ 0 _ _ _ HQ.out.pa]; rfl
      have cC : wc.cell? ⟨C, 0, none⟩ = some (.int .i64 t.lk) := by rw [cell_of_row _ _ 0 _ _ _ HQ.out.pc.1]; rfl
      have fC : ∀ o, wc.frozen? ⟨C, o, none⟩ = false := fun o => frozen_of_row _ _ o _ _ HQ.out.pc.1
      go_upto_region 5 with fail
      have HXR : Hid (Cd.u64 (bits .xor .i64 t.lk 1) ≠ Cd.u64 t.lk) := u64_xor t.lk
      generalize bits .xor .i64 t.lk 1 = lk' at *
      have HQ4 := hidV (HQ.out.lock lk')
      clear HQ c0 cC fC
      generalize wc.setCell ⟨C, 0, none⟩ (.int .i64 lk') = w4 at *
      have HFEW : Hid (∀ i, i < t.m → (t.O i).cn ≤ 1000 ∧ ∀ j, j < (t.O i).cn → ((t.O i).X j).n ≤ 1048576) := fun i hi => ⟨by have := HN.out.cn i hi; omega, (HI.out.1.bo i hi).2⟩
      have HP : Hid (∀ k, k < t.n → Hb (t.X k).pt ∧ (t.X k).sn ≤ 1000000) := fun k hk => ⟨HI.out.1.ti.pt k hk, by have := HN.out.sn k hk; omega⟩
      have c1 : w4.cell? ⟨A, 1, none⟩ = some (.slice p.ia t.n p.ic) := by rw [cell_of_row _ _ 1 _ _ _ HQ4.out.pa]; rfl
      have c2 : w4.cell? ⟨B, 1, none⟩ = some (.slice q.ia t.n q.ic) := by rw [cell_of_row _ _ 1 _ _ _ HQ4.out.pb]; rfl
      by_cases hn : 0 < t.n
      · have hn1 : (0 : Int) < t.n := by omega
        obtain ⟨i, hi, hrem⟩ := rem_ix kk t.n (by omega) (by omega)
        have hne : ¬ t.n = 0 := by omega
        have hnu : IntKind.u64.wrap (t.n : Int) = t.n := by rw [IntKind.wrap_u64]; omega
        have HQ5 := hidV HQ4.out.drew
        obtain ⟨g, eia, hc, hf, hR⟩ := HQ5.out.end1 (fun k hk => (HP.out k hk).1) (fun k hk => (HP.out k hk).2) hi sa sn sc sz (fun w' hb => HSC.out w' (HW.out w' hb)) HSN.out
        obtain ⟨u0, hc⟩ := hc
        rw [eia] at c2
        have HEA := hidV eia
        have HRR := hidV hR
        clear HQ4 HQ5 hR eia
        go_upto_region 6 with fail
        clear c1
        refine wp_region_noPanic ?_
        refine wp_region_held_drew (S := fun w' => w'.cell? ⟨B, 1, none⟩ = some (.slice (some ⟨g, 0, none⟩) t.n q.ic)) (by kernel_rfl) c2 (fun hHeld => ?_)
        generalize w4.drew = w5 at *
        refine wpAnyH_take (i := 0) (oi := { dst := some 32, op := Go.Op.fieldAddr 35 (Go.Operand.tmp 8) 1, type := 0, pos := "law.go:116", after := #[], guard := none }) (v := ?_) rfl (by kernel_rfl) (by kernel_rfl) (by kernel_rfl) (fun _ _ _ h => h) (Or.inl ⟨by rfl, ?_⟩) (by assumption) ?_
        rotate_left
        · intro wz hSw; (try dsimp only at hSw); go_simp; (try with_reducible rfl)
        try simp only [Act.put, List.setIfInBounds_toArray, List.set_cons_zero, List.set_cons_succ]
        refine wpAnyH_take (i := 1) (oi := { dst := some 33, op := Go.Op.load 32 (Go.Operand.tmp 32), type := 32, pos := "law.go:116", after := #[{ on := 0, ground := Go.Ground.data }], guard := none }) (v := ?_) rfl (by kernel_rfl) (by kernel_rfl) (by kernel_rfl) (fun _ _ _ h => h) (Or.inl ⟨by rfl, ?_⟩) (by assumption) ?_
        rotate_left
        · intro wz hSw; (try dsimp only at hSw); go_simp; (try with_reducible rfl)
        try simp only [Act.put, List.setIfInBounds_toArray, List.set_cons_zero, List.set_cons_succ]
        refine wpAnyH_take (i := 2) (oi := { dst := some 34, op := Go.Op.move (Go.Operand.tmp 1), type := 3, pos := "law.go:116", after := #[], guard := none }) (v := ?_) rfl (by kernel_rfl) (by kernel_rfl) (by kernel_rfl) (fun _ _ _ h => h) (Or.inl ⟨by rfl, ?_⟩) (by assumption) ?_
        rotate_left
        · intro wz hSw; (try dsimp only at hSw); go_simp; (try with_reducible rfl)
        try simp only [Act.put, List.setIfInBounds_toArray, List.set_cons_zero, List.set_cons_succ]
        refine wpAnyH_take (i := 3) (oi := { dst := some 35, op := Go.Op.convert 3 60 (Go.Operand.tmp 34), type := 60, pos := "law.go:116", after := #[{ on := 2, ground := Go.Ground.data }], guard := none }) (v := ?_) rfl (by kernel_rfl) (by kernel_rfl) (by kernel_rfl) (fun _ _ _ h => h) (Or.inl ⟨by rfl, ?_⟩) (by assumption) ?_
        rotate_left
        · intro wz hSw; (try dsimp only at hSw); go_simp; (try with_reducible rfl)
        try simp only [Act.put, List.setIfInBounds_toArray, List.set_cons_zero, List.set_cons_succ]
        refine wpAnyH_take (i := 4) (oi := { dst := some 36, op := Go.Op.fieldAddr 35 (Go.Operand.tmp 8) 1, type := 0, pos := "law.go:116", after := #[], guard := none }) (v := ?_) rfl (by kernel_rfl) (by kernel_rfl) (by kernel_rfl) (fun _ _ _ h => h) (Or.inl ⟨by rfl, ?_⟩) (by assumption) ?_
        rotate_left
        · intro wz hSw; (try dsimp only at hSw); go_simp; (try with_reducible rfl)
        try simp only [Act.put, List.setIfInBounds_toArray, List.set_cons_zero, List.set_cons_succ]
        refine wpAnyH_take (i := 5) (oi := { dst := some 37, op := Go.Op.load 32 (Go.Operand.tmp 36), type := 32, pos := "law.go:116", after := #[{ on := 4, ground := Go.Ground.data }], guard := none }) (v := ?_) rfl (by kernel_rfl) (by kernel_rfl) (by kernel_rfl) (fun _ _ _ h => h) (Or.inl ⟨by rfl, ?_⟩) (by assumption) ?_
        rotate_left
        · intro wz hSw; (try dsimp only at hSw); go_simp; (try with_reducible rfl)
        try simp only [Act.put, List.setIfInBounds_toArray, List.set_cons_zero, List.set_cons_succ]
        refine wpAnyH_take (i := 6) (oi := { dst := some 38, op := Go.Op.call { callee := Go.Callee.builtin Go.Builtin.len, args := #[Go.Operand.tmp 37], argTypes := #[32] }, type := 3, pos := "law.go:116", after := #[{ on := 5, ground := Go.Ground.data }], guard := none }) (v := ?_) rfl (by kernel_rfl) (by kernel_rfl) (by kernel_rfl) (fun _ _ _ h => h) (Or.inl ⟨by rfl, ?_⟩) (by assumption) ?_
        rotate_left
        · intro wz hSw; (try dsimp only at hSw); go_simp; (try with_reducible rfl)
        try simp only [Act.put, List.setIfInBounds_toArray, List.set_cons_zero, List.set_cons_succ]
        refine wpAnyH_take (i := 7) (oi := { dst := some 39, op := Go.Op.convert 3 60 (Go.Operand.tmp 38), type := 60, pos := "law.go:116", after := #[{ on := 6, ground := Go.Ground.data }], guard := none }) (v := .int .u64 (t.n : Int)) rfl (by kernel_rfl) (by kernel_rfl) (by kernel_rfl) (fun _ _ _ h => h) (Or.inl ⟨by rfl, ?_⟩) (by assumption) ?_
        · intro wz hSw; (try dsimp only at hSw); go_simp; try simp only [hnu]; try rfl
        try simp only [Act.put, List.setIfInBounds_toArray, List.set_cons_zero, List.set_cons_succ]
        refine wpAnyH_take (i := 8) (oi := { dst := some 40, op := Go.Op.binOp Go.BinOp.rem 60 (Go.Operand.tmp 35) (Go.Operand.tmp 39) 60, type := 60, pos := "law.go:116", after := #[{ on := 3, ground := Go.Ground.data }, { on := 7, ground := Go.Ground.data }], guard := none }) (v := .int .u64 ((IntKind.u64.wrap kk).tmod (t.n : Int))) rfl (by kernel_rfl) (by kernel_rfl) (by kernel_rfl) (fun _ _ _ h => h) (Or.inl ⟨by rfl, ?_⟩) (by assumption) ?_
        · intro wz hSw; (try dsimp only at hSw); go_simp; try rfl
        try simp only [Act.put, List.setIfInBounds_toArray, List.set_cons_zero, List.set_cons_succ]
        refine wpAnyH_take (i := 9) (oi := { dst := some 41, op := Go.Op.convert 60 3 (Go.Operand.tmp 40), type := 3, pos := "law.go:116", after := #[{ on := 8, ground := Go.Ground.data }], guard := none }) (v := .int .i64 (i : Int)) rfl (by kernel_rfl) (by kernel_rfl) (by kernel_rfl) (fun _ _ _ h => h) (Or.inl ⟨by rfl, ?_⟩) (by assumption) ?_
        · intro wz hSw; (try dsimp only at hSw); go_simp
        try simp only [Act.put, List.setIfInBounds_toArray, List.set_cons_zero, List.set_cons_succ]
        refine wpAnyH_take (i := 10) (oi := { dst := some 42, op := Go.Op.move (Go.Operand.tmp 2), type := 57, pos := "law.go:116", after := #[], guard := none }) (v := ?_) rfl (by kernel_rfl) (by kernel_rfl) (by kernel_rfl) (fun _ _ _ h => h) (Or.inl ⟨by rfl, ?_⟩) (by assumption) ?_
        rotate_left
        · intro wz hSw; (try dsimp only at hSw); go_simp; (try with_reducible rfl)
        try simp only [Act.put, List.setIfInBounds_toArray, List.set_cons_zero, List.set_cons_succ]
        have hii : (i : Int) < t.n := by omega
        refine wpAnyH_take (i := 11) (oi := { dst := some 43, op := Go.Op.indexAddr 32 (Go.Operand.tmp 33) (Go.Operand.tmp 41), type := 0, pos := "law.go:116", after := #[{ on := 1, ground := Go.Ground.data }, { on := 9, ground := Go.Ground.data }, { on := 0, ground := Go.Ground.phase }, { on := 1, ground := Go.Ground.phase }, { on := 2, ground := Go.Ground.phase }, { on := 3, ground := Go.Ground.phase }, { on := 4, ground := Go.Ground.phase }, { on := 5, ground := Go.Ground.phase }, { on := 6, ground := Go.Ground.phase }, { on := 7, ground := Go.Ground.phase }, { on := 8, ground := Go.Ground.phase }, { on := 9, ground := Go.Ground.phase }, { on := 10, ground := Go.Ground.phase }], guard := none }) (v := .pointer (some ⟨g, i * 35, none⟩)) rfl (by kernel_rfl) (by kernel_rfl) (by kernel_rfl) (fun _ _ _ h => h) (Or.inl ⟨by rfl, ?_⟩) (by assumption) ?_
        · intro wz hSw; (try dsimp only at hSw); go_simp
        try simp only [Act.put, List.setIfInBounds_toArray, List.set_cons_zero, List.set_cons_succ]
        refine wpAnyH_take (i := 12) (oi := { dst := some 44, op := Go.Op.fieldAddr 59 (Go.Operand.tmp 43) 2, type := 0, pos := "law.go:116", after := #[{ on := 11, ground := Go.Ground.data }, { on := 0, ground := Go.Ground.phase }, { on := 1, ground := Go.Ground.phase }, { on := 2, ground := Go.Ground.phase }, { on := 3, ground := Go.Ground.phase }, { on := 4, ground := Go.Ground.phase }, { on := 5, ground := Go.Ground.phase }, { on := 6, ground := Go.Ground.phase }, { on := 7, ground := Go.Ground.phase }, { on := 8, ground := Go.Ground.phase }, { on := 9, ground := Go.Ground.phase }, { on := 10, ground := Go.Ground.phase }], guard := none }) (v := .pointer (some ⟨g, i * 35 + 34, none⟩)) rfl (by kernel_rfl) (by kernel_rfl) (by kernel_rfl) (fun _ _ _ h => h) (Or.inl ⟨by rfl, ?_⟩) (by assumption) ?_
        · intro wz hSw; (try dsimp only at hSw); go_simp
        try simp only [Act.put, List.setIfInBounds_toArray, List.set_cons_zero, List.set_cons_succ]
        refine wpAnyH_ready (rs := [13]) (by kernel_rfl) (by simp) ?_
        refine (AllReadyH.cons (o := { dst := none, op := Go.Op.store 57 (Go.Operand.tmp 44) (Go.Operand.tmp 42), type := 0, pos := "law.go:116", after := #[{ on := 12, ground := Go.Ground.data }, { on := 10, ground := Go.Ground.data }, { on := 0, ground := Go.Ground.phase }, { on := 1, ground := Go.Ground.phase }, { on := 2, ground := Go.Ground.phase }, { on := 3, ground := Go.Ground.phase }, { on := 4, ground := Go.Ground.phase }, { on := 5, ground := Go.Ground.phase }, { on := 6, ground := Go.Ground.phase }, { on := 7, ground := Go.Ground.phase }, { on := 8, ground := Go.Ground.phase }, { on := 9, ground := Go.Ground.phase }, { on := 10, ground := Go.Ground.phase }], guard := none }) rfl (fun K hK => ?_) AllReadyH.nil)
        go_simp
        refine hK.out _ _ (by have h1 := HRR.out.pb 1 _ rfl; rw [HEA.out] at h1; simpa using h1) (fun _ => ?_)
        clear hK K
        try simp only [Act.put]
        refine wpAnyH_done (by kernel_rfl) (NoPanic.normal ?_) _
        try simp only [Act.put, List.setIfInBounds_toArray, List.set_cons_zero, List.set_cons_succ]
        clear hHeld hc hf
        go_upto_region 7 with fail
        generalize w5.setCell ⟨g, i * 35 + 34, none⟩ (.slice sa sn sc) = w6 at *
        have HNO : Hid (∀ k, noS t.X k = noS (setX t.X i sn) k) := setX_no t.X i sn
        have HR := HRR
        clear HRR
        generalize setX t.X i sn = X' at *
        generalize setZ t.Z i sz = Z' at *
        generalize setS q.S i sa sc = S' at *
        refine wp_region_noPanic ?_
        refine wp_region_held_drew (S := fun w' => SxR t v2 w' A B C lk' p q r X' Z' S') (by kernel_rfl) (HR.out.keep (Below.refl _ _).drew) (fun hHeld => ?_)
        have HR0 := hidV (HR.out.keep (Below.refl w6.heap.size w6).drew)
        clear HR
        generalize w6.drew = y0 at *
        refine wpAnyH_take (i := 0) (oi := { dst := some 45, op := Go.Op.load 35 (Go.Operand.tmp 7), type := 35, pos := "law.go:118", after := #[], guard := none }) rfl (by kernel_rfl) (by kernel_rfl) (by kernel_rfl) (fun _ _ _ h => h) (yieldsIf_load_mid (by rfl) _ _ rfl A 0 rfl (txl t.lk p.ia t.n p.ic p.oa t.m p.oc) _ (fun _ h => h.pa) Tryz.underlying35 rfl szTx) (by assumption) ?_
        try simp only [Act.put, List.setIfInBounds_toArray, List.set_cons_zero, List.set_cons_succ]
        refine wpAnyH_take (i := 2) (oi := { dst := some 47, op := Go.Op.load 35 (Go.Operand.tmp 8), type := 35, pos := "law.go:118", after := #[], guard := none }) rfl (by kernel_rfl) (by kernel_rfl) (by kernel_rfl) (fun _ _ _ h => h) (yieldsIf_load_mid (by rfl) _ _ rfl B 0 rfl (txl t.lk q.ia t.n q.ic q.oa t.m q.oc) _ (fun _ h => h.pb) Tryz.underlying35 rfl szTx) (by assumption) ?_
        try simp only [Act.put, List.setIfInBounds_toArray, List.set_cons_zero, List.set_cons_succ]
        refine wpAnyH_ready (rs := [1]) (by kernel_rfl) (by simp) ?_
        refine (AllReadyH.cons (o := { dst := some 46, op := Go.Op.call { callee := Go.Callee.value (Go.Operand.func 22), args := #[Go.Operand.tmp 45], argTypes := #[35] }, type := 43, pos := "law.go:118", after := #[{ on := 0, ground := Go.Ground.data }], guard := none }) rfl (fun K hK => ?_) AllReadyH.nil)
        go_simp
        refine (kid_any t.lk p.ia t.n p.ic p.oa t.m p.oc t.X p.S t.Z t.O y0 HR0.out.xa.ti HR0.out.xa.ou HR0.out.xa.sc HFEW.out (by omega) (by omega) (HF.out y0 (HW.out y0 HR0.out.below)).2.1 (HF.out y0 (HW.out y0 HR0.out.below)).2.2).mono ?_
        rintro e y1 ⟨rfl, hb⟩
        have HR1 := hidV (HR0.out.keep hb)
        clear hb HR0
        refine hK.out _ _ HR1.out (fun _ => ?_)
        clear hK K
        try simp only [List.setIfInBounds_toArray, List.set_cons_zero, List.set_cons_succ]
        refine wpAnyH_ready (rs := [3]) (by kernel_rfl) (by simp) ?_
        refine (AllReadyH.cons (o := { dst := some 48, op := Go.Op.call { callee := Go.Callee.value (Go.Operand.func 22), args := #[Go.Operand.tmp 47], argTypes := #[35] }, type := 43, pos := "law.go:118", after := #[{ on := 2, ground := Go.Ground.data }, { on := 1, ground := Go.Ground.chain }], guard := none }) rfl (fun K hK => ?_) AllReadyH.nil)
        go_simp
        have hkB := kid_any t.lk q.ia t.n q.ic q.oa t.m q.oc X' S' Z' t.O y1 HR1.out.xb.ti HR1.out.xb.ou HR1.out.xb.sc HFEW.out (by omega) (by omega) (HF.out y1 (HW.out y1 HR1.out.below)).2.1 (HF.out y1 (HW.out y1 HR1.out.below)).2.2
        rw [← idB_no t.lk t.n t.Z Z' t.m t.O HNO.out] at hkB
        obtain ⟨L0, hL0⟩ : ∃ L, idB t.lk t.n t.X t.Z t.m t.O = L := ⟨_, rfl⟩
        rw [hL0] at hkB ⊢
        clear hL0
        refine hkB.mono ?_
        rintro e y2 ⟨rfl, hb⟩
        have HR2 := hidV (HR1.out.keep hb)
        clear hb HR1 hkB
        refine hK.out _ _ HR2.out (fun _ => ?_)
        clear hK K
        try simp only [List.setIfInBounds_toArray, List.set_cons_zero, List.set_cons_succ]
        refine wpAnyH_take (i := 4) (oi := { dst := some 49, op := Go.Op.binOp Go.BinOp.eql 43 (Go.Operand.tmp 46) (Go.Operand.tmp 48) 43, type := 4, pos := "law.go:118", after := #[{ on := 1, ground := Go.Ground.data }, { on := 3, ground := Go.Ground.data }], guard := none }) (v := .bool true) rfl (by kernel_rfl) (by kernel_rfl) (by kernel_rfl) (fun _ _ _ h => h) (Or.inl ⟨by rfl, ?_⟩) (by assumption) ?_
        · intro wz hSw; (try dsimp only at hSw); exact exec_eqS _ _ rfl (nb L0) rfl rfl wz
        try simp only [Act.put, List.setIfInBounds_toArray, List.set_cons_zero, List.set_cons_succ]
        refine wpAnyH_take (i := 5) (oi := { dst := some 50, op := Go.Op.move (Go.Operand.tmp 49), type := 4, pos := "law.go:118", after := #[{ on := 4, ground := Go.Ground.data }, { on := 3, ground := Go.Ground.chain }], guard := none }) (v := ?_) rfl (by kernel_rfl) (by kernel_rfl) (by kernel_rfl) (fun _ _ _ h => h) (Or.inl ⟨by rfl, ?_⟩) (by assumption) ?_
        rotate_left
        · intro wz hSw; (try dsimp only at hSw); go_simp; (try with_reducible rfl)
        try simp only [Act.put, List.setIfInBounds_toArray, List.set_cons_zero, List.set_cons_succ]
        refine wpAnyH_take (i := 6) (oi := { dst := some 51, op := Go.Op.load 35 (Go.Operand.tmp 7), type := 35, pos := "law.go:118", after := #[{ on := 5, ground := Go.Ground.guard }], guard := some (5, true) }) rfl (by kernel_rfl) (by kernel_rfl) (by kernel_rfl) (fun _ _ _ h => h) (yieldsIf_load_mid (by rfl) _ _ rfl A 0 rfl (txl t.lk p.ia t.n p.ic p.oa t.m p.oc) _ (fun _ h => h.pa) Tryz.underlying35 rfl szTx) (by assumption) ?_
        try simp only [Act.put, List.setIfInBounds_toArray, List.set_cons_zero, List.set_cons_succ]
        refine wpAnyH_take (i := 9) (oi := { dst := some 54, op := Go.Op.load 35 (Go.Operand.tmp 9), type := 35, pos := "law.go:118", after := #[{ on := 5, ground := Go.Ground.guard }], guard := some (5, true) }) rfl (by kernel_rfl) (by kernel_rfl) (by kernel_rfl) (fun _ _ _ h => h) (yieldsIf_load_mid (by rfl) _ _ rfl C 0 rfl (txl lk' r.ia t.n r.ic r.oa t.m r.oc) _ (fun _ h => h.pc) Tryz.underlying35 rfl szTx) (by assumption) ?_
        try simp only [Act.put, List.setIfInBounds_toArray, List.set_cons_zero, List.set_cons_succ]
        refine wpAnyH_ready (rs := [7]) (by kernel_rfl) (by simp) ?_
        refine (AllReadyH.cons (o := { dst := some 52, op := Go.Op.call { callee := Go.Callee.value (Go.Operand.func 23), args := #[Go.Operand.tmp 51], argTypes := #[35] }, type := 57, pos := "law.go:118", after := #[{ on := 6, ground := Go.Ground.data }, { on := 5, ground := Go.Ground.chain }, { on := 5, ground := Go.Ground.guard }], guard := some (5, true) }) rfl (fun K hK => ?_) AllReadyH.nil)
        go_simp
        refine (kencode_any t.lk p.ia t.n p.ic p.oa t.m p.oc t.X p.S t.Z t.O y2 HR2.out.xa.ti HR2.out.xa.ou HR2.out.xa.sc HFEW.out (by omega) (by omega)).mono ?_
        rintro e y3 ⟨u3, rfl, hO⟩
        obtain ⟨LA, hLA⟩ : ∃ L, laidT t.lk t.n t.X t.Z t.m t.O = L := ⟨_, rfl⟩
        rw [hLA] at hO
        have HR3 := hidV (And.intro (HR2.out.keep hO.below) hO)
        clear hO HR2
        refine hK.out _ _ HR3.out.1 (fun _ => ?_)
        clear hK K
        try simp only [List.setIfInBounds_toArray, List.set_cons_zero, List.set_cons_succ]
        have S3 : SxR t v2 y3 A B C lk' p q r X' Z' S' ∧ (convert 57 9 u3).run Tryz.prog y3 = .ok (.string (strB (fn LA) LA.length)) y3 := ⟨HR3.out.1, conv_rowS HR3.out.2⟩
        refine wpAnyH_moreS (S' := fun w' => SxR t v2 w' A B C lk' p q r X' Z' S' ∧ (convert 57 9 u3).run Tryz.prog w' = .ok (.string (strB (fn LA) LA.length)) w') (fun _ h => h.1) _ _ _ _ ?_
        refine wpAnyH_take (i := 8) (oi := { dst := some 53, op := Go.Op.convert 57 9 (Go.Operand.tmp 52), type := 9, pos := "law.go:118", after := #[{ on := 7, ground := Go.Ground.data }, { on := 5, ground := Go.Ground.guard }], guard := some (5, true) }) (v := .string (strB (fn LA) LA.length)) rfl (by kernel_rfl) (by kernel_rfl) (by kernel_rfl) (fun _ _ _ h => h) (Or.inl ⟨by rfl, ?_⟩) (by assumption) ?_
        · intro wz hSw; (try dsimp only at hSw); have h1 := hSw.2; go_simp; try rfl
        try simp only [Act.put, List.setIfInBounds_toArray, List.set_cons_zero, List.set_cons_succ]
        refine wpAnyH_ready (rs := [10]) (by kernel_rfl) (by simp) ?_
        refine (AllReadyH.cons (o := { dst := some 55, op := Go.Op.call { callee := Go.Callee.value (Go.Operand.func 23), args := #[Go.Operand.tmp 54], argTypes := #[35] }, type := 57, pos := "law.go:118", after := #[{ on := 9, ground := Go.Ground.data }, { on := 7, ground := Go.Ground.chain }, { on := 5, ground := Go.Ground.guard }], guard := some (5, true) }) rfl (fun K hK => ?_) AllReadyH.nil)
        go_simp
        refine (kencode_any lk' r.ia t.n r.ic r.oa t.m r.oc t.X r.S t.Z t.O y3 HR3.out.1.xc.ti HR3.out.1.xc.ou HR3.out.1.xc.sc HFEW.out (by omega) (by omega)).mono ?_
        rintro e y4 ⟨u4, rfl, hO⟩
        obtain ⟨LC, hLC⟩ : ∃ L, laidT lk' t.n t.X t.Z t.m t.O = L := ⟨_, rfl⟩
        rw [hLC] at hO
        have HNE : Hid (strB (fn LA) LA.length ≠ strB (fn LC) LC.length) := strB_lk hLA hLC HR3.out.2 hO HXR.out
        have HR4 := hidV (And.intro (HR3.out.1.keep hO.below) (And.intro (HR3.out.2.keepB hO.below) hO))
        clear hO HR3 hLA hLC S3
        refine hK.out _ _ ⟨HR4.out.1, conv_rowS HR4.out.2.1⟩ (fun _ => ?_)
        clear hK K
        try simp only [List.setIfInBounds_toArray, List.set_cons_zero, List.set_cons_succ]
        have S4 : (SxR t v2 y4 A B C lk' p q r X' Z' S' ∧ (convert 57 9 u3).run Tryz.prog y4 = .ok (.string (strB (fn LA) LA.length)) y4) ∧ (convert 57 9 u4).run Tryz.prog y4 = .ok (.string (strB (fn LC) LC.length)) y4 := ⟨⟨HR4.out.1, conv_rowS HR4.out.2.1⟩, conv_rowS HR4.out.2.2⟩
        refine wpAnyH_moreS (S' := fun w' => (SxR t v2 w' A B C lk' p q r X' Z' S' ∧ (convert 57 9 u3).run Tryz.prog w' = .ok (.string (strB (fn LA) LA.length)) w') ∧ (convert 57 9 u4).run Tryz.prog w' = .ok (.string (strB (fn LC) LC.length)) w') (fun _ h => h.1) _ _ _ _ ?_
        refine wpAnyH_take (i := 11) (oi := { dst := some 56, op := Go.Op.convert 57 9 (Go.Operand.tmp 55), type := 9, pos := "law.go:118", after := #[{ on := 10, ground := Go.Ground.data }, { on := 5, ground := Go.Ground.guard }], guard := some (5, true) }) (v := .string (strB (fn LC) LC.length)) rfl (by kernel_rfl) (by kernel_rfl) (by kernel_rfl) (fun _ _ _ h => h) (Or.inl ⟨by rfl, ?_⟩) (by assumption) ?_
        · intro wz hSw; (try dsimp only at hSw); have h1 := hSw.2; go_simp; try rfl
        try simp only [Act.put, List.setIfInBounds_toArray, List.set_cons_zero, List.set_cons_succ]
        refine wpAnyH_take (i := 12) (oi := { dst := some 57, op := Go.Op.binOp Go.BinOp.neq 9 (Go.Operand.tmp 53) (Go.Operand.tmp 56) 9, type := 4, pos := "law.go:118", after := #[{ on := 8, ground := Go.Ground.data }, { on := 11, ground := Go.Ground.data }, { on := 5, ground := Go.Ground.guard }], guard := some (5, true) }) (v := .bool true) rfl (by kernel_rfl) (by kernel_rfl) (by kernel_rfl) (fun _ _ _ h => h) (Or.inl ⟨by rfl, ?_⟩) (by assumption) ?_
        · intro wz hSw; (try dsimp only at hSw); have hne := bytes_neS HNE.out; go_simp
        try simp only [Act.put, List.setIfInBounds_toArray, List.set_cons_zero, List.set_cons_succ]
        refine wpAnyH_take (i := 13) (oi := { dst := some 58, op := Go.Op.pick (Go.Operand.tmp 50) (Go.Operand.tmp 57) (Go.Operand.const (Go.Value.bool false)), type := 4, pos := "law.go:118", after := #[{ on := 5, ground := Go.Ground.data }, { on := 12, ground := Go.Ground.data }], guard := none }) (v := ?_) rfl (by kernel_rfl) (by kernel_rfl) (by kernel_rfl) (fun _ _ _ h => h) (Or.inl ⟨by rfl, ?_⟩) (by assumption) ?_
        rotate_left
        · intro wz hSw; (try dsimp only at hSw); go_simp; (try with_reducible rfl)
        try simp only [Act.put, List.setIfInBounds_toArray, List.set_cons_zero, List.set_cons_succ]
        refine wpAnyH_take (i := 14) (oi := { dst := some 59, op := Go.Op.move (Go.Operand.tmp 58), type := 4, pos := "law.go:118", after := #[{ on := 13, ground := Go.Ground.data }, { on := 10, ground := Go.Ground.chain }], guard := none }) (v := ?_) rfl (by kernel_rfl) (by kernel_rfl) (by kernel_rfl) (fun _ _ _ h => h) (Or.inl ⟨by rfl, ?_⟩) (by assumption) ?_
        rotate_left
        · intro wz hSw; (try dsimp only at hSw); go_simp; (try with_reducible rfl)
        try simp only [Act.put, List.setIfInBounds_toArray, List.set_cons_zero, List.set_cons_succ]
        refine wpAnyH_ready (rs := [15]) (by kernel_rfl) (by simp) ?_
        refine (AllReadyH.cons (o := { dst := some 60, op := Go.Op.call { callee := Go.Callee.value (Go.Operand.func 7), args := #[], argTypes := #[] }, type := 4, pos := "law.go:118", after := #[{ on := 14, ground := Go.Ground.chain }, { on := 14, ground := Go.Ground.guard }], guard := some (14, true) }) rfl (fun K hK => ?_) AllReadyH.nil)
        go_simp
        refine (HEND.out y4 (HW.out y4 HR4.out.1.below)).mono ?_
        rintro e y5 ⟨rfl, hb⟩
        have HR5 := hidV (And.intro (HR4.out.1.keep hb) (And.intro (HR4.out.2.1.keepB hb) (HR4.out.2.2.keepB hb)))
        clear hb HR4 S4
        refine hK.out _ _ ⟨⟨HR5.out.1, conv_rowS HR5.out.2.1⟩, conv_rowS HR5.out.2.2⟩ (fun _ => ?_)
        clear hK K
        try simp only [List.setIfInBounds_toArray, List.set_cons_zero, List.set_cons_succ]
        refine wpAnyH_take (i := 16) (oi := { dst := some 61, op := Go.Op.pick (Go.Operand.tmp 59) (Go.Operand.tmp 60) (Go.Operand.const (Go.Value.bool false)), type := 4, pos := "law.go:118", after := #[{ on := 14, ground := Go.Ground.data }, { on := 15, ground := Go.Ground.data }], guard := none }) (v := ?_) rfl (by kernel_rfl) (by kernel_rfl) (by kernel_rfl) (fun _ _ _ h => h) (Or.inl ⟨by rfl, ?_⟩) (by assumption) ?_
        rotate_left
        · intro wz hSw; (try dsimp only at hSw); go_simp; (try with_reducible rfl)
        try simp only [Act.put, List.setIfInBounds_toArray, List.set_cons_zero, List.set_cons_succ]
        refine wpAnyH_take (i := 17) (oi := { dst := some 6, op := Go.Op.assign (Go.Operand.tmp 61), type := 4, pos := "law.go:118", after := #[{ on := 16, ground := Go.Ground.data }, { on := 15, ground := Go.Ground.chain }, { on := 0, ground := Go.Ground.phase }, { on := 1, ground := Go.Ground.phase }, { on := 2, ground := Go.Ground.phase }, { on := 3, ground := Go.Ground.phase }, { on := 4, ground := Go.Ground.phase }, { on := 5, ground := Go.Ground.phase }, { on := 6, ground := Go.Ground.phase }, { on := 7, ground := Go.Ground.phase }, { on := 8, ground := Go.Ground.phase }, { on := 9, ground := Go.Ground.phase }, { on := 10, ground := Go.Ground.phase }, { on := 11, ground := Go.Ground.phase }, { on := 12, ground := Go.Ground.phase }, { on := 13, ground := Go.Ground.phase }, { on := 14, ground := Go.Ground.phase }, { on := 15, ground := Go.Ground.phase }, { on := 16, ground := Go.Ground.phase }], guard := none }) (v := ?_) rfl (by kernel_rfl) (by kernel_rfl) (by kernel_rfl) (fun _ _ _ h => h) (Or.inl ⟨by rfl, ?_⟩) (by assumption) ?_
        rotate_left
        · intro wz hSw; (try dsimp only at hSw); go_simp; (try with_reducible rfl)
        try simp only [Act.put, List.setIfInBounds_toArray, List.set_cons_zero, List.set_cons_succ]
        refine wpAnyH_done (by kernel_rfl) (NoPanic.normal ?_) _
        try simp only [Act.put, List.setIfInBounds_toArray, List.set_cons_zero, List.set_cons_succ]
        clear hHeld
        have HZ := hidV (HW.out y5 HR5.out.1.below)
        go_wp2
        go_ret
        exact ⟨rfl, HZ.out⟩
      · have hn1 : ¬ (0 : Int) < t.n := by omega
        have HR := hidV (HQ4.out.end0 (fun k hk => (HP.out k hk).1) (fun k hk => (HP.out k hk).2))
        clear HQ4 c2
        go_upto_region 7 with fail
        clear c1
        have HNO : Hid (∀ k, noS t.X k = noS t.X k) := fun _ => rfl
        obtain ⟨X', hX'⟩ : ∃ X, X = t.X := ⟨_, rfl⟩
        obtain ⟨Z', hZ'⟩ : ∃ Z, Z = t.Z := ⟨_, rfl⟩
        obtain ⟨S', hS'⟩ : ∃ S, S = q.S := ⟨_, rfl⟩
        have HR : Hid (SxR t v2 w4 A B C lk' p q r X' Z' S') := by rw [hX', hZ', hS']; exact HR
        have HNO : Hid (∀ k, noS t.X k = noS X' k) := by rw [hX']; exact HNO
        clear hX' hZ' hS'
        generalize w4 = w6 at *
        refine wp_region_noPanic ?_
        refine wp_region_held_drew (S := fun w' => SxR t v2 w' A B C lk' p q r X' Z' S') (by kernel_rfl) (HR.out.keep (Below.refl _ _).drew) (fun hHeld => ?_)
        have HR0 := hidV (HR.out.keep (Below.refl w6.heap.size w6).drew)
        clear HR
        generalize w6.drew = y0 at *
        refine wpAnyH_take (i := 0) (oi := { dst := some 45, op := Go.Op.load 35 (Go.Operand.tmp 7), type := 35, pos := "law.go:118", after := #[], guard := none }) rfl (by kernel_rfl) (by kernel_rfl) (by kernel_rfl) (fun _ _ _ h => h) (yieldsIf_load_mid (by rfl) _ _ rfl A 0 rfl (txl t.lk p.ia t.n p.ic p.oa t.m p.oc) _ (fun _ h => h.pa) Tryz.underlying35 rfl szTx) (by assumption) ?_
        try simp only [Act.put, List.setIfInBounds_toArray, List.set_cons_zero, List.set_cons_succ]
        refine wpAnyH_take (i := 2) (oi := { dst := some 47, op := Go.Op.load 35 (Go.Operand.tmp 8), type := 35, pos := "law.go:118", after := #[], guard := none }) rfl (by kernel_rfl) (by kernel_rfl) (by kernel_rfl) (fun _ _ _ h => h) (yieldsIf_load_mid (by rfl) _ _ rfl B 0 rfl (txl t.lk q.ia t.n q.ic q.oa t.m q.oc) _ (fun _ h => h.pb) Tryz.underlying35 rfl szTx) (by assumption) ?_
        try simp only [Act.put, List.setIfInBounds_toArray, List.set_cons_zero, List.set_cons_succ]
        refine wpAnyH_ready (rs := [1]) (by kernel_rfl) (by simp) ?_
        refine (AllReadyH.cons (o := { dst := some 46, op := Go.Op.call { callee := Go.Callee.value (Go.Operand.func 22), args := #[Go.Operand.tmp 45], argTypes := #[35] }, type := 43, pos := "law.go:118", after := #[{ on := 0, ground := Go.Ground.data }], guard := none }) rfl (fun K hK => ?_) AllReadyH.nil)
        go_simp
        refine (kid_any t.lk p.ia t.n p.ic p.oa t.m p.oc t.X p.S t.Z t.O y0 HR0.out.xa.ti HR0.out.xa.ou HR0.out.xa.sc HFEW.out (by omega) (by omega) (HF.out y0 (HW.out y0 HR0.out.below)).2.1 (HF.out y0 (HW.out y0 HR0.out.below)).2.2).mono ?_
        rintro e y1 ⟨rfl, hb⟩
        have HR1 := hidV (HR0.out.keep hb)
        clear hb HR0
        refine hK.out _ _ HR1.out (fun _ => ?_)
        clear hK K
        try simp only [List.setIfInBounds_toArray, List.set_cons_zero, List.set_cons_succ]
        refine wpAnyH_ready (rs := [3]) (by kernel_rfl) (by simp) ?_
        refine (AllReadyH.cons (o := { dst := some 48, op := Go.Op.call { callee := Go.Callee.value (Go.Operand.func 22), args := #[Go.Operand.tmp 47], argTypes := #[35] }, type := 43, pos := "law.go:118", after := #[{ on := 2, ground := Go.Ground.data }, { on := 1, ground := Go.Ground.chain }], guard := none }) rfl (fun K hK => ?_) AllReadyH.nil)
        go_simp
        have hkB := kid_any t.lk q.ia t.n q.ic q.oa t.m q.oc X' S' Z' t.O y1 HR1.out.xb.ti HR1.out.xb.ou HR1.out.xb.sc HFEW.out (by omega) (by omega) (HF.out y1 (HW.out y1 HR1.out.below)).2.1 (HF.out y1 (HW.out y1 HR1.out.below)).2.2
        rw [← idB_no t.lk t.n t.Z Z' t.m t.O HNO.out] at hkB
        obtain ⟨L0, hL0⟩ : ∃ L, idB t.lk t.n t.X t.Z t.m t.O = L := ⟨_, rfl⟩
        rw [hL0] at hkB ⊢
        clear hL0
        refine hkB.mono ?_
        rintro e y2 ⟨rfl, hb⟩
        have HR2 := hidV (HR1.out.keep hb)
        clear hb HR1 hkB
        refine hK.out _ _ HR2.out (fun _ => ?_)
        clear hK K
        try simp only [List.setIfInBounds_toArray, List.set_cons_zero, List.set_cons_succ]
        refine wpAnyH_take (i := 4) (oi := { dst := some 49, op := Go.Op.binOp Go.BinOp.eql 43 (Go.Operand.tmp 46) (Go.Operand.tmp 48) 43, type := 4, pos := "law.go:118", after := #[{ on := 1, ground := Go.Ground.data }, { on := 3, ground := Go.Ground.data }], guard := none }) (v := .bool true) rfl (by kernel_rfl) (by kernel_rfl) (by kernel_rfl) (fun _ _ _ h => h) (Or.inl ⟨by rfl, ?_⟩) (by assumption) ?_
        · intro wz hSw; (try dsimp only at hSw); exact exec_eqS _ _ rfl (nb L0) rfl rfl wz
        try simp only [Act.put, List.setIfInBounds_toArray, List.set_cons_zero, List.set_cons_succ]
        refine wpAnyH_take (i := 5) (oi := { dst := some 50, op := Go.Op.move (Go.Operand.tmp 49), type := 4, pos := "law.go:118", after := #[{ on := 4, ground := Go.Ground.data }, { on := 3, ground := Go.Ground.chain }], guard := none }) (v := ?_) rfl (by kernel_rfl) (by kernel_rfl) (by kernel_rfl) (fun _ _ _ h => h) (Or.inl ⟨by rfl, ?_⟩) (by assumption) ?_
        rotate_left
        · intro wz hSw; (try dsimp only at hSw); go_simp; (try with_reducible rfl)
        try simp only [Act.put, List.setIfInBounds_toArray, List.set_cons_zero, List.set_cons_succ]
        refine wpAnyH_take (i := 6) (oi := { dst := some 51, op := Go.Op.load 35 (Go.Operand.tmp 7), type := 35, pos := "law.go:118", after := #[{ on := 5, ground := Go.Ground.guard }], guard := some (5, true) }) rfl (by kernel_rfl) (by kernel_rfl) (by kernel_rfl) (fun _ _ _ h => h) (yieldsIf_load_mid (by rfl) _ _ rfl A 0 rfl (txl t.lk p.ia t.n p.ic p.oa t.m p.oc) _ (fun _ h => h.pa) Tryz.underlying35 rfl szTx) (by assumption) ?_
        try simp only [Act.put, List.setIfInBounds_toArray, List.set_cons_zero, List.set_cons_succ]
        refine wpAnyH_take (i := 9) (oi := { dst := some 54, op := Go.Op.load 35 (Go.Operand.tmp 9), type := 35, pos := "law.go:118", after := #[{ on := 5, ground := Go.Ground.guard }], guard := some (5, true) }) rfl (by kernel_rfl) (by kernel_rfl) (by kernel_rfl) (fun _ _ _ h => h) (yieldsIf_load_mid (by rfl) _ _ rfl C 0 rfl (txl lk' r.ia t.n r.ic r.oa t.m r.oc) _ (fun _ h => h.pc) Tryz.underlying35 rfl szTx) (by assumption) ?_
        try simp only [Act.put, List.setIfInBounds_toArray, List.set_cons_zero, List.set_cons_succ]
        refine wpAnyH_ready (rs := [7]) (by kernel_rfl) (by simp) ?_
        refine (AllReadyH.cons (o := { dst := some 52, op := Go.Op.call { callee := Go.Callee.value (Go.Operand.func 23), args := #[Go.Operand.tmp 51], argTypes := #[35] }, type := 57, pos := "law.go:118", after := #[{ on := 6, ground := Go.Ground.data }, { on := 5, ground := Go.Ground.chain }, { on := 5, ground := Go.Ground.guard }], guard := some (5, true) }) rfl (fun K hK => ?_) AllReadyH.nil)
        go_simp
        refine (kencode_any t.lk p.ia t.n p.ic p.oa t.m p.oc t.X p.S t.Z t.O y2 HR2.out.xa.ti HR2.out.xa.ou HR2.out.xa.sc HFEW.out (by omega) (by omega)).mono ?_
        rintro e y3 ⟨u3, rfl, hO⟩
        obtain ⟨LA, hLA⟩ : ∃ L, laidT t.lk t.n t.X t.Z t.m t.O = L := ⟨_, rfl⟩
        rw [hLA] at hO
        have HR3 := hidV (And.intro (HR2.out.keep hO.below) hO)
        clear hO HR2
        refine hK.out _ _ HR3.out.1 (fun _ => ?_)
        clear hK K
        try simp only [List.setIfInBounds_toArray, List.set_cons_zero, List.set_cons_succ]
        have S3 : SxR t v2 y3 A B C lk' p q r X' Z' S' ∧ (convert 57 9 u3).run Tryz.prog y3 = .ok (.string (strB (fn LA) LA.length)) y3 := ⟨HR3.out.1, conv_rowS HR3.out.2⟩
        refine wpAnyH_moreS (S' := fun w' => SxR t v2 w' A B C lk' p q r X' Z' S' ∧ (convert 57 9 u3).run Tryz.prog w' = .ok (.string (strB (fn LA) LA.length)) w') (fun _ h => h.1) _ _ _ _ ?_
        refine wpAnyH_take (i := 8) (oi := { dst := some 53, op := Go.Op.convert 57 9 (Go.Operand.tmp 52), type := 9, pos := "law.go:118", after := #[{ on := 7, ground := Go.Ground.data }, { on := 5, ground := Go.Ground.guard }], guard := some (5, true) }) (v := .string (strB (fn LA) LA.length)) rfl (by kernel_rfl) (by kernel_rfl) (by kernel_rfl) (fun _ _ _ h => h) (Or.inl ⟨by rfl, ?_⟩) (by assumption) ?_
        · intro wz hSw; (try dsimp only at hSw); have h1 := hSw.2; go_simp; try rfl
        try simp only [Act.put, List.setIfInBounds_toArray, List.set_cons_zero, List.set_cons_succ]
        refine wpAnyH_ready (rs := [10]) (by kernel_rfl) (by simp) ?_
        refine (AllReadyH.cons (o := { dst := some 55, op := Go.Op.call { callee := Go.Callee.value (Go.Operand.func 23), args := #[Go.Operand.tmp 54], argTypes := #[35] }, type := 57, pos := "law.go:118", after := #[{ on := 9, ground := Go.Ground.data }, { on := 7, ground := Go.Ground.chain }, { on := 5, ground := Go.Ground.guard }], guard := some (5, true) }) rfl (fun K hK => ?_) AllReadyH.nil)
        go_simp
        refine (kencode_any lk' r.ia t.n r.ic r.oa t.m r.oc t.X r.S t.Z t.O y3 HR3.out.1.xc.ti HR3.out.1.xc.ou HR3.out.1.xc.sc HFEW.out (by omega) (by omega)).mono ?_
        rintro e y4 ⟨u4, rfl, hO⟩
        obtain ⟨LC, hLC⟩ : ∃ L, laidT lk' t.n t.X t.Z t.m t.O = L := ⟨_, rfl⟩
        rw [hLC] at hO
        have HNE : Hid (strB (fn LA) LA.length ≠ strB (fn LC) LC.length) := strB_lk hLA hLC HR3.out.2 hO HXR.out
        have HR4 := hidV (And.intro (HR3.out.1.keep hO.below) (And.intro (HR3.out.2.keepB hO.below) hO))
        clear hO HR3 hLA hLC S3
        refine hK.out _ _ ⟨HR4.out.1, conv_rowS HR4.out.2.1⟩ (fun _ => ?_)
        clear hK K
        try simp only [List.setIfInBounds_toArray, List.set_cons_zero, List.set_cons_succ]
        have S4 : (SxR t v2 y4 A B C lk' p q r X' Z' S' ∧ (convert 57 9 u3).run Tryz.prog y4 = .ok (.string (strB (fn LA) LA.length)) y4) ∧ (convert 57 9 u4).run Tryz.prog y4 = .ok (.string (strB (fn LC) LC.length)) y4 := ⟨⟨HR4.out.1, conv_rowS HR4.out.2.1⟩, conv_rowS HR4.out.2.2⟩
        refine wpAnyH_moreS (S' := fun w' => (SxR t v2 w' A B C lk' p q r X' Z' S' ∧ (convert 57 9 u3).run Tryz.prog w' = .ok (.string (strB (fn LA) LA.length)) w') ∧ (convert 57 9 u4).run Tryz.prog w' = .ok (.string (strB (fn LC) LC.length)) w') (fun _ h => h.1) _ _ _ _ ?_
        refine wpAnyH_take (i := 11) (oi := { dst := some 56, op := Go.Op.convert 57 9 (Go.Operand.tmp 55), type := 9, pos := "law.go:118", after := #[{ on := 10, ground := Go.Ground.data }, { on := 5, ground := Go.Ground.guard }], guard := some (5, true) }) (v := .string (strB (fn LC) LC.length)) rfl (by kernel_rfl) (by kernel_rfl) (by kernel_rfl) (fun _ _ _ h => h) (Or.inl ⟨by rfl, ?_⟩) (by assumption) ?_
        · intro wz hSw; (try dsimp only at hSw); have h1 := hSw.2; go_simp; try rfl
        try simp only [Act.put, List.setIfInBounds_toArray, List.set_cons_zero, List.set_cons_succ]
        refine wpAnyH_take (i := 12) (oi := { dst := some 57, op := Go.Op.binOp Go.BinOp.neq 9 (Go.Operand.tmp 53) (Go.Operand.tmp 56) 9, type := 4, pos := "law.go:118", after := #[{ on := 8, ground := Go.Ground.data }, { on := 11, ground := Go.Ground.data }, { on := 5, ground := Go.Ground.guard }], guard := some (5, true) }) (v := .bool true) rfl (by kernel_rfl) (by kernel_rfl) (by kernel_rfl) (fun _ _ _ h => h) (Or.inl ⟨by rfl, ?_⟩) (by assumption) ?_
        · intro wz hSw; (try dsimp only at hSw); have hne := bytes_neS HNE.out; go_simp
        try simp only [Act.put, List.setIfInBounds_toArray, List.set_cons_zero, List.set_cons_succ]
        refine wpAnyH_take (i := 13) (oi := { dst := some 58, op := Go.Op.pick (Go.Operand.tmp 50) (Go.Operand.tmp 57) (Go.Operand.const (Go.Value.bool false)), type := 4, pos := "law.go:118", after := #[{ on := 5, ground := Go.Ground.data }, { on := 12, ground := Go.Ground.data }], guard := none }) (v := ?_) rfl (by kernel_rfl) (by kernel_rfl) (by kernel_rfl) (fun _ _ _ h => h) (Or.inl ⟨by rfl, ?_⟩) (by assumption) ?_
        rotate_left
        · intro wz hSw; (try dsimp only at hSw); go_simp; (try with_reducible rfl)
        try simp only [Act.put, List.setIfInBounds_toArray, List.set_cons_zero, List.set_cons_succ]
        refine wpAnyH_take (i := 14) (oi := { dst := some 59, op := Go.Op.move (Go.Operand.tmp 58), type := 4, pos := "law.go:118", after := #[{ on := 13, ground := Go.Ground.data }, { on := 10, ground := Go.Ground.chain }], guard := none }) (v := ?_) rfl (by kernel_rfl) (by kernel_rfl) (by kernel_rfl) (fun _ _ _ h => h) (Or.inl ⟨by rfl, ?_⟩) (by assumption) ?_
        rotate_left
        · intro wz hSw; (try dsimp only at hSw); go_simp; (try with_reducible rfl)
        try simp only [Act.put, List.setIfInBounds_toArray, List.set_cons_zero, List.set_cons_succ]
        refine wpAnyH_ready (rs := [15]) (by kernel_rfl) (by simp) ?_
        refine (AllReadyH.cons (o := { dst := some 60, op := Go.Op.call { callee := Go.Callee.value (Go.Operand.func 7), args := #[], argTypes := #[] }, type := 4, pos := "law.go:118", after := #[{ on := 14, ground := Go.Ground.chain }, { on := 14, ground := Go.Ground.guard }], guard := some (14, true) }) rfl (fun K hK => ?_) AllReadyH.nil)
        go_simp
        refine (HEND.out y4 (HW.out y4 HR4.out.1.below)).mono ?_
        rintro e y5 ⟨rfl, hb⟩
        have HR5 := hidV (And.intro (HR4.out.1.keep hb) (And.intro (HR4.out.2.1.keepB hb) (HR4.out.2.2.keepB hb)))
        clear hb HR4 S4
        refine hK.out _ _ ⟨⟨HR5.out.1, conv_rowS HR5.out.2.1⟩, conv_rowS HR5.out.2.2⟩ (fun _ => ?_)
        clear hK K
        try simp only [List.setIfInBounds_toArray, List.set_cons_zero, List.set_cons_succ]
        refine wpAnyH_take (i := 16) (oi := { dst := some 61, op := Go.Op.pick (Go.Operand.tmp 59) (Go.Operand.tmp 60) (Go.Operand.const (Go.Value.bool false)), type := 4, pos := "law.go:118", after := #[{ on := 14, ground := Go.Ground.data }, { on := 15, ground := Go.Ground.data }], guard := none }) (v := ?_) rfl (by kernel_rfl) (by kernel_rfl) (by kernel_rfl) (fun _ _ _ h => h) (Or.inl ⟨by rfl, ?_⟩) (by assumption) ?_
        rotate_left
        · intro wz hSw; (try dsimp only at hSw); go_simp; (try with_reducible rfl)
        try simp only [Act.put, List.setIfInBounds_toArray, List.set_cons_zero, List.set_cons_succ]
        refine wpAnyH_take (i := 17) (oi := { dst := some 6, op := Go.Op.assign (Go.Operand.tmp 61), type := 4, pos := "law.go:118", after := #[{ on := 16, ground := Go.Ground.data }, { on := 15, ground := Go.Ground.chain }, { on := 0, ground := Go.Ground.phase }, { on := 1, ground := Go.Ground.phase }, { on := 2, ground := Go.Ground.phase }, { on := 3, ground := Go.Ground.phase }, { on := 4, ground := Go.Ground.phase }, { on := 5, ground := Go.Ground.phase }, { on := 6, ground := Go.Ground.phase }, { on := 7, ground := Go.Ground.phase }, { on := 8, ground := Go.Ground.phase }, { on := 9, ground := Go.Ground.phase }, { on := 10, ground := Go.Ground.phase }, { on := 11, ground := Go.Ground.phase }, { on := 12, ground := Go.Ground.phase }, { on := 13, ground := Go.Ground.phase }, { on := 14, ground := Go.Ground.phase }, { on := 15, ground := Go.Ground.phase }, { on := 16, ground := Go.Ground.phase }], guard := none }) (v := ?_) rfl (by kernel_rfl) (by kernel_rfl) (by kernel_rfl) (fun _ _ _ h => h) (Or.inl ⟨by rfl, ?_⟩) (by assumption) ?_
        rotate_left
        · intro wz hSw; (try dsimp only at hSw); go_simp; (try with_reducible rfl)
        try simp only [Act.put, List.setIfInBounds_toArray, List.set_cons_zero, List.set_cons_succ]
        refine wpAnyH_done (by kernel_rfl) (NoPanic.normal ?_) _
        try simp only [Act.put, List.setIfInBounds_toArray, List.set_cons_zero, List.set_cons_succ]
        clear hHeld
        have HZ := hidV (HW.out y5 HR5.out.1.below)
        go_wp2
        go_ret
        exact ⟨rfl, HZ.out⟩
end Go.Proofs.YtanchjfodcjlmaaGreatDoor
