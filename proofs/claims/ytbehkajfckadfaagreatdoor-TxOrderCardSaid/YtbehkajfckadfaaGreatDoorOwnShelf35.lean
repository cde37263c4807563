/- TxOrder: the walk. -/
import Derived.Test.YtbehkajfckadfaaGreatDoorOwnShelf34
import Derived.Test.YtbehkajfckadfaaGreatDoorOwnShelf22
namespace Go.Proofs.YtbehkajfckadfaaGreatDoor
open Go.RowKit

theorem szPtR (z : Nat → Int) (n : Int) : (Tryz.prog.info? 53).map (·.size) = some (ptl z n).length := by rw [ptl_length]; kernel_rfl
section
variable {ops : Array Oper} {rest : List Oper} {o : Oper} {a : Act} {w : World} {Q : Exit → Act → World → Prop} {K : Act → World → Prop} {E : Prop}
theorem step_allocPt (hgd : o.guard = none) (ho : o.op = .alloc 46)
    (h : ∀ w1, New w w1 (ptv (fun _ => 0) 0) 46 → K (a.put o.dst (.pointer (some ⟨w.heap.size, 0, none⟩))) w1) : if Region.wanted o (yielded ops a.tmps) = true then Oper.wp Tryz.prog o a w K Q else E := by
  have hw : Region.wanted o (yielded ops a.tmps) = true := by simp [Region.wanted, hgd]
  rw [if_pos hw]
  have hr : (execOp a.eval o).run Tryz.prog w = .ok (.value (.pointer (some ⟨w.heap.size, 0, none⟩))) (w.alloc (.cells (ptv (fun _ => 0) 0) 46)) := by
    have h1 := run_allocPt w
    unfold execOp
    simp only [ho] at h1 ⊢
    simp only [Sem.run_bind] at h1 ⊢
    rw [h1]
    rfl
  unfold Oper.wp
  rw [hr]
  exact h _ (new_alloc w _ _)
theorem step_storePt (hgd : o.guard = none) (x y : Operand) (ho : o.op = .store 46 x y) (g : Nat) (hx : a.eval x = .pointer (some ⟨g, 0, none⟩)) (z : Nat → Int) (n : Int) (old : Array Value) (hu : old.size = 33) (hy : a.eval y = .agg (ptv z n)) (hg : w.heap[g]? = some (.cells old 46 (0, 0)))
    (h : ∀ w', w'.heap[g]? = some (.cells (ptv z n) 46 (0, 0)) → Frm [g] w w' → K (a.put o.dst undef) w') : if Region.wanted o (yielded ops a.tmps) = true then Oper.wp Tryz.prog o a w K Q else E := by
  have hw : Region.wanted o (yielded ops a.tmps) = true := by simp [Region.wanted, hgd]
  rw [if_pos hw]
  refine wp_store_mid 46 x y ho g 0 (ptv z n) hx hy ?_ (by rw [ptv_size]; exact szPt) (all_oneCell_toArray (ptl_one' _ _)) (h _ ?_ (setCells_frm g _ 0 w))
  · intro j hj
    rw [ptv_size] at hj
    refine ⟨?_, ?_⟩
    · rw [Nat.zero_add, cell_of_row w g j _ _ _ hg]
      simp [hu, hj]
    · rw [Nat.zero_add]; exact frozen_of_row w g j _ _ hg
  · have := setCells_at g (ptv z n).toList 0 w [] old.toList 46 (by simpa using hg) rfl (by simp [hu, ptv_size])
    rw [this]
    simp [ptv_size, hu, List.drop_eq_nil_of_le]
theorem wpList_loadWp (hw : Region.wanted o (yielded ops a.tmps) = true) (ty : TypeId) (x : Operand) (ho : o.op = .load ty x)
    (b f : Nat) (hx : a.eval x = .pointer (some ⟨b, f, none⟩)) (cs : List Value) (d : TypeDesc) (hc : w.rangeAt b f cs)
    (hu : Tryz.prog.underlying ty = some d) (hd : d.isRow = true) (hi : (Tryz.prog.info? ty).map (·.size) = some cs.length)
    (h : wpList Tryz.prog ops Q rest (a.put o.dst (.agg cs.toArray)) w) : wpList Tryz.prog ops Q (o :: rest) a w :=
  wpList_step fun K hK => by
    rw [if_pos hw]
    exact wp_load_mid ty x ho b f hx cs d hc hu hd hi (hK _ _ h)
end
/-- A point that came in. -/
structure Pt5 where
  z : Nat → Int
  n : Int
def Pt5.v (p : Pt5) : Array Value := ptv p.z p.n
/-- Three points lie in boxes of their own, made since w0. -/
structure Pts (w0 w : World) (p q r : Pt5) (A B C : Nat) : Prop where
  a : w.rangeAt A 0 (ptl p.z p.n)
  b : w.rangeAt B 0 (ptl q.z q.n)
  c : w.rangeAt C 0 (ptl r.z r.n)
  below : Below w0.heap.size w0 w
theorem Pts.mono {w0 w w' : World} {p q r : Pt5} {A B C : Nat} (h : Pts w0 w p q r A B C) (hb : Below w.heap.size w w') : Pts w0 w' p q r A B C := ⟨range_below h.a hb, range_below h.b hb, range_below h.c hb, h.below.trans (hb.mono h.below.size)⟩
/-- Three boxes that were made are written, one behind the other. -/
theorem three_stores {w0 vd w3 : World} {p q r : Pt5} {g1 g2 g3 A B C : Nat} {G : Prop} (H : Pts w0 vd p q r g1 g2 g3) (hb : Below vd.heap.size vd w3)
    (ha : w3.heap[A]? = some (.cells (ptv (fun _ => 0) 0) 46 (0, 0))) (hB : w3.heap[B]? = some (.cells (ptv (fun _ => 0) 0) 46 (0, 0))) (hC : w3.heap[C]? = some (.cells (ptv (fun _ => 0) 0) 46 (0, 0)))
    (lA : vd.heap.size ≤ A) (lB : vd.heap.size ≤ B) (lC : vd.heap.size ≤ C) (nAB : A ≠ B) (nAC : A ≠ C) (nBC : B ≠ C)
    (h : w3.heap[A]? = some (.cells (ptv (fun _ => 0) 0) 46 (0, 0)) ∧ True →
      (∀ w4 : World, w4.heap[A]? = some (.cells (ptv p.z p.n) 46 (0, 0)) → Frm [A] w3 w4 →
        Pts w0 w4 p q r g1 g2 g3 ∧ w4.heap[B]? = some (.cells (ptv (fun _ => 0) 0) 46 (0, 0)) ∧
        ∀ w5 : World, w5.heap[B]? = some (.cells (ptv q.z q.n) 46 (0, 0)) → Frm [B] w4 w5 →
          Pts w0 w5 p q r g1 g2 g3 ∧ w5.heap[C]? = some (.cells (ptv (fun _ => 0) 0) 46 (0, 0)) ∧
          ∀ w6 : World, w6.heap[C]? = some (.cells (ptv r.z r.n) 46 (0, 0)) → Frm [C] w5 w6 →
            Pts w0 w6 p q r g1 g2 g3 ∧ Pts w0 w6 p q r A B C) → G) : G := by
  refine h ⟨ha, trivial⟩ (fun w4 h4 f4 => ?_)
  have b4 : Below vd.heap.size vd w4 := hb.trans (f4.below hb.size (by simpa using lA))
  have B4 : w4.heap[B]? = some (.cells (ptv (fun _ => 0) 0) 46 (0, 0)) := by rw [f4.block B (lt_of_block hB) (by simpa using nAB.symm)]; exact hB
  have C4 : w4.heap[C]? = some (.cells (ptv (fun _ => 0) 0) 46 (0, 0)) := by rw [f4.block C (lt_of_block hC) (by simpa using nAC.symm)]; exact hC
  refine ⟨H.mono b4, B4, fun w5 h5 f5 => ?_⟩
  have b5 : Below vd.heap.size vd w5 := b4.trans (f5.below b4.size (by simpa using lB))
  have A5 : w5.heap[A]? = some (.cells (ptv p.z p.n) 46 (0, 0)) := by rw [f5.block A (lt_of_block h4) (by simpa using nAB)]; exact h4
  have C5 : w5.heap[C]? = some (.cells (ptv (fun _ => 0) 0) 46 (0, 0)) := by rw [f5.block C (lt_of_block C4) (by simpa using nBC.symm)]; exact C4
  refine ⟨H.mono b5, C5, fun w6 h6 f6 => ?_⟩
  have b6 : Below vd.heap.size vd w6 := b5.trans (f6.below b5.size (by simpa using lC))
  have A6 : w6.heap[A]? = some (.cells (ptv p.z p.n) 46 (0, 0)) := by rw [f6.block A (lt_of_block A5) (by simpa using nAC)]; exact A5
  have B6 : w6.heap[B]? = some (.cells (ptv q.z q.n) 46 (0, 0)) := by rw [f6.block B (lt_of_block h5) (by simpa using nBC)]; exact h5
  exact ⟨H.mono b6, ptl_range A6, ptl_range B6, ptl_range h6, (H.mono b6).below⟩
set_option maxRecDepth 100000 in
set_option maxHeartbeats 6400000 in
theorem lorder_any (p q r : Pt5) (w : World) (hg : Cd.Glob w) (hT : Tab w) (hp : Hb p.z ∧ Cd.Ib p.n) (hq : Hb q.z ∧ Cd.Ib q.n) (hr : Hb r.z ∧ Cd.Ib r.n) :
    Calls Tryz.prog 5 #[.agg (ptv p.z p.n), .agg (ptv q.z q.n), .agg (ptv r.z r.n)] w fun e w' => e = .returned (.bool true) ∧ Below w.heap.size w w' := by
  have hgl := hT.size
  have hpos := hg.pos
  have HI := hidV (And.intro hp (And.intro hq hr))
  have HF : Hid (∀ w', Below w.heap.size w w' → Cd.Glob w' ∧ Tab w' ∧ 4 ≤ w'.heap.size) := fun w' hb => ⟨hg.below hb hpos, hT.frm (S := []) (Frm.ofBelow hb) (fun k hk => by cases hk), by have := hb.size; omega⟩
  clear hg hT hgl hp hq hr
  go_enter Tryz.func5, Tryz.ntmps5
  go_upto_region 1 with (first | (refine wpList_boxN rfl _ _ rfl (ptv p.z p.n) rfl ?_; intro v1 N1) | (refine wpList_boxN rfl _ _ rfl (ptv q.z q.n) rfl ?_; intro v2 N2) | (refine wpList_boxN rfl _ _ rfl (ptv r.z r.n) rfl ?_; intro v3 N3) | fail)
  have HP : Hid (Pts w v3 p q r w.heap.size v1.heap.size v2.heap.size) := ⟨ptl_range (heap_below N3.below (heap_below N2.below N1.blk)), ptl_range (heap_below N3.below N2.blk), ptl_range N3.blk, Below.transS (Below.transS N1.below N2.below) N3.below⟩
  clear N1 N2 N3
  refine wp_region_noPanic ?_
  refine wp_region_held_drew (S := fun w' => Pts w w' p q r w.heap.size v1.heap.size v2.heap.size) (by kernel_rfl) (HP.out.mono (Below.refl _ _).drew) (fun hHeld => ?_)
  have Hvd := hidV (HP.out.mono (Below.refl v3.heap.size v3).drew)
  clear HP
  generalize v3.drew = vd at *
  refine wpAnyH_take (i := 0) (oi := { dst := some 10, op := Go.Op.load 53 (Go.Operand.tmp 3), type := 53, pos := "law.go:153", after := #[], guard := none }) rfl (by kernel_rfl) (by kernel_rfl) (by kernel_rfl) (fun _ _ _ h => h) (yieldsIf_load_mid (by rfl) _ _ rfl w.heap.size 0 rfl (ptl p.z p.n) _ (fun _ h => h.a) Tryz.underlying53 rfl (szPtR _ _)) (by assumption) ?_
  try simp only [Act.put, List.setIfInBounds_toArray, List.set_cons_zero, List.set_cons_succ]
  refine wpAnyH_take (i := 1) (oi := { dst := some 11, op := Go.Op.load 53 (Go.Operand.tmp 4), type := 53, pos := "law.go:153", after := #[{ on := 6, ground := Go.Ground.gcOnly Go.Departure.lateStores }], guard := none }) rfl (by kernel_rfl) (by kernel_rfl) (by kernel_rfl) (fun _ _ _ h => h) (yieldsIf_load_mid (by rfl) _ _ rfl v1.heap.size 0 rfl (ptl q.z q.n) _ (fun _ h => h.b) Tryz.underlying53 rfl (szPtR _ _)) (by assumption) ?_
  try simp only [Act.put, List.setIfInBounds_toArray, List.set_cons_zero, List.set_cons_succ]
  refine wpAnyH_take (i := 2) (oi := { dst := some 12, op := Go.Op.load 53 (Go.Operand.tmp 5), type := 53, pos := "law.go:153", after := #[{ on := 7, ground := Go.Ground.gcOnly Go.Departure.lateStores }], guard := none }) rfl (by kernel_rfl) (by kernel_rfl) (by kernel_rfl) (fun _ _ _ h => h) (yieldsIf_load_mid (by rfl) _ _ rfl v2.heap.size 0 rfl (ptl r.z r.n) _ (fun _ h => h.c) Tryz.underlying53 rfl (szPtR _ _)) (by assumption) ?_
  try simp only [Act.put, List.setIfInBounds_toArray, List.set_cons_zero, List.set_cons_succ]
  rename_i Q0 KK hrest
  have HS : ∀ (A B C : Nat) (w1 : World), Pts w w1 p q r A B C → KK { tmps := #[.agg (ptv p.z p.n), .agg (ptv q.z q.n), .agg (ptv r.z r.n), .pointer (some ⟨w.heap.size, 0, none⟩), .pointer (some ⟨v1.heap.size, 0, none⟩), .pointer (some ⟨v2.heap.size, 0, none⟩), .bool false, .pointer (some ⟨A, 0, none⟩), .pointer (some ⟨B, 0, none⟩), .pointer (some ⟨C, 0, none⟩), .agg (ptl p.z p.n).toArray, .agg (ptl q.z q.n).toArray, .agg (ptl r.z r.n).toArray, undef, undef, undef, undef, undef, undef, undef, undef, undef, undef, undef, undef, undef, undef, undef, undef, undef, undef, undef, undef, undef, undef, undef, undef, undef, undef, undef, undef, undef, undef, undef, undef, undef, undef, undef, undef, undef, undef, undef, undef, undef, undef], defers := [] } w1 := by
    intro A B C w1 hP
    refine hrest _ _ ?_
    have HP := hidV hP
    clear hP hrest Hvd hHeld
    have HZp : Hb p.z := HI.out.1.1
    have HZq : Hb q.z := HI.out.2.1.1
    have HZr : Hb r.z := HI.out.2.2.1
    have HNp : Kp.Ib p.n := HI.out.1.2
    have HNq : Kp.Ib q.n := HI.out.2.1.2
    have heq := less_eq p.z p.n q.z q.n
    cases hxy : lessB p.z p.n q.z q.n with
    | true =>
      have HXY := hidV hxy
      have HYX := hidV (less_asym hxy)
      have HEQ : Hid ((hq p.z q.z && decide (p.n = q.n)) = false) := by show _ = _; rw [heq, hxy]; rfl
      clear heq hxy
      go_upto_region 2 with fail
      refine wp_region_noPanic ?_
      refine wp_region_held_drew (S := fun w' => Pts w w' p q r A B C) (by kernel_rfl) (HP.out.mono (Below.refl _ _).drew) (fun hHeld => ?_)
      have Sud := HP.out.mono (Below.refl w1.heap.size w1).drew
      clear HP
      generalize w1.drew = ud at *
      refine wpAnyH_take (i := 0) (oi := { dst := some 13, op := Go.Op.load 46 (Go.Operand.tmp 7), type := 46, pos := "law.go:154", after := #[], guard := none }) rfl (by kernel_rfl) (by kernel_rfl) (by kernel_rfl) (fun _ _ _ h => h) (yieldsIf_load_mid (by rfl) _ _ rfl A 0 rfl (ptl p.z p.n) _ (fun _ h => h.a) Tryz.underlying46 rfl (szPtl _ _)) (by assumption) ?_
      try simp only [Act.put, List.setIfInBounds_toArray, List.set_cons_zero, List.set_cons_succ]
      refine wpAnyH_take (i := 1) (oi := { dst := some 14, op := Go.Op.load 46 (Go.Operand.tmp 8), type := 46, pos := "law.go:154", after := #[], guard := none }) rfl (by kernel_rfl) (by kernel_rfl) (by kernel_rfl) (fun _ _ _ h => h) (yieldsIf_load_mid (by rfl) _ _ rfl B 0 rfl (ptl q.z q.n) _ (fun _ h => h.b) Tryz.underlying46 rfl (szPtl _ _)) (by assumption) ?_
      try simp only [Act.put, List.setIfInBounds_toArray, List.set_cons_zero, List.set_cons_succ]
      refine wpAnyH_ready (rs := [2]) (by kernel_rfl) (by simp) ?_
      refine (AllReadyH.cons (o := { dst := some 15, op := Go.Op.call { callee := Go.Callee.value (Go.Operand.func 16), args := #[Go.Operand.tmp 13, Go.Operand.tmp 14], argTypes := #[46, 46] }, type := 4, pos := "law.go:154", after := #[{ on := 0, ground := Go.Ground.data }, { on := 1, ground := Go.Ground.data }], guard := none }) rfl (fun K hK => ?_) AllReadyH.nil)
      go_simp
      refine (kless_any p.z p.n q.z q.n ud (HZp) (HZq)).mono ?_
      rintro e ue ⟨rfl, hb⟩
      rw [HXY.out]
      have Sue := Sud.mono hb
      clear hb Sud
      refine hK.out _ _ Sue (fun _ => ?_)
      clear hK K
      try simp only [Act.put, List.setIfInBounds_toArray, List.set_cons_zero, List.set_cons_succ]
      refine wpAnyH_take (i := 3) (oi := { dst := some 16, op := Go.Op.move (Go.Operand.tmp 15), type := 4, pos := "law.go:154", after := #[{ on := 2, ground := Go.Ground.data }, { on := 2, ground := Go.Ground.chain }], guard := none }) (v := ?_) rfl (by kernel_rfl) (by kernel_rfl) (by kernel_rfl) (fun _ _ _ h => h) (Or.inl ⟨by rfl, ?_⟩) (by assumption) ?_
      rotate_left
      · intro wz hSw; (try dsimp only at hSw); go_simp; (try with_reducible rfl)
      try simp only [Act.put, List.setIfInBounds_toArray, List.set_cons_zero, List.set_cons_succ]
      refine wpAnyH_take (i := 4) (oi := { dst := some 17, op := Go.Op.load 46 (Go.Operand.tmp 8), type := 46, pos := "law.go:154", after := #[{ on := 3, ground := Go.Ground.guard }], guard := some (3, true) }) rfl (by kernel_rfl) (by kernel_rfl) (by kernel_rfl) (fun _ _ _ h => h) (yieldsIf_load_mid (by rfl) _ _ rfl B 0 rfl (ptl q.z q.n) _ (fun _ h => h.b) Tryz.underlying46 rfl (szPtl _ _)) (by assumption) ?_
      try simp only [Act.put, List.setIfInBounds_toArray, List.set_cons_zero, List.set_cons_succ]
      refine wpAnyH_take (i := 5) (oi := { dst := some 18, op := Go.Op.load 46 (Go.Operand.tmp 7), type := 46, pos := "law.go:154", after := #[{ on := 3, ground := Go.Ground.guard }], guard := some (3, true) }) rfl (by kernel_rfl) (by kernel_rfl) (by kernel_rfl) (fun _ _ _ h => h) (yieldsIf_load_mid (by rfl) _ _ rfl A 0 rfl (ptl p.z p.n) _ (fun _ h => h.a) Tryz.underlying46 rfl (szPtl _ _)) (by assumption) ?_
      try simp only [Act.put, List.setIfInBounds_toArray, List.set_cons_zero, List.set_cons_succ]
      refine wpAnyH_ready (rs := [6]) (by kernel_rfl) (by simp) ?_
      refine (AllReadyH.cons (o := { dst := some 19, op := Go.Op.call { callee := Go.Callee.value (Go.Operand.func 16), args := #[Go.Operand.tmp 17, Go.Operand.tmp 18], argTypes := #[46, 46] }, type := 4, pos := "law.go:154", after := #[{ on := 4, ground := Go.Ground.data }, { on := 5, ground := Go.Ground.data }, { on := 3, ground := Go.Ground.chain }, { on := 3, ground := Go.Ground.guard }], guard := some (3, true) }) rfl (fun K hK => ?_) AllReadyH.nil)
      go_simp
      refine (kless_any q.z q.n p.z p.n ue (HZq) (HZp)).mono ?_
      rintro e uf ⟨rfl, hb⟩
      rw [HYX.out]
      have Suf := Sue.mono hb
      clear hb Sue
      refine hK.out _ _ Suf (fun _ => ?_)
      clear hK K
      try simp only [Act.put, List.setIfInBounds_toArray, List.set_cons_zero, List.set_cons_succ]
      refine wpAnyH_take (i := 7) (oi := { dst := some 20, op := Go.Op.pick (Go.Operand.tmp 16) (Go.Operand.tmp 19) (Go.Operand.const (Go.Value.bool false)), type := 4, pos := "law.go:154", after := #[{ on := 3, ground := Go.Ground.data }, { on := 6, ground := Go.Ground.data }], guard := none }) (v := ?_) rfl (by kernel_rfl) (by kernel_rfl) (by kernel_rfl) (fun _ _ _ h => h) (Or.inl ⟨by rfl, ?_⟩) (by assumption) ?_
      rotate_left
      · intro wz hSw; (try dsimp only at hSw); go_simp; (try with_reducible rfl)
      try simp only [Act.put, List.setIfInBounds_toArray, List.set_cons_zero, List.set_cons_succ]
      refine wpAnyH_take (i := 8) (oi := { dst := some 21, op := Go.Op.move (Go.Operand.tmp 20), type := 4, pos := "law.go:154", after := #[{ on := 7, ground := Go.Ground.data }, { on := 6, ground := Go.Ground.chain }], guard := none }) (v := ?_) rfl (by kernel_rfl) (by kernel_rfl) (by kernel_rfl) (fun _ _ _ h => h) (Or.inl ⟨by rfl, ?_⟩) (by assumption) ?_
      rotate_left
      · intro wz hSw; (try dsimp only at hSw); go_simp; (try with_reducible rfl)
      try simp only [Act.put, List.setIfInBounds_toArray, List.set_cons_zero, List.set_cons_succ]
      refine wpAnyH_take (i := 9) (oi := { dst := some 22, op := Go.Op.load 46 (Go.Operand.tmp 7), type := 46, pos := "law.go:154", after := #[{ on := 8, ground := Go.Ground.guard }], guard := some (8, false) }) rfl (by kernel_rfl) (by kernel_rfl) (by kernel_rfl) (fun _ _ _ h => h) (yieldsIf_load_mid (by rfl) _ _ rfl A 0 rfl (ptl p.z p.n) _ (fun _ h => h.a) Tryz.underlying46 rfl (szPtl _ _)) (by assumption) ?_
      try simp only [Act.put, List.setIfInBounds_toArray, List.set_cons_zero, List.set_cons_succ]
      refine wpAnyH_take (i := 10) (oi := { dst := some 23, op := Go.Op.load 46 (Go.Operand.tmp 8), type := 46, pos := "law.go:154", after := #[{ on := 8, ground := Go.Ground.guard }], guard := some (8, false) }) rfl (by kernel_rfl) (by kernel_rfl) (by kernel_rfl) (fun _ _ _ h => h) (yieldsIf_load_mid (by rfl) _ _ rfl B 0 rfl (ptl q.z q.n) _ (fun _ h => h.b) Tryz.underlying46 rfl (szPtl _ _)) (by assumption) ?_
      try simp only [Act.put, List.setIfInBounds_toArray, List.set_cons_zero, List.set_cons_succ]
      refine wpAnyH_take (i := 12) (oi := { dst := some 25, op := Go.Op.load 46 (Go.Operand.tmp 7), type := 46, pos := "law.go:154", after := #[{ on := 8, ground := Go.Ground.guard }], guard := some (8, false) }) rfl (by kernel_rfl) (by kernel_rfl) (by kernel_rfl) (fun _ _ _ h => h) (yieldsIf_load_mid (by rfl) _ _ rfl A 0 rfl (ptl p.z p.n) _ (fun _ h => h.a) Tryz.underlying46 rfl (szPtl _ _)) (by assumption) ?_
      try simp only [Act.put, List.setIfInBounds_toArray, List.set_cons_zero, List.set_cons_succ]
      refine wpAnyH_take (i := 13) (oi := { dst := some 26, op := Go.Op.load 46 (Go.Operand.tmp 8), type := 46, pos := "law.go:154", after := #[{ on := 8, ground := Go.Ground.guard }], guard := some (8, false) }) rfl (by kernel_rfl) (by kernel_rfl) (by kernel_rfl) (fun _ _ _ h => h) (yieldsIf_load_mid (by rfl) _ _ rfl B 0 rfl (ptl q.z q.n) _ (fun _ h => h.b) Tryz.underlying46 rfl (szPtl _ _)) (by assumption) ?_
      try simp only [Act.put, List.setIfInBounds_toArray, List.set_cons_zero, List.set_cons_succ]
      refine wpAnyH_take (i := 11) (oi := { dst := some 24, op := Go.Op.binOp Go.BinOp.eql 46 (Go.Operand.tmp 22) (Go.Operand.tmp 23) 46, type := 4, pos := "law.go:154", after := #[{ on := 9, ground := Go.Ground.data }, { on := 10, ground := Go.Ground.data }, { on := 8, ground := Go.Ground.guard }], guard := some (8, false) }) (v := .bool false) rfl (by kernel_rfl) (by kernel_rfl) (by kernel_rfl) (fun _ _ _ h => h) (Or.inl ⟨by rfl, ?_⟩) (by assumption) ?_
      · intro wz hSw; (try dsimp only at hSw); exact exec_eqPt _ _ rfl HZp HZq HNp HNq false HEQ.out rfl rfl wz
      try simp only [Act.put, List.setIfInBounds_toArray, List.set_cons_zero, List.set_cons_succ]
      refine wpAnyH_ready (rs := [14]) (by kernel_rfl) (by simp) ?_
      refine (AllReadyH.cons (o := { dst := some 27, op := Go.Op.call { callee := Go.Callee.value (Go.Operand.func 16), args := #[Go.Operand.tmp 25, Go.Operand.tmp 26], argTypes := #[46, 46] }, type := 4, pos := "law.go:154", after := #[{ on := 12, ground := Go.Ground.data }, { on := 13, ground := Go.Ground.data }, { on := 8, ground := Go.Ground.chain }, { on := 8, ground := Go.Ground.guard }], guard := some (8, false) }) rfl (fun K hK => ?_) AllReadyH.nil)
      go_simp
      refine (kless_any p.z p.n q.z q.n uf (HZp) (HZq)).mono ?_
      rintro e ug ⟨rfl, hb⟩
      rw [HXY.out]
      have Sug := Suf.mono hb
      clear hb Suf
      refine hK.out _ _ Sug (fun _ => ?_)
      clear hK K
      try simp only [Act.put, List.setIfInBounds_toArray, List.set_cons_zero, List.set_cons_succ]
      refine wpAnyH_take (i := 15) (oi := { dst := some 28, op := Go.Op.unOp Go.UnOp.not 4 (Go.Operand.tmp 27), type := 4, pos := "law.go:154", after := #[{ on := 14, ground := Go.Ground.data }, { on := 8, ground := Go.Ground.guard }], guard := some (8, false) }) (v := ?_) rfl (by kernel_rfl) (by kernel_rfl) (by kernel_rfl) (fun _ _ _ h => h) (Or.inl ⟨by rfl, ?_⟩) (by assumption) ?_
      rotate_left
      · intro wz hSw; (try dsimp only at hSw); go_simp; (try with_reducible rfl)
      try simp only [Act.put, List.setIfInBounds_toArray, List.set_cons_zero, List.set_cons_succ]
      refine wpAnyH_take (i := 16) (oi := { dst := some 29, op := Go.Op.move (Go.Operand.tmp 28), type := 4, pos := "law.go:154", after := #[{ on := 15, ground := Go.Ground.data }, { on := 14, ground := Go.Ground.chain }, { on := 8, ground := Go.Ground.guard }], guard := some (8, false) }) (v := ?_) rfl (by kernel_rfl) (by kernel_rfl) (by kernel_rfl) (fun _ _ _ h => h) (Or.inl ⟨by rfl, ?_⟩) (by assumption) ?_
      rotate_left
      · intro wz hSw; (try dsimp only at hSw); go_simp; (try with_reducible rfl)
      try simp only [Act.put, List.setIfInBounds_toArray, List.set_cons_zero, List.set_cons_succ]
      refine wpAnyH_take (i := 17) (oi := { dst := some 30, op := Go.Op.load 46 (Go.Operand.tmp 8), type := 46, pos := "law.go:154", after := #[{ on := 16, ground := Go.Ground.guard }], guard := some (16, true) }) (v := undef) rfl (by kernel_rfl) (by kernel_rfl) (by kernel_rfl) (fun _ _ _ h => h) (Or.inr ⟨by rfl, rfl⟩) (by assumption) ?_
      try simp only [Act.put, List.setIfInBounds_toArray, List.set_cons_zero, List.set_cons_succ]
      refine wpAnyH_take (i := 18) (oi := { dst := some 31, op := Go.Op.load 46 (Go.Operand.tmp 7), type := 46, pos := "law.go:154", after := #[{ on := 16, ground := Go.Ground.guard }], guard := some (16, true) }) (v := undef) rfl (by kernel_rfl) (by kernel_rfl) (by kernel_rfl) (fun _ _ _ h => h) (Or.inr ⟨by rfl, rfl⟩) (by assumption) ?_
      try simp only [Act.put, List.setIfInBounds_toArray, List.set_cons_zero, List.set_cons_succ]
      refine wpAnyH_take (i := 19) (oi := { dst := some 32, op := Go.Op.call { callee := Go.Callee.value (Go.Operand.func 16), args := #[Go.Operand.tmp 30, Go.Operand.tmp 31], argTypes := #[46, 46] }, type := 4, pos := "law.go:154", after := #[{ on := 17, ground := Go.Ground.data }, { on := 18, ground := Go.Ground.data }, { on := 16, ground := Go.Ground.chain }, { on := 16, ground := Go.Ground.guard }], guard := some (16, true) }) (v := undef) rfl (by kernel_rfl) (by kernel_rfl) (by kernel_rfl) (fun _ _ _ h => h) (Or.inr ⟨by rfl, rfl⟩) (by assumption) ?_
      try simp only [Act.put, List.setIfInBounds_toArray, List.set_cons_zero, List.set_cons_succ]
      refine wpAnyH_take (i := 20) (oi := { dst := some 33, op := Go.Op.unOp Go.UnOp.not 4 (Go.Operand.tmp 32), type := 4, pos := "law.go:154", after := #[{ on := 19, ground := Go.Ground.data }, { on := 16, ground := Go.Ground.guard }], guard := some (16, true) }) (v := undef) rfl (by kernel_rfl) (by kernel_rfl) (by kernel_rfl) (fun _ _ _ h => h) (Or.inr ⟨by rfl, rfl⟩) (by assumption) ?_
      try simp only [Act.put, List.setIfInBounds_toArray, List.set_cons_zero, List.set_cons_succ]
      refine wpAnyH_take (i := 21) (oi := { dst := some 34, op := Go.Op.pick (Go.Operand.tmp 29) (Go.Operand.tmp 33) (Go.Operand.const (Go.Value.bool false)), type := 4, pos := "law.go:154", after := #[{ on := 16, ground := Go.Ground.data }, { on := 20, ground := Go.Ground.data }, { on := 8, ground := Go.Ground.guard }], guard := some (8, false) }) (v := ?_) rfl (by kernel_rfl) (by kernel_rfl) (by kernel_rfl) (fun _ _ _ h => h) (Or.inl ⟨by rfl, ?_⟩) (by assumption) ?_
      rotate_left
      · intro wz hSw; (try dsimp only at hSw); go_simp; (try with_reducible rfl)
      try simp only [Act.put, List.setIfInBounds_toArray, List.set_cons_zero, List.set_cons_succ]
      refine wpAnyH_take (i := 22) (oi := { dst := some 35, op := Go.Op.binOp Go.BinOp.neq 4 (Go.Operand.tmp 24) (Go.Operand.tmp 34) 4, type := 4, pos := "law.go:154", after := #[{ on := 11, ground := Go.Ground.data }, { on := 21, ground := Go.Ground.data }, { on := 8, ground := Go.Ground.guard }], guard := some (8, false) }) (v := ?_) rfl (by kernel_rfl) (by kernel_rfl) (by kernel_rfl) (fun _ _ _ h => h) (Or.inl ⟨by rfl, ?_⟩) (by assumption) ?_
      rotate_left
      · intro wz hSw; (try dsimp only at hSw); go_simp; (try with_reducible rfl)
      try simp only [Act.put, List.setIfInBounds_toArray, List.set_cons_zero, List.set_cons_succ]
      refine wpAnyH_take (i := 23) (oi := { dst := some 36, op := Go.Op.pick (Go.Operand.tmp 21) (Go.Operand.const (Go.Value.bool true)) (Go.Operand.tmp 35), type := 4, pos := "law.go:154", after := #[{ on := 8, ground := Go.Ground.data }, { on := 22, ground := Go.Ground.data }], guard := none }) (v := ?_) rfl (by kernel_rfl) (by kernel_rfl) (by kernel_rfl) (fun _ _ _ h => h) (Or.inl ⟨by rfl, ?_⟩) (by assumption) ?_
      rotate_left
      · intro wz hSw; (try dsimp only at hSw); go_simp; (try with_reducible rfl)
      try simp only [Act.put, List.setIfInBounds_toArray, List.set_cons_zero, List.set_cons_succ]
      refine wpAnyH_done (by kernel_rfl) (NoPanic.normal ?_) _
      try simp only [Act.put, List.setIfInBounds_toArray, List.set_cons_zero, List.set_cons_succ]
      clear hHeld
      have HP := hidV Sug
      clear Sug
      go_wp2_with (first | (refine wpList_loadWp (by rfl) 46 _ rfl A 0 rfl (ptl p.z p.n) _ HP.out.a Tryz.underlying46 rfl (szPtl _ _) ?_) | (refine wpList_loadWp (by rfl) 46 _ rfl B 0 rfl (ptl q.z q.n) _ HP.out.b Tryz.underlying46 rfl (szPtl _ _) ?_) | (refine wpList_loadWp (by rfl) 46 _ rfl C 0 rfl (ptl r.z r.n) _ HP.out.c Tryz.underlying46 rfl (szPtl _ _) ?_) | fail)
      refine (kless_any p.z p.n q.z q.n ug (HZp) (HZq)).mono ?_
      rintro e ui ⟨rfl, hb⟩
      rw [HXY.out]
      have HPui := hidV (HP.out.mono hb)
      clear hb HP
      cases hyz : lessB q.z q.n r.z r.n with
      | true =>
        have HYZ := hidV hyz
        have HXZ := hidV (less_trans HXY.out hyz)
        clear hyz
        go_wp2_with (first | (refine wpList_loadWp (by rfl) 46 _ rfl A 0 rfl (ptl p.z p.n) _ HPui.out.a Tryz.underlying46 rfl (szPtl _ _) ?_) | (refine wpList_loadWp (by rfl) 46 _ rfl B 0 rfl (ptl q.z q.n) _ HPui.out.b Tryz.underlying46 rfl (szPtl _ _) ?_) | (refine wpList_loadWp (by rfl) 46 _ rfl C 0 rfl (ptl r.z r.n) _ HPui.out.c Tryz.underlying46 rfl (szPtl _ _) ?_) | fail)
        refine (kless_any q.z q.n r.z r.n ui (HZq) (HZr)).mono ?_
        rintro e uj ⟨rfl, hb⟩
        rw [HYZ.out]
        have HPuj := hidV (HPui.out.mono hb)
        clear hb HPui
        go_wp2_with (first | (refine wpList_loadWp (by rfl) 46 _ rfl A 0 rfl (ptl p.z p.n) _ HPuj.out.a Tryz.underlying46 rfl (szPtl _ _) ?_) | (refine wpList_loadWp (by rfl) 46 _ rfl B 0 rfl (ptl q.z q.n) _ HPuj.out.b Tryz.underlying46 rfl (szPtl _ _) ?_) | (refine wpList_loadWp (by rfl) 46 _ rfl C 0 rfl (ptl r.z r.n) _ HPuj.out.c Tryz.underlying46 rfl (szPtl _ _) ?_) | fail)
        refine (kless_any p.z p.n r.z r.n uj (HZp) (HZr)).mono ?_
        rintro e uk ⟨rfl, hb⟩
        rw [HXZ.out]
        have HPuk := hidV (HPuj.out.mono hb)
        clear hb HPuj
        go_wp2_with (first | (refine wpList_loadWp (by rfl) 46 _ rfl A 0 rfl (ptl p.z p.n) _ HPuk.out.a Tryz.underlying46 rfl (szPtl _ _) ?_) | (refine wpList_loadWp (by rfl) 46 _ rfl B 0 rfl (ptl q.z q.n) _ HPuk.out.b Tryz.underlying46 rfl (szPtl _ _) ?_) | (refine wpList_loadWp (by rfl) 46 _ rfl C 0 rfl (ptl r.z r.n) _ HPuk.out.c Tryz.underlying46 rfl (szPtl _ _) ?_) | fail)
        refine (sure_any uk (HF.out uk HPuk.out.below).1 (HF.out uk HPuk.out.below).2.1 (HF.out uk HPuk.out.below).2.2).mono ?_
        rintro e uz ⟨rfl, hb⟩
        have HZ := hidV (Below.transS HPuk.out.below hb)
        clear hb
        go_wp2
        go_ret
        exact ⟨rfl, HZ.out⟩
      | false =>
        have HYZ := hidV hyz
        clear hyz
        go_wp2_with (first | (refine wpList_loadWp (by rfl) 46 _ rfl A 0 rfl (ptl p.z p.n) _ HPui.out.a Tryz.underlying46 rfl (szPtl _ _) ?_) | (refine wpList_loadWp (by rfl) 46 _ rfl B 0 rfl (ptl q.z q.n) _ HPui.out.b Tryz.underlying46 rfl (szPtl _ _) ?_) | (refine wpList_loadWp (by rfl) 46 _ rfl C 0 rfl (ptl r.z r.n) _ HPui.out.c Tryz.underlying46 rfl (szPtl _ _) ?_) | fail)
        refine (kless_any q.z q.n r.z r.n ui (HZq) (HZr)).mono ?_
        rintro e uj ⟨rfl, hb⟩
        rw [HYZ.out]
        have HPuj := hidV (HPui.out.mono hb)
        clear hb HPui
        go_wp2_with (first | (refine wpList_loadWp (by rfl) 46 _ rfl A 0 rfl (ptl p.z p.n) _ HPuj.out.a Tryz.underlying46 rfl (szPtl _ _) ?_) | (refine wpList_loadWp (by rfl) 46 _ rfl B 0 rfl (ptl q.z q.n) _ HPuj.out.b Tryz.underlying46 rfl (szPtl _ _) ?_) | (refine wpList_loadWp (by rfl) 46 _ rfl C 0 rfl (ptl r.z r.n) _ HPuj.out.c Tryz.underlying46 rfl (szPtl _ _) ?_) | fail)
        refine (sure_any uj (HF.out uj HPuj.out.below).1 (HF.out uj HPuj.out.below).2.1 (HF.out uj HPuj.out.below).2.2).mono ?_
        rintro e uz ⟨rfl, hb⟩
        have HZ := hidV (Below.transS HPuj.out.below hb)
        clear hb
        go_wp2
        go_ret
        exact ⟨rfl, HZ.out⟩
    | false =>
      have HXY := hidV hxy
      cases hyx : lessB q.z q.n p.z p.n with
      | true =>
        have HYX := hidV hyx
        have HEQ : Hid ((hq p.z q.z && decide (p.n = q.n)) = false) := by show _ = _; rw [heq, hxy, hyx]; rfl
        clear heq hxy hyx
        go_upto_region 2 with fail
        refine wp_region_noPanic ?_
        refine wp_region_held_drew (S := fun w' => Pts w w' p q r A B C) (by kernel_rfl) (HP.out.mono (Below.refl _ _).drew) (fun hHeld => ?_)
        have Sud := HP.out.mono (Below.refl w1.heap.size w1).drew
        clear HP
        generalize w1.drew = ud at *
        refine wpAnyH_take (i := 0) (oi := { dst := some 13, op := Go.Op.load 46 (Go.Operand.tmp 7), type := 46, pos := "law.go:154", after := #[], guard := none }) rfl (by kernel_rfl) (by kernel_rfl) (by kernel_rfl) (fun _ _ _ h => h) (yieldsIf_load_mid (by rfl) _ _ rfl A 0 rfl (ptl p.z p.n) _ (fun _ h => h.a) Tryz.underlying46 rfl (szPtl _ _)) (by assumption) ?_
        try simp only [Act.put, List.setIfInBounds_toArray, List.set_cons_zero, List.set_cons_succ]
        refine wpAnyH_take (i := 1) (oi := { dst := some 14, op := Go.Op.load 46 (Go.Operand.tmp 8), type := 46, pos := "law.go:154", after := #[], guard := none }) rfl (by kernel_rfl) (by kernel_rfl) (by kernel_rfl) (fun _ _ _ h => h) (yieldsIf_load_mid (by rfl) _ _ rfl B 0 rfl (ptl q.z q.n) _ (fun _ h => h.b) Tryz.underlying46 rfl (szPtl _ _)) (by assumption) ?_
        try simp only [Act.put, List.setIfInBounds_toArray, List.set_cons_zero, List.set_cons_succ]
        refine wpAnyH_ready (rs := [2]) (by kernel_rfl) (by simp) ?_
        refine (AllReadyH.cons (o := { dst := some 15, op := Go.Op.call { callee := Go.Callee.value (Go.Operand.func 16), args := #[Go.Operand.tmp 13, Go.Operand.tmp 14], argTypes := #[46, 46] }, type := 4, pos := "law.go:154", after := #[{ on := 0, ground := Go.Ground.data }, { on := 1, ground := Go.Ground.data }], guard := none }) rfl (fun K hK => ?_) AllReadyH.nil)
        go_simp
        refine (kless_any p.z p.n q.z q.n ud (HZp) (HZq)).mono ?_
        rintro e ue ⟨rfl, hb⟩
        rw [HXY.out]
        have Sue := Sud.mono hb
        clear hb Sud
        refine hK.out _ _ Sue (fun _ => ?_)
        clear hK K
        try simp only [Act.put, List.setIfInBounds_toArray, List.set_cons_zero, List.set_cons_succ]
        refine wpAnyH_take (i := 3) (oi := { dst := some 16, op := Go.Op.move (Go.Operand.tmp 15), type := 4, pos := "law.go:154", after := #[{ on := 2, ground := Go.Ground.data }, { on := 2, ground := Go.Ground.chain }], guard := none }) (v := ?_) rfl (by kernel_rfl) (by kernel_rfl) (by kernel_rfl) (fun _ _ _ h => h) (Or.inl ⟨by rfl, ?_⟩) (by assumption) ?_
        rotate_left
        · intro wz hSw; (try dsimp only at hSw); go_simp; (try with_reducible rfl)
        try simp only [Act.put, List.setIfInBounds_toArray, List.set_cons_zero, List.set_cons_succ]
        refine wpAnyH_take (i := 4) (oi := { dst := some 17, op := Go.Op.load 46 (Go.Operand.tmp 8), type := 46, pos := "law.go:154", after := #[{ on := 3, ground := Go.Ground.guard }], guard := some (3, true) }) (v := undef) rfl (by kernel_rfl) (by kernel_rfl) (by kernel_rfl) (fun _ _ _ h => h) (Or.inr ⟨by rfl, rfl⟩) (by assumption) ?_
        try simp only [Act.put, List.setIfInBounds_toArray, List.set_cons_zero, List.set_cons_succ]
        refine wpAnyH_take (i := 5) (oi := { dst := some 18, op := Go.Op.load 46 (Go.Operand.tmp 7), type := 46, pos := "law.go:154", after := #[{ on := 3, ground := Go.Ground.guard }], guard := some (3, true) }) (v := undef) rfl (by kernel_rfl) (by kernel_rfl) (by kernel_rfl) (fun _ _ _ h => h) (Or.inr ⟨by rfl, rfl⟩) (by assumption) ?_
        try simp only [Act.put, List.setIfInBounds_toArray, List.set_cons_zero, List.set_cons_succ]
        refine wpAnyH_take (i := 6) (oi := { dst := some 19, op := Go.Op.call { callee := Go.Callee.value (Go.Operand.func 16), args := #[Go.Operand.tmp 17, Go.Operand.tmp 18], argTypes := #[46, 46] }, type := 4, pos := "law.go:154", after := #[{ on := 4, ground := Go.Ground.data }, { on := 5, ground := Go.Ground.data }, { on := 3, ground := Go.Ground.chain }, { on := 3, ground := Go.Ground.guard }], guard := some (3, true) }) (v := undef) rfl (by kernel_rfl) (by kernel_rfl) (by kernel_rfl) (fun _ _ _ h => h) (Or.inr ⟨by rfl, rfl⟩) (by assumption) ?_
        try simp only [Act.put, List.setIfInBounds_toArray, List.set_cons_zero, List.set_cons_succ]
        refine wpAnyH_take (i := 7) (oi := { dst := some 20, op := Go.Op.pick (Go.Operand.tmp 16) (Go.Operand.tmp 19) (Go.Operand.const (Go.Value.bool false)), type := 4, pos := "law.go:154", after := #[{ on := 3, ground := Go.Ground.data }, { on := 6, ground := Go.Ground.data }], guard := none }) (v := ?_) rfl (by kernel_rfl) (by kernel_rfl) (by kernel_rfl) (fun _ _ _ h => h) (Or.inl ⟨by rfl, ?_⟩) (by assumption) ?_
        rotate_left
        · intro wz hSw; (try dsimp only at hSw); go_simp; (try with_reducible rfl)
        try simp only [Act.put, List.setIfInBounds_toArray, List.set_cons_zero, List.set_cons_succ]
        refine wpAnyH_take (i := 8) (oi := { dst := some 21, op := Go.Op.move (Go.Operand.tmp 20), type := 4, pos := "law.go:154", after := #[{ on := 7, ground := Go.Ground.data }, { on := 6, ground := Go.Ground.chain }], guard := none }) (v := ?_) rfl (by kernel_rfl) (by kernel_rfl) (by kernel_rfl) (fun _ _ _ h => h) (Or.inl ⟨by rfl, ?_⟩) (by assumption) ?_
        rotate_left
        · intro wz hSw; (try dsimp only at hSw); go_simp; (try with_reducible rfl)
        try simp only [Act.put, List.setIfInBounds_toArray, List.set_cons_zero, List.set_cons_succ]
        refine wpAnyH_take (i := 9) (oi := { dst := some 22, op := Go.Op.load 46 (Go.Operand.tmp 7), type := 46, pos := "law.go:154", after := #[{ on := 8, ground := Go.Ground.guard }], guard := some (8, false) }) rfl (by kernel_rfl) (by kernel_rfl) (by kernel_rfl) (fun _ _ _ h => h) (yieldsIf_load_mid (by rfl) _ _ rfl A 0 rfl (ptl p.z p.n) _ (fun _ h => h.a) Tryz.underlying46 rfl (szPtl _ _)) (by assumption) ?_
        try simp only [Act.put, List.setIfInBounds_toArray, List.set_cons_zero, List.set_cons_succ]
        refine wpAnyH_take (i := 10) (oi := { dst := some 23, op := Go.Op.load 46 (Go.Operand.tmp 8), type := 46, pos := "law.go:154", after := #[{ on := 8, ground := Go.Ground.guard }], guard := some (8, false) }) rfl (by kernel_rfl) (by kernel_rfl) (by kernel_rfl) (fun _ _ _ h => h) (yieldsIf_load_mid (by rfl) _ _ rfl B 0 rfl (ptl q.z q.n) _ (fun _ h => h.b) Tryz.underlying46 rfl (szPtl _ _)) (by assumption) ?_
        try simp only [Act.put, List.setIfInBounds_toArray, List.set_cons_zero, List.set_cons_succ]
        refine wpAnyH_take (i := 12) (oi := { dst := some 25, op := Go.Op.load 46 (Go.Operand.tmp 7), type := 46, pos := "law.go:154", after := #[{ on := 8, ground := Go.Ground.guard }], guard := some (8, false) }) rfl (by kernel_rfl) (by kernel_rfl) (by kernel_rfl) (fun _ _ _ h => h) (yieldsIf_load_mid (by rfl) _ _ rfl A 0 rfl (ptl p.z p.n) _ (fun _ h => h.a) Tryz.underlying46 rfl (szPtl _ _)) (by assumption) ?_
        try simp only [Act.put, List.setIfInBounds_toArray, List.set_cons_zero, List.set_cons_succ]
        refine wpAnyH_take (i := 13) (oi := { dst := some 26, op := Go.Op.load 46 (Go.Operand.tmp 8), type := 46, pos := "law.go:154", after := #[{ on := 8, ground := Go.Ground.guard }], guard := some (8, false) }) rfl (by kernel_rfl) (by kernel_rfl) (by kernel_rfl) (fun _ _ _ h => h) (yieldsIf_load_mid (by rfl) _ _ rfl B 0 rfl (ptl q.z q.n) _ (fun _ h => h.b) Tryz.underlying46 rfl (szPtl _ _)) (by assumption) ?_
        try simp only [Act.put, List.setIfInBounds_toArray, List.set_cons_zero, List.set_cons_succ]
        refine wpAnyH_take (i := 11) (oi := { dst := some 24, op := Go.Op.binOp Go.BinOp.eql 46 (Go.Operand.tmp 22) (Go.Operand.tmp 23) 46, type := 4, pos := "law.go:154", after := #[{ on := 9, ground := Go.Ground.data }, { on := 10, ground := Go.Ground.data }, { on := 8, ground := Go.Ground.guard }], guard := some (8, false) }) (v := .bool false) rfl (by kernel_rfl) (by kernel_rfl) (by kernel_rfl) (fun _ _ _ h => h) (Or.inl ⟨by rfl, ?_⟩) (by assumption) ?_
        · intro wz hSw; (try dsimp only at hSw); exact exec_eqPt _ _ rfl HZp HZq HNp HNq false HEQ.out rfl rfl wz
        try simp only [Act.put, List.setIfInBounds_toArray, List.set_cons_zero, List.set_cons_succ]
        refine wpAnyH_ready (rs := [14]) (by kernel_rfl) (by simp) ?_
        refine (AllReadyH.cons (o := { dst := some 27, op := Go.Op.call { callee := Go.Callee.value (Go.Operand.func 16), args := #[Go.Operand.tmp 25, Go.Operand.tmp 26], argTypes := #[46, 46] }, type := 4, pos := "law.go:154", after := #[{ on := 12, ground := Go.Ground.data }, { on := 13, ground := Go.Ground.data }, { on := 8, ground := Go.Ground.chain }, { on := 8, ground := Go.Ground.guard }], guard := some (8, false) }) rfl (fun K hK => ?_) AllReadyH.nil)
        go_simp
        refine (kless_any p.z p.n q.z q.n ue (HZp) (HZq)).mono ?_
        rintro e ug ⟨rfl, hb⟩
        rw [HXY.out]
        have Sug := Sue.mono hb
        clear hb Sue
        refine hK.out _ _ Sug (fun _ => ?_)
        clear hK K
        try simp only [Act.put, List.setIfInBounds_toArray, List.set_cons_zero, List.set_cons_succ]
        refine wpAnyH_take (i := 15) (oi := { dst := some 28, op := Go.Op.unOp Go.UnOp.not 4 (Go.Operand.tmp 27), type := 4, pos := "law.go:154", after := #[{ on := 14, ground := Go.Ground.data }, { on := 8, ground := Go.Ground.guard }], guard := some (8, false) }) (v := ?_) rfl (by kernel_rfl) (by kernel_rfl) (by kernel_rfl) (fun _ _ _ h => h) (Or.inl ⟨by rfl, ?_⟩) (by assumption) ?_
        rotate_left
        · intro wz hSw; (try dsimp only at hSw); go_simp; (try with_reducible rfl)
        try simp only [Act.put, List.setIfInBounds_toArray, List.set_cons_zero, List.set_cons_succ]
        refine wpAnyH_take (i := 16) (oi := { dst := some 29, op := Go.Op.move (Go.Operand.tmp 28), type := 4, pos := "law.go:154", after := #[{ on := 15, ground := Go.Ground.data }, { on := 14, ground := Go.Ground.chain }, { on := 8, ground := Go.Ground.guard }], guard := some (8, false) }) (v := ?_) rfl (by kernel_rfl) (by kernel_rfl) (by kernel_rfl) (fun _ _ _ h => h) (Or.inl ⟨by rfl, ?_⟩) (by assumption) ?_
        rotate_left
        · intro wz hSw; (try dsimp only at hSw); go_simp; (try with_reducible rfl)
        try simp only [Act.put, List.setIfInBounds_toArray, List.set_cons_zero, List.set_cons_succ]
        refine wpAnyH_take (i := 17) (oi := { dst := some 30, op := Go.Op.load 46 (Go.Operand.tmp 8), type := 46, pos := "law.go:154", after := #[{ on := 16, ground := Go.Ground.guard }], guard := some (16, true) }) rfl (by kernel_rfl) (by kernel_rfl) (by kernel_rfl) (fun _ _ _ h => h) (yieldsIf_load_mid (by rfl) _ _ rfl B 0 rfl (ptl q.z q.n) _ (fun _ h => h.b) Tryz.underlying46 rfl (szPtl _ _)) (by assumption) ?_
        try simp only [Act.put, List.setIfInBounds_toArray, List.set_cons_zero, List.set_cons_succ]
        refine wpAnyH_take (i := 18) (oi := { dst := some 31, op := Go.Op.load 46 (Go.Operand.tmp 7), type := 46, pos := "law.go:154", after := #[{ on := 16, ground := Go.Ground.guard }], guard := some (16, true) }) rfl (by kernel_rfl) (by kernel_rfl) (by kernel_rfl) (fun _ _ _ h => h) (yieldsIf_load_mid (by rfl) _ _ rfl A 0 rfl (ptl p.z p.n) _ (fun _ h => h.a) Tryz.underlying46 rfl (szPtl _ _)) (by assumption) ?_
        try simp only [Act.put, List.setIfInBounds_toArray, List.set_cons_zero, List.set_cons_succ]
        refine wpAnyH_ready (rs := [19]) (by kernel_rfl) (by simp) ?_
        refine (AllReadyH.cons (o := { dst := some 32, op := Go.Op.call { callee := Go.Callee.value (Go.Operand.func 16), args := #[Go.Operand.tmp 30, Go.Operand.tmp 31], argTypes := #[46, 46] }, type := 4, pos := "law.go:154", after := #[{ on := 17, ground := Go.Ground.data }, { on := 18, ground := Go.Ground.data }, { on := 16, ground := Go.Ground.chain }, { on := 16, ground := Go.Ground.guard }], guard := some (16, true) }) rfl (fun K hK => ?_) AllReadyH.nil)
        go_simp
        refine (kless_any q.z q.n p.z p.n ug (HZq) (HZp)).mono ?_
        rintro e uh ⟨rfl, hb⟩
        rw [HYX.out]
        have Suh := Sug.mono hb
        clear hb Sug
        refine hK.out _ _ Suh (fun _ => ?_)
        clear hK K
        try simp only [Act.put, List.setIfInBounds_toArray, List.set_cons_zero, List.set_cons_succ]
        refine wpAnyH_take (i := 20) (oi := { dst := some 33, op := Go.Op.unOp Go.UnOp.not 4 (Go.Operand.tmp 32), type := 4, pos := "law.go:154", after := #[{ on := 19, ground := Go.Ground.data }, { on := 16, ground := Go.Ground.guard }], guard := some (16, true) }) (v := ?_) rfl (by kernel_rfl) (by kernel_rfl) (by kernel_rfl) (fun _ _ _ h => h) (Or.inl ⟨by rfl, ?_⟩) (by assumption) ?_
        rotate_left
        · intro wz hSw; (try dsimp only at hSw); go_simp; (try with_reducible rfl)
        try simp only [Act.put, List.setIfInBounds_toArray, List.set_cons_zero, List.set_cons_succ]
        refine wpAnyH_take (i := 21) (oi := { dst := some 34, op := Go.Op.pick (Go.Operand.tmp 29) (Go.Operand.tmp 33) (Go.Operand.const (Go.Value.bool false)), type := 4, pos := "law.go:154", after := #[{ on := 16, ground := Go.Ground.data }, { on := 20, ground := Go.Ground.data }, { on := 8, ground := Go.Ground.guard }], guard := some (8, false) }) (v := ?_) rfl (by kernel_rfl) (by kernel_rfl) (by kernel_rfl) (fun _ _ _ h => h) (Or.inl ⟨by rfl, ?_⟩) (by assumption) ?_
        rotate_left
        · intro wz hSw; (try dsimp only at hSw); go_simp; (try with_reducible rfl)
        try simp only [Act.put, List.setIfInBounds_toArray, List.set_cons_zero, List.set_cons_succ]
        refine wpAnyH_take (i := 22) (oi := { dst := some 35, op := Go.Op.binOp Go.BinOp.neq 4 (Go.Operand.tmp 24) (Go.Operand.tmp 34) 4, type := 4, pos := "law.go:154", after := #[{ on := 11, ground := Go.Ground.data }, { on := 21, ground := Go.Ground.data }, { on := 8, ground := Go.Ground.guard }], guard := some (8, false) }) (v := ?_) rfl (by kernel_rfl) (by kernel_rfl) (by kernel_rfl) (fun _ _ _ h => h) (Or.inl ⟨by rfl, ?_⟩) (by assumption) ?_
        rotate_left
        · intro wz hSw; (try dsimp only at hSw); go_simp; (try with_reducible rfl)
        try simp only [Act.put, List.setIfInBounds_toArray, List.set_cons_zero, List.set_cons_succ]
        refine wpAnyH_take (i := 23) (oi := { dst := some 36, op := Go.Op.pick (Go.Operand.tmp 21) (Go.Operand.const (Go.Value.bool true)) (Go.Operand.tmp 35), type := 4, pos := "law.go:154", after := #[{ on := 8, ground := Go.Ground.data }, { on := 22, ground := Go.Ground.data }], guard := none }) (v := ?_) rfl (by kernel_rfl) (by kernel_rfl) (by kernel_rfl) (fun _ _ _ h => h) (Or.inl ⟨by rfl, ?_⟩) (by assumption) ?_
        rotate_left
        · intro wz hSw; (try dsimp only at hSw); go_simp; (try with_reducible rfl)
        try simp only [Act.put, List.setIfInBounds_toArray, List.set_cons_zero, List.set_cons_succ]
        refine wpAnyH_done (by kernel_rfl) (NoPanic.normal ?_) _
        try simp only [Act.put, List.setIfInBounds_toArray, List.set_cons_zero, List.set_cons_succ]
        clear hHeld
        have HP := hidV Suh
        clear Suh
        go_wp2_with (first | (refine wpList_loadWp (by rfl) 46 _ rfl A 0 rfl (ptl p.z p.n) _ HP.out.a Tryz.underlying46 rfl (szPtl _ _) ?_) | (refine wpList_loadWp (by rfl) 46 _ rfl B 0 rfl (ptl q.z q.n) _ HP.out.b Tryz.underlying46 rfl (szPtl _ _) ?_) | (refine wpList_loadWp (by rfl) 46 _ rfl C 0 rfl (ptl r.z r.n) _ HP.out.c Tryz.underlying46 rfl (szPtl _ _) ?_) | fail)
        refine (kless_any p.z p.n q.z q.n uh (HZp) (HZq)).mono ?_
        rintro e ui ⟨rfl, hb⟩
        rw [HXY.out]
        have HPui := hidV (HP.out.mono hb)
        clear hb HP
        go_wp2_with (first | (refine wpList_loadWp (by rfl) 46 _ rfl A 0 rfl (ptl p.z p.n) _ HPui.out.a Tryz.underlying46 rfl (szPtl _ _) ?_) | (refine wpList_loadWp (by rfl) 46 _ rfl B 0 rfl (ptl q.z q.n) _ HPui.out.b Tryz.underlying46 rfl (szPtl _ _) ?_) | (refine wpList_loadWp (by rfl) 46 _ rfl C 0 rfl (ptl r.z r.n) _ HPui.out.c Tryz.underlying46 rfl (szPtl _ _) ?_) | fail)
        refine (sure_any ui (HF.out ui HPui.out.below).1 (HF.out ui HPui.out.below).2.1 (HF.out ui HPui.out.below).2.2).mono ?_
        rintro e uz ⟨rfl, hb⟩
        have HZ := hidV (Below.transS HPui.out.below hb)
        clear hb
        go_wp2
        go_ret
        exact ⟨rfl, HZ.out⟩
      | false =>
        have HYX := hidV hyx
        have HEQ : Hid ((hq p.z q.z && decide (p.n = q.n)) = true) := by show _ = _; rw [heq, hxy, hyx]; rfl
        clear heq hxy hyx
        go_upto_region 2 with fail
        refine wp_region_noPanic ?_
        refine wp_region_held_drew (S := fun w' => Pts w w' p q r A B C) (by kernel_rfl) (HP.out.mono (Below.refl _ _).drew) (fun hHeld => ?_)
        have Sud := HP.out.mono (Below.refl w1.heap.size w1).drew
        clear HP
        generalize w1.drew = ud at *
        refine wpAnyH_take (i := 0) (oi := { dst := some 13, op := Go.Op.load 46 (Go.Operand.tmp 7), type := 46, pos := "law.go:154", after := #[], guard := none }) rfl (by kernel_rfl) (by kernel_rfl) (by kernel_rfl) (fun _ _ _ h => h) (yieldsIf_load_mid (by rfl) _ _ rfl A 0 rfl (ptl p.z p.n) _ (fun _ h => h.a) Tryz.underlying46 rfl (szPtl _ _)) (by assumption) ?_
        try simp only [Act.put, List.setIfInBounds_toArray, List.set_cons_zero, List.set_cons_succ]
        refine wpAnyH_take (i := 1) (oi := { dst := some 14, op := Go.Op.load 46 (Go.Operand.tmp 8), type := 46, pos := "law.go:154", after := #[], guard := none }) rfl (by kernel_rfl) (by kernel_rfl) (by kernel_rfl) (fun _ _ _ h => h) (yieldsIf_load_mid (by rfl) _ _ rfl B 0 rfl (ptl q.z q.n) _ (fun _ h => h.b) Tryz.underlying46 rfl (szPtl _ _)) (by assumption) ?_
        try simp only [Act.put, List.setIfInBounds_toArray, List.set_cons_zero, List.set_cons_succ]
        refine wpAnyH_ready (rs := [2]) (by kernel_rfl) (by simp) ?_
        refine (AllReadyH.cons (o := { dst := some 15, op := Go.Op.call { callee := Go.Callee.value (Go.Operand.func 16), args := #[Go.Operand.tmp 13, Go.Operand.tmp 14], argTypes := #[46, 46] }, type := 4, pos := "law.go:154", after := #[{ on := 0, ground := Go.Ground.data }, { on := 1, ground := Go.Ground.data }], guard := none }) rfl (fun K hK => ?_) AllReadyH.nil)
        go_simp
        refine (kless_any p.z p.n q.z q.n ud (HZp) (HZq)).mono ?_
        rintro e ue ⟨rfl, hb⟩
        rw [HXY.out]
        have Sue := Sud.mono hb
        clear hb Sud
        refine hK.out _ _ Sue (fun _ => ?_)
        clear hK K
        try simp only [Act.put, List.setIfInBounds_toArray, List.set_cons_zero, List.set_cons_succ]
        refine wpAnyH_take (i := 3) (oi := { dst := some 16, op := Go.Op.move (Go.Operand.tmp 15), type := 4, pos := "law.go:154", after := #[{ on := 2, ground := Go.Ground.data }, { on := 2, ground := Go.Ground.chain }], guard := none }) (v := ?_) rfl (by kernel_rfl) (by kernel_rfl) (by kernel_rfl) (fun _ _ _ h => h) (Or.inl ⟨by rfl, ?_⟩) (by assumption) ?_
        rotate_left
        · intro wz hSw; (try dsimp only at hSw); go_simp; (try with_reducible rfl)
        try simp only [Act.put, List.setIfInBounds_toArray, List.set_cons_zero, List.set_cons_succ]
        refine wpAnyH_take (i := 4) (oi := { dst := some 17, op := Go.Op.load 46 (Go.Operand.tmp 8), type := 46, pos := "law.go:154", after := #[{ on := 3, ground := Go.Ground.guard }], guard := some (3, true) }) (v := undef) rfl (by kernel_rfl) (by kernel_rfl) (by kernel_rfl) (fun _ _ _ h => h) (Or.inr ⟨by rfl, rfl⟩) (by assumption) ?_
        try simp only [Act.put, List.setIfInBounds_toArray, List.set_cons_zero, List.set_cons_succ]
        refine wpAnyH_take (i := 5) (oi := { dst := some 18, op := Go.Op.load 46 (Go.Operand.tmp 7), type := 46, pos := "law.go:154", after := #[{ on := 3, ground := Go.Ground.guard }], guard := some (3, true) }) (v := undef) rfl (by kernel_rfl) (by kernel_rfl) (by kernel_rfl) (fun _ _ _ h => h) (Or.inr ⟨by rfl, rfl⟩) (by assumption) ?_
        try simp only [Act.put, List.setIfInBounds_toArray, List.set_cons_zero, List.set_cons_succ]
        refine wpAnyH_take (i := 6) (oi := { dst := some 19, op := Go.Op.call { callee := Go.Callee.value (Go.Operand.func 16), args := #[Go.Operand.tmp 17, Go.Operand.tmp 18], argTypes := #[46, 46] }, type := 4, pos := "law.go:154", after := #[{ on := 4, ground := Go.Ground.data }, { on := 5, ground := Go.Ground.data }, { on := 3, ground := Go.Ground.chain }, { on := 3, ground := Go.Ground.guard }], guard := some (3, true) }) (v := undef) rfl (by kernel_rfl) (by kernel_rfl) (by kernel_rfl) (fun _ _ _ h => h) (Or.inr ⟨by rfl, rfl⟩) (by assumption) ?_
        try simp only [Act.put, List.setIfInBounds_toArray, List.set_cons_zero, List.set_cons_succ]
        refine wpAnyH_take (i := 7) (oi := { dst := some 20, op := Go.Op.pick (Go.Operand.tmp 16) (Go.Operand.tmp 19) (Go.Operand.const (Go.Value.bool false)), type := 4, pos := "law.go:154", after := #[{ on := 3, ground := Go.Ground.data }, { on := 6, ground := Go.Ground.data }], guard := none }) (v := ?_) rfl (by kernel_rfl) (by kernel_rfl) (by kernel_rfl) (fun _ _ _ h => h) (Or.inl ⟨by rfl, ?_⟩) (by assumption) ?_
        rotate_left
        · intro wz hSw; (try dsimp only at hSw); go_simp; (try with_reducible rfl)
        try simp only [Act.put, List.setIfInBounds_toArray, List.set_cons_zero, List.set_cons_succ]
        refine wpAnyH_take (i := 8) (oi := { dst := some 21, op := Go.Op.move (Go.Operand.tmp 20), type := 4, pos := "law.go:154", after := #[{ on := 7, ground := Go.Ground.data }, { on := 6, ground := Go.Ground.chain }], guard := none }) (v := ?_) rfl (by kernel_rfl) (by kernel_rfl) (by kernel_rfl) (fun _ _ _ h => h) (Or.inl ⟨by rfl, ?_⟩) (by assumption) ?_
        rotate_left
        · intro wz hSw; (try dsimp only at hSw); go_simp; (try with_reducible rfl)
        try simp only [Act.put, List.setIfInBounds_toArray, List.set_cons_zero, List.set_cons_succ]
        refine wpAnyH_take (i := 9) (oi := { dst := some 22, op := Go.Op.load 46 (Go.Operand.tmp 7), type := 46, pos := "law.go:154", after := #[{ on := 8, ground := Go.Ground.guard }], guard := some (8, false) }) rfl (by kernel_rfl) (by kernel_rfl) (by kernel_rfl) (fun _ _ _ h => h) (yieldsIf_load_mid (by rfl) _ _ rfl A 0 rfl (ptl p.z p.n) _ (fun _ h => h.a) Tryz.underlying46 rfl (szPtl _ _)) (by assumption) ?_
        try simp only [Act.put, List.setIfInBounds_toArray, List.set_cons_zero, List.set_cons_succ]
        refine wpAnyH_take (i := 10) (oi := { dst := some 23, op := Go.Op.load 46 (Go.Operand.tmp 8), type := 46, pos := "law.go:154", after := #[{ on := 8, ground := Go.Ground.guard }], guard := some (8, false) }) rfl (by kernel_rfl) (by kernel_rfl) (by kernel_rfl) (fun _ _ _ h => h) (yieldsIf_load_mid (by rfl) _ _ rfl B 0 rfl (ptl q.z q.n) _ (fun _ h => h.b) Tryz.underlying46 rfl (szPtl _ _)) (by assumption) ?_
        try simp only [Act.put, List.setIfInBounds_toArray, List.set_cons_zero, List.set_cons_succ]
        refine wpAnyH_take (i := 12) (oi := { dst := some 25, op := Go.Op.load 46 (Go.Operand.tmp 7), type := 46, pos := "law.go:154", after := #[{ on := 8, ground := Go.Ground.guard }], guard := some (8, false) }) rfl (by kernel_rfl) (by kernel_rfl) (by kernel_rfl) (fun _ _ _ h => h) (yieldsIf_load_mid (by rfl) _ _ rfl A 0 rfl (ptl p.z p.n) _ (fun _ h => h.a) Tryz.underlying46 rfl (szPtl _ _)) (by assumption) ?_
        try simp only [Act.put, List.setIfInBounds_toArray, List.set_cons_zero, List.set_cons_succ]
        refine wpAnyH_take (i := 13) (oi := { dst := some 26, op := Go.Op.load 46 (Go.Operand.tmp 8), type := 46, pos := "law.go:154", after := #[{ on := 8, ground := Go.Ground.guard }], guard := some (8, false) }) rfl (by kernel_rfl) (by kernel_rfl) (by kernel_rfl) (fun _ _ _ h => h) (yieldsIf_load_mid (by rfl) _ _ rfl B 0 rfl (ptl q.z q.n) _ (fun _ h => h.b) Tryz.underlying46 rfl (szPtl _ _)) (by assumption) ?_
        try simp only [Act.put, List.setIfInBounds_toArray, List.set_cons_zero, List.set_cons_succ]
        refine wpAnyH_take (i := 11) (oi := { dst := some 24, op := Go.Op.binOp Go.BinOp.eql 46 (Go.Operand.tmp 22) (Go.Operand.tmp 23) 46, type := 4, pos := "law.go:154", after := #[{ on := 9, ground := Go.Ground.data }, { on := 10, ground := Go.Ground.data }, { on := 8, ground := Go.Ground.guard }], guard := some (8, false) }) (v := .bool true) rfl (by kernel_rfl) (by kernel_rfl) (by kernel_rfl) (fun _ _ _ h => h) (Or.inl ⟨by rfl, ?_⟩) (by assumption) ?_
        · intro wz hSw; (try dsimp only at hSw); exact exec_eqPt _ _ rfl HZp HZq HNp HNq true HEQ.out rfl rfl wz
        try simp only [Act.put, List.setIfInBounds_toArray, List.set_cons_zero, List.set_cons_succ]
        refine wpAnyH_ready (rs := [14]) (by kernel_rfl) (by simp) ?_
        refine (AllReadyH.cons (o := { dst := some 27, op := Go.Op.call { callee := Go.Callee.value (Go.Operand.func 16), args := #[Go.Operand.tmp 25, Go.Operand.tmp 26], argTypes := #[46, 46] }, type := 4, pos := "law.go:154", after := #[{ on := 12, ground := Go.Ground.data }, { on := 13, ground := Go.Ground.data }, { on := 8, ground := Go.Ground.chain }, { on := 8, ground := Go.Ground.guard }], guard := some (8, false) }) rfl (fun K hK => ?_) AllReadyH.nil)
        go_simp
        refine (kless_any p.z p.n q.z q.n ue (HZp) (HZq)).mono ?_
        rintro e ug ⟨rfl, hb⟩
        rw [HXY.out]
        have Sug := Sue.mono hb
        clear hb Sue
        refine hK.out _ _ Sug (fun _ => ?_)
        clear hK K
        try simp only [Act.put, List.setIfInBounds_toArray, List.set_cons_zero, List.set_cons_succ]
        refine wpAnyH_take (i := 15) (oi := { dst := some 28, op := Go.Op.unOp Go.UnOp.not 4 (Go.Operand.tmp 27), type := 4, pos := "law.go:154", after := #[{ on := 14, ground := Go.Ground.data }, { on := 8, ground := Go.Ground.guard }], guard := some (8, false) }) (v := ?_) rfl (by kernel_rfl) (by kernel_rfl) (by kernel_rfl) (fun _ _ _ h => h) (Or.inl ⟨by rfl, ?_⟩) (by assumption) ?_
        rotate_left
        · intro wz hSw; (try dsimp only at hSw); go_simp; (try with_reducible rfl)
        try simp only [Act.put, List.setIfInBounds_toArray, List.set_cons_zero, List.set_cons_succ]
        refine wpAnyH_take (i := 16) (oi := { dst := some 29, op := Go.Op.move (Go.Operand.tmp 28), type := 4, pos := "law.go:154", after := #[{ on := 15, ground := Go.Ground.data }, { on := 14, ground := Go.Ground.chain }, { on := 8, ground := Go.Ground.guard }], guard := some (8, false) }) (v := ?_) rfl (by kernel_rfl) (by kernel_rfl) (by kernel_rfl) (fun _ _ _ h => h) (Or.inl ⟨by rfl, ?_⟩) (by assumption) ?_
        rotate_left
        · intro wz hSw; (try dsimp only at hSw); go_simp; (try with_reducible rfl)
        try simp only [Act.put, List.setIfInBounds_toArray, List.set_cons_zero, List.set_cons_succ]
        refine wpAnyH_take (i := 17) (oi := { dst := some 30, op := Go.Op.load 46 (Go.Operand.tmp 8), type := 46, pos := "law.go:154", after := #[{ on := 16, ground := Go.Ground.guard }], guard := some (16, true) }) rfl (by kernel_rfl) (by kernel_rfl) (by kernel_rfl) (fun _ _ _ h => h) (yieldsIf_load_mid (by rfl) _ _ rfl B 0 rfl (ptl q.z q.n) _ (fun _ h => h.b) Tryz.underlying46 rfl (szPtl _ _)) (by assumption) ?_
        try simp only [Act.put, List.setIfInBounds_toArray, List.set_cons_zero, List.set_cons_succ]
        refine wpAnyH_take (i := 18) (oi := { dst := some 31, op := Go.Op.load 46 (Go.Operand.tmp 7), type := 46, pos := "law.go:154", after := #[{ on := 16, ground := Go.Ground.guard }], guard := some (16, true) }) rfl (by kernel_rfl) (by kernel_rfl) (by kernel_rfl) (fun _ _ _ h => h) (yieldsIf_load_mid (by rfl) _ _ rfl A 0 rfl (ptl p.z p.n) _ (fun _ h => h.a) Tryz.underlying46 rfl (szPtl _ _)) (by assumption) ?_
        try simp only [Act.put, List.setIfInBounds_toArray, List.set_cons_zero, List.set_cons_succ]
        refine wpAnyH_ready (rs := [19]) (by kernel_rfl) (by simp) ?_
        refine (AllReadyH.cons (o := { dst := some 32, op := Go.Op.call { callee := Go.Callee.value (Go.Operand.func 16), args := #[Go.Operand.tmp 30, Go.Operand.tmp 31], argTypes := #[46, 46] }, type := 4, pos := "law.go:154", after := #[{ on := 17, ground := Go.Ground.data }, { on := 18, ground := Go.Ground.data }, { on := 16, ground := Go.Ground.chain }, { on := 16, ground := Go.Ground.guard }], guard := some (16, true) }) rfl (fun K hK => ?_) AllReadyH.nil)
        go_simp
        refine (kless_any q.z q.n p.z p.n ug (HZq) (HZp)).mono ?_
        rintro e uh ⟨rfl, hb⟩
        rw [HYX.out]
        have Suh := Sug.mono hb
        clear hb Sug
        refine hK.out _ _ Suh (fun _ => ?_)
        clear hK K
        try simp only [Act.put, List.setIfInBounds_toArray, List.set_cons_zero, List.set_cons_succ]
        refine wpAnyH_take (i := 20) (oi := { dst := some 33, op := Go.Op.unOp Go.UnOp.not 4 (Go.Operand.tmp 32), type := 4, pos := "law.go:154", after := #[{ on := 19, ground := Go.Ground.data }, { on := 16, ground := Go.Ground.guard }], guard := some (16, true) }) (v := ?_) rfl (by kernel_rfl) (by kernel_rfl) (by kernel_rfl) (fun _ _ _ h => h) (Or.inl ⟨by rfl, ?_⟩) (by assumption) ?_
        rotate_left
        · intro wz hSw; (try dsimp only at hSw); go_simp; (try with_reducible rfl)
        try simp only [Act.put, List.setIfInBounds_toArray, List.set_cons_zero, List.set_cons_succ]
        refine wpAnyH_take (i := 21) (oi := { dst := some 34, op := Go.Op.pick (Go.Operand.tmp 29) (Go.Operand.tmp 33) (Go.Operand.const (Go.Value.bool false)), type := 4, pos := "law.go:154", after := #[{ on := 16, ground := Go.Ground.data }, { on := 20, ground := Go.Ground.data }, { on := 8, ground := Go.Ground.guard }], guard := some (8, false) }) (v := ?_) rfl (by kernel_rfl) (by kernel_rfl) (by kernel_rfl) (fun _ _ _ h => h) (Or.inl ⟨by rfl, ?_⟩) (by assumption) ?_
        rotate_left
        · intro wz hSw; (try dsimp only at hSw); go_simp; (try with_reducible rfl)
        try simp only [Act.put, List.setIfInBounds_toArray, List.set_cons_zero, List.set_cons_succ]
        refine wpAnyH_take (i := 22) (oi := { dst := some 35, op := Go.Op.binOp Go.BinOp.neq 4 (Go.Operand.tmp 24) (Go.Operand.tmp 34) 4, type := 4, pos := "law.go:154", after := #[{ on := 11, ground := Go.Ground.data }, { on := 21, ground := Go.Ground.data }, { on := 8, ground := Go.Ground.guard }], guard := some (8, false) }) (v := ?_) rfl (by kernel_rfl) (by kernel_rfl) (by kernel_rfl) (fun _ _ _ h => h) (Or.inl ⟨by rfl, ?_⟩) (by assumption) ?_
        rotate_left
        · intro wz hSw; (try dsimp only at hSw); go_simp; (try with_reducible rfl)
        try simp only [Act.put, List.setIfInBounds_toArray, List.set_cons_zero, List.set_cons_succ]
        refine wpAnyH_take (i := 23) (oi := { dst := some 36, op := Go.Op.pick (Go.Operand.tmp 21) (Go.Operand.const (Go.Value.bool true)) (Go.Operand.tmp 35), type := 4, pos := "law.go:154", after := #[{ on := 8, ground := Go.Ground.data }, { on := 22, ground := Go.Ground.data }], guard := none }) (v := ?_) rfl (by kernel_rfl) (by kernel_rfl) (by kernel_rfl) (fun _ _ _ h => h) (Or.inl ⟨by rfl, ?_⟩) (by assumption) ?_
        rotate_left
        · intro wz hSw; (try dsimp only at hSw); go_simp; (try with_reducible rfl)
        try simp only [Act.put, List.setIfInBounds_toArray, List.set_cons_zero, List.set_cons_succ]
        refine wpAnyH_done (by kernel_rfl) (NoPanic.normal ?_) _
        try simp only [Act.put, List.setIfInBounds_toArray, List.set_cons_zero, List.set_cons_succ]
        clear hHeld
        have HP := hidV Suh
        clear Suh
        go_wp2_with (first | (refine wpList_loadWp (by rfl) 46 _ rfl A 0 rfl (ptl p.z p.n) _ HP.out.a Tryz.underlying46 rfl (szPtl _ _) ?_) | (refine wpList_loadWp (by rfl) 46 _ rfl B 0 rfl (ptl q.z q.n) _ HP.out.b Tryz.underlying46 rfl (szPtl _ _) ?_) | (refine wpList_loadWp (by rfl) 46 _ rfl C 0 rfl (ptl r.z r.n) _ HP.out.c Tryz.underlying46 rfl (szPtl _ _) ?_) | fail)
        refine (kless_any p.z p.n q.z q.n uh (HZp) (HZq)).mono ?_
        rintro e ui ⟨rfl, hb⟩
        rw [HXY.out]
        have HPui := hidV (HP.out.mono hb)
        clear hb HP
        go_wp2_with (first | (refine wpList_loadWp (by rfl) 46 _ rfl A 0 rfl (ptl p.z p.n) _ HPui.out.a Tryz.underlying46 rfl (szPtl _ _) ?_) | (refine wpList_loadWp (by rfl) 46 _ rfl B 0 rfl (ptl q.z q.n) _ HPui.out.b Tryz.underlying46 rfl (szPtl _ _) ?_) | (refine wpList_loadWp (by rfl) 46 _ rfl C 0 rfl (ptl r.z r.n) _ HPui.out.c Tryz.underlying46 rfl (szPtl _ _) ?_) | fail)
        refine (sure_any ui (HF.out ui HPui.out.below).1 (HF.out ui HPui.out.below).2.1 (HF.out ui HPui.out.below).2.2).mono ?_
        rintro e uz ⟨rfl, hb⟩
        have HZ := hidV (Below.transS HPui.out.below hb)
        clear hb
        go_wp2
        go_ret
        exact ⟨rfl, HZ.out⟩
  have HK := hidV HS
  clear HS hrest
  refine wpAnyH_ready (rs := [3, 4, 5]) (by kernel_rfl) (by simp) ?_
  refine (AllReadyH.cons (o := { dst := some 7, op := Go.Op.alloc 46, type := 0, pos := "law.go:153", after := #[], guard := none }) rfl (fun K hK => ?_) (AllReadyH.cons (o := { dst := some 8, op := Go.Op.alloc 46, type := 0, pos := "law.go:153", after := #[], guard := none }) rfl (fun K hK => ?_) (AllReadyH.cons (o := { dst := some 9, op := Go.Op.alloc 46, type := 0, pos := "law.go:153", after := #[], guard := none }) rfl (fun K hK => ?_) AllReadyH.nil)))
  · refine step_allocPt rfl rfl ?_
    intro w1 N1
    have Hb1 : Below vd.heap.size vd w1 := N1.below
    refine hK.out _ _ (Hvd.out.mono Hb1) (fun _ => ?_)
    clear hK K
    try simp only [Act.put, List.setIfInBounds_toArray, List.set_cons_zero, List.set_cons_succ]
    refine wpAnyH_ready (rs := [4, 5]) (by kernel_rfl) (by simp) ?_
    refine (AllReadyH.cons (o := { dst := some 8, op := Go.Op.alloc 46, type := 0, pos := "law.go:153", after := #[], guard := none }) rfl (fun K hK => ?_) (AllReadyH.cons (o := { dst := some 9, op := Go.Op.alloc 46, type := 0, pos := "law.go:153", after := #[], guard := none }) rfl (fun K hK => ?_) AllReadyH.nil))
    · refine step_allocPt rfl rfl ?_
      intro w2 N2
      have Hb2 : Below vd.heap.size vd w2 := Below.transS Hb1 N2.below
      refine hK.out _ _ (Hvd.out.mono Hb2) (fun _ => ?_)
      clear hK K
      try simp only [Act.put, List.setIfInBounds_toArray, List.set_cons_zero, List.set_cons_succ]
      refine wpAnyH_ready (rs := [5]) (by kernel_rfl) (by simp) ?_
      refine (AllReadyH.cons (o := { dst := some 9, op := Go.Op.alloc 46, type := 0, pos := "law.go:153", after := #[], guard := none }) rfl (fun K hK => ?_) AllReadyH.nil)
      refine step_allocPt rfl rfl ?_
      intro w3 N3
      have Hb3 : Below vd.heap.size vd w3 := Below.transS Hb2 N3.below
      refine hK.out _ _ (Hvd.out.mono Hb3) (fun _ => ?_)
      clear hK K
      try simp only [Act.put, List.setIfInBounds_toArray, List.set_cons_zero, List.set_cons_succ]
      have hs1 := N1.size
      have hs2 := N2.size
      have hs3 := N3.size
      refine three_stores Hvd.out (A := vd.heap.size) (B := w1.heap.size) (C := w2.heap.size) Hb3 (N3.old (N2.old N1.blk)) (N3.old N2.blk) N3.blk (by omega) (by omega) (by omega) (by omega) (by omega) (by omega) ?_
      intro HA HB
      refine wpAnyH_ready (rs := [6]) (by kernel_rfl) (by simp) ?_
      refine (AllReadyH.cons (o := { dst := none, op := Go.Op.store 46 (Go.Operand.tmp 7) (Go.Operand.tmp 10), type := 0, pos := "law.go:153", after := #[{ on := 3, ground := Go.Ground.data }, { on := 0, ground := Go.Ground.data }, { on := 0, ground := Go.Ground.phase }, { on := 1, ground := Go.Ground.textOnly Go.Departure.lateStores }, { on := 2, ground := Go.Ground.textOnly Go.Departure.lateStores }, { on := 3, ground := Go.Ground.phase }, { on := 4, ground := Go.Ground.phase }, { on := 5, ground := Go.Ground.phase }], guard := none }) rfl (fun K hK => ?_) AllReadyH.nil)
      refine step_storePt rfl _ _ rfl (vd.heap.size) rfl p.z p.n (ptv (fun _ => 0) 0) (ptv_size _ _) rfl HA.1 ?_
      intro w4 h4 f4
      have HB4 := HB
      refine hK.out _ _ (HB4 w4 h4 f4).1 (fun _ => ?_)
      clear hK K
      try simp only [Act.put]
      refine wpAnyH_ready (rs := [7]) (by kernel_rfl) (by simp) ?_
      refine (AllReadyH.cons (o := { dst := none, op := Go.Op.store 46 (Go.Operand.tmp 8) (Go.Operand.tmp 11), type := 0, pos := "law.go:153", after := #[{ on := 4, ground := Go.Ground.data }, { on := 1, ground := Go.Ground.data }, { on := 6, ground := Go.Ground.chain }, { on := 0, ground := Go.Ground.phase }, { on := 1, ground := Go.Ground.phase }, { on := 2, ground := Go.Ground.textOnly Go.Departure.lateStores }, { on := 3, ground := Go.Ground.phase }, { on := 4, ground := Go.Ground.phase }, { on := 5, ground := Go.Ground.phase }, { on := 6, ground := Go.Ground.phase }], guard := none }) rfl (fun K hK => ?_) AllReadyH.nil)
      refine step_storePt rfl _ _ rfl (w1.heap.size) rfl q.z q.n (ptv (fun _ => 0) 0) (ptv_size _ _) rfl (HB4 w4 h4 f4).2.1 ?_
      intro w5 h5 f5
      have HB5 := (HB4 w4 h4 f4).2.2
      refine hK.out _ _ (HB5 w5 h5 f5).1 (fun _ => ?_)
      clear hK K
      try simp only [Act.put]
      refine wpAnyH_ready (rs := [8]) (by kernel_rfl) (by simp) ?_
      refine (AllReadyH.cons (o := { dst := none, op := Go.Op.store 46 (Go.Operand.tmp 9) (Go.Operand.tmp 12), type := 0, pos := "law.go:153", after := #[{ on := 5, ground := Go.Ground.data }, { on := 2, ground := Go.Ground.data }, { on := 7, ground := Go.Ground.chain }, { on := 0, ground := Go.Ground.phase }, { on := 1, ground := Go.Ground.phase }, { on := 2, ground := Go.Ground.phase }, { on := 3, ground := Go.Ground.phase }, { on := 4, ground := Go.Ground.phase }, { on := 5, ground := Go.Ground.phase }, { on := 6, ground := Go.Ground.phase }, { on := 7, ground := Go.Ground.phase }], guard := none }) rfl (fun K hK => ?_) AllReadyH.nil)
      refine step_storePt rfl _ _ rfl (w2.heap.size) rfl r.z r.n (ptv (fun _ => 0) 0) (ptv_size _ _) rfl (HB5 w5 h5 f5).2.1 ?_
      intro w6 h6 f6
      refine hK.out _ _ ((HB5 w5 h5 f5).2.2 w6 h6 f6).1 (fun _ => ?_)
      clear hK K
      try simp only [Act.put]
      refine wpAnyH_done (by kernel_rfl) (NoPanic.normal ?_) _
      try simp only [Act.put, List.setIfInBounds_toArray, List.set_cons_zero, List.set_cons_succ]
      exact HK.out _ _ _ w6 ((HB5 w5 h5 f5).2.2 w6 h6 f6).2
    · refine step_allocPt rfl rfl ?_
      intro w2 N2
      have Hb2 : Below vd.heap.size vd w2 := Below.transS Hb1 N2.below
      refine hK.out _ _ (Hvd.out.mono Hb2) (fun _ => ?_)
      clear hK K
      try simp only [Act.put, List.setIfInBounds_toArray, List.set_cons_zero, List.set_cons_succ]
      refine wpAnyH_ready (rs := [4]) (by kernel_rfl) (by simp) ?_
      refine (AllReadyH.cons (o := { dst := some 8, op := Go.Op.alloc 46, type := 0, pos := "law.go:153", after := #[], guard := none }) rfl (fun K hK => ?_) AllReadyH.nil)
      refine step_allocPt rfl rfl ?_
      intro w3 N3
      have Hb3 : Below vd.heap.size vd w3 := Below.transS Hb2 N3.below
      refine hK.out _ _ (Hvd.out.mono Hb3) (fun _ => ?_)
      clear hK K
      try simp only [Act.put, List.setIfInBounds_toArray, List.set_cons_zero, List.set_cons_succ]
      have hs1 := N1.size
      have hs2 := N2.size
      have hs3 := N3.size
      refine three_stores Hvd.out (A := vd.heap.size) (B := w2.heap.size) (C := w1.heap.size) Hb3 (N3.old (N2.old N1.blk)) N3.blk (N3.old N2.blk) (by omega) (by omega) (by omega) (by omega) (by omega) (by omega) ?_
      intro HA HB
      refine wpAnyH_ready (rs := [6]) (by kernel_rfl) (by simp) ?_
      refine (AllReadyH.cons (o := { dst := none, op := Go.Op.store 46 (Go.Operand.tmp 7) (Go.Operand.tmp 10), type := 0, pos := "law.go:153", after := #[{ on := 3, ground := Go.Ground.data }, { on := 0, ground := Go.Ground.data }, { on := 0, ground := Go.Ground.phase }, { on := 1, ground := Go.Ground.textOnly Go.Departure.lateStores }, { on := 2, ground := Go.Ground.textOnly Go.Departure.lateStores }, { on := 3, ground := Go.Ground.phase }, { on := 4, ground := Go.Ground.phase }, { on := 5, ground := Go.Ground.phase }], guard := none }) rfl (fun K hK => ?_) AllReadyH.nil)
      refine step_storePt rfl _ _ rfl (vd.heap.size) rfl p.z p.n (ptv (fun _ => 0) 0) (ptv_size _ _) rfl HA.1 ?_
      intro w4 h4 f4
      have HB4 := HB
      refine hK.out _ _ (HB4 w4 h4 f4).1 (fun _ => ?_)
      clear hK K
      try simp only [Act.put]
      refine wpAnyH_ready (rs := [7]) (by kernel_rfl) (by simp) ?_
      refine (AllReadyH.cons (o := { dst := none, op := Go.Op.store 46 (Go.Operand.tmp 8) (Go.Operand.tmp 11), type := 0, pos := "law.go:153", after := #[{ on := 4, ground := Go.Ground.data }, { on := 1, ground := Go.Ground.data }, { on := 6, ground := Go.Ground.chain }, { on := 0, ground := Go.Ground.phase }, { on := 1, ground := Go.Ground.phase }, { on := 2, ground := Go.Ground.textOnly Go.Departure.lateStores }, { on := 3, ground := Go.Ground.phase }, { on := 4, ground := Go.Ground.phase }, { on := 5, ground := Go.Ground.phase }, { on := 6, ground := Go.Ground.phase }], guard := none }) rfl (fun K hK => ?_) AllReadyH.nil)
      refine step_storePt rfl _ _ rfl (w2.heap.size) rfl q.z q.n (ptv (fun _ => 0) 0) (ptv_size _ _) rfl (HB4 w4 h4 f4).2.1 ?_
      intro w5 h5 f5
      have HB5 := (HB4 w4 h4 f4).2.2
      refine hK.out _ _ (HB5 w5 h5 f5).1 (fun _ => ?_)
      clear hK K
      try simp only [Act.put]
      refine wpAnyH_ready (rs := [8]) (by kernel_rfl) (by simp) ?_
      refine (AllReadyH.cons (o := { dst := none, op := Go.Op.store 46 (Go.Operand.tmp 9) (Go.Operand.tmp 12), type := 0, pos := "law.go:153", after := #[{ on := 5, ground := Go.Ground.data }, { on := 2, ground := Go.Ground.data }, { on := 7, ground := Go.Ground.chain }, { on := 0, ground := Go.Ground.phase }, { on := 1, ground := Go.Ground.phase }, { on := 2, ground := Go.Ground.phase }, { on := 3, ground := Go.Ground.phase }, { on := 4, ground := Go.Ground.phase }, { on := 5, ground := Go.Ground.phase }, { on := 6, ground := Go.Ground.phase }, { on := 7, ground := Go.Ground.phase }], guard := none }) rfl (fun K hK => ?_) AllReadyH.nil)
      refine step_storePt rfl _ _ rfl (w1.heap.size) rfl r.z r.n (ptv (fun _ => 0) 0) (ptv_size _ _) rfl (HB5 w5 h5 f5).2.1 ?_
      intro w6 h6 f6
      refine hK.out _ _ ((HB5 w5 h5 f5).2.2 w6 h6 f6).1 (fun _ => ?_)
      clear hK K
      try simp only [Act.put]
      refine wpAnyH_done (by kernel_rfl) (NoPanic.normal ?_) _
      try simp only [Act.put, List.setIfInBounds_toArray, List.set_cons_zero, List.set_cons_succ]
      exact HK.out _ _ _ w6 ((HB5 w5 h5 f5).2.2 w6 h6 f6).2
  · refine step_allocPt rfl rfl ?_
    intro w1 N1
    have Hb1 : Below vd.heap.size vd w1 := N1.below
    refine hK.out _ _ (Hvd.out.mono Hb1) (fun _ => ?_)
    clear hK K
    try simp only [Act.put, List.setIfInBounds_toArray, List.set_cons_zero, List.set_cons_succ]
    refine wpAnyH_ready (rs := [3, 5]) (by kernel_rfl) (by simp) ?_
    refine (AllReadyH.cons (o := { dst := some 7, op := Go.Op.alloc 46, type := 0, pos := "law.go:153", after := #[], guard := none }) rfl (fun K hK => ?_) (AllReadyH.cons (o := { dst := some 9, op := Go.Op.alloc 46, type := 0, pos := "law.go:153", after := #[], guard := none }) rfl (fun K hK => ?_) AllReadyH.nil))
    · refine step_allocPt rfl rfl ?_
      intro w2 N2
      have Hb2 : Below vd.heap.size vd w2 := Below.transS Hb1 N2.below
      refine hK.out _ _ (Hvd.out.mono Hb2) (fun _ => ?_)
      clear hK K
      try simp only [Act.put, List.setIfInBounds_toArray, List.set_cons_zero, List.set_cons_succ]
      refine wpAnyH_ready (rs := [5]) (by kernel_rfl) (by simp) ?_
      refine (AllReadyH.cons (o := { dst := some 9, op := Go.Op.alloc 46, type := 0, pos := "law.go:153", after := #[], guard := none }) rfl (fun K hK => ?_) AllReadyH.nil)
      refine step_allocPt rfl rfl ?_
      intro w3 N3
      have Hb3 : Below vd.heap.size vd w3 := Below.transS Hb2 N3.below
      refine hK.out _ _ (Hvd.out.mono Hb3) (fun _ => ?_)
      clear hK K
      try simp only [Act.put, List.setIfInBounds_toArray, List.set_cons_zero, List.set_cons_succ]
      have hs1 := N1.size
      have hs2 := N2.size
      have hs3 := N3.size
      refine three_stores Hvd.out (A := w1.heap.size) (B := vd.heap.size) (C := w2.heap.size) Hb3 (N3.old N2.blk) (N3.old (N2.old N1.blk)) N3.blk (by omega) (by omega) (by omega) (by omega) (by omega) (by omega) ?_
      intro HA HB
      refine wpAnyH_ready (rs := [6]) (by kernel_rfl) (by simp) ?_
      refine (AllReadyH.cons (o := { dst := none, op := Go.Op.store 46 (Go.Operand.tmp 7) (Go.Operand.tmp 10), type := 0, pos := "law.go:153", after := #[{ on := 3, ground := Go.Ground.data }, { on := 0, ground := Go.Ground.data }, { on := 0, ground := Go.Ground.phase }, { on := 1, ground := Go.Ground.textOnly Go.Departure.lateStores }, { on := 2, ground := Go.Ground.textOnly Go.Departure.lateStores }, { on := 3, ground := Go.Ground.phase }, { on := 4, ground := Go.Ground.phase }, { on := 5, ground := Go.Ground.phase }], guard := none }) rfl (fun K hK => ?_) AllReadyH.nil)
      refine step_storePt rfl _ _ rfl (w1.heap.size) rfl p.z p.n (ptv (fun _ => 0) 0) (ptv_size _ _) rfl HA.1 ?_
      intro w4 h4 f4
      have HB4 := HB
      refine hK.out _ _ (HB4 w4 h4 f4).1 (fun _ => ?_)
      clear hK K
      try simp only [Act.put]
      refine wpAnyH_ready (rs := [7]) (by kernel_rfl) (by simp) ?_
      refine (AllReadyH.cons (o := { dst := none, op := Go.Op.store 46 (Go.Operand.tmp 8) (Go.Operand.tmp 11), type := 0, pos := "law.go:153", after := #[{ on := 4, ground := Go.Ground.data }, { on := 1, ground := Go.Ground.data }, { on := 6, ground := Go.Ground.chain }, { on := 0, ground := Go.Ground.phase }, { on := 1, ground := Go.Ground.phase }, { on := 2, ground := Go.Ground.textOnly Go.Departure.lateStores }, { on := 3, ground := Go.Ground.phase }, { on := 4, ground := Go.Ground.phase }, { on := 5, ground := Go.Ground.phase }, { on := 6, ground := Go.Ground.phase }], guard := none }) rfl (fun K hK => ?_) AllReadyH.nil)
      refine step_storePt rfl _ _ rfl (vd.heap.size) rfl q.z q.n (ptv (fun _ => 0) 0) (ptv_size _ _) rfl (HB4 w4 h4 f4).2.1 ?_
      intro w5 h5 f5
      have HB5 := (HB4 w4 h4 f4).2.2
      refine hK.out _ _ (HB5 w5 h5 f5).1 (fun _ => ?_)
      clear hK K
      try simp only [Act.put]
      refine wpAnyH_ready (rs := [8]) (by kernel_rfl) (by simp) ?_
      refine (AllReadyH.cons (o := { dst := none, op := Go.Op.store 46 (Go.Operand.tmp 9) (Go.Operand.tmp 12), type := 0, pos := "law.go:153", after := #[{ on := 5, ground := Go.Ground.data }, { on := 2, ground := Go.Ground.data }, { on := 7, ground := Go.Ground.chain }, { on := 0, ground := Go.Ground.phase }, { on := 1, ground := Go.Ground.phase }, { on := 2, ground := Go.Ground.phase }, { on := 3, ground := Go.Ground.phase }, { on := 4, ground := Go.Ground.phase }, { on := 5, ground := Go.Ground.phase }, { on := 6, ground := Go.Ground.phase }, { on := 7, ground := Go.Ground.phase }], guard := none }) rfl (fun K hK => ?_) AllReadyH.nil)
      refine step_storePt rfl _ _ rfl (w2.heap.size) rfl r.z r.n (ptv (fun _ => 0) 0) (ptv_size _ _) rfl (HB5 w5 h5 f5).2.1 ?_
      intro w6 h6 f6
      refine hK.out _ _ ((HB5 w5 h5 f5).2.2 w6 h6 f6).1 (fun _ => ?_)
      clear hK K
      try simp only [Act.put]
      refine wpAnyH_done (by kernel_rfl) (NoPanic.normal ?_) _
      try simp only [Act.put, List.setIfInBounds_toArray, List.set_cons_zero, List.set_cons_succ]
      exact HK.out _ _ _ w6 ((HB5 w5 h5 f5).2.2 w6 h6 f6).2
    · refine step_allocPt rfl rfl ?_
      intro w2 N2
      have Hb2 : Below vd.heap.size vd w2 := Below.transS Hb1 N2.below
      refine hK.out _ _ (Hvd.out.mono Hb2) (fun _ => ?_)
      clear hK K
      try simp only [Act.put, List.setIfInBounds_toArray, List.set_cons_zero, List.set_cons_succ]
      refine wpAnyH_ready (rs := [3]) (by kernel_rfl) (by simp) ?_
      refine (AllReadyH.cons (o := { dst := some 7, op := Go.Op.alloc 46, type := 0, pos := "law.go:153", after := #[], guard := none }) rfl (fun K hK => ?_) AllReadyH.nil)
      refine step_allocPt rfl rfl ?_
      intro w3 N3
      have Hb3 : Below vd.heap.size vd w3 := Below.transS Hb2 N3.below
      refine hK.out _ _ (Hvd.out.mono Hb3) (fun _ => ?_)
      clear hK K
      try simp only [Act.put, List.setIfInBounds_toArray, List.set_cons_zero, List.set_cons_succ]
      have hs1 := N1.size
      have hs2 := N2.size
      have hs3 := N3.size
      refine three_stores Hvd.out (A := w2.heap.size) (B := vd.heap.size) (C := w1.heap.size) Hb3 N3.blk (N3.old (N2.old N1.blk)) (N3.old N2.blk) (by omega) (by omega) (by omega) (by omega) (by omega) (by omega) ?_
      intro HA HB
      refine wpAnyH_ready (rs := [6]) (by kernel_rfl) (by simp) ?_
      refine (AllReadyH.cons (o := { dst := none, op := Go.Op.store 46 (Go.Operand.tmp 7) (Go.Operand.tmp 10), type := 0, pos := "law.go:153", after := #[{ on := 3, ground := Go.Ground.data }, { on := 0, ground := Go.Ground.data }, { on := 0, ground := Go.Ground.phase }, { on := 1, ground := Go.Ground.textOnly Go.Departure.lateStores }, { on := 2, ground := Go.Ground.textOnly Go.Departure.lateStores }, { on := 3, ground := Go.Ground.phase }, { on := 4, ground := Go.Ground.phase }, { on := 5, ground := Go.Ground.phase }], guard := none }) rfl (fun K hK => ?_) AllReadyH.nil)
      refine step_storePt rfl _ _ rfl (w2.heap.size) rfl p.z p.n (ptv (fun _ => 0) 0) (ptv_size _ _) rfl HA.1 ?_
      intro w4 h4 f4
      have HB4 := HB
      refine hK.out _ _ (HB4 w4 h4 f4).1 (fun _ => ?_)
      clear hK K
      try simp only [Act.put]
      refine wpAnyH_ready (rs := [7]) (by kernel_rfl) (by simp) ?_
      refine (AllReadyH.cons (o := { dst := none, op := Go.Op.store 46 (Go.Operand.tmp 8) (Go.Operand.tmp 11), type := 0, pos := "law.go:153", after := #[{ on := 4, ground := Go.Ground.data }, { on := 1, ground := Go.Ground.data }, { on := 6, ground := Go.Ground.chain }, { on := 0, ground := Go.Ground.phase }, { on := 1, ground := Go.Ground.phase }, { on := 2, ground := Go.Ground.textOnly Go.Departure.lateStores }, { on := 3, ground := Go.Ground.phase }, { on := 4, ground := Go.Ground.phase }, { on := 5, ground := Go.Ground.phase }, { on := 6, ground := Go.Ground.phase }], guard := none }) rfl (fun K hK => ?_) AllReadyH.nil)
      refine step_storePt rfl _ _ rfl (vd.heap.size) rfl q.z q.n (ptv (fun _ => 0) 0) (ptv_size _ _) rfl (HB4 w4 h4 f4).2.1 ?_
      intro w5 h5 f5
      have HB5 := (HB4 w4 h4 f4).2.2
      refine hK.out _ _ (HB5 w5 h5 f5).1 (fun _ => ?_)
      clear hK K
      try simp only [Act.put]
      refine wpAnyH_ready (rs := [8]) (by kernel_rfl) (by simp) ?_
      refine (AllReadyH.cons (o := { dst := none, op := Go.Op.store 46 (Go.Operand.tmp 9) (Go.Operand.tmp 12), type := 0, pos := "law.go:153", after := #[{ on := 5, ground := Go.Ground.data }, { on := 2, ground := Go.Ground.data }, { on := 7, ground := Go.Ground.chain }, { on := 0, ground := Go.Ground.phase }, { on := 1, ground := Go.Ground.phase }, { on := 2, ground := Go.Ground.phase }, { on := 3, ground := Go.Ground.phase }, { on := 4, ground := Go.Ground.phase }, { on := 5, ground := Go.Ground.phase }, { on := 6, ground := Go.Ground.phase }, { on := 7, ground := Go.Ground.phase }], guard := none }) rfl (fun K hK => ?_) AllReadyH.nil)
      refine step_storePt rfl _ _ rfl (w1.heap.size) rfl r.z r.n (ptv (fun _ => 0) 0) (ptv_size _ _) rfl (HB5 w5 h5 f5).2.1 ?_
      intro w6 h6 f6
      refine hK.out _ _ ((HB5 w5 h5 f5).2.2 w6 h6 f6).1 (fun _ => ?_)
      clear hK K
      try simp only [Act.put]
      refine wpAnyH_done (by kernel_rfl) (NoPanic.normal ?_) _
      try simp only [Act.put, List.setIfInBounds_toArray, List.set_cons_zero, List.set_cons_succ]
      exact HK.out _ _ _ w6 ((HB5 w5 h5 f5).2.2 w6 h6 f6).2
  · refine step_allocPt rfl rfl ?_
    intro w1 N1
    have Hb1 : Below vd.heap.size vd w1 := N1.below
    refine hK.out _ _ (Hvd.out.mono Hb1) (fun _ => ?_)
    clear hK K
    try simp only [Act.put, List.setIfInBounds_toArray, List.set_cons_zero, List.set_cons_succ]
    refine wpAnyH_ready (rs := [3, 4]) (by kernel_rfl) (by simp) ?_
    refine (AllReadyH.cons (o := { dst := some 7, op := Go.Op.alloc 46, type := 0, pos := "law.go:153", after := #[], guard := none }) rfl (fun K hK => ?_) (AllReadyH.cons (o := { dst := some 8, op := Go.Op.alloc 46, type := 0, pos := "law.go:153", after := #[], guard := none }) rfl (fun K hK => ?_) AllReadyH.nil))
    · refine step_allocPt rfl rfl ?_
      intro w2 N2
      have Hb2 : Below vd.heap.size vd w2 := Below.transS Hb1 N2.below
      refine hK.out _ _ (Hvd.out.mono Hb2) (fun _ => ?_)
      clear hK K
      try simp only [Act.put, List.setIfInBounds_toArray, List.set_cons_zero, List.set_cons_succ]
      refine wpAnyH_ready (rs := [4]) (by kernel_rfl) (by simp) ?_
      refine (AllReadyH.cons (o := { dst := some 8, op := Go.Op.alloc 46, type := 0, pos := "law.go:153", after := #[], guard := none }) rfl (fun K hK => ?_) AllReadyH.nil)
      refine step_allocPt rfl rfl ?_
      intro w3 N3
      have Hb3 : Below vd.heap.size vd w3 := Below.transS Hb2 N3.below
      refine hK.out _ _ (Hvd.out.mono Hb3) (fun _ => ?_)
      clear hK K
      try simp only [Act.put, List.setIfInBounds_toArray, List.set_cons_zero, List.set_cons_succ]
      have hs1 := N1.size
      have hs2 := N2.size
      have hs3 := N3.size
      refine three_stores Hvd.out (A := w1.heap.size) (B := w2.heap.size) (C := vd.heap.size) Hb3 (N3.old N2.blk) N3.blk (N3.old (N2.old N1.blk)) (by omega) (by omega) (by omega) (by omega) (by omega) (by omega) ?_
      intro HA HB
      refine wpAnyH_ready (rs := [6]) (by kernel_rfl) (by simp) ?_
      refine (AllReadyH.cons (o := { dst := none, op := Go.Op.store 46 (Go.Operand.tmp 7) (Go.Operand.tmp 10), type := 0, pos := "law.go:153", after := #[{ on := 3, ground := Go.Ground.data }, { on := 0, ground := Go.Ground.data }, { on := 0, ground := Go.Ground.phase }, { on := 1, ground := Go.Ground.textOnly Go.Departure.lateStores }, { on := 2, ground := Go.Ground.textOnly Go.Departure.lateStores }, { on := 3, ground := Go.Ground.phase }, { on := 4, ground := Go.Ground.phase }, { on := 5, ground := Go.Ground.phase }], guard := none }) rfl (fun K hK => ?_) AllReadyH.nil)
      refine step_storePt rfl _ _ rfl (w1.heap.size) rfl p.z p.n (ptv (fun _ => 0) 0) (ptv_size _ _) rfl HA.1 ?_
      intro w4 h4 f4
      have HB4 := HB
      refine hK.out _ _ (HB4 w4 h4 f4).1 (fun _ => ?_)
      clear hK K
      try simp only [Act.put]
      refine wpAnyH_ready (rs := [7]) (by kernel_rfl) (by simp) ?_
      refine (AllReadyH.cons (o := { dst := none, op := Go.Op.store 46 (Go.Operand.tmp 8) (Go.Operand.tmp 11), type := 0, pos := "law.go:153", after := #[{ on := 4, ground := Go.Ground.data }, { on := 1, ground := Go.Ground.data }, { on := 6, ground := Go.Ground.chain }, { on := 0, ground := Go.Ground.phase }, { on := 1, ground := Go.Ground.phase }, { on := 2, ground := Go.Ground.textOnly Go.Departure.lateStores }, { on := 3, ground := Go.Ground.phase }, { on := 4, ground := Go.Ground.phase }, { on := 5, ground := Go.Ground.phase }, { on := 6, ground := Go.Ground.phase }], guard := none }) rfl (fun K hK => ?_) AllReadyH.nil)
      refine step_storePt rfl _ _ rfl (w2.heap.size) rfl q.z q.n (ptv (fun _ => 0) 0) (ptv_size _ _) rfl (HB4 w4 h4 f4).2.1 ?_
      intro w5 h5 f5
      have HB5 := (HB4 w4 h4 f4).2.2
      refine hK.out _ _ (HB5 w5 h5 f5).1 (fun _ => ?_)
      clear hK K
      try simp only [Act.put]
      refine wpAnyH_ready (rs := [8]) (by kernel_rfl) (by simp) ?_
      refine (AllReadyH.cons (o := { dst := none, op := Go.Op.store 46 (Go.Operand.tmp 9) (Go.Operand.tmp 12), type := 0, pos := "law.go:153", after := #[{ on := 5, ground := Go.Ground.data }, { on := 2, ground := Go.Ground.data }, { on := 7, ground := Go.Ground.chain }, { on := 0, ground := Go.Ground.phase }, { on := 1, ground := Go.Ground.phase }, { on := 2, ground := Go.Ground.phase }, { on := 3, ground := Go.Ground.phase }, { on := 4, ground := Go.Ground.phase }, { on := 5, ground := Go.Ground.phase }, { on := 6, ground := Go.Ground.phase }, { on := 7, ground := Go.Ground.phase }], guard := none }) rfl (fun K hK => ?_) AllReadyH.nil)
      refine step_storePt rfl _ _ rfl (vd.heap.size) rfl r.z r.n (ptv (fun _ => 0) 0) (ptv_size _ _) rfl (HB5 w5 h5 f5).2.1 ?_
      intro w6 h6 f6
      refine hK.out _ _ ((HB5 w5 h5 f5).2.2 w6 h6 f6).1 (fun _ => ?_)
      clear hK K
      try simp only [Act.put]
      refine wpAnyH_done (by kernel_rfl) (NoPanic.normal ?_) _
      try simp only [Act.put, List.setIfInBounds_toArray, List.set_cons_zero, List.set_cons_succ]
      exact HK.out _ _ _ w6 ((HB5 w5 h5 f5).2.2 w6 h6 f6).2
    · refine step_allocPt rfl rfl ?_
      intro w2 N2
      have Hb2 : Below vd.heap.size vd w2 := Below.transS Hb1 N2.below
      refine hK.out _ _ (Hvd.out.mono Hb2) (fun _ => ?_)
      clear hK K
      try simp only [Act.put, List.setIfInBounds_toArray, List.set_cons_zero, List.set_cons_succ]
      refine wpAnyH_ready (rs := [3]) (by kernel_rfl) (by simp) ?_
      refine (AllReadyH.cons (o := { dst := some 7, op := Go.Op.alloc 46, type := 0, pos := "law.go:153", after := #[], guard := none }) rfl (fun K hK => ?_) AllReadyH.nil)
      refine step_allocPt rfl rfl ?_
      intro w3 N3
      have Hb3 : Below vd.heap.size vd w3 := Below.transS Hb2 N3.below
      refine hK.out _ _ (Hvd.out.mono Hb3) (fun _ => ?_)
      clear hK K
      try simp only [Act.put, List.setIfInBounds_toArray, List.set_cons_zero, List.set_cons_succ]
      have hs1 := N1.size
      have hs2 := N2.size
      have hs3 := N3.size
      refine three_stores Hvd.out (A := w2.heap.size) (B := w1.heap.size) (C := vd.heap.size) Hb3 N3.blk (N3.old N2.blk) (N3.old (N2.old N1.blk)) (by omega) (by omega) (by omega) (by omega) (by omega) (by omega) ?_
      intro HA HB
      refine wpAnyH_ready (rs := [6]) (by kernel_rfl) (by simp) ?_
      refine (AllReadyH.cons (o := { dst := none, op := Go.Op.store 46 (Go.Operand.tmp 7) (Go.Operand.tmp 10), type := 0, pos := "law.go:153", after := #[{ on := 3, ground := Go.Ground.data }, { on := 0, ground := Go.Ground.data }, { on := 0, ground := Go.Ground.phase }, { on := 1, ground := Go.Ground.textOnly Go.Departure.lateStores }, { on := 2, ground := Go.Ground.textOnly Go.Departure.lateStores }, { on := 3, ground := Go.Ground.phase }, { on := 4, ground := Go.Ground.phase }, { on := 5, ground := Go.Ground.phase }], guard := none }) rfl (fun K hK => ?_) AllReadyH.nil)
      refine step_storePt rfl _ _ rfl (w2.heap.size) rfl p.z p.n (ptv (fun _ => 0) 0) (ptv_size _ _) rfl HA.1 ?_
      intro w4 h4 f4
      have HB4 := HB
      refine hK.out _ _ (HB4 w4 h4 f4).1 (fun _ => ?_)
      clear hK K
      try simp only [Act.put]
      refine wpAnyH_ready (rs := [7]) (by kernel_rfl) (by simp) ?_
      refine (AllReadyH.cons (o := { dst := none, op := Go.Op.store 46 (Go.Operand.tmp 8) (Go.Operand.tmp 11), type := 0, pos := "law.go:153", after := #[{ on := 4, ground := Go.Ground.data }, { on := 1, ground := Go.Ground.data }, { on := 6, ground := Go.Ground.chain }, { on := 0, ground := Go.Ground.phase }, { on := 1, ground := Go.Ground.phase }, { on := 2, ground := Go.Ground.textOnly Go.Departure.lateStores }, { on := 3, ground := Go.Ground.phase }, { on := 4, ground := Go.Ground.phase }, { on := 5, ground := Go.Ground.phase }, { on := 6, ground := Go.Ground.phase }], guard := none }) rfl (fun K hK => ?_) AllReadyH.nil)
      refine step_storePt rfl _ _ rfl (w1.heap.size) rfl q.z q.n (ptv (fun _ => 0) 0) (ptv_size _ _) rfl (HB4 w4 h4 f4).2.1 ?_
      intro w5 h5 f5
      have HB5 := (HB4 w4 h4 f4).2.2
      refine hK.out _ _ (HB5 w5 h5 f5).1 (fun _ => ?_)
      clear hK K
      try simp only [Act.put]
      refine wpAnyH_ready (rs := [8]) (by kernel_rfl) (by simp) ?_
      refine (AllReadyH.cons (o := { dst := none, op := Go.Op.store 46 (Go.Operand.tmp 9) (Go.Operand.tmp 12), type := 0, pos := "law.go:153", after := #[{ on := 5, ground := Go.Ground.data }, { on := 2, ground := Go.Ground.data }, { on := 7, ground := Go.Ground.chain }, { on := 0, ground := Go.Ground.phase }, { on := 1, ground := Go.Ground.phase }, { on := 2, ground := Go.Ground.phase }, { on := 3, ground := Go.Ground.phase }, { on := 4, ground := Go.Ground.phase }, { on := 5, ground := Go.Ground.phase }, { on := 6, ground := Go.Ground.phase }, { on := 7, ground := Go.Ground.phase }], guard := none }) rfl (fun K hK => ?_) AllReadyH.nil)
      refine step_storePt rfl _ _ rfl (vd.heap.size) rfl r.z r.n (ptv (fun _ => 0) 0) (ptv_size _ _) rfl (HB5 w5 h5 f5).2.1 ?_
      intro w6 h6 f6
      refine hK.out _ _ ((HB5 w5 h5 f5).2.2 w6 h6 f6).1 (fun _ => ?_)
      clear hK K
      try simp only [Act.put]
      refine wpAnyH_done (by kernel_rfl) (NoPanic.normal ?_) _
      try simp only [Act.put, List.setIfInBounds_toArray, List.set_cons_zero, List.set_cons_succ]
      exact HK.out _ _ _ w6 ((HB5 w5 h5 f5).2.2 w6 h6 f6).2
end Go.Proofs.YtbehkajfckadfaaGreatDoor
