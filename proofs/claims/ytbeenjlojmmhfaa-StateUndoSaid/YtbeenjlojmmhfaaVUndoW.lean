/- StateUndo: the walk. -/
import Derived.Test.YtbeenjlojmmhfaaVUndoM
import Derived.Test.YtbeenjlojmmhfaaVSure
import Derived.Test.YtbeenjlojmmhfaaVLong
namespace Go.Proofs.Ytbeenjlojmmhfaa
open Go.RowKit

/-- A state that came in. -/
structure StIn (w : World) (s : Sv) (p : Pl) : Prop where
  at_ : SvAt w s p
  pn : s.pn ≤ 140737488355328
  hn : s.hn ≤ 140737488355328
  ks : ∀ i, i < s.hn → (s.H i).n ≤ 140737488355328
theorem szI1 (w : World) : (sizeOf 3).run Try.prog w = .ok 1 w := by kernel_rfl
theorem eqIn2 (a b : Int) (w : World) : (Op.equalIn (9998 + 2) 22 (.agg #[.int .i64 a, .int .i64 b]) (.agg #[.int .i64 a, .int .i64 b])).run Try.prog w = .ok true w := by
  have p0 : (part 3 #[.int .i64 a, .int .i64 b] (0 * 1)).run Try.prog w = .ok (.int .i64 a) w := by simp [part, isAgg, run_underlying Try.underlying3]
  have p1 : (part 3 #[.int .i64 a, .int .i64 b] 1).run Try.prog w = .ok (.int .i64 b) w := by simp [part, isAgg, run_underlying Try.underlying3]
  have e0 := run_equalIn_int (P := Try.prog) w 9998 3 .i64 .i64 a a Try.underlying3
  have e1 : (Op.equalIn 9999 3 (.int .i64 b) (.int .i64 b)).run Try.prog w = .ok (b == b) w := run_equalIn_int (P := Try.prog) w 9998 3 .i64 .i64 b b Try.underlying3
  rw [Op.equalIn]
  simp only [Sem.run_bind, run_underlying Try.underlying22, Result.andThen_ok, szI1, Std.Legacy.Range.forIn_eq_forIn_range', Std.Legacy.Range.size, Nat.sub_zero, Nat.add_sub_cancel, Nat.div_one]
  simp only [List.range'_succ, List.range'_zero, List.forIn_cons, List.forIn_nil, Sem.run_bind, p0, Result.andThen_ok, e0]
  simp [p1, e1]
theorem eq2 (a b : Int) (w : World) : (binOp .eql 22 (.agg #[.int .i64 a, .int .i64 b]) (.agg #[.int .i64 a, .int .i64 b])).run Try.prog w = .ok (.bool true) w := by
  rw [run_eql_struct, eqIn2]
  rfl
theorem ne2 (a b : Int) (w : World) : (binOp .neq 22 (.agg #[.int .i64 a, .int .i64 b]) (.agg #[.int .i64 a, .int .i64 b])).run Try.prog w = .ok (.bool false) w := by
  have e0 := eq2 a b w
  simp only [binOp, Sem.run_bind] at e0 ⊢
  revert e0
  cases hh : Sem.run Try.prog (Op.equal 22 (.agg #[.int .i64 a, .int .i64 b]) (.agg #[.int .i64 a, .int .i64 b])) w with
  | ok b w2 =>
    simp [Result.andThen]
  | halt hx w2 => simp [Result.andThen]
set_option maxRecDepth 100000 in
set_option maxHeartbeats 6400000 in
theorem undo_any (s : Sv) (p : Pl) (y : Py) (f n : Int) (w : World) (h : StIn w s p) (hy : Zb y.lk) :
    Calls Try.prog 3 #[.agg (svv s p), .agg (pyv y), .agg #[.int .i64 f, .int .i64 n]] w fun e w' => e = .returned (.bool true) ∧ Below w.heap.size w w' := by
  obtain ⟨r0, r1, r2, hsz, hb0⟩ := three_objs w (svv s p) (pyv y) #[.int .i64 f, .int .i64 n] 26 30 22
  have hl := fun u (hb : Below w.heap.size w u) => long_any s p u (h.at_.below hb) h.pn h.hn h.ks
  have HH : Hid (SvAt w s p ∧ Zb y.lk) := ⟨h.at_, hy⟩
  have HR : Hid ((((w.alloc (.cells (svv s p) 26)).alloc (.cells (pyv y) 30)).alloc (.cells #[.int .i64 f, .int .i64 n] 22)).heap[w.heap.size]? = some (.cells (svv s p) 26 (0, 0)) ∧ (((w.alloc (.cells (svv s p) 26)).alloc (.cells (pyv y) 30)).alloc (.cells #[.int .i64 f, .int .i64 n] 22)).heap[w.heap.size + 1]? = some (.cells (pyv y) 30 (0, 0)) ∧ Below w.heap.size w (((w.alloc (.cells (svv s p) 26)).alloc (.cells (pyv y) 30)).alloc (.cells #[.int .i64 f, .int .i64 n] 22))) := ⟨r0, r1, hb0⟩
  have hf0 : (((w.alloc (.cells (svv s p) 26)).alloc (.cells (pyv y) 30)).alloc (.cells #[.int .i64 f, .int .i64 n] 22)).cell? ⟨w.heap.size + 2, 0, none⟩ = some (.int .i64 f) := by rw [cell_of_row _ _ 0 _ _ _ r2]; rfl
  have hf1 : (((w.alloc (.cells (svv s p) 26)).alloc (.cells (pyv y) 30)).alloc (.cells #[.int .i64 f, .int .i64 n] 22)).cell? ⟨w.heap.size + 2, 1, none⟩ = some (.int .i64 n) := by rw [cell_of_row _ _ 1 _ _ _ r2]; rfl
  clear h hy r0 r1 r2 hsz hb0
  unfold svv at HR hf0 hf1 hl ⊢
  go_enter Try.func3, Try.ntmps3
  go_wp2_with (first | (refine Go.Great.wpList_boxTo rfl _ _ rfl _ rfl _ rfl (pyv y) rfl ?_) | fail)
  generalize ((w.alloc (.cells #[.int .i64 s.nu, .int .i64 s.a, .int .i64 s.b, .slice p.pa s.pn p.pc, .slice p.ha s.hn p.hc] 26)).alloc (.cells (pyv y) 30)).alloc (.cells #[.int .i64 f, .int .i64 n] 22) = W0 at *
  (try rw [show w.heap.size + 1 + 1 = w.heap.size + 2 from rfl])
  have S0 : W0.drew.cell? ⟨w.heap.size + 2, 0, none⟩ = some (.int .i64 f) ∧ W0.drew.cell? ⟨w.heap.size + 2, 1, none⟩ = some (.int .i64 n) := ⟨hf0, hf1⟩
  refine wp_region_noPanic ?_
  refine wp_region_held_drew (S := fun u => u.cell? ⟨w.heap.size + 2, 0, none⟩ = some (.int .i64 f) ∧ u.cell? ⟨w.heap.size + 2, 1, none⟩ = some (.int .i64 n)) (by kernel_rfl) S0 (fun hHeld => ?_)
  have HD : Hid (W0.drew.heap[w.heap.size]? = some (.cells #[.int .i64 s.nu, .int .i64 s.a, .int .i64 s.b, .slice p.pa s.pn p.pc, .slice p.ha s.hn p.hc] 26 (0, 0)) ∧ W0.drew.heap[w.heap.size + 1]? = some (.cells (pyv y) 30 (0, 0)) ∧ Below w.heap.size w W0.drew) := ⟨HR.out.1, HR.out.2.1, HR.out.2.2.drew⟩
  clear HR hf0 hf1
  generalize W0.drew = W1 at *
  refine wpAnyH_take (i := 0) (oi := { dst := some 18, op := Go.Op.indexAddr 22 (Go.Operand.tmp 5) (Go.Operand.const (Go.Value.int Go.IntKind.i64 0)), type := 0, pos := "law.go:176", after := #[], guard := none }) (v := ?_) rfl (by kernel_rfl) (by kernel_rfl) (by kernel_rfl) (fun _ _ _ h => h) (Or.inl ⟨by rfl, ?_⟩) (by assumption) ?_
  rotate_left
  · intro wz hSw; (try dsimp only at hSw); go_simp; (try with_reducible rfl)
  try simp only [Act.put, List.setIfInBounds_toArray, List.set_cons_zero, List.set_cons_succ]
  refine wpAnyH_take (i := 1) (oi := { dst := some 19, op := Go.Op.load 3 (Go.Operand.tmp 18), type := 3, pos := "law.go:176", after := #[{ on := 0, ground := Go.Ground.data }], guard := none }) (v := ?_) rfl (by kernel_rfl) (by kernel_rfl) (by kernel_rfl) (fun _ _ _ h => h) (Or.inl ⟨by rfl, ?_⟩) (by assumption) ?_
  rotate_left
  · intro wz hSw; (try dsimp only at hSw); go_simp; (try with_reducible rfl)
  try simp only [Act.put, List.setIfInBounds_toArray, List.set_cons_zero, List.set_cons_succ]
  refine wpAnyH_take (i := 2) (oi := { dst := some 20, op := Go.Op.indexAddr 22 (Go.Operand.tmp 5) (Go.Operand.const (Go.Value.int Go.IntKind.i64 1)), type := 0, pos := "law.go:176", after := #[{ on := 4, ground := Go.Ground.gcOnly Go.Departure.lateStores }], guard := none }) (v := ?_) rfl (by kernel_rfl) (by kernel_rfl) (by kernel_rfl) (fun _ _ _ h => h) (Or.inl ⟨by rfl, ?_⟩) (by assumption) ?_
  rotate_left
  · intro wz hSw; (try dsimp only at hSw); go_simp; (try with_reducible rfl)
  try simp only [Act.put, List.setIfInBounds_toArray, List.set_cons_zero, List.set_cons_succ]
  refine wpAnyH_take (i := 3) (oi := { dst := some 21, op := Go.Op.load 3 (Go.Operand.tmp 20), type := 3, pos := "law.go:176", after := #[{ on := 2, ground := Go.Ground.data }, { on := 4, ground := Go.Ground.gcOnly Go.Departure.lateStores }], guard := none }) (v := ?_) rfl (by kernel_rfl) (by kernel_rfl) (by kernel_rfl) (fun _ _ _ h => h) (Or.inl ⟨by rfl, ?_⟩) (by assumption) ?_
  rotate_left
  · intro wz hSw; (try dsimp only at hSw); go_simp; (try with_reducible rfl)
  try simp only [Act.put, List.setIfInBounds_toArray, List.set_cons_zero, List.set_cons_succ]
  refine wpAnyH_take (i := 4) (oi := { dst := some 7, op := Go.Op.assign (Go.Operand.tmp 19), type := 3, pos := "law.go:176", after := #[{ on := 1, ground := Go.Ground.data }, { on := 0, ground := Go.Ground.phase }, { on := 1, ground := Go.Ground.phase }, { on := 2, ground := Go.Ground.textOnly Go.Departure.lateStores }, { on := 3, ground := Go.Ground.textOnly Go.Departure.lateStores }], guard := none }) (v := ?_) rfl (by kernel_rfl) (by kernel_rfl) (by kernel_rfl) (fun _ _ _ h => h) (Or.inl ⟨by rfl, ?_⟩) (by assumption) ?_
  rotate_left
  · intro wz hSw; (try dsimp only at hSw); go_simp; (try with_reducible rfl)
  try simp only [Act.put, List.setIfInBounds_toArray, List.set_cons_zero, List.set_cons_succ]
  refine wpAnyH_take (i := 5) (oi := { dst := some 8, op := Go.Op.assign (Go.Operand.tmp 21), type := 3, pos := "law.go:176", after := #[{ on := 3, ground := Go.Ground.data }, { on := 4, ground := Go.Ground.chain }, { on := 0, ground := Go.Ground.phase }, { on := 1, ground := Go.Ground.phase }, { on := 2, ground := Go.Ground.phase }, { on := 3, ground := Go.Ground.phase }, { on := 4, ground := Go.Ground.phase }], guard := none }) (v := ?_) rfl (by kernel_rfl) (by kernel_rfl) (by kernel_rfl) (fun _ _ _ h => h) (Or.inl ⟨by rfl, ?_⟩) (by assumption) ?_
  rotate_left
  · intro wz hSw; (try dsimp only at hSw); go_simp; (try with_reducible rfl)
  try simp only [Act.put, List.setIfInBounds_toArray, List.set_cons_zero, List.set_cons_succ]
  refine wpAnyH_done (by kernel_rfl) (NoPanic.normal ?_) _
  try simp only [Act.put, List.setIfInBounds_toArray, List.set_cons_zero, List.set_cons_succ]
  clear hHeld S0
  have hl1 := hl W1 HD.out.2.2
  have k0 := HD.out.1
  obtain ⟨c0, c1, c2, c3, c4, _⟩ := five_of k0
  clear hl k0
  by_cases hlg : lngS s = true
  · rw [hlg] at hl1
    go_wp2_with fail
    refine hl1.mono ?_
    rintro e w2 ⟨rfl, hb2⟩
    have HBU : Hid (Below w.heap.size w w2) := HD.out.2.2.trans (hb2.mono HD.out.2.2.size)
    clear hl1 hb2 c0 c1 c2 c3 c4
    go_wp2_with fail
    refine (sure_any _).mono ?_
    rintro e wZ ⟨rfl, hbZ⟩
    have HE : Hid (Below w.heap.size w wZ) := HBU.out.trans (hbZ.mono HBU.out.size)
    clear hbZ
    go_wp2
    go_ret
    exact ⟨rfl, HE.out⟩
  · have hlf : lngS s = false := by simpa using hlg
    rw [hlf] at hl1
    have hsm := lngS_no hlf
    clear hlg hlf
    go_wp2_with fail
    refine hl1.mono ?_
    rintro e w2 ⟨rfl, hb2⟩
    have HB2 : Hid (Below w.heap.size w w2) := HD.out.2.2.trans (hb2.mono HD.out.2.2.size)
    have k0 := hb2.block _ (lt_of_block HD.out.1)
    rw [HD.out.1] at k0
    have k1 := hb2.block _ (lt_of_block HD.out.2.1)
    rw [HD.out.2.1] at k1
    have HK : Hid (w2.heap[w.heap.size]? = some (.cells #[.int .i64 s.nu, .int .i64 s.a, .int .i64 s.b, .slice p.pa s.pn p.pc, .slice p.ha s.hn p.hc] 26 (0, 0)) ∧ w2.heap[w.heap.size + 1]? = some (.cells (pyv y) 30 (0, 0))) := ⟨k0, k1⟩
    clear hl1 hb2 c0 c1 c2 c3 c4 HD k1
    obtain ⟨c0, c1, c2, c3, c4, _⟩ := five_of k0
    clear k0
    by_cases hu : 549755813888 < s.nu
    · have HBU : Hid (Below w.heap.size w w2) := HB2.out
      clear c1 c2 c3 c4
      go_wp2_with fail
      refine (sure_any _).mono ?_
      rintro e wZ ⟨rfl, hbZ⟩
      have HE : Hid (Below w.heap.size w wZ) := HBU.out.trans (hbZ.mono HBU.out.size)
      clear hbZ
      go_wp2
      go_ret
      exact ⟨rfl, HE.out⟩
    · have HM : Hid (s.Small ∧ s.nu ≤ 549755813888) := ⟨hsm, by omega⟩
      have hgv := give_any s p w2 (HH.out.1.below HB2.out) hsm
      unfold svv at hgv
      go_wp2_with fail
      refine hgv.mono ?_
      rintro e w3 ⟨⟨q, A, rfl, hO⟩, hb3⟩
      have hb4 : Below w2.heap.size w2 (w3.alloc (.cells #[.int .i64 s.nu, .int .i64 s.a, .int .i64 s.b, .slice q.pa s.pn q.pc, .slice q.ha s.hn q.hc] 36)) := hb3.alloc hb3.size _
      have HB4 : Hid (Below w.heap.size w (w3.alloc (.cells #[.int .i64 s.nu, .int .i64 s.a, .int .i64 s.b, .slice q.pa s.pn q.pc, .slice q.ha s.hn q.hc] 36))) := HB2.out.trans (hb4.mono HB2.out.size)
      have k1 := hb4.block _ (lt_of_block HK.out.2)
      rw [HK.out.2] at k1
      have k9 := heap_alloc_new w3 (.cells #[.int .i64 s.nu, .int .i64 s.a, .int .i64 s.b, .slice q.pa s.pn q.pc, .slice q.ha s.hn q.hc] 36)
      have HK4 : Hid ((w3.alloc (.cells #[.int .i64 s.nu, .int .i64 s.a, .int .i64 s.b, .slice q.pa s.pn q.pc, .slice q.ha s.hn q.hc] 36)).rangeAt (w.heap.size + 1) 0 (pyl y) ∧ (w3.alloc (.cells #[.int .i64 s.nu, .int .i64 s.a, .int .i64 s.b, .slice q.pa s.pn q.pc, .slice q.ha s.hn q.hc] 36)).heap[w3.heap.size]? = some (.cells #[.int .i64 s.nu, .int .i64 s.a, .int .i64 s.b, .slice q.pa s.pn q.pc, .slice q.ha s.hn q.hc] 36 (0, 0)) ∧ (w3.alloc (.cells #[.int .i64 s.nu, .int .i64 s.a, .int .i64 s.b, .slice q.pa s.pn q.pc, .slice q.ha s.hn q.hc] 36)).cell? ⟨w.heap.size + 1, 0, none⟩ = some (.int .i64 y.id)) := ⟨pyv_range k1, k9, (pbox_of k1).c0⟩
      have HSV4 : Hid (SvAt (w3.alloc (.cells #[.int .i64 s.nu, .int .i64 s.a, .int .i64 s.b, .slice q.pa s.pn q.pc, .slice q.ha s.hn q.hc] 36)) s q) := hO.at.below ((Below.refl _ w3).alloc (Nat.le_refl _) _)
      have had := add_any s q y (w3.alloc (.cells #[.int .i64 s.nu, .int .i64 s.a, .int .i64 s.b, .slice q.pa s.pn q.pc, .slice q.ha s.hn q.hc] 36)) HSV4.out hsm HH.out.2
      unfold svv at had
      obtain ⟨x0, x1, x2, x3, x4, _⟩ := five_of k9
      clear hgv hO hb3 hb4 k1 k9 c0 c1 c2 c3 c4 HK HB2 hu
      go_wp2_with (first | (refine wpList_load_mid rfl 30 _ rfl (w.heap.size + 1) 0 rfl (pyl y) _ HK4.out.1 Try.underlying30 rfl (szPrl _) ?_) | fail)
      generalize w3.alloc (.cells #[.int .i64 s.nu, .int .i64 s.a, .int .i64 s.b, .slice q.pa s.pn q.pc, .slice q.ha s.hn q.hc] 36) = W4 at *
      obtain ⟨b9, hb9⟩ : ∃ b9, w3.heap.size = b9 := ⟨_, rfl⟩
      rw [hb9] at HK4 x0 x1 x2 x3 x4 ⊢
      clear hb9
      refine had.mono ?_
      rintro e w5 ⟨⟨i, th, hF, hT⟩, hb5⟩
      clear had x0 x1 x2 x3 x4
      rcases hT with ⟨hne, rfl⟩ | ⟨heq, p', A', rfl, hO5⟩
      · have e0 : errV (addE s y th) = .iface 59 (.int .i64 (addE s y th)) := errV_ne hne
        rw [e0]
        generalize addE s y th = er at *
        have hb6 : Below W4.heap.size W4 (w5.alloc (.cells #[.int .i64 0, .int .i64 0, .int .i64 0, .slice none 0 0, .slice none 0 0] 36)) := hb5.alloc hb5.size _
        have HBC0 : Hid (Below w.heap.size w (w5.alloc (.cells #[.int .i64 0, .int .i64 0, .int .i64 0, .slice none 0 0, .slice none 0 0] 36))) := HB4.out.trans (hb6.mono HB4.out.size)
        have k9 := hb6.block _ (lt_of_block HK4.out.2.1)
        rw [HK4.out.2.1] at k9
        have H9 : Hid ((w5.alloc (.cells #[.int .i64 0, .int .i64 0, .int .i64 0, .slice none 0 0, .slice none 0 0] 36)).heap[b9]? = some (.cells #[.int .i64 s.nu, .int .i64 s.a, .int .i64 s.b, .slice q.pa s.pn q.pc, .slice q.ha s.hn q.hc] 36 (0, 0))) := k9
        have HSV : Hid (SvAt (w5.alloc (.cells #[.int .i64 0, .int .i64 0, .int .i64 0, .slice none 0 0, .slice none 0 0] 36)) s q) := HSV4.out.below hb6
        obtain ⟨x0, x1, x2, x3, x4, _⟩ := five_of k9
        clear hF e0 hb5 hb6 hne k9 hsm
        go_wp2_with fail
        generalize w5.alloc (.cells #[.int .i64 0, .int .i64 0, .int .i64 0, .slice none 0 0, .slice none 0 0] 36) = WC at *
        have HBC : Hid (Below w.heap.size w WC) := HBC0.out
        clear HBC0
        have hmv := move_any s q f n WC HSV.out HM.out.1
        unfold svv at hmv
        refine hmv.mono ?_
        rintro e u1 ⟨q3, rfl, hA3, hb3⟩
        clear hmv x0 x1 x2 x3 x4
        by_cases her : (moveF s f n).2 = 0
        · obtain ⟨e1, e2, e3, hff⟩ := move_back HM.out.2 her
          have hsm2 := moveF_smallU HM.out.1 f n
          rw [her]
          obtain ⟨t, ht⟩ : ∃ t, (moveF s f n).1 = t := ⟨_, rfl⟩
          rw [ht] at hA3 e1 e2 e3 hsm2 ⊢
          have e0 : errV 0 = .nilIface := rfl
          rw [e0]
          have hw1 : wrap64 (1 - f) = 1 - f := by simp [wrap64]; omega
          have hA4 := hA3.below ((Below.refl _ u1).alloc (Nat.le_refl _) (.cells #[.int .i64 t.nu, .int .i64 t.a, .int .i64 t.b, .slice q3.pa t.pn q3.pc, .slice q3.ha t.hn q3.hc] 36))
          have hm2 := move_any t q3 (1 - f) n (u1.alloc (.cells #[.int .i64 t.nu, .int .i64 t.a, .int .i64 t.b, .slice q3.pa t.pn q3.pc, .slice q3.ha t.hn q3.hc] 36)) hA4 hsm2
          rw [e1, e0] at hm2
          obtain ⟨t2, ht2⟩ : ∃ t2, (moveF t (1 - f) n).1 = t2 := ⟨_, rfl⟩
          rw [ht2] at hm2 e2 e3
          have HE2 : Hid (t2.a = s.a ∧ t2.b = s.b) := ⟨e2, e3⟩
          unfold svv at hm2
          have hbw : Below WC.heap.size WC (u1.alloc (.cells #[.int .i64 t.nu, .int .i64 t.a, .int .i64 t.b, .slice q3.pa t.pn q3.pc, .slice q3.ha t.hn q3.hc] 36)) := hb3.alloc hb3.size _
          have HW : Hid (Below WC.heap.size WC (u1.alloc (.cells #[.int .i64 t.nu, .int .i64 t.a, .int .i64 t.b, .slice q3.pa t.pn q3.pc, .slice q3.ha t.hn q3.hc] 36))) := hbw
          clear ht ht2 e0 e1 e2 e3 hA3 hA4 hb3 hbw her hsm2
          go_wp2_with fail
          generalize u1.alloc (.cells #[.int .i64 t.nu, .int .i64 t.a, .int .i64 t.b, .slice q3.pa t.pn q3.pc, .slice q3.ha t.hn q3.hc] 36) = U2 at *
          refine hm2.mono ?_
          rintro e u3 ⟨q4, rfl, _, hb4⟩
          rw [HE2.out.1, HE2.out.2]
          have hne2 := ne2 s.a s.b
          have hb5 : Below WC.heap.size WC (u3.alloc (.cells #[.int .i64 t2.nu, .int .i64 s.a, .int .i64 s.b, .slice q4.pa t2.pn q4.pc, .slice q4.ha t2.hn q4.hc] 36)) := (Below.transS HW.out hb4).alloc (Below.transS HW.out hb4).size _
          have h9' : (u3.alloc (.cells #[.int .i64 t2.nu, .int .i64 s.a, .int .i64 s.b, .slice q4.pa t2.pn q4.pc, .slice q4.ha t2.hn q4.hc] 36)).heap[b9]? = some (.cells #[.int .i64 s.nu, .int .i64 s.a, .int .i64 s.b, .slice q.pa s.pn q.pc, .slice q.ha s.hn q.hc] 36 (0, 0)) := by rw [hb5.block _ (lt_of_block H9.out)]; exact H9.out
          obtain ⟨c0, c1, c2, c3, c4, _⟩ := five_of h9'
          have HBU : Hid (Below w.heap.size w (u3.alloc (.cells #[.int .i64 t2.nu, .int .i64 s.a, .int .i64 s.b, .slice q4.pa t2.pn q4.pc, .slice q4.ha t2.hn q4.hc] 36))) := HBC.out.trans (hb5.mono HBC.out.size)
          clear hm2 hb4 hb5 h9' hw1
          go_wp2_with fail
          refine (sure_any _).mono ?_
          rintro e wZ ⟨rfl, hbZ⟩
          have HE : Hid (Below w.heap.size w wZ) := HBU.out.trans (hbZ.mono HBU.out.size)
          clear hbZ
          go_wp2
          go_ret
          exact ⟨rfl, HE.out⟩
        · have e0 : errV (moveF s f n).2 = .iface 59 (.int .i64 (moveF s f n).2) := errV_ne her
          rw [e0]
          obtain ⟨t, ht⟩ : ∃ t, (moveF s f n).1 = t := ⟨_, rfl⟩
          rw [ht]
          generalize (moveF s f n).2 = er at *
          have HBU : Hid (Below w.heap.size w (u1.alloc (.cells #[.int .i64 t.nu, .int .i64 t.a, .int .i64 t.b, .slice q3.pa t.pn q3.pc, .slice q3.ha t.hn q3.hc] 36))) := HBC.out.trans ((hb3.alloc hb3.size _).mono HBC.out.size)
          clear ht e0 hA3 hb3 her
          go_wp2_with fail
          refine (sure_any _).mono ?_
          rintro e wZ ⟨rfl, hbZ⟩
          have HE : Hid (Below w.heap.size w wZ) := HBU.out.trans (hbZ.mono HBU.out.size)
          clear hbZ
          go_wp2
          go_ret
          exact ⟨rfl, HE.out⟩
      · obtain ⟨hrx, hff⟩ := add_rgt hF heq HM.out.2
        have hsx := addY_small hrx hsm
        have hbk := bak_add (s := s) (y := y) (i := i) hff
        have HPS : Hid (PsOk (addY (asideS s y.fr y.am) i y).P (addY (asideS s y.fr y.am) i y).pn ∧ i ≤ s.pn ∧ (addY (asideS s y.fr y.am) i y).pn = s.pn + 1 ∧ (addY (asideS s y.fr y.am) i y).P = insY s.P i y) := ⟨hrx.1.2.1.2.1, hF.le, by show (asideS s y.fr y.am).pn + 1 = s.pn + 1; rw [(asideS_rows s y.fr y.am).1], by show insY (asideS s y.fr y.am).P i y = _; rw [(asideS_rows s y.fr y.am).2.1]⟩
        obtain ⟨x, hx⟩ : ∃ x, addY (asideS s y.fr y.am) i y = x := ⟨_, rfl⟩
        rw [hx] at hO5 hrx hsx hbk HPS ⊢
        have hb6 : Below W4.heap.size W4 (w5.alloc (.cells (svv x p') 36)) := hb5.alloc hb5.size _
        have HB6 : Hid (Below w.heap.size w (w5.alloc (.cells (svv x p') 36)) ∧ Below W4.heap.size W4 (w5.alloc (.cells (svv x p') 36))) := ⟨HB4.out.trans (hb6.mono HB4.out.size), hb6⟩
        have hfa := fail_any x p' y.id (w5.alloc (.cells (svv x p') 36)) (hO5.at.below ((Below.refl _ w5).alloc (Nat.le_refl _) _)) hsx hrx
        have y0 : (w5.alloc (.cells (svv x p') 36)).cell? ⟨w.heap.size + 1, 0, none⟩ = some (.int .i64 y.id) := by rw [hb6.cell (p := ⟨w.heap.size + 1, 0, none⟩) (World.block_lt_of_cell? _ _ HK4.out.2.2)]; exact HK4.out.2.2
        clear hO5 hrx hsx hx hF heq hff hb5 hb6
        unfold svv at hfa y0 HB6 ⊢
        go_wp2_with fail
        generalize w5.alloc (.cells #[.int .i64 x.nu, .int .i64 x.a, .int .i64 x.b, .slice p'.pa x.pn p'.pc, .slice p'.ha x.hn p'.hc] 36) = W6 at *
        refine hfa.mono ?_
        rintro e w7 ⟨⟨k, bb, hFk, hTk⟩, hb7⟩
        rw [HPS.out.2.2.1, HPS.out.2.2.2] at hFk
        obtain ⟨rfl, rfl⟩ := fnd_ins (by have := HPS.out.1; rw [HPS.out.2.2.1, HPS.out.2.2.2] at this; exact this) HPS.out.2.1 hFk
        rcases hTk with ⟨hbad, _⟩ | ⟨_, p8, A8, rfl, _⟩
        · cases hbad
        obtain ⟨z, hz⟩ : ∃ z, bakY x k = z := ⟨_, rfl⟩
        rw [hz] at hbk ⊢
        obtain ⟨ba, bb, bp⟩ := hbk
        unfold svv
        rw [ba, bb, bp]
        have hb8 : Below W4.heap.size W4 (w7.alloc (.cells #[.int .i64 z.nu, .int .i64 s.a, .int .i64 s.b, .slice p8.pa s.pn p8.pc, .slice p8.ha z.hn p8.hc] 36)) := (Below.transS HB6.out.2 hb7).alloc (Below.transS HB6.out.2 hb7).size _
        have HBC0 : Hid (Below w.heap.size w (w7.alloc (.cells #[.int .i64 z.nu, .int .i64 s.a, .int .i64 s.b, .slice p8.pa s.pn p8.pc, .slice p8.ha z.hn p8.hc] 36))) := HB4.out.trans (hb8.mono HB4.out.size)
        have k9 := hb8.block _ (lt_of_block HK4.out.2.1)
        rw [HK4.out.2.1] at k9
        have H9 : Hid ((w7.alloc (.cells #[.int .i64 z.nu, .int .i64 s.a, .int .i64 s.b, .slice p8.pa s.pn p8.pc, .slice p8.ha z.hn p8.hc] 36)).heap[b9]? = some (.cells #[.int .i64 s.nu, .int .i64 s.a, .int .i64 s.b, .slice q.pa s.pn q.pc, .slice q.ha s.hn q.hc] 36 (0, 0))) := k9
        have HSV : Hid (SvAt (w7.alloc (.cells #[.int .i64 z.nu, .int .i64 s.a, .int .i64 s.b, .slice p8.pa s.pn p8.pc, .slice p8.ha z.hn p8.hc] 36)) s q) := HSV4.out.below hb8
        have hne2 := ne2 s.a s.b
        have hnpn : ((s.pn : Int) != (s.pn : Int)) = false := by simp
        obtain ⟨x0, x1, x2, x3, x4, _⟩ := five_of k9
        clear hfa hFk hb7 hb8 k9 hz ba bb bp y0 hsm
        go_wp2_with fail
        generalize w7.alloc (.cells #[.int .i64 z.nu, .int .i64 s.a, .int .i64 s.b, .slice p8.pa s.pn p8.pc, .slice p8.ha z.hn p8.hc] 36) = WC at *
        have HBC : Hid (Below w.heap.size w WC) := HBC0.out
        clear HBC0 hne2 hnpn
        have hmv := move_any s q f n WC HSV.out HM.out.1
        unfold svv at hmv
        refine hmv.mono ?_
        rintro e u1 ⟨q3, rfl, hA3, hb3⟩
        clear hmv x0 x1 x2 x3 x4
        by_cases her : (moveF s f n).2 = 0
        · obtain ⟨e1, e2, e3, hff⟩ := move_back HM.out.2 her
          have hsm2 := moveF_smallU HM.out.1 f n
          rw [her]
          obtain ⟨t, ht⟩ : ∃ t, (moveF s f n).1 = t := ⟨_, rfl⟩
          rw [ht] at hA3 e1 e2 e3 hsm2 ⊢
          have e0 : errV 0 = .nilIface := rfl
          rw [e0]
          have hw1 : wrap64 (1 - f) = 1 - f := by simp [wrap64]; omega
          have hA4 := hA3.below ((Below.refl _ u1).alloc (Nat.le_refl _) (.cells #[.int .i64 t.nu, .int .i64 t.a, .int .i64 t.b, .slice q3.pa t.pn q3.pc, .slice q3.ha t.hn q3.hc] 36))
          have hm2 := move_any t q3 (1 - f) n (u1.alloc (.cells #[.int .i64 t.nu, .int .i64 t.a, .int .i64 t.b, .slice q3.pa t.pn q3.pc, .slice q3.ha t.hn q3.hc] 36)) hA4 hsm2
          rw [e1, e0] at hm2
          obtain ⟨t2, ht2⟩ : ∃ t2, (moveF t (1 - f) n).1 = t2 := ⟨_, rfl⟩
          rw [ht2] at hm2 e2 e3
          have HE2 : Hid (t2.a = s.a ∧ t2.b = s.b) := ⟨e2, e3⟩
          unfold svv at hm2
          have hbw : Below WC.heap.size WC (u1.alloc (.cells #[.int .i64 t.nu, .int .i64 t.a, .int .i64 t.b, .slice q3.pa t.pn q3.pc, .slice q3.ha t.hn q3.hc] 36)) := hb3.alloc hb3.size _
          have HW : Hid (Below WC.heap.size WC (u1.alloc (.cells #[.int .i64 t.nu, .int .i64 t.a, .int .i64 t.b, .slice q3.pa t.pn q3.pc, .slice q3.ha t.hn q3.hc] 36))) := hbw
          clear ht ht2 e0 e1 e2 e3 hA3 hA4 hb3 hbw her hsm2
          go_wp2_with fail
          generalize u1.alloc (.cells #[.int .i64 t.nu, .int .i64 t.a, .int .i64 t.b, .slice q3.pa t.pn q3.pc, .slice q3.ha t.hn q3.hc] 36) = U2 at *
          refine hm2.mono ?_
          rintro e u3 ⟨q4, rfl, _, hb4⟩
          rw [HE2.out.1, HE2.out.2]
          have hne2 := ne2 s.a s.b
          have hb5 : Below WC.heap.size WC (u3.alloc (.cells #[.int .i64 t2.nu, .int .i64 s.a, .int .i64 s.b, .slice q4.pa t2.pn q4.pc, .slice q4.ha t2.hn q4.hc] 36)) := (Below.transS HW.out hb4).alloc (Below.transS HW.out hb4).size _
          have h9' : (u3.alloc (.cells #[.int .i64 t2.nu, .int .i64 s.a, .int .i64 s.b, .slice q4.pa t2.pn q4.pc, .slice q4.ha t2.hn q4.hc] 36)).heap[b9]? = some (.cells #[.int .i64 s.nu, .int .i64 s.a, .int .i64 s.b, .slice q.pa s.pn q.pc, .slice q.ha s.hn q.hc] 36 (0, 0)) := by rw [hb5.block _ (lt_of_block H9.out)]; exact H9.out
          obtain ⟨c0, c1, c2, c3, c4, _⟩ := five_of h9'
          have HBU : Hid (Below w.heap.size w (u3.alloc (.cells #[.int .i64 t2.nu, .int .i64 s.a, .int .i64 s.b, .slice q4.pa t2.pn q4.pc, .slice q4.ha t2.hn q4.hc] 36))) := HBC.out.trans (hb5.mono HBC.out.size)
          clear hm2 hb4 hb5 h9' hw1
          go_wp2_with fail
          refine (sure_any _).mono ?_
          rintro e wZ ⟨rfl, hbZ⟩
          have HE : Hid (Below w.heap.size w wZ) := HBU.out.trans (hbZ.mono HBU.out.size)
          clear hbZ
          go_wp2
          go_ret
          exact ⟨rfl, HE.out⟩
        · have e0 : errV (moveF s f n).2 = .iface 59 (.int .i64 (moveF s f n).2) := errV_ne her
          rw [e0]
          obtain ⟨t, ht⟩ : ∃ t, (moveF s f n).1 = t := ⟨_, rfl⟩
          rw [ht]
          generalize (moveF s f n).2 = er at *
          have HBU : Hid (Below w.heap.size w (u1.alloc (.cells #[.int .i64 t.nu, .int .i64 t.a, .int .i64 t.b, .slice q3.pa t.pn q3.pc, .slice q3.ha t.hn q3.hc] 36))) := HBC.out.trans ((hb3.alloc hb3.size _).mono HBC.out.size)
          clear ht e0 hA3 hb3 her
          go_wp2_with fail
          refine (sure_any _).mono ?_
          rintro e wZ ⟨rfl, hbZ⟩
          have HE : Hid (Below w.heap.size w wZ) := HBU.out.trans (hbZ.mono HBU.out.size)
          clear hbZ
          go_wp2
          go_ret
          exact ⟨rfl, HE.out⟩
end Go.Proofs.Ytbeenjlojmmhfaa
