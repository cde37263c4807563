/- StateReads: the walk. -/
import Derived.Test.YtchiapnhkhbigaaDoorOwnShelf23
import Derived.Test.YtchiapnhkhbigaaDoorOwnShelf30
import Derived.Test.YtchiapnhkhbigaaDoorOwnShelf39
import Derived.Test.YtchiapnhkhbigaaDoorOwnShelf49
import Derived.Test.YtchiapnhkhbigaaDoorOwnShelf50
namespace Go.Proofs.YtchiapnhkhbigaaDoor
open Go.RowKit

theorem docT_small (l : List Int) : (docT l).Small := by
  unfold docT
  split
  · exact docS_small l
  · exact sv0_small
set_option maxRecDepth 100000 in
set_option maxHeartbeats 3200000 in
theorem reads_any (ad : Option Addr) (cap : Nat) (l : List Int) (w : World) (hg : Glob w) (hs : SlAt w ad l.length (fn l)) (hnil : ad = none → l.length = 0 ∧ cap = 0) (hcap : l.length ≤ cap) (hn : l.length ≤ 140737488351232) :
    Calls Tryd.prog 4 #[.slice ad l.length cap] w fun e w' => e = .returned (.bool true) ∧ Below w.heap.size w w' := by
  have hby : ByQ (some l) := by
    rintro l' h j hj
    cases h
    exact hs.1 j hj
  have k1 := decode_any ad cap l w hs hnil hn
  have HL : Hid (laidS (docT l) = laidS (decT l) ∧ (decE l = 0 → laidS (decT l) = l)) := ⟨(laid_T hby).symm, laid_ok hby⟩
  have HSM : Hid ((decT l).Small ∧ (docT l).Small) := ⟨decT_small l, docT_small l⟩
  have HE : Hid (decE l = docE l) := decE_doc l
  have HEC : Hid (decE l = 0 ∨ decE l = 3) := by
    unfold decE
    split
    · exact .inl rfl
    · exact .inr rfl
  have HW : Hid (∀ w', Below w.heap.size w w' → SlAt w' ad l.length (fn l)) := fun w' hb => hs.keepB hb
  have HG : Hid (Glob w ∧ (ad = none → l.length = 0 ∧ cap = 0) ∧ l.length ≤ cap ∧ l.length ≤ 140737488351232) := ⟨hg, hnil, hcap, hn⟩
  clear hby hs hg hnil hcap hn
  obtain ⟨s, hs⟩ : ∃ s, decT l = s := ⟨_, rfl⟩
  obtain ⟨t, ht⟩ : ∃ t, docT l = t := ⟨_, rfl⟩
  obtain ⟨er, her⟩ : ∃ er, decE l = er := ⟨_, rfl⟩
  rw [hs, her] at k1
  rw [hs, ht, her] at HL
  rw [hs, ht] at HSM
  rw [her] at HE HEC
  have HT : Hid (docT l = t) := ht
  clear hs ht her
  go_enter Tryd.func4, Tryd.ntmps4
  go_wp2_with fail
  refine k1.mono ?_
  rintro e w1 ⟨p, rfl, hA1, hb1⟩
  clear k1
  have hb1' : Below w.heap.size w (w1.alloc (.cells (svv s p) 35)) := hb1.alloc hb1.size _
  have hA1' := hA1.below ((Below.refl _ w1).alloc (Nat.le_refl _) (.cells (svv s p) 35))
  have x1 := heap_alloc_new w1 (.cells (svv s p) 35)
  have hx : w.heap.size ≤ w1.heap.size := hb1.size
  unfold svv at hb1' hA1' x1 ⊢
  clear hA1 hb1
  go_wp2_with fail
  generalize w1.alloc (.cells #[.int .i64 s.nu, .int .i64 s.a, .int .i64 s.b, .slice p.pa s.pn p.pc, .slice p.ha s.hn p.hc] 35) = W1 at *
  generalize w1.heap.size = X at *
  have k2 := rdecode_any ad cap l W1 (HW.out W1 hb1') HG.out.2.2.1 HG.out.2.2.2
  rw [← HE.out, HT.out] at k2
  have HK1 : Hid (Below w.heap.size w W1 ∧ SvAt W1 s p ∧ W1.heap[X]? = some (.cells #[.int .i64 s.nu, .int .i64 s.a, .int .i64 s.b, .slice p.pa s.pn p.pc, .slice p.ha s.hn p.hc] 35 (0, 0))) := ⟨hb1', hA1', x1⟩
  clear hb1' hA1' x1
  refine k2.mono ?_
  rintro e w2 ⟨q, rfl, hA2, hb2⟩
  clear k2
  have hb2' : Below W1.heap.size W1 (w2.alloc (.cells (svv t q) 26)) := hb2.alloc hb2.size _
  have hA2' := hA2.below ((Below.refl _ w2).alloc (Nat.le_refl _) (.cells (svv t q) 26))
  have x2 := heap_alloc_new w2 (.cells (svv t q) 26)
  unfold svv at hb2' hA2' x2 ⊢
  clear hA2 hb2
  go_wp2_with fail
  generalize w2.alloc (.cells #[.int .i64 t.nu, .int .i64 t.a, .int .i64 t.b, .slice q.pa t.pn q.pc, .slice q.ha t.hn q.hc] 26) = W2 at *
  generalize w2.heap.size = Y at *
  have hX2 : W2.heap[X]? = some (.cells (svv s p) 35 (0, 0)) := by rw [hb2'.block _ (lt_of_block HK1.out.2.2)]; exact HK1.out.2.2
  have hY2 : W2.heap[Y]? = some (.cells (svv t q) 26 (0, 0)) := x2
  have HK2 : Hid (Below w.heap.size w W2 ∧ SvAt W2 s p ∧ SvAt W2 t q) := ⟨HK1.out.1.trans (hb2'.mono HK1.out.1.size), HK1.out.2.1.below hb2', hA2'⟩
  have HR : Hid (∀ w', Below W2.heap.size W2 w' → (w'.rangeAt X 0 (svl s p) ∧ w'.rangeAt Y 0 (svl t q)) ∧ (convert 47 9 (.slice ad l.length cap)).run Tryd.prog w' = .ok (.string (strB (fn l) l.length)) w') := fun w' hb =>
    ⟨⟨range_below (svl_range hX2) hb, range_below (svl_range hY2) hb⟩, conv_any ad _ cap _ w' (HW.out w' (HK2.out.1.trans (hb.mono HK2.out.1.size))) HG.out.2.1⟩
  clear hX2 hY2 hb2' hA2' x2 HK1
  have S0 := HR.out W2.drew (Below.refl _ W2).drew
  have he1 : errV 3 = .iface 71 (.int .i64 3) := rfl
  have he0 := errV_0
  refine wp_region_noPanic ?_
  refine wp_region_held_drew (S := fun w' => (w'.rangeAt X 0 (svl s p) ∧ w'.rangeAt Y 0 (svl t q)) ∧ (convert 47 9 (.slice ad l.length cap)).run Tryd.prog w' = .ok (.string (strB (fn l) l.length)) w') (by kernel_rfl) S0 (fun hHeld => ?_)
  refine wpAnyH_take (i := 1) (oi := { dst := some 18, op := Go.Op.move (Go.Operand.tmp 4), type := 39, pos := "law.go:212", after := #[], guard := none }) (v := ?_) rfl (by kernel_rfl) (by kernel_rfl) (by kernel_rfl) (fun _ _ _ h => h) (Or.inl ⟨by rfl, ?_⟩) (by assumption) ?_
  rotate_left
  · intro wz hSw; (try dsimp only at hSw); go_simp; (try with_reducible rfl)
  try simp only [Act.put, List.setIfInBounds_toArray, List.set_cons_zero, List.set_cons_succ]
  refine wpAnyH_take (i := 3) (oi := { dst := some 20, op := Go.Op.move (Go.Operand.tmp 6), type := 3, pos := "law.go:212", after := #[], guard := none }) (v := ?_) rfl (by kernel_rfl) (by kernel_rfl) (by kernel_rfl) (fun _ _ _ h => h) (Or.inl ⟨by rfl, ?_⟩) (by assumption) ?_
  rotate_left
  · intro wz hSw; (try dsimp only at hSw); go_simp; (try with_reducible rfl)
  try simp only [Act.put, List.setIfInBounds_toArray, List.set_cons_zero, List.set_cons_succ]
  refine wpAnyH_take (i := 0) (oi := { dst := some 17, op := Go.Op.load 35 (Go.Operand.tmp 3), type := 35, pos := "law.go:212", after := #[], guard := none }) rfl (by kernel_rfl) (by kernel_rfl) (by kernel_rfl) (fun _ _ _ h => h) (yieldsIf_load_mid (by rfl) _ _ rfl X 0 rfl (svl s p) _ (fun _ h => h.1.1) Tryd.underlying35 rfl szS) (by assumption) ?_
  try simp only [Act.put, List.setIfInBounds_toArray, List.set_cons_zero, List.set_cons_succ]
  refine wpAnyH_take (i := 2) (oi := { dst := some 19, op := Go.Op.load 26 (Go.Operand.tmp 5), type := 26, pos := "law.go:212", after := #[], guard := none }) rfl (by kernel_rfl) (by kernel_rfl) (by kernel_rfl) (fun _ _ _ h => h) (yieldsIf_load_mid (by rfl) _ _ rfl Y 0 rfl (svl t q) _ (fun _ h => h.1.2) Tryd.underlying26 rfl szSr) (by assumption) ?_
  try simp only [Act.put, List.setIfInBounds_toArray, List.set_cons_zero, List.set_cons_succ]
  refine wpAnyH_ready (rs := [4]) (by kernel_rfl) (by simp) ?_
  refine (AllReadyH.cons (o := { dst := some 21, op := Go.Op.call { callee := Go.Callee.value (Go.Operand.func 14), args := #[Go.Operand.tmp 17, Go.Operand.tmp 18, Go.Operand.tmp 19, Go.Operand.tmp 20], argTypes := #[35, 39, 26, 3] }, type := 4, pos := "law.go:212", after := #[{ on := 0, ground := Go.Ground.data }, { on := 1, ground := Go.Ground.data }, { on := 2, ground := Go.Ground.data }, { on := 3, ground := Go.Ground.data }], guard := none }) rfl (fun K hK => ?_) AllReadyH.nil)
  go_simp
  refine (same2_any s t p q er W2.drew (HG.out.1.belowA HK2.out.1.drew) (HK2.out.2.1.below (Below.refl _ W2).drew) (HK2.out.2.2.below (Below.refl _ W2).drew) HSM.out.1 HSM.out.2 HL.out.1).mono ?_
  rintro e w3 ⟨rfl, hb3⟩
  have HB3 : Hid (Below W2.heap.size W2 w3) := (Below.refl _ W2).drew.trans hb3
  clear hb3
  refine hK.out _ _ (HR.out w3 HB3.out) (fun _ => ?_)
  clear hK K
  refine wpAnyH_take (i := 5) (oi := { dst := some 22, op := Go.Op.move (Go.Operand.tmp 21), type := 4, pos := "law.go:212", after := #[{ on := 4, ground := Go.Ground.data }, { on := 4, ground := Go.Ground.chain }], guard := none }) (v := ?_) rfl (by kernel_rfl) (by kernel_rfl) (by kernel_rfl) (fun _ _ _ h => h) (Or.inl ⟨by rfl, ?_⟩) (by assumption) ?_
  rotate_left
  · intro wz hSw; (try dsimp only at hSw); go_simp; (try with_reducible rfl)
  try simp only [Act.put, List.setIfInBounds_toArray, List.set_cons_zero, List.set_cons_succ]
  have hcs : er = 0 ∨ er = 3 := HEC.out
  rcases hcs with rfl | rfl
  · rw [he0]
    refine wpAnyH_take (i := 6) (oi := { dst := some 23, op := Go.Op.move (Go.Operand.tmp 4), type := 39, pos := "law.go:212", after := #[{ on := 5, ground := Go.Ground.guard }], guard := some (5, true) }) (v := ?_) rfl (by kernel_rfl) (by kernel_rfl) (by kernel_rfl) (fun _ _ _ h => h) (Or.inl ⟨by rfl, ?_⟩) (by assumption) ?_
    rotate_left
    · intro wz hSw; (try dsimp only at hSw); go_simp; (try with_reducible rfl)
    try simp only [Act.put, List.setIfInBounds_toArray, List.set_cons_zero, List.set_cons_succ]
    refine wpAnyH_take (i := 7) (oi := { dst := some 24, op := Go.Op.binOp Go.BinOp.neq 39 (Go.Operand.tmp 23) (Go.Operand.const Go.Value.nilIface) 39, type := 4, pos := "law.go:212", after := #[{ on := 6, ground := Go.Ground.data }, { on := 5, ground := Go.Ground.guard }], guard := some (5, true) }) (v := ?_) rfl (by kernel_rfl) (by kernel_rfl) (by kernel_rfl) (fun _ _ _ h => h) (Or.inl ⟨by rfl, ?_⟩) (by assumption) ?_
    rotate_left
    · intro wz hSw; (try dsimp only at hSw); go_simp; (try with_reducible rfl)
    try simp only [Act.put, List.setIfInBounds_toArray, List.set_cons_zero, List.set_cons_succ]
    refine wpAnyH_take (i := 8) (oi := { dst := some 25, op := Go.Op.move (Go.Operand.tmp 24), type := 4, pos := "law.go:212", after := #[{ on := 7, ground := Go.Ground.data }, { on := 5, ground := Go.Ground.chain }, { on := 5, ground := Go.Ground.guard }], guard := some (5, true) }) (v := ?_) rfl (by kernel_rfl) (by kernel_rfl) (by kernel_rfl) (fun _ _ _ h => h) (Or.inl ⟨by rfl, ?_⟩) (by assumption) ?_
    rotate_left
    · intro wz hSw; (try dsimp only at hSw); go_simp; (try with_reducible rfl)
    try simp only [Act.put, List.setIfInBounds_toArray, List.set_cons_zero, List.set_cons_succ]
    refine wpAnyH_take (i := 12) (oi := { dst := some 29, op := Go.Op.move (Go.Operand.tmp 0), type := 47, pos := "law.go:212", after := #[{ on := 8, ground := Go.Ground.guard }], guard := some (8, false) }) (v := ?_) rfl (by kernel_rfl) (by kernel_rfl) (by kernel_rfl) (fun _ _ _ h => h) (Or.inl ⟨by rfl, ?_⟩) (by assumption) ?_
    rotate_left
    · intro wz hSw; (try dsimp only at hSw); go_simp; (try with_reducible rfl)
    try simp only [Act.put, List.setIfInBounds_toArray, List.set_cons_zero, List.set_cons_succ]
    refine wpAnyH_take (i := 13) (oi := { dst := some 30, op := Go.Op.convert 47 9 (Go.Operand.tmp 29), type := 9, pos := "law.go:212", after := #[{ on := 12, ground := Go.Ground.data }, { on := 8, ground := Go.Ground.guard }], guard := some (8, false) }) (v := ?_) rfl (by kernel_rfl) (by kernel_rfl) (by kernel_rfl) (fun _ _ _ h => h) (Or.inl ⟨by rfl, ?_⟩) (by assumption) ?_
    rotate_left
    · intro wz hSw; (try dsimp only at hSw); go_simp; (try with_reducible rfl)
    try simp only [Act.put, List.setIfInBounds_toArray, List.set_cons_zero, List.set_cons_succ]
    refine wpAnyH_take (i := 9) (oi := { dst := some 26, op := Go.Op.load 35 (Go.Operand.tmp 3), type := 35, pos := "law.go:212", after := #[{ on := 8, ground := Go.Ground.guard }], guard := some (8, false) }) rfl (by kernel_rfl) (by kernel_rfl) (by kernel_rfl) (fun _ _ _ h => h) (yieldsIf_load_mid (by rfl) _ _ rfl X 0 rfl (svl s p) _ (fun _ h => h.1.1) Tryd.underlying35 rfl szS) (by assumption) ?_
    try simp only [Act.put, List.setIfInBounds_toArray, List.set_cons_zero, List.set_cons_succ]
    refine wpAnyH_ready (rs := [10]) (by kernel_rfl) (by simp) ?_
    refine (AllReadyH.cons (o := { dst := some 27, op := Go.Op.call { callee := Go.Callee.value (Go.Operand.func 15), args := #[Go.Operand.tmp 26], argTypes := #[35] }, type := 47, pos := "law.go:212", after := #[{ on := 9, ground := Go.Ground.data }, { on := 8, ground := Go.Ground.chain }, { on := 8, ground := Go.Ground.guard }], guard := some (8, false) }) rfl (fun K hK => ?_) AllReadyH.nil)
    go_simp
    have kE := encode_any s p w3 (HK2.out.2.1.below HB3.out) HSM.out.1
    rw [HL.out.2 rfl] at kE
    refine kE.mono ?_
    rintro e w4 ⟨ad4, cap4, rfl, hsl4, hnil4, hb4⟩
    have HB4 : Hid (Below W2.heap.size W2 w4) := Below.transS HB3.out hb4
    clear kE hb4
    refine hK.out _ _ (HR.out w4 HB4.out) (fun _ => ?_)
    clear hK K
    have S4 : ((w4.rangeAt X 0 (svl s p) ∧ w4.rangeAt Y 0 (svl t q)) ∧ (convert 47 9 (.slice ad l.length cap)).run Tryd.prog w4 = .ok (.string (strB (fn l) l.length)) w4) ∧ (convert 47 9 (.slice ad4 l.length cap4)).run Tryd.prog w4 = .ok (.string (strB (fn l) l.length)) w4 := ⟨HR.out w4 HB4.out, conv_any ad4 _ cap4 _ w4 hsl4 hnil4⟩
    refine wpAnyH_more (S' := fun w' => ((w'.rangeAt X 0 (svl s p) ∧ w'.rangeAt Y 0 (svl t q)) ∧ (convert 47 9 (.slice ad l.length cap)).run Tryd.prog w' = .ok (.string (strB (fn l) l.length)) w') ∧ (convert 47 9 (.slice ad4 l.length cap4)).run Tryd.prog w' = .ok (.string (strB (fn l) l.length)) w') (fun _ h => h.1) _ _ _ _ ?_
    refine wpAnyH_take (i := 11) (oi := { dst := some 28, op := Go.Op.convert 47 9 (Go.Operand.tmp 27), type := 9, pos := "law.go:212", after := #[{ on := 10, ground := Go.Ground.data }, { on := 8, ground := Go.Ground.guard }], guard := some (8, false) }) (v := ?_) rfl (by kernel_rfl) (by kernel_rfl) (by kernel_rfl) (fun _ _ _ h => h) (Or.inl ⟨by rfl, ?_⟩) (by assumption) ?_
    rotate_left
    · intro wz hSw; (try dsimp only at hSw); go_simp; (try with_reducible rfl)
    try simp only [Act.put, List.setIfInBounds_toArray, List.set_cons_zero, List.set_cons_succ]
    refine wpAnyH_take (i := 14) (oi := { dst := some 31, op := Go.Op.binOp Go.BinOp.eql 9 (Go.Operand.tmp 28) (Go.Operand.tmp 30) 9, type := 4, pos := "law.go:212", after := #[{ on := 11, ground := Go.Ground.data }, { on := 13, ground := Go.Ground.data }, { on := 8, ground := Go.Ground.guard }], guard := some (8, false) }) (v := ?_) rfl (by kernel_rfl) (by kernel_rfl) (by kernel_rfl) (fun _ _ _ h => h) (Or.inl ⟨by rfl, ?_⟩) (by assumption) ?_
    rotate_left
    · intro wz hSw; (try dsimp only at hSw); go_simp; (try with_reducible rfl)
    try simp only [Act.put, List.setIfInBounds_toArray, List.set_cons_zero, List.set_cons_succ]
    refine wpAnyH_take (i := 15) (oi := { dst := some 32, op := Go.Op.pick (Go.Operand.tmp 25) (Go.Operand.const (Go.Value.bool true)) (Go.Operand.tmp 31), type := 4, pos := "law.go:212", after := #[{ on := 8, ground := Go.Ground.data }, { on := 14, ground := Go.Ground.data }, { on := 5, ground := Go.Ground.guard }], guard := some (5, true) }) (v := ?_) rfl (by kernel_rfl) (by kernel_rfl) (by kernel_rfl) (fun _ _ _ h => h) (Or.inl ⟨by rfl, ?_⟩) (by assumption) ?_
    rotate_left
    · intro wz hSw; (try dsimp only at hSw); go_simp; (try with_reducible rfl)
    try simp only [Act.put, List.setIfInBounds_toArray, List.set_cons_zero, List.set_cons_succ]
    refine wpAnyH_take (i := 16) (oi := { dst := some 33, op := Go.Op.pick (Go.Operand.tmp 22) (Go.Operand.tmp 32) (Go.Operand.const (Go.Value.bool false)), type := 4, pos := "law.go:212", after := #[{ on := 5, ground := Go.Ground.data }, { on := 15, ground := Go.Ground.data }], guard := none }) (v := ?_) rfl (by kernel_rfl) (by kernel_rfl) (by kernel_rfl) (fun _ _ _ h => h) (Or.inl ⟨by rfl, ?_⟩) (by assumption) ?_
    rotate_left
    · intro wz hSw; (try dsimp only at hSw); go_simp; (try with_reducible rfl)
    try simp only [Act.put, List.setIfInBounds_toArray, List.set_cons_zero, List.set_cons_succ]
    refine wpAnyH_take (i := 17) (oi := { dst := some 34, op := Go.Op.move (Go.Operand.tmp 33), type := 4, pos := "law.go:212", after := #[{ on := 16, ground := Go.Ground.data }, { on := 10, ground := Go.Ground.chain }], guard := none }) (v := ?_) rfl (by kernel_rfl) (by kernel_rfl) (by kernel_rfl) (fun _ _ _ h => h) (Or.inl ⟨by rfl, ?_⟩) (by assumption) ?_
    rotate_left
    · intro wz hSw; (try dsimp only at hSw); go_simp; (try with_reducible rfl)
    try simp only [Act.put, List.setIfInBounds_toArray, List.set_cons_zero, List.set_cons_succ]
    refine wpAnyH_ready (rs := [18]) (by kernel_rfl) (by simp) ?_
    refine (AllReadyH.cons (o := { dst := some 35, op := Go.Op.call { callee := Go.Callee.value (Go.Operand.func 6), args := #[], argTypes := #[] }, type := 4, pos := "law.go:212", after := #[{ on := 17, ground := Go.Ground.chain }, { on := 17, ground := Go.Ground.guard }], guard := some (17, true) }) rfl (fun K hK => ?_) AllReadyH.nil)
    go_simp
    refine (sure_any w4).mono ?_
    rintro e w5 ⟨rfl, hb5⟩
    have HB5 : Hid (Below W2.heap.size W2 w5) := Below.transS HB4.out hb5
    have S5 : ((w5.rangeAt X 0 (svl s p) ∧ w5.rangeAt Y 0 (svl t q)) ∧ (convert 47 9 (.slice ad l.length cap)).run Tryd.prog w5 = .ok (.string (strB (fn l) l.length)) w5) ∧ (convert 47 9 (.slice ad4 l.length cap4)).run Tryd.prog w5 = .ok (.string (strB (fn l) l.length)) w5 := ⟨HR.out w5 HB5.out, conv_any ad4 _ cap4 _ w5 (hsl4.keepB hb5) hnil4⟩
    clear hb5
    refine hK.out _ _ S5 (fun _ => ?_)
    clear hK K
    refine wpAnyH_take (i := 19) (oi := { dst := some 36, op := Go.Op.pick (Go.Operand.tmp 34) (Go.Operand.tmp 35) (Go.Operand.const (Go.Value.bool false)), type := 4, pos := "law.go:212", after := #[{ on := 17, ground := Go.Ground.data }, { on := 18, ground := Go.Ground.data }], guard := none }) (v := ?_) rfl (by kernel_rfl) (by kernel_rfl) (by kernel_rfl) (fun _ _ _ h => h) (Or.inl ⟨by rfl, ?_⟩) (by assumption) ?_
    rotate_left
    · intro wz hSw; (try dsimp only at hSw); go_simp; (try with_reducible rfl)
    try simp only [Act.put, List.setIfInBounds_toArray, List.set_cons_zero, List.set_cons_succ]
    refine wpAnyH_take (i := 20) (oi := { dst := some 2, op := Go.Op.assign (Go.Operand.tmp 36), type := 4, pos := "law.go:212", after := #[{ on := 19, ground := Go.Ground.data }, { on := 18, ground := Go.Ground.chain }, { on := 0, ground := Go.Ground.phase }, { on := 1, ground := Go.Ground.phase }, { on := 2, ground := Go.Ground.phase }, { on := 3, ground := Go.Ground.phase }, { on := 4, ground := Go.Ground.phase }, { on := 5, ground := Go.Ground.phase }, { on := 6, ground := Go.Ground.phase }, { on := 7, ground := Go.Ground.phase }, { on := 8, ground := Go.Ground.phase }, { on := 9, ground := Go.Ground.phase }, { on := 10, ground := Go.Ground.phase }, { on := 11, ground := Go.Ground.phase }, { on := 12, ground := Go.Ground.phase }, { on := 13, ground := Go.Ground.phase }, { on := 14, ground := Go.Ground.phase }, { on := 15, ground := Go.Ground.phase }, { on := 16, ground := Go.Ground.phase }, { on := 17, ground := Go.Ground.phase }, { on := 18, ground := Go.Ground.phase }, { on := 19, ground := Go.Ground.phase }], guard := none }) (v := ?_) rfl (by kernel_rfl) (by kernel_rfl) (by kernel_rfl) (fun _ _ _ h => h) (Or.inl ⟨by rfl, ?_⟩) (by assumption) ?_
    rotate_left
    · intro wz hSw; (try dsimp only at hSw); go_simp; (try with_reducible rfl)
    try simp only [Act.put, List.setIfInBounds_toArray, List.set_cons_zero, List.set_cons_succ]
    refine wpAnyH_done (by kernel_rfl) (NoPanic.normal ?_) _
    try simp only [Act.put, List.setIfInBounds_toArray, List.set_cons_zero, List.set_cons_succ]
    clear hHeld S5 S4 S0
    have HEE := HK2.out.1.trans (HB5.out.mono HK2.out.1.size)
    go_wp2
    go_ret
    exact ⟨rfl, HEE⟩
  · rw [he1]
    refine wpAnyH_take (i := 6) (oi := { dst := some 23, op := Go.Op.move (Go.Operand.tmp 4), type := 39, pos := "law.go:212", after := #[{ on := 5, ground := Go.Ground.guard }], guard := some (5, true) }) (v := ?_) rfl (by kernel_rfl) (by kernel_rfl) (by kernel_rfl) (fun _ _ _ h => h) (Or.inl ⟨by rfl, ?_⟩) (by assumption) ?_
    rotate_left
    · intro wz hSw; (try dsimp only at hSw); go_simp; (try with_reducible rfl)
    try simp only [Act.put, List.setIfInBounds_toArray, List.set_cons_zero, List.set_cons_succ]
    refine wpAnyH_take (i := 7) (oi := { dst := some 24, op := Go.Op.binOp Go.BinOp.neq 39 (Go.Operand.tmp 23) (Go.Operand.const Go.Value.nilIface) 39, type := 4, pos := "law.go:212", after := #[{ on := 6, ground := Go.Ground.data }, { on := 5, ground := Go.Ground.guard }], guard := some (5, true) }) (v := ?_) rfl (by kernel_rfl) (by kernel_rfl) (by kernel_rfl) (fun _ _ _ h => h) (Or.inl ⟨by rfl, ?_⟩) (by assumption) ?_
    rotate_left
    · intro wz hSw; (try dsimp only at hSw); go_simp; (try with_reducible rfl)
    try simp only [Act.put, List.setIfInBounds_toArray, List.set_cons_zero, List.set_cons_succ]
    refine wpAnyH_take (i := 8) (oi := { dst := some 25, op := Go.Op.move (Go.Operand.tmp 24), type := 4, pos := "law.go:212", after := #[{ on := 7, ground := Go.Ground.data }, { on := 5, ground := Go.Ground.chain }, { on := 5, ground := Go.Ground.guard }], guard := some (5, true) }) (v := ?_) rfl (by kernel_rfl) (by kernel_rfl) (by kernel_rfl) (fun _ _ _ h => h) (Or.inl ⟨by rfl, ?_⟩) (by assumption) ?_
    rotate_left
    · intro wz hSw; (try dsimp only at hSw); go_simp; (try with_reducible rfl)
    try simp only [Act.put, List.setIfInBounds_toArray, List.set_cons_zero, List.set_cons_succ]
    refine wpAnyH_take (i := 9) (oi := { dst := some 26, op := Go.Op.load 35 (Go.Operand.tmp 3), type := 35, pos := "law.go:212", after := #[{ on := 8, ground := Go.Ground.guard }], guard := some (8, false) }) (v := undef) rfl (by kernel_rfl) (by kernel_rfl) (by kernel_rfl) (fun _ _ _ h => h) (Or.inr ⟨by rfl, rfl⟩) (by assumption) ?_
    try simp only [Act.put, List.setIfInBounds_toArray, List.set_cons_zero, List.set_cons_succ]
    refine wpAnyH_take (i := 10) (oi := { dst := some 27, op := Go.Op.call { callee := Go.Callee.value (Go.Operand.func 15), args := #[Go.Operand.tmp 26], argTypes := #[35] }, type := 47, pos := "law.go:212", after := #[{ on := 9, ground := Go.Ground.data }, { on := 8, ground := Go.Ground.chain }, { on := 8, ground := Go.Ground.guard }], guard := some (8, false) }) (v := undef) rfl (by kernel_rfl) (by kernel_rfl) (by kernel_rfl) (fun _ _ _ h => h) (Or.inr ⟨by rfl, rfl⟩) (by assumption) ?_
    try simp only [Act.put, List.setIfInBounds_toArray, List.set_cons_zero, List.set_cons_succ]
    refine wpAnyH_take (i := 11) (oi := { dst := some 28, op := Go.Op.convert 47 9 (Go.Operand.tmp 27), type := 9, pos := "law.go:212", after := #[{ on := 10, ground := Go.Ground.data }, { on := 8, ground := Go.Ground.guard }], guard := some (8, false) }) (v := undef) rfl (by kernel_rfl) (by kernel_rfl) (by kernel_rfl) (fun _ _ _ h => h) (Or.inr ⟨by rfl, rfl⟩) (by assumption) ?_
    try simp only [Act.put, List.setIfInBounds_toArray, List.set_cons_zero, List.set_cons_succ]
    refine wpAnyH_take (i := 12) (oi := { dst := some 29, op := Go.Op.move (Go.Operand.tmp 0), type := 47, pos := "law.go:212", after := #[{ on := 8, ground := Go.Ground.guard }], guard := some (8, false) }) (v := undef) rfl (by kernel_rfl) (by kernel_rfl) (by kernel_rfl) (fun _ _ _ h => h) (Or.inr ⟨by rfl, rfl⟩) (by assumption) ?_
    try simp only [Act.put, List.setIfInBounds_toArray, List.set_cons_zero, List.set_cons_succ]
    refine wpAnyH_take (i := 13) (oi := { dst := some 30, op := Go.Op.convert 47 9 (Go.Operand.tmp 29), type := 9, pos := "law.go:212", after := #[{ on := 12, ground := Go.Ground.data }, { on := 8, ground := Go.Ground.guard }], guard := some (8, false) }) (v := undef) rfl (by kernel_rfl) (by kernel_rfl) (by kernel_rfl) (fun _ _ _ h => h) (Or.inr ⟨by rfl, rfl⟩) (by assumption) ?_
    try simp only [Act.put, List.setIfInBounds_toArray, List.set_cons_zero, List.set_cons_succ]
    refine wpAnyH_take (i := 14) (oi := { dst := some 31, op := Go.Op.binOp Go.BinOp.eql 9 (Go.Operand.tmp 28) (Go.Operand.tmp 30) 9, type := 4, pos := "law.go:212", after := #[{ on := 11, ground := Go.Ground.data }, { on := 13, ground := Go.Ground.data }, { on := 8, ground := Go.Ground.guard }], guard := some (8, false) }) (v := undef) rfl (by kernel_rfl) (by kernel_rfl) (by kernel_rfl) (fun _ _ _ h => h) (Or.inr ⟨by rfl, rfl⟩) (by assumption) ?_
    try simp only [Act.put, List.setIfInBounds_toArray, List.set_cons_zero, List.set_cons_succ]
    refine wpAnyH_take (i := 15) (oi := { dst := some 32, op := Go.Op.pick (Go.Operand.tmp 25) (Go.Operand.const (Go.Value.bool true)) (Go.Operand.tmp 31), type := 4, pos := "law.go:212", after := #[{ on := 8, ground := Go.Ground.data }, { on := 14, ground := Go.Ground.data }, { on := 5, ground := Go.Ground.guard }], guard := some (5, true) }) (v := ?_) rfl (by kernel_rfl) (by kernel_rfl) (by kernel_rfl) (fun _ _ _ h => h) (Or.inl ⟨by rfl, ?_⟩) (by assumption) ?_
    rotate_left
    · intro wz hSw; (try dsimp only at hSw); go_simp; (try with_reducible rfl)
    try simp only [Act.put, List.setIfInBounds_toArray, List.set_cons_zero, List.set_cons_succ]
    refine wpAnyH_take (i := 16) (oi := { dst := some 33, op := Go.Op.pick (Go.Operand.tmp 22) (Go.Operand.tmp 32) (Go.Operand.const (Go.Value.bool false)), type := 4, pos := "law.go:212", after := #[{ on := 5, ground := Go.Ground.data }, { on := 15, ground := Go.Ground.data }], guard := none }) (v := ?_) rfl (by kernel_rfl) (by kernel_rfl) (by kernel_rfl) (fun _ _ _ h => h) (Or.inl ⟨by rfl, ?_⟩) (by assumption) ?_
    rotate_left
    · intro wz hSw; (try dsimp only at hSw); go_simp; (try with_reducible rfl)
    try simp only [Act.put, List.setIfInBounds_toArray, List.set_cons_zero, List.set_cons_succ]
    refine wpAnyH_take (i := 17) (oi := { dst := some 34, op := Go.Op.move (Go.Operand.tmp 33), type := 4, pos := "law.go:212", after := #[{ on := 16, ground := Go.Ground.data }, { on := 10, ground := Go.Ground.chain }], guard := none }) (v := ?_) rfl (by kernel_rfl) (by kernel_rfl) (by kernel_rfl) (fun _ _ _ h => h) (Or.inl ⟨by rfl, ?_⟩) (by assumption) ?_
    rotate_left
    · intro wz hSw; (try dsimp only at hSw); go_simp; (try with_reducible rfl)
    try simp only [Act.put, List.setIfInBounds_toArray, List.set_cons_zero, List.set_cons_succ]
    refine wpAnyH_ready (rs := [18]) (by kernel_rfl) (by simp) ?_
    refine (AllReadyH.cons (o := { dst := some 35, op := Go.Op.call { callee := Go.Callee.value (Go.Operand.func 6), args := #[], argTypes := #[] }, type := 4, pos := "law.go:212", after := #[{ on := 17, ground := Go.Ground.chain }, { on := 17, ground := Go.Ground.guard }], guard := some (17, true) }) rfl (fun K hK => ?_) AllReadyH.nil)
    go_simp
    refine (sure_any w3).mono ?_
    rintro e w5 ⟨rfl, hb5⟩
    have HB5 : Hid (Below W2.heap.size W2 w5) := Below.transS HB3.out hb5
    clear hb5
    refine hK.out _ _ (HR.out w5 HB5.out) (fun _ => ?_)
    clear hK K
    refine wpAnyH_take (i := 19) (oi := { dst := some 36, op := Go.Op.pick (Go.Operand.tmp 34) (Go.Operand.tmp 35) (Go.Operand.const (Go.Value.bool false)), type := 4, pos := "law.go:212", after := #[{ on := 17, ground := Go.Ground.data }, { on := 18, ground := Go.Ground.data }], guard := none }) (v := ?_) rfl (by kernel_rfl) (by kernel_rfl) (by kernel_rfl) (fun _ _ _ h => h) (Or.inl ⟨by rfl, ?_⟩) (by assumption) ?_
    rotate_left
    · intro wz hSw; (try dsimp only at hSw); go_simp; (try with_reducible rfl)
    try simp only [Act.put, List.setIfInBounds_toArray, List.set_cons_zero, List.set_cons_succ]
    refine wpAnyH_take (i := 20) (oi := { dst := some 2, op := Go.Op.assign (Go.Operand.tmp 36), type := 4, pos := "law.go:212", after := #[{ on := 19, ground := Go.Ground.data }, { on := 18, ground := Go.Ground.chain }, { on := 0, ground := Go.Ground.phase }, { on := 1, ground := Go.Ground.phase }, { on := 2, ground := Go.Ground.phase }, { on := 3, ground := Go.Ground.phase }, { on := 4, ground := Go.Ground.phase }, { on := 5, ground := Go.Ground.phase }, { on := 6, ground := Go.Ground.phase }, { on := 7, ground := Go.Ground.phase }, { on := 8, ground := Go.Ground.phase }, { on := 9, ground := Go.Ground.phase }, { on := 10, ground := Go.Ground.phase }, { on := 11, ground := Go.Ground.phase }, { on := 12, ground := Go.Ground.phase }, { on := 13, ground := Go.Ground.phase }, { on := 14, ground := Go.Ground.phase }, { on := 15, ground := Go.Ground.phase }, { on := 16, ground := Go.Ground.phase }, { on := 17, ground := Go.Ground.phase }, { on := 18, ground := Go.Ground.phase }, { on := 19, ground := Go.Ground.phase }], guard := none }) (v := ?_) rfl (by kernel_rfl) (by kernel_rfl) (by kernel_rfl) (fun _ _ _ h => h) (Or.inl ⟨by rfl, ?_⟩) (by assumption) ?_
    rotate_left
    · intro wz hSw; (try dsimp only at hSw); go_simp; (try with_reducible rfl)
    try simp only [Act.put, List.setIfInBounds_toArray, List.set_cons_zero, List.set_cons_succ]
    refine wpAnyH_done (by kernel_rfl) (NoPanic.normal ?_) _
    try simp only [Act.put, List.setIfInBounds_toArray, List.set_cons_zero, List.set_cons_succ]
    clear hHeld S0
    have HEE := HK2.out.1.trans (HB5.out.mono HK2.out.1.size)
    go_wp2
    go_ret
    exact ⟨rfl, HEE⟩
end Go.Proofs.YtchiapnhkhbigaaDoor
/- StateReads: the walk, of bytes that came in. -/
namespace Go.Proofs.YtchiapnhkhbigaaDoor
open Go.RowKit

theorem reads_card (ad : Option Addr) (len cap : Nat) (z : Nat → Int) (w : World) (hcap : len ≤ cap) (hn : len ≤ 140737488351232) (hs : SlAt w ad len z) (hnil : ad = none → len = 0 ∧ cap = 0) (hg : Glob w) :
    Calls Tryd.prog 4 #[.slice ad len cap] w fun e w' => e = .returned (.bool true) ∧ Below w.heap.size w w' := by
  have hl : ((List.range len).map z).length = len := by simp
  have hz : ∀ j, j < len → z j = fn ((List.range len).map z) j := fun j hj => by
    rw [fn_get _ _ (by rw [hl]; exact hj)]
    simp
  have := reads_any ad cap ((List.range len).map z) w hg (by rw [hl]; exact hs.congr hz) (by rw [hl]; exact hnil) (by rw [hl]; exact hcap) (by rw [hl]; exact hn)
  rw [hl] at this
  exact this
end Go.Proofs.YtchiapnhkhbigaaDoor
