/- state.Keep. -/
import Derived.Test.YtjlobimncpiacaaDoorOwnShelf36
import Derived.Test.YtjlobimncpiacaaDoorOwnShelf25
import Derived.Test.YtjlobimncpiacaaDoorOwnShelf30
namespace Go.Proofs.YtjlobimncpiacaaDoor
open Go.RowKit

theorem three_boxesH (w : World) (s : Sv) (p : Pl) (y : Hd) (ka : Option Addr) (kc : Nat) : ∃ W0, W0 = ((w.alloc (.cells (svv s p) 35)).alloc (.cells (hdv y ka kc) 37)).alloc (.cells #[.int .i64 0, .int .i64 0, .int .i64 0, .slice none 0 0, .slice none 0 0] 35) ∧ W0.heap[w.heap.size]? = some (.cells (svv s p) 35 (0, 0)) ∧ W0.heap[w.heap.size + 1]? = some (.cells (hdv y ka kc) 37 (0, 0)) ∧ W0.heap[w.heap.size + 2]? = some (.cells #[.int .i64 0, .int .i64 0, .int .i64 0, .slice none 0 0, .slice none 0 0] 35 (0, 0)) ∧ W0.heap.size = w.heap.size + 3 ∧ Below w.heap.size w W0 := by
  refine ⟨_, rfl, ?_, ?_, ?_, by simp, (three_new w _ _ _).2⟩
  · rw [Below.heap_alloc _ _ _ (by simp; omega), Below.heap_alloc _ _ _ (by simp)]; exact heap_alloc_new w _
  · rw [Below.heap_alloc _ _ _ (by simp)]
    have := heap_alloc_new (w.alloc (.cells (svv s p) 35)) (.cells (hdv y ka kc) 37)
    simpa using this
  · have := heap_alloc_new ((w.alloc (.cells (svv s p) 35)).alloc (.cells (hdv y ka kc) 37)) (.cells #[.int .i64 0, .int .i64 0, .int .i64 0, .slice none 0 0, .slice none 0 0] 35)
    have e2 : ((w.alloc (.cells (svv s p) 35)).alloc (.cells (hdv y ka kc) 37)).heap.size = w.heap.size + 2 := by simp
    rw [e2] at this
    exact this
theorem one_hd {w : World} {q : Nat} {y : Hd} {ka : Option Addr} {kc : Nat} (h : w.heap[q]? = some (.cells (hdv y ka kc) 37 (0, 0))) (hI : IsAt w ka y.n y.z) (hk : ka = none → y.n = 0 ∧ kc = 0) : HdAt w (some ⟨q, 0, none⟩) 1 (fun _ => y) := ⟨fun _ => ⟨q, 0, rfl, fun j hj => by
  obtain rfl : j = 0 := by omega
  exact ⟨ka, kc, hdv_range h, hI, hk⟩⟩⟩
/-- Keep's error. -/
def keepE (s : Sv) (f : Int) (y : Hd) (th : Bool) : Int := asideE s f y.am (decide (HsOk (fun _ => y) 1)) th
/-- What Keep answers. -/
def KeepR (s : Sv) (f : Int) (y : Hd) (w : World) (e : Ending) (w' : World) : Prop := ∃ (i : Nat) (th : Bool), FndR (fun j => (s.H j).id) s.hn y.id i th ∧ ((keepE s f y th ≠ 0 ∧ e = .returned (.tuple #[.agg #[.int .i64 0, .int .i64 0, .int .i64 0, .slice none 0 0, .slice none 0 0], errV (keepE s f y th)])) ∨ (keepE s f y th = 0 ∧ ∃ p' A, e = .returned (.tuple #[.agg (svv (keepY (asideS s f y.am) i y) p'), .nilIface]) ∧ SvOw w.heap.size w' (keepY (asideS s f y.am) i y) p' A))
set_option maxRecDepth 100000 in
set_option maxHeartbeats 6400000 in
theorem keep_any (s : Sv) (p : Pl) (f : Int) (y : Hd) (ka : Option Addr) (kc : Nat) (w : World) (h : SvAt w s p) (hs : s.Small) (hI : IsAt w ka y.n y.z) (hkn : ka = none → y.n = 0 ∧ kc = 0) (hyn : y.n ≤ 1000000) :
    Calls Tryd.prog 8 #[.agg (svv s p), .int .i64 f, .agg (hdv y ka kc)] w fun e w' => KeepR s f y w e w' ∧ Below w.heap.size w w' := by
  obtain ⟨W0, hW0, r0, r1, r2, hsz, hb0⟩ := three_boxesH w s p y ka kc
  have HB0 : Hid (Below w.heap.size w W0) := hb0
  have HV : Hid (SvAt W0 s p) := h.below hb0
  have HY : Hid s.Small := hs
  have HI : Hid (IsAt W0 ka y.n y.z ∧ (ka = none → y.n = 0 ∧ kc = 0) ∧ y.n ≤ 1000000) := ⟨hI.below hb0, hkn, hyn⟩
  have HR : Hid (W0.heap[w.heap.size]? = some (.cells (svv s p) 35 (0, 0)) ∧ W0.heap[w.heap.size + 1]? = some (.cells (hdv y ka kc) 37 (0, 0)) ∧ W0.heap[w.heap.size + 2]? = some (.cells #[.int .i64 0, .int .i64 0, .int .i64 0, .slice none 0 0, .slice none 0 0] 35 (0, 0)) ∧ W0.heap.size = w.heap.size + 3) := ⟨r0, r1, r2, hsz⟩
  have SR : Hid (∀ u, Below W0.heap.size W0 u → u.rangeAt w.heap.size 0 (svq s p) ∧ u.rangeAt (w.heap.size + 1) 0 (hdl y ka kc) ∧ u.cell? ⟨w.heap.size + 1, 1, none⟩ = some (.int .i64 y.am)) := fun u hb => by
    have h1 := range_below (hdv_range r1) hb
    obtain ⟨_, h2, _⟩ := hd_cells h1
    exact ⟨range_below (svq_range r0) hb, h1, by simpa using h2⟩
  have hfi := findH_any p.ha s.hn p.hc s.H y.id W0 HV.out.hd (by have := hs.n; omega)
  have k4 : W0.cell? ⟨w.heap.size, 4, none⟩ = some (.slice p.ha s.hn p.hc) := by rw [cell_of_row _ _ 4 _ _ _ r0]; rfl
  have k0 : W0.cell? ⟨w.heap.size + 1, 0, none⟩ = some (.int .i64 y.id) := by rw [cell_of_row _ _ 0 _ _ _ r1]; rfl
  clear h hs hI hkn hyn r0 r1 r2 hsz hb0
  subst hW0
  unfold svv hdv at hfi k4 k0 HB0 HV HR SR HI ⊢
  go_enter Tryd.func8, Tryd.ntmps8
  go_wp2_with fail
  generalize ((w.alloc (.cells #[.int .i64 s.nu, .int .i64 s.a, .int .i64 s.b, .slice p.pa s.pn p.pc, .slice p.ha s.hn p.hc] 35)).alloc (.cells #[.int .i64 y.id, .int .i64 y.am, .slice ka y.n kc] 37)).alloc (.cells #[.int .i64 0, .int .i64 0, .int .i64 0, .slice none 0 0, .slice none 0 0] 35) = W0 at *
  (try rw [show w.heap.size + 1 + 1 = w.heap.size + 2 from rfl])
  refine hfi.mono ?_
  rintro e W1 ⟨⟨i, th, rfl, hF⟩, hb⟩
  have HB : Hid (Below W0.heap.size W0 W1.drew) := hb.drew
  have HF : Hid (FndR (fun j => (s.H j).id) s.hn y.id i th) := hF
  clear hfi hF hb k4 k0
  go_wp2_with fail
  have S0 := SR.out W1.drew HB.out
  obtain ⟨can, hcan⟩ : ∃ can, decide (HsOk (fun _ => y) 1) = can := ⟨_, rfl⟩
  have HMW : Hid (∀ q u, HdAt u (some ⟨q, 0, none⟩) 1 (fun _ => y) → Calls Tryd.prog 22 #[.slice (some ⟨q, 0, none⟩) 1 1] u fun e w' => e = .returned (.bool can) ∧ Below u.heap.size u w') := fun q u hq => by
    have := mayBeHeld_any (some ⟨q, 0, none⟩) 1 1 (fun _ => y) u hq (by omega) (fun _ _ => HI.out.2.2)
    rw [hcan] at this
    exact this
  have HCN : Hid (decide (HsOk (fun _ => y) 1) = can) := hcan
  clear hcan
  by_cases hne : keepE s f y th = 0
  · have hsn := HY.out.n
    obtain ⟨ns, hns⟩ : ∃ ns, asideS s f y.am = ns := ⟨_, rfl⟩
    have HNS : Hid (asideS s f y.am = ns) := hns
    have HAS : Hid (∀ u, Below W0.heap.size W0 u → Calls Tryd.prog 21 #[.agg (svv s p), .int .i64 f, .int .i64 y.am, .bool can, .bool th] u fun e w' => (∃ p' A, e = .returned (.tuple #[.agg #[.int .i64 ns.nu, .int .i64 ns.a, .int .i64 ns.b, .slice p'.pa ns.pn p'.pc, .slice p'.ha ns.hn p'.hc], .nilIface]) ∧ SvOw u.heap.size w' ns p' A) ∧ Below u.heap.size u w') := fun u hb => by
      have := aside_ok s p f y.am can th u (HV.out.below hb) HY.out (by rw [← HCN.out]; exact hne)
      rw [hns] at this
      exact this
    have HCL : Hid (∀ u, Below W0.heap.size W0 u → Calls Tryd.prog 24 #[.agg (hdv y ka kc)] u fun e w' => ∃ ka' kc', e = .returned (.agg (hdv y ka' kc')) ∧ w'.ownsRow u.heap.size 3 1 (.slice ka' y.n kc') y.n (kL y) ∧ Below u.heap.size u w') := fun u hb => hclone_any y ka kc u (HI.out.1.below hb) HI.out.2.1 HI.out.2.2
    have HNR : Hid (ns.pn = s.pn ∧ ns.P = s.P ∧ ns.hn = s.hn ∧ ns.H = s.H) := by rw [← hns]; exact asideS_rows s f y.am
    have hpn : ns.hn ≤ 100 := by rw [HNR.out.2.2.1]; omega
    have HIN : Hid (i ≤ ns.hn) := by rw [HNR.out.2.2.1]; exact HF.out.le
    have HNE : Hid (keepE s f y th = 0) := hne
    clear hns hne hsn
    generalize hWd : W1.drew = Wd at S0 HB
    refine wp_region_noPanic ?_
    refine wp_region_held_drew (S := fun u => u.rangeAt w.heap.size 0 (svq s p) ∧ u.rangeAt (w.heap.size + 1) 0 (hdl y ka kc) ∧ u.cell? ⟨w.heap.size + 1, 1, none⟩ = some (.int .i64 y.am)) (by kernel_rfl) (by rw [hWd]; exact S0) (fun hHeld => ?_)
    rw [hWd] at hHeld ⊢
    clear hWd
    clear W1
    generalize Wd = W1 at *
    refine wpAnyH_take (i := 0) (oi := { dst := some 21, op := Go.Op.load 35 (Go.Operand.tmp 3), type := 35, pos := "state.go:127", after := #[], guard := none }) rfl (by kernel_rfl) (by kernel_rfl) (by kernel_rfl) (fun _ _ _ h => h) (yieldsIf_load_mid (by rfl) _ _ rfl w.heap.size 0 rfl (svq s p) _ (fun _ h => h.1) Tryd.underlying35 rfl szS) (by assumption) ?_
    try simp only [Act.put, List.setIfInBounds_toArray, List.set_cons_zero, List.set_cons_succ]
    refine wpAnyH_take (i := 1) (oi := { dst := some 22, op := Go.Op.move (Go.Operand.tmp 1), type := 3, pos := "state.go:127", after := #[], guard := none }) (v := ?_) rfl (by kernel_rfl) (by kernel_rfl) (by kernel_rfl) (fun _ _ _ h => h) (Or.inl ⟨by rfl, ?_⟩) (by assumption) ?_
    rotate_left
    · intro wz hSw; (try dsimp only at hSw); go_simp; (try with_reducible rfl)
    try simp only [Act.put, List.setIfInBounds_toArray, List.set_cons_zero, List.set_cons_succ]
    refine wpAnyH_take (i := 2) (oi := { dst := some 23, op := Go.Op.fieldAddr 37 (Go.Operand.tmp 5) 1, type := 0, pos := "state.go:127", after := #[], guard := none }) (v := ?_) rfl (by kernel_rfl) (by kernel_rfl) (by kernel_rfl) (fun _ _ _ h => h) (Or.inl ⟨by rfl, ?_⟩) (by assumption) ?_
    rotate_left
    · intro wz hSw; (try dsimp only at hSw); go_simp; (try with_reducible rfl)
    try simp only [Act.put, List.setIfInBounds_toArray, List.set_cons_zero, List.set_cons_succ]
    refine wpAnyH_take (i := 3) (oi := { dst := some 24, op := Go.Op.load 3 (Go.Operand.tmp 23), type := 3, pos := "state.go:127", after := #[{ on := 2, ground := Go.Ground.data }], guard := none }) (v := ?_) rfl (by kernel_rfl) (by kernel_rfl) (by kernel_rfl) (fun _ _ _ h => h) (Or.inl ⟨by rfl, ?_⟩) (by assumption) ?_
    rotate_left
    · intro wz hSw; (try dsimp only at hSw); go_simp; (try with_reducible rfl)
    try simp only [Act.put, List.setIfInBounds_toArray, List.set_cons_zero, List.set_cons_succ]
    refine wpAnyH_take (i := 4) (oi := { dst := some 25, op := Go.Op.load 37 (Go.Operand.tmp 5), type := 37, pos := "state.go:127", after := #[], guard := none }) rfl (by kernel_rfl) (by kernel_rfl) (by kernel_rfl) (fun _ _ _ h => h) (yieldsIf_load_mid (by rfl) _ _ rfl (w.heap.size + 1) 0 rfl (hdl y ka kc) _ (fun _ h => h.2.1) Tryd.underlying37 rfl szH) (by assumption) ?_
    try simp only [Act.put, List.setIfInBounds_toArray, List.set_cons_zero, List.set_cons_succ]
    refine wpAnyH_take (i := 7) (oi := { dst := some 28, op := Go.Op.move (Go.Operand.tmp 9), type := 4, pos := "state.go:127", after := #[], guard := none }) (v := ?_) rfl (by kernel_rfl) (by kernel_rfl) (by kernel_rfl) (fun _ _ _ h => h) (Or.inl ⟨by rfl, ?_⟩) (by assumption) ?_
    rotate_left
    · intro wz hSw; (try dsimp only at hSw); go_simp; (try with_reducible rfl)
    try simp only [Act.put, List.setIfInBounds_toArray, List.set_cons_zero, List.set_cons_succ]
    refine wpAnyH_ready (rs := [5, 12]) (by kernel_rfl) (by simp) ?_
    refine (AllReadyH.cons (o := { dst := some 26, op := Go.Op.buildSlice 33 1 #[(0, Go.Operand.tmp 25)], type := 33, pos := "state.go:127", after := #[{ on := 4, ground := Go.Ground.data }], guard := none }) rfl (fun K hK => ?_) (AllReadyH.cons (o := { dst := some 10, op := Go.Op.alloc 35, type := 0, pos := "state.go:127", after := #[], guard := none }) rfl (fun K hK => ?_) AllReadyH.nil))
    · refine step_sliceHQ rfl (.tmp 25) rfl y ka kc (by rfl) ?_
      intro qs u1 hq hle hb
      have HB : Hid (Below W0.heap.size W0 u1) := Below.transS HB.out hb
      have HQ : Hid (HdAt u1 (some ⟨qs, 0, none⟩) 1 (fun _ => y)) := one_hd hq (HI.out.1.below HB.out) HI.out.2.1
      clear hq hle
      clear hb
      refine hK.out _ _ (SR.out u1 HB.out) (fun _ => ?_)
      clear hK K
      try simp only [Act.put, List.setIfInBounds_toArray, List.set_cons_zero, List.set_cons_succ]
      refine wpAnyH_ready (rs := [6, 12]) (by kernel_rfl) (by simp) ?_
      refine (AllReadyH.cons (o := { dst := some 27, op := Go.Op.call { callee := Go.Callee.value (Go.Operand.func 22), args := #[Go.Operand.tmp 26], argTypes := #[33] }, type := 4, pos := "state.go:127", after := #[{ on := 5, ground := Go.Ground.data }], guard := none }) rfl (fun K hK => ?_) (AllReadyH.cons (o := { dst := some 10, op := Go.Op.alloc 35, type := 0, pos := "state.go:127", after := #[], guard := none }) rfl (fun K hK => ?_) AllReadyH.nil))
      · go_simp
        refine (HMW.out qs u1 HQ.out).mono ?_
        rintro e u2 ⟨rfl, hb⟩
        have HB : Hid (Below W0.heap.size W0 u2) := Below.transS HB.out hb
        have HQ : Hid (HdAt u2 (some ⟨qs, 0, none⟩) 1 (fun _ => y)) := HQ.out.below hb
        clear hb
        refine hK.out _ _ (SR.out u2 HB.out) (fun _ => ?_)
        clear hK K
        try simp only [Act.put, List.setIfInBounds_toArray, List.set_cons_zero, List.set_cons_succ]
        refine wpAnyH_ready (rs := [8, 12]) (by kernel_rfl) (by simp) ?_
        refine (AllReadyH.cons (o := { dst := some 29, op := Go.Op.call { callee := Go.Callee.value (Go.Operand.func 21), args := #[Go.Operand.tmp 21, Go.Operand.tmp 22, Go.Operand.tmp 24, Go.Operand.tmp 27, Go.Operand.tmp 28], argTypes := #[35, 3, 3, 4, 4] }, type := 40, pos := "state.go:127", after := #[{ on := 0, ground := Go.Ground.data }, { on := 1, ground := Go.Ground.data }, { on := 3, ground := Go.Ground.data }, { on := 6, ground := Go.Ground.data }, { on := 7, ground := Go.Ground.data }, { on := 6, ground := Go.Ground.chain }], guard := none }) rfl (fun K hK => ?_) (AllReadyH.cons (o := { dst := some 10, op := Go.Op.alloc 35, type := 0, pos := "state.go:127", after := #[], guard := none }) rfl (fun K hK => ?_) AllReadyH.nil))
        · go_simp
          refine (HAS.out u2 HB.out).mono ?_
          rintro e u3 ⟨⟨p', A, rfl, hO⟩, hb⟩
          have HBP : Hid (Below W0.heap.size W0 u2) := HB.out
          have HB : Hid (Below W0.heap.size W0 u3) := Below.transS HB.out hb
          have HQ : Hid (HdAt u3 (some ⟨qs, 0, none⟩) 1 (fun _ => y)) := HQ.out.below hb
          have HO : Hid (SvOw W0.heap.size u3 ns p' A) := hO.low HBP.out.size
          clear hO
          clear hb
          refine hK.out _ _ (SR.out u3 HB.out) (fun _ => ?_)
          clear hK K
          try simp only [Act.put, List.setIfInBounds_toArray, List.set_cons_zero, List.set_cons_succ]
          refine wpAnyH_take (i := 9) (oi := { dst := some 20, op := Go.Op.move (Go.Operand.tmp 29), type := 40, pos := "state.go:127", after := #[{ on := 8, ground := Go.Ground.data }], guard := none }) (v := ?_) rfl (by kernel_rfl) (by kernel_rfl) (by kernel_rfl) (fun _ _ _ h => h) (Or.inl ⟨by rfl, ?_⟩) (by assumption) ?_
          rotate_left
          · intro wz hSw; (try dsimp only at hSw); go_simp; (try with_reducible rfl)
          try simp only [Act.put, List.setIfInBounds_toArray, List.set_cons_zero, List.set_cons_succ]
          refine wpAnyH_take (i := 10) (oi := { dst := some 30, op := Go.Op.extract (Go.Operand.tmp 20) 0, type := 35, pos := "state.go:127", after := #[{ on := 9, ground := Go.Ground.data }], guard := none }) (v := ?_) rfl (by kernel_rfl) (by kernel_rfl) (by kernel_rfl) (fun _ _ _ h => h) (Or.inl ⟨by rfl, ?_⟩) (by assumption) ?_
          rotate_left
          · intro wz hSw; (try dsimp only at hSw); go_simp; (try with_reducible rfl)
          try simp only [Act.put, List.setIfInBounds_toArray, List.set_cons_zero, List.set_cons_succ]
          refine wpAnyH_take (i := 11) (oi := { dst := some 31, op := Go.Op.extract (Go.Operand.tmp 20) 1, type := 39, pos := "state.go:127", after := #[{ on := 9, ground := Go.Ground.data }, { on := 13, ground := Go.Ground.gcOnly Go.Departure.lateStores }], guard := none }) (v := ?_) rfl (by kernel_rfl) (by kernel_rfl) (by kernel_rfl) (fun _ _ _ h => h) (Or.inl ⟨by rfl, ?_⟩) (by assumption) ?_
          rotate_left
          · intro wz hSw; (try dsimp only at hSw); go_simp; (try with_reducible rfl)
          try simp only [Act.put, List.setIfInBounds_toArray, List.set_cons_zero, List.set_cons_succ]
          refine wpAnyH_ready (rs := [12]) (by kernel_rfl) (by simp) ?_
          refine (AllReadyH.cons (o := { dst := some 10, op := Go.Op.alloc 35, type := 0, pos := "state.go:127", after := #[], guard := none }) rfl (fun K hK => ?_) AllReadyH.nil)
          refine step_allocS rfl rfl ?_
          intro bn u4 hq hle hb
          have HBP : Hid (Below W0.heap.size W0 u3) := HB.out
          have HB : Hid (Below W0.heap.size W0 u4) := Below.transS HB.out hb
          have HQ : Hid (HdAt u4 (some ⟨qs, 0, none⟩) 1 (fun _ => y)) := HQ.out.below hb
          have HO : Hid (SvOw W0.heap.size u4 ns p' A) := HO.out.below hb
          have HN : Hid (u4.heap[bn]? = some (.cells #[.int .i64 0, .int .i64 0, .int .i64 0, .slice none 0 0, .slice none 0 0] 35 (0, 0)) ∧ W0.heap.size ≤ bn) := ⟨hq, by have := HBP.out.size; omega⟩
          clear hq hle
          clear hb
          refine hK.out _ _ (SR.out u4 HB.out) (fun _ => ?_)
          clear hK K
          try simp only [Act.put, List.setIfInBounds_toArray, List.set_cons_zero, List.set_cons_succ]
          refine wpAnyH_ready (rs := [13]) (by kernel_rfl) (by simp) ?_
          refine (AllReadyH.cons (o := { dst := none, op := Go.Op.store 35 (Go.Operand.tmp 10) (Go.Operand.tmp 30), type := 0, pos := "state.go:127", after := #[{ on := 12, ground := Go.Ground.data }, { on := 10, ground := Go.Ground.data }, { on := 8, ground := Go.Ground.chain }, { on := 0, ground := Go.Ground.phase }, { on := 1, ground := Go.Ground.phase }, { on := 2, ground := Go.Ground.phase }, { on := 3, ground := Go.Ground.phase }, { on := 4, ground := Go.Ground.phase }, { on := 5, ground := Go.Ground.phase }, { on := 6, ground := Go.Ground.phase }, { on := 7, ground := Go.Ground.phase }, { on := 8, ground := Go.Ground.phase }, { on := 9, ground := Go.Ground.phase }, { on := 10, ground := Go.Ground.phase }, { on := 11, ground := Go.Ground.textOnly Go.Departure.lateStores }, { on := 12, ground := Go.Ground.phase }], guard := none }) rfl (fun K hK => ?_) AllReadyH.nil)
          refine step_storeS rfl (.tmp 10) (.tmp 30) rfl bn (by rfl) ns.nu ns.a ns.b p'.pa ns.pn p'.pc p'.ha ns.hn p'.hc (by rfl) HN.out.1 ?_
          intro V hx hfr
          have HB : Hid (Below W0.heap.size W0 V) := HB.out.trans (hfr.below HB.out.size (fun k hk => by rw [List.mem_singleton.1 hk]; exact HN.out.2))
          have HO : Hid (SvOw W0.heap.size V ns p' A) := HO.out.offF HN.out.1 hfr
          have HX : Hid (V.heap[bn]? = some (.cells #[.int .i64 ns.nu, .int .i64 ns.a, .int .i64 ns.b, .slice p'.pa ns.pn p'.pc, .slice p'.ha ns.hn p'.hc] 35 (0, 0)) ∧ W0.heap.size ≤ bn) := ⟨hx, HN.out.2⟩
          clear hx hfr HN
          refine hK.out _ _ (SR.out V HB.out) (fun _ => ?_)
          clear hK K
          try simp only [Act.put]
          refine wpAnyH_take (i := 14) (oi := { dst := some 11, op := Go.Op.assign (Go.Operand.tmp 31), type := 39, pos := "state.go:127", after := #[{ on := 11, ground := Go.Ground.data }, { on := 13, ground := Go.Ground.chain }, { on := 0, ground := Go.Ground.phase }, { on := 1, ground := Go.Ground.phase }, { on := 2, ground := Go.Ground.phase }, { on := 3, ground := Go.Ground.phase }, { on := 4, ground := Go.Ground.phase }, { on := 5, ground := Go.Ground.phase }, { on := 6, ground := Go.Ground.phase }, { on := 7, ground := Go.Ground.phase }, { on := 8, ground := Go.Ground.phase }, { on := 9, ground := Go.Ground.phase }, { on := 10, ground := Go.Ground.phase }, { on := 11, ground := Go.Ground.phase }, { on := 12, ground := Go.Ground.phase }, { on := 13, ground := Go.Ground.phase }], guard := none }) (v := ?_) rfl (by kernel_rfl) (by kernel_rfl) (by kernel_rfl) (fun _ _ _ h => h) (Or.inl ⟨by rfl, ?_⟩) (by assumption) ?_
          rotate_left
          · intro wz hSw; (try dsimp only at hSw); go_simp; (try with_reducible rfl)
          try simp only [Act.put, List.setIfInBounds_toArray, List.set_cons_zero, List.set_cons_succ]
          refine wpAnyH_done (by kernel_rfl) (NoPanic.normal ?_) _
          try simp only [Act.put, List.setIfInBounds_toArray, List.set_cons_zero, List.set_cons_succ]
          clear hHeld S0
          obtain ⟨c0, c1, c2, c3, c4, cf⟩ := five_of HX.out.1
          go_wp2_with fail
          have S2 : V.drew.rangeAt (w.heap.size + 1) 0 (hdl y ka kc) ∧ V.drew.cell? ⟨bn, 4, none⟩ = some (.slice p'.ha ns.hn p'.hc) := ⟨(SR.out V HB.out).2.1, c4⟩
          have HBd : Hid (Below V.heap.size V V.drew) := (Below.refl _ V).drew
          refine wp_region_noPanic ?_
          refine wp_region_K (S := fun u => u.rangeAt (w.heap.size + 1) 0 (hdl y ka kc) ∧ u.cell? ⟨bn, 4, none⟩ = some (.slice p'.ha ns.hn p'.hc)) 8 (by kernel_rfl) S2 (fun hHeld => ?_)
          clear c0 c1 c2 c3 c4 cf
          have HX : Hid (V.drew.heap[bn]? = some (.cells #[.int .i64 ns.nu, .int .i64 ns.a, .int .i64 ns.b, .slice p'.pa ns.pn p'.pc, .slice p'.ha ns.hn p'.hc] 35 (0, 0)) ∧ W0.heap.size ≤ bn) := HX.out
          have HO : Hid (SvOw W0.heap.size V.drew ns p' A) := HO.out.below HBd.out
          have HB : Hid (Below W0.heap.size W0 V.drew) := HB.out.drew
          clear HBd
          generalize V.drew = Vd at *
          refine wpAnyK_take (by kernel_rfl) (i := 0) (oi := { dst := some 36, op := Go.Op.fieldAddr 35 (Go.Operand.tmp 10) 3, type := 0, pos := "state.go:131", after := #[], guard := none }) (v := ?_) rfl (by kernel_rfl) (by kernel_rfl) (by kernel_rfl) (fun _ _ _ h => h) (Or.inl ⟨by rfl, ?_⟩) (by assumption) ?_
          rotate_left
          · intro wz hSw; (try dsimp only at hSw); go_simp; (try with_reducible rfl)
          try simp only [Act.put, List.setIfInBounds_toArray, List.set_cons_zero, List.set_cons_succ]
          refine wpAnyK_take (by kernel_rfl) (i := 1) (oi := { dst := some 37, op := Go.Op.load 33 (Go.Operand.tmp 36), type := 33, pos := "state.go:131", after := #[{ on := 0, ground := Go.Ground.data }], guard := none }) (v := ?_) rfl (by kernel_rfl) (by kernel_rfl) (by kernel_rfl) (fun _ _ _ h => h) (Or.inl ⟨by rfl, ?_⟩) (by assumption) ?_
          rotate_left
          · intro wz hSw; (try dsimp only at hSw); go_simp; (try with_reducible rfl)
          try simp only [Act.put, List.setIfInBounds_toArray, List.set_cons_zero, List.set_cons_succ]
          refine wpAnyK_take (by kernel_rfl) (i := 2) (oi := { dst := some 38, op := Go.Op.move (Go.Operand.tmp 8), type := 3, pos := "state.go:131", after := #[], guard := none }) (v := ?_) rfl (by kernel_rfl) (by kernel_rfl) (by kernel_rfl) (fun _ _ _ h => h) (Or.inl ⟨by rfl, ?_⟩) (by assumption) ?_
          rotate_left
          · intro wz hSw; (try dsimp only at hSw); go_simp; (try with_reducible rfl)
          try simp only [Act.put, List.setIfInBounds_toArray, List.set_cons_zero, List.set_cons_succ]
          refine wpAnyK_take (by kernel_rfl) (i := 3) (oi := { dst := some 39, op := Go.Op.load 37 (Go.Operand.tmp 5), type := 37, pos := "state.go:131", after := #[], guard := none }) rfl (by kernel_rfl) (by kernel_rfl) (by kernel_rfl) (fun _ _ _ h => h) (yieldsIf_load_mid (by rfl) _ _ rfl (w.heap.size + 1) 0 rfl (hdl y ka kc) _ (fun _ h => h.1) Tryd.underlying37 rfl szH) (by assumption) ?_
          try simp only [Act.put, List.setIfInBounds_toArray, List.set_cons_zero, List.set_cons_succ]
          refine wpAnyK_ready (rs := [4]) (by kernel_rfl) (by simp) ?_
          refine (AllReadyK.cons (o := { dst := some 40, op := Go.Op.call { callee := Go.Callee.value (Go.Operand.func 24), args := #[Go.Operand.tmp 39], argTypes := #[37] }, type := 37, pos := "state.go:131", after := #[{ on := 3, ground := Go.Ground.data }], guard := none }) rfl (fun K hK => ?_) AllReadyK.nil)
          go_simp
          refine (HCL.out Vd HB.out).mono ?_
          rintro e V1 ⟨ka', kc', rfl, hok, hb1⟩
          have HB1 : Hid (Below W0.heap.size W0 V1) := Below.transS HB.out hb1
          have HX1 : Hid (V1.heap[bn]? = some (.cells #[.int .i64 ns.nu, .int .i64 ns.a, .int .i64 ns.b, .slice p'.pa ns.pn p'.pc, .slice p'.ha ns.hn p'.hc] 35 (0, 0)) ∧ W0.heap.size ≤ bn) := ⟨by rw [hb1.block _ (lt_of_block HX.out.1)]; exact HX.out.1, HX.out.2⟩
          have HO1 : Hid (SvOw W0.heap.size V1 ns p' A ∧ V1.ownsRow W0.heap.size 3 1 (.slice ka' y.n kc') y.n (kL y)) := ⟨HO.out.below hb1, own_low hok HB.out.size⟩
          have S3 : V1.rangeAt (w.heap.size + 1) 0 (hdl y ka kc) ∧ V1.cell? ⟨bn, 4, none⟩ = some (.slice p'.ha ns.hn p'.hc) := ⟨(SR.out V1 HB1.out).2.1, (five_of HX1.out.1).c4⟩
          refine hK.out _ _ (fun _ => S3) (fun _ => ?_)
          clear hK K hok hb1 S2 HB HX HO S3
          try simp only [Act.put, List.setIfInBounds_toArray, List.set_cons_zero, List.set_cons_succ]
          refine wpAnyK_ready (rs := [5]) (by kernel_rfl) (by simp) ?_
          refine (AllReadyK.cons (o := { dst := some 41, op := Go.Op.buildSlice 33 1 #[(0, Go.Operand.tmp 40)], type := 33, pos := "state.go:131", after := #[{ on := 4, ground := Go.Ground.data }], guard := none }) rfl (fun K hK => ?_) AllReadyK.nil)
          refine step_sliceHQ rfl (.tmp 40) rfl y ka' kc' (by rfl) ?_
          intro q V2 hq hle hb2
          have H2 : Hid (V2.heap[q]? = some (.cells (hdv y ka' kc') 37 (0, 0)) ∧ V1.heap.size ≤ q) := ⟨hq, hle⟩
          have HB2 : Hid (Below W0.heap.size W0 V2) := Below.transS HB1.out hb2
          have HX2 : Hid (V2.heap[bn]? = some (.cells #[.int .i64 ns.nu, .int .i64 ns.a, .int .i64 ns.b, .slice p'.pa ns.pn p'.pc, .slice p'.ha ns.hn p'.hc] 35 (0, 0)) ∧ W0.heap.size ≤ bn) := ⟨by rw [hb2.block _ (lt_of_block HX1.out.1)]; exact HX1.out.1, HX1.out.2⟩
          have HO2 : Hid (SvOw W0.heap.size V2 ns p' A ∧ V2.ownsRow W0.heap.size 3 1 (.slice ka' y.n kc') y.n (kL y) ∧ ∀ g, (Value.slice p'.ha ns.hn p'.hc).ownBlock = some g → g < V1.heap.size) := ⟨HO1.out.1.below hb2, own_below HO1.out.2 hb2, fun g e => (HO1.out.1.hd.lt g e).2⟩
          have S3 : V2.rangeAt (w.heap.size + 1) 0 (hdl y ka kc) ∧ V2.cell? ⟨bn, 4, none⟩ = some (.slice p'.ha ns.hn p'.hc) := ⟨(SR.out V2 HB2.out).2.1, (five_of HX2.out.1).c4⟩
          refine hK.out _ _ (fun _ => S3) (fun _ => ?_)
          clear hK K hq hle hb2 S3 HB1 HX1 HO1
          try simp only [Act.put, List.setIfInBounds_toArray, List.set_cons_zero, List.set_cons_succ]
          refine wpAnyK_ready (rs := [6]) (by kernel_rfl) (by simp) ?_
          refine (AllReadyK.cons (o := { dst := some 42, op := Go.Op.call { callee := Go.Callee.value (Go.Operand.func 23), args := #[Go.Operand.tmp 37, Go.Operand.tmp 38, Go.Operand.tmp 41], argTypes := #[33, 3, 33] }, type := 33, pos := "state.go:131", after := #[{ on := 1, ground := Go.Ground.data }, { on := 2, ground := Go.Ground.data }, { on := 5, ground := Go.Ground.data }, { on := 4, ground := Go.Ground.chain }], guard := none }) rfl (fun K hK => ?_) AllReadyK.nil)
          go_simp
          have hins := insH_any W0.heap.size p'.ha ns.hn p'.hc i q (hf ns.H A) (hdl y ka' kc') V2 HO2.out.1.hd HB2.out.size HIN.out (hf_len _ _ _) (hf_one _ _ _) H2.out.1 (fun e => by have h1 := HO2.out.2.2 _ e; have h2 := H2.out.2; omega) rfl (hdl_one y ka' kc') (by omega)
          refine hins.mono ?_
          rintro e V3 ⟨va, vc, rfl, hrow, hgr⟩
          have HO3 : Hid (SvOw W0.heap.size V3 (keepY ns i y) ⟨p'.pa, p'.pc, va, vc⟩ (insG A i (ka', kc'))) := HO2.out.1.pushK HIN.out HO2.out.2.1 hrow hgr
          have hr2 : V2.heap[w.heap.size + 2]? = some (.cells #[.int .i64 0, .int .i64 0, .int .i64 0, .slice none 0 0, .slice none 0 0] 35 (0, 0)) := by rw [HB2.out.block _ (lt_of_block HR.out.2.2.1)]; exact HR.out.2.2.1
          have hx3 : V3.heap[bn]? = some (.cells #[.int .i64 ns.nu, .int .i64 ns.a, .int .i64 ns.b, .slice p'.pa ns.pn p'.pc, .slice p'.ha ns.hn p'.hc] 35 (0, 0)) := by rw [hgr.block bn (lt_of_block HX2.out.1) (fun e => own_neS HO2.out.1.hd HX2.out.1 (by decide) e.symm)]; exact HX2.out.1
          have hr3 : V3.heap[w.heap.size + 2]? = some (.cells #[.int .i64 0, .int .i64 0, .int .i64 0, .slice none 0 0, .slice none 0 0] 35 (0, 0)) := by rw [hgr.block _ (lt_of_block hr2) (fun e => own_neS HO2.out.1.hd hr2 (by decide) e.symm)]; exact hr2
          have HB3 : Hid (Below W0.heap.size W0 V3) := grown_below HO2.out.1.hd hgr HB2.out (Nat.le_refl _)
          have HNB : Hid (w.heap.size + 2 ≠ bn ∧ w.heap.size + 3 ≤ bn) := by have h1 := HX2.out.2; have h2 := HR.out.2.2.2; exact ⟨by omega, by omega⟩
          have HX3 : Hid (V3.heap[bn]? = some (.cells #[.int .i64 ns.nu, .int .i64 ns.a, .int .i64 ns.b, .slice p'.pa ns.pn p'.pc, .slice p'.ha ns.hn p'.hc] 35 (0, 0)) ∧ V3.heap[w.heap.size + 2]? = some (.cells #[.int .i64 0, .int .i64 0, .int .i64 0, .slice none 0 0, .slice none 0 0] 35 (0, 0))) := ⟨hx3, hr3⟩
          have S3 : V3.rangeAt (w.heap.size + 1) 0 (hdl y ka kc) ∧ V3.cell? ⟨bn, 4, none⟩ = some (.slice p'.ha ns.hn p'.hc) := ⟨(SR.out V3 HB3.out).2.1, (five_of hx3).c4⟩
          refine hK.out _ _ (fun _ => S3) (fun _ => ?_)
          clear hK K hins hrow hgr HO2 HX2 HB2 H2 hr2 hr3
          try simp only [Act.put, List.setIfInBounds_toArray, List.set_cons_zero, List.set_cons_succ]
          refine wpAnyK_take (by kernel_rfl) (i := 7) (oi := { dst := some 43, op := Go.Op.fieldAddr 35 (Go.Operand.tmp 10) 3, type := 0, pos := "state.go:131", after := #[{ on := 0, ground := Go.Ground.phase }, { on := 1, ground := Go.Ground.phase }, { on := 2, ground := Go.Ground.phase }, { on := 3, ground := Go.Ground.phase }, { on := 4, ground := Go.Ground.phase }, { on := 5, ground := Go.Ground.phase }, { on := 6, ground := Go.Ground.phase }], guard := none }) (v := ?_) rfl (by kernel_rfl) (by kernel_rfl) (by kernel_rfl) (fun _ _ _ h => h) (Or.inl ⟨by rfl, ?_⟩) (by assumption) ?_
          rotate_left
          · intro wz hSw; (try dsimp only at hSw); go_simp; (try with_reducible rfl)
          try simp only [Act.put, List.setIfInBounds_toArray, List.set_cons_zero, List.set_cons_succ]
          clear S3
          obtain ⟨c0, c1, c2, c3, c4, cf⟩ := five_of hx3
          clear hx3
          refine wpAnyK_ready (rs := [8]) (by kernel_rfl) (by simp) ?_
          refine (AllReadyK.cons (o := { dst := none, op := Go.Op.store 33 (Go.Operand.tmp 43) (Go.Operand.tmp 42), type := 0, pos := "state.go:131", after := #[{ on := 7, ground := Go.Ground.data }, { on := 6, ground := Go.Ground.data }, { on := 6, ground := Go.Ground.chain }, { on := 0, ground := Go.Ground.phase }, { on := 1, ground := Go.Ground.phase }, { on := 2, ground := Go.Ground.phase }, { on := 3, ground := Go.Ground.phase }, { on := 4, ground := Go.Ground.phase }, { on := 5, ground := Go.Ground.phase }, { on := 6, ground := Go.Ground.phase }], guard := none }) rfl (fun K hK => ?_) AllReadyK.nil)
          go_simp
          refine hK.out _ _ (fun h => absurd rfl h) (fun _ => ?_)
          clear hK K
          try simp only [Act.put]
          refine wpAnyK_done (by kernel_rfl) (NoPanic.normal ?_) _
          try simp only [Act.put, List.setIfInBounds_toArray, List.set_cons_zero, List.set_cons_succ]
          clear hHeld
          have hr3 := HX3.out.2
          obtain ⟨d0, d1, d2, d3, d4, df⟩ := five_of hr3
          clear hr3
          have hnb : w.heap.size + 2 < bn := HNB.out.2
          go_wp2
          clear hnb
          have hw2 : (V3.setCell ⟨bn, 4, none⟩ (.slice va (ns.hn + 1) vc)).heap[w.heap.size + 2]? = some (.cells #[.int .i64 0, .int .i64 0, .int .i64 0, .slice none 0 0, .slice none 0 0] 35 (0, 0)) := by rw [Below.heap_setCell _ _ _ _ (by exact HNB.out.1)]; exact HX3.out.2
          refine bodyPost_ret (results_S2 Tryd.results8 _ _ (w.heap.size + 2) 35 _ _ _ _ _ (0, 0) rfl (five_all hw2)) rfl ⟨⟨i, th, HF.out, .inr ⟨HNE.out, ⟨p'.pa, p'.pc, va, vc⟩, insG A i (ka', kc'), by rw [HNS.out]; rfl, ?_⟩⟩, five_below ((HB0.out.trans (HB3.out.mono HB0.out.size)).setCell (by have := HNB.out.2; show w.heap.size ≤ bn; omega) _) (by omega)⟩
          rw [HNS.out]
          exact (((HO3.out.off HX3.out.1 (fun k hk => Below.heap_setCell _ _ _ _ (by exact hk))).off hw2 (fun k hk => five_other hk)).low HB0.out.size)
        · refine step_allocS rfl rfl ?_
          intro bn u5 hq hle hb
          have HBP : Hid (Below W0.heap.size W0 u2) := HB.out
          have HB : Hid (Below W0.heap.size W0 u5) := Below.transS HB.out hb
          have HQ : Hid (HdAt u5 (some ⟨qs, 0, none⟩) 1 (fun _ => y)) := HQ.out.below hb
          have HN : Hid (u5.heap[bn]? = some (.cells #[.int .i64 0, .int .i64 0, .int .i64 0, .slice none 0 0, .slice none 0 0] 35 (0, 0)) ∧ W0.heap.size ≤ bn) := ⟨hq, by have := HBP.out.size; omega⟩
          clear hq hle
          clear hb
          refine hK.out _ _ (SR.out u5 HB.out) (fun _ => ?_)
          clear hK K
          try simp only [Act.put, List.setIfInBounds_toArray, List.set_cons_zero, List.set_cons_succ]
          refine wpAnyH_ready (rs := [8]) (by kernel_rfl) (by simp) ?_
          refine (AllReadyH.cons (o := { dst := some 29, op := Go.Op.call { callee := Go.Callee.value (Go.Operand.func 21), args := #[Go.Operand.tmp 21, Go.Operand.tmp 22, Go.Operand.tmp 24, Go.Operand.tmp 27, Go.Operand.tmp 28], argTypes := #[35, 3, 3, 4, 4] }, type := 40, pos := "state.go:127", after := #[{ on := 0, ground := Go.Ground.data }, { on := 1, ground := Go.Ground.data }, { on := 3, ground := Go.Ground.data }, { on := 6, ground := Go.Ground.data }, { on := 7, ground := Go.Ground.data }, { on := 6, ground := Go.Ground.chain }], guard := none }) rfl (fun K hK => ?_) AllReadyH.nil)
          go_simp
          refine (HAS.out u5 HB.out).mono ?_
          rintro e u6 ⟨⟨p', A, rfl, hO⟩, hb⟩
          have HBP : Hid (Below W0.heap.size W0 u5) := HB.out
          have HB : Hid (Below W0.heap.size W0 u6) := Below.transS HB.out hb
          have HQ : Hid (HdAt u6 (some ⟨qs, 0, none⟩) 1 (fun _ => y)) := HQ.out.below hb
          have HN : Hid (u6.heap[bn]? = some (.cells #[.int .i64 0, .int .i64 0, .int .i64 0, .slice none 0 0, .slice none 0 0] 35 (0, 0)) ∧ W0.heap.size ≤ bn) := ⟨by rw [hb.block _ (lt_of_block HN.out.1)]; exact HN.out.1, HN.out.2⟩
          have HO : Hid (SvOw W0.heap.size u6 ns p' A) := hO.low HBP.out.size
          clear hO
          clear hb
          refine hK.out _ _ (SR.out u6 HB.out) (fun _ => ?_)
          clear hK K
          try simp only [Act.put, List.setIfInBounds_toArray, List.set_cons_zero, List.set_cons_succ]
          refine wpAnyH_take (i := 9) (oi := { dst := some 20, op := Go.Op.move (Go.Operand.tmp 29), type := 40, pos := "state.go:127", after := #[{ on := 8, ground := Go.Ground.data }], guard := none }) (v := ?_) rfl (by kernel_rfl) (by kernel_rfl) (by kernel_rfl) (fun _ _ _ h => h) (Or.inl ⟨by rfl, ?_⟩) (by assumption) ?_
          rotate_left
          · intro wz hSw; (try dsimp only at hSw); go_simp; (try with_reducible rfl)
          try simp only [Act.put, List.setIfInBounds_toArray, List.set_cons_zero, List.set_cons_succ]
          refine wpAnyH_take (i := 10) (oi := { dst := some 30, op := Go.Op.extract (Go.Operand.tmp 20) 0, type := 35, pos := "state.go:127", after := #[{ on := 9, ground := Go.Ground.data }], guard := none }) (v := ?_) rfl (by kernel_rfl) (by kernel_rfl) (by kernel_rfl) (fun _ _ _ h => h) (Or.inl ⟨by rfl, ?_⟩) (by assumption) ?_
          rotate_left
          · intro wz hSw; (try dsimp only at hSw); go_simp; (try with_reducible rfl)
          try simp only [Act.put, List.setIfInBounds_toArray, List.set_cons_zero, List.set_cons_succ]
          refine wpAnyH_take (i := 11) (oi := { dst := some 31, op := Go.Op.extract (Go.Operand.tmp 20) 1, type := 39, pos := "state.go:127", after := #[{ on := 9, ground := Go.Ground.data }, { on := 13, ground := Go.Ground.gcOnly Go.Departure.lateStores }], guard := none }) (v := ?_) rfl (by kernel_rfl) (by kernel_rfl) (by kernel_rfl) (fun _ _ _ h => h) (Or.inl ⟨by rfl, ?_⟩) (by assumption) ?_
          rotate_left
          · intro wz hSw; (try dsimp only at hSw); go_simp; (try with_reducible rfl)
          try simp only [Act.put, List.setIfInBounds_toArray, List.set_cons_zero, List.set_cons_succ]
          refine wpAnyH_ready (rs := [13]) (by kernel_rfl) (by simp) ?_
          refine (AllReadyH.cons (o := { dst := none, op := Go.Op.store 35 (Go.Operand.tmp 10) (Go.Operand.tmp 30), type := 0, pos := "state.go:127", after := #[{ on := 12, ground := Go.Ground.data }, { on := 10, ground := Go.Ground.data }, { on := 8, ground := Go.Ground.chain }, { on := 0, ground := Go.Ground.phase }, { on := 1, ground := Go.Ground.phase }, { on := 2, ground := Go.Ground.phase }, { on := 3, ground := Go.Ground.phase }, { on := 4, ground := Go.Ground.phase }, { on := 5, ground := Go.Ground.phase }, { on := 6, ground := Go.Ground.phase }, { on := 7, ground := Go.Ground.phase }, { on := 8, ground := Go.Ground.phase }, { on := 9, ground := Go.Ground.phase }, { on := 10, ground := Go.Ground.phase }, { on := 11, ground := Go.Ground.textOnly Go.Departure.lateStores }, { on := 12, ground := Go.Ground.phase }], guard := none }) rfl (fun K hK => ?_) AllReadyH.nil)
          refine step_storeS rfl (.tmp 10) (.tmp 30) rfl bn (by rfl) ns.nu ns.a ns.b p'.pa ns.pn p'.pc p'.ha ns.hn p'.hc (by rfl) HN.out.1 ?_
          intro V hx hfr
          have HB : Hid (Below W0.heap.size W0 V) := HB.out.trans (hfr.below HB.out.size (fun k hk => by rw [List.mem_singleton.1 hk]; exact HN.out.2))
          have HO : Hid (SvOw W0.heap.size V ns p' A) := HO.out.offF HN.out.1 hfr
          have HX : Hid (V.heap[bn]? = some (.cells #[.int .i64 ns.nu, .int .i64 ns.a, .int .i64 ns.b, .slice p'.pa ns.pn p'.pc, .slice p'.ha ns.hn p'.hc] 35 (0, 0)) ∧ W0.heap.size ≤ bn) := ⟨hx, HN.out.2⟩
          clear hx hfr HN
          refine hK.out _ _ (SR.out V HB.out) (fun _ => ?_)
          clear hK K
          try simp only [Act.put]
          refine wpAnyH_take (i := 14) (oi := { dst := some 11, op := Go.Op.assign (Go.Operand.tmp 31), type := 39, pos := "state.go:127", after := #[{ on := 11, ground := Go.Ground.data }, { on := 13, ground := Go.Ground.chain }, { on := 0, ground := Go.Ground.phase }, { on := 1, ground := Go.Ground.phase }, { on := 2, ground := Go.Ground.phase }, { on := 3, ground := Go.Ground.phase }, { on := 4, ground := Go.Ground.phase }, { on := 5, ground := Go.Ground.phase }, { on := 6, ground := Go.Ground.phase }, { on := 7, ground := Go.Ground.phase }, { on := 8, ground := Go.Ground.phase }, { on := 9, ground := Go.Ground.phase }, { on := 10, ground := Go.Ground.phase }, { on := 11, ground := Go.Ground.phase }, { on := 12, ground := Go.Ground.phase }, { on := 13, ground := Go.Ground.phase }], guard := none }) (v := ?_) rfl (by kernel_rfl) (by kernel_rfl) (by kernel_rfl) (fun _ _ _ h => h) (Or.inl ⟨by rfl, ?_⟩) (by assumption) ?_
          rotate_left
          · intro wz hSw; (try dsimp only at hSw); go_simp; (try with_reducible rfl)
          try simp only [Act.put, List.setIfInBounds_toArray, List.set_cons_zero, List.set_cons_succ]
          refine wpAnyH_done (by kernel_rfl) (NoPanic.normal ?_) _
          try simp only [Act.put, List.setIfInBounds_toArray, List.set_cons_zero, List.set_cons_succ]
          clear hHeld S0
          obtain ⟨c0, c1, c2, c3, c4, cf⟩ := five_of HX.out.1
          go_wp2_with fail
          have S2 : V.drew.rangeAt (w.heap.size + 1) 0 (hdl y ka kc) ∧ V.drew.cell? ⟨bn, 4, none⟩ = some (.slice p'.ha ns.hn p'.hc) := ⟨(SR.out V HB.out).2.1, c4⟩
          have HBd : Hid (Below V.heap.size V V.drew) := (Below.refl _ V).drew
          refine wp_region_noPanic ?_
          refine wp_region_K (S := fun u => u.rangeAt (w.heap.size + 1) 0 (hdl y ka kc) ∧ u.cell? ⟨bn, 4, none⟩ = some (.slice p'.ha ns.hn p'.hc)) 8 (by kernel_rfl) S2 (fun hHeld => ?_)
          clear c0 c1 c2 c3 c4 cf
          have HX : Hid (V.drew.heap[bn]? = some (.cells #[.int .i64 ns.nu, .int .i64 ns.a, .int .i64 ns.b, .slice p'.pa ns.pn p'.pc, .slice p'.ha ns.hn p'.hc] 35 (0, 0)) ∧ W0.heap.size ≤ bn) := HX.out
          have HO : Hid (SvOw W0.heap.size V.drew ns p' A) := HO.out.below HBd.out
          have HB : Hid (Below W0.heap.size W0 V.drew) := HB.out.drew
          clear HBd
          generalize V.drew = Vd at *
          refine wpAnyK_take (by kernel_rfl) (i := 0) (oi := { dst := some 36, op := Go.Op.fieldAddr 35 (Go.Operand.tmp 10) 3, type := 0, pos := "state.go:131", after := #[], guard := none }) (v := ?_) rfl (by kernel_rfl) (by kernel_rfl) (by kernel_rfl) (fun _ _ _ h => h) (Or.inl ⟨by rfl, ?_⟩) (by assumption) ?_
          rotate_left
          · intro wz hSw; (try dsimp only at hSw); go_simp; (try with_reducible rfl)
          try simp only [Act.put, List.setIfInBounds_toArray, List.set_cons_zero, List.set_cons_succ]
          refine wpAnyK_take (by kernel_rfl) (i := 1) (oi := { dst := some 37, op := Go.Op.load 33 (Go.Operand.tmp 36), type := 33, pos := "state.go:131", after := #[{ on := 0, ground := Go.Ground.data }], guard := none }) (v := ?_) rfl (by kernel_rfl) (by kernel_rfl) (by kernel_rfl) (fun _ _ _ h => h) (Or.inl ⟨by rfl, ?_⟩) (by assumption) ?_
          rotate_left
          · intro wz hSw; (try dsimp only at hSw); go_simp; (try with_reducible rfl)
          try simp only [Act.put, List.setIfInBounds_toArray, List.set_cons_zero, List.set_cons_succ]
          refine wpAnyK_take (by kernel_rfl) (i := 2) (oi := { dst := some 38, op := Go.Op.move (Go.Operand.tmp 8), type := 3, pos := "state.go:131", after := #[], guard := none }) (v := ?_) rfl (by kernel_rfl) (by kernel_rfl) (by kernel_rfl) (fun _ _ _ h => h) (Or.inl ⟨by rfl, ?_⟩) (by assumption) ?_
          rotate_left
          · intro wz hSw; (try dsimp only at hSw); go_simp; (try with_reducible rfl)
          try simp only [Act.put, List.setIfInBounds_toArray, List.set_cons_zero, List.set_cons_succ]
          refine wpAnyK_take (by kernel_rfl) (i := 3) (oi := { dst := some 39, op := Go.Op.load 37 (Go.Operand.tmp 5), type := 37, pos := "state.go:131", after := #[], guard := none }) rfl (by kernel_rfl) (by kernel_rfl) (by kernel_rfl) (fun _ _ _ h => h) (yieldsIf_load_mid (by rfl) _ _ rfl (w.heap.size + 1) 0 rfl (hdl y ka kc) _ (fun _ h => h.1) Tryd.underlying37 rfl szH) (by assumption) ?_
          try simp only [Act.put, List.setIfInBounds_toArray, List.set_cons_zero, List.set_cons_succ]
          refine wpAnyK_ready (rs := [4]) (by kernel_rfl) (by simp) ?_
          refine (AllReadyK.cons (o := { dst := some 40, op := Go.Op.call { callee := Go.Callee.value (Go.Operand.func 24), args := #[Go.Operand.tmp 39], argTypes := #[37] }, type := 37, pos := "state.go:131", after := #[{ on := 3, ground := Go.Ground.data }], guard := none }) rfl (fun K hK => ?_) AllReadyK.nil)
          go_simp
          refine (HCL.out Vd HB.out).mono ?_
          rintro e V1 ⟨ka', kc', rfl, hok, hb1⟩
          have HB1 : Hid (Below W0.heap.size W0 V1) := Below.transS HB.out hb1
          have HX1 : Hid (V1.heap[bn]? = some (.cells #[.int .i64 ns.nu, .int .i64 ns.a, .int .i64 ns.b, .slice p'.pa ns.pn p'.pc, .slice p'.ha ns.hn p'.hc] 35 (0, 0)) ∧ W0.heap.size ≤ bn) := ⟨by rw [hb1.block _ (lt_of_block HX.out.1)]; exact HX.out.1, HX.out.2⟩
          have HO1 : Hid (SvOw W0.heap.size V1 ns p' A ∧ V1.ownsRow W0.heap.size 3 1 (.slice ka' y.n kc') y.n (kL y)) := ⟨HO.out.below hb1, own_low hok HB.out.size⟩
          have S3 : V1.rangeAt (w.heap.size + 1) 0 (hdl y ka kc) ∧ V1.cell? ⟨bn, 4, none⟩ = some (.slice p'.ha ns.hn p'.hc) := ⟨(SR.out V1 HB1.out).2.1, (five_of HX1.out.1).c4⟩
          refine hK.out _ _ (fun _ => S3) (fun _ => ?_)
          clear hK K hok hb1 S2 HB HX HO S3
          try simp only [Act.put, List.setIfInBounds_toArray, List.set_cons_zero, List.set_cons_succ]
          refine wpAnyK_ready (rs := [5]) (by kernel_rfl) (by simp) ?_
          refine (AllReadyK.cons (o := { dst := some 41, op := Go.Op.buildSlice 33 1 #[(0, Go.Operand.tmp 40)], type := 33, pos := "state.go:131", after := #[{ on := 4, ground := Go.Ground.data }], guard := none }) rfl (fun K hK => ?_) AllReadyK.nil)
          refine step_sliceHQ rfl (.tmp 40) rfl y ka' kc' (by rfl) ?_
          intro q V2 hq hle hb2
          have H2 : Hid (V2.heap[q]? = some (.cells (hdv y ka' kc') 37 (0, 0)) ∧ V1.heap.size ≤ q) := ⟨hq, hle⟩
          have HB2 : Hid (Below W0.heap.size W0 V2) := Below.transS HB1.out hb2
          have HX2 : Hid (V2.heap[bn]? = some (.cells #[.int .i64 ns.nu, .int .i64 ns.a, .int .i64 ns.b, .slice p'.pa ns.pn p'.pc, .slice p'.ha ns.hn p'.hc] 35 (0, 0)) ∧ W0.heap.size ≤ bn) := ⟨by rw [hb2.block _ (lt_of_block HX1.out.1)]; exact HX1.out.1, HX1.out.2⟩
          have HO2 : Hid (SvOw W0.heap.size V2 ns p' A ∧ V2.ownsRow W0.heap.size 3 1 (.slice ka' y.n kc') y.n (kL y) ∧ ∀ g, (Value.slice p'.ha ns.hn p'.hc).ownBlock = some g → g < V1.heap.size) := ⟨HO1.out.1.below hb2, own_below HO1.out.2 hb2, fun g e => (HO1.out.1.hd.lt g e).2⟩
          have S3 : V2.rangeAt (w.heap.size + 1) 0 (hdl y ka kc) ∧ V2.cell? ⟨bn, 4, none⟩ = some (.slice p'.ha ns.hn p'.hc) := ⟨(SR.out V2 HB2.out).2.1, (five_of HX2.out.1).c4⟩
          refine hK.out _ _ (fun _ => S3) (fun _ => ?_)
          clear hK K hq hle hb2 S3 HB1 HX1 HO1
          try simp only [Act.put, List.setIfInBounds_toArray, List.set_cons_zero, List.set_cons_succ]
          refine wpAnyK_ready (rs := [6]) (by kernel_rfl) (by simp) ?_
          refine (AllReadyK.cons (o := { dst := some 42, op := Go.Op.call { callee := Go.Callee.value (Go.Operand.func 23), args := #[Go.Operand.tmp 37, Go.Operand.tmp 38, Go.Operand.tmp 41], argTypes := #[33, 3, 33] }, type := 33, pos := "state.go:131", after := #[{ on := 1, ground := Go.Ground.data }, { on := 2, ground := Go.Ground.data }, { on := 5, ground := Go.Ground.data }, { on := 4, ground := Go.Ground.chain }], guard := none }) rfl (fun K hK => ?_) AllReadyK.nil)
          go_simp
          have hins := insH_any W0.heap.size p'.ha ns.hn p'.hc i q (hf ns.H A) (hdl y ka' kc') V2 HO2.out.1.hd HB2.out.size HIN.out (hf_len _ _ _) (hf_one _ _ _) H2.out.1 (fun e => by have h1 := HO2.out.2.2 _ e; have h2 := H2.out.2; omega) rfl (hdl_one y ka' kc') (by omega)
          refine hins.mono ?_
          rintro e V3 ⟨va, vc, rfl, hrow, hgr⟩
          have HO3 : Hid (SvOw W0.heap.size V3 (keepY ns i y) ⟨p'.pa, p'.pc, va, vc⟩ (insG A i (ka', kc'))) := HO2.out.1.pushK HIN.out HO2.out.2.1 hrow hgr
          have hr2 : V2.heap[w.heap.size + 2]? = some (.cells #[.int .i64 0, .int .i64 0, .int .i64 0, .slice none 0 0, .slice none 0 0] 35 (0, 0)) := by rw [HB2.out.block _ (lt_of_block HR.out.2.2.1)]; exact HR.out.2.2.1
          have hx3 : V3.heap[bn]? = some (.cells #[.int .i64 ns.nu, .int .i64 ns.a, .int .i64 ns.b, .slice p'.pa ns.pn p'.pc, .slice p'.ha ns.hn p'.hc] 35 (0, 0)) := by rw [hgr.block bn (lt_of_block HX2.out.1) (fun e => own_neS HO2.out.1.hd HX2.out.1 (by decide) e.symm)]; exact HX2.out.1
          have hr3 : V3.heap[w.heap.size + 2]? = some (.cells #[.int .i64 0, .int .i64 0, .int .i64 0, .slice none 0 0, .slice none 0 0] 35 (0, 0)) := by rw [hgr.block _ (lt_of_block hr2) (fun e => own_neS HO2.out.1.hd hr2 (by decide) e.symm)]; exact hr2
          have HB3 : Hid (Below W0.heap.size W0 V3) := grown_below HO2.out.1.hd hgr HB2.out (Nat.le_refl _)
          have HNB : Hid (w.heap.size + 2 ≠ bn ∧ w.heap.size + 3 ≤ bn) := by have h1 := HX2.out.2; have h2 := HR.out.2.2.2; exact ⟨by omega, by omega⟩
          have HX3 : Hid (V3.heap[bn]? = some (.cells #[.int .i64 ns.nu, .int .i64 ns.a, .int .i64 ns.b, .slice p'.pa ns.pn p'.pc, .slice p'.ha ns.hn p'.hc] 35 (0, 0)) ∧ V3.heap[w.heap.size + 2]? = some (.cells #[.int .i64 0, .int .i64 0, .int .i64 0, .slice none 0 0, .slice none 0 0] 35 (0, 0))) := ⟨hx3, hr3⟩
          have S3 : V3.rangeAt (w.heap.size + 1) 0 (hdl y ka kc) ∧ V3.cell? ⟨bn, 4, none⟩ = some (.slice p'.ha ns.hn p'.hc) := ⟨(SR.out V3 HB3.out).2.1, (five_of hx3).c4⟩
          refine hK.out _ _ (fun _ => S3) (fun _ => ?_)
          clear hK K hins hrow hgr HO2 HX2 HB2 H2 hr2 hr3
          try simp only [Act.put, List.setIfInBounds_toArray, List.set_cons_zero, List.set_cons_succ]
          refine wpAnyK_take (by kernel_rfl) (i := 7) (oi := { dst := some 43, op := Go.Op.fieldAddr 35 (Go.Operand.tmp 10) 3, type := 0, pos := "state.go:131", after := #[{ on := 0, ground := Go.Ground.phase }, { on := 1, ground := Go.Ground.phase }, { on := 2, ground := Go.Ground.phase }, { on := 3, ground := Go.Ground.phase }, { on := 4, ground := Go.Ground.phase }, { on := 5, ground := Go.Ground.phase }, { on := 6, ground := Go.Ground.phase }], guard := none }) (v := ?_) rfl (by kernel_rfl) (by kernel_rfl) (by kernel_rfl) (fun _ _ _ h => h) (Or.inl ⟨by rfl, ?_⟩) (by assumption) ?_
          rotate_left
          · intro wz hSw; (try dsimp only at hSw); go_simp; (try with_reducible rfl)
          try simp only [Act.put, List.setIfInBounds_toArray, List.set_cons_zero, List.set_cons_succ]
          clear S3
          obtain ⟨c0, c1, c2, c3, c4, cf⟩ := five_of hx3
          clear hx3
          refine wpAnyK_ready (rs := [8]) (by kernel_rfl) (by simp) ?_
          refine (AllReadyK.cons (o := { dst := none, op := Go.Op.store 33 (Go.Operand.tmp 43) (Go.Operand.tmp 42), type := 0, pos := "state.go:131", after := #[{ on := 7, ground := Go.Ground.data }, { on := 6, ground := Go.Ground.data }, { on := 6, ground := Go.Ground.chain }, { on := 0, ground := Go.Ground.phase }, { on := 1, ground := Go.Ground.phase }, { on := 2, ground := Go.Ground.phase }, { on := 3, ground := Go.Ground.phase }, { on := 4, ground := Go.Ground.phase }, { on := 5, ground := Go.Ground.phase }, { on := 6, ground := Go.Ground.phase }], guard := none }) rfl (fun K hK => ?_) AllReadyK.nil)
          go_simp
          refine hK.out _ _ (fun h => absurd rfl h) (fun _ => ?_)
          clear hK K
          try simp only [Act.put]
          refine wpAnyK_done (by kernel_rfl) (NoPanic.normal ?_) _
          try simp only [Act.put, List.setIfInBounds_toArray, List.set_cons_zero, List.set_cons_succ]
          clear hHeld
          have hr3 := HX3.out.2
          obtain ⟨d0, d1, d2, d3, d4, df⟩ := five_of hr3
          clear hr3
          have hnb : w.heap.size + 2 < bn := HNB.out.2
          go_wp2
          clear hnb
          have hw2 : (V3.setCell ⟨bn, 4, none⟩ (.slice va (ns.hn + 1) vc)).heap[w.heap.size + 2]? = some (.cells #[.int .i64 0, .int .i64 0, .int .i64 0, .slice none 0 0, .slice none 0 0] 35 (0, 0)) := by rw [Below.heap_setCell _ _ _ _ (by exact HNB.out.1)]; exact HX3.out.2
          refine bodyPost_ret (results_S2 Tryd.results8 _ _ (w.heap.size + 2) 35 _ _ _ _ _ (0, 0) rfl (five_all hw2)) rfl ⟨⟨i, th, HF.out, .inr ⟨HNE.out, ⟨p'.pa, p'.pc, va, vc⟩, insG A i (ka', kc'), by rw [HNS.out]; rfl, ?_⟩⟩, five_below ((HB0.out.trans (HB3.out.mono HB0.out.size)).setCell (by have := HNB.out.2; show w.heap.size ≤ bn; omega) _) (by omega)⟩
          rw [HNS.out]
          exact (((HO3.out.off HX3.out.1 (fun k hk => Below.heap_setCell _ _ _ _ (by exact hk))).off hw2 (fun k hk => five_other hk)).low HB0.out.size)
      · refine step_allocS rfl rfl ?_
        intro bn u7 hq hle hb
        have HBP : Hid (Below W0.heap.size W0 u1) := HB.out
        have HB : Hid (Below W0.heap.size W0 u7) := Below.transS HB.out hb
        have HQ : Hid (HdAt u7 (some ⟨qs, 0, none⟩) 1 (fun _ => y)) := HQ.out.below hb
        have HN : Hid (u7.heap[bn]? = some (.cells #[.int .i64 0, .int .i64 0, .int .i64 0, .slice none 0 0, .slice none 0 0] 35 (0, 0)) ∧ W0.heap.size ≤ bn) := ⟨hq, by have := HBP.out.size; omega⟩
        clear hq hle
        clear hb
        refine hK.out _ _ (SR.out u7 HB.out) (fun _ => ?_)
        clear hK K
        try simp only [Act.put, List.setIfInBounds_toArray, List.set_cons_zero, List.set_cons_succ]
        refine wpAnyH_ready (rs := [6]) (by kernel_rfl) (by simp) ?_
        refine (AllReadyH.cons (o := { dst := some 27, op := Go.Op.call { callee := Go.Callee.value (Go.Operand.func 22), args := #[Go.Operand.tmp 26], argTypes := #[33] }, type := 4, pos := "state.go:127", after := #[{ on := 5, ground := Go.Ground.data }], guard := none }) rfl (fun K hK => ?_) AllReadyH.nil)
        go_simp
        refine (HMW.out qs u7 HQ.out).mono ?_
        rintro e u8 ⟨rfl, hb⟩
        have HB : Hid (Below W0.heap.size W0 u8) := Below.transS HB.out hb
        have HQ : Hid (HdAt u8 (some ⟨qs, 0, none⟩) 1 (fun _ => y)) := HQ.out.below hb
        have HN : Hid (u8.heap[bn]? = some (.cells #[.int .i64 0, .int .i64 0, .int .i64 0, .slice none 0 0, .slice none 0 0] 35 (0, 0)) ∧ W0.heap.size ≤ bn) := ⟨by rw [hb.block _ (lt_of_block HN.out.1)]; exact HN.out.1, HN.out.2⟩
        clear hb
        refine hK.out _ _ (SR.out u8 HB.out) (fun _ => ?_)
        clear hK K
        try simp only [Act.put, List.setIfInBounds_toArray, List.set_cons_zero, List.set_cons_succ]
        refine wpAnyH_ready (rs := [8]) (by kernel_rfl) (by simp) ?_
        refine (AllReadyH.cons (o := { dst := some 29, op := Go.Op.call { callee := Go.Callee.value (Go.Operand.func 21), args := #[Go.Operand.tmp 21, Go.Operand.tmp 22, Go.Operand.tmp 24, Go.Operand.tmp 27, Go.Operand.tmp 28], argTypes := #[35, 3, 3, 4, 4] }, type := 40, pos := "state.go:127", after := #[{ on := 0, ground := Go.Ground.data }, { on := 1, ground := Go.Ground.data }, { on := 3, ground := Go.Ground.data }, { on := 6, ground := Go.Ground.data }, { on := 7, ground := Go.Ground.data }, { on := 6, ground := Go.Ground.chain }], guard := none }) rfl (fun K hK => ?_) AllReadyH.nil)
        go_simp
        refine (HAS.out u8 HB.out).mono ?_
        rintro e u9 ⟨⟨p', A, rfl, hO⟩, hb⟩
        have HBP : Hid (Below W0.heap.size W0 u8) := HB.out
        have HB : Hid (Below W0.heap.size W0 u9) := Below.transS HB.out hb
        have HQ : Hid (HdAt u9 (some ⟨qs, 0, none⟩) 1 (fun _ => y)) := HQ.out.below hb
        have HN : Hid (u9.heap[bn]? = some (.cells #[.int .i64 0, .int .i64 0, .int .i64 0, .slice none 0 0, .slice none 0 0] 35 (0, 0)) ∧ W0.heap.size ≤ bn) := ⟨by rw [hb.block _ (lt_of_block HN.out.1)]; exact HN.out.1, HN.out.2⟩
        have HO : Hid (SvOw W0.heap.size u9 ns p' A) := hO.low HBP.out.size
        clear hO
        clear hb
        refine hK.out _ _ (SR.out u9 HB.out) (fun _ => ?_)
        clear hK K
        try simp only [Act.put, List.setIfInBounds_toArray, List.set_cons_zero, List.set_cons_succ]
        refine wpAnyH_take (i := 9) (oi := { dst := some 20, op := Go.Op.move (Go.Operand.tmp 29), type := 40, pos := "state.go:127", after := #[{ on := 8, ground := Go.Ground.data }], guard := none }) (v := ?_) rfl (by kernel_rfl) (by kernel_rfl) (by kernel_rfl) (fun _ _ _ h => h) (Or.inl ⟨by rfl, ?_⟩) (by assumption) ?_
        rotate_left
        · intro wz hSw; (try dsimp only at hSw); go_simp; (try with_reducible rfl)
        try simp only [Act.put, List.setIfInBounds_toArray, List.set_cons_zero, List.set_cons_succ]
        refine wpAnyH_take (i := 10) (oi := { dst := some 30, op := Go.Op.extract (Go.Operand.tmp 20) 0, type := 35, pos := "state.go:127", after := #[{ on := 9, ground := Go.Ground.data }], guard := none }) (v := ?_) rfl (by kernel_rfl) (by kernel_rfl) (by kernel_rfl) (fun _ _ _ h => h) (Or.inl ⟨by rfl, ?_⟩) (by assumption) ?_
        rotate_left
        · intro wz hSw; (try dsimp only at hSw); go_simp; (try with_reducible rfl)
        try simp only [Act.put, List.setIfInBounds_toArray, List.set_cons_zero, List.set_cons_succ]
        refine wpAnyH_take (i := 11) (oi := { dst := some 31, op := Go.Op.extract (Go.Operand.tmp 20) 1, type := 39, pos := "state.go:127", after := #[{ on := 9, ground := Go.Ground.data }, { on := 13, ground := Go.Ground.gcOnly Go.Departure.lateStores }], guard := none }) (v := ?_) rfl (by kernel_rfl) (by kernel_rfl) (by kernel_rfl) (fun _ _ _ h => h) (Or.inl ⟨by rfl, ?_⟩) (by assumption) ?_
        rotate_left
        · intro wz hSw; (try dsimp only at hSw); go_simp; (try with_reducible rfl)
        try simp only [Act.put, List.setIfInBounds_toArray, List.set_cons_zero, List.set_cons_succ]
        refine wpAnyH_ready (rs := [13]) (by kernel_rfl) (by simp) ?_
        refine (AllReadyH.cons (o := { dst := none, op := Go.Op.store 35 (Go.Operand.tmp 10) (Go.Operand.tmp 30), type := 0, pos := "state.go:127", after := #[{ on := 12, ground := Go.Ground.data }, { on := 10, ground := Go.Ground.data }, { on := 8, ground := Go.Ground.chain }, { on := 0, ground := Go.Ground.phase }, { on := 1, ground := Go.Ground.phase }, { on := 2, ground := Go.Ground.phase }, { on := 3, ground := Go.Ground.phase }, { on := 4, ground := Go.Ground.phase }, { on := 5, ground := Go.Ground.phase }, { on := 6, ground := Go.Ground.phase }, { on := 7, ground := Go.Ground.phase }, { on := 8, ground := Go.Ground.phase }, { on := 9, ground := Go.Ground.phase }, { on := 10, ground := Go.Ground.phase }, { on := 11, ground := Go.Ground.textOnly Go.Departure.lateStores }, { on := 12, ground := Go.Ground.phase }], guard := none }) rfl (fun K hK => ?_) AllReadyH.nil)
        refine step_storeS rfl (.tmp 10) (.tmp 30) rfl bn (by rfl) ns.nu ns.a ns.b p'.pa ns.pn p'.pc p'.ha ns.hn p'.hc (by rfl) HN.out.1 ?_
        intro V hx hfr
        have HB : Hid (Below W0.heap.size W0 V) := HB.out.trans (hfr.below HB.out.size (fun k hk => by rw [List.mem_singleton.1 hk]; exact HN.out.2))
        have HO : Hid (SvOw W0.heap.size V ns p' A) := HO.out.offF HN.out.1 hfr
        have HX : Hid (V.heap[bn]? = some (.cells #[.int .i64 ns.nu, .int .i64 ns.a, .int .i64 ns.b, .slice p'.pa ns.pn p'.pc, .slice p'.ha ns.hn p'.hc] 35 (0, 0)) ∧ W0.heap.size ≤ bn) := ⟨hx, HN.out.2⟩
        clear hx hfr HN
        refine hK.out _ _ (SR.out V HB.out) (fun _ => ?_)
        clear hK K
        try simp only [Act.put]
        refine wpAnyH_take (i := 14) (oi := { dst := some 11, op := Go.Op.assign (Go.Operand.tmp 31), type := 39, pos := "state.go:127", after := #[{ on := 11, ground := Go.Ground.data }, { on := 13, ground := Go.Ground.chain }, { on := 0, ground := Go.Ground.phase }, { on := 1, ground := Go.Ground.phase }, { on := 2, ground := Go.Ground.phase }, { on := 3, ground := Go.Ground.phase }, { on := 4, ground := Go.Ground.phase }, { on := 5, ground := Go.Ground.phase }, { on := 6, ground := Go.Ground.phase }, { on := 7, ground := Go.Ground.phase }, { on := 8, ground := Go.Ground.phase }, { on := 9, ground := Go.Ground.phase }, { on := 10, ground := Go.Ground.phase }, { on := 11, ground := Go.Ground.phase }, { on := 12, ground := Go.Ground.phase }, { on := 13, ground := Go.Ground.phase }], guard := none }) (v := ?_) rfl (by kernel_rfl) (by kernel_rfl) (by kernel_rfl) (fun _ _ _ h => h) (Or.inl ⟨by rfl, ?_⟩) (by assumption) ?_
        rotate_left
        · intro wz hSw; (try dsimp only at hSw); go_simp; (try with_reducible rfl)
        try simp only [Act.put, List.setIfInBounds_toArray, List.set_cons_zero, List.set_cons_succ]
        refine wpAnyH_done (by kernel_rfl) (NoPanic.normal ?_) _
        try simp only [Act.put, List.setIfInBounds_toArray, List.set_cons_zero, List.set_cons_succ]
        clear hHeld S0
        obtain ⟨c0, c1, c2, c3, c4, cf⟩ := five_of HX.out.1
        go_wp2_with fail
        have S2 : V.drew.rangeAt (w.heap.size + 1) 0 (hdl y ka kc) ∧ V.drew.cell? ⟨bn, 4, none⟩ = some (.slice p'.ha ns.hn p'.hc) := ⟨(SR.out V HB.out).2.1, c4⟩
        have HBd : Hid (Below V.heap.size V V.drew) := (Below.refl _ V).drew
        refine wp_region_noPanic ?_
        refine wp_region_K (S := fun u => u.rangeAt (w.heap.size + 1) 0 (hdl y ka kc) ∧ u.cell? ⟨bn, 4, none⟩ = some (.slice p'.ha ns.hn p'.hc)) 8 (by kernel_rfl) S2 (fun hHeld => ?_)
        clear c0 c1 c2 c3 c4 cf
        have HX : Hid (V.drew.heap[bn]? = some (.cells #[.int .i64 ns.nu, .int .i64 ns.a, .int .i64 ns.b, .slice p'.pa ns.pn p'.pc, .slice p'.ha ns.hn p'.hc] 35 (0, 0)) ∧ W0.heap.size ≤ bn) := HX.out
        have HO : Hid (SvOw W0.heap.size V.drew ns p' A) := HO.out.below HBd.out
        have HB : Hid (Below W0.heap.size W0 V.drew) := HB.out.drew
        clear HBd
        generalize V.drew = Vd at *
        refine wpAnyK_take (by kernel_rfl) (i := 0) (oi := { dst := some 36, op := Go.Op.fieldAddr 35 (Go.Operand.tmp 10) 3, type := 0, pos := "state.go:131", after := #[], guard := none }) (v := ?_) rfl (by kernel_rfl) (by kernel_rfl) (by kernel_rfl) (fun _ _ _ h => h) (Or.inl ⟨by rfl, ?_⟩) (by assumption) ?_
        rotate_left
        · intro wz hSw; (try dsimp only at hSw); go_simp; (try with_reducible rfl)
        try simp only [Act.put, List.setIfInBounds_toArray, List.set_cons_zero, List.set_cons_succ]
        refine wpAnyK_take (by kernel_rfl) (i := 1) (oi := { dst := some 37, op := Go.Op.load 33 (Go.Operand.tmp 36), type := 33, pos := "state.go:131", after := #[{ on := 0, ground := Go.Ground.data }], guard := none }) (v := ?_) rfl (by kernel_rfl) (by kernel_rfl) (by kernel_rfl) (fun _ _ _ h => h) (Or.inl ⟨by rfl, ?_⟩) (by assumption) ?_
        rotate_left
        · intro wz hSw; (try dsimp only at hSw); go_simp; (try with_reducible rfl)
        try simp only [Act.put, List.setIfInBounds_toArray, List.set_cons_zero, List.set_cons_succ]
        refine wpAnyK_take (by kernel_rfl) (i := 2) (oi := { dst := some 38, op := Go.Op.move (Go.Operand.tmp 8), type := 3, pos := "state.go:131", after := #[], guard := none }) (v := ?_) rfl (by kernel_rfl) (by kernel_rfl) (by kernel_rfl) (fun _ _ _ h => h) (Or.inl ⟨by rfl, ?_⟩) (by assumption) ?_
        rotate_left
        · intro wz hSw; (try dsimp only at hSw); go_simp; (try with_reducible rfl)
        try simp only [Act.put, List.setIfInBounds_toArray, List.set_cons_zero, List.set_cons_succ]
        refine wpAnyK_take (by kernel_rfl) (i := 3) (oi := { dst := some 39, op := Go.Op.load 37 (Go.Operand.tmp 5), type := 37, pos := "state.go:131", after := #[], guard := none }) rfl (by kernel_rfl) (by kernel_rfl) (by kernel_rfl) (fun _ _ _ h => h) (yieldsIf_load_mid (by rfl) _ _ rfl (w.heap.size + 1) 0 rfl (hdl y ka kc) _ (fun _ h => h.1) Tryd.underlying37 rfl szH) (by assumption) ?_
        try simp only [Act.put, List.setIfInBounds_toArray, List.set_cons_zero, List.set_cons_succ]
        refine wpAnyK_ready (rs := [4]) (by kernel_rfl) (by simp) ?_
        refine (AllReadyK.cons (o := { dst := some 40, op := Go.Op.call { callee := Go.Callee.value (Go.Operand.func 24), args := #[Go.Operand.tmp 39], argTypes := #[37] }, type := 37, pos := "state.go:131", after := #[{ on := 3, ground := Go.Ground.data }], guard := none }) rfl (fun K hK => ?_) AllReadyK.nil)
        go_simp
        refine (HCL.out Vd HB.out).mono ?_
        rintro e V1 ⟨ka', kc', rfl, hok, hb1⟩
        have HB1 : Hid (Below W0.heap.size W0 V1) := Below.transS HB.out hb1
        have HX1 : Hid (V1.heap[bn]? = some (.cells #[.int .i64 ns.nu, .int .i64 ns.a, .int .i64 ns.b, .slice p'.pa ns.pn p'.pc, .slice p'.ha ns.hn p'.hc] 35 (0, 0)) ∧ W0.heap.size ≤ bn) := ⟨by rw [hb1.block _ (lt_of_block HX.out.1)]; exact HX.out.1, HX.out.2⟩
        have HO1 : Hid (SvOw W0.heap.size V1 ns p' A ∧ V1.ownsRow W0.heap.size 3 1 (.slice ka' y.n kc') y.n (kL y)) := ⟨HO.out.below hb1, own_low hok HB.out.size⟩
        have S3 : V1.rangeAt (w.heap.size + 1) 0 (hdl y ka kc) ∧ V1.cell? ⟨bn, 4, none⟩ = some (.slice p'.ha ns.hn p'.hc) := ⟨(SR.out V1 HB1.out).2.1, (five_of HX1.out.1).c4⟩
        refine hK.out _ _ (fun _ => S3) (fun _ => ?_)
        clear hK K hok hb1 S2 HB HX HO S3
        try simp only [Act.put, List.setIfInBounds_toArray, List.set_cons_zero, List.set_cons_succ]
        refine wpAnyK_ready (rs := [5]) (by kernel_rfl) (by simp) ?_
        refine (AllReadyK.cons (o := { dst := some 41, op := Go.Op.buildSlice 33 1 #[(0, Go.Operand.tmp 40)], type := 33, pos := "state.go:131", after := #[{ on := 4, ground := Go.Ground.data }], guard := none }) rfl (fun K hK => ?_) AllReadyK.nil)
        refine step_sliceHQ rfl (.tmp 40) rfl y ka' kc' (by rfl) ?_
        intro q V2 hq hle hb2
        have H2 : Hid (V2.heap[q]? = some (.cells (hdv y ka' kc') 37 (0, 0)) ∧ V1.heap.size ≤ q) := ⟨hq, hle⟩
        have HB2 : Hid (Below W0.heap.size W0 V2) := Below.transS HB1.out hb2
        have HX2 : Hid (V2.heap[bn]? = some (.cells #[.int .i64 ns.nu, .int .i64 ns.a, .int .i64 ns.b, .slice p'.pa ns.pn p'.pc, .slice p'.ha ns.hn p'.hc] 35 (0, 0)) ∧ W0.heap.size ≤ bn) := ⟨by rw [hb2.block _ (lt_of_block HX1.out.1)]; exact HX1.out.1, HX1.out.2⟩
        have HO2 : Hid (SvOw W0.heap.size V2 ns p' A ∧ V2.ownsRow W0.heap.size 3 1 (.slice ka' y.n kc') y.n (kL y) ∧ ∀ g, (Value.slice p'.ha ns.hn p'.hc).ownBlock = some g → g < V1.heap.size) := ⟨HO1.out.1.below hb2, own_below HO1.out.2 hb2, fun g e => (HO1.out.1.hd.lt g e).2⟩
        have S3 : V2.rangeAt (w.heap.size + 1) 0 (hdl y ka kc) ∧ V2.cell? ⟨bn, 4, none⟩ = some (.slice p'.ha ns.hn p'.hc) := ⟨(SR.out V2 HB2.out).2.1, (five_of HX2.out.1).c4⟩
        refine hK.out _ _ (fun _ => S3) (fun _ => ?_)
        clear hK K hq hle hb2 S3 HB1 HX1 HO1
        try simp only [Act.put, List.setIfInBounds_toArray, List.set_cons_zero, List.set_cons_succ]
        refine wpAnyK_ready (rs := [6]) (by kernel_rfl) (by simp) ?_
        refine (AllReadyK.cons (o := { dst := some 42, op := Go.Op.call { callee := Go.Callee.value (Go.Operand.func 23), args := #[Go.Operand.tmp 37, Go.Operand.tmp 38, Go.Operand.tmp 41], argTypes := #[33, 3, 33] }, type := 33, pos := "state.go:131", after := #[{ on := 1, ground := Go.Ground.data }, { on := 2, ground := Go.Ground.data }, { on := 5, ground := Go.Ground.data }, { on := 4, ground := Go.Ground.chain }], guard := none }) rfl (fun K hK => ?_) AllReadyK.nil)
        go_simp
        have hins := insH_any W0.heap.size p'.ha ns.hn p'.hc i q (hf ns.H A) (hdl y ka' kc') V2 HO2.out.1.hd HB2.out.size HIN.out (hf_len _ _ _) (hf_one _ _ _) H2.out.1 (fun e => by have h1 := HO2.out.2.2 _ e; have h2 := H2.out.2; omega) rfl (hdl_one y ka' kc') (by omega)
        refine hins.mono ?_
        rintro e V3 ⟨va, vc, rfl, hrow, hgr⟩
        have HO3 : Hid (SvOw W0.heap.size V3 (keepY ns i y) ⟨p'.pa, p'.pc, va, vc⟩ (insG A i (ka', kc'))) := HO2.out.1.pushK HIN.out HO2.out.2.1 hrow hgr
        have hr2 : V2.heap[w.heap.size + 2]? = some (.cells #[.int .i64 0, .int .i64 0, .int .i64 0, .slice none 0 0, .slice none 0 0] 35 (0, 0)) := by rw [HB2.out.block _ (lt_of_block HR.out.2.2.1)]; exact HR.out.2.2.1
        have hx3 : V3.heap[bn]? = some (.cells #[.int .i64 ns.nu, .int .i64 ns.a, .int .i64 ns.b, .slice p'.pa ns.pn p'.pc, .slice p'.ha ns.hn p'.hc] 35 (0, 0)) := by rw [hgr.block bn (lt_of_block HX2.out.1) (fun e => own_neS HO2.out.1.hd HX2.out.1 (by decide) e.symm)]; exact HX2.out.1
        have hr3 : V3.heap[w.heap.size + 2]? = some (.cells #[.int .i64 0, .int .i64 0, .int .i64 0, .slice none 0 0, .slice none 0 0] 35 (0, 0)) := by rw [hgr.block _ (lt_of_block hr2) (fun e => own_neS HO2.out.1.hd hr2 (by decide) e.symm)]; exact hr2
        have HB3 : Hid (Below W0.heap.size W0 V3) := grown_below HO2.out.1.hd hgr HB2.out (Nat.le_refl _)
        have HNB : Hid (w.heap.size + 2 ≠ bn ∧ w.heap.size + 3 ≤ bn) := by have h1 := HX2.out.2; have h2 := HR.out.2.2.2; exact ⟨by omega, by omega⟩
        have HX3 : Hid (V3.heap[bn]? = some (.cells #[.int .i64 ns.nu, .int .i64 ns.a, .int .i64 ns.b, .slice p'.pa ns.pn p'.pc, .slice p'.ha ns.hn p'.hc] 35 (0, 0)) ∧ V3.heap[w.heap.size + 2]? = some (.cells #[.int .i64 0, .int .i64 0, .int .i64 0, .slice none 0 0, .slice none 0 0] 35 (0, 0))) := ⟨hx3, hr3⟩
        have S3 : V3.rangeAt (w.heap.size + 1) 0 (hdl y ka kc) ∧ V3.cell? ⟨bn, 4, none⟩ = some (.slice p'.ha ns.hn p'.hc) := ⟨(SR.out V3 HB3.out).2.1, (five_of hx3).c4⟩
        refine hK.out _ _ (fun _ => S3) (fun _ => ?_)
        clear hK K hins hrow hgr HO2 HX2 HB2 H2 hr2 hr3
        try simp only [Act.put, List.setIfInBounds_toArray, List.set_cons_zero, List.set_cons_succ]
        refine wpAnyK_take (by kernel_rfl) (i := 7) (oi := { dst := some 43, op := Go.Op.fieldAddr 35 (Go.Operand.tmp 10) 3, type := 0, pos := "state.go:131", after := #[{ on := 0, ground := Go.Ground.phase }, { on := 1, ground := Go.Ground.phase }, { on := 2, ground := Go.Ground.phase }, { on := 3, ground := Go.Ground.phase }, { on := 4, ground := Go.Ground.phase }, { on := 5, ground := Go.Ground.phase }, { on := 6, ground := Go.Ground.phase }], guard := none }) (v := ?_) rfl (by kernel_rfl) (by kernel_rfl) (by kernel_rfl) (fun _ _ _ h => h) (Or.inl ⟨by rfl, ?_⟩) (by assumption) ?_
        rotate_left
        · intro wz hSw; (try dsimp only at hSw); go_simp; (try with_reducible rfl)
        try simp only [Act.put, List.setIfInBounds_toArray, List.set_cons_zero, List.set_cons_succ]
        clear S3
        obtain ⟨c0, c1, c2, c3, c4, cf⟩ := five_of hx3
        clear hx3
        refine wpAnyK_ready (rs := [8]) (by kernel_rfl) (by simp) ?_
        refine (AllReadyK.cons (o := { dst := none, op := Go.Op.store 33 (Go.Operand.tmp 43) (Go.Operand.tmp 42), type := 0, pos := "state.go:131", after := #[{ on := 7, ground := Go.Ground.data }, { on := 6, ground := Go.Ground.data }, { on := 6, ground := Go.Ground.chain }, { on := 0, ground := Go.Ground.phase }, { on := 1, ground := Go.Ground.phase }, { on := 2, ground := Go.Ground.phase }, { on := 3, ground := Go.Ground.phase }, { on := 4, ground := Go.Ground.phase }, { on := 5, ground := Go.Ground.phase }, { on := 6, ground := Go.Ground.phase }], guard := none }) rfl (fun K hK => ?_) AllReadyK.nil)
        go_simp
        refine hK.out _ _ (fun h => absurd rfl h) (fun _ => ?_)
        clear hK K
        try simp only [Act.put]
        refine wpAnyK_done (by kernel_rfl) (NoPanic.normal ?_) _
        try simp only [Act.put, List.setIfInBounds_toArray, List.set_cons_zero, List.set_cons_succ]
        clear hHeld
        have hr3 := HX3.out.2
        obtain ⟨d0, d1, d2, d3, d4, df⟩ := five_of hr3
        clear hr3
        have hnb : w.heap.size + 2 < bn := HNB.out.2
        go_wp2
        clear hnb
        have hw2 : (V3.setCell ⟨bn, 4, none⟩ (.slice va (ns.hn + 1) vc)).heap[w.heap.size + 2]? = some (.cells #[.int .i64 0, .int .i64 0, .int .i64 0, .slice none 0 0, .slice none 0 0] 35 (0, 0)) := by rw [Below.heap_setCell _ _ _ _ (by exact HNB.out.1)]; exact HX3.out.2
        refine bodyPost_ret (results_S2 Tryd.results8 _ _ (w.heap.size + 2) 35 _ _ _ _ _ (0, 0) rfl (five_all hw2)) rfl ⟨⟨i, th, HF.out, .inr ⟨HNE.out, ⟨p'.pa, p'.pc, va, vc⟩, insG A i (ka', kc'), by rw [HNS.out]; rfl, ?_⟩⟩, five_below ((HB0.out.trans (HB3.out.mono HB0.out.size)).setCell (by have := HNB.out.2; show w.heap.size ≤ bn; omega) _) (by omega)⟩
        rw [HNS.out]
        exact (((HO3.out.off HX3.out.1 (fun k hk => Below.heap_setCell _ _ _ _ (by exact hk))).off hw2 (fun k hk => five_other hk)).low HB0.out.size)
    · refine step_allocS rfl rfl ?_
      intro bn u10 hq hle hb
      have HBP : Hid (Below W0.heap.size W0 W1) := HB.out
      have HB : Hid (Below W0.heap.size W0 u10) := Below.transS HB.out hb
      have HN : Hid (u10.heap[bn]? = some (.cells #[.int .i64 0, .int .i64 0, .int .i64 0, .slice none 0 0, .slice none 0 0] 35 (0, 0)) ∧ W0.heap.size ≤ bn) := ⟨hq, by have := HBP.out.size; omega⟩
      clear hq hle
      clear hb
      refine hK.out _ _ (SR.out u10 HB.out) (fun _ => ?_)
      clear hK K
      try simp only [Act.put, List.setIfInBounds_toArray, List.set_cons_zero, List.set_cons_succ]
      refine wpAnyH_ready (rs := [5]) (by kernel_rfl) (by simp) ?_
      refine (AllReadyH.cons (o := { dst := some 26, op := Go.Op.buildSlice 33 1 #[(0, Go.Operand.tmp 25)], type := 33, pos := "state.go:127", after := #[{ on := 4, ground := Go.Ground.data }], guard := none }) rfl (fun K hK => ?_) AllReadyH.nil)
      refine step_sliceHQ rfl (.tmp 25) rfl y ka kc (by rfl) ?_
      intro qs u11 hq hle hb
      have HB : Hid (Below W0.heap.size W0 u11) := Below.transS HB.out hb
      have HN : Hid (u11.heap[bn]? = some (.cells #[.int .i64 0, .int .i64 0, .int .i64 0, .slice none 0 0, .slice none 0 0] 35 (0, 0)) ∧ W0.heap.size ≤ bn) := ⟨by rw [hb.block _ (lt_of_block HN.out.1)]; exact HN.out.1, HN.out.2⟩
      have HQ : Hid (HdAt u11 (some ⟨qs, 0, none⟩) 1 (fun _ => y)) := one_hd hq (HI.out.1.below HB.out) HI.out.2.1
      clear hq hle
      clear hb
      refine hK.out _ _ (SR.out u11 HB.out) (fun _ => ?_)
      clear hK K
      try simp only [Act.put, List.setIfInBounds_toArray, List.set_cons_zero, List.set_cons_succ]
      refine wpAnyH_ready (rs := [6]) (by kernel_rfl) (by simp) ?_
      refine (AllReadyH.cons (o := { dst := some 27, op := Go.Op.call { callee := Go.Callee.value (Go.Operand.func 22), args := #[Go.Operand.tmp 26], argTypes := #[33] }, type := 4, pos := "state.go:127", after := #[{ on := 5, ground := Go.Ground.data }], guard := none }) rfl (fun K hK => ?_) AllReadyH.nil)
      go_simp
      refine (HMW.out qs u11 HQ.out).mono ?_
      rintro e u12 ⟨rfl, hb⟩
      have HB : Hid (Below W0.heap.size W0 u12) := Below.transS HB.out hb
      have HQ : Hid (HdAt u12 (some ⟨qs, 0, none⟩) 1 (fun _ => y)) := HQ.out.below hb
      have HN : Hid (u12.heap[bn]? = some (.cells #[.int .i64 0, .int .i64 0, .int .i64 0, .slice none 0 0, .slice none 0 0] 35 (0, 0)) ∧ W0.heap.size ≤ bn) := ⟨by rw [hb.block _ (lt_of_block HN.out.1)]; exact HN.out.1, HN.out.2⟩
      clear hb
      refine hK.out _ _ (SR.out u12 HB.out) (fun _ => ?_)
      clear hK K
      try simp only [Act.put, List.setIfInBounds_toArray, List.set_cons_zero, List.set_cons_succ]
      refine wpAnyH_ready (rs := [8]) (by kernel_rfl) (by simp) ?_
      refine (AllReadyH.cons (o := { dst := some 29, op := Go.Op.call { callee := Go.Callee.value (Go.Operand.func 21), args := #[Go.Operand.tmp 21, Go.Operand.tmp 22, Go.Operand.tmp 24, Go.Operand.tmp 27, Go.Operand.tmp 28], argTypes := #[35, 3, 3, 4, 4] }, type := 40, pos := "state.go:127", after := #[{ on := 0, ground := Go.Ground.data }, { on := 1, ground := Go.Ground.data }, { on := 3, ground := Go.Ground.data }, { on := 6, ground := Go.Ground.data }, { on := 7, ground := Go.Ground.data }, { on := 6, ground := Go.Ground.chain }], guard := none }) rfl (fun K hK => ?_) AllReadyH.nil)
      go_simp
      refine (HAS.out u12 HB.out).mono ?_
      rintro e u13 ⟨⟨p', A, rfl, hO⟩, hb⟩
      have HBP : Hid (Below W0.heap.size W0 u12) := HB.out
      have HB : Hid (Below W0.heap.size W0 u13) := Below.transS HB.out hb
      have HQ : Hid (HdAt u13 (some ⟨qs, 0, none⟩) 1 (fun _ => y)) := HQ.out.below hb
      have HN : Hid (u13.heap[bn]? = some (.cells #[.int .i64 0, .int .i64 0, .int .i64 0, .slice none 0 0, .slice none 0 0] 35 (0, 0)) ∧ W0.heap.size ≤ bn) := ⟨by rw [hb.block _ (lt_of_block HN.out.1)]; exact HN.out.1, HN.out.2⟩
      have HO : Hid (SvOw W0.heap.size u13 ns p' A) := hO.low HBP.out.size
      clear hO
      clear hb
      refine hK.out _ _ (SR.out u13 HB.out) (fun _ => ?_)
      clear hK K
      try simp only [Act.put, List.setIfInBounds_toArray, List.set_cons_zero, List.set_cons_succ]
      refine wpAnyH_take (i := 9) (oi := { dst := some 20, op := Go.Op.move (Go.Operand.tmp 29), type := 40, pos := "state.go:127", after := #[{ on := 8, ground := Go.Ground.data }], guard := none }) (v := ?_) rfl (by kernel_rfl) (by kernel_rfl) (by kernel_rfl) (fun _ _ _ h => h) (Or.inl ⟨by rfl, ?_⟩) (by assumption) ?_
      rotate_left
      · intro wz hSw; (try dsimp only at hSw); go_simp; (try with_reducible rfl)
      try simp only [Act.put, List.setIfInBounds_toArray, List.set_cons_zero, List.set_cons_succ]
      refine wpAnyH_take (i := 10) (oi := { dst := some 30, op := Go.Op.extract (Go.Operand.tmp 20) 0, type := 35, pos := "state.go:127", after := #[{ on := 9, ground := Go.Ground.data }], guard := none }) (v := ?_) rfl (by kernel_rfl) (by kernel_rfl) (by kernel_rfl) (fun _ _ _ h => h) (Or.inl ⟨by rfl, ?_⟩) (by assumption) ?_
      rotate_left
      · intro wz hSw; (try dsimp only at hSw); go_simp; (try with_reducible rfl)
      try simp only [Act.put, List.setIfInBounds_toArray, List.set_cons_zero, List.set_cons_succ]
      refine wpAnyH_take (i := 11) (oi := { dst := some 31, op := Go.Op.extract (Go.Operand.tmp 20) 1, type := 39, pos := "state.go:127", after := #[{ on := 9, ground := Go.Ground.data }, { on := 13, ground := Go.Ground.gcOnly Go.Departure.lateStores }], guard := none }) (v := ?_) rfl (by kernel_rfl) (by kernel_rfl) (by kernel_rfl) (fun _ _ _ h => h) (Or.inl ⟨by rfl, ?_⟩) (by assumption) ?_
      rotate_left
      · intro wz hSw; (try dsimp only at hSw); go_simp; (try with_reducible rfl)
      try simp only [Act.put, List.setIfInBounds_toArray, List.set_cons_zero, List.set_cons_succ]
      refine wpAnyH_ready (rs := [13]) (by kernel_rfl) (by simp) ?_
      refine (AllReadyH.cons (o := { dst := none, op := Go.Op.store 35 (Go.Operand.tmp 10) (Go.Operand.tmp 30), type := 0, pos := "state.go:127", after := #[{ on := 12, ground := Go.Ground.data }, { on := 10, ground := Go.Ground.data }, { on := 8, ground := Go.Ground.chain }, { on := 0, ground := Go.Ground.phase }, { on := 1, ground := Go.Ground.phase }, { on := 2, ground := Go.Ground.phase }, { on := 3, ground := Go.Ground.phase }, { on := 4, ground := Go.Ground.phase }, { on := 5, ground := Go.Ground.phase }, { on := 6, ground := Go.Ground.phase }, { on := 7, ground := Go.Ground.phase }, { on := 8, ground := Go.Ground.phase }, { on := 9, ground := Go.Ground.phase }, { on := 10, ground := Go.Ground.phase }, { on := 11, ground := Go.Ground.textOnly Go.Departure.lateStores }, { on := 12, ground := Go.Ground.phase }], guard := none }) rfl (fun K hK => ?_) AllReadyH.nil)
      refine step_storeS rfl (.tmp 10) (.tmp 30) rfl bn (by rfl) ns.nu ns.a ns.b p'.pa ns.pn p'.pc p'.ha ns.hn p'.hc (by rfl) HN.out.1 ?_
      intro V hx hfr
      have HB : Hid (Below W0.heap.size W0 V) := HB.out.trans (hfr.below HB.out.size (fun k hk => by rw [List.mem_singleton.1 hk]; exact HN.out.2))
      have HO : Hid (SvOw W0.heap.size V ns p' A) := HO.out.offF HN.out.1 hfr
      have HX : Hid (V.heap[bn]? = some (.cells #[.int .i64 ns.nu, .int .i64 ns.a, .int .i64 ns.b, .slice p'.pa ns.pn p'.pc, .slice p'.ha ns.hn p'.hc] 35 (0, 0)) ∧ W0.heap.size ≤ bn) := ⟨hx, HN.out.2⟩
      clear hx hfr HN
      refine hK.out _ _ (SR.out V HB.out) (fun _ => ?_)
      clear hK K
      try simp only [Act.put]
      refine wpAnyH_take (i := 14) (oi := { dst := some 11, op := Go.Op.assign (Go.Operand.tmp 31), type := 39, pos := "state.go:127", after := #[{ on := 11, ground := Go.Ground.data }, { on := 13, ground := Go.Ground.chain }, { on := 0, ground := Go.Ground.phase }, { on := 1, ground := Go.Ground.phase }, { on := 2, ground := Go.Ground.phase }, { on := 3, ground := Go.Ground.phase }, { on := 4, ground := Go.Ground.phase }, { on := 5, ground := Go.Ground.phase }, { on := 6, ground := Go.Ground.phase }, { on := 7, ground := Go.Ground.phase }, { on := 8, ground := Go.Ground.phase }, { on := 9, ground := Go.Ground.phase }, { on := 10, ground := Go.Ground.phase }, { on := 11, ground := Go.Ground.phase }, { on := 12, ground := Go.Ground.phase }, { on := 13, ground := Go.Ground.phase }], guard := none }) (v := ?_) rfl (by kernel_rfl) (by kernel_rfl) (by kernel_rfl) (fun _ _ _ h => h) (Or.inl ⟨by rfl, ?_⟩) (by assumption) ?_
      rotate_left
      · intro wz hSw; (try dsimp only at hSw); go_simp; (try with_reducible rfl)
      try simp only [Act.put, List.setIfInBounds_toArray, List.set_cons_zero, List.set_cons_succ]
      refine wpAnyH_done (by kernel_rfl) (NoPanic.normal ?_) _
      try simp only [Act.put, List.setIfInBounds_toArray, List.set_cons_zero, List.set_cons_succ]
      clear hHeld S0
      obtain ⟨c0, c1, c2, c3, c4, cf⟩ := five_of HX.out.1
      go_wp2_with fail
      have S2 : V.drew.rangeAt (w.heap.size + 1) 0 (hdl y ka kc) ∧ V.drew.cell? ⟨bn, 4, none⟩ = some (.slice p'.ha ns.hn p'.hc) := ⟨(SR.out V HB.out).2.1, c4⟩
      have HBd : Hid (Below V.heap.size V V.drew) := (Below.refl _ V).drew
      refine wp_region_noPanic ?_
      refine wp_region_K (S := fun u => u.rangeAt (w.heap.size + 1) 0 (hdl y ka kc) ∧ u.cell? ⟨bn, 4, none⟩ = some (.slice p'.ha ns.hn p'.hc)) 8 (by kernel_rfl) S2 (fun hHeld => ?_)
      clear c0 c1 c2 c3 c4 cf
      have HX : Hid (V.drew.heap[bn]? = some (.cells #[.int .i64 ns.nu, .int .i64 ns.a, .int .i64 ns.b, .slice p'.pa ns.pn p'.pc, .slice p'.ha ns.hn p'.hc] 35 (0, 0)) ∧ W0.heap.size ≤ bn) := HX.out
      have HO : Hid (SvOw W0.heap.size V.drew ns p' A) := HO.out.below HBd.out
      have HB : Hid (Below W0.heap.size W0 V.drew) := HB.out.drew
      clear HBd
      generalize V.drew = Vd at *
      refine wpAnyK_take (by kernel_rfl) (i := 0) (oi := { dst := some 36, op := Go.Op.fieldAddr 35 (Go.Operand.tmp 10) 3, type := 0, pos := "state.go:131", after := #[], guard := none }) (v := ?_) rfl (by kernel_rfl) (by kernel_rfl) (by kernel_rfl) (fun _ _ _ h => h) (Or.inl ⟨by rfl, ?_⟩) (by assumption) ?_
      rotate_left
      · intro wz hSw; (try dsimp only at hSw); go_simp; (try with_reducible rfl)
      try simp only [Act.put, List.setIfInBounds_toArray, List.set_cons_zero, List.set_cons_succ]
      refine wpAnyK_take (by kernel_rfl) (i := 1) (oi := { dst := some 37, op := Go.Op.load 33 (Go.Operand.tmp 36), type := 33, pos := "state.go:131", after := #[{ on := 0, ground := Go.Ground.data }], guard := none }) (v := ?_) rfl (by kernel_rfl) (by kernel_rfl) (by kernel_rfl) (fun _ _ _ h => h) (Or.inl ⟨by rfl, ?_⟩) (by assumption) ?_
      rotate_left
      · intro wz hSw; (try dsimp only at hSw); go_simp; (try with_reducible rfl)
      try simp only [Act.put, List.setIfInBounds_toArray, List.set_cons_zero, List.set_cons_succ]
      refine wpAnyK_take (by kernel_rfl) (i := 2) (oi := { dst := some 38, op := Go.Op.move (Go.Operand.tmp 8), type := 3, pos := "state.go:131", after := #[], guard := none }) (v := ?_) rfl (by kernel_rfl) (by kernel_rfl) (by kernel_rfl) (fun _ _ _ h => h) (Or.inl ⟨by rfl, ?_⟩) (by assumption) ?_
      rotate_left
      · intro wz hSw; (try dsimp only at hSw); go_simp; (try with_reducible rfl)
      try simp only [Act.put, List.setIfInBounds_toArray, List.set_cons_zero, List.set_cons_succ]
      refine wpAnyK_take (by kernel_rfl) (i := 3) (oi := { dst := some 39, op := Go.Op.load 37 (Go.Operand.tmp 5), type := 37, pos := "state.go:131", after := #[], guard := none }) rfl (by kernel_rfl) (by kernel_rfl) (by kernel_rfl) (fun _ _ _ h => h) (yieldsIf_load_mid (by rfl) _ _ rfl (w.heap.size + 1) 0 rfl (hdl y ka kc) _ (fun _ h => h.1) Tryd.underlying37 rfl szH) (by assumption) ?_
      try simp only [Act.put, List.setIfInBounds_toArray, List.set_cons_zero, List.set_cons_succ]
      refine wpAnyK_ready (rs := [4]) (by kernel_rfl) (by simp) ?_
      refine (AllReadyK.cons (o := { dst := some 40, op := Go.Op.call { callee := Go.Callee.value (Go.Operand.func 24), args := #[Go.Operand.tmp 39], argTypes := #[37] }, type := 37, pos := "state.go:131", after := #[{ on := 3, ground := Go.Ground.data }], guard := none }) rfl (fun K hK => ?_) AllReadyK.nil)
      go_simp
      refine (HCL.out Vd HB.out).mono ?_
      rintro e V1 ⟨ka', kc', rfl, hok, hb1⟩
      have HB1 : Hid (Below W0.heap.size W0 V1) := Below.transS HB.out hb1
      have HX1 : Hid (V1.heap[bn]? = some (.cells #[.int .i64 ns.nu, .int .i64 ns.a, .int .i64 ns.b, .slice p'.pa ns.pn p'.pc, .slice p'.ha ns.hn p'.hc] 35 (0, 0)) ∧ W0.heap.size ≤ bn) := ⟨by rw [hb1.block _ (lt_of_block HX.out.1)]; exact HX.out.1, HX.out.2⟩
      have HO1 : Hid (SvOw W0.heap.size V1 ns p' A ∧ V1.ownsRow W0.heap.size 3 1 (.slice ka' y.n kc') y.n (kL y)) := ⟨HO.out.below hb1, own_low hok HB.out.size⟩
      have S3 : V1.rangeAt (w.heap.size + 1) 0 (hdl y ka kc) ∧ V1.cell? ⟨bn, 4, none⟩ = some (.slice p'.ha ns.hn p'.hc) := ⟨(SR.out V1 HB1.out).2.1, (five_of HX1.out.1).c4⟩
      refine hK.out _ _ (fun _ => S3) (fun _ => ?_)
      clear hK K hok hb1 S2 HB HX HO S3
      try simp only [Act.put, List.setIfInBounds_toArray, List.set_cons_zero, List.set_cons_succ]
      refine wpAnyK_ready (rs := [5]) (by kernel_rfl) (by simp) ?_
      refine (AllReadyK.cons (o := { dst := some 41, op := Go.Op.buildSlice 33 1 #[(0, Go.Operand.tmp 40)], type := 33, pos := "state.go:131", after := #[{ on := 4, ground := Go.Ground.data }], guard := none }) rfl (fun K hK => ?_) AllReadyK.nil)
      refine step_sliceHQ rfl (.tmp 40) rfl y ka' kc' (by rfl) ?_
      intro q V2 hq hle hb2
      have H2 : Hid (V2.heap[q]? = some (.cells (hdv y ka' kc') 37 (0, 0)) ∧ V1.heap.size ≤ q) := ⟨hq, hle⟩
      have HB2 : Hid (Below W0.heap.size W0 V2) := Below.transS HB1.out hb2
      have HX2 : Hid (V2.heap[bn]? = some (.cells #[.int .i64 ns.nu, .int .i64 ns.a, .int .i64 ns.b, .slice p'.pa ns.pn p'.pc, .slice p'.ha ns.hn p'.hc] 35 (0, 0)) ∧ W0.heap.size ≤ bn) := ⟨by rw [hb2.block _ (lt_of_block HX1.out.1)]; exact HX1.out.1, HX1.out.2⟩
      have HO2 : Hid (SvOw W0.heap.size V2 ns p' A ∧ V2.ownsRow W0.heap.size 3 1 (.slice ka' y.n kc') y.n (kL y) ∧ ∀ g, (Value.slice p'.ha ns.hn p'.hc).ownBlock = some g → g < V1.heap.size) := ⟨HO1.out.1.below hb2, own_below HO1.out.2 hb2, fun g e => (HO1.out.1.hd.lt g e).2⟩
      have S3 : V2.rangeAt (w.heap.size + 1) 0 (hdl y ka kc) ∧ V2.cell? ⟨bn, 4, none⟩ = some (.slice p'.ha ns.hn p'.hc) := ⟨(SR.out V2 HB2.out).2.1, (five_of HX2.out.1).c4⟩
      refine hK.out _ _ (fun _ => S3) (fun _ => ?_)
      clear hK K hq hle hb2 S3 HB1 HX1 HO1
      try simp only [Act.put, List.setIfInBounds_toArray, List.set_cons_zero, List.set_cons_succ]
      refine wpAnyK_ready (rs := [6]) (by kernel_rfl) (by simp) ?_
      refine (AllReadyK.cons (o := { dst := some 42, op := Go.Op.call { callee := Go.Callee.value (Go.Operand.func 23), args := #[Go.Operand.tmp 37, Go.Operand.tmp 38, Go.Operand.tmp 41], argTypes := #[33, 3, 33] }, type := 33, pos := "state.go:131", after := #[{ on := 1, ground := Go.Ground.data }, { on := 2, ground := Go.Ground.data }, { on := 5, ground := Go.Ground.data }, { on := 4, ground := Go.Ground.chain }], guard := none }) rfl (fun K hK => ?_) AllReadyK.nil)
      go_simp
      have hins := insH_any W0.heap.size p'.ha ns.hn p'.hc i q (hf ns.H A) (hdl y ka' kc') V2 HO2.out.1.hd HB2.out.size HIN.out (hf_len _ _ _) (hf_one _ _ _) H2.out.1 (fun e => by have h1 := HO2.out.2.2 _ e; have h2 := H2.out.2; omega) rfl (hdl_one y ka' kc') (by omega)
      refine hins.mono ?_
      rintro e V3 ⟨va, vc, rfl, hrow, hgr⟩
      have HO3 : Hid (SvOw W0.heap.size V3 (keepY ns i y) ⟨p'.pa, p'.pc, va, vc⟩ (insG A i (ka', kc'))) := HO2.out.1.pushK HIN.out HO2.out.2.1 hrow hgr
      have hr2 : V2.heap[w.heap.size + 2]? = some (.cells #[.int .i64 0, .int .i64 0, .int .i64 0, .slice none 0 0, .slice none 0 0] 35 (0, 0)) := by rw [HB2.out.block _ (lt_of_block HR.out.2.2.1)]; exact HR.out.2.2.1
      have hx3 : V3.heap[bn]? = some (.cells #[.int .i64 ns.nu, .int .i64 ns.a, .int .i64 ns.b, .slice p'.pa ns.pn p'.pc, .slice p'.ha ns.hn p'.hc] 35 (0, 0)) := by rw [hgr.block bn (lt_of_block HX2.out.1) (fun e => own_neS HO2.out.1.hd HX2.out.1 (by decide) e.symm)]; exact HX2.out.1
      have hr3 : V3.heap[w.heap.size + 2]? = some (.cells #[.int .i64 0, .int .i64 0, .int .i64 0, .slice none 0 0, .slice none 0 0] 35 (0, 0)) := by rw [hgr.block _ (lt_of_block hr2) (fun e => own_neS HO2.out.1.hd hr2 (by decide) e.symm)]; exact hr2
      have HB3 : Hid (Below W0.heap.size W0 V3) := grown_below HO2.out.1.hd hgr HB2.out (Nat.le_refl _)
      have HNB : Hid (w.heap.size + 2 ≠ bn ∧ w.heap.size + 3 ≤ bn) := by have h1 := HX2.out.2; have h2 := HR.out.2.2.2; exact ⟨by omega, by omega⟩
      have HX3 : Hid (V3.heap[bn]? = some (.cells #[.int .i64 ns.nu, .int .i64 ns.a, .int .i64 ns.b, .slice p'.pa ns.pn p'.pc, .slice p'.ha ns.hn p'.hc] 35 (0, 0)) ∧ V3.heap[w.heap.size + 2]? = some (.cells #[.int .i64 0, .int .i64 0, .int .i64 0, .slice none 0 0, .slice none 0 0] 35 (0, 0))) := ⟨hx3, hr3⟩
      have S3 : V3.rangeAt (w.heap.size + 1) 0 (hdl y ka kc) ∧ V3.cell? ⟨bn, 4, none⟩ = some (.slice p'.ha ns.hn p'.hc) := ⟨(SR.out V3 HB3.out).2.1, (five_of hx3).c4⟩
      refine hK.out _ _ (fun _ => S3) (fun _ => ?_)
      clear hK K hins hrow hgr HO2 HX2 HB2 H2 hr2 hr3
      try simp only [Act.put, List.setIfInBounds_toArray, List.set_cons_zero, List.set_cons_succ]
      refine wpAnyK_take (by kernel_rfl) (i := 7) (oi := { dst := some 43, op := Go.Op.fieldAddr 35 (Go.Operand.tmp 10) 3, type := 0, pos := "state.go:131", after := #[{ on := 0, ground := Go.Ground.phase }, { on := 1, ground := Go.Ground.phase }, { on := 2, ground := Go.Ground.phase }, { on := 3, ground := Go.Ground.phase }, { on := 4, ground := Go.Ground.phase }, { on := 5, ground := Go.Ground.phase }, { on := 6, ground := Go.Ground.phase }], guard := none }) (v := ?_) rfl (by kernel_rfl) (by kernel_rfl) (by kernel_rfl) (fun _ _ _ h => h) (Or.inl ⟨by rfl, ?_⟩) (by assumption) ?_
      rotate_left
      · intro wz hSw; (try dsimp only at hSw); go_simp; (try with_reducible rfl)
      try simp only [Act.put, List.setIfInBounds_toArray, List.set_cons_zero, List.set_cons_succ]
      clear S3
      obtain ⟨c0, c1, c2, c3, c4, cf⟩ := five_of hx3
      clear hx3
      refine wpAnyK_ready (rs := [8]) (by kernel_rfl) (by simp) ?_
      refine (AllReadyK.cons (o := { dst := none, op := Go.Op.store 33 (Go.Operand.tmp 43) (Go.Operand.tmp 42), type := 0, pos := "state.go:131", after := #[{ on := 7, ground := Go.Ground.data }, { on := 6, ground := Go.Ground.data }, { on := 6, ground := Go.Ground.chain }, { on := 0, ground := Go.Ground.phase }, { on := 1, ground := Go.Ground.phase }, { on := 2, ground := Go.Ground.phase }, { on := 3, ground := Go.Ground.phase }, { on := 4, ground := Go.Ground.phase }, { on := 5, ground := Go.Ground.phase }, { on := 6, ground := Go.Ground.phase }], guard := none }) rfl (fun K hK => ?_) AllReadyK.nil)
      go_simp
      refine hK.out _ _ (fun h => absurd rfl h) (fun _ => ?_)
      clear hK K
      try simp only [Act.put]
      refine wpAnyK_done (by kernel_rfl) (NoPanic.normal ?_) _
      try simp only [Act.put, List.setIfInBounds_toArray, List.set_cons_zero, List.set_cons_succ]
      clear hHeld
      have hr3 := HX3.out.2
      obtain ⟨d0, d1, d2, d3, d4, df⟩ := five_of hr3
      clear hr3
      have hnb : w.heap.size + 2 < bn := HNB.out.2
      go_wp2
      clear hnb
      have hw2 : (V3.setCell ⟨bn, 4, none⟩ (.slice va (ns.hn + 1) vc)).heap[w.heap.size + 2]? = some (.cells #[.int .i64 0, .int .i64 0, .int .i64 0, .slice none 0 0, .slice none 0 0] 35 (0, 0)) := by rw [Below.heap_setCell _ _ _ _ (by exact HNB.out.1)]; exact HX3.out.2
      refine bodyPost_ret (results_S2 Tryd.results8 _ _ (w.heap.size + 2) 35 _ _ _ _ _ (0, 0) rfl (five_all hw2)) rfl ⟨⟨i, th, HF.out, .inr ⟨HNE.out, ⟨p'.pa, p'.pc, va, vc⟩, insG A i (ka', kc'), by rw [HNS.out]; rfl, ?_⟩⟩, five_below ((HB0.out.trans (HB3.out.mono HB0.out.size)).setCell (by have := HNB.out.2; show w.heap.size ≤ bn; omega) _) (by omega)⟩
      rw [HNS.out]
      exact (((HO3.out.off HX3.out.1 (fun k hk => Below.heap_setCell _ _ _ _ (by exact hk))).off hw2 (fun k hk => five_other hk)).low HB0.out.size)
  · have HAS : Hid (∀ u, Below W0.heap.size W0 u → Calls Tryd.prog 21 #[.agg (svv s p), .int .i64 f, .int .i64 y.am, .bool can, .bool th] u fun e w' => e = .returned (.tuple #[.agg #[.int .i64 0, .int .i64 0, .int .i64 0, .slice none 0 0, .slice none 0 0], .iface 71 (.int .i64 (keepE s f y th))]) ∧ Below u.heap.size u w') := fun u hb => by
      have := aside_bad s p f y.am can th u (HV.out.below hb) HY.out (by rw [← HCN.out]; exact hne)
      rw [← HCN.out] at this ⊢
      rw [show asideE s f y.am (decide (HsOk (fun _ => y) 1)) th = keepE s f y th from rfl, errV_ne hne] at this
      exact this
    have HE : Hid (errV (keepE s f y th) = .iface 71 (.int .i64 (keepE s f y th)) ∧ keepE s f y th ≠ 0) := ⟨errV_ne hne, hne⟩
    clear hne
    generalize hWd : W1.drew = Wd at S0 HB
    refine wp_region_noPanic ?_
    refine wp_region_held_drew (S := fun u => u.rangeAt w.heap.size 0 (svq s p) ∧ u.rangeAt (w.heap.size + 1) 0 (hdl y ka kc) ∧ u.cell? ⟨w.heap.size + 1, 1, none⟩ = some (.int .i64 y.am)) (by kernel_rfl) (by rw [hWd]; exact S0) (fun hHeld => ?_)
    rw [hWd] at hHeld ⊢
    clear hWd
    clear W1
    generalize Wd = W1 at *
    refine wpAnyH_take (i := 0) (oi := { dst := some 21, op := Go.Op.load 35 (Go.Operand.tmp 3), type := 35, pos := "state.go:127", after := #[], guard := none }) rfl (by kernel_rfl) (by kernel_rfl) (by kernel_rfl) (fun _ _ _ h => h) (yieldsIf_load_mid (by rfl) _ _ rfl w.heap.size 0 rfl (svq s p) _ (fun _ h => h.1) Tryd.underlying35 rfl szS) (by assumption) ?_
    try simp only [Act.put, List.setIfInBounds_toArray, List.set_cons_zero, List.set_cons_succ]
    refine wpAnyH_take (i := 1) (oi := { dst := some 22, op := Go.Op.move (Go.Operand.tmp 1), type := 3, pos := "state.go:127", after := #[], guard := none }) (v := ?_) rfl (by kernel_rfl) (by kernel_rfl) (by kernel_rfl) (fun _ _ _ h => h) (Or.inl ⟨by rfl, ?_⟩) (by assumption) ?_
    rotate_left
    · intro wz hSw; (try dsimp only at hSw); go_simp; (try with_reducible rfl)
    try simp only [Act.put, List.setIfInBounds_toArray, List.set_cons_zero, List.set_cons_succ]
    refine wpAnyH_take (i := 2) (oi := { dst := some 23, op := Go.Op.fieldAddr 37 (Go.Operand.tmp 5) 1, type := 0, pos := "state.go:127", after := #[], guard := none }) (v := ?_) rfl (by kernel_rfl) (by kernel_rfl) (by kernel_rfl) (fun _ _ _ h => h) (Or.inl ⟨by rfl, ?_⟩) (by assumption) ?_
    rotate_left
    · intro wz hSw; (try dsimp only at hSw); go_simp; (try with_reducible rfl)
    try simp only [Act.put, List.setIfInBounds_toArray, List.set_cons_zero, List.set_cons_succ]
    refine wpAnyH_take (i := 3) (oi := { dst := some 24, op := Go.Op.load 3 (Go.Operand.tmp 23), type := 3, pos := "state.go:127", after := #[{ on := 2, ground := Go.Ground.data }], guard := none }) (v := ?_) rfl (by kernel_rfl) (by kernel_rfl) (by kernel_rfl) (fun _ _ _ h => h) (Or.inl ⟨by rfl, ?_⟩) (by assumption) ?_
    rotate_left
    · intro wz hSw; (try dsimp only at hSw); go_simp; (try with_reducible rfl)
    try simp only [Act.put, List.setIfInBounds_toArray, List.set_cons_zero, List.set_cons_succ]
    refine wpAnyH_take (i := 4) (oi := { dst := some 25, op := Go.Op.load 37 (Go.Operand.tmp 5), type := 37, pos := "state.go:127", after := #[], guard := none }) rfl (by kernel_rfl) (by kernel_rfl) (by kernel_rfl) (fun _ _ _ h => h) (yieldsIf_load_mid (by rfl) _ _ rfl (w.heap.size + 1) 0 rfl (hdl y ka kc) _ (fun _ h => h.2.1) Tryd.underlying37 rfl szH) (by assumption) ?_
    try simp only [Act.put, List.setIfInBounds_toArray, List.set_cons_zero, List.set_cons_succ]
    refine wpAnyH_take (i := 7) (oi := { dst := some 28, op := Go.Op.move (Go.Operand.tmp 9), type := 4, pos := "state.go:127", after := #[], guard := none }) (v := ?_) rfl (by kernel_rfl) (by kernel_rfl) (by kernel_rfl) (fun _ _ _ h => h) (Or.inl ⟨by rfl, ?_⟩) (by assumption) ?_
    rotate_left
    · intro wz hSw; (try dsimp only at hSw); go_simp; (try with_reducible rfl)
    try simp only [Act.put, List.setIfInBounds_toArray, List.set_cons_zero, List.set_cons_succ]
    refine wpAnyH_ready (rs := [5, 12]) (by kernel_rfl) (by simp) ?_
    refine (AllReadyH.cons (o := { dst := some 26, op := Go.Op.buildSlice 33 1 #[(0, Go.Operand.tmp 25)], type := 33, pos := "state.go:127", after := #[{ on := 4, ground := Go.Ground.data }], guard := none }) rfl (fun K hK => ?_) (AllReadyH.cons (o := { dst := some 10, op := Go.Op.alloc 35, type := 0, pos := "state.go:127", after := #[], guard := none }) rfl (fun K hK => ?_) AllReadyH.nil))
    · refine step_sliceHQ rfl (.tmp 25) rfl y ka kc (by rfl) ?_
      intro qs u1 hq hle hb
      have HB : Hid (Below W0.heap.size W0 u1) := Below.transS HB.out hb
      have HQ : Hid (HdAt u1 (some ⟨qs, 0, none⟩) 1 (fun _ => y)) := one_hd hq (HI.out.1.below HB.out) HI.out.2.1
      clear hq hle
      clear hb
      refine hK.out _ _ (SR.out u1 HB.out) (fun _ => ?_)
      clear hK K
      try simp only [Act.put, List.setIfInBounds_toArray, List.set_cons_zero, List.set_cons_succ]
      refine wpAnyH_ready (rs := [6, 12]) (by kernel_rfl) (by simp) ?_
      refine (AllReadyH.cons (o := { dst := some 27, op := Go.Op.call { callee := Go.Callee.value (Go.Operand.func 22), args := #[Go.Operand.tmp 26], argTypes := #[33] }, type := 4, pos := "state.go:127", after := #[{ on := 5, ground := Go.Ground.data }], guard := none }) rfl (fun K hK => ?_) (AllReadyH.cons (o := { dst := some 10, op := Go.Op.alloc 35, type := 0, pos := "state.go:127", after := #[], guard := none }) rfl (fun K hK => ?_) AllReadyH.nil))
      · go_simp
        refine (HMW.out qs u1 HQ.out).mono ?_
        rintro e u2 ⟨rfl, hb⟩
        have HB : Hid (Below W0.heap.size W0 u2) := Below.transS HB.out hb
        have HQ : Hid (HdAt u2 (some ⟨qs, 0, none⟩) 1 (fun _ => y)) := HQ.out.below hb
        clear hb
        refine hK.out _ _ (SR.out u2 HB.out) (fun _ => ?_)
        clear hK K
        try simp only [Act.put, List.setIfInBounds_toArray, List.set_cons_zero, List.set_cons_succ]
        refine wpAnyH_ready (rs := [8, 12]) (by kernel_rfl) (by simp) ?_
        refine (AllReadyH.cons (o := { dst := some 29, op := Go.Op.call { callee := Go.Callee.value (Go.Operand.func 21), args := #[Go.Operand.tmp 21, Go.Operand.tmp 22, Go.Operand.tmp 24, Go.Operand.tmp 27, Go.Operand.tmp 28], argTypes := #[35, 3, 3, 4, 4] }, type := 40, pos := "state.go:127", after := #[{ on := 0, ground := Go.Ground.data }, { on := 1, ground := Go.Ground.data }, { on := 3, ground := Go.Ground.data }, { on := 6, ground := Go.Ground.data }, { on := 7, ground := Go.Ground.data }, { on := 6, ground := Go.Ground.chain }], guard := none }) rfl (fun K hK => ?_) (AllReadyH.cons (o := { dst := some 10, op := Go.Op.alloc 35, type := 0, pos := "state.go:127", after := #[], guard := none }) rfl (fun K hK => ?_) AllReadyH.nil))
        · go_simp
          refine (HAS.out u2 HB.out).mono ?_
          rintro e u3 ⟨rfl, hb⟩
          have HBP : Hid (Below W0.heap.size W0 u2) := HB.out
          have HB : Hid (Below W0.heap.size W0 u3) := Below.transS HB.out hb
          have HQ : Hid (HdAt u3 (some ⟨qs, 0, none⟩) 1 (fun _ => y)) := HQ.out.below hb
          clear hb
          refine hK.out _ _ (SR.out u3 HB.out) (fun _ => ?_)
          clear hK K
          try simp only [Act.put, List.setIfInBounds_toArray, List.set_cons_zero, List.set_cons_succ]
          refine wpAnyH_take (i := 9) (oi := { dst := some 20, op := Go.Op.move (Go.Operand.tmp 29), type := 40, pos := "state.go:127", after := #[{ on := 8, ground := Go.Ground.data }], guard := none }) (v := ?_) rfl (by kernel_rfl) (by kernel_rfl) (by kernel_rfl) (fun _ _ _ h => h) (Or.inl ⟨by rfl, ?_⟩) (by assumption) ?_
          rotate_left
          · intro wz hSw; (try dsimp only at hSw); go_simp; (try with_reducible rfl)
          try simp only [Act.put, List.setIfInBounds_toArray, List.set_cons_zero, List.set_cons_succ]
          refine wpAnyH_take (i := 10) (oi := { dst := some 30, op := Go.Op.extract (Go.Operand.tmp 20) 0, type := 35, pos := "state.go:127", after := #[{ on := 9, ground := Go.Ground.data }], guard := none }) (v := ?_) rfl (by kernel_rfl) (by kernel_rfl) (by kernel_rfl) (fun _ _ _ h => h) (Or.inl ⟨by rfl, ?_⟩) (by assumption) ?_
          rotate_left
          · intro wz hSw; (try dsimp only at hSw); go_simp; (try with_reducible rfl)
          try simp only [Act.put, List.setIfInBounds_toArray, List.set_cons_zero, List.set_cons_succ]
          refine wpAnyH_take (i := 11) (oi := { dst := some 31, op := Go.Op.extract (Go.Operand.tmp 20) 1, type := 39, pos := "state.go:127", after := #[{ on := 9, ground := Go.Ground.data }, { on := 13, ground := Go.Ground.gcOnly Go.Departure.lateStores }], guard := none }) (v := ?_) rfl (by kernel_rfl) (by kernel_rfl) (by kernel_rfl) (fun _ _ _ h => h) (Or.inl ⟨by rfl, ?_⟩) (by assumption) ?_
          rotate_left
          · intro wz hSw; (try dsimp only at hSw); go_simp; (try with_reducible rfl)
          try simp only [Act.put, List.setIfInBounds_toArray, List.set_cons_zero, List.set_cons_succ]
          refine wpAnyH_ready (rs := [12]) (by kernel_rfl) (by simp) ?_
          refine (AllReadyH.cons (o := { dst := some 10, op := Go.Op.alloc 35, type := 0, pos := "state.go:127", after := #[], guard := none }) rfl (fun K hK => ?_) AllReadyH.nil)
          refine step_allocS rfl rfl ?_
          intro bn u4 hq hle hb
          have HBP : Hid (Below W0.heap.size W0 u3) := HB.out
          have HB : Hid (Below W0.heap.size W0 u4) := Below.transS HB.out hb
          have HQ : Hid (HdAt u4 (some ⟨qs, 0, none⟩) 1 (fun _ => y)) := HQ.out.below hb
          have HN : Hid (u4.heap[bn]? = some (.cells #[.int .i64 0, .int .i64 0, .int .i64 0, .slice none 0 0, .slice none 0 0] 35 (0, 0)) ∧ W0.heap.size ≤ bn) := ⟨hq, by have := HBP.out.size; omega⟩
          clear hq hle
          clear hb
          refine hK.out _ _ (SR.out u4 HB.out) (fun _ => ?_)
          clear hK K
          try simp only [Act.put, List.setIfInBounds_toArray, List.set_cons_zero, List.set_cons_succ]
          refine wpAnyH_ready (rs := [13]) (by kernel_rfl) (by simp) ?_
          refine (AllReadyH.cons (o := { dst := none, op := Go.Op.store 35 (Go.Operand.tmp 10) (Go.Operand.tmp 30), type := 0, pos := "state.go:127", after := #[{ on := 12, ground := Go.Ground.data }, { on := 10, ground := Go.Ground.data }, { on := 8, ground := Go.Ground.chain }, { on := 0, ground := Go.Ground.phase }, { on := 1, ground := Go.Ground.phase }, { on := 2, ground := Go.Ground.phase }, { on := 3, ground := Go.Ground.phase }, { on := 4, ground := Go.Ground.phase }, { on := 5, ground := Go.Ground.phase }, { on := 6, ground := Go.Ground.phase }, { on := 7, ground := Go.Ground.phase }, { on := 8, ground := Go.Ground.phase }, { on := 9, ground := Go.Ground.phase }, { on := 10, ground := Go.Ground.phase }, { on := 11, ground := Go.Ground.textOnly Go.Departure.lateStores }, { on := 12, ground := Go.Ground.phase }], guard := none }) rfl (fun K hK => ?_) AllReadyH.nil)
          refine step_storeS rfl (.tmp 10) (.tmp 30) rfl bn (by rfl) 0 0 0 none 0 0 none 0 0 (by rfl) HN.out.1 ?_
          intro V hx hfr
          have HB : Hid (Below W0.heap.size W0 V) := HB.out.trans (hfr.below HB.out.size (fun k hk => by rw [List.mem_singleton.1 hk]; exact HN.out.2))
          clear hx hfr HN
          refine hK.out _ _ (SR.out V HB.out) (fun _ => ?_)
          clear hK K
          try simp only [Act.put]
          refine wpAnyH_take (i := 14) (oi := { dst := some 11, op := Go.Op.assign (Go.Operand.tmp 31), type := 39, pos := "state.go:127", after := #[{ on := 11, ground := Go.Ground.data }, { on := 13, ground := Go.Ground.chain }, { on := 0, ground := Go.Ground.phase }, { on := 1, ground := Go.Ground.phase }, { on := 2, ground := Go.Ground.phase }, { on := 3, ground := Go.Ground.phase }, { on := 4, ground := Go.Ground.phase }, { on := 5, ground := Go.Ground.phase }, { on := 6, ground := Go.Ground.phase }, { on := 7, ground := Go.Ground.phase }, { on := 8, ground := Go.Ground.phase }, { on := 9, ground := Go.Ground.phase }, { on := 10, ground := Go.Ground.phase }, { on := 11, ground := Go.Ground.phase }, { on := 12, ground := Go.Ground.phase }, { on := 13, ground := Go.Ground.phase }], guard := none }) (v := ?_) rfl (by kernel_rfl) (by kernel_rfl) (by kernel_rfl) (fun _ _ _ h => h) (Or.inl ⟨by rfl, ?_⟩) (by assumption) ?_
          rotate_left
          · intro wz hSw; (try dsimp only at hSw); go_simp; (try with_reducible rfl)
          try simp only [Act.put, List.setIfInBounds_toArray, List.set_cons_zero, List.set_cons_succ]
          refine wpAnyH_done (by kernel_rfl) (NoPanic.normal ?_) _
          try simp only [Act.put, List.setIfInBounds_toArray, List.set_cons_zero, List.set_cons_succ]
          clear hHeld S0
          have k2 := HB.out.block _ (lt_of_block HR.out.2.2.1)
          rw [HR.out.2.2.1] at k2
          obtain ⟨d0, d1, d2, d3, d4, df⟩ := five_of k2
          have HK : Hid (V.heap[w.heap.size + 2]? = some (.cells #[.int .i64 0, .int .i64 0, .int .i64 0, .slice none 0 0, .slice none 0 0] 35 (0, 0))) := k2
          clear k2
          go_wp2
          exact bodyPost_ret (results_S2 Tryd.results8 _ _ (w.heap.size + 2) 35 _ _ _ _ _ (0, 0) rfl (five_all HK.out)) rfl ⟨⟨i, th, HF.out, .inl ⟨HE.out.2, by rw [HE.out.1]; rfl⟩⟩, five_below (HB0.out.trans (HB.out.mono HB0.out.size)) (by omega)⟩
        · refine step_allocS rfl rfl ?_
          intro bn u5 hq hle hb
          have HBP : Hid (Below W0.heap.size W0 u2) := HB.out
          have HB : Hid (Below W0.heap.size W0 u5) := Below.transS HB.out hb
          have HQ : Hid (HdAt u5 (some ⟨qs, 0, none⟩) 1 (fun _ => y)) := HQ.out.below hb
          have HN : Hid (u5.heap[bn]? = some (.cells #[.int .i64 0, .int .i64 0, .int .i64 0, .slice none 0 0, .slice none 0 0] 35 (0, 0)) ∧ W0.heap.size ≤ bn) := ⟨hq, by have := HBP.out.size; omega⟩
          clear hq hle
          clear hb
          refine hK.out _ _ (SR.out u5 HB.out) (fun _ => ?_)
          clear hK K
          try simp only [Act.put, List.setIfInBounds_toArray, List.set_cons_zero, List.set_cons_succ]
          refine wpAnyH_ready (rs := [8]) (by kernel_rfl) (by simp) ?_
          refine (AllReadyH.cons (o := { dst := some 29, op := Go.Op.call { callee := Go.Callee.value (Go.Operand.func 21), args := #[Go.Operand.tmp 21, Go.Operand.tmp 22, Go.Operand.tmp 24, Go.Operand.tmp 27, Go.Operand.tmp 28], argTypes := #[35, 3, 3, 4, 4] }, type := 40, pos := "state.go:127", after := #[{ on := 0, ground := Go.Ground.data }, { on := 1, ground := Go.Ground.data }, { on := 3, ground := Go.Ground.data }, { on := 6, ground := Go.Ground.data }, { on := 7, ground := Go.Ground.data }, { on := 6, ground := Go.Ground.chain }], guard := none }) rfl (fun K hK => ?_) AllReadyH.nil)
          go_simp
          refine (HAS.out u5 HB.out).mono ?_
          rintro e u6 ⟨rfl, hb⟩
          have HBP : Hid (Below W0.heap.size W0 u5) := HB.out
          have HB : Hid (Below W0.heap.size W0 u6) := Below.transS HB.out hb
          have HQ : Hid (HdAt u6 (some ⟨qs, 0, none⟩) 1 (fun _ => y)) := HQ.out.below hb
          have HN : Hid (u6.heap[bn]? = some (.cells #[.int .i64 0, .int .i64 0, .int .i64 0, .slice none 0 0, .slice none 0 0] 35 (0, 0)) ∧ W0.heap.size ≤ bn) := ⟨by rw [hb.block _ (lt_of_block HN.out.1)]; exact HN.out.1, HN.out.2⟩
          clear hb
          refine hK.out _ _ (SR.out u6 HB.out) (fun _ => ?_)
          clear hK K
          try simp only [Act.put, List.setIfInBounds_toArray, List.set_cons_zero, List.set_cons_succ]
          refine wpAnyH_take (i := 9) (oi := { dst := some 20, op := Go.Op.move (Go.Operand.tmp 29), type := 40, pos := "state.go:127", after := #[{ on := 8, ground := Go.Ground.data }], guard := none }) (v := ?_) rfl (by kernel_rfl) (by kernel_rfl) (by kernel_rfl) (fun _ _ _ h => h) (Or.inl ⟨by rfl, ?_⟩) (by assumption) ?_
          rotate_left
          · intro wz hSw; (try dsimp only at hSw); go_simp; (try with_reducible rfl)
          try simp only [Act.put, List.setIfInBounds_toArray, List.set_cons_zero, List.set_cons_succ]
          refine wpAnyH_take (i := 10) (oi := { dst := some 30, op := Go.Op.extract (Go.Operand.tmp 20) 0, type := 35, pos := "state.go:127", after := #[{ on := 9, ground := Go.Ground.data }], guard := none }) (v := ?_) rfl (by kernel_rfl) (by kernel_rfl) (by kernel_rfl) (fun _ _ _ h => h) (Or.inl ⟨by rfl, ?_⟩) (by assumption) ?_
          rotate_left
          · intro wz hSw; (try dsimp only at hSw); go_simp; (try with_reducible rfl)
          try simp only [Act.put, List.setIfInBounds_toArray, List.set_cons_zero, List.set_cons_succ]
          refine wpAnyH_take (i := 11) (oi := { dst := some 31, op := Go.Op.extract (Go.Operand.tmp 20) 1, type := 39, pos := "state.go:127", after := #[{ on := 9, ground := Go.Ground.data }, { on := 13, ground := Go.Ground.gcOnly Go.Departure.lateStores }], guard := none }) (v := ?_) rfl (by kernel_rfl) (by kernel_rfl) (by kernel_rfl) (fun _ _ _ h => h) (Or.inl ⟨by rfl, ?_⟩) (by assumption) ?_
          rotate_left
          · intro wz hSw; (try dsimp only at hSw); go_simp; (try with_reducible rfl)
          try simp only [Act.put, List.setIfInBounds_toArray, List.set_cons_zero, List.set_cons_succ]
          refine wpAnyH_ready (rs := [13]) (by kernel_rfl) (by simp) ?_
          refine (AllReadyH.cons (o := { dst := none, op := Go.Op.store 35 (Go.Operand.tmp 10) (Go.Operand.tmp 30), type := 0, pos := "state.go:127", after := #[{ on := 12, ground := Go.Ground.data }, { on := 10, ground := Go.Ground.data }, { on := 8, ground := Go.Ground.chain }, { on := 0, ground := Go.Ground.phase }, { on := 1, ground := Go.Ground.phase }, { on := 2, ground := Go.Ground.phase }, { on := 3, ground := Go.Ground.phase }, { on := 4, ground := Go.Ground.phase }, { on := 5, ground := Go.Ground.phase }, { on := 6, ground := Go.Ground.phase }, { on := 7, ground := Go.Ground.phase }, { on := 8, ground := Go.Ground.phase }, { on := 9, ground := Go.Ground.phase }, { on := 10, ground := Go.Ground.phase }, { on := 11, ground := Go.Ground.textOnly Go.Departure.lateStores }, { on := 12, ground := Go.Ground.phase }], guard := none }) rfl (fun K hK => ?_) AllReadyH.nil)
          refine step_storeS rfl (.tmp 10) (.tmp 30) rfl bn (by rfl) 0 0 0 none 0 0 none 0 0 (by rfl) HN.out.1 ?_
          intro V hx hfr
          have HB : Hid (Below W0.heap.size W0 V) := HB.out.trans (hfr.below HB.out.size (fun k hk => by rw [List.mem_singleton.1 hk]; exact HN.out.2))
          clear hx hfr HN
          refine hK.out _ _ (SR.out V HB.out) (fun _ => ?_)
          clear hK K
          try simp only [Act.put]
          refine wpAnyH_take (i := 14) (oi := { dst := some 11, op := Go.Op.assign (Go.Operand.tmp 31), type := 39, pos := "state.go:127", after := #[{ on := 11, ground := Go.Ground.data }, { on := 13, ground := Go.Ground.chain }, { on := 0, ground := Go.Ground.phase }, { on := 1, ground := Go.Ground.phase }, { on := 2, ground := Go.Ground.phase }, { on := 3, ground := Go.Ground.phase }, { on := 4, ground := Go.Ground.phase }, { on := 5, ground := Go.Ground.phase }, { on := 6, ground := Go.Ground.phase }, { on := 7, ground := Go.Ground.phase }, { on := 8, ground := Go.Ground.phase }, { on := 9, ground := Go.Ground.phase }, { on := 10, ground := Go.Ground.phase }, { on := 11, ground := Go.Ground.phase }, { on := 12, ground := Go.Ground.phase }, { on := 13, ground := Go.Ground.phase }], guard := none }) (v := ?_) rfl (by kernel_rfl) (by kernel_rfl) (by kernel_rfl) (fun _ _ _ h => h) (Or.inl ⟨by rfl, ?_⟩) (by assumption) ?_
          rotate_left
          · intro wz hSw; (try dsimp only at hSw); go_simp; (try with_reducible rfl)
          try simp only [Act.put, List.setIfInBounds_toArray, List.set_cons_zero, List.set_cons_succ]
          refine wpAnyH_done (by kernel_rfl) (NoPanic.normal ?_) _
          try simp only [Act.put, List.setIfInBounds_toArray, List.set_cons_zero, List.set_cons_succ]
          clear hHeld S0
          have k2 := HB.out.block _ (lt_of_block HR.out.2.2.1)
          rw [HR.out.2.2.1] at k2
          obtain ⟨d0, d1, d2, d3, d4, df⟩ := five_of k2
          have HK : Hid (V.heap[w.heap.size + 2]? = some (.cells #[.int .i64 0, .int .i64 0, .int .i64 0, .slice none 0 0, .slice none 0 0] 35 (0, 0))) := k2
          clear k2
          go_wp2
          exact bodyPost_ret (results_S2 Tryd.results8 _ _ (w.heap.size + 2) 35 _ _ _ _ _ (0, 0) rfl (five_all HK.out)) rfl ⟨⟨i, th, HF.out, .inl ⟨HE.out.2, by rw [HE.out.1]; rfl⟩⟩, five_below (HB0.out.trans (HB.out.mono HB0.out.size)) (by omega)⟩
      · refine step_allocS rfl rfl ?_
        intro bn u7 hq hle hb
        have HBP : Hid (Below W0.heap.size W0 u1) := HB.out
        have HB : Hid (Below W0.heap.size W0 u7) := Below.transS HB.out hb
        have HQ : Hid (HdAt u7 (some ⟨qs, 0, none⟩) 1 (fun _ => y)) := HQ.out.below hb
        have HN : Hid (u7.heap[bn]? = some (.cells #[.int .i64 0, .int .i64 0, .int .i64 0, .slice none 0 0, .slice none 0 0] 35 (0, 0)) ∧ W0.heap.size ≤ bn) := ⟨hq, by have := HBP.out.size; omega⟩
        clear hq hle
        clear hb
        refine hK.out _ _ (SR.out u7 HB.out) (fun _ => ?_)
        clear hK K
        try simp only [Act.put, List.setIfInBounds_toArray, List.set_cons_zero, List.set_cons_succ]
        refine wpAnyH_ready (rs := [6]) (by kernel_rfl) (by simp) ?_
        refine (AllReadyH.cons (o := { dst := some 27, op := Go.Op.call { callee := Go.Callee.value (Go.Operand.func 22), args := #[Go.Operand.tmp 26], argTypes := #[33] }, type := 4, pos := "state.go:127", after := #[{ on := 5, ground := Go.Ground.data }], guard := none }) rfl (fun K hK => ?_) AllReadyH.nil)
        go_simp
        refine (HMW.out qs u7 HQ.out).mono ?_
        rintro e u8 ⟨rfl, hb⟩
        have HB : Hid (Below W0.heap.size W0 u8) := Below.transS HB.out hb
        have HQ : Hid (HdAt u8 (some ⟨qs, 0, none⟩) 1 (fun _ => y)) := HQ.out.below hb
        have HN : Hid (u8.heap[bn]? = some (.cells #[.int .i64 0, .int .i64 0, .int .i64 0, .slice none 0 0, .slice none 0 0] 35 (0, 0)) ∧ W0.heap.size ≤ bn) := ⟨by rw [hb.block _ (lt_of_block HN.out.1)]; exact HN.out.1, HN.out.2⟩
        clear hb
        refine hK.out _ _ (SR.out u8 HB.out) (fun _ => ?_)
        clear hK K
        try simp only [Act.put, List.setIfInBounds_toArray, List.set_cons_zero, List.set_cons_succ]
        refine wpAnyH_ready (rs := [8]) (by kernel_rfl) (by simp) ?_
        refine (AllReadyH.cons (o := { dst := some 29, op := Go.Op.call { callee := Go.Callee.value (Go.Operand.func 21), args := #[Go.Operand.tmp 21, Go.Operand.tmp 22, Go.Operand.tmp 24, Go.Operand.tmp 27, Go.Operand.tmp 28], argTypes := #[35, 3, 3, 4, 4] }, type := 40, pos := "state.go:127", after := #[{ on := 0, ground := Go.Ground.data }, { on := 1, ground := Go.Ground.data }, { on := 3, ground := Go.Ground.data }, { on := 6, ground := Go.Ground.data }, { on := 7, ground := Go.Ground.data }, { on := 6, ground := Go.Ground.chain }], guard := none }) rfl (fun K hK => ?_) AllReadyH.nil)
        go_simp
        refine (HAS.out u8 HB.out).mono ?_
        rintro e u9 ⟨rfl, hb⟩
        have HBP : Hid (Below W0.heap.size W0 u8) := HB.out
        have HB : Hid (Below W0.heap.size W0 u9) := Below.transS HB.out hb
        have HQ : Hid (HdAt u9 (some ⟨qs, 0, none⟩) 1 (fun _ => y)) := HQ.out.below hb
        have HN : Hid (u9.heap[bn]? = some (.cells #[.int .i64 0, .int .i64 0, .int .i64 0, .slice none 0 0, .slice none 0 0] 35 (0, 0)) ∧ W0.heap.size ≤ bn) := ⟨by rw [hb.block _ (lt_of_block HN.out.1)]; exact HN.out.1, HN.out.2⟩
        clear hb
        refine hK.out _ _ (SR.out u9 HB.out) (fun _ => ?_)
        clear hK K
        try simp only [Act.put, List.setIfInBounds_toArray, List.set_cons_zero, List.set_cons_succ]
        refine wpAnyH_take (i := 9) (oi := { dst := some 20, op := Go.Op.move (Go.Operand.tmp 29), type := 40, pos := "state.go:127", after := #[{ on := 8, ground := Go.Ground.data }], guard := none }) (v := ?_) rfl (by kernel_rfl) (by kernel_rfl) (by kernel_rfl) (fun _ _ _ h => h) (Or.inl ⟨by rfl, ?_⟩) (by assumption) ?_
        rotate_left
        · intro wz hSw; (try dsimp only at hSw); go_simp; (try with_reducible rfl)
        try simp only [Act.put, List.setIfInBounds_toArray, List.set_cons_zero, List.set_cons_succ]
        refine wpAnyH_take (i := 10) (oi := { dst := some 30, op := Go.Op.extract (Go.Operand.tmp 20) 0, type := 35, pos := "state.go:127", after := #[{ on := 9, ground := Go.Ground.data }], guard := none }) (v := ?_) rfl (by kernel_rfl) (by kernel_rfl) (by kernel_rfl) (fun _ _ _ h => h) (Or.inl ⟨by rfl, ?_⟩) (by assumption) ?_
        rotate_left
        · intro wz hSw; (try dsimp only at hSw); go_simp; (try with_reducible rfl)
        try simp only [Act.put, List.setIfInBounds_toArray, List.set_cons_zero, List.set_cons_succ]
        refine wpAnyH_take (i := 11) (oi := { dst := some 31, op := Go.Op.extract (Go.Operand.tmp 20) 1, type := 39, pos := "state.go:127", after := #[{ on := 9, ground := Go.Ground.data }, { on := 13, ground := Go.Ground.gcOnly Go.Departure.lateStores }], guard := none }) (v := ?_) rfl (by kernel_rfl) (by kernel_rfl) (by kernel_rfl) (fun _ _ _ h => h) (Or.inl ⟨by rfl, ?_⟩) (by assumption) ?_
        rotate_left
        · intro wz hSw; (try dsimp only at hSw); go_simp; (try with_reducible rfl)
        try simp only [Act.put, List.setIfInBounds_toArray, List.set_cons_zero, List.set_cons_succ]
        refine wpAnyH_ready (rs := [13]) (by kernel_rfl) (by simp) ?_
        refine (AllReadyH.cons (o := { dst := none, op := Go.Op.store 35 (Go.Operand.tmp 10) (Go.Operand.tmp 30), type := 0, pos := "state.go:127", after := #[{ on := 12, ground := Go.Ground.data }, { on := 10, ground := Go.Ground.data }, { on := 8, ground := Go.Ground.chain }, { on := 0, ground := Go.Ground.phase }, { on := 1, ground := Go.Ground.phase }, { on := 2, ground := Go.Ground.phase }, { on := 3, ground := Go.Ground.phase }, { on := 4, ground := Go.Ground.phase }, { on := 5, ground := Go.Ground.phase }, { on := 6, ground := Go.Ground.phase }, { on := 7, ground := Go.Ground.phase }, { on := 8, ground := Go.Ground.phase }, { on := 9, ground := Go.Ground.phase }, { on := 10, ground := Go.Ground.phase }, { on := 11, ground := Go.Ground.textOnly Go.Departure.lateStores }, { on := 12, ground := Go.Ground.phase }], guard := none }) rfl (fun K hK => ?_) AllReadyH.nil)
        refine step_storeS rfl (.tmp 10) (.tmp 30) rfl bn (by rfl) 0 0 0 none 0 0 none 0 0 (by rfl) HN.out.1 ?_
        intro V hx hfr
        have HB : Hid (Below W0.heap.size W0 V) := HB.out.trans (hfr.below HB.out.size (fun k hk => by rw [List.mem_singleton.1 hk]; exact HN.out.2))
        clear hx hfr HN
        refine hK.out _ _ (SR.out V HB.out) (fun _ => ?_)
        clear hK K
        try simp only [Act.put]
        refine wpAnyH_take (i := 14) (oi := { dst := some 11, op := Go.Op.assign (Go.Operand.tmp 31), type := 39, pos := "state.go:127", after := #[{ on := 11, ground := Go.Ground.data }, { on := 13, ground := Go.Ground.chain }, { on := 0, ground := Go.Ground.phase }, { on := 1, ground := Go.Ground.phase }, { on := 2, ground := Go.Ground.phase }, { on := 3, ground := Go.Ground.phase }, { on := 4, ground := Go.Ground.phase }, { on := 5, ground := Go.Ground.phase }, { on := 6, ground := Go.Ground.phase }, { on := 7, ground := Go.Ground.phase }, { on := 8, ground := Go.Ground.phase }, { on := 9, ground := Go.Ground.phase }, { on := 10, ground := Go.Ground.phase }, { on := 11, ground := Go.Ground.phase }, { on := 12, ground := Go.Ground.phase }, { on := 13, ground := Go.Ground.phase }], guard := none }) (v := ?_) rfl (by kernel_rfl) (by kernel_rfl) (by kernel_rfl) (fun _ _ _ h => h) (Or.inl ⟨by rfl, ?_⟩) (by assumption) ?_
        rotate_left
        · intro wz hSw; (try dsimp only at hSw); go_simp; (try with_reducible rfl)
        try simp only [Act.put, List.setIfInBounds_toArray, List.set_cons_zero, List.set_cons_succ]
        refine wpAnyH_done (by kernel_rfl) (NoPanic.normal ?_) _
        try simp only [Act.put, List.setIfInBounds_toArray, List.set_cons_zero, List.set_cons_succ]
        clear hHeld S0
        have k2 := HB.out.block _ (lt_of_block HR.out.2.2.1)
        rw [HR.out.2.2.1] at k2
        obtain ⟨d0, d1, d2, d3, d4, df⟩ := five_of k2
        have HK : Hid (V.heap[w.heap.size + 2]? = some (.cells #[.int .i64 0, .int .i64 0, .int .i64 0, .slice none 0 0, .slice none 0 0] 35 (0, 0))) := k2
        clear k2
        go_wp2
        exact bodyPost_ret (results_S2 Tryd.results8 _ _ (w.heap.size + 2) 35 _ _ _ _ _ (0, 0) rfl (five_all HK.out)) rfl ⟨⟨i, th, HF.out, .inl ⟨HE.out.2, by rw [HE.out.1]; rfl⟩⟩, five_below (HB0.out.trans (HB.out.mono HB0.out.size)) (by omega)⟩
    · refine step_allocS rfl rfl ?_
      intro bn u10 hq hle hb
      have HBP : Hid (Below W0.heap.size W0 W1) := HB.out
      have HB : Hid (Below W0.heap.size W0 u10) := Below.transS HB.out hb
      have HN : Hid (u10.heap[bn]? = some (.cells #[.int .i64 0, .int .i64 0, .int .i64 0, .slice none 0 0, .slice none 0 0] 35 (0, 0)) ∧ W0.heap.size ≤ bn) := ⟨hq, by have := HBP.out.size; omega⟩
      clear hq hle
      clear hb
      refine hK.out _ _ (SR.out u10 HB.out) (fun _ => ?_)
      clear hK K
      try simp only [Act.put, List.setIfInBounds_toArray, List.set_cons_zero, List.set_cons_succ]
      refine wpAnyH_ready (rs := [5]) (by kernel_rfl) (by simp) ?_
      refine (AllReadyH.cons (o := { dst := some 26, op := Go.Op.buildSlice 33 1 #[(0, Go.Operand.tmp 25)], type := 33, pos := "state.go:127", after := #[{ on := 4, ground := Go.Ground.data }], guard := none }) rfl (fun K hK => ?_) AllReadyH.nil)
      refine step_sliceHQ rfl (.tmp 25) rfl y ka kc (by rfl) ?_
      intro qs u11 hq hle hb
      have HB : Hid (Below W0.heap.size W0 u11) := Below.transS HB.out hb
      have HN : Hid (u11.heap[bn]? = some (.cells #[.int .i64 0, .int .i64 0, .int .i64 0, .slice none 0 0, .slice none 0 0] 35 (0, 0)) ∧ W0.heap.size ≤ bn) := ⟨by rw [hb.block _ (lt_of_block HN.out.1)]; exact HN.out.1, HN.out.2⟩
      have HQ : Hid (HdAt u11 (some ⟨qs, 0, none⟩) 1 (fun _ => y)) := one_hd hq (HI.out.1.below HB.out) HI.out.2.1
      clear hq hle
      clear hb
      refine hK.out _ _ (SR.out u11 HB.out) (fun _ => ?_)
      clear hK K
      try simp only [Act.put, List.setIfInBounds_toArray, List.set_cons_zero, List.set_cons_succ]
      refine wpAnyH_ready (rs := [6]) (by kernel_rfl) (by simp) ?_
      refine (AllReadyH.cons (o := { dst := some 27, op := Go.Op.call { callee := Go.Callee.value (Go.Operand.func 22), args := #[Go.Operand.tmp 26], argTypes := #[33] }, type := 4, pos := "state.go:127", after := #[{ on := 5, ground := Go.Ground.data }], guard := none }) rfl (fun K hK => ?_) AllReadyH.nil)
      go_simp
      refine (HMW.out qs u11 HQ.out).mono ?_
      rintro e u12 ⟨rfl, hb⟩
      have HB : Hid (Below W0.heap.size W0 u12) := Below.transS HB.out hb
      have HQ : Hid (HdAt u12 (some ⟨qs, 0, none⟩) 1 (fun _ => y)) := HQ.out.below hb
      have HN : Hid (u12.heap[bn]? = some (.cells #[.int .i64 0, .int .i64 0, .int .i64 0, .slice none 0 0, .slice none 0 0] 35 (0, 0)) ∧ W0.heap.size ≤ bn) := ⟨by rw [hb.block _ (lt_of_block HN.out.1)]; exact HN.out.1, HN.out.2⟩
      clear hb
      refine hK.out _ _ (SR.out u12 HB.out) (fun _ => ?_)
      clear hK K
      try simp only [Act.put, List.setIfInBounds_toArray, List.set_cons_zero, List.set_cons_succ]
      refine wpAnyH_ready (rs := [8]) (by kernel_rfl) (by simp) ?_
      refine (AllReadyH.cons (o := { dst := some 29, op := Go.Op.call { callee := Go.Callee.value (Go.Operand.func 21), args := #[Go.Operand.tmp 21, Go.Operand.tmp 22, Go.Operand.tmp 24, Go.Operand.tmp 27, Go.Operand.tmp 28], argTypes := #[35, 3, 3, 4, 4] }, type := 40, pos := "state.go:127", after := #[{ on := 0, ground := Go.Ground.data }, { on := 1, ground := Go.Ground.data }, { on := 3, ground := Go.Ground.data }, { on := 6, ground := Go.Ground.data }, { on := 7, ground := Go.Ground.data }, { on := 6, ground := Go.Ground.chain }], guard := none }) rfl (fun K hK => ?_) AllReadyH.nil)
      go_simp
      refine (HAS.out u12 HB.out).mono ?_
      rintro e u13 ⟨rfl, hb⟩
      have HBP : Hid (Below W0.heap.size W0 u12) := HB.out
      have HB : Hid (Below W0.heap.size W0 u13) := Below.transS HB.out hb
      have HQ : Hid (HdAt u13 (some ⟨qs, 0, none⟩) 1 (fun _ => y)) := HQ.out.below hb
      have HN : Hid (u13.heap[bn]? = some (.cells #[.int .i64 0, .int .i64 0, .int .i64 0, .slice none 0 0, .slice none 0 0] 35 (0, 0)) ∧ W0.heap.size ≤ bn) := ⟨by rw [hb.block _ (lt_of_block HN.out.1)]; exact HN.out.1, HN.out.2⟩
      clear hb
      refine hK.out _ _ (SR.out u13 HB.out) (fun _ => ?_)
      clear hK K
      try simp only [Act.put, List.setIfInBounds_toArray, List.set_cons_zero, List.set_cons_succ]
      refine wpAnyH_take (i := 9) (oi := { dst := some 20, op := Go.Op.move (Go.Operand.tmp 29), type := 40, pos := "state.go:127", after := #[{ on := 8, ground := Go.Ground.data }], guard := none }) (v := ?_) rfl (by kernel_rfl) (by kernel_rfl) (by kernel_rfl) (fun _ _ _ h => h) (Or.inl ⟨by rfl, ?_⟩) (by assumption) ?_
      rotate_left
      · intro wz hSw; (try dsimp only at hSw); go_simp; (try with_reducible rfl)
      try simp only [Act.put, List.setIfInBounds_toArray, List.set_cons_zero, List.set_cons_succ]
      refine wpAnyH_take (i := 10) (oi := { dst := some 30, op := Go.Op.extract (Go.Operand.tmp 20) 0, type := 35, pos := "state.go:127", after := #[{ on := 9, ground := Go.Ground.data }], guard := none }) (v := ?_) rfl (by kernel_rfl) (by kernel_rfl) (by kernel_rfl) (fun _ _ _ h => h) (Or.inl ⟨by rfl, ?_⟩) (by assumption) ?_
      rotate_left
      · intro wz hSw; (try dsimp only at hSw); go_simp; (try with_reducible rfl)
      try simp only [Act.put, List.setIfInBounds_toArray, List.set_cons_zero, List.set_cons_succ]
      refine wpAnyH_take (i := 11) (oi := { dst := some 31, op := Go.Op.extract (Go.Operand.tmp 20) 1, type := 39, pos := "state.go:127", after := #[{ on := 9, ground := Go.Ground.data }, { on := 13, ground := Go.Ground.gcOnly Go.Departure.lateStores }], guard := none }) (v := ?_) rfl (by kernel_rfl) (by kernel_rfl) (by kernel_rfl) (fun _ _ _ h => h) (Or.inl ⟨by rfl, ?_⟩) (by assumption) ?_
      rotate_left
      · intro wz hSw; (try dsimp only at hSw); go_simp; (try with_reducible rfl)
      try simp only [Act.put, List.setIfInBounds_toArray, List.set_cons_zero, List.set_cons_succ]
      refine wpAnyH_ready (rs := [13]) (by kernel_rfl) (by simp) ?_
      refine (AllReadyH.cons (o := { dst := none, op := Go.Op.store 35 (Go.Operand.tmp 10) (Go.Operand.tmp 30), type := 0, pos := "state.go:127", after := #[{ on := 12, ground := Go.Ground.data }, { on := 10, ground := Go.Ground.data }, { on := 8, ground := Go.Ground.chain }, { on := 0, ground := Go.Ground.phase }, { on := 1, ground := Go.Ground.phase }, { on := 2, ground := Go.Ground.phase }, { on := 3, ground := Go.Ground.phase }, { on := 4, ground := Go.Ground.phase }, { on := 5, ground := Go.Ground.phase }, { on := 6, ground := Go.Ground.phase }, { on := 7, ground := Go.Ground.phase }, { on := 8, ground := Go.Ground.phase }, { on := 9, ground := Go.Ground.phase }, { on := 10, ground := Go.Ground.phase }, { on := 11, ground := Go.Ground.textOnly Go.Departure.lateStores }, { on := 12, ground := Go.Ground.phase }], guard := none }) rfl (fun K hK => ?_) AllReadyH.nil)
      refine step_storeS rfl (.tmp 10) (.tmp 30) rfl bn (by rfl) 0 0 0 none 0 0 none 0 0 (by rfl) HN.out.1 ?_
      intro V hx hfr
      have HB : Hid (Below W0.heap.size W0 V) := HB.out.trans (hfr.below HB.out.size (fun k hk => by rw [List.mem_singleton.1 hk]; exact HN.out.2))
      clear hx hfr HN
      refine hK.out _ _ (SR.out V HB.out) (fun _ => ?_)
      clear hK K
      try simp only [Act.put]
      refine wpAnyH_take (i := 14) (oi := { dst := some 11, op := Go.Op.assign (Go.Operand.tmp 31), type := 39, pos := "state.go:127", after := #[{ on := 11, ground := Go.Ground.data }, { on := 13, ground := Go.Ground.chain }, { on := 0, ground := Go.Ground.phase }, { on := 1, ground := Go.Ground.phase }, { on := 2, ground := Go.Ground.phase }, { on := 3, ground := Go.Ground.phase }, { on := 4, ground := Go.Ground.phase }, { on := 5, ground := Go.Ground.phase }, { on := 6, ground := Go.Ground.phase }, { on := 7, ground := Go.Ground.phase }, { on := 8, ground := Go.Ground.phase }, { on := 9, ground := Go.Ground.phase }, { on := 10, ground := Go.Ground.phase }, { on := 11, ground := Go.Ground.phase }, { on := 12, ground := Go.Ground.phase }, { on := 13, ground := Go.Ground.phase }], guard := none }) (v := ?_) rfl (by kernel_rfl) (by kernel_rfl) (by kernel_rfl) (fun _ _ _ h => h) (Or.inl ⟨by rfl, ?_⟩) (by assumption) ?_
      rotate_left
      · intro wz hSw; (try dsimp only at hSw); go_simp; (try with_reducible rfl)
      try simp only [Act.put, List.setIfInBounds_toArray, List.set_cons_zero, List.set_cons_succ]
      refine wpAnyH_done (by kernel_rfl) (NoPanic.normal ?_) _
      try simp only [Act.put, List.setIfInBounds_toArray, List.set_cons_zero, List.set_cons_succ]
      clear hHeld S0
      have k2 := HB.out.block _ (lt_of_block HR.out.2.2.1)
      rw [HR.out.2.2.1] at k2
      obtain ⟨d0, d1, d2, d3, d4, df⟩ := five_of k2
      have HK : Hid (V.heap[w.heap.size + 2]? = some (.cells #[.int .i64 0, .int .i64 0, .int .i64 0, .slice none 0 0, .slice none 0 0] 35 (0, 0))) := k2
      clear k2
      go_wp2
      exact bodyPost_ret (results_S2 Tryd.results8 _ _ (w.heap.size + 2) 35 _ _ _ _ _ (0, 0) rfl (five_all HK.out)) rfl ⟨⟨i, th, HF.out, .inl ⟨HE.out.2, by rw [HE.out.1]; rfl⟩⟩, five_below (HB0.out.trans (HB.out.mono HB0.out.size)) (by omega)⟩
end Go.Proofs.YtjlobimncpiacaaDoor
