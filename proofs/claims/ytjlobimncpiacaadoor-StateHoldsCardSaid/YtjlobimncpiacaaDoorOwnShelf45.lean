/- The document's Free. -/
import Derived.Test.YtjlobimncpiacaaDoorOwnShelf43
import Derived.Test.YtjlobimncpiacaaDoorOwnShelf44
namespace Go.Proofs.YtjlobimncpiacaaDoor
open Go.RowKit

/-- What the document's Free answers. -/
def RFre (s : Sv) (n k : Int) (e : Ending) (w' : World) : Prop :=
  (¬ Rgt s ∧ e = .returned (.tuple #[.agg #[.int .i64 0, .int .i64 0, .int .i64 0, .slice none 0 0, .slice none 0 0], .int .i64 1])) ∨ (Rgt s ∧ k < 0 ∧ e = .returned (.tuple #[.agg #[.int .i64 0, .int .i64 0, .int .i64 0, .slice none 0 0, .slice none 0 0], .int .i64 8])) ∨
  (Rgt s ∧ ∃ i : Nat, k = i ∧ i < s.hn ∧ ¬ (0 ≤ n ∧ n ≤ (s.H i).am) ∧ e = .returned (.tuple #[.agg #[.int .i64 0, .int .i64 0, .int .i64 0, .slice none 0 0, .slice none 0 0], .int .i64 20])) ∨
  (Rgt s ∧ ∃ i : Nat, k = i ∧ i < s.hn ∧ (0 ≤ n ∧ n ≤ (s.H i).am) ∧ ∃ p', e = .returned (.tuple #[.agg (svv (freS s i n) p'), .int .i64 0]) ∧ SvAt w' (freS s i n) p')
set_option maxRecDepth 100000 in
set_option maxHeartbeats 6400000 in
theorem rfree_any (s : Sv) (p : Pl) (id n : Int) (w : World) (h : SvAt w s p) (hs : s.Small) :
    Calls Tryd.prog 11 #[.agg (svv s p), .int .i64 id, .int .i64 n] w fun e w' => (∃ k, HatR (fun j => (s.H j).id) s.hn id k ∧ RFre s n k e w') ∧ Below w.heap.size w w' := by
  obtain ⟨hn0, hn1, hsz, hb0⟩ := two_new w s p 26 26
  have hc := right_any s p _ (h.below hb0) hs
  have hat := holdAt_any p.ha s.hn p.hc s.H id _ (h.hd.below hb0) (by have := hs.n; omega)
  have HV : Hid (SvAt w s p) := h
  have hsn := hs.n
  clear h hs
  unfold svv sv0 pl0 at hn0 hn1 hsz hb0 hc hat
  unfold svv
  simp only at hn0 hn1 hsz hb0 hc hat
  have k4 := (five_of hn0).c4
  go_enter Tryd.func11, Tryd.ntmps11
  go_wp2_with fail
  generalize ((w.alloc (.cells #[.int .i64 s.nu, .int .i64 s.a, .int .i64 s.b, .slice p.pa s.pn p.pc, .slice p.ha s.hn p.hc] 26)).alloc (.cells #[.int .i64 0, .int .i64 0, .int .i64 0, .slice none 0 0, .slice none 0 0] 26)) = W0 at *
  refine hat.mono ?_
  rintro e w0 ⟨k, hk, rfl, rfl⟩
  have HH : Hid (HatR (fun j => (s.H j).id) s.hn id k) := hk
  clear hat hk k4
  obtain ⟨c0, c1, c2, c3, c4, cf⟩ := five_of hn0
  go_wp2_with fail
  refine hc.mono ?_
  rintro e w1 ⟨rfl, hb1⟩
  have HB : Hid (Below w.heap.size w w1) := hb0.trans (hb1.mono (by omega))
  have k0 := hb1.block _ (show w.heap.size < w0.heap.size by omega)
  rw [hn0] at k0
  have k1 := hb1.block _ (show w.heap.size + 1 < w0.heap.size by omega)
  rw [hn1] at k1
  have hl1 : w.heap.size + 1 < w1.heap.size := by have := hb1.size; omega
  clear hc hb0 hb1 hn0 hn1 hsz c0 c1 c2 c3 c4 cf
  obtain ⟨c0, c1, c2, c3, c4, cf⟩ := five_of k0
  obtain ⟨d0, d1, d2, d3, d4, df⟩ := five_of k1
  have HK : Hid (w1.heap[w.heap.size + 1]? = some (.cells #[.int .i64 0, .int .i64 0, .int .i64 0, .slice none 0 0, .slice none 0 0] 26 (0, 0))) := k1
  have HC : Hid (w1.heap[w.heap.size]? = some (.cells #[.int .i64 s.nu, .int .i64 s.a, .int .i64 s.b, .slice p.pa s.pn p.pc, .slice p.ha s.hn p.hc] 26 (0, 0))) := k0
  clear k0 k1
  by_cases hr : Rgt s
  · rw [decide_eq_true hr]
    have HR : Hid (Rgt s) := hr
    rcases HH.out with ⟨rfl, hno⟩ | ⟨i, rfl, hi, hhit, hfst⟩
    · clear hr hno
      go_wp2
      exact bodyPost_ret (results_R2 Tryd.results11 _ _ (w.heap.size + 1) 26 _ _ _ _ _ (0, 0) rfl (five_all HK.out)) rfl ⟨⟨_, HH.out, .inr (.inl ⟨HR.out, by decide, rfl⟩)⟩, five_below HB.out (by omega)⟩
    · have hi' : (i : Int) < s.hn := by omega
      have hpos : ¬ ((i : Int) < 0) := by omega
      have ham := (hr.1.2.1.2.2 i hi).2.2.1
      have ba := hr.1.1.2.1
      have bb := hr.1.1.2.2
      have E1 : Hid (wrap64 (s.nu + 1) = s.nu + 1) := by show wrap64 (s.nu + 1) = _; have := hr.1.1.1; have := hr.2; simp [wrap64]; omega
      have hhn8 : s.hn ≤ 8 := by have := hr.1.2.1.1; omega
      obtain ⟨A, hsrc, hks⟩ := HV.out.hd.src HV.out.hnil
      have HSR : Hid (Src w p.ha s.hn p.hc (flatL (hf s.H A) s.hn)) := hsrc
      have HKS : Hid (∀ i, i < s.hn → IsAt w (A i).1 (s.H i).n (s.H i).z ∧ ((A i).1 = none → (s.H i).n = 0 ∧ (A i).2 = 0)) := hks
      obtain ⟨b, off, hpa, hrg⟩ := HSR.out.1 (by omega)
      obtain ⟨pa, pc, ha, hc⟩ := p
      dsimp only at *
      subst hpa
      have hri : w.rangeAt b (off + i * 3) (hdl (s.H i) (A i).1 (A i).2) := (flatL_range s.hn (hf_len s.H A s.hn)).1 hrg i hi
      have HRI : Hid (w.rangeAt b (off + i * 3) (hdl (s.H i) (A i).1 (A i).2)) := hri
      obtain ⟨_, x1, _⟩ := hd_cells (range_below hri HB.out)
      have hcap := HV.out.hcap
      dsimp only at hcap
      clear hr hsrc hks hhit hfst hrg hri
      by_cases hn0 : n < 0
      · clear x1
        go_wp2
        exact bodyPost_ret (results_R2 Tryd.results11 _ _ (w.heap.size + 1) 26 _ _ _ _ _ (0, 0) rfl (five_all HK.out)) rfl ⟨⟨_, HH.out, .inr (.inr (.inl ⟨HR.out, i, rfl, hi, by omega, rfl⟩))⟩, five_below HB.out (by omega)⟩
      · by_cases hn1 : (s.H i).am < n
        · go_wp2
          exact bodyPost_ret (results_R2 Tryd.results11 _ _ (w.heap.size + 1) 26 _ _ _ _ _ (0, 0) rfl (five_all HK.out)) rfl ⟨⟨_, HH.out, .inr (.inr (.inl ⟨HR.out, i, rfl, hi, by omega, rfl⟩))⟩, five_below HB.out (by omega)⟩
        · have hok : 0 ≤ n ∧ n ≤ (s.H i).am := ⟨by omega, by omega⟩
          have E2 : Hid (wrap64 (s.a + n) = s.a + n) := by show wrap64 (s.a + n) = s.a + n; simp [wrap64]; omega
          have E3 : Hid (wrap64 (s.b + ((s.H i).am - n)) = s.b + ((s.H i).am - n)) := by show wrap64 (s.b + ((s.H i).am - n)) = _; simp [wrap64]; omega
          have EDI : Hid (IntKind.i64.wrap ((s.H i).am - n) = (s.H i).am - n) := by show IntKind.i64.wrap ((s.H i).am - n) = _; rw [IntKind.wrap_i64]; omega
          have EII : Hid (IntKind.i64.wrap ((i : Int) + 1) = ((i + 1 : Nat) : Int)) := by show IntKind.i64.wrap ((i : Int) + 1) = _; rw [IntKind.wrap_i64]; omega
          go_wp2_with fail
          have S0 : w1.drew.cell? ⟨w.heap.size, 4, none⟩ = some (.slice (some ⟨b, off, none⟩) s.hn hc) := c4
          refine wp_region_noPanic ?_
          refine wp_region_held_drew (S := fun u => u.cell? ⟨w.heap.size, 4, none⟩ = some (.slice (some ⟨b, off, none⟩) s.hn hc)) (by kernel_rfl) S0 (fun hHeld => ?_)
          have HB : Hid (Below w.heap.size w w1.drew) := HB.out.drew
          have HK : Hid (w1.drew.heap[w.heap.size + 1]? = some (.cells #[.int .i64 0, .int .i64 0, .int .i64 0, .slice none 0 0, .slice none 0 0] 26 (0, 0))) := HK.out
          have HC : Hid (w1.drew.heap[w.heap.size]? = some (.cells #[.int .i64 s.nu, .int .i64 s.a, .int .i64 s.b, .slice pa s.pn pc, .slice (some ⟨b, off, none⟩) s.hn hc] 26 (0, 0))) := HC.out
          have hl1 : w.heap.size + 1 < w1.drew.heap.size := hl1
          clear c0 c1 c2 c3 c4 cf d0 d1 d2 d3 d4 df x1
          generalize w1.drew = Wd at *
          obtain ⟨ax, hax⟩ : ∃ ax : Option Addr, (if hc = i + 1 then some (⟨b, off, none⟩ : Addr) else some ⟨b, off + (i + 1) * 3, none⟩) = ax := ⟨_, rfl⟩
          have HAX : Hid ((if hc = i + 1 then some (⟨b, off, none⟩ : Addr) else some ⟨b, off + (i + 1) * 3, none⟩) = ax) := hax
          clear hax
          refine wpAnyH_take (i := 0) (oi := { dst := some 37, op := Go.Op.move (Go.Operand.tmp 9), type := 24, pos := "ref.go:267", after := #[], guard := none }) (v := ?_) rfl (by kernel_rfl) (by kernel_rfl) (by kernel_rfl) (fun _ _ _ h => h) (Or.inl ⟨by rfl, ?_⟩) (by assumption) ?_
          rotate_left
          · intro wz hSw; (try dsimp only at hSw); go_simp; (try with_reducible rfl)
          try simp only [Act.put, List.setIfInBounds_toArray, List.set_cons_zero, List.set_cons_succ]
          refine wpAnyH_take (i := 1) (oi := { dst := some 38, op := Go.Op.fieldAddr 26 (Go.Operand.tmp 3) 3, type := 0, pos := "ref.go:267", after := #[], guard := none }) (v := ?_) rfl (by kernel_rfl) (by kernel_rfl) (by kernel_rfl) (fun _ _ _ h => h) (Or.inl ⟨by rfl, ?_⟩) (by assumption) ?_
          rotate_left
          · intro wz hSw; (try dsimp only at hSw); go_simp; (try with_reducible rfl)
          try simp only [Act.put, List.setIfInBounds_toArray, List.set_cons_zero, List.set_cons_succ]
          refine wpAnyH_take (i := 2) (oi := { dst := some 39, op := Go.Op.load 24 (Go.Operand.tmp 38), type := 24, pos := "ref.go:267", after := #[{ on := 1, ground := Go.Ground.data }], guard := none }) (v := ?_) rfl (by kernel_rfl) (by kernel_rfl) (by kernel_rfl) (fun _ _ _ h => h) (Or.inl ⟨by rfl, ?_⟩) (by assumption) ?_
          rotate_left
          · intro wz hSw; (try dsimp only at hSw); go_simp; (try with_reducible rfl)
          try simp only [Act.put, List.setIfInBounds_toArray, List.set_cons_zero, List.set_cons_succ]
          refine wpAnyH_take (i := 3) (oi := { dst := some 40, op := Go.Op.move (Go.Operand.tmp 8), type := 3, pos := "ref.go:267", after := #[], guard := none }) (v := ?_) rfl (by kernel_rfl) (by kernel_rfl) (by kernel_rfl) (fun _ _ _ h => h) (Or.inl ⟨by rfl, ?_⟩) (by assumption) ?_
          rotate_left
          · intro wz hSw; (try dsimp only at hSw); go_simp; (try with_reducible rfl)
          try simp only [Act.put, List.setIfInBounds_toArray, List.set_cons_zero, List.set_cons_succ]
          refine wpAnyH_take (i := 4) (oi := { dst := some 41, op := Go.Op.slice 24 (Go.Operand.tmp 39) none (some (Go.Operand.tmp 40)) none, type := 24, pos := "ref.go:267", after := #[{ on := 2, ground := Go.Ground.data }, { on := 3, ground := Go.Ground.data }], guard := none }) (v := .slice (some ⟨b, off, none⟩) i hc) rfl (by kernel_rfl) (by kernel_rfl) (by kernel_rfl) (fun _ _ _ h => h) (Or.inl ⟨by rfl, ?_⟩) (by assumption) ?_
          · intro wz hSw; (try dsimp only at hSw); go_simp; try (intro hbad; omega)
          try simp only [Act.put, List.setIfInBounds_toArray, List.set_cons_zero, List.set_cons_succ]
          refine wpAnyH_take (i := 6) (oi := { dst := some 43, op := Go.Op.fieldAddr 26 (Go.Operand.tmp 3) 3, type := 0, pos := "ref.go:267", after := #[], guard := none }) (v := ?_) rfl (by kernel_rfl) (by kernel_rfl) (by kernel_rfl) (fun _ _ _ h => h) (Or.inl ⟨by rfl, ?_⟩) (by assumption) ?_
          rotate_left
          · intro wz hSw; (try dsimp only at hSw); go_simp; (try with_reducible rfl)
          try simp only [Act.put, List.setIfInBounds_toArray, List.set_cons_zero, List.set_cons_succ]
          refine wpAnyH_take (i := 7) (oi := { dst := some 44, op := Go.Op.load 24 (Go.Operand.tmp 43), type := 24, pos := "ref.go:267", after := #[{ on := 6, ground := Go.Ground.data }], guard := none }) (v := ?_) rfl (by kernel_rfl) (by kernel_rfl) (by kernel_rfl) (fun _ _ _ h => h) (Or.inl ⟨by rfl, ?_⟩) (by assumption) ?_
          rotate_left
          · intro wz hSw; (try dsimp only at hSw); go_simp; (try with_reducible rfl)
          try simp only [Act.put, List.setIfInBounds_toArray, List.set_cons_zero, List.set_cons_succ]
          refine wpAnyH_take (i := 8) (oi := { dst := some 45, op := Go.Op.move (Go.Operand.tmp 8), type := 3, pos := "ref.go:267", after := #[], guard := none }) (v := ?_) rfl (by kernel_rfl) (by kernel_rfl) (by kernel_rfl) (fun _ _ _ h => h) (Or.inl ⟨by rfl, ?_⟩) (by assumption) ?_
          rotate_left
          · intro wz hSw; (try dsimp only at hSw); go_simp; (try with_reducible rfl)
          try simp only [Act.put, List.setIfInBounds_toArray, List.set_cons_zero, List.set_cons_succ]
          refine wpAnyH_take (i := 9) (oi := { dst := some 46, op := Go.Op.binOp Go.BinOp.add 3 (Go.Operand.tmp 45) (Go.Operand.const (Go.Value.int Go.IntKind.i64 1)) 3, type := 3, pos := "ref.go:267", after := #[{ on := 8, ground := Go.Ground.data }], guard := none }) (v := .int .i64 ((i + 1 : Nat) : Int)) rfl (by kernel_rfl) (by kernel_rfl) (by kernel_rfl) (fun _ _ _ h => h) (Or.inl ⟨by rfl, ?_⟩) (by assumption) ?_
          · intro wz hSw; (try dsimp only at hSw); go_simp; try (rw [EII.out]); try rfl
          try simp only [Act.put, List.setIfInBounds_toArray, List.set_cons_zero, List.set_cons_succ]
          refine wpAnyH_take (i := 10) (oi := { dst := some 47, op := Go.Op.slice 24 (Go.Operand.tmp 44) (some (Go.Operand.tmp 46)) none none, type := 24, pos := "ref.go:267", after := #[{ on := 7, ground := Go.Ground.data }, { on := 9, ground := Go.Ground.data }], guard := none }) (v := .slice ax (s.hn - (i + 1)) (hc - (i + 1))) rfl (by kernel_rfl) (by kernel_rfl) (by kernel_rfl) (fun _ _ _ h => h) (Or.inl ⟨by rfl, ?_⟩) (by assumption) ?_
          · intro wz hSw; (try dsimp only at hSw); rw [← HAX.out]; go_simp; try (intro hbad; omega)
          try simp only [Act.put, List.setIfInBounds_toArray, List.set_cons_zero, List.set_cons_succ]
          refine wpAnyH_ready (rs := [5]) (by kernel_rfl) (by simp) ?_
          refine (AllReadyH.cons (o := { dst := some 42, op := Go.Op.call { callee := Go.Callee.builtin Go.Builtin.append, args := #[Go.Operand.tmp 37, Go.Operand.tmp 41], argTypes := #[24, 24] }, type := 24, pos := "ref.go:267", after := #[{ on := 0, ground := Go.Ground.data }, { on := 4, ground := Go.Ground.data }], guard := none }) rfl (fun K hK => ?_) AllReadyH.nil)
          refine step_append_R rfl (.tmp 37) (.tmp 41) rfl Wd.heap.size (.slice none 0 0) 0 [] (some ⟨b, off, none⟩) i hc (flatL (hf s.H A) i) (by rfl) (by rfl) (World.ownsRow_nil _ _ _ _) (Nat.le_refl _) ((HSR.out.below HB.out).take (hf_len _ _ _) (by omega) (by simp)) (flatL_length i (hf_len _ _ _)) (hf_one _ _ _) (by omega) ?_
          intro va vc V1 hown hgr
          rw [Nat.zero_add, List.nil_append] at hown
          have hb1 : Below Wd.heap.size Wd V1 := ⟨hgr.os, hgr.tape, hgr.output, hgr.size, fun k hk => hgr.block k hk (by simp [Value.ownBlock])⟩
          have HO1 : Hid (V1.ownsRow Wd.heap.size 29 3 (.slice va i vc) i (flatL (hf s.H A) i) ∧ Below Wd.heap.size Wd V1) := ⟨hown, hb1⟩
          have S1 : V1.cell? ⟨w.heap.size, 4, none⟩ = some (.slice (some ⟨b, off, none⟩) s.hn hc) := by rw [hb1.cell (p := ⟨w.heap.size, 4, none⟩) (lt_of_block HC.out)]; exact S0
          refine hK.out _ _ S1 (fun _ => ?_)
          clear hK K hown hgr hb1 S1
          try simp only [Act.put, List.setIfInBounds_toArray, List.set_cons_zero, List.set_cons_succ]
          (try rw [Nat.zero_add])
          refine wpAnyH_ready (rs := [11]) (by kernel_rfl) (by simp) ?_
          refine (AllReadyH.cons (o := { dst := some 48, op := Go.Op.call { callee := Go.Callee.builtin Go.Builtin.append, args := #[Go.Operand.tmp 42, Go.Operand.tmp 47], argTypes := #[24, 24] }, type := 24, pos := "ref.go:267", after := #[{ on := 5, ground := Go.Ground.data }, { on := 10, ground := Go.Ground.data }, { on := 5, ground := Go.Ground.chain }], guard := none }) rfl (fun K hK => ?_) AllReadyH.nil)
          refine step_append_R rfl (.tmp 42) (.tmp 47) rfl Wd.heap.size (.slice va i vc) i (flatL (hf s.H A) i) ax (s.hn - (i + 1)) (hc - (i + 1)) (flatL (fun j => hf s.H A (i + 1 + j)) (s.hn - (i + 1))) (by rfl) (by rfl) HO1.out.1 HO1.out.2.size (by rw [← HAX.out]; exact ((HSR.out.below HB.out).below HO1.out.2).drop (hf_len _ _ _) (by omega) hcap) (flatL_length _ (fun j hj => rfl)) (fun u hu => by
            obtain ⟨j, _, hj⟩ := flatL_mem _ hu
            exact hdl_one _ _ _ u hj) (by omega) ?_
          intro vb vd V2 hown hgr
          have em : i + (s.hn - (i + 1)) = s.hn - 1 := by omega
          have hb2 : Below Wd.heap.size Wd V2 := grown_below HO1.out.1 hgr HO1.out.2 (Nat.le_refl _)
          rw [em] at hown
          have HO2 : Hid (V2.ownsRow Wd.heap.size 29 3 (.slice vb (s.hn - 1) vd) (s.hn - 1) (flatL (hf (delG s.H i) (delG A i)) (s.hn - 1)) ∧ Below Wd.heap.size Wd V2) := ⟨by
            have e0 := delF_mid (hf s.H A) i (s.hn - (i + 1))
            rw [em] at e0
            rw [delG_hf, e0]
            exact hown, hb2⟩
          have S1 : V2.cell? ⟨w.heap.size, 4, none⟩ = some (.slice (some ⟨b, off, none⟩) s.hn hc) := by rw [hb2.cell (p := ⟨w.heap.size, 4, none⟩) (lt_of_block HC.out)]; exact S0
          refine hK.out _ _ S1 (fun _ => ?_)
          clear hK K hown hgr hb2 S0
          try simp only [Act.put, List.setIfInBounds_toArray, List.set_cons_zero, List.set_cons_succ]
          rw [em]
          refine wpAnyH_take (i := 12) (oi := { dst := some 9, op := Go.Op.assign (Go.Operand.tmp 48), type := 24, pos := "ref.go:267", after := #[{ on := 11, ground := Go.Ground.data }, { on := 11, ground := Go.Ground.chain }, { on := 0, ground := Go.Ground.phase }, { on := 1, ground := Go.Ground.phase }, { on := 2, ground := Go.Ground.phase }, { on := 3, ground := Go.Ground.phase }, { on := 4, ground := Go.Ground.phase }, { on := 5, ground := Go.Ground.phase }, { on := 6, ground := Go.Ground.phase }, { on := 7, ground := Go.Ground.phase }, { on := 8, ground := Go.Ground.phase }, { on := 9, ground := Go.Ground.phase }, { on := 10, ground := Go.Ground.phase }, { on := 11, ground := Go.Ground.phase }], guard := none }) (v := ?_) rfl (by kernel_rfl) (by kernel_rfl) (by kernel_rfl) (fun _ _ _ h => h) (Or.inl ⟨by rfl, ?_⟩) (by assumption) ?_
          rotate_left
          · intro wz hSw; (try dsimp only at hSw); go_simp; (try with_reducible rfl)
          try simp only [Act.put, List.setIfInBounds_toArray, List.set_cons_zero, List.set_cons_succ]
          refine wpAnyH_done (by kernel_rfl) (NoPanic.normal ?_) _
          try simp only [Act.put, List.setIfInBounds_toArray, List.set_cons_zero, List.set_cons_succ]
          clear S1 hHeld HO1 em
          have HB2 : Hid (Below w.heap.size w V2.drew) := (HB.out.trans (HO2.out.2.mono HB.out.size)).drew
          have HK2 : Hid (V2.drew.heap[w.heap.size + 1]? = some (.cells #[.int .i64 0, .int .i64 0, .int .i64 0, .slice none 0 0, .slice none 0 0] 26 (0, 0))) := (HO2.out.2.block _ hl1).trans HK.out
          have HC2 : Hid (V2.drew.heap[w.heap.size]? = some (.cells #[.int .i64 s.nu, .int .i64 s.a, .int .i64 s.b, .slice pa s.pn pc, .slice (some ⟨b, off, none⟩) s.hn hc] 26 (0, 0))) := (HO2.out.2.block _ (lt_of_block HC.out)).trans HC.out
          have HO3 : Hid (V2.drew.ownsRow Wd.heap.size 29 3 (.slice vb (s.hn - 1) vd) (s.hn - 1) (flatL (hf (delG s.H i) (delG A i)) (s.hn - 1))) := own_keep HO2.out.1 (fun _ _ => rfl)
          have hl2 : w.heap.size + 1 < V2.drew.heap.size := lt_of_block HK2.out
          have HWV : Hid (Wd.heap.size ≤ V2.drew.heap.size) := HO2.out.2.size
          have HWL : Hid (w.heap.size + 1 < Wd.heap.size) := hl1
          clear HB HK HC HO2 hl1
          obtain ⟨c0, c1, c2, c3, c4, cf⟩ := five_of HC2.out
          go_wp2_with fail
          have hbl : b < w.heap.size := World.block_lt_of_cell? w ⟨b, off + i * 3, none⟩ (hd_cells HRI.out).1
          have SS : Hid (∀ u : World, (∀ k, k < V2.drew.heap.size → k ≠ w.heap.size + 1 → u.heap[k]? = V2.drew.heap[k]?) → (u.rangeAt w.heap.size 0 ([.int .i64 s.nu, .int .i64 s.a, .int .i64 s.b, .slice pa s.pn pc, .slice (some ⟨b, off, none⟩) s.hn hc]) ∧ u.cell? ⟨w.heap.size, 3, none⟩ = some (.slice pa s.pn pc) ∧ u.cell? ⟨w.heap.size, 4, none⟩ = some (.slice (some ⟨b, off, none⟩) s.hn hc) ∧ u.cell? ⟨b, off + i * 3 + 1, none⟩ = some (.int .i64 (s.H i).am))) := fun u hb => by
            have h0 : u.heap[w.heap.size]? = some (.cells #[.int .i64 s.nu, .int .i64 s.a, .int .i64 s.b, .slice pa s.pn pc, .slice (some ⟨b, off, none⟩) s.hn hc] 26 (0, 0)) := (hb _ (lt_of_block HC2.out) (by omega)).trans HC2.out
            have h1 := five_of h0
            refine ⟨(svq_range (s := s) (p := ⟨pa, pc, some ⟨b, off, none⟩, hc⟩) h0), h1.c3, h1.c4, ?_⟩
            have h2 := (hd_cells (range_below HRI.out HB2.out)).2.1
            rw [World.cell?_of_block (a := ⟨b, off + i * 3 + 1, none⟩) (hb b (by have := HB2.out.size; omega) (by omega))]
            exact h2
          have S0 := SS.out V2.drew (fun _ _ _ => rfl)
          refine wp_region_noPanic ?_
          refine wp_region_held_drew (S := fun u => u.rangeAt w.heap.size 0 ([.int .i64 s.nu, .int .i64 s.a, .int .i64 s.b, .slice pa s.pn pc, .slice (some ⟨b, off, none⟩) s.hn hc]) ∧ u.cell? ⟨w.heap.size, 3, none⟩ = some (.slice pa s.pn pc) ∧ u.cell? ⟨w.heap.size, 4, none⟩ = some (.slice (some ⟨b, off, none⟩) s.hn hc) ∧ u.cell? ⟨b, off + i * 3 + 1, none⟩ = some (.int .i64 (s.H i).am)) (by kernel_rfl) S0 (fun hHeld => ?_)
          clear c0 c1 c2 c3 c4 cf
          generalize V2.drew = Ve at *
          refine wpAnyH_take (i := 0) (oi := { dst := some 49, op := Go.Op.load 26 (Go.Operand.tmp 3), type := 26, pos := "ref.go:268", after := #[], guard := none }) rfl (by kernel_rfl) (by kernel_rfl) (by kernel_rfl) (fun _ _ _ h => h) (yieldsIf_load_mid (by rfl) _ _ rfl w.heap.size 0 rfl ([.int .i64 s.nu, .int .i64 s.a, .int .i64 s.b, .slice pa s.pn pc, .slice (some ⟨b, off, none⟩) s.hn hc]) _ (fun _ h => h.1) Tryd.underlying26 rfl szSr) (by assumption) ?_
          try simp only [Act.put, List.setIfInBounds_toArray, List.set_cons_zero, List.set_cons_succ]
          refine wpAnyH_take (i := 1) (oi := { dst := some 50, op := Go.Op.move (Go.Operand.tmp 2), type := 3, pos := "ref.go:268", after := #[], guard := none }) (v := ?_) rfl (by kernel_rfl) (by kernel_rfl) (by kernel_rfl) (fun _ _ _ h => h) (Or.inl ⟨by rfl, ?_⟩) (by assumption) ?_
          rotate_left
          · intro wz hSw; (try dsimp only at hSw); go_simp; (try with_reducible rfl)
          try simp only [Act.put, List.setIfInBounds_toArray, List.set_cons_zero, List.set_cons_succ]
          refine wpAnyH_take (i := 2) (oi := { dst := some 51, op := Go.Op.fieldAddr 26 (Go.Operand.tmp 3) 3, type := 0, pos := "ref.go:268", after := #[], guard := none }) (v := ?_) rfl (by kernel_rfl) (by kernel_rfl) (by kernel_rfl) (fun _ _ _ h => h) (Or.inl ⟨by rfl, ?_⟩) (by assumption) ?_
          rotate_left
          · intro wz hSw; (try dsimp only at hSw); go_simp; (try with_reducible rfl)
          try simp only [Act.put, List.setIfInBounds_toArray, List.set_cons_zero, List.set_cons_succ]
          refine wpAnyH_take (i := 3) (oi := { dst := some 52, op := Go.Op.load 24 (Go.Operand.tmp 51), type := 24, pos := "ref.go:268", after := #[{ on := 2, ground := Go.Ground.data }], guard := none }) (v := ?_) rfl (by kernel_rfl) (by kernel_rfl) (by kernel_rfl) (fun _ _ _ h => h) (Or.inl ⟨by rfl, ?_⟩) (by assumption) ?_
          rotate_left
          · intro wz hSw; (try dsimp only at hSw); go_simp; (try with_reducible rfl)
          try simp only [Act.put, List.setIfInBounds_toArray, List.set_cons_zero, List.set_cons_succ]
          refine wpAnyH_take (i := 4) (oi := { dst := some 53, op := Go.Op.move (Go.Operand.tmp 8), type := 3, pos := "ref.go:268", after := #[], guard := none }) (v := ?_) rfl (by kernel_rfl) (by kernel_rfl) (by kernel_rfl) (fun _ _ _ h => h) (Or.inl ⟨by rfl, ?_⟩) (by assumption) ?_
          rotate_left
          · intro wz hSw; (try dsimp only at hSw); go_simp; (try with_reducible rfl)
          try simp only [Act.put, List.setIfInBounds_toArray, List.set_cons_zero, List.set_cons_succ]
          refine wpAnyH_take (i := 5) (oi := { dst := some 54, op := Go.Op.indexAddr 24 (Go.Operand.tmp 52) (Go.Operand.tmp 53), type := 0, pos := "ref.go:268", after := #[{ on := 3, ground := Go.Ground.data }, { on := 4, ground := Go.Ground.data }], guard := none }) (v := ?_) rfl (by kernel_rfl) (by kernel_rfl) (by kernel_rfl) (fun _ _ _ h => h) (Or.inl ⟨by rfl, ?_⟩) (by assumption) ?_
          rotate_left
          · intro wz hSw; (try dsimp only at hSw); go_simp; (try with_reducible rfl)
          try simp only [Act.put, List.setIfInBounds_toArray, List.set_cons_zero, List.set_cons_succ]
          refine wpAnyH_take (i := 6) (oi := { dst := some 55, op := Go.Op.fieldAddr 29 (Go.Operand.tmp 54) 1, type := 0, pos := "ref.go:268", after := #[{ on := 5, ground := Go.Ground.data }], guard := none }) (v := ?_) rfl (by kernel_rfl) (by kernel_rfl) (by kernel_rfl) (fun _ _ _ h => h) (Or.inl ⟨by rfl, ?_⟩) (by assumption) ?_
          rotate_left
          · intro wz hSw; (try dsimp only at hSw); go_simp; (try with_reducible rfl)
          try simp only [Act.put, List.setIfInBounds_toArray, List.set_cons_zero, List.set_cons_succ]
          refine wpAnyH_take (i := 7) (oi := { dst := some 56, op := Go.Op.load 3 (Go.Operand.tmp 55), type := 3, pos := "ref.go:268", after := #[{ on := 6, ground := Go.Ground.data }], guard := none }) (v := ?_) rfl (by kernel_rfl) (by kernel_rfl) (by kernel_rfl) (fun _ _ _ h => h) (Or.inl ⟨by rfl, ?_⟩) (by assumption) ?_
          rotate_left
          · intro wz hSw; (try dsimp only at hSw); go_simp; (try with_reducible rfl)
          try simp only [Act.put, List.setIfInBounds_toArray, List.set_cons_zero, List.set_cons_succ]
          refine wpAnyH_take (i := 8) (oi := { dst := some 57, op := Go.Op.move (Go.Operand.tmp 2), type := 3, pos := "ref.go:268", after := #[], guard := none }) (v := ?_) rfl (by kernel_rfl) (by kernel_rfl) (by kernel_rfl) (fun _ _ _ h => h) (Or.inl ⟨by rfl, ?_⟩) (by assumption) ?_
          rotate_left
          · intro wz hSw; (try dsimp only at hSw); go_simp; (try with_reducible rfl)
          try simp only [Act.put, List.setIfInBounds_toArray, List.set_cons_zero, List.set_cons_succ]
          refine wpAnyH_take (i := 9) (oi := { dst := some 58, op := Go.Op.binOp Go.BinOp.sub 3 (Go.Operand.tmp 56) (Go.Operand.tmp 57) 3, type := 3, pos := "ref.go:268", after := #[{ on := 7, ground := Go.Ground.data }, { on := 8, ground := Go.Ground.data }], guard := none }) (v := .int .i64 ((s.H i).am - n)) rfl (by kernel_rfl) (by kernel_rfl) (by kernel_rfl) (fun _ _ _ h => h) (Or.inl ⟨by rfl, ?_⟩) (by assumption) ?_
          · intro wz hSw; (try dsimp only at hSw); go_simp; try (rw [EDI.out]); try rfl
          try simp only [Act.put, List.setIfInBounds_toArray, List.set_cons_zero, List.set_cons_succ]
          refine wpAnyH_take (i := 10) (oi := { dst := some 59, op := Go.Op.fieldAddr 26 (Go.Operand.tmp 3) 2, type := 0, pos := "ref.go:268", after := #[], guard := none }) (v := ?_) rfl (by kernel_rfl) (by kernel_rfl) (by kernel_rfl) (fun _ _ _ h => h) (Or.inl ⟨by rfl, ?_⟩) (by assumption) ?_
          rotate_left
          · intro wz hSw; (try dsimp only at hSw); go_simp; (try with_reducible rfl)
          try simp only [Act.put, List.setIfInBounds_toArray, List.set_cons_zero, List.set_cons_succ]
          refine wpAnyH_take (i := 11) (oi := { dst := some 60, op := Go.Op.load 23 (Go.Operand.tmp 59), type := 23, pos := "ref.go:268", after := #[{ on := 10, ground := Go.Ground.data }], guard := none }) (v := ?_) rfl (by kernel_rfl) (by kernel_rfl) (by kernel_rfl) (fun _ _ _ h => h) (Or.inl ⟨by rfl, ?_⟩) (by assumption) ?_
          rotate_left
          · intro wz hSw; (try dsimp only at hSw); go_simp; (try with_reducible rfl)
          try simp only [Act.put, List.setIfInBounds_toArray, List.set_cons_zero, List.set_cons_succ]
          refine wpAnyH_take (i := 12) (oi := { dst := some 61, op := Go.Op.move (Go.Operand.tmp 9), type := 24, pos := "ref.go:268", after := #[], guard := none }) (v := ?_) rfl (by kernel_rfl) (by kernel_rfl) (by kernel_rfl) (fun _ _ _ h => h) (Or.inl ⟨by rfl, ?_⟩) (by assumption) ?_
          rotate_left
          · intro wz hSw; (try dsimp only at hSw); go_simp; (try with_reducible rfl)
          try simp only [Act.put, List.setIfInBounds_toArray, List.set_cons_zero, List.set_cons_succ]
          have HWI : Hid (Calls Tryd.prog 29 #[.agg #[.int .i64 s.nu, .int .i64 s.a, .int .i64 s.b, .slice pa s.pn pc, .slice (some ⟨b, off, none⟩) s.hn hc], .int .i64 n, .int .i64 ((s.H i).am - n), .slice pa s.pn pc, .slice vb (s.hn - 1) vd] Ve fun e w' => e = .returned (.agg #[.int .i64 (s.nu + 1), .int .i64 (s.a + n), .int .i64 (s.b + ((s.H i).am - n)), .slice pa s.pn pc, .slice vb (s.hn - 1) vd]) ∧ Below Ve.heap.size Ve w') := rwith_any s ⟨pa, pc, some ⟨b, off, none⟩, hc⟩ n ((s.H i).am - n) pa s.pn pc vb (s.hn - 1) vd Ve E1.out E2.out E3.out
          refine wpAnyH_ready (rs := [13]) (by kernel_rfl) (by simp) ?_
          refine (AllReadyH.cons (o := { dst := some 62, op := Go.Op.call { callee := Go.Callee.value (Go.Operand.func 29), args := #[Go.Operand.tmp 49, Go.Operand.tmp 50, Go.Operand.tmp 58, Go.Operand.tmp 60, Go.Operand.tmp 61], argTypes := #[26, 3, 3, 23, 24] }, type := 26, pos := "ref.go:268", after := #[{ on := 0, ground := Go.Ground.data }, { on := 1, ground := Go.Ground.data }, { on := 9, ground := Go.Ground.data }, { on := 11, ground := Go.Ground.data }, { on := 12, ground := Go.Ground.data }], guard := none }) rfl (fun K hK => ?_) AllReadyH.nil)
          go_simp
          refine HWI.out.mono ?_
          rintro e V3 ⟨rfl, hb3⟩
          have HB3 : Hid (Below w.heap.size w V3) := HB2.out.trans (hb3.mono HB2.out.size)
          have HK3 : Hid (V3.heap[w.heap.size + 1]? = some (.cells #[.int .i64 0, .int .i64 0, .int .i64 0, .slice none 0 0, .slice none 0 0] 26 (0, 0)) ∧ Wd.heap.size ≤ V3.heap.size) := ⟨(hb3.block _ hl2).trans HK2.out, (by have h1 := HWV.out; have h2 := hb3.size; omega)⟩
          have HO4 : Hid (V3.ownsRow Wd.heap.size 29 3 (.slice vb (s.hn - 1) vd) (s.hn - 1) (flatL (hf (delG s.H i) (delG A i)) (s.hn - 1))) := own_below HO3.out hb3
          have HBV : Hid (Below Ve.heap.size Ve V3) := hb3
          have S1 := SS.out V3 (fun k hk _ => hb3.block k hk)
          refine hK.out _ _ S1 (fun _ => ?_)
          clear hK K hb3 HB2 HK2 HO3 hl2 S0 S1
          try simp only [Act.put, List.setIfInBounds_toArray, List.set_cons_zero, List.set_cons_succ]
          refine wpAnyH_ready (rs := [14]) (by kernel_rfl) (by simp) ?_
          refine (AllReadyH.cons (o := { dst := none, op := Go.Op.store 26 (Go.Operand.tmp 6) (Go.Operand.tmp 62), type := 0, pos := "ref.go:268", after := #[{ on := 13, ground := Go.Ground.data }, { on := 13, ground := Go.Ground.chain }, { on := 0, ground := Go.Ground.phase }, { on := 1, ground := Go.Ground.phase }, { on := 2, ground := Go.Ground.phase }, { on := 3, ground := Go.Ground.phase }, { on := 4, ground := Go.Ground.phase }, { on := 5, ground := Go.Ground.phase }, { on := 6, ground := Go.Ground.phase }, { on := 7, ground := Go.Ground.phase }, { on := 8, ground := Go.Ground.phase }, { on := 9, ground := Go.Ground.phase }, { on := 10, ground := Go.Ground.phase }, { on := 11, ground := Go.Ground.phase }, { on := 12, ground := Go.Ground.phase }, { on := 13, ground := Go.Ground.phase }], guard := none }) rfl (fun K hK => ?_) AllReadyH.nil)
          refine step_storeR rfl (.tmp 6) (.tmp 62) rfl (w.heap.size + 1) (by rfl) (s.nu + 1) (s.a + n) (s.b + ((s.H i).am - n)) pa s.pn pc vb (s.hn - 1) vd (by rfl) HK3.out.1 ?_
          intro V4 hx hfr
          have S1 := SS.out V4 (fun k hk hne => (hfr.block k (by have := HBV.out.size; omega) (by simpa using hne)).trans (HBV.out.block k hk))
          have HX : Hid (V4.heap[w.heap.size + 1]? = some (.cells #[.int .i64 (s.nu + 1), .int .i64 (s.a + n), .int .i64 (s.b + ((s.H i).am - n)), .slice pa s.pn pc, .slice vb (s.hn - 1) vd] 26 (0, 0))) := hx
          have HB4 : Hid (Below w.heap.size w V4) := HB3.out.trans (hfr.below HB3.out.size (fun k hk => by rw [List.mem_singleton.1 hk]; omega))
          have HO5 : Hid (V4.ownsRow Wd.heap.size 29 3 (.slice vb (s.hn - 1) vd) (s.hn - 1) (flatL (hf (delG s.H i) (delG A i)) (s.hn - 1))) := own_keep HO4.out (fun g e => hfr.block g (HO4.out.lt g e).2 (fun e2 => by
            have h1 := (HO4.out.lt g e).1
            rw [List.mem_singleton.1 e2] at h1
            have h2 := HWL.out
            omega))
          refine hK.out _ _ S1 (fun _ => ?_)
          clear hK K hx hfr S1 HO4 HB3 HK3 HBV
          try simp only [Act.put]
          refine wpAnyH_take (i := 15) (oi := { dst := some 7, op := Go.Op.assign (Go.Operand.const (Go.Value.int Go.IntKind.i64 0)), type := 3, pos := "ref.go:268", after := #[{ on := 14, ground := Go.Ground.chain }, { on := 0, ground := Go.Ground.phase }, { on := 1, ground := Go.Ground.phase }, { on := 2, ground := Go.Ground.phase }, { on := 3, ground := Go.Ground.phase }, { on := 4, ground := Go.Ground.phase }, { on := 5, ground := Go.Ground.phase }, { on := 6, ground := Go.Ground.phase }, { on := 7, ground := Go.Ground.phase }, { on := 8, ground := Go.Ground.phase }, { on := 9, ground := Go.Ground.phase }, { on := 10, ground := Go.Ground.phase }, { on := 11, ground := Go.Ground.phase }, { on := 12, ground := Go.Ground.phase }, { on := 13, ground := Go.Ground.phase }, { on := 14, ground := Go.Ground.phase }], guard := none }) (v := ?_) rfl (by kernel_rfl) (by kernel_rfl) (by kernel_rfl) (fun _ _ _ h => h) (Or.inl ⟨by rfl, ?_⟩) (by assumption) ?_
          rotate_left
          · intro wz hSw; (try dsimp only at hSw); go_simp; (try with_reducible rfl)
          try simp only [Act.put, List.setIfInBounds_toArray, List.set_cons_zero, List.set_cons_succ]
          refine wpAnyH_done (by kernel_rfl) (NoPanic.normal ?_) _
          try simp only [Act.put, List.setIfInBounds_toArray, List.set_cons_zero, List.set_cons_succ]
          clear hHeld
          go_wp2
          refine bodyPost_ret (results_R2 Tryd.results11 _ _ (w.heap.size + 1) 26 _ _ _ _ _ (0, 0) rfl HX.out) rfl ⟨⟨_, HH.out, .inr (.inr (.inr ⟨HR.out, i, rfl, hi, hok, ⟨pa, pc, vb, vd⟩, rfl, ?_⟩))⟩, HB4.out⟩
          have hpy := HV.out.below HB4.out
          refine ⟨hpy.py, hd_of_row HO5.out (fun j hj => ?_), hpy.pcap, (own_nil HO5.out).1, hpy.pnil, (own_nil HO5.out).2⟩
          have hj' : j < s.hn - 1 := hj
          show IsAt V4 (delG A i j).1 (delG s.H i j).n (delG s.H i j).z ∧ ((delG A i j).1 = none → (delG s.H i j).n = 0 ∧ (delG A i j).2 = 0)
          unfold delG
          by_cases h1 : j < i
          · simp only [h1, if_true]
            exact ⟨(HKS.out j (by omega)).1.below HB4.out, (HKS.out j (by omega)).2⟩
          · simp only [h1, if_false]
            exact ⟨(HKS.out (j + 1) (by omega)).1.below HB4.out, (HKS.out (j + 1) (by omega)).2⟩
  · rw [decide_eq_false hr]
    have HR : Hid (¬ Rgt s) := hr
    clear hr
    go_wp2
    exact bodyPost_ret (results_R2 Tryd.results11 _ _ (w.heap.size + 1) 26 _ _ _ _ _ (0, 0) rfl (five_all HK.out)) rfl ⟨⟨_, HH.out, .inl ⟨HR.out, rfl⟩⟩, five_below HB.out (by omega)⟩
end Go.Proofs.YtjlobimncpiacaaDoor
