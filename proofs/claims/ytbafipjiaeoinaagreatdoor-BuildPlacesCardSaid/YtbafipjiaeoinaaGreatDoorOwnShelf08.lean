/- build.Check. -/
import Derived.Test.YtbafipjiaeoinaaGreatDoorOwnShelf07
import Derived.Test.YtbafipjiaeoinaaGreatDoorOwnShelf01
import Derived.LaidEql
import Derived.Laws.Externs
import Derived.RowKitTokens
namespace Go.Proofs.YtbafipjiaeoinaaGreatDoor
open Go.RowKit

theorem sv_range {w : World} {g : Nat} {s : Sv} {p : Pl} {t : TypeId} {fr : Nat × Nat} (h : w.heap[g]? = some (.cells (svv s p) t fr)) : w.rangeAt g 0 (svv s p).toList := fun j v hv => by
  rw [Nat.zero_add, cell_of_row _ _ j _ _ _ h]
  simpa using hv
set_option maxRecDepth 100000 in
set_option maxHeartbeats 3200000 in
theorem bcheck_any (P : Pm) (s : Sv) (p : Pl) (w : World) (h : SvAt w s p) (hs : s.Small) :
    Calls Tryz.prog 16 #[.agg (pmv P), .agg (svv s p)] w fun e w' => e = .returned (errV (bchkE P s)) ∧ Below w.heap.size w w' := by
  have hb0 : Below w.heap.size w ((w.alloc (.cells (pmv P) 40)).alloc (.cells (svv s p) 45)) := ((Below.refl _ w).alloc (Nat.le_refl _) _).alloc (by simp) _
  have hp0 : ((w.alloc (.cells (pmv P) 40)).alloc (.cells (svv s p) 45)).heap[w.heap.size]? = some (.cells (pmv P) 40 (0, 0)) := by rw [Below.heap_alloc _ _ _ (by simp)]; exact heap_alloc_new w _
  have hq0 : ((w.alloc (.cells (pmv P) 40)).alloc (.cells (svv s p) 45)).heap[w.heap.size + 1]? = some (.cells (svv s p) 45 (0, 0)) := by
    have := heap_alloc_new (w.alloc (.cells (pmv P) 40)) (.cells (svv s p) 45)
    simpa using this
  have HBX : Hid (∀ w', Below ((w.alloc (.cells (pmv P) 40)).alloc (.cells (svv s p) 45)).heap.size ((w.alloc (.cells (pmv P) 40)).alloc (.cells (svv s p) 45)) w' → PmBox w' w.heap.size 0 P ∧ w'.rangeAt (w.heap.size + 1) 0 (svv s p).toList) := fun w' hb =>
    ⟨pmBox (range_below (pml_range hp0) hb), range_below (sv_range hq0) hb⟩
  have HH : Hid (SvAt w s p ∧ s.Small) := ⟨h, hs⟩
  have hc := check_any s p _ (h.below hb0) hs
  have HR0 : Hid (((w.alloc (.cells (pmv P) 40)).alloc (.cells (svv s p) 45)).rangeAt (w.heap.size + 1) 0 (svv s p).toList) := sv_range hq0
  clear h hs hp0 hq0
  go_enter Tryz.func16, Tryz.ntmps16
  go_wp2_with (first | (refine Go.Great.wpList_boxTo rfl _ _ rfl _ rfl _ rfl (pmv P) rfl ?_) | (refine Go.Great.wpList_boxTo rfl _ _ rfl _ rfl _ rfl (svv s p) rfl ?_) | (refine wpList_load_mid rfl 45 _ rfl (w.heap.size + 1) 0 rfl (svv s p).toList _ HR0.out Tryz.underlying45 rfl szS ?_) | fail)
  generalize (w.alloc (.cells (pmv P) 40)).alloc (.cells (svv s p) 45) = W0 at *
  refine hc.mono ?_
  rintro e w1 ⟨rfl, hb1⟩
  have HB1 : Hid (Below w.heap.size w w1) := hb0.trans (hb1.mono hb0.size)
  obtain ⟨⟨_, cam, ck0, ck1, cdl, cfe⟩, _⟩ := HBX.out w1 hb1
  simp only [Nat.zero_add] at cam ck0 ck1 cdl cfe
  have HB01 : Hid (Below W0.heap.size W0 w1) := hb1
  clear hc hb0 hb1 HR0
  by_cases hok : SOk s
  · rw [chkV_ok hok]
    by_cases h1 : 1 ≤ P.dl ∧ P.dl ≤ 65536
    · have d1 : decide (1 ≤ P.dl ∧ P.dl ≤ 65536) = true := by simpa using h1
      by_cases h2 : 0 ≤ P.fe ∧ P.fe ≤ 1125899906842624
      · have d2 : decide (0 ≤ P.fe ∧ P.fe ≤ 1125899906842624) = true := by simpa using h2
        have HP : Hid (SOk s ∧ PmOk P) := ⟨hok, h1, h2⟩
        go_wp2_with fail
        refine (bwithin_any P.dl 1 65536 w1).mono ?_
        rintro e q1 ⟨rfl, hW⟩
        rw [hW, d1]
        clear hW
        go_wp2_with fail
        refine (bwithin_any P.fe 0 1125899906842624 w1).mono ?_
        rintro e q1 ⟨rfl, hW⟩
        rw [hW, d2]
        clear hW d1 d2 h1 h2 hok
        by_cases h3 : 0 ≤ P.k0 ∧ P.k0 ≤ 15
        · have d3 : decide (0 ≤ P.k0 ∧ P.k0 ≤ 15) = true := by simpa using h3
          by_cases h4 : 0 ≤ P.k1 ∧ P.k1 ≤ 15
          · have d4 : decide (0 ≤ P.k1 ∧ P.k1 ≤ 15) = true := by simpa using h4
            go_wp2_with fail
            refine (isParty_any P.k0 w1).mono ?_
            rintro e q1 ⟨rfl, hW⟩
            rw [hW, d3]
            clear hW
            go_wp2_with fail
            refine (isParty_any P.k1 w1).mono ?_
            rintro e q1 ⟨rfl, hW⟩
            rw [hW, d4]
            clear hW d3 d4
            by_cases h5 : P.k0 = P.k1
            · have h5' : (P.k0 == P.k1) = true := by simpa using h5
              have HE : Hid (bchkE P s = 33) := by unfold bchkE; rw [if_neg (by simpa using HP.out), if_pos (fun h => h.2.2 h5)]; exact rfl
              clear h3 h4 h5
              go_wp2
              go_ret
              exact ⟨by rw [HE.out]; rfl, HB1.out⟩
            · have h5' : (P.k0 == P.k1) = false := by simpa using h5
              have HK : Hid (KeyOk P) := ⟨h3, h4, h5⟩
              clear h3 h4 h5
              go_wp2_with fail
              have HS : Hid (∀ w', Below w1.heap.size w1 w' → w'.rangeAt (w.heap.size + 1) 0 (svv s p).toList ∧ w'.cell? ⟨w.heap.size, 33, none⟩ = some (.int .i64 P.am)) := fun w' hb => by
                have h1 := HBX.out w' (HB01.out.trans (hb.mono HB01.out.size))
                exact ⟨h1.2, by simpa using h1.1.am⟩
              have S0 := HS.out w1.drew (Below.refl _ w1).drew
              refine wp_region_noPanic ?_
              refine wp_region_held_drew (S := fun w' => w'.rangeAt (w.heap.size + 1) 0 (svv s p).toList ∧ w'.cell? ⟨w.heap.size, 33, none⟩ = some (.int .i64 P.am)) (by kernel_rfl) S0 (fun hHeld => ?_)
              refine wpAnyH_take (i := 0) (oi := { dst := some 38, op := Go.Op.load 45 (Go.Operand.tmp 3), type := 45, pos := "build.go:57", after := #[], guard := none }) rfl (by kernel_rfl) (by kernel_rfl) (by kernel_rfl) (fun _ _ _ h => h) (yieldsIf_load_mid (by rfl) _ _ rfl (w.heap.size + 1) 0 rfl (svv s p).toList _ (fun _ h => h.1) Tryz.underlying45 rfl szS) (by assumption) ?_
              try simp only [Act.put, List.setIfInBounds_toArray, List.set_cons_zero, List.set_cons_succ]
              refine wpAnyH_take (i := 2) (oi := { dst := some 40, op := Go.Op.fieldAddr 40 (Go.Operand.tmp 2) 1, type := 0, pos := "build.go:57", after := #[], guard := none }) (v := ?_) rfl (by kernel_rfl) (by kernel_rfl) (by kernel_rfl) (fun _ _ _ h => h) (Or.inl ⟨by rfl, ?_⟩) (by assumption) ?_
              rotate_left
              · intro wz hSw; (try dsimp only at hSw); go_simp; (try with_reducible rfl)
              try simp only [Act.put, List.setIfInBounds_toArray, List.set_cons_zero, List.set_cons_succ]
              refine wpAnyH_take (i := 3) (oi := { dst := some 41, op := Go.Op.load 3 (Go.Operand.tmp 40), type := 3, pos := "build.go:57", after := #[{ on := 2, ground := Go.Ground.data }], guard := none }) (v := ?_) rfl (by kernel_rfl) (by kernel_rfl) (by kernel_rfl) (fun _ _ _ h => h) (Or.inl ⟨by rfl, ?_⟩) (by assumption) ?_
              rotate_left
              · intro wz hSw; (try dsimp only at hSw); go_simp; (try with_reducible rfl)
              try simp only [Act.put, List.setIfInBounds_toArray, List.set_cons_zero, List.set_cons_succ]
              refine wpAnyH_ready (rs := [1]) (by kernel_rfl) (by simp) ?_
              refine (AllReadyH.cons (o := { dst := some 39, op := Go.Op.call { callee := Go.Callee.value (Go.Operand.func 35), args := #[Go.Operand.tmp 38], argTypes := #[45] }, type := 3, pos := "build.go:57", after := #[{ on := 0, ground := Go.Ground.data }], guard := none }) rfl (fun K hK => ?_) AllReadyH.nil)
              go_simp
              refine (total_any s p w1.drew (HH.out.1.below HB1.out.drew) HH.out.2).mono ?_
              rintro e w2 ⟨rfl, hb2⟩
              have HB2 : Hid (Below w1.heap.size w1 w2) := (Below.refl _ w1).drew.trans hb2
              clear hb2
              have ht : totF s = tot s := if_pos HP.out.1
              rw [ht]
              clear ht
              refine hK.out _ _ (HS.out w2 HB2.out) (fun _ => ?_)
              clear hK K
              refine wpAnyH_take (i := 4) (oi := { dst := some 42, op := Go.Op.binOp Go.BinOp.neq 3 (Go.Operand.tmp 39) (Go.Operand.tmp 41) 3, type := 4, pos := "build.go:57", after := #[{ on := 1, ground := Go.Ground.data }, { on := 3, ground := Go.Ground.data }], guard := none }) (v := ?_) rfl (by kernel_rfl) (by kernel_rfl) (by kernel_rfl) (fun _ _ _ h => h) (Or.inl ⟨by rfl, ?_⟩) (by assumption) ?_
              rotate_left
              · intro wz hSw; (try dsimp only at hSw); go_simp; (try with_reducible rfl)
              try simp only [Act.put, List.setIfInBounds_toArray, List.set_cons_zero, List.set_cons_succ]
              refine wpAnyH_take (i := 5) (oi := { dst := some 37, op := Go.Op.assign (Go.Operand.tmp 42), type := 4, pos := "build.go:57", after := #[{ on := 4, ground := Go.Ground.data }, { on := 1, ground := Go.Ground.chain }], guard := none }) (v := ?_) rfl (by kernel_rfl) (by kernel_rfl) (by kernel_rfl) (fun _ _ _ h => h) (Or.inl ⟨by rfl, ?_⟩) (by assumption) ?_
              rotate_left
              · intro wz hSw; (try dsimp only at hSw); go_simp; (try with_reducible rfl)
              try simp only [Act.put, List.setIfInBounds_toArray, List.set_cons_zero, List.set_cons_succ]
              refine wpAnyH_done (by kernel_rfl) (NoPanic.normal ?_) _
              try simp only [Act.put, List.setIfInBounds_toArray, List.set_cons_zero, List.set_cons_succ]
              clear hHeld S0
              have HBE : Hid (Below w.heap.size w w2) := HB1.out.trans (HB2.out.mono HB1.out.size)
              by_cases h6 : tot s = P.am
              · have h6' : (tot s == P.am) = true := by simpa using h6
                obtain ⟨hbx, hrs⟩ := HBX.out w2 (HB01.out.trans (HB2.out.mono HB01.out.size))
                have c37 : w2.cell? ⟨w.heap.size, 37, none⟩ = some (.int .i64 P.fe) := by simpa using hbx.fe
                have ca : w2.cell? ⟨w.heap.size + 1, 1, none⟩ = some (.int .i64 s.a) := hrs 1 _ rfl
                clear hbx hrs
                by_cases h7 : s.a < P.fe
                · have HE : Hid (bchkE P s = 26) := by unfold bchkE; rw [if_neg (by simpa using HP.out), if_neg (by simpa using HK.out), if_neg (by simpa using h6), if_pos h7]; exact rfl
                  clear h6
                  go_wp2
                  go_ret
                  exact ⟨by rw [HE.out]; rfl, HBE.out⟩
                · have HE : Hid (bchkE P s = 0) := by unfold bchkE; rw [if_neg (by simpa using HP.out), if_neg (by simpa using HK.out), if_neg (by simpa using h6), if_neg h7]; exact rfl
                  clear h6
                  go_wp2
                  go_ret
                  exact ⟨by rw [HE.out]; rfl, HBE.out⟩
              · have h6' : (tot s == P.am) = false := by simpa using h6
                have h6n : (tot s != P.am) = true := by simp [bne, h6']
                have HE : Hid (bchkE P s = 20) := by unfold bchkE; rw [if_neg (by simpa using HP.out), if_neg (by simpa using HK.out), if_pos h6]; exact rfl
                go_wp2
                go_ret
                exact ⟨by rw [HE.out]; rfl, HBE.out⟩
          · have d4 : decide (0 ≤ P.k1 ∧ P.k1 ≤ 15) = false := by simpa using h4
            have HE : Hid (bchkE P s = 33) := by unfold bchkE; rw [if_neg (by simpa using HP.out), if_pos (fun h => h4 h.2.1)]; exact rfl
            go_wp2_with fail
            refine (isParty_any P.k0 w1).mono ?_
            rintro e q1 ⟨rfl, hW⟩
            rw [hW, d3]
            clear hW
            go_wp2_with fail
            refine (isParty_any P.k1 w1).mono ?_
            rintro e q1 ⟨rfl, hW⟩
            rw [hW, d4]
            clear hW d3 d4 h3 h4
            go_wp2
            go_ret
            exact ⟨by rw [HE.out]; rfl, HB1.out⟩
        · have d3 : decide (0 ≤ P.k0 ∧ P.k0 ≤ 15) = false := by simpa using h3
          have HE : Hid (bchkE P s = 33) := by unfold bchkE; rw [if_neg (by simpa using HP.out), if_pos (fun h => h3 h.1)]; exact rfl
          go_wp2_with fail
          refine (isParty_any P.k0 w1).mono ?_
          rintro e q1 ⟨rfl, hW⟩
          rw [hW, d3]
          clear hW d3 h3
          go_wp2
          go_ret
          exact ⟨by rw [HE.out]; rfl, HB1.out⟩
      · have d2 : decide (0 ≤ P.fe ∧ P.fe ≤ 1125899906842624) = false := by simpa using h2
        have HE : Hid (bchkE P s = 1) := if_pos (fun h => h2 h.2.2)
        go_wp2_with fail
        refine (bwithin_any P.dl 1 65536 w1).mono ?_
        rintro e q1 ⟨rfl, hW⟩
        rw [hW, d1]
        clear hW
        go_wp2_with fail
        refine (bwithin_any P.fe 0 1125899906842624 w1).mono ?_
        rintro e q1 ⟨rfl, hW⟩
        rw [hW, d2]
        clear hW d1 d2 h1 h2 hok
        go_wp2
        go_ret
        exact ⟨by rw [HE.out]; rfl, HB1.out⟩
    · have d1 : decide (1 ≤ P.dl ∧ P.dl ≤ 65536) = false := by simpa using h1
      have HE : Hid (bchkE P s = 1) := if_pos (fun h => h1 h.2.1)
      go_wp2_with fail
      refine (bwithin_any P.dl 1 65536 w1).mono ?_
      rintro e q1 ⟨rfl, hW⟩
      rw [hW, d1]
      clear hW d1 h1 hok
      go_wp2
      go_ret
      exact ⟨by rw [HE.out]; rfl, HB1.out⟩
  · rw [chkV_bad hok]
    have HE : Hid (bchkE P s = 1) := if_pos (fun h => hok h.1)
    clear hok
    go_wp2
    go_ret
    exact ⟨by rw [HE.out]; rfl, HB1.out⟩
end Go.Proofs.YtbafipjiaeoinaaGreatDoor
/- build.checkOwner, left. -/
namespace Go.Proofs.YtbafipjiaeoinaaGreatDoor
open Go.RowKit

def ownE (P : Pm) (s : Sv) (o : Int) : Int := if bchkE P s ≠ 0 then bchkE P s else if 0 ≤ o ∧ o ≤ 1 then 0 else 1
theorem hidV {p : Prop} (h : p) : Hid p := h
theorem berrV_0 : errV 0 = .nilIface := rfl
/-- What a side has behind the fee. -/
def leftF (P : Pm) (s : Sv) (o : Int) : Int := if o = 0 then s.a - P.fe else s.b
set_option maxRecDepth 100000 in
set_option maxHeartbeats 1600000 in
theorem checkOwner_any (P : Pm) (s : Sv) (p : Pl) (o : Int) (w : World) (h : SvAt w s p) (hs : s.Small) :
    Calls Tryz.prog 25 #[.agg (pmv P), .agg (svv s p), .int .i64 o] w fun e w' => e = .returned (errV (ownE P s o)) ∧ Below w.heap.size w w' := by
  have hb0 : Below w.heap.size w ((w.alloc (.cells (pmv P) 40)).alloc (.cells (svv s p) 45)) := ((Below.refl _ w).alloc (Nat.le_refl _) _).alloc (by simp) _
  have HP0 : Hid (((w.alloc (.cells (pmv P) 40)).alloc (.cells (svv s p) 45)).rangeAt w.heap.size 0 (pml P)) := pml_range (by rw [Below.heap_alloc _ _ _ (by simp)]; exact heap_alloc_new w _)
  have HR0 : Hid (((w.alloc (.cells (pmv P) 40)).alloc (.cells (svv s p) 45)).rangeAt (w.heap.size + 1) 0 (svv s p).toList) := sv_range (by
    have := heap_alloc_new (w.alloc (.cells (pmv P) 40)) (.cells (svv s p) 45)
    simpa using this)
  have hc := bcheck_any P s p _ (h.below hb0) hs
  unfold pmv at hc
  clear h hs
  go_enter Tryz.func25, Tryz.ntmps25
  go_wp2_with (first | (refine Go.Great.wpList_boxTo rfl _ _ rfl _ rfl _ rfl (pmv P) rfl ?_) | (refine Go.Great.wpList_boxTo rfl _ _ rfl _ rfl _ rfl (svv s p) rfl ?_) | (refine wpList_load_mid rfl 40 _ rfl w.heap.size 0 rfl (pml P) _ HP0.out Tryz.underlying40 rfl (szPml P) ?_) | (refine wpList_load_mid rfl 45 _ rfl (w.heap.size + 1) 0 rfl (svv s p).toList _ HR0.out Tryz.underlying45 rfl szS ?_) | fail)
  refine hc.mono ?_
  rintro e w1 ⟨rfl, hb1⟩
  have HB1 : Hid (Below w.heap.size w w1) := hb0.trans (hb1.mono hb0.size)
  clear hc hb0 hb1 HR0 HP0
  by_cases h0 : bchkE P s = 0
  · rw [h0, berrV_0]
    by_cases h1 : 0 ≤ o ∧ o ≤ 1
    · have d1 : decide (0 ≤ o ∧ o ≤ 1) = true := by simpa using h1
      have HE : Hid (ownE P s o = 0) := by unfold ownE; rw [if_neg (by simpa using h0), if_pos h1]; exact rfl
      clear h0
      go_wp2_with fail
      refine (bwithin_any o 0 1 w1).mono ?_
      rintro e q1 ⟨rfl, hW⟩
      rw [hW, d1]
      clear hW d1 h1
      go_wp2
      go_ret
      exact ⟨by rw [HE.out]; rfl, HB1.out⟩
    · have d1 : decide (0 ≤ o ∧ o ≤ 1) = false := by simpa using h1
      have HE : Hid (ownE P s o = 1) := by unfold ownE; rw [if_neg (by simpa using h0), if_neg h1]; exact rfl
      clear h0
      go_wp2_with fail
      refine (bwithin_any o 0 1 w1).mono ?_
      rintro e q1 ⟨rfl, hW⟩
      rw [hW, d1]
      clear hW d1 h1
      go_wp2
      go_ret
      exact ⟨by rw [HE.out]; rfl, HB1.out⟩
  · have HE : Hid (ownE P s o = bchkE P s) := if_pos h0
    have e1 := errV_ne h0
    have HV := hidV e1
    rw [e1]
    clear e1 h0
    go_wp2
    go_ret
    exact ⟨by rw [HE.out, HV.out]; rfl, HB1.out⟩
set_option maxRecDepth 100000 in
set_option maxHeartbeats 1600000 in
theorem left_any (P : Pm) (s : Sv) (p : Pl) (o : Int) (w : World) (ho : 0 ≤ o ∧ o ≤ 1) (hr : (0 ≤ s.a ∧ s.a ≤ 1125899906842624) ∧ (0 ≤ P.fe ∧ P.fe ≤ 1125899906842624)) :
    Calls Tryz.prog 45 #[.agg (pmv P), .agg (svv s p), .int .i64 o] w fun e w' => e = .returned (.int .i64 (leftF P s o)) ∧ Below w.heap.size w w' := by
  have hb0 : Below w.heap.size w ((w.alloc (.cells (pmv P) 40)).alloc (.cells (svv s p) 45)) := ((Below.refl _ w).alloc (Nat.le_refl _) _).alloc (by simp) _
  have cfe : ((w.alloc (.cells (pmv P) 40)).alloc (.cells (svv s p) 45)).cell? ⟨w.heap.size, 37, none⟩ = some (.int .i64 P.fe) := by
    have := (pmBox (o := 0) (pml_range (w := (w.alloc (.cells (pmv P) 40)).alloc (.cells (svv s p) 45)) (g := w.heap.size) (P := P) (by rw [Below.heap_alloc _ _ _ (by simp)]; exact heap_alloc_new w _))).fe
    simpa using this
  have hr1 : ((w.alloc (.cells (pmv P) 40)).alloc (.cells (svv s p) 45)).rangeAt (w.heap.size + 1) 0 (svv s p).toList := sv_range (by
    have := heap_alloc_new (w.alloc (.cells (pmv P) 40)) (.cells (svv s p) 45)
    simpa using this)
  have ca := hr1 1 (.int .i64 s.a) rfl
  have cb := hr1 2 (.int .i64 s.b) rfl
  simp only [Nat.zero_add] at ca cb
  have hwr : IntKind.i64.wrap (s.a - P.fe) = s.a - P.fe := by rw [IntKind.wrap_i64]; omega
  clear hr1
  have HB := hidV hb0
  clear hb0
  obtain rfl | rfl : o = 0 ∨ o = 1 := by omega
  · have HE : Hid (leftF P s 0 = s.a - P.fe) := rfl
    go_enter Tryz.func45, Tryz.ntmps45
    go_wp2_with (first | (refine Go.Great.wpList_boxTo rfl _ _ rfl _ rfl _ rfl (pmv P) rfl ?_) | (refine Go.Great.wpList_boxTo rfl _ _ rfl _ rfl _ rfl (svv s p) rfl ?_) | fail)
    go_ret
    exact ⟨by rw [HE.out]; rfl, HB.out⟩
  · have HE : Hid (leftF P s 1 = s.b) := rfl
    go_enter Tryz.func45, Tryz.ntmps45
    go_wp2_with (first | (refine Go.Great.wpList_boxTo rfl _ _ rfl _ rfl _ rfl (pmv P) rfl ?_) | (refine Go.Great.wpList_boxTo rfl _ _ rfl _ rfl _ rfl (svv s p) rfl ?_) | fail)
    go_ret
    exact ⟨by rw [HE.out]; rfl, HB.out⟩
end Go.Proofs.YtbafipjiaeoinaaGreatDoor
/- errors.As at a target of type *api.Errno: of nil false; of an api.Errno true, and the target is set. -/
namespace Go.Proofs.YtbafipjiaeoinaaGreatDoor
open Go.RowKit Go.Extern.Stop Go.Stop Go.Extern

theorem as_nil (t : Value) (w : World) :
    Calls Tryz.prog 31 #[.nilIface, t] w fun e w' => e = .returned (.bool false) ∧ w' = w := by
  go_enter Tryz.func31, Tryz.ntmps31
  go_wp2
  go_ret
  exact ⟨rfl, rfl⟩

theorem as_valueOfP (t : Addr) (w : World) : (ReflectliteValue.unpack (.iface 112 (.pointer (some t)))).run Tryz.prog w
    = .ok (.agg #[.pointer (some ⟨1, 112, none⟩), .pointer (some ⟨w.heap.size, 0, none⟩), .int .u64 150]) (w.alloc (.cells #[.pointer (some t)] 112)) := by kernel_rfl
theorem as_typeP (a : Addr) (w : World) : (ReflectliteValue.methodAny (ReflectliteValue.valueError "reflectlite.Value.Type" 0) (fun t _ _ _ => ReflectliteType.toType t) #[.agg #[.pointer (some ⟨1, 112, none⟩), .pointer (some a), .int .u64 150]]).run Tryz.prog w
    = .ok (.iface 182 (.agg #[.pointer (some ⟨1, 112, none⟩)])) w := by kernel_rfl
theorem as_methodKind (h : Value) (w : World) : (Go.method 377 182 (.agg #[h]) "Kind").run Tryz.prog w = .ok (155, h) w := by kernel_rfl
theorem as_kindP (w : World) : ((ReflectliteType.abiMethod fun t => (fun a : Nat => Value.int IntKind.u8 (a : Int)) <$> Rtype.kind t) #[.pointer (some ⟨1, 112, none⟩)]).run Tryz.prog w = .ok (.int .u8 22) w := by kernel_rfl
theorem as_kindE (w : World) : ((ReflectliteType.abiMethod fun t => (fun a : Nat => Value.int IntKind.u8 (a : Int)) <$> Rtype.kind t) #[.pointer (some ⟨1, 101, none⟩)]).run Tryz.prog w = .ok (.int .u8 2) w := by kernel_rfl
theorem as_partsP (a : Addr) (w : World) : (ReflectliteValue.parts (.agg #[.pointer (some ⟨1, 112, none⟩), .pointer (some a), .int .u64 150])).run Tryz.prog w = .ok (some (112, a, 150)) w := by kernel_rfl
theorem as_isNilP (a p : Addr) (W : World) (ha : W.cell? a = some (.pointer (some p))) :
    (ReflectliteValue.method (ReflectliteValue.valueError "reflectlite.Value.IsNil" 0) ReflectliteValue.isNil #[.agg #[.pointer (some ⟨1, 112, none⟩), .pointer (some a), .int .u64 150]]).run Tryz.prog W = .ok (.bool false) W := by
  delta ReflectliteValue.method
  delta ReflectliteValue.method.match_2
  dsimp [Array.getLit]
  simp only [Sem.run_bind, as_partsP, Result.andThen]
  simp [ReflectliteValue.isNil, loadVar, isAgg, underlying, Tryz.underlying112, ha, Result.andThen]
theorem as_methodElem (h : Value) (w : World) : (Go.method 377 182 (.agg #[h]) "Elem").run Tryz.prog w = .ok (166, .agg #[h]) w := by kernel_rfl
theorem as_methodImplements (h : Value) (w : World) : (Go.method 377 182 (.agg #[h]) "Implements").run Tryz.prog w = .ok (167, .agg #[h]) w := by kernel_rfl
theorem as_methodAssignableTo (h : Value) (w : World) : (Go.method 377 182 (.agg #[h]) "AssignableTo").run Tryz.prog w = .ok (164, .agg #[h]) w := by kernel_rfl
theorem as_elemP (w : World) : (ReflectliteType.method ReflectliteType.elem #[.agg #[.pointer (some ⟨1, 112, none⟩)]]).run Tryz.prog w = .ok (.iface 182 (.agg #[.pointer (some ⟨1, 101, none⟩)])) w := by kernel_rfl
theorem as_implementsE (w : World) : (ReflectliteType.relation "Implements" ReflectliteType.implements_ #[.agg #[.pointer (some ⟨1, 101, none⟩)], .iface 182 (.agg #[.pointer (some ⟨1, 52, none⟩)])]).run Tryz.prog w = .ok (.bool true) w := by kernel_rfl
theorem as_typeOfE (v : Value) (w : World) : (ReflectliteType.typeOf #[.iface 101 v]).run Tryz.prog w = .ok (.iface 182 (.agg #[.pointer (some ⟨1, 101, none⟩)])) w := by kernel_rfl
theorem as_assignableE (w : World) : (ReflectliteType.relation "AssignableTo" ReflectliteType.assignableTo #[.agg #[.pointer (some ⟨1, 101, none⟩)], .iface 182 (.agg #[.pointer (some ⟨1, 101, none⟩)])]).run Tryz.prog w = .ok (.bool true) w := by kernel_rfl
theorem as_valueOfE (x : Int) (w : World) : (ReflectliteValue.unpack (.iface 101 (.int .i64 x))).run Tryz.prog w
    = .ok (.agg #[.pointer (some ⟨1, 101, none⟩), .pointer (some ⟨w.heap.size, 0, none⟩), .int .u64 130]) (w.alloc (.cells #[.int .i64 x] 101)) := by kernel_rfl
theorem as_elemOfP (w : World) : (Rtype.elem? 112).run Tryz.prog w = .ok (some 101) w := by kernel_rfl
theorem as_mkE (p : Addr) (w : World) : (ReflectliteValue.mk 101 p ReflectliteValue.flagAddr).run Tryz.prog w = .ok (.agg #[.pointer (some ⟨1, 101, none⟩), .pointer (some p), .int .u64 386]) w := by kernel_rfl
theorem as_elemVP (a p : Addr) (W : World) (ha : W.cell? a = some (.pointer (some p))) :
    (ReflectliteValue.method (ReflectliteValue.valueError "reflectlite.Value.Elem" 0) ReflectliteValue.elem #[.agg #[.pointer (some ⟨1, 112, none⟩), .pointer (some a), .int .u64 150]]).run Tryz.prog W
      = .ok (.agg #[.pointer (some ⟨1, 101, none⟩), .pointer (some p), .int .u64 386]) W := by
  delta ReflectliteValue.method
  delta ReflectliteValue.method.match_2
  dsimp [Array.getLit]
  simp only [Sem.run_bind, as_partsP, Result.andThen]
  simp [ReflectliteValue.elem, loadVar, isAgg, underlying, Tryz.underlying112, ha, Result.andThen, as_elemOfP, as_mkE]
theorem as_partsEa (a : Addr) (w : World) : (ReflectliteValue.parts (.agg #[.pointer (some ⟨1, 101, none⟩), .pointer (some a), .int .u64 386])).run Tryz.prog w = .ok (some (101, a, 386)) w := by kernel_rfl
theorem as_partsE (a : Addr) (w : World) : (ReflectliteValue.parts (.agg #[.pointer (some ⟨1, 101, none⟩), .pointer (some a), .int .u64 130])).run Tryz.prog w = .ok (some (101, a, 130)) w := by kernel_rfl
theorem as_directE (w : World) : (Rtype.directlyAssignable 101 101).run Tryz.prog w = .ok true w := by kernel_rfl
theorem as_setE (ta b : Addr) (x : Int) (old : Value) (W : World) (hb : W.cell? b = some (.int .i64 x)) (ht : W.cell? ta = some old) (hf : W.frozen? ta = false) :
    (ReflectliteValue.set #[.agg #[.pointer (some ⟨1, 101, none⟩), .pointer (some ta), .int .u64 386], .agg #[.pointer (some ⟨1, 101, none⟩), .pointer (some b), .int .u64 130]]).run Tryz.prog W
      = .ok (.tuple #[]) (W.setCell ta (.int .i64 x)) := by
  delta ReflectliteValue.set
  delta ReflectliteValue.set.match_3
  dsimp [Array.getLit]
  simp only [Sem.run_bind, as_partsEa, as_partsE, Result.andThen]
  simp [ReflectliteValue.flagAddr, loadVar, isAgg, underlying, Tryz.underlying101, hb, Result.andThen, as_directE, storeVar, Value.cells, storeCells, Addr.add]
  rw [run_store Tryz.prog W ta _ _ (by rfl)]
  simp [ht, hf]

set_option maxHeartbeats 4000000 in
theorem as_hit (x : Int) (t : Addr) (old : Value) (w : World) (hg : w.cell? ⟨0, 0, none⟩ = some (.iface 182 (.agg #[.pointer (some ⟨1, 52, none⟩)]))) (ht0 : w.cell? t = some old) (hf0 : w.frozen? t = false) :
    Calls Tryz.prog 31 #[.iface 101 (.int .i64 x), .iface 112 (.pointer (some t))] w fun ev w' => ev = .returned (.bool true) ∧ w' = ((((w.alloc (.cells #[.pointer (some t)] 112)).alloc (.cells #[.pointer (some ⟨1, 112, none⟩), .pointer (some ⟨w.heap.size, 0, none⟩), .int .u64 150] 144)).alloc (.cells #[.pointer (some ⟨1, 112, none⟩), .pointer (some ⟨w.heap.size, 0, none⟩), .int .u64 150] 144)).alloc (.cells #[.int .i64 x] 101)).setCell t (.int .i64 x) := by
  have h6 := @run_callFunc_extern Tryz.prog 55 _ (fun args => ReflectliteValue.unpack (args.getD 0 (.tuple #[]))) Tryz.func55 (by kernel_rfl) (by kernel_rfl) (by kernel_rfl) (by kernel_rfl)
  have h7 := @run_callFunc_extern Tryz.prog 56 _ (ReflectliteValue.methodAny (ReflectliteValue.valueError "reflectlite.Value.Type" 0) (fun t _ _ _ => ReflectliteType.toType t)) Tryz.func56 (by kernel_rfl) (by kernel_rfl) (by kernel_rfl) (by kernel_rfl)
  have h8 := @run_callFunc_extern Tryz.prog 57 _ (ReflectliteValue.method (ReflectliteValue.valueError "reflectlite.Value.IsNil" 0) ReflectliteValue.isNil) Tryz.func57 (by kernel_rfl) (by kernel_rfl) (by kernel_rfl) (by kernel_rfl)
  have h27 := @run_callFunc_extern Tryz.prog 155 _ (ReflectliteType.abiMethod fun t => do pure (.int .u8 (← Rtype.kind t))) Tryz.func155 (by kernel_rfl) (by kernel_rfl) (by kernel_rfl) (by kernel_rfl)
  have h37 := @run_callFunc_extern Tryz.prog 166 _ (ReflectliteType.method ReflectliteType.elem) Tryz.func166 (by kernel_rfl) (by kernel_rfl) (by kernel_rfl) (by kernel_rfl)
  have h38 := @run_callFunc_extern Tryz.prog 167 _ (ReflectliteType.relation "Implements" ReflectliteType.implements_) Tryz.func167 (by kernel_rfl) (by kernel_rfl) (by kernel_rfl) (by kernel_rfl)
  have h10 := @run_callFunc_extern Tryz.prog 88 _ (ReflectliteType.typeOf) Tryz.func88 (by kernel_rfl) (by kernel_rfl) (by kernel_rfl) (by kernel_rfl)
  have h35 := @run_callFunc_extern Tryz.prog 164 _ (ReflectliteType.relation "AssignableTo" ReflectliteType.assignableTo) Tryz.func164 (by kernel_rfl) (by kernel_rfl) (by kernel_rfl) (by kernel_rfl)
  have h11 := @run_callFunc_extern Tryz.prog 89 _ (ReflectliteValue.method (ReflectliteValue.valueError "reflectlite.Value.Elem" 0) ReflectliteValue.elem) Tryz.func89 (by kernel_rfl) (by kernel_rfl) (by kernel_rfl) (by kernel_rfl)
  have h12 := @run_callFunc_extern Tryz.prog 90 _ (ReflectliteValue.set) Tryz.func90 (by kernel_rfl) (by kernel_rfl) (by kernel_rfl) (by kernel_rfl)
  have k_typeOfE := as_typeOfE
  have k_methodAssignableTo := as_methodAssignableTo
  have k_assignableE := as_assignableE
  have k_valueOfE := as_valueOfE
  have k_valueOfP := as_valueOfP
  have k_typeP := as_typeP
  have k_methodKind := as_methodKind
  have k_methodElem := as_methodElem
  have k_methodImplements := as_methodImplements
  have k_kindP := as_kindP
  have k_kindE := as_kindE
  have k_elemP := as_elemP
  have k_implementsE := as_implementsE
  have n8 := as_isNilP ⟨w.heap.size, 0, none⟩ t ((w.alloc (.cells #[.pointer (some t)] 112)).alloc (.cells #[.pointer (some ⟨1, 112, none⟩), .pointer (some ⟨w.heap.size, 0, none⟩), .int .u64 150] 144)) (by simp)
  have hlt : 0 < w.heap.size := by
    rcases Nat.eq_zero_or_pos w.heap.size with h0 | h
    · simp [World.cell?, h0] at hg
    · exact h
  have hg2 : ((w.alloc (.cells #[.pointer (some t)] 112)).alloc (.cells #[.pointer (some ⟨1, 112, none⟩), .pointer (some ⟨w.heap.size, 0, none⟩), .int .u64 150] 144)).cell? ⟨0, 0, none⟩ = some (.iface 182 (.agg #[.pointer (some ⟨1, 52, none⟩)])) := by
    rw [World.cell?_alloc_lt _ _ ⟨0, 0, none⟩ (by simp), World.cell?_alloc_lt _ _ ⟨0, 0, none⟩ hlt]; exact hg
  have htl : t.block < w.heap.size := by
    rcases Nat.lt_or_ge t.block w.heap.size with h | h
    · exact h
    · simp [World.cell?, Array.getElem?_eq_none h] at ht0
  have el := as_elemVP ⟨w.heap.size, 0, none⟩ t (((w.alloc (.cells #[.pointer (some t)] 112)).alloc (.cells #[.pointer (some ⟨1, 112, none⟩), .pointer (some ⟨w.heap.size, 0, none⟩), .int .u64 150] 144)).alloc (.cells #[.pointer (some ⟨1, 112, none⟩), .pointer (some ⟨w.heap.size, 0, none⟩), .int .u64 150] 144)) (by rw [World.cell?_alloc_lt _ _ ⟨w.heap.size, 0, none⟩ (by simp; omega)]; simp)
  have st := as_setE t ⟨w.heap.size + 1 + 1 + 1, 0, none⟩ x old ((((w.alloc (.cells #[.pointer (some t)] 112)).alloc (.cells #[.pointer (some ⟨1, 112, none⟩), .pointer (some ⟨w.heap.size, 0, none⟩), .int .u64 150] 144)).alloc (.cells #[.pointer (some ⟨1, 112, none⟩), .pointer (some ⟨w.heap.size, 0, none⟩), .int .u64 150] 144)).alloc (.cells #[.int .i64 x] 101))
    (by rw [World.cell?_alloc_at _ _ _ _ (by simp)]; rfl)
    (by rw [World.cell?_alloc_lt _ _ t (by simp; omega), World.cell?_alloc_lt _ _ t (by simp; omega), World.cell?_alloc_lt _ _ t (by simp; omega), World.cell?_alloc_lt _ _ t htl]; exact ht0)
    (by rw [World.frozen?_alloc_old _ _ t (by simp; omega), World.frozen?_alloc_old _ _ t (by simp; omega), World.frozen?_alloc_old _ _ t (by simp; omega), World.frozen?_alloc_old _ _ t (Nat.ne_of_lt htl)]; exact hf0)
  go_enter Tryz.func31, Tryz.ntmps31
  go_wp2
  refine wp_loop_rounds 1 ?_
  rw [rounds_succ]
  go_wp2
  go_ret
  exact ⟨rfl, rfl⟩
end Go.Proofs.YtbafipjiaeoinaaGreatDoor
