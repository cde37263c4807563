/- BuildPlaces: the walk. -/
import Derived.Test.YtbafipjiaeoinaaGreatDoorOwnShelf33
import Derived.Test.YtbafipjiaeoinaaGreatDoorOwnShelf34
import Derived.Test.YtbafipjiaeoinaaGreatDoorOwnShelf35
import Derived.Test.YtbafipjiaeoinaaGreatDoorOwnShelf09
namespace Go.Proofs.YtbafipjiaeoinaaGreatDoor
open Go.RowKit

/-- A state that came in. -/
structure StIn (w : World) (s : Sv) (p : Pl) : Prop where
  at_ : SvAt w s p
  pn : s.pn ≤ 140737488355328
  hn : s.hn ≤ 140737488355328
  ks : ∀ i, i < s.hn → (s.H i).n ≤ 140737488355328
theorem szPtr (z : Nat → Int) (n : Int) : (Tryz.prog.info? 25).map (·.size) = some (ptl z n).length := by rw [ptl_length]; kernel_rfl
theorem build_Pm (P : Pm) (w : World) : (Instr.build 40 #[(0, .agg (ptl P.pt P.n).toArray), (1, .int .i64 P.am), (2, .agg #[.int .i64 P.k0, .int .i64 P.k1]), (3, .int .i64 P.dl), (4, .int .i64 P.fe)]).run Tryz.prog w = .ok (.agg (pmv P)) w := by kernel_rfl
theorem wpList_buildPm {ops : Array Oper} {rest : List Oper} {o : Oper} {a : Act} {w : World} {Q : Exit → Act → World → Prop} (P : Pm) (hgd : o.guard = none) (x0 x1 x2 x3 x4 : Operand) (ho : o.op = .build 40 #[(0, x0), (1, x1), (2, x2), (3, x3), (4, x4)]) (h0 : a.eval x0 = .agg (ptl P.pt P.n).toArray) (h1 : a.eval x1 = .int .i64 P.am) (h2 : a.eval x2 = .agg #[.int .i64 P.k0, .int .i64 P.k1]) (h3 : a.eval x3 = .int .i64 P.dl) (h4 : a.eval x4 = .int .i64 P.fe)
    (h : wpList Tryz.prog ops Q rest (a.put o.dst (.agg (pmv P))) w) : wpList Tryz.prog ops Q (o :: rest) a w := by
  refine wpList_plain hgd fun K hK => ?_
  unfold Oper.wp execOp
  simp only [ho, List.map_toArray, List.map_cons, List.map_nil, h0, h1, h2, h3, h4, Sem.run_bind, build_Pm, Result.andThen]
  exact hK _ _ h
set_option maxRecDepth 100000 in
set_option maxHeartbeats 1600000 in
theorem giveParams_any (P : Pm) (w : World) :
    Calls Tryz.prog 9 #[.agg (pmv P)] w fun e w' => e = .returned (.agg (pmv P)) ∧ Below w.heap.size w w' := by
  go_enter Tryz.func9, Tryz.ntmps9
  go_upto_region 1 with (first | (refine wpList_boxN rfl _ _ rfl (pmv P) rfl ?_; intro v1 N1) | (refine wpList_allocN 40 (pmv ⟨nz, 0, 0, 0, 0, 0, 0⟩) run_allocPm rfl rfl ?_; intro v2 N2) | fail)
  have hr := pml_range (N2.old N1.blk)
  have HPT := hidV (pm_pt hr)
  have hpm := pmBox hr
  have c33 : v2.cell? ⟨w.heap.size, 33, none⟩ = some (.int .i64 P.am) := by simpa using hpm.am
  have c34 : v2.cell? ⟨w.heap.size, 34, none⟩ = some (.int .i64 P.k0) := by simpa using hpm.k0
  have c35 : v2.cell? ⟨w.heap.size, 35, none⟩ = some (.int .i64 P.k1) := by simpa using hpm.k1
  have c36 : v2.cell? ⟨w.heap.size, 36, none⟩ = some (.int .i64 P.dl) := by simpa using hpm.dl
  have c37 : v2.cell? ⟨w.heap.size, 37, none⟩ = some (.int .i64 P.fe) := by simpa using hpm.fe
  have HB := hidV (And.intro N2.blk (And.intro (Below.transS N1.below N2.below) (show w.heap.size ≤ v1.heap.size from N1.below.size)))
  clear hr hpm N1 N2
  go_wp2_with (first | (refine wpList_load_mid rfl 25 _ rfl w.heap.size 0 rfl (ptl P.pt P.n) _ HPT.out Tryz.underlying25 rfl (szPtr _ _) ?_) | (refine wpList_buildPm P rfl _ _ _ _ _ rfl rfl rfl rfl rfl rfl ?_) | (refine wpList_storeG 40 szPm rfl _ _ rfl v1.heap.size rfl (pmv P) (pmv ⟨nz, 0, 0, 0, 0, 0, 0⟩) (pmv_size _) (pmv_size _) (all_oneCell_toArray (pml_one _)) 40 rfl HB.out.1 ?_; intro v3 hg3 hf3) | fail)
  refine bodyPost_ret (results_cell_row Tryz.results9 _ v3 v1.heap.size 40 _ (0, 0) _ rfl hg3 Tryz.underlying40 rfl (by rw [pmv_size]; exact szPm)) rfl ⟨rfl, HB.out.2.1.trans (hf3.below HB.out.2.1.size (by have := HB.out.2.2; simp; omega))⟩
/-- Places' numbers are numbers. -/
theorem outsZ_ib {P : Pm} {o : Int} {s : Sv} (hs : SOk s) : ∀ x ∈ outsZ (cm0 P o nz) s s.hn, Ib x.1 ∧ Ib x.2 := by
  intro x hx
  simp only [outsZ, paysZ, sideZ, ifL, List.mem_append, List.mem_map, List.mem_range] at hx
  rcases hx with ((hx | hx) | ⟨i, hi, rfl⟩) | ⟨i, hi, rfl⟩
  · split at hx
    · obtain rfl := by simpa using hx
      constructor <;> simp [Ib]
    · simp at hx
  · split at hx
    · obtain rfl := by simpa using hx
      constructor <;> simp [Ib]
    · simp at hx
  · have h0 : ∀ j, j < s.pn → -1 < (s.P j).id := fun j => by
      induction j with
      | zero => intro hj; have := (hs.2.1.2.1 0 hj).1; simpa [lastP] using this
      | succ j ih => intro hj; have h5 := (hs.2.1.2.1 (j + 1) hj).1; have h6 := ih (by omega); rw [lastP_succ] at h5; omega
    have h1 := (hs.2.1.2.1 i hi).2.1
    have h2 := h0 i hi
    constructor
    · simp [Ib]
    · unfold Ib; simp only; omega
  · have h0 : ∀ j, j < s.hn → -1 < (s.H j).id := fun j => by
      induction j with
      | zero => intro hj; have := (hs.2.1.2.2 0 hj).1; simpa [lastH] using this
      | succ j ih => intro hj; have h5 := (hs.2.1.2.2 (j + 1) hj).1; have h6 := ih (by omega); rw [lastH_succ] at h5; omega
    have h1 := (hs.2.1.2.2 i hi).2.1
    have h2 := h0 i hi
    constructor
    · simp [Ib]
    · unfold Ib; simp only; omega
/-- What is loaded of a place. -/
theorem szPlS (zs : List (Int × Int)) (i : Nat) : (Tryz.prog.info? 71).map (·.size) = some (pL zs i).length := by
  show _ = some 2
  kernel_rfl
theorem szPlR (zs : List (Int × Int)) (i : Nat) : (Tryz.prog.info? 72).map (·.size) = some (pL zs i).length := by
  show _ = some 2
  kernel_rfl
theorem guardPl : Tryz.prog.eqGuardType Tryz.prog.depth 71 = false := by kernel_rfl
theorem exec_nePl {a : Act} {o : Oper} (x y : Operand) (ho : o.op = .binOp .neq 71 x y 71) {p q : Int} (hp : Ib p) (hq : Ib q) (hx : a.eval x = .agg #[.int .i64 p, .int .i64 q]) (hy : a.eval y = .agg #[.int .i64 p, .int .i64 q]) (w : World) :
    (execOp a.eval o).run Tryz.prog w = .ok (.value (.bool false)) w := by
  have e1 := nePl hp hq w
  unfold execOp
  simp only [ho, hx, hy, Sem.run_bind, run_eqGuard_agg w .neq 71 x y _ _ guardPl, e1, Result.andThen_ok, Sem.run_pure]
theorem getD_ib {zs : List (Int × Int)} (h : ∀ x ∈ zs, Ib x.1 ∧ Ib x.2) (i : Nat) (hi : i < zs.length) : Ib (zs.getD i (0, 0)).1 ∧ Ib (zs.getD i (0, 0)).2 := by
  have e : zs.getD i (0, 0) = zs[i] := by simp [List.getD, List.getElem?_eq_getElem hi]
  rw [e]
  exact h _ (List.getElem_mem hi)
set_option maxRecDepth 100000 in
set_option maxHeartbeats 3200000 in
theorem lplaces_any (P : Pm) (s : Sv) (p : Pl) (o : Int) (w : World) (hg : Cd.Glob w) (h : StIn w s p) :
    Calls Tryz.prog 5 #[.agg (pmv P), .agg (svv s p), .int .i64 o] w fun e w' => e = .returned (.bool true) ∧ Below w.heap.size w w' := by
  have HH := hidV (And.intro h hg)
  clear h hg
  go_enter Tryz.func5, Tryz.ntmps5
  go_upto_region 1 with (first | (refine wpList_boxN rfl _ _ rfl (pmv P) rfl ?_; intro v1 N1) | (refine wpList_boxN rfl _ _ rfl (svv s p) rfl ?_; intro v4 N2) | fail)
  have HX : Hid (Below w.heap.size w v4 ∧ (∀ w' : World, Below v4.heap.size v4 w' → w'.rangeAt w.heap.size 0 (pml P) ∧ w'.rangeAt v1.heap.size 0 (svv s p).toList)) :=
    ⟨Below.transS N1.below N2.below, fun w' hb => ⟨pml_range (heap_below hb (N2.old N1.blk)), sv_range (heap_below hb N2.blk)⟩⟩
  clear N1 N2
  generalize v1.heap.size = bs at *
  have HS4 := hidV (HX.out.2 v4 (Below.refl _ _)).2
  go_wp2_with (first | (refine wpList_load_mid rfl 32 _ rfl bs 0 rfl (svv s p).toList _ HS4.out Tryz.underlying32 rfl szSr ?_) | fail)
  refine (long_any s p v4 (HH.out.1.at_.below HX.out.1) HH.out.1.pn HH.out.1.hn HH.out.1.ks).mono ?_
  rintro e v5 ⟨rfl, hb5⟩
  have HB5 := hidV hb5
  clear hb5 HS4
  by_cases hl : lngS s = true
  · rw [hl]
    clear hl
    go_wp2_with fail
    refine (sure_any v5).mono ?_
    rintro e v6 ⟨rfl, hb6⟩
    have HE : Hid (Below w.heap.size w v6) := Below.transS (Below.transS HX.out.1 HB5.out) hb6
    clear hb6
    go_wp2
    go_ret
    exact ⟨rfl, HE.out⟩
  · have hlf : lngS s = false := by simpa using hl
    have HSM := hidV (lngS_no hlf)
    rw [hlf]
    clear hl hlf
    have HS : Hid (∀ w' : World, Below v5.heap.size v5 w' → w'.rangeAt w.heap.size 0 (pml P) ∧ w'.rangeAt bs 0 (svv s p).toList) := fun w' hb => HX.out.2 w' (Below.transS HB5.out hb)
    have HST : Hid (∀ w' : World, Below v5.heap.size v5 w' → SvAt w' s p) := fun w' hb => ((HH.out.1.at_.below HX.out.1).below HB5.out).below hb
    go_upto_region 3 with fail
    refine wp_region_noPanic ?_
    refine wp_region_held_drew (S := fun w' => w'.rangeAt w.heap.size 0 (pml P) ∧ w'.rangeAt bs 0 (svv s p).toList) (by kernel_rfl) (HS.out v5.drew (Below.refl _ _).drew) (fun hHeld => ?_)
    have HB6 : Hid (Below v5.heap.size v5 v5.drew) := (Below.refl _ _).drew
    generalize v5.drew = v6 at *
    refine wpAnyH_take (i := 4) (oi := { dst := some 20, op := Go.Op.move (Go.Operand.tmp 2), type := 3, pos := "law.go:299", after := #[], guard := none }) (v := ?_) rfl (by kernel_rfl) (by kernel_rfl) (by kernel_rfl) (fun _ _ _ h => h) (Or.inl ⟨by rfl, ?_⟩) (by assumption) ?_
    rotate_left
    · intro wz hSw; (try dsimp only at hSw); go_simp; (try with_reducible rfl)
    try simp only [Act.put, List.setIfInBounds_toArray, List.set_cons_zero, List.set_cons_succ]
    refine wpAnyH_take (i := 0) (oi := { dst := some 16, op := Go.Op.load 28 (Go.Operand.tmp 3), type := 28, pos := "law.go:299", after := #[], guard := none }) rfl (by kernel_rfl) (by kernel_rfl) (by kernel_rfl) (fun _ _ _ h => h) (yieldsIf_load_mid (by rfl) _ _ rfl w.heap.size 0 rfl (pml P) _ (fun _ h => h.1) Tryz.underlying28 rfl (szPmrl P)) (by assumption) ?_
    try simp only [Act.put, List.setIfInBounds_toArray, List.set_cons_zero, List.set_cons_succ]
    refine wpAnyH_take (i := 2) (oi := { dst := some 18, op := Go.Op.load 32 (Go.Operand.tmp 4), type := 32, pos := "law.go:299", after := #[], guard := none }) rfl (by kernel_rfl) (by kernel_rfl) (by kernel_rfl) (fun _ _ _ h => h) (yieldsIf_load_mid (by rfl) _ _ rfl bs 0 rfl (svv s p).toList _ (fun _ h => h.2) Tryz.underlying32 rfl szSr) (by assumption) ?_
    try simp only [Act.put, List.setIfInBounds_toArray, List.set_cons_zero, List.set_cons_succ]
    refine wpAnyH_ready (rs := [1]) (by kernel_rfl) (by simp) ?_
    refine (AllReadyH.cons (o := { dst := some 17, op := Go.Op.call { callee := Go.Callee.value (Go.Operand.func 9), args := #[Go.Operand.tmp 16], argTypes := #[28] }, type := 40, pos := "law.go:299", after := #[{ on := 0, ground := Go.Ground.data }], guard := none }) rfl (fun K hK => ?_) AllReadyH.nil)
    go_simp
    refine (giveParams_any P v6).mono ?_
    rintro e v7 ⟨rfl, hb7⟩
    have HB7 : Hid (Below v5.heap.size v5 v7) := Below.transS HB6.out hb7
    clear hb7
    refine hK.out _ _ (HS.out v7 HB7.out) (fun _ => ?_)
    clear hK K
    try simp only [Act.put, List.setIfInBounds_toArray, List.set_cons_zero, List.set_cons_succ]
    refine wpAnyH_ready (rs := [3]) (by kernel_rfl) (by simp) ?_
    refine (AllReadyH.cons (o := { dst := some 19, op := Go.Op.call { callee := Go.Callee.value (Go.Operand.func 10), args := #[Go.Operand.tmp 18], argTypes := #[32] }, type := 45, pos := "law.go:299", after := #[{ on := 2, ground := Go.Ground.data }, { on := 1, ground := Go.Ground.chain }], guard := none }) rfl (fun K hK => ?_) AllReadyH.nil)
    go_simp
    refine (give_any s p v7 (HST.out v7 HB7.out) HSM.out).mono ?_
    rintro e v8 ⟨⟨p', A, rfl, hO⟩, hb8⟩
    have HB8 : Hid (Below v5.heap.size v5 v8 ∧ SvAt v8 s p') := ⟨Below.transS HB7.out hb8, hO.at⟩
    clear hb8 hO
    refine hK.out _ _ (HS.out v8 HB8.out.1) (fun _ => ?_)
    clear hK K
    try simp only [Act.put, List.setIfInBounds_toArray, List.set_cons_zero, List.set_cons_succ]
    refine wpAnyH_ready (rs := [5]) (by kernel_rfl) (by simp) ?_
    refine (AllReadyH.cons (o := { dst := some 21, op := Go.Op.call { callee := Go.Callee.value (Go.Operand.func 13), args := #[Go.Operand.tmp 17, Go.Operand.tmp 19, Go.Operand.tmp 20], argTypes := #[40, 45, 3] }, type := 62, pos := "law.go:299", after := #[{ on := 1, ground := Go.Ground.data }, { on := 3, ground := Go.Ground.data }, { on := 4, ground := Go.Ground.data }, { on := 3, ground := Go.Ground.chain }], guard := none }) rfl (fun K hK => ?_) AllReadyH.nil)
    go_simp
    refine (places_any P s p' o v8 HB8.out.2 HSM.out).mono ?_
    intro e v9 hR
    have HB9 : Hid (Below v5.heap.size v5 v9) := Below.transS HB8.out.1 hR.below
    have HP8 : Hid (Below v8.heap.size v8 v9) := hR.below
    by_cases h0 : ownE P s o = 0
    · obtain ⟨ua, uc, rfl, hpl⟩ := hR.ok h0
      have HR9 := hidV (And.intro hpl h0)
      clear hR hpl h0
      refine hK.out _ _ (HS.out v9 HB9.out) (fun _ => ?_)
      clear hK K
      try simp only [Act.put, List.setIfInBounds_toArray, List.set_cons_zero, List.set_cons_succ]
      refine wpAnyH_take (i := 6) (oi := { dst := some 15, op := Go.Op.move (Go.Operand.tmp 21), type := 62, pos := "law.go:299", after := #[{ on := 5, ground := Go.Ground.data }], guard := none }) (v := ?_) rfl (by kernel_rfl) (by kernel_rfl) (by kernel_rfl) (fun _ _ _ h => h) (Or.inl ⟨by rfl, ?_⟩) (by assumption) ?_
      rotate_left
      · intro wz hSw; (try dsimp only at hSw); go_simp; (try with_reducible rfl)
      try simp only [Act.put, List.setIfInBounds_toArray, List.set_cons_zero, List.set_cons_succ]
      refine wpAnyH_take (i := 7) (oi := { dst := some 22, op := Go.Op.extract (Go.Operand.tmp 15) 0, type := 61, pos := "law.go:299", after := #[{ on := 6, ground := Go.Ground.data }], guard := none }) (v := ?_) rfl (by kernel_rfl) (by kernel_rfl) (by kernel_rfl) (fun _ _ _ h => h) (Or.inl ⟨by rfl, ?_⟩) (by assumption) ?_
      rotate_left
      · intro wz hSw; (try dsimp only at hSw); go_simp; (try with_reducible rfl)
      try simp only [Act.put, List.setIfInBounds_toArray, List.set_cons_zero, List.set_cons_succ]
      refine wpAnyH_take (i := 8) (oi := { dst := some 23, op := Go.Op.extract (Go.Operand.tmp 15) 1, type := 52, pos := "law.go:299", after := #[{ on := 6, ground := Go.Ground.data }, { on := 9, ground := Go.Ground.gcOnly Go.Departure.lateStores }], guard := none }) (v := ?_) rfl (by kernel_rfl) (by kernel_rfl) (by kernel_rfl) (fun _ _ _ h => h) (Or.inl ⟨by rfl, ?_⟩) (by assumption) ?_
      rotate_left
      · intro wz hSw; (try dsimp only at hSw); go_simp; (try with_reducible rfl)
      try simp only [Act.put, List.setIfInBounds_toArray, List.set_cons_zero, List.set_cons_succ]
      refine wpAnyH_take (i := 9) (oi := { dst := some 7, op := Go.Op.assign (Go.Operand.tmp 22), type := 61, pos := "law.go:299", after := #[{ on := 7, ground := Go.Ground.data }, { on := 5, ground := Go.Ground.chain }, { on := 0, ground := Go.Ground.phase }, { on := 1, ground := Go.Ground.phase }, { on := 2, ground := Go.Ground.phase }, { on := 3, ground := Go.Ground.phase }, { on := 4, ground := Go.Ground.phase }, { on := 5, ground := Go.Ground.phase }, { on := 6, ground := Go.Ground.phase }, { on := 7, ground := Go.Ground.phase }, { on := 8, ground := Go.Ground.textOnly Go.Departure.lateStores }], guard := none }) (v := ?_) rfl (by kernel_rfl) (by kernel_rfl) (by kernel_rfl) (fun _ _ _ h => h) (Or.inl ⟨by rfl, ?_⟩) (by assumption) ?_
      rotate_left
      · intro wz hSw; (try dsimp only at hSw); go_simp; (try with_reducible rfl)
      try simp only [Act.put, List.setIfInBounds_toArray, List.set_cons_zero, List.set_cons_succ]
      refine wpAnyH_take (i := 10) (oi := { dst := some 8, op := Go.Op.assign (Go.Operand.tmp 23), type := 52, pos := "law.go:299", after := #[{ on := 8, ground := Go.Ground.data }, { on := 9, ground := Go.Ground.chain }, { on := 0, ground := Go.Ground.phase }, { on := 1, ground := Go.Ground.phase }, { on := 2, ground := Go.Ground.phase }, { on := 3, ground := Go.Ground.phase }, { on := 4, ground := Go.Ground.phase }, { on := 5, ground := Go.Ground.phase }, { on := 6, ground := Go.Ground.phase }, { on := 7, ground := Go.Ground.phase }, { on := 8, ground := Go.Ground.phase }, { on := 9, ground := Go.Ground.phase }], guard := none }) (v := ?_) rfl (by kernel_rfl) (by kernel_rfl) (by kernel_rfl) (fun _ _ _ h => h) (Or.inl ⟨by rfl, ?_⟩) (by assumption) ?_
      rotate_left
      · intro wz hSw; (try dsimp only at hSw); go_simp; (try with_reducible rfl)
      try simp only [Act.put, List.setIfInBounds_toArray, List.set_cons_zero, List.set_cons_succ]
      refine wpAnyH_done (by kernel_rfl) (NoPanic.normal ?_) _
      try simp only [Act.put, List.setIfInBounds_toArray, List.set_cons_zero, List.set_cons_succ]
      clear hHeld
      have HS9 := hidV (HS.out v9 HB9.out)
      go_wp2_with (first | (refine wpList_load_mid rfl 28 _ rfl w.heap.size 0 rfl (pml P) _ HS9.out.1 Tryz.underlying28 rfl (szPmrl P) ?_) | (refine wpList_load_mid rfl 32 _ rfl bs 0 rfl (svv s p).toList _ HS9.out.2 Tryz.underlying32 rfl szSr ?_) | fail)
      refine (rplaces_any P s p o v9 (HST.out v9 HB9.out) HSM.out).mono ?_
      intro e v10 hR
      obtain ⟨ub, ud, rfl, hpl2⟩ := hR.ok HR9.out.2
      have HE10 : Hid (Below w.heap.size w v10) := Below.transS (Below.transS (Below.transS HX.out.1 HB5.out) HB9.out) hR.below
      have HG10 := hidV (HH.out.2.below HE10.out HH.out.2.pos)
      have HPL := hidV (And.intro (HR9.out.1.below hR.below) hpl2)
      have HIB := hidV (outsZ_ib (P := P) (o := o) (ownE_ok HR9.out.2).1)
      have hlen : (outsZ (cm0 P o nz) s s.hn).length ≤ 1000 := by
        have h1 := (outsO_len (cm0 P o nz) s s.hn).2
        have h2 := HSM.out.n
        omega
      clear hR hpl2 HR9 HS9
      generalize outsZ (cm0 P o nz) s s.hn = zs at *
      go_wp2_with fail
      refine (Cd.num_nil v10).mono ?_
      rintro e v11 ⟨rfl, hb11⟩
      have HE11 : Hid (Below w.heap.size w v11) := Below.transS HE10.out hb11
      have HP11 : Hid (PlAt v11 ua zs ∧ PlAt v11 ub zs) := ⟨HPL.out.1.below hb11, HPL.out.2.below hb11⟩
      clear hb11 HPL HG10
      go_wp2
      go_loopw [6, 11] (fun _ iv wr => ∃ i : Nat, i ≤ zs.length ∧ iv = .int .i64 i ∧ Below v11.heap.size v11 wr) (fun _ iv _ => zs.length + 1 - (intOf iv).toNat)
      case atStart => exact ⟨0, by omega, rfl, Below.refl _ _⟩
      case round =>
        obtain ⟨i, hi, rfl, hb⟩ := hrel
        have HB := hidV hb
        clear hb
        by_cases hlt : i < zs.length
        · have hlt' : (i : Int) < zs.length := by omega
          obtain ⟨ba, rfl, hra⟩ := HP11.out.1 (by omega)
          obtain ⟨bb, rfl, hrb⟩ := HP11.out.2 (by omega)
          have HW : Hid (wr.rangeAt ba (i * 2) (pL zs i) ∧ wr.rangeAt bb (i * 2) (pL zs i)) := ⟨range_below (hra i hlt) HB.out, range_below (hrb i hlt) HB.out⟩
          clear hra hrb
          go_wp2_with fail
          refine wp_region_noPanic ?_
          refine wp_region_held_drew (S := fun w' => w'.rangeAt ba (i * 2) (pL zs i) ∧ w'.rangeAt bb (i * 2) (pL zs i)) (by kernel_rfl) ⟨range_below HW.out.1 (Below.refl _ _).drew, range_below HW.out.2 (Below.refl _ _).drew⟩ (fun hHeld => ?_)
          have HBd : Hid (Below v11.heap.size v11 wr.drew) := Below.transS HB.out (Below.refl _ _).drew
          generalize wr.drew = wd at *
          refine wpAnyH_take (i := 0) (oi := { dst := some 48, op := Go.Op.move (Go.Operand.tmp 7), type := 61, pos := "law.go:305", after := #[], guard := none }) (v := ?_) rfl (by kernel_rfl) (by kernel_rfl) (by kernel_rfl) (fun _ _ _ h => h) (Or.inl ⟨by rfl, ?_⟩) (by assumption) ?_
          rotate_left
          · intro wz hSw; (try dsimp only at hSw); go_simp; (try with_reducible rfl)
          try simp only [Act.put, List.setIfInBounds_toArray, List.set_cons_zero, List.set_cons_succ]
          refine wpAnyH_take (i := 1) (oi := { dst := some 49, op := Go.Op.move (Go.Operand.tmp 11), type := 3, pos := "law.go:305", after := #[], guard := none }) (v := ?_) rfl (by kernel_rfl) (by kernel_rfl) (by kernel_rfl) (fun _ _ _ h => h) (Or.inl ⟨by rfl, ?_⟩) (by assumption) ?_
          rotate_left
          · intro wz hSw; (try dsimp only at hSw); go_simp; (try with_reducible rfl)
          try simp only [Act.put, List.setIfInBounds_toArray, List.set_cons_zero, List.set_cons_succ]
          refine wpAnyH_take (i := 2) (oi := { dst := some 50, op := Go.Op.indexAddr 61 (Go.Operand.tmp 48) (Go.Operand.tmp 49), type := 0, pos := "law.go:305", after := #[{ on := 0, ground := Go.Ground.data }, { on := 1, ground := Go.Ground.data }], guard := none }) (v := ?_) rfl (by kernel_rfl) (by kernel_rfl) (by kernel_rfl) (fun _ _ _ h => h) (Or.inl ⟨by rfl, ?_⟩) (by assumption) ?_
          rotate_left
          · intro wz hSw; (try dsimp only at hSw); go_simp; (try with_reducible rfl)
          try simp only [Act.put, List.setIfInBounds_toArray, List.set_cons_zero, List.set_cons_succ]
          refine wpAnyH_take (i := 4) (oi := { dst := some 52, op := Go.Op.move (Go.Operand.tmp 9), type := 64, pos := "law.go:305", after := #[], guard := none }) (v := ?_) rfl (by kernel_rfl) (by kernel_rfl) (by kernel_rfl) (fun _ _ _ h => h) (Or.inl ⟨by rfl, ?_⟩) (by assumption) ?_
          rotate_left
          · intro wz hSw; (try dsimp only at hSw); go_simp; (try with_reducible rfl)
          try simp only [Act.put, List.setIfInBounds_toArray, List.set_cons_zero, List.set_cons_succ]
          refine wpAnyH_take (i := 5) (oi := { dst := some 53, op := Go.Op.move (Go.Operand.tmp 11), type := 3, pos := "law.go:305", after := #[], guard := none }) (v := ?_) rfl (by kernel_rfl) (by kernel_rfl) (by kernel_rfl) (fun _ _ _ h => h) (Or.inl ⟨by rfl, ?_⟩) (by assumption) ?_
          rotate_left
          · intro wz hSw; (try dsimp only at hSw); go_simp; (try with_reducible rfl)
          try simp only [Act.put, List.setIfInBounds_toArray, List.set_cons_zero, List.set_cons_succ]
          refine wpAnyH_take (i := 6) (oi := { dst := some 54, op := Go.Op.indexAddr 64 (Go.Operand.tmp 52) (Go.Operand.tmp 53), type := 0, pos := "law.go:305", after := #[{ on := 4, ground := Go.Ground.data }, { on := 5, ground := Go.Ground.data }], guard := none }) (v := ?_) rfl (by kernel_rfl) (by kernel_rfl) (by kernel_rfl) (fun _ _ _ h => h) (Or.inl ⟨by rfl, ?_⟩) (by assumption) ?_
          rotate_left
          · intro wz hSw; (try dsimp only at hSw); go_simp; (try with_reducible rfl)
          try simp only [Act.put, List.setIfInBounds_toArray, List.set_cons_zero, List.set_cons_succ]
          refine wpAnyH_take (i := 3) (oi := { dst := some 51, op := Go.Op.load 71 (Go.Operand.tmp 50), type := 71, pos := "law.go:305", after := #[{ on := 2, ground := Go.Ground.data }], guard := none }) rfl (by kernel_rfl) (by kernel_rfl) (by kernel_rfl) (fun _ _ _ h => h) (yieldsIf_load_mid (by rfl) _ _ rfl ba (i * 2) rfl (pL zs i) _ (fun _ h => h.1) Tryz.underlying71 rfl (szPlS zs i)) (by assumption) ?_
          try simp only [Act.put, List.setIfInBounds_toArray, List.set_cons_zero, List.set_cons_succ]
          refine wpAnyH_take (i := 7) (oi := { dst := some 55, op := Go.Op.load 72 (Go.Operand.tmp 54), type := 72, pos := "law.go:305", after := #[{ on := 6, ground := Go.Ground.data }], guard := none }) rfl (by kernel_rfl) (by kernel_rfl) (by kernel_rfl) (fun _ _ _ h => h) (yieldsIf_load_mid (by rfl) _ _ rfl bb (i * 2) rfl (pL zs i) _ (fun _ h => h.2) Tryz.underlying72 rfl (szPlR zs i)) (by assumption) ?_
          try simp only [Act.put, List.setIfInBounds_toArray, List.set_cons_zero, List.set_cons_succ]
          refine wpAnyH_take (i := 8) (oi := { dst := some 56, op := Go.Op.binOp Go.BinOp.neq 71 (Go.Operand.tmp 51) (Go.Operand.tmp 55) 71, type := 4, pos := "law.go:305", after := #[{ on := 3, ground := Go.Ground.data }, { on := 7, ground := Go.Ground.data }], guard := none }) (v := .bool false) rfl (by kernel_rfl) (by kernel_rfl) (by kernel_rfl) (fun _ _ _ h => h) (Or.inl ⟨by rfl, ?_⟩) (by assumption) ?_
          · intro wz hSw; (try dsimp only at hSw); exact exec_nePl _ _ rfl (getD_ib HIB.out i hlt).1 (getD_ib HIB.out i hlt).2 rfl rfl wz
          try simp only [Act.put, List.setIfInBounds_toArray, List.set_cons_zero, List.set_cons_succ]
          refine wpAnyH_done (by kernel_rfl) (NoPanic.normal ?_) _
          try simp only [Act.put, List.setIfInBounds_toArray, List.set_cons_zero, List.set_cons_succ]
          clear hHeld
          go_wp2
          go_roundw
          case rel => exact ⟨i + 1, by omega, by go_num, HBd.out⟩
          case measure => simp [intOf]; omega
        · obtain rfl : i = zs.length := by omega
          have hnn : ¬ ((zs.length : Int) < zs.length) := by omega
          go_wp2_with fail
          refine (sure_any wr).mono ?_
          rintro e v12 ⟨rfl, hb12⟩
          have HE12 : Hid (Below w.heap.size w v12) := Below.transS (Below.transS HE11.out HB.out) hb12
          clear hb12
          go_wp2
          go_ret
          exact ⟨rfl, HE12.out⟩
    · have hr := hR.bad h0
      subst hr
      have HR9 := hidV h0
      clear hR h0
      refine hK.out _ _ (HS.out v9 HB9.out) (fun _ => ?_)
      clear hK K
      try simp only [Act.put, List.setIfInBounds_toArray, List.set_cons_zero, List.set_cons_succ]
      refine wpAnyH_take (i := 6) (oi := { dst := some 15, op := Go.Op.move (Go.Operand.tmp 21), type := 62, pos := "law.go:299", after := #[{ on := 5, ground := Go.Ground.data }], guard := none }) (v := ?_) rfl (by kernel_rfl) (by kernel_rfl) (by kernel_rfl) (fun _ _ _ h => h) (Or.inl ⟨by rfl, ?_⟩) (by assumption) ?_
      rotate_left
      · intro wz hSw; (try dsimp only at hSw); go_simp; (try with_reducible rfl)
      try simp only [Act.put, List.setIfInBounds_toArray, List.set_cons_zero, List.set_cons_succ]
      refine wpAnyH_take (i := 7) (oi := { dst := some 22, op := Go.Op.extract (Go.Operand.tmp 15) 0, type := 61, pos := "law.go:299", after := #[{ on := 6, ground := Go.Ground.data }], guard := none }) (v := ?_) rfl (by kernel_rfl) (by kernel_rfl) (by kernel_rfl) (fun _ _ _ h => h) (Or.inl ⟨by rfl, ?_⟩) (by assumption) ?_
      rotate_left
      · intro wz hSw; (try dsimp only at hSw); go_simp; (try with_reducible rfl)
      try simp only [Act.put, List.setIfInBounds_toArray, List.set_cons_zero, List.set_cons_succ]
      refine wpAnyH_take (i := 8) (oi := { dst := some 23, op := Go.Op.extract (Go.Operand.tmp 15) 1, type := 52, pos := "law.go:299", after := #[{ on := 6, ground := Go.Ground.data }, { on := 9, ground := Go.Ground.gcOnly Go.Departure.lateStores }], guard := none }) (v := ?_) rfl (by kernel_rfl) (by kernel_rfl) (by kernel_rfl) (fun _ _ _ h => h) (Or.inl ⟨by rfl, ?_⟩) (by assumption) ?_
      rotate_left
      · intro wz hSw; (try dsimp only at hSw); go_simp; (try with_reducible rfl)
      try simp only [Act.put, List.setIfInBounds_toArray, List.set_cons_zero, List.set_cons_succ]
      refine wpAnyH_take (i := 9) (oi := { dst := some 7, op := Go.Op.assign (Go.Operand.tmp 22), type := 61, pos := "law.go:299", after := #[{ on := 7, ground := Go.Ground.data }, { on := 5, ground := Go.Ground.chain }, { on := 0, ground := Go.Ground.phase }, { on := 1, ground := Go.Ground.phase }, { on := 2, ground := Go.Ground.phase }, { on := 3, ground := Go.Ground.phase }, { on := 4, ground := Go.Ground.phase }, { on := 5, ground := Go.Ground.phase }, { on := 6, ground := Go.Ground.phase }, { on := 7, ground := Go.Ground.phase }, { on := 8, ground := Go.Ground.textOnly Go.Departure.lateStores }], guard := none }) (v := ?_) rfl (by kernel_rfl) (by kernel_rfl) (by kernel_rfl) (fun _ _ _ h => h) (Or.inl ⟨by rfl, ?_⟩) (by assumption) ?_
      rotate_left
      · intro wz hSw; (try dsimp only at hSw); go_simp; (try with_reducible rfl)
      try simp only [Act.put, List.setIfInBounds_toArray, List.set_cons_zero, List.set_cons_succ]
      refine wpAnyH_take (i := 10) (oi := { dst := some 8, op := Go.Op.assign (Go.Operand.tmp 23), type := 52, pos := "law.go:299", after := #[{ on := 8, ground := Go.Ground.data }, { on := 9, ground := Go.Ground.chain }, { on := 0, ground := Go.Ground.phase }, { on := 1, ground := Go.Ground.phase }, { on := 2, ground := Go.Ground.phase }, { on := 3, ground := Go.Ground.phase }, { on := 4, ground := Go.Ground.phase }, { on := 5, ground := Go.Ground.phase }, { on := 6, ground := Go.Ground.phase }, { on := 7, ground := Go.Ground.phase }, { on := 8, ground := Go.Ground.phase }, { on := 9, ground := Go.Ground.phase }], guard := none }) (v := ?_) rfl (by kernel_rfl) (by kernel_rfl) (by kernel_rfl) (fun _ _ _ h => h) (Or.inl ⟨by rfl, ?_⟩) (by assumption) ?_
      rotate_left
      · intro wz hSw; (try dsimp only at hSw); go_simp; (try with_reducible rfl)
      try simp only [Act.put, List.setIfInBounds_toArray, List.set_cons_zero, List.set_cons_succ]
      refine wpAnyH_done (by kernel_rfl) (NoPanic.normal ?_) _
      try simp only [Act.put, List.setIfInBounds_toArray, List.set_cons_zero, List.set_cons_succ]
      clear hHeld
      have HS9 := hidV (HS.out v9 HB9.out)
      go_wp2_with (first | (refine wpList_load_mid rfl 28 _ rfl w.heap.size 0 rfl (pml P) _ HS9.out.1 Tryz.underlying28 rfl (szPmrl P) ?_) | (refine wpList_load_mid rfl 32 _ rfl bs 0 rfl (svv s p).toList _ HS9.out.2 Tryz.underlying32 rfl szSr ?_) | fail)
      refine (rplaces_any P s p o v9 (HST.out v9 HB9.out) HSM.out).mono ?_
      intro e v10 hR
      have hr := hR.bad HR9.out
      subst hr
      have HE10 : Hid (Below w.heap.size w v10) := Below.transS (Below.transS (Below.transS HX.out.1 HB5.out) HB9.out) hR.below
      have HG10 := hidV (HH.out.2.below HE10.out HH.out.2.pos)
      clear hR HR9 HS9
      generalize ownE P s o = ec at *
      go_wp2_with fail
      refine (Cd.num_any ec v10 HG10.out).mono ?_
      rintro e v11 ⟨rfl, hb11⟩
      have HE11 : Hid (Below w.heap.size w v11) := Below.transS HE10.out hb11
      clear hb11
      go_wp2
      go_loopw [6, 11] (fun _ iv wr => iv = .int .i64 0 ∧ Below v11.heap.size v11 wr) (fun _ iv _ => 1 - (intOf iv).toNat)
      case atStart => exact ⟨rfl, Below.refl _ _⟩
      case round =>
        obtain ⟨rfl, hb⟩ := hrel
        have HB := hidV hb
        clear hb
        go_wp2_with fail
        refine (sure_any wr).mono ?_
        rintro e v12 ⟨rfl, hb12⟩
        have HE12 : Hid (Below w.heap.size w v12) := Below.transS (Below.transS HE11.out HB.out) hb12
        clear hb12
        go_wp2
        go_ret
        exact ⟨rfl, HE12.out⟩
end Go.Proofs.YtbafipjiaeoinaaGreatDoor
