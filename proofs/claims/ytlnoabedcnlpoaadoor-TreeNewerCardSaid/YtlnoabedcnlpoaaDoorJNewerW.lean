/- TreeNewer: the walk. -/
import Derived.Test.YtlnoabedcnlpoaaDoorJAll
import Derived.Test.YtlnoabedcnlpoaaDoorJNexts
namespace Go.Proofs.YtlnoabedcnlpoaaDoor
open Go.RowKit

/-- On the way: i paths have been gone through; L: those that were kept. -/
structure NwI (x : Tc) (k : Nat) (N : Int) (w0 : World) (pv av kv : Value) (wr : World) (i : Nat) (L : List Value) : Prop where
  kv : kv = .int .i64 (i : Int)
  n : (i : Int) ≤ N + 1
  most : i ≤ 120
  few : L.length ≤ i
  all : POw w0 wr av L
  kept : ∀ u ∈ L, Kept x k wr u (N - i)
  path : (i : Int) ≤ N → ∃ z, PthAt wr pv k z ∧ Ht x z k ∧ vl x z k = N - i
theorem isE_of {x : Tc} {k : Nat} {z : Nat → Int} (h0 : chkT x = 0) (hk : (k : Int) = x.dp) (hz : Ht x z k) : isE x z k = 0 := by
  unfold isE
  rw [if_neg (by simpa using h0), if_pos ⟨hk, hz⟩]
theorem leftF_of {x : Tc} {k : Nat} {z : Nat → Int} (h0 : chkT x = 0) (hk : (k : Int) = x.dp) (h3 : k ≤ 3) (hq : stp x x.fi ≤ 19) (hz : Ht x z k) : leftF x z k = vl x z k := by
  have hT := chkT_ok h0
  unfold leftF
  rw [if_pos (isE_of h0 hk hz)]
  exact left_vl hT.1 hT.2.1 k hz (fun i hi => by have := vl_few hT.1 hT.2.1 hq (n := i) (by omega) (hz.less hi); omega)
set_option maxRecDepth 100000 in
set_option maxHeartbeats 6400000 in
theorem newers_any (c : Tc) (ka : Option Addr) (kc : Nat) (w : World) (hg : Glob w) :
    Calls Tryd.prog 4 #[.agg (tcv c ka kc)] w fun e w' => e = .returned (.bool true) ∧ Below w.heap.size w w' := by
  have HG := hidV hg
  clear hg
  go_enter Tryd.func4, Tryd.ntmps4
  go_upto_region 1 with (first | (refine wpList_boxN rfl _ _ rfl (tcv c ka kc) rfl ?_; intro v1 N1) | fail)
  have HR1 := hidV (tcl_range N1.blk)
  have HB1 := hidV N1.below
  clear N1
  go_wp2_with (first | (refine wpList_loadR (by rfl) _ rfl w.heap.size rfl c ka kc HR1.out ?_) | fail)
  refine (small_any c ka kc v1).mono ?_
  rintro e v2 ⟨⟨d, l, s, f, kx, hS, rfl, hI2⟩, hb2⟩
  have HO : Hid (chkT (smT d l s f) = 0 ∧ stp (smT d l s f) (smT d l s f).fi ≤ 19 ∧ (smT d l s f).dp ≤ 3 ∧ 1 ≤ (smT d l s f).dp) := ⟨smT_ok hS, (smT_q hS).2, by show 1 + d ≤ 3; have := hS.d; omega, by show 1 ≤ 1 + d; have := hS.d; omega⟩
  generalize smT d l s f = x at *
  have HB2 := hidV (Below.transS HB1.out hb2)
  have HI2 := hidV hI2
  clear hb2 hI2 HR1 hS
  go_upto_region 2 with (first | (refine wpList_allocN 32 (tcv tc0 none 0) run_allocTc rfl rfl ?_; intro v3 N3) | (refine wpList_storeG 32 szT rfl _ _ rfl v2.heap.size rfl (tcv x kx 3) (tcv tc0 none 0) (tcv_size _ _ _) (tcv_size _ _ _) (all_oneCell_toArray (tcl_one _ _ _)) 32 rfl N3.blk ?_; intro v4 hg4 hf4) | fail)
  have HB4 : Hid (Below v2.heap.size v2 v4) := N3.below.trans (hf4.below N3.below.size (by simp))
  have HT : Hid (∀ w' : World, Below v4.heap.size v4 w' → w'.rangeAt v2.heap.size 0 (tcl x kx 3)) := fun w' hb => tcl_range (heap_below hb hg4)
  have HBW := hidV (Below.transS HB2.out HB4.out)
  have HI4 := hidV (HI2.out.below HB4.out)
  clear N3 hg4 hf4
  have HT4 := hidV (HT.out v4 (Below.refl _ _))
  go_wp2_with (first | (refine wpList_loadT (by rfl) _ rfl v2.heap.size rfl x kx 3 HT4.out ?_) | fail)
  refine (begin_any x kx 3 v4 HI4.out).mono ?_
  intro e v5 hE
  obtain ⟨g, k, hk, rfl, hA5⟩ := hE.ok HO.out.1
  have HK : Hid ((k : Int) = x.dp ∧ k ≤ 3 ∧ 1 ≤ k) := ⟨hk, by have := HO.out; omega, by have := HO.out; omega⟩
  have HB5 := hidV hE.below
  obtain ⟨cur5, hcur5⟩ := hE.typ _ _ _ _ rfl
  obtain ⟨cur5, hcur5⟩ := hE.typ _ _ _ _ rfl
  obtain ⟨cur5, hcur5⟩ := hE.typ _ _ _ _ rfl
  have HA5 := hidV hA5
  have HA5P : Hid (PthAt v5 (.slice (some ⟨g, 0, none⟩) k k) k (fun _ => x.fi)) := ⟨g, k, cur5, rfl, hcur5, hA5⟩
  have HA5P : Hid (PthAt v5 (.slice (some ⟨g, 0, none⟩) k k) k (fun _ => x.fi)) := ⟨g, k, cur5, rfl, hcur5, hA5⟩
  have HA5P : Hid (PthAt v5 (.slice (some ⟨g, 0, none⟩) k k) k (fun _ => x.fi)) := ⟨g, k, cur5, rfl, hcur5, hA5⟩
  have HH0 : Hid (Ht x (fun _ => x.fi) k) := fun j _ => ⟨⟨(chkT_ok HO.out.1).1.2.2.2.1, Int.le_refl _⟩, by simp⟩
  clear hE hA5 HT4 hk hcur5 cur5
  have HT5 := hidV (HT.out v5 HB5.out)
  go_wp2_with (first | (refine wpList_loadT (by rfl) _ rfl v2.heap.size rfl x kx 3 HT5.out ?_) | fail)
  refine (left_any x kx 3 (some ⟨g, 0, none⟩) k k (fun _ => x.fi) v5 HA5.out (by have := HK.out; omega) (HI4.out.below HB5.out)).mono ?_
  rintro e v6 ⟨rfl, hb6⟩
  rw [isE_of HO.out.1 HK.out.1 HH0.out, leftF_of HO.out.1 HK.out.1 HK.out.2.1 HO.out.2.1 HH0.out, errV_zero]
  have HB6 := hidV (Below.transS HB5.out hb6)
  have HA6 := hidV (HA5P.out.below hb6)
  have hT := chkT_ok HO.out.1
  have hN0 := vl_pos hT.1 hT.2.1 k HH0.out
  have hN1 := vl_few hT.1 hT.2.1 HO.out.2.1 HK.out.2.1 HH0.out
  obtain ⟨N, hN⟩ : ∃ N, vl x (fun _ => x.fi) k = N := ⟨_, rfl⟩
  rw [hN] at hN0 hN1 ⊢
  have HN := hidV (And.intro hN0 hN1)
  have HI0 : Hid (NwI x k N v4 (.slice (some ⟨g, 0, none⟩) k k) (.slice none 0 0) (.int .i64 0) v6 0 []) := ⟨rfl, by omega, by omega, Nat.le_refl _, (POw.nil v4).keep HB6.out, fun u hu => (by cases hu), fun _ => ⟨_, HA6.out, HH0.out, by omega⟩⟩
  clear hb6 HT5 hT hN0 hN1 hN
  go_wp2
  go_loopw [4, 8, 9] (fun pv av kv wr => ∃ (i : Nat) (L : List Value), NwI x k N v4 pv av kv wr i L) (fun _ _ kv _ => 121 - (intOf kv).toNat)
  case atStart => exact ⟨0, [], HI0.out⟩
  case round =>
    clear HI0
    obtain ⟨i, L, hI⟩ := hrel
    obtain rfl := hI.kv
    have HI := hidV hI
    have HB := hidV hI.all.below
    have hi1 := hI.most
    have hi2 := hI.n
    clear hI
    by_cases q1 : (i : Int) ≤ N
    rotate_left
    · clear hi1 hi2
      go_wp2_with fail
      refine (sure_any wr).mono ?_
      rintro e vz ⟨rfl, hb⟩
      have HZ := hidV (Below.transS (Below.transS HBW.out HB.out) hb)
      clear hb
      go_wp2
      go_ret
      exact ⟨rfl, HZ.out⟩
    by_cases q2 : (i : Int) < 120
    rotate_left
    · clear hi1 hi2
      go_wp2_with fail
      refine (sure_any wr).mono ?_
      rintro e vz ⟨rfl, hb⟩
      have HZ := hidV (Below.transS (Below.transS HBW.out HB.out) hb)
      clear hb
      go_wp2
      go_ret
      exact ⟨rfl, HZ.out⟩
    obtain ⟨z, hPP, hZ, hV⟩ := HI.out.path q1
    have HPP := hidV hPP
    obtain ⟨pb, pc, pcur, rfl, hpc, hP⟩ := hPP
    have HP := hidV hP
    clear hpc pcur
    have HZ := hidV hZ
    have HV := hidV hV
    clear hP hZ hV
    have HTr := hidV (HT.out wr HB.out)
    have wN : IntKind.i64.wrap (N - (i : Int)) = N - (i : Int) := by have := HN.out; rw [IntKind.wrap_i64]; omega
    go_upto_region 10 with fail
    go_wp2_with (first | (refine wpList_loadT (by rfl) _ rfl v2.heap.size rfl x kx 3 HTr.out ?_) | fail)
    refine (left_any x kx 3 (some ⟨pb, 0, none⟩) k pc z wr HP.out (by have := HK.out; omega) (HI4.out.below HB.out)).mono ?_
    rintro e v7 ⟨rfl, hb7⟩
    rw [isE_of HO.out.1 HK.out.1 HZ.out, leftF_of HO.out.1 HK.out.1 HK.out.2.1 HO.out.2.1 HZ.out, errV_zero, HV.out]
    have HB7 := hidV hb7
    clear hb7 HTr
    go_upto_block 2 with fail
    clear wN
    go_wp2
    generalize wr = wo at *
    go_loopw [12] (fun jv ws => ∃ j : Nat, j ≤ L.length ∧ jv = .int .i64 (j : Int) ∧ Below wo.heap.size wo ws) (fun jv _ => L.length + 1 - (intOf jv).toNat)
    case atStart => exact ⟨0, by omega, rfl, HB7.out⟩
    case round =>
      obtain ⟨j, hj, rfl, hb⟩ := hrel
      have hfew := HI.out.few
      have HBj := hidV (Below.transS HB.out hb)
      have HBo := hidV hb
      clear hb
      by_cases hlt : j < L.length
      · have hlt' : (j : Int) < L.length := by omega
        obtain ⟨b, cb, rfl, hcell⟩ : ∃ b cb, u8 = .slice (some ⟨b, 0, none⟩) L.length cb ∧ ∀ m u, L[m]? = some u → wo.cell? ⟨b, m, none⟩ = some u := by
          rcases HI.out.all.form with ⟨-, e⟩ | ⟨g', cap', e, -, hc⟩
          · rw [e] at hlt; simp at hlt
          · exact ⟨g', cap', e, hc⟩
        obtain ⟨y, ⟨yb, yc, ycur, hu, -, hYA⟩, hYH, hYV⟩ := (HI.out.kept L[j] (List.getElem_mem hlt)).at_
        obtain ⟨ya, hya⟩ : ∃ ya : Option Addr, ya = some ⟨yb, 0, none⟩ := ⟨_, rfl⟩
        rw [← hya] at hu hYA
        clear hya
        have hcj := hcell j L[j] (List.getElem?_eq_getElem hlt)
        rw [hu] at hcj
        have HYA := hidV (hYA.below HBo.out)
        have HNW := hidV (nw_of_vl (chkT_ok HO.out.1).1 (chkT_ok HO.out.1).2.1 HZ.out hYH (by have := HV.out; omega))
        have HYE := hidV (isE_of HO.out.1 HK.out.1 hYH)
        have HZE := hidV (isE_of HO.out.1 HK.out.1 HZ.out)
        have HF1 : Hid (newerF x z k y k = true) := by show _ = _; unfold newerF; rw [if_pos ⟨HZE.out, HYE.out⟩]; exact HNW.out.1
        have HF2 : Hid (newerF x y k z k = false) := by show _ = _; unfold newerF; rw [if_pos ⟨HYE.out, HZE.out⟩]; exact HNW.out.2
        have HSS : Hid (∀ w' : World, Below wr.heap.size wr w' → w'.rangeAt v2.heap.size 0 (tcl x kx 3) ∧ w'.cell? ⟨b, j, none⟩ = some (.slice ya k yc)) := fun w' hb => ⟨HT.out w' (Below.transS HBj.out hb), by
          have h2 := Below.transS HBo.out hb
          rw [h2.cell (p := ⟨b, j, none⟩) (World.block_lt_of_cell? wo ⟨b, j, none⟩ hcj)]; exact hcj⟩
        have HQ0 : Hid (Below wr.heap.size wr wr.drew) := (Below.refl _ wr).drew
        have S0 := HSS.out wr.drew HQ0.out
        clear hcell hcj hu hYA hYH hYV
        go_wp2_with fail
        refine wp_region_noPanic ?_
        refine wp_region_held_drew (S := fun w' => w'.rangeAt v2.heap.size 0 (tcl x kx 3) ∧ w'.cell? ⟨b, j, none⟩ = some (.slice ya k yc)) (by kernel_rfl) S0 (fun hHeld => ?_)
        clear S0
        refine wpAnyH_take (i := 0) (oi := { dst := some 64, op := Go.Op.load 32 (Go.Operand.tmp 3), type := 32, pos := "law.go:161", after := #[], guard := none }) rfl (by kernel_rfl) (by kernel_rfl) (by kernel_rfl) (fun _ _ _ h => h) (yieldsIf_load_mid (by rfl) _ _ rfl v2.heap.size 0 rfl (tcl x kx 3) _ (fun _ h => h.1) Tryd.underlying32 rfl (szTl _ _ _)) (by assumption) ?_
        try simp only [Act.put, List.setIfInBounds_toArray, List.set_cons_zero, List.set_cons_succ]
        refine wpAnyH_take (i := 1) (oi := { dst := some 65, op := Go.Op.move (Go.Operand.tmp 4), type := 34, pos := "law.go:161", after := #[], guard := none }) (v := ?_) rfl (by kernel_rfl) (by kernel_rfl) (by kernel_rfl) (fun _ _ _ h => h) (Or.inl ⟨by rfl, ?_⟩) (by assumption) ?_
        rotate_left
        · intro wz hSw; (try dsimp only at hSw); go_simp; (try with_reducible rfl)
        try simp only [Act.put, List.setIfInBounds_toArray, List.set_cons_zero, List.set_cons_succ]
        refine wpAnyH_take (i := 2) (oi := { dst := some 66, op := Go.Op.move (Go.Operand.tmp 8), type := 54, pos := "law.go:161", after := #[], guard := none }) (v := ?_) rfl (by kernel_rfl) (by kernel_rfl) (by kernel_rfl) (fun _ _ _ h => h) (Or.inl ⟨by rfl, ?_⟩) (by assumption) ?_
        rotate_left
        · intro wz hSw; (try dsimp only at hSw); go_simp; (try with_reducible rfl)
        try simp only [Act.put, List.setIfInBounds_toArray, List.set_cons_zero, List.set_cons_succ]
        refine wpAnyH_take (i := 3) (oi := { dst := some 67, op := Go.Op.move (Go.Operand.tmp 12), type := 3, pos := "law.go:161", after := #[], guard := none }) (v := ?_) rfl (by kernel_rfl) (by kernel_rfl) (by kernel_rfl) (fun _ _ _ h => h) (Or.inl ⟨by rfl, ?_⟩) (by assumption) ?_
        rotate_left
        · intro wz hSw; (try dsimp only at hSw); go_simp; (try with_reducible rfl)
        try simp only [Act.put, List.setIfInBounds_toArray, List.set_cons_zero, List.set_cons_succ]
        refine wpAnyH_take (i := 4) (oi := { dst := some 68, op := Go.Op.indexAddr 54 (Go.Operand.tmp 66) (Go.Operand.tmp 67), type := 0, pos := "law.go:161", after := #[{ on := 2, ground := Go.Ground.data }, { on := 3, ground := Go.Ground.data }], guard := none }) (v := ?_) rfl (by kernel_rfl) (by kernel_rfl) (by kernel_rfl) (fun _ _ _ h => h) (Or.inl ⟨by rfl, ?_⟩) (by assumption) ?_
        rotate_left
        · intro wz hSw; (try dsimp only at hSw); go_simp; (try with_reducible rfl)
        try simp only [Act.put, List.setIfInBounds_toArray, List.set_cons_zero, List.set_cons_succ]
        refine wpAnyH_take (i := 5) (oi := { dst := some 69, op := Go.Op.load 34 (Go.Operand.tmp 68), type := 34, pos := "law.go:161", after := #[{ on := 4, ground := Go.Ground.data }], guard := none }) (v := ?_) rfl (by kernel_rfl) (by kernel_rfl) (by kernel_rfl) (fun _ _ _ h => h) (Or.inl ⟨by rfl, ?_⟩) (by assumption) ?_
        rotate_left
        · intro wz hSw; (try dsimp only at hSw); go_simp; (try with_reducible rfl)
        try simp only [Act.put, List.setIfInBounds_toArray, List.set_cons_zero, List.set_cons_succ]
        refine wpAnyH_ready (rs := [6]) (by kernel_rfl) (by simp) ?_
        refine (AllReadyH.cons (o := { dst := some 70, op := Go.Op.call { callee := Go.Callee.value (Go.Operand.func 20), args := #[Go.Operand.tmp 64, Go.Operand.tmp 65, Go.Operand.tmp 69], argTypes := #[32, 34, 34] }, type := 4, pos := "law.go:161", after := #[{ on := 0, ground := Go.Ground.data }, { on := 1, ground := Go.Ground.data }, { on := 5, ground := Go.Ground.data }], guard := none }) rfl (fun K hK => ?_) AllReadyH.nil)
        go_simp
        refine (newer_any x kx 3 (some ⟨pb, 0, none⟩) ya k k pc yc z y wr.drew ((HP.out.below HBo.out).below HQ0.out) (HYA.out.below HQ0.out) (by have := HK.out; omega) (by have := HK.out; omega) (HI4.out.below (Below.transS HBj.out HQ0.out))).mono ?_
        rintro e u1w ⟨rfl, hb⟩
        rw [HF1.out]
        have HQ1 : Hid (Below wr.heap.size wr u1w) := Below.transS HQ0.out hb
        clear hb
        refine hK.out _ _ (HSS.out u1w HQ1.out) (fun _ => ?_)
        clear hK K
        try simp only [Act.put, List.setIfInBounds_toArray, List.set_cons_zero, List.set_cons_succ]
        refine wpAnyH_take (i := 7) (oi := { dst := some 71, op := Go.Op.unOp Go.UnOp.not 4 (Go.Operand.tmp 70), type := 4, pos := "law.go:161", after := #[{ on := 6, ground := Go.Ground.data }], guard := none }) (v := ?_) rfl (by kernel_rfl) (by kernel_rfl) (by kernel_rfl) (fun _ _ _ h => h) (Or.inl ⟨by rfl, ?_⟩) (by assumption) ?_
        rotate_left
        · intro wz hSw; (try dsimp only at hSw); go_simp; (try with_reducible rfl)
        try simp only [Act.put, List.setIfInBounds_toArray, List.set_cons_zero, List.set_cons_succ]
        refine wpAnyH_take (i := 8) (oi := { dst := some 72, op := Go.Op.move (Go.Operand.tmp 71), type := 4, pos := "law.go:161", after := #[{ on := 7, ground := Go.Ground.data }, { on := 6, ground := Go.Ground.chain }], guard := none }) (v := ?_) rfl (by kernel_rfl) (by kernel_rfl) (by kernel_rfl) (fun _ _ _ h => h) (Or.inl ⟨by rfl, ?_⟩) (by assumption) ?_
        rotate_left
        · intro wz hSw; (try dsimp only at hSw); go_simp; (try with_reducible rfl)
        try simp only [Act.put, List.setIfInBounds_toArray, List.set_cons_zero, List.set_cons_succ]
        refine wpAnyH_take (i := 9) (oi := { dst := some 73, op := Go.Op.load 32 (Go.Operand.tmp 3), type := 32, pos := "law.go:161", after := #[{ on := 8, ground := Go.Ground.guard }], guard := some (8, false) }) rfl (by kernel_rfl) (by kernel_rfl) (by kernel_rfl) (fun _ _ _ h => h) (yieldsIf_load_mid (by rfl) _ _ rfl v2.heap.size 0 rfl (tcl x kx 3) _ (fun _ h => h.1) Tryd.underlying32 rfl (szTl _ _ _)) (by assumption) ?_
        try simp only [Act.put, List.setIfInBounds_toArray, List.set_cons_zero, List.set_cons_succ]
        refine wpAnyH_take (i := 10) (oi := { dst := some 74, op := Go.Op.move (Go.Operand.tmp 8), type := 54, pos := "law.go:161", after := #[{ on := 8, ground := Go.Ground.guard }], guard := some (8, false) }) (v := ?_) rfl (by kernel_rfl) (by kernel_rfl) (by kernel_rfl) (fun _ _ _ h => h) (Or.inl ⟨by rfl, ?_⟩) (by assumption) ?_
        rotate_left
        · intro wz hSw; (try dsimp only at hSw); go_simp; (try with_reducible rfl)
        try simp only [Act.put, List.setIfInBounds_toArray, List.set_cons_zero, List.set_cons_succ]
        refine wpAnyH_take (i := 11) (oi := { dst := some 75, op := Go.Op.move (Go.Operand.tmp 12), type := 3, pos := "law.go:161", after := #[{ on := 8, ground := Go.Ground.guard }], guard := some (8, false) }) (v := ?_) rfl (by kernel_rfl) (by kernel_rfl) (by kernel_rfl) (fun _ _ _ h => h) (Or.inl ⟨by rfl, ?_⟩) (by assumption) ?_
        rotate_left
        · intro wz hSw; (try dsimp only at hSw); go_simp; (try with_reducible rfl)
        try simp only [Act.put, List.setIfInBounds_toArray, List.set_cons_zero, List.set_cons_succ]
        refine wpAnyH_take (i := 12) (oi := { dst := some 76, op := Go.Op.indexAddr 54 (Go.Operand.tmp 74) (Go.Operand.tmp 75), type := 0, pos := "law.go:161", after := #[{ on := 10, ground := Go.Ground.data }, { on := 11, ground := Go.Ground.data }, { on := 8, ground := Go.Ground.guard }], guard := some (8, false) }) (v := ?_) rfl (by kernel_rfl) (by kernel_rfl) (by kernel_rfl) (fun _ _ _ h => h) (Or.inl ⟨by rfl, ?_⟩) (by assumption) ?_
        rotate_left
        · intro wz hSw; (try dsimp only at hSw); go_simp; (try with_reducible rfl)
        try simp only [Act.put, List.setIfInBounds_toArray, List.set_cons_zero, List.set_cons_succ]
        refine wpAnyH_take (i := 13) (oi := { dst := some 77, op := Go.Op.load 34 (Go.Operand.tmp 76), type := 34, pos := "law.go:161", after := #[{ on := 12, ground := Go.Ground.data }, { on := 8, ground := Go.Ground.guard }], guard := some (8, false) }) (v := ?_) rfl (by kernel_rfl) (by kernel_rfl) (by kernel_rfl) (fun _ _ _ h => h) (Or.inl ⟨by rfl, ?_⟩) (by assumption) ?_
        rotate_left
        · intro wz hSw; (try dsimp only at hSw); go_simp; (try with_reducible rfl)
        try simp only [Act.put, List.setIfInBounds_toArray, List.set_cons_zero, List.set_cons_succ]
        refine wpAnyH_take (i := 14) (oi := { dst := some 78, op := Go.Op.move (Go.Operand.tmp 4), type := 34, pos := "law.go:161", after := #[{ on := 8, ground := Go.Ground.guard }], guard := some (8, false) }) (v := ?_) rfl (by kernel_rfl) (by kernel_rfl) (by kernel_rfl) (fun _ _ _ h => h) (Or.inl ⟨by rfl, ?_⟩) (by assumption) ?_
        rotate_left
        · intro wz hSw; (try dsimp only at hSw); go_simp; (try with_reducible rfl)
        try simp only [Act.put, List.setIfInBounds_toArray, List.set_cons_zero, List.set_cons_succ]
        refine wpAnyH_ready (rs := [15]) (by kernel_rfl) (by simp) ?_
        refine (AllReadyH.cons (o := { dst := some 79, op := Go.Op.call { callee := Go.Callee.value (Go.Operand.func 20), args := #[Go.Operand.tmp 73, Go.Operand.tmp 77, Go.Operand.tmp 78], argTypes := #[32, 34, 34] }, type := 4, pos := "law.go:161", after := #[{ on := 9, ground := Go.Ground.data }, { on := 13, ground := Go.Ground.data }, { on := 14, ground := Go.Ground.data }, { on := 8, ground := Go.Ground.chain }, { on := 8, ground := Go.Ground.guard }], guard := some (8, false) }) rfl (fun K hK => ?_) AllReadyH.nil)
        go_simp
        refine (newer_any x kx 3 ya (some ⟨pb, 0, none⟩) k k yc pc y z u1w (HYA.out.below HQ1.out) ((HP.out.below HBo.out).below HQ1.out) (by have := HK.out; omega) (by have := HK.out; omega) (HI4.out.below (Below.transS HBj.out HQ1.out))).mono ?_
        rintro e u2w ⟨rfl, hb⟩
        rw [HF2.out]
        have HQ2 : Hid (Below wr.heap.size wr u2w) := Below.transS HQ1.out hb
        clear hb
        refine hK.out _ _ (HSS.out u2w HQ2.out) (fun _ => ?_)
        clear hK K
        try simp only [Act.put, List.setIfInBounds_toArray, List.set_cons_zero, List.set_cons_succ]
        refine wpAnyH_take (i := 16) (oi := { dst := some 80, op := Go.Op.pick (Go.Operand.tmp 72) (Go.Operand.const (Go.Value.bool true)) (Go.Operand.tmp 79), type := 4, pos := "law.go:161", after := #[{ on := 8, ground := Go.Ground.data }, { on := 15, ground := Go.Ground.data }], guard := none }) (v := ?_) rfl (by kernel_rfl) (by kernel_rfl) (by kernel_rfl) (fun _ _ _ h => h) (Or.inl ⟨by rfl, ?_⟩) (by assumption) ?_
        rotate_left
        · intro wz hSw; (try dsimp only at hSw); go_simp; (try with_reducible rfl)
        try simp only [Act.put, List.setIfInBounds_toArray, List.set_cons_zero, List.set_cons_succ]
        refine wpAnyH_done (by kernel_rfl) (NoPanic.normal ?_) _
        try simp only [Act.put, List.setIfInBounds_toArray, List.set_cons_zero, List.set_cons_succ]
        clear hHeld
        go_wp2
        go_roundw
        case rel => exact ⟨j + 1, by omega, by go_num, Below.transS HBo.out HQ2.out⟩
        case measure => simp [intOf]; omega
      · obtain rfl : j = L.length := by omega
        have hnn : ¬ ((L.length : Int) < L.length) := by omega
        obtain ⟨aa, ac, rfl⟩ : ∃ aa ac, u8 = .slice aa L.length ac := by
          rcases HI.out.all.form with ⟨e, e2⟩ | ⟨g', cap', e, -, -⟩
          · exact ⟨none, 0, by rw [e, e2]; rfl⟩
          · exact ⟨_, cap', e⟩
        have e7 : (i : Int).tmod 7 = ((i % 7 : Nat) : Int) := by rw [Int.tmod_eq_emod_of_nonneg (by omega)]; omega
        have w7 : IntKind.i64.wrap ((i % 7 : Nat) : Int) = ((i % 7 : Nat) : Int) := by rw [IntKind.wrap_i64]; omega
        have HAL := hidV (HI.out.all.keep HBo.out)
        have HKP : Hid (∀ u ∈ L, Kept x k wr u (N - (i + 1 : Nat))) := fun u hu => ((HI.out.kept u hu).below HBo.out).less (by omega)
        by_cases q7 : i % 7 = 0
        · have d7 : (((i % 7 : Nat) : Int) == 0) = true := by rw [q7]; rfl
          have N7 := new_alloc wr #[.slice (some ⟨pb, 0, none⟩) k pc] 34
          have HN7 := hidV N7
          have HA7 := hidV (HAL.out.keep N7.below)
          clear N7
          go_upto_region 20 with (first | (at_builtin; refine wpList_append_P rfl _ _ rfl v4 _ (.slice (some ⟨pb, 0, none⟩) k pc) L HA7.out rfl _ rfl rfl HN7.out.blk (by omega) ?_; intro v' w9 hO hGr; have HALL := hidV hO; have HGR := hidV hGr; clear hO hGr) | fail)
          have HB9 := hidV HALL.out.below
          have HP7 := hidV (((HPP.out.below HBo.out).below HN7.out.below).grow HA7.out HGR.out)
          have HP9 : Hid (IsAt w9 (some ⟨pb, 0, none⟩) k z) := by
            obtain ⟨b', c', cur', e1, _, h3⟩ := HP7.out
            cases e1
            exact h3
          have HKEPT : Hid (∀ u ∈ L ++ [.slice (some ⟨pb, 0, none⟩) k pc], Kept x k w9 u (N - (i + 1 : Nat))) := fun u hu => by
            rcases List.mem_append.1 hu with hu | hu
            · exact ((HKP.out u hu).below HN7.out.below).grow HA7.out HGR.out
            · simp at hu
              subst hu
              exact ⟨z, HP7.out, HZ.out, by have := HV.out; omega⟩
          clear e7 w7 d7 q7
          have HTz := hidV (HT.out w9 HB9.out)
          go_wp2_with (first | (refine wpList_loadT (by rfl) _ rfl v2.heap.size rfl x kx 3 HTz.out ?_) | fail)
          refine (next_any x kx 3 (some ⟨pb, 0, none⟩) k pc z w9 HP9.out (by have := HK.out; omega) (HI4.out.below HB9.out)).mono ?_
          intro e wn hE
          have HBn := hidV (Below.transS HB9.out hE.below)
          have HBN := hidV hE.below
          have HZE := hidV (isE_of HO.out.1 HK.out.1 HZ.out)
          have hT := chkT_ok HO.out.1
          have hpos : ∀ m, m < k → 0 ≤ stp x (z m) := fun m hm => (stp_bd hT.1 hT.2.1 (HZ.out m hm).1.1 (HZ.out m hm).1.2).1
          by_cases qN : (i : Int) < N
          · rcases nx_cases (c := x) (z := z) k hpos with h0 | ⟨a, ha, h1, h2⟩
            · exact absurd (vl_zero (c := x) k h0) (by have := HV.out; omega)
            · obtain ⟨qa, qc, rfl, hQ⟩ := hE.ok HZE.out a ha h1 h2
              obtain ⟨qcur, hqc⟩ := hE.typ _ _ _ _ rfl
              have HQ : Hid (PthAt wn (.slice (some ⟨qa, 0, none⟩) k qc) k (nextZ x z a)) := ⟨qa, qc, qcur, rfl, hqc, hQ⟩
              have HQH := hidV (nextZ_ht hT.1 HZ.out ha h1)
              have HQV : Hid (vl x (nextZ x z a) k = N - (i + 1 : Nat)) := by show _ = _; rw [nextZ_vl hT.1 k ha h2, HV.out]; omega
              have HR : Hid (NwI x k N v4 (.slice (some ⟨qa, 0, none⟩) k qc) v' (.int .i64 ((i : Int) + 1)) wn (i + 1) (L ++ [.slice (some ⟨pb, 0, none⟩) k pc])) := ⟨by simp, by omega, by omega, by (simp; omega), HALL.out.keep HBN.out, fun u hu => (HKEPT.out u hu).below HBN.out, fun _ => ⟨_, HQ.out, HQH.out, HQV.out⟩⟩
              have hne : ¬ ((i : Int) = N) := by omega
              have hne' : ((i : Int) == N) = false := by simpa using hne
              clear hE hQ hT hpos h1 h2 hqc qcur
              go_wp2
              go_roundw
              case rel => exact ⟨i + 1, (L ++ [.slice (some ⟨pb, 0, none⟩) k pc]), HR.out⟩
              case measure => simp [intOf]; omega
          · have hEq : (i : Int) = N := by omega
            have h0 : ∀ m, m < k → stp x (z m) = 0 := by
              rcases nx_cases (c := x) (z := z) k hpos with h0 | ⟨a, ha, h1, h2⟩
              · exact h0
              · have g1 := nextZ_vl hT.1 k ha h2
                have g2 := vl_pos hT.1 hT.2.1 k (nextZ_ht hT.1 HZ.out ha h1)
                have := HV.out
                omega
            obtain rfl := hE.slot HZE.out h0
            have HGn := hidV (HG.out.below (Below.transS HBW.out HBn.out) HG.out.pos)
            have HRm : Hid (∀ wm, Below wn.heap.size wn wm → NwI x k N v4 (.slice none 0 0) v' (.int .i64 ((i : Int) + 1)) wm (i + 1) (L ++ [.slice (some ⟨pb, 0, none⟩) k pc])) := fun wm hbm => ⟨by simp, by omega, by omega, by (simp; omega), HALL.out.keep (Below.transS HBN.out hbm), fun u hu => (HKEPT.out u hu).below (Below.transS HBN.out hbm), fun h => by omega⟩
            have hne' : ((i : Int) == N) = true := by simpa using hEq
            have hnl : ¬ ((i : Int) < N) := qN
            have e30 : errV 30 = .iface 64 (.int .i64 30) := rfl
            have hnum := num_any 30 wn HGn.out
            rw [e30] at hnum ⊢
            clear hE hT hpos h0 hEq
            go_wp2_with fail
            refine hnum.mono ?_
            rintro e wm ⟨rfl, hbm⟩
            have HRw := hidV (HRm.out wm hbm)
            clear hbm hnum
            go_wp2
            go_roundw
            case rel => exact ⟨i + 1, (L ++ [.slice (some ⟨pb, 0, none⟩) k pc]), HRw.out⟩
            case measure => simp [intOf]; omega
        · have d7 : (((i % 7 : Nat) : Int) == 0) = false := by simp; omega
          have HALL := HAL
          have HKEPT := HKP
          have HB9 := hidV (Below.transS HB.out HBo.out)
          have HP9 := hidV (HP.out.below HBo.out)
          go_upto_region 20 with fail
          clear e7 w7 d7 q7
          have HTz := hidV (HT.out wr HB9.out)
          go_wp2_with (first | (refine wpList_loadT (by rfl) _ rfl v2.heap.size rfl x kx 3 HTz.out ?_) | fail)
          refine (next_any x kx 3 (some ⟨pb, 0, none⟩) k pc z wr HP9.out (by have := HK.out; omega) (HI4.out.below HB9.out)).mono ?_
          intro e wn hE
          have HBn := hidV (Below.transS HB9.out hE.below)
          have HBN := hidV hE.below
          have HZE := hidV (isE_of HO.out.1 HK.out.1 HZ.out)
          have hT := chkT_ok HO.out.1
          have hpos : ∀ m, m < k → 0 ≤ stp x (z m) := fun m hm => (stp_bd hT.1 hT.2.1 (HZ.out m hm).1.1 (HZ.out m hm).1.2).1
          by_cases qN : (i : Int) < N
          · rcases nx_cases (c := x) (z := z) k hpos with h0 | ⟨a, ha, h1, h2⟩
            · exact absurd (vl_zero (c := x) k h0) (by have := HV.out; omega)
            · obtain ⟨qa, qc, rfl, hQ⟩ := hE.ok HZE.out a ha h1 h2
              obtain ⟨qcur, hqc⟩ := hE.typ _ _ _ _ rfl
              have HQ : Hid (PthAt wn (.slice (some ⟨qa, 0, none⟩) k qc) k (nextZ x z a)) := ⟨qa, qc, qcur, rfl, hqc, hQ⟩
              have HQH := hidV (nextZ_ht hT.1 HZ.out ha h1)
              have HQV : Hid (vl x (nextZ x z a) k = N - (i + 1 : Nat)) := by show _ = _; rw [nextZ_vl hT.1 k ha h2, HV.out]; omega
              have HR : Hid (NwI x k N v4 (.slice (some ⟨qa, 0, none⟩) k qc) (.slice aa L.length ac) (.int .i64 ((i : Int) + 1)) wn (i + 1) L) := ⟨by simp, by omega, by omega, by omega, HALL.out.keep HBN.out, fun u hu => (HKEPT.out u hu).below HBN.out, fun _ => ⟨_, HQ.out, HQH.out, HQV.out⟩⟩
              have hne : ¬ ((i : Int) = N) := by omega
              have hne' : ((i : Int) == N) = false := by simpa using hne
              clear hE hQ hT hpos h1 h2 hqc qcur
              go_wp2
              go_roundw
              case rel => exact ⟨i + 1, L, HR.out⟩
              case measure => simp [intOf]; omega
          · have hEq : (i : Int) = N := by omega
            have h0 : ∀ m, m < k → stp x (z m) = 0 := by
              rcases nx_cases (c := x) (z := z) k hpos with h0 | ⟨a, ha, h1, h2⟩
              · exact h0
              · have g1 := nextZ_vl hT.1 k ha h2
                have g2 := vl_pos hT.1 hT.2.1 k (nextZ_ht hT.1 HZ.out ha h1)
                have := HV.out
                omega
            obtain rfl := hE.slot HZE.out h0
            have HGn := hidV (HG.out.below (Below.transS HBW.out HBn.out) HG.out.pos)
            have HRm : Hid (∀ wm, Below wn.heap.size wn wm → NwI x k N v4 (.slice none 0 0) (.slice aa L.length ac) (.int .i64 ((i : Int) + 1)) wm (i + 1) L) := fun wm hbm => ⟨by simp, by omega, by omega, by omega, HALL.out.keep (Below.transS HBN.out hbm), fun u hu => (HKEPT.out u hu).below (Below.transS HBN.out hbm), fun h => by omega⟩
            have hne' : ((i : Int) == N) = true := by simpa using hEq
            have hnl : ¬ ((i : Int) < N) := qN
            have e30 : errV 30 = .iface 64 (.int .i64 30) := rfl
            have hnum := num_any 30 wn HGn.out
            rw [e30] at hnum ⊢
            clear hE hT hpos h0 hEq
            go_wp2_with fail
            refine hnum.mono ?_
            rintro e wm ⟨rfl, hbm⟩
            have HRw := hidV (HRm.out wm hbm)
            clear hbm hnum
            go_wp2
            go_roundw
            case rel => exact ⟨i + 1, L, HRw.out⟩
            case measure => simp [intOf]; omega
theorem newers_card (c : Tc) (ka : Option Addr) (kc : Nat) (w : World) (hg : Glob w) (_h1 : IsAt w ka c.kn c.kz) (_h2 : c.kn ≤ 140737488355328) (_h3 : Ib c.st) :
    Calls Tryd.prog 4 #[.agg (tcv c ka kc)] w fun e w' => e = .returned (.bool true) ∧ Below w.heap.size w w' := newers_any c ka kc w hg
end Go.Proofs.YtlnoabedcnlpoaaDoor
