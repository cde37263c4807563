/- The document's outputs of a commitment: what stands throughout. -/
import Derived.Test.YtbafipjiaeoinaaGreatDoorOwnShelf29
import Derived.Deep.DeepCutAuto
import Derived.Test.YtbafipjiaeoinaaGreatDoorOwnShelf07
namespace Go.Proofs.YtbafipjiaeoinaaGreatDoor
open Go.RowKit

/-- What stands throughout. -/
structure EnvD (w : World) (g bs bh bf kx : Nat) (P : Pm) (s : Sv) (p : Pl) (l0 l1 : Int) (fine : Cd.Bv) : Prop where
  pm : w.rangeAt g 0 (pml P)
  st : w.rangeAt bs 0 (svv s p).toList
  h0 : w.cell? ⟨bh, 0, none⟩ = some (.int .i64 l0)
  h1 : w.cell? ⟨bh, 1, none⟩ = some (.int .i64 l1)
  fn : w.rangeAt bf 0 (Cd.brl fine (some ⟨kx, 0, none⟩) 1)
/-- What an append of an output asks for. -/
def AppR (w : World) (B kx : Nat) (x : Int) (os : List To) (zs : List (Int × Int)) (va : Option Addr) (vc : Nat) (ua : Option Addr) (uc q : Nat) (O : To) (ca : Option Addr) (cc : Nat) : Prop := ∃ A I lo hi, LayD w B kx x os zs va vc ua uc A I ∧ w.heap[q]? = some (.cells #[.int .i64 O.am, .slice ca O.cn cc] 124 (0, 0)) ∧ (∀ w' : World, w'.heap[kx]? = w.heap[kx]? → (∀ k, lo ≤ k → k < hi → w'.heap[k]? = w.heap[k]?) → Cd.BrAt w' ca O.cn O.X) ∧ B ≤ lo ∧ hi ≤ w.heap.size ∧ (∀ g, (Value.slice va os.length vc).ownBlock = some g → g < lo) ∧ (∀ g, (Value.slice ua zs.length uc).ownBlock = some g → g < lo) ∧ ca ≠ none
/-- What an append leaves. -/
structure AppS (w w1 : World) (B : Nat) (v : Value) : Prop where
  below : ∀ C, C ≤ B → Below C w w1
  kept : ∀ k, k < w.heap.size → v.ownBlock ≠ some k → w1.heap[k]? = w.heap[k]?
section
variable {ops : Array Oper} {rest : List Oper} {o : Oper} {a : Act} {w : World} {Q : Exit → Act → World → Prop} {K : Act → World → Prop} {E : Prop} {B kx : Nat} {x : Int} {os : List To} {zs : List (Int × Int)} {va : Option Addr} {vc : Nat} {ua : Option Addr} {uc : Nat}
theorem run_AppR {q : Nat} {O : To} {ca : Option Addr} {cc : Nat} (hA : AppR w B kx x os zs va vc ua uc q O ca cc) (ho1 : os.length ≤ 1000000) (ty : TypeId) : ∃ va' vc' w1, (Builtin.append_ #[56, 56] ty #[.slice va os.length vc, .slice (some ⟨q, 0, none⟩) 1 1]).run Tryz.prog w = .ok (.slice va' (os.length + 1) vc') w1 ∧ LaidD w1 B kx x (os ++ [O]) zs va' vc' ua uc ∧ AppS w w1 B (.slice va os.length vc) := by
  obtain ⟨A, I, lo, hi, hL, hq, hc, hlo, hhi, hva, hua, hca⟩ := hA
  obtain ⟨va', vc', w1, hr, h1, h2, h3⟩ := run_append_Tr w B q ty (.slice va os.length vc) os.length _ O.am ca O.cn cc hL.outs hL.lt.2 hq ho1
  exact ⟨va', vc', w1, hr, ⟨_, _, hL.pushO h1 h2 h3 hc hlo hhi hva hua hca⟩, fun C hC => ⟨h2.os, h2.tape, h2.output, h2.size, fun k hk => h2.block k (by have := hL.lt.2; omega) (fun e => by have := (hL.outs.lt k e.symm).1; omega)⟩, fun k hk hn => h2.block k hk (fun e => hn e.symm)⟩
theorem wpList_append_TrS {q : Nat} {O : To} {ca : Option Addr} {cc : Nat} (hA : AppR w B kx x os zs va vc ua uc q O ca cc) (hgd : o.guard = none) (s y : Operand) (ho : o.op = .call { callee := .builtin .append, args := #[s, y], argTypes := #[56, 56] }) (hs : a.eval s = .slice va os.length vc) (hx : a.eval y = .slice (some ⟨q, 0, none⟩) 1 1) (ho1 : os.length ≤ 1000000)
    (h : ∀ va' vc' w1, LaidD w1 B kx x (os ++ [O]) zs va' vc' ua uc → AppS w w1 B (.slice va os.length vc) → wpList Tryz.prog ops Q rest (a.put o.dst (.slice va' (os.length + 1) vc')) w1) : wpList Tryz.prog ops Q (o :: rest) a w := by
  obtain ⟨va', vc', w1, hr, h1, h2⟩ := run_AppR hA ho1 o.type
  refine wpList_plain hgd fun K hK => ?_
  unfold Oper.wp execOp
  simp only [ho, resolve, invoke, builtin, Sem.run_bind, Sem.run_pure, Result.andThen_ok, List.map_toArray, List.map_cons, List.map_nil, hs, hx, hr]
  exact hK _ _ (h _ _ _ h1 h2)
theorem step_append_TrS {q : Nat} {O : To} {ca : Option Addr} {cc : Nat} (hA : AppR w B kx x os zs va vc ua uc q O ca cc) (hgd : o.guard = none) (s y : Operand) (ho : o.op = .call { callee := .builtin .append, args := #[s, y], argTypes := #[56, 56] }) (hs : a.eval s = .slice va os.length vc) (hx : a.eval y = .slice (some ⟨q, 0, none⟩) 1 1) (ho1 : os.length ≤ 1000000)
    (h : ∀ va' vc' w1, LaidD w1 B kx x (os ++ [O]) zs va' vc' ua uc → AppS w w1 B (.slice va os.length vc) → K (a.put o.dst (.slice va' (os.length + 1) vc')) w1) : if Region.wanted o (yielded ops a.tmps) = true then Oper.wp Tryz.prog o a w K Q else E := by
  have hw : Region.wanted o (yielded ops a.tmps) = true := by simp [Region.wanted, hgd]
  rw [if_pos hw]
  obtain ⟨va', vc', w1, hr, h1, h2⟩ := run_AppR hA ho1 o.type
  unfold Oper.wp execOp
  simp only [ho, resolve, invoke, builtin, Sem.run_bind, Sem.run_pure, Result.andThen_ok, List.map_toArray, List.map_cons, List.map_nil, hs, hx, hr]
  exact h _ _ _ h1 h2
end
def OutsD (w0 : World) (m k : Nat) (os : List To) (zs : List (Int × Int)) (x : Int) (e : Ending) (w' : World) : Prop := ∃ va vc ua uc B kx A I, e = .returned (.tuple #[.slice va m vc, .slice ua k uc]) ∧ LayD w' B kx x os zs va vc ua uc A I ∧ w0.heap.size ≤ kx ∧ Below w0.heap.size w0 w'
/-- A branch in a variable of its own, its key in a row of its own. -/
structure TwS (z w : World) (pg kg : Nat) (x : Int) (V : Cd.Bv) : Prop where
  pb : w.heap[pg]? = some (.cells (Cd.bv V (some ⟨kg, 0, none⟩) 1) 126 (0, 0))
  kb : w.heap[kg]? = some (.cells #[.int .i64 x] 3 (0, 0))
  low : z.heap.size ≤ pg ∧ z.heap.size ≤ kg ∧ pg ≠ kg
  below : Below z.heap.size z w
theorem layD_start {w : World} {kx : Nat} {x : Int} (hx : w.heap[kx]? = some (.cells #[.int .i64 x] 3 (0, 0))) : LaidD w w.heap.size kx x [] [] none 0 none 0 :=
  ⟨fun _ => (none, 0), fun _ => (0, 0), hx, ⟨lt_of_block hx, Nat.le_refl _⟩, World.ownsRow_nil _ _ _ _, World.ownsRow_nil _ _ _ _, (fun j hj => by simp at hj), (fun j hj => by simp at hj), (fun j hj => by simp at hj), (fun j hj => by simp at hj)⟩
theorem LaidD.below {w w1 : World} {B kx : Nat} {x : Int} {os : List To} {zs : List (Int × Int)} {va : Option Addr} {vc : Nat} {ua : Option Addr} {uc : Nat} (h : LaidD w B kx x os zs va vc ua uc) (hb : Below w.heap.size w w1) : LaidD w1 B kx x os zs va vc ua uc := by
  obtain ⟨A, I, h⟩ := h
  exact ⟨A, I, h.below hb⟩

end Go.Proofs.YtbafipjiaeoinaaGreatDoor
/- build.Places. -/
namespace Go.Proofs.YtbafipjiaeoinaaGreatDoor
open Go.RowKit

/-- Places lie at an address. -/
def PlAt (w : World) (ad : Option Addr) (zs : List (Int × Int)) : Prop := 0 < zs.length → ∃ b, ad = some ⟨b, 0, none⟩ ∧ ∀ i, i < zs.length → w.rangeAt b (i * 2) (pL zs i)
theorem PlAt.below {w w' : World} {ad : Option Addr} {zs : List (Int × Int)} (h : PlAt w ad zs) (hb : Below w.heap.size w w') : PlAt w' ad zs := fun hn => by
  obtain ⟨b, e, hr⟩ := h hn
  exact ⟨b, e, fun i hi => range_below (hr i hi) hb⟩
theorem plAt_own {w : World} {B T : Nat} {ad : Option Addr} {c : Nat} {zs : List (Int × Int)} (h : w.ownsRow B T 2 (.slice ad zs.length c) zs.length (flatL (pL zs) zs.length)) : PlAt w ad zs := fun hn => by
  obtain ⟨g, e, _, _, hr⟩ := own_range h hn
  refine ⟨g, e, fun i hi => ?_⟩
  have := (flatL_range zs.length (f := pL zs) (k := 2) (fun _ _ => rfl)).1 hr i hi
  rwa [Nat.zero_add] at this
structure PlcR (P : Pm) (s : Sv) (o : Int) (w : World) (e : Ending) (w' : World) : Prop where
  bad : ownE P s o ≠ 0 → e = .returned (.tuple #[.slice none 0 0, errV (ownE P s o)])
  ok : ownE P s o = 0 → ∃ ua uc, e = .returned (.tuple #[.slice ua (outsZ (cm0 P o nz) s s.hn).length uc, .nilIface]) ∧ PlAt w' ua (outsZ (cm0 P o nz) s s.hn)
  below : Below w.heap.size w w'
set_option maxRecDepth 100000 in
set_option maxHeartbeats 3200000 in
theorem places_any (P : Pm) (s : Sv) (p : Pl) (o : Int) (w : World) (h : SvAt w s p) (hs : s.Small) :
    Calls Tryz.prog 13 #[.agg (pmv P), .agg (svv s p), .int .i64 o] w (PlcR P s o w) := by
  have HH : Hid (SvAt w s p ∧ s.Small) := ⟨h, hs⟩
  clear h hs
  go_enter Tryz.func13, Tryz.ntmps13
  go_upto_region 1 with (first | (refine wpList_boxN rfl _ _ rfl (pmv P) rfl ?_; intro v1 N1) | (refine wpList_boxN rfl _ _ rfl (svv s p) rfl ?_; intro v4 N2) | fail)
  have HX : Hid (Below w.heap.size w v4 ∧ (∀ w' : World, Below v4.heap.size v4 w' → w'.rangeAt w.heap.size 0 (pml P) ∧ w'.rangeAt v1.heap.size 0 (svv s p).toList)) :=
    ⟨Below.transS N1.below N2.below, fun w' hb => ⟨pml_range (heap_below hb (N2.old N1.blk)), sv_range (heap_below hb N2.blk)⟩⟩
  clear N1 N2
  have HP4 := hidV (HX.out.2 v4 (Below.refl _ _)).1
  have HS4 := hidV (HX.out.2 v4 (Below.refl _ _)).2
  go_wp2_with (first | (refine wpList_load_mid rfl 40 _ rfl w.heap.size 0 rfl (pml P) _ HP4.out Tryz.underlying40 rfl (szPml P) ?_) | (refine wpList_load_mid rfl 45 _ rfl v1.heap.size 0 rfl (svv s p).toList _ HS4.out Tryz.underlying45 rfl szS ?_) | fail)
  refine (checkOwner_any P s p o v4 (HH.out.1.below HX.out.1) HH.out.2).mono ?_
  rintro e v5 ⟨rfl, hb5⟩
  have HB5 := hidV hb5
  clear hb5 HP4 HS4
  by_cases h0 : ownE P s o = 0
  · have HC := hidV (cm0_ok h0 (lk := nz) nz_zb)
    have HSO := hidV (ownE_ok h0).1
    have HZ := hidV h0
    have HP5 := hidV (HX.out.2 v5 HB5.out).1
    have HS5 := hidV (HX.out.2 v5 HB5.out).2
    rw [h0, berrV_0]
    clear h0
    go_wp2_with (first | (refine wpList_load_mid rfl 40 _ rfl w.heap.size 0 rfl (pml P) _ HP5.out Tryz.underlying40 rfl (szPml P) ?_) | (refine wpList_load_mid rfl 45 _ rfl v1.heap.size 0 rfl (svv s p).toList _ HS5.out Tryz.underlying45 rfl szS ?_) | (refine wpList_buildCm0 P o rfl _ _ rfl rfl rfl ?_) | fail)
    refine (outputs_any (cm0 P o nz) none 0 s p v5 HC.out ((HH.out.1.below HX.out.1).below HB5.out) HSO.out HH.out.2.k).mono ?_
    rintro e v6 ⟨va, vc, ua, uc, A, I, rfl, hO, hb6⟩
    have HE : Hid (PlcR P s o w (.returned (.tuple #[.slice ua (outsZ (cm0 P o nz) s s.hn).length uc, .nilIface])) v6) := ⟨fun h => absurd HZ.out h, fun _ => ⟨ua, uc, rfl, plAt_own hO.pls⟩, Below.transS (Below.transS HX.out.1 HB5.out) hb6⟩
    clear hO hb6 HP5 HS5
    go_wp2
    go_ret2
    exact HE.out
  · have e1 := errV_ne h0
    have HE : Hid (PlcR P s o w (.returned (.tuple #[.slice none 0 0, errV (ownE P s o)])) v5) := ⟨fun _ => rfl, fun h => absurd h h0, Below.transS HX.out.1 HB5.out⟩
    have HV := hidV e1
    rw [e1] at HE ⊢
    clear e1 h0
    go_wp2
    go_ret2
    exact HE.out
end Go.Proofs.YtbafipjiaeoinaaGreatDoor
/- The document's Check of layer 14. -/


namespace Go.Proofs.YtbafipjiaeoinaaGreatDoor
open Go.RowKit

theorem rparty_any (n : Int) (w : World) :
    Calls Tryz.prog 37 #[.int .i64 n] w fun e w' => e = .returned (.bool (decide (0 ≤ n ∧ n ≤ 15))) ∧ w' = w := by
  by_cases h : 0 ≤ n
  · have e : decide (0 ≤ n ∧ n ≤ 15) = decide (n < 16) := by simp [h]; omega
    rw [e]
    go_enter Tryz.func37, Tryz.ntmps37
    go_wp2
    go_ret
    exact ⟨rfl, rfl⟩
  · have e : decide (0 ≤ n ∧ n ≤ 15) = false := by simp; omega
    rw [e]
    go_enter Tryz.func37, Tryz.ntmps37
    go_wp2
    go_ret
    exact ⟨rfl, rfl⟩
set_option maxRecDepth 100000 in
set_option maxHeartbeats 3200000 in
theorem rbcheck_any (P : Pm) (s : Sv) (p : Pl) (w : World) (h : SvAt w s p) (hs : s.Small) :
    Calls Tryz.prog 17 #[.agg (pmv P), .agg (svv s p)] w fun e w' => e = .returned (.int .i64 (bchkE P s)) ∧ Below w.heap.size w w' := by
  have HH : Hid (SvAt w s p ∧ s.Small) := ⟨h, hs⟩
  clear h hs
  go_enter Tryz.func17, Tryz.ntmps17
  go_upto_region 1 with (first | (refine wpList_boxN rfl _ _ rfl (pmv P) rfl ?_; intro v1 N1) | (refine wpList_boxN rfl _ _ rfl (svv s p) rfl ?_; intro v4 N2) | fail)
  have HX : Hid (Below w.heap.size w v4 ∧ (∀ w' : World, Below v4.heap.size v4 w' → w'.rangeAt w.heap.size 0 (pml P) ∧ w'.rangeAt v1.heap.size 0 (svv s p).toList)) :=
    ⟨Below.transS N1.below N2.below, fun w' hb => ⟨pml_range (heap_below hb (N2.old N1.blk)), sv_range (heap_below hb N2.blk)⟩⟩
  clear N1 N2
  generalize v1.heap.size = bs at *
  have HS4 := hidV (HX.out.2 v4 (Below.refl _ _)).2
  go_wp2_with (first | (refine wpList_load_mid rfl 32 _ rfl bs 0 rfl (svv s p).toList _ HS4.out Tryz.underlying32 rfl szSr ?_) | fail)
  refine (rcheck_any s p v4 (HH.out.1.below HX.out.1) HH.out.2).mono ?_
  rintro e v5 ⟨rfl, hb5⟩
  have HB5 := hidV hb5
  have hpm := pmBox (HX.out.2 v5 hb5).1
  have c36 : v5.cell? ⟨w.heap.size, 36, none⟩ = some (.int .i64 P.dl) := by simpa using hpm.dl
  have c37 : v5.cell? ⟨w.heap.size, 37, none⟩ = some (.int .i64 P.fe) := by simpa using hpm.fe
  have c34 : v5.cell? ⟨w.heap.size, 34, none⟩ = some (.int .i64 P.k0) := by simpa using hpm.k0
  have c35 : v5.cell? ⟨w.heap.size, 35, none⟩ = some (.int .i64 P.k1) := by simpa using hpm.k1
  clear hb5 hpm HS4
  by_cases h1 : SOk s ∧ PmOk P
  · obtain ⟨hs, hp⟩ := h1
    have e0 : chkE s = 0 := if_pos hs
    obtain ⟨⟨d1, d2⟩, ⟨f1, f2⟩⟩ := id hp
    have HSO : Hid (SOk s ∧ PmOk P) := ⟨hs, hp⟩
    rw [e0]
    have n1 : ¬ P.dl < 1 := by omega
    have n2 : ¬ 65536 < P.dl := by omega
    have n3 : ¬ P.fe < 0 := by omega
    have n4 : ¬ 1125899906842624 < P.fe := by omega
    clear hs hp e0
    by_cases hk : KeyOk P
    · obtain ⟨hk0, hk1, hkn⟩ := id hk
      have HKK := hidV hk
      have e1 : decide (0 ≤ P.k0 ∧ P.k0 ≤ 15) = true := by simpa using hk0
      have e2 : decide (0 ≤ P.k1 ∧ P.k1 ≤ 15) = true := by simpa using hk1
      have e3 : (P.k0 == P.k1) = false := by simpa using hkn
      clear hk hk0 hk1 hkn
      go_wp2_with fail
      refine (rparty_any P.k0 _).mono ?_
      rintro e q1 ⟨rfl, hW⟩
      rw [hW, e1]
      clear hW
      go_wp2_with fail
      refine (rparty_any P.k1 _).mono ?_
      rintro e q1 ⟨rfl, hW⟩
      rw [hW, e2]
      clear hW e1 e2
      go_upto_region 5 with fail
      clear c34 c35 c36 c37 n1 n2 n3 n4 d1 d2 f1 f2 e3
      have HS : Hid (∀ w' : World, Below v5.heap.size v5 w' → w'.rangeAt bs 0 (svv s p).toList ∧ w'.cell? ⟨w.heap.size, 33, none⟩ = some (.int .i64 P.am)) := fun w' hb => by
        have h1 := HX.out.2 w' (Below.transS HB5.out hb)
        exact ⟨h1.2, by have := (pmBox h1.1).am; simpa using this⟩
      refine wp_region_noPanic ?_
      refine wp_region_held_drew (S := fun w' => w'.rangeAt bs 0 (svv s p).toList ∧ w'.cell? ⟨w.heap.size, 33, none⟩ = some (.int .i64 P.am)) (by kernel_rfl) (HS.out v5.drew (Below.refl _ _).drew) (fun hHeld => ?_)
      have HB6 : Hid (Below v5.heap.size v5 v5.drew) := (Below.refl _ _).drew
      generalize v5.drew = v6 at *
      refine wpAnyH_take (i := 2) (oi := { dst := some 51, op := Go.Op.fieldAddr 28 (Go.Operand.tmp 2) 1, type := 0, pos := "ref.go:48", after := #[], guard := none }) (v := ?_) rfl (by kernel_rfl) (by kernel_rfl) (by kernel_rfl) (fun _ _ _ h => h) (Or.inl ⟨by rfl, ?_⟩) (by assumption) ?_
      rotate_left
      · intro wz hSw; (try dsimp only at hSw); go_simp; (try with_reducible rfl)
      try simp only [Act.put, List.setIfInBounds_toArray, List.set_cons_zero, List.set_cons_succ]
      refine wpAnyH_take (i := 3) (oi := { dst := some 52, op := Go.Op.load 3 (Go.Operand.tmp 51), type := 3, pos := "ref.go:48", after := #[{ on := 2, ground := Go.Ground.data }], guard := none }) (v := ?_) rfl (by kernel_rfl) (by kernel_rfl) (by kernel_rfl) (fun _ _ _ h => h) (Or.inl ⟨by rfl, ?_⟩) (by assumption) ?_
      rotate_left
      · intro wz hSw; (try dsimp only at hSw); go_simp; (try with_reducible rfl)
      try simp only [Act.put, List.setIfInBounds_toArray, List.set_cons_zero, List.set_cons_succ]
      refine wpAnyH_take (i := 0) (oi := { dst := some 49, op := Go.Op.load 32 (Go.Operand.tmp 3), type := 32, pos := "ref.go:48", after := #[], guard := none }) rfl (by kernel_rfl) (by kernel_rfl) (by kernel_rfl) (fun _ _ _ h => h) (yieldsIf_load_mid (by rfl) _ _ rfl bs 0 rfl (svv s p).toList _ (fun _ h => h.1) Tryz.underlying32 rfl szSr) (by assumption) ?_
      try simp only [Act.put, List.setIfInBounds_toArray, List.set_cons_zero, List.set_cons_succ]
      refine wpAnyH_ready (rs := [1]) (by kernel_rfl) (by simp) ?_
      refine (AllReadyH.cons (o := { dst := some 50, op := Go.Op.call { callee := Go.Callee.value (Go.Operand.func 38), args := #[Go.Operand.tmp 49], argTypes := #[32] }, type := 3, pos := "ref.go:48", after := #[{ on := 0, ground := Go.Ground.data }], guard := none }) rfl (fun K hK => ?_) AllReadyH.nil)
      go_simp
      refine (rtotal_any s p v6 (((HH.out.1.below HX.out.1).below HB5.out).below HB6.out) HH.out.2).mono ?_
      rintro e v7 ⟨rfl, hb7⟩
      have HB7 : Hid (Below v5.heap.size v5 v7) := Below.transS HB6.out hb7
      clear hb7
      refine hK.out _ _ (HS.out v7 HB7.out) (fun _ => ?_)
      clear hK K
      try simp only [Act.put, List.setIfInBounds_toArray, List.set_cons_zero, List.set_cons_succ]
      refine wpAnyH_take (i := 4) (oi := { dst := some 53, op := Go.Op.binOp Go.BinOp.neq 3 (Go.Operand.tmp 50) (Go.Operand.tmp 52) 3, type := 4, pos := "ref.go:48", after := #[{ on := 1, ground := Go.Ground.data }, { on := 3, ground := Go.Ground.data }], guard := none }) (v := ?_) rfl (by kernel_rfl) (by kernel_rfl) (by kernel_rfl) (fun _ _ _ h => h) (Or.inl ⟨by rfl, ?_⟩) (by assumption) ?_
      rotate_left
      · intro wz hSw; (try dsimp only at hSw); go_simp; (try with_reducible rfl)
      try simp only [Act.put, List.setIfInBounds_toArray, List.set_cons_zero, List.set_cons_succ]
      refine wpAnyH_done (by kernel_rfl) (NoPanic.normal ?_) _
      try simp only [Act.put, List.setIfInBounds_toArray, List.set_cons_zero, List.set_cons_succ]
      clear hHeld
      have e4 : totF s = tot s := if_pos HSO.out.1
      rw [e4]
      clear e4
      have hpm := pmBox (HX.out.2 v7 (Below.transS HB5.out HB7.out)).1
      have c37 : v7.cell? ⟨w.heap.size, 37, none⟩ = some (.int .i64 P.fe) := by simpa using hpm.fe
      have ca : v7.cell? ⟨bs, 1, none⟩ = some (.int .i64 s.a) := (HS.out v7 HB7.out).1 1 _ rfl
      have HBE : Hid (Below w.heap.size w v7) := Below.transS HX.out.1 (Below.transS HB5.out HB7.out)
      clear hpm
      by_cases ht : tot s = P.am
      · have e5 : (tot s == P.am) = true := by simpa using ht
        by_cases hf : s.a < P.fe
        · have HE : Hid (bchkE P s = 26) := by unfold bchkE; rw [if_neg (by simpa using HSO.out), if_neg (by simpa using HKK.out), if_neg (by simpa using ht), if_pos hf]; exact rfl
          rw [ht]
          clear ht e5
          go_wp2
          go_ret
          exact ⟨by rw [HE.out]; rfl, HBE.out⟩
        · have HE : Hid (bchkE P s = 0) := by unfold bchkE; rw [if_neg (by simpa using HSO.out), if_neg (by simpa using HKK.out), if_neg (by simpa using ht), if_neg hf]; exact rfl
          rw [ht]
          clear ht e5
          go_wp2
          go_ret
          exact ⟨by rw [HE.out]; rfl, HBE.out⟩
      · have HE : Hid (bchkE P s = 20) := by unfold bchkE; rw [if_neg (by simpa using HSO.out), if_neg (by simpa using HKK.out), if_pos (by simpa using ht)]; exact rfl
        have e5 : (tot s == P.am) = false := by simpa using ht
        clear ht
        go_wp2
        go_ret
        exact ⟨by rw [HE.out]; rfl, HBE.out⟩
    · have HE : Hid (bchkE P s = 33) := by unfold bchkE; rw [if_neg (by simpa using HSO.out), if_pos hk]; exact rfl
      have HBE : Hid (Below w.heap.size w v5) := Below.transS HX.out.1 HB5.out
      by_cases hk0 : 0 ≤ P.k0 ∧ P.k0 ≤ 15
      · have e1 : decide (0 ≤ P.k0 ∧ P.k0 ≤ 15) = true := by simpa using hk0
        by_cases hk1 : 0 ≤ P.k1 ∧ P.k1 ≤ 15
        · have e2 : decide (0 ≤ P.k1 ∧ P.k1 ≤ 15) = true := by simpa using hk1
          have e3 : P.k0 = P.k1 := by
            rcases Int.lt_trichotomy P.k0 P.k1 with h | h | h
            · exact absurd (show KeyOk P from ⟨hk0, hk1, by omega⟩) hk
            · exact h
            · exact absurd (show KeyOk P from ⟨hk0, hk1, by omega⟩) hk
          rw [e3] at c34
          clear hk hk0 hk1
          go_wp2_with fail
          refine (rparty_any P.k1 _).mono ?_
          rintro e q1 ⟨rfl, hW⟩
          rw [hW, e2]
          clear hW
          go_wp2_with fail
          refine (rparty_any P.k1 _).mono ?_
          rintro e q1 ⟨rfl, hW⟩
          rw [hW, e2]
          clear hW e1 e2 e3
          go_wp2
          go_ret
          exact ⟨by rw [HE.out]; rfl, HBE.out⟩
        · have e2 : decide (0 ≤ P.k1 ∧ P.k1 ≤ 15) = false := by simpa using hk1
          clear hk hk0 hk1
          go_wp2_with fail
          refine (rparty_any P.k0 _).mono ?_
          rintro e q1 ⟨rfl, hW⟩
          rw [hW, e1]
          clear hW
          go_wp2_with fail
          refine (rparty_any P.k1 _).mono ?_
          rintro e q1 ⟨rfl, hW⟩
          rw [hW, e2]
          clear hW e1 e2
          go_wp2
          go_ret
          exact ⟨by rw [HE.out]; rfl, HBE.out⟩
      · have e1 : decide (0 ≤ P.k0 ∧ P.k0 ≤ 15) = false := by simpa using hk0
        clear hk hk0
        go_wp2_with fail
        refine (rparty_any P.k0 _).mono ?_
        rintro e q1 ⟨rfl, hW⟩
        rw [hW, e1]
        clear hW e1
        go_wp2
        go_ret
        exact ⟨by rw [HE.out]; rfl, HBE.out⟩
  · have HE : Hid (bchkE P s = 1) := by unfold bchkE; rw [if_pos h1]; exact rfl
    by_cases hs : SOk s
    · have hp : ¬ PmOk P := fun h => h1 ⟨hs, h⟩
      have e0 : chkE s = 0 := if_pos hs
      rw [e0]
      clear h1 e0 hs
      by_cases d1 : P.dl < 1
      · clear hp
        go_wp2
        go_ret
        exact ⟨by rw [HE.out]; rfl, Below.transS HX.out.1 HB5.out⟩
      · by_cases d2 : 65536 < P.dl
        · clear hp
          go_wp2
          go_ret
          exact ⟨by rw [HE.out]; rfl, Below.transS HX.out.1 HB5.out⟩
        · by_cases f1 : P.fe < 0
          · clear hp
            go_wp2
            go_ret
            exact ⟨by rw [HE.out]; rfl, Below.transS HX.out.1 HB5.out⟩
          · have f2 : 1125899906842624 < P.fe := by
              rcases Int.lt_or_le 1125899906842624 P.fe with h | h
              · exact h
              · exact absurd (show PmOk P from ⟨⟨by omega, by omega⟩, by omega, h⟩) hp
            clear hp
            go_wp2
            go_ret
            exact ⟨by rw [HE.out]; rfl, Below.transS HX.out.1 HB5.out⟩
    · have e0 : chkE s = 1 := if_neg hs
      rw [e0]
      clear h1 e0 hs
      go_wp2
      go_ret
      exact ⟨by rw [HE.out]; rfl, Below.transS HX.out.1 HB5.out⟩
end Go.Proofs.YtbafipjiaeoinaaGreatDoor
