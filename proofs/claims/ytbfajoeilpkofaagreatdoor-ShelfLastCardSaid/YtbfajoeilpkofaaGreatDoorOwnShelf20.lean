/- What changes nothing is struck: maps.DeleteFunc with the closure of changes. -/
import Derived.Test.YtbfajoeilpkofaaGreatDoorOwnShelf19
import Derived.Maps.RangeWalk
import Derived.Deep.MidRow
import Derived.Shelf.SlMaps.DeleteFunc
import Derived.Shelf.Abstract
import Derived.RangeFuncNested
import Derived.RangeFuncBound
import Derived.RangeFuncCalls
import Derived.RangeFuncLeaves
import Derived.Shelf.AbstractIn
import Derived.Shelf.RegionOpen
import Derived.Shelf.SlIter.AllValues
import Derived.WalkKit
import Derived.OwnWalkIn
import Derived.TacticsInMore
import Derived.LoopNIn
import Derived.LoopIn
import Derived.Maps.AppendAt
namespace Go.Proofs.YtbfajoeilpkofaaGreatDoor
open Go.RowKit Go.Maps Go.Sort

attribute [local go_sem ↓] Go.wp_at_zero Go.wp_at_succ

/-- Does a change change nothing of leaves? -/
def sameC (L : List Lf) (c : Cg) : Bool := match getK Lf.k c.k L with | none => c.g | some f => !c.g && f.v == c.v
def pdD (pd : Cg → Bool) (_ : Lit) (d : DataW Unit) : Bool := match d with
  | .agg [.lit (.string a), .lit (.string b), .lit (.bool g)] => pd ⟨a, b, g⟩
  | _ => false
theorem pdD_en (pd : Cg → Bool) (kl : Lit) (x : Cg) : pdD pd kl x.en = pd x := rfl
/-- What comes out of a map of changes. -/
theorem cg_came {L : List Cg} {x : List UInt8} {c : Cg} {kl : Lit} {y : DataW Unit × List MemPlace} (hkey : keyOf Tryz.prog 9 (encStr x) = some kl) (hv : cgR (cgV c) = some y)
    (hat : ∀ zd, (dOf Cg.k Cg.en L).atKey kl zd = y.1) : kl = .string x ∧ getK Cg.k x L = some c ∧ y.1 = c.en := by
  obtain ⟨x', e, rfl, _⟩ := Maps.keyOf_str Tryz.underlying9 hkey
  obtain rfl := encStr_inj e
  have e1 : y = (c.en, []) := Option.some.inj (hv.symm.trans (cgR_mk c))
  subst e1
  have h1 := hat .nil
  rw [dOf_at] at h1
  refine ⟨rfl, ?_, rfl⟩
  cases hg : getK Cg.k x L with
  | none => rw [hg] at h1; cases h1
  | some f => rw [hg] at h1; rw [Cg.en_inj h1]
set_option maxRecDepth 100000 in
set_option maxHeartbeats 800000 in
theorem chg1_any (sh m p fr n bx : Nat) (L : List Lf) (dead : Int) (x : Cg) (w : World) (h : ShAt w sh m p fr n L dead) (hx : x.k.length ≤ maxLen) (hb : w.cell? ⟨bx, 0, none⟩ = some (.pointer (some ⟨sh, 0, none⟩))) :
    Calls Tryz.prog 72 #[encStr x.k, .agg #[encStr x.k, encStr x.v, .bool x.g], .pointer (some ⟨bx, 0, none⟩)] w fun e w' => e = .returned (.bool (sameC L x)) ∧ Below w.heap.size w w' := by
  have c3 := h.c3
  have l1 := h.lt
  have l2 := h.ltm
  have l3 : bx < w.heap.size := World.block_lt_of_cell? w ⟨bx, 0, none⟩ hb
  have hm1 : lfM (w.alloc (.cells #[encStr x.k, encStr x.v, .bool x.g] 70)) m L := World.ownsMap.alloc h.map _
  obtain ⟨q, u, hrun, hv⟩ := look_lf hm1 hx
  have hq := eq_str u x.v
  have hsame : sameC L x = if x.g then !(getK Lf.k x.k L).isSome else ((getK Lf.k x.k L).isSome && u == x.v) := by
    unfold sameC
    rcases hv with ⟨e, _, rfl⟩ | ⟨f, e, _, rfl⟩ <;> rw [e] <;> cases x.g <;> simp
  rw [hsame]
  generalize (getK Lf.k x.k L).isSome = b at *
  generalize x.g = gg at *
  generalize x.v = vv at *
  generalize x.k = kk at *
  clear h hv hm1 hsame hx
  cases gg
  · cases b
    · go_enter Tryz.func72, Tryz.ntmps72
      go_wp2
      go_ret
      exact ⟨rfl, (by repeat (first | exact Below.refl _ _ | refine Below.alloc ?_ (by simp; try omega) _ | refine Below.setCell ?_ (by simp) _ | refine below_drewN ?_ _ | refine Below.drew ?_))⟩
    · go_enter Tryz.func72, Tryz.ntmps72
      go_wp2
      go_ret
      exact ⟨by simp, (by repeat (first | exact Below.refl _ _ | refine Below.alloc ?_ (by simp; try omega) _ | refine Below.setCell ?_ (by simp) _ | refine below_drewN ?_ _ | refine Below.drew ?_))⟩
  · go_enter Tryz.func72, Tryz.ntmps72
    go_wp2
    go_ret
    exact ⟨by simp, (by repeat (first | exact Below.refl _ _ | refine Below.alloc ?_ (by simp; try omega) _ | refine Below.setCell ?_ (by simp) _ | refine below_drewN ?_ _ | refine Below.drew ?_))⟩
theorem below_grown {a b : World} (h : Below a.heap.size a b) : a.grownBy b none := ⟨h.os, h.tape, h.output, h.size, fun k hk _ => h.block k hk⟩
set_option maxRecDepth 100000 in
set_option maxHeartbeats 4000000 in
theorem delFunc_any (pd : Cg → Bool) (b : Nat) (bx : Value) (C : List Cg) (w : World) (hown : cgM w b C)
    (hdel : ∀ W x, x ∈ C → w.grownBy W (some b) → Calls Tryz.prog 72 #[encStr x.k, .agg #[encStr x.k, encStr x.v, .bool x.g], bx] W fun e w' => e = .returned (.bool (pd x)) ∧ W.grownBy w' none) :
    Calls Tryz.prog 71 #[.map (some b), .func (.func 72) #[] #[bx]] w fun e w' => e = .returned (.tuple #[]) ∧ cgM w' b (C.filter fun x => !pd x) ∧ w.grownBy w' (some b) := by
  have hD : Lib.deleteFuncD (pdD pd) (dOf Cg.k Cg.en C) = dOf Cg.k Cg.en (C.filter fun x => !pd x) := by rw [dOf_filter]; rfl
  obtain ⟨es0, he0, hap, hkeys⟩ := World.ownsMap.entries hown strK
  have HE : Hid (dOf Cg.k Cg.en C = .map es0) := he0
  have HD : Hid (Lib.deleteFuncD (pdD pd) (.map es0) = dOf Cg.k Cg.en (C.filter fun x => !pd x)) := by rw [he0] at hD; exact hD
  have HX : Hid (∀ W x, x ∈ C → w.grownBy W (some b) → Calls Tryz.prog 72 #[encStr x.k, .agg #[encStr x.k, encStr x.v, .bool x.g], bx] W fun e w' => e = .returned (.bool (pd x)) ∧ W.grownBy w' none) := hdel
  have HK : Hid (es0.Pairwise (fun p q => p.1 ≠ q.1) ∧ ∀ p ∈ es0, WideAt.IsKeyLit p.1) := ⟨hap, hkeys⟩
  have hown' : w.ownsMap Tryz.prog 9 cgR b C.length (.map es0) := by rw [← he0]; exact hown
  have hcl : Maps.size (.map es0 : DataW Unit) = C.length := by rw [← he0, dOf_size]
  clear hdel hD he0 hown hap hkeys
  go_enter Tryz.func71, Tryz.ntmps71
  go_wp2_with (first
    | (at_range; refine wpList_range_own _ rfl _ 142 rfl 9 70 strK Tryz.underlying142 cgR b C.length _ rfl hown' ?_; intro w0 hrg0 hg0 hs0)
    | fail)
  go_frame
  go_loopw [8] (fun _ wr => ∃ (left : Lit → Bool) (cnt : Nat), wr.ranges Tryz.prog 9 cgR b w.heap.size C.length (Fk (pdD pd) es0 left) left cnt ∧ w.grownBy wr (some b))
    (fun _ wr => wr.rangeLeft b w.heap.size)
  case atStart => exact ⟨_, _, by rw [Fk_start HK.out.2]; exact hrg0, hg0.but _⟩
  case round =>
    obtain ⟨left, cnt, hrg, hgw⟩ := hrel
    clear hrg0 hg0 hs0 hown'
    go_wp2_with (first
      | (at_next; refine wpList_next_ranges _ rfl _ rfl 9 strK cgR encStr (fun c : Cg => Value.agg #[encStr c.k, encStr c.v, .bool c.g]) (fun key kl hk => key_inv hk) (fun v y hv => cgR_val hv) b w.heap.size C.length _ _ _ rfl hrg ?_ ?_)
      | fail)
    · intro _ hl0
      have HR : Hid (cgM wr b (C.filter fun x => !pd x) ∧ w.grownBy wr (some b)) := by
        refine ⟨?_, hgw⟩
        have := hrg.owns
        rw [Fk_end hl0, HD.out] at this
        exact cgM.of this
      clear hrg hgw hl0
      go_wp2
      go_end0
      exact ⟨rfl, HR.out⟩
    · intro x c kl yd yp w1 cnt1 hkey hlx hv hat hrg1 hlt hg1 hs1 hen
      have hcame : pdD pd kl yd = pd c ∧ c ∈ C ∧ c.k = x := by
        have hat0 : ∀ zd, (dOf Cg.k Cg.en C).atKey kl zd = yd := fun zd => by
          have h1 := at_cameK HK.out.1 (strK.key hkey) hlx hat
          have h2 := hat .nil
          have hm : (kl, yd) ∈ es0 := by
            have h3 := hrg1.owns
            by_cases hex : ∃ p ∈ es0, p.1 = kl
            · obtain ⟨p, hp, hpk⟩ := hex
              rw [← hpk, ← h1 p hp hpk]; exact hp
            · exfalso
              have h5 : (Fk (pdD pd) es0 left).atKey kl .nil = .nil := by
                unfold Fk DataW.atKey
                dsimp only
                rw [List.find?_eq_none.2 (fun p hp => by
                  intro hs
                  exact hex ⟨p, (List.mem_filter.1 hp).1, WideAt.sameKey_eq hs⟩)]
              rw [h5] at h2
              obtain ⟨_, _, e3⟩ := cgR_inv hv
              have e4 := (Prod.mk.inj e3).1
              rw [← h2] at e4
              cases e4
          rw [HE.out]
          exact WideAt.atKey_mem zd (strK.key hkey) HK.out.1 hm
        obtain ⟨rfl, hg, hy⟩ := cg_came (c := c) (y := (yd, yp)) hkey hv hat0
        obtain ⟨hm, hk⟩ := getK_mem Cg.k hg
        refine ⟨?_, hm, hk⟩
        rw [show yd = c.en from hy]
        rfl
      obtain ⟨hpd, hcm, hck⟩ := hcame
      subst hck
      have hgw1 := hgw.andThen hg1 (fun j hj => by cases hj; exact Or.inl (Nat.le_refl _))
      have hgw2 := hgw1.andThen (World.grownBy_alloc w1 (.cells #[encStr c.k, encStr c.v, .bool c.g] 70) none) (fun j hj => by cases hj)
      have hc := HX.out _ c hcm hgw2
      have hrg1' := hrg1.alloc (.cells #[encStr c.k, encStr c.v, .bool c.g] 70)
      cases hp : pd c with
      | false =>
        rw [hp] at hc hpd
        have HS : Hid (Fk (pdD pd) es0 left = Fk (pdD pd) es0 (fun z => left z && !z.sameKey kl)) := Fk_stays HK.out.1 (strK.key hkey) hlx hpd hat
        have hms : cnt1 < wr.rangeLeft b w.heap.size := by rw [hrg.left_eq]; exact hlt
        have HR : Hid ((w1.alloc (.cells #[encStr c.k, encStr c.v, .bool c.g] 70)).ranges Tryz.prog 9 cgR b w.heap.size C.length (Fk (pdD pd) es0 left) (fun z => left z && !z.sameKey kl) cnt1) := hrg1'
        have HG : Hid (w.grownBy (w1.alloc (.cells #[encStr c.k, encStr c.v, .bool c.g] 70)) (some b)) := hgw2
        clear hrg hrg1 hrg1' hgw hgw1 hgw2 hg1 hat hv hkey hlx hpd hlt hcm
        generalize c.k = ck at *
        generalize c.v = cv at *
        generalize c.g = cg at *
        go_wp2_with fail
        refine hc.mono ?_
        rintro e w2 ⟨rfl, hg2⟩
        go_wp2
        have hrg2 := HR.out.kept hg2 (by simp) (by simp)
        refine ⟨⟨_, cnt1, by rw [← HS.out]; exact hrg2, HG.out.andThen hg2 (fun j hj => by cases hj)⟩, ?_⟩
        rw [hrg2.left_eq]; exact hms
      | true =>
        rw [hp] at hc hpd
        have HS : Hid ((Fk (pdD pd) es0 left).del kl = Fk (pdD pd) es0 (fun z => left z && !z.sameKey kl)) := Fk_struck HK.out.1 (strK.key hkey) hlx hpd hat
        have hms : cnt1 < wr.rangeLeft b w.heap.size := by rw [hrg.left_eq]; exact hlt
        have HR : Hid ((w1.alloc (.cells #[encStr c.k, encStr c.v, .bool c.g] 70)).ranges Tryz.prog 9 cgR b w.heap.size C.length (Fk (pdD pd) es0 left) (fun z => left z && !z.sameKey kl) cnt1) := hrg1'
        have HG : Hid (w.grownBy (w1.alloc (.cells #[encStr c.k, encStr c.v, .bool c.g] 70)) (some b)) := hgw2
        have HY : Hid (keyOf Tryz.prog 9 (encStr c.k) = some kl) := hkey
        clear hrg hrg1 hrg1' hgw hgw1 hgw2 hg1 hat hv hkey hlx hpd hlt hcm
        generalize c.k = ck at *
        generalize c.v = cv at *
        generalize c.g = cg at *
        go_wp2_with fail
        refine hc.mono ?_
        rintro e w2 ⟨rfl, hg2⟩
        have hrg2 := HR.out.kept hg2 (by simp) (by simp)
        go_wp2_with (first
          | (at_delete; refine wpList_delete_ranges _ rfl _ _ 142 9 rfl 70 strK Tryz.underlying142 cgR b w.heap.size C.length _ _ _ rfl hrg2 _ _ rfl HY.out ?_; intro w3 cnt3 hrg3 hle hturn; go_frame)
          | fail)
        rw [strike_twice, HS.out] at hrg3
        refine ⟨⟨_, cnt3, hrg3, (HG.out.andThen hg2 (fun j hj => by cases hj)).andThen hturn.grown (fun j hj => by cases hj; exact Or.inr rfl)⟩, ?_⟩
        rw [hrg3.left_eq]; omega
end Go.Proofs.YtbfajoeilpkofaaGreatDoor
/- The values of a map of changes, collected. -/
namespace Go.Proofs.YtbfajoeilpkofaaGreatDoor
open Go.RowKit Go.Shelf Go.Maps Go.Sort

attribute [local go_sem] Oper.semAt_some

/-- The changes that have come. -/
def CameV (C : List Cg) (left : Lit → Bool) (xs : List Cg) : Prop := (xs.map Cg.k).Nodup ∧ ∀ x, x ∈ xs ↔ (x ∈ C ∧ left (.string x.k) = false)
theorem Rise.nodupC {C : List Cg} (h : Rise Cg.k C) : (C.map Cg.k).Nodup := by
  unfold Rise at h
  rw [List.Nodup, List.pairwise_map]
  exact h.imp fun {a b} hab e => by rw [e, before_irrefl] at hab; cases hab
theorem CameV.start (C : List Cg) : CameV C (Maps.has (dOf Cg.k Cg.en C)) [] := by
  refine ⟨List.nodup_nil, fun x => ⟨(fun h => by cases h), ?_⟩⟩
  rintro ⟨h1, h2⟩
  rw [dOf_has] at h2
  cases e : getK Cg.k x.k C with
  | none => exact absurd rfl ((getK_none Cg.k).1 e x h1)
  | some y => rw [e] at h2; cases h2
theorem CameV.step {C : List Cg} (hr : Rise Cg.k C) {left : Lit → Bool} {xs : List Cg} (h : CameV C left xs) {k : List UInt8} {c : Cg} (hc : getK Cg.k k C = some c) (hl : left (.string k) = true) :
    CameV C (fun z => left z && !z.sameKey (.string k)) (xs ++ [c]) := by
  obtain ⟨hm, rfl⟩ := getK_mem Cg.k hc
  refine ⟨?_, fun x => ?_⟩
  · rw [List.map_append, List.nodup_append]
    refine ⟨h.1, by simp, ?_⟩
    intro a ha b hb e
    simp at hb
    obtain ⟨y, hy, rfl⟩ := List.mem_map.1 ha
    have h1 := ((h.2 y).1 hy)
    rw [e, hb, hl] at h1
    cases h1.2
  · rw [List.mem_append, List.mem_singleton, h.2 x]
    constructor
    · rintro (⟨h1, h2⟩ | rfl)
      · exact ⟨h1, by simp [h2]⟩
      · exact ⟨hm, by simp [Lit.sameKey]⟩
    · rintro ⟨h1, h2⟩
      by_cases e : x.k = c.k
      · exact .inr (hr.inj Cg.k h1 hm e)
      · refine .inl ⟨h1, ?_⟩
        simpa [Lit.sameKey, e] using h2
theorem CameV.perm {C : List Cg} (hr : Rise Cg.k C) {left : Lit → Bool} {xs : List Cg} (h : CameV C left xs) (hl : ∀ kl, left kl = false) : xs.Perm C := by
  have h1 : xs.Nodup := List.Pairwise.of_map (S := (· ≠ ·)) Cg.k (fun a b hab e => hab (by rw [e])) h.1
  have h2 : C.Nodup := List.Pairwise.of_map (S := (· ≠ ·)) Cg.k (fun a b hab e => hab (by rw [e])) hr.nodupC
  exact (List.perm_ext_iff_of_nodup h1 h2).2 fun x => by rw [h.2 x, hl]; simp

set_option maxRecDepth 100000 in
set_option maxHeartbeats 2000000 in
theorem vals1_in (F : Fence) (n : Nat) (hfn : F.fn 105) (hro : F.round = none) (hn : 1 ≤ n) (l Bm b : Nat) (C : List Cg) (hr : Rise Cg.k C) (J Jx : List Cg → World → Prop)
    (hY : ∀ pre x W, J pre W → pre.length < C.length → YieldAt F (n - 1) Tryz.prog l #[.agg #[encStr x.k, encStr x.v, .bool x.g]] W fun e W' =>
      (e = .returned (.bool true) ∧ J (pre ++ [x]) W' ∧ KeepsWalks W W') ∨ (e = .returned (.bool false) ∧ Jx (pre ++ [x]) W'))
    (W : World) (hJ : AbidesFrom W.heap.size J) (hm : W.cell? ⟨Bm, 0, none⟩ = some (.map (some b))) (hown : cgM W b C) (h0 : J [] W) :
    CallsIn F n Tryz.prog 105 #[.func (.yield l) #[] #[], .pointer (some ⟨Bm, 0, none⟩)] W fun e W' => (∃ v, e = .returned v) ∧
      ((∃ xs, xs.Perm C ∧ J xs W') ∨ (∃ pre, True ∧ Jx pre W')) := by
  have hown' : W.ownsMap Tryz.prog 9 cgR b C.length (dOf Cg.k Cg.en C) := hown
  have hsz : Maps.size (dOf Cg.k Cg.en C) = C.length := dOf_size _ _ _
  refine callsIn_of_wp Tryz.func105 rfl hfn ?_ hro
  simp only [Tryz.ntmps105, List.size_toArray, List.length_cons, List.length_nil, Nat.reduceAdd, Nat.reduceSub, Array.replicate_succ, Array.replicate_zero, List.push_toArray, List.append_toArray, List.nil_append, List.cons_append]
  gi_wp2_with (first
    | (gi_at_range; refine wpListIn_range_own _ rfl _ 142 rfl 9 70 strK Tryz.underlying142 _ b C.length _ rfl hown' ?_; intro w0 hrg0 hg0 hs0)
    | gi_in)
  go_frame
  gi_loopw [4] (fun _ wr => ∃ (left : Lit → Bool) (cnt : Nat) (xs : List Cg), wr.ranges Tryz.prog 9 cgR b W.heap.size C.length (dOf Cg.k Cg.en C) left cnt ∧ xs.length + cnt ≤ C.length ∧ CameV C left xs ∧ J xs wr)
    (fun _ wr => wr.rangeLeft b W.heap.size)
  case atStart =>
    exact ⟨_, _, [], hrg0, by simp [hsz], CameV.start C, hJ [] W w0 none h0 hg0 (fun r e => by cases e)⟩
  case round =>
    obtain ⟨left, cnt, xs, hrg, hcs, hC, hJs⟩ := hrel
    gi_wp2_with (first
      | (gi_at_next; refine wpListIn_next_ranges _ rfl _ rfl 9 strK cgR encStr (fun c : Cg => Value.agg #[encStr c.k, encStr c.v, .bool c.g]) (fun key kl hk => key_inv hk) (fun v y hv => cgR_val hv) b W.heap.size C.length _ _ _ rfl hrg ?_ ?_)
      | gi_in)
    · intro hc0 hl0
      gi_wp2
      go_end0
      exact ⟨⟨_, rfl⟩, .inl ⟨xs, hC.perm hr hl0, hJs⟩⟩
    · intro x c kl yd yp w2 cnt2 hkey hlk hv hat hrg2 hlt hg2 hs2 hen
      obtain ⟨rfl, hgc, -⟩ := cg_came (c := c) (y := (yd, yp)) hkey hv hat
      have hC2 := hC.step hr hgc hlk
      have hJ2 : J xs w2 := hJ xs wr w2 (some W.heap.size) hJs hg2 (fun r e => by cases e; exact ⟨Nat.le_refl _, hrg.iter_walk⟩)
      have hJ3 : J xs (w2.alloc (.cells #[encStr c.k, encStr c.v, .bool c.g] 70)) := hJ xs _ _ none hJ2 (World.grownBy_alloc w2 _ none) (fun r e => by cases e)
      obtain ⟨fn, tmps, assign, body, hy, hR⟩ := hY xs c _ hJ3 (by omega)
      have hrg2' := hrg2.alloc (.cells #[encStr c.k, encStr c.v, .bool c.g] 70)
      have hms : cnt2 < wr.rangeLeft b W.heap.size := by rw [hrg.left_eq]; exact hlt
      clear hs2 hrg2 hrg hJ2 hJ3 hJs hC hat hv hkey hgc hlk hown hown'
      generalize c.k = ck at *
      generalize c.v = cv at *
      generalize c.g = cg at *
      gi_wp2
      refine hR.mono ?_
      rintro e W3 (⟨rfl, hJ3, hk3⟩ | ⟨rfl, hJx3⟩)
      · gi_wp2
        have hrg3 := hrg2'.of_walks hk3
        go_roundw
        case rel => exact ⟨_, cnt2, xs ++ [c], hrg3, by simp; omega, hC2, hJ3⟩
        case measure => rw [hrg3.left_eq]; exact hms
      · gi_wp2
        refine bodyPost_ret (results_none rfl _ _ _) rfl ?_
        exact ⟨⟨_, rfl⟩, .inr ⟨_, trivial, hJx3⟩⟩
theorem vals_stops (F : Fence) (n : Nat) (hfn : F.fn 105) (hro : F.round = none) (hn : 1 ≤ n) (Bm b : Nat) (C : List Cg) (hr : Rise Cg.k C) (w : World) (hBm : Bm < w.heap.size)
    (hm : w.cell? ⟨Bm, 0, none⟩ = some (.map (some b))) (hown : cgM w b C) :
    SeqStopsK F n Tryz.prog 105 #[.pointer (some ⟨Bm, 0, none⟩)] (fun x : Cg => #[Value.agg #[encStr x.k, encStr x.v, .bool x.g]]) KeepsWalks (fun xs => xs.Perm C) (fun _ => True) C.length w := fun l J Jx W hW hJ _ hY h0 =>
  vals1_in F n hfn hro hn l Bm b C hr J Jx hY W hJ ((hW.cell (p := ⟨Bm, 0, none⟩) hBm).trans hm) (owns_keepB hown (hW.block b (World.ownsMap.lt hown))) h0
set_option maxHeartbeats 1000000 in
theorem vals_in (F : Fence) (n : Nat) (hf : F.fn 74) (hro : F.round = none) (mb : Option Nat) (w : World) :
    CallsIn F n Tryz.prog 74 #[.map mb] w fun e w' => e = .returned (.func (.func 105) #[] #[.pointer (some ⟨w.heap.size, 0, none⟩)]) ∧ w' = w.alloc (.cells #[.map mb] 142) := by
  refine callsIn_of_wp Tryz.func74 rfl hf ?_ hro
  simp only [Tryz.ntmps74, List.size_toArray, List.length_cons, List.length_nil, Nat.reduceAdd, Nat.reduceSub, Array.replicate_succ, Array.replicate_zero, List.push_toArray, List.append_toArray, List.nil_append, List.cons_append]
  gi_wp2
  go_ret
  exact ⟨rfl, rfl⟩
/-- Changes as cells. -/
def flatC (l : List Cg) : List Value := l.flatMap cgL
theorem flatC_append (l m : List Cg) : flatC (l ++ m) = flatC l ++ flatC m := List.flatMap_append
theorem flatC_length : ∀ l : List Cg, (flatC l).length = l.length * 3
  | [] => rfl
  | x :: r => by
    have := flatC_length r
    simp only [flatC, List.flatMap_cons, List.length_append, List.length_cons] at this ⊢
    rw [this]
    simp [cgL]
    omega
theorem Tryz.infoCg : (Tryz.prog.info? 70).map (fun i => (i.zero, i.size, i.bytes)) = some (some (.agg #[.string ⟨#[]⟩, .string ⟨#[]⟩, .bool false]), 3, 40) := by kernel_rfl
theorem three_own {B Bx : Nat} {a b c : Value} {t : TypeId} : OwnFrom B (fun (_ : Unit) (W : World) => W.heap[Bx]? = some (.cells #[a, b, c] t (0, 0))) := fun _ X Y row hs hg hr => by
  dsimp only at hs ⊢
  rw [hg.block Bx (lt_of_block hs) (fun e => by
    obtain ⟨_, o, ho, hc⟩ := hr Bx e.symm
    rw [hs] at ho
    cases ho
    cases hc)]
  exact hs
/-- What is collected: a slice of its own. -/
def ColR (w : World) (xs : List Cg) (v : Value) (w' : World) : Prop := w'.ownsRow w.heap.size 70 3 v xs.length (flatC xs) ∧ Below w.heap.size w w'
set_option maxRecDepth 100000 in
set_option maxHeartbeats 2000000 in
theorem appSeq_in (F : Fence) (n : Nat) (hA : F.fn 118) (hV : F.fn 105) (hro : F.round = none) (hn : 3 ≤ n) (Bm b : Nat) (C : List Cg) (hr : Rise Cg.k C) (hlen : C.length ≤ 1000000) (w : World)
    (hm : w.cell? ⟨Bm, 0, none⟩ = some (.map (some b))) (hown : cgM w b C) :
    CallsIn F n Tryz.prog 118 #[.slice none 0 0, .func (.func 105) #[] #[.pointer (some ⟨Bm, 0, none⟩)]] w fun e W' => ∃ v xs, e = .returned v ∧ xs.Perm C ∧ ColR w xs v W' := by
  have h1 : 1 ≤ n := by omega
  obtain ⟨i0, hi0, hz0, hz1, hz2⟩ := info_parts Tryz.infoCg
  have hBm : Bm < w.heap.size := World.block_lt_of_cell? w ⟨Bm, 0, none⟩ hm
  refine callsIn_of_wp_marks Tryz.func118 rfl hA ?_ hro
  simp only [Tryz.ntmps118, List.size_toArray, List.length_cons, List.length_nil, Nat.reduceAdd, Nat.reduceSub, Array.replicate_succ, Array.replicate_zero, List.push_toArray, List.append_toArray, List.nil_append, List.cons_append]
  gi_wp2
  have bS := Boxed.new w 52 (.slice none 0 0)
  have hB0 : Below w.heap.size w (w.alloc (.cells #[.slice none 0 0] 52)) := (Below.refl _ w).alloc (Nat.le_refl _) _
  have hsz : (w.alloc (.cells #[.slice none 0 0] 52)).heap.size = w.heap.size + 1 := by simp
  obtain ⟨W0, hW0⟩ : ∃ W0, w.alloc (.cells #[.slice none 0 0] 52) = W0 := ⟨_, rfl⟩
  rw [hW0] at bS hB0 hsz ⊢
  clear hW0
  have hown0 : cgM W0 b C := owns_keepB hown (hB0.block b (World.ownsMap.lt hown))
  have hm0 : W0.cell? ⟨Bm, 0, none⟩ = some (.map (some b)) := (hB0.cell (p := ⟨Bm, 0, none⟩) hBm).trans hm
  refine wpIn_rangeFunc_ownH hro h1 (gf := 105) (lb := #[.pointer (some ⟨Bm, 0, none⟩)]) rfl hV (enters_of Tryz.func105 (by kernel_rfl) rfl)
    (vals_stops F (n - 1) hV hro (by omega) Bm b C hr W0 (by omega) hm0 hown0) walksK_t walksK_b (Below.refl _ _) (fun _ => rfl)
    (fun pre W => (∃ v, Boxed W w.heap.size 52 v ∧ W.ownsRow w.heap.size 70 3 v pre.length (flatC pre) ∧ True) ∧ (Below w.heap.size w W ∧ W0.heap.size ≤ W.heap.size))
    (fun _ _ _ => False)
    (OwnFrom.and (Own.from (holdsRow_own w.heap.size w.heap.size 52 70 3 (fun pre : List Cg => pre.length) flatC (fun _ _ => True)) _) (OwnFrom.and (ownFrom_below (Nat.le_refl _) (by omega)) (fun _ _ _ _ hs hg _ => Nat.le_trans hs hg.size)))
    (fun c _ _ _ _ hs _ _ => hs.elim)
    ⟨⟨_, bS, World.ownsRow_nil _ _ _ _, trivial⟩, hB0, Nat.le_refl _⟩
    (fun x a' W => ∃ Bx, w.heap.size < Bx ∧ W.heap[Bx]? = some (.cells #[encStr x.k, encStr x.v, .bool x.g] 70 (0, 0)) ∧ a' = { tmps := #[.slice none 0 0, .func (.func 105) #[] #[.pointer (some ⟨Bm, 0, none⟩)], .pointer (some ⟨w.heap.size, 0, none⟩), undef, .slice none 0 0, .pointer (some ⟨Bx, 0, none⟩), .func (.func 105) #[] #[.pointer (some ⟨Bm, 0, none⟩)], .agg #[encStr x.k, encStr x.v, .bool x.g], undef, undef, undef, undef, undef], defers := [] })
    (fun x a' _ X Y row hs hg hr => by obtain ⟨Bx, h1, h2, h3⟩ := hs; exact ⟨Bx, h1, three_own () X Y row h2 hg hr, h3⟩)
    ?assign ?body ?done ?stop
  case assign =>
    rintro l pre x W K ⟨⟨v, bv, hrow, -⟩, hB1, hW0⟩ hK
    gi_wp2
    exact hK _ _ ((KeepsOthers.alloc _ _).from _) (KeepsWalks.alloc _ _) ⟨⟨v, bv.alloc _, hrow.alloc _, trivial⟩, hB1.alloc hB1.size _, by simp; omega⟩ ⟨W.heap.size, bv.lt, heap_alloc_new W _, rfl⟩
  case body =>
    rintro l pre x a' W hl ⟨r, hr⟩ ⟨⟨v, hv, hrow, -⟩, hB1, hW0⟩ ⟨Bx, hBx, bX, rfl⟩ hlt
    have cS := hv.cell
    have fS := hv.frozen
    have x0 : W.cell? ⟨Bx, 0, none⟩ = some (encStr x.k) := by rw [cell_of_row _ _ 0 _ _ _ bX]; rfl
    have x1 : W.cell? ⟨Bx, 1, none⟩ = some (encStr x.v) := by rw [cell_of_row _ _ 1 _ _ _ bX]; rfl
    have x2 : W.cell? ⟨Bx, 2, none⟩ = some (.bool x.g) := by rw [cell_of_row _ _ 2 _ _ _ bX]; rfl
    have hfl : flatC (pre ++ [x]) = flatC pre ++ [encStr x.k, encStr x.v, .bool x.g] := by rw [flatC_append]; rfl
    have HF : Hid (flatC (pre ++ [x]) = flatC pre ++ [encStr x.k, encStr x.v, .bool x.g]) := hfl
    clear hfl
    gi_wp2_with (first
      | (gi_at_builtin; refine wpListIn_append_own _ rfl _ _ 52 rfl w.heap.size 70 i0 _ 3 40 Tryz.underlying52 hi0 hz0 hz1 hz2 rfl (by decide) v pre.length (flatC pre) rfl (hrow.alloc _) ⟨W.heap.size, 0, none⟩ 1 1 [encStr x.k, encStr x.v, .bool x.g] rfl rfl (World.news_of_block (cs := #[encStr x.k, encStr x.v, .bool x.g]) (t := 70) (fr := (0, 0)) (heap_alloc_new W _)) (by simp [Value.oneCell', encStr]) (by unfold maxLen; omega) (by omega) (by have := hB1.size; simp; omega) ?_; intro v' w1 hown' hgrow _; obtain ⟨g', cap', rfl⟩ := ownsRow_succ hown'; obtain ⟨hv1, hv2, hr2, hk2, hb2⟩ := hv.appended (by decide) hrow hB1.size (Nat.le_refl _) hown' hgrow; have hc1 := hv1.cell; have hf1 := hv1.frozen)
      | gi_in)
    exact ⟨hk2.from _, hk2.walks, ⟨_, hv2, by rw [HF.out]; simpa using hr2, trivial⟩, hB1.trans hb2, Nat.le_trans hW0 hk2.size⟩
  case done =>
    rintro D ys W hD hys ⟨⟨v, hv, hrow, -⟩, hB1, hW0⟩ hK
    have cS := hv.cell
    gi_wp2
    refine ⟨by simp, .inl ⟨_, _, rfl, run_takeDeferred hK, ?_⟩⟩
    exact ⟨_, results_tmp rfl _ _ _, v, ys, rfl, hys, ownsRow_putObj hrow _ hK rfl, hB1.trans (belowK_b (w := w) (Nat.le_refl _) W D _ _ (by omega) hK rfl rfl)⟩
  case stop =>
    rintro D c pre W hD _ hF
    exact hF.elim
set_option maxHeartbeats 1000000 in
theorem collect_in (F : Fence) (n : Nat) (hC : F.fn 103) (hA : F.fn 118) (hV : F.fn 105) (hro : F.round = none) (hn : 4 ≤ n) (Bm b : Nat) (C : List Cg) (hr : Rise Cg.k C) (hlen : C.length ≤ 1000000) (w : World)
    (hm : w.cell? ⟨Bm, 0, none⟩ = some (.map (some b))) (hown : cgM w b C) :
    CallsIn F n Tryz.prog 103 #[.func (.func 105) #[] #[.pointer (some ⟨Bm, 0, none⟩)]] w fun e W' => ∃ v xs, e = .returned v ∧ xs.Perm C ∧ ColR w xs v W' := by
  have h1 : 1 ≤ n := by omega
  have hc := appSeq_in F (n - 1) hA hV hro (by omega) Bm b C hr hlen w hm hown
  clear hown hm
  refine callsIn_of_wp Tryz.func103 rfl hC ?_ hro
  simp only [Tryz.ntmps103, List.size_toArray, List.length_cons, List.length_nil, Nat.reduceAdd, Nat.reduceSub, Array.replicate_succ, Array.replicate_zero, List.push_toArray, List.append_toArray, List.nil_append, List.cons_append]
  gi_wp2_with (gi_at_call 118; refine hc.mono ?_; rintro e w' ⟨v, xs, rfl, hp, hR⟩)
  go_ret
  exact ⟨v, xs, rfl, hp, hR⟩
theorem collect_any (Bm b : Nat) (C : List Cg) (hr : Rise Cg.k C) (hlen : C.length ≤ 1000000) (w : World) (hm : w.cell? ⟨Bm, 0, none⟩ = some (.map (some b))) (hown : cgM w b C) :
    Calls Tryz.prog 103 #[.func (.func 105) #[] #[.pointer (some ⟨Bm, 0, none⟩)]] w fun e W' => ∃ v xs, e = .returned v ∧ xs.Perm C ∧ ColR w xs v W' :=
  callsIn_wide.1 (collect_in Fence.wide 6 trivial trivial trivial rfl (by omega) Bm b C hr hlen w hm hown)
theorem vals_any (mb : Option Nat) (w : World) :
    Calls Tryz.prog 74 #[.map mb] w fun e w' => e = .returned (.func (.func 105) #[] #[.pointer (some ⟨w.heap.size, 0, none⟩)]) ∧ w' = w.alloc (.cells #[.map mb] 142) :=
  callsIn_wide.1 (vals_in Fence.wide 3 trivial rfl mb w)
end Go.Proofs.YtbfajoeilpkofaaGreatDoor
