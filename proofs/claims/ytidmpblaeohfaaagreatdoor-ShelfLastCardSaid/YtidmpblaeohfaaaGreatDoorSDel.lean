/- What changes nothing is struck: maps.DeleteFunc with the closure of changes. -/
import Derived.Test.YtidmpblaeohfaaaGreatDoorSGet
import Derived.Maps.RangeWalk
import Derived.Deep.MidRow
import Derived.Shelf.SlMaps.DeleteFunc
import Derived.Shelf.Abstract
namespace Go.Proofs.YtidmpblaeohfaaaGreatDoor
open Go.RowKit Go.Maps Go.Sort

attribute [local go_sem ↓] Go.wp_at_zero Go.wp_at_succ

/-- Does a change change nothing of leaves? -/
def sameC (L : List Lf) (c : Cg) : Bool := match getK Lf.k c.k L with | none => c.g | some f => !c.g && f.v == c.v
def pdD (pd : Cg → Bool) (_ : Lit) (d : DataW Unit) : Bool := match d with
  | .agg [.lit (.string a), .lit (.string b), .lit (.bool g)] => pd ⟨a, b, g⟩
  | _ => false
theorem pdD_en (pd : Cg → Bool) (kl : Lit) (x : Cg) : pdD pd kl x.en = pd x := rfl
/-- What comes out of a map of changes. -/
theorem cg_came {L : List Cg} {x : List UInt8} {c : Cg} {kl : Lit} {y : DataW Unit × List MemPlace} (hkey : keyOf Tryz.prog 9 (encStr x) = some kl) (hv : cgR (cgV c) = some y)
    (hat : ∀ zd, (dOf Cg.k Cg.en L).atKey kl zd = y.1) : kl = .string x ∧ getK Cg.k x L = some c ∧ y.1 = c.en := by
  obtain ⟨x', e, rfl, _⟩ := Maps.keyOf_str Tryz.underlying9 hkey
  obtain rfl := encStr_inj e
  have e1 : y = (c.en, []) := Option.some.inj (hv.symm.trans (cgR_mk c))
  subst e1
  have h1 := hat .nil
  rw [dOf_at] at h1
  refine ⟨rfl, ?_, rfl⟩
  cases hg : getK Cg.k x L with
  | none => rw [hg] at h1; cases h1
  | some f => rw [hg] at h1; rw [Cg.en_inj h1]
set_option maxRecDepth 100000 in
set_option maxHeartbeats 800000 in
theorem chg1_any (sh m p fr n bx : Nat) (L : List Lf) (dead : Int) (x : Cg) (w : World) (h : ShAt w sh m p fr n L dead) (hx : x.k.length ≤ maxLen) (hb : w.cell? ⟨bx, 0, none⟩ = some (.pointer (some ⟨sh, 0, none⟩))) :
    Calls Tryz.prog 72 #[encStr x.k, .agg #[encStr x.k, encStr x.v, .bool x.g], .pointer (some ⟨bx, 0, none⟩)] w fun e w' => e = .returned (.bool (sameC L x)) ∧ Below w.heap.size w w' := by
  have c3 := h.c3
  have l1 := h.lt
  have l2 := h.ltm
  have l3 : bx < w.heap.size := World.block_lt_of_cell? w ⟨bx, 0, none⟩ hb
  have hm1 : lfM (w.alloc (.cells #[encStr x.k, encStr x.v, .bool x.g] 70)) m L := World.ownsMap.alloc h.map _
  obtain ⟨q, u, hrun, hv⟩ := look_lf hm1 hx
  have hq := eq_str u x.v
  have hsame : sameC L x = if x.g then !(getK Lf.k x.k L).isSome else ((getK Lf.k x.k L).isSome && u == x.v) := by
    unfold sameC
    rcases hv with ⟨e, _, rfl⟩ | ⟨f, e, _, rfl⟩ <;> rw [e] <;> cases x.g <;> simp
  rw [hsame]
  generalize (getK Lf.k x.k L).isSome = b at *
  generalize x.g = gg at *
  generalize x.v = vv at *
  generalize x.k = kk at *
  clear h hv hm1 hsame hx
  cases gg
  · cases b
    · go_enter Tryz.func72, Tryz.ntmps72
      go_wp2
      go_ret
      exact ⟨rfl, (by repeat (first | exact Below.refl _ _ | refine Below.alloc ?_ (by simp; try omega) _ | refine Below.setCell ?_ (by simp) _ | refine below_drewN ?_ _ | refine Below.drew ?_))⟩
    · go_enter Tryz.func72, Tryz.ntmps72
      go_wp2
      go_ret
      exact ⟨by simp, (by repeat (first | exact Below.refl _ _ | refine Below.alloc ?_ (by simp; try omega) _ | refine Below.setCell ?_ (by simp) _ | refine below_drewN ?_ _ | refine Below.drew ?_))⟩
  · go_enter Tryz.func72, Tryz.ntmps72
    go_wp2
    go_ret
    exact ⟨by simp, (by repeat (first | exact Below.refl _ _ | refine Below.alloc ?_ (by simp; try omega) _ | refine Below.setCell ?_ (by simp) _ | refine below_drewN ?_ _ | refine Below.drew ?_))⟩
theorem below_grown {a b : World} (h : Below a.heap.size a b) : a.grownBy b none := ⟨h.os, h.tape, h.output, h.size, fun k hk _ => h.block k hk⟩
set_option maxRecDepth 100000 in
set_option maxHeartbeats 4000000 in
theorem delFunc_any (pd : Cg → Bool) (b : Nat) (bx : Value) (C : List Cg) (w : World) (hown : cgM w b C)
    (hdel : ∀ W x, x ∈ C → w.grownBy W (some b) → Calls Tryz.prog 72 #[encStr x.k, .agg #[encStr x.k, encStr x.v, .bool x.g], bx] W fun e w' => e = .returned (.bool (pd x)) ∧ W.grownBy w' none) :
    Calls Tryz.prog 71 #[.map (some b), .func (.func 72) #[] #[bx]] w fun e w' => e = .returned (.tuple #[]) ∧ cgM w' b (C.filter fun x => !pd x) ∧ w.grownBy w' (some b) := by
  have hD : Lib.deleteFuncD (pdD pd) (dOf Cg.k Cg.en C) = dOf Cg.k Cg.en (C.filter fun x => !pd x) := by rw [dOf_filter]; rfl
  obtain ⟨es0, he0, hap, hkeys⟩ := World.ownsMap.entries hown strK
  have HE : Hid (dOf Cg.k Cg.en C = .map es0) := he0
  have HD : Hid (Lib.deleteFuncD (pdD pd) (.map es0) = dOf Cg.k Cg.en (C.filter fun x => !pd x)) := by rw [he0] at hD; exact hD
  have HX : Hid (∀ W x, x ∈ C → w.grownBy W (some b) → Calls Tryz.prog 72 #[encStr x.k, .agg #[encStr x.k, encStr x.v, .bool x.g], bx] W fun e w' => e = .returned (.bool (pd x)) ∧ W.grownBy w' none) := hdel
  have HK : Hid (es0.Pairwise (fun p q => p.1 ≠ q.1) ∧ ∀ p ∈ es0, WideAt.IsKeyLit p.1) := ⟨hap, hkeys⟩
  have hown' : w.ownsMap Tryz.prog 9 cgR b C.length (.map es0) := by rw [← he0]; exact hown
  have hcl : Maps.size (.map es0 : DataW Unit) = C.length := by rw [← he0, dOf_size]
  clear hdel hD he0 hown hap hkeys
  go_enter Tryz.func71, Tryz.ntmps71
  go_wp2_with (first
    | (at_range; refine wpList_range_own _ rfl _ 142 rfl 9 70 strK Tryz.underlying142 cgR b C.length _ rfl hown' ?_; intro w0 hrg0 hg0 hs0)
    | fail)
  go_frame
  go_loopw [8] (fun _ wr => ∃ (left : Lit → Bool) (cnt : Nat), wr.ranges Tryz.prog 9 cgR b w.heap.size C.length (Fk (pdD pd) es0 left) left cnt ∧ w.grownBy wr (some b))
    (fun _ wr => wr.rangeLeft b w.heap.size)
  case atStart => exact ⟨_, _, by rw [Fk_start HK.out.2]; exact hrg0, hg0.but _⟩
  case round =>
    obtain ⟨left, cnt, hrg, hgw⟩ := hrel
    clear hrg0 hg0 hs0 hown'
    go_wp2_with (first
      | (at_next; refine wpList_next_ranges _ rfl _ rfl 9 strK cgR encStr (fun c : Cg => Value.agg #[encStr c.k, encStr c.v, .bool c.g]) (fun key kl hk => key_inv hk) (fun v y hv => cgR_val hv) b w.heap.size C.length _ _ _ rfl hrg ?_ ?_)
      | fail)
    · intro _ hl0
      have HR : Hid (cgM wr b (C.filter fun x => !pd x) ∧ w.grownBy wr (some b)) := by
        refine ⟨?_, hgw⟩
        have := hrg.owns
        rw [Fk_end hl0, HD.out] at this
        exact cgM.of this
      clear hrg hgw hl0
      go_wp2
      go_end0
      exact ⟨rfl, HR.out⟩
    · intro x c kl yd yp w1 cnt1 hkey hlx hv hat hrg1 hlt hg1 hs1 hen
      have hcame : pdD pd kl yd = pd c ∧ c ∈ C ∧ c.k = x := by
        have hat0 : ∀ zd, (dOf Cg.k Cg.en C).atKey kl zd = yd := fun zd => by
          have h1 := at_cameK HK.out.1 (strK.key hkey) hlx hat
          have h2 := hat .nil
          have hm : (kl, yd) ∈ es0 := by
            have h3 := hrg1.owns
            by_cases hex : ∃ p ∈ es0, p.1 = kl
            · obtain ⟨p, hp, hpk⟩ := hex
              rw [← hpk, ← h1 p hp hpk]; exact hp
            · exfalso
              have h5 : (Fk (pdD pd) es0 left).atKey kl .nil = .nil := by
                unfold Fk DataW.atKey
                dsimp only
                rw [List.find?_eq_none.2 (fun p hp => by
                  intro hs
                  exact hex ⟨p, (List.mem_filter.1 hp).1, WideAt.sameKey_eq hs⟩)]
              rw [h5] at h2
              obtain ⟨_, _, e3⟩ := cgR_inv hv
              have e4 := (Prod.mk.inj e3).1
              rw [← h2] at e4
              cases e4
          rw [HE.out]
          exact WideAt.atKey_mem zd (strK.key hkey) HK.out.1 hm
        obtain ⟨rfl, hg, hy⟩ := cg_came (c := c) (y := (yd, yp)) hkey hv hat0
        obtain ⟨hm, hk⟩ := getK_mem Cg.k hg
        refine ⟨?_, hm, hk⟩
        rw [show yd = c.en from hy]
        rfl
      obtain ⟨hpd, hcm, hck⟩ := hcame
      subst hck
      have hgw1 := hgw.andThen hg1 (fun j hj => by cases hj; exact Or.inl (Nat.le_refl _))
      have hgw2 := hgw1.andThen (World.grownBy_alloc w1 (.cells #[encStr c.k, encStr c.v, .bool c.g] 70) none) (fun j hj => by cases hj)
      have hc := HX.out _ c hcm hgw2
      have hrg1' := hrg1.alloc (.cells #[encStr c.k, encStr c.v, .bool c.g] 70)
      cases hp : pd c with
      | false =>
        rw [hp] at hc hpd
        have HS : Hid (Fk (pdD pd) es0 left = Fk (pdD pd) es0 (fun z => left z && !z.sameKey kl)) := Fk_stays HK.out.1 (strK.key hkey) hlx hpd hat
        have hms : cnt1 < wr.rangeLeft b w.heap.size := by rw [hrg.left_eq]; exact hlt
        have HR : Hid ((w1.alloc (.cells #[encStr c.k, encStr c.v, .bool c.g] 70)).ranges Tryz.prog 9 cgR b w.heap.size C.length (Fk (pdD pd) es0 left) (fun z => left z && !z.sameKey kl) cnt1) := hrg1'
        have HG : Hid (w.grownBy (w1.alloc (.cells #[encStr c.k, encStr c.v, .bool c.g] 70)) (some b)) := hgw2
        clear hrg hrg1 hrg1' hgw hgw1 hgw2 hg1 hat hv hkey hlx hpd hlt hcm
        generalize c.k = ck at *
        generalize c.v = cv at *
        generalize c.g = cg at *
        go_wp2_with fail
        refine hc.mono ?_
        rintro e w2 ⟨rfl, hg2⟩
        go_wp2
        have hrg2 := HR.out.kept hg2 (by simp) (by simp)
        refine ⟨⟨_, cnt1, by rw [← HS.out]; exact hrg2, HG.out.andThen hg2 (fun j hj => by cases hj)⟩, ?_⟩
        rw [hrg2.left_eq]; exact hms
      | true =>
        rw [hp] at hc hpd
        have HS : Hid ((Fk (pdD pd) es0 left).del kl = Fk (pdD pd) es0 (fun z => left z && !z.sameKey kl)) := Fk_struck HK.out.1 (strK.key hkey) hlx hpd hat
        have hms : cnt1 < wr.rangeLeft b w.heap.size := by rw [hrg.left_eq]; exact hlt
        have HR : Hid ((w1.alloc (.cells #[encStr c.k, encStr c.v, .bool c.g] 70)).ranges Tryz.prog 9 cgR b w.heap.size C.length (Fk (pdD pd) es0 left) (fun z => left z && !z.sameKey kl) cnt1) := hrg1'
        have HG : Hid (w.grownBy (w1.alloc (.cells #[encStr c.k, encStr c.v, .bool c.g] 70)) (some b)) := hgw2
        have HY : Hid (keyOf Tryz.prog 9 (encStr c.k) = some kl) := hkey
        clear hrg hrg1 hrg1' hgw hgw1 hgw2 hg1 hat hv hkey hlx hpd hlt hcm
        generalize c.k = ck at *
        generalize c.v = cv at *
        generalize c.g = cg at *
        go_wp2_with fail
        refine hc.mono ?_
        rintro e w2 ⟨rfl, hg2⟩
        have hrg2 := HR.out.kept hg2 (by simp) (by simp)
        go_wp2_with (first
          | (at_delete; refine wpList_delete_ranges _ rfl _ _ 142 9 rfl 70 strK Tryz.underlying142 cgR b w.heap.size C.length _ _ _ rfl hrg2 _ _ rfl HY.out ?_; intro w3 cnt3 hrg3 hle hturn; go_frame)
          | fail)
        rw [strike_twice, HS.out] at hrg3
        refine ⟨⟨_, cnt3, hrg3, (HG.out.andThen hg2 (fun j hj => by cases hj)).andThen hturn.grown (fun j hj => by cases hj; exact Or.inr rfl)⟩, ?_⟩
        rw [hrg3.left_eq]; omega
end Go.Proofs.YtidmpblaeohfaaaGreatDoor
