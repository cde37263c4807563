/- build.Close's answer on both sides, as one transaction that lies; it stays when the block of noughts beside it is overwritten. -/
import Derived.Test.YtjnepkggdkccaaaGreatDoorOwnShelf34
import Derived.Test.YtjnepkggdkccaaaGreatDoorOwnShelf38
import Derived.Test.YtjnepkggdkccaaaGreatDoorProg
import Derived.Ground.Names8Prog
import Derived.Shelf.Spec.SlicesGrow
import Derived.Test.YtjnepkggdkccaaaGreatDoorOwnShelf37
import Derived.Deep.AppendSrc
import Derived.Maps.AppendAt
import Derived.Deep.Slices
import Derived.Test.YtjnepkggdkccaaaGreatDoorOwnShelf19
import Derived.Test.YtjnepkggdkccaaaGreatDoorOwnShelf36
import Derived.Test.YtjnepkggdkccaaaGreatDoorOwnShelf20
namespace Go.Proofs.YtjnepkggdkccaaaGreatDoor
open Go.RowKit

def clN (P : Pm) (s : Sv) : Nat := if clsE P s = 0 then 1 else 0
def clM (P : Pm) (s : Sv) : Nat := if clsE P s = 0 then (outsC P s 2).length else 0
def clX (P : Pm) : Nat → Ti := tF (fun _ => (P.pt, P.n))
def clO (P : Pm) (s : Sv) : Nat → To := oF (outsC P s 2)
/-- What Close answers lies in w. -/
def ClAt (w : World) (P : Pm) (s : Sv) (ia oa : Option Addr) : Prop := TxAt w 0 (clN P s) (clX P) (fun _ _ => 0) (clM P s) (clO P s) ia oa (fun _ => (none, 0))
theorem ClAt.below {w w' : World} {P : Pm} {s : Sv} {ia oa : Option Addr} (h : ClAt w P s ia oa) (hb : Below w.heap.size w w') : ClAt w' P s ia oa := TxAt.below h hb
theorem clAt_mk {w : World} {P : Pm} {s : Sv} {ia oa : Option Addr} (h0 : clsE P s = 0) (h1 : TiAt w ia 1 (tF (fun _ => (P.pt, P.n))) (fun _ => (none, 0))) (h2 : ToAt w oa (outsC P s 2).length (oF (outsC P s 2))) : ClAt w P s ia oa := by
 have hn : clN P s = 1 := if_pos h0
 have hm : clM P s = (outsC P s 2).length := if_pos h0
 unfold ClAt
 rw [hn, hm]
 exact ⟨h1, h2, fun i _ => ⟨SlAt.zero _ _, Nat.zero_le _⟩⟩
theorem clAt_no {w : World} {P : Pm} {s : Sv} (h0 : clsE P s ≠ 0) : ClAt w P s none none := by
 have hn : clN P s = 0 := if_neg h0
 have hm : clM P s = 0 := if_neg h0
 unfold ClAt
 rw [hn, hm]
 exact ⟨TiAt.nil _ _ _ _, ToAt.nil _ _ _, fun i hi => by omega⟩
theorem cls_tx {P : Pm} {s : Sv} {w w' : World} {e : Ending} (h : ClsP P s w e w') : ∃ ia ic oa oc, e = .returned (.tuple #[.agg (txv 0 ia (clN P s) ic oa (clM P s) oc), errV (clsE P s)]) ∧ ClAt w' P s ia oa := by
 by_cases h0 : clsE P s = 0
 ·obtain ⟨ia, ic, oa, oc, rfl, hT⟩ := h.ok h0
  exact ⟨ia, ic, oa, oc, by rw [show clN P s = 1 from if_pos h0, show clM P s = (outsC P s 2).length from if_pos h0, h0]; rfl, clAt_mk h0 hT.tin hT.tout⟩
 ·exact ⟨none, 0, none, 0, by rw [show clN P s = 0 from if_neg h0, show clM P s = 0 from if_neg h0]; exact h.bad h0, clAt_no h0⟩
theorem rcls_tx {P : Pm} {s : Sv} {w w' : World} {e : Ending} (h : RClsP P s w e w') : ∃ ia ic oa oc, e = .returned (.tuple #[.agg (txv 0 ia (clN P s) ic oa (clM P s) oc), .int .i64 (clsE P s)]) ∧ ClAt w' P s ia oa := by
 by_cases h0 : clsE P s = 0
 ·obtain ⟨ia, ic, oa, oc, rfl, h1, h2⟩ := h.ok h0
  exact ⟨ia, ic, oa, oc, by rw [show clN P s = 1 from if_pos h0, show clM P s = (outsC P s 2).length from if_pos h0, h0], clAt_mk h0 h1 h2⟩
 ·exact ⟨none, 0, none, 0, by rw [show clN P s = 0 from if_neg h0, show clM P s = 0 from if_neg h0]; exact h.bad h0, clAt_no h0⟩
theorem outsC_1 (P : Pm) (s : Sv) : ∀ i, ∀ x ∈ outsC P s i, x.cn = 1 ∧ ∀ j, (x.X j).n = 1
 | 0, x, h => by simp [outsC] at h
 | i + 1, x, h => by
  simp only [outsC, List.mem_append] at h
  rcases h with h | h
  ·exact outsC_1 P s i x h
  ·simp only [ifL] at h
   split at h
   ·obtain rfl := by simpa using h
    exact ⟨by simp [clsO], fun i => by simp [clsO, Cd.kb]⟩
   ·simp at h
theorem clO_1 (P : Pm) (s : Sv) (i : Nat) (hi : i < clM P s) : (clO P s i).cn = 1 ∧ ∀ j, ((clO P s i).X j).n = 1 := by
 have hj : i < (outsC P s 2).length := by unfold clM at hi; split at hi <;> omega
 refine outsC_1 P s 2 _ ?_
 simp only [clO, oF, List.getD_eq_getElem?_getD, List.getElem?_eq_getElem hj, Option.getD_some]
 exact List.getElem_mem hj
theorem cls_few (P : Pm) (s : Sv) : Few (clN P s) (clM P s) (clO P s) := by
 have h2 := outsC_len P s 2
 refine ⟨by unfold clN; split <;> omega, by unfold clM; split <;> omega, fun i hi => ?_⟩
 obtain ⟨h3, h4⟩ := clO_1 P s i hi
 exact ⟨by omega, fun j _ => by rw [h4 j]; omega⟩
/-- A block of noughts becomes a transaction of Lock 0: what the answer says of its own blocks stays. -/
theorem ClAt.over {w w' : World} {P : Pm} {s : Sv} {ia oa : Option Addr} {tb : Nat} {t : TypeId} {v1 v2 : Value} {fr fr' : Nat × Nat} (h : ClAt w P s ia oa) (hb : w.heap[tb]? = some (.cells #[.int .i64 0, .slice none 0 0, .slice none 0 0] t fr)) (hg : w'.heap[tb]? = some (.cells #[.int .i64 0, v1, v2] t fr')) (hf : ∀ k, k < w.heap.size → k ≠ tb → w'.heap[k]? = w.heap[k]?) : ClAt w' P s ia oa := by
 have K : ∀ b o v, w.cell? ⟨b, o, none⟩ = some v → v ≠ .slice none 0 0 → w'.cell? ⟨b, o, none⟩ = some v := by
  intro b o v hc hv
  by_cases e : b = tb
  ·subst e
   rw [cell_of_row _ _ o _ _ _ hb] at hc
   rw [cell_of_row _ _ o _ _ _ hg]
   match o, hc with
   | 0, hc => exact hc
   | 1, hc => exact absurd (Option.some.inj hc).symm hv
   | 2, hc => exact absurd (Option.some.inj hc).symm hv
   | o + 3, hc => simp at hc
  ·rw [World.cell?_of_block (a := ⟨b, o, none⟩) (hf b (World.block_lt_of_cell? w ⟨b, o, none⟩ hc) e)]
   exact hc
 have KR : ∀ b o l, w.rangeAt b o l → (∀ v ∈ l, v ≠ .slice none 0 0) → w'.rangeAt b o l := fun b o l hr hl j v hj => K b (o + j) v (hr j v hj) (hl v (List.mem_of_getElem? hj))
 refine ⟨⟨h.ti.pt, fun hn => ?_⟩, ⟨fun hm => ?_⟩, fun i hi => ⟨?_, (h.sc i hi).2⟩⟩
 ·obtain ⟨b, off, e, hr⟩ := h.ti.at_ hn
  refine ⟨b, off, e, fun i hi => ?_⟩
  have h1 := hr i hi
  have hu : (til (clX P i) none 0)[0]? = some (.int .u8 ((clX P i).pt 0)) := rfl
  have h2 := h1 0 _ hu
  have hne : b ≠ tb := fun e2 => by
   subst e2
   rw [cell_of_row _ _ _ _ _ _ hb] at h2
   generalize off + i * 35 + 0 = q at h2
   match q, h2 with
   | 0, h2 => cases h2
   | 1, h2 => cases h2
   | 2, h2 => cases h2
   | q + 3, h2 => simp at h2
  have hbk := hf b (World.block_lt_of_cell? w ⟨b, _, none⟩ h2) hne
  intro j v hj
  rw [World.cell?_of_block (a := ⟨b, off + i * 35 + j, none⟩) hbk]
  exact h1 j v hj
 ·obtain ⟨b, off, e, hr⟩ := h.ou.at_ hm
  refine ⟨b, off, e, fun i hi => ?_⟩
  obtain ⟨ca, cc, h1, h2, h3⟩ := hr i hi
  obtain ⟨q1, q2⟩ := clO_1 P s i hi
  refine ⟨ca, cc, KR _ _ _ h1 (fun v hv => ?_), ?_, h3⟩
  ·simp only [tol, List.mem_cons, List.not_mem_nil, or_false] at hv
   rcases hv with rfl | rfl
   ·exact fun e => by cases e
   ·rw [q1]; exact fun e => by cases e
  ·refine ⟨h2.ok, fun hp => ?_⟩
   obtain ⟨b2, o2, e2, hr2⟩ := h2.at_ hp
   refine ⟨b2, o2, e2, fun j hj => ?_⟩
   obtain ⟨ka, kc, g1, g2⟩ := hr2 j hj
   refine ⟨ka, kc, KR _ _ _ g1 (fun v hv => ?_), fun hq => ?_⟩
   ·simp only [Cd.brl, List.mem_append, List.mem_cons, List.not_mem_nil, or_false] at hv
    have hbl : ∀ z k, v ∈ bl z k → v ≠ .slice none 0 0 := fun z k hz e => by
     subst e
     simp [bl] at hz
    simp only [q2 j] at hv
    rcases hv with rfl | hv
    ·exact fun e => by cases e
    ·rcases hv with hv | hv
     ·exact hbl _ _ hv
     ·rcases hv with rfl | rfl <;> exact fun e => by cases e
   ·obtain ⟨b3, o3, e3, hr3⟩ := g2 hq
    exact ⟨b3, o3, e3, fun k hk => K _ _ _ (hr3 k hk) (fun e => by cases e)⟩
 ·exact SlAt.zero _ _
end Go.Proofs.YtjnepkggdkccaaaGreatDoor
/- A transaction that lies stays when a block of noughts beside it is overwritten by another one of Lock 0. -/
namespace Go.Proofs.YtjnepkggdkccaaaGreatDoor
open Go.RowKit

/-- Each output has a branch, and each branch a key. -/
def Keyed (m : Nat) (O : Nat → To) : Prop := ∀ i, i < m → 0 < (O i).cn ∧ ∀ j, j < (O i).cn → 0 < ((O i).X j).n
theorem TxAt.over {w w' : World} {lk : Int} {n : Nat} {X : Nat → Ti} {Z : Nat → Nat → Int} {m : Nat} {O : Nat → To} {ia oa : Option Addr} {tb : Nat} {t : TypeId} {v0 v1 v2 : Value} {fr fr' : Nat × Nat} (h : TxAt w lk n X Z m O ia oa (fun _ => (none, 0))) (hs : ∀ i, i < n → (X i).sn = 0) (hk : Keyed m O) (hb : w.heap[tb]? = some (.cells #[.int .i64 0, .slice none 0 0, .slice none 0 0] t fr)) (h0 : v0 = .int .i64 0) (hg : w'.heap[tb]? = some (.cells #[v0, v1, v2] t fr')) (hf : ∀ k, k < w.heap.size → k ≠ tb → w'.heap[k]? = w.heap[k]?) : TxAt w' lk n X Z m O ia oa (fun _ => (none, 0)) := by
 subst h0
 have K : ∀ b o v, w.cell? ⟨b, o, none⟩ = some v → v ≠ .slice none 0 0 → w'.cell? ⟨b, o, none⟩ = some v := by
  intro b o v hc hv
  by_cases e : b = tb
  ·subst e
   rw [cell_of_row _ _ o _ _ _ hb] at hc
   rw [cell_of_row _ _ o _ _ _ hg]
   match o, hc with
   | 0, hc => exact hc
   | 1, hc => exact absurd (Option.some.inj hc).symm hv
   | 2, hc => exact absurd (Option.some.inj hc).symm hv
   | o + 3, hc => simp at hc
  ·rw [World.cell?_of_block (a := ⟨b, o, none⟩) (hf b (World.block_lt_of_cell? w ⟨b, o, none⟩ hc) e)]
   exact hc
 have KR : ∀ b o l, w.rangeAt b o l → (∀ v ∈ l, v ≠ .slice none 0 0) → w'.rangeAt b o l := fun b o l hr hl j v hj => K b (o + j) v (hr j v hj) (hl v (List.mem_of_getElem? hj))
 refine ⟨⟨h.ti.pt, fun hn => ?_⟩, ⟨fun hm => ?_⟩, fun i hi => ⟨?_, (h.sc i hi).2⟩⟩
 ·obtain ⟨b, off, e, hr⟩ := h.ti.at_ hn
  refine ⟨b, off, e, fun i hi => ?_⟩
  have h1 := hr i hi
  have hu : (til (X i) none 0)[0]? = some (.int .u8 ((X i).pt 0)) := rfl
  have h2 := h1 0 _ hu
  have hne : b ≠ tb := fun e2 => by
   subst e2
   rw [cell_of_row _ _ _ _ _ _ hb] at h2
   generalize off + i * 35 + 0 = q at h2
   match q, h2 with
   | 0, h2 => cases h2
   | 1, h2 => cases h2
   | 2, h2 => cases h2
   | q + 3, h2 => simp at h2
  have hbk := hf b (World.block_lt_of_cell? w ⟨b, _, none⟩ h2) hne
  intro j v hj
  rw [World.cell?_of_block (a := ⟨b, off + i * 35 + j, none⟩) hbk]
  exact h1 j v hj
 ·obtain ⟨b, off, e, hr⟩ := h.ou.at_ hm
  refine ⟨b, off, e, fun i hi => ?_⟩
  obtain ⟨ca, cc, h1, h2, h3⟩ := hr i hi
  obtain ⟨q1, q2⟩ := hk i hi
  refine ⟨ca, cc, KR _ _ _ h1 (fun v hv => ?_), ?_, h3⟩
  ·simp only [tol, List.mem_cons, List.not_mem_nil, or_false] at hv
   rcases hv with rfl | rfl
   ·exact fun e => by cases e
   ·intro e
    injection e with e1 e2 e3
    omega
  ·refine ⟨h2.ok, fun hp => ?_⟩
   obtain ⟨b2, o2, e2, hr2⟩ := h2.at_ hp
   refine ⟨b2, o2, e2, fun j hj => ?_⟩
   obtain ⟨ka, kc, g1, g2⟩ := hr2 j hj
   refine ⟨ka, kc, KR _ _ _ g1 (fun v hv => ?_), fun hq => ?_⟩
   ·simp only [Cd.brl, List.mem_append, List.mem_cons, List.not_mem_nil, or_false] at hv
    have hbl : ∀ z k, v ∈ bl z k → v ≠ .slice none 0 0 := fun z k hz e => by
     subst e
     simp [bl] at hz
    have q3 := q2 j hj
    rcases hv with rfl | hv
    ·intro e
     injection e with e1 e2 e3
     omega
    ·rcases hv with hv | hv
     ·exact hbl _ _ hv
     ·rcases hv with rfl | rfl <;> exact fun e => by cases e
   ·obtain ⟨b3, o3, e3, hr3⟩ := g2 hq
    exact ⟨b3, o3, e3, fun k hk => K _ _ _ (hr3 k hk) (fun e => by cases e)⟩
 ·rw [hs i hi]; exact SlAt.zero _ _
end Go.Proofs.YtjnepkggdkccaaaGreatDoor
/- slices.Grow of outputs: the library's contract laid at this program. -/
namespace Go.Proofs
open Go.Shelf
def Tryz.lGrowO_ren : Go.Shelf.Ren := ⟨fun | 4 => 74 | n => n, fun | 22 => 48 | 25 => 95 | 3 => 3 | 4 => 4 | 9 => 9 | 20 => 20 | 0 => 0 | n => n, fun | n => n⟩
theorem Tryz.lGrowO : Go.Proofs.Lays8.n4 Tryz.prog Tryz.lGrowO_ren := {
 mixed := by kernel_rfl
 f4 := ⟨Tryz.f74.name, by decide, Tryz.func74.trans (congrArg some (by kernel_rfl))⟩
 t0 := Tryz.underlying0
 a0 := Tryz.isAgg0
 z0 := Tryz.sizeOf0
 v0 := Tryz.zeroValue0
 t3 := Tryz.underlying3
 a3 := Tryz.isAgg3
 z3 := Tryz.sizeOf3
 v3 := Tryz.zeroValue3
 t4 := Tryz.underlying4
 a4 := Tryz.isAgg4
 z4 := Tryz.sizeOf4
 v4 := Tryz.zeroValue4
 t9 := Tryz.underlying9
 a9 := Tryz.isAgg9
 z9 := Tryz.sizeOf9
 v9 := Tryz.zeroValue9
 t20 := Tryz.underlying20
 a20 := Tryz.isAgg20
 z20 := Tryz.sizeOf20
 v20 := Tryz.zeroValue20
 t22 := Tryz.underlying48
 a22 := Tryz.isAgg48
 z22 := Tryz.sizeOf48
 v22 := Tryz.zeroValue48 }
end Go.Proofs
/- Rows of outputs of one's own; slices.Concat of two. -/
namespace Go.Proofs.YtjnepkggdkccaaaGreatDoor
open Go.RowKit Go.Shelf Go.Sort

/-- A row of outputs of one's own, made since w0. -/
structure OuO (w0 w : World) (v : Value) (n : Nat) (cs : List Value) : Prop where
 own : w.ownsRow w0.heap.size 95 2 v n cs
 below : Below w0.heap.size w0 w
theorem OuO.nil (w : World) : OuO w w (.slice none 0 0) 0 [] := ⟨World.ownsRow_nil _ _ _ _, Below.refl _ _⟩
/-- Outputs that lie somewhere, or nothing: their cells. -/
def OuSrc (w : World) (u : Value) (n : Nat) (cs : List Value) : Prop :=
 ∃ ad c, u = .slice ad n c ∧ cs.length = n * 2 ∧ (∀ x ∈ cs, x.oneCell' = true) ∧ ((ad = none ∧ n = 0) ∨ ∃ a, ad = some a ∧ ∀ j v, cs[j]? = some v → w.cell? (a.add j) = some v)
theorem OuSrc.below {w w' : World} {u : Value} {n : Nat} {cs : List Value} (h : OuSrc w u n cs) (hb : Below w.heap.size w w') : OuSrc w' u n cs := by
 obtain ⟨ad, c, rfl, h1, h2, h⟩ := h
 refine ⟨ad, c, rfl, h1, h2, ?_⟩
 rcases h with h | ⟨a, rfl, hc⟩
 ·exact .inl h
 ·refine .inr ⟨a, rfl, fun j v hv => ?_⟩
  have h1 := hc j v hv
  rw [hb.cell (p := a.add j) (World.block_lt_of_cell? w _ h1)]
  exact h1
theorem run_append_Ou (w w0 : World) (ty : TypeId) (v u : Value) (n m : Nat) (xs ys : List Value) (hown : OuO w0 w v n xs) (hu : OuSrc w u m ys) (hlen : n + m ≤ 1000000) :
  ∃ v' w1, (Builtin.append_ #[48, 48] ty #[v, u]).run Tryz.prog w = .ok v' w1 ∧ OuO w0 w1 v' (n + m) (xs ++ ys) := by
 obtain ⟨i0, hi0, hz0, hz1, hz2⟩ := info_parts infoTo
 obtain ⟨ad, c, rfl, hyl, hy1, ⟨rfl, rfl⟩ | ⟨a, rfl, hc⟩⟩ := hu
 ·obtain rfl : ys = [] := List.eq_nil_of_length_eq_zero (by omega)
  refine ⟨v, w, ?_, by simpa using hown⟩
  rcases hown.own.2 with ⟨rfl, hl⟩ | ⟨g, cap, cur, rfl, hbs, hg, hcap, _⟩
  ·simp [Builtin.append_, run_underlying Tryz.underlying48, sizeOf, typeInfo, hi0, Builtin.lenOf, Builtin.firstCells]
  ·have := run_append_room_src (P := Tryz.prog) w 48 48 ty 95 i0 Tryz.underlying48 hi0 g 0 n cap (.slice none 0 c) 0 [] (Src.ofNil w Tryz.underlying48 c) (by omega) (fun j hj => by simp at hj) (fun j hj => by simp at hj)
   simpa [World.setCells] using this
 ·obtain ⟨v', w1, hr, h2, h3, _, h5⟩ := run_append_own_at (P := Tryz.prog) w w0.heap.size 48 ty 95 i0 (.agg #[.int .i64 0, .slice none 0 0]) 2 32 Tryz.underlying48 hi0 hz0 hz1 hz2 rfl (by decide) v n xs hown.own a m c ys hyl hc
   hy1 (by simp only [maxLen]; omega) (by omega) hown.below.size
  refine ⟨v', w1, hr, h2, hown.below.trans ⟨h3.os, h3.tape, h3.output, h3.size, fun k hk => h3.block k (by have := hown.below.size; omega) (fun e => ?_)⟩⟩
  have := (hown.own.lt k e.symm).1
  omega
section
variable {ops : Array Oper} {rest : List Oper} {o : Oper} {a : Act} {w : World} {Q : Exit → Act → World → Prop}
theorem wpList_append_Ou (hgd : o.guard = none) (s x : Operand) (ho : o.op = .call { callee := .builtin .append, args := #[s, x], argTypes := #[48, 48] })
  (w0 : World) (v u : Value) (n m : Nat) (xs ys : List Value) (hs : a.eval s = v) (hx : a.eval x = u) (hown : OuO w0 w v n xs) (hu : OuSrc w u m ys) (hlen : n + m ≤ 1000000)
  (h : ∀ v' w1, OuO w0 w1 v' (n + m) (xs ++ ys) → wpList Tryz.prog ops Q rest (a.put o.dst v') w1) : wpList Tryz.prog ops Q (o :: rest) a w := by
 obtain ⟨v', w1, hr, h2⟩ := run_append_Ou w w0 o.type v u n m xs ys hown hu hlen
 refine wpList_plain hgd fun K hK => ?_
 unfold Oper.wp execOp
 simp only [ho, resolve, invoke, builtin, Sem.run_bind, Sem.run_pure, Result.andThen_ok, List.map_toArray, List.map_cons, List.map_nil, hs, hx, hr]
 exact hK _ _ (h v' w1 h2)
end
/-- Room made for n outputs behind nothing. -/
theorem growO_nil (n : Nat) (w : World) (hn : n ≤ 1000000) :
  Calls Tryz.prog 74 #[.slice none 0 0, .int .i64 n] w fun e w' => ∃ v, e = .returned v ∧ OuO w w' v 0 [] := by
 rcases Nat.eq_zero_or_pos n with h0 | hp
 ·subst h0
  have hcon := Any8.slices_Grow_room Tryz.lGrowO none 0 0 0 w (Nat.le_refl _) (by omega) (by omega) (by omega)
  change Calls Tryz.prog 74 _ _ _ at hcon
  refine hcon.mono ?_
  rintro e w' ⟨rfl, rfl⟩
  exact ⟨_, rfl, OuO.nil _⟩
 ·obtain ⟨i0, hi0, hz0, hz1, hz2⟩ := info_parts infoTo
  have hcon := Any8.slices_Grow_grow Tryz.lGrowO i0 (.agg #[.int .i64 0, .slice none 0 0]) hi0 hz0 (by omega) none 0 0 n [] w (Nat.le_refl _) (by omega) (by rw [hz2]; omega) (by omega) (by simp) (fun _ => rfl) (fun a h => by cases h)
  change Calls Tryz.prog 74 _ _ _ at hcon
  refine hcon.mono ?_
  rintro e w' ⟨rfl, rfl⟩
  refine ⟨_, rfl, ⟨⟨by simp, .inr ⟨w.heap.size, _, _, rfl, Nat.le_refl _, heap_alloc_new w.drew _, Nat.zero_le _, ?_, ?_, by simp⟩⟩, ((Below.refl _ w).drew).alloc (Nat.le_refl _) _⟩⟩
  ·exact grownCap_le_maxLen _ _ _ _ (by unfold maxLen; omega)
  ·have := grownCap_ge w n 0 (Tryz.lGrowO_ren.t 25)
   simp [size_zeroCells, Value.cells]
   omega

set_option maxRecDepth 100000 in
set_option maxHeartbeats 3200000 in
theorem concatO (q : Nat) (ad1 : Option Addr) (n1 c1 : Nat) (xs : List Value) (ad2 : Option Addr) (n2 c2 : Nat) (ys : List Value) (w : World) (h0 : w.cell? ⟨q, 0, none⟩ = some (.slice ad1 n1 c1)) (h1 : w.cell? ⟨q, 1, none⟩ = some (.slice ad2 n2 c2)) (hs1 : OuSrc w (.slice ad1 n1 c1) n1 xs) (hs2 : OuSrc w (.slice ad2 n2 c2) n2 ys) (hl : n1 + n2 ≤ 1000000) :
  Calls Tryz.prog 42 #[.slice (some ⟨q, 0, none⟩) 2 2] w fun e w' => ∃ v, e = .returned v ∧ OuO w w' v (n1 + n2) (xs ++ ys) := by
 have HS : Hid (OuSrc w (.slice ad1 n1 c1) n1 xs ∧ OuSrc w (.slice ad2 n2 c2) n2 ys) := ⟨hs1, hs2⟩
 clear hs1 hs2
 have hb0 := Below.refl w.heap.size w
 have hq := World.block_lt_of_cell? w ⟨q, 0, none⟩ h0
 have e1 : wrap64 ((n1 : Int) + n2) = ((n1 + n2 : Nat) : Int) := by unfold wrap64; omega
 have e2 : ¬ (n1 : Int) < 0 := by omega
 go_enter Tryz.func42, Tryz.ntmps42
 go_wp2
 refine wp_loop_rounds 3 ?_
 rw [rounds_succ]
 go_wp2
 rw [rounds_succ]
 go_wp2
 rw [rounds_succ]
 go_wp2_with fail
 have hgr := growO_nil (n1 + n2) w hl
 rw [Int.natCast_add] at hgr
 refine hgr.mono ?_
 rintro e w1 ⟨v, rfl, hO1⟩
 have d0 : w1.cell? ⟨q, 0, none⟩ = some (.slice ad1 n1 c1) := by rw [hO1.below.cell (p := ⟨q, 0, none⟩) hq]; exact h0
 have HO1 : Hid (OuO w w1 v 0 [] ∧ OuSrc w1 (.slice ad1 n1 c1) n1 xs) := ⟨hO1, HS.out.1.below hO1.below⟩
 have HD : Hid (∀ w' v' n L, OuO w w' v' n L → w'.cell? ⟨q, 1, none⟩ = some (.slice ad2 n2 c2) ∧ OuSrc w' (.slice ad2 n2 c2) n2 ys) := fun w' v' n L h => ⟨by rw [h.below.cell (p := ⟨q, 1, none⟩) hq]; exact h1, HS.out.2.below h.below⟩
 clear hgr hO1 h0 h1 hb0
 go_wp2
 refine wp_loop_rounds 3 ?_
 rw [rounds_succ]
 go_wp2_with (at_builtin; refine wpList_append_Ou rfl _ _ rfl w _ _ 0 n1 [] xs rfl rfl HO1.out.1 HO1.out.2 (by omega) ?_; intro v2 w2 hO2; obtain ⟨d1, hs2⟩ := HD.out w2 v2 _ _ hO2; have HO2 : Hid (OuO w w2 v2 n1 xs ∧ OuSrc w2 (.slice ad2 n2 c2) n2 ys) := ⟨by simpa using hO2, hs2⟩; clear hO2 hs2)
 rw [rounds_succ]
 go_wp2_with (at_builtin; refine wpList_append_Ou rfl _ _ rfl w _ _ n1 n2 xs ys rfl rfl HO2.out.1 HO2.out.2 (by omega) ?_; intro v3 w3 hO3)
 rw [rounds_succ]
 go_wp2
 go_ret
 exact ⟨_, rfl, hO3⟩

end Go.Proofs.YtjnepkggdkccaaaGreatDoor
/- tx.Check of any transaction, whatever its keys are. -/
namespace Go.Proofs.YtjnepkggdkccaaaGreatDoor
open Go.RowKit

set_option maxRecDepth 100000 in
set_option maxHeartbeats 3200000 in
theorem kcheck_anyX (lk : Int) (ia : Option Addr) (n ic : Nat) (oa : Option Addr) (m oc : Nat) (X : Nat → Ti) (S : Nat → Option Addr × Nat) (O : Nat → To) (w : World) (h : TiAt w ia n X S) (ho : ToAt w oa m O) (hs : ∀ i, i < m → (O i).Big) (hn : n ≤ 1000000) (hm : m ≤ 1000000) :
  Calls Tryz.prog 51 #[.agg (txv lk ia n ic oa m oc)] w fun e w' => e = .returned (errV (txE lk n X m O)) ∧ Below w.heap.size w w' := by
 have hb0 : Below w.heap.size w (w.alloc (.cells #[.int .i64 lk, .slice ia n ic, .slice oa m oc] 50)) := (Below.refl _ w).alloc (Nat.le_refl _) _
 have hr0 := heap_alloc_new w (.cells #[.int .i64 lk, .slice ia n ic, .slice oa m oc] 50)
 have HH : Hid (TiAt w ia n X S ∧ ToAt w oa m O ∧ ∀ i, i < m → (O i).Big) := ⟨h, ho, hs⟩
 clear h ho hs
 unfold txv
 by_cases hN : NumOk lk n m
 ·obtain ⟨hl, hnn, hmm⟩ := hN
  have HN : Hid (NumOk lk n m) := ⟨hl, hnn, hmm⟩
  have d1 : decide (0 ≤ lk ∧ lk ≤ 1099511627776) = true := by simpa using hl
  have d2 : decide ((1 : Int) ≤ (n : Int) ∧ (n : Int) ≤ 64) = true := by simp; omega
  have d3 : decide ((1 : Int) ≤ (m : Int) ∧ (m : Int) ≤ 64) = true := by simp; omega
  go_enter Tryz.func51, Tryz.ntmps51
  go_wp2_with fail
  generalize w.alloc (.cells #[.int .i64 lk, .slice ia n ic, .slice oa m oc] 50) = W0 at *
  have c1 : W0.cell? ⟨w.heap.size, 1, none⟩ = some (.slice ia n ic) := by rw [cell_of_row _ _ 1 _ _ _ hr0]; rfl
  have c2 : W0.cell? ⟨w.heap.size, 2, none⟩ = some (.slice oa m oc) := by rw [cell_of_row _ _ 2 _ _ _ hr0]; rfl
  refine (kwithin_any lk 0 1099511627776 _).mono ?_
  rintro e w1 ⟨rfl, hW⟩
  rw [hW, d1]
  clear hW
  go_wp2_with fail
  refine (kwithin_any n 1 64 _).mono ?_
  rintro e w1 ⟨rfl, hW⟩
  rw [hW, d2]
  clear hW
  go_wp2_with fail
  refine (kwithin_any m 1 64 _).mono ?_
  rintro e w1 ⟨rfl, hW⟩
  rw [hW, d3]
  clear hW d1 d2 d3 hl hnn hmm
  go_wp2_with fail
  refine (kcontains_any ia n ic X S W0 (HH.out.1.below hb0) hn).mono ?_
  rintro e w2 ⟨rfl, hb2⟩
  by_cases hI : InsOk X n
  ·have d4 : (!decide (InsOk X n)) = false := by simpa using hI
   rw [d4]
   clear d4
   have HI : Hid (InsOk X n) := hI
   clear hI
   have HB2 : Hid (Below w.heap.size w w2) := hb0.trans (hb2.mono hb0.size)
   have hr2 : w2.heap[w.heap.size]? = some (.cells #[.int .i64 lk, .slice ia n ic, .slice oa m oc] 50 (0, 0)) := by rw [hb2.block _ (lt_of_block hr0)]; exact hr0
   have HR2 : Hid (∀ w', Below w2.heap.size w2 w' → w'.heap[w.heap.size]? = some (.cells #[.int .i64 lk, .slice ia n ic, .slice oa m oc] 50 (0, 0))) := fun w' hb => by rw [hb.block _ (lt_of_block hr2)]; exact hr2
   clear hb2 hr2 hr0 hb0 c1 c2
   go_wp2_with fail
   have HS : Hid (∀ w', Below w2.heap.size w2 w' → w'.rangeAt w.heap.size 0 (txl lk ia n ic oa m oc) ∧ w'.cell? ⟨w.heap.size, 1, none⟩ = some (.slice ia n ic)) := fun w' hb => ⟨txl_range (HR2.out w' hb), by rw [cell_of_row _ _ 1 _ _ _ (HR2.out w' hb)]; rfl⟩
   have S0 := HS.out w2.drew (Below.refl _ w2).drew
   refine wp_region_noPanic ?_
   refine wp_region_held_drew (S := fun w' => w'.rangeAt w.heap.size 0 (txl lk ia n ic oa m oc) ∧ w'.cell? ⟨w.heap.size, 1, none⟩ = some (.slice ia n ic)) (by kernel_rfl) S0 (fun hHeld => ?_)
   refine wpAnyH_take (i := 0) (oi := ⟨some 32, .load 50 (.tmp 1), 50, _, _, none⟩) rfl (by kernel_rfl) (by kernel_rfl) (by kernel_rfl) (fun _ _ _ h => h) (yieldsIf_load_mid (by rfl) _ _ rfl w.heap.size 0 rfl (txl lk ia n ic oa m oc) _ (fun _ h => h.1) Tryz.underlying50 rfl szTx) (by assumption) ?_
   try simp only [Act.put, zA, zB, zC]
   refine wpT (i := 3) (oi := ⟨some 35, .fieldAddr 50 (.tmp 1) 1, 0, _, _, none⟩) (v := ?_) rfl (by kernel_rfl) (fun _ _ _ h => h) (Or.inl ⟨by rfl, ?_⟩) (by assumption) ?_
   rotate_left
   ·intro wz hSw; (try dsimp only at hSw); go_simp; (try with_reducible rfl)
   try simp only [Act.put, zA, zB, zC]
   refine wpT (i := 4) (oi := ⟨some 36, .load 47 (.tmp 35), 47, _, _, none⟩) (v := ?_) rfl (by kernel_rfl) (fun _ _ _ h => h) (Or.inl ⟨by rfl, ?_⟩) (by assumption) ?_
   rotate_left
   ·intro wz hSw; (try dsimp only at hSw); go_simp; (try with_reducible rfl)
   try simp only [Act.put, zA, zB, zC]
   refine wpT (i := 5) (oi := ⟨some 37, .call { callee := Go.Callee.builtin Go.Builtin.len, args := #[.tmp 36], argTypes := #[47] }, 3, _, _, none⟩) (v := ?_) rfl (by kernel_rfl) (fun _ _ _ h => h) (Or.inl ⟨by rfl, ?_⟩) (by assumption) ?_
   rotate_left
   ·intro wz hSw; (try dsimp only at hSw); go_simp; (try with_reducible rfl)
   try simp only [Act.put, zA, zB, zC]
   refine wpAnyH_ready (rs := [1]) (by kernel_rfl) (by simp) ?_
   refine (AllReadyH.cons (o := ⟨some 33, .call { callee := Go.Callee.value (.func 82), args := #[.tmp 32], argTypes := #[50] }, 172, _, _, none⟩) rfl (fun K hK => ?_) AllReadyH.nil)
   go_simp
   refine (points_any lk ia n ic oa m oc X S w2.drew (HH.out.1.below HB2.out.drew) (fun i hi => by have := (HI.out i hi).1; exact ⟨by omega, by omega⟩) hn).mono ?_
   rintro e w3 ⟨⟨pb, rfl, hpm⟩, hb3⟩
   have HB3 : Hid (Below w2.heap.size w2 w3) := (Below.refl _ w2).drew.trans hb3
   clear hb3
   obtain ⟨D, kk, hD, hDs⟩ := hpm
   have hlen : ∀ ty, (Builtin.len_ #[172] ty #[.map (some pb)]).run Tryz.prog w3 = .ok (.int .i64 ((ptsL X n).length : Nat)) w3 := fun ty => by rw [← hDs]; exact hD.len (t := 172) (e := 211) Tryz.underlying172 ty
   clear hD hDs
   refine hK.out _ _ (HS.out w3 HB3.out) (fun _ => ?_)
   clear hK K
   refine wpAnyH_ready (rs := [2]) (by kernel_rfl) (by simp) ?_
   refine (AllReadyH.cons (o := ⟨some 34, .call { callee := Go.Callee.builtin Go.Builtin.len, args := #[.tmp 33], argTypes := #[172] }, 3, _, _, none⟩) rfl (fun K hK => ?_) AllReadyH.nil)
   go_simp
   refine hK.out _ _ (HS.out w3 HB3.out) (fun _ => ?_)
   clear hK K hlen
   try simp only [Act.put, zA, zB, zC]
   refine wpT (i := 6) (oi := ⟨some 38, .binOp .lss 3 (.tmp 34) (.tmp 37) 3, 4, _, _, none⟩) (v := ?_) rfl (by kernel_rfl) (fun _ _ _ h => h) (Or.inl ⟨by rfl, ?_⟩) (by assumption) ?_
   rotate_left
   ·intro wz hSw; (try dsimp only at hSw); go_simp; (try with_reducible rfl)
   try simp only [Act.put, zA, zB, zC]
   refine wpT (i := 7) (oi := ⟨some 31, .assign (.tmp 38), 4, _, _, none⟩) (v := ?_) rfl (by kernel_rfl) (fun _ _ _ h => h) (Or.inl ⟨by rfl, ?_⟩) (by assumption) ?_
   rotate_left
   ·intro wz hSw; (try dsimp only at hSw); go_simp; (try with_reducible rfl)
   try simp only [Act.put, zA, zB, zC]
   refine wpAnyH_done (by kernel_rfl) (NoPanic.normal ?_) _
   try simp only [Act.put, zA, zB, zC]
   clear hHeld S0
   by_cases hA : Apart X n
   ·have hl : (ptsL X n).length = n := (ptsL_full X n).2 hA
    have hl' : decide ((ptsL X n).length < n) = false := by simp; omega
    rw [hl']
    clear hl'
    have HE : Hid (txE lk n X m O = if outsE O m ≠ 0 then outsE O m else totE O m) := by unfold txE; rw [if_neg (by simpa using HN.out), if_neg (by simpa using HI.out), if_neg (by simpa using hA)]; exact rfl
    have hb3 : Below w.heap.size w w3 := HB2.out.trans (HB3.out.mono HB2.out.size)
    have hr3 := HR2.out w3 HB3.out
    have c2 : w3.cell? ⟨w.heap.size, 2, none⟩ = some (.slice oa m oc) := by rw [cell_of_row _ _ 2 _ _ _ hr3]; rfl
    clear hA hl HS HB3 HB2 HR2 HI HN
    go_wp2
    clear c2
    go_loopw [2, 5, 6, 43] (fun _ _ _ iv wr => ∃ i : Nat, i ≤ m ∧ iv = .int .i64 i ∧ outsE O i = 0 ∧ Below w.heap.size w wr ∧ wr.heap[w.heap.size]? = some (.cells #[.int .i64 lk, .slice ia n ic, .slice oa m oc] 50 (0, 0))) (fun _ _ _ iv _ => m + 1 - (intOf iv).toNat)
    case atStart => exact ⟨0, by omega, rfl, rfl, hb3, hr3⟩
    case round =>
     clear hb3 hr3
     obtain ⟨i, hi, rfl, hz, hb, hr⟩ := hrel
     have HZ : Hid (outsE O i = 0) := hz
     clear hz
     by_cases hlt : i < m
     ·have hlt' : (i : Int) < m := by omega
      obtain ⟨b, off, rfl, hc⟩ := HH.out.2.1.at_ (by omega)
      obtain ⟨ca, cc, hr0, hbr, _⟩ := hc i hlt
      have hr1 := range_below hr0 hb
      have c0 : wr.cell? ⟨b, off + i * 2, none⟩ = some (.int .i64 (O i).am) := by simpa using hr1 0 _ rfl
      have c1 : wr.cell? ⟨b, off + i * 2 + 1, none⟩ = some (.slice ca (O i).cn cc) := hr1 1 _ rfl
      have hb1 : Below w.heap.size w (wr.alloc (.cells #[.int .i64 (O i).am, .slice ca (O i).cn cc] 95)) := hb.alloc hb.size _
      have hk := checkOut_anyX (O i) ca cc (wr.alloc (.cells #[.int .i64 (O i).am, .slice ca (O i).cn cc] 95)) (hbr.below hb1) (HH.out.2.2 i hlt)
      have hrA : (wr.alloc (.cells #[.int .i64 (O i).am, .slice ca (O i).cn cc] 95)).heap[w.heap.size]? = some (.cells #[.int .i64 lk, .slice ia n ic, .slice (some ⟨b, off, none⟩) m oc] 50 (0, 0)) := by rw [Below.heap_alloc _ _ _ (lt_of_block hr)]; exact hr
      unfold tov at hk
      clear hc hr0 hbr hr1
      by_cases hq : outE (O i) = 0
      ·rw [hq, kerrV_0] at hk
       have HN : Hid (outsE O (i + 1) = 0) := by rw [outsE, if_pos HZ.out]; exact hq
       clear hq
       go_wp2_with fail
       generalize wr.alloc (.cells #[.int .i64 (O i).am, .slice ca (O i).cn cc] 95) = q1 at *
       refine hk.mono ?_
       rintro e q2 ⟨rfl, hb2⟩
       have hrB : q2.heap[w.heap.size]? = some (.cells #[.int .i64 lk, .slice ia n ic, .slice (some ⟨b, off, none⟩) m oc] 50 (0, 0)) := by rw [hb2.block _ (lt_of_block hrA)]; exact hrA
       have hbB : Below w.heap.size w q2 := hb1.trans (hb2.mono hb1.size)
       clear hk hrA hb1 hb2 c0 c1 hr hb
       go_wp2
       go_roundw
       case rel => exact ⟨i + 1, by omega, by go_num, HN.out, hbB, hrB⟩
       case measure => simp [intOf]; omega
      ·rw [kerrV_ne hq] at hk
       have HE2 : Hid (errV (txE lk n X m O) = .iface 101 (.int .i64 (outE (O i)))) := by
        have e1 : outsE O (i + 1) = outE (O i) := by rw [outsE, if_pos HZ.out]
        have e2 : outsE O m = outE (O i) := by rw [← e1]; exact outsE_stop (by rw [e1]; exact hq) m (by omega)
        rw [HE.out, e2, if_pos hq, kerrV_ne hq]; exact rfl
       clear hq
       go_wp2_with fail
       generalize wr.alloc (.cells #[.int .i64 (O i).am, .slice ca (O i).cn cc] 95) = q1 at *
       refine hk.mono ?_
       rintro e q2 ⟨rfl, hb2⟩
       have hbB : Below w.heap.size w q2 := hb1.trans (hb2.mono hb1.size)
       clear hk hrA hb1 hb2 c0 c1 hr hb
       go_wp2
       go_ret
       exact ⟨by rw [HE2.out]; rfl, hbB⟩
     ·obtain rfl : i = m := by omega
      have hnn : ¬ ((i : Int) < i) := by omega
      have HE3 : Hid (txE lk n X i O = totE O i) := by rw [HE.out, if_neg (by simpa using HZ.out)]; exact rfl
      have hk := ktotal_any lk ia n ic oa i oc O wr (HH.out.2.1.below hb) hm
      unfold txv at hk
      obtain ⟨c0, c1, c2⟩ : wr.cell? ⟨w.heap.size, 0, none⟩ = some (.int .i64 lk) ∧ wr.cell? ⟨w.heap.size, 1, none⟩ = some (.slice ia n ic) ∧ wr.cell? ⟨w.heap.size, 2, none⟩ = some (.slice oa i oc) := ⟨by rw [cell_of_row _ _ 0 _ _ _ hr]; rfl, by rw [cell_of_row _ _ 1 _ _ _ hr]; rfl, by rw [cell_of_row _ _ 2 _ _ _ hr]; rfl⟩
      go_wp2_with fail
      refine hk.mono ?_
      rintro e q2 ⟨rfl, hb2⟩
      have hbB : Below w.heap.size w q2 := hb.trans (hb2.mono hb.size)
      clear hk c0 c1 c2 hr hb hb2
      go_wp2
      go_ret
      exact ⟨by rw [HE3.out]; rfl, hbB⟩
   ·have hl' : ((ptsL X n).length : Int) < (n : Int) := by have h1 := ptsL_le X n; have h2 : (ptsL X n).length ≠ n := fun h => hA ((ptsL_full X n).1 h); omega
    have HE : Hid (txE lk n X m O = 9) := by unfold txE; rw [if_neg (by simpa using HN.out), if_neg (by simpa using HI.out), if_pos hA]; exact rfl
    have HBE : Hid (Below w.heap.size w w3) := HB2.out.trans (HB3.out.mono HB2.out.size)
    clear hA
    go_wp2
    go_ret
    exact ⟨by rw [HE.out]; rfl, HBE.out⟩
  ·have d4 : (!decide (InsOk X n)) = true := by simpa using hI
   rw [d4]
   have HE : Hid (txE lk n X m O = 4) := by unfold txE; rw [if_neg (by simpa using HN.out), if_pos hI]; exact rfl
   have HBE : Hid (Below w.heap.size w w2) := hb0.trans (hb2.mono hb0.size)
   clear d4 hI hr0 hb2 c1 c2 hb0
   go_wp2
   go_ret
   exact ⟨by rw [HE.out]; rfl, HBE.out⟩
 ·have HE : Hid (txE lk n X m O = 4) := if_pos hN
  by_cases h1 : 0 ≤ lk ∧ lk ≤ 1099511627776
  ·have d1 : decide (0 ≤ lk ∧ lk ≤ 1099511627776) = true := by simpa using h1
   by_cases h2 : 1 ≤ n ∧ n ≤ 64
   ·have d2 : decide ((1 : Int) ≤ (n : Int) ∧ (n : Int) ≤ 64) = true := by simp; omega
    have d3 : decide ((1 : Int) ≤ (m : Int) ∧ (m : Int) ≤ 64) = false := by
     have : ¬ (1 ≤ m ∧ m ≤ 64) := fun h => hN ⟨h1, h2, h⟩
     rw [decide_eq_false_iff_not]; omega
    clear hN h1 h2
    go_enter Tryz.func51, Tryz.ntmps51
    go_wp2_with fail
    generalize w.alloc (.cells #[.int .i64 lk, .slice ia n ic, .slice oa m oc] 50) = W0 at *
    have c1 : W0.cell? ⟨w.heap.size, 1, none⟩ = some (.slice ia n ic) := by rw [cell_of_row _ _ 1 _ _ _ hr0]; rfl
    have c2 : W0.cell? ⟨w.heap.size, 2, none⟩ = some (.slice oa m oc) := by rw [cell_of_row _ _ 2 _ _ _ hr0]; rfl
    refine (kwithin_any lk 0 1099511627776 _).mono ?_
    rintro e w1 ⟨rfl, hW⟩
    rw [hW, d1]
    clear hW
    go_wp2_with fail
    refine (kwithin_any n 1 64 _).mono ?_
    rintro e w1 ⟨rfl, hW⟩
    rw [hW, d2]
    clear hW
    go_wp2_with fail
    refine (kwithin_any m 1 64 _).mono ?_
    rintro e w1 ⟨rfl, hW⟩
    rw [hW, d3]
    clear hW
    go_wp2
    go_ret
    exact ⟨by rw [HE.out]; rfl, hb0⟩
   ·have d2 : decide ((1 : Int) ≤ (n : Int) ∧ (n : Int) ≤ 64) = false := by rw [decide_eq_false_iff_not]; omega
    clear hN h1 h2
    go_enter Tryz.func51, Tryz.ntmps51
    go_wp2_with fail
    generalize w.alloc (.cells #[.int .i64 lk, .slice ia n ic, .slice oa m oc] 50) = W0 at *
    have c1 : W0.cell? ⟨w.heap.size, 1, none⟩ = some (.slice ia n ic) := by rw [cell_of_row _ _ 1 _ _ _ hr0]; rfl
    refine (kwithin_any lk 0 1099511627776 _).mono ?_
    rintro e w1 ⟨rfl, hW⟩
    rw [hW, d1]
    clear hW
    go_wp2_with fail
    refine (kwithin_any n 1 64 _).mono ?_
    rintro e w1 ⟨rfl, hW⟩
    rw [hW, d2]
    clear hW
    go_wp2
    go_ret
    exact ⟨by rw [HE.out]; rfl, hb0⟩
  ·have d1 : decide (0 ≤ lk ∧ lk ≤ 1099511627776) = false := by simpa using h1
   clear hN h1
   go_enter Tryz.func51, Tryz.ntmps51
   go_wp2_with fail
   refine (kwithin_any lk 0 1099511627776 _).mono ?_
   rintro e w1 ⟨rfl, hW⟩
   rw [hW, d1]
   clear hW
   go_wp2
   go_ret
   exact ⟨by rw [HE.out]; rfl, hb0⟩
end Go.Proofs.YtjnepkggdkccaaaGreatDoor
/- build.finish, where the transaction can not be, whatever its keys are. -/
namespace Go.Proofs.YtjnepkggdkccaaaGreatDoor
open Go.RowKit

set_option maxRecDepth 100000 in
set_option maxHeartbeats 3200000 in
theorem finish_badX (lk : Int) (B : Nat) (ia : Option Addr) (ic n : Nat) (Z : Nat → (Nat → Int) × Int) (oa : Option Addr) (oc : Nat) (os : List To) (A : Nat → Option Addr × Nat) (w : World) (h : FinR w B ia ic n Z oa oc os A) (hz : ∀ i, i < n → Hb (Z i).1) (hs : ∀ j, j < os.length → (oF os j).Big) (hn : n ≤ 1000000) (hm : os.length ≤ 1000000) (he : finE n Z os lk ≠ 0) :
  Calls Tryz.prog 27 #[.agg (txv lk ia n ic oa os.length oc)] w fun e w' => e = .returned (.tuple #[.agg #[.int .i64 0, .slice none 0 0, .slice none 0 0], errV (finE n Z os lk)]) ∧ Below w.heap.size w w' := by
 have HH : Hid (FinR w B ia ic n Z oa oc os A ∧ (∀ i, i < n → Hb (Z i).1) ∧ (∀ j, j < os.length → (oF os j).Big)) := ⟨h, hz, hs⟩
 clear h hz hs
 unfold txv
 have hev : errV (finE n Z os lk) = .iface 101 (.int .i64 (finE n Z os lk)) := kerrV_ne he
 go_enter Tryz.func27, Tryz.ntmps27
 go_wp2_with (first | (refine wpList_boxN rfl _ _ rfl #[.int .i64 lk, .slice ia n ic, .slice oa os.length oc] rfl ?_; intro v1 N1) | (refine wpList_allocN 50 #[.int .i64 0, .slice none 0 0, .slice none 0 0] run_allocTx rfl rfl ?_; intro v2 N2; have HR2 := hidV (txl_range (N2.old N1.blk)); have HX2 := hidV (And.intro N2.blk (Below.transS N1.below N2.below)); have HQ : Hid (w.heap.size < v1.heap.size ∧ v1.heap.size < v2.heap.size) := ⟨by have := N1.size; omega, by have := N2.size; omega⟩; clear N1 N2) | (refine wpList_load_mid rfl 50 _ rfl w.heap.size 0 rfl (txl lk ia n ic oa os.length oc) _ HR2.out Tryz.underlying50 rfl szTx ?_) | fail)
 have hf := HH.out.1.below HX2.out.2
 refine (kcheck_anyX lk ia n ic oa os.length oc (tF Z) (fun _ => (none, 0)) (oF os) v2 (hf.tin HH.out.2.1) hf.tout HH.out.2.2 hn hm).mono ?_
 rintro e v3 ⟨rfl, hb3⟩
 change Hid _ at HH
 rw [show errV (txE lk n (tF Z) os.length (oF os)) = .iface 101 (.int .i64 (finE n Z os lk)) from hev]
 have hg3 := heap_below hb3 HX2.out.1
 have hb := Below.transS HX2.out.2 hb3
 have HE := hidV (And.intro hg3 hb)
 have HV := hidV hev
 clear hf hg3 hb hb3 HX2 HR2 hev he
 go_wp2_with (first | (refine wpList_storeG 50 szTx rfl _ _ rfl v1.heap.size rfl #[.int .i64 0, .slice none 0 0, .slice none 0 0] #[.int .i64 0, .slice none 0 0, .slice none 0 0] rfl rfl (by kernel_rfl) 50 rfl HE.out.1 ?_; intro v4 hg4 hf4) | fail)
 refine bodyPost_ret (results_T2 Tryz.results27 _ v4 v1.heap.size 50 _ _ _ (0, 0) rfl hg4) rfl ⟨?_, HE.out.2.trans (hf4.below HE.out.2.size (by have := HQ.out; simp; omega))⟩
 rw [HV.out]
 rfl
end Go.Proofs.YtjnepkggdkccaaaGreatDoor
