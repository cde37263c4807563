/- build.Close's answer on both sides, as one transaction that lies; it stays when the block of noughts beside it is overwritten. -/
import Derived.Test.YtjnepkggdkccaaaGreatDoorOwnShelf35
import Derived.Test.YtjnepkggdkccaaaGreatDoorOwnShelf38
import Derived.Test.YtjnepkggdkccaaaGreatDoorProg
import Derived.Ground.Names8Prog
import Derived.Shelf.Spec.SlicesGrow
import Derived.Test.YtjnepkggdkccaaaGreatDoorOwnShelf37
import Derived.Deep.AppendSrc
import Derived.Maps.AppendAt
import Derived.Deep.Slices
import Derived.Test.YtjnepkggdkccaaaGreatDoorOwnShelf16
namespace Go.Proofs.YtjnepkggdkccaaaGreatDoor
open Go.RowKit

def clN (P : Pm) (s : Sv) : Nat := if clsE P s = 0 then 1 else 0
def clM (P : Pm) (s : Sv) : Nat := if clsE P s = 0 then (outsC P s 2).length else 0
def clX (P : Pm) : Nat → Ti := tF (fun _ => (P.pt, P.n))
def clO (P : Pm) (s : Sv) : Nat → To := oF (outsC P s 2)
/-- What Close answers lies in w. -/
def ClAt (w : World) (P : Pm) (s : Sv) (ia oa : Option Addr) : Prop := TxAt w 0 (clN P s) (clX P) (fun _ _ => 0) (clM P s) (clO P s) ia oa (fun _ => (none, 0))
theorem ClAt.below {w w' : World} {P : Pm} {s : Sv} {ia oa : Option Addr} (h : ClAt w P s ia oa) (hb : Below w.heap.size w w') : ClAt w' P s ia oa := TxAt.below h hb
theorem clAt_mk {w : World} {P : Pm} {s : Sv} {ia oa : Option Addr} (h0 : clsE P s = 0) (h1 : TiAt w ia 1 (tF (fun _ => (P.pt, P.n))) (fun _ => (none, 0))) (h2 : ToAt w oa (outsC P s 2).length (oF (outsC P s 2))) : ClAt w P s ia oa := by
 have hn : clN P s = 1 := if_pos h0
 have hm : clM P s = (outsC P s 2).length := if_pos h0
 unfold ClAt
 rw [hn, hm]
 exact ⟨h1, h2, fun i _ => ⟨SlAt.zero _ _, Nat.zero_le _⟩⟩
theorem clAt_no {w : World} {P : Pm} {s : Sv} (h0 : clsE P s ≠ 0) : ClAt w P s none none := by
 have hn : clN P s = 0 := if_neg h0
 have hm : clM P s = 0 := if_neg h0
 unfold ClAt
 rw [hn, hm]
 exact ⟨TiAt.nil _ _ _ _, ToAt.nil _ _ _, fun i hi => by omega⟩
theorem cls_tx {P : Pm} {s : Sv} {w w' : World} {e : Ending} (h : ClsP P s w e w') : ∃ ia ic oa oc, e = .returned (.tuple #[.agg (txv 0 ia (clN P s) ic oa (clM P s) oc), errV (clsE P s)]) ∧ ClAt w' P s ia oa := by
 by_cases h0 : clsE P s = 0
 ·obtain ⟨ia, ic, oa, oc, rfl, hT⟩ := h.ok h0
  exact ⟨ia, ic, oa, oc, by rw [show clN P s = 1 from if_pos h0, show clM P s = (outsC P s 2).length from if_pos h0, h0]; rfl, clAt_mk h0 hT.tin hT.tout⟩
 ·exact ⟨none, 0, none, 0, by rw [show clN P s = 0 from if_neg h0, show clM P s = 0 from if_neg h0]; exact h.bad h0, clAt_no h0⟩
theorem rcls_tx {P : Pm} {s : Sv} {w w' : World} {e : Ending} (h : RClsP P s w e w') : ∃ ia ic oa oc, e = .returned (.tuple #[.agg (txv 0 ia (clN P s) ic oa (clM P s) oc), .int .i64 (clsE P s)]) ∧ ClAt w' P s ia oa := by
 by_cases h0 : clsE P s = 0
 ·obtain ⟨ia, ic, oa, oc, rfl, h1, h2⟩ := h.ok h0
  exact ⟨ia, ic, oa, oc, by rw [show clN P s = 1 from if_pos h0, show clM P s = (outsC P s 2).length from if_pos h0, h0], clAt_mk h0 h1 h2⟩
 ·exact ⟨none, 0, none, 0, by rw [show clN P s = 0 from if_neg h0, show clM P s = 0 from if_neg h0]; exact h.bad h0, clAt_no h0⟩
theorem outsC_1 (P : Pm) (s : Sv) : ∀ i, ∀ x ∈ outsC P s i, x.cn = 1 ∧ ∀ j, (x.X j).n = 1
 | 0, x, h => by simp [outsC] at h
 | i + 1, x, h => by
  simp only [outsC, List.mem_append] at h
  rcases h with h | h
  ·exact outsC_1 P s i x h
  ·simp only [ifL] at h
   split at h
   ·obtain rfl := by simpa using h
    exact ⟨by simp [clsO], fun i => by simp [clsO, Cd.kb]⟩
   ·simp at h
theorem clO_1 (P : Pm) (s : Sv) (i : Nat) (hi : i < clM P s) : (clO P s i).cn = 1 ∧ ∀ j, ((clO P s i).X j).n = 1 := by
 have hj : i < (outsC P s 2).length := by unfold clM at hi; split at hi <;> omega
 refine outsC_1 P s 2 _ ?_
 simp only [clO, oF, List.getD_eq_getElem?_getD, List.getElem?_eq_getElem hj, Option.getD_some]
 exact List.getElem_mem hj
theorem cls_few (P : Pm) (s : Sv) : Few (clN P s) (clM P s) (clO P s) := by
 have h2 := outsC_len P s 2
 refine ⟨by unfold clN; split <;> omega, by unfold clM; split <;> omega, fun i hi => ?_⟩
 obtain ⟨h3, h4⟩ := clO_1 P s i hi
 exact ⟨by omega, fun j _ => by rw [h4 j]; omega⟩
/-- A block of noughts becomes a transaction of Lock 0: what the answer says of its own blocks stays. -/
theorem ClAt.over {w w' : World} {P : Pm} {s : Sv} {ia oa : Option Addr} {tb : Nat} {t : TypeId} {v1 v2 : Value} {fr fr' : Nat × Nat} (h : ClAt w P s ia oa) (hb : w.heap[tb]? = some (.cells #[.int .i64 0, .slice none 0 0, .slice none 0 0] t fr)) (hg : w'.heap[tb]? = some (.cells #[.int .i64 0, v1, v2] t fr')) (hf : ∀ k, k < w.heap.size → k ≠ tb → w'.heap[k]? = w.heap[k]?) : ClAt w' P s ia oa := by
 have K : ∀ b o v, w.cell? ⟨b, o, none⟩ = some v → v ≠ .slice none 0 0 → w'.cell? ⟨b, o, none⟩ = some v := by
  intro b o v hc hv
  by_cases e : b = tb
  ·subst e
   rw [cell_of_row _ _ o _ _ _ hb] at hc
   rw [cell_of_row _ _ o _ _ _ hg]
   match o, hc with
   | 0, hc => exact hc
   | 1, hc => exact absurd (Option.some.inj hc).symm hv
   | 2, hc => exact absurd (Option.some.inj hc).symm hv
   | o + 3, hc => simp at hc
  ·rw [World.cell?_of_block (a := ⟨b, o, none⟩) (hf b (World.block_lt_of_cell? w ⟨b, o, none⟩ hc) e)]
   exact hc
 have KR : ∀ b o l, w.rangeAt b o l → (∀ v ∈ l, v ≠ .slice none 0 0) → w'.rangeAt b o l := fun b o l hr hl j v hj => K b (o + j) v (hr j v hj) (hl v (List.mem_of_getElem? hj))
 refine ⟨⟨h.ti.pt, fun hn => ?_⟩, ⟨fun hm => ?_⟩, fun i hi => ⟨?_, (h.sc i hi).2⟩⟩
 ·obtain ⟨b, off, e, hr⟩ := h.ti.at_ hn
  refine ⟨b, off, e, fun i hi => ?_⟩
  have h1 := hr i hi
  have hu : (til (clX P i) none 0)[0]? = some (.int .u8 ((clX P i).pt 0)) := rfl
  have h2 := h1 0 _ hu
  have hne : b ≠ tb := fun e2 => by
   subst e2
   rw [cell_of_row _ _ _ _ _ _ hb] at h2
   generalize off + i * 35 + 0 = q at h2
   match q, h2 with
   | 0, h2 => cases h2
   | 1, h2 => cases h2
   | 2, h2 => cases h2
   | q + 3, h2 => simp at h2
  have hbk := hf b (World.block_lt_of_cell? w ⟨b, _, none⟩ h2) hne
  intro j v hj
  rw [World.cell?_of_block (a := ⟨b, off + i * 35 + j, none⟩) hbk]
  exact h1 j v hj
 ·obtain ⟨b, off, e, hr⟩ := h.ou.at_ hm
  refine ⟨b, off, e, fun i hi => ?_⟩
  obtain ⟨ca, cc, h1, h2, h3⟩ := hr i hi
  obtain ⟨q1, q2⟩ := clO_1 P s i hi
  refine ⟨ca, cc, KR _ _ _ h1 (fun v hv => ?_), ?_, h3⟩
  ·simp only [tol, List.mem_cons, List.not_mem_nil, or_false] at hv
   rcases hv with rfl | rfl
   ·exact fun e => by cases e
   ·rw [q1]; exact fun e => by cases e
  ·refine ⟨h2.ok, fun hp => ?_⟩
   obtain ⟨b2, o2, e2, hr2⟩ := h2.at_ hp
   refine ⟨b2, o2, e2, fun j hj => ?_⟩
   obtain ⟨ka, kc, g1, g2⟩ := hr2 j hj
   refine ⟨ka, kc, KR _ _ _ g1 (fun v hv => ?_), fun hq => ?_⟩
   ·simp only [Cd.brl, List.mem_append, List.mem_cons, List.not_mem_nil, or_false] at hv
    have hbl : ∀ z k, v ∈ bl z k → v ≠ .slice none 0 0 := fun z k hz e => by
     subst e
     simp [bl] at hz
    simp only [q2 j] at hv
    rcases hv with rfl | hv
    ·exact fun e => by cases e
    ·rcases hv with hv | hv
     ·exact hbl _ _ hv
     ·rcases hv with rfl | rfl <;> exact fun e => by cases e
   ·obtain ⟨b3, o3, e3, hr3⟩ := g2 hq
    exact ⟨b3, o3, e3, fun k hk => K _ _ _ (hr3 k hk) (fun e => by cases e)⟩
 ·exact SlAt.zero _ _
end Go.Proofs.YtjnepkggdkccaaaGreatDoor
/- A transaction that lies stays when a block of noughts beside it is overwritten by another one of Lock 0. -/
namespace Go.Proofs.YtjnepkggdkccaaaGreatDoor
open Go.RowKit

/-- Each output has a branch, and each branch a key. -/
def Keyed (m : Nat) (O : Nat → To) : Prop := ∀ i, i < m → 0 < (O i).cn ∧ ∀ j, j < (O i).cn → 0 < ((O i).X j).n
theorem TxAt.over {w w' : World} {lk : Int} {n : Nat} {X : Nat → Ti} {Z : Nat → Nat → Int} {m : Nat} {O : Nat → To} {ia oa : Option Addr} {tb : Nat} {t : TypeId} {v0 v1 v2 : Value} {fr fr' : Nat × Nat} (h : TxAt w lk n X Z m O ia oa (fun _ => (none, 0))) (hs : ∀ i, i < n → (X i).sn = 0) (hk : Keyed m O) (hb : w.heap[tb]? = some (.cells #[.int .i64 0, .slice none 0 0, .slice none 0 0] t fr)) (h0 : v0 = .int .i64 0) (hg : w'.heap[tb]? = some (.cells #[v0, v1, v2] t fr')) (hf : ∀ k, k < w.heap.size → k ≠ tb → w'.heap[k]? = w.heap[k]?) : TxAt w' lk n X Z m O ia oa (fun _ => (none, 0)) := by
 subst h0
 have K : ∀ b o v, w.cell? ⟨b, o, none⟩ = some v → v ≠ .slice none 0 0 → w'.cell? ⟨b, o, none⟩ = some v := by
  intro b o v hc hv
  by_cases e : b = tb
  ·subst e
   rw [cell_of_row _ _ o _ _ _ hb] at hc
   rw [cell_of_row _ _ o _ _ _ hg]
   match o, hc with
   | 0, hc => exact hc
   | 1, hc => exact absurd (Option.some.inj hc).symm hv
   | 2, hc => exact absurd (Option.some.inj hc).symm hv
   | o + 3, hc => simp at hc
  ·rw [World.cell?_of_block (a := ⟨b, o, none⟩) (hf b (World.block_lt_of_cell? w ⟨b, o, none⟩ hc) e)]
   exact hc
 have KR : ∀ b o l, w.rangeAt b o l → (∀ v ∈ l, v ≠ .slice none 0 0) → w'.rangeAt b o l := fun b o l hr hl j v hj => K b (o + j) v (hr j v hj) (hl v (List.mem_of_getElem? hj))
 refine ⟨⟨h.ti.pt, fun hn => ?_⟩, ⟨fun hm => ?_⟩, fun i hi => ⟨?_, (h.sc i hi).2⟩⟩
 ·obtain ⟨b, off, e, hr⟩ := h.ti.at_ hn
  refine ⟨b, off, e, fun i hi => ?_⟩
  have h1 := hr i hi
  have hu : (til (X i) none 0)[0]? = some (.int .u8 ((X i).pt 0)) := rfl
  have h2 := h1 0 _ hu
  have hne : b ≠ tb := fun e2 => by
   subst e2
   rw [cell_of_row _ _ _ _ _ _ hb] at h2
   generalize off + i * 35 + 0 = q at h2
   match q, h2 with
   | 0, h2 => cases h2
   | 1, h2 => cases h2
   | 2, h2 => cases h2
   | q + 3, h2 => simp at h2
  have hbk := hf b (World.block_lt_of_cell? w ⟨b, _, none⟩ h2) hne
  intro j v hj
  rw [World.cell?_of_block (a := ⟨b, off + i * 35 + j, none⟩) hbk]
  exact h1 j v hj
 ·obtain ⟨b, off, e, hr⟩ := h.ou.at_ hm
  refine ⟨b, off, e, fun i hi => ?_⟩
  obtain ⟨ca, cc, h1, h2, h3⟩ := hr i hi
  obtain ⟨q1, q2⟩ := hk i hi
  refine ⟨ca, cc, KR _ _ _ h1 (fun v hv => ?_), ?_, h3⟩
  ·simp only [tol, List.mem_cons, List.not_mem_nil, or_false] at hv
   rcases hv with rfl | rfl
   ·exact fun e => by cases e
   ·intro e
    injection e with e1 e2 e3
    omega
  ·refine ⟨h2.ok, fun hp => ?_⟩
   obtain ⟨b2, o2, e2, hr2⟩ := h2.at_ hp
   refine ⟨b2, o2, e2, fun j hj => ?_⟩
   obtain ⟨ka, kc, g1, g2⟩ := hr2 j hj
   refine ⟨ka, kc, KR _ _ _ g1 (fun v hv => ?_), fun hq => ?_⟩
   ·simp only [Cd.brl, List.mem_append, List.mem_cons, List.not_mem_nil, or_false] at hv
    have hbl : ∀ z k, v ∈ bl z k → v ≠ .slice none 0 0 := fun z k hz e => by
     subst e
     simp [bl] at hz
    have q3 := q2 j hj
    rcases hv with rfl | hv
    ·intro e
     injection e with e1 e2 e3
     omega
    ·rcases hv with hv | hv
     ·exact hbl _ _ hv
     ·rcases hv with rfl | rfl <;> exact fun e => by cases e
   ·obtain ⟨b3, o3, e3, hr3⟩ := g2 hq
    exact ⟨b3, o3, e3, fun k hk => K _ _ _ (hr3 k hk) (fun e => by cases e)⟩
 ·rw [hs i hi]; exact SlAt.zero _ _
end Go.Proofs.YtjnepkggdkccaaaGreatDoor
/- slices.Grow of outputs: the library's contract laid at this program. -/
namespace Go.Proofs
open Go.Shelf
def Tryz.lGrowO_ren : Go.Shelf.Ren := ⟨fun | 4 => 74 | n => n, fun | 22 => 48 | 25 => 95 | 3 => 3 | 4 => 4 | 9 => 9 | 20 => 20 | 0 => 0 | n => n, fun | n => n⟩
theorem Tryz.lGrowO : Go.Proofs.Lays8.n4 Tryz.prog Tryz.lGrowO_ren := {
 mixed := by kernel_rfl
 f4 := ⟨Tryz.f74.name, by decide, Tryz.func74.trans (congrArg some (by kernel_rfl))⟩
 t0 := Tryz.underlying0
 a0 := Tryz.isAgg0
 z0 := Tryz.sizeOf0
 v0 := Tryz.zeroValue0
 t3 := Tryz.underlying3
 a3 := Tryz.isAgg3
 z3 := Tryz.sizeOf3
 v3 := Tryz.zeroValue3
 t4 := Tryz.underlying4
 a4 := Tryz.isAgg4
 z4 := Tryz.sizeOf4
 v4 := Tryz.zeroValue4
 t9 := Tryz.underlying9
 a9 := Tryz.isAgg9
 z9 := Tryz.sizeOf9
 v9 := Tryz.zeroValue9
 t20 := Tryz.underlying20
 a20 := Tryz.isAgg20
 z20 := Tryz.sizeOf20
 v20 := Tryz.zeroValue20
 t22 := Tryz.underlying48
 a22 := Tryz.isAgg48
 z22 := Tryz.sizeOf48
 v22 := Tryz.zeroValue48 }
end Go.Proofs
/- Rows of outputs of one's own; slices.Concat of two. -/
namespace Go.Proofs.YtjnepkggdkccaaaGreatDoor
open Go.RowKit Go.Shelf Go.Sort

/-- A row of outputs of one's own, made since w0. -/
structure OuO (w0 w : World) (v : Value) (n : Nat) (cs : List Value) : Prop where
 own : w.ownsRow w0.heap.size 95 2 v n cs
 below : Below w0.heap.size w0 w
theorem OuO.nil (w : World) : OuO w w (.slice none 0 0) 0 [] := ⟨World.ownsRow_nil _ _ _ _, Below.refl _ _⟩
/-- Outputs that lie somewhere, or nothing: their cells. -/
def OuSrc (w : World) (u : Value) (n : Nat) (cs : List Value) : Prop :=
 ∃ ad c, u = .slice ad n c ∧ cs.length = n * 2 ∧ (∀ x ∈ cs, x.oneCell' = true) ∧ ((ad = none ∧ n = 0) ∨ ∃ a, ad = some a ∧ ∀ j v, cs[j]? = some v → w.cell? (a.add j) = some v)
theorem OuSrc.below {w w' : World} {u : Value} {n : Nat} {cs : List Value} (h : OuSrc w u n cs) (hb : Below w.heap.size w w') : OuSrc w' u n cs := by
 obtain ⟨ad, c, rfl, h1, h2, h⟩ := h
 refine ⟨ad, c, rfl, h1, h2, ?_⟩
 rcases h with h | ⟨a, rfl, hc⟩
 ·exact .inl h
 ·refine .inr ⟨a, rfl, fun j v hv => ?_⟩
  have h1 := hc j v hv
  rw [hb.cell (p := a.add j) (World.block_lt_of_cell? w _ h1)]
  exact h1
theorem run_append_Ou (w w0 : World) (ty : TypeId) (v u : Value) (n m : Nat) (xs ys : List Value) (hown : OuO w0 w v n xs) (hu : OuSrc w u m ys) (hlen : n + m ≤ 1000000) :
  ∃ v' w1, (Builtin.append_ #[48, 48] ty #[v, u]).run Tryz.prog w = .ok v' w1 ∧ OuO w0 w1 v' (n + m) (xs ++ ys) := by
 obtain ⟨i0, hi0, hz0, hz1, hz2⟩ := info_parts infoTo
 obtain ⟨ad, c, rfl, hyl, hy1, ⟨rfl, rfl⟩ | ⟨a, rfl, hc⟩⟩ := hu
 ·obtain rfl : ys = [] := List.eq_nil_of_length_eq_zero (by omega)
  refine ⟨v, w, ?_, by simpa using hown⟩
  rcases hown.own.2 with ⟨rfl, hl⟩ | ⟨g, cap, cur, rfl, hbs, hg, hcap, _⟩
  ·simp [Builtin.append_, run_underlying Tryz.underlying48, sizeOf, typeInfo, hi0, Builtin.lenOf, Builtin.firstCells]
  ·have := run_append_room_src (P := Tryz.prog) w 48 48 ty 95 i0 Tryz.underlying48 hi0 g 0 n cap (.slice none 0 c) 0 [] (Src.ofNil w Tryz.underlying48 c) (by omega) (fun j hj => by simp at hj) (fun j hj => by simp at hj)
   simpa [World.setCells] using this
 ·obtain ⟨v', w1, hr, h2, h3, _, h5⟩ := run_append_own_at (P := Tryz.prog) w w0.heap.size 48 ty 95 i0 (.agg #[.int .i64 0, .slice none 0 0]) 2 32 Tryz.underlying48 hi0 hz0 hz1 hz2 rfl (by decide) v n xs hown.own a m c ys hyl hc
   hy1 (by simp only [maxLen]; omega) (by omega) hown.below.size
  refine ⟨v', w1, hr, h2, hown.below.trans ⟨h3.os, h3.tape, h3.output, h3.size, fun k hk => h3.block k (by have := hown.below.size; omega) (fun e => ?_)⟩⟩
  have := (hown.own.lt k e.symm).1
  omega
section
variable {ops : Array Oper} {rest : List Oper} {o : Oper} {a : Act} {w : World} {Q : Exit → Act → World → Prop}
theorem wpList_append_Ou (hgd : o.guard = none) (s x : Operand) (ho : o.op = .call { callee := .builtin .append, args := #[s, x], argTypes := #[48, 48] })
  (w0 : World) (v u : Value) (n m : Nat) (xs ys : List Value) (hs : a.eval s = v) (hx : a.eval x = u) (hown : OuO w0 w v n xs) (hu : OuSrc w u m ys) (hlen : n + m ≤ 1000000)
  (h : ∀ v' w1, OuO w0 w1 v' (n + m) (xs ++ ys) → wpList Tryz.prog ops Q rest (a.put o.dst v') w1) : wpList Tryz.prog ops Q (o :: rest) a w := by
 obtain ⟨v', w1, hr, h2⟩ := run_append_Ou w w0 o.type v u n m xs ys hown hu hlen
 refine wpList_plain hgd fun K hK => ?_
 unfold Oper.wp execOp
 simp only [ho, resolve, invoke, builtin, Sem.run_bind, Sem.run_pure, Result.andThen_ok, List.map_toArray, List.map_cons, List.map_nil, hs, hx, hr]
 exact hK _ _ (h v' w1 h2)
end
/-- Room made for n outputs behind nothing. -/
theorem growO_nil (n : Nat) (w : World) (hn : n ≤ 1000000) :
  Calls Tryz.prog 74 #[.slice none 0 0, .int .i64 n] w fun e w' => ∃ v, e = .returned v ∧ OuO w w' v 0 [] := by
 rcases Nat.eq_zero_or_pos n with h0 | hp
 ·subst h0
  have hcon := Any8.slices_Grow_room Tryz.lGrowO none 0 0 0 w (Nat.le_refl _) (by omega) (by omega) (by omega)
  change Calls Tryz.prog 74 _ _ _ at hcon
  refine hcon.mono ?_
  rintro e w' ⟨rfl, rfl⟩
  exact ⟨_, rfl, OuO.nil _⟩
 ·obtain ⟨i0, hi0, hz0, hz1, hz2⟩ := info_parts infoTo
  have hcon := Any8.slices_Grow_grow Tryz.lGrowO i0 (.agg #[.int .i64 0, .slice none 0 0]) hi0 hz0 (by omega) none 0 0 n [] w (Nat.le_refl _) (by omega) (by rw [hz2]; omega) (by omega) (by simp) (fun _ => rfl) (fun a h => by cases h)
  change Calls Tryz.prog 74 _ _ _ at hcon
  refine hcon.mono ?_
  rintro e w' ⟨rfl, rfl⟩
  refine ⟨_, rfl, ⟨⟨by simp, .inr ⟨w.heap.size, _, _, rfl, Nat.le_refl _, heap_alloc_new w.drew _, Nat.zero_le _, ?_, ?_, by simp⟩⟩, ((Below.refl _ w).drew).alloc (Nat.le_refl _) _⟩⟩
  ·exact grownCap_le_maxLen _ _ _ _ (by unfold maxLen; omega)
  ·have := grownCap_ge w n 0 (Tryz.lGrowO_ren.t 25)
   simp [size_zeroCells, Value.cells]
   omega

set_option maxRecDepth 100000 in
set_option maxHeartbeats 3200000 in
theorem concatO (q : Nat) (ad1 : Option Addr) (n1 c1 : Nat) (xs : List Value) (ad2 : Option Addr) (n2 c2 : Nat) (ys : List Value) (w : World) (h0 : w.cell? ⟨q, 0, none⟩ = some (.slice ad1 n1 c1)) (h1 : w.cell? ⟨q, 1, none⟩ = some (.slice ad2 n2 c2)) (hs1 : OuSrc w (.slice ad1 n1 c1) n1 xs) (hs2 : OuSrc w (.slice ad2 n2 c2) n2 ys) (hl : n1 + n2 ≤ 1000000) :
  Calls Tryz.prog 42 #[.slice (some ⟨q, 0, none⟩) 2 2] w fun e w' => ∃ v, e = .returned v ∧ OuO w w' v (n1 + n2) (xs ++ ys) := by
 have HS : Hid (OuSrc w (.slice ad1 n1 c1) n1 xs ∧ OuSrc w (.slice ad2 n2 c2) n2 ys) := ⟨hs1, hs2⟩
 clear hs1 hs2
 have hb0 := Below.refl w.heap.size w
 have hq := World.block_lt_of_cell? w ⟨q, 0, none⟩ h0
 have e1 : wrap64 ((n1 : Int) + n2) = ((n1 + n2 : Nat) : Int) := by unfold wrap64; omega
 have e2 : ¬ (n1 : Int) < 0 := by omega
 go_enter Tryz.func42, Tryz.ntmps42
 go_wp2
 refine wp_loop_rounds 3 ?_
 rw [rounds_succ]
 go_wp2
 rw [rounds_succ]
 go_wp2
 rw [rounds_succ]
 go_wp2_with fail
 have hgr := growO_nil (n1 + n2) w hl
 rw [Int.natCast_add] at hgr
 refine hgr.mono ?_
 rintro e w1 ⟨v, rfl, hO1⟩
 have d0 : w1.cell? ⟨q, 0, none⟩ = some (.slice ad1 n1 c1) := by rw [hO1.below.cell (p := ⟨q, 0, none⟩) hq]; exact h0
 have HO1 : Hid (OuO w w1 v 0 [] ∧ OuSrc w1 (.slice ad1 n1 c1) n1 xs) := ⟨hO1, HS.out.1.below hO1.below⟩
 have HD : Hid (∀ w' v' n L, OuO w w' v' n L → w'.cell? ⟨q, 1, none⟩ = some (.slice ad2 n2 c2) ∧ OuSrc w' (.slice ad2 n2 c2) n2 ys) := fun w' v' n L h => ⟨by rw [h.below.cell (p := ⟨q, 1, none⟩) hq]; exact h1, HS.out.2.below h.below⟩
 clear hgr hO1 h0 h1 hb0
 go_wp2
 refine wp_loop_rounds 3 ?_
 rw [rounds_succ]
 go_wp2_with (at_builtin; refine wpList_append_Ou rfl _ _ rfl w _ _ 0 n1 [] xs rfl rfl HO1.out.1 HO1.out.2 (by omega) ?_; intro v2 w2 hO2; obtain ⟨d1, hs2⟩ := HD.out w2 v2 _ _ hO2; have HO2 : Hid (OuO w w2 v2 n1 xs ∧ OuSrc w2 (.slice ad2 n2 c2) n2 ys) := ⟨by simpa using hO2, hs2⟩; clear hO2 hs2)
 rw [rounds_succ]
 go_wp2_with (at_builtin; refine wpList_append_Ou rfl _ _ rfl w _ _ n1 n2 xs ys rfl rfl HO2.out.1 HO2.out.2 (by omega) ?_; intro v3 w3 hO3)
 rw [rounds_succ]
 go_wp2
 go_ret
 exact ⟨_, rfl, hO3⟩

end Go.Proofs.YtjnepkggdkccaaaGreatDoor
/- cond.Check of branches of any number of keys. -/
namespace Go.Proofs.YtjnepkggdkccaaaGreatDoor.Cd
open Go.RowKit

set_option maxHeartbeats 800000 in
theorem keys_anyX (ka : Option Addr) (n kc : Nat) (z : Nat → Int) (w : World) (h : IsAt w ka n z) (hn : n ≤ 17592186043904) :
  Calls Tryz.prog 136 #[.slice ka n kc] w fun e w' => e = .returned (.bool (decide (KOk z n ∧ 0 < n))) ∧ Below w.heap.size w w' := by
 have HI : Hid (IsAt w ka n z) := h
 have hb0 := Below.refl w.heap.size w
 clear h
 go_enter Tryz.func136, Tryz.ntmps136
 go_wp2
 go_loopw [3, 5, 8] (fun lv kv iv wr => ∃ i : Nat, i ≤ n ∧ lv = .int .i64 (lastK z i) ∧ iv = .int .i64 i ∧ KOk z i ∧ Below w.heap.size w wr) (fun _ _ iv _ => n + 1 - (intOf iv).toNat)
 case atStart => exact ⟨0, by omega, rfl, rfl, fun j hj => by omega, hb0⟩
 case round =>
  clear hb0
  obtain ⟨i, hi, rfl, rfl, hk, hb⟩ := hrel
  have HK : Hid (KOk z i) := hk
  clear hk
  by_cases hlt : i < n
  ·have hlt' : (i : Int) < n := by omega
   obtain ⟨b, off, rfl, hc⟩ := HI.out (by omega)
   have hci : wr.cell? ⟨b, off + i, none⟩ = some (.int .i64 (z i)) := by
    have := hc i hlt
    rw [hb.cell (p := ⟨b, off + i, none⟩) (World.block_lt_of_cell? w ⟨b, off + i, none⟩ this)]; exact this
   clear hc
   by_cases h1 : lastK z i < z i
   ·have h1' : ¬ z i ≤ lastK z i := by omega
    by_cases h2 : z i < 16
    ·have h2' : ¬ 16 ≤ z i := by omega
     have HN : Hid (KOk z (i + 1)) := fun j hj => by
      by_cases e : j = i
      ·subst e; exact ⟨h1, h2⟩
      ·exact HK.out j (by omega)
     have e1 := lastK_succ z i
     generalize lastK z i = q at *
     go_wp2
     go_roundw
     case rel => exact ⟨i + 1, by omega, by rw [e1], by go_num, HN.out, hb⟩
     case measure => simp [intOf]; omega
    ·have h2' : 16 ≤ z i := by omega
     have HN : Hid (¬ KOk z n) := fun hk => h2 (hk i hlt).2
     generalize lastK z i = q at *
     go_wp2
     go_ret
     exact ⟨by simp [HN.out], hb⟩
   ·have h1' : z i ≤ lastK z i := by omega
    have HN : Hid (¬ KOk z n) := fun hk => h1 (hk i hlt).1
    generalize lastK z i = q at *
    go_wp2
    go_ret
    exact ⟨by simp [HN.out], hb⟩
  ·obtain rfl : i = n := by omega
   have hnn : ¬ ((i : Int) < i) := by omega
   have hk := HK.out
   go_wp2
   go_ret
   exact ⟨by simp, hb⟩
set_option maxHeartbeats 800000 in
theorem mayBe_anyX (x : Bv) (ka : Option Addr) (kc : Nat) (w : World) (h : IsAt w ka x.n x.z) (hn : x.n ≤ 17592186043904) :
  Calls Tryz.prog 124 #[.agg (bv x ka kc)] w fun e w' => e = .returned (.bool (decide (BOk x))) ∧ Below w.heap.size w w' := by
 have HI : Hid (IsAt (w.alloc (.cells (bv x ka kc) 164)) ka x.n x.z) := h.below ((Below.refl _ w).alloc (Nat.le_refl _) _)
 have hb0 : Below w.heap.size w (w.alloc (.cells (bv x ka kc) 164)) := (Below.refl _ w).alloc (Nat.le_refl _) _
 have hs0 : w.heap.size + 1 = (w.alloc (.cells (bv x ka kc) 164)).heap.size := by simp
 obtain ⟨c0, c33, c34⟩ := bbox_of (heap_alloc_new w (.cells (bv x ka kc) 164))
 have hk := keys_anyX ka x.n kc x.z _ HI.out hn
 clear h
 go_enter Tryz.func124, Tryz.ntmps124
 go_wp2_with (first | (refine Go.Great.wpList_boxTo rfl _ _ rfl _ rfl _ rfl (bv x ka kc) rfl ?_) | fail)
 generalize w.alloc (.cells (bv x ka kc) 164) = W0 at *
 have W0lt : w.heap.size < W0.heap.size := by omega
 have kc33 : ∀ w1, Below W0.heap.size W0 w1 → w1.cell? ⟨w.heap.size, 33, none⟩ = some (.int .i64 x.af) := fun w1 hb => by rw [hb.cell (p := ⟨w.heap.size, 33, none⟩) W0lt]; exact c33
 have kc34 : ∀ w1, Below W0.heap.size W0 w1 → w1.cell? ⟨w.heap.size, 34, none⟩ = some (.int .i64 x.ol) := fun w1 hb => by rw [hb.cell (p := ⟨w.heap.size, 34, none⟩) W0lt]; exact c34
 clear c33 c34 HI
 by_cases h1 : KOk x.z x.n ∧ 0 < x.n
 ·have e1 : decide (KOk x.z x.n ∧ 0 < x.n) = true := by simp [h1]
  rw [e1] at hk
  by_cases h2 : 0 ≤ x.af ∧ x.af ≤ 1099511627776
  ·have e2 : decide (0 ≤ x.af ∧ x.af ≤ 1099511627776) = true := by simp [h2]
   have HE : Hid (decide (BOk x) = decide (0 ≤ x.ol ∧ x.ol ≤ 65536)) := by show _ = _; simp [BOk, h1, h2]
   have hw1 := within_any x.af 1099511627776
   rw [e2] at hw1
   have hw2 := within_any x.ol 65536
   generalize decide (0 ≤ x.ol ∧ x.ol ≤ 65536) = r at *
   clear e1 e2 h1 h2
   go_wp2_with fail
   refine hk.mono ?_
   rintro e w1 ⟨rfl, hb1⟩
   have d33 := kc33 w1 hb1
   have d34 := kc34 w1 hb1
   clear kc33 kc34 hk
   go_wp2_with fail
   refine (hw1 w1).mono ?_
   rintro e w2 ⟨rfl, rfl⟩
   go_wp2_with fail
   refine (hw2 _).mono ?_
   rintro e w3 ⟨rfl, rfl⟩
   go_wp2
   go_ret
   exact ⟨by rw [HE.out]; rfl, Below.trans hb0 (hb1.mono (by omega))⟩
  ·have e2 : decide (0 ≤ x.af ∧ x.af ≤ 1099511627776) = false := by simp only [decide_eq_false_iff_not]; exact h2
   have HE : Hid (decide (BOk x) = false) := by show _ = _; simp only [decide_eq_false_iff_not]; exact fun h => h2 h.2.1
   have hw1 := within_any x.af 1099511627776
   rw [e2] at hw1
   clear e1 e2 h1 h2
   go_wp2_with fail
   refine hk.mono ?_
   rintro e w1 ⟨rfl, hb1⟩
   have d33 := kc33 w1 hb1
   clear kc33 kc34 hk
   go_wp2_with fail
   refine (hw1 w1).mono ?_
   rintro e w2 ⟨rfl, rfl⟩
   go_wp2
   go_ret
   exact ⟨by rw [HE.out]; rfl, Below.trans hb0 (hb1.mono (by omega))⟩
 ·have e1 : decide (KOk x.z x.n ∧ 0 < x.n) = false := by simp only [decide_eq_false_iff_not]; exact h1
  rw [e1] at hk
  have HE : Hid (decide (BOk x) = false) := by show _ = _; simp only [decide_eq_false_iff_not]; exact fun h => h1 h.1
  clear e1 h1 kc33 kc34
  go_wp2_with fail
  refine hk.mono ?_
  rintro e w1 ⟨rfl, hb1⟩
  clear hk
  go_wp2
  go_ret
  exact ⟨by rw [HE.out]; rfl, Below.trans hb0 (hb1.mono (by omega))⟩
set_option maxHeartbeats 800000 in
theorem bad_anyX (x : Bv) (ka : Option Addr) (kc : Nat) (w : World) (h : IsAt w ka x.n x.z) (hn : x.n ≤ 17592186043904) :
  Calls Tryz.prog 123 #[.agg (bv x ka kc)] w fun e w' => e = .returned (.bool (!decide (BOk x))) ∧ Below w.heap.size w w' := by
 have hI := h.below ((Below.refl _ w).alloc (Nat.le_refl _) (.cells (bv x ka kc) 164))
 have hb0 : Below w.heap.size w (w.alloc (.cells (bv x ka kc) 164)) := (Below.refl _ w).alloc (Nat.le_refl _) _
 have hbx := heap_alloc_new w (.cells (bv x ka kc) 164)
 have hm := mayBe_anyX x ka kc _ hI hn
 clear h hI
 generalize decide (BOk x) = r at *
 go_enter Tryz.func123, Tryz.ntmps123
 go_wp2_with (first | (refine Go.Great.wpList_boxTo rfl _ _ rfl _ rfl _ rfl (bv x ka kc) rfl ?_) | (refine wpList_load_row rfl 164 _ rfl w.heap.size rfl _ (bv x ka kc) _ _ hbx Tryz.underlying164 rfl (szBv x ka kc) ?_) | (go_at_call 124; refine hm.mono ?_; rintro e w1 ⟨rfl, hb1⟩) | fail)
 go_ret
 exact ⟨rfl, Below.trans hb0 (hb1.mono hb0.size)⟩
set_option maxHeartbeats 1600000 in
theorem index_anyX (ad : Option Addr) (n cap : Nat) (X : Nat → Bv) (w : World) (h : BrAt w ad n X) (hn : n ≤ 1000000) (hx : ∀ i, i < n → (X i).n ≤ 17592186043904) :
  Calls Tryz.prog 138 #[.slice ad n cap, .func (.func 123) #[] #[]] w fun e w' => (∃ q : Int, e = .returned (.int .i64 q) ∧ decide (q ≥ 0) = !decide (AllOk X n)) ∧ Below w.heap.size w w' := by
 have HB : Hid (BrAt w ad n X) := h
 have hb0 := Below.refl w.heap.size w
 have eg : ∀ args w, (callFunc 123 args).run Tryz.prog w = .ok (.enter 123 args) w := enters_of Tryz.func123 (by kernel_rfl) rfl
 clear h
 go_enter Tryz.func138, Tryz.ntmps138
 go_wp2
 go_loopw [5, 8] (fun _ iv wr => ∃ i : Nat, i ≤ n ∧ iv = .int .i64 i ∧ AllOk X i ∧ Below w.heap.size w wr) (fun _ iv _ => n + 1 - (intOf iv).toNat)
 case atStart => exact ⟨0, by omega, rfl, fun j hj => by omega, hb0⟩
 case round =>
  clear hb0
  obtain ⟨i, hi, rfl, hk, hb⟩ := hrel
  have HK : Hid (AllOk X i) := hk
  clear hk
  by_cases hlt : i < n
  ·have hlt' : (i : Int) < n := by omega
   obtain ⟨b, off, rfl, hc⟩ := HB.out.at_ (by omega)
   obtain ⟨ka, kc, hr0, hI0⟩ := hc i hlt
   have HR : Hid (wr.rangeAt b (off + i * 35) (brl (X i) ka kc)) := range_below hr0 hb
   have hcall := bad_anyX (X i) ka kc wr (hI0.below hb) (hx i hlt)
   clear hc hr0 hI0
   by_cases hq : BOk (X i)
   ·have e1 : decide (BOk (X i)) = true := by simp [hq]
    rw [e1] at hcall
    have HN : Hid (AllOk X (i + 1)) := fun j hj => by
     by_cases e : j = i
     ·subst e; exact hq
     ·exact HK.out j (by omega)
    clear e1 hq
    go_wp2_with (first | (refine wpList_load_mid rfl 164 _ rfl b (off + i * 35) rfl (brl (X i) ka kc) _ HR.out Tryz.underlying164 rfl (szBl _ _ _) ?_) | (go_at_fn 123; refine hcall.mono ?_; rintro e w1 ⟨rfl, hb1⟩) | fail)
    go_roundw
    case rel => exact ⟨i + 1, by omega, by go_num, HN.out, hb.trans (hb1.mono hb.size)⟩
    case measure => simp [intOf]; omega
   ·have e1 : decide (BOk (X i)) = false := by simpa using hq
    rw [e1] at hcall
    have HN : Hid (¬ AllOk X n) := fun h => hq (h i hlt)
    clear e1 hq
    go_wp2_with (first | (refine wpList_load_mid rfl 164 _ rfl b (off + i * 35) rfl (brl (X i) ka kc) _ HR.out Tryz.underlying164 rfl (szBl _ _ _) ?_) | (go_at_fn 123; refine hcall.mono ?_; rintro e w1 ⟨rfl, hb1⟩) | fail)
    go_ret
    refine ⟨⟨_, rfl, ?_⟩, hb.trans (hb1.mono hb.size)⟩
    have := HN.out
    simp [this]
  ·obtain rfl : i = n := by omega
   have hnn : ¬ ((i : Int) < i) := by omega
   have hk := HK.out
   go_wp2
   go_ret
   refine ⟨⟨_, rfl, ?_⟩, hb⟩
   simp
set_option maxHeartbeats 800000 in
theorem contains_anyX (ad : Option Addr) (n cap : Nat) (X : Nat → Bv) (w : World) (h : BrAt w ad n X) (hn : n ≤ 1000000) (hx : ∀ i, i < n → (X i).n ≤ 17592186043904) :
  Calls Tryz.prog 125 #[.slice ad n cap, .func (.func 123) #[] #[]] w fun e w' => e = .returned (.bool (!decide (AllOk X n))) ∧ Below w.heap.size w w' := by
 have hi := index_anyX ad n cap X w h hn hx
 clear h
 generalize (!decide (AllOk X n)) = r at *
 go_enter Tryz.func125, Tryz.ntmps125
 go_wp2_with (go_at_call 138; refine hi.mono ?_; rintro e w1 ⟨⟨q, rfl, hq⟩, hb1⟩)
 all_goals (go_ret; exact ⟨by simp_all, hb1⟩)
set_option maxHeartbeats 1600000 in
theorem check_anyX (ad : Option Addr) (n cap : Nat) (X : Nat → Bv) (w : World) (h : BrAt w ad n X) (hn : n ≤ 1000000) (hx : ∀ i, i < n → (X i).n ≤ 17592186043904) :
  Calls Tryz.prog 106 #[.agg #[.slice ad n cap]] w fun e w' => e = .returned (errV (chkE X n)) ∧ Below w.heap.size w w' := by
 have hI := h.below ((Below.refl _ w).alloc (Nat.le_refl _) (.cells #[.slice ad n cap] 93))
 have hb0 : Below w.heap.size w (w.alloc (.cells #[.slice ad n cap] 93)) := (Below.refl _ w).alloc (Nat.le_refl _) _
 have hm := contains_anyX ad n cap X _ hI hn hx
 clear h hI
 by_cases h1 : n < 1
 ·have h1' : (n : Int) < 1 := by omega
  have HE : Hid (chkE X n = 1) := if_neg (fun h => by have := h.1; omega)
  clear hm
  go_enter Tryz.func106, Tryz.ntmps106
  go_wp2
  go_ret
  exact ⟨by rw [HE.out]; rfl, hb0⟩
 ·have h1' : ¬ (n : Int) < 1 := by omega
  by_cases h2 : 8 < n
  ·have h2' : (8 : Int) < n := by omega
   have HE : Hid (chkE X n = 1) := if_neg (fun h => by have := h.1; omega)
   clear hm
   go_enter Tryz.func106, Tryz.ntmps106
   go_wp2
   go_ret
   exact ⟨by rw [HE.out]; rfl, hb0⟩
  ·have h2' : ¬ (8 : Int) < n := by omega
   by_cases h3 : AllOk X n
   ·have e1 : decide (AllOk X n) = true := by simp [h3]
    rw [e1] at hm
    have HE : Hid (chkE X n = 0) := if_pos ⟨by omega, h3⟩
    clear e1 h3
    go_enter Tryz.func106, Tryz.ntmps106
    go_wp2_with (go_at_call 125; refine hm.mono ?_; rintro e w1 ⟨rfl, hb1⟩)
    go_ret
    exact ⟨by rw [HE.out]; rfl, hb0.trans (hb1.mono hb0.size)⟩
   ·have e1 : decide (AllOk X n) = false := by simpa using h3
    rw [e1] at hm
    have HE : Hid (chkE X n = 1) := if_neg (fun h => h3 h.2)
    clear e1 h3
    go_enter Tryz.func106, Tryz.ntmps106
    go_wp2_with (go_at_call 125; refine hm.mono ?_; rintro e w1 ⟨rfl, hb1⟩)
    go_ret
    exact ⟨by rw [HE.out]; rfl, hb0.trans (hb1.mono hb0.size)⟩
end Go.Proofs.YtjnepkggdkccaaaGreatDoor.Cd
/- Outputs whose branches have any number of keys. -/
namespace Go.Proofs.YtjnepkggdkccaaaGreatDoor
open Go.RowKit

/-- Its branches are few; their keys need not be. -/
def To.Big (x : To) : Prop := x.cn ≤ 1000000 ∧ ∀ i, i < x.cn → (x.X i).n ≤ 17592186043904
set_option maxHeartbeats 1600000 in
theorem checkOut_anyX (x : To) (ca : Option Addr) (cc : Nat) (w : World) (h : Cd.BrAt w ca x.cn x.X) (hs : x.Big) :
  Calls Tryz.prog 83 #[.agg (tov x ca cc)] w fun e w' => e = .returned (errV (outE x)) ∧ Below w.heap.size w w' := by
 have hb0 : Below w.heap.size w (w.alloc (.cells #[.int .i64 x.am, .slice ca x.cn cc] 95)) := (Below.refl _ w).alloc (Nat.le_refl _) _
 have hc := Cd.check_anyX ca x.cn cc x.X _ (h.below hb0) hs.1 hs.2
 clear h
 unfold tov
 by_cases h1 : x.am < 10
 ·have HE : Hid (outE x = 27) := if_pos h1
  clear hc
  go_enter Tryz.func83, Tryz.ntmps83
  go_wp2
  go_ret
  exact ⟨by rw [HE.out]; rfl, hb0⟩
 ·by_cases h2 : 1125899906842624 < x.am
  ·have HE : Hid (outE x = 5) := by unfold outE; rw [if_neg h1, if_pos h2]; exact rfl
   clear hc
   go_enter Tryz.func83, Tryz.ntmps83
   go_wp2
   go_ret
   exact ⟨by rw [HE.out]; rfl, hb0⟩
  ·have HE : Hid (outE x = Cd.chkE x.X x.cn) := by unfold outE; rw [if_neg h1, if_neg h2]; exact rfl
   go_enter Tryz.func83, Tryz.ntmps83
   go_wp2_with fail
   refine hc.mono ?_
   rintro e w1 ⟨rfl, hb1⟩
   have HB : Hid (Below w.heap.size w w1) := hb0.trans (hb1.mono hb0.size)
   clear hb0 hb1 hc
   go_wp2
   go_ret
   exact ⟨by rw [HE.out]; rfl, HB.out⟩
end Go.Proofs.YtjnepkggdkccaaaGreatDoor
