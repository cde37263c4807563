/- What several texts share. -/
import Derived.Test.YtanchjfodcjlmaaGreatDoorOwnShelf01
import Derived.Test.YtanchjfodcjlmaaGreatDoorOwnShelf12
import Derived.Test.YtanchjfodcjlmaaGreatDoorOwnShelf13
import Derived.Test.YtanchjfodcjlmaaGreatDoorOwnShelf14
import Derived.Test.YtanchjfodcjlmaaGreatDoorOwnShelf11
import Derived.Test.YtanchjfodcjlmaaGreatDoorOwnShelf17
import Derived.Test.YtanchjfodcjlmaaGreatDoorOwnShelf19
import Derived.Maps.AppendAt
import Derived.Deep.AppendSrc
import Derived.Deep.AppendLies
import Derived.Lib.Slices
namespace Go.Proofs.YtanchjfodcjlmaaGreatDoor
open Go.RowKit

/-- Rows of other types lie in other blocks. -/
theorem own_apart {w : World} {B C T U k l n m : Nat} {v u : Value} {xs ys : List Value} (h : w.ownsRow B T k v n xs) (h' : w.ownsRow C U l u m ys) (hT : T ≠ U) : ∀ g, v.ownBlock = some g → u.ownBlock ≠ some g := by
  intro g e e'
  rcases h.2 with ⟨rfl, _⟩ | ⟨g1, cap, cur, rfl, _, hg, _⟩
  · cases e
  · rcases h'.2 with ⟨rfl, _⟩ | ⟨g2, cap2, cur2, rfl, _, hg2, _⟩
    · cases e'
    · have e1 : g1 = g := by simpa [Value.ownBlock] using e
      have e2 : g2 = g := by simpa [Value.ownBlock] using e'
      subst e1 e2
      rw [hg] at hg2
      simp at hg2
      exact hT hg2.2
end Go.Proofs.YtanchjfodcjlmaaGreatDoor

namespace Go.Proofs.YtanchjfodcjlmaaGreatDoor
open Go.RowKit

theorem range_app {w : World} {g off : Nat} {l1 l2 : List Value} (h : w.rangeAt g off (l1 ++ l2)) : w.rangeAt g off l1 ∧ w.rangeAt g (off + l1.length) l2 := by
  refine ⟨fun j v hv => h j v ?_, fun j v hv => ?_⟩
  · rw [List.getElem?_append_left (List.getElem?_eq_some_iff.1 hv).1]; exact hv
  · have := h (l1.length + j) v (by rw [List.getElem?_append_right (by omega)]; simpa using hv)
    rwa [← Nat.add_assoc] at this
section
variable {ops : Array Oper} {rest : List Oper} {o : Oper} {a : Act} {w : World} {Q : Exit → Act → World → Prop}
end
end Go.Proofs.YtanchjfodcjlmaaGreatDoor

namespace Go.Proofs.YtanchjfodcjlmaaGreatDoor
open Go.RowKit

theorem infoTo : (Tryz.prog.info? 79).map (fun i => (i.zero, i.size, i.bytes)) = some (some (.agg #[.int .i64 0, .slice none 0 0]), 2, 32) := by kernel_rfl
theorem slice_to (am : Int) (ca : Option Addr) (n cc : Nat) (w : World) : (Instr.buildSlice 33 1 #[(0, .agg #[.int .i64 am, .slice ca n cc])]).run Tryz.prog w = .ok (.slice (some ⟨w.heap.size, 0, none⟩) 1 1) (w.alloc (.cells #[.int .i64 am, .slice ca n cc] 79)) := by kernel_rfl
theorem run_append_To (w : World) (B q : Nat) (ty : TypeId) (v : Value) (i : Nat) (xs : List Value) (am : Int) (ca : Option Addr) (n cc : Nat) (hown : w.ownsRow B 79 2 v i xs) (hB : B ≤ w.heap.size) (hq : w.heap[q]? = some (.cells #[.int .i64 am, .slice ca n cc] 79 (0, 0))) (hi : i ≤ 1000000) :
    ∃ va vc w1, (Builtin.append_ #[33, 33] ty #[v, .slice (some ⟨q, 0, none⟩) 1 1]).run Tryz.prog w = .ok (.slice va (i + 1) vc) w1 ∧ w1.ownsRow B 79 2 (.slice va (i + 1) vc) (i + 1) (xs ++ [.int .i64 am, .slice ca n cc]) ∧ w.grownBy w1 v.ownBlock ∧ ((Value.slice va (i + 1) vc).ownBlock = v.ownBlock ∨ (Value.slice va (i + 1) vc).ownBlock = some w.heap.size) := by
  obtain ⟨i0, hi0, hz0, hz1, hz2⟩ := info_parts infoTo
  obtain ⟨v', w1, hr, h2, h3, _, h5⟩ := run_append_own_at (P := Tryz.prog) w B 33 ty 79 i0 (.agg #[.int .i64 0, .slice none 0 0]) 2 32 Tryz.underlying33 hi0 hz0 hz1 hz2 rfl (by omega) v i xs hown ⟨q, 0, none⟩ 1 1 [.int .i64 am, .slice ca n cc] rfl (fun j u hj => by
      rw [Addr.add_lit, Nat.zero_add, cell_of_row _ _ j _ _ _ hq]
      simpa using hj) (fun u hu => by simp at hu; rcases hu with rfl | rfl <;> rfl) (by unfold maxLen; omega) (by omega) hB
  obtain ⟨va, vc, rfl, _, _⟩ := own_frmV h2
  exact ⟨va, vc, w1, hr, h2, h3, h5⟩
section
variable {ops : Array Oper} {rest : List Oper} {o : Oper} {a : Act} {w : World} {Q : Exit → Act → World → Prop} {K : Act → World → Prop} {E : Prop}
theorem step_sliceTo (hgd : o.guard = none) (x : Operand) (ho : o.op = .buildSlice 33 1 #[(0, x)]) (am : Int) (ca : Option Addr) (n cc : Nat) (hx : a.eval x = .agg #[.int .i64 am, .slice ca n cc])
    (h : ∀ q w1, w1.heap[q]? = some (.cells #[.int .i64 am, .slice ca n cc] 79 (0, 0)) → w.heap.size ≤ q → Below w.heap.size w w1 → K (a.put o.dst (.slice (some ⟨q, 0, none⟩) 1 1)) w1) : if Region.wanted o (yielded ops a.tmps) = true then Oper.wp Tryz.prog o a w K Q else E := by
  have hw : Region.wanted o (yielded ops a.tmps) = true := by simp [Region.wanted, hgd]
  rw [if_pos hw]
  unfold Oper.wp execOp
  simp only [ho, List.map_toArray, List.map_cons, List.map_nil, hx, Sem.run_bind, slice_to, Result.andThen]
  exact h _ _ (heap_alloc_new _ _) (Nat.le_refl _) ((Below.refl _ _).alloc (Nat.le_refl _) _)
theorem step_append_To (hgd : o.guard = none) (s x : Operand) (ho : o.op = .call { callee := .builtin .append, args := #[s, x], argTypes := #[33, 33] }) (B q : Nat) (v : Value) (i : Nat) (xs : List Value) (am : Int) (ca : Option Addr) (n cc : Nat) (hs : a.eval s = v) (hx : a.eval x = .slice (some ⟨q, 0, none⟩) 1 1) (hown : w.ownsRow B 79 2 v i xs) (hB : B ≤ w.heap.size) (hq : w.heap[q]? = some (.cells #[.int .i64 am, .slice ca n cc] 79 (0, 0))) (hi : i ≤ 1000000)
    (h : ∀ va vc w1, w1.ownsRow B 79 2 (.slice va (i + 1) vc) (i + 1) (xs ++ [.int .i64 am, .slice ca n cc]) → w.grownBy w1 v.ownBlock → ((Value.slice va (i + 1) vc).ownBlock = v.ownBlock ∨ (Value.slice va (i + 1) vc).ownBlock = some w.heap.size) → K (a.put o.dst (.slice va (i + 1) vc)) w1) : if Region.wanted o (yielded ops a.tmps) = true then Oper.wp Tryz.prog o a w K Q else E := by
  have hw : Region.wanted o (yielded ops a.tmps) = true := by simp [Region.wanted, hgd]
  rw [if_pos hw]
  obtain ⟨va, vc, w1, hr, h1, h2, h3⟩ := run_append_To w B q o.type v i xs am ca n cc hown hB hq hi
  unfold Oper.wp execOp
  simp only [ho, resolve, invoke, builtin, Sem.run_bind, Sem.run_pure, Result.andThen_ok, List.map_toArray, List.map_cons, List.map_nil, hs, hx, hr]
  exact h _ _ _ h1 h2 h3
end
end Go.Proofs.YtanchjfodcjlmaaGreatDoor

namespace Go.Proofs.YtanchjfodcjlmaaGreatDoor
open Go.RowKit

theorem slice_ti (x : Ti) (sa : Option Addr) (sc : Nat) (w : World) : (Instr.buildSlice 32 1 #[(0, .agg (tiv x sa sc))]).run Tryz.prog w = .ok (.slice (some ⟨w.heap.size, 0, none⟩) 1 1) (w.alloc (.cells (tiv x sa sc) 59)) := by kernel_rfl
theorem infoTi : (Tryz.prog.info? 59).map (fun i => (i.zero, i.size, i.bytes)) = some (some (.agg (tiv ti0 none 0)), 35, 72) := by kernel_rfl
theorem run_append_Ti (w : World) (B q : Nat) (ty : TypeId) (v : Value) (i : Nat) (xs : List Value) (x : Ti) (sa : Option Addr) (sc : Nat) (hown : w.ownsRow B 59 35 v i xs) (hB : B ≤ w.heap.size) (hq : w.heap[q]? = some (.cells (tiv x sa sc) 59 (0, 0))) (hi : i ≤ 1000000) :
    ∃ va vc w1, (Builtin.append_ #[32, 32] ty #[v, .slice (some ⟨q, 0, none⟩) 1 1]).run Tryz.prog w = .ok (.slice va (i + 1) vc) w1 ∧ w1.ownsRow B 59 35 (.slice va (i + 1) vc) (i + 1) (xs ++ til x sa sc) ∧ w.grownBy w1 v.ownBlock := by
  obtain ⟨i0, hi0, hz0, hz1, hz2⟩ := info_parts infoTi
  obtain ⟨v', w1, hr, h2, h3, _, h5⟩ := run_append_own_at (P := Tryz.prog) w B 32 ty 59 i0 (.agg (tiv ti0 none 0)) 35 72 Tryz.underlying32 hi0 hz0 hz1 hz2 (by simp [Value.cells, tiv_size]) (by omega) v i xs hown ⟨q, 0, none⟩ 1 1 (til x sa sc) (by rw [til_length]) (fun j u hj => by
      rw [Addr.add_lit, Nat.zero_add, cell_of_row _ _ j _ _ _ hq]
      simpa [tiv] using hj) (til_one _ _ _) (by unfold maxLen; omega) (by omega) hB
  obtain ⟨va, vc, rfl, _, _⟩ := own_frmV h2
  exact ⟨va, vc, w1, hr, h2, h3⟩
section
variable {ops : Array Oper} {rest : List Oper} {o : Oper} {a : Act} {w : World} {Q : Exit → Act → World → Prop}
end
end Go.Proofs.YtanchjfodcjlmaaGreatDoor

namespace Go.Proofs.YtanchjfodcjlmaaGreatDoor
open Go.RowKit

/-- A transaction lies in a world: what it says, where its bytes are. -/
structure TxAt (w : World) (lk : Int) (n : Nat) (X : Nat → Ti) (Z : Nat → Nat → Int) (m : Nat) (O : Nat → To) (ia : Option Addr) (oa : Option Addr) (S : Nat → Option Addr × Nat) : Prop where
  ti : TiAt w ia n X S
  ou : ToAt w oa m O
  sc : ∀ i, i < n → SlAt w (S i).1 (X i).sn (Z i) ∧ (X i).sn ≤ 1000000
theorem TxAt.below {w w' : World} {lk : Int} {n : Nat} {X : Nat → Ti} {Z : Nat → Nat → Int} {m : Nat} {O : Nat → To} {ia oa : Option Addr} {S : Nat → Option Addr × Nat} (h : TxAt w lk n X Z m O ia oa S) (hb : Below w.heap.size w w') : TxAt w' lk n X Z m O ia oa S := ⟨h.ti.below hb, h.ou.below hb, fun i hi => ⟨(h.sc i hi).1.below hb, (h.sc i hi).2⟩⟩
end Go.Proofs.YtanchjfodcjlmaaGreatDoor

namespace Go.Proofs.YtanchjfodcjlmaaGreatDoor
open Go.RowKit

section
variable {ops : Array Oper} {o : Oper} {a : Act} {w : World} {K : Act → World → Prop} {Q : Exit → Act → World → Prop} {E : Prop}
end
theorem grown_low {w1 w2 : World} {B T k n : Nat} {v : Value} {xs : List Value} (h : w1.ownsRow B T k v n xs) (hg : w1.grownBy w2 v.ownBlock) (hB : B ≤ w1.heap.size) : ∀ k, k < B → w2.heap[k]? = w1.heap[k]? := fun k hk =>
  hg.block k (by omega) (fun e => by have := (h.lt k e.symm).1; omega)
theorem grown_keepV {w1 w2 : World} {B C T U k l n m : Nat} {v u : Value} {xs ys : List Value} (h : w1.ownsRow B T k v n xs) (h' : w1.ownsRow C U l u m ys) (hT : U ≠ T) (hg : w1.grownBy w2 v.ownBlock) : w2.ownsRow C U l u m ys :=
  own_keep h' fun g e => hg.block g (h'.lt g e).2 (fun e2 => own_apart h' h hT g e e2.symm)
theorem grown_below {w w1 w2 : World} {B T k n : Nat} {v : Value} {xs : List Value} (h : w1.ownsRow B T k v n xs) (hg : w1.grownBy w2 v.ownBlock) (hb : Below w.heap.size w w1) (hB : w.heap.size ≤ B) : Below w.heap.size w w2 :=
  hb.trans ⟨hg.os, hg.tape, hg.output, hg.size, fun k hk => hg.block k (by have := hb.size; omega) (fun e => by have := (h.lt k e.symm).1; omega)⟩
theorem three_new (w : World) (o1 o2 o3 : Obj) : ((w.alloc o1).alloc o2).alloc o3 = ((w.alloc o1).alloc o2).alloc o3 ∧
    Below w.heap.size w (((w.alloc o1).alloc o2).alloc o3) := ⟨rfl, (((Below.refl _ w).alloc (Nat.le_refl _) _).alloc (by simp) _).alloc (by simp; omega) _⟩

end Go.Proofs.YtanchjfodcjlmaaGreatDoor
/- longTx: whether a transaction has more than is gone through. -/
namespace Go.Proofs.YtanchjfodcjlmaaGreatDoor
open Go.RowKit

/-- What is said of a transaction that is not long. -/
structure NoLong (n : Nat) (X : Nat → Ti) (m : Nat) (O : Nat → To) : Prop where
  nm : n + m ≤ 300
  sn : ∀ i, i < n → (X i).sn ≤ 10000
  cn : ∀ i, i < m → (O i).cn ≤ 400
def LngR (n : Nat) (X : Nat → Ti) (m : Nat) (O : Nat → To) (w : World) (e : Ending) (w' : World) : Prop := ∃ b : Bool, e = .returned (.bool b) ∧ (b = false → NoLong n X m O) ∧ Below w.heap.size w w'
set_option maxRecDepth 100000 in
set_option maxHeartbeats 3200000 in
theorem longTx_any (lk : Int) (ia : Option Addr) (n ic : Nat) (oa : Option Addr) (m oc : Nat) (X : Nat → Ti) (S : Nat → Option Addr × Nat) (O : Nat → To) (w : World) (h : TiAt w ia n X S) (ho : ToAt w oa m O) (hn : n ≤ 140737488355328) (hm : m ≤ 140737488355328) (hs : ∀ i, i < n → (X i).sn ≤ 140737488355328) (hc : ∀ i, i < m → (O i).cn ≤ 140737488355328 ∧ ∀ j, j < (O i).cn → ((O i).X j).n ≤ 140737488355328) :
    Calls Tryz.prog 6 #[.agg (txv lk ia n ic oa m oc)] w (LngR n X m O w) := by
  have hb0 : Below w.heap.size w (w.alloc (.cells #[.int .i64 lk, .slice ia n ic, .slice oa m oc] 25)) := (Below.refl _ w).alloc (Nat.le_refl _) _
  have HT : Hid (TiAt (w.alloc (.cells #[.int .i64 lk, .slice ia n ic, .slice oa m oc] 25)) ia n X S ∧ ToAt (w.alloc (.cells #[.int .i64 lk, .slice ia n ic, .slice oa m oc] 25)) oa m O) := ⟨h.below hb0, ho.below hb0⟩
  have hr0 := heap_alloc_new w (.cells #[.int .i64 lk, .slice ia n ic, .slice oa m oc] 25)
  have HS := hidV hs
  have HC := hidV hc
  have HB := hidV hb0
  have ew : wrap64 ((n : Int) + m) = (n : Int) + m := by simp [wrap64]; omega
  unfold txv
  clear h ho hs hc hb0
  by_cases h1 : 300 < n + m
  · have h1' : (300 : Int) < (n : Int) + m := by omega
    clear hr0
    go_enter Tryz.func6, Tryz.ntmps6
    go_wp2
    go_ret
    exact ⟨true, rfl, (fun h => by cases h), HB.out⟩
  · have h1'' : ¬ (300 : Int) < (n : Int) + m := by omega
    go_enter Tryz.func6, Tryz.ntmps6
    go_wp2
    generalize w.alloc (.cells #[.int .i64 lk, .slice ia n ic, .slice oa m oc] 25) = W0 at *
    have c1 : W0.cell? ⟨w.heap.size, 1, none⟩ = some (.slice ia n ic) := by rw [cell_of_row _ _ 1 _ _ _ hr0]; rfl
    have c2 : W0.cell? ⟨w.heap.size, 2, none⟩ = some (.slice oa m oc) := by rw [cell_of_row _ _ 2 _ _ _ hr0]; rfl
    clear hr0
    go_loop [3, 4] (fun qv iv => ∃ (i : Nat) (q : Int), i ≤ n ∧ qv = .int .i64 q ∧ iv = .int .i64 i ∧ 0 ≤ q ∧ q ≤ 300 + i * 8796093022208 ∧ ∀ j, j < i → (((X j).sn / 16 : Nat) : Int) ≤ q) (fun _ iv => n + 1 - (intOf iv).toNat)
    case atStart => exact ⟨0, _, by omega, rfl, rfl, by omega, by omega, fun j hj => by omega⟩
    case round =>
      obtain ⟨i, q, hi, rfl, rfl, hq0, hq1, hq⟩ := hrel
      have HQ := hidV hq
      clear hq
      by_cases hlt : i < n
      · have hlt' : (i : Int) < n := by omega
        have hsi := HS.out i hlt
        obtain ⟨b0, off, rfl, hra⟩ := HT.out.1.at_ (by omega)
        have hr := hra i hlt
        clear hra
        obtain ⟨x, hx⟩ : ∃ x, X i = x := ⟨_, rfl⟩
        rw [hx] at hr hsi
        have d2 : W0.cell? ⟨b0, off + i * 35 + 34, none⟩ = some (.slice (S i).1 x.sn (S i).2) := hr 34 _ (by rfl)
        have eq : Int.tdiv (x.sn : Int) 16 = ((x.sn / 16 : Nat) : Int) := by rw [Int.tdiv_eq_ediv_of_nonneg (by omega)]; rfl
        have ew2 : wrap64 (q + ((x.sn / 16 : Nat) : Int)) = q + ((x.sn / 16 : Nat) : Int) := by simp [wrap64]; omega
        have HX := hidV hx
        clear hr hx
        go_wp2
        go_round
        case rel => exact ⟨i + 1, q + ((x.sn / 16 : Nat) : Int), by omega, rfl, by go_num, by omega, by omega, fun j hj => by
          by_cases e : j = i
          · subst e; rw [HX.out]; omega
          · have := HQ.out j (by omega); omega⟩
        case measure => simp [intOf]; omega
      · obtain rfl : i = n := by omega
        have hnn : ¬ ((i : Int) < i) := by omega
        have HA : Hid (∀ r : Int, q ≤ r → r ≤ 400 → ∀ j, j < i → (X j).sn ≤ 10000) := fun r h1 h2 j hj => by have := HQ.out j hj; omega
        have hq2 : q ≤ 2700000000000000 := by omega
        clear hq1 HQ HS ew h1
        go_wp2
        go_loop [3, 5] (fun qv iv => ∃ (k : Nat) (r : Int), k ≤ m ∧ qv = .int .i64 r ∧ iv = .int .i64 k ∧ q ≤ r ∧ r ≤ 2700000000000000 + k * 562949953421312 ∧ ∀ j, j < k → ((O j).cn : Int) ≤ r) (fun _ iv => m + 1 - (intOf iv).toNat)
        case atStart => exact ⟨0, _, by omega, rfl, rfl, by omega, by omega, fun j hj => by omega⟩
        case round =>
          obtain ⟨k, r, hk, rfl, rfl, hr0, hr1, hr⟩ := hrel
          have HR := hidV hr
          clear hr
          by_cases hlt : k < m
          · have hlt' : (k : Int) < m := by omega
            have hck := HC.out k hlt
            obtain ⟨b0, off, rfl, hra⟩ := HT.out.2.at_ (by omega)
            obtain ⟨ca, cc, hrw, hbr, _⟩ := hra k hlt
            clear hra
            obtain ⟨y, hy⟩ : ∃ y, O k = y := ⟨_, rfl⟩
            rw [hy] at hrw hck hbr
            have d1 : W0.cell? ⟨b0, off + k * 2 + 1, none⟩ = some (.slice ca y.cn cc) := hrw 1 _ (by rfl)
            have ew2 : wrap64 (r + (y.cn : Int)) = r + (y.cn : Int) := by simp [wrap64]; omega
            have HY := hidV (And.intro hy hbr)
            have HK := hidV hck.2
            have hk2 := hck.1
            clear hrw hy hbr hck
            go_wp2
            go_loop [3, 6] (fun qv iv => ∃ (l : Nat) (t : Int), l ≤ y.cn ∧ qv = .int .i64 t ∧ iv = .int .i64 l ∧ r + y.cn ≤ t ∧ (t = r + y.cn ∨ t ≤ 140737488355728)) (fun _ iv => y.cn + 1 - (intOf iv).toNat)
            case atStart => exact ⟨0, _, by omega, rfl, rfl, by omega, .inl rfl⟩
            case round =>
              obtain ⟨l, t, hl, rfl, rfl, ht0, ht1⟩ := hrel
              by_cases hlt2 : l < y.cn
              · have hlt2' : (l : Int) < y.cn := by omega
                by_cases h400 : t < 400
                · obtain ⟨b2, o2, rfl, hrb⟩ := HY.out.2.at_ (by omega)
                  obtain ⟨ka, kc, hrk, _⟩ := hrb l hlt2
                  have hkl := HK.out l hlt2
                  obtain ⟨z, hz⟩ : ∃ z, (y.X l).n = z := ⟨_, rfl⟩
                  have d3 : W0.cell? ⟨b2, o2 + l * 35, none⟩ = some (.slice ka (y.X l).n kc) := hrk 0 _ (by rfl)
                  rw [hz] at d3 hkl
                  have ew3 : wrap64 (t + (z : Int)) = t + (z : Int) := by simp [wrap64]; omega
                  clear hrb hrk hz
                  go_wp2
                  go_round
                  case rel => exact ⟨l + 1, t + z, by omega, rfl, by go_num, by omega, by omega⟩
                  case measure => simp [intOf]; omega
                · go_wp2
                  go_round
                  case rel => exact ⟨k + 1, t, by omega, rfl, by go_num, by omega, by omega, fun j hj => by
                    by_cases e : j = k
                    · subst e; rw [HY.out.1]; omega
                    · have := HR.out j (by omega); omega⟩
                  case measure => simp [intOf]; omega
              · obtain rfl : l = y.cn := by omega
                have hnn2 : ¬ ((y.cn : Int) < y.cn) := by omega
                go_wp2
                go_round
                case rel => exact ⟨k + 1, t, by omega, rfl, by go_num, by omega, by omega, fun j hj => by
                  by_cases e : j = k
                  · subst e; rw [HY.out.1]; omega
                  · have := HR.out j (by omega); omega⟩
                case measure => simp [intOf]; omega
          · obtain rfl : k = m := by omega
            have hnn3 : ¬ ((k : Int) < k) := by omega
            go_wp2
            go_ret
            refine ⟨_, rfl, fun h => ?_, HB.out⟩
            have h4 : r ≤ 400 := by simpa using h
            exact ⟨by omega, HA.out r hr0 h4, fun j hj => by have := HR.out j hj; omega⟩
end Go.Proofs.YtanchjfodcjlmaaGreatDoor
/- give: a condition of any number of keys as the program's. -/
namespace Go.Proofs.YtanchjfodcjlmaaGreatDoor.Cd
open Go.RowKit


/-- Ints appended to nothing. -/
theorem append_keysX (w : World) (ty : TypeId) (ka : Option Addr) (n kc : Nat) (z : Nat → Int) (h : IsAt w ka n z) (hn : n ≤ 17592186043904) :
    ∃ ka' kc' w1, (Builtin.append_ #[71, 71] ty #[.slice none 0 0, .slice ka n kc]).run Tryz.prog w = .ok (.slice ka' n kc') w1 ∧ IsAt w1 ka' n z ∧ Below w.heap.size w w1 ∧ (∀ a, ka' = some a → w.heap.size ≤ a.block ∧ a.block < w1.heap.size) := by
  obtain ⟨i0, hi0, hz0, hz1, hz2⟩ := info_parts infoI
  have own (a : Addr) (hc : ∀ j u, ((List.range n).map fun j => Value.int .i64 (z j))[j]? = some u → w.cell? (a.add j) = some u) := run_append_own_at (P := Tryz.prog) w w.heap.size 71 ty 3 i0 (.int .i64 0) 1 8 Tryz.underlying71 hi0 hz0 hz1 hz2 rfl (by decide) (.slice none 0 0) 0 [] (World.ownsRow_nil _ _ _ _) a n kc ((List.range n).map fun j => Value.int .i64 (z j)) (by simp) hc
      (fun u hu => by obtain ⟨y, _, rfl⟩ := List.mem_map.1 hu; rfl) (by simp only [maxLen]; omega) (by omega) (Nat.le_refl _)
  rcases Nat.eq_zero_or_pos n with h0 | hpos
  · subst h0
    cases ka with
    | none =>
      refine ⟨none, 0, w, ?_, fun h => by omega, Below.refl _ _, fun a h => by cases h⟩
      simp [Builtin.append_, run_underlying Tryz.underlying71, sizeOf, typeInfo, hi0, Builtin.lenOf, Builtin.firstCells]
    | some a =>
      obtain ⟨v', w1, hr, h2, h3, h4, _⟩ := own a (fun j u hu => by simp at hu)
      obtain rfl := h4.2 ⟨rfl, rfl⟩
      exact ⟨none, 0, w1, hr, fun h => by omega, ⟨h3.os, h3.tape, h3.output, h3.size, fun k hk => h3.block k hk (by simp [Value.ownBlock])⟩, fun a h => by cases h⟩
  · obtain ⟨b, off, rfl, hc⟩ := h hpos
    obtain ⟨v', w1, hr, h2, h3, h4, _⟩ := own ⟨b, off, none⟩ (fun j u hu => by
      simp only [List.getElem?_map, Option.map_eq_some_iff] at hu
      obtain ⟨q, h1, rfl⟩ := hu
      obtain ⟨h3, h4⟩ := List.getElem?_eq_some_iff.1 h1
      simp at h3 h4
      subst h4
      rw [Addr.add_lit]; exact hc _ h3)
    have hb : Below w.heap.size w w1 := ⟨h3.os, h3.tape, h3.output, h3.size, fun k hk => h3.block k hk (by simp [Value.ownBlock])⟩
    have hown := h2
    rw [Nat.zero_add, List.nil_append] at hown
    rcases hown.2 with ⟨rfl, e⟩ | ⟨g, cap, cur, rfl, hg, hgc, hcap, _, hcs, htk⟩
    · omega
    · refine ⟨_, cap, w1, hr, fun _ => ⟨g, 0, rfl, fun j hj => ?_⟩, hb, fun a e => ?_⟩
      · have := hown.cells (g := g) rfl j (.int .i64 (z j)) (by simp [hj])
        rwa [Addr.add_lit] at this
      · cases e; exact ⟨hg, lt_of_block hgc⟩
section
variable {ops : Array Oper} {rest : List Oper} {o : Oper} {a : Act} {w : World} {Q : Exit → Act → World → Prop}
theorem wpList_appendKX (hgd : o.guard = none) (s x : Operand) (ho : o.op = .call { callee := .builtin .append, args := #[s, x], argTypes := #[71, 71] })
    (ka : Option Addr) (n kc : Nat) (z : Nat → Int) (hs : a.eval s = .slice none 0 0) (hx : a.eval x = .slice ka n kc) (hI : IsAt w ka n z) (hn : n ≤ 17592186043904)
    (h : ∀ ka' kc' w1, IsAt w1 ka' n z → Below w.heap.size w w1 → (∀ a, ka' = some a → w.heap.size ≤ a.block ∧ a.block < w1.heap.size) → wpList Tryz.prog ops Q rest (a.put o.dst (.slice ka' n kc')) w1) : wpList Tryz.prog ops Q (o :: rest) a w := by
  obtain ⟨ka', kc', w1, hr, h2, h3, h4⟩ := append_keysX w o.type ka n kc z hI hn
  refine wpList_plain hgd fun K hK => ?_
  unfold Oper.wp execOp
  simp only [ho, resolve, invoke, builtin, Sem.run_bind, Sem.run_pure, Result.andThen_ok, List.map_toArray, List.map_cons, List.map_nil, hs, hx, hr]
  exact hK _ _ (h ka' kc' w1 h2 h3 h4)
end
set_option maxRecDepth 100000 in
set_option maxHeartbeats 3200000 in
theorem give_inX (ad : Option Addr) (n cap : Nat) (X : Nat → Bv) (w : World) (h : BrAt w ad n X) (hn : n ≤ 1000000) (hx : ∀ i, i < n → (X i).n ≤ 17592186043904) :
    Calls Tryz.prog 26 #[.agg #[.slice ad n cap]] w fun e w' => ∃ ad' cap', e = .returned (.agg #[.slice ad' n cap']) ∧ BrIn w' w.heap.size ad' n X ∧ Below w.heap.size w w' ∧ (ad' = none → n = 0 ∧ cap' = 0) := by
  obtain ⟨i0, hi0, hz0, hz1, hz2⟩ := info_parts infoB
  have HI0 : Hid (Tryz.prog.info? 101 = some i0 ∧ i0.zero = some (.agg (bv b0 none 0)) ∧ i0.size = 35 ∧ i0.bytes = 72) := ⟨hi0, hz0, hz1, hz2⟩
  clear hi0 hz0 hz1 hz2
  have HB : Hid (BrAt w ad n X) := h
  have hb0 : Below w.heap.size w ((w.alloc (.cells #[.slice ad n cap] 68)).alloc (.cells #[.slice none 0 0] 76)) := ((Below.refl _ w).alloc (Nat.le_refl _) _).alloc (by simp) _
  have hc0 : ((w.alloc (.cells #[.slice ad n cap] 68)).alloc (.cells #[.slice none 0 0] 76)).cell? ⟨w.heap.size, 0, none⟩ = some (.slice ad n cap) := by
    rw [World.cell?_alloc_lt _ _ ⟨w.heap.size, 0, none⟩ (by simp)]; simp
  have hr0 : ((w.alloc (.cells #[.slice ad n cap] 68)).alloc (.cells #[.slice none 0 0] 76)).heap[w.heap.size + 1]? = some (.cells #[.slice none 0 0] 76 (0, 0)) := by
    have := heap_alloc_new (w.alloc (.cells #[.slice ad n cap] 68)) (.cells #[.slice none 0 0] 76)
    simpa using this
  clear h
  go_enter Tryz.func26, Tryz.ntmps26
  go_wp2
  generalize (w.alloc (.cells #[.slice ad n cap] 68)).alloc (.cells #[.slice none 0 0] 76) = W0 at *
  have hp0 : w.heap.size < W0.heap.size := World.block_lt_of_cell? W0 ⟨w.heap.size, 0, none⟩ hc0
  have hp1 : w.heap.size + 1 < W0.heap.size := lt_of_block hr0
  have HB0 : Hid (BrAt W0 ad n X) := HB.out.below hb0
  have HB1 : Hid (Below w.heap.size w W0 ∧ W0.heap[w.heap.size + 1]? = some (.cells #[.slice none 0 0] 76 (0, 0))) := ⟨hb0, hr0⟩
  have hg0 : GivR W0 W0 (.slice none 0 0) X (fun _ => (none, 0)) 0 := ⟨Below.refl _ _, World.ownsRow_nil _ _ _ _, fun j hj => by omega, fun j hj => by omega⟩
  clear hb0 hr0 HB
  go_loopw [3, 4, 5, 6] (fun sv iv _ _ wr => ∃ (i : Nat) (v : Value) (A : Nat → Option Addr × Nat), i ≤ n ∧ v = sv ∧ iv = .int .i64 i ∧ GivR W0 wr v X A i) (fun _ iv _ _ _ => n + 1 - (intOf iv).toNat)
  case atStart => exact ⟨0, _, _, by omega, rfl, rfl, hg0⟩
  case round =>
    clear hg0
    obtain ⟨i, v, A, hi, rfl, rfl, hR⟩ := hrel
    have HR : Hid (GivR W0 wr v X A i) := hR
    have cb : wr.cell? ⟨w.heap.size, 0, none⟩ = some (.slice ad n cap) := by rw [hR.below.cell (p := ⟨w.heap.size, 0, none⟩) hp0]; exact hc0
    have hws := hR.below.size
    clear hR
    by_cases hlt : i < n
    · have hlt' : (i : Int) < n := by omega
      obtain ⟨b, off, rfl, hc⟩ := HB0.out.at_ (by omega)
      obtain ⟨ka, kc, hq0, hI0⟩ := hc i hlt
      have hxi := hx i hlt
      have HQ : Hid (wr.rangeAt b (off + i * 35) (brl (X i) ka kc)) := range_below hq0 HR.out.below
      have HI : Hid (IsAt wr ka (X i).n (X i).z) := hI0.below HR.out.below
      have hpr : w.heap.size < wr.heap.size := by omega
      clear hc hq0 hI0 hc0
      have HS1 : Hid (∀ w' : World, w'.heap[wr.heap.size]? = some (.cells (bv (X i) ka kc) 101 (0, 0)) → Frm [wr.heap.size] (wr.alloc (.cells (bv b0 none 0) 101)) w' → Below wr.heap.size wr w' ∧ w'.cell? ⟨w.heap.size, 0, none⟩ = some (.slice (some ⟨b, off, none⟩) n cap) ∧ w'.cell? ⟨b, off + i * 35, none⟩ = some (.slice ka (X i).n kc) ∧ IsAt w' ka (X i).n (X i).z) := by
        intro w' h1 h2
        have h3 : Below wr.heap.size (wr.alloc (.cells (bv b0 none 0) 101)) w' := h2.below (by simp) (by simp)
        have h4 : Below wr.heap.size wr w' := ((Below.refl _ wr).alloc (Nat.le_refl _) _).trans h3
        exact ⟨h4, by rw [h4.cell (p := ⟨w.heap.size, 0, none⟩) hpr]; exact cb, range_below HQ.out h4 0 _ rfl, HI.out.below h4⟩
      have HS2 : Hid (∀ (w1 w2 : World) (ka' : Option Addr) (kc' : Nat), w1.heap[wr.heap.size]? = some (.cells (bv (X i) ka kc) 101 (0, 0)) → Below wr.heap.size wr w1 → Below w1.heap.size w1 w2 → w2.cell? ⟨wr.heap.size, 0, none⟩ = some (.slice ka (X i).n kc) ∧ w2.frozen? ⟨wr.heap.size, 0, none⟩ = false ∧ (w2.setCell ⟨wr.heap.size, 0, none⟩ (.slice ka' (X i).n kc')).heap[wr.heap.size]? = some (.cells (bv (X i) ka' kc') 101 (0, 0)) ∧ Below wr.heap.size wr (w2.setCell ⟨wr.heap.size, 0, none⟩ (.slice ka' (X i).n kc'))) := by
        intro w1 w2 ka' kc' h1 h2 h3
        have h4 : w2.heap[wr.heap.size]? = some (.cells (bv (X i) ka kc) 101 (0, 0)) := by rw [h3.block _ (lt_of_block h1)]; exact h1
        exact ⟨(bbox_of h4).c0, frozen_of_row w2 _ 0 _ _ h4, bv_set0 _ _ _ _ _ h4, (Below.transS h2 h3).setCell (by simp) _⟩
      have HR4 : Hid (∀ (w3 : World), Below wr.heap.size wr w3 → ∀ cs : Array Value, GivR W0 (w3.alloc (.cells cs 101)) v X A i) := fun w3 h3 cs => HR.out.keep (h3.alloc h3.size _)
      go_wp2_with (first | (refine wpList_load_mid rfl 73 _ rfl b (off + i * 35) rfl (brl (X i) ka kc) _ HQ.out Tryz.underlying73 rfl (szRl _ _ _) ?_) | (refine wpList_allocB rfl rfl ?_) | (refine wpList_storeR _ szB rfl _ _ rfl wr.heap.size rfl (X i) b0 ka none kc 0 101 rfl (heap_alloc_new wr _) ?_; intro w1 hg1 hf1; obtain ⟨hb1, c10, c1k, hI1⟩ := HS1.out w1 hg1 hf1; have HG1 : Hid (w1.heap[wr.heap.size]? = some (.cells (bv (X i) ka kc) 101 (0, 0)) ∧ Below wr.heap.size wr w1) := ⟨hg1, hb1⟩; clear hg1 hf1) | (refine wpList_appendKX rfl _ _ rfl ka (X i).n kc (X i).z rfl rfl hI1 hxi ?_; intro ka' kc' w2 hI2 hb2 ha2; obtain ⟨k0, f0, hS3⟩ := HS2.out w1 w2 ka' kc' HG1.out.1 HG1.out.2 hb2; have HX : Hid (IsAt w2 ka' (X i).n (X i).z ∧ Below w1.heap.size w1 w2 ∧ ∀ a, ka' = some a → w1.heap.size ≤ a.block ∧ a.block < w2.heap.size) := ⟨hI2, hb2, ha2⟩; have HS3 : Hid _ := hS3; clear hI2 hb2 ha2 hS3 hI1 hb1 c10 c1k) | (refine wpList_load_row rfl 101 _ rfl wr.heap.size rfl _ (bv (X i) ka' kc') _ _ HS3.out.1 Tryz.underlying101 rfl (szBv _ _ _) ?_) | (refine wpList_sliceB rfl _ rfl (X i) ka' kc' rfl ?_) | (at_builtin; refine wpList_appendB rfl _ _ rfl W0 v X A i ka' kc' _ rfl rfl (HR4.out _ HS3.out.2 (bv (X i) ka' kc')) (heap_alloc_new _ _) (by omega) ?_; intro v' w5 hown' hgrow hloc) | fail)
      have HN : Hid (GivR W0 w5 v' X (fun j => if j = i then (ka', kc') else A j) (i + 1)) := by
        obtain ⟨hI2, hb2, ha2⟩ := HX.out
        have hl1 := lt_of_block HG1.out.1
        have hlv := HR.out.own.lt
        refine (HR4.out _ HS3.out.2 _).next hown' hgrow hloc ((isAt_set hI2 (fun a e => by have := (ha2 a e).1; omega)).below ((Below.refl _ _).alloc (Nat.le_refl _) _)) (fun a e => ⟨by have := (ha2 a e).1; omega, by have := (ha2 a e).2; simp [World.setCell]; omega, fun e2 => by have := (hlv _ e2).2; have := (ha2 a e).1; omega⟩)
      clear hown' hgrow hloc HX HS3 HG1 HR4 HS1 HS2
      go_roundw
      case rel => exact ⟨i + 1, v', _, by omega, rfl, by go_num, HN.out⟩
      case measure => simp [intOf]; omega
    · obtain rfl : i = n := by omega
      have hnn : ¬ ((i : Int) < i) := by omega
      have hr1 : wr.heap[w.heap.size + 1]? = some (.cells #[.slice none 0 0] 76 (0, 0)) := by rw [HR.out.below.block _ hp1]; exact HB1.out.2
      have c1 : wr.cell? ⟨w.heap.size + 1, 0, none⟩ = some (.slice none 0 0) := by rw [cell_of_row wr _ 0 _ _ _ hr1]; rfl
      have f1 : wr.frozen? ⟨w.heap.size + 1, 0, none⟩ = false := frozen_of_row wr _ 0 _ _ hr1
      obtain ⟨ad', cap', e, hBi⟩ := HR.out.brIn (fun j hj => HB0.out.ok j hj)
      subst e
      have HNX : Hid (ad' = none → i = 0 ∧ cap' = 0) := fun e => by
        subst e
        rcases HR.out.own.2 with ⟨h1, h2⟩ | ⟨_, _, _, h1, _⟩
        · exact ⟨h2, by injection h1⟩
        · injection h1 with h3; cases h3
      have hBr : BrIn (wr.setCell ⟨w.heap.size + 1, 0, none⟩ (.slice ad' i cap')) w.heap.size ad' i X := fun w' hw => hBi w' (fun k h1 h2 => by
        rw [hw k (by omega) (by simpa [World.setCell] using h2)]
        exact Below.heap_setCell _ _ _ _ (by show k ≠ w.heap.size + 1; omega))
      have HE : Hid (BrIn (wr.setCell ⟨w.heap.size + 1, 0, none⟩ (.slice ad' i cap')) w.heap.size ad' i X ∧ Below w.heap.size w (wr.setCell ⟨w.heap.size + 1, 0, none⟩ (.slice ad' i cap'))) := ⟨hBr, ((HB1.out.1).trans (HR.out.below.mono HB1.out.1.size)).setCell (by show w.heap.size ≤ w.heap.size + 1; omega) _⟩
      have HR1 : Hid ((wr.setCell ⟨w.heap.size + 1, 0, none⟩ (.slice ad' i cap')).heap[w.heap.size + 1]? = some (.cells #[.slice ad' i cap'] 76 (0, 0))) := heap_setCell_same wr _ 0 _ _ _ hr1
      clear hBr hBi HR hr1
      go_wp2
      exact bodyPost_ret (results_cell_row Tryz.results26 _ _ (w.heap.size + 1) 76 #[.slice ad' i cap'] (0, 0) _ rfl HR1.out Tryz.underlying76 rfl szC) rfl ⟨ad', cap', rfl, HE.out.1, HE.out.2, HNX.out⟩
end Go.Proofs.YtanchjfodcjlmaaGreatDoor.Cd
