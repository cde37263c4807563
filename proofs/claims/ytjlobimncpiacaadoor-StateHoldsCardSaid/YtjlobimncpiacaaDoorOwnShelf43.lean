/- The document's rows of holds: appended, built; holdAt. -/
import Derived.Test.YtjlobimncpiacaaDoorOwnShelf36
import Derived.Test.YtjlobimncpiacaaDoorOwnShelf42
import Derived.Deep.AppendSrc
namespace Go.Proofs.YtjlobimncpiacaaDoor
open Go.RowKit

theorem infoHr : (Tryd.prog.info? 29).map (fun i => (i.zero, i.size, i.bytes)) = some (some (.agg #[.int .i64 0, .int .i64 0, .slice none 0 0]), 3, 40) := by kernel_rfl
theorem Src.below {w w' : World} {ad : Option Addr} {n cap : Nat} {cs : List Value} (h : Src w ad n cap cs) (hb : Below w.heap.size w w') : Src w' ad n cap cs :=
  ⟨fun hn => by
    obtain ⟨b, off, e, hr⟩ := h.1 hn
    exact ⟨b, off, e, range_below hr hb⟩, h.2⟩
theorem run_append_R (w : World) (B : Nat) (ty : TypeId) (v : Value) (i : Nat) (xs : List Value) (ad : Option Addr) (m c : Nat) (cs : List Value) (hown : w.ownsRow B 29 3 v i xs) (hB : B ≤ w.heap.size) (hs : Src w ad m c cs) (hl : cs.length = m * 3) (h1 : ∀ u ∈ cs, u.oneCell' = true) (hi : i + m ≤ 1000000) :
    ∃ va vc w1, (Builtin.append_ #[24, 24] ty #[v, .slice ad m c]).run Tryd.prog w = .ok (.slice va (i + m) vc) w1 ∧ w1.ownsRow B 29 3 (.slice va (i + m) vc) (i + m) (xs ++ cs) ∧ w.grownBy w1 v.ownBlock := by
  obtain ⟨i0, hi0, hz0, hz1, hz2⟩ := info_parts infoHr
  cases ad with
  | none =>
    obtain ⟨rfl, rfl⟩ := hs.2 rfl
    obtain rfl : cs = [] := List.eq_nil_of_length_eq_zero (by omega)
    obtain ⟨va, vc, e, _, _⟩ := own_frmV hown
    refine ⟨va, vc, w, ?_, by rw [List.append_nil, Nat.add_zero, ← e]; exact hown, ⟨rfl, rfl, rfl, Nat.le_refl _, fun _ _ _ => rfl⟩⟩
    rw [Nat.add_zero, ← e]
    rcases hown.2 with ⟨rfl, hl⟩ | ⟨g, cap, cur, rfl, hbs, hg, hcap, _⟩
    · simp [Builtin.append_, run_underlying Tryd.underlying24, sizeOf, typeInfo, hi0, Builtin.lenOf, Builtin.firstCells]
    · have := run_append_room_src (P := Tryd.prog) w 24 24 ty 29 i0 Tryd.underlying24 hi0 g 0 i cap (.slice none 0 0) 0 [] (Go.Src.ofNil w Tryd.underlying24 0) (by omega) (fun j hj => by simp at hj) (fun j hj => by simp at hj)
      simpa [World.setCells] using this
  | some a =>
    obtain ⟨v', w1, hr, h2, h3, _, _⟩ := run_append_own_at (P := Tryd.prog) w B 24 ty 29 i0 (.agg #[.int .i64 0, .int .i64 0, .slice none 0 0]) 3 40 Tryd.underlying24 hi0 hz0 hz1 hz2 rfl (by omega) v i xs hown a m c cs hl (fun j u hj => by
      have hjl := (List.getElem?_eq_some_iff.1 hj).1
      obtain ⟨b, off, e, hr⟩ := hs.1 (by omega)
      cases e
      rw [Addr.add_lit]
      exact hr j u hj) h1 (by unfold maxLen; omega) (by omega) hB
    obtain ⟨va, vc, rfl, _, _⟩ := own_frmV h2
    exact ⟨va, vc, w1, hr, h2, h3⟩
theorem slice_hr (x : Hd) (ka : Option Addr) (kc : Nat) (w : World) : (Instr.buildSlice 24 1 #[(0, .agg (hdv x ka kc))]).run Tryd.prog w = .ok (.slice (some ⟨w.heap.size, 0, none⟩) 1 1) (w.alloc (.cells (hdv x ka kc) 29)) := by kernel_rfl
section
variable {ops : Array Oper} {o : Oper} {a : Act} {w : World} {K : Act → World → Prop} {Q : Exit → Act → World → Prop} {E : Prop}
theorem step_append_R (hgd : o.guard = none) (s x : Operand) (ho : o.op = .call { callee := .builtin .append, args := #[s, x], argTypes := #[24, 24] })
    (B : Nat) (v : Value) (i : Nat) (xs : List Value) (ad : Option Addr) (m c : Nat) (cs : List Value) (hs : a.eval s = v) (hx : a.eval x = .slice ad m c) (hown : w.ownsRow B 29 3 v i xs) (hB : B ≤ w.heap.size) (hsr : Src w ad m c cs) (hl : cs.length = m * 3) (h1 : ∀ u ∈ cs, u.oneCell' = true) (hi : i + m ≤ 1000000)
    (h : ∀ va vc w1, w1.ownsRow B 29 3 (.slice va (i + m) vc) (i + m) (xs ++ cs) → w.grownBy w1 v.ownBlock → K (a.put o.dst (.slice va (i + m) vc)) w1) : if Region.wanted o (yielded ops a.tmps) = true then Oper.wp Tryd.prog o a w K Q else E := by
  have hw : Region.wanted o (yielded ops a.tmps) = true := by simp [Region.wanted, hgd]
  rw [if_pos hw]
  obtain ⟨va, vc, w1, hr, h2, h3⟩ := run_append_R w B o.type v i xs ad m c cs hown hB hsr hl h1 hi
  unfold Oper.wp execOp
  simp only [ho, resolve, invoke, builtin, Sem.run_bind, Sem.run_pure, Result.andThen_ok, List.map_toArray, List.map_cons, List.map_nil, hs, hx, hr]
  exact h va vc w1 h2 h3
theorem step_sliceR (hgd : o.guard = none) (x : Operand) (ho : o.op = .buildSlice 24 1 #[(0, x)]) (v : Hd) (ka : Option Addr) (kc : Nat) (hx : a.eval x = .agg (hdv v ka kc))
    (h : ∀ q w', w'.heap[q]? = some (.cells (hdv v ka kc) 29 (0, 0)) → w.heap.size ≤ q → Below w.heap.size w w' → K (a.put o.dst (.slice (some ⟨q, 0, none⟩) 1 1)) w') : if Region.wanted o (yielded ops a.tmps) = true then Oper.wp Tryd.prog o a w K Q else E := by
  have hw : Region.wanted o (yielded ops a.tmps) = true := by simp [Region.wanted, hgd]
  rw [if_pos hw]
  unfold Oper.wp execOp
  simp only [ho, List.map_toArray, List.map_cons, List.map_nil, hx, Sem.run_bind, slice_hr, Result.andThen]
  exact h _ _ (heap_alloc_new w _) (Nat.le_refl _) ((Below.refl _ w).alloc (Nat.le_refl _) _)
/-- A whole state stored into a variable. -/
theorem step_storeR (hgd : o.guard = none) (x y : Operand) (ho : o.op = .store 26 x y) (g : Nat) (hx : a.eval x = .pointer (some ⟨g, 0, none⟩)) (u0 u1 u2 : Int) (pa : Option Addr) (pn pc : Nat) (ha : Option Addr) (hn hc : Nat) (hy : a.eval y = .agg #[.int .i64 u0, .int .i64 u1, .int .i64 u2, .slice pa pn pc, .slice ha hn hc]) (hg : w.heap[g]? = some (.cells #[.int .i64 0, .int .i64 0, .int .i64 0, .slice none 0 0, .slice none 0 0] 26 (0, 0)))
    (h : ∀ w', w'.heap[g]? = some (.cells #[.int .i64 u0, .int .i64 u1, .int .i64 u2, .slice pa pn pc, .slice ha hn hc] 26 (0, 0)) → Frm [g] w w' → K (a.put o.dst undef) w') : if Region.wanted o (yielded ops a.tmps) = true then Oper.wp Tryd.prog o a w K Q else E := by
  have hw : Region.wanted o (yielded ops a.tmps) = true := by simp [Region.wanted, hgd]
  rw [if_pos hw]
  refine wp_store_mid 26 x y ho g 0 #[.int .i64 u0, .int .i64 u1, .int .i64 u2, .slice pa pn pc, .slice ha hn hc] hx hy ?_ szSr (by simp [Value.oneCell']) (h _ ?_ (setCells_frm g _ 0 w))
  · intro j hj
    have hj5 : j < 5 := by simpa using hj
    exact ⟨by rw [cell_of_row w g _ _ _ _ hg, Array.getElem?_eq_getElem (by simpa using hj5)]; rfl, frozen_of_row w g _ _ _ hg⟩
  · exact five_all hg
end
/-- A row of one's own holds what its cells say. -/
theorem hd_of_row {w : World} {B m vc : Nat} {va : Option Addr} {X : Nat → Hd} {A : Nat → Option Addr × Nat} (h : w.ownsRow B 29 3 (.slice va m vc) m (flatL (hf X A) m)) (hk : ∀ i, i < m → IsAt w (A i).1 (X i).n (X i).z ∧ ((A i).1 = none → (X i).n = 0 ∧ (A i).2 = 0)) : HdAt w va m X := by
  refine ⟨fun h0 => ?_⟩
  obtain ⟨g, e, _, _, hr⟩ := own_range h h0
  exact ⟨g, 0, e, fun i hi => ⟨(A i).1, (A i).2, (flatL_range m (hf_len X A m)).1 hr i hi, (hk i hi).1, (hk i hi).2⟩⟩
/-- The first of some cells, and what is behind. -/
theorem Src.take {w : World} {ad : Option Addr} {n cap i : Nat} {f : Nat → List Value} (h : Src w ad n cap (flatL f n)) (hf : ∀ j, j < n → (f j).length = 3) (hi : i ≤ n) (h0 : ad ≠ none) : Src w ad i cap (flatL f i) := by
  refine ⟨fun hi0 => ?_, fun e => absurd e h0⟩
  obtain ⟨b, off, e, hr⟩ := h.1 (by omega)
  exact ⟨b, off, e, (flatL_range i (fun j hj => hf j (by omega))).2 fun j hj => (flatL_range n hf).1 hr j (by omega)⟩
theorem Src.drop {w : World} {b off n cap i c : Nat} {f : Nat → List Value} (h : Src w (some ⟨b, off, none⟩) n cap (flatL f n)) (hf : ∀ j, j < n → (f j).length = 3) (hi : i ≤ n) (hc : n ≤ cap) : Src w (if cap = i then some ⟨b, off, none⟩ else some ⟨b, off + i * 3, none⟩) (n - i) c (flatL (fun j => f (i + j)) (n - i)) := by
  refine ⟨fun hi0 => ?_, fun e => by split at e <;> cases e⟩
  rw [if_neg (by omega)]
  obtain ⟨b', off', e, hr⟩ := h.1 (by omega)
  cases e
  refine ⟨b, off + i * 3, rfl, (flatL_range (n - i) (fun j hj => hf _ (by omega))).2 fun j hj => ?_⟩
  have := (flatL_range n hf).1 hr (i + j) (by omega)
  rwa [Nat.add_mul, ← Nat.add_assoc] at this
/-- Where an ID is first. -/
def HatR (f : Nat → Int) (n : Nat) (x k : Int) : Prop := (k = -1 ∧ ∀ j, j < n → f j ≠ x) ∨ ∃ i : Nat, k = i ∧ i < n ∧ f i = x ∧ ∀ j, j < i → f j ≠ x
set_option maxRecDepth 100000 in
set_option maxHeartbeats 1600000 in
theorem holdAt_any (ad : Option Addr) (n cap : Nat) (X : Nat → Hd) (id : Int) (w : World) (h : HdAt w ad n X) (hn : n ≤ 1000000) :
    Calls Tryd.prog 27 #[.slice ad n cap, .int .i64 id] w fun e w' => ∃ k, HatR (fun j => (X j).id) n id k ∧ e = .returned (.int .i64 k) ∧ w' = w := by
  have HB : Hid (HdAt w ad n X) := h
  clear h
  go_enter Tryd.func27, Tryd.ntmps27
  go_wp2
  go_loopw [5] (fun iv wr => ∃ i : Nat, i ≤ n ∧ iv = .int .i64 i ∧ (∀ j, j < i → (X j).id ≠ id) ∧ wr = w) (fun iv _ => n + 1 - (intOf iv).toNat)
  case atStart => exact ⟨0, Nat.zero_le _, rfl, fun j hj => by omega, rfl⟩
  case round =>
    obtain ⟨i, hi, rfl, hk, rfl⟩ := hrel
    have HK : Hid (∀ j, j < i → (X j).id ≠ id) := hk
    clear hk
    by_cases hlt : i < n
    · have hlt' : (i : Int) < n := by omega
      obtain ⟨b, off, rfl, hc⟩ := HB.out.at_ (by omega)
      obtain ⟨ka, kc, hr, _, _⟩ := hc i hlt
      obtain ⟨d0, d1, d2⟩ := hd_cells hr
      clear hc hr
      by_cases he : (X i).id = id
      · have he' : ((X i).id == id) = true := by simp [he]
        go_wp2
        go_ret
        exact ⟨_, .inr ⟨i, rfl, hlt, he, HK.out⟩, rfl, rfl⟩
      · have he' : ((X i).id == id) = false := by simp [he]
        have HN : Hid (∀ j, j < i + 1 → (X j).id ≠ id) := fun j hj => by
          by_cases e : j = i
          · subst e; exact he
          · exact HK.out j (by omega)
        go_wp2
        go_roundw
        case rel => exact ⟨i + 1, by omega, by go_num, HN.out, trivial⟩
        case measure => simp [intOf]; omega
    · have hin : i = n := by omega
      have hnn : ¬ ((i : Int) < n) := by omega
      go_wp2
      go_ret
      exact ⟨_, .inl ⟨rfl, fun j hj => HK.out j (by omega)⟩, rfl, rfl⟩
end Go.Proofs.YtjlobimncpiacaaDoor
