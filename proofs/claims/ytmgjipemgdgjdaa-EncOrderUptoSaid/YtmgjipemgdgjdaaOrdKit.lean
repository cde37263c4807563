/- EncOrder: what holds at each round. -/
import Derived.Test.YtmgjipemgdgjdaaOrd2
import Derived.Test.YtmgjipemgdgjdaaBackKit
import Derived.Deep.RegionHeld3
namespace Go.Proofs.Ytmgjipemgdgjdaa
open Go.RowKit

theorem th_kd {x y : Th} (h : x.k = y.k) : x.kd = y.kd := by unfold Th.kd; rw [h]
/-- Two things' order. -/
def ordT (x y : Th) : Int :=
  if x.kd = 0 then sgn (IntKind.u64.wrap x.n) (IntKind.u64.wrap y.n) else if x.kd = 1 then sgn x.n y.n else if x.kd = 2 then cmpL (lB x.z x.len) (lB y.z y.len) else cmpL (hB x.h) (hB y.h)
theorem lB_bd {z : Nat → Int} {n : Nat} (h : ∀ j, j < n → 0 ≤ z j ∧ z j ≤ 255) : ∀ x, x ∈ lB z n → 0 ≤ x ∧ x ≤ 255 := by
  intro x hx
  simp only [lB, List.mem_map, List.mem_range] at hx
  obtain ⟨j, hj, rfl⟩ := hx
  exact h j hj
theorem by_parts {W : World} {x y : Th} (hx : ThOk W x) (hy : ThOk W y) (hk : x.k = y.k) : Parts x.by y.by (ordT x y) := by
  have hkd := th_kd hk
  unfold Th.by ordT
  rw [← hkd]
  by_cases h0 : x.kd = 0
  · rw [if_pos h0, if_pos h0, if_pos h0]
    exact u_parts _ _ (u64_bd _).1 (u64_bd _).2 (u64_bd _).1 (u64_bd _).2
  · rw [if_neg h0, if_neg h0, if_neg h0]
    by_cases h1 : x.kd = 1
    · rw [if_pos h1, if_pos h1, if_pos h1]
      exact i_parts _ _ hx.n.1 hx.n.2 hy.n.1 hy.n.2
    · rw [if_neg h1, if_neg h1, if_neg h1]
      by_cases h2 : x.kd = 2
      · rw [if_pos h2, if_pos h2, if_pos h2, escF_escL, escF_escL]
        exact esc_parts _ _ (lB_bd hx.b.1) (lB_bd hy.b.1)
      · rw [if_neg h2, if_neg h2, if_neg h2]
        exact Parts.len (by rw [hB_length, hB_length])

/-- The other row's thing, as the law takes it. -/
def oth (X Y : Nat → Th) (at_ : Int) (i : Nat) : Th := { (if decide ((i : Int) < wrap64 ((IntKind.u64.wrap at_).tmod 30)) then X i else Y i) with k := (X i).k }
theorem oth_ok {W : World} {X Y : Nat → Th} {at_ : Int} {i : Nat} (hx : ThOk W (X i)) (hy : ThOk W (Y i)) : ThOk W (oth X Y at_ i) := by
  unfold oth
  split
  · exact ⟨hx.k, hx.n, hx.cap, hx.b, hx.nil, hx.h⟩
  · exact ⟨hx.k, hy.n, hy.cap, hy.b, hy.nil, hy.h⟩

/-- Two writers, made since W, apart. -/
structure OrW (W wr : World) (L M : List Int) : Prop where
  own : ∃ g h, WrAt wr W.heap.size W.heap.size g L ∧ WrAt wr W.heap.size (W.heap.size + 1) h M ∧ g ≠ some (W.heap.size + 1) ∧ h ≠ some W.heap.size ∧ ∀ k, g = some k → h ≠ some k
  below : Below W.heap.size W wr
theorem WrAt.base {w : World} {B C p : Nat} {g : Option Nat} {l : List Int} (h : WrAt w B p g l) (hc : C ≤ B) : WrAt w C p g l := by
  obtain ⟨v, h1, h2, h3, h4, h5⟩ := h
  refine ⟨v, h1, ⟨h2.1, ?_⟩, h3, by omega, h5⟩
  rcases h2.2 with hn | ⟨k, cap, cur, e, hbs, rest⟩
  · exact .inl hn
  · exact .inr ⟨k, cap, cur, e, by omega, rest⟩
theorem OrW.begin (W : World) : OrW W ((W.alloc (.cells #[.slice none 0 0] 49)).alloc (.cells #[.slice none 0 0] 49)) [] [] := by
  refine ⟨⟨none, none, WrAt.alloc (new_wr W) _, ?_, by simp, by simp, by simp⟩, ((Below.refl _ W).alloc (Nat.le_refl _) _).alloc (by simp) _⟩
  have := new_wr (W.alloc (.cells #[.slice none 0 0] 49))
  have h2 := this.base (C := W.heap.size) (by simp)
  simpa using h2
/-- The first writer has laid. -/
theorem OrW.one {W wr w1 : World} {g h : Option Nat} {L M L' : List Int} (h1 : WrAt wr W.heap.size W.heap.size g L) (h2 : WrAt wr W.heap.size (W.heap.size + 1) h M) (hg : g ≠ some (W.heap.size + 1)) (hh : h ≠ some W.heap.size) (hd : ∀ k, g = some k → h ≠ some k) (hb : Below W.heap.size W wr)
    (hG : WrGrown wr w1 W.heap.size W.heap.size g L') : ∃ g', WrAt w1 W.heap.size W.heap.size g' L' ∧ WrAt w1 W.heap.size (W.heap.size + 1) h M ∧ g' ≠ some (W.heap.size + 1) ∧ (∀ k, g' = some k → h ≠ some k) ∧ Below W.heap.size W w1 := by
  have hbel := hG.below h1
  obtain ⟨g', ha, hF, hn⟩ := hG
  have l1 := h1.lt
  have l2 := h2.lt
  refine ⟨g', ha, h2.frm hF ?_ (fun k hk hm => ?_), ?_, fun k hk e => ?_, hb.trans hbel⟩
  · intro hm
    simp at hm
    exact hg hm
  · simp at hm
    rcases hm with e | e
    · exact hh (by rw [hk, e])
    · exact hd k e hk
  · rcases hn with e | ⟨b, e, hb'⟩
    · rw [e]; exact hg
    · rw [e]; intro e'; have := Option.some.inj e'; omega
  · rcases hn with e' | ⟨b, e', hb'⟩
    · exact hd k (by rw [← e', hk]) e
    · rw [hk] at e'
      have : k = b := Option.some.inj e'
      have := (l2.2.2 k e).1
      omega
/-- The second one has. -/
theorem OrW.two {W wr w1 : World} {g h : Option Nat} {L M M' : List Int} (h1 : WrAt wr W.heap.size W.heap.size g L) (h2 : WrAt wr W.heap.size (W.heap.size + 1) h M) (hg : g ≠ some (W.heap.size + 1)) (hh : h ≠ some W.heap.size) (hd : ∀ k, g = some k → h ≠ some k) (hb : Below W.heap.size W wr)
    (hG : WrGrown wr w1 W.heap.size (W.heap.size + 1) h M') : OrW W w1 L M' := by
  have hbel := hG.below h2
  obtain ⟨h', ha, hF, hn⟩ := hG
  have l1 := h1.lt
  have l2 := h2.lt
  refine ⟨⟨g, h', h1.frm hF ?_ (fun k hk hm => ?_), ha, hg, ?_, fun k hk e => ?_⟩, hb.trans hbel⟩
  · intro hm
    simp at hm
    exact hh hm
  · simp at hm
    rcases hm with e | e
    · exact hg (by rw [hk, e])
    · exact hd k hk e
  · rcases hn with e | ⟨b, e, hb'⟩
    · rw [e]; exact hh
    · rw [e]; intro e'; have := Option.some.inj e'; omega
  · rcases hn with e' | ⟨b, e', hb'⟩
    · exact hd k hk (by rw [← e', e])
    · rw [e] at e'
      have : k = b := Option.some.inj e'
      have := (l1.2.2 k hk).1
      omega

section
variable {ops : Array Oper} {o : Oper} {a : Act} {w : World} {K : Act → World → Prop} {Q : Exit → Act → World → Prop} {E : Prop}
theorem step_allocT (hgd : o.guard = none) (ho : o.op = .alloc 30)
    (h : K (a.put o.dst (.pointer (some ⟨w.heap.size, 0, none⟩))) (w.alloc (.cells (default : Th).v 30))) : if Region.wanted o (yielded ops a.tmps) = true then Oper.wp Try.prog o a w K Q else E := by
  have hw : Region.wanted o (yielded ops a.tmps) = true := by simp [Region.wanted, hgd]
  rw [if_pos hw]
  unfold Oper.wp execOp
  simp only [ho, Sem.run_bind, run_allocT, Result.andThen]
  exact h
theorem step_storeT (hgd : o.guard = none) (x y : Operand) (ho : o.op = .store 30 x y) (g : Nat) (hx : a.eval x = .pointer (some ⟨g, 0, none⟩)) (z u : Th) (t : TypeId) (hy : a.eval y = .agg z.l.toArray) (hg : w.heap[g]? = some (.cells u.v t (0, 0)))
    (h : ∀ w', w'.heap[g]? = some (.cells z.v t (0, 0)) → Frm [g] w w' → K (a.put o.dst undef) w') : if Region.wanted o (yielded ops a.tmps) = true then Oper.wp Try.prog o a w K Q else E := by
  have hw : Region.wanted o (yielded ops a.tmps) = true := by simp [Region.wanted, hgd]
  rw [if_pos hw]
  refine wp_store_mid 30 x y ho g 0 z.v hx hy ?_ (by have := tszv z; rw [Th.v_size]; rwa [Th.l_length] at this) z.one (h _ ?_ (setCells_frm g _ 0 w))
  · intro j hj
    rw [Th.v_size] at hj
    refine ⟨?_, ?_⟩
    · rw [Nat.zero_add, cell_of_row w g j _ t _ hg]
      simp [Th.v_size, hj]
    · rw [Nat.zero_add]; exact frozen_of_row w g j _ t hg
  · have := setCells_at g z.v.toList 0 w [] u.v.toList t (by simpa using hg) rfl (by simp [Th.v_size])
    rw [this]
    simp [Th.v_size, List.drop_eq_nil_of_le]
end
theorem th_setK {w : World} {g : Nat} {y : Th} {t : TypeId} (k : Int) (h : w.heap[g]? = some (.cells y.v t (0, 0))) : (w.setCell ⟨g, 0, none⟩ (.int .i64 k)).heap[g]? = some (.cells ({ y with k := k } : Th).v t (0, 0)) := by
  rw [heap_setCell_same w g 0 _ t _ h]
  congr 2
theorem th_free {w : World} {g : Nat} {x : Th} {t : TypeId} (h : w.heap[g]? = some (.cells x.v t (0, 0))) (j : Nat) : w.frozen? ⟨g, j, none⟩ = false := frozen_of_row w g j _ t h
theorem th_whole {w : World} {g : Nat} {x : Th} {t : TypeId} (h : w.heap[g]? = some (.cells x.v t (0, 0))) : w.rangeAt g 0 x.l := by
  intro j v hv
  rw [Nat.zero_add]
  exact th_cell h j v hv

set_option maxHeartbeats 400000 in
theorem compare_any (l s : Bool) (w : World) : Calls Try.prog 18 #[.bool l, .bool s] w fun e w' => e = .returned (.int .i64 (cmpv l s)) ∧ w' = w := by
  cases l <;> cases s <;>
  · go_enter Try.func18, Try.ntmps18
    go_wp2
    go_ret
    exact ⟨rfl, rfl⟩
/-- Within a round: the two variables, laid since. -/
structure OrV (wr w' : World) (gx gy : Nat) (x y : Th) : Prop where
  below : Below wr.heap.size wr w'
  hx : w'.heap[gx]? = some (.cells x.v 30 (0, 0))
  hy : w'.heap[gy]? = some (.cells y.v 30 (0, 0))
  ne : gx ≠ gy
  gex : wr.heap.size ≤ gx
  gey : wr.heap.size ≤ gy
theorem OrV.setK {wr w' : World} {gx gy : Nat} {x y : Th} (h : OrV wr w' gx gy x y) (k : Int) : OrV wr (w'.setCell ⟨gy, 0, none⟩ (.int .i64 k)) gx gy x { y with k := k } :=
  ⟨Below.setCell h.below h.gey _, ((Frm.refl [gy] w').setCell _ _ (by simp)).heap h.hx (by have := h.ne; simpa using this), th_setK k h.hy, h.ne, h.gex, h.gey⟩
theorem OrV.copy {wr w' w2 : World} {gx gy : Nat} {x y : Th} (h : OrV wr w' gx gy x y) (hF : Frm [gy] w' w2) (hy : w2.heap[gy]? = some (.cells x.v 30 (0, 0))) : OrV wr w2 gx gy x x :=
  ⟨h.below.trans (hF.below h.below.size (by have := h.gey; simpa using this)), hF.heap h.hx (by have := h.ne; simpa using this), hy, h.ne, h.gex, h.gey⟩
/-- Whatever the writers lay, the variables stay. -/
theorem or_keep {W wr w1 w2 : World} {gx gy p : Nat} {g : Option Nat} {x y : Th} {l : List Int} (hx : w1.heap[gx]? = some (.cells x.v 30 (0, 0))) (hy : w1.heap[gy]? = some (.cells y.v 30 (0, 0))) (gex : wr.heap.size ≤ gx) (gey : wr.heap.size ≤ gy) (hw : WrAt wr W.heap.size p g l) (hF : Frm (p :: g.toList) w1 w2) :
    w2.heap[gx]? = some (.cells x.v 30 (0, 0)) ∧ w2.heap[gy]? = some (.cells y.v 30 (0, 0)) := by
  have hlt := hw.lt
  refine ⟨hF.heap hx ?_, hF.heap hy ?_⟩
  · intro hm
    simp at hm
    rcases hm with e | e
    · omega
    · have := (hlt.2.2 _ e).1; omega
  · intro hm
    simp at hm
    rcases hm with e | e
    · omega
    · have := (hlt.2.2 _ e).1; omega
theorem oth_len {X Y : Nat → Th} {at_ : Int} {i c : Nat} (hx : (X i).len ≤ c) (hy : (Y i).len ≤ c) : (oth X Y at_ i).len ≤ c := by
  unfold oth
  split
  · exact hx
  · exact hy
theorem WrAt.keepB {w w' : World} {B p : Nat} {g : Option Nat} {l : List Int} (h : WrAt w B p g l) (hb : Below w.heap.size w w') : WrAt w' B p g l := h.frm (S := []) (Frm.ofBelow hb) (by simp) (fun _ _ => by simp)
theorem WrGrown.frm {w w' : World} {B p : Nat} {g : Option Nat} {l : List Int} (h : WrGrown w w' B p g l) : Frm (p :: g.toList) w w' := by
  obtain ⟨_, _, h, _⟩ := h; exact h
theorem ThOk.apart2 {W wr : World} {p : Nat} {g : Option Nat} {l : List Int} {x : Th} (h : ThOk W x) (hw : WrAt wr W.heap.size p g l) : ∀ b off, 0 < x.len → x.a = some ⟨b, off, none⟩ → some b ≠ g := by
  intro b off hn e hg
  have h1 := h.b.lt hn e
  have h2 := (hw.lt.2.2 b hg.symm).2
  omega
theorem or_whole {w : World} {gx gy : Nat} {x y : Th} (h : w.heap[gx]? = some (.cells x.v 30 (0, 0)) ∧ w.heap[gy]? = some (.cells y.v 30 (0, 0))) : w.rangeAt gx 0 x.l ∧ w.rangeAt gy 0 y.l := ⟨th_whole h.1, th_whole h.2⟩
theorem OrW.keep {W wr w' : World} {L M : List Int} (h : OrW W wr L M) (hb : Below wr.heap.size wr w') : OrW W w' L M := by
  obtain ⟨⟨g, k, h1, h2, h3, h4, h5⟩, hbl⟩ := h
  exact ⟨⟨g, k, h1.frm (S := []) (Frm.ofBelow hb) (by simp) (fun _ _ => by simp), h2.frm (S := []) (Frm.ofBelow hb) (by simp) (fun _ _ => by simp), h3, h4, h5⟩, Below.transS hbl hb⟩
theorem cmpv_sgn (n m : Int) : cmpv (decide (n < m)) (n == m) = sgn n m := by
  unfold cmpv sgn
  by_cases h : n = m
  · subst h; simp
  · by_cases h2 : n < m
    · simp [h, h2]
    · have : m < n := by omega
      simp [h, h2, this]
theorem cmpv_u {n m : Int} (hn : -9223372036854775808 ≤ n ∧ n ≤ 9223372036854775807) (hm : -9223372036854775808 ≤ m ∧ m ≤ 9223372036854775807) : cmpv (decide (IntKind.u64.wrap n < IntKind.u64.wrap m)) (n == m) = sgn (IntKind.u64.wrap n) (IntKind.u64.wrap m) := by
  have e : (n == m) = (IntKind.u64.wrap n == IntKind.u64.wrap m) := by
    by_cases h : n = m
    · subst h; simp
    · have : ¬ IntKind.u64.wrap n = IntKind.u64.wrap m := by
        have e1 : IntKind.u64.wrap n = n % 18446744073709551616 := by simp [IntKind.wrap, IntKind.bits, IntKind.signed]
        have e2 : IntKind.u64.wrap m = m % 18446744073709551616 := by simp [IntKind.wrap, IntKind.bits, IntKind.signed]
        rw [e1, e2]
        omega
      rw [beq_eq_false_iff_ne.2 h, beq_eq_false_iff_ne.2 this]
  rw [e]
  exact cmpv_sgn _ _
theorem strB_list (z : Nat → Int) (n : Nat) : (strB z n).toList = toU (lB z n) := by
  rw [Lib.toList_data]
  simp [strB, toU, lB]
theorem or_eq {z y : Nat → Int} (hz : ∀ j, j < 32 → 0 ≤ z j ∧ z j ≤ 255) (hy : ∀ j, j < 32 → 0 ≤ y j ∧ y j ≤ 255) (w : World) :
    (Op.equalIn 10000 28 (.agg (bl z 32).toArray) (.agg (bl y 32).toArray)).run Try.prog w = .ok (hq z y) w := by
  have h1 : (bl z 32).toArray = hv z := rfl
  have h2 : (bl y 32).toArray = hv y := rfl
  rw [h1, h2, hv_ub hz, hv_ub hy]
  exact run_equalIn_bytes w 9998 28 5 32 Try.underlying28 Try.underlying5 hsz1 (ub z) (ub y) (by simp [ub]) (by simp [ub])
theorem th_sum {w : World} {g : Nat} {x : Th} (h : w.heap[g]? = some (.cells x.v 30 (0, 0))) (hz : ∀ j, j < 32 → 0 ≤ x.h j ∧ x.h j ≤ 255) : SlAt w (some ⟨g, 3, none⟩) 32 x.h :=
  ⟨hz, fun _ => ⟨g, 3, rfl, fun j hj => th_range h j _ (bl_at hj)⟩⟩
theorem or_sums {w : World} {gx gy : Nat} {x y : Th} (h : w.heap[gx]? = some (.cells x.v 30 (0, 0)) ∧ w.heap[gy]? = some (.cells y.v 30 (0, 0))) (hx : ∀ j, j < 32 → 0 ≤ x.h j ∧ x.h j ≤ 255) (hy : ∀ j, j < 32 → 0 ≤ y.h j ∧ y.h j ≤ 255) :
    w.rangeAt gx 3 (bl x.h 32) ∧ w.rangeAt gy 3 (bl y.h 32) ∧ (convert 25 9 (.slice (some ⟨gx, 3, none⟩) 32 32)).run Try.prog w = .ok (.string (strB x.h 32)) w ∧ (convert 25 9 (.slice (some ⟨gy, 3, none⟩) 32 32)).run Try.prog w = .ok (.string (strB y.h 32)) w :=
  ⟨th_range h.1, th_range h.2, conv_any _ _ _ _ _ (th_sum h.1 hx) (fun e => by cases e), conv_any _ _ _ _ _ (th_sum h.2 hy) (fun e => by cases e)⟩
theorem hq_toU (z y : Nat → Int) : hq z y = (toU (lB z 32) == toU (lB y 32)) := by
  have h : ∀ u, ub u = toU (lB u 32) := fun u => by simp only [ub, toU, lB, List.map_map]; rfl
  rw [hq, h, h]
end Go.Proofs.Ytmgjipemgdgjdaa
