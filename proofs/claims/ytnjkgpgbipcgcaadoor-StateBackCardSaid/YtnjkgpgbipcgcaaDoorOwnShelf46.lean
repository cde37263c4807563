/- state.readPay: a payment taken off. -/
import Derived.Test.YtnjkgpgbipcgcaaDoorOwnShelf39
import Derived.Test.YtnjkgpgbipcgcaaDoorOwnShelf45
namespace Go.Proofs.YtnjkgpgbipcgcaaDoor
open Go.RowKit

/-- A payment taken off. -/
def pyS (q : Option (List Int)) : Py × Option (List Int) :=
  (⟨(numS q).1, (numS (numS q).2).1, (numS (numS (numS q).2).2).1, (numS (numS (numS (numS q).2).2).2).1, (hshS (numS (numS (numS (numS q).2).2).2).2).1⟩, (hshS (numS (numS (numS (numS q).2).2).2).2).2)
theorem build_P5 (a b c d : Int) (z : Nat → Int) (w : World) : (Instr.build 44 #[(0, .int .i64 a), (1, .int .i64 b), (2, .int .i64 c), (3, .int .i64 d), (4, .agg (hv z))]).run Tryd.prog w = .ok (.agg (pyv ⟨a, b, c, d, z⟩)) w := by kernel_rfl
section
variable {ops : Array Oper} {rest : List Oper} {o : Oper} {a : Act} {w : World} {Q : Exit → Act → World → Prop}
theorem wpList_buildP5 (hgd : o.guard = none) (x0 x1 x2 x3 x4 : Operand) (ho : o.op = .build 44 #[(0, x0), (1, x1), (2, x2), (3, x3), (4, x4)]) (b c d e : Int) (z : Nat → Int)
    (h0 : a.eval x0 = .int .i64 b) (h1 : a.eval x1 = .int .i64 c) (h2 : a.eval x2 = .int .i64 d) (h3 : a.eval x3 = .int .i64 e) (h4 : a.eval x4 = .agg (hv z))
    (h : wpList Tryd.prog ops Q rest (a.put o.dst (.agg (pyv ⟨b, c, d, e, z⟩))) w) : wpList Tryd.prog ops Q (o :: rest) a w := by
  refine wpList_plain hgd fun K hK => ?_
  unfold Oper.wp execOp
  simp only [ho, List.map_toArray, List.map_cons, List.map_nil, h0, h1, h2, h3, h4, Sem.run_bind, build_P5, Result.andThen]
  exact hK _ _ h
end
set_option maxRecDepth 100000 in
set_option maxHeartbeats 1600000 in
theorem rdPay_any (rb : Nat) (q : Option (List Int)) (w : World) (h : RS w rb q) :
    Calls Tryd.prog 44 #[.pointer (some ⟨rb, 0, none⟩)] w fun e w' => e = .returned (.agg (pyv (pyS q).1)) ∧ Frm [rb] w w' ∧ RS w' rb (pyS q).2 ∧ Zb (pyS q).1.lk := by
  have hrb := h.lt
  have hb0 : Below w.heap.size w (w.alloc (.cells (pyv p0) 44)) := (Below.refl _ w).alloc (Nat.le_refl _) _
  have h0 := h.keep hb0
  have hp0 : (w.alloc (.cells (pyv p0) 44)).heap[w.heap.size]? = some (.cells (pyv p0) 44 (0, 0)) := heap_alloc_new w _
  unfold pyS
  dsimp only
  obtain ⟨x1, e1⟩ : ∃ x, numS q = x := ⟨_, rfl⟩
  rw [e1]
  obtain ⟨x2, e2⟩ : ∃ x, numS x1.2 = x := ⟨_, rfl⟩
  rw [e2]
  obtain ⟨x3, e3⟩ : ∃ x, numS x2.2 = x := ⟨_, rfl⟩
  rw [e3]
  obtain ⟨x4, e4⟩ : ∃ x, numS x3.2 = x := ⟨_, rfl⟩
  rw [e4]
  obtain ⟨x5, e5⟩ : ∃ x, hshS x4.2 = x := ⟨_, rfl⟩
  rw [e5]
  have E1 : Hid (numS q = x1) := e1
  have E2 : Hid (numS x1.2 = x2) := e2
  have E3 : Hid (numS x2.2 = x3) := e3
  have E4 : Hid (numS x3.2 = x4) := e4
  have E5 : Hid (hshS x4.2 = x5) := e5
  clear e1 e2 e3 e4 e5
  go_enter Tryd.func44, Tryd.ntmps44
  go_wp2_with (first | (refine wpList_allocP rfl rfl ?_) | fail)
  generalize w.alloc (.cells (pyv p0) 44) = W0 at *
  have HF0 : Hid (Frm [rb] w W0 ∧ W0.heap[w.heap.size]? = some (.cells (pyv p0) 44 (0, 0))) := ⟨Frm.ofBelow hb0, hp0⟩
  clear hb0 hp0 h
  have k1 := snum_any rb q W0 h0
  rw [E1.out] at k1
  refine k1.mono ?_
  rintro e w1 ⟨rfl, hF1, h1⟩
  clear k1
  clear h0
  go_wp2_with fail
  have k2 := snum_any rb x1.2 w1 h1
  rw [E2.out] at k2
  refine k2.mono ?_
  rintro e w2 ⟨rfl, hF2, h2⟩
  clear k2
  clear h1
  go_wp2_with fail
  have k3 := snum_any rb x2.2 w2 h2
  rw [E3.out] at k3
  refine k3.mono ?_
  rintro e w3 ⟨rfl, hF3, h3⟩
  clear k3
  clear h2
  go_wp2_with fail
  have k4 := snum_any rb x3.2 w3 h3
  rw [E4.out] at k4
  refine k4.mono ?_
  rintro e w4 ⟨rfl, hF4, h4⟩
  clear k4
  clear h3
  go_wp2_with fail
  have hz := hshS_bd h4.by
  have k5 := hash_rs rb x4.2 w4 h4
  rw [E5.out] at k5 hz
  refine k5.mono ?_
  rintro e w5 ⟨rfl, hF5, h5⟩
  clear k5
  clear h4
  have hF : Frm [rb] W0 w5 := (((hF1.trans hF2).trans hF3).trans hF4).trans hF5
  have hp5 : w5.heap[w.heap.size]? = some (.cells (pyv p0) 44 (0, 0)) := hF.heap HF0.out.2 (by simp; omega)
  have HF : Hid (Frm [rb] w w5) := HF0.out.1.trans hF
  have H5 : Hid (RS w5 rb x5.2 ∧ Zb x5.1) := ⟨h5, hz⟩
  clear hF1 hF2 hF3 hF4 hF5 hF HF0 h5 hz
  go_wp2_with (first | (refine wpList_buildP5 rfl _ _ _ _ _ rfl x1.1 x2.1 x3.1 x4.1 x5.1 rfl rfl rfl rfl rfl ?_) | (refine wpList_storeP _ szP rfl _ _ rfl w.heap.size rfl ⟨x1.1, x2.1, x3.1, x4.1, x5.1⟩ p0 44 rfl hp5 ?_; intro w6 hg6 hf6) | fail)
  have hfr : Frm [rb] w w6 := (HF.out.mono (T := [rb, w.heap.size]) (by simp)).trans (hf6.mono (by simp)) |>.old (fun k hk hlt => by simp at hk ⊢; omega)
  refine bodyPost_ret (results_cell_row Tryd.results44 _ _ w.heap.size 44 _ (0, 0) _ rfl hg6 Tryd.underlying44 rfl (szPv _)) rfl ⟨rfl, hfr, H5.out.1.frm hf6 (fun k hk => by simp at hk; omega), H5.out.2⟩
end Go.Proofs.YtnjkgpgbipcgcaaDoor
/- state.readHold: a hold taken off. -/
namespace Go.Proofs.YtnjkgpgbipcgcaaDoor
open Go.RowKit

theorem cntS_bd {q : Option (List Int)} {most : Int} (h : ByQ q) (hm : 0 ≤ most) : 0 ≤ (cntS most q).1 ∧ (cntS most q).1 ≤ most := by
  unfold cntS tk
  cases q with
  | none => simp; exact hm
  | some l =>
    dsimp only [countR]
    by_cases hE : cE l.length (fn l) most = 0
    · rw [if_pos hE]
      dsimp only
      have hu := cE_u hE
      have hmx : max most 0 = most := by omega
      rw [hmx] at hu
      have : uintR most l = some (uV l.length (fn l) most, l.drop (uN l.length (fn l) most)) := by unfold uintR; rw [if_pos hu]
      have := uintR_bd (h l rfl) this
      rw [cV, if_pos hE, hmx]
      exact this
    · rw [if_neg hE]; simp; exact hm
/-- What is left behind j numbers. -/
def stN (q : Option (List Int)) : Nat → Option (List Int)
  | 0 => q
  | j + 1 => (numS (stN q j)).2
/-- A hold taken off. -/
def hdS (q : Option (List Int)) : Hd × Option (List Int) :=
  (⟨(numS q).1, (numS (numS q).2).1, (cntS 16 (numS (numS q).2).2).1.toNat, fun j => (numS (stN (cntS 16 (numS (numS q).2).2).2 j)).1⟩, stN (cntS 16 (numS (numS q).2).2).2 (cntS 16 (numS (numS q).2).2).1.toNat)
theorem kL_push (a b : Int) (j : Nat) (z : Nat → Int) : kL ⟨a, b, j, z⟩ ++ [.int .i64 (z j)] = kL ⟨a, b, j + 1, z⟩ := by simp [kL, List.range_succ]
theorem slice_k (x : Int) (w : World) : (Instr.buildSlice 34 1 #[(0, .int .i64 x)]).run Tryd.prog w = .ok (.slice (some ⟨w.heap.size, 0, none⟩) 1 1) (w.alloc (.cells #[.int .i64 x] 3)) := by kernel_rfl
theorem run_append_K (w : World) (B q : Nat) (ty : TypeId) (v : Value) (i : Nat) (xs : List Value) (y : Int) (hown : w.ownsRow B 3 1 v i xs) (hB : B ≤ w.heap.size) (hq : w.heap[q]? = some (.cells #[.int .i64 y] 3 (0, 0))) (hi : i ≤ 1000000) :
    ∃ va vc w1, (Builtin.append_ #[34, 34] ty #[v, .slice (some ⟨q, 0, none⟩) 1 1]).run Tryd.prog w = .ok (.slice va (i + 1) vc) w1 ∧ w1.ownsRow B 3 1 (.slice va (i + 1) vc) (i + 1) (xs ++ [.int .i64 y]) ∧ w.grownBy w1 v.ownBlock := by
  obtain ⟨i0, hi0, hz0, hz1, hz2⟩ := info_parts infoI
  obtain ⟨v', w1, hr, h2, h3, _, h5⟩ := run_append_own_at (P := Tryd.prog) w B 34 ty 3 i0 (.int .i64 0) 1 8 Tryd.underlying34 hi0 hz0 hz1 hz2 rfl (by omega) v i xs hown ⟨q, 0, none⟩ 1 1 [.int .i64 y] rfl (fun j u hj => by
      rw [Addr.add_lit, Nat.zero_add, cell_of_row _ _ j _ _ _ hq]
      simpa using hj) (fun u hu => by rw [List.mem_singleton.1 hu]; rfl) (by unfold maxLen; omega) (by omega) hB
  obtain ⟨va, vc, rfl, _, _⟩ := own_frmV h2
  exact ⟨va, vc, w1, hr, h2, h3⟩
section
variable {ops : Array Oper} {o : Oper} {a : Act} {w : World} {K : Act → World → Prop} {Q : Exit → Act → World → Prop} {E : Prop}
theorem step_sliceK (hgd : o.guard = none) (x : Operand) (ho : o.op = .buildSlice 34 1 #[(0, x)]) (v : Int) (hx : a.eval x = .int .i64 v)
    (h : K (a.put o.dst (.slice (some ⟨w.heap.size, 0, none⟩) 1 1)) (w.alloc (.cells #[.int .i64 v] 3))) : if Region.wanted o (yielded ops a.tmps) = true then Oper.wp Tryd.prog o a w K Q else E := by
  have hw : Region.wanted o (yielded ops a.tmps) = true := by simp [Region.wanted, hgd]
  rw [if_pos hw]
  unfold Oper.wp execOp
  simp only [ho, List.map_toArray, List.map_cons, List.map_nil, hx, Sem.run_bind, slice_k, Result.andThen]
  exact h
theorem step_append_K (hgd : o.guard = none) (s x : Operand) (ho : o.op = .call { callee := .builtin .append, args := #[s, x], argTypes := #[34, 34] })
    (B q : Nat) (v : Value) (i : Nat) (xs : List Value) (y : Int) (hs : a.eval s = v) (hx : a.eval x = .slice (some ⟨q, 0, none⟩) 1 1) (hown : w.ownsRow B 3 1 v i xs) (hB : B ≤ w.heap.size) (hq : w.heap[q]? = some (.cells #[.int .i64 y] 3 (0, 0))) (hi : i ≤ 1000000)
    (h : ∀ va vc w1, w1.ownsRow B 3 1 (.slice va (i + 1) vc) (i + 1) (xs ++ [.int .i64 y]) → w.grownBy w1 v.ownBlock → K (a.put o.dst (.slice va (i + 1) vc)) w1) : if Region.wanted o (yielded ops a.tmps) = true then Oper.wp Tryd.prog o a w K Q else E := by
  have hw : Region.wanted o (yielded ops a.tmps) = true := by simp [Region.wanted, hgd]
  rw [if_pos hw]
  obtain ⟨va, vc, w1, hr, h2, h3⟩ := run_append_K w B q o.type v i xs y hown hB hq hi
  unfold Oper.wp execOp
  simp only [ho, resolve, invoke, builtin, Sem.run_bind, Sem.run_pure, Result.andThen_ok, List.map_toArray, List.map_cons, List.map_nil, hs, hx, hr]
  exact h va vc w1 h2 h3
end
/-- A hold on the way: j of its keys are there; block g is the variable. -/
structure RhS (w wr : World) (rb g : Nat) (a b : Int) (q : Option (List Int)) (ka : Option Addr) (kc j : Nat) : Prop where
  frm : Frm [rb] w wr
  lt : w.heap.size < g
  res : wr.heap[w.heap.size]? = some (.cells #[.int .i64 0, .int .i64 0, .slice none 0 0] 48 (0, 0))
  box : wr.heap[g]? = some (.cells #[.int .i64 a, .int .i64 b, .slice ka j kc] 48 (0, 0))
  own : wr.ownsRow (g + 1) 3 1 (.slice ka j kc) j (kL ⟨a, b, j, fun i => (numS (stN q i)).1⟩)
  rs : RS wr rb (stN q j)
theorem RhS.big {w wr : World} {rb g : Nat} {a b : Int} {q : Option (List Int)} {ka : Option Addr} {kc j : Nat} (h : RhS w wr rb g a b q ka kc j) : g + 1 ≤ wr.heap.size := lt_of_block h.box
/-- What a row of one's own is, where no block of it is turned. -/
theorem own_frm {S : List Nat} {w w' : World} {B T k n : Nat} {v : Value} {xs : List Value} (h : w.ownsRow B T k v n xs) (hf : Frm S w w') (hS : ∀ k, k ∈ S → k < B) : w'.ownsRow B T k v n xs :=
  own_keep h fun g e => hf.block g (h.lt g e).2 (fun hk => by have := hS g hk; have := (h.lt g e).1; omega)
/-- All blocks but the row's own are kept. -/
theorem RhS.push {w w1 w2 : World} {rb g : Nat} {a b : Int} {q : Option (List Int)} {ka va : Option Addr} {kc vc j : Nat} (hrb : rb < w.heap.size) (lt : w.heap.size < g) (frm : Frm [rb] w w1) (res : w1.heap[w.heap.size]? = some (.cells #[.int .i64 0, .int .i64 0, .slice none 0 0] 48 (0, 0)))
    (box : w1.heap[g]? = some (.cells #[.int .i64 a, .int .i64 b, .slice ka j kc] 48 (0, 0))) (own : w1.ownsRow (g + 1) 3 1 (.slice ka j kc) j (kL ⟨a, b, j, fun i => (numS (stN q i)).1⟩)) (rs : RS w1 rb (stN q (j + 1)))
    (hown : w2.ownsRow (g + 1) 3 1 (.slice va (j + 1) vc) (j + 1) (kL ⟨a, b, j, fun i => (numS (stN q i)).1⟩ ++ [.int .i64 (numS (stN q j)).1])) (hg : w1.grownBy w2 (Value.slice ka j kc).ownBlock) :
    RhS w (w2.setCell ⟨g, 2, none⟩ (.slice va (j + 1) vc)) rb g a b q va vc (j + 1) := by
  have hbig : g + 1 ≤ w1.heap.size := lt_of_block box
  have hl := grown_low own hg hbig
  have hs : ∀ k, k ≠ g → (w2.setCell ⟨g, 2, none⟩ (.slice va (j + 1) vc)).heap[k]? = w2.heap[k]? := fun k hk => Below.heap_setCell _ _ _ _ (by exact hk)
  refine ⟨?_, lt, ?_, ?_, ?_, ?_⟩
  · refine ⟨hg.os.trans frm.os, hg.tape.trans frm.tape, hg.output.trans frm.output, ?_, fun k hk hk2 => ?_⟩
    · have := hg.size; have := frm.size; simpa [World.setCell] using (by omega : w.heap.size ≤ w2.heap.size)
    · rw [hs _ (by omega), hl _ (by omega)]; exact frm.block k hk hk2
  · rw [hs _ (by omega), hl _ (by omega)]; exact res
  · exact three_set2 (by rw [hl _ (by omega)]; exact box)
  · rw [kL_push a b j (fun i => (numS (stN q i)).1)] at hown
    exact own_keep hown fun g' e => hs g' (by have := (hown.lt g' e).1; omega)
  · exact rs.upto (fun k hk => by rw [hs _ (by omega), hl _ (by omega)])
end Go.Proofs.YtnjkgpgbipcgcaaDoor
/- state.readHold: the walk. -/
namespace Go.Proofs.YtnjkgpgbipcgcaaDoor
open Go.RowKit

set_option maxRecDepth 100000 in
set_option maxHeartbeats 3200000 in
theorem rdHold_any (rb : Nat) (q : Option (List Int)) (w : World) (h : RS w rb q) :
    Calls Tryd.prog 45 #[.pointer (some ⟨rb, 0, none⟩)] w fun e w' => ∃ ka kc, e = .returned (.agg (hdv (hdS q).1 ka kc)) ∧ Frm [rb] w w' ∧ RS w' rb (hdS q).2 ∧ w'.ownsRow w.heap.size 3 1 (.slice ka (hdS q).1.n kc) (hdS q).1.n (kL (hdS q).1) := by
  have hrb := h.lt
  have hb0 : Below w.heap.size w (w.alloc (.cells #[.int .i64 0, .int .i64 0, .slice none 0 0] 48)) := (Below.refl _ w).alloc (Nat.le_refl _) _
  have h0 := h.keep hb0
  have hp0 : (w.alloc (.cells #[.int .i64 0, .int .i64 0, .slice none 0 0] 48)).heap[w.heap.size]? = some (.cells #[.int .i64 0, .int .i64 0, .slice none 0 0] 48 (0, 0)) := heap_alloc_new w _
  have hs0 : (w.alloc (.cells #[.int .i64 0, .int .i64 0, .slice none 0 0] 48)).heap.size = w.heap.size + 1 := by simp
  unfold hdS
  dsimp only
  obtain ⟨x1, e1⟩ : ∃ x, numS q = x := ⟨_, rfl⟩
  rw [e1]
  obtain ⟨x2, e2⟩ : ∃ x, numS x1.2 = x := ⟨_, rfl⟩
  rw [e2]
  obtain ⟨x3, e3⟩ : ∃ x, cntS 16 x2.2 = x := ⟨_, rfl⟩
  rw [e3]
  have E1 : Hid (numS q = x1) := e1
  have E2 : Hid (numS x1.2 = x2) := e2
  have E3 : Hid (cntS 16 x2.2 = x3) := e3
  clear e1 e2 e3
  unfold hdv
  dsimp only
  go_enter Tryd.func45, Tryd.ntmps45
  go_wp2_with fail
  generalize w.alloc (.cells #[.int .i64 0, .int .i64 0, .slice none 0 0] 48) = W0 at *
  have k1 := snum_any rb q W0 h0
  rw [E1.out] at k1
  refine k1.mono ?_
  rintro e w1 ⟨rfl, hF1, h1⟩
  clear k1
  go_wp2_with fail
  have k2 := snum_any rb x1.2 w1 h1
  rw [E2.out] at k2
  refine k2.mono ?_
  rintro e w2 ⟨rfl, hF2, h2⟩
  clear k2
  have hF : Frm [rb] W0 w2 := hF1.trans hF2
  have hp2 : w2.heap[w.heap.size]? = some (.cells #[.int .i64 0, .int .i64 0, .slice none 0 0] 48 (0, 0)) := hF.heap hp0 (by simp; omega)
  have hFw : Frm [rb] w w2 := (Frm.ofBelow hb0).trans hF
  have hs2 : w.heap.size + 1 ≤ w2.heap.size := by have := hF.size; omega
  have hxb := cntS_bd (most := 16) h2.by (by decide)
  rw [E3.out] at hxb
  obtain ⟨m, hm⟩ : ∃ m : Nat, x3.1 = m := ⟨x3.1.toNat, by omega⟩
  have hm16 : m ≤ 16 := by omega
  have HM : Hid (x3.1.toNat = m) := by rw [hm]; rfl
  clear hF1 hF2 hF h0 h1 hb0 hp0 hs0 h hxb
  have HH : Hid (Frm [rb] w w2 ∧ w2.heap[w.heap.size]? = some (.cells #[.int .i64 0, .int .i64 0, .slice none 0 0] 48 (0, 0)) ∧ w.heap.size + 1 ≤ w2.heap.size ∧ RS w2 rb x2.2) := ⟨hFw, hp2, hs2, h2⟩
  clear hFw hp2 hs2 h2
  go_wp2_with fail
  have hb3 : Below w2.heap.size w2 (w2.alloc (.cells #[.int .i64 x1.1, .int .i64 x2.1, .slice none 0 0] 48)) := (Below.refl _ _).alloc (Nat.le_refl _) _
  have hp3 : (w2.alloc (.cells #[.int .i64 x1.1, .int .i64 x2.1, .slice none 0 0] 48)).heap[w2.heap.size]? = some (.cells #[.int .i64 x1.1, .int .i64 x2.1, .slice none 0 0] 48 (0, 0)) := heap_alloc_new w2 _
  have k3 := count_rs rb 16 x2.2 _ (HH.out.2.2.2.keep hb3) (by decide)
  rw [E3.out, hm] at k3
  generalize w2.alloc (.cells #[.int .i64 x1.1, .int .i64 x2.1, .slice none 0 0] 48) = W3 at *
  refine k3.mono ?_
  rintro e w3 ⟨rfl, hF3, h3⟩
  clear k3
  have hl2 : w.heap.size < w2.heap.size := HH.out.2.2.1
  have hg0 : RhS w w3 rb w2.heap.size x1.1 x2.1 x3.2 none 0 0 := by
    refine ⟨(HH.out.1.trans (Frm.ofBelow hb3)).trans hF3, hl2, hF3.heap ?_ (by simp; omega), hF3.heap hp3 (by simp; omega), World.ownsRow_nil _ _ _ _, h3⟩
    rw [hb3.block _ hl2]
    exact HH.out.2.1
  clear hb3 hp3 hF3 h3 HH
  generalize w2.heap.size = g at *
  clear hm
  go_wp2_with fail
  go_loopw [11] (fun iv wr => ∃ (j : Nat) (ka : Option Addr) (kc : Nat), j ≤ m ∧ iv = .int .i64 j ∧ RhS w wr rb g x1.1 x2.1 x3.2 ka kc j) (fun iv _ => m + 1 - (intOf iv).toNat)
  case atStart => exact ⟨0, none, 0, by omega, rfl, hg0⟩
  case round =>
    clear hg0
    obtain ⟨j, ka, kc, hj, rfl, hG⟩ := hrel
    have HG : Hid (RhS w wr rb g x1.1 x2.1 x3.2 ka kc j) := hG
    have hbig := hG.big
    clear hG
    by_cases hlt : j < m
    · have hlt' : (j : Int) < m := by omega
      have c2 : wr.cell? ⟨g, 2, none⟩ = some (.slice ka j kc) := by rw [cell_of_row _ _ 2 _ _ _ HG.out.box]; rfl
      have hf2 : ∀ o, wr.frozen? ⟨g, o, none⟩ = false := fun o => frozen_of_row _ _ o _ _ HG.out.box
      have S0 : wr.drew.cell? ⟨g, 2, none⟩ = some (.slice ka j kc) := c2
      have HRd : Hid (RS wr.drew rb (stN x3.2 j)) := HG.out.rs.upto (fun _ _ => rfl)
      go_wp2_with fail
      refine wp_region_noPanic ?_
      refine wp_region_K (S := fun w' => w'.cell? ⟨g, 2, none⟩ = some (.slice ka j kc)) 7 (by kernel_rfl) S0 (fun hHeld => ?_)
      generalize hWd : wr.drew = Wd at *
      refine wpAnyK_take (by kernel_rfl) (i := 0) (oi := { dst := some 13, op := Go.Op.fieldAddr 48 (Go.Operand.tmp 3) 2, type := 0, pos := "state.go:337", after := #[], guard := none }) (v := ?_) rfl (by kernel_rfl) (by kernel_rfl) (by kernel_rfl) (fun _ _ _ h => h) (Or.inl ⟨by rfl, ?_⟩) (by assumption) ?_
      rotate_left
      · intro wz hSw; (try dsimp only at hSw); go_simp; (try with_reducible rfl)
      try simp only [Act.put, List.setIfInBounds_toArray, List.set_cons_zero, List.set_cons_succ]
      refine wpAnyK_take (by kernel_rfl) (i := 1) (oi := { dst := some 14, op := Go.Op.load 34 (Go.Operand.tmp 13), type := 34, pos := "state.go:337", after := #[{ on := 0, ground := Go.Ground.data }], guard := none }) (v := ?_) rfl (by kernel_rfl) (by kernel_rfl) (by kernel_rfl) (fun _ _ _ h => h) (Or.inl ⟨by rfl, ?_⟩) (by assumption) ?_
      rotate_left
      · intro wz hSw; (try dsimp only at hSw); go_simp; (try with_reducible rfl)
      try simp only [Act.put, List.setIfInBounds_toArray, List.set_cons_zero, List.set_cons_succ]
      refine wpAnyK_take (by kernel_rfl) (i := 2) (oi := { dst := some 15, op := Go.Op.move (Go.Operand.tmp 0), type := 88, pos := "state.go:337", after := #[], guard := none }) (v := ?_) rfl (by kernel_rfl) (by kernel_rfl) (by kernel_rfl) (fun _ _ _ h => h) (Or.inl ⟨by rfl, ?_⟩) (by assumption) ?_
      rotate_left
      · intro wz hSw; (try dsimp only at hSw); go_simp; (try with_reducible rfl)
      try simp only [Act.put, List.setIfInBounds_toArray, List.set_cons_zero, List.set_cons_succ]
      refine wpAnyK_ready (rs := [3]) (by kernel_rfl) (by simp) ?_
      refine (AllReadyK.cons (o := { dst := some 16, op := Go.Op.call { callee := Go.Callee.value (Go.Operand.func 42), args := #[Go.Operand.tmp 15], argTypes := #[88] }, type := 3, pos := "state.go:337", after := #[{ on := 2, ground := Go.Ground.data }], guard := none }) rfl (fun K hK => ?_) AllReadyK.nil)
      go_simp
      refine (snum_any rb (stN x3.2 j) Wd HRd.out).mono ?_
      rintro e w5 ⟨rfl, hF5, h5⟩
      have hF0 : Frm [rb] w Wd := by subst hWd; exact ⟨HG.out.frm.os, HG.out.frm.tape, HG.out.frm.output, HG.out.frm.size, HG.out.frm.block⟩
      have hlg := HG.out.lt
      have hres5 : w5.heap[w.heap.size]? = some (.cells #[.int .i64 0, .int .i64 0, .slice none 0 0] 48 (0, 0)) := hF5.heap (by subst hWd; exact HG.out.res) (by simp; omega)
      have hbox5 : w5.heap[g]? = some (.cells #[.int .i64 x1.1, .int .i64 x2.1, .slice ka j kc] 48 (0, 0)) := hF5.heap (by subst hWd; exact HG.out.box) (by simp; omega)
      have hown5 : w5.ownsRow (g + 1) 3 1 (.slice ka j kc) j (kL ⟨x1.1, x2.1, j, fun i => (numS (stN x3.2 i)).1⟩) := own_frm (own_keep HG.out.own fun g' _ => by subst hWd; rfl) hF5 (fun k hk => by simp at hk; omega)
      have S5 : w5.cell? ⟨g, 2, none⟩ = some (.slice ka j kc) := by rw [cell_of_row _ _ 2 _ _ _ hbox5]; rfl
      have H5 : Hid (Frm [rb] w w5 ∧ RS w5 rb (numS (stN x3.2 j)).2 ∧ w5.heap[w.heap.size]? = some (.cells #[.int .i64 0, .int .i64 0, .slice none 0 0] 48 (0, 0)) ∧ w5.heap[g]? = some (.cells #[.int .i64 x1.1, .int .i64 x2.1, .slice ka j kc] 48 (0, 0)) ∧ w5.ownsRow (g + 1) 3 1 (.slice ka j kc) j (kL ⟨x1.1, x2.1, j, fun i => (numS (stN x3.2 i)).1⟩)) := ⟨hF0.trans hF5, h5, hres5, hbox5, hown5⟩
      clear hF5 h5 hF0 hres5 hbox5 hown5 HRd
      refine hK.out _ _ (fun _ => S5) (fun _ => ?_)
      clear hK K
      try simp only [Act.put, List.setIfInBounds_toArray, List.set_cons_zero, List.set_cons_succ]
      refine wpAnyK_ready (rs := [4]) (by kernel_rfl) (by simp) ?_
      refine (AllReadyK.cons (o := { dst := some 17, op := Go.Op.buildSlice 34 1 #[(0, Go.Operand.tmp 16)], type := 34, pos := "state.go:337", after := #[{ on := 3, ground := Go.Ground.data }], guard := none }) rfl (fun K hK => ?_) AllReadyK.nil)
      refine step_sliceK rfl (.tmp 16) rfl (numS (stN x3.2 j)).1 (by rfl) ?_
      have hb6 : Below w5.heap.size w5 (w5.alloc (.cells #[.int .i64 (numS (stN x3.2 j)).1] 3)) := (Below.refl _ _).alloc (Nat.le_refl _) _
      have hq6 : (w5.alloc (.cells #[.int .i64 (numS (stN x3.2 j)).1] 3)).heap[w5.heap.size]? = some (.cells #[.int .i64 (numS (stN x3.2 j)).1] 3 (0, 0)) := heap_alloc_new w5 _
      generalize w5.alloc (.cells #[.int .i64 (numS (stN x3.2 j)).1] 3) = w6 at *
      have hbox6 : w6.heap[g]? = some (.cells #[.int .i64 x1.1, .int .i64 x2.1, .slice ka j kc] 48 (0, 0)) := by rw [hb6.block _ (lt_of_block H5.out.2.2.2.1)]; exact H5.out.2.2.2.1
      have hres6 : w6.heap[w.heap.size]? = some (.cells #[.int .i64 0, .int .i64 0, .slice none 0 0] 48 (0, 0)) := by rw [hb6.block _ (lt_of_block H5.out.2.2.1)]; exact H5.out.2.2.1
      have S6 : w6.cell? ⟨g, 2, none⟩ = some (.slice ka j kc) := by rw [cell_of_row _ _ 2 _ _ _ hbox6]; rfl
      have H6 : Hid (Frm [rb] w w6 ∧ RS w6 rb (numS (stN x3.2 j)).2 ∧ w6.heap[w.heap.size]? = some (.cells #[.int .i64 0, .int .i64 0, .slice none 0 0] 48 (0, 0)) ∧ w6.heap[g]? = some (.cells #[.int .i64 x1.1, .int .i64 x2.1, .slice ka j kc] 48 (0, 0)) ∧ w6.ownsRow (g + 1) 3 1 (.slice ka j kc) j (kL ⟨x1.1, x2.1, j, fun i => (numS (stN x3.2 i)).1⟩)) := ⟨H5.out.1.trans (Frm.ofBelow hb6), H5.out.2.1.keep hb6, hres6, hbox6, own_below H5.out.2.2.2.2 hb6⟩
      clear hb6 hres6 H5
      refine hK.out _ _ (fun _ => S6) (fun _ => ?_)
      clear hK K
      try simp only [Act.put, List.setIfInBounds_toArray, List.set_cons_zero, List.set_cons_succ]
      refine wpAnyK_ready (rs := [5]) (by kernel_rfl) (by simp) ?_
      refine (AllReadyK.cons (o := { dst := some 18, op := Go.Op.call { callee := Go.Callee.builtin Go.Builtin.append, args := #[Go.Operand.tmp 14, Go.Operand.tmp 17], argTypes := #[34, 34] }, type := 34, pos := "state.go:337", after := #[{ on := 1, ground := Go.Ground.data }, { on := 4, ground := Go.Ground.data }, { on := 3, ground := Go.Ground.chain }], guard := none }) rfl (fun K hK => ?_) AllReadyK.nil)
      refine step_append_K rfl (.tmp 14) (.tmp 17) rfl (g + 1) w5.heap.size (.slice ka j kc) j (kL ⟨x1.1, x2.1, j, fun i => (numS (stN x3.2 i)).1⟩) (numS (stN x3.2 j)).1 (by rfl) (by rfl) H6.out.2.2.2.2 (lt_of_block H6.out.2.2.2.1) hq6 (by omega) ?_
      intro va vc w7 hown hgrow
      have hlo := grown_low H6.out.2.2.2.2 hgrow (lt_of_block H6.out.2.2.2.1)
      have hbox7 : w7.heap[g]? = some (.cells #[.int .i64 x1.1, .int .i64 x2.1, .slice ka j kc] 48 (0, 0)) := by rw [hlo _ (by omega)]; exact hbox6
      have S7 : w7.cell? ⟨g, 2, none⟩ = some (.slice ka j kc) := by rw [cell_of_row _ _ 2 _ _ _ hbox7]; rfl
      have f7 : ∀ o, w7.frozen? ⟨g, o, none⟩ = false := fun o => frozen_of_row _ _ o _ _ hbox7
      have HN : Hid (RhS w (w7.setCell ⟨g, 2, none⟩ (.slice va (j + 1) vc)) rb g x1.1 x2.1 x3.2 va vc (j + 1)) := RhS.push hrb hlg H6.out.1 H6.out.2.2.1 H6.out.2.2.2.1 H6.out.2.2.2.2 H6.out.2.1 hown hgrow
      refine hK.out _ _ (fun _ => S7) (fun _ => ?_)
      clear hK K hown hgrow hlo hbox6 hbox7 H6 hq6 S5 S6 HG c2 hf2 S0
      try simp only [Act.put, List.setIfInBounds_toArray, List.set_cons_zero, List.set_cons_succ]
      refine wpAnyK_take (by kernel_rfl) (i := 6) (oi := { dst := some 19, op := Go.Op.fieldAddr 48 (Go.Operand.tmp 3) 2, type := 0, pos := "state.go:337", after := #[{ on := 0, ground := Go.Ground.phase }, { on := 1, ground := Go.Ground.phase }, { on := 2, ground := Go.Ground.phase }, { on := 3, ground := Go.Ground.phase }, { on := 4, ground := Go.Ground.phase }, { on := 5, ground := Go.Ground.phase }], guard := none }) (v := ?_) rfl (by kernel_rfl) (by kernel_rfl) (by kernel_rfl) (fun _ _ _ h => h) (Or.inl ⟨by rfl, ?_⟩) (by assumption) ?_
      rotate_left
      · intro wz hSw; (try dsimp only at hSw); go_simp; (try with_reducible rfl)
      try simp only [Act.put, List.setIfInBounds_toArray, List.set_cons_zero, List.set_cons_succ]
      refine wpAnyK_ready (rs := [7]) (by kernel_rfl) (by simp) ?_
      refine (AllReadyK.cons (o := { dst := none, op := Go.Op.store 34 (Go.Operand.tmp 19) (Go.Operand.tmp 18), type := 0, pos := "state.go:337", after := #[{ on := 6, ground := Go.Ground.data }, { on := 5, ground := Go.Ground.data }, { on := 5, ground := Go.Ground.chain }, { on := 0, ground := Go.Ground.phase }, { on := 1, ground := Go.Ground.phase }, { on := 2, ground := Go.Ground.phase }, { on := 3, ground := Go.Ground.phase }, { on := 4, ground := Go.Ground.phase }, { on := 5, ground := Go.Ground.phase }], guard := none }) rfl (fun K hK => ?_) AllReadyK.nil)
      go_simp
      refine hK.out _ _ (fun h => absurd rfl h) (fun _ => ?_)
      clear hK K
      refine wpAnyK_done (by kernel_rfl) (NoPanic.normal ?_) _
      try simp only [Act.put, List.setIfInBounds_toArray, List.set_cons_zero, List.set_cons_succ]
      clear hHeld S7 f7
      go_wp2
      go_roundw
      case rel => exact ⟨j + 1, _, _, by omega, by go_num, HN.out⟩
      case measure => simp [intOf]; omega
    · have hin : j = m := by omega
      have hnn : ¬ ((j : Int) < m) := by omega
      have HG2 : Hid (RhS w wr rb g x1.1 x2.1 x3.2 ka kc m) := by rw [← hin]; exact HG.out
      have b0 : wr.cell? ⟨g, 0, none⟩ = some (.int .i64 x1.1) := by rw [cell_of_row _ _ 0 _ _ _ HG2.out.box]; rfl
      have b1 : wr.cell? ⟨g, 1, none⟩ = some (.int .i64 x2.1) := by rw [cell_of_row _ _ 1 _ _ _ HG2.out.box]; rfl
      have b2 : wr.cell? ⟨g, 2, none⟩ = some (.slice ka m kc) := by rw [cell_of_row _ _ 2 _ _ _ HG2.out.box]; rfl
      have d0 : wr.cell? ⟨w.heap.size, 0, none⟩ = some (.int .i64 0) := by rw [cell_of_row _ _ 0 _ _ _ HG2.out.res]; rfl
      have d1 : wr.cell? ⟨w.heap.size, 1, none⟩ = some (.int .i64 0) := by rw [cell_of_row _ _ 1 _ _ _ HG2.out.res]; rfl
      have d2 : wr.cell? ⟨w.heap.size, 2, none⟩ = some (.slice none 0 0) := by rw [cell_of_row _ _ 2 _ _ _ HG2.out.res]; rfl
      have df : ∀ o, wr.frozen? ⟨w.heap.size, o, none⟩ = false := fun o => frozen_of_row _ _ o _ _ HG2.out.res
      have hlg := HG2.out.lt
      clear HG hin
      go_wp2
      have hE : (((wr.setCell ⟨w.heap.size, 0, none⟩ (.int .i64 x1.1)).setCell ⟨w.heap.size, 1, none⟩ (.int .i64 x2.1)).setCell ⟨w.heap.size, 2, none⟩ (.slice ka m kc)).heap[w.heap.size]? = some (.cells #[.int .i64 x1.1, .int .i64 x2.1, .slice ka m kc] 48 (0, 0)) := three_set2 (three_set1 (three_set0 HG2.out.res))
      have ho : ∀ k, k ≠ w.heap.size → (((wr.setCell ⟨w.heap.size, 0, none⟩ (.int .i64 x1.1)).setCell ⟨w.heap.size, 1, none⟩ (.int .i64 x2.1)).setCell ⟨w.heap.size, 2, none⟩ (.slice ka m kc)).heap[k]? = wr.heap[k]? := fun k hk => by
        rw [Below.heap_setCell _ _ _ _ (by exact hk), Below.heap_setCell _ _ _ _ (by exact hk), Below.heap_setCell _ _ _ _ (by exact hk)]
      refine bodyPost_ret (results_cell_row Tryd.results45 _ _ w.heap.size 48 _ (0, 0) _ rfl hE Tryd.underlying48 rfl szH) rfl ⟨ka, kc, ?_, ?_, ?_, ?_⟩
      · rw [HM.out]
      · refine ⟨HG2.out.frm.os, HG2.out.frm.tape, HG2.out.frm.output, by simpa [World.setCell] using HG2.out.frm.size, fun k hk hk2 => ?_⟩
        rw [ho _ (by omega)]
        exact HG2.out.frm.block k hk hk2
      · rw [HM.out]
        exact HG2.out.rs.upto (fun k hk => ho k (by omega))
      · rw [HM.out]
        exact own_low (own_keep HG2.out.own fun g' e => ho g' (by have := (HG2.out.own.lt g' e).1; omega)) (by omega)
end Go.Proofs.YtnjkgpgbipcgcaaDoor
