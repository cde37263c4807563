/- The document's right, with and Move. -/
import Derived.Test.YthmmmkldmhjogaaGreatDoorOwnShelf22
import Derived.Test.YthmmmkldmhjogaaGreatDoorOwnShelf14
import Derived.Test.YthmmmkldmhjogaaGreatDoorOwnShelf20
import Derived.Deep.AppendSrc
import Derived.Test.YthmmmkldmhjogaaGreatDoorOwnShelf18
namespace Go.Proofs.YthmmmkldmhjogaaGreatDoor
open Go.RowKit

theorem results_R2 {fn : Func} {p u : Tmp} (h : fn.results = #[.cell p 26, .tmp u]) (tmps : Array Value) (w : World) (g : Nat) (t : TypeId) (c0 c1 c2 c3 c4 : Value) (fr : Nat × Nat)
  (hp : tmps.getD p undef = .pointer (some ⟨g, 0, none⟩)) (hg : w.heap[g]? = some (.cells #[c0, c1, c2, c3, c4] t fr)) :
  (results fn tmps).run Tryz.prog w = .ok (.tuple #[.agg #[c0, c1, c2, c3, c4], tmps.getD u undef]) w := by
 have hp' : tmps[p]?.getD undef = .pointer (some ⟨g, 0, none⟩) := by simpa using hp
 simp [results, h, hp', asAddr, run_loadVar_row w g t 26 #[c0, c1, c2, c3, c4] fr _ hg Tryz.underlying26 rfl szSr]
theorem SvAt.alike {w : World} {s s' : Sv} {p : Pl} (h : SvAt w s p) (h1 : s'.pn = s.pn) (h2 : s'.P = s.P) (h3 : s'.hn = s.hn) (h4 : s'.H = s.H) : SvAt w s' p := by
 obtain ⟨nu, a, b, pn, P, hn, H⟩ := s
 obtain ⟨nu', a', b', pn', P', hn', H'⟩ := s'
 simp only at h1 h2 h3 h4
 subst h1 h2 h3 h4
 exact ⟨h.py, h.hd, h.pcap, h.hcap, h.pnil, h.hnil⟩
end Go.Proofs.YthmmmkldmhjogaaGreatDoor
/- Resize and Total, the program's and the document's. -/
namespace Go.Proofs.YthmmmkldmhjogaaGreatDoor
open Go.RowKit

end Go.Proofs.YthmmmkldmhjogaaGreatDoor
/- The document's rows of holds: appended, built; holdAt. -/
namespace Go.Proofs.YthmmmkldmhjogaaGreatDoor
open Go.RowKit

theorem infoHr : (Tryz.prog.info? 55).map (fun i => (i.zero, i.size, i.bytes)) = some (some (.agg #[.int .i64 0, .int .i64 0, .slice none 0 0]), 3, 40) := by kernel_rfl
theorem Src.below {w w' : World} {ad : Option Addr} {n cap : Nat} {cs : List Value} (h : Src w ad n cap cs) (hb : Below w.heap.size w w') : Src w' ad n cap cs :=
 ⟨fun hn => by
  obtain ⟨b, off, e, hr⟩ := h.1 hn
  exact ⟨b, off, e, range_below hr hb⟩, h.2⟩
theorem run_append_R (w : World) (B : Nat) (ty : TypeId) (v : Value) (i : Nat) (xs : List Value) (ad : Option Addr) (m c : Nat) (cs : List Value) (hown : w.ownsRow B 55 3 v i xs) (hB : B ≤ w.heap.size) (hs : Src w ad m c cs) (hl : cs.length = m * 3) (h1 : ∀ u ∈ cs, u.oneCell' = true) (hi : i + m ≤ 1000000) :
  ∃ va vc w1, (Builtin.append_ #[24, 24] ty #[v, .slice ad m c]).run Tryz.prog w = .ok (.slice va (i + m) vc) w1 ∧ w1.ownsRow B 55 3 (.slice va (i + m) vc) (i + m) (xs ++ cs) ∧ w.grownBy w1 v.ownBlock := by
 obtain ⟨i0, hi0, hz0, hz1, hz2⟩ := info_parts infoHr
 cases ad with
 | none =>
  obtain ⟨rfl, rfl⟩ := hs.2 rfl
  obtain rfl : cs = [] := List.eq_nil_of_length_eq_zero (by omega)
  obtain ⟨va, vc, e, _, _⟩ := own_frmV hown
  refine ⟨va, vc, w, ?_, by rw [List.append_nil, Nat.add_zero, ← e]; exact hown, ⟨rfl, rfl, rfl, Nat.le_refl _, fun _ _ _ => rfl⟩⟩
  rw [Nat.add_zero, ← e]
  rcases hown.2 with ⟨rfl, hl⟩ | ⟨g, cap, cur, rfl, hbs, hg, hcap, _⟩
  ·simp [Builtin.append_, run_underlying Tryz.underlying24, sizeOf, typeInfo, hi0, Builtin.lenOf, Builtin.firstCells]
  ·have := run_append_room_src (P := Tryz.prog) w 24 24 ty 55 i0 Tryz.underlying24 hi0 g 0 i cap (.slice none 0 0) 0 [] (Go.Src.ofNil w Tryz.underlying24 0) (by omega) (fun j hj => by simp at hj) (fun j hj => by simp at hj)
   simpa [World.setCells] using this
 | some a =>
  obtain ⟨v', w1, hr, h2, h3, _, _⟩ := run_append_own_at (P := Tryz.prog) w B 24 ty 55 i0 (.agg #[.int .i64 0, .int .i64 0, .slice none 0 0]) 3 40 Tryz.underlying24 hi0 hz0 hz1 hz2 rfl (by omega) v i xs hown a m c cs hl (fun j u hj => by
   have hjl := (List.getElem?_eq_some_iff.1 hj).1
   obtain ⟨b, off, e, hr⟩ := hs.1 (by omega)
   cases e
   rw [Addr.add_lit]
   exact hr j u hj) h1 (by unfold maxLen; omega) (by omega) hB
  obtain ⟨va, vc, rfl, _, _⟩ := own_frmV h2
  exact ⟨va, vc, w1, hr, h2, h3⟩
theorem slice_hr (x : Hd) (ka : Option Addr) (kc : Nat) (w : World) : (Instr.buildSlice 24 1 #[(0, .agg (hdv x ka kc))]).run Tryz.prog w = .ok (.slice (some ⟨w.heap.size, 0, none⟩) 1 1) (w.alloc (.cells (hdv x ka kc) 55)) := by kernel_rfl
section
variable {ops : Array Oper} {o : Oper} {a : Act} {w : World} {K : Act → World → Prop} {Q : Exit → Act → World → Prop} {E : Prop}
end
/-- A row of one's own holds what its cells say. -/
theorem hd_of_row {w : World} {B m vc : Nat} {va : Option Addr} {X : Nat → Hd} {A : Nat → Option Addr × Nat} (h : w.ownsRow B 55 3 (.slice va m vc) m (flatL (hf X A) m)) (hk : ∀ i, i < m → IsAt w (A i).1 (X i).n (X i).z ∧ ((A i).1 = none → (X i).n = 0 ∧ (A i).2 = 0)) : HdAt w va m X := by
 refine ⟨fun h0 => ?_⟩
 obtain ⟨g, e, _, _, hr⟩ := own_range h h0
 exact ⟨g, 0, e, fun i hi => ⟨(A i).1, (A i).2, (flatL_range m (hf_len X A m)).1 hr i hi, (hk i hi).1, (hk i hi).2⟩⟩
/-- The first of some cells, and what is behind. -/
theorem Src.take {w : World} {ad : Option Addr} {n cap i : Nat} {f : Nat → List Value} (h : Src w ad n cap (flatL f n)) (hf : ∀ j, j < n → (f j).length = 3) (hi : i ≤ n) (h0 : ad ≠ none) : Src w ad i cap (flatL f i) := by
 refine ⟨fun hi0 => ?_, fun e => absurd e h0⟩
 obtain ⟨b, off, e, hr⟩ := h.1 (by omega)
 exact ⟨b, off, e, (flatL_range i (fun j hj => hf j (by omega))).2 fun j hj => (flatL_range n hf).1 hr j (by omega)⟩
theorem Src.drop {w : World} {b off n cap i c : Nat} {f : Nat → List Value} (h : Src w (some ⟨b, off, none⟩) n cap (flatL f n)) (hf : ∀ j, j < n → (f j).length = 3) (hi : i ≤ n) (hc : n ≤ cap) : Src w (if cap = i then some ⟨b, off, none⟩ else some ⟨b, off + i * 3, none⟩) (n - i) c (flatL (fun j => f (i + j)) (n - i)) := by
 refine ⟨fun hi0 => ?_, fun e => by split at e <;> cases e⟩
 rw [if_neg (by omega)]
 obtain ⟨b', off', e, hr⟩ := h.1 (by omega)
 cases e
 refine ⟨b, off + i * 3, rfl, (flatL_range (n - i) (fun j hj => hf _ (by omega))).2 fun j hj => ?_⟩
 have := (flatL_range n hf).1 hr (i + j) (by omega)
 rwa [Nat.add_mul, ← Nat.add_assoc] at this
end Go.Proofs.YthmmmkldmhjogaaGreatDoor
/- The document's Decode: what it has on the way, and its steps. -/
namespace Go.Proofs.YthmmmkldmhjogaaGreatDoor
open Go.RowKit

theorem infoPr : (Tryz.prog.info? 73).map (fun i => (i.zero, i.size, i.bytes)) = some (some (.agg (pyv p0)), 36, 64) := by kernel_rfl
theorem slice_pr (x : Py) (w : World) : (Instr.buildSlice 23 1 #[(0, .agg (pyv x))]).run Tryz.prog w = .ok (.slice (some ⟨w.heap.size, 0, none⟩) 1 1) (w.alloc (.cells (pyv x) 73)) := by kernel_rfl
theorem build_Pr (w : World) : (Instr.build 73 #[]).run Tryz.prog w = .ok (.agg (pyv p0)) w := by kernel_rfl
theorem run_append_Pr (w : World) (B q : Nat) (ty : TypeId) (v : Value) (i : Nat) (xs : List Value) (y : Py) (hown : w.ownsRow B 73 36 v i xs) (hB : B ≤ w.heap.size) (hq : w.heap[q]? = some (.cells (pyv y) 73 (0, 0))) (hi : i ≤ 1000000) :
  ∃ va vc w1, (Builtin.append_ #[23, 23] ty #[v, .slice (some ⟨q, 0, none⟩) 1 1]).run Tryz.prog w = .ok (.slice va (i + 1) vc) w1 ∧ w1.ownsRow B 73 36 (.slice va (i + 1) vc) (i + 1) (xs ++ pyl y) ∧ w.grownBy w1 v.ownBlock := by
 obtain ⟨i0, hi0, hz0, hz1, hz2⟩ := info_parts infoPr
 obtain ⟨v', w1, hr, h2, h3, _, h5⟩ := run_append_own_at (P := Tryz.prog) w B 23 ty 73 i0 (.agg (pyv p0)) 36 64 Tryz.underlying23 hi0 hz0 hz1 hz2 zero_p (by omega) v i xs hown ⟨q, 0, none⟩ 1 1 (pyl y) (by rw [pyl_length]) (fun j u hj => by
   rw [Addr.add_lit, Nat.zero_add, cell_of_row _ _ j _ _ _ hq]
   simpa [pyv] using hj) (pyl_one _) (by unfold maxLen; omega) (by omega) hB
 obtain ⟨va, vc, rfl, _, _⟩ := own_frmV h2
 exact ⟨va, vc, w1, hr, h2, h3⟩
theorem run_append_Hr (w : World) (B q : Nat) (ty : TypeId) (v : Value) (i : Nat) (xs : List Value) (y : Hd) (ka : Option Addr) (kc : Nat) (hown : w.ownsRow B 55 3 v i xs) (hB : B ≤ w.heap.size) (hq : w.heap[q]? = some (.cells (hdv y ka kc) 55 (0, 0))) (hi : i ≤ 100000) :
  ∃ va vc w1, (Builtin.append_ #[24, 24] ty #[v, .slice (some ⟨q, 0, none⟩) 1 1]).run Tryz.prog w = .ok (.slice va (i + 1) vc) w1 ∧ w1.ownsRow B 55 3 (.slice va (i + 1) vc) (i + 1) (xs ++ hdl y ka kc) ∧ w.grownBy w1 v.ownBlock :=
 run_append_R w B ty v i xs (some ⟨q, 0, none⟩) 1 1 (hdl y ka kc) hown hB ⟨fun _ => ⟨q, 0, rfl, fun j u hj => by rw [Nat.zero_add, cell_of_row _ _ j _ _ _ hq]; simpa [hdv, hdl] using hj⟩, fun h => by cases h⟩ rfl (hdl_one _ _ _) (by omega)
section
variable {ops : Array Oper} {rest : List Oper} {o : Oper} {a : Act} {w : World} {Q : Exit → Act → World → Prop}
theorem wpList_buildPr (hgd : o.guard = none) (ho : o.op = .build 73 #[])
  (h : wpList Tryz.prog ops Q rest (a.put o.dst (.agg (pyv p0))) w) : wpList Tryz.prog ops Q (o :: rest) a w := by
 refine wpList_plain hgd fun K hK => ?_
 unfold Oper.wp execOp
 simp only [ho, List.map_toArray, List.map_nil, Sem.run_bind, build_Pr, Result.andThen]
 exact hK _ _ h
theorem wpList_slicePr (hgd : o.guard = none) (x : Operand) (ho : o.op = .buildSlice 23 1 #[(0, x)]) (v : Py) (hx : a.eval x = .agg (pyv v))
  (h : wpList Tryz.prog ops Q rest (a.put o.dst (.slice (some ⟨w.heap.size, 0, none⟩) 1 1)) (w.alloc (.cells (pyv v) 73))) : wpList Tryz.prog ops Q (o :: rest) a w := by
 refine wpList_plain hgd fun K hK => ?_
 unfold Oper.wp execOp
 simp only [ho, List.map_toArray, List.map_cons, List.map_nil, hx, Sem.run_bind, slice_pr, Result.andThen]
 exact hK _ _ h
theorem wpList_sliceHr (hgd : o.guard = none) (x : Operand) (ho : o.op = .buildSlice 24 1 #[(0, x)]) (v : Hd) (ka : Option Addr) (kc : Nat) (hx : a.eval x = .agg (hdv v ka kc))
  (h : wpList Tryz.prog ops Q rest (a.put o.dst (.slice (some ⟨w.heap.size, 0, none⟩) 1 1)) (w.alloc (.cells (hdv v ka kc) 55))) : wpList Tryz.prog ops Q (o :: rest) a w := by
 refine wpList_plain hgd fun K hK => ?_
 unfold Oper.wp execOp
 simp only [ho, List.map_toArray, List.map_cons, List.map_nil, hx, Sem.run_bind, slice_hr, Result.andThen]
 exact hK _ _ h
theorem wpList_sliceKr (hgd : o.guard = none) (x : Operand) (ho : o.op = .buildSlice 53 1 #[(0, x)]) (v : Int) (hx : a.eval x = .int .i64 v)
  (h : wpList Tryz.prog ops Q rest (a.put o.dst (.slice (some ⟨w.heap.size, 0, none⟩) 1 1)) (w.alloc (.cells #[.int .i64 v] 3))) : wpList Tryz.prog ops Q (o :: rest) a w := by
 refine wpList_plain hgd fun K hK => ?_
 unfold Oper.wp execOp
 simp only [ho, List.map_toArray, List.map_cons, List.map_nil, hx, Sem.run_bind, slice_k, Result.andThen]
 exact hK _ _ h
/-- One more in a row, by its run. -/
theorem wpList_app1 (hgd : o.guard = none) (s x : Operand) (t : TypeId) (ho : o.op = .call { callee := .builtin .append, args := #[s, x], argTypes := #[t, t] }) (v u : Value) (hs : a.eval s = v) (hx : a.eval x = u) (R : Value → World → Prop)
  (hr : ∀ ty, ∃ v' w1, (Builtin.append_ #[t, t] ty #[v, u]).run Tryz.prog w = .ok v' w1 ∧ R v' w1) (h : ∀ v' w1, R v' w1 → wpList Tryz.prog ops Q rest (a.put o.dst v') w1) : wpList Tryz.prog ops Q (o :: rest) a w := by
 obtain ⟨v', w1, hr1, h1⟩ := hr o.type
 refine wpList_plain hgd fun K hK => ?_
 unfold Oper.wp execOp
 simp only [ho, resolve, invoke, builtin, Sem.run_bind, Sem.run_pure, Result.andThen_ok, List.map_toArray, List.map_cons, List.map_nil, hs, hx, hr1]
 exact hK _ _ (h v' w1 h1)
end
theorem two_set {w : World} {b : Nat} {x y u v : Value} {t : TypeId} (h : w.heap[b]? = some (.cells #[x, y] t (0, 0))) : ((w.setCell ⟨b, 0, none⟩ u).setCell ⟨b, 1, none⟩ v).heap[b]? = some (.cells #[u, v] t (0, 0)) :=
 heap_setCell_same _ b 1 _ t v (heap_setCell_same w b 0 _ t u h)
/-- A state on the way: i payments and j holds of s are there, its numbers so far x0, x1, x2; the reader. -/
structure DdS (w wr : World) (x0 x1 x2 : Int) (P : Nat → Py) (H : Nat → Hd) (p : Pl) (A : Nat → Option Addr × Nat) (i j : Nat) (ad : Option Addr) (n cap : Nat) (er : Int) (q : Option (List Int)) : Prop where
 below : Below w.heap.size w wr
 res : wr.heap[w.heap.size]? = some (.cells #[.int .i64 0, .int .i64 0, .int .i64 0, .slice none 0 0, .slice none 0 0] 26 (0, 0))
 box : wr.heap[w.heap.size + 1]? = some (.cells #[.int .i64 x0, .int .i64 x1, .int .i64 x2, .slice p.pa i p.pc, .slice p.ha j p.hc] 26 (0, 0))
 rd : wr.heap[w.heap.size + 2]? = some (.cells #[.slice ad n cap, .int .i64 er] 69 (0, 0))
 py : wr.ownsRow (w.heap.size + 3) 73 36 (.slice p.pa i p.pc) i (flatL (pf P) i)
 hd : wr.ownsRow (w.heap.size + 3) 55 3 (.slice p.ha j p.hc) j (flatL (hf H A) j)
 ks : ∀ k, k < j → wr.ownsRow (w.heap.size + 3) 3 1 (.slice (A k).1 (H k).n (A k).2) (H k).n (kL (H k))
 lk : ∀ k, k < i → Zb (P k).lk
 dr : DR w ad n cap er q
section
variable {w wr w' : World} {x0 x1 x2 : Int} {P : Nat → Py} {H : Nat → Hd} {p : Pl} {A : Nat → Option Addr × Nat} {i j : Nat} {ad ad' : Option Addr} {n cap n' cap' : Nat} {er er' : Int} {q q' : Option (List Int)}
theorem DdS.big (h : DdS w wr x0 x1 x2 P H p A i j ad n cap er q) : w.heap.size + 3 ≤ wr.heap.size := lt_of_block h.rd
theorem DdS.keep (h : DdS w wr x0 x1 x2 P H p A i j ad n cap er q) (hb : Below wr.heap.size wr w') : DdS w w' x0 x1 x2 P H p A i j ad n cap er q :=
 ⟨h.below.trans (hb.mono h.below.size), by rw [hb.block _ (lt_of_block h.res)]; exact h.res, by rw [hb.block _ (lt_of_block h.box)]; exact h.box, by rw [hb.block _ (lt_of_block h.rd)]; exact h.rd, own_below h.py hb, own_below h.hd hb, fun k hk => own_below (h.ks k hk) hb, h.lk, h.dr⟩
/-- The reader's variable turned. -/
theorem DdS.rdSet (h : DdS w wr x0 x1 x2 P H p A i j ad n cap er q) (hb : Below wr.heap.size wr w') (hd : DR w ad' n' cap' er' q') :
  DdS w ((w'.setCell ⟨w.heap.size + 2, 0, none⟩ (.slice ad' n' cap')).setCell ⟨w.heap.size + 2, 1, none⟩ (.int .i64 er')) x0 x1 x2 P H p A i j ad' n' cap' er' q' := by
 have h1 := h.keep hb
 have hs : ∀ k, k ≠ w.heap.size + 2 → ((w'.setCell ⟨w.heap.size + 2, 0, none⟩ (.slice ad' n' cap')).setCell ⟨w.heap.size + 2, 1, none⟩ (.int .i64 er')).heap[k]? = w'.heap[k]? := fun k hk => by rw [Below.heap_setCell _ _ _ _ (by exact hk), Below.heap_setCell _ _ _ _ (by exact hk)]
 refine ⟨(h1.below.setCell (by show w.heap.size ≤ w.heap.size + 2; omega) _).setCell (by show w.heap.size ≤ w.heap.size + 2; omega) _, by rw [hs _ (by omega)]; exact h1.res, by rw [hs _ (by omega)]; exact h1.box, two_set h1.rd, own_keep h1.py fun g e => hs g (by have := (h1.py.lt g e).1; omega), own_keep h1.hd fun g e => hs g (by have := (h1.hd.lt g e).1; omega), fun k hk => own_keep (h1.ks k hk) fun g e => hs g (by have := ((h1.ks k hk).lt g e).1; omega), h.lk, hd⟩
/-- A cell of the state's variable written. -/
theorem DdS.boxSet (h : DdS w wr x0 x1 x2 P H p A i j ad n cap er q) (c : Nat) (v : Value) {y0 y1 y2 : Int} (hb : (wr.setCell ⟨w.heap.size + 1, c, none⟩ v).heap[w.heap.size + 1]? = some (.cells #[.int .i64 y0, .int .i64 y1, .int .i64 y2, .slice p.pa i p.pc, .slice p.ha j p.hc] 26 (0, 0))) :
  DdS w (wr.setCell ⟨w.heap.size + 1, c, none⟩ v) y0 y1 y2 P H p A i j ad n cap er q := by
 have hs : ∀ k, k ≠ w.heap.size + 1 → (wr.setCell ⟨w.heap.size + 1, c, none⟩ v).heap[k]? = wr.heap[k]? := fun k hk => Below.heap_setCell _ _ _ _ (by exact hk)
 exact ⟨h.below.setCell (by show w.heap.size ≤ w.heap.size + 1; omega) _, by rw [hs _ (by omega)]; exact h.res, hb, by rw [hs _ (by omega)]; exact h.rd, own_keep h.py fun g e => hs g (by have := (h.py.lt g e).1; omega), own_keep h.hd fun g e => hs g (by have := (h.hd.lt g e).1; omega), fun k hk => own_keep (h.ks k hk) fun g e => hs g (by have := ((h.ks k hk).lt g e).1; omega), h.lk, h.dr⟩
/-- All blocks but the reader's variable kept. -/
theorem DdS.frm (h : DdS w wr x0 x1 x2 P H p A i j ad n cap er q) (hf : Frm [w.heap.size + 2] wr w') (hr : w'.heap[w.heap.size + 2]? = some (.cells #[.slice ad' n' cap', .int .i64 er'] 69 (0, 0))) (hd : DR w ad' n' cap' er' q') : DdS w w' x0 x1 x2 P H p A i j ad' n' cap' er' q' :=
 ⟨h.below.trans (hf.below h.below.size (by simp)), hf.heap h.res (by simp), hf.heap h.box (by simp), hr, own_frm h.py hf (fun k hk => by simp at hk; omega), own_frm h.hd hf (fun k hk => by simp at hk; omega), fun k hk => own_frm (h.ks k hk) hf (fun k hk => by simp at hk; omega), h.lk, hd⟩
/-- One more payment. -/
theorem DdS.pushP {w1 w2 : World} {va : Option Addr} {vc : Nat} (h : DdS w w1 x0 x1 x2 P H p A i j ad n cap er q) (hz : Zb (P i).lk) (hown : w2.ownsRow (w.heap.size + 3) 73 36 (.slice va (i + 1) vc) (i + 1) (flatL (pf P) i ++ pyl (P i))) (hg : w1.grownBy w2 (Value.slice p.pa i p.pc).ownBlock) :
  DdS w (w2.setCell ⟨w.heap.size + 1, 3, none⟩ (.slice va (i + 1) vc)) x0 x1 x2 P H ⟨va, vc, p.ha, p.hc⟩ A (i + 1) j ad n cap er q := by
 have hl := grown_low h.py hg h.big
 have hs : ∀ k, k ≠ w.heap.size + 1 → (w2.setCell ⟨w.heap.size + 1, 3, none⟩ (.slice va (i + 1) vc)).heap[k]? = w2.heap[k]? := fun k hk => Below.heap_setCell _ _ _ _ (by exact hk)
 refine ⟨?_, ?_, ?_, ?_, ?_, ?_, fun k hk => ?_, fun k hk => ?_, h.dr⟩
 ·exact (grown_below h.py hg h.below (by omega)).setCell (by show w.heap.size ≤ w.heap.size + 1; omega) _
 ·rw [hs _ (by omega), hl _ (by omega)]; exact h.res
 ·exact five_set3 (by rw [hl _ (by omega)]; exact h.box)
 ·rw [hs _ (by omega), hl _ (by omega)]; exact h.rd
 ·exact own_keep hown fun g' e => hs g' (by have := (hown.lt g' e).1; omega)
 ·have := grown_keepV h.py h.hd (by decide) hg
  exact own_keep this fun g' e => hs g' (by have := (this.lt g' e).1; omega)
 ·have := grown_keepV h.py (h.ks k hk) (by decide) hg
  exact own_keep this fun g' e => hs g' (by have := (this.lt g' e).1; omega)
 ·by_cases e : k = i
  ·rw [e]; exact hz
  ·exact h.lk k (by omega)
/-- One more hold. -/
theorem DdS.pushH {w1 w2 : World} {va ka : Option Addr} {vc kc : Nat} (h : DdS w w1 x0 x1 x2 P H p A i j ad n cap er q) (hk : w1.ownsRow (w.heap.size + 3) 3 1 (.slice ka (H j).n kc) (H j).n (kL (H j))) (hown : w2.ownsRow (w.heap.size + 3) 55 3 (.slice va (j + 1) vc) (j + 1) (flatL (hf H A) j ++ hdl (H j) ka kc)) (hg : w1.grownBy w2 (Value.slice p.ha j p.hc).ownBlock) :
  DdS w (w2.setCell ⟨w.heap.size + 1, 4, none⟩ (.slice va (j + 1) vc)) x0 x1 x2 P H ⟨p.pa, p.pc, va, vc⟩ (fun k => if k = j then (ka, kc) else A k) i (j + 1) ad n cap er q := by
 have hl := grown_low h.hd hg h.big
 have hs : ∀ k, k ≠ w.heap.size + 1 → (w2.setCell ⟨w.heap.size + 1, 4, none⟩ (.slice va (j + 1) vc)).heap[k]? = w2.heap[k]? := fun k hk => Below.heap_setCell _ _ _ _ (by exact hk)
 refine ⟨?_, ?_, ?_, ?_, ?_, ?_, fun k hkj => ?_, h.lk, h.dr⟩
 ·exact (grown_below h.hd hg h.below (by omega)).setCell (by show w.heap.size ≤ w.heap.size + 1; omega) _
 ·rw [hs _ (by omega), hl _ (by omega)]; exact h.res
 ·exact five_set4 (by rw [hl _ (by omega)]; exact h.box)
 ·rw [hs _ (by omega), hl _ (by omega)]; exact h.rd
 ·have := grown_keepV h.hd h.py (by decide) hg
  exact own_keep this fun g' e => hs g' (by have := (this.lt g' e).1; omega)
 ·rw [flatL, flatL_congr j (g := hf H A) (fun k hk => by simp [hf, show ¬ k = j by omega])]
  have e : hf H (fun k => if k = j then (ka, kc) else A k) j = hdl (H j) ka kc := by simp [hf]
  rw [e]
  exact own_keep hown fun g' e => hs g' (by have := (hown.lt g' e).1; omega)
 ·by_cases e : k = j
  ·subst e
   simp only [if_true]
   have := grown_keepV h.hd hk (by decide) hg
   exact own_keep this fun g' e => hs g' (by have := (this.lt g' e).1; omega)
  ·simp only [if_neg e]
   have := grown_keepV h.hd (h.ks k (by omega)) (by decide) hg
   exact own_keep this fun g' e => hs g' (by have := (this.lt g' e).1; omega)
end
/-- Within a round: the reader's variable R and a variable g beyond all that was there, which holds cs. -/
structure MdS (w wl wr : World) (R g : Nat) (cs : Array Value) (T : TypeId) (ad : Option Addr) (n cap : Nat) (er : Int) (q : Option (List Int)) : Prop where
 frm : Frm [R] wl wr
 rlt : R < wl.heap.size
 glt : wl.heap.size ≤ g
 var : wr.heap[g]? = some (.cells cs T (0, 0))
 rd : wr.heap[R]? = some (.cells #[.slice ad n cap, .int .i64 er] 69 (0, 0))
 dr : DR w ad n cap er q
section
variable {w wl wr w' : World} {R g : Nat} {cs : Array Value} {T : TypeId} {ad ad' : Option Addr} {n cap n' cap' : Nat} {er er' : Int} {q q' : Option (List Int)}
theorem MdS.keep (h : MdS w wl wr R g cs T ad n cap er q) (hb : Below wr.heap.size wr w') : MdS w wl w' R g cs T ad n cap er q :=
 ⟨h.frm.trans (Frm.ofBelow hb), h.rlt, h.glt, by rw [hb.block _ (lt_of_block h.var)]; exact h.var, by rw [hb.block _ (lt_of_block h.rd)]; exact h.rd, h.dr⟩
theorem MdS.rdSet (h : MdS w wl wr R g cs T ad n cap er q) (hb : Below wr.heap.size wr w') (hd : DR w ad' n' cap' er' q') :
  MdS w wl ((w'.setCell ⟨R, 0, none⟩ (.slice ad' n' cap')).setCell ⟨R, 1, none⟩ (.int .i64 er')) R g cs T ad' n' cap' er' q' := by
 have h1 := h.keep hb
 have hgR : g ≠ R := by have := h.rlt; have := h.glt; omega
 exact ⟨(h1.frm.setCell _ _ (by simp)).setCell _ _ (by simp), h.rlt, h.glt, by rw [Below.heap_setCell _ _ _ _ (by exact hgR), Below.heap_setCell _ _ _ _ (by exact hgR)]; exact h1.var, two_set h1.rd, hd⟩
theorem MdS.varSet (h : MdS w wl wr R g cs T ad n cap er q) (c : Nat) (v : Value) : MdS w wl (wr.setCell ⟨g, c, none⟩ v) R g (cs.setIfInBounds c v) T ad n cap er q := by
 have hR := h.rlt
 have hg := h.glt
 refine ⟨⟨h.frm.os, h.frm.tape, h.frm.output, by simpa [World.setCell] using h.frm.size, fun k hk hk2 => ?_⟩, h.rlt, h.glt, heap_setCell_same wr g c _ T v h.var, ?_, h.dr⟩
 ·rw [Below.heap_setCell _ _ _ _ (by show k ≠ g; omega)]; exact h.frm.block k hk hk2
 ·rw [Below.heap_setCell _ _ _ _ (by show R ≠ g; omega)]; exact h.rd
end
end Go.Proofs.YthmmmkldmhjogaaGreatDoor
/- The document's Decode: what it answers, by lists. -/
namespace Go.Proofs.YthmmmkldmhjogaaGreatDoor
open Go.RowKit

/-- How far a row of readers goes till one has stopped. -/
def up (f : Nat → Option (List Int)) : Nat → Nat
 | 0 => 0
 | m + 1 => if (f (up f m)).isNone = true then up f m else up f m + 1
theorem up_stop {f : Nat → Option (List Int)} {i : Nat} (h : up f i = i) (hf : f i = none) : ∀ m, i ≤ m → up f m = i
  | 0, h0 => by obtain rfl : i = 0 := by omega
                exact h
  | m + 1, h0 => by
    by_cases e : i = m + 1
    · rw [e] at h ⊢; exact h
    · have := up_stop h hf m (by omega)
      rw [up, this, hf]
      rfl
theorem up_next {f : Nat → Option (List Int)} {i : Nat} (h : up f i = i) (hf : f i ≠ none) : up f (i + 1) = i + 1 := by
 rw [up, h]
 cases e : f i with
 | none => exact absurd e hf
 | some l => rfl
def nD (q : Option (List Int)) : Int × Option (List Int) := numM 1125899906842624 q
def pyD (q : Option (List Int)) : Py × Option (List Int) :=
 (⟨(nD q).1, (nD (nD q).2).1, (nD (nD (nD q).2).2).1, (nD (nD (nD (nD q).2).2).2).1, (hshS (nD (nD (nD (nD q).2).2).2).2).1⟩, (hshS (nD (nD (nD (nD q).2).2).2).2).2)
def stND (q : Option (List Int)) : Nat → Option (List Int)
 | 0 => q
 | j + 1 => (nD (stND q j)).2
def hdK (x3 : Int × Option (List Int)) : Nat := up (stND x3.2) x3.1.toNat
def hdD (q : Option (List Int)) : Hd × Option (List Int) :=
 (⟨(nD q).1, (nD (nD q).2).1, hdK (cntS 16 (nD (nD q).2).2), fun j => (nD (stND (cntS 16 (nD (nD q).2).2).2 j)).1⟩, stND (cntS 16 (nD (nD q).2).2).2 (hdK (cntS 16 (nD (nD q).2).2)))
def stPD (q : Option (List Int)) : Nat → Option (List Int)
 | 0 => q
 | i + 1 => (pyD (stPD q i)).2
def stHD (q : Option (List Int)) : Nat → Option (List Int)
 | 0 => q
 | i + 1 => (hdD (stHD q i)).2
def f1 (l : List Int) := nD (some l)
def f2 (l : List Int) := nD (f1 l).2
def f3 (l : List Int) := nD (f2 l).2
def f4 (l : List Int) := cntS 8 (f3 l).2
def f4n (l : List Int) : Nat := up (stPD (f4 l).2) (f4 l).1.toNat
def f5 (l : List Int) := cntS 8 (stPD (f4 l).2 (f4n l))
def f5n (l : List Int) : Nat := up (stHD (f5 l).2) (f5 l).1.toNat
def docS (l : List Int) : Sv := ⟨(f1 l).1, (f2 l).1, (f3 l).1, f4n l, fun i => (pyD (stPD (f4 l).2 i)).1, f5n l, fun j => (hdD (stHD (f5 l).2 j)).1⟩
def docQ (l : List Int) : Option (List Int) := stHD (f5 l).2 (f5n l)
def docOk (l : List Int) : Prop := docQ l = some [] ∧ SOk (docS l)
instance (l : List Int) : Decidable (docOk l) := inferInstanceAs (Decidable (_ ∧ _))
def docT (l : List Int) : Sv := if docOk l then docS l else sv0
def docE (l : List Int) : Int := if docOk l then 0 else 3
theorem up_le (f : Nat → Option (List Int)) : ∀ m, up f m ≤ m
 | 0 => Nat.le_refl _
 | m + 1 => by have := up_le f m; rw [up]; split <;> omega
theorem hdD_n (q : Option (List Int)) : (hdD q).1.n ≤ 16 := by
 show hdK (cntS 16 (nD (nD q).2).2) ≤ 16
 have h1 := cntS_le (nD (nD q).2).2 (most := 16) (by decide)
 have h2 := up_le (stND (cntS 16 (nD (nD q).2).2).2) (cntS 16 (nD (nD q).2).2).1.toNat
 unfold hdK
 omega
theorem docS_pn (l : List Int) : (docS l).pn ≤ 8 := by
 show f4n l ≤ 8
 have h1 : (f4 l).1 ≤ 8 := cntS_le _ (by decide)
 have h2 := up_le (stPD (f4 l).2) (f4 l).1.toNat
 unfold f4n
 omega
theorem docS_hn (l : List Int) : (docS l).hn ≤ 8 := by
 show f5n l ≤ 8
 have h1 : (f5 l).1 ≤ 8 := cntS_le _ (by decide)
 have h2 := up_le (stHD (f5 l).2) (f5 l).1.toNat
 unfold f5n
 omega
theorem docS_small (l : List Int) : (docS l).Small :=
 ⟨by have := docS_pn l; have := docS_hn l; omega, fun j _ => by have : ((docS l).H j).n ≤ 16 := hdD_n _; omega⟩
theorem pyv_s0 (y : Py) (v : Int) : (pyv y).setIfInBounds 0 (.int .i64 v) = pyv { y with id := v } := by simp [pyv, pyl]
theorem pyv_s1 (y : Py) (v : Int) : (pyv y).setIfInBounds 1 (.int .i64 v) = pyv { y with fr := v } := by simp [pyv, pyl]
theorem pyv_s2 (y : Py) (v : Int) : (pyv y).setIfInBounds 2 (.int .i64 v) = pyv { y with am := v } := by simp [pyv, pyl]
theorem pyv_s3 (y : Py) (v : Int) : (pyv y).setIfInBounds 3 (.int .i64 v) = pyv { y with af := v } := by simp [pyv, pyl]
theorem pyv_setLk (v : Py) (y : Nat → Int) {w : World} {g : Nat} {t : TypeId} (h : w.heap[g]? = some (.cells (pyv v) t (0, 0))) : (w.setCells g 4 (hv y).toList).heap[g]? = some (.cells (pyv { v with lk := y }) t (0, 0)) := by
 have := setCells_at g (hv y).toList 4 w [.int .i64 v.id, .int .i64 v.fr, .int .i64 v.am, .int .i64 v.af] (bl v.lk 32) t (by simpa [pyv, pyl] using h) rfl (by simp [hv_size, bl_length])
 rw [this, hv_list]
 simp [pyv, pyl, bl_length]
theorem wpList_storeLkP {ops : Array Oper} {rest : List Oper} {o : Oper} {a : Act} {w : World} {Q : Exit → Act → World → Prop} (hgd : o.guard = none) (x y : Operand) (ho : o.op = .store 48 x y) (g : Nat) (hx : a.eval x = .pointer (some ⟨g, 4, none⟩)) (z : Nat → Int) (hy : a.eval y = .agg (hv z)) (v : Py) (t : TypeId) (hg : w.heap[g]? = some (.cells (pyv v) t (0, 0)))
  (h : ∀ w', w'.heap[g]? = some (.cells (pyv { v with lk := z }) t (0, 0)) → Frm [g] w w' → wpList Tryz.prog ops Q rest (a.put o.dst undef) w') : wpList Tryz.prog ops Q (o :: rest) a w := by
 refine wpList_store_mid hgd 48 x y ho g 4 (hv z) hx hy ?_ (by rw [hv_size]; exact hsz) (hv_one z) (h _ (pyv_setLk v z hg) (setCells_frm g _ 4 w))
 intro j hj
 rw [hv_size] at hj
 refine ⟨?_, frozen_of_row w g _ _ t hg⟩
 rw [cell_of_row w g _ _ t _ hg]
 simp [pyv_size]
 omega
end Go.Proofs.YthmmmkldmhjogaaGreatDoor
/- The document's Decode: a hold's keys on the way. -/
namespace Go.Proofs.YthmmmkldmhjogaaGreatDoor
open Go.RowKit

/-- A round's variable that holds a hold with k of its keys; they lie in a row of its own. -/
structure MkS (w wl wr : World) (R g : Nat) (a b : Int) (z : Nat → Int) (ka : Option Addr) (k kc : Nat) (ad : Option Addr) (n cap : Nat) (er : Int) (q : Option (List Int)) : Prop where
 md : MdS w wl wr R g #[.int .i64 a, .int .i64 b, .slice ka k kc] 55 ad n cap er q
 own : wr.ownsRow (g + 1) 3 1 (.slice ka k kc) k (kL ⟨a, b, k, z⟩)
section
variable {w wl wr w' : World} {R g : Nat} {a b : Int} {z : Nat → Int} {ka : Option Addr} {k kc : Nat} {ad ad' : Option Addr} {n cap n' cap' : Nat} {er er' : Int} {q q' : Option (List Int)}
theorem MkS.big (h : MkS w wl wr R g a b z ka k kc ad n cap er q) : g + 1 ≤ wr.heap.size := lt_of_block h.md.var
theorem MkS.keep (h : MkS w wl wr R g a b z ka k kc ad n cap er q) (hb : Below wr.heap.size wr w') : MkS w wl w' R g a b z ka k kc ad n cap er q := ⟨h.md.keep hb, own_below h.own hb⟩
theorem MkS.rdSet (h : MkS w wl wr R g a b z ka k kc ad n cap er q) (hb : Below wr.heap.size wr w') (hd : DR w ad' n' cap' er' q') :
  MkS w wl ((w'.setCell ⟨R, 0, none⟩ (.slice ad' n' cap')).setCell ⟨R, 1, none⟩ (.int .i64 er')) R g a b z ka k kc ad' n' cap' er' q' := by
 have hl := h.md.rlt
 have hg := h.md.glt
 refine ⟨h.md.rdSet hb hd, own_keep (own_below h.own hb) fun g' e => ?_⟩
 have := (h.own.lt g' e).1
 rw [Below.heap_setCell _ _ _ _ (by show g' ≠ R; omega), Below.heap_setCell _ _ _ _ (by show g' ≠ R; omega)]
theorem MkS.push {w1 w2 : World} {va : Option Addr} {vc : Nat} (h : MkS w wl w1 R g a b z ka k kc ad n cap er q) (hown : w2.ownsRow (g + 1) 3 1 (.slice va (k + 1) vc) (k + 1) (kL ⟨a, b, k, z⟩ ++ [.int .i64 (z k)])) (hg : w1.grownBy w2 (Value.slice ka k kc).ownBlock) :
  MkS w wl (w2.setCell ⟨g, 2, none⟩ (.slice va (k + 1) vc)) R g a b z va (k + 1) vc ad n cap er q := by
 have hl := grown_low h.own hg h.big
 have h1 := h.md.rlt
 have h2 := h.md.glt
 have hs : ∀ k', k' ≠ g → (w2.setCell ⟨g, 2, none⟩ (.slice va (k + 1) vc)).heap[k']? = w2.heap[k']? := fun k' hk => Below.heap_setCell _ _ _ _ (by exact hk)
 have hv2 : w2.heap[g]? = some (.cells #[.int .i64 a, .int .i64 b, .slice ka k kc] 55 (0, 0)) := by rw [hl _ (by omega)]; exact h.md.var
 refine ⟨⟨⟨hg.os.trans h.md.frm.os, hg.tape.trans h.md.frm.tape, hg.output.trans h.md.frm.output, ?_, fun k' hk hk2 => ?_⟩, h1, h2, ?_, ?_, h.md.dr⟩, ?_⟩
 ·have := hg.size; have := h.md.frm.size; simpa [World.setCell] using (by omega : wl.heap.size ≤ w2.heap.size)
 ·rw [hs _ (by omega), hl _ (by omega)]; exact h.md.frm.block k' hk hk2
 ·exact heap_setCell_same w2 g 2 _ _ _ hv2
 ·rw [hs _ (by omega), hl _ (by omega)]; exact h.md.rd
 ·rw [kL_push a b k z] at hown
  exact own_keep hown fun g' e => hs g' (by have := (hown.lt g' e).1; omega)
end
/-- The state's rows lie there. -/
theorem DdS.at {w wr : World} {x0 x1 x2 : Int} {P : Nat → Py} {H : Nat → Hd} {p : Pl} {A : Nat → Option Addr × Nat} {i j : Nat} {ad : Option Addr} {n cap : Nat} {er : Int} {q : Option (List Int)} (h : DdS w wr x0 x1 x2 P H p A i j ad n cap er q) (w' : World) (hk : ∀ k, w.heap.size + 3 ≤ k → k < wr.heap.size → w'.heap[k]? = wr.heap[k]?) : SvAt w' ⟨x0, x1, x2, i, P, j, H⟩ p := by
 have hp : w'.ownsRow (w.heap.size + 3) 73 36 (.slice p.pa i p.pc) i (flatL (pf P) i) := own_keep h.py fun g e => hk g (h.py.lt g e).1 (h.py.lt g e).2
 have hh : w'.ownsRow (w.heap.size + 3) 55 3 (.slice p.ha j p.hc) j (flatL (hf H A) j) := own_keep h.hd fun g e => hk g (h.hd.lt g e).1 (h.hd.lt g e).2
 have hks : ∀ k, k < j → w'.ownsRow (w.heap.size + 3) 3 1 (.slice (A k).1 (H k).n (A k).2) (H k).n (kL (H k)) := fun k hj => own_keep (h.ks k hj) fun g e => hk g ((h.ks k hj).lt g e).1 ((h.ks k hj).lt g e).2
 exact ⟨⟨h.lk, fun h0 => by obtain ⟨g, e, _, _, hr⟩ := own_range hp h0; exact ⟨g, 0, e, (flatL_range i (pf_len P i)).1 hr⟩⟩, hd_of_row hh (fun k hj => ⟨kL_isAt (hks k hj), (own_nil (hks k hj)).2⟩), (own_nil hp).1, (own_nil hh).1, (own_nil hp).2, (own_nil hh).2⟩
end Go.Proofs.YthmmmkldmhjogaaGreatDoor
