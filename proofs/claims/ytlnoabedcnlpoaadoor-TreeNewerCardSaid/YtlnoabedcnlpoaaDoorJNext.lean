/- tree.Next. -/
import Derived.Test.YtlnoabedcnlpoaaDoorJClone
import Derived.Test.YtlnoabedcnlpoaaDoorJLeft
namespace Go.Proofs.YtlnoabedcnlpoaaDoor
open Go.RowKit Go.Shelf

attribute [local go_sem] Oper.semAt_some

section
variable {F : Fence} {m : Nat} {ops : Array Oper} {rest : List Oper} {o : Oper} {a : Act} {w : World} {Q : Exit → Act → World → Prop}
theorem wpListIn_loadT (hg : o.guard = none) (x : Operand) (ho : o.op = .load 32 x) (g : Nat) (hx : a.eval x = .pointer (some ⟨g, 0, none⟩)) (c : Tc) (ka : Option Addr) (kc : Nat) (hc : w.rangeAt g 0 (tcl c ka kc))
    (h : wpListIn F m Tryd.prog ops Q rest (a.put o.dst (.agg (tcl c ka kc).toArray)) w) : wpListIn F m Tryd.prog ops Q (o :: rest) a w := by
  refine wpListIn_plain hg fun K hK => ?_
  unfold Oper.wpIn
  refine ⟨?_, ?_⟩
  · simp [Oper.about, ho]
  · rw [Oper.semAt_plain F _ _ (by rw [ho]; intro c hc'; cases hc')]
    unfold execOp
    simp only [ho, hx, Instr.loadAt, Instr.sureAddr, Sem.run_bind, Sem.run_pure, Result.andThen_ok, run_loadVar_mid w g 0 32 (tcl c ka kc) _ hc Tryd.underlying32 rfl (szTl c ka kc)]
    exact hK _ _ h
end
theorem run_allocPth (w : World) : (Instr.alloc 34 true (.tuple #[])).run Tryd.prog w = .ok (.pointer (some ⟨w.heap.size, 0, none⟩)) (w.alloc (.cells #[.slice none 0 0] 34)) := by kernel_rfl
theorem run_allocErr (w : World) : (Instr.alloc 36 true (.tuple #[])).run Tryd.prog w = .ok (.pointer (some ⟨w.heap.size, 0, none⟩)) (w.alloc (.cells #[.nilIface] 36)) := by kernel_rfl
/-- The path that takes another one's place. -/
def nextZ (c : Tc) (z : Nat → Int) (a : Nat) : Nat → Int := fun j => if j < a then z j else if j = a then z j - c.st else c.fi
/-- A row of ints in a block. -/
def RowAt (w : World) (g n : Nat) (y : Nat → Int) : Prop := ∃ cur : Array Value, w.heap[g]? = some (.cells cur 3 (0, 0)) ∧ ∀ j, j < n → cur[j]? = some (.int .i64 (y j))
theorem rowAt_of {w : World} {g n : Nat} {z : Nat → Int} {cur : Array Value} (h : w.heap[g]? = some (.cells cur 3 (0, 0))) (hl : cur.toList.take (n * 1) = iC (keysL z n)) : RowAt w g n z := ⟨cur, h, fun j hj => by
  have := congrArg (fun l => l[j]?) hl
  simp only [List.getElem?_take, Nat.mul_one, if_pos hj, iC, List.getElem?_map, keysL_at hj, Array.getElem?_toList, Option.map_some] at this
  exact this⟩
theorem RowAt.is {w : World} {g n : Nat} {y : Nat → Int} (h : RowAt w g n y) : IsAt w (some ⟨g, 0, none⟩) n y := fun _ => ⟨g, 0, rfl, fun j hj => by
  obtain ⟨cur, h1, h2⟩ := h
  rw [cell_of_row _ _ _ _ _ _ h1, Nat.zero_add]; exact h2 j hj⟩
theorem RowAt.keep {w w' : World} {g n : Nat} {y : Nat → Int} (h : RowAt w g n y) (hk : ∀ cs t, w.heap[g]? = some (.cells cs t (0, 0)) → w'.heap[g]? = some (.cells cs t (0, 0))) : RowAt w' g n y := by
  obtain ⟨cur, h1, h2⟩ := h
  exact ⟨cur, hk _ _ h1, h2⟩
theorem RowAt.set {w : World} {g n i : Nat} {y y' : Nat → Int} {v : Int} (h : RowAt w g n y) (hy : ∀ j, y' j = if j = i then v else y j) : RowAt (w.setCell ⟨g, i, none⟩ (.int .i64 v)) g n y' := by
  obtain ⟨cur, h1, h2⟩ := h
  refine ⟨_, heap_setCell_same w g i _ _ _ h1, fun j hj => ?_⟩
  have hjs : j < cur.size := by have := h2 j hj; exact (Array.getElem?_eq_some_iff.1 this).1
  rw [hy, Array.getElem?_setIfInBounds]
  by_cases e : j = i
  · subst e; rw [if_pos rfl, if_pos hjs, if_pos rfl]
  · rw [if_neg (fun h => e h.symm), if_neg e]; exact h2 j hj
/-- On the way: the ranks of pre are First again. -/
structure LI (c : Tc) (ka : Option Addr) (kc : Nat) (z : Nat → Int) (n : Nat) (w : World) (B1 B2 B7 g cp N : Nat) (pre : List (Fin n)) (W : World) : Prop where
  tree : W.heap[w.heap.size]? = some (.cells (tcv c ka kc) 32 (0, 0))
  q : Boxed W B1 34 (.slice none 0 0)
  e : Boxed W B2 36 .nilIface
  nx : Boxed W B7 34 (.slice (some ⟨g, 0, none⟩) n cp)
  row : RowAt W g n (fun j => if j ∈ pre.map Fin.val then c.fi else z j)
  below : Below w.heap.size w W
  size : N ≤ W.heap.size
  none : ∀ x ∈ pre, stp c (z x.val) = 0
/-- It is found. -/
structure LX (c : Tc) (z : Nat → Int) (n : Nat) (w : World) (B1 B2 g cp : Nat) (k : Code) (pre : List (Fin n)) (W : World) : Prop where
  ret : k = .ret
  ini : ∃ (ini : List (Fin n)) (x : Fin n), pre = ini ++ [x] ∧ (∀ y ∈ ini, stp c (z y.val) = 0) ∧ 0 < stp c (z x.val) ∧ RowAt W g n (fun j => if j = x.val then z j - c.st else if j ∈ ini.map Fin.val then c.fi else z j)
  q : Boxed W B1 34 (.slice (some ⟨g, 0, none⟩) n cp)
  e : Boxed W B2 36 .nilIface
  below : Below w.heap.size w W
theorem keepC {X Y : World} {row : Option Nat} {B k : Nat} {cs : Array Value} {t : TypeId} (hg : X.grownBy Y row) (hr : ∀ r, row = some r → B ≤ r ∧ ∃ o : Obj, X.heap[r]? = some o ∧ o.isCells = false) (h : X.heap[k]? = some (.cells cs t (0, 0))) : Y.heap[k]? = some (.cells cs t (0, 0)) := by
  rw [hg.block k (lt_of_block h) (fun e => by
    obtain ⟨_, o, ho, hc⟩ := hr k e.symm
    rw [h] at ho
    cases ho
    cases hc)]
  exact h
theorem keepB {w X Y : World} {row : Option Nat} {B : Nat} (hg : X.grownBy Y row) (hr : ∀ r, row = some r → B ≤ r ∧ ∃ o : Obj, X.heap[r]? = some o ∧ o.isCells = false) (hB : w.heap.size ≤ B) (h : Below w.heap.size w X) : Below w.heap.size w Y :=
  h.grown hg h.size (fun k e => by have := (hr k e).1; omega)
theorem LI.own {c : Tc} {ka : Option Addr} {kc : Nat} {z : Nat → Int} {n : Nat} {w : World} {B1 B2 B7 g cp N B : Nat} (hB : w.heap.size ≤ B) : OwnFrom B (LI c ka kc z n w B1 B2 B7 g cp N) := fun _ _ _ _ hs hg hr =>
  ⟨keepC hg hr hs.tree, keepC hg hr hs.q, keepC hg hr hs.e, keepC hg hr hs.nx, hs.row.keep (fun _ _ h => keepC hg hr h), keepB hg hr hB hs.below, Nat.le_trans hs.size hg.size, hs.none⟩
theorem LX.own {c : Tc} {z : Nat → Int} {n : Nat} {w : World} {B1 B2 g cp B : Nat} {k : Code} (hB : w.heap.size ≤ B) : OwnFrom B (LX c z n w B1 B2 g cp k) := fun pre X Y row hs hg hr => by
  obtain ⟨ini, x, h1, h2, h3, h4⟩ := hs.ini
  exact ⟨hs.ret, ⟨ini, x, h1, h2, h3, h4.keep (fun _ _ h => keepC hg hr h)⟩, keepC hg hr hs.q, keepC hg hr hs.e, keepB hg hr hB hs.below⟩
theorem keepsFrom_below {B : Nat} {W W' : World} (h : Below W.heap.size W W') : KeepsFrom B W W' := ⟨h.size, fun _ _ _ hk _ => heap_below h hk⟩
theorem LI.keep {c : Tc} {ka : Option Addr} {kc : Nat} {z : Nat → Int} {n : Nat} {w : World} {B1 B2 B7 g cp N : Nat} {pre : List (Fin n)} {W W' : World} (h : LI c ka kc z n w B1 B2 B7 g cp N pre W) (hb : Below W.heap.size W W') : LI c ka kc z n w B1 B2 B7 g cp N pre W' :=
  ⟨heap_below hb h.tree, heap_below hb h.q, heap_below hb h.e, heap_below hb h.nx, h.row.keep (fun _ _ e => heap_below hb e), h.below.trans (hb.mono h.below.size), Nat.le_trans h.size hb.size, h.none⟩
theorem kp_below {n₀ B : Nat} {W W' : World} (h : Below W.heap.size W W') (hn : n₀ ≤ W.heap.size) (hB : B < W.heap.size) : Kp n₀ B W W' := ⟨h.mono hn, h.block B hB⟩
theorem heapO {w : World} {k : Nat} {o : Obj} (p : Addr) (u : Value) (h : w.heap[k]? = some o) (hne : ¬ k = p.block) : (w.setCell p u).heap[k]? = some o := by
  rw [Below.heap_setCell _ _ _ _ hne]; exact h
theorem RowAt.other {w : World} {g n : Nat} {y : Nat → Int} (h : RowAt w g n y) (p : Addr) (u : Value) (hne : ¬ g = p.block) : RowAt (w.setCell p u) g n y := h.keep fun _ _ e => heapO p u e hne
/-- What Next answers. -/
structure NxR (c : Tc) (z : Nat → Int) (n : Nat) (w : World) (e : Ending) (w' : World) : Prop where
  bad : isE c z n ≠ 0 → e = .returned (.tuple #[.slice none 0 0, errV (isE c z n)])
  slot : isE c z n = 0 → (∀ i, i < n → stp c (z i) = 0) → e = .returned (.tuple #[.slice none 0 0, errV 30])
  ok : isE c z n = 0 → ∀ a, a < n → 0 < stp c (z a) → (∀ i, a < i → i < n → stp c (z i) = 0) → ∃ g cap, e = .returned (.tuple #[.slice (some ⟨g, 0, none⟩) n cap, .nilIface]) ∧ IsAt w' (some ⟨g, 0, none⟩) n (nextZ c z a)
  below : Below w.heap.size w w'
  typ : ∀ g m cap v, e = .returned (.tuple #[.slice (some ⟨g, 0, none⟩) m cap, v]) → ∃ cur, w'.heap[g]? = some (.cells cur 3 (0, 0))
set_option maxRecDepth 100000 in
set_option maxHeartbeats 3200000 in
theorem next_in (c : Tc) (ka : Option Addr) (kc : Nat) (ad : Option Addr) (n cap : Nat) (z : Nat → Int) (w : World) (h : IsAt w ad n z) (hn : n ≤ 1000000) (hI : TcIn w c ka) :
    CallsIn Fence.wide 5 Tryd.prog 11 #[.agg (tcv c ka kc), .slice ad n cap] w (NxR c z n w) := by
  have HH : Hid (IsAt w ad n z ∧ TcIn w c ka) := ⟨h, hI⟩
  clear h hI
  refine callsIn_of_wp_marks Tryd.func11 rfl trivial ?_ rfl
  simp only [Tryd.ntmps11, List.size_toArray, List.length_cons, List.length_nil, Nat.reduceAdd, Nat.reduceSub, Array.replicate_succ, Array.replicate_zero, List.push_toArray, List.append_toArray, List.nil_append, List.cons_append]
  refine wpIn_wide.2 ?_
  go_upto_region 1 with (first | (refine wpList_boxN rfl _ _ rfl (tcv c ka kc) rfl ?_; intro v1 N1) | (refine wpList_allocN 34 #[.slice none 0 0] run_allocPth rfl rfl ?_; intro v2 N2) | (refine wpList_allocN 36 #[.nilIface] run_allocErr rfl rfl ?_; intro v3 N3) | fail)
  have HX : Hid (Below w.heap.size w v3 ∧ (w.heap.size < v1.heap.size ∧ v1.heap.size < v2.heap.size ∧ v2.heap.size < v3.heap.size) ∧ v3.heap[w.heap.size]? = some (.cells (tcv c ka kc) 32 (0, 0)) ∧ v3.heap[v1.heap.size]? = some (.cells #[.slice none 0 0] 34 (0, 0)) ∧ v3.heap[v2.heap.size]? = some (.cells #[.nilIface] 36 (0, 0))) :=
    ⟨Below.transS (Below.transS N1.below N2.below) N3.below, ⟨by rw [N1.size]; omega, by rw [N2.size]; omega, by rw [N3.size]; omega⟩, N3.old (N2.old N1.blk), N3.old N2.blk, N3.blk⟩
  clear N1 N2 N3
  have HR3 := hidV (tcl_range HX.out.2.2.1)
  go_wp2_with (first | (refine wpList_load_mid rfl 32 _ rfl w.heap.size 0 rfl (tcl c ka kc) _ HR3.out Tryd.underlying32 rfl (szTl c ka kc) ?_) | fail)
  refine (checkPath_any c ka kc ad n cap z v3 (HH.out.1.below HX.out.1) hn (HH.out.2.below HX.out.1)).mono ?_
  rintro e v4 ⟨rfl, hb4⟩
  have HB4 := hidV hb4
  have HBE := hidV (Below.transS HX.out.1 hb4)
  clear hb4 HR3
  have HY : Hid (v4.heap[w.heap.size]? = some (.cells (tcv c ka kc) 32 (0, 0)) ∧ v4.heap[v1.heap.size]? = some (.cells #[.slice none 0 0] 34 (0, 0)) ∧ v4.heap[v2.heap.size]? = some (.cells #[.nilIface] 36 (0, 0))) :=
    ⟨heap_below HB4.out HX.out.2.2.1, heap_below HB4.out HX.out.2.2.2.1, heap_below HB4.out HX.out.2.2.2.2⟩
  by_cases h0 : isE c z n = 0
  · have HZ := hidV h0
    have HO := hidV (isE_ok h0)
    have HT := hidV (chkT_ok HO.out.1)
    have hn1 : 1 ≤ n := by have := HO.out.2.1; have := HT.out.1.1; omega
    have HN1 := hidV hn1
    rw [h0, errV_zero]
    clear h0
    go_wp2_with fail
    refine (clone_any ad n cap z v4 (HH.out.1.below HBE.out) hn1 hn).mono ?_
    rintro e v5 ⟨vn, rfl, hO5⟩
    obtain ⟨g, cp, cur, rfl, hg4, hgb, hcp, -, hcs, htk⟩ : ∃ g cap cur, vn = .slice (some ⟨g, 0, none⟩) n cap ∧ v4.heap.size ≤ g ∧ v5.heap[g]? = some (.cells cur 3 (0, 0)) ∧ n ≤ cap ∧ cap ≤ maxLen ∧ cur.size = cap * 1 ∧ cur.toList.take (n * 1) = iC (keysL z n) := by
      have h5 := hO5.own.2
      rw [keysL_length] at h5
      rcases h5 with ⟨-, e⟩ | ⟨g, cap, cur, h⟩
      · omega
      · exact ⟨g, cap, cur, h⟩
    have hrow5 : RowAt v5 g n z := rowAt_of hgb htk
    have HB5 := hidV hO5.below
    have HG := hidV (And.intro hg4 (lt_of_block hgb))
    clear hn1 hO5 hgb hcp hcs htk hg4
    have HR5 := hidV hrow5
    clear hrow5
    go_wp2_with (first | (refine wpList_allocN 34 #[.slice none 0 0] run_allocPth rfl rfl ?_; intro v6 N6; have b6 : Boxed v6 v5.heap.size 34 (.slice none 0 0) := N6.blk; have c6 := b6.cell; have f6 := b6.frozen) | fail)
    have B7 := b6.set (.slice (some ⟨g, 0, none⟩) n cp)
    have F7 : Frm [v5.heap.size] v6 (v6.setCell ⟨v5.heap.size, 0, none⟩ (.slice (some ⟨g, 0, none⟩) n cp)) := (Frm.refl _ _).setCell _ _ (by simp)
    generalize v6.setCell ⟨v5.heap.size, 0, none⟩ (.slice (some ⟨g, 0, none⟩) n cp) = v7 at *
    obtain ⟨b, off, rfl, hc0⟩ := HH.out.1 HN1.out
    have hbw : b < w.heap.size := World.block_lt_of_cell? w ⟨b, off + 0, none⟩ (hc0 0 HN1.out)
    refine (callsIn_wide.1 (back_in Fence.wide 1 trivial rfl (some ⟨b, off, none⟩) n cap v7)).mono ?_
    rintro e w8 ⟨rfl, hw8⟩
    have N8 := new_alloc v7 #[.slice (some ⟨b, off, none⟩) n cap] 34
    rw [← hw8] at N8
    clear hw8
    have H75 : v6.heap.size ≤ v7.heap.size := F7.size
    have H8 := hidV (And.intro N8.size H75)
    have hlt := HX.out.2.1
    have hg5 := HG.out
    have h45 := HB5.out.size
    have h34 := HB4.out.size
    have h67 := N6.size
    have hB7 : Below v5.heap.size v5 v7 := N6.below.trans (F7.below N6.below.size (by simp))
    have o8 : ∀ k o, k < v5.heap.size → v5.heap[k]? = some o → w8.heap[k]? = some o := fun k o hk h => N8.old (by rw [hB7.block k hk]; exact h)
    have HI0 : Hid (LI c ka kc z n w v1.heap.size v2.heap.size v5.heap.size g cp w8.heap.size [] w8) :=
      ⟨o8 _ _ (by omega) (heap_below HB5.out HY.out.1), o8 _ _ (by omega) (heap_below HB5.out HY.out.2.1), o8 _ _ (by omega) (heap_below HB5.out HY.out.2.2), N8.old B7,
       (by have := HR5.out.keep (w' := w8) (fun cs t h => o8 _ _ hg5.2 h); simpa using this), Below.transS (Below.transS HBE.out HB5.out) (hB7.trans (N8.below.mono hB7.size)), Nat.le_refl _, fun x hx => by cases hx⟩
    have H9 : Hid (Boxed w8 v7.heap.size 34 (.slice (some ⟨b, off, none⟩) n cap)) := N8.blk
    have HS : Hid (w.heap.size < v1.heap.size ∧ v1.heap.size < v2.heap.size ∧ v2.heap.size < g ∧ g < v5.heap.size ∧ v5.heap.size < v7.heap.size ∧ v7.heap.size < w8.heap.size ∧ b < w.heap.size) := ⟨by omega, by omega, by omega, by omega, by omega, by have := N8.size; omega, hbw⟩
    have HC : Hid (∀ j, j < n → w8.cell? ⟨b, off + j, none⟩ = some (.int .i64 (z j))) := fun j hj => by
      rw [HI0.out.below.cell (p := ⟨b, off + j, none⟩) hbw]; exact hc0 j hj
    clear N8 H75 H8 hlt hg5 h45 h34 h67 hB7 o8 B7 F7 b6 c6 f6 N6 hc0 HY HR5 HB5 HB4 HG hbw cur
    go_wp2_with fail
    refine (wpIn_wide (n := 5)).1 (wpIn_rangeFunc_ownH rfl (by omega) (gf := 37) (lb := #[.pointer (some ⟨v7.heap.size, 0, none⟩)]) rfl trivial (enters_of Tryd.func37 (by kernel_rfl) rfl)
      (back_stops Fence.wide 4 trivial rfl (by omega) v7.heap.size w.heap.size b off n cap z hn w8 HS.out.2.2.2.2.2.1 HS.out.2.2.2.2.2.2 (by have := HS.out; omega) H9.out.cell HC.out) kp_t (kp_b (by have := HS.out; omega) HS.out.2.2.2.2.2.1) (Below.refl _ _) (fun _ => rfl)
      (LI c ka kc z n w v1.heap.size v2.heap.size v5.heap.size g cp w8.heap.size) (LX c z n w v1.heap.size v2.heap.size g cp) (LI.own (by have := HS.out; omega)) (fun _ => LX.own (by have := HS.out; omega)) HI0.out
      (fun x a' _ => a' = { tmps := #[.agg (tcv c ka kc), .slice (some ⟨b, off, none⟩) n cap, .pointer (some ⟨w.heap.size, 0, none⟩), undef, .pointer (some ⟨v1.heap.size, 0, none⟩), .pointer (some ⟨v2.heap.size, 0, none⟩), .nilIface, .pointer (some ⟨v5.heap.size, 0, none⟩), .int .i64 (x.val : Int), .int .i64 (z x.val), .agg (tcl c ka kc).toArray, .slice (some ⟨b, off, none⟩) n cap, .nilIface, .nilIface, .bool false, undef, .slice (some ⟨b, off, none⟩) n cap, .slice (some ⟨g, 0, none⟩) n cp, .slice (some ⟨b, off, none⟩) n cap, .func (.func 37) #[] #[.pointer (some ⟨v7.heap.size, 0, none⟩)], .int .i64 (x.val : Int), .int .i64 (z x.val), undef, undef, undef, undef, undef, undef, undef, undef, undef, undef, undef, undef, undef, undef, undef, undef, undef, undef], defers := [] }) (fun x a' => ownFrom_pure _ _) ?assign ?body ?done ?stop)
    case assign =>
      rintro l pre x W K hI hK
      unfold encP
      gi_wp2
      exact hK _ _ (KeepsFrom.refl _ _) (kp_refl _ _ _) hI rfl
    case body =>
      rintro l pre x a' W hl ⟨r, hr⟩ hI rfl hlt
      have hz := (HO.out.2.2 x.val x.isLt).1
      have hsl := stepsLeft_any c ka kc (z x.val) W HT.out.1 hz.1 hz.2
      have HZ2 := hidV hz
      have HR := hidV (tcl_range hI.tree)
      have HI := hidV hI
      clear hI hr hlt hz
      have h1 : 1 ≤ 5 - 1 - 1 := by omega
      gi_wp2_with (first | (refine wpListIn_loadT rfl _ rfl w.heap.size rfl c ka kc HR.out ?_) | fail)
      refine ⟨trivial, (CallsIn.inRound l (callsIn_wide.2 hsl)).mono ?_⟩
      rintro e w9 ⟨rfl, hb9⟩
      have HI9 := hidV (HI.out.keep hb9)
      have HK9 : Hid (KeepsFrom w8.heap.size W w9 ∧ Kp w.heap.size v7.heap.size W w9) := ⟨keepsFrom_below hb9, kp_below hb9 HI.out.below.size (by have := HI.out.size; have := HS.out; omega)⟩
      clear hb9 hsl HR
      have c7 := HI9.out.nx.cell
      have c1 := HI9.out.q.cell
      have f1 := HI9.out.q.frozen
      have c2 := HI9.out.e.cell
      have f2 := HI9.out.e.frozen
      obtain ⟨cur, hcur, hcu⟩ := HI9.out.row
      have cg : w9.cell? ⟨g, x.val, none⟩ = some (.int .i64 (if x.val ∈ pre.map Fin.val then c.fi else z x.val)) := by rw [cell_of_row _ _ _ _ _ _ hcur]; exact hcu x.val x.isLt
      have fg : w9.frozen? ⟨g, x.val, none⟩ = false := frozen_of_row _ _ _ _ _ hcur
      generalize (if x.val ∈ pre.map Fin.val then c.fi else z x.val) = yv at cg
      clear hcur hcu cur
      have xlt : (x.val : Int) < n := by have := x.isLt; omega
      have x0 : (0 : Int) ≤ x.val := by omega
      have tb := tcBox (tcl_range HI9.out.tree)
      have cst := tb.st
      have cfi := tb.fi
      clear tb
      have d1 : ¬ v1.heap.size = g := by have := HS.out; omega
      have d2 : ¬ v2.heap.size = g := by have := HS.out; omega
      have d3 : ¬ v5.heap.size = g := by have := HS.out; omega
      have d4 : ¬ w.heap.size = g := by have := HS.out; omega
      have d5 : ¬ g = v1.heap.size := by have := HS.out; omega
      have d6 : ¬ g = v2.heap.size := by have := HS.out; omega
      have d7 : ¬ g = v5.heap.size := by have := HS.out; omega
      have d8 : ¬ v1.heap.size = v2.heap.size := by have := HS.out; omega
      have d9 : ¬ v2.heap.size = v1.heap.size := by have := HS.out; omega
      by_cases hs : 0 < stp c (z x.val)
      · have hst : c.la ≤ z x.val - c.st := by
          have h2 := Int.ediv_mul_le (z x.val - c.la) (b := c.st) (by have := HT.out.1.2.1; omega)
          have h3 : 1 * c.st ≤ stp c (z x.val) * c.st := Int.mul_le_mul_of_nonneg_right (by omega) (by have := HT.out.1.2.1; omega)
          have : stp c (z x.val) * c.st ≤ z x.val - c.la := h2
          omega
        have ws : IntKind.i64.wrap (z x.val - c.st) = z x.val - c.st := by have := HZ2.out; have := HT.out.1; have := HT.out.1.2.1; have := HT.out.1.2.2; rw [IntKind.wrap_i64]; omega
        have HE := hidV hs
        have HP : Hid (KeepsFrom w8.heap.size W (((w9.setCell ⟨g, x.val, none⟩ (.int .i64 (z x.val - c.st))).setCell ⟨v1.heap.size, 0, none⟩ (.slice (some ⟨g, 0, none⟩) n cp)).setCell ⟨v2.heap.size, 0, none⟩ .nilIface) ∧ LX c z n w v1.heap.size v2.heap.size g cp .ret (pre ++ [x]) (((w9.setCell ⟨g, x.val, none⟩ (.int .i64 (z x.val - c.st))).setCell ⟨v1.heap.size, 0, none⟩ (.slice (some ⟨g, 0, none⟩) n cp)).setCell ⟨v2.heap.size, 0, none⟩ .nilIface)) := by
          have q1 : Boxed (w9.setCell ⟨g, x.val, none⟩ (.int .i64 (z x.val - c.st))) v1.heap.size 34 (.slice none 0 0) := heapO _ _ HI9.out.q d1
          have q2 : Boxed (w9.setCell ⟨g, x.val, none⟩ (.int .i64 (z x.val - c.st))) v2.heap.size 36 .nilIface := heapO _ _ HI9.out.e d2
          have q3 := q1.set (.slice (some ⟨g, 0, none⟩) n cp)
          have q4 : Boxed ((w9.setCell ⟨g, x.val, none⟩ (.int .i64 (z x.val - c.st))).setCell ⟨v1.heap.size, 0, none⟩ (.slice (some ⟨g, 0, none⟩) n cp)) v2.heap.size 36 .nilIface := heapO _ _ q2 d9
          refine ⟨HK9.out.1.trans ((((KeepsOthers.setCell _ _ _).from _).trans ((KeepsOthers.setCell _ _ _).from _)).trans ((KeepsOthers.setCell _ _ _).from _)), rfl, ⟨pre, x, rfl, HI9.out.none, HE.out, ?_⟩, heapO _ _ q3 d8, q4.set .nilIface, ?_⟩
          · refine RowAt.other (RowAt.other (RowAt.set HI9.out.row (fun j => ?_)) _ _ d5) _ _ d6
            by_cases e : j = x.val
            · rw [if_pos e, if_pos e, e]
            · rw [if_neg e, if_neg e]
          · have hS := HS.out
            exact ((HI9.out.below.setCell (p := ⟨g, x.val, none⟩) (by show _ ≤ g; omega) _).setCell (p := ⟨v1.heap.size, 0, none⟩) (by show _ ≤ v1.heap.size; omega) _).setCell (p := ⟨v2.heap.size, 0, none⟩) (by show _ ≤ v2.heap.size; omega) _
        gi_wp2
        exact HP.out
      · have hs0 : stp c (z x.val) = 0 := by have := (stp_bd HT.out.1 HT.out.2.1 HZ2.out.1 HZ2.out.2).1; omega
        have HE := hidV hs0
        rw [hs0]
        clear hs hs0
        have HP : Hid (KeepsFrom w8.heap.size W (w9.setCell ⟨g, x.val, none⟩ (.int .i64 c.fi)) ∧ Kp w.heap.size v7.heap.size W (w9.setCell ⟨g, x.val, none⟩ (.int .i64 c.fi)) ∧ LI c ka kc z n w v1.heap.size v2.heap.size v5.heap.size g cp w8.heap.size (pre ++ [x]) (w9.setCell ⟨g, x.val, none⟩ (.int .i64 c.fi))) := by
          have hS := HS.out
          have hb := HI9.out.below.setCell (p := ⟨g, x.val, none⟩) (by show _ ≤ g; omega) (.int .i64 c.fi)
          refine ⟨HK9.out.1.trans ((KeepsOthers.setCell _ _ _).from _), kp_t HK9.out.2 ⟨(Below.refl _ _).setCell (p := ⟨g, x.val, none⟩) (by show _ ≤ g; omega) _, Below.heap_setCell _ _ _ _ (by show ¬ v7.heap.size = g; omega)⟩, heapO _ _ HI9.out.tree d4, heapO _ _ HI9.out.q d1, heapO _ _ HI9.out.e d2, heapO _ _ HI9.out.nx d3, ?_, hb, by have := HI9.out.size; simpa using this, fun y hy => ?_⟩
          · refine RowAt.set HI9.out.row (fun j => ?_)
            by_cases e : j = x.val
            · rw [if_pos e, if_pos (by simp [e])]
            · rw [if_neg e]
              by_cases e2 : j ∈ pre.map Fin.val
              · rw [if_pos e2, if_pos (by rw [List.map_append]; exact List.mem_append_left _ e2)]
              · rw [if_neg e2, if_neg (by rw [List.map_append]; intro h; rcases List.mem_append.1 h with h | h; exact e2 h; simp at h; exact e h)]
          · rcases List.mem_append.1 hy with h | h
            · exact HI9.out.none y h
            · simp at h; subst h; exact HE.out
        gi_wp2
        exact HP.out
    case done =>
      rintro D ys W hD hys hI hK
      have hall : ∀ i, i < n → stp c (z i) = 0 := fun i hi => by
        have hm : i ∈ ys.map Fin.val := by rw [hys]; exact (dn_mem (Nat.le_refl n)).2 ⟨by omega, hi⟩
        obtain ⟨x, hx, rfl⟩ := List.mem_map.1 hm
        exact hI.none x hx
      have c1 := hI.q.cell
      have f1 := hI.q.frozen
      have c2 := hI.e.cell
      have f2 := hI.e.frozen
      have d8 : ¬ v1.heap.size = v2.heap.size := by have := HS.out; omega
      have d9 : ¬ v2.heap.size = v1.heap.size := by have := HS.out; omega
      have q2 : Boxed (W.setCell ⟨v1.heap.size, 0, none⟩ (.slice none 0 0)) v2.heap.size 36 .nilIface := heapO _ _ hI.e d9
      have q3 : Boxed ((W.setCell ⟨v1.heap.size, 0, none⟩ (.slice none 0 0)).setCell ⟨v2.heap.size, 0, none⟩ (.iface 64 (.int .i64 30))) v1.heap.size 34 (.slice none 0 0) := heapO _ _ (hI.q.set (.slice none 0 0)) d8
      have q4 := q2.set (.iface 64 (.int .i64 30))
      have hKD : ((W.setCell ⟨v1.heap.size, 0, none⟩ (.slice none 0 0)).setCell ⟨v2.heap.size, 0, none⟩ (.iface 64 (.int .i64 30))).heap[D]? = some (.deferred (some [])) := heapO _ _ (heapO _ _ hK (by have := HS.out; show ¬ D = v1.heap.size; omega)) (by have := HS.out; show ¬ D = v2.heap.size; omega)
      have hBB : Below w.heap.size w ((W.setCell ⟨v1.heap.size, 0, none⟩ (.slice none 0 0)).setCell ⟨v2.heap.size, 0, none⟩ (.iface 64 (.int .i64 30))) := by
        have hS := HS.out
        exact (hI.below.setCell (p := ⟨v1.heap.size, 0, none⟩) (by show _ ≤ v1.heap.size; omega) _).setCell (p := ⟨v2.heap.size, 0, none⟩) (by show _ ≤ v2.heap.size; omega) _
      have r1 := cell_kept q3.cell (grownBy_putObj' _ D (.deferred none)) (fun r e => by cases e; exact ⟨_, hKD, rfl⟩)
      have r2 := cell_kept q4.cell (grownBy_putObj' _ D (.deferred none)) (fun r e => by cases e; exact ⟨_, hKD, rfl⟩)
      have HP : Hid (NxR c z n w (.returned (.tuple #[.slice none 0 0, .iface 64 (.int .i64 30)])) (((W.setCell ⟨v1.heap.size, 0, none⟩ (.slice none 0 0)).setCell ⟨v2.heap.size, 0, none⟩ (.iface 64 (.int .i64 30))).putObj D (.deferred none))) :=
        ⟨fun h => absurd HZ.out h, fun _ _ => rfl, fun _ a ha h1 _ => by have := hall a ha; omega, hBB.trans (belowK_b (w := w) (Nat.le_refl _) _ D _ _ (by have := HS.out; omega) hKD rfl rfl), fun _ _ _ _ h => by cases h⟩
      clear q2 q3 q4 hBB hall hys
      have HKD := hidV hKD
      clear hK hKD
      go_wp2
      refine ⟨by simp, .inl ⟨_, _, rfl, run_takeDeferred HKD.out, ?_⟩⟩
      refine ⟨_, ?_, HP.out⟩
      simp [results, Tryd.f11, go_sem, r1, r2]
    case stop =>
      rintro D k pre W hD ⟨j, hj, hpre⟩ hI hK
      obtain ⟨rfl, ⟨ini, x, rfl, h2, h3, h4⟩, hq, he, hb⟩ := hI
      have hj1 : j = ini.length + 1 := by have := congrArg List.length hpre; simp [dn_length] at this; omega
      subst hj1
      rw [dn_succ, List.map_append] at hpre
      obtain ⟨hp1, hp2⟩ := List.append_inj hpre (by simp [dn_length])
      have hx : x.val = n - 1 - ini.length := by simpa using hp2
      have r1 := cell_kept hq.cell (grownBy_putObj' _ D (.deferred none)) (fun r e => by cases e; exact ⟨_, hK, rfl⟩)
      have r2 := cell_kept he.cell (grownBy_putObj' _ D (.deferred none)) (fun r e => by cases e; exact ⟨_, hK, rfl⟩)
      have hR : RowAt (W.putObj D (.deferred none)) g n (fun j => if j = x.val then z j - c.st else if j ∈ ini.map Fin.val then c.fi else z j) := h4.keep fun cs t e => keepC (B := 0) (grownBy_putObj' _ D (.deferred none)) (fun r e2 => by cases e2; exact ⟨Nat.zero_le _, _, hK, rfl⟩) e
      have HP : Hid (NxR c z n w (.returned (.tuple #[.slice (some ⟨g, 0, none⟩) n cp, .nilIface])) (W.putObj D (.deferred none))) := by
        refine ⟨fun h => absurd HZ.out h, fun _ h => by have := h x.val x.isLt; omega, fun _ a ha q1 q2 => ⟨g, cp, rfl, hR.is.same (fun j hj => ?_)⟩, hb.trans (belowK_b (w := w) (Nat.le_refl _) _ D _ _ (by have := HS.out; omega) hK rfl rfl), fun _ _ _ _ h => by cases h; obtain ⟨cur, h1, _⟩ := hR; exact ⟨cur, h1⟩⟩
        have hmem : ∀ i, i ∈ ini.map Fin.val ↔ n - ini.length ≤ i ∧ i < n := fun i => by rw [hp1]; exact dn_mem (by omega)
        have hax : a = x.val := by
          by_cases g1 : a < x.val
          · have := q2 x.val g1 x.isLt; omega
          · by_cases g2 : x.val < a
            · obtain ⟨y, hy, rfl⟩ := List.mem_map.1 ((hmem a).2 ⟨by omega, ha⟩)
              have := h2 y hy; omega
            · omega
        subst hax
        unfold nextZ
        by_cases e1 : j = x.val
        · rw [if_pos e1, if_neg (by omega), if_pos e1]
        · rw [if_neg e1]
          by_cases e2 : j < x.val
          · rw [if_neg (fun h => by have := (hmem j).1 h; omega), if_pos e2]
          · rw [if_pos ((hmem j).2 ⟨by omega, hj⟩), if_neg e2, if_neg e1]
      clear hR h4 hpre hp1 hp2 h2 h3 hb
      gi_wp2
      refine ⟨by simp, .inl ⟨_, _, rfl, run_takeDeferred hK, ?_⟩⟩
      refine ⟨_, ?_, HP.out⟩
      simp [results, Tryd.f11, go_sem, r1, r2]
  · have HE := hidV h0
    have HV := hidV (errV_ne h0)
    rw [errV_ne h0]
    clear h0
    have b1 : Boxed v4 v1.heap.size 34 (.slice none 0 0) := HY.out.2.1
    have b2 : Boxed v4 v2.heap.size 36 .nilIface := HY.out.2.2
    have c1 := b1.cell
    have f1 := b1.frozen
    have c2 := b2.cell
    have f2 := b2.frozen
    have d12 : ¬ v1.heap.size = v2.heap.size := by have := HX.out.2.1; omega
    have d21 : ¬ v2.heap.size = v1.heap.size := by have := HX.out.2.1; omega
    have hB : Below w.heap.size w ((v4.setCell ⟨v1.heap.size, 0, none⟩ (.slice none 0 0)).setCell ⟨v2.heap.size, 0, none⟩ (.iface 64 (.int .i64 (isE c z n)))) := (HBE.out.setCell (p := ⟨v1.heap.size, 0, none⟩) (by have := HX.out.2.1; show _ ≤ v1.heap.size; omega) _).setCell (p := ⟨v2.heap.size, 0, none⟩) (by have := HX.out.2.1; show _ ≤ v2.heap.size; omega) _
    have r1 : ((v4.setCell ⟨v1.heap.size, 0, none⟩ (.slice none 0 0)).setCell ⟨v2.heap.size, 0, none⟩ (.iface 64 (.int .i64 (isE c z n)))).cell? ⟨v1.heap.size, 0, none⟩ = some (.slice none 0 0) := by
      rw [World.cell?_setCell_other _ _ _ _ (fun e => d21 (congrArg Addr.block e)), World.cell?_setCell_same' _ _ _ (by rw [c1]; rfl)]
    have r2 : ((v4.setCell ⟨v1.heap.size, 0, none⟩ (.slice none 0 0)).setCell ⟨v2.heap.size, 0, none⟩ (.iface 64 (.int .i64 (isE c z n)))).cell? ⟨v2.heap.size, 0, none⟩ = some (.iface 64 (.int .i64 (isE c z n))) := by
      rw [World.cell?_setCell_same' _ _ _ (by rw [World.cell?_setCell_other _ _ _ _ (fun e => d12 (congrArg Addr.block e)), c2]; rfl)]
    have HZ : Hid (NxR c z n w (.returned (.tuple #[.slice none 0 0, .iface 64 (.int .i64 (isE c z n))])) ((v4.setCell ⟨v1.heap.size, 0, none⟩ (.slice none 0 0)).setCell ⟨v2.heap.size, 0, none⟩ (.iface 64 (.int .i64 (isE c z n))))) :=
      ⟨fun _ => by rw [HV.out], fun h => absurd h HE.out, fun h => absurd h HE.out, hB, fun _ _ _ _ h => by cases h⟩
    go_wp2
    refine ⟨_, ?_, HZ.out⟩
    simp [results, Tryd.f11, go_sem, r1, r2]
theorem next_any (c : Tc) (ka : Option Addr) (kc : Nat) (ad : Option Addr) (n cap : Nat) (z : Nat → Int) (w : World) (h : IsAt w ad n z) (hn : n ≤ 1000000) (hI : TcIn w c ka) :
    Calls Tryd.prog 11 #[.agg (tcv c ka kc), .slice ad n cap] w (NxR c z n w) :=
  callsIn_wide.1 (next_in c ka kc ad n cap z w h hn hI)
end Go.Proofs.YtlnoabedcnlpoaaDoor
