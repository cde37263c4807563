/- give: a condition of any number of keys as the program's. -/
import Derived.Test.YtanchjfodcjlmaaGreatDoorOwnShelf08
import Derived.Test.YtanchjfodcjlmaaGreatDoorOwnShelf13
import Derived.Test.YtanchjfodcjlmaaGreatDoorOwnShelf11
namespace Go.Proofs.YtanchjfodcjlmaaGreatDoor.Cd
open Go.RowKit


/-- Ints appended to nothing. -/
theorem append_keysX (w : World) (ty : TypeId) (ka : Option Addr) (n kc : Nat) (z : Nat → Int) (h : IsAt w ka n z) (hn : n ≤ 17592186043904) :
  ∃ ka' kc' w1, (Builtin.append_ #[71, 71] ty #[.slice none 0 0, .slice ka n kc]).run Tryz.prog w = .ok (.slice ka' n kc') w1 ∧ IsAt w1 ka' n z ∧ Below w.heap.size w w1 ∧ (∀ a, ka' = some a → w.heap.size ≤ a.block ∧ a.block < w1.heap.size) := by
 obtain ⟨i0, hi0, hz0, hz1, hz2⟩ := info_parts infoI
 have own (a : Addr) (hc : ∀ j u, ((List.range n).map fun j => Value.int .i64 (z j))[j]? = some u → w.cell? (a.add j) = some u) := run_append_own_at (P := Tryz.prog) w w.heap.size 71 ty 3 i0 (.int .i64 0) 1 8 Tryz.underlying71 hi0 hz0 hz1 hz2 rfl (by decide) (.slice none 0 0) 0 [] (World.ownsRow_nil _ _ _ _) a n kc ((List.range n).map fun j => Value.int .i64 (z j)) (by simp) hc
   (fun u hu => by obtain ⟨y, _, rfl⟩ := List.mem_map.1 hu; rfl) (by simp only [maxLen]; omega) (by omega) (Nat.le_refl _)
 rcases Nat.eq_zero_or_pos n with h0 | hpos
 ·subst h0
  cases ka with
  | none =>
   refine ⟨none, 0, w, ?_, fun h => by omega, Below.refl _ _, fun a h => by cases h⟩
   simp [Builtin.append_, run_underlying Tryz.underlying71, sizeOf, typeInfo, hi0, Builtin.lenOf, Builtin.firstCells]
  | some a =>
   obtain ⟨v', w1, hr, h2, h3, h4, _⟩ := own a (fun j u hu => by simp at hu)
   obtain rfl := h4.2 ⟨rfl, rfl⟩
   exact ⟨none, 0, w1, hr, fun h => by omega, ⟨h3.os, h3.tape, h3.output, h3.size, fun k hk => h3.block k hk (by simp [Value.ownBlock])⟩, fun a h => by cases h⟩
 ·obtain ⟨b, off, rfl, hc⟩ := h hpos
  obtain ⟨v', w1, hr, h2, h3, h4, _⟩ := own ⟨b, off, none⟩ (fun j u hu => by
   simp only [List.getElem?_map, Option.map_eq_some_iff] at hu
   obtain ⟨q, h1, rfl⟩ := hu
   obtain ⟨h3, h4⟩ := List.getElem?_eq_some_iff.1 h1
   simp at h3 h4
   subst h4
   rw [Addr.add_lit]; exact hc _ h3)
  have hb : Below w.heap.size w w1 := ⟨h3.os, h3.tape, h3.output, h3.size, fun k hk => h3.block k hk (by simp [Value.ownBlock])⟩
  have hown := h2
  rw [Nat.zero_add, List.nil_append] at hown
  rcases hown.2 with ⟨rfl, e⟩ | ⟨g, cap, cur, rfl, hg, hgc, hcap, _, hcs, htk⟩
  ·omega
  ·refine ⟨_, cap, w1, hr, fun _ => ⟨g, 0, rfl, fun j hj => ?_⟩, hb, fun a e => ?_⟩
   ·have := hown.cells (g := g) rfl j (.int .i64 (z j)) (by simp [hj])
    rwa [Addr.add_lit] at this
   ·cases e; exact ⟨hg, lt_of_block hgc⟩
section
variable {ops : Array Oper} {rest : List Oper} {o : Oper} {a : Act} {w : World} {Q : Exit → Act → World → Prop}
theorem wpList_appendKX (hgd : o.guard = none) (s x : Operand) (ho : o.op = .call { callee := .builtin .append, args := #[s, x], argTypes := #[71, 71] })
  (ka : Option Addr) (n kc : Nat) (z : Nat → Int) (hs : a.eval s = .slice none 0 0) (hx : a.eval x = .slice ka n kc) (hI : IsAt w ka n z) (hn : n ≤ 17592186043904)
  (h : ∀ ka' kc' w1, IsAt w1 ka' n z → Below w.heap.size w w1 → (∀ a, ka' = some a → w.heap.size ≤ a.block ∧ a.block < w1.heap.size) → wpList Tryz.prog ops Q rest (a.put o.dst (.slice ka' n kc')) w1) : wpList Tryz.prog ops Q (o :: rest) a w := by
 obtain ⟨ka', kc', w1, hr, h2, h3, h4⟩ := append_keysX w o.type ka n kc z hI hn
 refine wpList_plain hgd fun K hK => ?_
 unfold Oper.wp execOp
 simp only [ho, resolve, invoke, builtin, Sem.run_bind, Sem.run_pure, Result.andThen_ok, List.map_toArray, List.map_cons, List.map_nil, hs, hx, hr]
 exact hK _ _ (h ka' kc' w1 h2 h3 h4)
end
set_option maxRecDepth 100000 in
set_option maxHeartbeats 3200000 in
theorem give_inX (ad : Option Addr) (n cap : Nat) (X : Nat → Bv) (w : World) (h : BrAt w ad n X) (hn : n ≤ 1000000) (hx : ∀ i, i < n → (X i).n ≤ 17592186043904) :
  Calls Tryz.prog 26 #[.agg #[.slice ad n cap]] w fun e w' => ∃ ad' cap', e = .returned (.agg #[.slice ad' n cap']) ∧ BrIn w' w.heap.size ad' n X ∧ Below w.heap.size w w' ∧ (ad' = none → n = 0 ∧ cap' = 0) := by
 obtain ⟨i0, hi0, hz0, hz1, hz2⟩ := info_parts infoB
 have HI0 : Hid (Tryz.prog.info? 101 = some i0 ∧ i0.zero = some (.agg (bv b0 none 0)) ∧ i0.size = 35 ∧ i0.bytes = 72) := ⟨hi0, hz0, hz1, hz2⟩
 clear hi0 hz0 hz1 hz2
 have HB : Hid (BrAt w ad n X) := h
 have hb0 : Below w.heap.size w ((w.alloc (.cells #[.slice ad n cap] 68)).alloc (.cells #[.slice none 0 0] 76)) := ((Below.refl _ w).alloc (Nat.le_refl _) _).alloc (by simp) _
 have hc0 : ((w.alloc (.cells #[.slice ad n cap] 68)).alloc (.cells #[.slice none 0 0] 76)).cell? ⟨w.heap.size, 0, none⟩ = some (.slice ad n cap) := by
  rw [World.cell?_alloc_lt _ _ ⟨w.heap.size, 0, none⟩ (by simp)]; simp
 have hr0 : ((w.alloc (.cells #[.slice ad n cap] 68)).alloc (.cells #[.slice none 0 0] 76)).heap[w.heap.size + 1]? = some (.cells #[.slice none 0 0] 76 (0, 0)) := by
  have := heap_alloc_new (w.alloc (.cells #[.slice ad n cap] 68)) (.cells #[.slice none 0 0] 76)
  simpa using this
 clear h
 go_enter Tryz.func26, Tryz.ntmps26
 go_wp2
 generalize (w.alloc (.cells #[.slice ad n cap] 68)).alloc (.cells #[.slice none 0 0] 76) = W0 at *
 have hp0 : w.heap.size < W0.heap.size := World.block_lt_of_cell? W0 ⟨w.heap.size, 0, none⟩ hc0
 have hp1 : w.heap.size + 1 < W0.heap.size := lt_of_block hr0
 have HB0 : Hid (BrAt W0 ad n X) := HB.out.below hb0
 have HB1 : Hid (Below w.heap.size w W0 ∧ W0.heap[w.heap.size + 1]? = some (.cells #[.slice none 0 0] 76 (0, 0))) := ⟨hb0, hr0⟩
 have hg0 : GivR W0 W0 (.slice none 0 0) X (fun _ => (none, 0)) 0 := ⟨Below.refl _ _, World.ownsRow_nil _ _ _ _, fun j hj => by omega, fun j hj => by omega⟩
 clear hb0 hr0 HB
 go_loopw [3, 4, 5, 6] (fun sv iv _ _ wr => ∃ (i : Nat) (v : Value) (A : Nat → Option Addr × Nat), i ≤ n ∧ v = sv ∧ iv = .int .i64 i ∧ GivR W0 wr v X A i) (fun _ iv _ _ _ => n + 1 - (intOf iv).toNat)
 case atStart => exact ⟨0, _, _, by omega, rfl, rfl, hg0⟩
 case round =>
  clear hg0
  obtain ⟨i, v, A, hi, rfl, rfl, hR⟩ := hrel
  have HR : Hid (GivR W0 wr v X A i) := hR
  have cb : wr.cell? ⟨w.heap.size, 0, none⟩ = some (.slice ad n cap) := by rw [hR.below.cell (p := ⟨w.heap.size, 0, none⟩) hp0]; exact hc0
  have hws := hR.below.size
  clear hR
  by_cases hlt : i < n
  ·have hlt' : (i : Int) < n := by omega
   obtain ⟨b, off, rfl, hc⟩ := HB0.out.at_ (by omega)
   obtain ⟨ka, kc, hq0, hI0⟩ := hc i hlt
   have hxi := hx i hlt
   have HQ : Hid (wr.rangeAt b (off + i * 35) (brl (X i) ka kc)) := range_below hq0 HR.out.below
   have HI : Hid (IsAt wr ka (X i).n (X i).z) := hI0.below HR.out.below
   have hpr : w.heap.size < wr.heap.size := by omega
   clear hc hq0 hI0 hc0
   have HS1 : Hid (∀ w' : World, w'.heap[wr.heap.size]? = some (.cells (bv (X i) ka kc) 101 (0, 0)) → Frm [wr.heap.size] (wr.alloc (.cells (bv b0 none 0) 101)) w' → Below wr.heap.size wr w' ∧ w'.cell? ⟨w.heap.size, 0, none⟩ = some (.slice (some ⟨b, off, none⟩) n cap) ∧ w'.cell? ⟨b, off + i * 35, none⟩ = some (.slice ka (X i).n kc) ∧ IsAt w' ka (X i).n (X i).z) := by
    intro w' h1 h2
    have h3 : Below wr.heap.size (wr.alloc (.cells (bv b0 none 0) 101)) w' := h2.below (by simp) (by simp)
    have h4 : Below wr.heap.size wr w' := ((Below.refl _ wr).alloc (Nat.le_refl _) _).trans h3
    exact ⟨h4, by rw [h4.cell (p := ⟨w.heap.size, 0, none⟩) hpr]; exact cb, range_below HQ.out h4 0 _ rfl, HI.out.below h4⟩
   have HS2 : Hid (∀ (w1 w2 : World) (ka' : Option Addr) (kc' : Nat), w1.heap[wr.heap.size]? = some (.cells (bv (X i) ka kc) 101 (0, 0)) → Below wr.heap.size wr w1 → Below w1.heap.size w1 w2 → w2.cell? ⟨wr.heap.size, 0, none⟩ = some (.slice ka (X i).n kc) ∧ w2.frozen? ⟨wr.heap.size, 0, none⟩ = false ∧ (w2.setCell ⟨wr.heap.size, 0, none⟩ (.slice ka' (X i).n kc')).heap[wr.heap.size]? = some (.cells (bv (X i) ka' kc') 101 (0, 0)) ∧ Below wr.heap.size wr (w2.setCell ⟨wr.heap.size, 0, none⟩ (.slice ka' (X i).n kc'))) := by
    intro w1 w2 ka' kc' h1 h2 h3
    have h4 : w2.heap[wr.heap.size]? = some (.cells (bv (X i) ka kc) 101 (0, 0)) := by rw [h3.block _ (lt_of_block h1)]; exact h1
    exact ⟨(bbox_of h4).c0, frozen_of_row w2 _ 0 _ _ h4, bv_set0 _ _ _ _ _ h4, (Below.transS h2 h3).setCell (by simp) _⟩
   have HR4 : Hid (∀ (w3 : World), Below wr.heap.size wr w3 → ∀ cs : Array Value, GivR W0 (w3.alloc (.cells cs 101)) v X A i) := fun w3 h3 cs => HR.out.keep (h3.alloc h3.size _)
   go_wp2_with (first | (refine wpList_load_mid rfl 73 _ rfl b (off + i * 35) rfl (brl (X i) ka kc) _ HQ.out Tryz.underlying73 rfl (szRl _ _ _) ?_) | (refine wpList_allocB rfl rfl ?_) | (refine wpList_storeR _ szB rfl _ _ rfl wr.heap.size rfl (X i) b0 ka none kc 0 101 rfl (heap_alloc_new wr _) ?_; intro w1 hg1 hf1; obtain ⟨hb1, c10, c1k, hI1⟩ := HS1.out w1 hg1 hf1; have HG1 : Hid (w1.heap[wr.heap.size]? = some (.cells (bv (X i) ka kc) 101 (0, 0)) ∧ Below wr.heap.size wr w1) := ⟨hg1, hb1⟩; clear hg1 hf1) | (refine wpList_appendKX rfl _ _ rfl ka (X i).n kc (X i).z rfl rfl hI1 hxi ?_; intro ka' kc' w2 hI2 hb2 ha2; obtain ⟨k0, f0, hS3⟩ := HS2.out w1 w2 ka' kc' HG1.out.1 HG1.out.2 hb2; have HX : Hid (IsAt w2 ka' (X i).n (X i).z ∧ Below w1.heap.size w1 w2 ∧ ∀ a, ka' = some a → w1.heap.size ≤ a.block ∧ a.block < w2.heap.size) := ⟨hI2, hb2, ha2⟩; have HS3 : Hid _ := hS3; clear hI2 hb2 ha2 hS3 hI1 hb1 c10 c1k) | (refine wpList_load_row rfl 101 _ rfl wr.heap.size rfl _ (bv (X i) ka' kc') _ _ HS3.out.1 Tryz.underlying101 rfl (szBv _ _ _) ?_) | (refine wpList_sliceB rfl _ rfl (X i) ka' kc' rfl ?_) | (at_builtin; refine wpList_appendB rfl _ _ rfl W0 v X A i ka' kc' _ rfl rfl (HR4.out _ HS3.out.2 (bv (X i) ka' kc')) (heap_alloc_new _ _) (by omega) ?_; intro v' w5 hown' hgrow hloc) | fail)
   have HN : Hid (GivR W0 w5 v' X (fun j => if j = i then (ka', kc') else A j) (i + 1)) := by
    obtain ⟨hI2, hb2, ha2⟩ := HX.out
    have hl1 := lt_of_block HG1.out.1
    have hlv := HR.out.own.lt
    refine (HR4.out _ HS3.out.2 _).next hown' hgrow hloc ((isAt_set hI2 (fun a e => by have := (ha2 a e).1; omega)).below ((Below.refl _ _).alloc (Nat.le_refl _) _)) (fun a e => ⟨by have := (ha2 a e).1; omega, by have := (ha2 a e).2; simp [World.setCell]; omega, fun e2 => by have := (hlv _ e2).2; have := (ha2 a e).1; omega⟩)
   clear hown' hgrow hloc HX HS3 HG1 HR4 HS1 HS2
   go_roundw
   case rel => exact ⟨i + 1, v', _, by omega, rfl, by go_num, HN.out⟩
   case measure => simp [intOf]; omega
  ·obtain rfl : i = n := by omega
   have hnn : ¬ ((i : Int) < i) := by omega
   have hr1 : wr.heap[w.heap.size + 1]? = some (.cells #[.slice none 0 0] 76 (0, 0)) := by rw [HR.out.below.block _ hp1]; exact HB1.out.2
   have c1 : wr.cell? ⟨w.heap.size + 1, 0, none⟩ = some (.slice none 0 0) := by rw [cell_of_row wr _ 0 _ _ _ hr1]; rfl
   have f1 : wr.frozen? ⟨w.heap.size + 1, 0, none⟩ = false := frozen_of_row wr _ 0 _ _ hr1
   obtain ⟨ad', cap', e, hBi⟩ := HR.out.brIn (fun j hj => HB0.out.ok j hj)
   subst e
   have HNX : Hid (ad' = none → i = 0 ∧ cap' = 0) := fun e => by
    subst e
    rcases HR.out.own.2 with ⟨h1, h2⟩ | ⟨_, _, _, h1, _⟩
    ·exact ⟨h2, by injection h1⟩
    ·injection h1 with h3; cases h3
   have hBr : BrIn (wr.setCell ⟨w.heap.size + 1, 0, none⟩ (.slice ad' i cap')) w.heap.size ad' i X := fun w' hw => hBi w' (fun k h1 h2 => by
    rw [hw k (by omega) (by simpa [World.setCell] using h2)]
    exact Below.heap_setCell _ _ _ _ (by show k ≠ w.heap.size + 1; omega))
   have HE : Hid (BrIn (wr.setCell ⟨w.heap.size + 1, 0, none⟩ (.slice ad' i cap')) w.heap.size ad' i X ∧ Below w.heap.size w (wr.setCell ⟨w.heap.size + 1, 0, none⟩ (.slice ad' i cap'))) := ⟨hBr, ((HB1.out.1).trans (HR.out.below.mono HB1.out.1.size)).setCell (by show w.heap.size ≤ w.heap.size + 1; omega) _⟩
   have HR1 : Hid ((wr.setCell ⟨w.heap.size + 1, 0, none⟩ (.slice ad' i cap')).heap[w.heap.size + 1]? = some (.cells #[.slice ad' i cap'] 76 (0, 0))) := heap_setCell_same wr _ 0 _ _ _ hr1
   clear hBr hBi HR hr1
   go_wp2
   exact bodyPost_ret (results_cell_row Tryz.results26 _ _ (w.heap.size + 1) 76 #[.slice ad' i cap'] (0, 0) _ rfl HR1.out Tryz.underlying76 rfl szC) rfl ⟨ad', cap', rfl, HE.out.1, HE.out.2, HNX.out⟩
end Go.Proofs.YtanchjfodcjlmaaGreatDoor.Cd
/- giveTx: what has been given of a transaction. -/
namespace Go.Proofs.YtanchjfodcjlmaaGreatDoor
open Go.RowKit

/-- A row of bytes of one's own lies where it is. -/
theorem sl_of_own {w : World} {B n c : Nat} {ad : Option Addr} {z : Nat → Int} (h : w.ownsRow B 5 1 (.slice ad n c) n (bl z n)) (hz : ∀ j, j < n → 0 ≤ z j ∧ z j ≤ 255) : SlAt w ad n z := ⟨hz, fun hn => by
 obtain ⟨g, e, _, _, hr⟩ := own_range h hn
 refine ⟨g, 0, e, fun j hj => hr j _ (bl_at hj)⟩⟩
theorem infoU8 : (Tryz.prog.info? 5).map (fun i => (i.zero, i.size, i.bytes)) = some (some (.int .u8 0), 1, 1) := by kernel_rfl
/-- Bytes appended to nothing. -/
theorem append_bV (w : World) (ty : TypeId) (n : Nat) (z : Nat → Int) (ka : Option Addr) (kc : Nat) (hI : SlAt w ka n z) (hx : n ≤ 1000000) :
  ∃ ka' kc' w1, (Builtin.append_ #[57, 57] ty #[.slice none 0 0, .slice ka n kc]).run Tryz.prog w = .ok (.slice ka' n kc') w1 ∧ w1.ownsRow w.heap.size 5 1 (.slice ka' n kc') n (bl z n) ∧ Below w.heap.size w w1 := by
 obtain ⟨i0, hi0, hz0, hz1, hz2⟩ := info_parts infoU8
 have own (a : Addr) (hc : ∀ j u, (bl z n)[j]? = some u → w.cell? (a.add j) = some u) := run_append_own_at (P := Tryz.prog) w w.heap.size 57 ty 5 i0 (.int .u8 0) 1 1 Tryz.underlying57 hi0 hz0 hz1 hz2 rfl (by decide) (.slice none 0 0) 0 [] (World.ownsRow_nil _ _ _ _) a n kc (bl z n) (by simp [bl_length]) hc (bl_one z n) (by simp only [maxLen]; omega) (by omega) (Nat.le_refl _)
 rcases Nat.eq_zero_or_pos n with h0 | hpos
 ·subst h0
  cases ka with
  | none =>
   refine ⟨none, 0, w, ?_, World.ownsRow_nil _ _ _ _, Below.refl _ _⟩
   simp [Builtin.append_, run_underlying Tryz.underlying57, sizeOf, typeInfo, hi0, Builtin.lenOf, Builtin.firstCells]
  | some a =>
   obtain ⟨v', w1, hr, h2, h3, h4, _⟩ := own a (fun j u hu => by simp [bl] at hu)
   obtain rfl := h4.2 ⟨rfl, rfl⟩
   exact ⟨none, 0, w1, hr, World.ownsRow_nil _ _ _ _, ⟨h3.os, h3.tape, h3.output, h3.size, fun k hk => h3.block k hk (by simp [Value.ownBlock])⟩⟩
 ·obtain ⟨b, off, rfl, hc⟩ := hI.2 hpos
  obtain ⟨v', w1, hr, h2, h3, _, _⟩ := own ⟨b, off, none⟩ (fun j u hu => by
   obtain ⟨h5, rfl⟩ := bl_get hu
   rw [Addr.add_lit]; exact hc j h5)
  rw [Nat.zero_add, List.nil_append] at h2
  obtain ⟨ka', kc', rfl, _, _⟩ := own_frmV h2
  exact ⟨ka', kc', w1, hr, h2, ⟨h3.os, h3.tape, h3.output, h3.size, fun k hk => h3.block k hk (by simp [Value.ownBlock])⟩⟩
section
variable {ops : Array Oper} {o : Oper} {a : Act} {w : World} {K : Act → World → Prop} {Q : Exit → Act → World → Prop} {E : Prop}
theorem step_append_bV (hgd : o.guard = none) (s y : Operand) (ho : o.op = .call { callee := .builtin .append, args := #[s, y], argTypes := #[57, 57] })
  (n : Nat) (z : Nat → Int) (ka : Option Addr) (kc : Nat) (hs : a.eval s = .slice none 0 0) (hy : a.eval y = .slice ka n kc) (hI : SlAt w ka n z) (hx : n ≤ 1000000)
  (h : ∀ ka' kc' w1, w1.ownsRow w.heap.size 5 1 (.slice ka' n kc') n (bl z n) → Below w.heap.size w w1 → K (a.put o.dst (.slice ka' n kc')) w1) : if Region.wanted o (yielded ops a.tmps) = true then Oper.wp Tryz.prog o a w K Q else E := by
 have hw : Region.wanted o (yielded ops a.tmps) = true := by simp [Region.wanted, hgd]
 rw [if_pos hw]
 obtain ⟨ka', kc', w1, hr, h2, h3⟩ := append_bV w o.type n z ka kc hI hx
 unfold Oper.wp execOp
 simp only [ho, resolve, invoke, builtin, Sem.run_bind, Sem.run_pure, Result.andThen_ok, List.map_toArray, List.map_cons, List.map_nil, hs, hy, hr]
 exact h ka' kc' w1 h2 h3
theorem step_sliceTi (hgd : o.guard = none) (x : Operand) (ho : o.op = .buildSlice 32 1 #[(0, x)]) (y : Ti) (sa : Option Addr) (sc : Nat) (hx : a.eval x = .agg (tiv y sa sc))
  (h : K (a.put o.dst (.slice (some ⟨w.heap.size, 0, none⟩) 1 1)) (w.alloc (.cells (tiv y sa sc) 59))) : if Region.wanted o (yielded ops a.tmps) = true then Oper.wp Tryz.prog o a w K Q else E := by
 have hw : Region.wanted o (yielded ops a.tmps) = true := by simp [Region.wanted, hgd]
 rw [if_pos hw]
 unfold Oper.wp execOp
 simp only [ho, List.map_toArray, List.map_cons, List.map_nil, hx, Sem.run_bind, slice_ti, Result.andThen]
 exact h
theorem step_append_Ti (hgd : o.guard = none) (s x : Operand) (ho : o.op = .call { callee := .builtin .append, args := #[s, x], argTypes := #[32, 32] })
  (B q : Nat) (v : Value) (i : Nat) (xs : List Value) (y : Ti) (sa : Option Addr) (sc : Nat) (hs : a.eval s = v) (hx : a.eval x = .slice (some ⟨q, 0, none⟩) 1 1) (hown : w.ownsRow B 59 35 v i xs) (hB : B ≤ w.heap.size) (hq : w.heap[q]? = some (.cells (tiv y sa sc) 59 (0, 0))) (hi : i ≤ 1000000)
  (h : ∀ va vc w1, w1.ownsRow B 59 35 (.slice va (i + 1) vc) (i + 1) (xs ++ til y sa sc) → w.grownBy w1 v.ownBlock → K (a.put o.dst (.slice va (i + 1) vc)) w1) : if Region.wanted o (yielded ops a.tmps) = true then Oper.wp Tryz.prog o a w K Q else E := by
 have hw : Region.wanted o (yielded ops a.tmps) = true := by simp [Region.wanted, hgd]
 rw [if_pos hw]
 obtain ⟨va, vc, w1, hr, h2, h3⟩ := run_append_Ti w B q o.type v i xs y sa sc hown hB hq hi
 unfold Oper.wp execOp
 simp only [ho, resolve, invoke, builtin, Sem.run_bind, Sem.run_pure, Result.andThen_ok, List.map_toArray, List.map_cons, List.map_nil, hs, hx, hr]
 exact h va vc w1 h2 h3
end
/-- A transaction that came in: what it says and where it lies. -/
structure Tc5 where
 lk : Int
 ia : Option Addr
 n : Nat
 ic : Nat
 oa : Option Addr
 m : Nat
 oc : Nat
 X : Nat → Ti
 Z : Nat → Nat → Int
 O : Nat → To
/-- Where what is given of it lies. -/
structure Gq where
 ia : Option Addr
 ic : Nat
 oa : Option Addr
 oc : Nat
def tiS (X : Nat → Ti) (S : Nat → Option Addr × Nat) : Nat → List Value := fun k => til (X k) (S k).1 (S k).2
def toS5 (O : Nat → To) (A : Nat → Option Addr × Nat) : Nat → List Value := fun k => tol (O k) (A k).1 (A k).2
/-- A transaction that is being given: i inputs and j outputs of it are there. -/
structure GtS (w wr : World) (t : Tc5) (q : Gq) (S A : Nat → Option Addr × Nat) (I : Nat → Nat × Nat) (i j : Nat) : Prop where
 inn : wr.heap[w.heap.size]? = some (.cells #[.int .i64 t.lk, .slice t.ia t.n t.ic, .slice t.oa t.m t.oc] 25 (0, 0))
 res : wr.heap[w.heap.size + 1]? = some (.cells #[.int .i64 0, .slice none 0 0, .slice none 0 0] 35 (0, 0))
 box : wr.heap[w.heap.size + 2]? = some (.cells #[.int .i64 t.lk, .slice q.ia i q.ic, .slice q.oa j q.oc] 35 (0, 0))
 ins : wr.ownsRow (w.heap.size + 3) 59 35 (.slice q.ia i q.ic) i (flatL (tiS t.X S) i)
 sec : ∀ k, k < i → wr.ownsRow (w.heap.size + 3) 5 1 (.slice (S k).1 (t.X k).sn (S k).2) (t.X k).sn (bl (t.Z k) (t.X k).sn)
 outs : wr.ownsRow (w.heap.size + 3) 79 2 (.slice q.oa j q.oc) j (flatL (toS5 t.O A) j)
 cond : ∀ k, k < j → ∀ w' : World, (∀ g, (I k).1 ≤ g → g < (I k).2 → w'.heap[g]? = wr.heap[g]?) → Cd.BrAt w' (A k).1 (t.O k).cn (t.O k).X
 int : ∀ k, k < j → w.heap.size + 3 ≤ (I k).1 ∧ (I k).2 ≤ wr.heap.size
 nil : ∀ k, k < j → (A k).1 = none → (t.O k).cn = 0 ∧ (A k).2 = 0
 apO : ∀ k, k < j → ∀ g, (Value.slice q.oa j q.oc).ownBlock = some g → g < (I k).1 ∨ (I k).2 ≤ g
 apI : ∀ k, k < j → ∀ g, (Value.slice q.ia i q.ic).ownBlock = some g → g < (I k).1
 below : Below w.heap.size w wr
section
variable {w wr w1 w2 w' : World} {t : Tc5} {q : Gq} {S A : Nat → Option Addr × Nat} {I : Nat → Nat × Nat} {i j : Nat}
theorem GtS.keep (h : GtS w wr t q S A I i j) (hb : Below wr.heap.size wr w') : GtS w w' t q S A I i j :=
 ⟨heap_below hb h.inn, heap_below hb h.res, heap_below hb h.box, own_below h.ins hb, fun k hk => own_below (h.sec k hk) hb, own_below h.outs hb, fun k hk w2 hw => h.cond k hk w2 (fun g h1 h2 => by rw [hw g h1 h2]; exact hb.block g (by have := (h.int k hk).2; omega)), fun k hk => ⟨(h.int k hk).1, by have := (h.int k hk).2; have := hb.size; omega⟩, h.nil, h.apO, h.apI, h.below.trans (hb.mono h.below.size)⟩
theorem GtS.big (h : GtS w wr t q S A I i j) : w.heap.size + 3 ≤ wr.heap.size := lt_of_block h.box
/-- What a walk reads of it. -/
def GtC (w w' : World) (t : Tc5) (q : Gq) (i j : Nat) : Prop := w'.cell? ⟨w.heap.size + 2, 1, none⟩ = some (.slice q.ia i q.ic) ∧ w'.cell? ⟨w.heap.size + 2, 2, none⟩ = some (.slice q.oa j q.oc) ∧ w'.cell? ⟨w.heap.size, 1, none⟩ = some (.slice t.ia t.n t.ic) ∧ w'.cell? ⟨w.heap.size, 2, none⟩ = some (.slice t.oa t.m t.oc)
theorem GtS.cells (h : GtS w wr t q S A I i j) (hl : ∀ k, k < w.heap.size + 3 → w'.heap[k]? = wr.heap[k]?) : GtC w w' t q i j := by
 have h2 := hl (w.heap.size + 2) (by omega)
 rw [h.box] at h2
 have h0 := hl w.heap.size (by omega)
 rw [h.inn] at h0
 exact ⟨by rw [cell_of_row _ _ 1 _ _ _ h2]; rfl, by rw [cell_of_row _ _ 2 _ _ _ h2]; rfl, by rw [cell_of_row _ _ 1 _ _ _ h0]; rfl, by rw [cell_of_row _ _ 2 _ _ _ h0]; rfl⟩
/-- One more input. -/
theorem GtS.pushI {va ka : Option Addr} {vc kc : Nat} (h : GtS w w1 t q S A I i 0) (hk : w1.ownsRow (w.heap.size + 3) 5 1 (.slice ka (t.X i).sn kc) (t.X i).sn (bl (t.Z i) (t.X i).sn)) (hown : w2.ownsRow (w.heap.size + 3) 59 35 (.slice va (i + 1) vc) (i + 1) (flatL (tiS t.X S) i ++ til (t.X i) ka kc)) (hg : w1.grownBy w2 (Value.slice q.ia i q.ic).ownBlock) :
  GtS w (w2.setCell ⟨w.heap.size + 2, 1, none⟩ (.slice va (i + 1) vc)) t ⟨va, vc, q.oa, q.oc⟩ (fun k => if k = i then (ka, kc) else S k) A I (i + 1) 0 := by
 have hl := grown_low h.ins hg h.big
 have hs : ∀ k, k ≠ w.heap.size + 2 → (w2.setCell ⟨w.heap.size + 2, 1, none⟩ (.slice va (i + 1) vc)).heap[k]? = w2.heap[k]? := fun k hk => Below.heap_setCell _ _ _ _ (by exact hk)
 refine ⟨?_, ?_, ?_, ?_, fun k hkj => ?_, ?_, fun k hk => by omega, fun k hk => by omega, fun k hk => by omega, fun k hk => by omega, fun k hk => by omega, ?_⟩
 ·rw [hs _ (by omega), hl _ (by omega)]; exact h.inn
 ·rw [hs _ (by omega), hl _ (by omega)]; exact h.res
 ·exact heap_setCell_same w2 (w.heap.size + 2) 1 _ _ _ (by rw [hl _ (by omega)]; exact h.box)
 ·rw [flatL, flatL_congr i (g := tiS t.X S) (fun k hk => by simp [tiS, show ¬ k = i by omega])]
  have e : tiS t.X (fun k => if k = i then (ka, kc) else S k) i = til (t.X i) ka kc := by simp [tiS]
  rw [e]
  exact own_keep hown fun g e => hs g (by have := (hown.lt g e).1; omega)
 ·by_cases e : k = i
  ·subst e
   simp only [if_true]
   have := grown_keepV h.ins hk (by decide) hg
   exact own_keep this fun g e => hs g (by have := (this.lt g e).1; omega)
  ·simp only [if_neg e]
   have := grown_keepV h.ins (h.sec k (by omega)) (by decide) hg
   exact own_keep this fun g e => hs g (by have := (this.lt g e).1; omega)
 ·have := grown_keepV h.ins h.outs (by decide) hg
  exact own_keep this fun g e => hs g (by have := (this.lt g e).1; omega)
 ·exact (grown_below h.ins hg h.below (by omega)).setCell (by show w.heap.size ≤ w.heap.size + 2; omega) _
/-- One more output. -/
theorem GtS.pushO {va ca : Option Addr} {vc cc lo hi : Nat} (h : GtS w w1 t q S A I i j) (hown : w2.ownsRow (w.heap.size + 3) 79 2 (.slice va (j + 1) vc) (j + 1) (flatL (toS5 t.O A) j ++ tol (t.O j) ca cc)) (hg : w1.grownBy w2 (Value.slice q.oa j q.oc).ownBlock) (hloc : (Value.slice va (j + 1) vc).ownBlock = (Value.slice q.oa j q.oc).ownBlock ∨ (Value.slice va (j + 1) vc).ownBlock = some w1.heap.size)
  (hc : ∀ w' : World, (∀ k, lo ≤ k → k < hi → w'.heap[k]? = w1.heap[k]?) → Cd.BrAt w' ca (t.O j).cn (t.O j).X) (hlo : w.heap.size + 3 ≤ lo) (hhi : hi ≤ w1.heap.size) (hva : ∀ g, (Value.slice q.oa j q.oc).ownBlock = some g → g < lo) (hia : ∀ g, (Value.slice q.ia i q.ic).ownBlock = some g → g < lo) (hnil : ca = none → (t.O j).cn = 0 ∧ cc = 0) :
  GtS w (w2.setCell ⟨w.heap.size + 2, 2, none⟩ (.slice va (j + 1) vc)) t ⟨q.ia, q.ic, va, vc⟩ S (fun k => if k = j then (ca, cc) else A k) (fun k => if k = j then (lo, hi) else I k) i (j + 1) := by
 have hl := grown_low h.outs hg h.big
 have hs : ∀ k, k ≠ w.heap.size + 2 → (w2.setCell ⟨w.heap.size + 2, 2, none⟩ (.slice va (j + 1) vc)).heap[k]? = w2.heap[k]? := fun k hk => Below.heap_setCell _ _ _ _ (by exact hk)
 have hsz : (w2.setCell ⟨w.heap.size + 2, 2, none⟩ (.slice va (j + 1) vc)).heap.size = w2.heap.size := by simp [World.setCell]
 have kept : ∀ k, k < w1.heap.size → k ≠ w.heap.size + 2 → (∀ g, (Value.slice q.oa j q.oc).ownBlock = some g → k ≠ g) → (w2.setCell ⟨w.heap.size + 2, 2, none⟩ (.slice va (j + 1) vc)).heap[k]? = w1.heap[k]? := fun k hk hb ho => by
  rw [hs k hb]
  exact hg.block k hk (fun e => ho k e.symm rfl)
 have hnew : ∀ g, (Value.slice va (j + 1) vc).ownBlock = some g → (Value.slice q.oa j q.oc).ownBlock = some g ∨ g = w1.heap.size := fun g e => by
  rcases hloc with h1 | h1
  ·exact .inl (h1 ▸ e)
  ·rw [h1] at e; exact .inr (by simpa using e.symm)
 refine ⟨?_, ?_, ?_, ?_, fun k hkj => ?_, ?_, fun k hk w' hw => ?_, fun k hk => ?_, fun k hk e => ?_, fun k hk g e => ?_, fun k hk g e => ?_, ?_⟩
 ·rw [hs _ (by omega), hl _ (by omega)]; exact h.inn
 ·rw [hs _ (by omega), hl _ (by omega)]; exact h.res
 ·exact heap_setCell_same w2 (w.heap.size + 2) 2 _ _ _ (by rw [hl _ (by omega)]; exact h.box)
 ·have := grown_keepV h.outs h.ins (by decide) hg
  exact own_keep this fun g e => hs g (by have := (this.lt g e).1; omega)
 ·have := grown_keepV h.outs (h.sec k hkj) (by decide) hg
  exact own_keep this fun g e => hs g (by have := (this.lt g e).1; omega)
 ·rw [flatL, flatL_congr j (g := toS5 t.O A) (fun k hk => by simp [toS5, show ¬ k = j by omega])]
  have e : toS5 t.O (fun k => if k = j then (ca, cc) else A k) j = tol (t.O j) ca cc := by simp [toS5]
  rw [e]
  exact own_keep hown fun g e => hs g (by have := (hown.lt g e).1; omega)
 ·by_cases ej : k = j
  ·subst ej
   simp only [if_true] at hw ⊢
   exact hc w' (fun g h1 h2 => by rw [hw g h1 h2]; exact kept g (by omega) (by omega) (fun g' e => by have := hva g' e; omega))
  ·simp only [if_neg ej] at hw ⊢
   have hI := h.int k (by omega)
   exact h.cond k (by omega) w' (fun g h1 h2 => by rw [hw g h1 h2]; exact kept g (by omega) (by omega) (fun g' e => by have := h.apO k (by omega) g' e; omega))
 ·have := hg.size
  by_cases ej : k = j
  ·simp only [if_pos ej]; exact ⟨hlo, by rw [hsz]; omega⟩
  ·simp only [if_neg ej]
   have hI := h.int k (by omega)
   exact ⟨hI.1, by rw [hsz]; omega⟩
 ·by_cases ej : k = j
  ·subst ej
   simp only [if_true] at e ⊢
   exact hnil e
  ·simp only [if_neg ej] at e ⊢
   exact h.nil k (by omega) e
 ·by_cases ej : k = j
  ·simp only [if_pos ej]
   rcases hnew g e with h1 | h1
   ·have := hva g h1; omega
   ·omega
  ·simp only [if_neg ej]
   have hI := h.int k (by omega)
   rcases hnew g e with h1 | h1
   ·exact h.apO k (by omega) g h1
   ·omega
 ·by_cases ej : k = j
  ·simp only [if_pos ej]; exact hia g e
  ·simp only [if_neg ej]; exact h.apI k (by omega) g e
 ·exact (grown_below h.outs hg h.below (by omega)).setCell (by show w.heap.size ≤ w.heap.size + 2; omega) _
/-- All of it is there. -/
theorem GtS.tx (h : GtS w wr t q S A I t.n t.m) (hp : ∀ k, k < t.n → Hb (t.X k).pt) (hz : ∀ k, k < t.n → (∀ j, j < (t.X k).sn → 0 ≤ t.Z k j ∧ t.Z k j ≤ 255) ∧ (t.X k).sn ≤ 1000000) : TxAt wr t.lk t.n t.X t.Z t.m t.O q.ia q.oa S := by
 refine ⟨⟨hp, fun hn => ?_⟩, ⟨fun hm => ?_⟩, fun k hk => ⟨sl_of_own (h.sec k hk) (hz k hk).1, (hz k hk).2⟩⟩
 ·obtain ⟨g, e, _, _, hr⟩ := own_range h.ins hn
  exact ⟨g, 0, e, (flatL_range t.n (fun i _ => til_length _ _ _)).1 hr⟩
 ·obtain ⟨g, e, _, _, hr⟩ := own_range h.outs hm
  refine ⟨g, 0, e, fun k hk => ⟨(A k).1, (A k).2, ?_, h.cond k hk wr (fun _ _ _ => rfl), h.nil k hk⟩⟩
  exact (flatL_range t.m (f := toS5 t.O A) (k := 2) (fun i _ => rfl)).1 hr k hk
end
end Go.Proofs.YtanchjfodcjlmaaGreatDoor
