/- The document's Fund of layer 14. -/
import Derived.Test.YtjnepkggdkccaaaGreatDoorOwnShelf40
import Derived.Test.YtjnepkggdkccaaaGreatDoorOwnShelf37
import Derived.Test.YtjnepkggdkccaaaGreatDoorOwnShelf38
namespace Go.Proofs.YtjnepkggdkccaaaGreatDoor
open Go.RowKit Go.Shelf Go.Sort

theorem infoTiR : (Tryz.prog.info? 79).map (fun i => (i.zero, i.size, i.bytes)) = some (some (.agg (tiv ti0 none 0)), 35, 72) := by kernel_rfl
theorem infoToR : (Tryz.prog.info? 124).map (fun i => (i.zero, i.size, i.bytes)) = some (some (.agg #[.int .i64 0, .slice none 0 0]), 2, 32) := by kernel_rfl
theorem run_append_TiR (w : World) (B q : Nat) (ty : TypeId) (v : Value) (i : Nat) (xs : List Value) (x : Ti) (sa : Option Addr) (sc : Nat) (hown : w.ownsRow B 79 35 v i xs) (hB : B ≤ w.heap.size) (hq : w.heap[q]? = some (.cells (tiv x sa sc) 79 (0, 0))) (hi : i ≤ 1000000) :
  ∃ va vc w1, (Builtin.append_ #[55, 55] ty #[v, .slice (some ⟨q, 0, none⟩) 1 1]).run Tryz.prog w = .ok (.slice va (i + 1) vc) w1 ∧ w1.ownsRow B 79 35 (.slice va (i + 1) vc) (i + 1) (xs ++ til x sa sc) ∧ w.grownBy w1 v.ownBlock := by
 obtain ⟨i0, hi0, hz0, hz1, hz2⟩ := info_parts infoTiR
 obtain ⟨v', w1, hr, h2, h3, _, h5⟩ := run_append_own_at (P := Tryz.prog) w B 55 ty 79 i0 (.agg (tiv ti0 none 0)) 35 72 Tryz.underlying55 hi0 hz0 hz1 hz2 (by simp [Value.cells, tiv_size]) (by omega) v i xs hown ⟨q, 0, none⟩ 1 1 (til x sa sc) (by rw [til_length]) (fun j u hj => by
   rw [Addr.add_lit, Nat.zero_add, cell_of_row _ _ j _ _ _ hq]
   simpa [tiv] using hj) (til_one _ _ _) (by unfold maxLen; omega) (by omega) hB
 obtain ⟨va, vc, rfl, _, _⟩ := own_frmV h2
 exact ⟨va, vc, w1, hr, h2, h3⟩
/-- Outputs that came in appended to one's own. -/
theorem run_append_ToR (w : World) (B : Nat) (ty : TypeId) (v u : Value) (n m : Nat) (xs ys : List Value) (hown : w.ownsRow B 124 2 v n xs) (hB : B ≤ w.heap.size) (hu : OuSrc w u m ys) (hn : 0 < n) (hlen : n + m ≤ 1000000) :
  ∃ va vc w1, (Builtin.append_ #[56, 56] ty #[v, u]).run Tryz.prog w = .ok (.slice va (n + m) vc) w1 ∧ w1.ownsRow B 124 2 (.slice va (n + m) vc) (n + m) (xs ++ ys) ∧ w.grownBy w1 v.ownBlock := by
 obtain ⟨i0, hi0, hz0, hz1, hz2⟩ := info_parts infoToR
 obtain ⟨ad, c, rfl, hyl, hy1, ⟨rfl, rfl⟩ | ⟨a, rfl, hc⟩⟩ := hu
 ·obtain rfl : ys = [] := List.eq_nil_of_length_eq_zero (by omega)
  have hk := hown
  rcases hown.2 with ⟨rfl, hl⟩ | ⟨g, cap, cur, rfl, hbs, hg, hcap, _⟩
  ·omega
  ·have := run_append_room_src (P := Tryz.prog) w 56 56 ty 124 i0 Tryz.underlying56 hi0 g 0 n cap (.slice none 0 c) 0 [] (Src.ofNil w Tryz.underlying56 c) (by omega) (fun j hj => by simp at hj) (fun j hj => by simp at hj)
   exact ⟨_, cap, w, by simpa [World.setCells] using this, by simpa using hk, ⟨rfl, rfl, rfl, Nat.le_refl _, fun _ _ _ => rfl⟩⟩
 ·obtain ⟨v', w1, hr, h2, h3, _, h5⟩ := run_append_own_at (P := Tryz.prog) w B 56 ty 124 i0 (.agg #[.int .i64 0, .slice none 0 0]) 2 32 Tryz.underlying56 hi0 hz0 hz1 hz2 rfl (by decide) v n xs hown a m c ys hyl hc
   hy1 (by simp only [maxLen]; omega) (by omega) hB
  obtain ⟨va, vc, rfl, _, _⟩ := own_frmV h2
  exact ⟨va, vc, w1, hr, h2, h3⟩
section
variable {ops : Array Oper} {rest : List Oper} {o : Oper} {a : Act} {w : World} {Q : Exit → Act → World → Prop} {K : Act → World → Prop} {E : Prop}
theorem step_sliceTiR (hgd : o.guard = none) (x : Operand) (ho : o.op = .buildSlice 55 1 #[(0, x)]) (z : (Nat → Int) × Int) (hx : a.eval x = .agg (tiv (tiOf z) none 0))
  (h : K (a.put o.dst (.slice (some ⟨w.heap.size, 0, none⟩) 1 1)) (w.alloc (.cells (tiv (tiOf z) none 0) 79))) : if Region.wanted o (yielded ops a.tmps) = true then Oper.wp Tryz.prog o a w K Q else E := by
 have hw : Region.wanted o (yielded ops a.tmps) = true := by simp [Region.wanted, hgd]
 rw [if_pos hw]
 unfold Oper.wp execOp
 simp only [ho, List.map_toArray, List.map_cons, List.map_nil, hx, Sem.run_bind, slice_inR z.1 z.2, Result.andThen]
 exact h
theorem step_append_TiR (hgd : o.guard = none) (s x : Operand) (ho : o.op = .call { callee := .builtin .append, args := #[s, x], argTypes := #[55, 55] })
  (B q : Nat) (v : Value) (i : Nat) (xs : List Value) (y : Ti) (sa : Option Addr) (sc : Nat) (hs : a.eval s = v) (hx : a.eval x = .slice (some ⟨q, 0, none⟩) 1 1) (hown : w.ownsRow B 79 35 v i xs) (hB : B ≤ w.heap.size) (hq : w.heap[q]? = some (.cells (tiv y sa sc) 79 (0, 0))) (hi : i ≤ 1000000)
  (h : ∀ va vc w1, w1.ownsRow B 79 35 (.slice va (i + 1) vc) (i + 1) (xs ++ til y sa sc) → w.grownBy w1 v.ownBlock → K (a.put o.dst (.slice va (i + 1) vc)) w1) : if Region.wanted o (yielded ops a.tmps) = true then Oper.wp Tryz.prog o a w K Q else E := by
 have hw : Region.wanted o (yielded ops a.tmps) = true := by simp [Region.wanted, hgd]
 rw [if_pos hw]
 obtain ⟨va, vc, w1, hr, h2, h3⟩ := run_append_TiR w B q o.type v i xs y sa sc hown hB hq hi
 unfold Oper.wp execOp
 simp only [ho, resolve, invoke, builtin, Sem.run_bind, Sem.run_pure, Result.andThen_ok, List.map_toArray, List.map_cons, List.map_nil, hs, hx, hr]
 exact h va vc w1 h2 h3
theorem wpList_append_ToR (hgd : o.guard = none) (s x : Operand) (ho : o.op = .call { callee := .builtin .append, args := #[s, x], argTypes := #[56, 56] })
  (B : Nat) (v u : Value) (n m : Nat) (xs ys : List Value) (hs : a.eval s = v) (hx : a.eval x = u) (hown : w.ownsRow B 124 2 v n xs) (hB : B ≤ w.heap.size) (hu : OuSrc w u m ys) (hn : 0 < n) (hlen : n + m ≤ 1000000)
  (h : ∀ va vc w1, w1.ownsRow B 124 2 (.slice va (n + m) vc) (n + m) (xs ++ ys) → w.grownBy w1 v.ownBlock → wpList Tryz.prog ops Q rest (a.put o.dst (.slice va (n + m) vc)) w1) : wpList Tryz.prog ops Q (o :: rest) a w := by
 obtain ⟨va, vc, w1, hr, h2, h3⟩ := run_append_ToR w B o.type v u n m xs ys hown hB hu hn hlen
 refine wpList_plain hgd fun K hK => ?_
 unfold Oper.wp execOp
 simp only [ho, resolve, invoke, builtin, Sem.run_bind, Sem.run_pure, Result.andThen_ok, List.map_toArray, List.map_cons, List.map_nil, hs, hx, hr]
 exact hK _ _ (h va vc w1 h2 h3)
end
/-- The document's transaction on the way: i inputs of it are there. -/
structure RfS (w : World) (B tb : Nat) (Z : Nat → (Nat → Int) × Int) (i : Nat) (ia : Option Addr) (ic k : Nat) (oa : Option Addr) (oc : Nat) : Prop where
 ft : w.heap[tb]? = some (.cells #[.int .i64 0, .slice ia i ic, .slice oa k oc] 58 (0, 0))
 lt : tb < B ∧ B ≤ w.heap.size
 ins : w.ownsRow B 79 35 (.slice ia i ic) i (flatL (tiR Z) i)
section
variable {w w1 w2 : World} {B tb i ic k oc : Nat} {Z : Nat → (Nat → Int) × Int} {ia oa : Option Addr}
theorem RfS.keep (h : RfS w B tb Z i ia ic k oa oc) (hb : Below w.heap.size w w1) : RfS w1 B tb Z i ia ic k oa oc := ⟨heap_below hb h.ft, ⟨h.lt.1, by have := h.lt.2; have := hb.size; omega⟩, own_below h.ins hb⟩
theorem RfS.pushI (h : RfS w1 B tb Z i ia ic k oa oc) {va : Option Addr} {vc : Nat} (hown : w2.ownsRow B 79 35 (.slice va (i + 1) vc) (i + 1) (flatL (tiR Z) i ++ til (tiOf (Z i)) none 0)) (hg : w1.grownBy w2 (Value.slice ia i ic).ownBlock) :
  RfS (w2.setCell ⟨tb, 1, none⟩ (.slice va (i + 1) vc)) B tb Z (i + 1) va vc k oa oc := by
 have hl := grown_low h.ins hg h.lt.2
 have hs : ∀ k, k ≠ tb → (w2.setCell ⟨tb, 1, none⟩ (.slice va (i + 1) vc)).heap[k]? = w2.heap[k]? := fun k hk => Below.heap_setCell _ _ _ _ (by exact hk)
 refine ⟨heap_setCell_same w2 tb 1 _ _ _ (by rw [hl _ h.lt.1]; exact h.ft), ⟨h.lt.1, ?_⟩, ?_⟩
 ·have := hg.size
  have := h.lt.2
  simp [World.setCell]; omega
 ·exact own_keep hown fun g e => hs g (by have := (hown.lt g e).1; have := h.lt.1; omega)
theorem RfS.setO (h : RfS w B tb Z i ia ic k oa oc) (va : Option Addr) (k' vc : Nat) : RfS (w.setCell ⟨tb, 2, none⟩ (.slice va k' vc)) B tb Z i ia ic k' va vc := by
 have hs : ∀ k, k ≠ tb → (w.setCell ⟨tb, 2, none⟩ (.slice va k' vc)).heap[k]? = w.heap[k]? := fun k hk => Below.heap_setCell _ _ _ _ (by exact hk)
 refine ⟨heap_setCell_same w tb 2 _ _ _ h.ft, ⟨h.lt.1, by have := h.lt.2; simpa [World.setCell] using this⟩, own_keep h.ins fun g e => hs g (by have := (h.ins.lt g e).1; have := h.lt.1; omega)⟩
end
theorem ti_of_ownR {w : World} {B : Nat} {ia : Option Addr} {ic n : Nat} {Z : Nat → (Nat → Int) × Int} (h : w.ownsRow B 79 35 (.slice ia n ic) n (flatL (tiR Z) n)) (hz : ∀ i, i < n → Hb (Z i).1) : TiAt w ia n (tF Z) (fun _ => (none, 0)) := by
 refine ⟨hz, fun hn => ?_⟩
 obtain ⟨g, rfl, _, _, hr⟩ := own_range h hn
 exact ⟨g, 0, rfl, (flatL_range n (fun i _ => til_length (tiOf (Z i)) none 0)).1 hr⟩
/-- Inputs and outputs lie in blocks below L and from B on. -/
def Lies5 (L B : Nat) (w : World) (ia : Option Addr) (n : Nat) (Z : Nat → (Nat → Int) × Int) (oa : Option Addr) (os : List To) : Prop := ∀ w' : World, (∀ k, k < L ∨ B ≤ k → k < w.heap.size → w'.heap[k]? = w.heap[k]?) → TiAt w' ia n (tF Z) (fun _ => (none, 0)) ∧ ToAt w' oa os.length (oF os)
structure RFnR (n : Nat) (Z : Nat → (Nat → Int) × Int) (am k0 k1 : Int) (m : Nat) (O : Nat → To) (w : World) (e : Ending) (w' : World) : Prop where
 bad : fndE n Z am k0 k1 m O ≠ 0 → e = .returned (.tuple #[zeroTx, .int .i64 (fndE n Z am k0 k1 m O)])
 ok : fndE n Z am k0 k1 m O = 0 → ∃ ia ic oa oc, e = .returned (.tuple #[.agg (txv 0 ia n ic oa (fndL am k0 k1 m O).length oc), .int .i64 0]) ∧ TiAt w' ia n (tF Z) (fun _ => (none, 0)) ∧ ToAt w' oa (fndL am k0 k1 m O).length (oF (fndL am k0 k1 m O))
 below : Below w.heap.size w w'
set_option maxRecDepth 100000 in
set_option maxHeartbeats 6400000 in
theorem rfund_any (pa : Option Addr) (n pc : Nat) (Z : Nat → (Nat → Int) × Int) (am k0 k1 : Int) (oa : Option Addr) (m oc : Nat) (O : Nat → To) (w : World) (hp : PtAt w pa n Z) (hz : ∀ i, i < n → Hb (Z i).1) (ho : ToAt w oa m O) (hb : ∀ j, j < m → (O j).Big) (hn : n ≤ 1000) (hm : m ≤ 1000) (hk : Ib k0 ∧ Ib k1) :
  Calls Tryz.prog 22 #[.slice pa n pc, .agg #[.int .i64 k0, .int .i64 k1], .int .i64 am, .slice oa m oc] w (RFnR n Z am k0 k1 m O w) := by
 have HH : Hid (PtAt w pa n Z ∧ (∀ i, i < n → Hb (Z i).1) ∧ ToAt w oa m O ∧ (∀ j, j < m → (O j).Big) ∧ (Ib k0 ∧ Ib k1)) := ⟨hp, hz, ho, hb, hk⟩
 clear hp hz ho hb hk
 obtain ⟨A, hsrc, hA⟩ := ToAt.src HH.out.2.2.1 oc
 have HS := hidV (And.intro hsrc hA)
 clear hsrc hA
 go_enter Tryz.func22, Tryz.ntmps22
 go_upto_region 1 with (first | (refine wpList_boxN rfl _ _ rfl #[.int .i64 k0, .int .i64 k1] rfl ?_; intro v1 N1) | (refine wpList_allocN 58 #[.int .i64 0, .slice none 0 0, .slice none 0 0] run_allocTxR rfl rfl ?_; intro v2 N2) | fail)
 have HB2 : Hid (Below w.heap.size w v2 ∧ v2.heap[v1.heap.size]? = some (.cells #[.int .i64 0, .slice none 0 0, .slice none 0 0] 58 (0, 0)) ∧ w.heap.size < v1.heap.size ∧ v1.heap.size < v2.heap.size ∧ v2.heap[w.heap.size]? = some (.cells #[.int .i64 k0, .int .i64 k1] 26 (0, 0))) := ⟨Below.transS N1.below N2.below, N2.blk, by have := N1.size; omega, by have := N2.size; omega, N2.old N1.blk⟩
 clear N1 N2
 generalize v1.heap.size = rb at *
 go_wp2_with (first | (refine wpList_allocN 58 #[.int .i64 0, .slice none 0 0, .slice none 0 0] run_allocTxR rfl rfl ?_; intro v3 N3) | (refine wpList_storeG 58 szTxR rfl _ _ rfl v2.heap.size rfl #[.int .i64 0, .slice none 0 0, .slice none 0 0] #[.int .i64 0, .slice none 0 0, .slice none 0 0] rfl rfl (by kernel_rfl) 58 rfl N3.blk ?_; intro v4 hg4 hf4) | fail)
 have hb24 : Below v2.heap.size v2 v4 := N3.below.trans (hf4.below N3.below.size (by simp))
 have HB4 : Hid (Below v2.heap.size v2 v4 ∧ v2.heap.size < v4.heap.size) := ⟨hb24, lt_of_block hg4⟩
 have hr0 : RfS v4 v4.heap.size v2.heap.size Z 0 none 0 0 none 0 := ⟨hg4, ⟨lt_of_block hg4, Nat.le_refl _⟩, World.ownsRow_nil _ _ _ _⟩
 clear N3 hg4 hf4 hb24
 generalize htb : v2.heap.size = tb at *
 have HTB := hidV htb
 clear htb
 have HR : Hid (∀ w' : World, FrB v4.heap.size [tb] v4 w' → w'.heap[w.heap.size]? = some (.cells #[.int .i64 k0, .int .i64 k1] 26 (0, 0)) ∧ w'.heap[rb]? = some (.cells #[.int .i64 0, .slice none 0 0, .slice none 0 0] 58 (0, 0)) ∧ Below w.heap.size w w') := fun w' hf => by
  have h1 : Below tb v2 w' := HB4.out.1.trans (hf.below (by have := HB4.out.2; omega) (by simp))
  rw [← HTB.out] at h1
  exact ⟨heap_below h1 HB2.out.2.2.2.2, heap_below h1 HB2.out.2.1, Below.transS HB2.out.1 h1⟩
 have HLT : Hid (w.heap.size < rb ∧ rb < tb ∧ tb < v4.heap.size) := ⟨HB2.out.2.2.1, by have := HB2.out.2.2.2.1; have := HTB.out; omega, HB4.out.2⟩
 go_loopw [11] (fun iv wr => ∃ (i : Nat) (ia : Option Addr) (ic : Nat), i ≤ n ∧ iv = .int .i64 i ∧ RfS wr v4.heap.size tb Z i ia ic 0 none 0 ∧ FrB v4.heap.size [tb] v4 wr) (fun iv _ => n + 1 - (intOf iv).toNat)
 case atStart => exact ⟨0, none, 0, by omega, rfl, hr0, FrB.refl _ _ _⟩
 case round =>
  clear hr0
  obtain ⟨i, ia, ic, hi, rfl, hG, hF⟩ := hrel
  have HG := hidV hG
  have HF := hidV hF
  clear hG hF
  by_cases hlt : i < n
  ·have hlt' : (i : Int) < n := by omega
   obtain ⟨b, off, ead, hc0⟩ := HH.out.1.at_ (by omega)
   have hr0 := hc0 i hlt
   have HEA := hidV ead
   have hbl : b < w.heap.size := World.block_lt_of_cell? w ⟨b, off + i * 33, none⟩ (by simpa using hr0 0 (.int .u8 ((Z i).1 0)) rfl)
   have HPR := hidV hr0
   clear hc0 hr0
   subst ead
   have HL : Hid (∀ w' : World, (∀ k, k < v4.heap.size → w'.heap[k]? = wr.heap[k]?) → w'.cell? ⟨tb, 1, none⟩ = some (.slice ia i ic) ∧ w'.rangeAt b (off + i * 33) (ptl (Z i).1 (Z i).2)) := fun w' hl => by
    have h1 := HG.out.ft
    rw [← hl tb HLT.out.2.2] at h1
    refine ⟨by rw [cell_of_row _ _ 1 _ _ _ h1]; rfl, fun j v hv => ?_⟩
    have h4 := range_below HPR.out (HR.out wr HF.out).2.2 j v hv
    rw [World.cell?_of_block (a := ⟨b, off + i * 33 + j, none⟩) (hl b (by have := HLT.out; omega))]
    exact h4
   have S00 := HL.out wr.drew (fun _ _ => rfl)
   have hbig := HG.out.lt.2
   go_wp2_with fail
   refine wp_region_noPanic ?_
   refine wp_region_K (S := fun w' => w'.cell? ⟨tb, 1, none⟩ = some (.slice ia i ic) ∧ w'.rangeAt b (off + i * 33) (ptl (Z i).1 (Z i).2)) 10 (by kernel_rfl) S00 (fun hHeld => ?_)
   refine wpAnyK_take (by kernel_rfl) (i := 0) (oi := ⟨some 19, .fieldAddr 58 (.tmp 10) 1, 0, _, _, none⟩) (v := ?_) rfl (by kernel_rfl) (by kernel_rfl) (by kernel_rfl) (fun _ _ _ h => h) (Or.inl ⟨by rfl, ?_⟩) (by assumption) ?_
   rotate_left
   ·intro wz hSw; (try dsimp only at hSw); go_simp; (try with_reducible rfl)
   try simp only [Act.put, zA, zB, zC]
   refine wpAnyK_take (by kernel_rfl) (i := 1) (oi := ⟨some 20, .load 55 (.tmp 19), 55, _, _, none⟩) (v := ?_) rfl (by kernel_rfl) (by kernel_rfl) (by kernel_rfl) (fun _ _ _ h => h) (Or.inl ⟨by rfl, ?_⟩) (by assumption) ?_
   rotate_left
   ·intro wz hSw; (try dsimp only at hSw); go_simp; (try with_reducible rfl)
   try simp only [Act.put, zA, zB, zC]
   refine wpAnyK_take (by kernel_rfl) (i := 2) (oi := ⟨some 21, .move (.tmp 0), 77, _, _, none⟩) (v := ?_) rfl (by kernel_rfl) (by kernel_rfl) (by kernel_rfl) (fun _ _ _ h => h) (Or.inl ⟨by rfl, ?_⟩) (by assumption) ?_
   rotate_left
   ·intro wz hSw; (try dsimp only at hSw); go_simp; (try with_reducible rfl)
   try simp only [Act.put, zA, zB, zC]
   refine wpAnyK_take (by kernel_rfl) (i := 3) (oi := ⟨some 22, .move (.tmp 11), 3, _, _, none⟩) (v := ?_) rfl (by kernel_rfl) (by kernel_rfl) (by kernel_rfl) (fun _ _ _ h => h) (Or.inl ⟨by rfl, ?_⟩) (by assumption) ?_
   rotate_left
   ·intro wz hSw; (try dsimp only at hSw); go_simp; (try with_reducible rfl)
   try simp only [Act.put, zA, zB, zC]
   refine wpAnyK_take (by kernel_rfl) (i := 4) (oi := ⟨some 23, .indexAddr 77 (.tmp 21) (.tmp 22), 0, _, _, none⟩) (v := ?_) rfl (by kernel_rfl) (by kernel_rfl) (by kernel_rfl) (fun _ _ _ h => h) (Or.inl ⟨by rfl, ?_⟩) (by assumption) ?_
   rotate_left
   ·intro wz hSw; (try dsimp only at hSw); go_simp; (try with_reducible rfl)
   try simp only [Act.put, zA, zB, zC]
   refine wpAnyK_take (by kernel_rfl) (i := 5) (oi := ⟨some 24, .load 25 (.tmp 23), 25, _, _, none⟩) rfl (by kernel_rfl) (by kernel_rfl) (by kernel_rfl) (fun _ _ _ h => h) (yieldsIf_load_mid (by rfl) _ _ rfl b (off + i * 33) rfl (ptl (Z i).1 (Z i).2) _ (fun _ h => h.2) Tryz.underlying25 rfl (szPtlR _ _)) (by assumption) ?_
   try simp only [Act.put, zA, zB, zC]
   refine wpAnyK_take (by kernel_rfl) (i := 6) (oi := ⟨some 25, .build 79 #[(0, .tmp 24)], 79, _, _, none⟩) (v := .agg (tiv (tiOf (Z i)) none 0)) rfl (by kernel_rfl) (by kernel_rfl) (by kernel_rfl) (fun _ _ _ h => h) (Or.inl ⟨by rfl, ?_⟩) (by assumption) ?_
   ·intro wz hSw; (try dsimp only at hSw); kernel_rfl
   try simp only [Act.put, zA, zB, zC]
   refine wpAnyK_ready (rs := [7]) (by kernel_rfl) (by simp) ?_
   refine (AllReadyK.cons (o := ⟨some 26, .buildSlice 55 1 #[(0, .tmp 25)], 55, _, _, none⟩) rfl (fun K hK => ?_) AllReadyK.nil)
   refine step_sliceTiR rfl (.tmp 25) rfl (Z i) (by rfl) ?_
   have hb1 : Below wr.heap.size wr (wr.drew.alloc (.cells (tiv (tiOf (Z i)) none 0) 79)) := (Below.refl _ wr).drew.alloc (Nat.le_refl _) _
   have S1 := HL.out (wr.drew.alloc (.cells (tiv (tiOf (Z i)) none 0) 79)) (fun k hk => hb1.block k (by omega))
   have HG1 := hidV (HG.out.keep hb1)
   have HF1 : Hid (FrB v4.heap.size [tb] v4 (wr.drew.alloc (.cells (tiv (tiOf (Z i)) none 0) 79))) := HF.out.trans (FrB.ofBelow hb1 hbig)
   refine hK.out _ _ (fun _ => S1) (fun _ => ?_)
   clear hK K
   try simp only [Act.put, zA, zB, zC]
   refine wpAnyK_ready (rs := [8]) (by kernel_rfl) (by simp) ?_
   refine (AllReadyK.cons (o := ⟨some 27, .call { callee := Go.Callee.builtin Go.Builtin.append, args := #[.tmp 20, .tmp 26], argTypes := #[55, 55] }, 55, _, _, none⟩) rfl (fun K hK => ?_) AllReadyK.nil)
   refine step_append_TiR rfl (.tmp 20) (.tmp 26) rfl v4.heap.size wr.drew.heap.size (.slice ia i ic) i (flatL (tiR Z) i) (tiOf (Z i)) none 0 (by rfl) (by rfl) HG1.out.ins HG1.out.lt.2 (heap_alloc_new wr.drew _) (by omega) ?_
   intro va vc w2 hown hgrow
   have hlo := grown_low HG1.out.ins hgrow HG1.out.lt.2
   have S2 := HL.out w2 (fun k hk => by rw [hlo k hk]; exact hb1.block k (by omega))
   have HN : Hid (RfS (w2.setCell ⟨tb, 1, none⟩ (.slice va (i + 1) vc)) v4.heap.size tb Z (i + 1) va vc 0 none 0) := HG1.out.pushI hown hgrow
   have HFN : Hid (FrB v4.heap.size [tb] v4 (w2.setCell ⟨tb, 1, none⟩ (.slice va (i + 1) vc))) := (HF1.out.trans (FrB.grown hgrow HG1.out.lt.2 (fun g e => (HG1.out.ins.lt g e).1))).setCell _ _ (by simp)
   have hx2 : w2.heap[tb]? = some (.cells #[.int .i64 0, .slice ia i ic, .slice none 0 0] 58 (0, 0)) := by rw [hlo _ HG1.out.lt.1]; exact HG1.out.ft
   have f2 : ∀ o, w2.frozen? ⟨tb, o, none⟩ = false := fun o => frozen_of_row _ _ o _ _ hx2
   refine hK.out _ _ (fun _ => S2) (fun _ => ?_)
   clear hK K hown hgrow hlo HG HG1 HL S00 S1 hx2 HF HF1 hb1
   try simp only [Act.put, zA, zB, zC]
   refine wpAnyK_take (by kernel_rfl) (i := 9) (oi := ⟨some 28, .fieldAddr 58 (.tmp 10) 1, 0, _, _, none⟩) (v := ?_) rfl (by kernel_rfl) (by kernel_rfl) (by kernel_rfl) (fun _ _ _ h => h) (Or.inl ⟨by rfl, ?_⟩) (by assumption) ?_
   rotate_left
   ·intro wz hSw; (try dsimp only at hSw); go_simp; (try with_reducible rfl)
   try simp only [Act.put, zA, zB, zC]
   obtain ⟨g1, _⟩ := S2
   refine wpAnyK_ready (rs := [10]) (by kernel_rfl) (by simp) ?_
   refine (AllReadyK.cons (o := ⟨none, .store 55 (.tmp 28) (.tmp 27), 0, _, _, none⟩) rfl (fun K hK => ?_) AllReadyK.nil)
   go_simp
   refine hK.out _ _ (fun h => absurd rfl h) (fun _ => ?_)
   clear hK K
   refine wpAnyK_done (by kernel_rfl) (NoPanic.normal ?_) _
   try simp only [Act.put, zA, zB, zC]
   clear hHeld g1 f2
   go_wp2
   go_roundw
   case rel => exact ⟨i + 1, va, vc, by omega, by go_num, HN.out, HFN.out⟩
   case measure => simp [intOf]; omega
  ·have hin : i = n := by omega
   have hnn : ¬ ((i : Int) < n) := by omega
   have HG2 : Hid (RfS wr v4.heap.size tb Z n ia ic 0 none 0) := by rw [← hin]; exact HG.out
   clear HG hin
   generalize wr = y0 at *
   go_upto_region 6 with fail
   have HL : Hid (∀ w' : World, Below y0.heap.size y0 w' → w'.cell? ⟨tb, 2, none⟩ = some (.slice none 0 0)) := fun w' hb => by
    rw [cell_of_row _ _ 2 _ _ _ (heap_below hb HG2.out.ft)]; rfl
   have hbig := HG2.out.lt.2
   have S00 := HL.out y0.drew (Below.refl _ _).drew
   refine wp_region_noPanic ?_
   refine wp_region_K (S := fun w' => w'.cell? ⟨tb, 2, none⟩ = some (.slice none 0 0)) 9 (by kernel_rfl) S00 (fun hHeld => ?_)
   have M0 : Hid (Below y0.heap.size y0 y0.drew) := (Below.refl _ _).drew
   generalize y0.drew = z0 at *
   refine wpAnyK_take (by kernel_rfl) (i := 0) (oi := ⟨some 29, .fieldAddr 58 (.tmp 10) 2, 0, _, _, none⟩) (v := ?_) rfl (by kernel_rfl) (by kernel_rfl) (by kernel_rfl) (fun _ _ _ h => h) (Or.inl ⟨by rfl, ?_⟩) (by assumption) ?_
   rotate_left
   ·intro wz hSw; (try dsimp only at hSw); go_simp; (try with_reducible rfl)
   try simp only [Act.put, zA, zB, zC]
   refine wpAnyK_take (by kernel_rfl) (i := 1) (oi := ⟨some 30, .load 56 (.tmp 29), 56, _, _, none⟩) (v := ?_) rfl (by kernel_rfl) (by kernel_rfl) (by kernel_rfl) (fun _ _ _ h => h) (Or.inl ⟨by rfl, ?_⟩) (by assumption) ?_
   rotate_left
   ·intro wz hSw; (try dsimp only at hSw); go_simp; (try with_reducible rfl)
   try simp only [Act.put, zA, zB, zC]
   refine wpAnyK_take (by kernel_rfl) (i := 2) (oi := ⟨some 31, .move (.tmp 2), 3, _, _, none⟩) (v := ?_) rfl (by kernel_rfl) (by kernel_rfl) (by kernel_rfl) (fun _ _ _ h => h) (Or.inl ⟨by rfl, ?_⟩) (by assumption) ?_
   rotate_left
   ·intro wz hSw; (try dsimp only at hSw); go_simp; (try with_reducible rfl)
   try simp only [Act.put, zA, zB, zC]
   refine wpAnyK_take (by kernel_rfl) (i := 3) (oi := ⟨some 32, .slice 26 (.tmp 5) none none none, 88, _, _, none⟩) (v := .slice (some ⟨w.heap.size, 0, none⟩) 2 2) rfl (by kernel_rfl) (by kernel_rfl) (by kernel_rfl) (fun _ _ _ h => h) (Or.inl ⟨by rfl, ?_⟩) (by assumption) ?_
   ·intro wz hSw; (try dsimp only at hSw); go_simp; try rfl
   try simp only [Act.put, zA, zB, zC]
   refine wpAnyK_ready (rs := [4]) (by kernel_rfl) (by simp) ?_
   refine (AllReadyK.cons (o := ⟨some 33, .call { callee := Go.Callee.value (.func 44), args := #[.tmp 32], argTypes := #[88] }, 122, _, _, none⟩) rfl (fun K hK => ?_) AllReadyK.nil)
   go_simp
   have HKE : Hid (IsAt z0 (some ⟨w.heap.size, 0, none⟩) 2 (kz2 k0 k1)) := fun _ => ⟨w.heap.size, 0, rfl, fun j hj => by
    have hx := (HR.out z0 (HF.out.trans (FrB.ofBelow M0.out hbig))).1
    match j, hj with
    | 0, _ => rw [cell_of_row _ _ _ _ _ _ hx]; rfl
    | 1, _ => rw [cell_of_row _ _ _ _ _ _ hx]; rfl⟩
   refine (Cd.rall_in (some ⟨w.heap.size, 0, none⟩) 2 2 (kz2 k0 k1) z0 HKE.out (fun j _ => by unfold kz2; split; exact HH.out.2.2.2.2.1; exact HH.out.2.2.2.2.2) (by decide)).mono ?_
   rintro e z1 ⟨g, rfl, hI, hb⟩
   have HZ1 : Hid (z0.heap.size ≤ z1.heap.size) := hb.size
   have M1 : Hid (Below y0.heap.size y0 z1 ∧ Cd.BrIn z1 z0.heap.size (some ⟨g, 0, none⟩) 1 (fndO am k0 k1).X ∧ y0.heap.size ≤ z0.heap.size) := ⟨Below.transS M0.out hb, hI, M0.out.size⟩
   clear hI hb M0 HKE
   refine hK.out _ _ (fun _ => HL.out z1 M1.out.1) (fun hq => ?_)
   have hq := hq (by decide)
   clear hK K
   try simp only [Act.put, zA, zB, zC]
   refine wpAnyK_take (by kernel_rfl) (i := 5) (oi := ⟨some 34, .build 124 #[(0, .tmp 31), (1, .tmp 33)], 124, _, _, none⟩) (v := .agg #[.int .i64 am, .slice (some ⟨g, 0, none⟩) 1 1]) rfl (by kernel_rfl) (by kernel_rfl) (by kernel_rfl) (fun _ _ _ h => h) (Or.inl ⟨by rfl, ?_⟩) (by assumption) ?_
   ·intro wz hSw; (try dsimp only at hSw); kernel_rfl
   try simp only [Act.put, zA, zB, zC]
   refine wpAnyK_ready (rs := [6]) (by kernel_rfl) (by simp) ?_
   refine (AllReadyK.cons (o := ⟨some 35, .buildSlice 56 1 #[(0, .tmp 34)], 56, _, _, none⟩) rfl (fun K hK => ?_) AllReadyK.nil)
   refine step_sliceTr rfl (.tmp 34) rfl am (some ⟨g, 0, none⟩) 1 1 (by rfl) ?_
   intro q z2 hq hl hb
   have M2 : Hid (Below y0.heap.size y0 z2 ∧ (∀ w' : World, (∀ k, z0.heap.size ≤ k → k < z1.heap.size → w'.heap[k]? = z2.heap[k]?) → Cd.BrAt w' (some ⟨g, 0, none⟩) 1 (fndO am k0 k1).X) ∧ y0.heap.size ≤ z0.heap.size ∧ z2.heap[q]? = some (.cells #[.int .i64 am, .slice (some ⟨g, 0, none⟩) 1 1] 124 (0, 0)) ∧ z1.heap.size ≤ z2.heap.size) := ⟨Below.transS M1.out.1 hb, fun w' hw => M1.out.2.1 w' (fun k h1 h2 => by rw [hw k h1 h2]; exact hb.block k h2), M1.out.2.2, hq, hb.size⟩
   clear hq hl hb M1
   refine hK.out _ _ (fun _ => HL.out z2 M2.out.1) (fun hq => ?_)
   have hq := hq (by decide)
   clear hK K
   try simp only [Act.put, zA, zB, zC]
   refine wpAnyK_ready (rs := [7]) (by kernel_rfl) (by simp) ?_
   refine (AllReadyK.cons (o := ⟨some 36, .call { callee := Go.Callee.builtin Go.Builtin.append, args := #[.tmp 30, .tmp 35], argTypes := #[56, 56] }, 56, _, _, none⟩) rfl (fun K hK => ?_) AllReadyK.nil)
   refine step_append_D rfl (.tmp 30) (.tmp 35) rfl z2.heap.size q (.slice none 0 0) 0 [] am (some ⟨g, 0, none⟩) 1 1 (by rfl) (by rfl) (World.ownsRow_nil _ _ _ _) (Nat.le_refl _) M2.out.2.2.2.1 (by omega) ?_
   intro va vc z3 hown hgrow hloc
   have hb23 : Below z2.heap.size z2 z3 := ⟨hgrow.os, hgrow.tape, hgrow.output, hgrow.size, fun k hk => hgrow.block k hk (by simp [Value.ownBlock])⟩
   have M3 : Hid (Below y0.heap.size y0 z3 ∧ (∀ w' : World, (∀ k, z0.heap.size ≤ k → k < z1.heap.size → w'.heap[k]? = z3.heap[k]?) → Cd.BrAt w' (some ⟨g, 0, none⟩) 1 (fndO am k0 k1).X) ∧ y0.heap.size ≤ z0.heap.size ∧ z1.heap.size ≤ z2.heap.size ∧ z2.heap.size ≤ z3.heap.size ∧ z3.ownsRow z2.heap.size 124 2 (.slice va 1 vc) 1 (tol (fndO am k0 k1) (some ⟨g, 0, none⟩) 1)) := ⟨Below.transS M2.out.1 hb23, fun w' hw => M2.out.2.1 w' (fun k h1 h2 => by rw [hw k h1 h2]; exact hb23.block k (by have := M2.out.2.2.2.2; omega)), M2.out.2.2.1, M2.out.2.2.2.2, hb23.size, hown⟩
   have hx3 := heap_below M3.out.1 HG2.out.ft
   have f3 : ∀ o, z3.frozen? ⟨tb, o, none⟩ = false := fun o => frozen_of_row _ _ o _ _ hx3
   have S3 := HL.out z3 M3.out.1
   clear hown hgrow hloc hb23 M2 hx3
   refine hK.out _ _ (fun _ => S3) (fun hq => ?_)
   have hq := hq (by decide)
   clear hK K
   try simp only [Act.put, zA, zB, zC]
   refine wpAnyK_take (by kernel_rfl) (i := 8) (oi := ⟨some 37, .fieldAddr 58 (.tmp 10) 2, 0, _, _, none⟩) (v := ?_) rfl (by kernel_rfl) (by kernel_rfl) (by kernel_rfl) (fun _ _ _ h => h) (Or.inl ⟨by rfl, ?_⟩) (by assumption) ?_
   rotate_left
   ·intro wz hSw; (try dsimp only at hSw); go_simp; (try with_reducible rfl)
   try simp only [Act.put, zA, zB, zC]
   refine wpAnyK_ready (rs := [9]) (by kernel_rfl) (by simp) ?_
   refine (AllReadyK.cons (o := ⟨none, .store 56 (.tmp 37) (.tmp 36), 0, _, _, none⟩) rfl (fun K hK => ?_) AllReadyK.nil)
   go_simp
   refine hK.out _ _ (fun h => absurd rfl h) (fun _ => ?_)
   clear hK K
   refine wpAnyK_done (by kernel_rfl) (NoPanic.normal ?_) _
   try simp only [Act.put, zA, zB, zC]
   clear hHeld S3 f3 S00 HL
   have H4 : Hid (RfS (z3.setCell ⟨tb, 2, none⟩ (.slice va 1 vc)) v4.heap.size tb Z n ia ic 1 va vc ∧ FrB v4.heap.size [tb] v4 (z3.setCell ⟨tb, 2, none⟩ (.slice va 1 vc)) ∧ (∀ k, k ≠ tb → (z3.setCell ⟨tb, 2, none⟩ (.slice va 1 vc)).heap[k]? = z3.heap[k]?) ∧ (z3.setCell ⟨tb, 2, none⟩ (.slice va 1 vc)).heap.size = z3.heap.size) := ⟨(HG2.out.keep M3.out.1).setO va 1 vc, (HF.out.trans (FrB.ofBelow M3.out.1 hbig)).setCell _ _ (by simp), fun k hk => Below.heap_setCell _ _ _ _ (by exact hk), by simp [World.setCell]⟩
   generalize z3.setCell ⟨tb, 2, none⟩ (.slice va 1 vc) = y4 at *
   have c2 : y4.cell? ⟨tb, 2, none⟩ = some (.slice va 1 vc) := by rw [cell_of_row _ _ 2 _ _ _ H4.out.1.ft]; rfl
   have HZ : Hid (v4.heap.size ≤ y0.heap.size ∧ y0.heap.size ≤ z0.heap.size ∧ z1.heap.size ≤ z2.heap.size ∧ z2.heap.size ≤ z3.heap.size ∧ z3.heap.size = y4.heap.size) := ⟨hbig, M3.out.2.2.1, M3.out.2.2.2.1, M3.out.2.2.2.2.1, H4.out.2.2.2.symm⟩
   have hz02 : v4.heap.size ≤ z2.heap.size := by have := HZ.out; have := HZ1.out; omega
   have HO4 : Hid (y4.ownsRow z2.heap.size 124 2 (.slice va 1 vc) 1 (tol (fndO am k0 k1) (some ⟨g, 0, none⟩) 1)) := own_keep M3.out.2.2.2.2.2 (fun g' e => H4.out.2.2.1 g' (by have h1 := (M3.out.2.2.2.2.2.lt g' e).1; have := HLT.out; omega))
   have HC4 : Hid (∀ w' : World, (∀ k, z0.heap.size ≤ k → k < z1.heap.size → w'.heap[k]? = y4.heap[k]?) → Cd.BrAt w' (some ⟨g, 0, none⟩) 1 (fndO am k0 k1).X) := fun w' hw => M3.out.2.1 w' (fun k h1 h2 => by rw [hw k h1 h2]; exact H4.out.2.2.1 k (by have := HZ.out; have := HLT.out; omega))
   have HSR := hidV (HS.out.1.below (HR.out y4 H4.out.2.1).2.2)
   go_upto_region 8 with (first | (at_builtin; refine wpList_append_ToR rfl _ _ rfl z2.heap.size (.slice va 1 vc) (.slice oa m oc) 1 m _ _ rfl rfl HO4.out (by have := HZ.out; omega) HSR.out (by omega) (by omega) ?_; intro va2 vc2 w5 hown hgrow; have HW5 := hidV (And.intro hown hgrow); have hx5 : w5.heap[tb]? = some (.cells #[.int .i64 0, .slice ia n ic, .slice va 1 vc] 58 (0, 0)) := (by rw [hgrow.block tb (by have := HZ.out; have := HLT.out; omega) (fun e => by have := (HO4.out.lt tb e.symm).1; have := HLT.out; omega)]; exact H4.out.1.ft); have c5 : w5.cell? ⟨tb, 2, none⟩ = some (.slice va 1 vc) := (by rw [cell_of_row _ _ 2 _ _ _ hx5]; rfl); have f5 : w5.frozen? ⟨tb, 2, none⟩ = false := frozen_of_row _ _ 2 _ _ hx5; clear hown hgrow) | fail)
   have H6 : Hid (RfS (w5.setCell ⟨tb, 2, none⟩ (.slice va2 (1 + m) vc2)) v4.heap.size tb Z n ia ic (1 + m) va2 vc2 ∧ FrB v4.heap.size [tb] v4 (w5.setCell ⟨tb, 2, none⟩ (.slice va2 (1 + m) vc2)) ∧ (w5.setCell ⟨tb, 2, none⟩ (.slice va2 (1 + m) vc2)).ownsRow v4.heap.size 124 2 (.slice va2 (1 + m) vc2) (1 + m) (tol (fndO am k0 k1) (some ⟨g, 0, none⟩) 1 ++ flatL (toS5 O A) m) ∧ (∀ w' : World, (∀ k, z0.heap.size ≤ k → k < z1.heap.size → w'.heap[k]? = (w5.setCell ⟨tb, 2, none⟩ (.slice va2 (1 + m) vc2)).heap[k]?) → Cd.BrAt w' (some ⟨g, 0, none⟩) 1 (fndO am k0 k1).X) ∧ z1.heap.size ≤ (w5.setCell ⟨tb, 2, none⟩ (.slice va2 (1 + m) vc2)).heap.size) := by
    have hs : ∀ k, k ≠ tb → (w5.setCell ⟨tb, 2, none⟩ (.slice va2 (1 + m) vc2)).heap[k]? = w5.heap[k]? := fun k hk => Below.heap_setCell _ _ _ _ (by exact hk)
    have hsz : (w5.setCell ⟨tb, 2, none⟩ (.slice va2 (1 + m) vc2)).heap.size = w5.heap.size := by simp [World.setCell]
    have g1 := HW5.out.2.size
    have g2 := HZ.out
    have g3 := HLT.out
    have hR5 : RfS w5 v4.heap.size tb Z n ia ic 1 va vc := ⟨hx5, ⟨g3.2.2, by omega⟩, grown_keepV HO4.out H4.out.1.ins (by decide) HW5.out.2⟩
    refine ⟨hR5.setO va2 (1 + m) vc2, (H4.out.2.1.trans (FrB.grown HW5.out.2 (by omega) (fun g' e => by have := (HO4.out.lt g' e).1; omega))).setCell _ _ (by simp), own_low (own_keep HW5.out.1 (fun g' e => hs g' (by have := (HW5.out.1.lt g' e).1; omega))) (by omega), fun w' hw => HC4.out w' (fun k h1 h2 => ?_), by omega⟩
    rw [hw k h1 h2, hs k (by omega)]
    exact HW5.out.2.block k (by omega) (fun e => by have := (HO4.out.lt k e.symm).1; omega)
   clear HW5 hx5 c5 f5 c2 HSR HO4 HC4 H4 M3
   generalize w5.setCell ⟨tb, 2, none⟩ (.slice va2 (1 + m) vc2) = y6 at *
   have hlen := fndL_len am k0 k1 m O
   have HLIE : Hid (Lies5 w.heap.size v4.heap.size y6 ia n Z va2 (fndL am k0 k1 m O)) := fun w' hw => by
    have g2 := HZ.out
    have g3 := HLT.out
    have g4 := H6.out.2.2.2.2
    refine ⟨ti_of_ownR (own_keep H6.out.1.ins (fun g' e => hw g' (.inr (H6.out.1.ins.lt g' e).1) (H6.out.1.ins.lt g' e).2)) HH.out.2.1, ⟨fun hp => ?_⟩⟩
    have ho := own_keep H6.out.2.2.1 (w' := w') (fun g' e => hw g' (.inr (H6.out.2.2.1.lt g' e).1) (H6.out.2.2.1.lt g' e).2)
    rw [← flat_fnd am k0 k1 O m A (some ⟨g, 0, none⟩) 1 m (Nat.le_refl _)] at ho
    obtain ⟨b, e, _, _, hr⟩ := own_range ho (by omega)
    have hr2 := (flatL_range (1 + m) (f := oL (fndL am k0 k1 m O) (fun j => if j = 0 then (some ⟨g, 0, none⟩, 1) else A (j - 1))) (k := 2) (fun _ _ => rfl)).1 hr
    refine ⟨b, 0, e, fun j hj => ?_⟩
    have hr3 := hr2 j (by omega)
    match j, hj with
    | 0, _ => exact ⟨some ⟨g, 0, none⟩, 1, hr3, H6.out.2.2.2.1 w' (fun k h1 h2 => hw k (.inr (by omega)) (by omega)), fun e => by cases e⟩
    | j + 1, hj =>
     have hjm : j < m := by omega
     refine ⟨(A j).1, (A j).2, ?_, ?_, ?_⟩
     ·simp only [oL, Nat.add_eq_zero_iff, Nat.one_ne_zero, and_false, if_false, Nat.add_sub_cancel] at hr3
      exact hr3
     ·show Cd.BrAt w' (A j).1 ((fndL am k0 k1 m O).getD (j + 1) default).cn ((fndL am k0 k1 m O).getD (j + 1) default).X
      rw [fnd_S am k0 k1 m O j hjm]
      refine brAt_eq (HS.out.2 j hjm).1 (fun k hk => ?_)
      rw [hw k (.inl hk) (by have := H6.out.1.lt.2; omega)]
      exact (HR.out y6 H6.out.2.1).2.2.block k hk
     ·show (A j).1 = none → ((fndL am k0 k1 m O).getD (j + 1) default).cn = 0 ∧ _
      rw [fnd_S am k0 k1 m O j hjm]
      exact (HS.out.2 j hjm).2
   have HBG : Hid (∀ j, j < (fndL am k0 k1 m O).length → (oF (fndL am k0 k1 m O) j).Big) := fun j hj => by
    match j, hj with
    | 0, _ =>
     show (fndO am k0 k1).Big
     have h1 := Cd.insL_len (kz2 k0 k1) 2
     exact ⟨by simp [fndO], fun i _ => by simp only [fndO, Cd.kb]; omega⟩
    | j + 1, hj =>
     have hjm : j < m := by omega
     show ((fndL am k0 k1 m O).getD (j + 1) default).Big
     rw [fnd_S am k0 k1 m O j hjm]
     exact HH.out.2.2.2.1 j hjm
   have HRT : Hid (y6.rangeAt tb 0 (txl 0 ia n ic va2 (fndL am k0 k1 m O).length vc2)) := by
    rw [hlen]
    exact txl_range H6.out.1.ft
   have HY6 := hidV (HR.out y6 H6.out.2.1).2
   have HED : Hid (fndE n Z am k0 k1 m O = txE 0 n (tF Z) (fndL am k0 k1 m O).length (oF (fndL am k0 k1 m O))) := rfl
   have HS6 : Hid (v4.heap.size ≤ y6.heap.size) := H6.out.1.lt.2
   clear H6 HR HF HG2
   generalize hos : fndL am k0 k1 m O = os at *
   have HOS := hidV hos
   have HLN := hidV hlen
   clear hos hlen
   go_wp2_with (first | (refine wpList_load_mid rfl 58 _ rfl tb 0 rfl (txl 0 ia n ic va2 os.length vc2) _ HRT.out Tryz.underlying58 rfl szTxR ?_) | fail)
   refine (rdone_anyX 0 ia n ic va2 os.length vc2 (tF Z) (fun _ => (none, 0)) (oF os) y6 (HLIE.out y6 (fun _ _ _ => rfl)).1 (HLIE.out y6 (fun _ _ _ => rfl)).2 HBG.out (by omega) (by have := HLN.out; omega)).mono ?_
   rintro e y7 ⟨rfl, hb7⟩
   have hr7 := heap_below hb7 HY6.out.1
   have HY7 : Hid (Below w.heap.size w y7 ∧ Below y6.heap.size y6 y7) := ⟨Below.transS HY6.out.2 hb7, hb7⟩
   clear hb7 HRT HBG
   generalize hec : txE 0 n (tF Z) os.length (oF os) = ec at *
   clear hec
   by_cases hf : ec = 0
   ·subst hf
    have e1 : DoneR 0 ia n ic va2 os.length vc2 0 = .tuple #[.agg #[.int .i64 0, .slice ia n ic, .slice va2 os.length vc2], .int .i64 0] := rfl
    rw [e1]
    clear e1
    go_wp2_with (first | (refine wpList_storeG 58 szTxR rfl _ _ rfl rb rfl #[.int .i64 0, .slice ia n ic, .slice va2 os.length vc2] #[.int .i64 0, .slice none 0 0, .slice none 0 0] rfl rfl (by kernel_rfl) 58 rfl hr7 ?_; intro y8 hg8 hf8) | fail)
    have hl8 := HLIE.out y8 (fun k hk h2 => by
     rw [hf8.block k (by have := HY7.out.2.size; omega) (by have := HLT.out; simp; omega)]
     exact HY7.out.2.block k h2)
    refine bodyPost_ret (results_T2R Tryz.results22 _ y8 rb 58 _ _ _ (0, 0) rfl hg8) rfl ⟨fun h => absurd HED.out h, fun _ => ⟨ia, ic, va2, vc2, ?_, hl8.1, ?_⟩, ?_⟩
    ·rw [HOS.out]; rfl
    ·rw [HOS.out]; exact hl8.2
    ·exact HY7.out.1.trans (hf8.below HY7.out.1.size (by have := HLT.out; simp; omega))
   ·have e1 : DoneR 0 ia n ic va2 os.length vc2 ec = .tuple #[.agg #[.int .i64 0, .slice none 0 0, .slice none 0 0], .int .i64 ec] := if_neg hf
    rw [e1]
    clear e1
    go_wp2_with (first | (refine wpList_storeG 58 szTxR rfl _ _ rfl rb rfl #[.int .i64 0, .slice none 0 0, .slice none 0 0] #[.int .i64 0, .slice none 0 0, .slice none 0 0] rfl rfl (by kernel_rfl) 58 rfl hr7 ?_; intro y8 hg8 hf8) | fail)
    refine bodyPost_ret (results_T2R Tryz.results22 _ y8 rb 58 _ _ _ (0, 0) rfl hg8) rfl ⟨fun _ => by rw [HED.out]; rfl, fun h => absurd h (by rw [HED.out]; exact hf), ?_⟩
    exact HY7.out.1.trans (hf8.below HY7.out.1.size (by have := HLT.out; simp; omega))
end Go.Proofs.YtjnepkggdkccaaaGreatDoor
