/- What build.Fund's outputs are; what a transaction that can be is. -/
import Derived.Test.YtjnepkggdkccaaaGreatDoorOwnShelf39
import Derived.Test.YtjnepkggdkccaaaGreatDoorOwnShelf15
import Derived.Test.YtjnepkggdkccaaaGreatDoorOwnShelf34
import Derived.Test.YtjnepkggdkccaaaGreatDoorOwnShelf22
namespace Go.Proofs.YtjnepkggdkccaaaGreatDoor
open Go.RowKit

def kz2 (k0 k1 : Int) : Nat → Int := fun j => if j = 0 then k0 else k1
def fndO (am k0 k1 : Int) : To := ⟨am, 1, fun _ => Cd.kb (Cd.insL (kz2 k0 k1) 2)⟩
/-- Fund's outputs: the channel's, and the others. -/
def fndL (am k0 k1 : Int) (m : Nat) (O : Nat → To) : List To := fndO am k0 k1 :: (List.range m).map O
theorem fndL_len (am k0 k1 : Int) (m : Nat) (O : Nat → To) : (fndL am k0 k1 m O).length = 1 + m := by simp [fndL]; omega
theorem fnd_0 (am k0 k1 : Int) (m : Nat) (O : Nat → To) : (fndL am k0 k1 m O).getD 0 default = fndO am k0 k1 := rfl
theorem fnd_S (am k0 k1 : Int) (m : Nat) (O : Nat → To) (j : Nat) (hj : j < m) : (fndL am k0 k1 m O).getD (j + 1) default = O j := by simp [fndL, List.getD, hj]
/-- Each of the first outputs may be, where no error is told of them. -/
theorem outsE_ok {O : Nat → To} : ∀ {m : Nat}, outsE O m = 0 → ∀ j, j < m → outE (O j) = 0
 | 0, _, j, hj => by omega
 | m + 1, h, j, hj => by
  rw [outsE] at h
  by_cases h0 : outsE O m = 0
  ·rw [if_pos h0] at h
   by_cases e : j = m
   ·subst e; exact h
   ·exact outsE_ok h0 j (by omega)
  ·rw [if_neg h0] at h; exact absurd h h0
theorem outE_ok {x : To} (h : outE x = 0) : Cd.COk x.X x.cn := by
 unfold outE at h
 split at h
 ·simp at h
 ·split at h
  ·simp at h
  ·unfold Cd.chkE at h
   split at h
   ·assumption
   ·simp at h
theorem kok_few {z : Nat → Int} {n : Nat} (h : Cd.KOk z n) : n ≤ 16 := by
 have hp : ∀ j, j < n → (j : Int) ≤ z j := by
  intro j
  induction j with
  | zero => intro hj; have := (h 0 hj).1; simp [Cd.lastK] at this; omega
  | succ j ih => intro hj; have h5 := (h (j + 1) hj).1; have h6 := ih (by omega); rw [Cd.lastK_succ] at h5; omega
 rcases Nat.lt_or_ge 16 n with h1 | h1
 ·have h7 := hp 16 h1; have h8 := (h 16 h1).2; omega
 ·exact h1
theorem txE_ok {lk : Int} {n : Nat} {X : Nat → Ti} {m : Nat} {O : Nat → To} (h : txE lk n X m O = 0) : NumOk lk n m ∧ ∀ j, j < m → Cd.COk (O j).X (O j).cn := by
 unfold txE at h
 by_cases h1 : NumOk lk n m
 ·rw [if_neg (by simpa using h1)] at h
  by_cases h2 : InsOk X n
  ·rw [if_neg (by simpa using h2)] at h
   by_cases h3 : Apart X n
   ·rw [if_neg (by simpa using h3)] at h
    by_cases h4 : outsE O m = 0
    ·exact ⟨h1, fun j hj => outE_ok (outsE_ok h4 j hj)⟩
    ·rw [if_pos h4] at h; exact absurd h h4
   ·rw [if_pos h3] at h; simp at h
  ·rw [if_pos h2] at h; simp at h
 ·rw [if_pos h1] at h; simp at h
theorem cok_few {x : To} (h : Cd.COk x.X x.cn) : x.cn ≤ 8 ∧ ∀ j, j < x.cn → (x.X j).n ≤ 16 := ⟨h.1.2, fun j hj => kok_few (h.2 j hj).1.1⟩
theorem txE_small {lk : Int} {n : Nat} {X : Nat → Ti} {m : Nat} {O : Nat → To} (h : txE lk n X m O = 0) : ∀ j, j < m → (O j).Small := fun j hj => by
 have h1 := cok_few ((txE_ok h).2 j hj)
 exact ⟨by omega, fun i hi => by have := h1.2 i hi; omega⟩
theorem txE_few {lk : Int} {n : Nat} {X : Nat → Ti} {m : Nat} {O : Nat → To} (h : txE lk n X m O = 0) : Few n m O := by
 have h1 := txE_ok h
 refine ⟨by have := h1.1.2.1.2; omega, by have := h1.1.2.2.2; omega, fun j hj => ?_⟩
 have h2 := cok_few (h1.2 j hj)
 exact ⟨by omega, fun i hi => by have := h2.2 i hi; omega⟩
/-- A condition that lies stays where its blocks do. -/
theorem brAt_eq {w w' : World} {ad : Option Addr} {n : Nat} {X : Nat → Cd.Bv} (h : Cd.BrAt w ad n X) (hw : ∀ k, k < w.heap.size → w'.heap[k]? = w.heap[k]?) : Cd.BrAt w' ad n X := by
 refine ⟨h.ok, fun hn => ?_⟩
 obtain ⟨b, off, e, hr⟩ := h.at_ hn
 refine ⟨b, off, e, fun i hi => ?_⟩
 obtain ⟨ka, kc, h1, h2⟩ := hr i hi
 have K : ∀ g o v, w.cell? ⟨g, o, none⟩ = some v → w'.cell? ⟨g, o, none⟩ = some v := fun g o v hc => by
  rw [World.cell?_of_block (a := ⟨g, o, none⟩) (hw g (World.block_lt_of_cell? w ⟨g, o, none⟩ hc))]
  exact hc
 refine ⟨ka, kc, fun j v hv => K _ _ _ (h1 j v hv), fun hq => ?_⟩
 obtain ⟨g, o, e2, hc⟩ := h2 hq
 exact ⟨g, o, e2, fun j hj => K _ _ _ (hc j hj)⟩
theorem tol_one5 (x : To) (ca : Option Addr) (cc : Nat) : ∀ u ∈ tol x ca cc, u.oneCell' = true := by
 intro u hu
 simp only [tol, List.mem_cons, List.not_mem_nil, or_false] at hu
 rcases hu with rfl | rfl <;> rfl
/-- Outputs that lie somewhere: their cells, where their conditions are. -/
theorem ToAt.src {w : World} {ad : Option Addr} {m : Nat} {O : Nat → To} (h : ToAt w ad m O) (c : Nat) : ∃ A : Nat → Option Addr × Nat, OuSrc w (.slice ad m c) m (flatL (toS5 O A) m) ∧ ∀ j, j < m → Cd.BrAt w (A j).1 (O j).cn (O j).X ∧ ((A j).1 = none → (O j).cn = 0 ∧ (A j).2 = 0) := by
 have hone : ∀ A : Nat → Option Addr × Nat, ∀ x ∈ flatL (toS5 O A) m, x.oneCell' = true := fun A x hx => by
  obtain ⟨i, _, h1⟩ := flatL_mem m hx
  exact tol_one5 _ _ _ _ h1
 rcases Nat.eq_zero_or_pos m with h0 | hp
 ·subst h0
  refine ⟨fun _ => (none, 0), ⟨ad, c, rfl, rfl, hone _, ?_⟩, fun j hj => by omega⟩
  cases ad with
  | none => exact .inl ⟨rfl, rfl⟩
  | some a => exact .inr ⟨a, rfl, fun j v hj => by cases hj⟩
 ·obtain ⟨b, off, rfl, hrow⟩ := h.at_ hp
  have each : ∀ i, i < m → ∃ t : Option Addr × Nat, w.rangeAt b (off + i * 2) (tol (O i) t.1 t.2) ∧ Cd.BrAt w t.1 (O i).cn (O i).X ∧ (t.1 = none → (O i).cn = 0 ∧ t.2 = 0) := fun i hi => by
   obtain ⟨ca, cc, h1, h2, h3⟩ := hrow i hi
   exact ⟨(ca, cc), h1, h2, h3⟩
  obtain ⟨A, hA⟩ := Go.Deep.choose_lt each
  refine ⟨A, ⟨_, c, rfl, flatL_length m (fun _ _ => rfl), hone A, .inr ⟨_, rfl, fun j v hj => ?_⟩⟩, fun j hj => (hA j hj).2⟩
  have hr := (flatL_range m (f := toS5 O A) (k := 2) (b := b) (off := off) (w := w) (fun _ _ => rfl)).2 (fun i hi => (hA i hi).1)
  rw [Addr.add_lit]
  exact hr j v hj
theorem flat_fnd (am k0 k1 : Int) (O : Nat → To) (M : Nat) (A : Nat → Option Addr × Nat) (ca : Option Addr) (cc : Nat) : ∀ m, m ≤ M → flatL (oL (fndL am k0 k1 M O) (fun j => if j = 0 then (ca, cc) else A (j - 1))) (1 + m) = tol (fndO am k0 k1) ca cc ++ flatL (toS5 O A) m
 | 0, _ => rfl
 | m + 1, h => by
  rw [← Nat.add_assoc, flatL, flat_fnd am k0 k1 O M A ca cc m (by omega), List.append_assoc, flatL]
  congr 2
  simp only [oL, toS5, show ¬ (1 + m = 0) by omega, if_false, show 1 + m - 1 = m by omega]
  rw [show 1 + m = m + 1 by omega, fnd_S am k0 k1 M O m (by omega)]
end Go.Proofs.YtjnepkggdkccaaaGreatDoor
/- build.Fund. -/
namespace Go.Proofs.YtjnepkggdkccaaaGreatDoor
open Go.RowKit

theorem slice_k2 (x y : Int) (w : World) : (Instr.buildSlice 88 2 #[(0, .int .i64 x), (1, .int .i64 y)]).run Tryz.prog w = .ok (.slice (some ⟨w.heap.size, 0, none⟩) 2 2) (w.alloc (.cells #[.int .i64 x, .int .i64 y] 3)) := by kernel_rfl
theorem slice_oo (u v : Value) (hu : ∃ a n c, u = .slice a n c) (hv : ∃ a n c, v = .slice a n c) (w : World) : (Instr.buildSlice 165 2 #[(0, u), (1, v)]).run Tryz.prog w = .ok (.slice (some ⟨w.heap.size, 0, none⟩) 2 2) (w.alloc (.cells #[u, v] 48)) := by
 obtain ⟨a, n, c, rfl⟩ := hu
 obtain ⟨a', n', c', rfl⟩ := hv
 kernel_rfl
section
variable {ops : Array Oper} {rest : List Oper} {o : Oper} {a : Act} {w : World} {Q : Exit → Act → World → Prop} {K : Act → World → Prop} {E : Prop}
theorem wpList_slice2 (x1 y1 : Int) (hgd : o.guard = none) (x y : Operand) (ho : o.op = .buildSlice 88 2 #[(0, x), (1, y)]) (hx : a.eval x = .int .i64 x1) (hy : a.eval y = .int .i64 y1)
  (h : ∀ w1, New w w1 #[.int .i64 x1, .int .i64 y1] 3 → wpList Tryz.prog ops Q rest (a.put o.dst (.slice (some ⟨w.heap.size, 0, none⟩) 2 2)) w1) : wpList Tryz.prog ops Q (o :: rest) a w := by
 refine wpList_plain hgd fun K hK => ?_
 unfold Oper.wp execOp
 simp only [ho, List.map_toArray, List.map_cons, List.map_nil, hx, hy, Sem.run_bind, slice_k2, Result.andThen]
 exact hK _ _ (h _ (new_alloc w _ _))
theorem step_sliceOO (hgd : o.guard = none) (x y : Operand) (ho : o.op = .buildSlice 165 2 #[(0, x), (1, y)]) (a1 : Option Addr) (n1 c1 : Nat) (a2 : Option Addr) (n2 c2 : Nat) (hx : a.eval x = .slice a1 n1 c1) (hy : a.eval y = .slice a2 n2 c2)
  (h : ∀ p w1, w1.heap[p]? = some (.cells #[.slice a1 n1 c1, .slice a2 n2 c2] 48 (0, 0)) → w.heap.size ≤ p → Below w.heap.size w w1 → K (a.put o.dst (.slice (some ⟨p, 0, none⟩) 2 2)) w1) : if Region.wanted o (yielded ops a.tmps) = true then Oper.wp Tryz.prog o a w K Q else E := by
 have hw : Region.wanted o (yielded ops a.tmps) = true := by simp [Region.wanted, hgd]
 rw [if_pos hw]
 unfold Oper.wp execOp
 simp only [ho, List.map_toArray, List.map_cons, List.map_nil, hx, hy, Sem.run_bind, slice_oo _ _ ⟨_, _, _, rfl⟩ ⟨_, _, _, rfl⟩, Result.andThen]
 exact h _ _ (heap_alloc_new w _) (Nat.le_refl _) ((Below.refl _ w).alloc (Nat.le_refl _) _)
end
/-- Fund's error. -/
def fndE (n : Nat) (Z : Nat → (Nat → Int) × Int) (am k0 k1 : Int) (m : Nat) (O : Nat → To) : Int := finE n Z (fndL am k0 k1 m O) 0
structure FndR (n : Nat) (Z : Nat → (Nat → Int) × Int) (am k0 k1 : Int) (m : Nat) (O : Nat → To) (w : World) (e : Ending) (w' : World) : Prop where
 bad : fndE n Z am k0 k1 m O ≠ 0 → e = .returned (.tuple #[zeroTx, errV (fndE n Z am k0 k1 m O)])
 ok : fndE n Z am k0 k1 m O = 0 → ∃ ia ic oa oc, e = .returned (.tuple #[.agg (txv 0 ia n ic oa (fndL am k0 k1 m O).length oc), .nilIface]) ∧ TxR w' ia ic n Z oa oc (fndL am k0 k1 m O)
 below : Below w.heap.size w w'
/-- All that Fund's transaction is made of, where the orders meet. -/
structure FdM (v w : World) (n : Nat) (Z : Nat → (Nat → Int) × Int) (ia : Option Addr) (ic : Nat) (first : To) (ca : Option Addr) (cc : Nat) (oa : Option Addr) (m oc g1 g2 : Nat) : Prop where
 below : Below v.heap.size v w
 ins : w.ownsRow v.heap.size 130 35 (.slice ia n ic) n (flatL (tiR Z) n)
 b1 : w.heap[g1]? = some (.cells #[.int .i64 first.am, .slice ca first.cn cc] 95 (0, 0))
 b2 : w.heap[g2]? = some (.cells #[.slice (some ⟨g1, 0, none⟩) 1 1, .slice oa m oc] 48 (0, 0))
set_option maxRecDepth 100000 in
set_option maxHeartbeats 6400000 in
theorem fund_any (pa : Option Addr) (n pc : Nat) (Z : Nat → (Nat → Int) × Int) (am k0 k1 : Int) (oa : Option Addr) (m oc : Nat) (O : Nat → To) (w : World) (hp : PtAt w pa n Z) (hz : ∀ i, i < n → Hb (Z i).1) (ho : ToAt w oa m O) (hb : ∀ j, j < m → (O j).Big) (hn : n ≤ 1000) (hm : m ≤ 1000) (hk : Ib k0 ∧ Ib k1) :
  Calls Tryz.prog 20 #[.slice pa n pc, .agg #[.int .i64 k0, .int .i64 k1], .int .i64 am, .slice oa m oc] w (FndR n Z am k0 k1 m O w) := by
 have HH : Hid (PtAt w pa n Z ∧ (∀ i, i < n → Hb (Z i).1) ∧ ToAt w oa m O ∧ (∀ j, j < m → (O j).Big) ∧ (Ib k0 ∧ Ib k1)) := ⟨hp, hz, ho, hb, hk⟩
 clear hp hz ho hb hk
 go_enter Tryz.func20, Tryz.ntmps20
 go_upto_region 1 with (first | (refine wpList_boxN rfl _ _ rfl #[.int .i64 k0, .int .i64 k1] rfl ?_; intro v1 N1) | (refine wpList_allocN 50 #[.int .i64 0, .slice none 0 0, .slice none 0 0] run_allocTx rfl rfl ?_; intro v2 N2) | fail)
 have HB2 : Hid (Below w.heap.size w v2 ∧ v2.heap[v1.heap.size]? = some (.cells #[.int .i64 0, .slice none 0 0, .slice none 0 0] 50 (0, 0)) ∧ w.heap.size < v1.heap.size ∧ v1.heap.size < v2.heap.size) := ⟨Below.transS N1.below N2.below, N2.blk, by have := N1.size; omega, by have := N2.size; omega⟩
 have hbx := N2.old N1.blk
 have c0 : v2.cell? ⟨w.heap.size, 0, none⟩ = some (.int .i64 k0) := by rw [cell_of_row _ _ 0 _ _ _ hbx]; rfl
 have c1 : v2.cell? ⟨w.heap.size, 1, none⟩ = some (.int .i64 k1) := by rw [cell_of_row _ _ 1 _ _ _ hbx]; rfl
 clear N1 N2 hbx
 generalize v1.heap.size = rb at *
 go_wp2_with (first | (refine wpList_slice2 k0 k1 rfl _ _ rfl rfl rfl ?_; intro v3 N3) | fail)
 have HB3 : Hid (Below v2.heap.size v2 v3 ∧ IsAt v3 (some ⟨v2.heap.size, 0, none⟩) 2 (kz2 k0 k1)) := ⟨N3.below, fun _ => ⟨v2.heap.size, 0, rfl, fun j hj => by
  match j, hj with
  | 0, _ => rw [cell_of_row _ _ _ _ _ _ N3.blk]; rfl
  | 1, _ => rw [cell_of_row _ _ _ _ _ _ N3.blk]; rfl⟩⟩
 clear N3 c0 c1
 refine (Cd.all_in (some ⟨v2.heap.size, 0, none⟩) 2 2 (kz2 k0 k1) v3 HB3.out.2 (fun j _ => by unfold kz2; split; exact HH.out.2.2.2.2.1; exact HH.out.2.2.2.2.2) (by decide)).mono ?_
 rintro e v4 ⟨g, rfl, hI, hb4⟩
 have HB4 : Hid (Below v2.heap.size v2 v4 ∧ Cd.BrIn v4 v2.heap.size (some ⟨g, 0, none⟩) 1 (fndO am k0 k1).X) := ⟨Below.transS HB3.out.1 hb4, hI.mono HB3.out.1.size⟩
 clear hI hb4 HB3
 go_wp2_with (first | (refine wpList_buildTo am (some ⟨g, 0, none⟩) 1 1 rfl _ _ rfl rfl rfl ?_) | (refine wpList_allocN 95 #[.int .i64 0, .slice none 0 0] run_allocToF rfl rfl ?_; intro v5 N5) | (refine wpList_storeG 95 szTo rfl _ _ rfl v4.heap.size rfl #[.int .i64 am, .slice (some ⟨g, 0, none⟩) 1 1] #[.int .i64 0, .slice none 0 0] rfl rfl (by kernel_rfl) 95 rfl N5.blk ?_; intro v6 hg6 hf6) | fail)
 have HB6 : Hid (Below v2.heap.size v2 v6 ∧ Cd.BrIn v6 v2.heap.size (some ⟨g, 0, none⟩) 1 (fndO am k0 k1).X ∧ v6.heap[v4.heap.size]? = some (.cells #[.int .i64 am, .slice (some ⟨g, 0, none⟩) 1 1] 95 (0, 0)) ∧ v4.heap.size < v6.heap.size) := by
  have hb := N5.below.trans (hf6.below N5.below.size (fun k hk => by rw [List.mem_singleton.1 hk]; exact Nat.le_refl _))
  refine ⟨Below.transS HB4.out.1 hb, fun w' hw => HB4.out.2 w' (fun k h1 h2 => by rw [hw k h1 (by have := hb.size; omega)]; exact hb.block k h2), hg6, lt_of_block hg6⟩
 have HFB0 : Hid (v2.heap.size ≤ v4.heap.size) := HB4.out.1.size
 clear N5 hg6 hf6 HB4
 generalize v4.heap.size = fb at *
 have HV : Hid (∀ w' : World, Below v6.heap.size v6 w' → w'.rangeAt fb 0 [.int .i64 am, .slice (some ⟨g, 0, none⟩) 1 1]) := fun w' hb => fun j v hv => by
  rw [Nat.zero_add, cell_of_row _ _ j _ _ _ (heap_below hb HB6.out.2.2.1)]
  simpa using hv
 have HP6 : Hid (PtAt v6 pa n Z ∧ ToAt v6 oa m O) := ⟨(HH.out.1.below HB2.out.1).below HB6.out.1, (HH.out.2.2.1.below HB2.out.1).below HB6.out.1⟩
 have HFB : Hid (rb < v2.heap.size ∧ v2.heap.size ≤ fb ∧ w.heap.size < rb) := ⟨HB2.out.2.2.2, HFB0.out, HB2.out.2.2.1⟩
 obtain ⟨A, hsrc, hA⟩ := ToAt.src HH.out.2.2.1 oc
 have HS := hidV (And.intro hsrc hA)
 clear hsrc hA
 refine wp_region_noPanic ?_
 refine wp_region_held_drew (S := fun w' => w'.rangeAt fb 0 [.int .i64 am, .slice (some ⟨g, 0, none⟩) 1 1]) (by kernel_rfl) (HV.out v6.drew (Below.refl _ _).drew) (fun hHeld => ?_)
 have M0 : Hid (Below v6.heap.size v6 v6.drew) := (Below.refl _ _).drew
 generalize v6.drew = z0 at *
 refine wpT (i := 0) (oi := ⟨some 19, .move (.tmp 0), 76, _, _, none⟩) (v := ?_) rfl (by kernel_rfl) (fun _ _ _ h => h) (Or.inl ⟨by rfl, ?_⟩) (by assumption) ?_
 rotate_left
 ·intro wz hSw; (try dsimp only at hSw); go_simp; (try with_reducible rfl)
 try simp only [Act.put, zA, zB, zC]
 refine wpT (i := 4) (oi := ⟨some 23, .move (.tmp 3), 48, _, _, none⟩) (v := ?_) rfl (by kernel_rfl) (fun _ _ _ h => h) (Or.inl ⟨by rfl, ?_⟩) (by assumption) ?_
 rotate_left
 ·intro wz hSw; (try dsimp only at hSw); go_simp; (try with_reducible rfl)
 try simp only [Act.put, zA, zB, zC]
 refine wpAnyH_take (i := 2) (oi := ⟨some 21, .load 95 (.tmp 10), 95, _, _, none⟩) rfl (by kernel_rfl) (by kernel_rfl) (by kernel_rfl) (fun _ _ _ h => h) (yieldsIf_load_mid (by rfl) _ _ rfl fb 0 rfl [.int .i64 am, .slice (some ⟨g, 0, none⟩) 1 1] _ (fun _ h => h) Tryz.underlying95 rfl szTo) (by assumption) ?_
 try simp only [Act.put, zA, zB, zC]
 refine wpAnyH_ready (rs := [1, 3]) (by kernel_rfl) (by simp) ?_
 refine (AllReadyH.cons (o := ⟨some 20, .call { callee := Go.Callee.value (.func 28), args := #[.tmp 19], argTypes := #[76] }, 47, _, _, none⟩) rfl (fun K hK => ?_) (AllReadyH.cons (o := ⟨some 22, .buildSlice 48 1 #[(0, .tmp 21)], 48, _, _, none⟩) rfl (fun K hK => ?_) AllReadyH.nil))
 focus
  go_simp
  refine (spend_any pa n pc Z z0 (HP6.out.1.below M0.out) (by omega)).mono ?_
  rintro e z1 ⟨⟨ia, ic, rfl, hi⟩, hb⟩
  have HI1 := hidV (own_low hi M0.out.size)
  clear hi
  have M1 := hidV (Below.transS M0.out hb)
  clear hb M0
  refine hK.out _ _ (HV.out z1 M1.out) (fun _ => ?_)
  clear hK K
  try simp only [Act.put, zA, zB, zC]
  refine wpAnyH_ready (rs := [3]) (by kernel_rfl) (by simp) ?_
  refine (AllReadyH.cons (o := ⟨some 22, .buildSlice 48 1 #[(0, .tmp 21)], 48, _, _, none⟩) rfl (fun K hK => ?_) AllReadyH.nil)
  refine step_sliceTo rfl (.tmp 21) rfl am (some ⟨g, 0, none⟩) 1 1 (by rfl) ?_
  intro g1 z2 hj hl hb
  have HJ2 := hidV hj
  clear hj hl
  have M2 := hidV (Below.transS M1.out hb)
  have HI2 := hidV (own_below HI1.out hb)
  clear hb M1 HI1
  refine hK.out _ _ (HV.out z2 M2.out) (fun _ => ?_)
  clear hK K
  try simp only [Act.put, zA, zB, zC]
  refine wpAnyH_ready (rs := [5]) (by kernel_rfl) (by simp) ?_
  refine (AllReadyH.cons (o := ⟨some 24, .buildSlice 165 2 #[(0, .tmp 22), (1, .tmp 23)], 165, _, _, none⟩) rfl (fun K hK => ?_) AllReadyH.nil)
  refine step_sliceOO rfl (.tmp 22) (.tmp 23) rfl (some ⟨g1, 0, none⟩) 1 1 oa m oc (by rfl) (by rfl) ?_
  intro g2 z3 hj hl hb
  have HL3 := hidV hj
  clear hj hl
  have M3 := hidV (Below.transS M2.out hb)
  have HI3 := hidV (own_below HI2.out hb)
  have HJ3 := hidV (heap_below hb HJ2.out)
  clear hb M2 HI2 HJ2
  refine hK.out _ _ (HV.out z3 M3.out) (fun _ => ?_)
  clear hK K
  try simp only [Act.put, zA, zB, zC]
  have MM : Hid (FdM v6 z3 n Z ia ic (fndO am k0 k1) (some ⟨g, 0, none⟩) 1 oa m oc g1 g2) := ⟨M3.out, HI3.out, HJ3.out, HL3.out⟩
  clear M3 HI3 HJ3 HL3
 rotate_left 1
 focus
  refine step_sliceTo rfl (.tmp 21) rfl am (some ⟨g, 0, none⟩) 1 1 (by rfl) ?_
  intro g1 z1 hj hl hb
  have HJ1 := hidV hj
  clear hj hl
  have M1 := hidV (Below.transS M0.out hb)
  clear hb M0
  refine hK.out _ _ (HV.out z1 M1.out) (fun _ => ?_)
  clear hK K
  try simp only [Act.put, zA, zB, zC]
  refine wpAnyH_ready (rs := [1, 5]) (by kernel_rfl) (by simp) ?_
  refine (AllReadyH.cons (o := ⟨some 20, .call { callee := Go.Callee.value (.func 28), args := #[.tmp 19], argTypes := #[76] }, 47, _, _, none⟩) rfl (fun K hK => ?_) (AllReadyH.cons (o := ⟨some 24, .buildSlice 165 2 #[(0, .tmp 22), (1, .tmp 23)], 165, _, _, none⟩) rfl (fun K hK => ?_) AllReadyH.nil))
  focus
   go_simp
   refine (spend_any pa n pc Z z1 (HP6.out.1.below M1.out) (by omega)).mono ?_
   rintro e z2 ⟨⟨ia, ic, rfl, hi⟩, hb⟩
   have HI2 := hidV (own_low hi M1.out.size)
   clear hi
   have M2 := hidV (Below.transS M1.out hb)
   have HJ2 := hidV (heap_below hb HJ1.out)
   clear hb M1 HJ1
   refine hK.out _ _ (HV.out z2 M2.out) (fun _ => ?_)
   clear hK K
   try simp only [Act.put, zA, zB, zC]
   refine wpAnyH_ready (rs := [5]) (by kernel_rfl) (by simp) ?_
   refine (AllReadyH.cons (o := ⟨some 24, .buildSlice 165 2 #[(0, .tmp 22), (1, .tmp 23)], 165, _, _, none⟩) rfl (fun K hK => ?_) AllReadyH.nil)
   refine step_sliceOO rfl (.tmp 22) (.tmp 23) rfl (some ⟨g1, 0, none⟩) 1 1 oa m oc (by rfl) (by rfl) ?_
   intro g2 z3 hj hl hb
   have HL3 := hidV hj
   clear hj hl
   have M3 := hidV (Below.transS M2.out hb)
   have HJ3 := hidV (heap_below hb HJ2.out)
   have HI3 := hidV (own_below HI2.out hb)
   clear hb M2 HJ2 HI2
   refine hK.out _ _ (HV.out z3 M3.out) (fun _ => ?_)
   clear hK K
   try simp only [Act.put, zA, zB, zC]
   have MM : Hid (FdM v6 z3 n Z ia ic (fndO am k0 k1) (some ⟨g, 0, none⟩) 1 oa m oc g1 g2) := ⟨M3.out, HI3.out, HJ3.out, HL3.out⟩
   clear M3 HI3 HJ3 HL3
  rotate_left 1
  focus
   refine step_sliceOO rfl (.tmp 22) (.tmp 23) rfl (some ⟨g1, 0, none⟩) 1 1 oa m oc (by rfl) (by rfl) ?_
   intro g2 z2 hj hl hb
   have HL2 := hidV hj
   clear hj hl
   have M2 := hidV (Below.transS M1.out hb)
   have HJ2 := hidV (heap_below hb HJ1.out)
   clear hb M1 HJ1
   refine hK.out _ _ (HV.out z2 M2.out) (fun _ => ?_)
   clear hK K
   try simp only [Act.put, zA, zB, zC]
   refine wpAnyH_ready (rs := [1]) (by kernel_rfl) (by simp) ?_
   refine (AllReadyH.cons (o := ⟨some 20, .call { callee := Go.Callee.value (.func 28), args := #[.tmp 19], argTypes := #[76] }, 47, _, _, none⟩) rfl (fun K hK => ?_) AllReadyH.nil)
   go_simp
   refine (spend_any pa n pc Z z2 (HP6.out.1.below M2.out) (by omega)).mono ?_
   rintro e z3 ⟨⟨ia, ic, rfl, hi⟩, hb⟩
   have HI3 := hidV (own_low hi M2.out.size)
   clear hi
   have M3 := hidV (Below.transS M2.out hb)
   have HJ3 := hidV (heap_below hb HJ2.out)
   have HL3 := hidV (heap_below hb HL2.out)
   clear hb M2 HJ2 HL2
   refine hK.out _ _ (HV.out z3 M3.out) (fun _ => ?_)
   clear hK K
   try simp only [Act.put, zA, zB, zC]
   have MM : Hid (FdM v6 z3 n Z ia ic (fndO am k0 k1) (some ⟨g, 0, none⟩) 1 oa m oc g1 g2) := ⟨M3.out, HI3.out, HJ3.out, HL3.out⟩
   clear M3 HI3 HJ3 HL3
  rotate_left 1
 rotate_left 2
 all_goals
  have d0 : z3.cell? ⟨g2, 0, none⟩ = some (.slice (some ⟨g1, 0, none⟩) 1 1) := by rw [cell_of_row _ _ 0 _ _ _ MM.out.b2]; rfl
  have d1 : z3.cell? ⟨g2, 1, none⟩ = some (.slice oa m oc) := by rw [cell_of_row _ _ 1 _ _ _ MM.out.b2]; rfl
  have hsf : OuSrc z3 (.slice (some ⟨g1, 0, none⟩) 1 1) 1 (tol (fndO am k0 k1) (some ⟨g, 0, none⟩) 1) := ⟨_, 1, rfl, rfl, tol_one5 _ _ _, .inr ⟨_, rfl, fun j v hv => by
   rw [Addr.add_lit, Nat.zero_add, cell_of_row _ _ j _ _ _ MM.out.b1]
   simpa [tol] using hv⟩⟩
  refine wpAnyH_ready (rs := [6]) (by kernel_rfl) (by simp) ?_
  refine (AllReadyH.cons (o := ⟨some 25, .call { callee := Go.Callee.value (.func 42), args := #[.tmp 24], argTypes := #[165] }, 48, _, _, none⟩) rfl (fun K hK => ?_) AllReadyH.nil)
  go_simp
  refine (concatO g2 (some ⟨g1, 0, none⟩) 1 1 _ oa m oc _ z3 d0 d1 hsf (((HS.out.1.below HB2.out.1).below HB6.out.1).below MM.out.below) (by omega)).mono ?_
  rintro e z4 ⟨v, rfl, hO⟩
  obtain ⟨va, vc, hv, _, _⟩ := own_frmV hO.own
  rw [← fndL_len am k0 k1 m O] at hv
  subst hv
  have HO4 : Hid (z4.ownsRow z3.heap.size 95 2 (.slice va (fndL am k0 k1 m O).length vc) (fndL am k0 k1 m O).length (flatL (oL (fndL am k0 k1 m O) (fun j => if j = 0 then (some ⟨g, 0, none⟩, 1) else A (j - 1))) (fndL am k0 k1 m O).length) ∧ Below z3.heap.size z3 z4) := by
   refine ⟨?_, hO.below⟩
   have h1 := hO.own
   have h2 := flat_fnd am k0 k1 O m A (some ⟨g, 0, none⟩) 1 m (Nat.le_refl _)
   rw [← fndL_len am k0 k1 m O] at h1 h2
   rw [h2]
   exact h1
  have hlen := fndL_len am k0 k1 m O
  have HFR : Hid (FinR z4 v6.heap.size ia ic n Z va vc (fndL am k0 k1 m O) (fun j => if j = 0 then (some ⟨g, 0, none⟩, 1) else A (j - 1))) := by
   have s36 := MM.out.below.size
   have s34 := HO4.out.2.size
   have hlt := HO4.out.1.lt
   have hli := MM.out.ins.lt
   refine ⟨own_below MM.out.ins HO4.out.2, own_low HO4.out.1 s36, fun j hj w' hw => ?_, fun j hj e => ?_, by omega⟩
   ·match j, hj with
    | 0, _ =>
     simp only [if_true]
     rw [fnd_0]
     refine HB6.out.2.1 w' (fun k h1 h2 => ?_)
     rw [hw k (by omega) (fun e => by have := (hli k e.symm).1; omega) (fun e => by have := (hlt k e.symm).1; omega), HO4.out.2.block k (by omega)]
     exact MM.out.below.block k h2
    | j + 1, hj =>
     have hjm : j < m := by rw [hlen] at hj; omega
     simp only [Nat.add_eq_zero_iff, Nat.one_ne_zero, and_false, if_false, Nat.add_sub_cancel]
     rw [fnd_S am k0 k1 m O j hjm]
     refine brAt_eq (HS.out.2 j hjm).1 (fun k hk => ?_)
     have s26 := HB6.out.1.size
     have s02 := HB2.out.1.size
     rw [hw k (by omega) (fun e => by have := (hli k e.symm).1; omega) (fun e => by have := (hlt k e.symm).1; omega), HO4.out.2.block k (by omega), MM.out.below.block k (by omega), HB6.out.1.block k (by omega)]
     exact HB2.out.1.block k hk
   ·match j, hj with
    | 0, _ => simp at e
    | j + 1, hj =>
     have hjm : j < m := by rw [hlen] at hj; omega
     simp only [Nat.add_eq_zero_iff, Nat.one_ne_zero, and_false, if_false, Nat.add_sub_cancel] at e ⊢
     rw [fnd_S am k0 k1 m O j hjm]
     exact (HS.out.2 j hjm).2 e
  have HBG : Hid (∀ j, j < (fndL am k0 k1 m O).length → (oF (fndL am k0 k1 m O) j).Big) := fun j hj => by
   match j, hj with
   | 0, _ =>
    show (fndO am k0 k1).Big
    have h1 := Cd.insL_len (kz2 k0 k1) 2
    exact ⟨by simp [fndO], fun i _ => by simp only [fndO, Cd.kb]; omega⟩
   | j + 1, hj =>
    have hjm : j < m := by rw [hlen] at hj; omega
    show ((fndL am k0 k1 m O).getD (j + 1) default).Big
    rw [fnd_S am k0 k1 m O j hjm]
    exact HH.out.2.2.2.1 j hjm
  have HM4 : Hid (Below v6.heap.size v6 z4) := Below.transS MM.out.below HO4.out.2
  have HED : Hid (fndE n Z am k0 k1 m O = finE n Z (fndL am k0 k1 m O) 0) := rfl
  refine hK.out _ _ (HV.out z4 HM4.out) (fun _ => ?_)
  clear hK K hO d0 d1 hsf
  generalize hos : fndL am k0 k1 m O = os at *
  have HOS := hidV hos
  have HLN := hidV hlen
  clear hos hlen
  try simp only [Act.put, zA, zB, zC]
  refine wpT (i := 7) (oi := ⟨some 26, .build 50 #[(1, .tmp 20), (2, .tmp 25)], 50, _, _, none⟩) (v := .agg (txv 0 ia n ic va os.length vc)) rfl (by kernel_rfl) (fun _ _ _ h => h) (Or.inl ⟨by rfl, ?_⟩) (by assumption) ?_
  ·intro wz hSw; (try dsimp only at hSw); kernel_rfl
  try simp only [Act.put, zA, zB, zC]
  refine wpAnyH_ready (rs := [8]) (by kernel_rfl) (by simp) ?_
  refine (AllReadyH.cons (o := ⟨some 27, .call { callee := Go.Callee.value (.func 27), args := #[.tmp 26], argTypes := #[50] }, 53, _, _, none⟩) rfl (fun K hK => ?_) AllReadyH.nil)
  go_simp
  by_cases he : finE n Z os 0 = 0
  ·have hsm := txE_small (lk := 0) (n := n) (X := tF Z) (m := os.length) (O := oF os) he
   refine (finish_ok 0 v6.heap.size ia ic n Z va vc os _ z4 HFR.out HH.out.2.1 hsm (by omega) (by have := HLN.out; omega) he).mono ?_
   rintro e z5 ⟨rfl, ht, hb⟩
   have HT := hidV ht
   have HM5 : Hid (Below v6.heap.size v6 z5) := HM4.out.trans hb
   have hr5 : z5.heap[rb]? = some (.cells #[.int .i64 0, .slice none 0 0, .slice none 0 0] 50 (0, 0)) := heap_below (Below.transS HB6.out.1 HM5.out) HB2.out.2.1
   clear ht hb
   refine hK.out _ _ (HV.out z5 HM5.out) (fun _ => ?_)
   clear hK K
   try simp only [Act.put, zA, zB, zC]
   refine wpT (i := 9) (oi := ⟨some 28, .extract (.tmp 27) 0, 50, _, _, none⟩) (v := ?_) rfl (by kernel_rfl) (fun _ _ _ h => h) (Or.inl ⟨by rfl, ?_⟩) (by assumption) ?_
   rotate_left
   ·intro wz hSw; (try dsimp only at hSw); go_simp; (try with_reducible rfl)
   try simp only [Act.put, zA, zB, zC]
   refine wpT (i := 10) (oi := ⟨some 29, .extract (.tmp 27) 1, 52, _, _, none⟩) (v := ?_) rfl (by kernel_rfl) (fun _ _ _ h => h) (Or.inl ⟨by rfl, ?_⟩) (by assumption) ?_
   rotate_left
   ·intro wz hSw; (try dsimp only at hSw); go_simp; (try with_reducible rfl)
   try simp only [Act.put, zA, zB, zC]
   refine wpAnyH_ready (rs := [11]) (by kernel_rfl) (by simp) ?_
   refine (AllReadyH.cons (o := ⟨none, .store 50 (.tmp 8) (.tmp 28), 0, _, _, none⟩) rfl (fun K hK => ?_) AllReadyH.nil)
   refine step_storeG 50 szTx rfl _ _ rfl rb (by rfl) (txv 0 ia n ic va os.length vc) #[.int .i64 0, .slice none 0 0, .slice none 0 0] rfl rfl (by simp [txv, Value.oneCell']) 50 (by rfl) hr5 ?_
   intro z6 hg6' hf6'
   have HX6 := hidV (And.intro hg6' hf6')
   have hS6 : z6.rangeAt fb 0 [.int .i64 am, .slice (some ⟨g, 0, none⟩) 1 1] := fun j v hv => by
    rw [World.cell?_of_block (a := ⟨fb, 0 + j, none⟩) (hf6'.block fb (by have := HB6.out.2.2.2; have := HM5.out.size; omega) (by have := HFB.out; simp; omega))]
    exact HV.out z5 HM5.out j v hv
   clear hg6' hf6'
   refine hK.out _ _ hS6 (fun _ => ?_)
   clear hK K
   try simp only [Act.put]
   refine wpT (i := 12) (oi := ⟨some 9, .assign (.tmp 29), 52, _, _, none⟩) (v := ?_) rfl (by kernel_rfl) (fun _ _ _ h => h) (Or.inl ⟨by rfl, ?_⟩) (by assumption) ?_
   rotate_left
   ·intro wz hSw; (try dsimp only at hSw); go_simp; (try with_reducible rfl)
   try simp only [Act.put, zA, zB, zC]
   refine wpAnyH_done (by kernel_rfl) (NoPanic.normal ?_) _
   try simp only [Act.put, zA, zB, zC]
   clear hHeld
   go_wp2
   refine bodyPost_ret (results_T2 Tryz.results20 _ z6 rb 50 _ _ _ (0, 0) rfl HX6.out.1) rfl ⟨fun h => absurd (HED.out.trans he) h, fun _ => ⟨ia, ic, va, vc, ?_, ?_⟩, ?_⟩
   ·rw [HOS.out]; rfl
   ·rw [HOS.out]
    exact HT.out z6 (fun k h1 h2 => HX6.out.2.block k h2 (by have := HFB.out; have := HB6.out.1.size; simp; omega))
   ·exact (Below.transS HB2.out.1 (Below.transS HB6.out.1 HM5.out)).trans (HX6.out.2.below (by have := HB2.out.1.size; have := HB6.out.1.size; have := HM5.out.size; omega) (by have := HFB.out; simp; omega))
  ·refine (finish_badX 0 v6.heap.size ia ic n Z va vc os _ z4 HFR.out HH.out.2.1 HBG.out (by omega) (by have := HLN.out; omega) he).mono ?_
   rintro e z5 ⟨rfl, hb⟩
   have HM5 : Hid (Below v6.heap.size v6 z5) := Below.transS HM4.out hb
   have hr5 : z5.heap[rb]? = some (.cells #[.int .i64 0, .slice none 0 0, .slice none 0 0] 50 (0, 0)) := heap_below (Below.transS HB6.out.1 HM5.out) HB2.out.2.1
   have HNE := hidV he
   clear hb he
   refine hK.out _ _ (HV.out z5 HM5.out) (fun _ => ?_)
   clear hK K
   try simp only [Act.put, zA, zB, zC]
   refine wpT (i := 9) (oi := ⟨some 28, .extract (.tmp 27) 0, 50, _, _, none⟩) (v := ?_) rfl (by kernel_rfl) (fun _ _ _ h => h) (Or.inl ⟨by rfl, ?_⟩) (by assumption) ?_
   rotate_left
   ·intro wz hSw; (try dsimp only at hSw); go_simp; (try with_reducible rfl)
   try simp only [Act.put, zA, zB, zC]
   refine wpT (i := 10) (oi := ⟨some 29, .extract (.tmp 27) 1, 52, _, _, none⟩) (v := ?_) rfl (by kernel_rfl) (fun _ _ _ h => h) (Or.inl ⟨by rfl, ?_⟩) (by assumption) ?_
   rotate_left
   ·intro wz hSw; (try dsimp only at hSw); go_simp; (try with_reducible rfl)
   try simp only [Act.put, zA, zB, zC]
   refine wpAnyH_ready (rs := [11]) (by kernel_rfl) (by simp) ?_
   refine (AllReadyH.cons (o := ⟨none, .store 50 (.tmp 8) (.tmp 28), 0, _, _, none⟩) rfl (fun K hK => ?_) AllReadyH.nil)
   refine step_storeG 50 szTx rfl _ _ rfl rb (by rfl) #[.int .i64 0, .slice none 0 0, .slice none 0 0] #[.int .i64 0, .slice none 0 0, .slice none 0 0] rfl rfl (by kernel_rfl) 50 (by rfl) hr5 ?_
   intro z6 hg6' hf6'
   have HX6 := hidV (And.intro hg6' hf6')
   have hS6 : z6.rangeAt fb 0 [.int .i64 am, .slice (some ⟨g, 0, none⟩) 1 1] := fun j v hv => by
    rw [World.cell?_of_block (a := ⟨fb, 0 + j, none⟩) (hf6'.block fb (by have := HB6.out.2.2.2; have := HM5.out.size; omega) (by have := HFB.out; simp; omega))]
    exact HV.out z5 HM5.out j v hv
   clear hg6' hf6'
   refine hK.out _ _ hS6 (fun _ => ?_)
   clear hK K
   try simp only [Act.put]
   refine wpT (i := 12) (oi := ⟨some 9, .assign (.tmp 29), 52, _, _, none⟩) (v := ?_) rfl (by kernel_rfl) (fun _ _ _ h => h) (Or.inl ⟨by rfl, ?_⟩) (by assumption) ?_
   rotate_left
   ·intro wz hSw; (try dsimp only at hSw); go_simp; (try with_reducible rfl)
   try simp only [Act.put, zA, zB, zC]
   refine wpAnyH_done (by kernel_rfl) (NoPanic.normal ?_) _
   try simp only [Act.put, zA, zB, zC]
   clear hHeld
   go_wp2
   refine bodyPost_ret (results_T2 Tryz.results20 _ z6 rb 50 _ _ _ (0, 0) rfl HX6.out.1) rfl ⟨fun _ => by rw [HED.out]; rfl, fun h => absurd (HED.out.symm.trans h) HNE.out, ?_⟩
   exact (Below.transS HB2.out.1 (Below.transS HB6.out.1 HM5.out)).trans (HX6.out.2.below (by have := HB2.out.1.size; have := HB6.out.1.size; have := HM5.out.size; omega) (by have := HFB.out; simp; omega))
end Go.Proofs.YtjnepkggdkccaaaGreatDoor
