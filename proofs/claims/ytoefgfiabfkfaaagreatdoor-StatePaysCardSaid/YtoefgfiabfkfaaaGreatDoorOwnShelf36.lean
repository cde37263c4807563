/- The document's Keyed on plain numbers: blocks one behind the other. -/
import Derived.Test.YtoefgfiabfkfaaaGreatDoorOwnShelf34
import Derived.Test.YtoefgfiabfkfaaaGreatDoorOwnShelf35
import Derived.Test.YtoefgfiabfkfaaaGreatDoorOwnShelf09
namespace Go.Proofs.YtoefgfiabfkfaaaGreatDoor

/-- Blocks taken in, c bytes being in already. -/
def bk (h : List Nat) (c : Nat) (A : List Nat) : List Nat :=
 if hA : A.length ≤ 64 then cF h (pad A) (c + A.length) true else bk (cF h (A.take 64) (c + 64) false) (c + 64) (A.drop 64)
termination_by A.length
decreasing_by simp; omega
theorem bk_last {h A : List Nat} {c : Nat} (hA : A.length ≤ 64) : bk h c A = cF h (pad A) (c + A.length) true := by
 rw [bk, dif_pos hA]
theorem bk_more {h A : List Nat} {c : Nat} (hA : 64 < A.length) : bk h c A = bk (cF h (A.take 64) (c + 64) false) (c + 64) (A.drop 64) := by
 rw [bk, dif_neg (by omega)]
theorem feed_new {h : List Nat} {c : Nat} {b : List Nat} (hb : b.length = 64) : ∀ (D : List Nat), D ≠ [] → feed ⟨h, c, b⟩ D = feed ⟨cF h b (c + 64) false, c + 64, []⟩ D
 | [], h0 => absurd rfl h0
 | x :: D, _ => by
  rw [feed_cons, feed_cons]
  have e1 : feed1 ⟨h, c, b⟩ x = ⟨cF h b (c + 64) false, c + 64, [x]⟩ := if_pos hb
  have e2 : feed1 ⟨cF h b (c + 64) false, c + 64, []⟩ x = ⟨cF h b (c + 64) false, c + 64, [x]⟩ := if_neg (by simp)
  rw [e1, e2]
theorem sum_bk : ∀ (n : Nat) (h : List Nat) (c : Nat) (A : List Nat), A.length ≤ n → sumS (feed ⟨h, c, []⟩ A) = endL (bk h c A) := by
 intro n
 induction n with
 | zero =>
  intro h c A hA
  have : A = [] := List.eq_nil_of_length_eq_zero (by omega)
  subst this
  rw [bk_last (by simp)]; rfl
 | succ n ih =>
  intro h c A hA
  by_cases hl : A.length ≤ 64
  ·rw [feed_room h c A [] (by simp; exact hl), bk_last hl, sumS]; simp
  ·rw [bk_more (by omega)]
   have e : A = A.take 64 ++ A.drop 64 := (List.take_append_drop 64 A).symm
   have hd : A.drop 64 ≠ [] := by
    intro h0
    have := congrArg List.length h0
    simp at this
    omega
   have h1 : feed ⟨h, c, []⟩ A = feed ⟨cF h (A.take 64) (c + 64) false, c + 64, []⟩ (A.drop 64) := by
    conv => lhs; rw [e]
    rw [feed_append, feed_room h c (A.take 64) [] (by simp; omega), List.nil_append, feed_new (by simp; omega) _ hd]
   rw [h1]
   exact ih _ _ _ (by simp; omega)
/-- The bytes of a key's block, if there is a key. -/
def kyL (K : List Nat) : List Nat := if K.length = 0 then [] else pad K
theorem keyed_bk (K b : List Nat) (hK : K.length ≤ 32) : keyedF K b = endL (bk (h0 K.length) 0 (kyL K ++ b)) := by
 rw [← sum_bk _ _ _ _ (Nat.le_refl _), keyedF]
 congr 1
 rw [feed_append]
 congr 1
 unfold new0 kyL
 split
 ·rename_i h; rw [h]; rfl
 ·rw [feed_room _ _ (pad K) [] (by rw [pad_len (by omega)]; simp)]; rfl
/-- As many noughts behind as make whole blocks, one at least. -/
def full (A : List Nat) : Nat := if A.length = 0 then 64 else (A.length + 63) / 64 * 64
def padA (A : List Nat) : List Nat := A ++ List.replicate (full A - A.length) 0
theorem full_bd (A : List Nat) : A.length ≤ full A ∧ full A % 64 = 0 ∧ 0 < full A ∧ full A < A.length + 64 + (if A.length = 0 then 1 else 0) := by
 unfold full
 split
 ·simp [*]
 ·omega
theorem padA_len (A : List Nat) : (padA A).length = full A := by have := (full_bd A).1; simp [padA]; omega
theorem padA_by {A : List Nat} (h : ∀ i, A.getD i 0 < 256) : ∀ i, (padA A).getD i 0 < 256 := fun _ => getD_append_lt h (zeros_lt _)
/-- A block that is not the last one. -/
theorem blk_mid {A : List Nat} {i : Nat} (h : i + 64 < full A) (h64 : i % 64 = 0) : 64 < (A.drop i).length ∧ ((padA A).drop i).take 64 = (A.drop i).take 64 := by
 have hb := full_bd A
 have hf : i + 64 < A.length := by
  split at hb <;> omega
 refine ⟨by simp; omega, ?_⟩
 rw [padA, List.drop_append_of_le_length (by omega), List.take_append_of_le_length (by simp; omega)]
/-- The last block. -/
theorem blk_end {A : List Nat} {i : Nat} (h : i + 64 = full A) : (A.drop i).length ≤ 64 ∧ ((padA A).drop i).take 64 = pad (A.drop i) ∧ i ≤ A.length := by
 have hb := full_bd A
 have hi : i ≤ A.length := by split at hb <;> omega
 refine ⟨by simp; omega, ?_, hi⟩
 rw [padA, List.drop_append_of_le_length hi, List.take_of_length_le (by simp; omega), pad]
 congr 2
 simp
 omega
end Go.Proofs.YtoefgfiabfkfaaaGreatDoor
/- The document's Keyed and Sum. -/
namespace Go.Proofs.YtoefgfiabfkfaaaGreatDoor
open Go.RowKit

def iL (l : List Nat) : List Int := l.map (fun x : Nat => (x : Int))
theorem iL_len (l : List Nat) : (iL l).length = l.length := by simp [iL]
theorem iL_sl (l : List Nat) : (iL l).map (Value.int .u8) = sl8 l := by simp [iL, sl8]
theorem iL_app (a b : List Nat) : iL a ++ iL b = iL (a ++ b) := by simp [iL]
theorem iL_bd {l : List Nat} (h : ∀ i, l.getD i 0 < 256) : ∀ y, y ∈ iL l → 0 ≤ y ∧ y ≤ 255 := by
 intro y hy
 obtain ⟨x, hx, rfl⟩ := List.mem_map.1 hy
 obtain ⟨j, hj, rfl⟩ := List.mem_iff_getElem.1 hx
 have := h j
 rw [List.getD_eq_getElem?_getD, List.getElem?_eq_getElem hj] at this
 simp at this
 omega
theorem SlB.src {w : World} {ad : Option Addr} {b : List Nat} (h : SlB w ad b) (cap : Nat) (hn : ad = none → b.length = 0) : BSrc w (.slice ad b.length cap) (iL b) := by
 refine ⟨ad, cap, by rw [iL_len], ?_⟩
 cases ad with
 | none => exact .inl ⟨rfl, by have := hn rfl; rw [List.eq_nil_of_length_eq_zero this]; rfl⟩
 | some a =>
  refine .inr ⟨a, rfl, fun j v hj => ?_⟩
  rw [iL_sl] at hj
  have hjl : j < b.length := by have := (List.getElem?_eq_some_iff.1 hj).1; rwa [sl8_len] at this
  obtain ⟨g, o, e, hr⟩ := h (by omega)
  cases e
  rw [Addr.add_lit]
  exact hr j v hj
theorem OwB.form {w0 w : World} {v : Value} {L : List Nat} (h : Ow w0 w v (iL L)) (hl : 0 < L.length) : ∃ g cap, v = .slice (some ⟨g, 0, none⟩) L.length cap ∧ w.rangeAt g 0 (sl8 L) ∧ w0.heap.size ≤ g ∧ L.length ≤ cap := by
 have hown := h.own
 rcases h.own.2 with ⟨_, h0⟩ | ⟨g, cap, cur, rfl, hb, hg, hcap, _⟩
 ·rw [iL_len] at h0; omega
 ·rw [iL_len] at hcap
  refine ⟨g, cap, by rw [iL_len], fun j u hu => ?_, hb, hcap⟩
  have := hown.cells (g := g) rfl j u (by rw [iL_sl]; exact hu)
  rwa [Addr.add_lit] at this
theorem zero_src (w : World) : BSrc (w.alloc (.cells #[.int .u8 0] 5)) (.slice (some ⟨w.heap.size, 0, none⟩) 1 1) (iL [0]) := one_src w 0
theorem run_build0 (w : World) : (Instr.buildSlice 31 1 #[(0, .int .u8 0)]).run Tryz.prog w = .ok (.slice (some ⟨w.heap.size, 0, none⟩) 1 1) (w.alloc (.cells #[.int .u8 0] 5)) := by kernel_rfl
theorem wpList_build0 {ops : Array Oper} {rest : List Oper} {o : Oper} {a : Act} {w : World} {Q : Exit → Act → World → Prop} (hgd : o.guard = none) (ho : o.op = .buildSlice 31 1 #[(0, .const (.int .u8 0))])
  (h : wpList Tryz.prog ops Q rest (a.put o.dst (.slice (some ⟨w.heap.size, 0, none⟩) 1 1)) (w.alloc (.cells #[.int .u8 0] 5))) : wpList Tryz.prog ops Q (o :: rest) a w := by
 refine wpList_plain hgd fun K hK => ?_
 unfold Oper.wp execOp
 simp only [ho, List.map_toArray, List.map_cons, List.map_nil, show a.eval (.const (.int .u8 0)) = .int .u8 0 from rfl, Sem.run_bind, run_build0, Result.andThen]
 exact hK _ _ h
def lenV : Value → Nat
 | .slice _ n _ => n
 | _ => 0
theorem full_mid {A : List Nat} {n : Nat} (h1 : A.length ≤ n) (h2 : n < full A) : n % 64 ≠ 0 ∨ n = 0 := by
 unfold full at h2
 split at h2 <;> omega
theorem full_le (A : List Nat) : full A ≤ A.length + 64 := by
 unfold full
 split <;> omega
/-- A row and k noughts behind. -/
def zA (A : List Nat) (k : Nat) : List Nat := A ++ List.replicate k 0
theorem zA_len (A : List Nat) (k : Nat) : (zA A k).length = A.length + k := by simp [zA]
theorem zA_succ (A : List Nat) (k : Nat) : iL (zA A k) ++ iL [0] = iL (zA A (k + 1)) := by rw [iL_app, zA, zA, List.append_assoc, List.replicate_succ']
theorem rtake_at (last : Bool) (gh ch gb ob cb : Nat) (h b : List Nat) (t : Nat) (w : World) (tI : Int) (lB : Bool) (eT : tI = (t : Nat)) (eL : lB = last) (hH : VAt w gh h) (oh : Wd 8 h) (hB : w.rangeAt gb ob (sl8 b)) (hb : By 64 b) (ht : t < 18446744073709551616) :
  Calls Tryz.prog 70 #[.slice (some ⟨gh, 0, none⟩) 8 ch, .slice (some ⟨gb, ob, none⟩) 64 cb, .int .u64 tI, .bool lB] w fun e w' => ∃ g c, e = .returned (.slice (some ⟨g, 0, none⟩) 8 c) ∧ VAt w' g (cF h b t last) ∧ Wd 8 (cF h b t last) ∧ Below w.heap.size w w' ∧ w.heap.size ≤ g := by
 subst eT eL
 refine (rtake_any lB gh ch gb ob cb h b t w hH oh hB hb ht).mono ?_
 rintro e w' ⟨v, rfl, hO⟩
 have ok := cF_ok (b := b) oh t lB
 obtain ⟨g, c, rfl, hV, hle, _⟩ := hO.form (by rw [ok.1]; decide)
 rw [ok.1]
 exact ⟨g, c, rfl, hV, ok, hO.below, hle⟩
theorem blkA_by {L : List Nat} {i : Nat} (h : ∀ j, L.getD j 0 < 256) (hi : i + 64 ≤ L.length) : By 64 ((L.drop i).take 64) := by
 refine ⟨by simp; omega, fun j => ?_⟩
 have := h (i + j)
 simp only [List.getD_eq_getElem?_getD, List.getElem?_take, List.getElem?_drop] at this ⊢
 split
 ·exact this
 ·simp
theorem blk_at {w w' : World} {g i : Nat} {L : List Nat} (h : w.rangeAt g 0 (sl8 L)) (hb : Below w.heap.size w w') : w'.rangeAt g i (sl8 ((L.drop i).take 64)) := by
 intro j v hj
 have h1 : (sl8 L)[i + j]? = some v := by
  simp only [sl8, List.getElem?_map, List.getElem?_take, List.getElem?_drop] at hj ⊢
  split at hj
  ·exact hj
  ·simp at hj
 have h2 := h (i + j) v h1
 rw [Nat.zero_add] at h2
 rw [hb.cell (p := ⟨g, i + j, none⟩) (World.block_lt_of_cell? w _ h2)]; exact h2
theorem bk_mid {h A : List Nat} {i : Nat} (h1 : 64 < (A.drop i).length) : bk (cF h ((A.drop i).take 64) (i + 64) false) (i + 64) (A.drop (i + 64)) = bk h i (A.drop i) := by
 rw [bk_more h1, List.drop_drop]
theorem bk_end {h A : List Nat} {i : Nat} (h1 : (A.drop i).length ≤ 64) (hi : i ≤ A.length) : cF h (pad (A.drop i)) A.length true = bk h i (A.drop i) := by
 rw [bk_last h1, List.length_drop, Nat.add_sub_cancel' hi]
theorem h0_assoc (n : Nat) : firstL.set 0 (xorW (xorW (firstL.getD 0 0) 16842784) (256 * n % 4294967296)) = h0 n := by
 unfold h0
 rw [Nat.mul_comm 256 n]
 generalize firstL.getD 0 0 = u
 have hx : ∀ a b c : Nat, xorW (xorW a b) c = xorW a (xorW b c) := fun a b c => Nat.xor_assoc a b c
 rw [hx]

set_option maxRecDepth 20000 in
set_option maxHeartbeats 8000000 in
theorem rkeyed_none (kd ad : Option Addr) (kc cap : Nat) (b : List Nat) (w : World)  (hB : SlB w ad b) (hbn : ad = none → b.length = 0) (hb : ∀ i, b.getD i 0 < 256) (hl : b.length ≤ 140737488351232) :
  Calls Tryz.prog 51 #[.slice kd 0 kc, .slice ad b.length cap] w fun e w' => e = .returned (.tuple #[.agg (sv (keyedF ([] : List Nat) b)), .int .i64 0]) ∧ Below w.heap.size w w' := by
 have il : (b.length : Int) ≤ 140737488351232 := by omega
 have HE : Hid (keyedF ([] : List Nat) b = endL (bk (h0 0) 0 (kyL ([] : List Nat) ++ b))) := keyed_bk ([] : List Nat) b (by decide)
 have HKY : Hid (kyL ([] : List Nat) = ([] : List Nat)) := by exact rfl
 have HB : Hid (SlB w ad b ∧ (ad = none → b.length = 0) ∧ (∀ i, b.getD i 0 < 256)) := ⟨hB, hbn, hb⟩
 clear hB hbn hb
 go_enter Tryz.func51, Tryz.ntmps51
 have hn0 : ((w.alloc (.cells (sv z32) 28)).alloc (.cells (sv z32) 28)).heap[w.heap.size]? = some (.cells (sv z32) 28 (0, 0)) := by
  rw [Below.heap_alloc _ _ _ (by simp)]; exact heap_alloc_new w _
 have hn1 : ((w.alloc (.cells (sv z32) 28)).alloc (.cells (sv z32) 28)).heap[w.heap.size + 1]? = some (.cells (sv z32) 28 (0, 0)) := by
  have := heap_alloc_new (w.alloc (.cells (sv z32) 28)) (.cells (sv z32) 28)
  simpa using this
 have hF0 : Frm [] w ((w.alloc (.cells (sv z32) 28)).alloc (.cells (sv z32) 28)) := ((Frm.refl [] w).alloc _).alloc _
 go_upto_region 4 with (first | (refine wpList_allocHs rfl rfl ?_) | fail)
 generalize (w.alloc (.cells (sv z32) 28)).alloc (.cells (sv z32) 28) = W0 at *
 go_wp2_with fail
 refine (begin_any W0).mono ?_
 rintro e W1 ⟨rfl, rfl⟩
 have hV1 : VAt (W0.alloc (.cells (wv firstL) 120)) W0.heap.size firstL := ⟨[], 120, by rw [List.append_nil]; exact heap_alloc_new W0 _⟩
 have hF1 : Frm [] w (W0.alloc (.cells (wv firstL) 120)) := hF0.alloc _
 have hl0 : w.heap.size + 1 < W0.heap.size := lt_of_block hn1
 have hr0 : (W0.alloc (.cells (wv firstL) 120)).heap[w.heap.size]? = some (.cells (sv z32) 28 (0, 0)) := by rw [Below.heap_alloc _ _ _ (by omega)]; exact hn0
 have hr1 : (W0.alloc (.cells (wv firstL) 120)).heap[w.heap.size + 1]? = some (.cells (sv z32) 28 (0, 0)) := by rw [Below.heap_alloc _ _ _ (by omega)]; exact hn1
 generalize W0.alloc (.cells (wv firstL) 120) = W1 at *
 clear hn0 hn1 hF0
 obtain ⟨x0, hx0⟩ : ∃ u, u = firstL.getD 0 0 := ⟨_, rfl⟩
 have lx0 : x0 < 4294967296 := by rw [hx0]; exact firstL_ok.2 0
 obtain ⟨y0, hy0⟩ : ∃ u, u = xorW x0 16842784 := ⟨_, rfl⟩
 have ly0 : y0 < 4294967296 := by rw [hy0]; exact xorW_lt lx0 (by decide)
 obtain ⟨z0, hz0⟩ : ∃ u, u = xorW y0 (256 * 0 % 4294967296) := ⟨_, rfl⟩
 have c0 : W1.cell? ⟨W0.heap.size, 0, none⟩ = some (.int .u32 (x0 : Nat)) := by rw [hx0]; exact hV1.cell (by decide)
 have f0 := hV1.free 0
 have n1 : bits .xor .u32 (x0 : Int) 16842784 = (y0 : Nat) := by rw [hy0]; exact xor_W x0 16842784 lx0 (by decide)
 have n2 : bits .xor .u32 (y0 : Int) 0 = (z0 : Nat) := by
  rw [hz0]
  have := xor_W y0 (256 * 0 % 4294967296) ly0 (Nat.mod_lt _ (by decide))
  rw [show ((256 * 0 % 4294967296 : Nat) : Int) = 0 by omega] at this
  exact this
 have hV2 : VAt (W1.setCell ⟨W0.heap.size, 0, none⟩ (.int .u32 (z0 : Nat))) W0.heap.size (h0 0) := by
  have := hV1.set (j := 0) (by decide) z0
  rw [hz0, hy0, hx0, h0_assoc] at this
  rw [hz0, hy0, hx0]
  exact this
 have hF2 : Frm [] w (W1.setCell ⟨W0.heap.size, 0, none⟩ (.int .u32 (z0 : Nat))) := ((hF1.mono (T := [W0.heap.size]) (by simp)).setCell _ _ (by simp)).old (fun k hk hlt => by simp at hk; omega)
 have hR0 : (W1.setCell ⟨W0.heap.size, 0, none⟩ (.int .u32 (z0 : Nat))).heap[w.heap.size]? = some (.cells (sv z32) 28 (0, 0)) := ((Frm.refl [W0.heap.size] W1).setCell ⟨W0.heap.size, 0, none⟩ (.int .u32 (z0 : Nat)) (by simp)).heap hr0 (by simp; omega)
 have hR1 : (W1.setCell ⟨W0.heap.size, 0, none⟩ (.int .u32 (z0 : Nat))).heap[w.heap.size + 1]? = some (.cells (sv z32) 28 (0, 0)) := ((Frm.refl [W0.heap.size] W1).setCell ⟨W0.heap.size, 0, none⟩ (.int .u32 (z0 : Nat)) (by simp)).heap hr1 (by simp; omega)
 clear hx0 hy0 hz0 hV1 hF1 hr0 hr1
 go_upto_region 6 with fail
 generalize W1.setCell ⟨W0.heap.size, 0, none⟩ (.int .u32 (z0 : Nat)) = W2 at *
 have hgh : W0.heap.size < W2.heap.size := hV2.lt
 generalize W0.heap.size = gh at *
 have oH := h0_ok 0
 obtain ⟨H0, hH0⟩ : ∃ H, H = h0 0 := ⟨_, rfl⟩
 rw [← hH0] at hV2 oH
 have HH0 : Hid (H0 = h0 0) := hH0
 clear c0 f0 n1 n2 lx0 ly0 hH0
 have hB2 := HB.out.1.below hF2
 have HW2 : Hid (Frm [] w W2 ∧ VAt W2 gh H0 ∧ W2.heap[w.heap.size]? = some (.cells (sv z32) 28 (0, 0)) ∧ W2.heap[w.heap.size + 1]? = some (.cells (sv z32) 28 (0, 0)) ∧ w.heap.size + 1 < W2.heap.size) := ⟨hF2, hV2, hR0, hR1, lt_of_block hR1⟩
 clear hF2 hV2 hR0 hR1
 have hs1 : BSrc W2 (.slice ad b.length cap) (iL b) := hB2.src cap HB.out.2.1
 have hO0 : Ow W2 W2 (.slice none 0 0) (iL []) := Ow.nil W2
 go_upto_region 12 with (first | (at_builtin; refine wpList_append_B rfl _ _ rfl W2 _ _ (iL []) (iL b) rfl rfl hO0 hs1 (iL_bd HB.out.2.2) (by simp [iL]; omega) ?_; intro v3 W3 hO3; rw [iL_app, List.nil_append] at hO3; obtain ⟨ad3, cp3, hv3⟩ := hO3.form; rw [iL_len] at hv3; subst hv3) | fail)
 have HA : Hid (keyedF [] b = endL (bk H0 0 b) ∧ (∀ i, b.getD i 0 < 256)) := ⟨by rw [HE.out, HH0.out]; rfl, HB.out.2.2⟩
 have lA : (b.length : Int) ≤ 140737488351296 := by omega
 have HO3 : Hid (Ow W2 W3 (.slice ad3 b.length cp3) (iL b)) := hO3
 clear hO3 hO0 hs1 hB2 HB HE HH0 HKY il hl
 go_wp2_with fail
 go_loopw [8] (fun av (w' : World) => ∃ k : Nat, b.length + k ≤ full b ∧ Ow W2 w' av (iL (zA b k))) (fun av _ => full b - lenV av)
 case atStart => exact ⟨0, (full_bd b).1, by have := HO3.out; simpa [zA] using this⟩
 case round =>
  obtain ⟨k, hk, hO⟩ := hrel
  obtain ⟨ad4, cp4, hv4⟩ := hO.form
  rw [iL_len, zA_len] at hv4
  subst hv4
  obtain ⟨n, hn⟩ : ∃ n, n = b.length + k := ⟨_, rfl⟩
  rw [← hn] at hO hk
  have hfl := full_le b
  have ln : (n : Int) ≤ 140737488351400 := by omega
  rw [← hn]
  have HO : Hid (Ow W2 wr (.slice ad4 n cp4) (iL (zA b k)) ∧ n = b.length + k ∧ n ≤ full b) := ⟨hO, hn, hk⟩
  by_cases hlt : n < full b
  ·have hd := full_mid (A := b) (n := n) (by omega) hlt
   have hm : ¬ ((n : Int) % 64 = 0) ∨ (n : Int) = 0 := by omega
   have ap : Ow W2 (wr.alloc (.cells #[.int .u8 0] 5)) (.slice ad4 n cp4) (iL (zA b k)) := hO.alloc _
   have ll : (iL (zA b k)).length + (iL [0]).length ≤ 140737488355328 := by rw [iL_len, iL_len, zA_len]; simp; omega
   clear hO hn hk hfl hd
   rcases hm with hm | hm
   ·go_wp2_with (first | (refine wpList_build0 rfl rfl ?_) | (at_builtin; refine wpList_append_B rfl _ _ rfl W2 _ _ (iL (zA b k)) (iL [0]) rfl rfl ap (zero_src _) (by intro y hy; simp [iL] at hy; omega) ll ?_; intro v5 W5 hO5; rw [zA_succ] at hO5; obtain ⟨ad5, cp5, hv5⟩ := hO5.form; rw [iL_len, zA_len] at hv5; subst hv5; have HO5 : Hid (Ow W2 W5 (.slice ad5 (b.length + (k + 1)) cp5) (iL (zA b (k + 1)))) := hO5; clear hO5) | fail)
    go_roundw
    case rel => exact ⟨k + 1, by have := HO.out.2.1; omega, HO5.out⟩
    case measure => have := HO.out.2; simp [lenV]; omega
   ·have hm2 : (n : Int) % 64 = 0 := by omega
    go_wp2_with (first | (refine wpList_build0 rfl rfl ?_) | (at_builtin; refine wpList_append_B rfl _ _ rfl W2 _ _ (iL (zA b k)) (iL [0]) rfl rfl ap (zero_src _) (by intro y hy; simp [iL] at hy; omega) ll ?_; intro v5 W5 hO5; rw [zA_succ] at hO5; obtain ⟨ad5, cp5, hv5⟩ := hO5.form; rw [iL_len, zA_len] at hv5; subst hv5; have HO5 : Hid (Ow W2 W5 (.slice ad5 (b.length + (k + 1)) cp5) (iL (zA b (k + 1)))) := hO5; clear hO5) | fail)
    go_roundw
    case rel => exact ⟨k + 1, by have := HO.out.2.1; omega, HO5.out⟩
    case measure => have := HO.out.2; simp [lenV]; omega
  ·obtain rfl : n = full b := by omega
   have hb := full_bd b
   have hm1 : (full b : Int) % 64 = 0 := by omega
   have hm2 : ((full b : Int) == 0) = false := by simp; omega
   clear hn hk hfl hlt
   obtain ⟨n, hnf⟩ : ∃ n, n = full b := ⟨_, rfl⟩
   rw [← hnf] at hO hm1 hm2 ln hb
   rw [← hnf]
   have hkf : b.length + k = full b := by have := HO.out.2.1; omega
   have hzA : zA b k = padA b := by rw [zA, padA, ← hkf, Nat.add_sub_cancel_left]
   rw [hzA] at hO
   have hbW : Below W2.heap.size W2 wr := hO.below
   obtain ⟨g4, c4, hv4, hr4, hg4, hc4⟩ := OwB.form hO (by rw [padA_len]; omega)
   rw [padA_len, ← hnf] at hv4 hc4
   cases hv4
   have HN : Hid (n = full b) := hnf
   have hV4 : VAt wr gh H0 := by
    obtain ⟨sp, tt, hg⟩ := HW2.out.2.1
    exact ⟨sp, tt, by rw [hbW.block _ (lt_of_block hg)]; exact hg⟩
   have HW4 : Hid (Below W2.heap.size W2 wr ∧ VAt wr gh H0 ∧ wr.rangeAt g4 0 (sl8 (padA b)) ∧ (0 < n ∧ n % 64 = 0)) := ⟨hbW, hV4, hr4, by omega⟩
   clear HO hO hnf hzA hkf hbW hr4 hV4 hb HO3
   have lc4 : (n : Int) ≤ cp4 := by omega
   generalize wr = W4 at *
   go_upto_region 16 with fail
   clear hm1 hm2
   go_loopw [7, 10] (fun hv iv (w' : World) => ∃ (i g c : Nat) (H : List Nat), i ≤ n ∧ i % 64 = 0 ∧ iv = .int .i64 i ∧ hv = .slice (some ⟨g, 0, none⟩) 8 c ∧ VAt w' g H ∧ Wd 8 H ∧ (i < n → bk H i (b.drop i) = bk H0 0 b) ∧ (i = n → H = bk H0 0 b) ∧ Below W4.heap.size W4 w' ∧ w.heap.size + 1 < g) (fun _ iv _ => n - (intOf iv).toNat)
   case atStart => exact ⟨0, gh, 8, H0, by omega, rfl, rfl, rfl, HW4.out.2.1, oH, fun _ => rfl, fun h => by have := HW4.out.2.2.2; omega, Below.refl _ _, hl0⟩
   case round =>
    obtain ⟨i, g, c, H, hi, h64, rfl, rfl, hVi, oHi, hbi, hei, hBi, hgi⟩ := hrel
    by_cases hlt : i < n
    ·have hi' : (i : Int) < n := by omega
     have hle : i + 64 ≤ n := by have := HW4.out.2.2.2; omega
     have i64 : (i : Int) + 64 ≤ n := by omega
     have i64c : (i : Int) + 64 ≤ cp4 := by omega
     by_cases hmid : i + 64 < n
     ·have hq1 : ¬ ((i : Int) + 64 = n) := by omega
      have hbm := blk_mid (A := b) (i := i) (by rw [← HN.out]; exact hmid) h64
      have hq2 : (i : Int) + 64 < (b.length : Int) := by have := hbm.1; simp at this; omega
      have HI : Hid (bk H i (b.drop i) = bk H0 0 b) := hbi hlt
      have HM : Hid (64 < (b.drop i).length ∧ ((padA b).drop i).take 64 = (b.drop i).take 64 ∧ i ≤ n ∧ i % 64 = 0 ∧ i + 64 < n) := ⟨hbm.1, hbm.2, hi, h64, hmid⟩
      have HV : Hid (VAt wr g H ∧ Below W4.heap.size W4 wr) := ⟨hVi, hBi⟩
      clear hbi hei hbm hVi hBi hmid hle
      go_wp2_with fail
      refine (rtake_at false g c g4 i (cp4 - i) H (((padA b).drop i).take 64) (i + 64) wr _ _ (by omega) (by simp; omega) HV.out.1 oHi (blk_at HW4.out.2.2.1 HV.out.2) (blkA_by (padA_by HA.out.2) (by rw [padA_len, ← HN.out]; have := HM.out.2.2.2.2; omega)) (by omega)).mono ?_
      rintro e W5 ⟨g5, c5, rfl, hV5, o5, hB5, hg5⟩
      rw [HM.out.2.1] at hV5 o5
      have HE5 : Hid (bk (cF H ((b.drop i).take 64) (i + 64) false) (i + 64) (b.drop (i + 64)) = bk H0 0 b) := by show _ = _; rw [bk_mid HM.out.1]; exact HI.out
      obtain ⟨H5, hH5⟩ : ∃ H5, H5 = cF H ((b.drop i).take 64) (i + 64) false := ⟨_, rfl⟩
      rw [← hH5] at hV5 o5 HE5
      have HV5 : Hid (VAt W5 g5 H5 ∧ Below W4.heap.size W4 W5 ∧ w.heap.size + 1 < g5) := ⟨hV5, HV.out.2.trans (hB5.mono HV.out.2.size), by have := HV.out.2.size; have := HW4.out.1.size; have := HW2.out.2.2.2.2; omega⟩
      clear hH5 hV5 hB5 hg5
      go_wp2_with fail
      go_roundw
      case rel => exact ⟨i + 64, g5, c5, H5, by have := HM.out.2.2.2.2; omega, by have := HM.out.2.2.2.1; omega, by go_num, rfl, HV5.out.1, o5, fun _ => HE5.out, fun h => by have := HM.out.2.2.2.2; omega, HV5.out.2.1, HV5.out.2.2⟩
      case measure => simp [intOf]; omega
     ·obtain hie : i + 64 = n := by omega
      have hq1 : (i : Int) + 64 = n := by omega
      have hbm := blk_end (A := b) (i := i) (by rw [← HN.out]; exact hie)
      have hq2 : (b.length : Int) ≤ (i : Int) + 64 := by have := (full_bd b).1; have := HN.out; omega
      have HI : Hid (bk H i (b.drop i) = bk H0 0 b) := hbi hlt
      have HM : Hid ((b.drop i).length ≤ 64 ∧ ((padA b).drop i).take 64 = pad (b.drop i) ∧ i ≤ b.length ∧ i % 64 = 0 ∧ i + 64 = n) := ⟨hbm.1, hbm.2.1, hbm.2.2, h64, hie⟩
      have HV : Hid (VAt wr g H ∧ Below W4.heap.size W4 wr) := ⟨hVi, hBi⟩
      clear hbi hei hbm hVi hBi hmid hle hq1 hie
      go_wp2_with fail
      refine (rtake_at true g c g4 i (cp4 - i) H (((padA b).drop i).take 64) b.length wr _ _ (by omega) (by have := HM.out.2.2.2.2; simp; omega) HV.out.1 oHi (blk_at HW4.out.2.2.1 HV.out.2) (blkA_by (padA_by HA.out.2) (by rw [padA_len, ← HN.out]; have := HM.out.2.2.2.2; omega)) (by omega)).mono ?_
      rintro e W5 ⟨g5, c5, rfl, hV5, o5, hB5, hg5⟩
      rw [HM.out.2.1] at hV5 o5
      have HE5 : Hid (cF H (pad (b.drop i)) b.length true = bk H0 0 b) := by show _ = _; rw [bk_end HM.out.1 HM.out.2.2.1]; exact HI.out
      obtain ⟨H5, hH5⟩ : ∃ H5, H5 = cF H (pad (b.drop i)) b.length true := ⟨_, rfl⟩
      rw [← hH5] at hV5 o5 HE5
      have HV5 : Hid (VAt W5 g5 H5 ∧ Below W4.heap.size W4 W5 ∧ w.heap.size + 1 < g5) := ⟨hV5, HV.out.2.trans (hB5.mono HV.out.2.size), by have := HV.out.2.size; have := HW4.out.1.size; have := HW2.out.2.2.2.2; omega⟩
      clear hH5 hV5 hB5 hg5
      go_wp2_with fail
      go_roundw
      case rel => exact ⟨i + 64, g5, c5, H5, by have := HM.out.2.2.2.2; omega, by have := HM.out.2.2.2.1; omega, by go_num, rfl, HV5.out.1, o5, fun h => by have := HM.out.2.2.2.2; omega, fun _ => HE5.out, HV5.out.2.1, HV5.out.2.2⟩
      case measure => simp [intOf]; omega
    ·obtain rfl : i = n := by omega
     have HG : Hid (H = bk H0 0 b) := hei rfl
     have hbA : Below W2.heap.size W2 wr := HW4.out.1.trans (hBi.mono HW4.out.1.size)
     have hFA : Frm [] w wr := HW2.out.1.trans (Frm.ofBelow hbA)
     have hrA : wr.heap[w.heap.size]? = some (.cells (sv z32) 28 (0, 0)) := by rw [hbA.block _ (lt_of_block HW2.out.2.2.1)]; exact HW2.out.2.2.1
     have hsA : wr.heap[w.heap.size + 1]? = some (.cells (sv (eP H 0)) 28 (0, 0)) := by rw [hbA.block _ (lt_of_block HW2.out.2.2.2.1), eP_zero]; exact HW2.out.2.2.2.1
     have HV : Hid (VAt wr g H ∧ w.heap.size + 1 < g ∧ Frm [] w wr ∧ wr.heap[w.heap.size]? = some (.cells (sv z32) 28 (0, 0)) ∧ wr.heap[w.heap.size + 1]? = some (.cells (sv (eP H 0)) 28 (0, 0))) := ⟨hVi, hgi, hFA, hrA, hsA⟩
     have HS : Hid (keyedF ([] : List Nat) b = endL H) := by show _ = _; rw [HG.out]; exact HA.out.1
     clear hbi hei hVi hBi hgi hbA hFA hrA hsA HW2 HW4 HG HA hi h64 lc4
     go_upto_region 20 with fail
     generalize wr = W5 at *
     obtain ⟨ps, hps⟩ : ∃ ps, ps = w.heap.size + 1 := ⟨_, rfl⟩
     have HP : Hid (ps = w.heap.size + 1) := hps
     rw [← hps] at HV
     rw [← hps]
     clear hps
     go_loopw [11] (fun iv (w' : World) => ∃ k : Nat, k ≤ 32 ∧ iv = .int .i64 k ∧ w'.heap[ps]? = some (.cells (sv (eP H k)) 28 (0, 0)) ∧ Frm [ps] W5 w') (fun iv _ => 32 - (intOf iv).toNat)
     case atStart => exact ⟨0, by omega, rfl, HV.out.2.2.2.2, Frm.refl _ _⟩
     case round =>
      obtain ⟨k, hk, rfl, hv, hF⟩ := hrel
      by_cases hlk : k < 32
      ·have hk' : (k : Int) < 32 := by omega
       obtain ⟨q, hq⟩ : ∃ q, q = k / 4 := ⟨_, rfl⟩
       have q8 : q < 8 := by omega
       have q8' : (q : Int) < 8 := by omega
       have d1 : (k : Int) / 4 = (q : Nat) := by omega
       have hVq : VAt wr g H := HV.out.1.keep hF (by have := HV.out.2.1; have := HP.out; simp; omega)
       obtain ⟨x, hx⟩ : ∃ x, x = H.getD q 0 := ⟨_, rfl⟩
       have lx : x < 4294967296 := by rw [hx]; exact oHi.2 q
       have lxi : (x : Int) < 4294967296 := by omega
       have cx : wr.cell? ⟨g, q, none⟩ = some (.int .u32 (x : Nat)) := by rw [hx]; exact hVq.cell (by rw [oHi.1]; exact q8)
       have c1 : wr.cell? ⟨ps, k, none⟩ = some (.int .u8 ((eP H k).getD k 0 : Nat)) := by rw [cell_of_row wr ps _ _ _ _ hv]; exact sv_at (by rw [eP_len]; omega)
       have f1 : wr.frozen? ⟨ps, k, none⟩ = false := frozen_of_row wr ps _ _ _ hv
       have HN2 : Hid (∀ z : Nat, z = (x >>> (8 * (k % 4))) % 256 → (wr.setCell ⟨ps, k, none⟩ (.int .u8 (z : Nat))).heap[ps]? = some (.cells (sv (eP H (k + 1))) 28 (0, 0)) ∧ Frm [ps] W5 (wr.setCell ⟨ps, k, none⟩ (.int .u8 (z : Nat)))) := by
        intro z hz
        refine ⟨?_, hF.setCell _ _ (by simp)⟩
        have := sv_set hv k z
        rw [this, hz, ← eP_set H hlk]
        have e : (x >>> (8 * (k % 4))) % 256 = leP H k := by rw [leP, ← hq, ← hx]
        rw [e]
       have hrc : k % 4 = 0 ∨ k % 4 = 1 ∨ k % 4 = 2 ∨ k % 4 = 3 := by omega
       clear hv hF hVq hx hq
       rcases hrc with hm | hm | hm | hm
       ·have d2 : (k : Int) % 4 = 0 := by omega
        have hz : Hid _ := HN2.out ((x >>> (8 * 0)) % 256) (by rw [hm])
        have HSH : Hid ((x : Int) % (256 : Int) = (((x >>> (8 * 0)) % 256 : Nat) : Int)) := by show _ = _; rw [Nat.shiftRight_eq_div_pow]; omega
        obtain ⟨z, hze⟩ : ∃ z, z = (x >>> (8 * 0)) % 256 := ⟨_, rfl⟩
        rw [← hze] at hz HSH
        clear HN2 hze hm
        go_wp2
        rw [HSH.out]
        exact ⟨⟨k + 1, by omega, by go_num, hz.out.1, hz.out.2⟩, by simp [intOf]; omega⟩
       ·have d2 : (k : Int) % 4 = 1 := by omega
        have hz : Hid _ := HN2.out ((x >>> (8 * 1)) % 256) (by rw [hm])
        have HSH : Hid ((x : Int) / (256 : Int) % (256 : Int) = (((x >>> (8 * 1)) % 256 : Nat) : Int)) := by show _ = _; rw [Nat.shiftRight_eq_div_pow]; omega
        obtain ⟨z, hze⟩ : ∃ z, z = (x >>> (8 * 1)) % 256 := ⟨_, rfl⟩
        rw [← hze] at hz HSH
        clear HN2 hze hm
        go_wp2
        rw [HSH.out]
        exact ⟨⟨k + 1, by omega, by go_num, hz.out.1, hz.out.2⟩, by simp [intOf]; omega⟩
       ·have d2 : (k : Int) % 4 = 2 := by omega
        have hz : Hid _ := HN2.out ((x >>> (8 * 2)) % 256) (by rw [hm])
        have HSH : Hid ((x : Int) / (65536 : Int) % (256 : Int) = (((x >>> (8 * 2)) % 256 : Nat) : Int)) := by show _ = _; rw [Nat.shiftRight_eq_div_pow]; omega
        obtain ⟨z, hze⟩ : ∃ z, z = (x >>> (8 * 2)) % 256 := ⟨_, rfl⟩
        rw [← hze] at hz HSH
        clear HN2 hze hm
        go_wp2
        rw [HSH.out]
        exact ⟨⟨k + 1, by omega, by go_num, hz.out.1, hz.out.2⟩, by simp [intOf]; omega⟩
       ·have d2 : (k : Int) % 4 = 3 := by omega
        have hz : Hid _ := HN2.out ((x >>> (8 * 3)) % 256) (by rw [hm])
        have HSH : Hid ((x : Int) / (16777216 : Int) = (((x >>> (8 * 3)) % 256 : Nat) : Int)) := by show _ = _; rw [Nat.shiftRight_eq_div_pow]; omega
        obtain ⟨z, hze⟩ : ∃ z, z = (x >>> (8 * 3)) % 256 := ⟨_, rfl⟩
        rw [← hze] at hz HSH
        clear HN2 hze hm
        go_wp2
        rw [HSH.out]
        exact ⟨⟨k + 1, by omega, by go_num, hz.out.1, hz.out.2⟩, by simp [intOf]; omega⟩
      ·obtain rfl : k = 32 := by omega
       rw [eP_end] at hv
       have hr5 : wr.heap[w.heap.size]? = some (.cells (sv z32) 28 (0, 0)) := hF.heap HV.out.2.2.2.1 (by have := HP.out; simp; omega)
       have HE : Hid (Frm [] w wr) := by
        have h1 : Frm [ps] w wr := (HV.out.2.2.1.mono (by simp)).trans hF
        exact h1.old (fun k hk hlt => by have := HP.out; simp at hk; omega)
       clear hF HV
       go_wp2_with (first | (refine wpList_loadHs rfl _ rfl ps rfl (endL H) (endL_len H) _ _ hv ?_) | (refine wpList_storeRow 28 hsz rfl _ _ rfl w.heap.size rfl (sv (endL H)) (sv z32) (by rw [sv_size, endL_len]) (by simp [sv_size, z32]) (sv_one _) 28 rfl hr5 ?_; intro w2 hg2 hf2) | fail)
       have h1 : Frm [w.heap.size] w w2 := (HE.out.mono (by simp)).trans hf2
       exact bodyPost_ret (results_H2 Tryz.results51 _ w2 w.heap.size 28 (endL H) (0, 0) (endL_len H) rfl hg2) rfl ⟨by rw [HS.out]; rfl, h1.below (Nat.le_refl _) (by simp)⟩
end Go.Proofs.YtoefgfiabfkfaaaGreatDoor
/- The document's Keyed, whatever the key, and its Sum. -/
namespace Go.Proofs.YtoefgfiabfkfaaaGreatDoor
open Go.RowKit



set_option maxRecDepth 20000 in
theorem rbsum_any (ad : Option Addr) (cap : Nat) (b : List Nat) (w : World) (hB : SlB w ad b) (hbn : ad = none → b.length = 0) (hb : ∀ i, b.getD i 0 < 256) (hl : b.length ≤ 140737488351232) :
  Calls Tryz.prog 28 #[.slice ad b.length cap] w fun e w' => e = .returned (.agg (sv (sumF b))) ∧ Below w.heap.size w w' := by
 have hn0 : (w.alloc (.cells (sv z32) 28)).heap[w.heap.size]? = some (.cells (sv z32) 28 (0, 0)) := heap_alloc_new w _
 have hF0 : Frm [] w (w.alloc (.cells (sv z32) 28)) := (Frm.refl [] w).alloc _
 have hl0 : w.heap.size < (w.alloc (.cells (sv z32) 28)).heap.size := by simp
 have hcall := rkeyed_none none ad 0 cap b (w.alloc (.cells (sv z32) 28)) (hB.below hF0) hbn hb hl
 have hRl : (sumF b).length = 32 := endL_len _
 obtain ⟨R, hR⟩ : ∃ R, R = keyedF [] b := ⟨_, rfl⟩
 rw [← hR] at hcall
 rw [show sumF b = R from hR.symm] at hRl ⊢
 clear hR
 go_enter Tryz.func28, Tryz.ntmps28
 go_wp2_with (first | (refine wpList_allocHs rfl rfl ?_) | fail)
 refine hcall.mono ?_
 rintro e W1 ⟨rfl, hb1⟩
 clear hcall
 have hr1 : W1.heap[w.heap.size]? = some (.cells (sv z32) 28 (0, 0)) := by rw [hb1.block _ hl0]; exact hn0
 have hF1 : Frm [] w W1 := hF0.trans (Frm.ofBelow hb1)
 have hl1 := lt_of_block hr1
 have hn1 := heap_alloc_new W1 (.cells (sv z32) 28)
 have hr2 : (W1.alloc (.cells (sv z32) 28)).heap[w.heap.size]? = some (.cells (sv z32) 28 (0, 0)) := by rw [Below.heap_alloc _ _ _ hl1]; exact hr1
 have HF2 : Hid (Frm [] w (W1.alloc (.cells (sv z32) 28))) := hF1.alloc _
 clear hb1 hn0 hF0 hl0 hr1 hF1
 go_wp2_with (first | (refine wpList_allocHs rfl rfl ?_) | (refine wpList_storeRow 28 hsz rfl _ _ rfl W1.heap.size rfl (sv R) (sv z32) (by rw [sv_size, hRl]) (by simp [sv_size, z32]) (sv_one _) 28 rfl hn1 ?_; intro W2 hg2 hf2; have hr3 : W2.heap[w.heap.size]? = some (.cells (sv z32) 28 (0, 0)) := hf2.heap hr2 (by simp; omega); have HF3 : Hid (Frm [W1.heap.size] (W1.alloc (.cells (sv z32) 28)) W2) := hf2; clear hf2) | (refine wpList_loadHs rfl _ rfl W1.heap.size rfl R hRl _ _ hg2 ?_) | (refine wpList_storeRow 28 hsz rfl _ _ rfl w.heap.size rfl (sv R) (sv z32) (by rw [sv_size, hRl]) (by simp [sv_size, z32]) (sv_one _) 28 rfl hr3 ?_; intro W3 hg3 hf3) | fail)
 have h1 : Frm [W1.heap.size, w.heap.size] w W3 := ((HF2.out.mono (by simp)).trans (HF3.out.mono (by simp))).trans (hf3.mono (by simp))
 exact bodyPost_ret (results_cell_row Tryz.results28 _ W3 w.heap.size 28 (sv R) (0, 0) _ rfl hg3 Tryz.underlying28 rfl (by rw [sv_size, hRl]; exact hsz)) rfl ⟨rfl, h1.below (Nat.le_refl _) (by simp; omega)⟩
end Go.Proofs.YtoefgfiabfkfaaaGreatDoor
