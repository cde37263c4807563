/- tx: what must come whatever the input is. -/
import Derived.Test.YtanchjfodcjlmaaGreatDoorOwnShelf26
import Derived.Test.YtanchjfodcjlmaaGreatDoorOwnShelf13
import Derived.Test.YtanchjfodcjlmaaGreatDoorOwnShelf11
import Derived.Test.YtanchjfodcjlmaaGreatDoorOwnShelf29
import Derived.Test.YtanchjfodcjlmaaGreatDoorOwnShelf20
import Derived.Lib.SlBytesConst
namespace Go.Proofs.YtanchjfodcjlmaaGreatDoor
open Go.RowKit

/-- The one output; the two inputs. -/
def oS : To := ⟨5, 1, fun _ => Cd.kb (Cd.insL (fun _ => 1) 1)⟩
def iS (s : Nat) : Ti := ⟨nz, 0, 0, s⟩
/-- The bytes of both. -/
def bS : List Int := idB 0 1 (fun _ => iS 0) (fun _ _ => 115) 1 (fun _ => oS)
theorem bS_any (s : Nat) : idB 0 1 (fun _ => iS s) (fun _ _ => 115) 1 (fun _ => oS) = bS := rfl
theorem eS : txE 0 1 (fun _ => iS 0) 1 (fun _ => oS) = 27 := by kernel_rfl
theorem build_Ti0 (w : World) : (Instr.build 59 #[]).run Tryz.prog w = .ok (.agg (tiv (iS 0) none 0)) w := by kernel_rfl
theorem build_TiS (sa : Option Addr) (n c : Nat) (w : World) : (Instr.build 59 #[(2, .slice sa n c)]).run Tryz.prog w = .ok (.agg (tiv (iS n) sa c)) w := by kernel_rfl
theorem slice_int (x : Int) (w : World) : (Instr.buildSlice 71 1 #[(0, .int .i64 x)]).run Tryz.prog w = .ok (.slice (some ⟨w.heap.size, 0, none⟩) 1 1) (w.alloc (.cells #[.int .i64 x] 3)) := by kernel_rfl
theorem run_allocTx (w : World) : (Instr.alloc 35 true (.tuple #[])).run Tryz.prog w = .ok (.pointer (some ⟨w.heap.size, 0, none⟩)) (w.alloc (.cells #[.int .i64 0, .slice none 0 0, .slice none 0 0] 35)) := by kernel_rfl
section
variable {ops : Array Oper} {rest : List Oper} {o : Oper} {a : Act} {w : World} {Q : Exit → Act → World → Prop}
theorem wpList_buildTi0 (hgd : o.guard = none) (ho : o.op = .build 59 #[])
    (h : wpList Tryz.prog ops Q rest (a.put o.dst (.agg (tiv (iS 0) none 0))) w) : wpList Tryz.prog ops Q (o :: rest) a w := by
  refine wpList_plain hgd fun K hK => ?_
  unfold Oper.wp execOp
  simp only [ho, List.map_toArray, List.map_nil, Sem.run_bind, build_Ti0, Result.andThen]
  exact hK _ _ h
theorem wpList_buildTiS (sa : Option Addr) (n c : Nat) (hgd : o.guard = none) (x : Operand) (ho : o.op = .build 59 #[(2, x)]) (hx : a.eval x = .slice sa n c)
    (h : wpList Tryz.prog ops Q rest (a.put o.dst (.agg (tiv (iS n) sa c))) w) : wpList Tryz.prog ops Q (o :: rest) a w := by
  refine wpList_plain hgd fun K hK => ?_
  unfold Oper.wp execOp
  simp only [ho, List.map_toArray, List.map_cons, List.map_nil, hx, Sem.run_bind, build_TiS, Result.andThen]
  exact hK _ _ h
theorem wpList_sliceTiN (y : Ti) (sa : Option Addr) (sc : Nat) (hgd : o.guard = none) (x : Operand) (ho : o.op = .buildSlice 32 1 #[(0, x)]) (hx : a.eval x = .agg (tiv y sa sc))
    (h : ∀ w1, New w w1 (tiv y sa sc) 59 → wpList Tryz.prog ops Q rest (a.put o.dst (.slice (some ⟨w.heap.size, 0, none⟩) 1 1)) w1) : wpList Tryz.prog ops Q (o :: rest) a w := by
  refine wpList_plain hgd fun K hK => ?_
  unfold Oper.wp execOp
  simp only [ho, List.map_toArray, List.map_cons, List.map_nil, hx, Sem.run_bind, slice_ti, Result.andThen]
  exact hK _ _ (h _ (new_alloc w _ _))
theorem wpList_sliceToN (am : Int) (ca : Option Addr) (n cc : Nat) (hgd : o.guard = none) (x : Operand) (ho : o.op = .buildSlice 33 1 #[(0, x)]) (hx : a.eval x = .agg #[.int .i64 am, .slice ca n cc])
    (h : ∀ w1, New w w1 #[.int .i64 am, .slice ca n cc] 79 → wpList Tryz.prog ops Q rest (a.put o.dst (.slice (some ⟨w.heap.size, 0, none⟩) 1 1)) w1) : wpList Tryz.prog ops Q (o :: rest) a w := by
  refine wpList_plain hgd fun K hK => ?_
  unfold Oper.wp execOp
  simp only [ho, List.map_toArray, List.map_cons, List.map_nil, hx, Sem.run_bind, slice_to, Result.andThen]
  exact hK _ _ (h _ (new_alloc w _ _))
theorem wpList_sliceInt (v : Int) (hgd : o.guard = none) (x : Operand) (ho : o.op = .buildSlice 71 1 #[(0, x)]) (hx : a.eval x = .int .i64 v)
    (h : ∀ w1, New w w1 #[.int .i64 v] 3 → wpList Tryz.prog ops Q rest (a.put o.dst (.slice (some ⟨w.heap.size, 0, none⟩) 1 1)) w1) : wpList Tryz.prog ops Q (o :: rest) a w := by
  refine wpList_plain hgd fun K hK => ?_
  unfold Oper.wp execOp
  simp only [ho, List.map_toArray, List.map_cons, List.map_nil, hx, Sem.run_bind, slice_int, Result.andThen]
  exact hK _ _ (h _ (new_alloc w _ _))
end
theorem int1_is {w v : World} (N : New w v #[.int .i64 1] 3) : Cd.IsAt v (some ⟨w.heap.size, 0, none⟩) 1 (fun _ => 1) := fun _ => ⟨_, 0, rfl, fun j hj => by
  obtain rfl : j = 0 := by omega
  rw [cell_of_row _ _ _ _ _ _ N.blk]; rfl⟩
theorem ib1 : Cd.Ib 1 := by unfold Cd.Ib; omega
/-- One of sure's two transactions lies, made since w0. -/
structure SrAt (w0 w : World) (s : Nat) (ia oa : Option Addr) : Prop where
  ti : ∃ S : Nat → Option Addr × Nat, TiAt w ia 1 (fun _ => iS s) S ∧ ∀ i, i < 1 → SlAt w (S i).1 s (fun _ => 115)
  ou : ToAt w oa 1 (fun _ => oS)
  below : Below w0.heap.size w0 w
theorem SrAt.mono {w0 w w' : World} {s : Nat} {ia oa : Option Addr} (h : SrAt w0 w s ia oa) (hb : Below w.heap.size w w') : SrAt w0 w' s ia oa := by
  obtain ⟨S, h1, h2⟩ := h.ti
  exact ⟨⟨S, h1.below hb, fun i hi => (h2 i hi).below hb⟩, h.ou.below hb, h.below.trans (hb.mono h.below.size)⟩
theorem sr_ti {w0 w1 : World} {s : Nat} {sa : Option Addr} {sc : Nat} (N : New w0 w1 (tiv (iS s) sa sc) 59) : TiAt w1 (some ⟨w0.heap.size, 0, none⟩) 1 (fun _ => iS s) (fun _ => (sa, sc)) :=
  ⟨fun _ _ => fun j _ => by simp [iS, nz], fun _ => ⟨_, 0, rfl, fun i hi => by
    obtain rfl : i = 0 := by omega
    exact til_range N.blk⟩⟩
theorem sr_to {w0 w1 : World} {g : Nat} (N : New w0 w1 #[.int .i64 5, .slice (some ⟨g, 0, none⟩) 1 1] 79) (hB : Cd.BrAt w0 (some ⟨g, 0, none⟩) 1 (fun _ => Cd.kb (Cd.insL (fun _ => 1) 1))) : ToAt w1 (some ⟨w0.heap.size, 0, none⟩) 1 (fun _ => oS) :=
  ⟨fun _ => ⟨_, 0, rfl, fun i hi => by
    obtain rfl : i = 0 := by omega
    refine ⟨some ⟨g, 0, none⟩, 1, fun j v hv => ?_, hB.below N.below, fun e => by cases e⟩
    have e0 : (0 + 0 * 2 + j) = j := by omega
    rw [e0, cell_of_row _ _ _ _ _ _ N.blk]
    simpa [tol, oS] using hv⟩⟩
theorem oS_few0 : ∀ i, i < 1 → ((fun _ => oS : Nat → To) i).cn ≤ 1000 ∧ ∀ j, j < ((fun _ => oS : Nat → To) i).cn → (((fun _ => oS : Nat → To) i).X j).n ≤ 1000 := by
  intro i _
  refine ⟨by show (1 : Nat) ≤ 1000; decide, fun j _ => ?_⟩
  show (Cd.kb (Cd.insL (fun _ => 1) 1)).n ≤ 1000
  decide
theorem oS_few : ∀ i, i < 1 → ((fun _ => oS : Nat → To) i).cn ≤ 1000 ∧ ∀ j, j < ((fun _ => oS : Nat → To) i).cn → (((fun _ => oS : Nat → To) i).X j).n ≤ 1048576 := fun i hi => ⟨(oS_few0 i hi).1, fun j hj => by have := (oS_few0 i hi).2 j hj; omega⟩
theorem oS_small : ∀ i, i < 1 → ((fun _ => oS : Nat → To) i).Small := fun i hi => ⟨by have := (oS_few0 i hi).1; omega, fun j hj => by have := (oS_few0 i hi).2 j hj; omega⟩
theorem sr_id {w0 w : World} {s : Nat} {ia oa : Option Addr} (h : SrAt w0 w s ia oa) (hs : s ≤ 1) (hT : Tab w) (hgl : 4 ≤ w.heap.size) :
    Calls Tryz.prog 22 #[.agg (txv 0 ia 1 1 oa 1 1)] w fun e w' => e = .returned (.agg (sv (sumF (nb bS)))) ∧ Below w.heap.size w w' := by
  obtain ⟨S, h1, h2⟩ := h.ti
  rw [← bS_any s]
  exact kid_any 0 ia 1 1 oa 1 1 _ S (fun _ _ => 115) _ w h1 h.ou (fun i hi => ⟨h2 i hi, by show s ≤ _; omega⟩) oS_few (by omega) (by omega) hT hgl
theorem sr_at {w0 w : World} {s : Nat} {ia oa : Option Addr} (k : Int) (h : SrAt w0 w s ia oa) (hs : s ≤ 1) (hT : Tab w) (hgl : 4 ≤ w.heap.size) :
    Calls Tryz.prog 20 #[.agg (txv 0 ia 1 1 oa 1 1), .int .i64 k] w fun e w' => e = .returned (.agg (ptv (sZ (sumF (nb bS))) k)) ∧ Below w.heap.size w w' := by
  obtain ⟨S, h1, h2⟩ := h.ti
  rw [← bS_any s]
  exact kat_any 0 ia 1 1 oa 1 1 _ S (fun _ _ => 115) _ k w h1 h.ou (fun i hi => ⟨h2 i hi, by show s ≤ _; omega⟩) oS_few (by omega) (by omega) hT hgl
theorem sr_check {w0 w : World} {ia oa : Option Addr} (h : SrAt w0 w 0 ia oa) :
    Calls Tryz.prog 12 #[.agg (txv 0 ia 1 1 oa 1 1)] w fun e w' => e = .returned (errV 27) ∧ Below w.heap.size w w' := by
  obtain ⟨S, h1, h2⟩ := h.ti
  rw [← eS]
  exact kcheck_any 0 ia 1 1 oa 1 1 _ S _ w h1 h.ou oS_small (by omega) (by omega)
/-- Both of sure's transactions. -/
structure Both (w0 w : World) (ia oa ib ob : Option Addr) : Prop where
  a : SrAt w0 w 0 ia oa
  b : SrAt w0 w 1 ib ob
theorem Both.mono {w0 w w' : World} {ia oa ib ob : Option Addr} (h : Both w0 w ia oa ib ob) (hb : Below w.heap.size w w') : Both w0 w' ia oa ib ob := ⟨h.a.mono hb, h.b.mono hb⟩
theorem range2_below {w w' : World} {g1 g2 : Nat} {l1 l2 : List Value} (h : w.rangeAt g1 0 l1 ∧ w.rangeAt g2 0 l2) (hb : Below w.heap.size w w') : w'.rangeAt g1 0 l1 ∧ w'.rangeAt g2 0 l2 := ⟨range_below h.1 hb, range_below h.2 hb⟩
theorem s115 (w : World) : Below w.heap.size w (w.alloc (.cells #[.int .u8 115] 5 (1, 2))) ∧ SlAt (w.alloc (.cells #[.int .u8 115] 5 (1, 2))) (some ⟨w.heap.size, 0, none⟩) 1 (fun _ => 115) := ⟨(Below.refl _ w).alloc (Nat.le_refl _) _, fun _ _ => show (0 : Int) ≤ 115 ∧ (115 : Int) ≤ 255 by decide, fun _ => ⟨_, 0, rfl, fun j hj => by
  obtain rfl : j = 0 := by omega
  rw [cell_of_row _ _ _ _ _ _ (heap_alloc_new w (.cells #[.int .u8 115] 5 (1, 2)))]; rfl⟩⟩
theorem field_pt (z : Nat → Int) (n : Int) (w : World) : (Instr.field 47 (.agg (ptv z n)) 1).run Tryz.prog w = .ok (.int .i64 n) w := by kernel_rfl
theorem exec_ptN {a : Act} {o : Oper} (x : Operand) (ho : o.op = .field 47 x 1) (z : Nat → Int) (n : Int) (hx : a.eval x = .agg (ptv z n)) (w : World) : (execOp a.eval o).run Tryz.prog w = .ok (.value (.int .i64 n)) w := by
  unfold execOp
  simp only [ho, hx, Sem.run_bind, field_pt, Result.andThen_ok, Sem.run_pure]
set_option maxRecDepth 100000 in
set_option maxHeartbeats 3200000 in
theorem sure_any (w : World) (hg : Cd.Glob w) (hT : Tab w) (hgl : 4 ≤ w.heap.size) :
    Calls Tryz.prog 7 #[] w fun e w' => e = .returned (.bool true) ∧ Below w.heap.size w w' := by
  have kc := fun (w : World) (C : Array Value) (n c : Nat) => Lib.run_convert_bytes_const (P := Tryz.prog) w 57 5 C n c Tryz.underlying57 Tryz.underlying5
  have hpos := hg.pos
  have HG : Hid (Cd.Glob w ∧ Tab w) := ⟨hg, hT⟩
  have HF : Hid (∀ w', Below w.heap.size w w' → Cd.Glob w' ∧ Tab w' ∧ 4 ≤ w'.heap.size) := fun w' hb => ⟨hg.below hb hpos, hT.frm (S := []) (Frm.ofBelow hb) (fun k hk => by cases hk), by have := hb.size; omega⟩
  clear hg hT hgl
  go_enter Tryz.func7, Tryz.ntmps7
  go_wp2_with (first | (refine wpList_buildTi0 rfl rfl ?_) | (refine wpList_sliceTiN (iS 0) none 0 rfl _ rfl rfl ?_; intro v1 N1) | (refine wpList_sliceInt 1 rfl _ rfl rfl ?_; intro v2 N2) | fail)
  refine (Cd.all_any _ 1 1 (fun _ => 1) v2 (int1_is N2) (fun _ _ => ib1) (by omega)).mono ?_
  rintro e v3 ⟨g, rfl, hB3, hb3⟩
  have hb3' := (N1.below.trans (N2.below.mono N1.below.size)).trans (hb3.mono (Nat.le_trans N1.below.size N2.below.size))
  have HV3 : Hid (Below w.heap.size w v3 ∧ TiAt v3 (some ⟨w.heap.size, 0, none⟩) 1 (fun _ => iS 0) (fun _ => (none, 0)) ∧ Cd.BrAt v3 (some ⟨g, 0, none⟩) 1 (fun _ => Cd.kb (Cd.insL (fun _ => 1) 1))) := ⟨hb3', ((sr_ti N1).below N2.below).below hb3, hB3⟩
  clear hb3 hb3' hB3 N1 N2
  go_wp2_with (first | (refine wpList_sliceToN 5 (some ⟨g, 0, none⟩) 1 1 rfl _ rfl rfl ?_; intro v4 N4) | (refine wpList_allocN 35 #[.int .i64 0, .slice none 0 0, .slice none 0 0] run_allocTx rfl rfl ?_; intro v5 N5) | (refine wpList_storeG 35 szTx rfl _ _ rfl v4.heap.size rfl #[.int .i64 0, .slice (some ⟨w.heap.size, 0, none⟩) 1 1, .slice (some ⟨v3.heap.size, 0, none⟩) 1 1] #[.int .i64 0, .slice none 0 0, .slice none 0 0] rfl rfl (by kernel_rfl) 35 rfl N5.blk ?_; intro v6 hg6 hf6; (have hb5 : Below v4.heap.size v4 v6 := N5.below.trans (hf6.below N5.below.size (by simp))); (have H6 := hidV (And.intro (SrAt.mk (w0 := w) (w := v6) (s := 0) ⟨_, (HV3.out.2.1.below N4.below).below hb5, fun _ _ => SlAt.zero _ _⟩ ((sr_to N4 HV3.out.2.2).below hb5) ((HV3.out.1.trans (N4.below.mono HV3.out.1.size)).trans (hb5.mono (Nat.le_trans HV3.out.1.size N4.below.size)))) hg6)); clear hg6 hf6 hb5 N5 N4 HV3) | (refine wpList_buildTiS (some ⟨v6.heap.size, 0, none⟩) 1 1 rfl _ rfl rfl ?_; have H7 := hidV (s115 v6); generalize v6.alloc (.cells #[.int .u8 115] 5 (1, 2)) = v7 at *) | (refine wpList_sliceTiN (iS 1) _ 1 rfl _ rfl rfl ?_; intro v8 N8) | (refine wpList_sliceInt 1 rfl _ rfl rfl ?_; intro v9 N9) | fail)
  refine (Cd.all_any _ 1 1 (fun _ => 1) v9 (int1_is N9) (fun _ _ => ib1) (by omega)).mono ?_
  rintro e v10 ⟨g2, rfl, hB3, hb3⟩
  have HV10 : Hid (SrAt w v10 0 (some ⟨w.heap.size, 0, none⟩) (some ⟨v3.heap.size, 0, none⟩) ∧ v10.heap[v4.heap.size]? = some (.cells #[.int .i64 0, .slice (some ⟨w.heap.size, 0, none⟩) 1 1, .slice (some ⟨v3.heap.size, 0, none⟩) 1 1] 35 (0, 0)) ∧ (TiAt v10 (some ⟨v7.heap.size, 0, none⟩) 1 (fun _ => iS 1) (fun _ => (some ⟨v6.heap.size, 0, none⟩, 1)) ∧ SlAt v10 (some ⟨v6.heap.size, 0, none⟩) 1 (fun _ => 115)) ∧ Cd.BrAt v10 (some ⟨g2, 0, none⟩) 1 (fun _ => Cd.kb (Cd.insL (fun _ => 1) 1))) :=
    ⟨(((H6.out.1.mono H7.out.1).mono N8.below).mono N9.below).mono hb3, heap_below hb3 (N9.old (N8.old (heap_below H7.out.1 H6.out.2))), ⟨((sr_ti N8).below N9.below).below hb3, (((H7.out.2).below N8.below).below N9.below).below hb3⟩, hB3⟩
  clear hb3 hB3 H7 N8 N9 H6 kc
  go_wp2_with (first | (refine wpList_sliceToN 5 (some ⟨g2, 0, none⟩) 1 1 rfl _ rfl rfl ?_; intro v11 N11) | (refine wpList_allocN 35 #[.int .i64 0, .slice none 0 0, .slice none 0 0] run_allocTx rfl rfl ?_; intro v12 N12) | (refine wpList_storeG 35 szTx rfl _ _ rfl v11.heap.size rfl #[.int .i64 0, .slice (some ⟨v7.heap.size, 0, none⟩) 1 1, .slice (some ⟨v10.heap.size, 0, none⟩) 1 1] #[.int .i64 0, .slice none 0 0, .slice none 0 0] rfl rfl (by kernel_rfl) 35 rfl N12.blk ?_; intro v13 hg13 hf13; (have hb5 : Below v11.heap.size v11 v13 := N12.below.trans (hf13.below N12.below.size (by simp))); (have HB := hidV (And.intro N11.below hb5)); (have HG13 := hidV (And.intro hg13 (sr_to N11 HV10.out.2.2.2))); clear hg13 hf13 hb5 N12 N11) | fail)
  have K13 : Hid (Both w v13 (some ⟨w.heap.size, 0, none⟩) (some ⟨v3.heap.size, 0, none⟩) (some ⟨v7.heap.size, 0, none⟩) (some ⟨v10.heap.size, 0, none⟩)) :=
    ⟨(HV10.out.1.mono HB.out.1).mono HB.out.2, ⟨⟨_, (HV10.out.2.2.1.1.below HB.out.1).below HB.out.2, fun i hi => by obtain rfl : i = 0 := (by omega); exact (HV10.out.2.2.1.2.below HB.out.1).below HB.out.2⟩, HG13.out.2.below HB.out.2, ((HV10.out.1.mono HB.out.1).mono HB.out.2).below⟩⟩
  have S13 : v13.rangeAt v4.heap.size 0 (txl 0 (some ⟨w.heap.size, 0, none⟩) 1 1 (some ⟨v3.heap.size, 0, none⟩) 1 1) ∧ v13.rangeAt v11.heap.size 0 (txl 0 (some ⟨v7.heap.size, 0, none⟩) 1 1 (some ⟨v10.heap.size, 0, none⟩) 1 1) := ⟨txl_range (heap_below HB.out.2 (heap_below HB.out.1 HV10.out.2.1)), txl_range HG13.out.1⟩
  clear HB HG13 HV10
  go_upto_region 3 with fail
  refine wp_region_noPanic ?_
  refine wp_region_held_drew (S := fun w' => w'.rangeAt v4.heap.size 0 (txl 0 (some ⟨w.heap.size, 0, none⟩) 1 1 (some ⟨v3.heap.size, 0, none⟩) 1 1) ∧ w'.rangeAt v11.heap.size 0 (txl 0 (some ⟨v7.heap.size, 0, none⟩) 1 1 (some ⟨v10.heap.size, 0, none⟩) 1 1)) (by kernel_rfl) (range2_below S13 (Below.refl _ _).drew) (fun hHeld => ?_)
  have Kvd := hidV (K13.out.mono (Below.refl _ _).drew)
  have Svd := range2_below S13 (Below.refl v13.heap.size v13).drew
  clear K13 S13
  generalize v13.drew = vd at *
  refine wpAnyH_take (i := 0) (oi := { dst := some 19, op := Go.Op.load 35 (Go.Operand.tmp 1), type := 35, pos := "law.go:73", after := #[], guard := none }) rfl (by kernel_rfl) (by kernel_rfl) (by kernel_rfl) (fun _ _ _ h => h) (yieldsIf_load_mid (by rfl) _ _ rfl v4.heap.size 0 rfl (txl 0 (some ⟨w.heap.size, 0, none⟩) 1 1 (some ⟨v3.heap.size, 0, none⟩) 1 1) _ (fun _ h => h.1) Tryz.underlying35 rfl szTx) (by assumption) ?_
  try simp only [Act.put, List.setIfInBounds_toArray, List.set_cons_zero, List.set_cons_succ]
  refine wpAnyH_ready (rs := [1]) (by kernel_rfl) (by simp) ?_
  refine (AllReadyH.cons (o := { dst := some 20, op := Go.Op.call { callee := Go.Callee.value (Go.Operand.func 12), args := #[Go.Operand.tmp 19], argTypes := #[35] }, type := 29, pos := "law.go:73", after := #[{ on := 0, ground := Go.Ground.data }], guard := none }) rfl (fun K hK => ?_) AllReadyH.nil)
  go_simp
  refine (sr_check Kvd.out.a).mono ?_
  rintro e ve ⟨rfl, hb⟩
  have Kve : Hid (Both w ve (some ⟨w.heap.size, 0, none⟩) (some ⟨v3.heap.size, 0, none⟩) (some ⟨v7.heap.size, 0, none⟩) (some ⟨v10.heap.size, 0, none⟩)) := Kvd.out.mono hb
  have Sve := range2_below Svd hb
  clear hb Kvd Svd
  refine hK.out _ _ Sve (fun _ => ?_)
  clear hK K
  try simp only [Act.put, List.setIfInBounds_toArray, List.set_cons_zero, List.set_cons_succ]
  refine wpAnyH_ready (rs := [2]) (by kernel_rfl) (by simp) ?_
  refine (AllReadyH.cons (o := { dst := some 21, op := Go.Op.call { callee := Go.Callee.value (Go.Operand.func 11), args := #[Go.Operand.tmp 20], argTypes := #[29] }, type := 3, pos := "law.go:73", after := #[{ on := 1, ground := Go.Ground.data }, { on := 1, ground := Go.Ground.chain }], guard := none }) rfl (fun K hK => ?_) AllReadyH.nil)
  go_simp
  refine (Cd.num_any 27 ve (HF.out ve Kve.out.a.below).1).mono ?_
  rintro e vf ⟨rfl, hb⟩
  have Kvf : Hid (Both w vf (some ⟨w.heap.size, 0, none⟩) (some ⟨v3.heap.size, 0, none⟩) (some ⟨v7.heap.size, 0, none⟩) (some ⟨v10.heap.size, 0, none⟩)) := Kve.out.mono hb
  have Svf := range2_below Sve hb
  clear hb Kve Sve
  refine hK.out _ _ Svf (fun _ => ?_)
  clear hK K
  try simp only [Act.put, List.setIfInBounds_toArray, List.set_cons_zero, List.set_cons_succ]
  refine wpAnyH_take (i := 3) (oi := { dst := some 22, op := Go.Op.binOp Go.BinOp.eql 3 (Go.Operand.tmp 21) (Go.Operand.const (Go.Value.int Go.IntKind.i64 27)) 3, type := 4, pos := "law.go:73", after := #[{ on := 2, ground := Go.Ground.data }], guard := none }) (v := ?_) rfl (by kernel_rfl) (by kernel_rfl) (by kernel_rfl) (fun _ _ _ h => h) (Or.inl ⟨by rfl, ?_⟩) (by assumption) ?_
  rotate_left
  · intro wz hSw; (try dsimp only at hSw); go_simp; (try with_reducible rfl)
  try simp only [Act.put, List.setIfInBounds_toArray, List.set_cons_zero, List.set_cons_succ]
  refine wpAnyH_take (i := 4) (oi := { dst := some 23, op := Go.Op.move (Go.Operand.tmp 22), type := 4, pos := "law.go:73", after := #[{ on := 3, ground := Go.Ground.data }, { on := 2, ground := Go.Ground.chain }], guard := none }) (v := ?_) rfl (by kernel_rfl) (by kernel_rfl) (by kernel_rfl) (fun _ _ _ h => h) (Or.inl ⟨by rfl, ?_⟩) (by assumption) ?_
  rotate_left
  · intro wz hSw; (try dsimp only at hSw); go_simp; (try with_reducible rfl)
  try simp only [Act.put, List.setIfInBounds_toArray, List.set_cons_zero, List.set_cons_succ]
  refine wpAnyH_take (i := 5) (oi := { dst := some 24, op := Go.Op.load 35 (Go.Operand.tmp 1), type := 35, pos := "law.go:73", after := #[{ on := 4, ground := Go.Ground.guard }], guard := some (4, true) }) rfl (by kernel_rfl) (by kernel_rfl) (by kernel_rfl) (fun _ _ _ h => h) (yieldsIf_load_mid (by rfl) _ _ rfl v4.heap.size 0 rfl (txl 0 (some ⟨w.heap.size, 0, none⟩) 1 1 (some ⟨v3.heap.size, 0, none⟩) 1 1) _ (fun _ h => h.1) Tryz.underlying35 rfl szTx) (by assumption) ?_
  try simp only [Act.put, List.setIfInBounds_toArray, List.set_cons_zero, List.set_cons_succ]
  refine wpAnyH_take (i := 7) (oi := { dst := some 26, op := Go.Op.load 35 (Go.Operand.tmp 2), type := 35, pos := "law.go:73", after := #[{ on := 4, ground := Go.Ground.guard }], guard := some (4, true) }) rfl (by kernel_rfl) (by kernel_rfl) (by kernel_rfl) (fun _ _ _ h => h) (yieldsIf_load_mid (by rfl) _ _ rfl v11.heap.size 0 rfl (txl 0 (some ⟨v7.heap.size, 0, none⟩) 1 1 (some ⟨v10.heap.size, 0, none⟩) 1 1) _ (fun _ h => h.2) Tryz.underlying35 rfl szTx) (by assumption) ?_
  try simp only [Act.put, List.setIfInBounds_toArray, List.set_cons_zero, List.set_cons_succ]
  refine wpAnyH_ready (rs := [6]) (by kernel_rfl) (by simp) ?_
  refine (AllReadyH.cons (o := { dst := some 25, op := Go.Op.call { callee := Go.Callee.value (Go.Operand.func 22), args := #[Go.Operand.tmp 24], argTypes := #[35] }, type := 43, pos := "law.go:73", after := #[{ on := 5, ground := Go.Ground.data }, { on := 4, ground := Go.Ground.chain }, { on := 4, ground := Go.Ground.guard }], guard := some (4, true) }) rfl (fun K hK => ?_) AllReadyH.nil)
  go_simp
  refine (sr_id Kvf.out.a (by omega) (HF.out vf Kvf.out.a.below).2.1 (HF.out vf Kvf.out.a.below).2.2).mono ?_
  rintro e vg ⟨rfl, hb⟩
  have Kvg : Hid (Both w vg (some ⟨w.heap.size, 0, none⟩) (some ⟨v3.heap.size, 0, none⟩) (some ⟨v7.heap.size, 0, none⟩) (some ⟨v10.heap.size, 0, none⟩)) := Kvf.out.mono hb
  have Svg := range2_below Svf hb
  clear hb Kvf Svf
  refine hK.out _ _ Svg (fun _ => ?_)
  clear hK K
  try simp only [Act.put, List.setIfInBounds_toArray, List.set_cons_zero, List.set_cons_succ]
  refine wpAnyH_ready (rs := [8]) (by kernel_rfl) (by simp) ?_
  refine (AllReadyH.cons (o := { dst := some 27, op := Go.Op.call { callee := Go.Callee.value (Go.Operand.func 22), args := #[Go.Operand.tmp 26], argTypes := #[35] }, type := 43, pos := "law.go:73", after := #[{ on := 7, ground := Go.Ground.data }, { on := 6, ground := Go.Ground.chain }, { on := 4, ground := Go.Ground.guard }], guard := some (4, true) }) rfl (fun K hK => ?_) AllReadyH.nil)
  go_simp
  refine (sr_id Kvg.out.b (by omega) (HF.out vg Kvg.out.a.below).2.1 (HF.out vg Kvg.out.a.below).2.2).mono ?_
  rintro e vh ⟨rfl, hb⟩
  have Kvh : Hid (Both w vh (some ⟨w.heap.size, 0, none⟩) (some ⟨v3.heap.size, 0, none⟩) (some ⟨v7.heap.size, 0, none⟩) (some ⟨v10.heap.size, 0, none⟩)) := Kvg.out.mono hb
  have Svh := range2_below Svg hb
  clear hb Kvg Svg
  refine hK.out _ _ Svh (fun _ => ?_)
  clear hK K
  try simp only [Act.put, List.setIfInBounds_toArray, List.set_cons_zero, List.set_cons_succ]
  refine wpAnyH_take (i := 9) (oi := { dst := some 28, op := Go.Op.binOp Go.BinOp.eql 43 (Go.Operand.tmp 25) (Go.Operand.tmp 27) 43, type := 4, pos := "law.go:73", after := #[{ on := 6, ground := Go.Ground.data }, { on := 8, ground := Go.Ground.data }, { on := 4, ground := Go.Ground.guard }], guard := some (4, true) }) (v := .bool true) rfl (by kernel_rfl) (by kernel_rfl) (by kernel_rfl) (fun _ _ _ h => h) (Or.inl ⟨by rfl, ?_⟩) (by assumption) ?_
  · intro wz hSw; (try dsimp only at hSw); exact exec_eqS _ _ rfl (nb bS) rfl rfl wz
  try simp only [Act.put, List.setIfInBounds_toArray, List.set_cons_zero, List.set_cons_succ]
  refine wpAnyH_take (i := 10) (oi := { dst := some 29, op := Go.Op.pick (Go.Operand.tmp 23) (Go.Operand.tmp 28) (Go.Operand.const (Go.Value.bool false)), type := 4, pos := "law.go:73", after := #[{ on := 4, ground := Go.Ground.data }, { on := 9, ground := Go.Ground.data }], guard := none }) (v := ?_) rfl (by kernel_rfl) (by kernel_rfl) (by kernel_rfl) (fun _ _ _ h => h) (Or.inl ⟨by rfl, ?_⟩) (by assumption) ?_
  rotate_left
  · intro wz hSw; (try dsimp only at hSw); go_simp; (try with_reducible rfl)
  try simp only [Act.put, List.setIfInBounds_toArray, List.set_cons_zero, List.set_cons_succ]
  refine wpAnyH_take (i := 11) (oi := { dst := some 30, op := Go.Op.move (Go.Operand.tmp 29), type := 4, pos := "law.go:73", after := #[{ on := 10, ground := Go.Ground.data }, { on := 8, ground := Go.Ground.chain }], guard := none }) (v := ?_) rfl (by kernel_rfl) (by kernel_rfl) (by kernel_rfl) (fun _ _ _ h => h) (Or.inl ⟨by rfl, ?_⟩) (by assumption) ?_
  rotate_left
  · intro wz hSw; (try dsimp only at hSw); go_simp; (try with_reducible rfl)
  try simp only [Act.put, List.setIfInBounds_toArray, List.set_cons_zero, List.set_cons_succ]
  refine wpAnyH_take (i := 12) (oi := { dst := some 31, op := Go.Op.load 35 (Go.Operand.tmp 1), type := 35, pos := "law.go:73", after := #[{ on := 11, ground := Go.Ground.guard }], guard := some (11, true) }) rfl (by kernel_rfl) (by kernel_rfl) (by kernel_rfl) (fun _ _ _ h => h) (yieldsIf_load_mid (by rfl) _ _ rfl v4.heap.size 0 rfl (txl 0 (some ⟨w.heap.size, 0, none⟩) 1 1 (some ⟨v3.heap.size, 0, none⟩) 1 1) _ (fun _ h => h.1) Tryz.underlying35 rfl szTx) (by assumption) ?_
  try simp only [Act.put, List.setIfInBounds_toArray, List.set_cons_zero, List.set_cons_succ]
  refine wpAnyH_ready (rs := [13]) (by kernel_rfl) (by simp) ?_
  refine (AllReadyH.cons (o := { dst := some 32, op := Go.Op.call { callee := Go.Callee.value (Go.Operand.func 20), args := #[Go.Operand.tmp 31, Go.Operand.const (Go.Value.int Go.IntKind.i64 3)], argTypes := #[35, 3] }, type := 47, pos := "law.go:73", after := #[{ on := 12, ground := Go.Ground.data }, { on := 11, ground := Go.Ground.chain }, { on := 11, ground := Go.Ground.guard }], guard := some (11, true) }) rfl (fun K hK => ?_) AllReadyH.nil)
  go_simp
  refine (sr_at 3 Kvh.out.a (by omega) (HF.out vh Kvh.out.a.below).2.1 (HF.out vh Kvh.out.a.below).2.2).mono ?_
  rintro e vi ⟨rfl, hb⟩
  have Kvi : Hid (Both w vi (some ⟨w.heap.size, 0, none⟩) (some ⟨v3.heap.size, 0, none⟩) (some ⟨v7.heap.size, 0, none⟩) (some ⟨v10.heap.size, 0, none⟩)) := Kvh.out.mono hb
  have Svi := range2_below Svh hb
  clear hb Kvh Svh
  refine hK.out _ _ Svi (fun _ => ?_)
  clear hK K
  try simp only [Act.put, List.setIfInBounds_toArray, List.set_cons_zero, List.set_cons_succ]
  refine wpAnyH_take (i := 14) (oi := { dst := some 33, op := Go.Op.field 47 (Go.Operand.tmp 32) 1, type := 3, pos := "law.go:73", after := #[{ on := 13, ground := Go.Ground.data }, { on := 11, ground := Go.Ground.guard }], guard := some (11, true) }) (v := .int .i64 3) rfl (by kernel_rfl) (by kernel_rfl) (by kernel_rfl) (fun _ _ _ h => h) (Or.inl ⟨by rfl, ?_⟩) (by assumption) ?_
  · intro wz hSw; (try dsimp only at hSw); exact exec_ptN _ rfl (sZ (sumF (nb bS))) 3 rfl wz
  try simp only [Act.put, List.setIfInBounds_toArray, List.set_cons_zero, List.set_cons_succ]
  refine wpAnyH_take (i := 15) (oi := { dst := some 34, op := Go.Op.binOp Go.BinOp.eql 3 (Go.Operand.tmp 33) (Go.Operand.const (Go.Value.int Go.IntKind.i64 3)) 3, type := 4, pos := "law.go:73", after := #[{ on := 14, ground := Go.Ground.data }, { on := 11, ground := Go.Ground.guard }], guard := some (11, true) }) (v := ?_) rfl (by kernel_rfl) (by kernel_rfl) (by kernel_rfl) (fun _ _ _ h => h) (Or.inl ⟨by rfl, ?_⟩) (by assumption) ?_
  rotate_left
  · intro wz hSw; (try dsimp only at hSw); go_simp; (try with_reducible rfl)
  try simp only [Act.put, List.setIfInBounds_toArray, List.set_cons_zero, List.set_cons_succ]
  refine wpAnyH_take (i := 16) (oi := { dst := some 35, op := Go.Op.pick (Go.Operand.tmp 30) (Go.Operand.tmp 34) (Go.Operand.const (Go.Value.bool false)), type := 4, pos := "law.go:73", after := #[{ on := 11, ground := Go.Ground.data }, { on := 15, ground := Go.Ground.data }], guard := none }) (v := ?_) rfl (by kernel_rfl) (by kernel_rfl) (by kernel_rfl) (fun _ _ _ h => h) (Or.inl ⟨by rfl, ?_⟩) (by assumption) ?_
  rotate_left
  · intro wz hSw; (try dsimp only at hSw); go_simp; (try with_reducible rfl)
  try simp only [Act.put, List.setIfInBounds_toArray, List.set_cons_zero, List.set_cons_succ]
  refine wpAnyH_take (i := 17) (oi := { dst := some 0, op := Go.Op.assign (Go.Operand.tmp 35), type := 4, pos := "law.go:73", after := #[{ on := 16, ground := Go.Ground.data }, { on := 13, ground := Go.Ground.chain }, { on := 0, ground := Go.Ground.phase }, { on := 1, ground := Go.Ground.phase }, { on := 2, ground := Go.Ground.phase }, { on := 3, ground := Go.Ground.phase }, { on := 4, ground := Go.Ground.phase }, { on := 5, ground := Go.Ground.phase }, { on := 6, ground := Go.Ground.phase }, { on := 7, ground := Go.Ground.phase }, { on := 8, ground := Go.Ground.phase }, { on := 9, ground := Go.Ground.phase }, { on := 10, ground := Go.Ground.phase }, { on := 11, ground := Go.Ground.phase }, { on := 12, ground := Go.Ground.phase }, { on := 13, ground := Go.Ground.phase }, { on := 14, ground := Go.Ground.phase }, { on := 15, ground := Go.Ground.phase }, { on := 16, ground := Go.Ground.phase }], guard := none }) (v := ?_) rfl (by kernel_rfl) (by kernel_rfl) (by kernel_rfl) (fun _ _ _ h => h) (Or.inl ⟨by rfl, ?_⟩) (by assumption) ?_
  rotate_left
  · intro wz hSw; (try dsimp only at hSw); go_simp; (try with_reducible rfl)
  try simp only [Act.put, List.setIfInBounds_toArray, List.set_cons_zero]
  refine wpAnyH_done (by kernel_rfl) (NoPanic.normal ?_) _
  try simp only [Act.put, List.setIfInBounds_toArray, List.set_cons_zero, List.set_cons_succ]
  clear hHeld
  go_wp2
  go_ret
  exact ⟨rfl, Kvi.out.a.below⟩
end Go.Proofs.YtanchjfodcjlmaaGreatDoor
