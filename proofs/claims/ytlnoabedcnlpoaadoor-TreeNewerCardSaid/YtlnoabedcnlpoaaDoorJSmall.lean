/- The tree that TreeNewer plays. -/
import Derived.Test.YtlnoabedcnlpoaaDoorJVal
import Derived.Test.YtlnoabedcnlpoaaDoorJSure
namespace Go.Proofs.YtlnoabedcnlpoaaDoor
open Go.RowKit

def remF (x m : Int) : Int := (IntKind.u64.wrap x) % m
theorem rem_bd (x m : Int) (h1 : 0 < m) (h2 : m ≤ 20) : (0 ≤ remF x m ∧ remF x m < m) ∧ (IntKind.u64.wrap x).tmod m = remF x m ∧ IntKind.u64.wrap (remF x m) = remF x m ∧ IntKind.i64.wrap (remF x m) = remF x m := by
  have h0 : 0 ≤ IntKind.u64.wrap x := by rw [IntKind.wrap_u64]; omega
  have a : 0 ≤ remF x m := Int.emod_nonneg _ (by omega)
  have b : remF x m < m := Int.emod_lt_of_pos _ h1
  exact ⟨⟨a, b⟩, Int.tmod_eq_emod_of_nonneg h0, by rw [IntKind.wrap_u64]; omega, by rw [IntKind.wrap_i64]; omega⟩
def smT (d l s f : Int) : Tc := ⟨nz, 0, 1000, 3, fun j => (j : Int), 1 + d, 40, 40 - l, 1 + s, f⟩
structure Sm (d l s f : Int) : Prop where
  d : 0 ≤ d ∧ d < 3
  l : 0 ≤ l ∧ l < 20
  s : 0 ≤ s ∧ s < 9
  f : 0 ≤ f ∧ f < 20
theorem smT_q {d l s f : Int} (h : Sm d l s f) : 0 ≤ stp (smT d l s f) 40 ∧ stp (smT d l s f) 40 ≤ 19 := by
  have := h.l; have := h.s
  have e : stp (smT d l s f) 40 = l / (1 + s) := by show (40 - (40 - l)) / (1 + s) = _; rw [show 40 - (40 - l) = l by omega]
  rw [e]
  exact ⟨Int.ediv_nonneg (by omega) (by omega), Int.le_trans (Int.ediv_le_self _ (by omega)) (by omega)⟩
theorem smT_k {d l s f : Int} : KOk (smT d l s f).kz (smT d l s f).kn := fun j hj => by
  have hj3 : j < 3 := hj
  match j, hj3 with
  | 0, _ => exact ⟨by show (-1 : Int) < ((0 : Nat) : Int); decide, by show ((0 : Nat) : Int) < 16; decide⟩
  | 1, _ => exact ⟨by show ((0 : Nat) : Int) < ((1 : Nat) : Int); decide, by show ((1 : Nat) : Int) < 16; decide⟩
  | 2, _ => exact ⟨by show ((1 : Nat) : Int) < ((2 : Nat) : Int); decide, by show ((2 : Nat) : Int) < 16; decide⟩
theorem smT_ok {d l s f : Int} (h : Sm d l s f) : chkT (smT d l s f) = 0 := by
  have hq := smT_q h
  obtain ⟨hd, hl, hs, hf⟩ := h
  have m1 : (1 + d) * (l + 1) ≤ 3 * 20 := Int.mul_le_mul (by omega) (by omega) (by omega) (by omega)
  have m2 : 0 ≤ (1 + d) * f ∧ (1 + d) * f ≤ 3 * 20 := ⟨Int.mul_nonneg (by omega) (by omega), Int.mul_le_mul (by omega) (by omega) (by omega) (by omega)⟩
  have o1 : TOk1 (smT d l s f) := ⟨⟨by show 1 ≤ 1 + d; omega, by show 1 + d ≤ 8; omega⟩, by show 1 ≤ 1 + s; omega, by show 1 ≤ 40 - l; omega, by show 40 - l ≤ 40; omega, by show (40 : Int) ≤ _; omega⟩
  have o2 : TOk2 (smT d l s f) := ⟨by show 40 + (1 + d) * (40 - (40 - l) + 1) ≤ _; rw [show (40 : Int) - (40 - l) + 1 = l + 1 by omega]; omega, by show stp (smT d l s f) 40 ≤ 255; omega⟩
  have o3 : TOk3 (smT d l s f) := ⟨⟨by show 0 ≤ f; omega, by show f ≤ _; omega⟩, by show (10 : Int) ≤ 1000; omega, by show (1000 : Int) ≤ _; omega⟩
  unfold chkT
  rw [if_neg (fun h => h ⟨o1, o2, o3⟩), if_neg (fun h => h ⟨by show 2 ≤ 3; omega, smT_k⟩), if_neg (by show ¬ (1000 - (1 + d) * f < 10); omega)]
theorem build_sm (d l s f : Int) (ka : Option Addr) (w : World) : (Instr.build 32 #[(1, .int .i64 1000), (2, .slice ka 3 3), (3, .int .i64 (1 + d)), (4, .int .i64 40), (5, .int .i64 (40 - l)), (6, .int .i64 (1 + s)), (7, .int .i64 f)]).run Tryd.prog w = .ok (.agg (tcv (smT d l s f) ka 3)) w := by kernel_rfl
theorem wpList_buildSm {ops : Array Oper} {rest : List Oper} {o : Oper} {a : Act} {w : World} {Q : Exit → Act → World → Prop} (d l s f : Int) (ka : Option Addr) (hgd : o.guard = none) (x1 x2 x3 x4 x5 x6 x7 : Operand) (ho : o.op = .build 32 #[(1, x1), (2, x2), (3, x3), (4, x4), (5, x5), (6, x6), (7, x7)]) (h1 : a.eval x1 = .int .i64 1000) (h2 : a.eval x2 = .slice ka 3 3) (h3 : a.eval x3 = .int .i64 (1 + d)) (h4 : a.eval x4 = .int .i64 40) (h5 : a.eval x5 = .int .i64 (40 - l)) (h6 : a.eval x6 = .int .i64 (1 + s)) (h7 : a.eval x7 = .int .i64 f)
    (h : wpList Tryd.prog ops Q rest (a.put o.dst (.agg (tcv (smT d l s f) ka 3))) w) : wpList Tryd.prog ops Q (o :: rest) a w := by
  refine wpList_plain hgd fun K hK => ?_
  unfold Oper.wp execOp
  simp only [ho, List.map_toArray, List.map_cons, List.map_nil, h1, h2, h3, h4, h5, h6, h7, Sem.run_bind, build_sm, Result.andThen]
  exact hK _ _ h
set_option maxRecDepth 100000 in
set_option maxHeartbeats 3200000 in
theorem small_any (c : Tc) (ka : Option Addr) (kc : Nat) (w : World) :
    Calls Tryd.prog 22 #[.agg (tcv c ka kc)] w fun e w' => (∃ d l s f ka', Sm d l s f ∧ e = .returned (.agg (tcv (smT d l s f) ka' 3)) ∧ TcIn w' (smT d l s f) ka') ∧ Below w.heap.size w w' := by
  obtain ⟨b1, r1, u1, i1⟩ := rem_bd c.dp 3 (by omega) (by omega)
  obtain ⟨b2, r2, u2, i2⟩ := rem_bd c.la 20 (by omega) (by omega)
  obtain ⟨b3, r3, u3, i3⟩ := rem_bd c.st 9 (by omega) (by omega)
  obtain ⟨b4, r4, u4, i4⟩ := rem_bd c.fe 20 (by omega) (by omega)
  have HS : Hid (Sm (remF c.dp 3) (remF c.la 20) (remF c.st 9) (remF c.fe 20)) := ⟨b1, b2, b3, b4⟩
  generalize remF c.dp 3 = d at *
  generalize remF c.la 20 = l at *
  generalize remF c.st 9 = s at *
  generalize remF c.fe 20 = f at *
  have j1 : IntKind.i64.wrap (1 + d) = 1 + d := by rw [IntKind.wrap_i64]; omega
  have j2 : IntKind.i64.wrap (40 - l) = 40 - l := by rw [IntKind.wrap_i64]; omega
  have j3 : IntKind.i64.wrap (1 + s) = 1 + s := by rw [IntKind.wrap_i64]; omega
  clear b1 b2 b3 b4
  go_enter Tryd.func22, Tryd.ntmps22
  go_upto_region 1 with (first | (refine wpList_boxN rfl _ _ rfl (tcv c ka kc) rfl ?_; intro v1 N1) | (refine wpList_allocN 32 (tcv tc0 none 0) run_allocTc rfl rfl ?_; intro v2 N2) | fail)
  have N3 := new_alloc v2 #[.int .i64 0, .int .i64 1, .int .i64 2] 3
  have hbx := tcBox (tcl_range (N3.old (N2.old N1.blk)))
  have HX : Hid (Below w.heap.size w (v2.alloc (.cells #[.int .i64 0, .int .i64 1, .int .i64 2] 3)) ∧ w.heap.size ≤ v1.heap.size ∧ v1.heap.size < v2.heap.size ∧ (v2.alloc (.cells #[.int .i64 0, .int .i64 1, .int .i64 2] 3)).heap[v1.heap.size]? = some (.cells (tcv tc0 none 0) 32 (0, 0)) ∧ (v2.alloc (.cells #[.int .i64 0, .int .i64 1, .int .i64 2] 3)).heap[v2.heap.size]? = some (.cells #[.int .i64 0, .int .i64 1, .int .i64 2] 3 (0, 0))) :=
    ⟨Below.transS N1.below (Below.transS N2.below N3.below), N1.below.size, by rw [N2.size]; omega, N3.old N2.blk, N3.blk⟩
  obtain ⟨am, ks, dp, fi, la, st, fe⟩ := hbx
  clear N1 N2 N3
  go_wp2_with (first | (refine wpList_buildSm d l s f (some ⟨v2.heap.size, 0, none⟩) rfl _ _ _ _ _ _ _ rfl rfl rfl rfl rfl rfl rfl rfl ?_) | (refine wpList_storeG 32 szT rfl _ _ rfl v1.heap.size rfl (tcv (smT d l s f) (some ⟨v2.heap.size, 0, none⟩) 3) (tcv tc0 none 0) (tcv_size _ _ _) (tcv_size _ _ _) (all_oneCell_toArray (tcl_one _ _ _)) 32 rfl HX.out.2.2.2.1 ?_; intro v3 hg3 hf3) | fail)
  refine bodyPost_ret (results_cell_row Tryd.results22 _ v3 v1.heap.size 32 _ (0, 0) _ rfl hg3 Tryd.underlying32 rfl (by rw [tcv_size]; exact szT)) rfl ⟨⟨d, l, s, f, some ⟨v2.heap.size, 0, none⟩, HS.out, rfl, ⟨fun _ => ⟨v2.heap.size, 0, rfl, fun j hj => ?_⟩, (by show 3 ≤ 1000000; decide), ?_⟩⟩, ?_⟩
  · have hj3 : j < 3 := hj
    have hx := HX.out
    rw [World.cell?_of_block (a := ⟨v2.heap.size, 0 + j, none⟩) (hf3.block v2.heap.size (lt_of_block hx.2.2.2.2) (by simp; omega)), cell_of_row _ _ _ _ _ _ hx.2.2.2.2, Nat.zero_add]
    match j, hj3 with
    | 0, _ => rfl
    | 1, _ => rfl
    | 2, _ => rfl
  · have := HS.out.s
    show Ib (1 + s)
    unfold Ib
    omega
  · have hx := HX.out
    exact hx.1.trans (hf3.below hx.1.size (by simp; omega))
end Go.Proofs.YtlnoabedcnlpoaaDoor
