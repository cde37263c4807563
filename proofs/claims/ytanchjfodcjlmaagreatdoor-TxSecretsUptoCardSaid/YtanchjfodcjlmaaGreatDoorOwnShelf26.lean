/- tx.ID, tx.At. -/
import Derived.Test.YtanchjfodcjlmaaGreatDoorOwnShelf25
import Derived.Test.YtanchjfodcjlmaaGreatDoorOwnShelf10
import Derived.OrdersHeld
import Derived.Deep.RegionHeld3
import Derived.Test.YtanchjfodcjlmaaGreatDoorOwnShelf13
import Derived.Test.YtanchjfodcjlmaaGreatDoorOwnShelf01
import Derived.Test.YtanchjfodcjlmaaGreatDoorOwnShelf12
namespace Go.Proofs.YtanchjfodcjlmaaGreatDoor
open Go.RowKit

/-- Bytes as numbers. -/
def nb (L : List Int) : List Nat := L.map Int.toNat
theorem nb_length (L : List Int) : (nb L).length = L.length := by simp [nb]
theorem nb_lt {L : List Int} (h : ∀ j, j < L.length → 0 ≤ fn L j ∧ fn L j ≤ 255) (i : Nat) : (nb L).getD i 0 < 256 := by
  by_cases hi : i < L.length
  · have := h i hi
    rw [fn_get L i hi] at this
    simp only [nb, List.getD_eq_getElem?_getD, List.getElem?_map, List.getElem?_eq_getElem hi, Option.map_some, Option.getD_some]
    omega
  · simp [nb, List.getD_eq_getElem?_getD, List.getElem?_eq_none (Nat.le_of_not_lt hi)]
theorem slB_of {w : World} {ad : Option Addr} {L : List Int} (h : SlAt w ad L.length (fn L)) : SlB w ad (nb L) := by
  intro hn
  rw [nb_length] at hn
  obtain ⟨b, off, e, hc⟩ := h.2 hn
  refine ⟨b, off, e, fun j v hv => ?_⟩
  simp only [sl8, nb, List.map_map, List.getElem?_map] at hv
  obtain ⟨x, hx, rfl⟩ := Option.map_eq_some_iff.1 hv
  obtain ⟨hj, rfl⟩ := List.getElem?_eq_some_iff.1 hx
  rw [hc j hj, fn_get L j hj]
  have := h.1 j hj
  rw [fn_get L j hj] at this
  simp only [Function.comp]
  congr 2
  omega
theorem Ow.sl {w0 w : World} {v : Value} {L : List Int} (h : Ow w0 w v L) : ∃ ad cap, v = .slice ad L.length cap ∧ L.length ≤ cap ∧ SlAt w ad L.length (fn L) := by
  have hbd : ∀ j, j < L.length → 0 ≤ fn L j ∧ fn L j ≤ 255 := fun j hj => by rw [fn_get L j hj]; exact h.bd _ (List.getElem_mem hj)
  have hown := h.own
  rcases h.own.2 with ⟨rfl, hl⟩ | ⟨g, cap, cur, rfl, hbs, hg, hcap, rest⟩
  · exact ⟨none, 0, by rw [hl], by omega, hbd, fun hn => by omega⟩
  · refine ⟨some ⟨g, 0, none⟩, cap, rfl, hcap, hbd, fun _ => ⟨g, 0, rfl, fun j hj => ?_⟩⟩
    have h1 := hown.cells (g := g) rfl j (.int .u8 (fn L j)) (by rw [fn_get L j hj, List.getElem?_map, List.getElem?_eq_getElem hj]; rfl)
    first | exact h1 | (rw [Addr.add_lit] at h1; exact h1) | simpa using h1
/-- A transaction's bytes for its ID; its ID. -/
def idB (lk : Int) (n : Nat) (X : Nat → Ti) (Z : Nat → Nat → Int) (m : Nat) (O : Nat → To) : List Int := laidT lk n (noS X) Z m O
theorem idB_len {lk : Int} {n : Nat} {X : Nat → Ti} {Z : Nat → Nat → Int} {m : Nat} {O : Nat → To} (hn : n ≤ 1000) (hm : m ≤ 1000) (hs : ∀ i, i < m → (O i).cn ≤ 1000 ∧ ∀ j, j < (O i).cn → ((O i).X j).n ≤ 1048576) : (idB lk n X Z m O).length ≤ 140737488355328 := by
  have h1 := Cd.uB_len (Cd.u64 lk)
  have h2 := Cd.uB_len (Cd.u64 (n : Int))
  have h3 := Cd.uB_len (Cd.u64 (m : Int))
  have h4 := laidIns_len (noS X) Z n (fun j _ => by simp [noS])
  have h5 := laidOuts_len O m hs
  simp only [idB, laidT, laidTx0, List.length_append]
  omega
set_option maxRecDepth 100000 in
set_option maxHeartbeats 3200000 in
theorem kid_any (lk : Int) (ia : Option Addr) (n ic : Nat) (oa : Option Addr) (m oc : Nat) (X : Nat → Ti) (S : Nat → Option Addr × Nat) (Z : Nat → Nat → Int) (O : Nat → To) (w : World) (h : TiAt w ia n X S) (ho : ToAt w oa m O)
    (hz : ∀ i, i < n → SlAt w (S i).1 (X i).sn (Z i) ∧ (X i).sn ≤ 1000000) (hs : ∀ i, i < m → (O i).cn ≤ 1000 ∧ ∀ j, j < (O i).cn → ((O i).X j).n ≤ 1048576) (hn : n ≤ 1000) (hm : m ≤ 1000) (hT : Tab w) (hgl : 4 ≤ w.heap.size) :
    Calls Tryz.prog 22 #[.agg (txv lk ia n ic oa m oc)] w fun e w' => e = .returned (.agg (sv (sumF (nb (idB lk n X Z m O))))) ∧ Below w.heap.size w w' := by
  have hb0 : Below w.heap.size w ((w.alloc (.cells #[.int .i64 lk, .slice ia n ic, .slice oa m oc] 35)).alloc (.cells (sv z32) 43)) := ((Below.refl _ w).alloc (Nat.le_refl _) _).alloc (by simp) _
  have hr0 : ((w.alloc (.cells #[.int .i64 lk, .slice ia n ic, .slice oa m oc] 35)).alloc (.cells (sv z32) 43)).heap[w.heap.size]? = some (.cells #[.int .i64 lk, .slice ia n ic, .slice oa m oc] 35 (0, 0)) := by rw [Below.heap_alloc _ _ _ (by simp)]; exact heap_alloc_new w _
  have hz0 : ((w.alloc (.cells #[.int .i64 lk, .slice ia n ic, .slice oa m oc] 35)).alloc (.cells (sv z32) 43)).heap[w.heap.size + 1]? = some (.cells (sv z32) 43 (0, 0)) := by
    have := heap_alloc_new (w.alloc (.cells #[.int .i64 lk, .slice ia n ic, .slice oa m oc] 35)) (.cells (sv z32) 43)
    simpa using this
  have hc := klayI_any lk ia n ic oa m oc X S Z O _ (h.below hb0) (ho.below hb0) (fun i hi => ⟨(hz i hi).1.below hb0, (hz i hi).2⟩) hs hn hm
  have HL := idB_len (lk := lk) (X := X) (Z := Z) hn hm hs
  obtain ⟨L, hL⟩ : ∃ L, idB lk n X Z m O = L := ⟨_, rfl⟩
  have hRl : (sumF (nb L)).length = 32 := endL_len _
  have HT : Hid (Tab w) := hT
  have HR : Hid (((w.alloc (.cells #[.int .i64 lk, .slice ia n ic, .slice oa m oc] 35)).alloc (.cells (sv z32) 43)).rangeAt w.heap.size 0 (txl lk ia n ic oa m oc)) := txl_range hr0
  rw [show laidT lk n (noS X) Z m O = L from hL] at hc
  rw [hL] at HL ⊢
  clear h ho hz hs hT hL hr0
  unfold txv at hc ⊢
  go_enter Tryz.func22, Tryz.ntmps22
  go_wp2_with (first | (refine wpList_allocHs rfl rfl ?_) | (refine wpList_load_mid rfl 35 _ rfl w.heap.size 0 rfl (txl lk ia n ic oa m oc) _ HR.out Tryz.underlying35 rfl szTx ?_) | fail)
  generalize (w.alloc (.cells #[.int .i64 lk, .slice ia n ic, .slice oa m oc] 35)).alloc (.cells (sv z32) 43) = W0 at *
  refine hc.mono ?_
  rintro e w1 ⟨v, rfl, hO⟩
  obtain ⟨ad, cap, rfl, hcap, hsl⟩ := hO.sl
  have hb1 := hO.below
  have hbw : Below w.heap.size w w1 := hb0.trans (hb1.mono hb0.size)
  have hcall := sum_any ad cap (nb L) w1 (HT.out.frm (S := []) (Frm.ofBelow hbw) (fun k hk => by cases hk)) (by have := hbw.size; omega) (slB_of hsl) (nb_lt hsl.1) (by rw [nb_length]; exact hcap) (by rw [nb_length]; omega)
  rw [nb_length] at hcall
  have hz1 : w1.heap[w.heap.size + 1]? = some (.cells (sv z32) 43 (0, 0)) := by rw [hb1.block _ (lt_of_block hz0)]; exact hz0
  obtain ⟨R, hR⟩ : ∃ R, R = sumF (nb L) := ⟨_, rfl⟩
  have HRR : Hid (R = sumF (nb L)) := hR
  rw [← hR] at hcall hRl
  clear hc hb0 hb1 hz0 hsl hcap hR hO
  go_wp2_with fail
  refine hcall.mono ?_
  rintro e w2 ⟨rfl, hb2⟩
  have hz2 : w2.heap[w.heap.size + 1]? = some (.cells (sv z32) 43 (0, 0)) := by rw [hb2.block _ (lt_of_block hz1)]; exact hz1
  have hb2' : Below w.heap.size w w2 := hbw.trans (hb2.mono hbw.size)
  clear hcall hz1 hb2 hbw
  go_wp2_with (first | (refine wpList_storeRow 43 hsz rfl _ _ rfl (w.heap.size + 1) rfl (sv R) (sv z32) (by rw [sv_size, hRl]) (by simp [sv_size, z32]) (sv_one _) 43 rfl hz2 ?_; intro w3 hg3 hf3) | fail)
  refine bodyPost_ret (results_cell_row Tryz.results22 _ w3 (w.heap.size + 1) 43 (sv R) (0, 0) _ rfl hg3 Tryz.underlying43 rfl (by rw [sv_size, hRl]; exact hsz)) rfl ⟨by rw [HRR.out], hb2'.trans (hf3.below (by have := hb2'.size; omega) (by simp))⟩
/-- A sum's bytes as ints. -/
def sZ (R : List Nat) : Nat → Int := fun j => (R.getD j 0 : Nat)
theorem sv_sZ {R : List Nat} (h : R.length = 32) : sv R = hv (sZ R) := by
  unfold sv sl8 hv bl sZ
  congr 1
  apply List.ext_getElem?
  intro j
  by_cases hj : j < 32
  · simp [List.getElem?_map, List.getElem?_range hj, List.getElem?_eq_getElem (show j < R.length by omega), List.getD_eq_getElem?_getD]
  · rw [List.getElem?_eq_none (by simp; omega), List.getElem?_eq_none (by simp; omega)]
theorem sZ_bd (b : List Nat) : ∀ j, j < 32 → 0 ≤ sZ (sumF b) j ∧ sZ (sumF b) j ≤ 255 := fun j _ => by have h2 : (sumF b).getD j 0 < 256 := endL_lt _ j; unfold sZ; omega
theorem guardHs2 : Tryz.prog.eqGuardType Tryz.prog.depth 43 = false := by kernel_rfl
theorem exec_eqS {a : Act} {o : Oper} (x y : Operand) (ho : o.op = .binOp .eql 43 x y 43) (b : List Nat) (hx : a.eval x = .agg (sv (sumF b))) (hy : a.eval y = .agg (sv (sumF b))) (w : World) :
    (execOp a.eval o).run Tryz.prog w = .ok (.value (.bool true)) w := by
  have hl : (sumF b).length = 32 := endL_len _
  have e1 := eql_hv (sZ_bd b) (sZ_bd b) w
  rw [hq_same] at e1
  rw [sv_sZ hl] at hx hy
  unfold execOp
  simp only [ho, hx, hy, Sem.run_bind, run_eqGuard_agg w .eql 43 x y _ _ guardHs2, e1, Result.andThen_ok, Sem.run_pure]
def ptv (z : Nat → Int) (n : Int) : Array Value := (ptl z n).toArray
theorem ptv_size (z : Nat → Int) (n : Int) : (ptv z n).size = 33 := by simp [ptv, ptl_length]
theorem ptl_one' (z : Nat → Int) (n : Int) : ∀ u ∈ ptl z n, u.oneCell' = true := by
  intro u hu
  simp only [ptl, List.mem_append] at hu
  rcases hu with hu | hu
  · exact bl_one _ _ _ hu
  · simp at hu
    rcases hu with rfl
    rfl
theorem ptl_range {w : World} {g : Nat} {z : Nat → Int} {n : Int} {t : TypeId} {fr : Nat × Nat} (h : w.heap[g]? = some (.cells (ptv z n) t fr)) : w.rangeAt g 0 (ptl z n) := fun j v hv => by
  rw [Nat.zero_add, cell_of_row _ _ j _ _ _ h]
  simpa [ptv] using hv
theorem build_Pt (z : Nat → Int) (n : Int) (w : World) : (Instr.build 47 #[(0, .agg (hv z)), (1, .int .i64 n)]).run Tryz.prog w = .ok (.agg (ptv z n)) w := by kernel_rfl
section
variable {ops : Array Oper} {rest : List Oper} {o : Oper} {a : Act} {w : World} {Q : Exit → Act → World → Prop}
theorem wpList_buildPt (hgd : o.guard = none) (x y : Operand) (ho : o.op = .build 47 #[(0, x), (1, y)]) (z : Nat → Int) (n : Int) (hx : a.eval x = .agg (hv z)) (hy : a.eval y = .int .i64 n)
    (h : wpList Tryz.prog ops Q rest (a.put o.dst (.agg (ptv z n))) w) : wpList Tryz.prog ops Q (o :: rest) a w := by
  refine wpList_plain hgd fun K hK => ?_
  unfold Oper.wp execOp
  simp only [ho, List.map_toArray, List.map_cons, List.map_nil, hx, hy, Sem.run_bind, build_Pt, Result.andThen]
  exact hK _ _ h
end
theorem run_allocPt (w : World) : (Instr.alloc 47 true (.tuple #[])).run Tryz.prog w = .ok (.pointer (some ⟨w.heap.size, 0, none⟩)) (w.alloc (.cells (ptv (fun _ => 0) 0) 47)) := by kernel_rfl
set_option maxRecDepth 100000 in
set_option maxHeartbeats 3200000 in
theorem kat_any (lk : Int) (ia : Option Addr) (n ic : Nat) (oa : Option Addr) (m oc : Nat) (X : Nat → Ti) (S : Nat → Option Addr × Nat) (Z : Nat → Nat → Int) (O : Nat → To) (k : Int) (w : World) (h : TiAt w ia n X S) (ho : ToAt w oa m O)
    (hz : ∀ i, i < n → SlAt w (S i).1 (X i).sn (Z i) ∧ (X i).sn ≤ 1000000) (hs : ∀ i, i < m → (O i).cn ≤ 1000 ∧ ∀ j, j < (O i).cn → ((O i).X j).n ≤ 1048576) (hn : n ≤ 1000) (hm : m ≤ 1000) (hT : Tab w) (hgl : 4 ≤ w.heap.size) :
    Calls Tryz.prog 20 #[.agg (txv lk ia n ic oa m oc), .int .i64 k] w fun e w' => e = .returned (.agg (ptv (sZ (sumF (nb (idB lk n X Z m O)))) k)) ∧ Below w.heap.size w w' := by
  have hb0 : Below w.heap.size w (w.alloc (.cells #[.int .i64 lk, .slice ia n ic, .slice oa m oc] 35)) := (Below.refl _ w).alloc (Nat.le_refl _) _
  have hr0 := heap_alloc_new w (.cells #[.int .i64 lk, .slice ia n ic, .slice oa m oc] 35)
  have hc : ∀ w', Below w.heap.size w w' → _ := fun w' hb => kid_any lk ia n ic oa m oc X S Z O w' (h.below hb) (ho.below hb) (fun i hi => ⟨(hz i hi).1.below hb, (hz i hi).2⟩) hs hn hm (hT.frm (S := []) (Frm.ofBelow hb) (fun k hk => by cases hk)) (by have := hb.size; omega)
  obtain ⟨R, hR⟩ : ∃ R, sumF (nb (idB lk n X Z m O)) = R := ⟨_, rfl⟩
  have hRl : R.length = 32 := by rw [← hR]; exact endL_len _
  rw [hR] at hc ⊢
  rw [sv_sZ hRl] at hc
  have HC := hidV hc
  have HB0 := hidV hb0
  have HR0 : Hid (((w.alloc (.cells #[.int .i64 lk, .slice ia n ic, .slice oa m oc] 35))).rangeAt w.heap.size 0 (txl lk ia n ic oa m oc)) := txl_range hr0
  clear h ho hz hs hT hr0 hR hc hb0
  unfold txv at HC ⊢
  go_enter Tryz.func20, Tryz.ntmps20
  go_wp2_with (first | (refine wpList_allocN 47 (ptv (fun _ => 0) 0) run_allocPt rfl rfl ?_; intro v1 N1; have HR := hidV (range_below HR0.out N1.below); have HB := hidV (HB0.out.trans (N1.below.mono HB0.out.size)); have HK := hidV N1.blk; clear N1) | (refine wpList_load_mid rfl 35 _ rfl w.heap.size 0 rfl (txl lk ia n ic oa m oc) _ HR.out Tryz.underlying35 rfl szTx ?_) | fail)
  refine (HC.out v1 HB.out).mono ?_
  rintro e w1 ⟨rfl, hb1⟩
  have hbw : Below w.heap.size w w1 := HB.out.trans (hb1.mono HB.out.size)
  have hz1 : w1.heap[w.heap.size + 1]? = some (.cells (ptv (fun _ => 0) 0) 47 (0, 0)) := by
    have h2 : v1.heap[w.heap.size + 1]? = some (.cells (ptv (fun _ => 0) 0) 47 (0, 0)) := by simpa using HK.out
    rw [hb1.block _ (lt_of_block h2)]; exact h2
  clear HC hb1 HR HR0 HB HB0 HK
  go_wp2_with (first | (refine wpList_buildPt rfl _ _ rfl (sZ R) k rfl rfl ?_) | (refine wpList_storeRow 47 szPt rfl _ _ rfl (w.heap.size + 1) rfl (ptv (sZ R) k) (ptv (fun _ => 0) 0) (ptv_size _ _) (ptv_size _ _) (all_oneCell_toArray (ptl_one' _ _)) 47 rfl hz1 ?_; intro w3 hg3 hf3) | fail)
  refine bodyPost_ret (results_cell_row Tryz.results20 _ w3 (w.heap.size + 1) 47 (ptv (sZ R) k) (0, 0) _ rfl hg3 Tryz.underlying47 rfl (by rw [ptv_size]; exact szPt)) rfl ⟨rfl, hbw.trans (hf3.below (by have := hbw.size; omega) (by simp))⟩
end Go.Proofs.YtanchjfodcjlmaaGreatDoor
/- A region that draws its order and whose last operation (c, which waits for all others) writes a cell that the others load: S need not hold behind it. -/
namespace Go.Proofs.YtanchjfodcjlmaaGreatDoor
open Go

section
variable {P : Program} {ops : Array Oper} {md : Region.Mode} {Q : Exit → Act → World → Prop} {S : World → Prop} {c : Nat}

/-- Whatever order is picked from here on; S holds behind every operation but c. -/
def wpAnyK (P : Program) (md : Region.Mode) (ops : Array Oper) (Q : Exit → Act → World → Prop) (S : World → Prop) (c : Nat) : Nat → Array Bool → Act → World → Prop
  | 0, l, a, w => Region.ready md ops l = [] ∧ Q .normal a w
  | n + 1, l, a, w => (Region.ready md ops l = [] → Q .normal a w) ∧
    ∀ i ∈ Region.ready md ops l, wpOp P ops Q i (fun a' w' => (i ≠ c → S w') ∧ wpAnyK P md ops Q S c n (l.setIfInBounds i true) a' w') a w

theorem wpAny_of_K : ∀ (n : Nat) (l : Array Bool) (a : Act) (w : World), wpAnyK P md ops Q S c n l a w → wpAny P md ops Q n l a w
  | 0, _, _, _, h => h
  | n + 1, _, _, _, h => ⟨h.1, fun i hi => wpOp_mono (fun a' w' h' => wpAny_of_K n _ a' w' h'.2) (h.2 i hi)⟩

/-- c waits for i. -/
def waitsK (md : Region.Mode) (ops : Array Oper) (c i : Nat) : Bool := match ops[c]? with
  | some oc => oc.after.any fun e => Region.binds md e && e.on == i
  | none => false

theorem wpAnyK_first {i : Nat} {oi : Oper} {v : Value} (hce : waitsK md ops c i = true) (hi : ops[i]? = some oi) (hsel : ∀ (j : Nat) (o : Oper) cs b, ops[j]? = some o → o.op ≠ .select cs b)
    (hQ : ∀ ch a w, Q (.panic ch) (a.put oi.dst v) w → Q (.panic ch) a w) :
    ∀ (n : Nat) (l : Array Bool) (a : Act) (w : World),
      (∀ j oj, ops[j]? = some oj → j ≠ i → l.getD j true = false → (∀ e ∈ oj.after, Region.binds md e = true → e.on ≠ i) → oi.apart ops oj = true) →
      i ∈ Region.ready md ops l → YieldsIf P ops S oi v a → S w →
      wpAnyK P md ops Q S c n (l.setIfInBounds i true) (a.put oi.dst v) w → wpAnyK P md ops Q S c (n + 1) l a w := by
  intro n
  induction n with
  | zero =>
    intro l a w _ hr hy hS H
    refine ⟨fun h => (by rw [h] at hr; cases hr), fun j hj => ?_⟩
    by_cases hji : j = i
    · subst hji; exact hy.wpOp hi hS ⟨fun _ => hS, H⟩
    · have := ready_mono hj hji
      rw [H.1] at this
      cases this
  | succ n ih =>
    intro l a w hfree hr hy hS H
    refine ⟨fun h => (by rw [h] at hr; cases hr), fun j hj => ?_⟩
    by_cases hji : j = i
    · subst hji; exact hy.wpOp hi hS ⟨fun _ => hS, H⟩
    · have h1 := H.2 j (ready_mono hj hji)
      obtain ⟨hjun, oj, hoj, hall⟩ := mem_ready.1 hj
      have hnot : ∀ e ∈ oj.after, Region.binds md e = true → e.on ≠ i := fun e he hb heq => by
        have h1 := hall e he hb
        have h0 := (mem_ready.1 hr).1
        rw [heq] at h1
        rcases Nat.lt_or_ge i l.size with h' | h'
        · simp [h'] at h0 h1; rw [h0] at h1; cases h1
        · simp [Array.getElem?_eq_none h'] at h1
      have hjc : j ≠ c := fun e => by
        subst e
        unfold waitsK at hce
        rw [hoj] at hce
        obtain ⟨e, he, hh⟩ := Array.any_eq_true'.1 hce
        simp only [Bool.and_eq_true, beq_iff_eq] at hh
        exact hnot e he hh.1 hh.2
      have h2 := wpOp_putIf hoj (hfree j oj hoj hji hjun hnot) (fun cs b => hsel i oi cs b hi) (fun cs b => hsel j oj cs b hoj) hQ hy h1
      have hfree' : ∀ k ok, ops[k]? = some ok → k ≠ i → (l.setIfInBounds j true).getD k true = false →
          (∀ e ∈ ok.after, Region.binds md e = true → e.on ≠ i) → oi.apart ops ok = true := fun k ok hk hki hun hno => by
        refine hfree k ok hk hki ?_ hno
        by_cases hjk : j = k
        · subst hjk; exact hjun
        · rw [getD_set_ne true hjk] at hun; exact hun
      refine wpOp_mono (fun a' w' h3 => ⟨h3.2.1, ih (l.setIfInBounds j true) a' w' hfree' (ready_mono hr (Ne.symm hji)) h3.1 (h3.2.1 hjc) ?_⟩) h2
      rw [Array.setIfInBounds_comm _ _ hji]
      exact h3.2.2

theorem wpAnyK_take {i : Nat} {oi : Oper} {v : Value} {n : Nat} {l : Array Bool} {a : Act} {w : World} (hce : waitsK md ops c i = true) (hi : ops[i]? = some oi)
    (hs : Region.noSelect ops = true) (hf : Region.free md ops l i = true) (hr : (Region.ready md ops l).contains i = true)
    (hQ : ∀ ch a w, Q (.panic ch) (a.put oi.dst v) w → Q (.panic ch) a w) (hy : YieldsIf P ops S oi v a) (hS : S w)
    (h : wpAnyK P md ops Q S c n (l.setIfInBounds i true) (a.put oi.dst v) w) : wpAnyK P md ops Q S c (n + 1) l a w :=
  wpAnyK_first hce hi (Region.noSelect_spec hs) hQ n l a w (Region.free_spec hi hf) (by simpa using hr) hy hS h

def AllReadyK (P : Program) (md : Region.Mode) (ops : Array Oper) (Q : Exit → Act → World → Prop) (S : World → Prop) (c n : Nat) (l : Array Bool) (a : Act) (w : World) (rs : List Nat) : Prop :=
  ∀ i ∈ rs, wpOp P ops Q i (fun a' w' => (i ≠ c → S w') ∧ wpAnyK P md ops Q S c n (l.setIfInBounds i true) a' w') a w
theorem AllReadyK.nil {n : Nat} {l : Array Bool} {a : Act} {w : World} : AllReadyK P md ops Q S c n l a w [] := fun _ h => by cases h
theorem AllReadyK.cons {n : Nat} {l : Array Bool} {a : Act} {w : World} {i : Nat} {o : Oper} {rs : List Nat} (ho : ops[i]? = some o)
    (h : ∀ K' : Act → World → Prop, Shut (∀ a w, (i ≠ c → S w) → ((i ≠ c → S w) → wpAnyK P md ops Q S c n (l.setIfInBounds i true) a w) → K' a w) → if Region.wanted o (yielded ops a.tmps) = true then Oper.wp P o a w K' Q else K' (a.put o.dst undef) w)
    (hs : AllReadyK P md ops Q S c n l a w rs) : AllReadyK P md ops Q S c n l a w (i :: rs) := fun j hj => by
  rcases List.mem_cons.1 hj with rfl | hj
  · exact wpOp_step ho (fun K' hK => h K' (fun a w hS hW => hK a w ⟨hS, hW hS⟩))
  · exact hs j hj
theorem wpAnyK_ready {rs : List Nat} {n : Nat} {l : Array Bool} {a : Act} {w : World} (hr : Region.ready md ops l = rs) (hne : rs ≠ [])
    (h : AllReadyK P md ops Q S c n l a w rs) : wpAnyK P md ops Q S c (n + 1) l a w := ⟨fun h0 => absurd (hr ▸ h0) hne, hr ▸ h⟩
theorem wpAnyK_done {l : Array Bool} {a : Act} {w : World} (hr : Region.ready md ops l = []) (h : Q .normal a w) : ∀ n, wpAnyK P md ops Q S c n l a w
  | 0 => ⟨hr, h⟩
  | _ + 1 => ⟨fun _ => h, by rw [hr]; simp⟩
theorem wp_region_K {id : Nat} {a : Act} {w : World} (c : Nat) (hm : P.follows .mixedOrders = true) (hS : S w.drew)
    (h : S w.drew → wpAnyK P .any ops Q S c ops.size (Array.replicate ops.size false) a w.drew) : (Code.region id ops true).wp P Q a w :=
  wp_region_any hm (wpAny_of_K _ _ _ _ (h hS))
end
end Go.Proofs.YtanchjfodcjlmaaGreatDoor
/- The document's Total of layer 5. -/
namespace Go.Proofs.YtanchjfodcjlmaaGreatDoor
open Go.RowKit

set_option maxRecDepth 100000 in
set_option maxHeartbeats 1600000 in
theorem rktotal_any (lk : Int) (ia : Option Addr) (n ic : Nat) (oa : Option Addr) (m oc : Nat) (O : Nat → To) (w : World) (h : ToAt w oa m O) (hm : m ≤ 1000000) :
    Calls Tryz.prog 10 #[.agg (txv lk ia n ic oa m oc)] w fun e w' => e = .returned (.tuple #[.int .i64 (totV O m), .int .i64 (totE O m)]) ∧ Below w.heap.size w w' := by
  have HT := hidV h
  clear h
  unfold txv
  go_enter Tryz.func10, Tryz.ntmps10
  go_wp2_with (first | (refine wpList_boxN rfl _ _ rfl #[.int .i64 lk, .slice ia n ic, .slice oa m oc] rfl ?_; intro W0 N0) | fail)
  have HB0 := hidV N0.below
  have HC : Hid (∀ w', Below W0.heap.size W0 w' → w'.cell? ⟨w.heap.size, 2, none⟩ = some (.slice oa m oc)) := fun w' hb => by rw [cell_of_row _ _ 2 _ _ _ (heap_below hb N0.blk)]; rfl
  clear N0
  go_loopw [2, 3, 4, 5, 6] (fun rv ev sv iv _ wr => ∃ (i : Nat) (s : Int), i ≤ m ∧ rv = .int .i64 0 ∧ ev = .int .i64 0 ∧ iv = .int .i64 i ∧ sv = .int .i64 s ∧ totO O i = some s ∧ Below W0.heap.size W0 wr) (fun _ _ _ iv _ _ => m + 1 - (intOf iv).toNat)
  case atStart => exact ⟨0, 0, by omega, rfl, rfl, rfl, rfl, rfl, Below.refl _ _⟩
  case round =>
    obtain ⟨i, s, hi, rfl, rfl, rfl, rfl, hs, hb⟩ := hrel
    have hbd := totO_bd hs
    have HS : Hid (totO O i = some s) := hs
    have HB := hidV hb
    have c2 := HC.out wr hb
    clear hs hb
    by_cases hlt : i < m
    · have hlt' : (i : Int) < m := by omega
      obtain ⟨b, off, rfl, hc⟩ := HT.out.at_ (by omega)
      obtain ⟨ca, cc, hr0, _⟩ := hc i hlt
      have hr1 := range_below hr0 (Below.transS HB0.out HB.out)
      have c0 : wr.cell? ⟨b, off + i * 2, none⟩ = some (.int .i64 (O i).am) := by simpa using hr1 0 _ rfl
      clear hc hr0 hr1
      have HN : Hid (totO O (i + 1) = if 0 ≤ (O i).am ∧ (O i).am ≤ 1125899906842624 - s then some (s + (O i).am) else none) := by rw [totO, HS.out]; exact rfl
      generalize (O i).am = am at *
      by_cases h1 : am < 0
      · have HN2 : Hid (totO O m = none) := totO_stop (i := i + 1) (by rw [HN.out]; exact if_neg (by omega)) m (by omega)
        go_wp2
        go_ret2
        exact ⟨by simp [totV, totE, HN2.out], Below.transS HB0.out HB.out⟩
      · by_cases h2 : 1125899906842624 < am
        · have HN2 : Hid (totO O m = none) := totO_stop (i := i + 1) (by rw [HN.out]; exact if_neg (by omega)) m (by omega)
          go_wp2
          go_ret2
          exact ⟨by simp [totV, totE, HN2.out], Below.transS HB0.out HB.out⟩
        · have hwr : IntKind.i64.wrap (s + am) = s + am := by rw [IntKind.wrap_i64]; omega
          by_cases h3 : 1125899906842624 < s + am
          · have HN2 : Hid (totO O m = none) := totO_stop (i := i + 1) (by rw [HN.out]; exact if_neg (by omega)) m (by omega)
            go_wp2
            go_ret2
            exact ⟨by simp [totV, totE, HN2.out], Below.transS HB0.out HB.out⟩
          · have HN2 : Hid (totO O (i + 1) = some (s + am)) := by rw [HN.out]; exact if_pos (by omega)
            clear HN
            go_wp2
            go_roundw
            case rel => exact ⟨i + 1, s + am, by omega, rfl, rfl, by go_num, rfl, HN2.out, HB.out⟩
            case measure => simp [intOf]; omega
    · obtain rfl : i = m := by omega
      have hnn : ¬ ((i : Int) < i) := by omega
      go_wp2
      go_ret2
      exact ⟨by simp [totV, totE, HS.out], Below.transS HB0.out HB.out⟩
end Go.Proofs.YtanchjfodcjlmaaGreatDoor
/- Points held against each other, on the document's side. -/
namespace Go.Proofs.YtanchjfodcjlmaaGreatDoor
open Go.RowKit

theorem rktS : Tryz.prog.keyTypeAt 3 45 = true := by kernel_rfl
theorem rcellsS : Tryz.prog.cellsOf 45 = 33 := by kernel_rfl
theorem formedPt (n : Int) (z : Nat → Int) : (Value.agg (Kp.kv n z)).formed Tryz.prog 45 = true := by
  simp only [Value.formed, Tryz.underlying45, rcellsS]
  simp [Kp.kv, bl_length]
theorem rlits_sig (d : Nat) {n : Int} {z : Nat → Int} (hn : Kp.Ib n) (h : Hb z) : Tryz.prog.keyLits (d + 3) 45 (Kp.kv n z).toList = some (((List.range 32).map fun j => Lit.int .u8 (z j)) ++ [Lit.int .i64 n]) := by
  have hl : (Kp.kv n z).toList = bl z 32 ++ [.int .i64 n] := by simp [Kp.kv]
  rw [hl]
  unfold Program.keyLits
  rw [Tryz.underlying45]
  simp only [List.length_append, List.length_cons, List.length_nil, bl_length, rcellsS]
  have e1 : List.take 32 (bl z 32 ++ [Value.int .i64 n]) = bl z 32 := by rw [← bl_length z 32]; exact List.take_left
  have e2 : List.drop 32 (bl z 32 ++ [Value.int .i64 n]) = [.int .i64 n] := by rw [← bl_length z 32]; exact List.drop_left
  simp [Kp.cellsI, Kp.cellsH, e1, e2, Kp.lits_int (d + 1) hn, Kp.lits_hash d h]
theorem lits_iff {n m : Int} {z y : Nat → Int} (hn : Kp.Ib n) (hz : Hb z) (hm : Kp.Ib m) (hy : Hb y) : ((((List.range 32).map fun j => Lit.int .u8 (z j)) ++ [Lit.int .i64 n]) = (((List.range 32).map fun j => Lit.int .u8 (y j)) ++ [Lit.int .i64 m])) ↔ (n, ub z) = (m, ub y) := by
  constructor
  · intro h
    have h1 : Kp.kl n z = Kp.kl m y := by unfold Kp.kl; rw [h]
    obtain ⟨e1, e2⟩ := Kp.kl_inj hn hz hm hy h1
    rw [e1, e2]
  · intro h
    simp only [Prod.mk.injEq] at h
    obtain ⟨rfl, h⟩ := h
    have h1 : hv z = hv y := by rw [hv_ub hz, hv_ub hy, h]
    have h2 : bl z 32 = bl y 32 := by rw [← hv_list, ← hv_list, h1]
    have h3 : ∀ j, j < 32 → z j = y j := fun j hj => by
      have e1 : (bl z 32)[j]? = (bl y 32)[j]? := by rw [h2]
      rw [bl_at hj, bl_at hj] at e1
      simpa using e1
    have h4 : ((List.range 32).map fun j => Lit.int .u8 (z j)) = ((List.range 32).map fun j => Lit.int .u8 (y j)) := List.map_congr_left (fun j hj => by rw [h3 j (List.mem_range.1 hj)])
    rw [h4]
set_option maxRecDepth 20000 in
theorem eqPt {n m : Int} {z y : Nat → Int} (hn : Kp.Ib n) (hz : Hb z) (hm : Kp.Ib m) (hy : Hb y) (w : World) : (binOp .eql 45 (.agg (Kp.kv n z)) (.agg (Kp.kv m y))).run Tryz.prog w = .ok (.bool (decide ((n, ub z) = (m, ub y)))) w := by
  obtain ⟨r, h1, h2⟩ := run_equalIn_deep (P := Tryz.prog) 9997 3 45 rktS w 3 3 (.agg (Kp.kv n z)) (.agg (Kp.kv m y)) _ _ (formedPt n z) (formedPt m y) (by simpa [Value.cells] using rlits_sig 0 hn hz) (by simpa [Value.cells] using rlits_sig 0 hm hy)
  rw [run_eql_struct, show (10000 : Nat) = 9997 + 3 from rfl, h1]
  have e : r = decide ((n, ub z) = (m, ub y)) := by
    rw [lits_iff hn hz hm hy] at h2
    cases r
    · have : ¬ ((n, ub z) = (m, ub y)) := fun h => by have := h2.2 h; cases this
      simp [this]
    · simp [h2.1 rfl]
  rw [← e]
  rfl
theorem guardPtR : Tryz.prog.eqGuardType Tryz.prog.depth 45 = false := by kernel_rfl
theorem exec_eqPt {a : Act} {o : Oper} (x y : Operand) (ho : o.op = .binOp .eql 45 x y 45) {n m : Int} {u v : Nat → Int} (hn : Kp.Ib n) (hz : Hb u) (hm : Kp.Ib m) (hy : Hb v) (r : Bool) (hr : decide ((n, ub u) = (m, ub v)) = r) (hx : a.eval x = .agg (ptl u n).toArray) (hy2 : a.eval y = .agg (ptl v m).toArray) (w : World) :
    (execOp a.eval o).run Tryz.prog w = .ok (.value (.bool r)) w := by
  have e1 : (binOp .eql 45 (.agg (ptl u n).toArray) (.agg (ptl v m).toArray)).run Tryz.prog w = .ok (.bool (decide ((n, ub u) = (m, ub v)))) w := eqPt hn hz hm hy w
  unfold execOp
  simp only [ho, hx, hy2, Sem.run_bind, run_eqGuard_agg w .eql 45 x y _ _ guardPtR, e1, hr, Result.andThen_ok, Sem.run_pure]
end Go.Proofs.YtanchjfodcjlmaaGreatDoor
