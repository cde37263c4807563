/- A region that draws its order and whose last operation (c, which waits for all others) writes a cell that the others load: S need not hold behind it. -/
import Derived.OrdersHeld
import Derived.Deep.RegionHeld3
import Derived.Test.YtbehkajfckadfaaDoorOwnShelf13
import Derived.Test.YtbehkajfckadfaaDoorOwnShelf01
import Derived.Test.YtbehkajfckadfaaDoorOwnShelf24
namespace Go.Proofs.YtbehkajfckadfaaDoor
open Go

section
variable {P : Program} {ops : Array Oper} {md : Region.Mode} {Q : Exit → Act → World → Prop} {S : World → Prop} {c : Nat}

/-- Whatever order is picked from here on; S holds behind every operation but c. -/
def wpAnyK (P : Program) (md : Region.Mode) (ops : Array Oper) (Q : Exit → Act → World → Prop) (S : World → Prop) (c : Nat) : Nat → Array Bool → Act → World → Prop
  | 0, l, a, w => Region.ready md ops l = [] ∧ Q .normal a w
  | n + 1, l, a, w => (Region.ready md ops l = [] → Q .normal a w) ∧
    ∀ i ∈ Region.ready md ops l, wpOp P ops Q i (fun a' w' => (i ≠ c → S w') ∧ wpAnyK P md ops Q S c n (l.setIfInBounds i true) a' w') a w

theorem wpAny_of_K : ∀ (n : Nat) (l : Array Bool) (a : Act) (w : World), wpAnyK P md ops Q S c n l a w → wpAny P md ops Q n l a w
  | 0, _, _, _, h => h
  | n + 1, _, _, _, h => ⟨h.1, fun i hi => wpOp_mono (fun a' w' h' => wpAny_of_K n _ a' w' h'.2) (h.2 i hi)⟩

/-- c waits for i. -/
def waitsK (md : Region.Mode) (ops : Array Oper) (c i : Nat) : Bool := match ops[c]? with
  | some oc => oc.after.any fun e => Region.binds md e && e.on == i
  | none => false

theorem wpAnyK_first {i : Nat} {oi : Oper} {v : Value} (hce : waitsK md ops c i = true) (hi : ops[i]? = some oi) (hsel : ∀ (j : Nat) (o : Oper) cs b, ops[j]? = some o → o.op ≠ .select cs b)
    (hQ : ∀ ch a w, Q (.panic ch) (a.put oi.dst v) w → Q (.panic ch) a w) :
    ∀ (n : Nat) (l : Array Bool) (a : Act) (w : World),
      (∀ j oj, ops[j]? = some oj → j ≠ i → l.getD j true = false → (∀ e ∈ oj.after, Region.binds md e = true → e.on ≠ i) → oi.apart ops oj = true) →
      i ∈ Region.ready md ops l → YieldsIf P ops S oi v a → S w →
      wpAnyK P md ops Q S c n (l.setIfInBounds i true) (a.put oi.dst v) w → wpAnyK P md ops Q S c (n + 1) l a w := by
  intro n
  induction n with
  | zero =>
    intro l a w _ hr hy hS H
    refine ⟨fun h => (by rw [h] at hr; cases hr), fun j hj => ?_⟩
    by_cases hji : j = i
    · subst hji; exact hy.wpOp hi hS ⟨fun _ => hS, H⟩
    · have := ready_mono hj hji
      rw [H.1] at this
      cases this
  | succ n ih =>
    intro l a w hfree hr hy hS H
    refine ⟨fun h => (by rw [h] at hr; cases hr), fun j hj => ?_⟩
    by_cases hji : j = i
    · subst hji; exact hy.wpOp hi hS ⟨fun _ => hS, H⟩
    · have h1 := H.2 j (ready_mono hj hji)
      obtain ⟨hjun, oj, hoj, hall⟩ := mem_ready.1 hj
      have hnot : ∀ e ∈ oj.after, Region.binds md e = true → e.on ≠ i := fun e he hb heq => by
        have h1 := hall e he hb
        have h0 := (mem_ready.1 hr).1
        rw [heq] at h1
        rcases Nat.lt_or_ge i l.size with h' | h'
        · simp [h'] at h0 h1; rw [h0] at h1; cases h1
        · simp [Array.getElem?_eq_none h'] at h1
      have hjc : j ≠ c := fun e => by
        subst e
        unfold waitsK at hce
        rw [hoj] at hce
        obtain ⟨e, he, hh⟩ := Array.any_eq_true'.1 hce
        simp only [Bool.and_eq_true, beq_iff_eq] at hh
        exact hnot e he hh.1 hh.2
      have h2 := wpOp_putIf hoj (hfree j oj hoj hji hjun hnot) (fun cs b => hsel i oi cs b hi) (fun cs b => hsel j oj cs b hoj) hQ hy h1
      have hfree' : ∀ k ok, ops[k]? = some ok → k ≠ i → (l.setIfInBounds j true).getD k true = false →
          (∀ e ∈ ok.after, Region.binds md e = true → e.on ≠ i) → oi.apart ops ok = true := fun k ok hk hki hun hno => by
        refine hfree k ok hk hki ?_ hno
        by_cases hjk : j = k
        · subst hjk; exact hjun
        · rw [getD_set_ne true hjk] at hun; exact hun
      refine wpOp_mono (fun a' w' h3 => ⟨h3.2.1, ih (l.setIfInBounds j true) a' w' hfree' (ready_mono hr (Ne.symm hji)) h3.1 (h3.2.1 hjc) ?_⟩) h2
      rw [Array.setIfInBounds_comm _ _ hji]
      exact h3.2.2

theorem wpAnyK_take {i : Nat} {oi : Oper} {v : Value} {n : Nat} {l : Array Bool} {a : Act} {w : World} (hce : waitsK md ops c i = true) (hi : ops[i]? = some oi)
    (hs : Region.noSelect ops = true) (hf : Region.free md ops l i = true) (hr : (Region.ready md ops l).contains i = true)
    (hQ : ∀ ch a w, Q (.panic ch) (a.put oi.dst v) w → Q (.panic ch) a w) (hy : YieldsIf P ops S oi v a) (hS : S w)
    (h : wpAnyK P md ops Q S c n (l.setIfInBounds i true) (a.put oi.dst v) w) : wpAnyK P md ops Q S c (n + 1) l a w :=
  wpAnyK_first hce hi (Region.noSelect_spec hs) hQ n l a w (Region.free_spec hi hf) (by simpa using hr) hy hS h

def AllReadyK (P : Program) (md : Region.Mode) (ops : Array Oper) (Q : Exit → Act → World → Prop) (S : World → Prop) (c n : Nat) (l : Array Bool) (a : Act) (w : World) (rs : List Nat) : Prop :=
  ∀ i ∈ rs, wpOp P ops Q i (fun a' w' => (i ≠ c → S w') ∧ wpAnyK P md ops Q S c n (l.setIfInBounds i true) a' w') a w
theorem AllReadyK.nil {n : Nat} {l : Array Bool} {a : Act} {w : World} : AllReadyK P md ops Q S c n l a w [] := fun _ h => by cases h
theorem AllReadyK.cons {n : Nat} {l : Array Bool} {a : Act} {w : World} {i : Nat} {o : Oper} {rs : List Nat} (ho : ops[i]? = some o)
    (h : ∀ K' : Act → World → Prop, Shut (∀ a w, (i ≠ c → S w) → ((i ≠ c → S w) → wpAnyK P md ops Q S c n (l.setIfInBounds i true) a w) → K' a w) → if Region.wanted o (yielded ops a.tmps) = true then Oper.wp P o a w K' Q else K' (a.put o.dst undef) w)
    (hs : AllReadyK P md ops Q S c n l a w rs) : AllReadyK P md ops Q S c n l a w (i :: rs) := fun j hj => by
  rcases List.mem_cons.1 hj with rfl | hj
  · exact wpOp_step ho (fun K' hK => h K' (fun a w hS hW => hK a w ⟨hS, hW hS⟩))
  · exact hs j hj
theorem wpAnyK_ready {rs : List Nat} {n : Nat} {l : Array Bool} {a : Act} {w : World} (hr : Region.ready md ops l = rs) (hne : rs ≠ [])
    (h : AllReadyK P md ops Q S c n l a w rs) : wpAnyK P md ops Q S c (n + 1) l a w := ⟨fun h0 => absurd (hr ▸ h0) hne, hr ▸ h⟩
theorem wpAnyK_done {l : Array Bool} {a : Act} {w : World} (hr : Region.ready md ops l = []) (h : Q .normal a w) : ∀ n, wpAnyK P md ops Q S c n l a w
  | 0 => ⟨hr, h⟩
  | _ + 1 => ⟨fun _ => h, by rw [hr]; simp⟩
theorem wp_region_K {id : Nat} {a : Act} {w : World} (c : Nat) (hm : P.follows .mixedOrders = true) (hS : S w.drew)
    (h : S w.drew → wpAnyK P .any ops Q S c ops.size (Array.replicate ops.size false) a w.drew) : (Code.region id ops true).wp P Q a w :=
  wp_region_any hm (wpAny_of_K _ _ _ _ (h hS))
end
end Go.Proofs.YtbehkajfckadfaaDoor
/- The document's Total of layer 5. -/
namespace Go.Proofs.YtbehkajfckadfaaDoor
open Go.RowKit

set_option maxRecDepth 100000 in
set_option maxHeartbeats 1600000 in
theorem rktotal_any (lk : Int) (ia : Option Addr) (n ic : Nat) (oa : Option Addr) (m oc : Nat) (O : Nat → To) (w : World) (h : ToAt w oa m O) (hm : m ≤ 1000000) :
    Calls Tryd.prog 6 #[.agg (txv lk ia n ic oa m oc)] w fun e w' => e = .returned (.tuple #[.int .i64 (totV O m), .int .i64 (totE O m)]) ∧ Below w.heap.size w w' := by
  have HT := hidV h
  clear h
  unfold txv
  go_enter Tryd.func6, Tryd.ntmps6
  go_wp2_with (first | (refine wpList_boxN rfl _ _ rfl #[.int .i64 lk, .slice ia n ic, .slice oa m oc] rfl ?_; intro W0 N0) | fail)
  have HB0 := hidV N0.below
  have HC : Hid (∀ w', Below W0.heap.size W0 w' → w'.cell? ⟨w.heap.size, 2, none⟩ = some (.slice oa m oc)) := fun w' hb => by rw [cell_of_row _ _ 2 _ _ _ (heap_below hb N0.blk)]; rfl
  clear N0
  go_loopw [2, 3, 4, 5, 6] (fun rv ev sv iv _ wr => ∃ (i : Nat) (s : Int), i ≤ m ∧ rv = .int .i64 0 ∧ ev = .int .i64 0 ∧ iv = .int .i64 i ∧ sv = .int .i64 s ∧ totO O i = some s ∧ Below W0.heap.size W0 wr) (fun _ _ _ iv _ _ => m + 1 - (intOf iv).toNat)
  case atStart => exact ⟨0, 0, by omega, rfl, rfl, rfl, rfl, rfl, Below.refl _ _⟩
  case round =>
    obtain ⟨i, s, hi, rfl, rfl, rfl, rfl, hs, hb⟩ := hrel
    have hbd := totO_bd hs
    have HS : Hid (totO O i = some s) := hs
    have HB := hidV hb
    have c2 := HC.out wr hb
    clear hs hb
    by_cases hlt : i < m
    · have hlt' : (i : Int) < m := by omega
      obtain ⟨b, off, rfl, hc⟩ := HT.out.at_ (by omega)
      obtain ⟨ca, cc, hr0, _⟩ := hc i hlt
      have hr1 := range_below hr0 (Below.transS HB0.out HB.out)
      have c0 : wr.cell? ⟨b, off + i * 2, none⟩ = some (.int .i64 (O i).am) := by simpa using hr1 0 _ rfl
      clear hc hr0 hr1
      have HN : Hid (totO O (i + 1) = if 0 ≤ (O i).am ∧ (O i).am ≤ 1125899906842624 - s then some (s + (O i).am) else none) := by rw [totO, HS.out]; exact rfl
      generalize (O i).am = am at *
      by_cases h1 : am < 0
      · have HN2 : Hid (totO O m = none) := totO_stop (i := i + 1) (by rw [HN.out]; exact if_neg (by omega)) m (by omega)
        go_wp2
        go_ret2
        exact ⟨by simp [totV, totE, HN2.out], Below.transS HB0.out HB.out⟩
      · by_cases h2 : 1125899906842624 < am
        · have HN2 : Hid (totO O m = none) := totO_stop (i := i + 1) (by rw [HN.out]; exact if_neg (by omega)) m (by omega)
          go_wp2
          go_ret2
          exact ⟨by simp [totV, totE, HN2.out], Below.transS HB0.out HB.out⟩
        · have hwr : IntKind.i64.wrap (s + am) = s + am := by rw [IntKind.wrap_i64]; omega
          by_cases h3 : 1125899906842624 < s + am
          · have HN2 : Hid (totO O m = none) := totO_stop (i := i + 1) (by rw [HN.out]; exact if_neg (by omega)) m (by omega)
            go_wp2
            go_ret2
            exact ⟨by simp [totV, totE, HN2.out], Below.transS HB0.out HB.out⟩
          · have HN2 : Hid (totO O (i + 1) = some (s + am)) := by rw [HN.out]; exact if_pos (by omega)
            clear HN
            go_wp2
            go_roundw
            case rel => exact ⟨i + 1, s + am, by omega, rfl, rfl, by go_num, rfl, HN2.out, HB.out⟩
            case measure => simp [intOf]; omega
    · obtain rfl : i = m := by omega
      have hnn : ¬ ((i : Int) < i) := by omega
      go_wp2
      go_ret2
      exact ⟨by simp [totV, totE, HS.out], Below.transS HB0.out HB.out⟩
end Go.Proofs.YtbehkajfckadfaaDoor
/- TxTotals: the walk. -/
namespace Go.Proofs.YtbehkajfckadfaaDoor
open Go.RowKit

theorem tab_size (w : World) (h : Tab w) : 3 ≤ w.heap.size := by
  obtain ⟨⟨_, _, h1⟩, ⟨_, _, h2⟩⟩ := h
  have := lt_of_block h1
  have := lt_of_block h2
  omega
theorem szTxr : (Tryd.prog.info? 31).map (·.size) = some 3 := by kernel_rfl
theorem run_allocTxR (w : World) : (Instr.alloc 31 true (.tuple #[])).run Tryd.prog w = .ok (.pointer (some ⟨w.heap.size, 0, none⟩)) (w.alloc (.cells #[.int .i64 0, .slice none 0 0, .slice none 0 0] 31)) := by kernel_rfl
set_option maxRecDepth 100000 in
set_option maxHeartbeats 6400000 in
theorem ltotals_any (ad : Option Addr) (n cap : Nat) (z : Nat → Int) (w : World) (hg : Cd.Glob w) (hT : Tab w) (hI : Cd.IsAt w ad n z) :
    Calls Tryd.prog 3 #[.slice ad n cap] w fun e w' => e = .returned (.bool true) ∧ Below w.heap.size w w' := by
  have hpos := hg.pos
  have hgl := tab_size w hT
  have HI := hidV hI
  have HF : Hid (∀ w', Below w.heap.size w w' → Cd.Glob w' ∧ Tab w' ∧ 3 ≤ w'.heap.size) := fun w' hb => ⟨hg.below hb hpos, hT.frm (S := []) (Frm.ofBelow hb) (fun k hk => by cases hk), by have := hb.size; omega⟩
  clear hg hT hgl hI
  by_cases hl : 300 < n
  · have hl' : (300 : Int) < n := by omega
    go_enter Tryd.func3, Tryd.ntmps3
    go_wp2_with fail
    refine (sure_any w (HF.out w (Below.refl _ _)).1 (HF.out w (Below.refl _ _)).2.1 (HF.out w (Below.refl _ _)).2.2).mono ?_
    rintro e v3 ⟨rfl, hb3⟩
    have HE := hidV hb3
    clear hb3
    go_wp2
    go_ret
    exact ⟨rfl, HE.out⟩
  · have hl' : ¬ (300 : Int) < n := by omega
    have hn : n ≤ 300 := by omega
    clear hl
    go_enter Tryd.func3, Tryd.ntmps3
    go_wp2_with (first | (refine wpList_allocN 27 #[.int .i64 0, .slice none 0 0, .slice none 0 0] run_allocTx rfl rfl ?_; intro v1 N1) | (refine wpList_storeG 27 szTx rfl _ _ rfl w.heap.size rfl #[.int .i64 0, .slice none 0 0, .slice none 0 0] #[.int .i64 0, .slice none 0 0, .slice none 0 0] rfl rfl (by kernel_rfl) 27 rfl N1.blk ?_; intro v2 hg2 hf2) | (refine wpList_allocN 31 #[.int .i64 0, .slice none 0 0, .slice none 0 0] run_allocTxR rfl rfl ?_; intro v3 N3) | (refine wpList_storeG 31 szTxr rfl _ _ rfl v2.heap.size rfl #[.int .i64 0, .slice none 0 0, .slice none 0 0] #[.int .i64 0, .slice none 0 0, .slice none 0 0] rfl rfl (by kernel_rfl) 31 rfl N3.blk ?_; intro v4 hg4 hf4) | fail)
    have h0 : TtS w w.heap.size v2.heap.size v4 z 0 0 none 0 none 0 := by
      have a1 := N1.size
      have a2 := hf2.size
      have b2 : Below w.heap.size w v2 := N1.below.trans (hf2.below (by omega) (by simp))
      have b3 := Below.transS b2 N3.below
      refine ⟨?_, hg4, World.ownsRow_nil _ _ _ _, World.ownsRow_nil _ _ _ _, ⟨Nat.le_refl _, by omega⟩, b3.trans (hf4.below (by have := N3.size; omega) (by simp; omega))⟩
      rw [hf4.block _ (by have := N3.size; omega) (by simp; omega)]
      exact N3.old hg2
    clear hg2 hf2 hg4 hf4 N1 N3
    generalize v2.heap.size = B at *
    generalize v4 = wo at *
    go_wp2_with fail
    go_loopw [5] (fun iv wr => ∃ (i : Nat) (oa : Option Addr) (oc : Nat) (ra : Option Addr) (rc : Nat), i ≤ n ∧ iv = .int .i64 i ∧ TtS w w.heap.size B wr z i i oa oc ra rc) (fun iv _ => n + 1 - (intOf iv).toNat)
    case atStart => exact ⟨0, _, _, _, _, by omega, rfl, h0⟩
    case round =>
      clear h0
      obtain ⟨i, oa, oc, ra, rc, hi, rfl, hG⟩ := hrel
      have HG := hidV hG
      clear hG
      by_cases hlt : i < n
      · have hlt' : (i : Int) < n := by omega
        obtain ⟨b, off, rfl, hc⟩ := HI.out (by omega)
        have hzi := hc i hlt
        have hbl : b < w.heap.size := World.block_lt_of_cell? w ⟨b, _, none⟩ hzi
        clear hc
        have HL : Hid (∀ w' : World, (∀ k, k < B + 1 → w'.heap[k]? = wr.heap[k]?) → w'.cell? ⟨w.heap.size, 2, none⟩ = some (.slice oa i oc) ∧ w'.cell? ⟨b, off + i, none⟩ = some (.int .i64 (z i))) := fun w' hl => by
          have h1 := hl w.heap.size (by have := HG.out.lo; omega)
          rw [HG.out.box] at h1
          have h2 := hl b (by have := HG.out.lo; omega)
          exact ⟨by rw [cell_of_row _ _ 2 _ _ _ h1]; rfl, by rw [World.cell?_of_block (a := ⟨b, _, none⟩) h2]; rw [World.cell?_of_block (a := ⟨b, _, none⟩) (HG.out.below.block b hbl)]; exact hzi⟩
        have S00 := HL.out wr.drew (fun _ _ => rfl)
        have HK0 : Hid (∀ w', Below wr.heap.size wr w' → (fun w' => TtS w w.heap.size B w' z i i oa oc ra rc) w') := fun w' hb => HG.out.keep hb
        have hbig := HG.out.big
        go_wp2_with fail
        refine wp_region_noPanic ?_
        refine wp_region_K (S := fun w' => w'.cell? ⟨w.heap.size, 2, none⟩ = some (.slice oa i oc) ∧ w'.cell? ⟨b, off + i, none⟩ = some (.int .i64 (z i))) 10 (by kernel_rfl) S00 (fun hHeld => ?_)
        refine wpAnyK_take (by kernel_rfl) (i := 0) (oi := { dst := some 22, op := Go.Op.fieldAddr 27 (Go.Operand.tmp 3) 2, type := 0, pos := "law.go:143", after := #[], guard := none }) (v := ?_) rfl (by kernel_rfl) (by kernel_rfl) (by kernel_rfl) (fun _ _ _ h => h) (Or.inl ⟨by rfl, ?_⟩) (by assumption) ?_
        rotate_left
        · intro wz hSw; (try dsimp only at hSw); go_simp; (try with_reducible rfl)
        try simp only [Act.put, List.setIfInBounds_toArray, List.set_cons_zero, List.set_cons_succ]
        refine wpAnyK_take (by kernel_rfl) (i := 1) (oi := { dst := some 23, op := Go.Op.load 25 (Go.Operand.tmp 22), type := 25, pos := "law.go:143", after := #[{ on := 0, ground := Go.Ground.data }], guard := none }) (v := ?_) rfl (by kernel_rfl) (by kernel_rfl) (by kernel_rfl) (fun _ _ _ h => h) (Or.inl ⟨by rfl, ?_⟩) (by assumption) ?_
        rotate_left
        · intro wz hSw; (try dsimp only at hSw); go_simp; (try with_reducible rfl)
        try simp only [Act.put, List.setIfInBounds_toArray, List.set_cons_zero, List.set_cons_succ]
        refine wpAnyK_take (by kernel_rfl) (i := 2) (oi := { dst := some 24, op := Go.Op.move (Go.Operand.tmp 0), type := 22, pos := "law.go:143", after := #[], guard := none }) (v := ?_) rfl (by kernel_rfl) (by kernel_rfl) (by kernel_rfl) (fun _ _ _ h => h) (Or.inl ⟨by rfl, ?_⟩) (by assumption) ?_
        rotate_left
        · intro wz hSw; (try dsimp only at hSw); go_simp; (try with_reducible rfl)
        try simp only [Act.put, List.setIfInBounds_toArray, List.set_cons_zero, List.set_cons_succ]
        refine wpAnyK_take (by kernel_rfl) (i := 3) (oi := { dst := some 25, op := Go.Op.move (Go.Operand.tmp 5), type := 3, pos := "law.go:143", after := #[], guard := none }) (v := ?_) rfl (by kernel_rfl) (by kernel_rfl) (by kernel_rfl) (fun _ _ _ h => h) (Or.inl ⟨by rfl, ?_⟩) (by assumption) ?_
        rotate_left
        · intro wz hSw; (try dsimp only at hSw); go_simp; (try with_reducible rfl)
        try simp only [Act.put, List.setIfInBounds_toArray, List.set_cons_zero, List.set_cons_succ]
        refine wpAnyK_take (by kernel_rfl) (i := 4) (oi := { dst := some 26, op := Go.Op.indexAddr 22 (Go.Operand.tmp 24) (Go.Operand.tmp 25), type := 0, pos := "law.go:143", after := #[{ on := 2, ground := Go.Ground.data }, { on := 3, ground := Go.Ground.data }], guard := none }) (v := ?_) rfl (by kernel_rfl) (by kernel_rfl) (by kernel_rfl) (fun _ _ _ h => h) (Or.inl ⟨by rfl, ?_⟩) (by assumption) ?_
        rotate_left
        · intro wz hSw; (try dsimp only at hSw); go_simp; (try with_reducible rfl)
        try simp only [Act.put, List.setIfInBounds_toArray, List.set_cons_zero, List.set_cons_succ]
        refine wpAnyK_take (by kernel_rfl) (i := 5) (oi := { dst := some 27, op := Go.Op.load 3 (Go.Operand.tmp 26), type := 3, pos := "law.go:143", after := #[{ on := 4, ground := Go.Ground.data }], guard := none }) (v := ?_) rfl (by kernel_rfl) (by kernel_rfl) (by kernel_rfl) (fun _ _ _ h => h) (Or.inl ⟨by rfl, ?_⟩) (by assumption) ?_
        rotate_left
        · intro wz hSw; (try dsimp only at hSw); go_simp; (try with_reducible rfl)
        try simp only [Act.put, List.setIfInBounds_toArray, List.set_cons_zero, List.set_cons_succ]
        refine wpAnyK_take (by kernel_rfl) (i := 6) (oi := { dst := some 28, op := Go.Op.build 36 #[(0, Go.Operand.tmp 27)], type := 36, pos := "law.go:143", after := #[{ on := 5, ground := Go.Ground.data }], guard := none }) (v := .agg #[.int .i64 (z i), .slice none 0 0]) rfl (by kernel_rfl) (by kernel_rfl) (by kernel_rfl) (fun _ _ _ h => h) (Or.inl ⟨by rfl, ?_⟩) (by assumption) ?_
        · intro wz hSw; (try dsimp only at hSw); kernel_rfl
        try simp only [Act.put, List.setIfInBounds_toArray, List.set_cons_zero, List.set_cons_succ]
        refine wpAnyK_ready (rs := [7]) (by kernel_rfl) (by simp) ?_
        refine (AllReadyK.cons (o := { dst := some 29, op := Go.Op.buildSlice 25 1 #[(0, Go.Operand.tmp 28)], type := 25, pos := "law.go:143", after := #[{ on := 6, ground := Go.Ground.data }], guard := none }) rfl (fun K hK => ?_) AllReadyK.nil)
        refine step_sliceTo rfl (.tmp 28) rfl (z i) none 0 0 (by rfl) ?_
        intro g w2 hg2 hl2 hb2
        have hb2' : Below wr.heap.size wr w2 := (Below.refl _ wr).drew.trans hb2
        have S2 := HL.out w2 (fun k hk => hb2'.block k (by omega))
        have HG2 := hidV (And.intro (HK0.out _ hb2') hg2)
        clear hg2 hl2 hb2
        refine hK.out _ _ (fun _ => S2) (fun _ => ?_)
        clear hK K
        try simp only [Act.put, List.setIfInBounds_toArray, List.set_cons_zero, List.set_cons_succ]
        refine wpAnyK_ready (rs := [8]) (by kernel_rfl) (by simp) ?_
        refine (AllReadyK.cons (o := { dst := some 30, op := Go.Op.call { callee := Go.Callee.builtin Go.Builtin.append, args := #[Go.Operand.tmp 23, Go.Operand.tmp 29], argTypes := #[25, 25] }, type := 25, pos := "law.go:143", after := #[{ on := 1, ground := Go.Ground.data }, { on := 7, ground := Go.Ground.data }], guard := none }) rfl (fun K hK => ?_) AllReadyK.nil)
        refine step_append_To rfl (.tmp 23) (.tmp 29) rfl (B + 1) g (.slice oa i oc) i (flatL (outsV z) i) (z i) none 0 0 (by rfl) (by rfl) HG2.out.1.own HG2.out.1.big HG2.out.2 (by omega) ?_
        intro va vc w3 hown hgrow hloc
        have hlo := grown_low HG2.out.1.own hgrow HG2.out.1.big
        have S3 := HL.out w3 (fun k hk => by rw [hlo k hk]; exact hb2'.block k (by omega))
        have HN : Hid (TtS w w.heap.size B (w3.setCell ⟨w.heap.size, 2, none⟩ (.slice va (i + 1) vc)) z (i + 1) i va vc ra rc) := HG2.out.1.pushO hown hgrow
        have hx3 := (hlo w.heap.size (by have := HG.out.lo; omega)).trans HG2.out.1.box
        have f3 : ∀ o, w3.frozen? ⟨w.heap.size, o, none⟩ = false := fun o => frozen_of_row _ _ o _ _ hx3
        refine hK.out _ _ (fun _ => S3) (fun _ => ?_)
        clear hK K hown hgrow hlo HG HG2 HL S00 S2 hx3 HK0 hb2' hbig hloc
        try simp only [Act.put, List.setIfInBounds_toArray, List.set_cons_zero, List.set_cons_succ]
        refine wpAnyK_take (by kernel_rfl) (i := 9) (oi := { dst := some 31, op := Go.Op.fieldAddr 27 (Go.Operand.tmp 3) 2, type := 0, pos := "law.go:143", after := #[{ on := 0, ground := Go.Ground.phase }, { on := 1, ground := Go.Ground.phase }, { on := 2, ground := Go.Ground.phase }, { on := 3, ground := Go.Ground.phase }, { on := 4, ground := Go.Ground.phase }, { on := 5, ground := Go.Ground.phase }, { on := 6, ground := Go.Ground.phase }, { on := 7, ground := Go.Ground.phase }, { on := 8, ground := Go.Ground.phase }], guard := none }) (v := ?_) rfl (by kernel_rfl) (by kernel_rfl) (by kernel_rfl) (fun _ _ _ h => h) (Or.inl ⟨by rfl, ?_⟩) (by assumption) ?_
        rotate_left
        · intro wz hSw; (try dsimp only at hSw); go_simp; (try with_reducible rfl)
        try simp only [Act.put, List.setIfInBounds_toArray, List.set_cons_zero, List.set_cons_succ]
        obtain ⟨g1, _⟩ := S3
        refine wpAnyK_ready (rs := [10]) (by kernel_rfl) (by simp) ?_
        refine (AllReadyK.cons (o := { dst := none, op := Go.Op.store 25 (Go.Operand.tmp 31) (Go.Operand.tmp 30), type := 0, pos := "law.go:143", after := #[{ on := 9, ground := Go.Ground.data }, { on := 8, ground := Go.Ground.data }, { on := 8, ground := Go.Ground.chain }, { on := 0, ground := Go.Ground.phase }, { on := 1, ground := Go.Ground.phase }, { on := 2, ground := Go.Ground.phase }, { on := 3, ground := Go.Ground.phase }, { on := 4, ground := Go.Ground.phase }, { on := 5, ground := Go.Ground.phase }, { on := 6, ground := Go.Ground.phase }, { on := 7, ground := Go.Ground.phase }, { on := 8, ground := Go.Ground.phase }], guard := none }) rfl (fun K hK => ?_) AllReadyK.nil)
        go_simp
        refine hK.out _ _ (fun h => absurd rfl h) (fun _ => ?_)
        clear hK K
        refine wpAnyK_done (by kernel_rfl) (NoPanic.normal ?_) _
        try simp only [Act.put, List.setIfInBounds_toArray, List.set_cons_zero, List.set_cons_succ]
        clear hHeld g1 f3
        generalize w3.setCell ⟨w.heap.size, 2, none⟩ (.slice va (i + 1) vc) = w4 at *
        have HG := hidV HN.out
        clear HN
        have HL : Hid (∀ w' : World, (∀ k, k < B + 1 → w'.heap[k]? = w4.heap[k]?) → w'.cell? ⟨B, 2, none⟩ = some (.slice ra i rc) ∧ w'.cell? ⟨b, off + i, none⟩ = some (.int .i64 (z i))) := fun w' hl => by
          have h1 := hl B (by have := HG.out.lo; omega)
          rw [HG.out.bor] at h1
          have h2 := hl b (by have := HG.out.lo; omega)
          exact ⟨by rw [cell_of_row _ _ 2 _ _ _ h1]; rfl, by rw [World.cell?_of_block (a := ⟨b, _, none⟩) h2]; rw [World.cell?_of_block (a := ⟨b, _, none⟩) (HG.out.below.block b hbl)]; exact hzi⟩
        have S00 := HL.out w4.drew (fun _ _ => rfl)
        have HK0 : Hid (∀ w', Below w4.heap.size w4 w' → (fun w' => TtS w w.heap.size B w' z (i + 1) i va vc ra rc) w') := fun w' hb => HG.out.keep hb
        have hbig := HG.out.big
        go_wp2_with fail
        refine wp_region_noPanic ?_
        refine wp_region_K (S := fun w' => w'.cell? ⟨B, 2, none⟩ = some (.slice ra i rc) ∧ w'.cell? ⟨b, off + i, none⟩ = some (.int .i64 (z i))) 10 (by kernel_rfl) S00 (fun hHeld => ?_)
        refine wpAnyK_take (by kernel_rfl) (i := 0) (oi := { dst := some 32, op := Go.Op.fieldAddr 31 (Go.Operand.tmp 4) 2, type := 0, pos := "law.go:144", after := #[], guard := none }) (v := ?_) rfl (by kernel_rfl) (by kernel_rfl) (by kernel_rfl) (fun _ _ _ h => h) (Or.inl ⟨by rfl, ?_⟩) (by assumption) ?_
        rotate_left
        · intro wz hSw; (try dsimp only at hSw); go_simp; (try with_reducible rfl)
        try simp only [Act.put, List.setIfInBounds_toArray, List.set_cons_zero, List.set_cons_succ]
        refine wpAnyK_take (by kernel_rfl) (i := 1) (oi := { dst := some 33, op := Go.Op.load 29 (Go.Operand.tmp 32), type := 29, pos := "law.go:144", after := #[{ on := 0, ground := Go.Ground.data }], guard := none }) (v := ?_) rfl (by kernel_rfl) (by kernel_rfl) (by kernel_rfl) (fun _ _ _ h => h) (Or.inl ⟨by rfl, ?_⟩) (by assumption) ?_
        rotate_left
        · intro wz hSw; (try dsimp only at hSw); go_simp; (try with_reducible rfl)
        try simp only [Act.put, List.setIfInBounds_toArray, List.set_cons_zero, List.set_cons_succ]
        refine wpAnyK_take (by kernel_rfl) (i := 2) (oi := { dst := some 34, op := Go.Op.move (Go.Operand.tmp 0), type := 22, pos := "law.go:144", after := #[], guard := none }) (v := ?_) rfl (by kernel_rfl) (by kernel_rfl) (by kernel_rfl) (fun _ _ _ h => h) (Or.inl ⟨by rfl, ?_⟩) (by assumption) ?_
        rotate_left
        · intro wz hSw; (try dsimp only at hSw); go_simp; (try with_reducible rfl)
        try simp only [Act.put, List.setIfInBounds_toArray, List.set_cons_zero, List.set_cons_succ]
        refine wpAnyK_take (by kernel_rfl) (i := 3) (oi := { dst := some 35, op := Go.Op.move (Go.Operand.tmp 5), type := 3, pos := "law.go:144", after := #[], guard := none }) (v := ?_) rfl (by kernel_rfl) (by kernel_rfl) (by kernel_rfl) (fun _ _ _ h => h) (Or.inl ⟨by rfl, ?_⟩) (by assumption) ?_
        rotate_left
        · intro wz hSw; (try dsimp only at hSw); go_simp; (try with_reducible rfl)
        try simp only [Act.put, List.setIfInBounds_toArray, List.set_cons_zero, List.set_cons_succ]
        refine wpAnyK_take (by kernel_rfl) (i := 4) (oi := { dst := some 36, op := Go.Op.indexAddr 22 (Go.Operand.tmp 34) (Go.Operand.tmp 35), type := 0, pos := "law.go:144", after := #[{ on := 2, ground := Go.Ground.data }, { on := 3, ground := Go.Ground.data }], guard := none }) (v := ?_) rfl (by kernel_rfl) (by kernel_rfl) (by kernel_rfl) (fun _ _ _ h => h) (Or.inl ⟨by rfl, ?_⟩) (by assumption) ?_
        rotate_left
        · intro wz hSw; (try dsimp only at hSw); go_simp; (try with_reducible rfl)
        try simp only [Act.put, List.setIfInBounds_toArray, List.set_cons_zero, List.set_cons_succ]
        refine wpAnyK_take (by kernel_rfl) (i := 5) (oi := { dst := some 37, op := Go.Op.load 3 (Go.Operand.tmp 36), type := 3, pos := "law.go:144", after := #[{ on := 4, ground := Go.Ground.data }], guard := none }) (v := ?_) rfl (by kernel_rfl) (by kernel_rfl) (by kernel_rfl) (fun _ _ _ h => h) (Or.inl ⟨by rfl, ?_⟩) (by assumption) ?_
        rotate_left
        · intro wz hSw; (try dsimp only at hSw); go_simp; (try with_reducible rfl)
        try simp only [Act.put, List.setIfInBounds_toArray, List.set_cons_zero, List.set_cons_succ]
        refine wpAnyK_take (by kernel_rfl) (i := 6) (oi := { dst := some 38, op := Go.Op.build 41 #[(0, Go.Operand.tmp 37)], type := 41, pos := "law.go:144", after := #[{ on := 5, ground := Go.Ground.data }], guard := none }) (v := .agg #[.int .i64 (z i), .slice none 0 0]) rfl (by kernel_rfl) (by kernel_rfl) (by kernel_rfl) (fun _ _ _ h => h) (Or.inl ⟨by rfl, ?_⟩) (by assumption) ?_
        · intro wz hSw; (try dsimp only at hSw); kernel_rfl
        try simp only [Act.put, List.setIfInBounds_toArray, List.set_cons_zero, List.set_cons_succ]
        refine wpAnyK_ready (rs := [7]) (by kernel_rfl) (by simp) ?_
        refine (AllReadyK.cons (o := { dst := some 39, op := Go.Op.buildSlice 29 1 #[(0, Go.Operand.tmp 38)], type := 29, pos := "law.go:144", after := #[{ on := 6, ground := Go.Ground.data }], guard := none }) rfl (fun K hK => ?_) AllReadyK.nil)
        refine step_sliceToR rfl (.tmp 38) rfl (z i) none 0 0 (by rfl) ?_
        intro g w2 hg2 hl2 hb2
        have hb2' : Below w4.heap.size w4 w2 := (Below.refl _ w4).drew.trans hb2
        have S2 := HL.out w2 (fun k hk => hb2'.block k (by omega))
        have HG2 := hidV (And.intro (HK0.out _ hb2') hg2)
        clear hg2 hl2 hb2
        refine hK.out _ _ (fun _ => S2) (fun _ => ?_)
        clear hK K
        try simp only [Act.put, List.setIfInBounds_toArray, List.set_cons_zero, List.set_cons_succ]
        refine wpAnyK_ready (rs := [8]) (by kernel_rfl) (by simp) ?_
        refine (AllReadyK.cons (o := { dst := some 40, op := Go.Op.call { callee := Go.Callee.builtin Go.Builtin.append, args := #[Go.Operand.tmp 33, Go.Operand.tmp 39], argTypes := #[29, 29] }, type := 29, pos := "law.go:144", after := #[{ on := 1, ground := Go.Ground.data }, { on := 7, ground := Go.Ground.data }], guard := none }) rfl (fun K hK => ?_) AllReadyK.nil)
        refine step_append_ToR rfl (.tmp 33) (.tmp 39) rfl (B + 1) g (.slice ra i rc) i (flatL (outsV z) i) (z i) none 0 0 (by rfl) (by rfl) HG2.out.1.owr HG2.out.1.big HG2.out.2 (by omega) ?_
        intro va' vc' w3 hown hgrow
        have hlo := grown_low HG2.out.1.owr hgrow HG2.out.1.big
        have S3 := HL.out w3 (fun k hk => by rw [hlo k hk]; exact hb2'.block k (by omega))
        have HN : Hid (TtS w w.heap.size B (w3.setCell ⟨B, 2, none⟩ (.slice va' (i + 1) vc')) z (i + 1) (i + 1) va vc va' vc') := HG2.out.1.pushR hown hgrow
        have hx3 := (hlo B (by have := HG.out.lo; omega)).trans HG2.out.1.bor
        have f3 : ∀ o, w3.frozen? ⟨B, o, none⟩ = false := fun o => frozen_of_row _ _ o _ _ hx3
        refine hK.out _ _ (fun _ => S3) (fun _ => ?_)
        clear hK K hown hgrow hlo HG HG2 HL S00 S2 hx3 HK0 hb2' hbig
        try simp only [Act.put, List.setIfInBounds_toArray, List.set_cons_zero, List.set_cons_succ]
        refine wpAnyK_take (by kernel_rfl) (i := 9) (oi := { dst := some 41, op := Go.Op.fieldAddr 31 (Go.Operand.tmp 4) 2, type := 0, pos := "law.go:144", after := #[{ on := 0, ground := Go.Ground.phase }, { on := 1, ground := Go.Ground.phase }, { on := 2, ground := Go.Ground.phase }, { on := 3, ground := Go.Ground.phase }, { on := 4, ground := Go.Ground.phase }, { on := 5, ground := Go.Ground.phase }, { on := 6, ground := Go.Ground.phase }, { on := 7, ground := Go.Ground.phase }, { on := 8, ground := Go.Ground.phase }], guard := none }) (v := ?_) rfl (by kernel_rfl) (by kernel_rfl) (by kernel_rfl) (fun _ _ _ h => h) (Or.inl ⟨by rfl, ?_⟩) (by assumption) ?_
        rotate_left
        · intro wz hSw; (try dsimp only at hSw); go_simp; (try with_reducible rfl)
        try simp only [Act.put, List.setIfInBounds_toArray, List.set_cons_zero, List.set_cons_succ]
        obtain ⟨g1, _⟩ := S3
        refine wpAnyK_ready (rs := [10]) (by kernel_rfl) (by simp) ?_
        refine (AllReadyK.cons (o := { dst := none, op := Go.Op.store 29 (Go.Operand.tmp 41) (Go.Operand.tmp 40), type := 0, pos := "law.go:144", after := #[{ on := 9, ground := Go.Ground.data }, { on := 8, ground := Go.Ground.data }, { on := 8, ground := Go.Ground.chain }, { on := 0, ground := Go.Ground.phase }, { on := 1, ground := Go.Ground.phase }, { on := 2, ground := Go.Ground.phase }, { on := 3, ground := Go.Ground.phase }, { on := 4, ground := Go.Ground.phase }, { on := 5, ground := Go.Ground.phase }, { on := 6, ground := Go.Ground.phase }, { on := 7, ground := Go.Ground.phase }, { on := 8, ground := Go.Ground.phase }], guard := none }) rfl (fun K hK => ?_) AllReadyK.nil)
        go_simp
        refine hK.out _ _ (fun h => absurd rfl h) (fun _ => ?_)
        clear hK K
        refine wpAnyK_done (by kernel_rfl) (NoPanic.normal ?_) _
        try simp only [Act.put, List.setIfInBounds_toArray, List.set_cons_zero, List.set_cons_succ]
        clear hHeld g1 f3
        go_wp2
        go_roundw
        case rel => exact ⟨i + 1, _, _, _, _, by omega, by go_num, HN.out⟩
        case measure => simp [intOf]; omega
      · obtain rfl : i = n := by omega
        have hnn : ¬ ((i : Int) < i) := by omega
        have HR1 := hidV (txl_range HG.out.box)
        go_wp2_with (first | (refine wpList_load_mid rfl 27 _ rfl w.heap.size 0 rfl (txl 0 none 0 0 oa i oc) _ HR1.out Tryd.underlying27 rfl szTx ?_) | fail)
        refine (ktotal_any 0 none 0 0 oa i oc (oZ z) wr HG.out.ou (by omega)).mono ?_
        rintro e v5 ⟨rfl, hb5⟩
        have HG5 := hidV (HG.out.keep hb5)
        have HR2 := hidV (txl_range HG5.out.bor)
        clear hb5 HG HR1
        go_wp2_with (first | (refine wpList_load_mid rfl 31 _ rfl B 0 rfl (txl 0 none 0 0 ra i rc) _ HR2.out Tryd.underlying31 rfl szTxr ?_) | fail)
        refine (rktotal_any 0 none 0 0 ra i rc (oZ z) v5 HG5.out.our (by omega)).mono ?_
        rintro e v6 ⟨rfl, hb6⟩
        have HB6 := hidV (Below.transS HG5.out.below hb6)
        clear hb6 HG5 HR2
        generalize totV (oZ z) i = tv at *
        generalize totE (oZ z) i = te at *
        go_wp2_with fail
        refine (Cd.num_any te v6 (HF.out v6 HB6.out).1).mono ?_
        rintro e v7 ⟨rfl, hb7⟩
        have HB7 := hidV (Below.transS HB6.out hb7)
        clear hb7 HB6
        go_wp2_with fail
        refine (sure_any v7 (HF.out v7 HB7.out).1 (HF.out v7 HB7.out).2.1 (HF.out v7 HB7.out).2.2).mono ?_
        rintro e v8 ⟨rfl, hb8⟩
        have HB8 := hidV (Below.transS HB7.out hb8)
        clear hb8 HB7
        go_wp2
        go_ret
        exact ⟨rfl, HB8.out⟩
end Go.Proofs.YtbehkajfckadfaaDoor
