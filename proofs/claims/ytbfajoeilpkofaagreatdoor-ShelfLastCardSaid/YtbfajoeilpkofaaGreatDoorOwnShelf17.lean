/- Start; a new store. -/
import Derived.Test.YtbfajoeilpkofaaGreatDoorOwnShelf16
import Derived.Laws.MakeOwn
namespace Go.Proofs.YtbfajoeilpkofaaGreatDoor
open Go.RowKit

attribute [local go_sem ↓] Go.wp_at_zero Go.wp_at_succ

/-- Numbers that lie somewhere. -/
def IsL (w : World) (ad : Option Addr) (ks : List Int) : Prop := 0 < ks.length → ∃ b off, ad = some ⟨b, off, none⟩ ∧ ∀ j x, ks[j]? = some x → w.cell? ⟨b, off + j, none⟩ = some (.int .i64 x)
theorem IsL.keep {w w' : World} {ad : Option Addr} {ks : List Int} (h : IsL w ad ks) (hk : ∀ a, ad = some a → 0 < ks.length → w'.heap[a.block]? = w.heap[a.block]?) : IsL w' ad ks := fun hn => by
  obtain ⟨b, off, rfl, hc⟩ := h hn
  exact ⟨b, off, rfl, fun j x hx => by rw [World.cell?_of_block (a := ⟨b, off + j, none⟩) (hk ⟨b, off, none⟩ rfl hn)]; exact hc j x hx⟩
theorem IsL.lt {w : World} {ad : Option Addr} {ks : List Int} (h : IsL w ad ks) {a : Addr} (e : ad = some a) (hn : 0 < ks.length) : a.block < w.heap.size := by
  obtain ⟨b, off, rfl, hc⟩ := h hn
  cases e
  exact World.block_lt_of_cell? w _ (hc 0 _ (List.getElem?_eq_getElem hn))
/-- What was told, as cells. -/
def tl (T : Nat → Bool) (n : Nat) : List Value := (List.range n).map fun j => .bool (T j)
theorem tl_length (T : Nat → Bool) (n : Nat) : (tl T n).length = n := by simp [tl]
theorem tl_at {T : Nat → Bool} {n j : Nat} (h : j < n) : (tl T n)[j]? = some (.bool (T j)) := by simp [tl, h]
def toldK (ks : List Int) (j : Nat) : Bool := ks.contains (j : Int)
theorem Tryz.infoBool : (Tryz.prog.info? 4).map (fun i => (i.zero, i.size, i.bytes)) = some (some (.bool false), 1, 1) := by kernel_rfl
theorem make_told (n : Nat) (hn : n ≤ 1000000) (w : World) : (Instr.makeSlice 120 (.int .i64 (n : Int)) (.int .i64 (n : Int))).run Tryz.prog w = .ok (.slice (some ⟨w.heap.size, 0, none⟩) n n) (w.alloc (.cells (tl (toldK []) n).toArray 4)) := by
  obtain ⟨i0, hi0, hz0, hz1, hz2⟩ := info_parts Tryz.infoBool
  have h := run_make (P := Tryz.prog) w 120 4 i0 (.bool false) Tryz.underlying120 hi0 hz0 .i64 .i64 (n : Int) (n : Int) (by omega) (Int.le_refl _) (by rw [hz2]; omega) (by omega)
  have e : madeCells (Value.bool false).cells n = (tl (toldK []) n).toArray := by
    apply Array.toList_inj.1
    simp only [madeCells, tl]
    apply List.ext_getElem
    · simp
    · intro j h1 h2
      simp [toldK, Value.cells, Nat.mod_one]
  rw [h]
  simp only [Int.toNat_natCast, hz1, Nat.mul_one, e]
theorem told1_any (ta tb n i : Nat) (T : Nat → Bool) (w : World) (ha : w.heap[ta]? = some (.cells #[.slice (some ⟨tb, 0, none⟩) n n] 120 (0, 0))) (hb : w.heap[tb]? = some (.cells (tl T n).toArray 4 (0, 0))) (hi : i < n) :
    Calls Tryz.prog 58 #[.int .i64 (i : Int), .pointer (some ⟨ta, 0, none⟩)] w fun e w' => e = .returned (.bool (T i)) ∧ w' = w := by
  have c0 : w.cell? ⟨ta, 0, none⟩ = some (.slice (some ⟨tb, 0, none⟩) n n) := by rw [cell_of_row w ta 0 _ _ _ ha]; rfl
  have c1 : w.cell? ⟨tb, i, none⟩ = some (.bool (T i)) := by rw [cell_of_row w tb i _ _ _ hb]; simpa using tl_at hi
  have hi' : (i : Int) < n := by omega
  go_enter Tryz.func58, Tryz.ntmps58
  go_wp2
  go_ret
  exact ⟨rfl, rfl⟩
def St.started (S : St) (K : Nat → Bool) : St := { S.settled K with armed := false, down := false }
/-- What is left when it begins again. -/
def StaR (p q : Nat) (lo : Value) (F : Nat → Prop) (S : St) (K : Nat → Bool) (w : World) (e : Ending) (w' : World) : Prop :=
  e = .returned (.tuple #[]) ∧ St0 w' p q (cut0 lo) F (S.started K) ∧ Fr (Mine p q lo F) w w'
/-- Behind i numbers. -/
structure TolI (tb n : Nat) (ks : List Int) (w wr : World) (i : Nat) : Prop where
  at_ : wr.heap[tb]? = some (.cells (tl (toldK (ks.take i)) n).toArray 4 (0, 0))
  frm : Frm [tb] w wr
theorem toldK_skip {ks : List Int} {i : Nat} {x : Int} (hx : ks[i]? = some x) {n : Nat} (h : ¬ (0 ≤ x ∧ x < n)) : tl (toldK (ks.take (i + 1))) n = tl (toldK (ks.take i)) n := by
  unfold tl
  apply List.map_congr_left
  intro j hj
  have hj : j < n := by simpa using hj
  rw [List.take_add_one, hx]
  simp [toldK]
  omega
theorem toldK_set {ks : List Int} {i m : Nat} (hx : ks[i]? = some (m : Int)) {n : Nat} : (tl (toldK (ks.take i)) n).set m (.bool true) = tl (toldK (ks.take (i + 1))) n := by
  unfold tl
  apply List.ext_getElem
  · simp
  · intro j h1 h2
    rw [List.getElem_set]
    simp only [List.getElem_map, List.getElem_range]
    rw [List.take_add_one, hx]
    by_cases e : m = j
    · subst e; simp [toldK]
    · have e' : ¬ (j : Int) = (m : Int) := by omega
      simp [toldK, e, e']
theorem TolI.skip {tb n : Nat} {ks : List Int} {w wr : World} {i : Nat} (h : TolI tb n ks w wr i) {x : Int} (hx : ks[i]? = some x) (hb : ¬ (0 ≤ x ∧ x < n)) : TolI tb n ks w wr (i + 1) := ⟨by rw [toldK_skip hx hb]; exact h.at_, h.frm⟩
theorem TolI.set {tb n m : Nat} {ks : List Int} {w wr : World} {i : Nat} (h : TolI tb n ks w wr i) (hx : ks[i]? = some (m : Int)) : TolI tb n ks w (wr.setCell ⟨tb, m, none⟩ (.bool true)) (i + 1) := by
  refine ⟨?_, h.frm.setCell _ _ (by simp)⟩
  rw [heap_setCell_same _ tb m _ _ _ h.at_, ← toldK_set hx]
  congr 2
  apply Array.toList_inj.1
  simp
set_option maxRecDepth 100000 in
set_option maxHeartbeats 1600000 in
theorem start_any (p q : Nat) (lo : Value) (F : Nat → Prop) (S : St) (ad : Option Addr) (cap : Nat) (ks : List Int) (w : World) (h : St0 w p q lo F S) (hk : IsL w ad ks) (hks : ks.length ≤ 140737488355328) :
    Calls Tryz.prog 28 #[.pointer (some ⟨p, 0, none⟩), .slice ad ks.length cap] w (StaR p q lo F S (toldK ks) w) := by
  have h1 := h.c1
  obtain ⟨lad, lcap, rfl⟩ := h.lform
  have lp := h.lt (k := p) (.inl rfl)
  have hfew := h.few
  have km := make_told S.loose.length hfew w
  obtain ⟨W0, hW0⟩ : ∃ W0, (w.alloc (.cells (tl (toldK []) S.loose.length).toArray 4)).alloc (.cells #[.slice (some ⟨w.heap.size, 0, none⟩) S.loose.length S.loose.length] 120) = W0 := ⟨_, rfl⟩
  have hb0 : Below w.heap.size w W0 := by rw [← hW0]; exact ((Below.refl _ w).alloc (Nat.le_refl _) _).alloc (by simp) _
  have hs0 : W0.heap.size = w.heap.size + 2 := by rw [← hW0]; simp
  have h0 : St0 W0 p q (.slice lad S.loose.length lcap) F S := h.below hb0
  have ta0 : W0.heap[w.heap.size + 1]? = some (.cells #[.slice (some ⟨w.heap.size, 0, none⟩) S.loose.length S.loose.length] 120 (0, 0)) := by
    rw [← hW0]
    have := heap_alloc_new (w.alloc (.cells (tl (toldK []) S.loose.length).toArray 4)) (.cells #[.slice (some ⟨w.heap.size, 0, none⟩) S.loose.length S.loose.length] 120)
    simpa using this
  have tb0 : W0.heap[w.heap.size]? = some (.cells (tl (toldK []) S.loose.length).toArray 4 (0, 0)) := by
    rw [← hW0, Below.heap_alloc _ _ _ (by simp)]
    exact heap_alloc_new w _
  have HI0 : TolI w.heap.size S.loose.length ks W0 W0 0 := ⟨by simpa using tb0, Frm.refl _ _⟩
  have hkL : IsL W0 ad ks := hk.keep fun a e hn => hb0.block _ (hk.lt e hn)
  have hkb : ∀ a, ad = some a → 0 < ks.length → a.block < w.heap.size := fun a e hn => hk.lt e hn
  have ca : ∀ wr, Frm [w.heap.size] W0 wr → wr.cell? ⟨w.heap.size + 1, 0, none⟩ = some (.slice (some ⟨w.heap.size, 0, none⟩) S.loose.length S.loose.length) := fun wr hf => by
    have : wr.heap[w.heap.size + 1]? = _ := (hf.block (w.heap.size + 1) (by omega) (by simp)).trans ta0
    rw [cell_of_row wr _ 0 _ _ _ this]; rfl
  have H0 : Hid (St0 W0 p q (.slice lad S.loose.length lcap) F S) := h0
  have HF : Hid (Fr (Mine p q (.slice lad S.loose.length lcap) F) w W0) := Fr.ofBelow hb0
  have HB : Hid (∀ k, Mine p q (.slice lad S.loose.length lcap) F k → k < w.heap.size) := fun k hk => h.lt hk
  have HTA : Hid (W0.heap[w.heap.size + 1]? = some (.cells #[.slice (some ⟨w.heap.size, 0, none⟩) S.loose.length S.loose.length] 120 (0, 0))) := ta0
  have HKL : Hid (IsL W0 ad ks) := hkL
  clear h h0 ta0 tb0 hk hkL hb0
  go_enter Tryz.func28, Tryz.ntmps28
  go_wp2
  clear hW0 km h1
  go_loopw [6, 17] (fun nv iv wr => ∃ i : Nat, i ≤ ks.length ∧ iv = .int .i64 i ∧ TolI w.heap.size S.loose.length ks W0 wr i) (fun _ iv _ => ks.length + 1 - (intOf iv).toNat)
  case atStart => exact ⟨0, by omega, rfl, HI0⟩
  case round =>
    clear HI0
    obtain ⟨i, hi, rfl, hI⟩ := hrel
    have cA := ca wr hI.frm
    clear ca
    by_cases hlt : i < ks.length
    · obtain ⟨b, off, rfl, hc⟩ := HKL.out (by omega)
      obtain ⟨x, hx⟩ : ∃ x, ks[i]? = some x := ⟨_, List.getElem?_eq_getElem hlt⟩
      have hbb := hkb _ rfl (by omega)
      have hci : wr.cell? ⟨b, off + i, none⟩ = some (.int .i64 x) := by
        rw [World.cell?_of_block (a := ⟨b, off + i, none⟩) (hI.frm.block b (by simp at hbb; omega) (by simp at hbb ⊢; omega))]; exact hc i x hx
      have hlt' : (i : Int) < ks.length := by omega
      clear hc hkb hbb
      by_cases hb : 0 ≤ x ∧ x < S.loose.length
      · obtain ⟨m, rfl⟩ : ∃ m : Nat, x = m := ⟨x.toNat, by omega⟩
        have hb2 : (m : Int) < S.loose.length := hb.2
        have hb1 : (0 : Int) ≤ m := hb.1
        have cB : ∃ u, wr.cell? ⟨w.heap.size, m, none⟩ = some u := ⟨_, by rw [cell_of_row wr _ m _ _ _ hI.at_]; simpa using tl_at (by omega)⟩
        obtain ⟨u, cB⟩ := cB
        have fB : wr.frozen? ⟨w.heap.size, m, none⟩ = false := frozen_of_row wr _ m _ _ hI.at_
        have HN : Hid (TolI w.heap.size S.loose.length ks W0 (wr.setCell ⟨w.heap.size, m, none⟩ (.bool true)) (i + 1)) := hI.set hx
        clear hI hb hx
        go_wp2
        go_roundw
        case rel => exact ⟨i + 1, by omega, by go_num, HN.out⟩
        case measure => simp [intOf]; omega
      · have HN : Hid (TolI w.heap.size S.loose.length ks W0 wr (i + 1)) := hI.skip hx hb
        clear hI hx
        by_cases h0 : 0 ≤ x
        · have h1 : ¬ x < S.loose.length := fun h => hb ⟨h0, h⟩
          clear hb
          go_wp2
          go_roundw
          case rel => exact ⟨i + 1, by omega, by go_num, HN.out⟩
          case measure => simp [intOf]; omega
        · clear hb
          go_wp2
          go_roundw
          case rel => exact ⟨i + 1, by omega, by go_num, HN.out⟩
          case measure => simp [intOf]; omega
    · obtain rfl : i = ks.length := by omega
      have hnn : ¬ ((ks.length : Int) < ks.length) := by omega
      have hfr := hI.frm
      have hat : wr.heap[w.heap.size]? = some (.cells (tl (toldK ks) S.loose.length).toArray 4 (0, 0)) := by have := hI.at_; rwa [List.take_length] at this
      have hta : wr.heap[w.heap.size + 1]? = some (.cells #[.slice (some ⟨w.heap.size, 0, none⟩) S.loose.length S.loose.length] 120 (0, 0)) := (hfr.block (w.heap.size + 1) (by omega) (by simp)).trans HTA.out
      have hSr : St0 wr p q (.slice lad S.loose.length lcap) F S := H0.out.keep hfr.size fun k hk => hfr.block k (by have := HB.out k hk; omega) (by have := HB.out k hk; simp; omega)
      have hse := settle_any p q _ F S 58 #[.pointer (some ⟨w.heap.size + 1, 0, none⟩)] (toldK ks) [w.heap.size + 1, w.heap.size] wr hSr (enters_of Tryz.func58 (by kernel_rfl) rfl)
        (fun W i hi hT => told1_any (w.heap.size + 1) w.heap.size S.loose.length i (toldK ks) W ((hT _ (by simp)).trans hta) ((hT _ (by simp)).trans hat) hi)
        (fun k hk => by
          have hq := HB.out q (.inr (.inl rfl))
          have := hfr.size
          simp at hk
          rcases hk with rfl | rfl <;> omega)
      have HFr : Hid (Fr (Mine p q (.slice lad S.loose.length lcap) F) w wr) := HF.out.trans (Fr.ofFrm hfr) (fun i hi e => by simp at e; omega)
      clear hI hfr hat hta hSr cA hkb
      go_wp2_with fail
      refine hse.mono ?_
      rintro e w1 ⟨rfl, hS1, hF1⟩
      have d2 := hS1.fz 2
      have d4 := hS1.fz 4
      have c2 := hS1.c2
      have c4 := hS1.c4
      have t1 := hS1.turn 2 (.bool false) { S.settled (toldK ks) with armed := false } _ rfl rfl rfl rfl
      have d4' := t1.fz 4
      have c4' := t1.c4
      have t2 := t1.turn 4 (.bool false) (S.started (toldK ks)) _ rfl rfl rfl rfl
      have HE : Hid (StaR p q (.slice lad S.loose.length lcap) F S (toldK ks) w (.returned (.tuple #[])) ((w1.setCell ⟨p, 2, none⟩ (.bool false)).setCell ⟨p, 4, none⟩ (.bool false))) :=
        ⟨rfl, t2, ((HFr.out.trans hF1 (fun _ _ e => e)).setCell ⟨p, 2, none⟩ _ (.inl rfl)).setCell ⟨p, 4, none⟩ _ (.inl rfl)⟩
      clear hS1 hF1 t1 t2 hse
      go_wp2
      go_end0
      exact HE.out
end Go.Proofs.YtbfajoeilpkofaaGreatDoor
/- A new store; Sync; all calls over what a store says. -/
namespace Go.Proofs.YtbfajoeilpkofaaGreatDoor
open Go.RowKit

attribute [local go_sem ↓] Go.wp_at_zero Go.wp_at_succ

def newS (n : Nat) : St := ⟨List.replicate n nilBs, [], false, 0, false⟩
theorem Tryz.infoBB : (Tryz.prog.info? 29).map (fun i => (i.zero, i.size, i.bytes)) = some (some (.slice none 0 0), 1, 24) := by kernel_rfl
theorem make_pages (n : Nat) (hn : n ≤ 1000000) (w : World) : (Instr.makeSlice 22 (.int .i64 (n : Int)) (.int .i64 (n : Int))).run Tryz.prog w = .ok (.slice (some ⟨w.heap.size, 0, none⟩) n n) (w.alloc (.cells ((newS n).safe.map Bs.v).toArray 29)) := by
  obtain ⟨i0, hi0, hz0, hz1, hz2⟩ := info_parts Tryz.infoBB
  have h := run_make (P := Tryz.prog) w 22 29 i0 (.slice none 0 0) Tryz.underlying22 hi0 hz0 .i64 .i64 (n : Int) (n : Int) (by omega) (Int.le_refl _) (by rw [hz2]; omega) (by omega)
  have e : madeCells (Value.slice none 0 0).cells n = ((newS n).safe.map Bs.v).toArray := by
    apply Array.toList_inj.1
    simp only [madeCells, newS]
    apply List.ext_getElem
    · simp
    · intro j h1 h2
      simp [Value.cells, Nat.mod_one, nilBs, Bs.v]
  rw [h]
  simp only [Int.toNat_natCast, hz1, Nat.mul_one, e]
theorem build_store (a : Option Addr) (n c : Nat) (w : World) : (Instr.build 75 #[(0, .slice a n c)]).run Tryz.prog w = .ok (.agg #[.slice a n c, .slice none 0 0, .bool false, .int .i64 0, .bool false]) w := by kernel_rfl
def NewR (n : Nat) (w : World) (e : Ending) (w' : World) : Prop :=
  e = .returned (.tuple #[.pointer (some ⟨w.heap.size + 1, 0, none⟩), .nilIface]) ∧ St0 w' (w.heap.size + 1) w.heap.size (.slice none 0 0) (fun _ => False) (newS n) ∧ Below w.heap.size w w' ∧ w'.heap.size = w.heap.size + 2
theorem new_end (n : Nat) (h1 : 1 ≤ n) (h2 : n ≤ 4096) (w : World) : NewR n w (.returned (.tuple #[.pointer (some ⟨w.heap.size + 1, 0, none⟩), .nilIface])) ((w.alloc (.cells ((newS n).safe.map Bs.v).toArray 29)).alloc (.cells #[.slice (some ⟨w.heap.size, 0, none⟩) n n, .slice none 0 0, .bool false, .int .i64 0, .bool false] 75)) := by
  refine ⟨rfl, ⟨?_, ?_, World.ownsRow_nil _ _ _ _, ?_, (fun x hx => by cases hx), by omega, ⟨id, id⟩, (fun k e => by cases e), (fun k e => e.elim), by simpa [newS] using h2, by simp [newS], by simp [newS]; omega⟩, ((Below.refl _ w).alloc (Nat.le_refl _) _).alloc (by simp) _, by simp⟩
  · have := heap_alloc_new (w.alloc (.cells ((newS n).safe.map Bs.v).toArray 29)) (.cells #[.slice (some ⟨w.heap.size, 0, none⟩) n n, .slice none 0 0, .bool false, .int .i64 0, .bool false] 75)
    rw [World.size_alloc] at this
    rw [this]
    simp [stC, newS]
  · rw [Below.heap_alloc _ _ _ (by simp)]
    exact heap_alloc_new w _
  · intro x hx
    have : x = nilBs := by simp [newS] at hx; exact hx.2
    subst this
    exact ⟨nilBs_at _, nilBs_in _⟩
set_option maxRecDepth 100000 in
set_option maxHeartbeats 800000 in
theorem new_any (n : Nat) (h1 : 1 ≤ n) (h2 : n ≤ 4096) (w : World) : Calls Tryz.prog 9 #[.int .i64 (n : Int)] w (NewR n w) := by
  have HE : Hid (NewR n w (.returned (.tuple #[.pointer (some ⟨w.heap.size + 1, 0, none⟩), .nilIface])) ((w.alloc (.cells ((newS n).safe.map Bs.v).toArray 29)).alloc (.cells #[.slice (some ⟨w.heap.size, 0, none⟩) n n, .slice none 0 0, .bool false, .int .i64 0, .bool false] 75))) := new_end n h1 h2 w
  have k1 := make_pages n (by omega) w
  have k2 := build_store
  have d1 : ¬ ((n : Int) < 1) := by omega
  have d2 : ¬ ((4096 : Int) < (n : Int)) := by omega
  generalize ((newS n).safe.map Bs.v).toArray = ps at *
  go_enter Tryz.func9, Tryz.ntmps9
  go_wp2
  go_ret2
  exact HE.out
set_option maxRecDepth 100000 in
set_option maxHeartbeats 800000 in
theorem new_bad (n : Int) (h : ¬ (1 ≤ n ∧ n ≤ 4096)) (w : World) : Calls Tryz.prog 9 #[.int .i64 n] w fun e w' => e = .returned (.tuple #[.pointer none, errV 1]) ∧ w' = w := by
  rw [errV_ne (by decide)]
  by_cases d1 : n < 1
  · go_enter Tryz.func9, Tryz.ntmps9
    go_wp2
    go_ret2
    exact ⟨rfl, rfl⟩
  · have d2 : (4096 : Int) < n := by omega
    go_enter Tryz.func9, Tryz.ntmps9
    go_wp2
    go_ret2
    exact ⟨rfl, rfl⟩
/-- A block that was of G, or is new. -/
def Gn (G : Nat → Prop) (w w' : World) (k : Nat) : Prop := G k ∨ (w.heap.size ≤ k ∧ k < w'.heap.size)
theorem StAt.mono {w : World} {G G' : Nat → Prop} {p : Nat} {S : St} (h : StAt w G p S) (hg : ∀ k, G k → G' k) : StAt w G' p S := by
  obtain ⟨q, lo, F, h0, h1⟩ := h
  exact ⟨q, lo, F, h0, fun k hk => hg k (h1 k hk)⟩
/-- Write: what a store says. -/
def WrS (G : Nat → Prop) (p : Nat) (S : St) (pg : Int) (l : List Int) (w : World) (e : Ending) (w' : World) : Prop :=
  e = .returned (errV (stepE S)) ∧ ∃ y : Bs, y.l = l ∧ StAt w' (Gn G w w') p (stepS (S.put pg y)) ∧ Fr G w w'
theorem write_st (G : Nat → Prop) (p : Nat) (S : St) (pg : Int) (ad : Option Addr) (cap : Nat) (l : List Int) (w : World) (h : StAt w G p S) (hs : 0 ≤ S.steps ∧ S.steps < 9223372036854775808)
    (hp : 0 ≤ pg ∧ pg < S.safe.length) (hd : S.down = false) (hfew : S.loose.length < 1000000) (hb : SlAt w ad l.length (fn l)) (hn : ad = none → l.length = 0 ∧ cap = 0) (hy : ∀ y, y ∈ l → 0 ≤ y ∧ y ≤ 255) (hl : l.length ≤ 4096) :
    Calls Tryz.prog 10 #[.pointer (some ⟨p, 0, none⟩), .int .i64 pg, .slice ad l.length cap] w (WrS G p S pg l w) := by
  obtain ⟨q, lo, F, h0, hG⟩ := h
  refine (write_ok p q lo F S pg ad cap l w h0 hs hp hd hfew hb hn hy hl).mono ?_
  rintro e w' ⟨rfl, y, hy, lo', F', h1, hF, hM⟩
  exact ⟨rfl, y, hy, ⟨q, lo', F', h1, fun k hk => (hM k hk).imp (hG k) id⟩, hF.mono fun k _ hk => hG k hk⟩
theorem writeB_st (G : Nat → Prop) (p : Nat) (S : St) (pg : Int) (ad : Option Addr) (n cap : Nat) (w : World) (h : StAt w G p S) (hn : wrE S pg n ≠ 0) :
    Calls Tryz.prog 10 #[.pointer (some ⟨p, 0, none⟩), .int .i64 pg, .slice ad n cap] w fun e w' => e = .returned (errV (wrE S pg n)) ∧ w' = w := by
  obtain ⟨q, lo, F, h0, hG⟩ := h
  exact write_bad p q lo F S pg ad n cap w h0 hn
theorem read_st (G : Nat → Prop) (p : Nat) (S : St) (pg : Int) (w : World) (h : StAt w G p S) (hp : 0 ≤ pg ∧ pg < S.safe.length) (hd : S.down = false) :
    Calls Tryz.prog 23 #[.pointer (some ⟨p, 0, none⟩), .int .i64 pg] w (RdR w (lastB S pg).l) := by
  obtain ⟨q, lo, F, h0, hG⟩ := h
  exact read_ok p q lo F S pg w h0 hp hd
theorem readB_st (G : Nat → Prop) (p : Nat) (S : St) (pg : Int) (w : World) (h : StAt w G p S) (hn : rdE S pg ≠ 0) :
    Calls Tryz.prog 23 #[.pointer (some ⟨p, 0, none⟩), .int .i64 pg] w fun e w' => e = .returned (.tuple #[.slice none 0 0, errV (rdE S pg)]) ∧ w' = w := by
  obtain ⟨q, lo, F, h0, hG⟩ := h
  exact read_bad p q lo F S pg w h0 hn
theorem loose_st (G : Nat → Prop) (p : Nat) (S : St) (w : World) (h : StAt w G p S) :
    Calls Tryz.prog 22 #[.pointer (some ⟨p, 0, none⟩)] w fun e w' => e = .returned (.int .i64 S.loose.length) ∧ w' = w := by
  obtain ⟨q, lo, F, h0, hG⟩ := h
  exact loose_any p q lo F S w h0
/-- Start: what a store says. -/
def StaS (G : Nat → Prop) (p : Nat) (S : St) (K : Nat → Bool) (w : World) (e : Ending) (w' : World) : Prop :=
  e = .returned (.tuple #[]) ∧ StAt w' G p (S.started K) ∧ Fr G w w'
theorem start_st (G : Nat → Prop) (p : Nat) (S : St) (ad : Option Addr) (cap : Nat) (ks : List Int) (w : World) (h : StAt w G p S) (hk : IsL w ad ks) (hks : ks.length ≤ 140737488355328) :
    Calls Tryz.prog 28 #[.pointer (some ⟨p, 0, none⟩), .slice ad ks.length cap] w (StaS G p S (toldK ks) w) := by
  obtain ⟨q, lo, F, h0, hG⟩ := h
  refine (start_any p q lo F S ad cap ks w h0 hk hks).mono ?_
  rintro e w' ⟨rfl, h1, hF⟩
  exact ⟨rfl, ⟨q, _, F, h1, fun k hk => hG k (cut0_mine.1 hk)⟩, hF.mono fun k _ hk => hG k hk⟩
def NewS (n : Nat) (w : World) (e : Ending) (w' : World) : Prop :=
  e = .returned (.tuple #[.pointer (some ⟨w.heap.size + 1, 0, none⟩), .nilIface]) ∧ StAt w' (Gn (fun _ => False) w w') (w.heap.size + 1) (newS n) ∧ Below w.heap.size w w'
theorem new_st (n : Nat) (h1 : 1 ≤ n) (h2 : n ≤ 4096) (w : World) : Calls Tryz.prog 9 #[.int .i64 (n : Int)] w (NewS n w) := by
  refine (new_any n h1 h2 w).mono ?_
  rintro e w' ⟨rfl, h0, hb, hs⟩
  exact ⟨rfl, ⟨_, _, _, h0, fun k hk => by
    refine .inr ?_
    rcases hk with rfl | rfl | hk | hk
    · omega
    · omega
    · cases hk
    · exact hk.elim⟩, hb⟩
end Go.Proofs.YtbfajoeilpkofaaGreatDoor
/- Sync. -/
namespace Go.Proofs.YtbfajoeilpkofaaGreatDoor
open Go.RowKit

attribute [local go_sem ↓] Go.wp_at_zero Go.wp_at_succ

def allK (_ : Nat) : Bool := true
theorem sync1_any (i : Nat) (w : World) : Calls Tryz.prog 109 #[.int .i64 (i : Int)] w fun e w' => e = .returned (.bool (allK i)) ∧ w' = w := by
  go_enter Tryz.func109, Tryz.ntmps109
  go_wp2
  go_ret
  exact ⟨rfl, rfl⟩
/-- What a Sync leaves of a store that has not crashed. -/
def syncS (S : St) : St := if stepE S = 0 then (stepS S).settled allK else stepS S
def SyS (G : Nat → Prop) (p : Nat) (S : St) (w : World) (e : Ending) (w' : World) : Prop :=
  e = .returned (errV (stepE S)) ∧ StAt w' G p (syncS S) ∧ Fr G w w'
theorem stepS_down (S : St) : (stepS S).safe = S.safe ∧ (stepS S).loose = S.loose := by
  unfold stepS
  split
  · exact ⟨rfl, rfl⟩
  · split <;> exact ⟨rfl, rfl⟩
set_option maxRecDepth 100000 in
set_option maxHeartbeats 1600000 in
theorem sync_st (G : Nat → Prop) (p : Nat) (S : St) (w : World) (h : StAt w G p S) (hs : 0 ≤ S.steps ∧ S.steps < 9223372036854775808) (hd : S.down = false) :
    Calls Tryz.prog 82 #[.pointer (some ⟨p, 0, none⟩)] w (SyS G p S w) := by
  obtain ⟨q, lo, F, h0, hG⟩ := h
  have h4 := h0.c4
  rw [hd] at h4
  have hst := step_any p q lo F S w h0 hs
  have HN : Hid (∀ w1, St0 w1 p q lo F (stepS S) → Frm [p] w w1 → stepE S = 0 → Calls Tryz.prog 57 #[.pointer (some ⟨p, 0, none⟩), .func (.func 109) #[] #[]] w1 fun e w' => e = .returned (.tuple #[]) ∧ SyS G p S w (.returned .nilIface) w') := fun w1 h1 hf he => by
    refine (settle_any p q lo F (stepS S) 109 #[] allK [] w1 h1 (enters_of Tryz.func109 (by kernel_rfl) rfl) (fun W i _ _ => sync1_any i W) (fun k hk => by cases hk)).mono ?_
    rintro e w2 ⟨rfl, h2, hF⟩
    refine ⟨rfl, by rw [he]; rfl, ⟨q, _, F, ?_, fun k hk => hG k (cut0_mine.1 hk)⟩, ((Fr.ofFrm hf).mono (M' := G) fun k _ hk => ?_).trans hF (fun k _ hk => hG k hk)⟩
    · rw [syncS, if_pos he]; exact h2
    · have : k = p := by simpa using hk
      exact hG k (.inl this)
  have HX : Hid (∀ w1, St0 w1 p q lo F (stepS S) → Frm [p] w w1 → stepE S ≠ 0 → SyS G p S w (.returned (errV (stepE S))) w1) := fun w1 h1 hf he =>
    ⟨rfl, ⟨q, lo, F, by rw [syncS, if_neg he]; exact h1, hG⟩, (Fr.ofFrm hf).mono fun k _ hk => by
      have : k = p := by simpa using hk
      exact hG k (.inl this)⟩
  clear h0 hG hd hs
  by_cases he : stepE S = 0
  · go_enter Tryz.func82, Tryz.ntmps82
    go_wp2_with fail
    refine hst.mono ?_
    rintro e w1 ⟨rfl, h1, hf, _⟩
    have hse := HN.out w1 h1 hf he
    have ee : errV (stepE S) = .nilIface := by rw [he]; rfl
    rw [ee]
    clear HN HX h1 hf hst he ee
    go_wp2_with fail
    refine hse.mono ?_
    rintro e w2 ⟨rfl, hR⟩
    have HR : Hid (SyS G p S w (.returned .nilIface) w2) := hR
    clear hse hR
    go_wp2
    go_ret
    exact HR.out
  · go_enter Tryz.func82, Tryz.ntmps82
    go_wp2_with fail
    refine hst.mono ?_
    rintro e w1 ⟨rfl, h1, hf, _⟩
    have hR := HX.out w1 h1 hf he
    rw [errV_ne he] at hR ⊢
    have HR : Hid (SyS G p S w (.returned (.iface 72 (.int .i64 (stepE S)))) w1) := hR
    clear hR HN HX h1 hf hst he
    go_wp2
    go_ret
    exact HR.out
set_option maxRecDepth 100000 in
set_option maxHeartbeats 1600000 in
theorem syncB_st (G : Nat → Prop) (p : Nat) (S : St) (w : World) (h : StAt w G p S) (hd : S.down = true) :
    Calls Tryz.prog 82 #[.pointer (some ⟨p, 0, none⟩)] w fun e w' => e = .returned (errV 13) ∧ w' = w := by
  obtain ⟨q, lo, F, h0, hG⟩ := h
  have h4 := h0.c4
  rw [hd] at h4
  rw [errV_ne (by decide)]
  clear h0 hG
  go_enter Tryz.func82, Tryz.ntmps82
  go_wp2
  go_ret
  exact ⟨rfl, rfl⟩
end Go.Proofs.YtbfajoeilpkofaaGreatDoor
/- Arm; Down. -/
namespace Go.Proofs.YtbfajoeilpkofaaGreatDoor
open Go.RowKit

attribute [local go_sem ↓] Go.wp_at_zero Go.wp_at_succ

def St.arm (S : St) (n : Int) : St := { S with armed := true, steps := n }
def ArmS (G : Nat → Prop) (p : Nat) (S : St) (w : World) (e : Ending) (w' : World) : Prop := e = .returned .nilIface ∧ StAt w' G p S ∧ Fr G w w'
set_option maxRecDepth 100000 in
set_option maxHeartbeats 1600000 in
theorem arm_st (G : Nat → Prop) (p : Nat) (S : St) (n : Int) (w : World) (h : StAt w G p S) (hn : 0 ≤ n) :
    Calls Tryz.prog 26 #[.pointer (some ⟨p, 0, none⟩), .int .i64 n] w (ArmS G p (S.arm n) w) := by
  obtain ⟨q, lo, F, h0, hG⟩ := h
  have c2 := h0.c2
  have f2 := h0.fz 2
  have t1 := h0.turn 2 (.bool true) { S with armed := true } _ rfl rfl rfl rfl
  have c3 := t1.c3
  have f3 := t1.fz 3
  have t2 := t1.turn 3 (.int .i64 n) (S.arm n) _ rfl rfl rfl rfl
  have HE : Hid (ArmS G p (S.arm n) w (.returned .nilIface) ((w.setCell ⟨p, 2, none⟩ (.bool true)).setCell ⟨p, 3, none⟩ (.int .i64 n))) := ⟨rfl, ⟨q, lo, F, t2, hG⟩, ((Fr.refl G w).setCell ⟨p, 2, none⟩ _ (hG p (.inl rfl))).setCell ⟨p, 3, none⟩ _ (hG p (.inl rfl))⟩
  have hn' : ¬ n < 0 := by omega
  clear h0 hG t1 t2
  go_enter Tryz.func26, Tryz.ntmps26
  go_wp2
  go_ret
  exact HE.out
set_option maxRecDepth 100000 in
set_option maxHeartbeats 1600000 in
theorem armB_st (p : Nat) (n : Int) (w : World) (hn : n < 0) :
    Calls Tryz.prog 26 #[.pointer (some ⟨p, 0, none⟩), .int .i64 n] w fun e w' => e = .returned (errV 1) ∧ w' = w := by
  rw [errV_ne (by decide)]
  go_enter Tryz.func26, Tryz.ntmps26
  go_wp2
  go_ret
  exact ⟨rfl, rfl⟩
theorem down_st (G : Nat → Prop) (p : Nat) (S : St) (w : World) (h : StAt w G p S) :
    Calls Tryz.prog 27 #[.pointer (some ⟨p, 0, none⟩)] w fun e w' => e = .returned (.bool S.down) ∧ w' = w := by
  obtain ⟨q, lo, F, h0, hG⟩ := h
  have h4 := h0.c4
  clear h0 hG
  go_enter Tryz.func27, Tryz.ntmps27
  go_wp2
  go_ret
  exact ⟨rfl, rfl⟩
theorem pages_st (G : Nat → Prop) (p : Nat) (S : St) (w : World) (h : StAt w G p S) :
    Calls Tryz.prog 34 #[.pointer (some ⟨p, 0, none⟩)] w fun e w' => e = .returned (.int .i64 S.safe.length) ∧ w' = w := by
  obtain ⟨q, lo, F, h0, hG⟩ := h
  exact pages_any p q lo F S w h0
end Go.Proofs.YtbfajoeilpkofaaGreatDoor
