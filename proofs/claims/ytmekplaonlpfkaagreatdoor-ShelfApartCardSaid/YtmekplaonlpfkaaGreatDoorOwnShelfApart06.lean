/- Start; a new store. -/
import Derived.Test.YtmekplaonlpfkaaGreatDoorOwnShelfApart05
import Derived.Laws.MakeOwn
import Derived.Deep.AppendSrc
import Derived.Maps.AppendAt
import Derived.Deep.AppendLies
import Derived.Test.YtmekplaonlpfkaaGreatDoorOwnShelfApart03
namespace Go.Proofs.YtmekplaonlpfkaaGreatDoor
open Go.RowKit

attribute [local go_sem ↓] Go.wp_at_zero Go.wp_at_succ

/-- Numbers that lie somewhere. -/
def IsL (w : World) (ad : Option Addr) (ks : List Int) : Prop := 0 < ks.length → ∃ b off, ad = some ⟨b, off, none⟩ ∧ ∀ j x, ks[j]? = some x → w.cell? ⟨b, off + j, none⟩ = some (.int .i64 x)
theorem IsL.keep {w w' : World} {ad : Option Addr} {ks : List Int} (h : IsL w ad ks) (hk : ∀ a, ad = some a → 0 < ks.length → w'.heap[a.block]? = w.heap[a.block]?) : IsL w' ad ks := fun hn => by
  obtain ⟨b, off, rfl, hc⟩ := h hn
  exact ⟨b, off, rfl, fun j x hx => by rw [World.cell?_of_block (a := ⟨b, off + j, none⟩) (hk ⟨b, off, none⟩ rfl hn)]; exact hc j x hx⟩
theorem IsL.lt {w : World} {ad : Option Addr} {ks : List Int} (h : IsL w ad ks) {a : Addr} (e : ad = some a) (hn : 0 < ks.length) : a.block < w.heap.size := by
  obtain ⟨b, off, rfl, hc⟩ := h hn
  cases e
  exact World.block_lt_of_cell? w _ (hc 0 _ (List.getElem?_eq_getElem hn))
/-- What was told, as cells. -/
def tl (T : Nat → Bool) (n : Nat) : List Value := (List.range n).map fun j => .bool (T j)
theorem tl_length (T : Nat → Bool) (n : Nat) : (tl T n).length = n := by simp [tl]
theorem tl_at {T : Nat → Bool} {n j : Nat} (h : j < n) : (tl T n)[j]? = some (.bool (T j)) := by simp [tl, h]
def toldK (ks : List Int) (j : Nat) : Bool := ks.contains (j : Int)
theorem Tryz.infoBool : (Tryz.prog.info? 4).map (fun i => (i.zero, i.size, i.bytes)) = some (some (.bool false), 1, 1) := by kernel_rfl
theorem make_told (n : Nat) (hn : n ≤ 1000000) (w : World) : (Instr.makeSlice 120 (.int .i64 (n : Int)) (.int .i64 (n : Int))).run Tryz.prog w = .ok (.slice (some ⟨w.heap.size, 0, none⟩) n n) (w.alloc (.cells (tl (toldK []) n).toArray 4)) := by
  obtain ⟨i0, hi0, hz0, hz1, hz2⟩ := info_parts Tryz.infoBool
  have h := run_make (P := Tryz.prog) w 120 4 i0 (.bool false) Tryz.underlying120 hi0 hz0 .i64 .i64 (n : Int) (n : Int) (by omega) (Int.le_refl _) (by rw [hz2]; omega) (by omega)
  have e : madeCells (Value.bool false).cells n = (tl (toldK []) n).toArray := by
    apply Array.toList_inj.1
    simp only [madeCells, tl]
    apply List.ext_getElem
    · simp
    · intro j h1 h2
      simp [toldK, Value.cells, Nat.mod_one]
  rw [h]
  simp only [Int.toNat_natCast, hz1, Nat.mul_one, e]
theorem told1_any (ta tb n i : Nat) (T : Nat → Bool) (w : World) (ha : w.heap[ta]? = some (.cells #[.slice (some ⟨tb, 0, none⟩) n n] 120 (0, 0))) (hb : w.heap[tb]? = some (.cells (tl T n).toArray 4 (0, 0))) (hi : i < n) :
    Calls Tryz.prog 58 #[.int .i64 (i : Int), .pointer (some ⟨ta, 0, none⟩)] w fun e w' => e = .returned (.bool (T i)) ∧ w' = w := by
  have c0 : w.cell? ⟨ta, 0, none⟩ = some (.slice (some ⟨tb, 0, none⟩) n n) := by rw [cell_of_row w ta 0 _ _ _ ha]; rfl
  have c1 : w.cell? ⟨tb, i, none⟩ = some (.bool (T i)) := by rw [cell_of_row w tb i _ _ _ hb]; simpa using tl_at hi
  have hi' : (i : Int) < n := by omega
  go_enter Tryz.func58, Tryz.ntmps58
  go_wp2
  go_ret
  exact ⟨rfl, rfl⟩
def St.started (S : St) (K : Nat → Bool) : St := { S.settled K with armed := false, down := false }
/-- What is left when it begins again. -/
def StaR (p q : Nat) (lo : Value) (F : Nat → Prop) (S : St) (K : Nat → Bool) (w : World) (e : Ending) (w' : World) : Prop :=
  e = .returned (.tuple #[]) ∧ St0 w' p q (cut0 lo) F (S.started K) ∧ Fr (Mine p q lo F) w w'
/-- Behind i numbers. -/
structure TolI (tb n : Nat) (ks : List Int) (w wr : World) (i : Nat) : Prop where
  at_ : wr.heap[tb]? = some (.cells (tl (toldK (ks.take i)) n).toArray 4 (0, 0))
  frm : Frm [tb] w wr
theorem toldK_skip {ks : List Int} {i : Nat} {x : Int} (hx : ks[i]? = some x) {n : Nat} (h : ¬ (0 ≤ x ∧ x < n)) : tl (toldK (ks.take (i + 1))) n = tl (toldK (ks.take i)) n := by
  unfold tl
  apply List.map_congr_left
  intro j hj
  have hj : j < n := by simpa using hj
  rw [List.take_add_one, hx]
  simp [toldK]
  omega
theorem toldK_set {ks : List Int} {i m : Nat} (hx : ks[i]? = some (m : Int)) {n : Nat} : (tl (toldK (ks.take i)) n).set m (.bool true) = tl (toldK (ks.take (i + 1))) n := by
  unfold tl
  apply List.ext_getElem
  · simp
  · intro j h1 h2
    rw [List.getElem_set]
    simp only [List.getElem_map, List.getElem_range]
    rw [List.take_add_one, hx]
    by_cases e : m = j
    · subst e; simp [toldK]
    · have e' : ¬ (j : Int) = (m : Int) := by omega
      simp [toldK, e, e']
theorem TolI.skip {tb n : Nat} {ks : List Int} {w wr : World} {i : Nat} (h : TolI tb n ks w wr i) {x : Int} (hx : ks[i]? = some x) (hb : ¬ (0 ≤ x ∧ x < n)) : TolI tb n ks w wr (i + 1) := ⟨by rw [toldK_skip hx hb]; exact h.at_, h.frm⟩
theorem TolI.set {tb n m : Nat} {ks : List Int} {w wr : World} {i : Nat} (h : TolI tb n ks w wr i) (hx : ks[i]? = some (m : Int)) : TolI tb n ks w (wr.setCell ⟨tb, m, none⟩ (.bool true)) (i + 1) := by
  refine ⟨?_, h.frm.setCell _ _ (by simp)⟩
  rw [heap_setCell_same _ tb m _ _ _ h.at_, ← toldK_set hx]
  congr 2
  apply Array.toList_inj.1
  simp
set_option maxRecDepth 100000 in
set_option maxHeartbeats 1600000 in
theorem start_any (p q : Nat) (lo : Value) (F : Nat → Prop) (S : St) (ad : Option Addr) (cap : Nat) (ks : List Int) (w : World) (h : St0 w p q lo F S) (hk : IsL w ad ks) (hks : ks.length ≤ 140737488355328) :
    Calls Tryz.prog 28 #[.pointer (some ⟨p, 0, none⟩), .slice ad ks.length cap] w (StaR p q lo F S (toldK ks) w) := by
  have h1 := h.c1
  obtain ⟨lad, lcap, rfl⟩ := h.lform
  have lp := h.lt (k := p) (.inl rfl)
  have hfew := h.few
  have km := make_told S.loose.length hfew w
  obtain ⟨W0, hW0⟩ : ∃ W0, (w.alloc (.cells (tl (toldK []) S.loose.length).toArray 4)).alloc (.cells #[.slice (some ⟨w.heap.size, 0, none⟩) S.loose.length S.loose.length] 120) = W0 := ⟨_, rfl⟩
  have hb0 : Below w.heap.size w W0 := by rw [← hW0]; exact ((Below.refl _ w).alloc (Nat.le_refl _) _).alloc (by simp) _
  have hs0 : W0.heap.size = w.heap.size + 2 := by rw [← hW0]; simp
  have h0 : St0 W0 p q (.slice lad S.loose.length lcap) F S := h.below hb0
  have ta0 : W0.heap[w.heap.size + 1]? = some (.cells #[.slice (some ⟨w.heap.size, 0, none⟩) S.loose.length S.loose.length] 120 (0, 0)) := by
    rw [← hW0]
    have := heap_alloc_new (w.alloc (.cells (tl (toldK []) S.loose.length).toArray 4)) (.cells #[.slice (some ⟨w.heap.size, 0, none⟩) S.loose.length S.loose.length] 120)
    simpa using this
  have tb0 : W0.heap[w.heap.size]? = some (.cells (tl (toldK []) S.loose.length).toArray 4 (0, 0)) := by
    rw [← hW0, Below.heap_alloc _ _ _ (by simp)]
    exact heap_alloc_new w _
  have HI0 : TolI w.heap.size S.loose.length ks W0 W0 0 := ⟨by simpa using tb0, Frm.refl _ _⟩
  have hkL : IsL W0 ad ks := hk.keep fun a e hn => hb0.block _ (hk.lt e hn)
  have hkb : ∀ a, ad = some a → 0 < ks.length → a.block < w.heap.size := fun a e hn => hk.lt e hn
  have ca : ∀ wr, Frm [w.heap.size] W0 wr → wr.cell? ⟨w.heap.size + 1, 0, none⟩ = some (.slice (some ⟨w.heap.size, 0, none⟩) S.loose.length S.loose.length) := fun wr hf => by
    have : wr.heap[w.heap.size + 1]? = _ := (hf.block (w.heap.size + 1) (by omega) (by simp)).trans ta0
    rw [cell_of_row wr _ 0 _ _ _ this]; rfl
  have H0 : Hid (St0 W0 p q (.slice lad S.loose.length lcap) F S) := h0
  have HF : Hid (Fr (Mine p q (.slice lad S.loose.length lcap) F) w W0) := Fr.ofBelow hb0
  have HB : Hid (∀ k, Mine p q (.slice lad S.loose.length lcap) F k → k < w.heap.size) := fun k hk => h.lt hk
  have HTA : Hid (W0.heap[w.heap.size + 1]? = some (.cells #[.slice (some ⟨w.heap.size, 0, none⟩) S.loose.length S.loose.length] 120 (0, 0))) := ta0
  have HKL : Hid (IsL W0 ad ks) := hkL
  clear h h0 ta0 tb0 hk hkL hb0
  go_enter Tryz.func28, Tryz.ntmps28
  go_wp2
  clear hW0 km h1
  go_loopw [6, 17] (fun nv iv wr => ∃ i : Nat, i ≤ ks.length ∧ iv = .int .i64 i ∧ TolI w.heap.size S.loose.length ks W0 wr i) (fun _ iv _ => ks.length + 1 - (intOf iv).toNat)
  case atStart => exact ⟨0, by omega, rfl, HI0⟩
  case round =>
    clear HI0
    obtain ⟨i, hi, rfl, hI⟩ := hrel
    have cA := ca wr hI.frm
    clear ca
    by_cases hlt : i < ks.length
    · obtain ⟨b, off, rfl, hc⟩ := HKL.out (by omega)
      obtain ⟨x, hx⟩ : ∃ x, ks[i]? = some x := ⟨_, List.getElem?_eq_getElem hlt⟩
      have hbb := hkb _ rfl (by omega)
      have hci : wr.cell? ⟨b, off + i, none⟩ = some (.int .i64 x) := by
        rw [World.cell?_of_block (a := ⟨b, off + i, none⟩) (hI.frm.block b (by simp at hbb; omega) (by simp at hbb ⊢; omega))]; exact hc i x hx
      have hlt' : (i : Int) < ks.length := by omega
      clear hc hkb hbb
      by_cases hb : 0 ≤ x ∧ x < S.loose.length
      · obtain ⟨m, rfl⟩ : ∃ m : Nat, x = m := ⟨x.toNat, by omega⟩
        have hb2 : (m : Int) < S.loose.length := hb.2
        have hb1 : (0 : Int) ≤ m := hb.1
        have cB : ∃ u, wr.cell? ⟨w.heap.size, m, none⟩ = some u := ⟨_, by rw [cell_of_row wr _ m _ _ _ hI.at_]; simpa using tl_at (by omega)⟩
        obtain ⟨u, cB⟩ := cB
        have fB : wr.frozen? ⟨w.heap.size, m, none⟩ = false := frozen_of_row wr _ m _ _ hI.at_
        have HN : Hid (TolI w.heap.size S.loose.length ks W0 (wr.setCell ⟨w.heap.size, m, none⟩ (.bool true)) (i + 1)) := hI.set hx
        clear hI hb hx
        go_wp2
        go_roundw
        case rel => exact ⟨i + 1, by omega, by go_num, HN.out⟩
        case measure => simp [intOf]; omega
      · have HN : Hid (TolI w.heap.size S.loose.length ks W0 wr (i + 1)) := hI.skip hx hb
        clear hI hx
        by_cases h0 : 0 ≤ x
        · have h1 : ¬ x < S.loose.length := fun h => hb ⟨h0, h⟩
          clear hb
          go_wp2
          go_roundw
          case rel => exact ⟨i + 1, by omega, by go_num, HN.out⟩
          case measure => simp [intOf]; omega
        · clear hb
          go_wp2
          go_roundw
          case rel => exact ⟨i + 1, by omega, by go_num, HN.out⟩
          case measure => simp [intOf]; omega
    · obtain rfl : i = ks.length := by omega
      have hnn : ¬ ((ks.length : Int) < ks.length) := by omega
      have hfr := hI.frm
      have hat : wr.heap[w.heap.size]? = some (.cells (tl (toldK ks) S.loose.length).toArray 4 (0, 0)) := by have := hI.at_; rwa [List.take_length] at this
      have hta : wr.heap[w.heap.size + 1]? = some (.cells #[.slice (some ⟨w.heap.size, 0, none⟩) S.loose.length S.loose.length] 120 (0, 0)) := (hfr.block (w.heap.size + 1) (by omega) (by simp)).trans HTA.out
      have hSr : St0 wr p q (.slice lad S.loose.length lcap) F S := H0.out.keep hfr.size fun k hk => hfr.block k (by have := HB.out k hk; omega) (by have := HB.out k hk; simp; omega)
      have hse := settle_any p q _ F S 58 #[.pointer (some ⟨w.heap.size + 1, 0, none⟩)] (toldK ks) [w.heap.size + 1, w.heap.size] wr hSr (enters_of Tryz.func58 (by kernel_rfl) rfl)
        (fun W i hi hT => told1_any (w.heap.size + 1) w.heap.size S.loose.length i (toldK ks) W ((hT _ (by simp)).trans hta) ((hT _ (by simp)).trans hat) hi)
        (fun k hk => by
          have hq := HB.out q (.inr (.inl rfl))
          have := hfr.size
          simp at hk
          rcases hk with rfl | rfl <;> omega)
      have HFr : Hid (Fr (Mine p q (.slice lad S.loose.length lcap) F) w wr) := HF.out.trans (Fr.ofFrm hfr) (fun i hi e => by simp at e; omega)
      clear hI hfr hat hta hSr cA hkb
      go_wp2_with fail
      refine hse.mono ?_
      rintro e w1 ⟨rfl, hS1, hF1⟩
      have d2 := hS1.fz 2
      have d4 := hS1.fz 4
      have c2 := hS1.c2
      have c4 := hS1.c4
      have t1 := hS1.turn 2 (.bool false) { S.settled (toldK ks) with armed := false } _ rfl rfl rfl rfl
      have d4' := t1.fz 4
      have c4' := t1.c4
      have t2 := t1.turn 4 (.bool false) (S.started (toldK ks)) _ rfl rfl rfl rfl
      have HE : Hid (StaR p q (.slice lad S.loose.length lcap) F S (toldK ks) w (.returned (.tuple #[])) ((w1.setCell ⟨p, 2, none⟩ (.bool false)).setCell ⟨p, 4, none⟩ (.bool false))) :=
        ⟨rfl, t2, ((HFr.out.trans hF1 (fun _ _ e => e)).setCell ⟨p, 2, none⟩ _ (.inl rfl)).setCell ⟨p, 4, none⟩ _ (.inl rfl)⟩
      clear hS1 hF1 t1 t2 hse
      go_wp2
      go_end0
      exact HE.out
end Go.Proofs.YtmekplaonlpfkaaGreatDoor
/- A new store; Sync; all calls over what a store says. -/
namespace Go.Proofs.YtmekplaonlpfkaaGreatDoor
open Go.RowKit

attribute [local go_sem ↓] Go.wp_at_zero Go.wp_at_succ

def newS (n : Nat) : St := ⟨List.replicate n nilBs, [], false, 0, false⟩
theorem Tryz.infoBB : (Tryz.prog.info? 29).map (fun i => (i.zero, i.size, i.bytes)) = some (some (.slice none 0 0), 1, 24) := by kernel_rfl
theorem make_pages (n : Nat) (hn : n ≤ 1000000) (w : World) : (Instr.makeSlice 22 (.int .i64 (n : Int)) (.int .i64 (n : Int))).run Tryz.prog w = .ok (.slice (some ⟨w.heap.size, 0, none⟩) n n) (w.alloc (.cells ((newS n).safe.map Bs.v).toArray 29)) := by
  obtain ⟨i0, hi0, hz0, hz1, hz2⟩ := info_parts Tryz.infoBB
  have h := run_make (P := Tryz.prog) w 22 29 i0 (.slice none 0 0) Tryz.underlying22 hi0 hz0 .i64 .i64 (n : Int) (n : Int) (by omega) (Int.le_refl _) (by rw [hz2]; omega) (by omega)
  have e : madeCells (Value.slice none 0 0).cells n = ((newS n).safe.map Bs.v).toArray := by
    apply Array.toList_inj.1
    simp only [madeCells, newS]
    apply List.ext_getElem
    · simp
    · intro j h1 h2
      simp [Value.cells, Nat.mod_one, nilBs, Bs.v]
  rw [h]
  simp only [Int.toNat_natCast, hz1, Nat.mul_one, e]
theorem build_store (a : Option Addr) (n c : Nat) (w : World) : (Instr.build 75 #[(0, .slice a n c)]).run Tryz.prog w = .ok (.agg #[.slice a n c, .slice none 0 0, .bool false, .int .i64 0, .bool false]) w := by kernel_rfl
def NewR (n : Nat) (w : World) (e : Ending) (w' : World) : Prop :=
  e = .returned (.tuple #[.pointer (some ⟨w.heap.size + 1, 0, none⟩), .nilIface]) ∧ St0 w' (w.heap.size + 1) w.heap.size (.slice none 0 0) (fun _ => False) (newS n) ∧ Below w.heap.size w w' ∧ w'.heap.size = w.heap.size + 2
theorem new_end (n : Nat) (h1 : 1 ≤ n) (h2 : n ≤ 4096) (w : World) : NewR n w (.returned (.tuple #[.pointer (some ⟨w.heap.size + 1, 0, none⟩), .nilIface])) ((w.alloc (.cells ((newS n).safe.map Bs.v).toArray 29)).alloc (.cells #[.slice (some ⟨w.heap.size, 0, none⟩) n n, .slice none 0 0, .bool false, .int .i64 0, .bool false] 75)) := by
  refine ⟨rfl, ⟨?_, ?_, World.ownsRow_nil _ _ _ _, ?_, (fun x hx => by cases hx), by omega, ⟨id, id⟩, (fun k e => by cases e), (fun k e => e.elim), by simpa [newS] using h2, by simp [newS], by simp [newS]; omega⟩, ((Below.refl _ w).alloc (Nat.le_refl _) _).alloc (by simp) _, by simp⟩
  · have := heap_alloc_new (w.alloc (.cells ((newS n).safe.map Bs.v).toArray 29)) (.cells #[.slice (some ⟨w.heap.size, 0, none⟩) n n, .slice none 0 0, .bool false, .int .i64 0, .bool false] 75)
    rw [World.size_alloc] at this
    rw [this]
    simp [stC, newS]
  · rw [Below.heap_alloc _ _ _ (by simp)]
    exact heap_alloc_new w _
  · intro x hx
    have : x = nilBs := by simp [newS] at hx; exact hx.2
    subst this
    exact ⟨nilBs_at _, nilBs_in _⟩
set_option maxRecDepth 100000 in
set_option maxHeartbeats 800000 in
theorem new_any (n : Nat) (h1 : 1 ≤ n) (h2 : n ≤ 4096) (w : World) : Calls Tryz.prog 9 #[.int .i64 (n : Int)] w (NewR n w) := by
  have HE : Hid (NewR n w (.returned (.tuple #[.pointer (some ⟨w.heap.size + 1, 0, none⟩), .nilIface])) ((w.alloc (.cells ((newS n).safe.map Bs.v).toArray 29)).alloc (.cells #[.slice (some ⟨w.heap.size, 0, none⟩) n n, .slice none 0 0, .bool false, .int .i64 0, .bool false] 75))) := new_end n h1 h2 w
  have k1 := make_pages n (by omega) w
  have k2 := build_store
  have d1 : ¬ ((n : Int) < 1) := by omega
  have d2 : ¬ ((4096 : Int) < (n : Int)) := by omega
  generalize ((newS n).safe.map Bs.v).toArray = ps at *
  go_enter Tryz.func9, Tryz.ntmps9
  go_wp2
  go_ret2
  exact HE.out
set_option maxRecDepth 100000 in
set_option maxHeartbeats 800000 in
theorem new_bad (n : Int) (h : ¬ (1 ≤ n ∧ n ≤ 4096)) (w : World) : Calls Tryz.prog 9 #[.int .i64 n] w fun e w' => e = .returned (.tuple #[.pointer none, errV 1]) ∧ w' = w := by
  rw [errV_ne (by decide)]
  by_cases d1 : n < 1
  · go_enter Tryz.func9, Tryz.ntmps9
    go_wp2
    go_ret2
    exact ⟨rfl, rfl⟩
  · have d2 : (4096 : Int) < n := by omega
    go_enter Tryz.func9, Tryz.ntmps9
    go_wp2
    go_ret2
    exact ⟨rfl, rfl⟩
/-- A block that was of G, or is new. -/
def Gn (G : Nat → Prop) (w w' : World) (k : Nat) : Prop := G k ∨ (w.heap.size ≤ k ∧ k < w'.heap.size)
theorem StAt.mono {w : World} {G G' : Nat → Prop} {p : Nat} {S : St} (h : StAt w G p S) (hg : ∀ k, G k → G' k) : StAt w G' p S := by
  obtain ⟨q, lo, F, h0, h1⟩ := h
  exact ⟨q, lo, F, h0, fun k hk => hg k (h1 k hk)⟩
/-- Write: what a store says. -/
def WrS (G : Nat → Prop) (p : Nat) (S : St) (pg : Int) (l : List Int) (w : World) (e : Ending) (w' : World) : Prop :=
  e = .returned (errV (stepE S)) ∧ ∃ y : Bs, y.l = l ∧ StAt w' (Gn G w w') p (stepS (S.put pg y)) ∧ Fr G w w'
theorem write_st (G : Nat → Prop) (p : Nat) (S : St) (pg : Int) (ad : Option Addr) (cap : Nat) (l : List Int) (w : World) (h : StAt w G p S) (hs : 0 ≤ S.steps ∧ S.steps < 9223372036854775808)
    (hp : 0 ≤ pg ∧ pg < S.safe.length) (hd : S.down = false) (hfew : S.loose.length < 1000000) (hb : SlAt w ad l.length (fn l)) (hn : ad = none → l.length = 0 ∧ cap = 0) (hy : ∀ y, y ∈ l → 0 ≤ y ∧ y ≤ 255) (hl : l.length ≤ 4096) :
    Calls Tryz.prog 10 #[.pointer (some ⟨p, 0, none⟩), .int .i64 pg, .slice ad l.length cap] w (WrS G p S pg l w) := by
  obtain ⟨q, lo, F, h0, hG⟩ := h
  refine (write_ok p q lo F S pg ad cap l w h0 hs hp hd hfew hb hn hy hl).mono ?_
  rintro e w' ⟨rfl, y, hy, lo', F', h1, hF, hM⟩
  exact ⟨rfl, y, hy, ⟨q, lo', F', h1, fun k hk => (hM k hk).imp (hG k) id⟩, hF.mono fun k _ hk => hG k hk⟩
theorem writeB_st (G : Nat → Prop) (p : Nat) (S : St) (pg : Int) (ad : Option Addr) (n cap : Nat) (w : World) (h : StAt w G p S) (hn : wrE S pg n ≠ 0) :
    Calls Tryz.prog 10 #[.pointer (some ⟨p, 0, none⟩), .int .i64 pg, .slice ad n cap] w fun e w' => e = .returned (errV (wrE S pg n)) ∧ w' = w := by
  obtain ⟨q, lo, F, h0, hG⟩ := h
  exact write_bad p q lo F S pg ad n cap w h0 hn
theorem read_st (G : Nat → Prop) (p : Nat) (S : St) (pg : Int) (w : World) (h : StAt w G p S) (hp : 0 ≤ pg ∧ pg < S.safe.length) (hd : S.down = false) :
    Calls Tryz.prog 23 #[.pointer (some ⟨p, 0, none⟩), .int .i64 pg] w (RdR w (lastB S pg).l) := by
  obtain ⟨q, lo, F, h0, hG⟩ := h
  exact read_ok p q lo F S pg w h0 hp hd
theorem readB_st (G : Nat → Prop) (p : Nat) (S : St) (pg : Int) (w : World) (h : StAt w G p S) (hn : rdE S pg ≠ 0) :
    Calls Tryz.prog 23 #[.pointer (some ⟨p, 0, none⟩), .int .i64 pg] w fun e w' => e = .returned (.tuple #[.slice none 0 0, errV (rdE S pg)]) ∧ w' = w := by
  obtain ⟨q, lo, F, h0, hG⟩ := h
  exact read_bad p q lo F S pg w h0 hn
theorem loose_st (G : Nat → Prop) (p : Nat) (S : St) (w : World) (h : StAt w G p S) :
    Calls Tryz.prog 22 #[.pointer (some ⟨p, 0, none⟩)] w fun e w' => e = .returned (.int .i64 S.loose.length) ∧ w' = w := by
  obtain ⟨q, lo, F, h0, hG⟩ := h
  exact loose_any p q lo F S w h0
/-- Start: what a store says. -/
def StaS (G : Nat → Prop) (p : Nat) (S : St) (K : Nat → Bool) (w : World) (e : Ending) (w' : World) : Prop :=
  e = .returned (.tuple #[]) ∧ StAt w' G p (S.started K) ∧ Fr G w w'
theorem start_st (G : Nat → Prop) (p : Nat) (S : St) (ad : Option Addr) (cap : Nat) (ks : List Int) (w : World) (h : StAt w G p S) (hk : IsL w ad ks) (hks : ks.length ≤ 140737488355328) :
    Calls Tryz.prog 28 #[.pointer (some ⟨p, 0, none⟩), .slice ad ks.length cap] w (StaS G p S (toldK ks) w) := by
  obtain ⟨q, lo, F, h0, hG⟩ := h
  refine (start_any p q lo F S ad cap ks w h0 hk hks).mono ?_
  rintro e w' ⟨rfl, h1, hF⟩
  exact ⟨rfl, ⟨q, _, F, h1, fun k hk => hG k (cut0_mine.1 hk)⟩, hF.mono fun k _ hk => hG k hk⟩
def NewS (n : Nat) (w : World) (e : Ending) (w' : World) : Prop :=
  e = .returned (.tuple #[.pointer (some ⟨w.heap.size + 1, 0, none⟩), .nilIface]) ∧ StAt w' (Gn (fun _ => False) w w') (w.heap.size + 1) (newS n) ∧ Below w.heap.size w w'
theorem new_st (n : Nat) (h1 : 1 ≤ n) (h2 : n ≤ 4096) (w : World) : Calls Tryz.prog 9 #[.int .i64 (n : Int)] w (NewS n w) := by
  refine (new_any n h1 h2 w).mono ?_
  rintro e w' ⟨rfl, h0, hb, hs⟩
  exact ⟨rfl, ⟨_, _, _, h0, fun k hk => by
    refine .inr ?_
    rcases hk with rfl | rfl | hk | hk
    · omega
    · omega
    · cases hk
    · exact hk.elim⟩, hb⟩
end Go.Proofs.YtmekplaonlpfkaaGreatDoor
/- Sync. -/
namespace Go.Proofs.YtmekplaonlpfkaaGreatDoor
open Go.RowKit

attribute [local go_sem ↓] Go.wp_at_zero Go.wp_at_succ

def allK (_ : Nat) : Bool := true
theorem sync1_any (i : Nat) (w : World) : Calls Tryz.prog 109 #[.int .i64 (i : Int)] w fun e w' => e = .returned (.bool (allK i)) ∧ w' = w := by
  go_enter Tryz.func109, Tryz.ntmps109
  go_wp2
  go_ret
  exact ⟨rfl, rfl⟩
/-- What a Sync leaves of a store that has not crashed. -/
def syncS (S : St) : St := if stepE S = 0 then (stepS S).settled allK else stepS S
def SyS (G : Nat → Prop) (p : Nat) (S : St) (w : World) (e : Ending) (w' : World) : Prop :=
  e = .returned (errV (stepE S)) ∧ StAt w' G p (syncS S) ∧ Fr G w w'
theorem stepS_down (S : St) : (stepS S).safe = S.safe ∧ (stepS S).loose = S.loose := by
  unfold stepS
  split
  · exact ⟨rfl, rfl⟩
  · split <;> exact ⟨rfl, rfl⟩
set_option maxRecDepth 100000 in
set_option maxHeartbeats 1600000 in
theorem sync_st (G : Nat → Prop) (p : Nat) (S : St) (w : World) (h : StAt w G p S) (hs : 0 ≤ S.steps ∧ S.steps < 9223372036854775808) (hd : S.down = false) :
    Calls Tryz.prog 82 #[.pointer (some ⟨p, 0, none⟩)] w (SyS G p S w) := by
  obtain ⟨q, lo, F, h0, hG⟩ := h
  have h4 := h0.c4
  rw [hd] at h4
  have hst := step_any p q lo F S w h0 hs
  have HN : Hid (∀ w1, St0 w1 p q lo F (stepS S) → Frm [p] w w1 → stepE S = 0 → Calls Tryz.prog 57 #[.pointer (some ⟨p, 0, none⟩), .func (.func 109) #[] #[]] w1 fun e w' => e = .returned (.tuple #[]) ∧ SyS G p S w (.returned .nilIface) w') := fun w1 h1 hf he => by
    refine (settle_any p q lo F (stepS S) 109 #[] allK [] w1 h1 (enters_of Tryz.func109 (by kernel_rfl) rfl) (fun W i _ _ => sync1_any i W) (fun k hk => by cases hk)).mono ?_
    rintro e w2 ⟨rfl, h2, hF⟩
    refine ⟨rfl, by rw [he]; rfl, ⟨q, _, F, ?_, fun k hk => hG k (cut0_mine.1 hk)⟩, ((Fr.ofFrm hf).mono (M' := G) fun k _ hk => ?_).trans hF (fun k _ hk => hG k hk)⟩
    · rw [syncS, if_pos he]; exact h2
    · have : k = p := by simpa using hk
      exact hG k (.inl this)
  have HX : Hid (∀ w1, St0 w1 p q lo F (stepS S) → Frm [p] w w1 → stepE S ≠ 0 → SyS G p S w (.returned (errV (stepE S))) w1) := fun w1 h1 hf he =>
    ⟨rfl, ⟨q, lo, F, by rw [syncS, if_neg he]; exact h1, hG⟩, (Fr.ofFrm hf).mono fun k _ hk => by
      have : k = p := by simpa using hk
      exact hG k (.inl this)⟩
  clear h0 hG hd hs
  by_cases he : stepE S = 0
  · go_enter Tryz.func82, Tryz.ntmps82
    go_wp2_with fail
    refine hst.mono ?_
    rintro e w1 ⟨rfl, h1, hf, _⟩
    have hse := HN.out w1 h1 hf he
    have ee : errV (stepE S) = .nilIface := by rw [he]; rfl
    rw [ee]
    clear HN HX h1 hf hst he ee
    go_wp2_with fail
    refine hse.mono ?_
    rintro e w2 ⟨rfl, hR⟩
    have HR : Hid (SyS G p S w (.returned .nilIface) w2) := hR
    clear hse hR
    go_wp2
    go_ret
    exact HR.out
  · go_enter Tryz.func82, Tryz.ntmps82
    go_wp2_with fail
    refine hst.mono ?_
    rintro e w1 ⟨rfl, h1, hf, _⟩
    have hR := HX.out w1 h1 hf he
    rw [errV_ne he] at hR ⊢
    have HR : Hid (SyS G p S w (.returned (.iface 72 (.int .i64 (stepE S)))) w1) := hR
    clear hR HN HX h1 hf hst he
    go_wp2
    go_ret
    exact HR.out
set_option maxRecDepth 100000 in
set_option maxHeartbeats 1600000 in
theorem syncB_st (G : Nat → Prop) (p : Nat) (S : St) (w : World) (h : StAt w G p S) (hd : S.down = true) :
    Calls Tryz.prog 82 #[.pointer (some ⟨p, 0, none⟩)] w fun e w' => e = .returned (errV 13) ∧ w' = w := by
  obtain ⟨q, lo, F, h0, hG⟩ := h
  have h4 := h0.c4
  rw [hd] at h4
  rw [errV_ne (by decide)]
  clear h0 hG
  go_enter Tryz.func82, Tryz.ntmps82
  go_wp2
  go_ret
  exact ⟨rfl, rfl⟩
end Go.Proofs.YtmekplaonlpfkaaGreatDoor
/- Arm; Down. -/
namespace Go.Proofs.YtmekplaonlpfkaaGreatDoor
open Go.RowKit

attribute [local go_sem ↓] Go.wp_at_zero Go.wp_at_succ

def St.arm (S : St) (n : Int) : St := { S with armed := true, steps := n }
def ArmS (G : Nat → Prop) (p : Nat) (S : St) (w : World) (e : Ending) (w' : World) : Prop := e = .returned .nilIface ∧ StAt w' G p S ∧ Fr G w w'
set_option maxRecDepth 100000 in
set_option maxHeartbeats 1600000 in
theorem arm_st (G : Nat → Prop) (p : Nat) (S : St) (n : Int) (w : World) (h : StAt w G p S) (hn : 0 ≤ n) :
    Calls Tryz.prog 26 #[.pointer (some ⟨p, 0, none⟩), .int .i64 n] w (ArmS G p (S.arm n) w) := by
  obtain ⟨q, lo, F, h0, hG⟩ := h
  have c2 := h0.c2
  have f2 := h0.fz 2
  have t1 := h0.turn 2 (.bool true) { S with armed := true } _ rfl rfl rfl rfl
  have c3 := t1.c3
  have f3 := t1.fz 3
  have t2 := t1.turn 3 (.int .i64 n) (S.arm n) _ rfl rfl rfl rfl
  have HE : Hid (ArmS G p (S.arm n) w (.returned .nilIface) ((w.setCell ⟨p, 2, none⟩ (.bool true)).setCell ⟨p, 3, none⟩ (.int .i64 n))) := ⟨rfl, ⟨q, lo, F, t2, hG⟩, ((Fr.refl G w).setCell ⟨p, 2, none⟩ _ (hG p (.inl rfl))).setCell ⟨p, 3, none⟩ _ (hG p (.inl rfl))⟩
  have hn' : ¬ n < 0 := by omega
  clear h0 hG t1 t2
  go_enter Tryz.func26, Tryz.ntmps26
  go_wp2
  go_ret
  exact HE.out
set_option maxRecDepth 100000 in
set_option maxHeartbeats 1600000 in
theorem armB_st (p : Nat) (n : Int) (w : World) (hn : n < 0) :
    Calls Tryz.prog 26 #[.pointer (some ⟨p, 0, none⟩), .int .i64 n] w fun e w' => e = .returned (errV 1) ∧ w' = w := by
  rw [errV_ne (by decide)]
  go_enter Tryz.func26, Tryz.ntmps26
  go_wp2
  go_ret
  exact ⟨rfl, rfl⟩
theorem down_st (G : Nat → Prop) (p : Nat) (S : St) (w : World) (h : StAt w G p S) :
    Calls Tryz.prog 27 #[.pointer (some ⟨p, 0, none⟩)] w fun e w' => e = .returned (.bool S.down) ∧ w' = w := by
  obtain ⟨q, lo, F, h0, hG⟩ := h
  have h4 := h0.c4
  clear h0 hG
  go_enter Tryz.func27, Tryz.ntmps27
  go_wp2
  go_ret
  exact ⟨rfl, rfl⟩
theorem pages_st (G : Nat → Prop) (p : Nat) (S : St) (w : World) (h : StAt w G p S) :
    Calls Tryz.prog 34 #[.pointer (some ⟨p, 0, none⟩)] w fun e w' => e = .returned (.int .i64 S.safe.length) ∧ w' = w := by
  obtain ⟨q, lo, F, h0, hG⟩ := h
  exact pages_any p q lo F S w h0
end Go.Proofs.YtmekplaonlpfkaaGreatDoor
/- A store by what its pages hold. -/
namespace Go.Proofs.YtmekplaonlpfkaaGreatDoor
open Go.RowKit

/-- What a store's pages hold, and its loose writes. -/
structure Ct where
  safe : List (List Int)
  loose : List (Int × List Int)
  armed : Bool
  steps : Int
  down : Bool
def St.ct (S : St) : Ct := ⟨S.safe.map Bs.l, S.loose.map fun x => (x.1, x.2.l), S.armed, S.steps, S.down⟩
def Ct.put (c : Ct) (pg : Int) (l : List Int) : Ct := { c with loose := c.loose ++ [(pg, l)] }
def Ct.step (c : Ct) : Ct := if c.armed = false then c else if 0 < c.steps then { c with steps := c.steps - 1 } else { c with down := true }
def Ct.stepE (c : Ct) : Int := if c.armed = false then 0 else if 0 < c.steps then 0 else 13
def setC (K : Nat → Bool) : Nat → List (Int × List Int) → List (List Int) → List (List Int)
  | _, [], s => s
  | i, x :: r, s => setC K (i + 1) r (if K i = true then s.set x.1.toNat x.2 else s)
def Ct.settled (c : Ct) (K : Nat → Bool) : Ct := { c with safe := setC K 0 c.loose c.safe, loose := [] }
def Ct.sync (c : Ct) : Ct := if c.stepE = 0 then c.step.settled allK else c.step
def Ct.started (c : Ct) (K : Nat → Bool) : Ct := { c.settled K with armed := false, down := false }
def Ct.last (c : Ct) (pg : Int) : List Int := match c.loose.reverse.find? (fun x => x.1 == pg) with
  | some x => x.2
  | none => (c.safe[pg.toNat]?).getD []
theorem ct_put (S : St) (pg : Int) (y : Bs) : (S.put pg y).ct = S.ct.put pg y.l := by simp [St.ct, St.put, Ct.put]
theorem ct_step (S : St) : (stepS S).ct = S.ct.step := by
  by_cases h1 : S.armed = false
  · simp [stepS, Ct.step, St.ct, h1]
  · by_cases h2 : 0 < S.steps
    · simp [stepS, Ct.step, St.ct, h1, h2]
    · simp [stepS, Ct.step, St.ct, h1, h2]
theorem ct_stepE (S : St) : stepE S = S.ct.stepE := rfl
theorem ct_set (K : Nat → Bool) : ∀ (L : List (Int × Bs)) (i : Nat) (s : List Bs), (setF K i L s).map Bs.l = setC K i (L.map fun x => (x.1, x.2.l)) (s.map Bs.l)
  | [], _, _ => rfl
  | x :: r, i, s => by
    simp only [setF, List.map_cons, setC]
    rw [ct_set K r]
    split
    · rw [List.map_set]
    · rfl
theorem ct_settled (S : St) (K : Nat → Bool) : (S.settled K).ct = S.ct.settled K := by simp [St.ct, St.settled, Ct.settled, ct_set]
theorem ct_sync (S : St) : (syncS S).ct = S.ct.sync := by
  unfold syncS Ct.sync
  rw [ct_stepE]
  split
  · rw [ct_settled, ct_step]
  · rw [ct_step]
theorem ct_started (S : St) (K : Nat → Bool) : (S.started K).ct = S.ct.started K := by
  have := ct_settled S K
  simp only [St.ct, St.started, Ct.started, Ct.mk.injEq] at this ⊢
  simp only [Ct.settled, Ct.mk.injEq] at this
  simp [Ct.settled, this]
theorem ct_last (S : St) (pg : Int) : (lastB S pg).l = S.ct.last pg := by
  unfold lastB Ct.last
  simp only [St.ct]
  rw [← List.map_reverse, List.find?_map]
  have : ((fun x : Int × List Int => x.1 == pg) ∘ fun x : Int × Bs => (x.1, x.2.l)) = fun x : Int × Bs => x.1 == pg := rfl
  rw [this]
  cases S.loose.reverse.find? (fun x => x.1 == pg) with
  | some x => rfl
  | none =>
    simp only [Option.map_none, List.getElem?_map]
    cases S.safe[pg.toNat]? <;> rfl
/-- A store in memory that holds c; all its blocks are of G. -/
def CtAt (w : World) (G : Nat → Prop) (p : Nat) (c : Ct) : Prop := ∃ S, StAt w G p S ∧ S.ct = c
theorem CtAt.below {w w' : World} {G : Nat → Prop} {p : Nat} {c : Ct} (h : CtAt w G p c) (hb : Below w.heap.size w w') : CtAt w' G p c := by
  obtain ⟨S, h1, h2⟩ := h
  exact ⟨S, h1.below hb, h2⟩
theorem CtAt.keep {w w' : World} {G : Nat → Prop} {p : Nat} {c : Ct} (h : CtAt w G p c) (hs : w.heap.size ≤ w'.heap.size) (hk : ∀ k, k < w.heap.size → G k → w'.heap[k]? = w.heap[k]?) : CtAt w' G p c := by
  obtain ⟨S, h1, h2⟩ := h
  exact ⟨S, h1.keep hs hk, h2⟩
theorem CtAt.mono {w : World} {G G' : Nat → Prop} {p : Nat} {c : Ct} (h : CtAt w G p c) (hg : ∀ k, G k → G' k) : CtAt w G' p c := by
  obtain ⟨S, h1, h2⟩ := h
  exact ⟨S, h1.mono hg, h2⟩
theorem CtAt.small {w : World} {G : Nat → Prop} {p : Nat} {c : Ct} (h : CtAt w G p c) : 0 < c.safe.length ∧ c.safe.length ≤ 4096 := by
  obtain ⟨S, ⟨q, lo, F, h0, _⟩, rfl⟩ := h
  exact ⟨by simpa [St.ct] using h0.pos, by simpa [St.ct] using h0.small⟩
/-- A store that goes on: new blocks are its own, too; all but its own are kept. -/
def StG (G : Nat → Prop) (p : Nat) (w w' : World) (c : Ct) : Prop := ∃ G' : Nat → Prop, CtAt w' G' p c ∧ (∀ k, G' k → G k ∨ (w.heap.size ≤ k ∧ k < w'.heap.size)) ∧ Fr G w w'
theorem StG.refl {G : Nat → Prop} {p : Nat} {w : World} {c : Ct} (h : CtAt w G p c) : StG G p w w c := ⟨G, h, fun _ h => .inl h, Fr.refl _ _⟩
theorem StG.ofBelow {G : Nat → Prop} {p : Nat} {w w' : World} {c : Ct} (h : CtAt w G p c) (hb : Below w.heap.size w w') : StG G p w w' c := ⟨G, h.below hb, fun _ h => .inl h, Fr.ofBelow hb⟩
/-- Pages, steps and loose writes are within bounds. -/
structure Ct.Ok (c : Ct) (n : Nat) : Prop where
  len : c.safe.length = n
  steps : 0 ≤ c.steps ∧ c.steps < 9223372036854775808
  up : c.down = false
  few : c.loose.length ≤ 100000
theorem write_ct (G : Nat → Prop) (p : Nat) (c : Ct) (n : Nat) (pg : Int) (ad : Option Addr) (cap : Nat) (l : List Int) (w : World) (h : CtAt w G p c) (ho : c.Ok n) (hp : 0 ≤ pg ∧ pg < n) (hb : SlAt w ad l.length (fn l)) (hn : ad = none → l.length = 0 ∧ cap = 0) (hy : ∀ y, y ∈ l → 0 ≤ y ∧ y ≤ 255) (hl : l.length ≤ 4096) :
    Calls Tryz.prog 10 #[.pointer (some ⟨p, 0, none⟩), .int .i64 pg, .slice ad l.length cap] w fun e w' => e = .returned (errV c.stepE) ∧ StG G p w w' (c.put pg l).step := by
  obtain ⟨S, hS, rfl⟩ := h
  have h1 : S.safe.length = n := by have := ho.len; simpa [St.ct] using this
  refine (write_st G p S pg ad cap l w hS ho.steps (by omega) ho.up (by have := ho.few; simp [St.ct] at this; omega) hb hn hy hl).mono ?_
  rintro e w' ⟨rfl, y, rfl, h2, h3⟩
  exact ⟨rfl, _, ⟨_, h2, by rw [ct_step, ct_put]⟩, fun k hk => hk, h3⟩
theorem sync_ct (G : Nat → Prop) (p : Nat) (c : Ct) (n : Nat) (w : World) (h : CtAt w G p c) (ho : c.Ok n) :
    Calls Tryz.prog 82 #[.pointer (some ⟨p, 0, none⟩)] w fun e w' => e = .returned (errV c.stepE) ∧ StG G p w w' c.sync := by
  obtain ⟨S, hS, rfl⟩ := h
  refine (sync_st G p S w hS ho.steps ho.up).mono ?_
  rintro e w' ⟨rfl, h2, h3⟩
  exact ⟨rfl, _, ⟨_, h2, ct_sync S⟩, fun k hk => .inl hk, h3⟩
theorem read_ct (G : Nat → Prop) (p : Nat) (c : Ct) (n : Nat) (pg : Int) (w : World) (h : CtAt w G p c) (ho : c.Ok n) (hp : 0 ≤ pg ∧ pg < n) :
    Calls Tryz.prog 23 #[.pointer (some ⟨p, 0, none⟩), .int .i64 pg] w (RdR w (c.last pg)) := by
  obtain ⟨S, hS, rfl⟩ := h
  have h1 : S.safe.length = n := by have := ho.len; simpa [St.ct] using this
  have := read_st G p S pg w hS (by omega) ho.up
  rwa [ct_last] at this
def newC (n : Nat) : Ct := ⟨List.replicate n [], [], false, 0, false⟩
theorem new_ct (n : Nat) (h1 : 1 ≤ n) (h2 : n ≤ 4096) (w : World) : Calls Tryz.prog 9 #[.int .i64 (n : Int)] w fun e w' => ∃ p, e = .returned (.tuple #[.pointer (some ⟨p, 0, none⟩), .nilIface]) ∧ StG (fun _ => False) p w w' (newC n) ∧ Below w.heap.size w w' := by
  refine (new_st n h1 h2 w).mono ?_
  rintro e w' ⟨rfl, h3, h4⟩
  refine ⟨_, rfl, ⟨_, ⟨_, h3, ?_⟩, fun k hk => hk, Fr.ofBelow h4⟩, h4⟩
  simp [St.ct, newS, newC, nilBs]
theorem pages_ct (G : Nat → Prop) (p : Nat) (c : Ct) (n : Nat) (w : World) (h : CtAt w G p c) (ho : c.safe.length = n) :
    Calls Tryz.prog 34 #[.pointer (some ⟨p, 0, none⟩)] w fun e w' => e = .returned (.int .i64 (n : Int)) ∧ w' = w := by
  obtain ⟨S, hS, rfl⟩ := h
  have := pages_st G p S w hS
  have e : S.safe.length = n := by simpa [St.ct] using ho
  rwa [e] at this
/-- Some writes, one behind the other, till one fails. -/
def Ct.wrs : Ct → List (Int × List Int) → Int × Ct
  | c, [] => (0, c)
  | c, x :: r => if c.stepE = 0 then (c.put x.1 x.2).step.wrs r else (c.stepE, (c.put x.1 x.2).step)
/-- The root, and a Sync. -/
def Ct.root (c : Ct) (fr : Int) (root : List Int) : Int × Ct := if c.stepE = 0 then ((c.put fr root).step.stepE, (c.put fr root).step.sync) else (c.stepE, (c.put fr root).step)
/-- What a Set does to the store: the leaves, and a Sync if there is one; the root, and a Sync. -/
def Ct.lay (c : Ct) (ws : List (Int × List Int)) (fr : Int) (root : List Int) : Int × Ct :=
  if (c.wrs ws).1 = 0 then
    if ws = [] then (c.wrs ws).2.root fr root
    else if (c.wrs ws).2.stepE = 0 then (c.wrs ws).2.sync.root fr root else ((c.wrs ws).2.stepE, (c.wrs ws).2.sync)
  else c.wrs ws
theorem setC_length (K : Nat → Bool) : ∀ (L : List (Int × List Int)) (i : Nat) (s : List (List Int)), (setC K i L s).length = s.length
  | [], _, _ => rfl
  | x :: r, i, s => by
    simp only [setC]
    rw [setC_length K r]
    split <;> simp
/-- A step that goes well keeps bounds. -/
theorem Ct.Ok.step {c : Ct} {n : Nat} (h : c.Ok n) (he : c.stepE = 0) : c.step.Ok n := by
  unfold Ct.stepE at he
  unfold Ct.step
  split
  · exact h
  · rename_i h1
    rw [if_neg h1] at he
    split
    · rename_i h2
      have := h.steps
      exact ⟨h.len, by simp only; omega, h.up, h.few⟩
    · rename_i h2; rw [if_neg h2] at he; cases he
theorem Ct.Ok.put {c : Ct} {n : Nat} (h : c.Ok n) (pg : Int) (l : List Int) (hf : c.loose.length < 100000) : (c.put pg l).Ok n := ⟨h.len, h.steps, h.up, by simp [Ct.put]; omega⟩
theorem Ct.stepE_put (c : Ct) (pg : Int) (l : List Int) : (c.put pg l).stepE = c.stepE := rfl
theorem Ct.Ok.sync {c : Ct} {n : Nat} (h : c.Ok n) (he : c.stepE = 0) : c.sync.Ok n := by
  unfold Ct.sync
  rw [if_pos he]
  have h1 := h.step he
  exact ⟨by simp [Ct.settled, setC_length, h1.len], h1.steps, h1.up, by simp [Ct.settled]⟩
theorem Ct.step_loose (c : Ct) : c.step.loose = c.loose := by
  by_cases h1 : c.armed = false
  · simp [Ct.step, h1]
  · by_cases h2 : 0 < c.steps <;> simp [Ct.step, h1, h2]
end Go.Proofs.YtmekplaonlpfkaaGreatDoor
/- Rows of ints of one's own: append. (CIow0, beside pages' texts.) -/
namespace Go.Proofs.YtmekplaonlpfkaaGreatDoor
open Go.RowKit

theorem infoInt : (Tryz.prog.info? 3).map (fun i => (i.zero, i.size, i.bytes)) = some (some (.int .i64 0), 1, 8) := by kernel_rfl
def iC (L : List Int) : List Value := L.map (Value.int .i64)
/-- What is appended: ints that lie somewhere, or nothing. -/
def ISrc (w : World) (u : Value) (ys : List Int) : Prop :=
  ∃ ad c, u = .slice ad ys.length c ∧ ((ad = none ∧ ys = []) ∨ ∃ a, ad = some a ∧ ∀ j v, (iC ys)[j]? = some v → w.cell? (a.add j) = some v)
theorem one_isrc {w : World} {r : Nat} {y : Int} (hr : w.heap[r]? = some (.cells #[.int .i64 y] 3 (0, 0))) : ISrc w (.slice (some ⟨r, 0, none⟩) 1 1) [y] :=
  ⟨_, _, rfl, .inr ⟨_, rfl, fun j v hv => by rw [Addr.add_lit, Nat.zero_add, cell_of_row _ _ j _ _ _ hr]; simpa [iC] using hv⟩⟩
/-- A value that owns ints, made since w0; nothing that was there in w0 has changed. -/
structure IOw (w0 w : World) (v : Value) (L : List Int) : Prop where
  own : w.ownsRow w0.heap.size 3 1 v L.length (iC L)
  below : Below w0.heap.size w0 w
theorem IOw.nil (w : World) : IOw w w (.slice none 0 0) [] := ⟨World.ownsRow_nil _ _ _ _, Below.refl _ _⟩
theorem IOw.nil' {w0 w : World} (h : Below w0.heap.size w0 w) : IOw w0 w (.slice none 0 0) [] := ⟨World.ownsRow_nil _ _ _ _, h⟩
theorem IOw.keep {w0 w w' : World} {v : Value} {L : List Int} (h : IOw w0 w v L) (hb : Below w.heap.size w w') : IOw w0 w' v L := by
  refine ⟨⟨h.own.1, ?_⟩, h.below.trans (hb.mono h.below.size)⟩
  rcases h.own.2 with hn | ⟨g, cap, cur, e, hbs, hg, rest⟩
  · exact .inl hn
  · exact .inr ⟨g, cap, cur, e, hbs, by rw [hb.block _ (lt_of_block hg)]; exact hg, rest⟩
theorem IOw.mono {w w0 w1 : World} {v : Value} {L : List Int} (h : IOw w0 w1 v L) (hb : Below w.heap.size w w0) : IOw w w1 v L := by
  refine ⟨⟨h.own.1, ?_⟩, hb.trans (h.below.mono hb.size)⟩
  rcases h.own.2 with hn | ⟨g, cap, cur, e, hbs, rest⟩
  · exact .inl hn
  · exact .inr ⟨g, cap, cur, e, Nat.le_trans hb.size hbs, rest⟩
theorem IOw.form {w0 w : World} {v : Value} {L : List Int} (h : IOw w0 w v L) : (v = .slice none 0 0 ∧ L = []) ∨ ∃ g cap, v = .slice (some ⟨g, 0, none⟩) L.length cap ∧ L.length ≤ cap ∧ cap ≤ maxLen ∧ w0.heap.size ≤ g ∧ g < w.heap.size ∧ ∀ j x, L[j]? = some x → w.cell? ⟨g, 0 + j, none⟩ = some (.int .i64 x) := by
  rcases h.own.2 with ⟨rfl, e⟩ | ⟨g, cap, cur, rfl, hbs, hg, hc, hm, _⟩
  · exact .inl ⟨rfl, List.eq_nil_of_length_eq_zero e⟩
  · refine .inr ⟨g, cap, rfl, hc, hm, hbs, lt_of_block hg, fun j x hj => ?_⟩
    have := h.own.cells (g := g) rfl j (.int .i64 x) (by simp [iC, hj])
    rwa [Addr.add_lit] at this
theorem IOw.sl {w0 w : World} {v : Value} {L : List Int} (h : IOw w0 w v L) : ∃ ad cap, v = .slice ad L.length cap ∧ IsL w ad L ∧ L.length ≤ cap := by
  rcases h.form with ⟨rfl, rfl⟩ | ⟨g, c, rfl, hc1, _, _, _, hc⟩
  · exact ⟨none, 0, rfl, (fun h => by cases h), Nat.le_refl _⟩
  · exact ⟨_, c, rfl, (fun _ => ⟨g, 0, rfl, hc⟩), hc1⟩
theorem run_append_I (w w0 : World) (ty : TypeId) (v u : Value) (L ys : List Int) (hown : IOw w0 w v L) (hu : ISrc w u ys) (hlen : L.length + ys.length ≤ 1000000) :
    ∃ v' w1, (Builtin.append_ #[63, 63] ty #[v, u]).run Tryz.prog w = .ok v' w1 ∧ IOw w0 w1 v' (L ++ ys) ∧ (∀ k, k < w.heap.size → v.ownBlock ≠ some k → w1.heap[k]? = w.heap[k]?) := by
  obtain ⟨i0, hi0, hz0, hz1, hz2⟩ := info_parts infoInt
  obtain ⟨ad, c, rfl, ⟨rfl, rfl⟩ | ⟨a, rfl, hc⟩⟩ := hu
  · refine ⟨v, w, ?_, by simpa using hown, fun _ _ _ => rfl⟩
    rcases hown.own.2 with ⟨rfl, hl⟩ | ⟨g, cap, cur, rfl, hbs, hg, hcap, _⟩
    · simp [Builtin.append_, run_underlying Tryz.underlying63, sizeOf, typeInfo, hi0, Builtin.lenOf, Builtin.firstCells]
    · have := run_append_room_src (P := Tryz.prog) w 63 63 ty 3 i0 Tryz.underlying63 hi0 g 0 L.length cap (.slice none 0 c) 0 [] (Src.ofNil w Tryz.underlying63 c) (by omega) (fun j hj => by simp at hj) (fun j hj => by simp at hj)
      simpa [World.setCells] using this
  · obtain ⟨v', w1, hr, h2, h3, _, h5⟩ := run_append_own_at (P := Tryz.prog) w w0.heap.size 63 ty 3 i0 (.int .i64 0) 1 8 Tryz.underlying63 hi0 hz0 hz1 hz2 rfl (by decide) v L.length (iC L) hown.own a ys.length c (iC ys) (by simp [iC]) hc
      (fun u hu => by obtain ⟨y, _, rfl⟩ := List.mem_map.1 hu; rfl) (by simp only [maxLen]; omega) (by omega) hown.below.size
    refine ⟨v', w1, hr, ⟨by simpa [iC] using h2, hown.below.trans ⟨h3.os, h3.tape, h3.output, h3.size, fun k hk => h3.block k (by have := hown.below.size; omega) (fun e => ?_)⟩⟩, fun k hk hne => h3.block k hk (fun e => hne e.symm)⟩
    have := (hown.own.lt k e.symm).1
    omega
theorem wpList_append_I {ops : Array Oper} {rest : List Oper} {o : Oper} {a : Act} {w : World} {Q : Exit → Act → World → Prop} (hgd : o.guard = none) (s x : Operand) (ho : o.op = .call { callee := .builtin .append, args := #[s, x], argTypes := #[63, 63] })
    (w0 : World) (v u : Value) (L ys : List Int) (hs : a.eval s = v) (hx : a.eval x = u) (hown : IOw w0 w v L) (hu : ISrc w u ys) (hlen : L.length + ys.length ≤ 1000000)
    (h : ∀ v' w1, IOw w0 w1 v' (L ++ ys) → wpList Tryz.prog ops Q rest (a.put o.dst v') w1) : wpList Tryz.prog ops Q (o :: rest) a w := by
  obtain ⟨v', w1, hr, h2, _⟩ := run_append_I w w0 o.type v u L ys hown hu hlen
  refine wpList_plain hgd fun K hK => ?_
  unfold Oper.wp execOp
  simp only [ho, resolve, invoke, builtin, Sem.run_bind, Sem.run_pure, Result.andThen_ok, List.map_toArray, List.map_cons, List.map_nil, hs, hx, hr]
  exact hK _ _ (h v' w1 h2)
theorem IOw.alloc {w0 w : World} {v : Value} {L : List Int} (h : IOw w0 w v L) (o : Obj) : IOw w0 (w.alloc o) v L := h.keep ((Below.refl _ w).alloc (Nat.le_refl _) _)
end Go.Proofs.YtmekplaonlpfkaaGreatDoor
/- Which places the root page tells: what is read. -/
namespace Go.Proofs.YtmekplaonlpfkaaGreatDoor
open Go.RowKit

attribute [local go_sem ↓] Go.wp_at_zero Go.wp_at_succ

/-- What is left behind i numbers; the number i. -/
def stN (most : Int) : Nat → Option (List Int) → Option (List Int)
  | 0, q => q
  | i + 1, q => ((stN most i q).bind (uintR most)).map Prod.snd
def vlN (most : Int) (i : Nat) (q : Option (List Int)) : Int := (((stN most i q).bind (uintR most)).map Prod.fst).getD 0
def vals (most : Int) (k : Nat) (q : Option (List Int)) : List Int := (List.range k).map fun i => vlN most i q
theorem vals_length (most : Int) (k : Nat) (q : Option (List Int)) : (vals most k q).length = k := by simp [vals]
def riseI : Int → List Int → Bool
  | _, [] => true
  | b, x :: r => if x ≤ b then false else riseI x r
/-- The places that a root page tells. -/
def rootR (last : Int) (b : List Int) : Option (List Int) :=
  if b.length = 0 then some [] else
    if endsR (stN last (((countR last b).map Prod.fst).getD 0).toNat ((countR last b).map Prod.snd)) = true ∧ riseI 0 (vals last (((countR last b).map Prod.fst).getD 0).toNat ((countR last b).map Prod.snd)) = true
    then some (vals last (((countR last b).map Prod.fst).getD 0).toNat ((countR last b).map Prod.snd)) else none
theorem uV_le {n : Nat} {z : Nat → Int} {most : Int} (h : uE n z most = 0) : uV n z most ≤ most := by
  rw [uV, if_pos h]
  unfold uE at h
  split at h
  · simp at h
  · split at h
    · simp at h
    · split at h
      · split at h
        · simp at h
        · rename_i h4; omega
      · rename_i h3; exact absurd h h3
theorem bd_fn {l : List Int} (h : ∀ y, y ∈ l → 0 ≤ y ∧ y ≤ 255) : ∀ j, j < l.length → 0 ≤ fn l j ∧ fn l j ≤ 255 := fn_bd h
theorem uintR_bd {most v : Int} {l r : List Int} (hl : ∀ y, y ∈ l → 0 ≤ y ∧ y ≤ 255) (h : uintR most l = some (v, r)) : 0 ≤ v ∧ v ≤ most ∧ ∀ y, y ∈ r → 0 ≤ y ∧ y ≤ 255 := by
  unfold uintR at h
  split at h
  · rename_i hE
    cases h
    have h1 := uV_bd (n := l.length) (z := fn l) most (bd_fn hl)
    exact ⟨h1.1, uV_le hE, fun y hy => hl y (List.mem_of_mem_drop hy)⟩
  · cases h
theorem countR_bd {most v : Int} {l r : List Int} (h0 : 0 ≤ most) (hl : ∀ y, y ∈ l → 0 ≤ y ∧ y ≤ 255) (h : countR most l = some (v, r)) : 0 ≤ v ∧ v ≤ most ∧ ∀ y, y ∈ r → 0 ≤ y ∧ y ≤ 255 := by
  unfold countR at h
  split at h
  · rename_i hE
    cases h
    have hu := cE_u hE
    have hm : max most 0 = most := by omega
    have h1 := uV_bd (n := l.length) (z := fn l) (max most 0) (bd_fn hl)
    rw [cV, if_pos hE]
    have h2 := uV_le hu
    rw [hm] at h1 h2 ⊢
    exact ⟨h1.1, h2, fun y hy => hl y (List.mem_of_mem_drop hy)⟩
  · cases h
def QBd (q : Option (List Int)) : Prop := ∀ l, q = some l → ∀ y, y ∈ l → 0 ≤ y ∧ y ≤ 255
theorem stN_bd {most : Int} {q : Option (List Int)} (h : QBd q) : ∀ i, QBd (stN most i q)
  | 0 => h
  | i + 1 => fun l hl y hy => by
    have ih := stN_bd (most := most) h i
    unfold stN at hl
    cases hs : stN most i q with
    | none => rw [hs] at hl; cases hl
    | some l0 =>
      rw [hs] at hl
      simp only [Option.bind_some] at hl
      cases hu : uintR most l0 with
      | none => rw [hu] at hl; cases hl
      | some x =>
        rw [hu] at hl
        cases hl
        exact (uintR_bd (ih l0 hs) hu).2.2 y hy
theorem vlN_bd {most : Int} {q : Option (List Int)} (h0 : 0 ≤ most) (h : QBd q) (i : Nat) : 0 ≤ vlN most i q ∧ vlN most i q ≤ most := by
  unfold vlN
  have hb := stN_bd (most := most) h i
  cases hs : stN most i q with
  | none => simpa using h0
  | some l0 =>
    simp only [Option.bind_some]
    cases hu : uintR most l0 with
    | none => simpa using h0
    | some x => have := uintR_bd (hb l0 hs) hu; simpa using ⟨this.1, this.2.1⟩
theorem CtAt.last_le {w : World} {G : Nat → Prop} {p : Nat} {c : Ct} (h : CtAt w G p c) (pg : Int) : (c.last pg).length ≤ 4096 := by
  obtain ⟨S, ⟨q, lo, F, h0, _⟩, rfl⟩ := h
  rw [← ct_last]
  exact (lastB_in h0).1.len
set_option maxRecDepth 100000 in
set_option maxHeartbeats 800000 in
theorem rise_any (ad : Option Addr) (cap : Nat) (ps : List Int) (w : World) (h : IsL w ad ps) (hl : ps.length ≤ 1000000) :
    Calls Tryz.prog 63 #[.slice ad ps.length cap] w fun e w' => e = .returned (.bool (riseI 0 ps)) ∧ w' = w := by
  have HL : Hid (IsL w ad ps) := h
  clear h
  obtain ⟨R, hR⟩ : ∃ R, riseI 0 ps = R := ⟨_, rfl⟩
  rw [hR]
  have HR : Hid (riseI 0 ps = R) := hR
  clear hR
  go_enter Tryz.func63, Tryz.ntmps63
  go_wp2
  go_loopw [3, 8] (fun bv iv wr => ∃ (i : Nat) (b : Int), i ≤ ps.length ∧ iv = .int .i64 i ∧ bv = .int .i64 b ∧ riseI b (ps.drop i) = R ∧ wr = w) (fun _ iv _ => ps.length - (intOf iv).toNat)
  case atStart => exact ⟨0, 0, Nat.zero_le _, rfl, rfl, HR.out, rfl⟩
  case round =>
    obtain ⟨i, b, hi, rfl, rfl, hr, rfl⟩ := hrel
    by_cases hlt : i < ps.length
    · have hlt' : (i : Int) < ps.length := by omega
      have hx : ps[i]? = some ps[i] := List.getElem?_eq_getElem hlt
      have hdr : ps.drop i = ps[i] :: ps.drop (i + 1) := List.drop_eq_getElem_cons hlt
      obtain ⟨bb, off, rfl, hc⟩ := HL.out (by omega)
      have hcx := hc i _ hx
      rw [hdr, riseI] at hr
      clear hc hx hdr
      generalize ps[i] = x at *
      by_cases hle : x ≤ b
      · rw [if_pos hle] at hr
        have HE : Hid (false = R) := hr
        clear hr
        go_wp2
        go_ret
        exact ⟨by rw [← HE.out]; rfl, rfl⟩
      · rw [if_neg hle] at hr
        have HE : Hid (riseI x (ps.drop (i + 1)) = R) := hr
        clear hr
        go_wp2
        refine ⟨⟨i + 1, x, by omega, by go_num, rfl, HE.out, by trivial⟩, by simp [intOf]; omega⟩
    · obtain rfl : i = ps.length := by omega
      have hlt' : ¬ ((ps.length : Int) < ps.length) := by omega
      rw [List.drop_length] at hr
      have HE : Hid (true = R) := hr
      clear hr
      go_wp2
      go_ret
      exact ⟨by rw [← HE.out]; rfl, rfl⟩
end Go.Proofs.YtmekplaonlpfkaaGreatDoor
