/- The document's ReadCount of a reader that has stopped, and its ReadHash. -/
import Derived.Test.YtchiapnhkhbigaaDoorOwnShelf40
import Derived.Deep.RegionHeld3
import Derived.Test.YtchiapnhkhbigaaDoorOwnShelf39
namespace Go.Proofs.YtchiapnhkhbigaaDoor
open Go.RowKit
set_option maxRecDepth 100000 in
set_option maxHeartbeats 400000 in
theorem refStopUint (ad : Option Addr) (n cap : Nat) (most : Int) (er : Int) (w : World) (he : (er == 0) = false) :
    Calls Tryd.prog 79 #[.agg #[.slice ad n cap, .int .i64 er], .int .u64 most] w fun e w' => e = .returned (.tuple #[.agg #[.slice ad n cap, .int .i64 er], .int .u64 0]) ∧ Below w.heap.size w w' := by
  go_enter Tryd.func79, Tryd.ntmps79
  go_wp2
  exact bodyPost_ret (v := .tuple #[.agg #[.slice ad n cap, .int .i64 er], .int .u64 0]) (by simp [results, Tryd.results79, go_sem]) rfl ⟨rfl, (by repeat (first | exact Below.refl _ _ | refine Below.alloc ?_ (by simp; try omega) _ | refine Below.setCell ?_ (by simp) _ | refine Go.below_drewN ?_ _ | refine Below.drew ?_))⟩

set_option maxHeartbeats 400000 in
theorem fail_ne (a : Option Addr) (n c : Nat) (er e : Int) (w : World) (he : (er == 0) = false) :
    Calls Tryd.prog 80 #[.agg #[.slice a n c, .int .i64 er], .int .i64 e] w fun ev w' => ev = .returned (.agg #[.slice a n c, .int .i64 er]) ∧ Below w.heap.size w w' := by
  go_enter Tryd.func80, Tryd.ntmps80
  go_wp2
  exact bodyPost_ret (v := .agg #[.slice a n c, .int .i64 er]) (by simp [results, Tryd.results80, go_sem]) rfl ⟨rfl, (by repeat (first | exact Below.refl _ _ | refine Below.alloc ?_ (by simp; try omega) _ | refine Below.setCell ?_ (by simp) _ | refine Go.below_drewN ?_ _ | refine Below.drew ?_))⟩

set_option maxRecDepth 100000 in
set_option maxHeartbeats 400000 in
theorem refStopCount_n (ad : Option Addr) (n cap : Nat) (most er : Int) (w : World) (he : (er == 0) = false) (hm0 : most < 0) :
    Calls Tryd.prog 52 #[.agg #[.slice ad n cap, .int .i64 er], .int .i64 most] w fun e w' => e = .returned (.tuple #[.agg #[.slice ad n cap, .int .i64 er], .int .i64 0]) ∧ Below w.heap.size w w' := by
  go_enter Tryd.func52, Tryd.ntmps52
  go_wp2_with fail
  refine (refStopUint ad n cap 0 er _ he).mono ?_
  rintro e w3 ⟨rfl, hb3⟩
  have hm4 := cnt_mid (o3 := (.cells #[.slice ad n cap, .int .i64 er] 96)) hb3
  have hz3 : w.heap.size + 2 ≤ w3.heap.size := by have := hb3.size; simpa using this
  have hd0 := two_cell0 hm4.2.1
  have hd1 := two_cell1 hm4.2.1
  have hdf := two_free hm4.2.1
  have hdz : w.heap.size + 1 < (w3.alloc (.cells #[.slice ad n cap, .int .i64 er] 96)).heap.size := by simp; omega
  have hq0 := two_cell0 hm4.1
  have hq1 := two_cell1 hm4.1
  clear hb3
  go_wp2_with (go_at_call 80; refine (fail_ne _ _ _ _ _ _ he).mono ?_; rintro e wf ⟨rfl, hbf⟩; have hf0 := (hbf.cell (p := ⟨w.heap.size + 1, 0, none⟩) hdz).trans hd0; have hf1 := (hbf.cell (p := ⟨w.heap.size + 1, 1, none⟩) hdz).trans hd1; have hff := fun o => (hbf.frozen (p := ⟨w.heap.size + 1, o, none⟩) hdz).trans (hdf o))
  exact bodyPost_ret (v := .tuple #[.agg #[.slice ad n cap, .int .i64 er], .int .i64 0]) (by simp [results, Tryd.results52, go_sem, hf0, hf1]) rfl ⟨rfl, ((hm4.2.2.trans (hbf.mono (by simp; omega))).setCell (by simp) _).setCell (by simp) _⟩

set_option maxRecDepth 100000 in
set_option maxHeartbeats 400000 in
theorem refStopCount_p (ad : Option Addr) (n cap : Nat) (most er : Int) (w : World) (he : (er == 0) = false) (hm0 : 0 ≤ most) (_hm1 : most ≤ 9223372036854775807) :
    Calls Tryd.prog 52 #[.agg #[.slice ad n cap, .int .i64 er], .int .i64 most] w fun e w' => e = .returned (.tuple #[.agg #[.slice ad n cap, .int .i64 er], .int .i64 0]) ∧ Below w.heap.size w w' := by
  go_enter Tryd.func52, Tryd.ntmps52
  go_wp2_with fail
  refine (refStopUint ad n cap most er _ he).mono ?_
  rintro e w3 ⟨rfl, hb3⟩
  have hm4 := cnt_mid (o3 := (.cells #[.slice ad n cap, .int .i64 er] 96)) hb3
  have hz3 : w.heap.size + 2 ≤ w3.heap.size := by have := hb3.size; simpa using this
  have hd0 := two_cell0 hm4.2.1
  have hd1 := two_cell1 hm4.2.1
  have hdf := two_free hm4.2.1
  have hdz : w.heap.size + 1 < (w3.alloc (.cells #[.slice ad n cap, .int .i64 er] 96)).heap.size := by simp; omega
  have hq0 := two_cell0 hm4.1
  have hq1 := two_cell1 hm4.1
  clear hb3
  go_wp2_with (go_at_call 80; refine (fail_ne _ _ _ _ _ _ he).mono ?_; rintro e wf ⟨rfl, hbf⟩; have hf0 := (hbf.cell (p := ⟨w.heap.size + 1, 0, none⟩) hdz).trans hd0; have hf1 := (hbf.cell (p := ⟨w.heap.size + 1, 1, none⟩) hdz).trans hd1; have hff := fun o => (hbf.frozen (p := ⟨w.heap.size + 1, o, none⟩) hdz).trans (hdf o))
  exact bodyPost_ret (v := .tuple #[.agg #[.slice ad n cap, .int .i64 er], .int .i64 0]) (by simp [results, Tryd.results52, go_sem, hf0, hf1]) rfl ⟨rfl, ((hm4.2.2.trans (hbf.mono (by simp; omega))).setCell (by simp) _).setCell (by simp) _⟩

theorem refStopCount (ad : Option Addr) (n cap : Nat) (most er : Int) (w : World) (he : (er == 0) = false) (hm : most ≤ 9223372036854775807) :
    Calls Tryd.prog 52 #[.agg #[.slice ad n cap, .int .i64 er], .int .i64 most] w fun e w' => e = .returned (.tuple #[.agg #[.slice ad n cap, .int .i64 er], .int .i64 0]) ∧ Below w.heap.size w w' := by
  by_cases h0 : most < 0
  · exact refStopCount_n ad n cap most er w he h0
  · exact refStopCount_p ad n cap most er w he (by omega) hm

/-- Of the first q bytes z, noughts behind. -/
def mix (z : Nat → Int) (q : Nat) : Nat → Int := fun j => if j < q then z j else 0
theorem mix_step (z : Nat → Int) (q : Nat) : (hv (mix z q)).setIfInBounds q (.int .u8 (z q)) = hv (mix z (q + 1)) := by
  apply Array.ext
  · simp [hv_size]
  · intro j h1 h2
    simp [hv_size] at h1
    simp only [hv, bl, mix]
    rw [Array.getElem_setIfInBounds (by simpa [hv_size] using h1)]
    by_cases e : q = j
    · subst e; simp
    · rw [if_neg e]
      simp
      by_cases hj : j < q
      · rw [if_pos hj, if_pos (by omega)]
      · rw [if_neg hj, if_neg (by omega)]
theorem mix_0 (z : Nat → Int) : hv (mix z 0) = hv nz := by
  have : mix z 0 = nz := by funext j; simp [mix, nz]
  rw [this]
theorem mix_32 (z : Nat → Int) : hv (mix z 32) = hv z := by
  have h : (List.range 32).map (fun j => Value.int .u8 (mix z 32 j)) = (List.range 32).map (fun j => Value.int .u8 (z j)) := List.map_congr_left (fun j hj => by simp [mix, List.mem_range.1 hj])
  simp only [hv, bl, h]


/-- Two readers and two sums, laid one behind the other: how the sums lie. -/
theorem four_range (w : World) (c1 c2 : Array Value) (t : TypeId) : ((((w.alloc (.cells c1 t)).alloc (.cells c2 t)).alloc (.cells (hv nz) 55)).alloc (.cells (hv nz) 55)).rangeAt (w.heap.size + 1 + 1 + 1) 0 (bl nz 32) ∧
    ((((w.alloc (.cells c1 t)).alloc (.cells c2 t)).alloc (.cells (hv nz) 55)).alloc (.cells (hv nz) 55)).there (w.heap.size + 1 + 1) 0 32 := by
  have h3 := heap_alloc_new (((w.alloc (.cells c1 t)).alloc (.cells c2 t)).alloc (.cells (hv nz) 55)) (.cells (hv nz) 55)
  have h2 : ((((w.alloc (.cells c1 t)).alloc (.cells c2 t)).alloc (.cells (hv nz) 55)).alloc (.cells (hv nz) 55)).heap[w.heap.size + 1 + 1]? = some (.cells (hv nz) 55) := by
    have := two_allocs_a ((w.alloc (.cells c1 t)).alloc (.cells c2 t)) (.cells (hv nz) 55) (.cells (hv nz) 55)
    simpa using this
  refine ⟨fun j v hv' => ?_, fun j hj => ⟨?_, ?_⟩⟩
  · rw [Nat.zero_add, cell_of_row _ (w.heap.size + 1 + 1 + 1) j (hv nz) 55 (0, 0) (by simpa using h3)]
    simpa [hv] using hv'
  · rw [Nat.zero_add, cell_of_row _ _ j _ _ _ h2]; simp [hv_size, hj]
  · rw [Nat.zero_add]; exact frozen_of_row _ _ j _ _ h2

theorem four_cells (w : World) (c1 c2 : Array Value) (t : TypeId) (o : Nat) : ((((w.alloc (.cells c1 t)).alloc (.cells c2 t)).alloc (.cells (hv nz) 55)).alloc (.cells (hv nz) 55)).cell? ⟨w.heap.size, o, none⟩ = c1[o]? := by
  refine cell_of_row _ _ o c1 t (0, 0) ?_
  rw [Below.heap_alloc _ _ _ (by simp; omega), Below.heap_alloc _ _ _ (by simp; omega)]
  exact two_allocs_a w _ _

end Go.Proofs.YtchiapnhkhbigaaDoor
/- The document's ReadHash. -/
namespace Go.Proofs.YtchiapnhkhbigaaDoor
open Go.RowKit

/-- Within 'return r, h': a reader's variable and its result, a sum's result and its variable, one behind the other. -/
def RetS (s : Nat) (cr : Array Value) (z : Nat → Int) (w w' : World) : Prop :=
  w'.heap[s]? = some (.cells cr 96 (0, 0)) ∧ (∃ c : Array Value, c.size = 2 ∧ w'.heap[s + 1]? = some (.cells c 96 (0, 0))) ∧ (∃ u, w'.heap[s + 1 + 1]? = some (.cells (hv u) 55 (0, 0))) ∧ w'.heap[s + 1 + 1 + 1]? = some (.cells (hv z) 55 (0, 0)) ∧ Below s w w'
theorem there_row {w : World} {g : Nat} {c : Array Value} {t : TypeId} (h : w.heap[g]? = some (.cells c t (0, 0))) {n : Nat} (hn : n ≤ c.size) : w.there g 0 n := fun j hj =>
  ⟨by rw [Nat.zero_add, cell_of_row _ _ j _ _ _ h]; simp; omega, by rw [Nat.zero_add]; exact frozen_of_row _ _ j _ _ h⟩
theorem range_row {w : World} {g : Nat} {c : Array Value} {t : TypeId} {fr : Nat × Nat} (h : w.heap[g]? = some (.cells c t fr)) : w.rangeAt g 0 c.toList := fun j v hv => by
  rw [Nat.zero_add, cell_of_row _ _ j _ _ _ h]; simpa using hv
theorem setRow_at {w : World} {g : Nat} {c : Array Value} {t : TypeId} (h : w.heap[g]? = some (.cells c t (0, 0))) {c' : Array Value} (hs : c'.size = c.size) : (w.setCells g 0 c'.toList).heap[g]? = some (.cells c' t (0, 0)) := by
  have := setCells_at g c'.toList 0 w [] c.toList t (by simpa using h) rfl (by simp [hs])
  rw [this]
  simp [hs, List.drop_eq_nil_of_le]
theorem setRow_other {w : World} {g k : Nat} (hk : k ≠ g) (hlt : k < w.heap.size) (l : List Value) : (w.setCells g 0 l).heap[k]? = w.heap[k]? :=
  (setCells_frm g l 0 w).block k hlt (by simp [hk])
theorem Below.setCells {m : Nat} {w w' : World} (h : Below m w w') {g : Nat} (hg : m ≤ g) : ∀ (l : List Value) (o : Nat), Below m w (w'.setCells g o l)
  | [], _ => h
  | v :: r, o => Below.setCells (w' := w'.setCell ⟨g, o, none⟩ v) (h.setCell (by simpa using hg) _) hg r (o + 1)
theorem RetS.drew {s : Nat} {cr : Array Value} {z : Nat → Int} {w w' : World} (h : RetS s cr z w w') : RetS s cr z w w'.drew := ⟨h.1, h.2.1, h.2.2.1, h.2.2.2.1, h.2.2.2.2.drew⟩
theorem RetS.alloc {s : Nat} {cr : Array Value} {z : Nat → Int} {w w' : World} (h : RetS s cr z w w') (o : Obj) : RetS s cr z w (w'.alloc o) := by
  obtain ⟨h0, ⟨c, hc, h1⟩, ⟨u, h2⟩, h3, hb⟩ := h
  have l3 := lt_of_block h3
  exact ⟨(Below.heap_alloc _ _ _ (by omega)).trans h0, ⟨c, hc, (Below.heap_alloc _ _ _ (by omega)).trans h1⟩, ⟨u, (Below.heap_alloc _ _ _ (by omega)).trans h2⟩, (Below.heap_alloc _ _ _ (by omega)).trans h3, hb.alloc (by omega) _⟩
theorem RetS.one {s : Nat} {cr : Array Value} {z : Nat → Int} {w w' : World} (h : RetS s cr z w w') {c' : Array Value} (hs : c'.size = 2) : RetS s cr z w (w'.setCells (s + 1) 0 c'.toList) ∧ (w'.setCells (s + 1) 0 c'.toList).heap[s + 1]? = some (.cells c' 96 (0, 0)) := by
  obtain ⟨h0, ⟨c, hc, h1⟩, ⟨u, h2⟩, h3, hb⟩ := h
  have l0 := lt_of_block h0
  have l2 := lt_of_block h2
  have l3 := lt_of_block h3
  have hh := setRow_at h1 (c' := c') (by rw [hs, hc])
  exact ⟨⟨(setRow_other (by omega) l0 _).trans h0, ⟨c', hs, hh⟩, ⟨u, (setRow_other (by omega) l2 _).trans h2⟩, (setRow_other (by omega) l3 _).trans h3, Below.setCells hb (by omega) _ _⟩, hh⟩
theorem RetS.two {s : Nat} {cr : Array Value} {z : Nat → Int} {w w' : World} (h : RetS s cr z w w') {c' : Array Value} (h1 : w'.heap[s + 1]? = some (.cells c' 96 (0, 0))) (hs : c'.size = 2) : RetS s cr z w (w'.setCells (s + 1 + 1) 0 (hv z).toList) ∧ (w'.setCells (s + 1 + 1) 0 (hv z).toList).heap[s + 1]? = some (.cells c' 96 (0, 0)) ∧ (w'.setCells (s + 1 + 1) 0 (hv z).toList).heap[s + 1 + 1]? = some (.cells (hv z) 55 (0, 0)) := by
  obtain ⟨h0, _, ⟨u, h2⟩, h3, hb⟩ := h
  have l0 := lt_of_block h0
  have l1 := lt_of_block h1
  have l3 := lt_of_block h3
  have hh := setRow_at h2 (c' := hv z) (by simp [hv_size])
  have h1' := (setRow_other (by omega) l1 (hv z).toList (g := s + 1 + 1)).trans h1
  exact ⟨⟨(setRow_other (by omega) l0 _).trans h0, ⟨c', hs, h1'⟩, ⟨z, hh⟩, (setRow_other (by omega) l3 _).trans h3, Below.setCells hb (by omega) _ _⟩, h1', hh⟩
theorem four_ret (w : World) (c1 c2 : Array Value) (h2 : c2.size = 2) : RetS w.heap.size c1 nz w ((((w.alloc (.cells c1 96)).alloc (.cells c2 96)).alloc (.cells (hv nz) 55)).alloc (.cells (hv nz) 55)) := by
  refine ⟨?_, ⟨c2, h2, ?_⟩, ⟨nz, ?_⟩, ?_, ?_⟩
  · rw [Below.heap_alloc _ _ _ (by simp; omega), Below.heap_alloc _ _ _ (by simp; omega)]
    exact two_allocs_a w _ _
  · rw [Below.heap_alloc _ _ _ (by simp), Below.heap_alloc _ _ _ (by simp)]
    have := heap_alloc_new (w.alloc (.cells c1 96)) (.cells c2 96)
    simpa using this
  · have := two_allocs_a ((w.alloc (.cells c1 96)).alloc (.cells c2 96)) (.cells (hv nz) 55) (.cells (hv nz) 55)
    simpa using this
  · have := heap_alloc_new (((w.alloc (.cells c1 96)).alloc (.cells c2 96)).alloc (.cells (hv nz) 55)) (.cells (hv nz) 55)
    simpa using this
  · repeat (first | exact Below.refl _ _ | refine Below.alloc ?_ (by simp; try omega) _)
theorem rsz : (Tryd.prog.info? 96).map (·.size) = some 2 := by kernel_rfl
theorem retS_cell {s : Nat} {cr : Array Value} {z : Nat → Int} {w w' : World} (h : RetS s cr z w w') (o : Nat) : w'.cell? ⟨s, o, none⟩ = cr[o]? := cell_of_row _ _ o _ _ _ h.1

theorem results_RH {fn : Func} {p q : Tmp} (h : fn.results = #[.cell p 96, .cell q 55]) (tmps : Array Value) (w : World) (g k : Nat) (c : Array Value) (z : Nat → Int)
    (hp : tmps.getD p undef = .pointer (some ⟨g, 0, none⟩)) (hg : w.heap[g]? = some (.cells c 96 (0, 0))) (hq : tmps.getD q undef = .pointer (some ⟨k, 0, none⟩)) (hk : w.heap[k]? = some (.cells (hv z) 55 (0, 0))) (hc : c.size = 2 := by rfl) :
    (results fn tmps).run Tryd.prog w = .ok (.tuple #[.agg c, .agg (hv z)]) w := by
  have hp' : tmps[p]?.getD undef = .pointer (some ⟨g, 0, none⟩) := by simpa using hp
  have hq' : tmps[q]?.getD undef = .pointer (some ⟨k, 0, none⟩) := by simpa using hq
  have l1 := run_loadVar_row (P := Tryd.prog) w g 96 96 c (0, 0) _ hg Tryd.underlying96 rfl (by rw [hc]; exact rsz)
  have l2 := run_loadVar_row (P := Tryd.prog) w k 55 55 (hv z) (0, 0) _ hk Tryd.underlying55 rfl (hszv z)
  simp [results, h, hp', hq', asAddr, l1, l2]

set_option maxRecDepth 100000 in
set_option maxHeartbeats 1600000 in
theorem refHash_stop (ad : Option Addr) (n cap : Nat) (er : Int) (w : World) (he : (er == 0) = false) :
    Calls Tryd.prog 53 #[.agg #[.slice ad n cap, .int .i64 er]] w fun e w' => e = .returned (.tuple #[.agg #[.slice ad n cap, .int .i64 er], .agg (hv nz)]) ∧ Below w.heap.size w w' := by
  go_enter Tryd.func53, Tryd.ntmps53
  go_wp2_with (first | (refine wpList_allocH rfl rfl ?_))
  have hR := four_ret w #[.slice ad n cap, .int .i64 er] #[.slice none 0 0, .int .i64 0] rfl
  generalize ((((w.alloc (.cells #[.slice ad n cap, .int .i64 er] 96)).alloc (.cells #[.slice none 0 0, .int .i64 0] 96)).alloc (.cells (hv nz) 55)).alloc (.cells (hv nz) 55)) = W at *
  refine wp_region_held_drew (S := RetS w.heap.size #[.slice ad n cap, .int .i64 er] nz w) (by kernel_rfl) hR.drew (fun hHeld => ?_)
  refine wpAnyH_take (i := 0) (oi := { dst := some 9, op := .load 96 (.tmp 1), type := 96, pos := "ref.go:204", after := #[], guard := none }) (v := .agg #[.slice ad n cap, .int .i64 er]) rfl (by kernel_rfl) (by kernel_rfl) (by kernel_rfl) (fun _ _ _ h => h) (yieldsIf_load_mid (by rfl) _ _ rfl w.heap.size 0 rfl [.slice ad n cap, .int .i64 er] _ (fun w' hS => range_row hS.1) Tryd.underlying96 rfl rsz) hHeld ?_
  simp only [Act.put, List.setIfInBounds_toArray, List.set_cons_zero, List.set_cons_succ]
  refine wpAnyH_take (i := 1) (oi := { dst := some 10, op := .load 55 (.tmp 4), type := 55, pos := "ref.go:204", after := #[{ on := 2, ground := .gcOnly .lateStores }], guard := none }) (v := .agg (hv nz)) rfl (by kernel_rfl) (by kernel_rfl) (by kernel_rfl) (fun _ _ _ h => h) (yieldsIf_load_mid (by rfl) _ _ rfl (w.heap.size + 1 + 1 + 1) 0 rfl (bl nz 32) _ (fun w' hS => by rw [← hv_list]; exact range_row hS.2.2.2.1) Tryd.underlying55 rfl (by rw [bl_length]; exact hsz)) hHeld ?_
  simp only [Act.put, List.setIfInBounds_toArray, List.set_cons_zero, List.set_cons_succ]
  refine wpAnyH_ready (rs := [2]) (by kernel_rfl) (by simp) ?_
  refine AllReadyH.cons (o := { dst := none, op := .store 96 (.tmp 2) (.tmp 9), type := 0, pos := "ref.go:204", after := #[{ on := 0, ground := .data }, { on := 0, ground := .phase }, { on := 1, ground := .textOnly .lateStores }], guard := none }) rfl (fun K hK => ?_) AllReadyH.nil
  rw [if_pos (by rfl)]
  refine wp_store_mid _ _ _ rfl _ 0 #[.slice ad n cap, .int .i64 er] rfl rfl (there_row hHeld.2.1.choose_spec.2 (by rw [hHeld.2.1.choose_spec.1]; exact Nat.le_refl 2)) rsz (by simp [Value.oneCell']) ?_
  have h2 := hHeld.one (c' := #[.slice ad n cap, .int .i64 er]) rfl
  refine hK.out _ _ h2.1 (fun _ => ?_)
  clear hK K
  simp only [Act.put]
  refine wpAnyH_ready (rs := [3]) (by kernel_rfl) (by simp) ?_
  refine AllReadyH.cons (o := { dst := none, op := .store 55 (.tmp 3) (.tmp 10), type := 0, pos := "ref.go:204", after := #[{ on := 1, ground := .data }, { on := 2, ground := .chain }, { on := 0, ground := .phase }, { on := 1, ground := .phase }, { on := 2, ground := .phase }], guard := none }) rfl (fun K hK => ?_) AllReadyH.nil
  rw [if_pos (by rfl)]
  refine wp_store_mid _ _ _ rfl _ 0 (hv nz) rfl rfl (there_row h2.1.2.2.1.choose_spec (by simp [hv_size])) (hszv nz) (hv_one nz) ?_
  have h3 := h2.1.two h2.2 rfl
  refine hK.out _ _ h3.1 (fun _ => ?_)
  clear hK K
  refine wpAnyH_done (by kernel_rfl) ?_ _
  simp only [Act.put]
  go_wp2_with fail
  exact bodyPost_ret (v := .tuple #[.agg #[.slice ad n cap, .int .i64 er], .agg (hv nz)]) (results_RH Tryd.results53 _ _ _ _ _ _ rfl h3.2.1 rfl h3.2.2) rfl ⟨rfl, h3.1.2.2.2.2⟩
end Go.Proofs.YtchiapnhkhbigaaDoor
/- The document's ReadHash of too few bytes. -/
namespace Go.Proofs.YtchiapnhkhbigaaDoor
open Go.RowKit

set_option maxRecDepth 100000 in
set_option maxHeartbeats 1600000 in
theorem refHash_short (ad : Option Addr) (n cap : Nat) (w : World) (hn : n < 32) :
    Calls Tryd.prog 53 #[.agg #[.slice ad n cap, .int .i64 0]] w fun e w' => e = .returned (.tuple #[.agg #[.slice ad n cap, .int .i64 12], .agg (hv nz)]) ∧ Below w.heap.size w w' := by
  have hni : (n : Int) < 32 := by omega
  go_enter Tryd.func53, Tryd.ntmps53
  go_wp2_with (first | (refine wpList_allocH rfl rfl ?_))
  have hR := four_ret w #[.slice ad n cap, .int .i64 0] #[.slice none 0 0, .int .i64 0] rfl
  generalize ((((w.alloc (.cells #[.slice ad n cap, .int .i64 0] 96)).alloc (.cells #[.slice none 0 0, .int .i64 0] 96)).alloc (.cells (hv nz) 55)).alloc (.cells (hv nz) 55)) = W at *
  refine wp_region_held_drew (S := RetS w.heap.size #[.slice ad n cap, .int .i64 0] nz w) (by kernel_rfl) hR.drew (fun hHeld => ?_)
  refine wpAnyH_take (i := 0) (oi := { dst := some 15, op := .load 96 (.tmp 1), type := 96, pos := "ref.go:207", after := #[], guard := none }) (v := .agg #[.slice ad n cap, .int .i64 0]) rfl (by kernel_rfl) (by kernel_rfl) (by kernel_rfl) (fun _ _ _ h => h) (yieldsIf_load_mid (by rfl) _ _ rfl w.heap.size 0 rfl [.slice ad n cap, .int .i64 0] _ (fun w' hS => range_row hS.1) Tryd.underlying96 rfl rsz) hHeld ?_
  simp only [Act.put, List.setIfInBounds_toArray, List.set_cons_zero, List.set_cons_succ]
  refine wpAnyH_take (i := 2) (oi := { dst := some 17, op := .load 55 (.tmp 4), type := 55, pos := "ref.go:207", after := #[{ on := 3, ground := .gcOnly .lateStores }], guard := none }) (v := .agg (hv nz)) rfl (by kernel_rfl) (by kernel_rfl) (by kernel_rfl) (fun _ _ _ h => h) (yieldsIf_load_mid (by rfl) _ _ rfl (w.heap.size + 1 + 1 + 1) 0 rfl (bl nz 32) _ (fun w' hS => by rw [← hv_list]; exact range_row hS.2.2.2.1) Tryd.underlying55 rfl (by rw [bl_length]; exact hsz)) hHeld ?_
  simp only [Act.put, List.setIfInBounds_toArray, List.set_cons_zero, List.set_cons_succ]
  refine wpAnyH_ready (rs := [1]) (by kernel_rfl) (by simp) ?_
  refine AllReadyH.cons (o := { dst := some 16, op := .call { callee := .value (.func 80), args := #[.tmp 15, .const (.int .i64 12)], argTypes := #[96, 3] }, type := 96, pos := "ref.go:207", after := #[{ on := 0, ground := .data }], guard := none }) rfl (fun K hK => ?_) AllReadyH.nil
  go_simp
  refine (fail_0 _ _ _ _ _).mono ?_
  rintro e w1 ⟨rfl, rfl⟩
  have hHeld := (hHeld.alloc (.cells #[.slice ad n cap, .int .i64 12] 96)).alloc (.cells #[.slice ad n cap, .int .i64 12] 96)
  refine hK.out _ _ hHeld (fun _ => ?_)
  clear hK K
  generalize ((W.drew.alloc (.cells #[.slice ad n cap, .int .i64 12] 96)).alloc (.cells #[.slice ad n cap, .int .i64 12] 96)) = W1 at *
  refine wpAnyH_ready (rs := [3]) (by kernel_rfl) (by simp) ?_
  refine AllReadyH.cons (o := { dst := none, op := .store 96 (.tmp 2) (.tmp 16), type := 0, pos := "ref.go:207", after := #[{ on := 1, ground := .data }, { on := 1, ground := .chain }, { on := 0, ground := .phase }, { on := 1, ground := .phase }, { on := 2, ground := .textOnly .lateStores }], guard := none }) rfl (fun K hK => ?_) AllReadyH.nil
  rw [if_pos (by rfl)]
  refine wp_store_mid _ _ _ rfl _ 0 #[.slice ad n cap, .int .i64 12] rfl rfl (there_row hHeld.2.1.choose_spec.2 (by rw [hHeld.2.1.choose_spec.1]; exact Nat.le_refl 2)) rsz (by simp [Value.oneCell']) ?_
  have h2 := hHeld.one (c' := #[.slice ad n cap, .int .i64 12]) rfl
  refine hK.out _ _ h2.1 (fun _ => ?_)
  clear hK K
  simp only [Act.put]
  refine wpAnyH_ready (rs := [4]) (by kernel_rfl) (by simp) ?_
  refine AllReadyH.cons (o := { dst := none, op := .store 55 (.tmp 3) (.tmp 17), type := 0, pos := "ref.go:207", after := #[{ on := 2, ground := .data }, { on := 3, ground := .chain }, { on := 0, ground := .phase }, { on := 1, ground := .phase }, { on := 2, ground := .phase }, { on := 3, ground := .phase }], guard := none }) rfl (fun K hK => ?_) AllReadyH.nil
  rw [if_pos (by rfl)]
  refine wp_store_mid _ _ _ rfl _ 0 (hv nz) rfl rfl (there_row h2.1.2.2.1.choose_spec (by simp [hv_size])) (hszv nz) (hv_one nz) ?_
  have h3 := h2.1.two h2.2 rfl
  refine hK.out _ _ h3.1 (fun _ => ?_)
  clear hK K
  refine wpAnyH_done (by kernel_rfl) ?_ _
  simp only [Act.put]
  go_wp2_with fail
  exact bodyPost_ret (v := .tuple #[.agg #[.slice ad n cap, .int .i64 12], .agg (hv nz)]) (results_RH Tryd.results53 _ _ _ _ _ _ rfl h3.2.1 rfl h3.2.2) rfl ⟨rfl, h3.1.2.2.2.2⟩
end Go.Proofs.YtchiapnhkhbigaaDoor
/- The document's ReadHash of enough bytes. -/
namespace Go.Proofs.YtchiapnhkhbigaaDoor
open Go.RowKit

theorem mix_at (z : Nat → Int) (q : Nat) (hq : q < 32) : (hv (mix z q))[q]? = some (.int .u8 0) := by
  simp [hv, bl, mix, hq]
theorem setCell_mix {w : World} {g q : Nat} {z : Nat → Int} (h : w.heap[g]? = some (.cells (hv (mix z q)) 55 (0, 0))) : (w.setCell ⟨g, q, none⟩ (.int .u8 (z q))).heap[g]? = some (.cells (hv (mix z (q + 1))) 55 (0, 0)) := by
  rw [heap_setCell_same w g q _ _ _ h, mix_step]

theorem RetS.setH {s q : Nat} {cr : Array Value} {z : Nat → Int} {w w' : World} (h : RetS s cr (mix z q) w w') : RetS s cr (mix z (q + 1)) w (w'.setCell ⟨s + 1 + 1 + 1, q, none⟩ (.int .u8 (z q))) := by
  obtain ⟨h0, ⟨c, hc, h1⟩, ⟨u, h2⟩, h3, hb⟩ := h
  exact ⟨(Below.heap_setCell _ _ _ _ (by simp; omega)).trans h0, ⟨c, hc, (Below.heap_setCell _ _ _ _ (by simp)).trans h1⟩, ⟨u, (Below.heap_setCell _ _ _ _ (by simp)).trans h2⟩, setCell_mix h3, hb.setCell (by simp; omega) _⟩
theorem RetS.set0 {s : Nat} {v0 v e : Value} {z : Nat → Int} {w w' : World} (h : RetS s #[v0, e] z w w') : RetS s #[v, e] z w (w'.setCell ⟨s, 0, none⟩ v) := by
  obtain ⟨h0, ⟨c, hc, h1⟩, ⟨u, h2⟩, h3, hb⟩ := h
  exact ⟨two_set0 h0, ⟨c, hc, (Below.heap_setCell _ _ _ _ (by simp)).trans h1⟩, ⟨u, (Below.heap_setCell _ _ _ _ (by simp; omega)).trans h2⟩, (Below.heap_setCell _ _ _ _ (by simp; omega)).trans h3, hb.setCell (by simp) _⟩
/-- The first 32. -/
def cut (z : Nat → Int) : Nat → Int := mix z 32
theorem mix_z32 (z : Nat → Int) : mix z 32 = cut z := rfl
theorem hv_cut (z : Nat → Int) : hv (cut z) = hv z := mix_32 z

/-- What is left behind a sum. -/
def RHPost (w : World) (n : Nat) (z : Nat → Int) (ad : Option Addr) (e : Ending) (w' : World) : Prop :=
  ∃ ad' cap', e = .returned (.tuple #[.agg #[.slice ad' (n - 32) cap', .int .i64 0], .agg (hv z)]) ∧ n - 32 ≤ cap' ∧ (∀ wo, SlAt wo ad n z → SlAt wo ad' (n - 32) (fun j => z (j + 32))) ∧ Below w.heap.size w w'

set_option maxRecDepth 100000 in
set_option maxHeartbeats 1600000 in
theorem refHash_long (b off n cap : Nat) (z : Nat → Int) (w : World) (hn : 32 ≤ n) (hlc : n ≤ cap) (hz : ∀ j, j < n → 0 ≤ z j ∧ z j ≤ 255) (hc : ∀ j, j < n → w.cell? ⟨b, off + j, none⟩ = some (.int .u8 (z j))) :
    Calls Tryd.prog 53 #[.agg #[.slice (some ⟨b, off, none⟩) n cap, .int .i64 0]] w fun e w' => RHPost w n z (some ⟨b, off, none⟩) e w' := by
  have hni : ¬ (n : Int) < 32 := by omega
  have hblt : b < w.heap.size := World.block_lt_of_cell? w ⟨b, off + 0, none⟩ (hc 0 (by omega))
  have HC : Hid (∀ j, j < n → w.cell? ⟨b, off + j, none⟩ = some (.int .u8 (z j))) := hc
  have HZ : Hid (∀ j, j < n → 0 ≤ z j ∧ z j ≤ 255) := hz
  clear hc hz
  go_enter Tryd.func53, Tryd.ntmps53
  go_wp2_with (first | (refine wpList_allocH rfl rfl ?_))
  have hR := four_ret w #[.slice (some ⟨b, off, none⟩) n cap, .int .i64 0] #[.slice none 0 0, .int .i64 0] rfl
  generalize ((((w.alloc (.cells #[.slice (some ⟨b, off, none⟩) n cap, .int .i64 0] 96)).alloc (.cells #[.slice none 0 0, .int .i64 0] 96)).alloc (.cells (hv nz) 55)).alloc (.cells (hv nz) 55)) = W at *
  go_loopw [5] (fun i wr => ∃ q : Nat, q ≤ 32 ∧ i = .int .i64 q ∧ RetS w.heap.size #[.slice (some ⟨b, off, none⟩) n cap, .int .i64 0] (mix z q) w wr) (fun i _ => 33 - (intOf i).toNat)
  case atStart => exact ⟨0, Nat.zero_le _, rfl, by have : mix z 0 = nz := by funext j; simp [mix, nz]
                                                   rw [this]; exact hR⟩
  case round =>
    obtain ⟨q, hq, rfl, hS⟩ := hrel
    have HH : Hid (RetS w.heap.size #[.slice (some ⟨b, off, none⟩) n cap, .int .i64 0] (mix z q) w wr) := hS
    have hc0 := (retS_cell hS 0).trans (show #[Value.slice (some ⟨b, off, none⟩) n cap, .int .i64 0][0]? = some (.slice (some ⟨b, off, none⟩) n cap) from rfl)
    clear hS hR
    by_cases hlt : q < 32
    · have hcz := (HH.out.2.2.2.2.cell (p := ⟨b, off + q, none⟩) hblt).trans (HC.out q (by omega))
      have hzq := HZ.out q (by omega)
      have hcs : wr.cell? ⟨w.heap.size + 1 + 1 + 1, q, none⟩ = some (.int .u8 0) := (cell_of_row _ _ q _ _ _ HH.out.2.2.2.1).trans (mix_at z q hlt)
      have hcf : wr.frozen? ⟨w.heap.size + 1 + 1 + 1, q, none⟩ = false := frozen_of_row _ _ q _ _ HH.out.2.2.2.1
      have hqn : (q : Int) < (n : Int) := by omega
      have hq3 : (q : Int) < 32 := by omega
      go_wp2
      refine ⟨⟨q + 1, by omega, by go_num, HH.out.setH⟩, by simp [intOf]; omega⟩
    · have : q = 32 := by omega
      subst this
      have hf0 : wr.frozen? ⟨w.heap.size, 0, none⟩ = false := frozen_of_row _ _ 0 _ _ HH.out.1
      by_cases hcap : cap = 32
      · subst hcap
        obtain rfl : n = 32 := by omega
        go_wp2
        have hR := (HH.out).set0 (v := .slice (some ⟨b, off, none⟩) 0 0)
        rw [mix_z32] at hR
        generalize (wr.setCell ⟨w.heap.size, 0, none⟩ (.slice (some ⟨b, off, none⟩) 0 0)) = W1 at *
        refine wp_region_held_drew (S := RetS w.heap.size #[.slice (some ⟨b, off, none⟩) 0 0, .int .i64 0] (cut z) w) (by kernel_rfl) hR.drew (fun hHeld => ?_)
        refine wpAnyH_take (i := 0) (oi := { dst := some 33, op := .load 96 (.tmp 1), type := 96, pos := "ref.go:213", after := #[], guard := none }) (v := .agg #[.slice (some ⟨b, off, none⟩) 0 0, .int .i64 0]) rfl (by kernel_rfl) (by kernel_rfl) (by kernel_rfl) (fun _ _ _ h => h) (yieldsIf_load_mid (by rfl) _ _ rfl w.heap.size 0 rfl [.slice (some ⟨b, off, none⟩) 0 0, .int .i64 0] _ (fun w' hS => range_row hS.1) Tryd.underlying96 rfl rsz) hHeld ?_
        simp only [Act.put, List.setIfInBounds_toArray, List.set_cons_zero, List.set_cons_succ]
        refine wpAnyH_take (i := 1) (oi := { dst := some 34, op := .load 55 (.tmp 4), type := 55, pos := "ref.go:213", after := #[{ on := 2, ground := .gcOnly .lateStores }], guard := none }) (v := .agg (hv (cut z))) rfl (by kernel_rfl) (by kernel_rfl) (by kernel_rfl) (fun _ _ _ h => h) (yieldsIf_load_mid (by rfl) _ _ rfl (w.heap.size + 1 + 1 + 1) 0 rfl (bl (cut z) 32) _ (fun w' hS => by rw [← hv_list]; exact range_row hS.2.2.2.1) Tryd.underlying55 rfl (by rw [bl_length]; exact hsz)) hHeld ?_
        simp only [Act.put, List.setIfInBounds_toArray, List.set_cons_zero, List.set_cons_succ]
        refine wpAnyH_ready (rs := [2]) (by kernel_rfl) (by simp) ?_
        refine AllReadyH.cons (o := { dst := none, op := .store 96 (.tmp 2) (.tmp 33), type := 0, pos := "ref.go:213", after := #[{ on := 0, ground := .data }, { on := 0, ground := .phase }, { on := 1, ground := .textOnly .lateStores }], guard := none }) rfl (fun K hK => ?_) AllReadyH.nil
        rw [if_pos (by rfl)]
        refine wp_store_mid _ _ _ rfl _ 0 #[.slice (some ⟨b, off, none⟩) 0 0, .int .i64 0] rfl rfl (there_row hHeld.2.1.choose_spec.2 (by rw [hHeld.2.1.choose_spec.1]; exact Nat.le_refl 2)) rsz (by simp [Value.oneCell']) ?_
        have h2 := hHeld.one (c' := #[.slice (some ⟨b, off, none⟩) 0 0, .int .i64 0]) rfl
        refine hK.out _ _ h2.1 (fun _ => ?_)
        clear hK K
        simp only [Act.put]
        refine wpAnyH_ready (rs := [3]) (by kernel_rfl) (by simp) ?_
        refine AllReadyH.cons (o := { dst := none, op := .store 55 (.tmp 3) (.tmp 34), type := 0, pos := "ref.go:213", after := #[{ on := 1, ground := .data }, { on := 2, ground := .chain }, { on := 0, ground := .phase }, { on := 1, ground := .phase }, { on := 2, ground := .phase }], guard := none }) rfl (fun K hK => ?_) AllReadyH.nil
        rw [if_pos (by rfl)]
        refine wp_store_mid _ _ _ rfl _ 0 (hv (cut z)) rfl rfl (there_row h2.1.2.2.1.choose_spec (by simp [hv_size])) (hszv (cut z)) (hv_one (cut z)) ?_
        have h3 := h2.1.two h2.2 rfl
        refine hK.out _ _ h3.1 (fun _ => ?_)
        clear hK K
        refine wpAnyH_done (by kernel_rfl) ?_ _
        simp only [Act.put]
        go_wp2_with fail
        refine bodyPost_ret (v := .tuple #[.agg #[.slice (some ⟨b, off, none⟩) 0 0, .int .i64 0], .agg (hv (cut z))]) (results_RH Tryd.results53 _ _ _ _ _ _ rfl h3.2.1 rfl h3.2.2) rfl ⟨_, _, by rw [hv_cut], by omega, fun wo hwo => ?_, h3.1.2.2.2.2⟩
        exact SlAt.zero _ _
      · go_wp2
        have hR := (HH.out).set0 (v := .slice (some ⟨b, off + 32, none⟩) (n - 32) (cap - 32))
        rw [mix_z32] at hR
        generalize (wr.setCell ⟨w.heap.size, 0, none⟩ (.slice (some ⟨b, off + 32, none⟩) (n - 32) (cap - 32))) = W1 at *
        refine wp_region_held_drew (S := RetS w.heap.size #[.slice (some ⟨b, off + 32, none⟩) (n - 32) (cap - 32), .int .i64 0] (cut z) w) (by kernel_rfl) hR.drew (fun hHeld => ?_)
        refine wpAnyH_take (i := 0) (oi := { dst := some 33, op := .load 96 (.tmp 1), type := 96, pos := "ref.go:213", after := #[], guard := none }) (v := .agg #[.slice (some ⟨b, off + 32, none⟩) (n - 32) (cap - 32), .int .i64 0]) rfl (by kernel_rfl) (by kernel_rfl) (by kernel_rfl) (fun _ _ _ h => h) (yieldsIf_load_mid (by rfl) _ _ rfl w.heap.size 0 rfl [.slice (some ⟨b, off + 32, none⟩) (n - 32) (cap - 32), .int .i64 0] _ (fun w' hS => range_row hS.1) Tryd.underlying96 rfl rsz) hHeld ?_
        simp only [Act.put, List.setIfInBounds_toArray, List.set_cons_zero, List.set_cons_succ]
        refine wpAnyH_take (i := 1) (oi := { dst := some 34, op := .load 55 (.tmp 4), type := 55, pos := "ref.go:213", after := #[{ on := 2, ground := .gcOnly .lateStores }], guard := none }) (v := .agg (hv (cut z))) rfl (by kernel_rfl) (by kernel_rfl) (by kernel_rfl) (fun _ _ _ h => h) (yieldsIf_load_mid (by rfl) _ _ rfl (w.heap.size + 1 + 1 + 1) 0 rfl (bl (cut z) 32) _ (fun w' hS => by rw [← hv_list]; exact range_row hS.2.2.2.1) Tryd.underlying55 rfl (by rw [bl_length]; exact hsz)) hHeld ?_
        simp only [Act.put, List.setIfInBounds_toArray, List.set_cons_zero, List.set_cons_succ]
        refine wpAnyH_ready (rs := [2]) (by kernel_rfl) (by simp) ?_
        refine AllReadyH.cons (o := { dst := none, op := .store 96 (.tmp 2) (.tmp 33), type := 0, pos := "ref.go:213", after := #[{ on := 0, ground := .data }, { on := 0, ground := .phase }, { on := 1, ground := .textOnly .lateStores }], guard := none }) rfl (fun K hK => ?_) AllReadyH.nil
        rw [if_pos (by rfl)]
        refine wp_store_mid _ _ _ rfl _ 0 #[.slice (some ⟨b, off + 32, none⟩) (n - 32) (cap - 32), .int .i64 0] rfl rfl (there_row hHeld.2.1.choose_spec.2 (by rw [hHeld.2.1.choose_spec.1]; exact Nat.le_refl 2)) rsz (by simp [Value.oneCell']) ?_
        have h2 := hHeld.one (c' := #[.slice (some ⟨b, off + 32, none⟩) (n - 32) (cap - 32), .int .i64 0]) rfl
        refine hK.out _ _ h2.1 (fun _ => ?_)
        clear hK K
        simp only [Act.put]
        refine wpAnyH_ready (rs := [3]) (by kernel_rfl) (by simp) ?_
        refine AllReadyH.cons (o := { dst := none, op := .store 55 (.tmp 3) (.tmp 34), type := 0, pos := "ref.go:213", after := #[{ on := 1, ground := .data }, { on := 2, ground := .chain }, { on := 0, ground := .phase }, { on := 1, ground := .phase }, { on := 2, ground := .phase }], guard := none }) rfl (fun K hK => ?_) AllReadyH.nil
        rw [if_pos (by rfl)]
        refine wp_store_mid _ _ _ rfl _ 0 (hv (cut z)) rfl rfl (there_row h2.1.2.2.1.choose_spec (by simp [hv_size])) (hszv (cut z)) (hv_one (cut z)) ?_
        have h3 := h2.1.two h2.2 rfl
        refine hK.out _ _ h3.1 (fun _ => ?_)
        clear hK K
        refine wpAnyH_done (by kernel_rfl) ?_ _
        simp only [Act.put]
        go_wp2_with fail
        refine bodyPost_ret (v := .tuple #[.agg #[.slice (some ⟨b, off + 32, none⟩) (n - 32) (cap - 32), .int .i64 0], .agg (hv (cut z))]) (results_RH Tryd.results53 _ _ _ _ _ _ rfl h3.2.1 rfl h3.2.2) rfl ?_
        exact ⟨some ⟨b, off + 32, none⟩, cap - 32, by rw [hv_cut], by omega, fun wo hwo => by have := hwo.drop (k := 32); simpa [Addr.add_lit] using this, h3.1.2.2.2.2⟩
end Go.Proofs.YtchiapnhkhbigaaDoor
/- The document's reader by lists; its numbers up to a bound. -/
namespace Go.Proofs.YtchiapnhkhbigaaDoor
open Go.RowKit

/-- A number up to a bound taken off. -/
def numM (M : Int) (q : Option (List Int)) : Int × Option (List Int) := tk (uintR M) 0 q
/-- The document's reader, its bytes in a world w0 that came in: what is left, or that it has stopped. -/
def DR (w0 : World) (ad : Option Addr) (n cap : Nat) (er : Int) : Option (List Int) → Prop
  | some l => er = 0 ∧ n = l.length ∧ l.length ≤ cap ∧ SlAt w0 ad l.length (fn l) ∧ l.length ≤ 140737488351232
  | none => (er == 0) = false
theorem SlAt.keepB {w w' : World} {ad : Option Addr} {n : Nat} {z : Nat → Int} (h : SlAt w ad n z) (hb : Below w.heap.size w w') : SlAt w' ad n z := h.block fun b _ hn e => hb.block b (h.lt hn e)
/-- Bytes of the same block as some that lie in w0 lie there, too. -/
theorem SlAt.back {w0 w : World} {ad ad' : Option Addr} {n n' : Nat} {z z' : Nat → Int} (h0 : SlAt w0 ad n z) (hn0 : 0 < n' → 0 < n) (h : SlAt w ad' n' z') (hs : ∀ b off, 0 < n' → ad' = some ⟨b, off, none⟩ → ∃ off0, ad = some ⟨b, off0, none⟩) (hb : Below w0.heap.size w0 w) : SlAt w0 ad' n' z' :=
  h.block fun b off hn e => by
    obtain ⟨off0, e0⟩ := hs b off hn e
    exact (hb.block b (h0.lt (hn0 hn) e0)).symm
theorem SlAt.dropL {w : World} {ad : Option Addr} {l : List Int} {k : Nat} (h : SlAt w ad (l.length - k) (fun j => fn l (j + k))) : SlAt w ad (l.drop k).length (fn (l.drop k)) := by
  rw [List.length_drop]
  exact h.congr fun j _ => (fn_drop l k j).symm
theorem uint_dr (w0 : World) (ad : Option Addr) (n cap : Nat) (er most : Int) (q : Option (List Int)) (w : World) (hb0 : Below w0.heap.size w0 w) (h : DR w0 ad n cap er q) :
    Calls Tryd.prog 79 #[.agg #[.slice ad n cap, .int .i64 er], .int .u64 most] w fun e w' => ∃ ad' n' cap' er', e = .returned (.tuple #[.agg #[.slice ad' n' cap', .int .i64 er'], .int .u64 (numM most q).1]) ∧ DR w0 ad' n' cap' er' (numM most q).2 ∧ Below w.heap.size w w' := by
  unfold numM
  cases q with
  | none =>
    refine (refStopUint ad n cap most er w h).mono ?_
    rintro e w' ⟨rfl, hb⟩
    exact ⟨_, _, _, _, rfl, h, hb⟩
  | some l =>
    obtain ⟨rfl, rfl, hc, hs, hl⟩ := h
    refine (refRdU_any ad l.length cap most (fn l) w hc hl (hs.keepB hb0)).mono ?_
    rintro e w' ⟨ad', cap', rfl, hc', hs', hb, hsm⟩
    simp only [tk, uintR]
    by_cases hE : uE l.length (fn l) most = 0
    · rw [if_pos hE]
      refine ⟨ad', _, cap', _, rfl, ⟨hE, by rw [List.length_drop], by simpa using hc', (hs.back (by omega) hs' hsm hb0).dropL, by simp; omega⟩, hb⟩
    · rw [if_neg hE]
      have hv : uV l.length (fn l) most = 0 := by simp [uV, hE]
      rw [hv]
      exact ⟨ad', _, cap', _, rfl, by simpa [DR] using hE, hb⟩
theorem count_dr (w0 : World) (ad : Option Addr) (n cap : Nat) (er most : Int) (q : Option (List Int)) (w : World) (hb0 : Below w0.heap.size w0 w) (h : DR w0 ad n cap er q) (hm : most ≤ 9223372036854775807) :
    Calls Tryd.prog 52 #[.agg #[.slice ad n cap, .int .i64 er], .int .i64 most] w fun e w' => ∃ ad' n' cap' er', e = .returned (.tuple #[.agg #[.slice ad' n' cap', .int .i64 er'], .int .i64 (cntS most q).1]) ∧ DR w0 ad' n' cap' er' (cntS most q).2 ∧ Below w.heap.size w w' := by
  unfold cntS
  cases q with
  | none =>
    refine (refStopCount ad n cap most er w h hm).mono ?_
    rintro e w' ⟨rfl, hb⟩
    exact ⟨_, _, _, _, rfl, h, hb⟩
  | some l =>
    obtain ⟨rfl, rfl, hc, hs, hl⟩ := h
    refine (refCount_any ad l.length cap most (fn l) w hc hl (hs.keepB hb0) hm).mono ?_
    rintro e w' ⟨ad', cap', rfl, hc', hs', hb, hsm⟩
    simp only [tk, countR]
    by_cases hE : cE l.length (fn l) most = 0
    · rw [if_pos hE]
      refine ⟨ad', _, cap', _, rfl, ⟨hE, by rw [List.length_drop], by simpa using hc', (hs.back (by omega) hs' hsm hb0).dropL, by simp; omega⟩, hb⟩
    · rw [if_neg hE]
      have hv : cV l.length (fn l) most = 0 := by simp [cV, hE]
      rw [hv]
      exact ⟨ad', _, cap', _, rfl, by simpa [DR] using hE, hb⟩
theorem hash_dr (w0 : World) (ad : Option Addr) (n cap : Nat) (er : Int) (q : Option (List Int)) (w : World) (hb0 : Below w0.heap.size w0 w) (h : DR w0 ad n cap er q) :
    Calls Tryd.prog 53 #[.agg #[.slice ad n cap, .int .i64 er]] w fun e w' => ∃ ad' n' cap' er', e = .returned (.tuple #[.agg #[.slice ad' n' cap', .int .i64 er'], .agg (hv (hshS q).1)]) ∧ DR w0 ad' n' cap' er' (hshS q).2 ∧ Below w.heap.size w w' := by
  unfold hshS
  cases q with
  | none =>
    refine (refHash_stop ad n cap er w h).mono ?_
    rintro e w' ⟨rfl, hb⟩
    exact ⟨_, _, _, _, rfl, h, hb⟩
  | some l =>
    obtain ⟨rfl, rfl, hc, hs, hl⟩ := h
    simp only [tk, hashR]
    by_cases hE : l.length < 32
    · rw [if_pos hE]
      refine (refHash_short ad l.length cap w hE).mono ?_
      rintro e w' ⟨rfl, hb⟩
      exact ⟨_, _, _, 12, rfl, by simp [DR], hb⟩
    · rw [if_neg hE]
      have hsw := hs.keepB hb0
      obtain ⟨b, off, rfl, hcs⟩ := hsw.2 (by omega)
      refine (refHash_long b off l.length cap (fn l) w (by omega) hc hsw.1 hcs).mono ?_
      rintro e w' ⟨ad', cap', rfl, hc', hwo, hb⟩
      refine ⟨ad', _, cap', 0, rfl, ⟨rfl, by rw [List.length_drop], by simpa using hc', (hwo w0 hs).dropL, by simp; omega⟩, hb⟩
theorem DR.by {w0 : World} {ad : Option Addr} {n cap : Nat} {er : Int} {q : Option (List Int)} (h : DR w0 ad n cap er q) : ByQ q := by
  rintro l rfl j hj
  exact h.2.2.2.1.1 j hj
theorem numM_bd {q : Option (List Int)} {M : Int} (h : ByQ q) (hM : 0 ≤ M) : 0 ≤ (numM M q).1 ∧ (numM M q).1 ≤ M := by
  unfold numM tk
  cases q with
  | none => exact ⟨Int.le_refl _, hM⟩
  | some l =>
    dsimp only
    cases e : uintR M l with
    | none => exact ⟨Int.le_refl _, hM⟩
    | some x => exact uintR_bd (h l rfl) e
set_option maxHeartbeats 400000 in
theorem done_dr (w0 : World) (ad : Option Addr) (n cap : Nat) (er : Int) (q : Option (List Int)) (w : World) (h : DR w0 ad n cap er q) :
    Calls Tryd.prog 54 #[.agg #[.slice ad n cap, .int .i64 er]] w fun e w' => (∃ x : Int, e = .returned (.int .i64 x) ∧ (q = some [] ↔ x = 0)) ∧ Below w.heap.size w w' := by
  have key : Calls Tryd.prog 54 #[.agg #[.slice ad n cap, .int .i64 er]] w fun e w' => e = .returned (.int .i64 (dn n er)) ∧ Below w.heap.size w w' := by
    clear h
    by_cases he : er = 0
    · subst he
      by_cases hn : 0 < n
      · have : dn n 0 = 3 := by simp [dn, hn]
        rw [this]
        clear this
        have hn' : (0 : Int) < n := by omega
        go_enter Tryd.func54, Tryd.ntmps54
        go_wp2
        go_ret
        exact ⟨rfl, (by repeat (first | exact Below.refl _ _ | refine Below.alloc ?_ (by simp; try omega) _ | refine Below.setCell ?_ (by simp) _ | refine Go.below_drewN ?_ _ | refine Below.drew ?_))⟩
      · have h0 : n = 0 := by omega
        subst h0
        have : dn 0 0 = 0 := by simp [dn]
        rw [this]
        clear this hn
        go_enter Tryd.func54, Tryd.ntmps54
        go_wp2
        go_ret
        exact ⟨rfl, (by repeat (first | exact Below.refl _ _ | refine Below.alloc ?_ (by simp; try omega) _ | refine Below.setCell ?_ (by simp) _ | refine Go.below_drewN ?_ _ | refine Below.drew ?_))⟩
    · have : dn n er = er := by simp [dn, he]
      rw [this]
      have he' : (er == 0) = false := by simp [he]
      clear this he
      go_enter Tryd.func54, Tryd.ntmps54
      go_wp2
      go_ret
      exact ⟨rfl, (by repeat (first | exact Below.refl _ _ | refine Below.alloc ?_ (by simp; try omega) _ | refine Below.setCell ?_ (by simp) _ | refine Go.below_drewN ?_ _ | refine Below.drew ?_))⟩
  refine key.mono ?_
  rintro e w' ⟨rfl, hb⟩
  refine ⟨⟨_, rfl, ?_⟩, hb⟩
  cases q with
  | none =>
    have he : er ≠ 0 := by simpa [DR] using h
    simp [dn, he]
  | some l =>
    obtain ⟨rfl, rfl, _⟩ := h
    cases l <;> simp [dn]
set_option maxRecDepth 100000 in
set_option maxHeartbeats 800000 in
theorem dnum_any (w0 : World) (ad : Option Addr) (n cap : Nat) (er : Int) (q : Option (List Int)) (w : World) (hb0 : Below w0.heap.size w0 w) (h : DR w0 ad n cap er q) :
    Calls Tryd.prog 51 #[.agg #[.slice ad n cap, .int .i64 er]] w fun e w' => ∃ ad' n' cap' er', e = .returned (.tuple #[.agg #[.slice ad' n' cap', .int .i64 er'], .int .i64 (numM 1125899906842624 q).1]) ∧ DR w0 ad' n' cap' er' (numM 1125899906842624 q).2 ∧ Below w.heap.size w w' := by
  have hbd := numM_bd (M := 1125899906842624) h.by (by decide)
  have hwr : IntKind.i64.wrap (numM 1125899906842624 q).1 = (numM 1125899906842624 q).1 := by rw [IntKind.wrap_i64]; omega
  obtain ⟨hn0, hn1, hsz, hbn⟩ : (((w.alloc (.cells #[.slice ad n cap, .int .i64 er] 96)).alloc (.cells #[.slice none 0 0, .int .i64 0] 96)).heap[w.heap.size]? = some (.cells #[.slice ad n cap, .int .i64 er] 96 (0, 0))) ∧ (((w.alloc (.cells #[.slice ad n cap, .int .i64 er] 96)).alloc (.cells #[.slice none 0 0, .int .i64 0] 96)).heap[w.heap.size + 1]? = some (.cells #[.slice none 0 0, .int .i64 0] 96 (0, 0))) ∧ ((w.alloc (.cells #[.slice ad n cap, .int .i64 er] 96)).alloc (.cells #[.slice none 0 0, .int .i64 0] 96)).heap.size = w.heap.size + 2 ∧ Below w.heap.size w ((w.alloc (.cells #[.slice ad n cap, .int .i64 er] 96)).alloc (.cells #[.slice none 0 0, .int .i64 0] 96)) := ⟨two_allocs_0 w _ _, two_allocs_1 w _ _, by simp, ((Below.refl _ w).alloc (Nat.le_refl _) _).alloc (by simp) _⟩
  have hc := uint_dr w0 ad n cap er 1125899906842624 q _ (hb0.trans (hbn.mono hb0.size)) h
  generalize (numM 1125899906842624 q).1 = x at *
  generalize (numM 1125899906842624 q).2 = q' at *
  clear hbd h hb0
  go_enter Tryd.func51, Tryd.ntmps51
  go_wp2_with fail
  generalize (w.alloc (.cells #[.slice ad n cap, .int .i64 er] 96)).alloc (.cells #[.slice none 0 0, .int .i64 0] 96) = W0 at *
  refine hc.mono ?_
  rintro e w1 ⟨ad', n', cap', er', rfl, hD, hb1⟩
  have k0 : w1.heap[w.heap.size]? = some (.cells #[.slice ad n cap, .int .i64 er] 96 (0, 0)) := by rw [hb1.block _ (lt_of_block hn0)]; exact hn0
  have k1 : w1.heap[w.heap.size + 1]? = some (.cells #[.slice none 0 0, .int .i64 0] 96 (0, 0)) := by rw [hb1.block _ (lt_of_block hn1)]; exact hn1
  have c0 := two_cell0 k0
  have c1 := two_cell1 k0
  have cf := two_free k0
  have d0 := two_cell0 k1
  have d1' := two_cell1 k1
  have df := two_free k1
  have HB : Hid (Below w.heap.size w w1) := hbn.trans (hb1.mono (by omega))
  have HD : Hid (DR w0 ad' n' cap' er' q') := hD
  clear hc hn0 hn1 hsz hbn hb1 k0 k1 hD
  go_wp2
  refine bodyPost_ret (v := .tuple #[.agg #[.slice ad' n' cap', .int .i64 er'], .int .i64 x]) (by simp [results, Tryd.results51, go_sem, d0, d1']) rfl ⟨ad', n', cap', er', rfl, HD.out, ?_⟩
  exact (((HB.out.setCell (by simp) _).setCell (by simp) _).setCell (by simp) _).setCell (by simp) _
end Go.Proofs.YtchiapnhkhbigaaDoor
