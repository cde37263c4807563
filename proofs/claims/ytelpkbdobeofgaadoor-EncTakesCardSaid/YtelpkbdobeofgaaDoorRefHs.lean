/- The document's ReadHash. -/
import Derived.Test.YtelpkbdobeofgaaDoorRefHash
import Derived.Deep.RegionHeld3
namespace Go.Proofs.YtelpkbdobeofgaaDoor
open Go.RowKit

/-- Within 'return r, h': a reader's variable and its result, a sum's result and its variable, one behind the other. -/
def RetS (s : Nat) (cr : Array Value) (z : Nat → Int) (w w' : World) : Prop :=
  w'.heap[s]? = some (.cells cr 27 (0, 0)) ∧ (∃ c : Array Value, c.size = 2 ∧ w'.heap[s + 1]? = some (.cells c 27 (0, 0))) ∧ (∃ u, w'.heap[s + 1 + 1]? = some (.cells (hv u) 44 (0, 0))) ∧ w'.heap[s + 1 + 1 + 1]? = some (.cells (hv z) 44 (0, 0)) ∧ Below s w w'
theorem there_row {w : World} {g : Nat} {c : Array Value} {t : TypeId} (h : w.heap[g]? = some (.cells c t (0, 0))) {n : Nat} (hn : n ≤ c.size) : w.there g 0 n := fun j hj =>
  ⟨by rw [Nat.zero_add, cell_of_row _ _ j _ _ _ h]; simp; omega, by rw [Nat.zero_add]; exact frozen_of_row _ _ j _ _ h⟩
theorem range_row {w : World} {g : Nat} {c : Array Value} {t : TypeId} {fr : Nat × Nat} (h : w.heap[g]? = some (.cells c t fr)) : w.rangeAt g 0 c.toList := fun j v hv => by
  rw [Nat.zero_add, cell_of_row _ _ j _ _ _ h]; simpa using hv
theorem setRow_at {w : World} {g : Nat} {c : Array Value} {t : TypeId} (h : w.heap[g]? = some (.cells c t (0, 0))) {c' : Array Value} (hs : c'.size = c.size) : (w.setCells g 0 c'.toList).heap[g]? = some (.cells c' t (0, 0)) := by
  have := setCells_at g c'.toList 0 w [] c.toList t (by simpa using h) rfl (by simp [hs])
  rw [this]
  simp [hs, List.drop_eq_nil_of_le]
theorem setRow_other {w : World} {g k : Nat} (hk : k ≠ g) (hlt : k < w.heap.size) (l : List Value) : (w.setCells g 0 l).heap[k]? = w.heap[k]? :=
  (setCells_frm g l 0 w).block k hlt (by simp [hk])
theorem Below.setCells {m : Nat} {w w' : World} (h : Below m w w') {g : Nat} (hg : m ≤ g) : ∀ (l : List Value) (o : Nat), Below m w (w'.setCells g o l)
  | [], _ => h
  | v :: r, o => Below.setCells (w' := w'.setCell ⟨g, o, none⟩ v) (h.setCell (by simpa using hg) _) hg r (o + 1)
theorem RetS.drew {s : Nat} {cr : Array Value} {z : Nat → Int} {w w' : World} (h : RetS s cr z w w') : RetS s cr z w w'.drew := ⟨h.1, h.2.1, h.2.2.1, h.2.2.2.1, h.2.2.2.2.drew⟩
theorem RetS.alloc {s : Nat} {cr : Array Value} {z : Nat → Int} {w w' : World} (h : RetS s cr z w w') (o : Obj) : RetS s cr z w (w'.alloc o) := by
  obtain ⟨h0, ⟨c, hc, h1⟩, ⟨u, h2⟩, h3, hb⟩ := h
  have l3 := lt_of_block h3
  exact ⟨(Below.heap_alloc _ _ _ (by omega)).trans h0, ⟨c, hc, (Below.heap_alloc _ _ _ (by omega)).trans h1⟩, ⟨u, (Below.heap_alloc _ _ _ (by omega)).trans h2⟩, (Below.heap_alloc _ _ _ (by omega)).trans h3, hb.alloc (by omega) _⟩
theorem RetS.one {s : Nat} {cr : Array Value} {z : Nat → Int} {w w' : World} (h : RetS s cr z w w') {c' : Array Value} (hs : c'.size = 2) : RetS s cr z w (w'.setCells (s + 1) 0 c'.toList) ∧ (w'.setCells (s + 1) 0 c'.toList).heap[s + 1]? = some (.cells c' 27 (0, 0)) := by
  obtain ⟨h0, ⟨c, hc, h1⟩, ⟨u, h2⟩, h3, hb⟩ := h
  have l0 := lt_of_block h0
  have l2 := lt_of_block h2
  have l3 := lt_of_block h3
  have hh := setRow_at h1 (c' := c') (by rw [hs, hc])
  exact ⟨⟨(setRow_other (by omega) l0 _).trans h0, ⟨c', hs, hh⟩, ⟨u, (setRow_other (by omega) l2 _).trans h2⟩, (setRow_other (by omega) l3 _).trans h3, Below.setCells hb (by omega) _ _⟩, hh⟩
theorem RetS.two {s : Nat} {cr : Array Value} {z : Nat → Int} {w w' : World} (h : RetS s cr z w w') {c' : Array Value} (h1 : w'.heap[s + 1]? = some (.cells c' 27 (0, 0))) (hs : c'.size = 2) : RetS s cr z w (w'.setCells (s + 1 + 1) 0 (hv z).toList) ∧ (w'.setCells (s + 1 + 1) 0 (hv z).toList).heap[s + 1]? = some (.cells c' 27 (0, 0)) ∧ (w'.setCells (s + 1 + 1) 0 (hv z).toList).heap[s + 1 + 1]? = some (.cells (hv z) 44 (0, 0)) := by
  obtain ⟨h0, _, ⟨u, h2⟩, h3, hb⟩ := h
  have l0 := lt_of_block h0
  have l1 := lt_of_block h1
  have l3 := lt_of_block h3
  have hh := setRow_at h2 (c' := hv z) (by simp [hv_size])
  have h1' := (setRow_other (by omega) l1 (hv z).toList (g := s + 1 + 1)).trans h1
  exact ⟨⟨(setRow_other (by omega) l0 _).trans h0, ⟨c', hs, h1'⟩, ⟨z, hh⟩, (setRow_other (by omega) l3 _).trans h3, Below.setCells hb (by omega) _ _⟩, h1', hh⟩
theorem four_ret (w : World) (c1 c2 : Array Value) (h2 : c2.size = 2) : RetS w.heap.size c1 nz w ((((w.alloc (.cells c1 27)).alloc (.cells c2 27)).alloc (.cells (hv nz) 44)).alloc (.cells (hv nz) 44)) := by
  refine ⟨?_, ⟨c2, h2, ?_⟩, ⟨nz, ?_⟩, ?_, ?_⟩
  · rw [Below.heap_alloc _ _ _ (by simp; omega), Below.heap_alloc _ _ _ (by simp; omega)]
    exact two_allocs_a w _ _
  · rw [Below.heap_alloc _ _ _ (by simp), Below.heap_alloc _ _ _ (by simp)]
    have := heap_alloc_new (w.alloc (.cells c1 27)) (.cells c2 27)
    simpa using this
  · have := two_allocs_a ((w.alloc (.cells c1 27)).alloc (.cells c2 27)) (.cells (hv nz) 44) (.cells (hv nz) 44)
    simpa using this
  · have := heap_alloc_new (((w.alloc (.cells c1 27)).alloc (.cells c2 27)).alloc (.cells (hv nz) 44)) (.cells (hv nz) 44)
    simpa using this
  · repeat (first | exact Below.refl _ _ | refine Below.alloc ?_ (by simp; try omega) _)
theorem rsz : (Tryd.prog.info? 27).map (·.size) = some 2 := by kernel_rfl
theorem retS_cell {s : Nat} {cr : Array Value} {z : Nat → Int} {w w' : World} (h : RetS s cr z w w') (o : Nat) : w'.cell? ⟨s, o, none⟩ = cr[o]? := cell_of_row _ _ o _ _ _ h.1

theorem results_RH {fn : Func} {p q : Tmp} (h : fn.results = #[.cell p 27, .cell q 44]) (tmps : Array Value) (w : World) (g k : Nat) (c : Array Value) (z : Nat → Int)
    (hp : tmps.getD p undef = .pointer (some ⟨g, 0, none⟩)) (hg : w.heap[g]? = some (.cells c 27 (0, 0))) (hq : tmps.getD q undef = .pointer (some ⟨k, 0, none⟩)) (hk : w.heap[k]? = some (.cells (hv z) 44 (0, 0))) (hc : c.size = 2 := by rfl) :
    (results fn tmps).run Tryd.prog w = .ok (.tuple #[.agg c, .agg (hv z)]) w := by
  have hp' : tmps[p]?.getD undef = .pointer (some ⟨g, 0, none⟩) := by simpa using hp
  have hq' : tmps[q]?.getD undef = .pointer (some ⟨k, 0, none⟩) := by simpa using hq
  have l1 := run_loadVar_row (P := Tryd.prog) w g 27 27 c (0, 0) _ hg Tryd.underlying27 rfl (by rw [hc]; exact rsz)
  have l2 := run_loadVar_row (P := Tryd.prog) w k 44 44 (hv z) (0, 0) _ hk Tryd.underlying44 rfl (hszv z)
  simp [results, h, hp', hq', asAddr, l1, l2]

set_option maxRecDepth 100000 in
set_option maxHeartbeats 1600000 in
theorem refHash_stop (ad : Option Addr) (n cap : Nat) (er : Int) (w : World) (he : (er == 0) = false) :
    Calls Tryd.prog 15 #[.agg #[.slice ad n cap, .int .i64 er]] w fun e w' => e = .returned (.tuple #[.agg #[.slice ad n cap, .int .i64 er], .agg (hv nz)]) ∧ Below w.heap.size w w' := by
  go_enter Tryd.func15, Tryd.ntmps15
  go_wp2_with (first | (refine wpList_allocH rfl rfl ?_))
  have hR := four_ret w #[.slice ad n cap, .int .i64 er] #[.slice none 0 0, .int .i64 0] rfl
  generalize ((((w.alloc (.cells #[.slice ad n cap, .int .i64 er] 27)).alloc (.cells #[.slice none 0 0, .int .i64 0] 27)).alloc (.cells (hv nz) 44)).alloc (.cells (hv nz) 44)) = W at *
  refine wp_region_held_drew (S := RetS w.heap.size #[.slice ad n cap, .int .i64 er] nz w) (by kernel_rfl) hR.drew (fun hHeld => ?_)
  refine wpAnyH_take (i := 0) (oi := { dst := some 9, op := .load 27 (.tmp 1), type := 27, pos := "ref.go:204", after := #[], guard := none }) (v := .agg #[.slice ad n cap, .int .i64 er]) rfl (by kernel_rfl) (by kernel_rfl) (by kernel_rfl) (fun _ _ _ h => h) (yieldsIf_load_mid (by rfl) _ _ rfl w.heap.size 0 rfl [.slice ad n cap, .int .i64 er] _ (fun w' hS => range_row hS.1) Tryd.underlying27 rfl rsz) hHeld ?_
  simp only [Act.put, List.setIfInBounds_toArray, List.set_cons_zero, List.set_cons_succ]
  refine wpAnyH_take (i := 1) (oi := { dst := some 10, op := .load 44 (.tmp 4), type := 44, pos := "ref.go:204", after := #[{ on := 2, ground := .gcOnly .lateStores }], guard := none }) (v := .agg (hv nz)) rfl (by kernel_rfl) (by kernel_rfl) (by kernel_rfl) (fun _ _ _ h => h) (yieldsIf_load_mid (by rfl) _ _ rfl (w.heap.size + 1 + 1 + 1) 0 rfl (bl nz 32) _ (fun w' hS => by rw [← hv_list]; exact range_row hS.2.2.2.1) Tryd.underlying44 rfl (by rw [bl_length]; exact hsz)) hHeld ?_
  simp only [Act.put, List.setIfInBounds_toArray, List.set_cons_zero, List.set_cons_succ]
  refine wpAnyH_ready (rs := [2]) (by kernel_rfl) (by simp) ?_
  refine AllReadyH.cons (o := { dst := none, op := .store 27 (.tmp 2) (.tmp 9), type := 0, pos := "ref.go:204", after := #[{ on := 0, ground := .data }, { on := 0, ground := .phase }, { on := 1, ground := .textOnly .lateStores }], guard := none }) rfl (fun K hK => ?_) AllReadyH.nil
  rw [if_pos (by rfl)]
  refine wp_store_mid _ _ _ rfl _ 0 #[.slice ad n cap, .int .i64 er] rfl rfl (there_row hHeld.2.1.choose_spec.2 (by rw [hHeld.2.1.choose_spec.1]; exact Nat.le_refl 2)) rsz (by simp [Value.oneCell']) ?_
  have h2 := hHeld.one (c' := #[.slice ad n cap, .int .i64 er]) rfl
  refine hK.out _ _ h2.1 (fun _ => ?_)
  clear hK K
  simp only [Act.put]
  refine wpAnyH_ready (rs := [3]) (by kernel_rfl) (by simp) ?_
  refine AllReadyH.cons (o := { dst := none, op := .store 44 (.tmp 3) (.tmp 10), type := 0, pos := "ref.go:204", after := #[{ on := 1, ground := .data }, { on := 2, ground := .chain }, { on := 0, ground := .phase }, { on := 1, ground := .phase }, { on := 2, ground := .phase }], guard := none }) rfl (fun K hK => ?_) AllReadyH.nil
  rw [if_pos (by rfl)]
  refine wp_store_mid _ _ _ rfl _ 0 (hv nz) rfl rfl (there_row h2.1.2.2.1.choose_spec (by simp [hv_size])) (hszv nz) (hv_one nz) ?_
  have h3 := h2.1.two h2.2 rfl
  refine hK.out _ _ h3.1 (fun _ => ?_)
  clear hK K
  refine wpAnyH_done (by kernel_rfl) ?_ _
  simp only [Act.put]
  go_wp2_with fail
  exact bodyPost_ret (v := .tuple #[.agg #[.slice ad n cap, .int .i64 er], .agg (hv nz)]) (results_RH Tryd.results15 _ _ _ _ _ _ rfl h3.2.1 rfl h3.2.2) rfl ⟨rfl, h3.1.2.2.2.2⟩
end Go.Proofs.YtelpkbdobeofgaaDoor
