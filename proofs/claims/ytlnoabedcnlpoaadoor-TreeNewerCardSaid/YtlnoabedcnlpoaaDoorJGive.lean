/- A tree as the program's; the tree that TreeNewer plays. -/
import Derived.Test.YtlnoabedcnlpoaaDoorJIow
import Derived.Deep.RegionHeld3
namespace Go.Proofs.YtlnoabedcnlpoaaDoor
open Go.RowKit

def ptl (z : Nat → Int) (n : Int) : List Value := bl z 32 ++ [.int .i64 n]
theorem ptl_length (z : Nat → Int) (n : Int) : (ptl z n).length = 33 := by simp [ptl, bl_length]
theorem szPtr (z : Nat → Int) (n : Int) : (Tryd.prog.info? 25).map (·.size) = some (ptl z n).length := by rw [ptl_length]; kernel_rfl
theorem tc_pt {w : World} {g : Nat} {c : Tc} {ka : Option Addr} {kc : Nat} (h : w.rangeAt g 0 (tcl c ka kc)) : w.rangeAt g 0 (ptl c.pt c.n) := fun j v hv => h j v (by
  have hj := (List.getElem?_eq_some_iff.1 hv).1
  rw [ptl_length] at hj
  rw [ptl] at hv
  rw [tcl]
  by_cases h32 : j < 32
  · rw [List.getElem?_append_left (by rw [bl_length]; exact h32)] at hv ⊢
    exact hv
  · obtain rfl : j = 32 := by omega
    rw [List.getElem?_append_right (by rw [bl_length]; omega)] at hv ⊢
    rw [bl_length] at hv ⊢
    simpa using hv)
theorem iow_at {w0 w : World} {v : Value} {L : List Int} (h : IOw w0 w v L) : ∃ ad cap, v = .slice ad L.length cap ∧ (0 < L.length → ∃ g, ad = some ⟨g, 0, none⟩ ∧ w0.heap.size ≤ g ∧ ∀ j, j < L.length → w.cell? ⟨g, 0 + j, none⟩ = some (.int .i64 (fi L j))) := by
  rcases h.form with ⟨rfl, rfl⟩ | ⟨g, cap, rfl, _, _, h1, _, hc⟩
  · exact ⟨none, 0, rfl, fun h => by cases h⟩
  · exact ⟨_, cap, rfl, fun _ => ⟨g, rfl, h1, hc⟩⟩
section
variable {ops : Array Oper} {o : Oper} {a : Act} {w : World} {Q : Exit → Act → World → Prop} {K : Act → World → Prop} {E : Prop}
theorem step_storeG (T : TypeId) {n : Nat} (hT : (Tryd.prog.info? T).map (·.size) = some n) (hgd : o.guard = none) (x y : Operand) (ho : o.op = .store T x y) (g : Nat) (hx : a.eval x = .pointer (some ⟨g, 0, none⟩)) (cs old : Array Value) (hl : cs.size = n) (hu : old.size = n) (h1 : cs.all (·.oneCell') = true) (t : TypeId) (hy : a.eval y = .agg cs) (hg : w.heap[g]? = some (.cells old t (0, 0)))
    (h : ∀ w', w'.heap[g]? = some (.cells cs t (0, 0)) → Frm [g] w w' → K (a.put o.dst undef) w') : if Region.wanted o (yielded ops a.tmps) = true then Oper.wp Tryd.prog o a w K Q else E := by
  have hw : Region.wanted o (yielded ops a.tmps) = true := by simp [Region.wanted, hgd]
  rw [if_pos hw]
  refine wp_store_mid T x y ho g 0 cs hx hy ?_ (by rw [hl]; exact hT) h1 (h _ ?_ (setCells_frm g _ 0 w))
  · intro j hj
    rw [hl] at hj
    refine ⟨?_, ?_⟩
    · rw [Nat.zero_add, cell_of_row w g j _ t _ hg]
      simp [hu, hj]
    · rw [Nat.zero_add]; exact frozen_of_row w g j _ t hg
  · have := setCells_at g cs.toList 0 w [] old.toList t (by simpa using hg) rfl (by simp [hl, hu])
    rw [this]
    simp [hl, hu, List.drop_eq_nil_of_le]
end
def tc0 : Tc := ⟨nz, 0, 0, 0, nz, 0, 0, 0, 0, 0⟩
theorem run_allocTc (w : World) : (Instr.alloc 32 true (.tuple #[])).run Tryd.prog w = .ok (.pointer (some ⟨w.heap.size, 0, none⟩)) (w.alloc (.cells (tcv tc0 none 0) 32)) := by kernel_rfl
theorem build_Tc (c : Tc) (ka : Option Addr) (kc : Nat) (w : World) : (Instr.build 32 #[(0, .agg (ptl c.pt c.n).toArray), (1, .int .i64 c.am), (2, .slice ka c.kn kc), (3, .int .i64 c.dp), (4, .int .i64 c.fi), (5, .int .i64 c.la), (6, .int .i64 c.st), (7, .int .i64 c.fe)]).run Tryd.prog w = .ok (.agg (tcv c ka kc)) w := by kernel_rfl
set_option maxRecDepth 100000 in
set_option maxHeartbeats 3200000 in
theorem giveTree_any (c : Tc) (ka : Option Addr) (kc : Nat) (w : World) (hI : TcIn w c ka) :
    Calls Tryd.prog 8 #[.agg (tcv c ka kc)] w fun e w' => (∃ ka' kc', e = .returned (.agg (tcv c ka' kc')) ∧ TcIn w' c ka') ∧ Below w.heap.size w w' := by
  have HH := hidV hI
  clear hI
  go_enter Tryd.func8, Tryd.ntmps8
  go_upto_region 2 with (first | (refine wpList_boxN rfl _ _ rfl (tcv c ka kc) rfl ?_; intro v1 N1) | (refine wpList_allocN 32 (tcv tc0 none 0) run_allocTc rfl rfl ?_; intro v2 N2) | fail)
  have HX : Hid (Below w.heap.size w v2 ∧ w.heap.size < v1.heap.size ∧ v1.heap.size < v2.heap.size ∧ (∀ w' : World, Below v2.heap.size v2 w' → w'.rangeAt w.heap.size 0 (ptl c.pt c.n) ∧ TcBox w' w.heap.size c ka kc) ∧ (∀ w' : World, Below v2.heap.size v2 w' → w'.heap[v1.heap.size]? = some (.cells (tcv tc0 none 0) 32 (0, 0)))) :=
    ⟨Below.transS N1.below N2.below, by rw [N1.size]; omega, by rw [N2.size]; omega, fun w' hb => by
      have h := tcl_range (heap_below hb (N2.old N1.blk))
      exact ⟨tc_pt h, tcBox h⟩, fun w' hb => heap_below hb N2.blk⟩
  clear N1 N2
  have S0 := HX.out.2.2.2.1 v2.drew (Below.refl _ v2).drew
  have HU := hidV ((src_of (sc := kc) HH.out.keys).below (HX.out.1))
  have hlen : ([] : List Int).length + (keysL c.kz c.kn).length ≤ 1000000 := by rw [keysL_length]; have := HH.out.few; simp; omega
  have HU' := hidV (HU.out.below (Below.refl _ v2).drew)
  have S0' : v2.drew.rangeAt w.heap.size 0 (ptl c.pt c.n) ∧ v2.drew.cell? ⟨w.heap.size, 33, none⟩ = some (.int .i64 c.am) ∧ v2.drew.cell? ⟨w.heap.size, 34, none⟩ = some (.slice ka c.kn kc) ∧ v2.drew.cell? ⟨w.heap.size, 35, none⟩ = some (.int .i64 c.dp) ∧ v2.drew.cell? ⟨w.heap.size, 36, none⟩ = some (.int .i64 c.fi) ∧ v2.drew.cell? ⟨w.heap.size, 37, none⟩ = some (.int .i64 c.la) ∧ v2.drew.cell? ⟨w.heap.size, 38, none⟩ = some (.int .i64 c.st) ∧ v2.drew.cell? ⟨w.heap.size, 39, none⟩ = some (.int .i64 c.fe) := ⟨S0.1, S0.2.am, S0.2.ks, S0.2.dp, S0.2.fi, S0.2.la, S0.2.st, S0.2.fe⟩
  clear S0 HU
  refine wp_region_noPanic ?_
  refine wp_region_held_drew (S := fun w' => w'.rangeAt w.heap.size 0 (ptl c.pt c.n) ∧ w'.cell? ⟨w.heap.size, 33, none⟩ = some (.int .i64 c.am) ∧ w'.cell? ⟨w.heap.size, 34, none⟩ = some (.slice ka c.kn kc) ∧ w'.cell? ⟨w.heap.size, 35, none⟩ = some (.int .i64 c.dp) ∧ w'.cell? ⟨w.heap.size, 36, none⟩ = some (.int .i64 c.fi) ∧ w'.cell? ⟨w.heap.size, 37, none⟩ = some (.int .i64 c.la) ∧ w'.cell? ⟨w.heap.size, 38, none⟩ = some (.int .i64 c.st) ∧ w'.cell? ⟨w.heap.size, 39, none⟩ = some (.int .i64 c.fe)) (by kernel_rfl) S0' (fun hHeld => ?_)
  refine wpAnyH_take (i := 0) (oi := { dst := some 4, op := Go.Op.fieldAddr 28 (Go.Operand.tmp 1) 0, type := 0, pos := "law.go:89", after := #[], guard := none }) (v := ?_) rfl (by kernel_rfl) (by kernel_rfl) (by kernel_rfl) (fun _ _ _ h => h) (Or.inl ⟨by rfl, ?_⟩) (by assumption) ?_
  rotate_left
  · intro wz hSw; (try dsimp only at hSw); go_simp; (try with_reducible rfl)
  try simp only [Act.put, List.setIfInBounds_toArray, List.set_cons_zero, List.set_cons_succ]
  refine wpAnyH_take (i := 1) (oi := { dst := some 5, op := Go.Op.load 25 (Go.Operand.tmp 4), type := 25, pos := "law.go:89", after := #[{ on := 0, ground := Go.Ground.data }], guard := none }) rfl (by kernel_rfl) (by kernel_rfl) (by kernel_rfl) (fun _ _ _ h => h) (yieldsIf_load_mid (by rfl) _ _ rfl w.heap.size 0 rfl (ptl c.pt c.n) _ (fun _ h => h.1) Tryd.underlying25 rfl (szPtr _ _)) (by assumption) ?_
  try simp only [Act.put, List.setIfInBounds_toArray, List.set_cons_zero, List.set_cons_succ]
  refine wpAnyH_take (i := 2) (oi := { dst := some 6, op := Go.Op.fieldAddr 28 (Go.Operand.tmp 1) 1, type := 0, pos := "law.go:89", after := #[], guard := none }) (v := ?_) rfl (by kernel_rfl) (by kernel_rfl) (by kernel_rfl) (fun _ _ _ h => h) (Or.inl ⟨by rfl, ?_⟩) (by assumption) ?_
  rotate_left
  · intro wz hSw; (try dsimp only at hSw); go_simp; (try with_reducible rfl)
  try simp only [Act.put, List.setIfInBounds_toArray, List.set_cons_zero, List.set_cons_succ]
  refine wpAnyH_take (i := 3) (oi := { dst := some 7, op := Go.Op.load 3 (Go.Operand.tmp 6), type := 3, pos := "law.go:89", after := #[{ on := 2, ground := Go.Ground.data }], guard := none }) (v := ?_) rfl (by kernel_rfl) (by kernel_rfl) (by kernel_rfl) (fun _ _ _ h => h) (Or.inl ⟨by rfl, ?_⟩) (by assumption) ?_
  rotate_left
  · intro wz hSw; (try dsimp only at hSw); go_simp; (try with_reducible rfl)
  try simp only [Act.put, List.setIfInBounds_toArray, List.set_cons_zero, List.set_cons_succ]
  refine wpAnyH_take (i := 4) (oi := { dst := some 8, op := Go.Op.move (Go.Operand.tmp 3), type := 26, pos := "law.go:89", after := #[], guard := none }) (v := ?_) rfl (by kernel_rfl) (by kernel_rfl) (by kernel_rfl) (fun _ _ _ h => h) (Or.inl ⟨by rfl, ?_⟩) (by assumption) ?_
  rotate_left
  · intro wz hSw; (try dsimp only at hSw); go_simp; (try with_reducible rfl)
  try simp only [Act.put, List.setIfInBounds_toArray, List.set_cons_zero, List.set_cons_succ]
  refine wpAnyH_take (i := 5) (oi := { dst := some 9, op := Go.Op.fieldAddr 28 (Go.Operand.tmp 1) 2, type := 0, pos := "law.go:89", after := #[], guard := none }) (v := ?_) rfl (by kernel_rfl) (by kernel_rfl) (by kernel_rfl) (fun _ _ _ h => h) (Or.inl ⟨by rfl, ?_⟩) (by assumption) ?_
  rotate_left
  · intro wz hSw; (try dsimp only at hSw); go_simp; (try with_reducible rfl)
  try simp only [Act.put, List.setIfInBounds_toArray, List.set_cons_zero, List.set_cons_succ]
  refine wpAnyH_take (i := 6) (oi := { dst := some 10, op := Go.Op.load 26 (Go.Operand.tmp 9), type := 26, pos := "law.go:89", after := #[{ on := 5, ground := Go.Ground.data }], guard := none }) (v := ?_) rfl (by kernel_rfl) (by kernel_rfl) (by kernel_rfl) (fun _ _ _ h => h) (Or.inl ⟨by rfl, ?_⟩) (by assumption) ?_
  rotate_left
  · intro wz hSw; (try dsimp only at hSw); go_simp; (try with_reducible rfl)
  try simp only [Act.put, List.setIfInBounds_toArray, List.set_cons_zero, List.set_cons_succ]
  refine wpAnyH_take (i := 8) (oi := { dst := some 12, op := Go.Op.fieldAddr 28 (Go.Operand.tmp 1) 3, type := 0, pos := "law.go:89", after := #[], guard := none }) (v := ?_) rfl (by kernel_rfl) (by kernel_rfl) (by kernel_rfl) (fun _ _ _ h => h) (Or.inl ⟨by rfl, ?_⟩) (by assumption) ?_
  rotate_left
  · intro wz hSw; (try dsimp only at hSw); go_simp; (try with_reducible rfl)
  try simp only [Act.put, List.setIfInBounds_toArray, List.set_cons_zero, List.set_cons_succ]
  refine wpAnyH_take (i := 9) (oi := { dst := some 13, op := Go.Op.load 3 (Go.Operand.tmp 12), type := 3, pos := "law.go:89", after := #[{ on := 8, ground := Go.Ground.data }], guard := none }) (v := ?_) rfl (by kernel_rfl) (by kernel_rfl) (by kernel_rfl) (fun _ _ _ h => h) (Or.inl ⟨by rfl, ?_⟩) (by assumption) ?_
  rotate_left
  · intro wz hSw; (try dsimp only at hSw); go_simp; (try with_reducible rfl)
  try simp only [Act.put, List.setIfInBounds_toArray, List.set_cons_zero, List.set_cons_succ]
  refine wpAnyH_take (i := 10) (oi := { dst := some 14, op := Go.Op.fieldAddr 28 (Go.Operand.tmp 1) 4, type := 0, pos := "law.go:89", after := #[], guard := none }) (v := ?_) rfl (by kernel_rfl) (by kernel_rfl) (by kernel_rfl) (fun _ _ _ h => h) (Or.inl ⟨by rfl, ?_⟩) (by assumption) ?_
  rotate_left
  · intro wz hSw; (try dsimp only at hSw); go_simp; (try with_reducible rfl)
  try simp only [Act.put, List.setIfInBounds_toArray, List.set_cons_zero, List.set_cons_succ]
  refine wpAnyH_take (i := 11) (oi := { dst := some 15, op := Go.Op.load 3 (Go.Operand.tmp 14), type := 3, pos := "law.go:89", after := #[{ on := 10, ground := Go.Ground.data }], guard := none }) (v := ?_) rfl (by kernel_rfl) (by kernel_rfl) (by kernel_rfl) (fun _ _ _ h => h) (Or.inl ⟨by rfl, ?_⟩) (by assumption) ?_
  rotate_left
  · intro wz hSw; (try dsimp only at hSw); go_simp; (try with_reducible rfl)
  try simp only [Act.put, List.setIfInBounds_toArray, List.set_cons_zero, List.set_cons_succ]
  refine wpAnyH_take (i := 12) (oi := { dst := some 16, op := Go.Op.fieldAddr 28 (Go.Operand.tmp 1) 5, type := 0, pos := "law.go:89", after := #[], guard := none }) (v := ?_) rfl (by kernel_rfl) (by kernel_rfl) (by kernel_rfl) (fun _ _ _ h => h) (Or.inl ⟨by rfl, ?_⟩) (by assumption) ?_
  rotate_left
  · intro wz hSw; (try dsimp only at hSw); go_simp; (try with_reducible rfl)
  try simp only [Act.put, List.setIfInBounds_toArray, List.set_cons_zero, List.set_cons_succ]
  refine wpAnyH_take (i := 13) (oi := { dst := some 17, op := Go.Op.load 3 (Go.Operand.tmp 16), type := 3, pos := "law.go:89", after := #[{ on := 12, ground := Go.Ground.data }], guard := none }) (v := ?_) rfl (by kernel_rfl) (by kernel_rfl) (by kernel_rfl) (fun _ _ _ h => h) (Or.inl ⟨by rfl, ?_⟩) (by assumption) ?_
  rotate_left
  · intro wz hSw; (try dsimp only at hSw); go_simp; (try with_reducible rfl)
  try simp only [Act.put, List.setIfInBounds_toArray, List.set_cons_zero, List.set_cons_succ]
  refine wpAnyH_take (i := 14) (oi := { dst := some 18, op := Go.Op.fieldAddr 28 (Go.Operand.tmp 1) 6, type := 0, pos := "law.go:89", after := #[], guard := none }) (v := ?_) rfl (by kernel_rfl) (by kernel_rfl) (by kernel_rfl) (fun _ _ _ h => h) (Or.inl ⟨by rfl, ?_⟩) (by assumption) ?_
  rotate_left
  · intro wz hSw; (try dsimp only at hSw); go_simp; (try with_reducible rfl)
  try simp only [Act.put, List.setIfInBounds_toArray, List.set_cons_zero, List.set_cons_succ]
  refine wpAnyH_take (i := 15) (oi := { dst := some 19, op := Go.Op.load 3 (Go.Operand.tmp 18), type := 3, pos := "law.go:89", after := #[{ on := 14, ground := Go.Ground.data }], guard := none }) (v := ?_) rfl (by kernel_rfl) (by kernel_rfl) (by kernel_rfl) (fun _ _ _ h => h) (Or.inl ⟨by rfl, ?_⟩) (by assumption) ?_
  rotate_left
  · intro wz hSw; (try dsimp only at hSw); go_simp; (try with_reducible rfl)
  try simp only [Act.put, List.setIfInBounds_toArray, List.set_cons_zero, List.set_cons_succ]
  refine wpAnyH_take (i := 16) (oi := { dst := some 20, op := Go.Op.fieldAddr 28 (Go.Operand.tmp 1) 7, type := 0, pos := "law.go:89", after := #[], guard := none }) (v := ?_) rfl (by kernel_rfl) (by kernel_rfl) (by kernel_rfl) (fun _ _ _ h => h) (Or.inl ⟨by rfl, ?_⟩) (by assumption) ?_
  rotate_left
  · intro wz hSw; (try dsimp only at hSw); go_simp; (try with_reducible rfl)
  try simp only [Act.put, List.setIfInBounds_toArray, List.set_cons_zero, List.set_cons_succ]
  refine wpAnyH_take (i := 17) (oi := { dst := some 21, op := Go.Op.load 3 (Go.Operand.tmp 20), type := 3, pos := "law.go:89", after := #[{ on := 16, ground := Go.Ground.data }], guard := none }) (v := ?_) rfl (by kernel_rfl) (by kernel_rfl) (by kernel_rfl) (fun _ _ _ h => h) (Or.inl ⟨by rfl, ?_⟩) (by assumption) ?_
  rotate_left
  · intro wz hSw; (try dsimp only at hSw); go_simp; (try with_reducible rfl)
  try simp only [Act.put, List.setIfInBounds_toArray, List.set_cons_zero, List.set_cons_succ]
  refine wpAnyH_ready (rs := [7]) (by kernel_rfl) (by simp) ?_
  refine (AllReadyH.cons (o := { dst := some 11, op := Go.Op.call { callee := Go.Callee.builtin Go.Builtin.append, args := #[Go.Operand.tmp 8, Go.Operand.tmp 10], argTypes := #[26, 26] }, type := 26, pos := "law.go:89", after := #[{ on := 4, ground := Go.Ground.data }, { on := 6, ground := Go.Ground.data }], guard := none }) rfl (fun K hK => ?_) AllReadyH.nil)
  refine step_append_I underI rfl (.tmp 8) (.tmp 10) rfl v2.drew _ _ [] (keysL c.kz c.kn) (by rfl) (by rfl) (IOw.nil _) HU'.out hlen ?_
  intro v' w2 hO
  have hb2 : Below v2.heap.size v2 w2 := (Below.refl _ v2).drew.trans hO.below
  have S2 := HX.out.2.2.2.1 w2 hb2
  obtain ⟨ka', kc', rfl, hA⟩ := iow_at hO
  rw [List.nil_append, keysL_length] at hA ⊢
  have HE : Hid (Below v2.heap.size v2 w2 ∧ (0 < c.kn → ∃ g, ka' = some ⟨g, 0, none⟩ ∧ v2.heap.size ≤ g ∧ ∀ j, j < c.kn → w2.cell? ⟨g, 0 + j, none⟩ = some (.int .i64 (c.kz j)))) := ⟨hb2, fun hn => by
    obtain ⟨g, e, hg, hc⟩ := hA hn
    refine ⟨g, e, hg, fun j hj => ?_⟩
    rw [hc j hj]
    simp [fi, List.getD_eq_getElem?_getD, keysL_at hj]⟩
  clear hO hb2 hA
  refine hK.out _ _ ⟨S2.1, S2.2.am, S2.2.ks, S2.2.dp, S2.2.fi, S2.2.la, S2.2.st, S2.2.fe⟩ (fun hS2 => ?_)
  have HS2 := hidV hS2
  clear hS2
  clear hK K S0' S2
  try simp only [Act.put, List.setIfInBounds_toArray, List.set_cons_zero, List.set_cons_succ]
  refine wpAnyH_take (i := 18) (oi := { dst := some 22, op := Go.Op.build 32 #[(0, Go.Operand.tmp 5), (1, Go.Operand.tmp 7), (2, Go.Operand.tmp 11), (3, Go.Operand.tmp 13), (4, Go.Operand.tmp 15), (5, Go.Operand.tmp 17), (6, Go.Operand.tmp 19), (7, Go.Operand.tmp 21)], type := 32, pos := "law.go:89", after := #[{ on := 1, ground := Go.Ground.data }, { on := 3, ground := Go.Ground.data }, { on := 7, ground := Go.Ground.data }, { on := 9, ground := Go.Ground.data }, { on := 11, ground := Go.Ground.data }, { on := 13, ground := Go.Ground.data }, { on := 15, ground := Go.Ground.data }, { on := 17, ground := Go.Ground.data }], guard := none }) (v := .agg (tcv c ka' kc')) rfl (by kernel_rfl) (by kernel_rfl) (by kernel_rfl) (fun _ _ _ h => h) (Or.inl ⟨by rfl, ?_⟩) (by assumption) ?_
  · intro wz hSw; (try dsimp only at hSw); (unfold execOp; simp only [List.map_toArray, List.map_cons, List.map_nil, Act.eval]; kernel_rfl)
  try simp only [Act.put, List.setIfInBounds_toArray, List.set_cons_zero, List.set_cons_succ]
  refine wpAnyH_ready (rs := [19]) (by kernel_rfl) (by simp) ?_
  refine (AllReadyH.cons (o := { dst := none, op := Go.Op.store 32 (Go.Operand.tmp 2) (Go.Operand.tmp 22), type := 0, pos := "law.go:89", after := #[{ on := 18, ground := Go.Ground.data }, { on := 7, ground := Go.Ground.chain }, { on := 0, ground := Go.Ground.phase }, { on := 1, ground := Go.Ground.phase }, { on := 2, ground := Go.Ground.phase }, { on := 3, ground := Go.Ground.phase }, { on := 4, ground := Go.Ground.phase }, { on := 5, ground := Go.Ground.phase }, { on := 6, ground := Go.Ground.phase }, { on := 7, ground := Go.Ground.phase }, { on := 8, ground := Go.Ground.phase }, { on := 9, ground := Go.Ground.phase }, { on := 10, ground := Go.Ground.phase }, { on := 11, ground := Go.Ground.phase }, { on := 12, ground := Go.Ground.phase }, { on := 13, ground := Go.Ground.phase }, { on := 14, ground := Go.Ground.phase }, { on := 15, ground := Go.Ground.phase }, { on := 16, ground := Go.Ground.phase }, { on := 17, ground := Go.Ground.phase }, { on := 18, ground := Go.Ground.phase }], guard := none }) rfl (fun K hK => ?_) AllReadyH.nil)
  refine step_storeG 32 szT rfl (.tmp 2) (.tmp 22) rfl v1.heap.size (by rfl) (tcv c ka' kc') (tcv tc0 none 0) (tcv_size _ _ _) (tcv_size _ _ _) (all_oneCell_toArray (tcl_one _ _ _)) 32 (by rfl) (HX.out.2.2.2.2 w2 HE.out.1) ?_
  intro w3 hg3 hf3
  have hS := HS2.out
  have hbk : w3.heap[w.heap.size]? = w2.heap[w.heap.size]? := hf3.block _ (by have := HX.out; have := HE.out.1.size; omega) (by have := HX.out.2.1; simp; omega)
  have hcell : ∀ o, w3.cell? ⟨w.heap.size, o, none⟩ = w2.cell? ⟨w.heap.size, o, none⟩ := fun o => World.cell?_of_block (a := ⟨w.heap.size, o, none⟩) hbk
  have HF : Hid (w3.heap[v1.heap.size]? = some (.cells (tcv c ka' kc') 32 (0, 0)) ∧ TcIn w3 c ka' ∧ Below w.heap.size w w3) := by
    refine ⟨hg3, ⟨fun hn => ?_, HH.out.few, HH.out.st⟩, (HX.out.1.trans (HE.out.1.mono HX.out.1.size)).trans (hf3.below (by have := HX.out.1.size; have := HE.out.1.size; omega) (by have := HX.out.2.1; simp; omega))⟩
    obtain ⟨g, e, hg, hc⟩ := HE.out.2 hn
    refine ⟨g, 0, e, fun j hj => ?_⟩
    rw [World.cell?_of_block (a := ⟨g, 0 + j, none⟩) (hf3.block g (World.block_lt_of_cell? w2 ⟨g, 0 + j, none⟩ (hc j hj)) (by have := HX.out.2.2.1; simp; omega))]
    exact hc j hj
  refine hK.out _ _ ⟨fun j v hv => by rw [hcell]; exact hS.1 j v hv, by rw [hcell]; exact hS.2.1, by rw [hcell]; exact hS.2.2.1, by rw [hcell]; exact hS.2.2.2.1, by rw [hcell]; exact hS.2.2.2.2.1, by rw [hcell]; exact hS.2.2.2.2.2.1, by rw [hcell]; exact hS.2.2.2.2.2.2.1, by rw [hcell]; exact hS.2.2.2.2.2.2.2⟩ (fun _ => ?_)
  clear hK K hS hg3 hf3 hbk hcell
  try simp only [Act.put]
  refine wpAnyH_done (by kernel_rfl) (NoPanic.normal ?_) _
  try simp only [Act.put, List.setIfInBounds_toArray, List.set_cons_zero, List.set_cons_succ]
  clear hHeld
  go_wp2
  refine bodyPost_ret (results_cell_row Tryd.results8 _ w3 v1.heap.size 32 _ (0, 0) _ rfl HF.out.1 Tryd.underlying32 rfl (by rw [tcv_size]; exact szT)) rfl ⟨⟨ka', kc', rfl, HF.out.2.1⟩, HF.out.2.2⟩
end Go.Proofs.YtlnoabedcnlpoaaDoor
