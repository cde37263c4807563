/- The document's Add (made by tools/mkadd.py): behind all whose due is not above. -/
import Derived.Test.YthnobkiiaflelaaDoorOwnShelf09
import Derived.Test.YthnobkiiaflelaaDoorOwnShelf10
import Derived.Deep.CutBlock
import Derived.Deep.DeepCutAuto
namespace Go.Proofs.YthnobkiiaflelaaDoor
open Go.RowKit Go.Maps Go.Sort

theorem QB.cells {w W : World} {v y : Value} {last m : Int} (h : QB w W v last y m) : W.cell? ⟨w.heap.size, 0, none⟩ = some v ∧ W.cell? ⟨w.heap.size, 1, none⟩ = some (.int .i64 last) :=
  ⟨by rw [cell_of_row _ _ 0 _ _ _ h.box]; rfl, by rw [cell_of_row _ _ 1 _ _ _ h.box]; rfl⟩
theorem QB.drew {w W : World} {v y : Value} {last m : Int} (h : QB w W v last y m) : QB w W.drew v last y m := ⟨h.box, h.res, h.below.drew⟩
theorem QB.setBox {w W : World} {v y : Value} {last m : Int} (h : QB w W v last y m) (v' : Value) : QB w (W.setCell ⟨w.heap.size, 0, none⟩ v') v' last y m := by
  refine ⟨?_, ?_, h.below.trans ((Below.refl w.heap.size W).setCell (Nat.le_refl _) _)⟩
  · rw [heap_setCell_same _ _ 0 _ _ _ h.box]; rfl
  · rw [Below.heap_setCell _ _ _ _ (by simp)]; exact h.res
theorem QB.setLast {w W : World} {v y : Value} {last m : Int} (h : QB w W v last y m) (l' : Int) : QB w (W.setCell ⟨w.heap.size, 1, none⟩ (.int .i64 l')) v l' y m := by
  refine ⟨?_, ?_, h.below.trans ((Below.refl w.heap.size W).setCell (Nat.le_refl _) _)⟩
  · rw [heap_setCell_same _ _ 1 _ _ _ h.box]; rfl
  · rw [Below.heap_setCell _ _ _ _ (by simp)]; exact h.res
theorem QB.setRes {w W : World} {v y : Value} {last m : Int} (h : QB w W v last y m) (y' : Value) (m' : Int) : QB w ((W.setCell ⟨w.heap.size + 1, 0, none⟩ y').setCell ⟨w.heap.size + 1, 1, none⟩ (.int .i64 m')) v last y' m' := by
  refine ⟨?_, ?_, h.below.trans (((Below.refl w.heap.size W).setCell (Nat.le_succ _) _).setCell (Nat.le_succ _) _)⟩
  · rw [Below.heap_setCell _ _ _ _ (by simp), Below.heap_setCell _ _ _ _ (by simp)]; exact h.box
  · have h2 : (W.setCell ⟨w.heap.size + 1, 0, none⟩ y').heap[w.heap.size + 1]? = some (.cells #[y', .int .i64 m] 39 (0, 0)) := by
      rw [heap_setCell_same _ _ 0 _ _ _ h.res]; rfl
    rw [heap_setCell_same _ _ 1 _ _ _ h2]; rfl
theorem EvOw.far {w wd w4 W : World} {v : Value} {M : List Ev} (h : EvOw wd w4 v M) (hb : Below w.heap.size w wd) (hk : ∀ k, wd.heap.size ≤ k → W.heap[k]? = w4.heap[k]?) (hW : Below w.heap.size w W) : EvOw w W v M :=
  ⟨owns_row_keep (h.mono hb).own fun k e => hk k (h.block k e), hW⟩
theorem results_Q3 {fn : Func} {p u z : Tmp} (h : fn.results = #[.cell p 39, .tmp u, .tmp z]) (tmps : Array Value) (w : World) (g : Nat) (t : TypeId) (v x : Value) (fr : Nat × Nat)
    (hp : tmps.getD p undef = .pointer (some ⟨g, 0, none⟩)) (hg : w.heap[g]? = some (.cells #[v, x] t fr)) :
    (results fn tmps).run Tryd.prog w = .ok (.tuple #[.agg #[v, x], tmps.getD u undef, tmps.getD z undef]) w := by
  have hp' : tmps[p]?.getD undef = .pointer (some ⟨g, 0, none⟩) := by simpa using hp
  simp [results, h, hp', asAddr, run_loadVar_row w g t 39 #[v, x] fr _ hg Tryd.underlying39 rfl szQ]
/-- What Add answers. -/
structure AddR (w : World) (ad : Option Addr) (cap : Nat) (L : List Ev) (last due : Int) (nm : List UInt8) (e : Ending) (w' : World) : Prop where
  below : Below w.heap.size w w'
  out : (addE due nm ≠ 0 ∧ e = .returned (.tuple #[qV (.slice ad L.length cap) last, .int .i64 0, .int .i64 (addE due nm)])) ∨ (addE due nm = 0 ∧ ∃ v, e = .returned (.tuple #[qV v (last + 1), .int .i64 (last + 1), .int .i64 0]) ∧ EvOw w w' v (insE ⟨last + 1, due, nm⟩ L))

set_option maxRecDepth 100000 in
set_option maxHeartbeats 3200000 in
theorem radd_any (ad : Option Addr) (cap : Nat) (L : List Ev) (last due : Int) (nm : List UInt8) (w : World) (h : EvAt w ad L) (hl : L.length ≤ 1000) (hcap : L.length ≤ cap) (hnil : ad = none → L.length = 0 ∧ cap = 0) (hsp : ∀ a, ad = some a → ∃ bb off, a = ⟨bb, off, none⟩) (hla : 0 ≤ last) (hlb : last ≤ 1000000) (_hnm : nm.length ≤ maxLen) :
    Calls Tryd.prog 17 #[qV (.slice ad L.length cap) last, .int .i64 due, encStr nm] w fun e w' => AddR w ad cap L last due nm e w' := by
  unfold qV
  have HL : Hid (EvAt w ad L) := h
  clear h
  obtain ⟨W2, hW2⟩ : ∃ W2, (w.alloc (.cells #[.slice ad L.length cap, .int .i64 last] 39)).alloc (.cells #[.slice none 0 0, .int .i64 0] 39) = W2 := ⟨_, rfl⟩
  have HQ : Hid (QB w W2 (.slice ad L.length cap) last (.slice none 0 0) 0) := by rw [← hW2]; exact QB.new w (.slice ad L.length cap) last
  have b0 := HQ.out.cells.1
  have b1 := HQ.out.cells.2
  have r0 : W2.cell? ⟨w.heap.size + 1, 0, none⟩ = some (.slice none 0 0) := by rw [cell_of_row _ _ 0 _ _ _ HQ.out.res]; rfl
  have r1 : W2.cell? ⟨w.heap.size + 1, 1, none⟩ = some (.int .i64 0) := by rw [cell_of_row _ _ 1 _ _ _ HQ.out.res]; rfl
  have f0 : W2.frozen? ⟨w.heap.size, 1, none⟩ = false := frozen_of_row W2 _ 1 _ _ HQ.out.box
  have f1 : W2.frozen? ⟨w.heap.size + 1, 0, none⟩ = false := frozen_of_row W2 _ 0 _ _ HQ.out.res
  have f2 : W2.frozen? ⟨w.heap.size + 1, 1, none⟩ = false := frozen_of_row W2 _ 1 _ _ HQ.out.res
  go_enter Tryd.func17, Tryd.ntmps17
  go_upto_region 1 with fail
  clear hW2
  by_cases hd : due < 0
  · have hE : addE due nm = 4 := by simp [addE, hd]
    go_wp2
    refine bodyPost_ret (results_Q3 Tryd.results17 _ _ (w.heap.size + 1) 39 (.slice ad L.length cap) (.int .i64 last) (0, 0) rfl HQ.out.kept.1) rfl ⟨HQ.out.kept.2, .inl ⟨by rw [hE]; decide, by rw [hE]; rfl⟩⟩
  by_cases hd2 : due > 1099511627776
  · have hE : addE due nm = 4 := by simp [addE, hd2]
    have hd' : 0 ≤ due := by omega
    go_wp2
    refine bodyPost_ret (results_Q3 Tryd.results17 _ _ (w.heap.size + 1) 39 (.slice ad L.length cap) (.int .i64 last) (0, 0) rfl HQ.out.kept.1) rfl ⟨HQ.out.kept.2, .inl ⟨by rw [hE]; decide, by rw [hE]; rfl⟩⟩
  by_cases hn : nm.length > 64
  · have hE : addE due nm = 2 := by simp [addE, hd, hd2, hn]
    have hn' : (64 : Int) < nm.length := by omega
    go_wp2
    refine bodyPost_ret (results_Q3 Tryd.results17 _ _ (w.heap.size + 1) 39 (.slice ad L.length cap) (.int .i64 last) (0, 0) rfl HQ.out.kept.1) rfl ⟨HQ.out.kept.2, .inl ⟨by rw [hE]; decide, by rw [hE]; rfl⟩⟩
  have HE : Hid (addE due nm = 0) := by simp [Hid, addE, hd, hd2, hn]
  have hn' : ¬ (64 : Int) < nm.length := by omega
  have HI0 : Hid (QB w (W2.setCell ⟨w.heap.size, 1, none⟩ (.int .i64 (last + 1))) (.slice ad L.length cap) (last + 1) (.slice none 0 0) 0) := HQ.out.setLast _
  go_wp2
  go_loopw [10] (fun iv wr => ∃ i : Nat, i ≤ L.length ∧ iv = .int .i64 i ∧ QB w wr (.slice ad L.length cap) (last + 1) (.slice none 0 0) 0 ∧ ∀ y ∈ L.take i, y.due ≤ due) (fun iv _ => L.length - (intOf iv).toNat)
  case atStart => exact ⟨0, Nat.zero_le _, rfl, HI0.out, fun y hy => by simp at hy⟩
  case round =>
    clear HI0 b0 b1 r0 r1 f0 f1 f2
    obtain ⟨i, hi, rfl, hI, hD⟩ := hrel
    have HI : Hid (QB w wr (.slice ad L.length cap) (last + 1) (.slice none 0 0) 0) := hI
    have HDu : Hid (∀ y ∈ L.take i, y.due ≤ due) := hD
    clear hI hD
    have b0 := HI.out.cells.1
    by_cases hlt : i < L.length
    · have hlt' : (i : Int) < L.length := by omega
      have hx : L[i]? = some L[i] := List.getElem?_eq_getElem hlt
      have htk : L.take (i + 1) = L.take i ++ [L[i]] := (List.take_append_getElem hlt).symm
      obtain ⟨bb, off, rfl, hc⟩ := (HL.out.below HI.out.below) (by omega)
      have c1 := (hc i _ hx).2.1
      clear hc
      by_cases hdu : L[i].due ≤ due
      · have HN : Hid (∀ y ∈ L.take (i + 1), y.due ≤ due) := fun y hy => by
          rw [htk] at hy
          rcases List.mem_append.1 hy with hy | hy
          · exact HDu.out y hy
          · rw [List.mem_singleton.1 hy]; exact hdu
        clear hx htk
        generalize L[i].due = du at *
        go_wp2
        exact ⟨⟨i + 1, by omega, by go_num, HI.out, HN.out⟩, by simp [intOf]; omega⟩
      · have HIN : Hid (insE ⟨last + 1, due, nm⟩ L = L.take i ++ ⟨last + 1, due, nm⟩ :: L.drop i) := insE_at hi HDu.out (fun y hy => by rw [hx] at hy; cases hy; exact hdu)
        clear hx htk
        generalize L[i].due = du at *
        go_upto_region 10 with fail
        have HD : Hid (QB w wr.drew (.slice (some ⟨bb, off, none⟩) L.length cap) (last + 1) (.slice none 0 0) 0) := HI.out.drew
        obtain ⟨wd, hwd⟩ : ∃ wd, wr.drew = wd := ⟨_, rfl⟩
        rw [hwd] at HD
        have HSK : Hid (∀ W : World, Below wd.heap.size wd W → W.cell? ⟨w.heap.size, 0, none⟩ = some (.slice (some ⟨bb, off, none⟩) L.length cap) ∧ W.cell? ⟨w.heap.size, 1, none⟩ = some (.int .i64 (last + 1))) := fun W hb => (HD.out.keep hb).cells
        have hT : (L.take i).length = i := by rw [List.length_take]; omega
        have hD : (L.drop i).length = L.length - i := by simp
        have HO0 : Hid (EvOw wd wd (.slice none 0 0) []) := EvOw.nil' (Below.refl _ _)
        have HLQ : Hid (EvAt wd (some ⟨bb, off, none⟩) L) := HL.out.below HD.out.below
        have HDR : Hid (∀ W : World, EvAt W (some ⟨bb, off, none⟩) L → EvAt W (if cap = i then some ⟨bb, off, none⟩ else some ⟨bb, off + i * 3, none⟩) (L.drop i)) := fun W h => by split; exact (fun hn => by rw [List.length_drop] at hn; omega); exact h.drop _
        have HONE : Hid (∀ W : World, EvAt (W.alloc (.cells #[.int .i64 (last + 1), .int .i64 due, encStr nm] 51)) (some ⟨W.heap.size, 0, none⟩) [⟨last + 1, due, nm⟩]) := fun W => EvAt.one ⟨last + 1, due, nm⟩ W
        refine wp_region_noPanic ?_
        refine wp_region_K (S := fun w' => w'.cell? ⟨w.heap.size, 0, none⟩ = some (.slice (some ⟨bb, off, none⟩) L.length cap) ∧ w'.cell? ⟨w.heap.size, 1, none⟩ = some (.int .i64 (last + 1))) 19 (by kernel_rfl) (by rw [hwd]; exact HSK.out _ (Below.refl _ _)) (fun hHeld => ?_)
        rw [hwd] at hHeld ⊢
        clear hwd
        refine wpAnyK_take (by kernel_rfl) (i := 0) (oi := { dst := some 43, op := Go.Op.move (Go.Operand.tmp 9), type := 37, pos := "ref.go:38", after := #[], guard := none }) (v := ?_) rfl (by kernel_rfl) (by kernel_rfl) (by kernel_rfl) (fun _ _ _ h => h) (Or.inl ⟨by rfl, ?_⟩) (by assumption) ?_
        rotate_left
        · intro wz hSw; (try dsimp only at hSw); go_simp; (try with_reducible rfl)
        try simp only [Act.put, List.setIfInBounds_toArray, List.set_cons_zero, List.set_cons_succ]
        refine wpAnyK_take (by kernel_rfl) (i := 1) (oi := { dst := some 44, op := Go.Op.fieldAddr 39 (Go.Operand.tmp 3) 0, type := 0, pos := "ref.go:38", after := #[], guard := none }) (v := ?_) rfl (by kernel_rfl) (by kernel_rfl) (by kernel_rfl) (fun _ _ _ h => h) (Or.inl ⟨by rfl, ?_⟩) (by assumption) ?_
        rotate_left
        · intro wz hSw; (try dsimp only at hSw); go_simp; (try with_reducible rfl)
        try simp only [Act.put, List.setIfInBounds_toArray, List.set_cons_zero, List.set_cons_succ]
        refine wpAnyK_take (by kernel_rfl) (i := 2) (oi := { dst := some 45, op := Go.Op.load 37 (Go.Operand.tmp 44), type := 37, pos := "ref.go:38", after := #[{ on := 1, ground := Go.Ground.data }], guard := none }) (v := .slice (some ⟨bb, off, none⟩) L.length cap) rfl (by kernel_rfl) (by kernel_rfl) (by kernel_rfl) (fun _ _ _ h => h) (Or.inl ⟨by rfl, ?_⟩) (by assumption) ?_
        · intro wz hSw; (try dsimp only at hSw); have h1 := hSw.1; go_simp; try rfl
        try simp only [Act.put, List.setIfInBounds_toArray, List.set_cons_zero, List.set_cons_succ]
        refine wpAnyK_take (by kernel_rfl) (i := 3) (oi := { dst := some 46, op := Go.Op.move (Go.Operand.tmp 10), type := 3, pos := "ref.go:38", after := #[], guard := none }) (v := ?_) rfl (by kernel_rfl) (by kernel_rfl) (by kernel_rfl) (fun _ _ _ h => h) (Or.inl ⟨by rfl, ?_⟩) (by assumption) ?_
        rotate_left
        · intro wz hSw; (try dsimp only at hSw); go_simp; (try with_reducible rfl)
        try simp only [Act.put, List.setIfInBounds_toArray, List.set_cons_zero, List.set_cons_succ]
        refine wpAnyK_take (by kernel_rfl) (i := 4) (oi := { dst := some 47, op := Go.Op.slice 37 (Go.Operand.tmp 45) none (some (Go.Operand.tmp 46)) none, type := 37, pos := "ref.go:38", after := #[{ on := 2, ground := Go.Ground.data }, { on := 3, ground := Go.Ground.data }], guard := none }) (v := .slice (some ⟨bb, off, none⟩) i cap) rfl (by kernel_rfl) (by kernel_rfl) (by kernel_rfl) (fun _ _ _ h => h) (Or.inl ⟨by rfl, ?_⟩) (by assumption) ?_
        · intro wz hSw; (try dsimp only at hSw); go_simp; try (intro hbad; omega)
        try simp only [Act.put, List.setIfInBounds_toArray, List.set_cons_zero, List.set_cons_succ]
        refine wpAnyK_take (by kernel_rfl) (i := 6) (oi := { dst := some 49, op := Go.Op.fieldAddr 39 (Go.Operand.tmp 3) 1, type := 0, pos := "ref.go:38", after := #[], guard := none }) (v := ?_) rfl (by kernel_rfl) (by kernel_rfl) (by kernel_rfl) (fun _ _ _ h => h) (Or.inl ⟨by rfl, ?_⟩) (by assumption) ?_
        rotate_left
        · intro wz hSw; (try dsimp only at hSw); go_simp; (try with_reducible rfl)
        try simp only [Act.put, List.setIfInBounds_toArray, List.set_cons_zero, List.set_cons_succ]
        refine wpAnyK_take (by kernel_rfl) (i := 7) (oi := { dst := some 50, op := Go.Op.load 3 (Go.Operand.tmp 49), type := 3, pos := "ref.go:38", after := #[{ on := 6, ground := Go.Ground.data }], guard := none }) (v := .int .i64 (last + 1)) rfl (by kernel_rfl) (by kernel_rfl) (by kernel_rfl) (fun _ _ _ h => h) (Or.inl ⟨by rfl, ?_⟩) (by assumption) ?_
        · intro wz hSw; (try dsimp only at hSw); have h1 := hSw.2; go_simp; try rfl
        try simp only [Act.put, List.setIfInBounds_toArray, List.set_cons_zero, List.set_cons_succ]
        refine wpAnyK_take (by kernel_rfl) (i := 8) (oi := { dst := some 51, op := Go.Op.move (Go.Operand.tmp 1), type := 3, pos := "ref.go:38", after := #[], guard := none }) (v := ?_) rfl (by kernel_rfl) (by kernel_rfl) (by kernel_rfl) (fun _ _ _ h => h) (Or.inl ⟨by rfl, ?_⟩) (by assumption) ?_
        rotate_left
        · intro wz hSw; (try dsimp only at hSw); go_simp; (try with_reducible rfl)
        try simp only [Act.put, List.setIfInBounds_toArray, List.set_cons_zero, List.set_cons_succ]
        refine wpAnyK_take (by kernel_rfl) (i := 9) (oi := { dst := some 52, op := Go.Op.move (Go.Operand.tmp 2), type := 9, pos := "ref.go:38", after := #[], guard := none }) (v := ?_) rfl (by kernel_rfl) (by kernel_rfl) (by kernel_rfl) (fun _ _ _ h => h) (Or.inl ⟨by rfl, ?_⟩) (by assumption) ?_
        rotate_left
        · intro wz hSw; (try dsimp only at hSw); go_simp; (try with_reducible rfl)
        try simp only [Act.put, List.setIfInBounds_toArray, List.set_cons_zero, List.set_cons_succ]
        refine wpAnyK_take (by kernel_rfl) (i := 10) (oi := { dst := some 53, op := Go.Op.build 51 #[(0, Go.Operand.tmp 50), (1, Go.Operand.tmp 51), (2, Go.Operand.tmp 52)], type := 51, pos := "ref.go:38", after := #[{ on := 7, ground := Go.Ground.data }, { on := 8, ground := Go.Ground.data }, { on := 9, ground := Go.Ground.data }], guard := none }) (v := .agg #[.int .i64 (last + 1), .int .i64 due, encStr nm]) rfl (by kernel_rfl) (by kernel_rfl) (by kernel_rfl) (fun _ _ _ h => h) (Or.inl ⟨by rfl, ?_⟩) (by assumption) ?_
        · intro wz hSw; (try dsimp only at hSw); kernel_rfl
        try simp only [Act.put, List.setIfInBounds_toArray, List.set_cons_zero, List.set_cons_succ]
        refine wpAnyK_take (by kernel_rfl) (i := 13) (oi := { dst := some 56, op := Go.Op.fieldAddr 39 (Go.Operand.tmp 3) 0, type := 0, pos := "ref.go:38", after := #[], guard := none }) (v := ?_) rfl (by kernel_rfl) (by kernel_rfl) (by kernel_rfl) (fun _ _ _ h => h) (Or.inl ⟨by rfl, ?_⟩) (by assumption) ?_
        rotate_left
        · intro wz hSw; (try dsimp only at hSw); go_simp; (try with_reducible rfl)
        try simp only [Act.put, List.setIfInBounds_toArray, List.set_cons_zero, List.set_cons_succ]
        refine wpAnyK_take (by kernel_rfl) (i := 14) (oi := { dst := some 57, op := Go.Op.load 37 (Go.Operand.tmp 56), type := 37, pos := "ref.go:38", after := #[{ on := 13, ground := Go.Ground.data }], guard := none }) (v := .slice (some ⟨bb, off, none⟩) L.length cap) rfl (by kernel_rfl) (by kernel_rfl) (by kernel_rfl) (fun _ _ _ h => h) (Or.inl ⟨by rfl, ?_⟩) (by assumption) ?_
        · intro wz hSw; (try dsimp only at hSw); have h1 := hSw.1; go_simp; try rfl
        try simp only [Act.put, List.setIfInBounds_toArray, List.set_cons_zero, List.set_cons_succ]
        refine wpAnyK_take (by kernel_rfl) (i := 15) (oi := { dst := some 58, op := Go.Op.move (Go.Operand.tmp 10), type := 3, pos := "ref.go:38", after := #[], guard := none }) (v := ?_) rfl (by kernel_rfl) (by kernel_rfl) (by kernel_rfl) (fun _ _ _ h => h) (Or.inl ⟨by rfl, ?_⟩) (by assumption) ?_
        rotate_left
        · intro wz hSw; (try dsimp only at hSw); go_simp; (try with_reducible rfl)
        try simp only [Act.put, List.setIfInBounds_toArray, List.set_cons_zero, List.set_cons_succ]
        refine wpAnyK_take (by kernel_rfl) (i := 16) (oi := { dst := some 59, op := Go.Op.slice 37 (Go.Operand.tmp 57) (some (Go.Operand.tmp 58)) none none, type := 37, pos := "ref.go:38", after := #[{ on := 14, ground := Go.Ground.data }, { on := 15, ground := Go.Ground.data }], guard := none }) (v := .slice (if cap = i then some ⟨bb, off, none⟩ else some ⟨bb, off + i * 3, none⟩) (L.length - i) (cap - i)) rfl (by kernel_rfl) (by kernel_rfl) (by kernel_rfl) (fun _ _ _ h => h) (Or.inl ⟨by rfl, ?_⟩) (by assumption) ?_
        · intro wz hSw; (try dsimp only at hSw); go_simp; try (intro hbad; omega)
        try simp only [Act.put, List.setIfInBounds_toArray, List.set_cons_zero, List.set_cons_succ]
        refine wpAnyK_ready (rs := [5, 11]) (by kernel_rfl) (by simp) ?_
        refine (AllReadyK.cons (o := { dst := some 48, op := Go.Op.call { callee := Go.Callee.builtin Go.Builtin.append, args := #[Go.Operand.tmp 43, Go.Operand.tmp 47], argTypes := #[37, 37] }, type := 37, pos := "ref.go:38", after := #[{ on := 0, ground := Go.Ground.data }, { on := 4, ground := Go.Ground.data }], guard := none }) rfl (fun K hK => ?_) (AllReadyK.cons (o := { dst := some 54, op := Go.Op.buildSlice 37 1 #[(0, Go.Operand.tmp 53)], type := 37, pos := "ref.go:38", after := #[{ on := 10, ground := Go.Ground.data }], guard := none }) rfl (fun K hK => ?_) AllReadyK.nil))
        · refine step_append_Ev rfl (.tmp 43) (.tmp 47) rfl wd (.slice none 0 0) [] (L.take i) (some ⟨bb, off, none⟩) cap (by rfl) (by rw [hT]; rfl) HO0.out (HLQ.out.take i) (fun e => by cases e) (by simp <;> omega) ?_
          intro v1 w1 hO1 hk1
          have hS1 := HSK.out w1 hO1.below
          refine hK.out _ _ (fun _ => hS1) (fun _ => ?_)
          clear hK K
          try simp only [Act.put, List.setIfInBounds_toArray, List.set_cons_zero, List.set_cons_succ]
          refine wpAnyK_ready (rs := [11]) (by kernel_rfl) (by simp) ?_
          refine (AllReadyK.cons (o := { dst := some 54, op := Go.Op.buildSlice 37 1 #[(0, Go.Operand.tmp 53)], type := 37, pos := "ref.go:38", after := #[{ on := 10, ground := Go.Ground.data }], guard := none }) rfl (fun K hK => ?_) AllReadyK.nil)
          refine step_sliceEv rfl (.tmp 53) rfl (last + 1) due nm (by rfl) ?_
          have hb2 : Below w1.heap.size w1 (w1.alloc (.cells #[.int .i64 (last + 1), .int .i64 due, encStr nm] 51)) := (Below.refl _ w1).alloc (Nat.le_refl _) _
          have hS2 := HSK.out (w1.alloc (.cells #[.int .i64 (last + 1), .int .i64 due, encStr nm] 51)) (hO1.keep hb2).below
          refine hK.out _ _ (fun _ => hS2) (fun _ => ?_)
          clear hK K
          try simp only [Act.put, List.setIfInBounds_toArray, List.set_cons_zero, List.set_cons_succ]
          refine wpAnyK_ready (rs := [12]) (by kernel_rfl) (by simp) ?_
          refine (AllReadyK.cons (o := { dst := some 55, op := Go.Op.call { callee := Go.Callee.builtin Go.Builtin.append, args := #[Go.Operand.tmp 48, Go.Operand.tmp 54], argTypes := #[37, 37] }, type := 37, pos := "ref.go:38", after := #[{ on := 5, ground := Go.Ground.data }, { on := 11, ground := Go.Ground.data }, { on := 5, ground := Go.Ground.chain }], guard := none }) rfl (fun K hK => ?_) AllReadyK.nil)
          refine step_append_Ev rfl (.tmp 48) (.tmp 54) rfl wd v1 ([] ++ L.take i) [⟨last + 1, due, nm⟩] (some ⟨w1.heap.size, 0, none⟩) 1 (by rfl) (by rfl) (hO1.keep hb2) (HONE.out w1) (fun e => by cases e) (by simp <;> omega) ?_
          intro v3 w3 hO3 hk3
          have hS3 := HSK.out w3 hO3.below
          refine hK.out _ _ (fun _ => hS3) (fun _ => ?_)
          clear hK K
          try simp only [Act.put, List.setIfInBounds_toArray, List.set_cons_zero, List.set_cons_succ]
          refine wpAnyK_ready (rs := [17]) (by kernel_rfl) (by simp) ?_
          refine (AllReadyK.cons (o := { dst := some 60, op := Go.Op.call { callee := Go.Callee.builtin Go.Builtin.append, args := #[Go.Operand.tmp 55, Go.Operand.tmp 59], argTypes := #[37, 37] }, type := 37, pos := "ref.go:38", after := #[{ on := 12, ground := Go.Ground.data }, { on := 16, ground := Go.Ground.data }, { on := 12, ground := Go.Ground.chain }], guard := none }) rfl (fun K hK => ?_) AllReadyK.nil)
          refine step_append_Ev rfl (.tmp 55) (.tmp 59) rfl wd v3 ([] ++ L.take i ++ [⟨last + 1, due, nm⟩]) (L.drop i) (if cap = i then some ⟨bb, off, none⟩ else some ⟨bb, off + i * 3, none⟩) (cap - i) (by rfl) (by rw [hD]; rfl) hO3 (HDR.out w3 (HLQ.out.below hO3.below)) (fun e => by split at e <;> cases e) (by simp <;> omega) ?_
          intro v4 w4 hO4 hk4
          have hS4 := HSK.out w4 hO4.below
          refine hK.out _ _ (fun _ => hS4) (fun _ => ?_)
          clear hK K
          try simp only [Act.put, List.setIfInBounds_toArray, List.set_cons_zero, List.set_cons_succ]
          refine wpAnyK_take (by kernel_rfl) (i := 18) (oi := { dst := some 61, op := Go.Op.fieldAddr 39 (Go.Operand.tmp 3) 0, type := 0, pos := "ref.go:38", after := #[{ on := 0, ground := Go.Ground.phase }, { on := 1, ground := Go.Ground.phase }, { on := 2, ground := Go.Ground.phase }, { on := 3, ground := Go.Ground.phase }, { on := 4, ground := Go.Ground.phase }, { on := 5, ground := Go.Ground.phase }, { on := 6, ground := Go.Ground.phase }, { on := 7, ground := Go.Ground.phase }, { on := 8, ground := Go.Ground.phase }, { on := 9, ground := Go.Ground.phase }, { on := 10, ground := Go.Ground.phase }, { on := 11, ground := Go.Ground.phase }, { on := 12, ground := Go.Ground.phase }, { on := 13, ground := Go.Ground.phase }, { on := 14, ground := Go.Ground.phase }, { on := 15, ground := Go.Ground.phase }, { on := 16, ground := Go.Ground.phase }, { on := 17, ground := Go.Ground.phase }], guard := none }) (v := ?_) rfl (by kernel_rfl) (by kernel_rfl) (by kernel_rfl) (fun _ _ _ h => h) (Or.inl ⟨by rfl, ?_⟩) (by assumption) ?_
          rotate_left
          · intro wz hSw; (try dsimp only at hSw); go_simp; (try with_reducible rfl)
          try simp only [Act.put, List.setIfInBounds_toArray, List.set_cons_zero, List.set_cons_succ]
          have HQ4 : Hid (QB w w4 (.slice (some ⟨bb, off, none⟩) L.length cap) (last + 1) (.slice none 0 0) 0) := HD.out.keep hO4.below
          have hO5 : EvOw wd w4 v4 (insE ⟨last + 1, due, nm⟩ L) := by rw [HIN.out]; simpa using hO4
          clear HIN
          generalize hM : insE ⟨last + 1, due, nm⟩ L = M at hO5 ⊢
          have HM : Hid (insE ⟨last + 1, due, nm⟩ L = M) := hM
          obtain ⟨va, vc, rfl, -, -, -⟩ := hO5.sl
          have HO4 : Hid (EvOw wd w4 (.slice va M.length vc) M) := hO5
          clear hM hO5
          clear hk1 hk3 hk4 hO1 hO3 hO4 HSK HDR HONE HO0 HLQ hS1 hS2 hS3 hT hD
          have f4 : w4.frozen? ⟨w.heap.size, 0, none⟩ = false := frozen_of_row w4 _ 0 _ _ HQ4.out.box
          refine wpAnyK_ready (rs := [19]) (by kernel_rfl) (by simp) ?_
          refine (AllReadyK.cons (o := { dst := none, op := Go.Op.store 37 (Go.Operand.tmp 61) (Go.Operand.tmp 60), type := 0, pos := "ref.go:38", after := #[{ on := 18, ground := Go.Ground.data }, { on := 17, ground := Go.Ground.data }, { on := 17, ground := Go.Ground.chain }, { on := 0, ground := Go.Ground.phase }, { on := 1, ground := Go.Ground.phase }, { on := 2, ground := Go.Ground.phase }, { on := 3, ground := Go.Ground.phase }, { on := 4, ground := Go.Ground.phase }, { on := 5, ground := Go.Ground.phase }, { on := 6, ground := Go.Ground.phase }, { on := 7, ground := Go.Ground.phase }, { on := 8, ground := Go.Ground.phase }, { on := 9, ground := Go.Ground.phase }, { on := 10, ground := Go.Ground.phase }, { on := 11, ground := Go.Ground.phase }, { on := 12, ground := Go.Ground.phase }, { on := 13, ground := Go.Ground.phase }, { on := 14, ground := Go.Ground.phase }, { on := 15, ground := Go.Ground.phase }, { on := 16, ground := Go.Ground.phase }, { on := 17, ground := Go.Ground.phase }], guard := none }) rfl (fun K hK => ?_) AllReadyK.nil)
          go_simp
          refine hK.out _ _ (fun e => absurd rfl e) (fun _ => ?_)
          clear hK K
          try simp only [Act.put, List.setIfInBounds_toArray, List.set_cons_zero, List.set_cons_succ]
          refine wpAnyK_done (by kernel_rfl) (NoPanic.normal ?_) _
          try simp only [Act.put, List.setIfInBounds_toArray, List.set_cons_zero, List.set_cons_succ]
          have HQ5 : Hid (QB w (w4.setCell ⟨w.heap.size, 0, none⟩ (.slice va M.length vc)) (.slice va M.length vc) (last + 1) (.slice none 0 0) 0) := HQ4.out.setBox (.slice va M.length vc)
          have HP5 : Hid (Below w.heap.size w wd ∧ w.heap.size + 1 < wd.heap.size ∧ ∀ k, k ≠ w.heap.size → (w4.setCell ⟨w.heap.size, 0, none⟩ (.slice va M.length vc)).heap[k]? = w4.heap[k]?) := ⟨HD.out.below, HD.out.size, fun k hk => Below.heap_setCell _ _ _ _ (by simpa using hk)⟩
          clear hS4 f4 hHeld HQ4
          generalize w4.setCell ⟨w.heap.size, 0, none⟩ (.slice va M.length vc) = w5 at *
          go_upto_region 11 with fail
          have HQ6 : Hid (QB w w5.drew (.slice va M.length vc) (last + 1) (.slice none 0 0) 0) := HQ5.out.drew
          obtain ⟨w6, hw6⟩ : ∃ w6, w5.drew = w6 := ⟨_, rfl⟩
          refine wp_region_noPanic ?_
          refine wp_region_held_drew (S := fun w' => w'.cell? ⟨w.heap.size, 0, none⟩ = some (.slice va M.length vc) ∧ w'.cell? ⟨w.heap.size, 1, none⟩ = some (.int .i64 (last + 1))) (by kernel_rfl) HQ6.out.cells (fun hHeld => ?_)
          have HP6 : Hid (∀ k, k ≠ w.heap.size → w6.heap[k]? = w4.heap[k]?) := fun k hk => by rw [← hw6]; exact HP5.out.2.2 k hk
          rw [hw6] at hHeld HQ6 ⊢
          clear hw6
          have r0 : w6.cell? ⟨w.heap.size + 1, 0, none⟩ = some (.slice none 0 0) := by rw [cell_of_row _ _ 0 _ _ _ HQ6.out.res]; rfl
          have r1 : w6.cell? ⟨w.heap.size + 1, 1, none⟩ = some (.int .i64 0) := by rw [cell_of_row _ _ 1 _ _ _ HQ6.out.res]; rfl
          have f1 : w6.frozen? ⟨w.heap.size + 1, 0, none⟩ = false := frozen_of_row w6 _ 0 _ _ HQ6.out.res
          have f2 : w6.frozen? ⟨w.heap.size + 1, 1, none⟩ = false := frozen_of_row w6 _ 1 _ _ HQ6.out.res
          have HQ7 : Hid (QB w ((w6.setCell ⟨w.heap.size + 1, 0, none⟩ (.slice va M.length vc)).setCell ⟨w.heap.size + 1, 1, none⟩ (.int .i64 (last + 1))) (.slice va M.length vc) (last + 1) (.slice va M.length vc) (last + 1)) := HQ6.out.setRes _ _
          refine wpAnyH_take (i := 0) (oi := { dst := some 62, op := Go.Op.load 39 (Go.Operand.tmp 3), type := 39, pos := "ref.go:39", after := #[], guard := none }) (v := .agg #[.slice va M.length vc, .int .i64 (last + 1)]) rfl (by kernel_rfl) (by kernel_rfl) (by kernel_rfl) (fun _ _ _ h => h) (Or.inl ⟨by rfl, ?_⟩) (by assumption) ?_
          · intro wz hSw; (try dsimp only at hSw); have h1 := hSw.1; have h2 := hSw.2; go_simp; try rfl
          try simp only [Act.put, List.setIfInBounds_toArray, List.set_cons_zero, List.set_cons_succ]
          refine wpAnyH_take (i := 1) (oi := { dst := some 63, op := Go.Op.fieldAddr 39 (Go.Operand.tmp 3) 1, type := 0, pos := "ref.go:39", after := #[{ on := 3, ground := Go.Ground.gcOnly Go.Departure.lateStores }], guard := none }) (v := ?_) rfl (by kernel_rfl) (by kernel_rfl) (by kernel_rfl) (fun _ _ _ h => h) (Or.inl ⟨by rfl, ?_⟩) (by assumption) ?_
          rotate_left
          · intro wz hSw; (try dsimp only at hSw); go_simp; (try with_reducible rfl)
          try simp only [Act.put, List.setIfInBounds_toArray, List.set_cons_zero, List.set_cons_succ]
          refine wpAnyH_take (i := 2) (oi := { dst := some 64, op := Go.Op.load 3 (Go.Operand.tmp 63), type := 3, pos := "ref.go:39", after := #[{ on := 1, ground := Go.Ground.data }, { on := 3, ground := Go.Ground.gcOnly Go.Departure.lateStores }], guard := none }) (v := .int .i64 (last + 1)) rfl (by kernel_rfl) (by kernel_rfl) (by kernel_rfl) (fun _ _ _ h => h) (Or.inl ⟨by rfl, ?_⟩) (by assumption) ?_
          · intro wz hSw; (try dsimp only at hSw); have h1 := hSw.2; go_simp; try rfl
          try simp only [Act.put, List.setIfInBounds_toArray, List.set_cons_zero, List.set_cons_succ]
          refine wpAnyH_ready (rs := [3]) (by kernel_rfl) (by simp) ?_
          refine (AllReadyH.cons (o := { dst := none, op := Go.Op.store 39 (Go.Operand.tmp 6) (Go.Operand.tmp 62), type := 0, pos := "ref.go:39", after := #[{ on := 0, ground := Go.Ground.data }, { on := 0, ground := Go.Ground.phase }, { on := 1, ground := Go.Ground.textOnly Go.Departure.lateStores }, { on := 2, ground := Go.Ground.textOnly Go.Departure.lateStores }], guard := none }) rfl (fun K hK => ?_) AllReadyH.nil)
          go_simp
          refine hK.out _ _ HQ7.out.cells (fun hS7 => ?_)
          clear hK K
          try simp only [Act.put, List.setIfInBounds_toArray, List.set_cons_zero, List.set_cons_succ]
          refine wpAnyH_take (i := 4) (oi := { dst := some 7, op := Go.Op.assign (Go.Operand.tmp 64), type := 3, pos := "ref.go:39", after := #[{ on := 2, ground := Go.Ground.data }, { on := 3, ground := Go.Ground.chain }, { on := 0, ground := Go.Ground.phase }, { on := 1, ground := Go.Ground.phase }, { on := 2, ground := Go.Ground.phase }, { on := 3, ground := Go.Ground.phase }], guard := none }) (v := ?_) rfl (by kernel_rfl) (by kernel_rfl) (by kernel_rfl) (fun _ _ _ h => h) (Or.inl ⟨by rfl, ?_⟩) (by assumption) ?_
          rotate_left
          · intro wz hSw; (try dsimp only at hSw); go_simp; (try with_reducible rfl)
          try simp only [Act.put, List.setIfInBounds_toArray, List.set_cons_zero, List.set_cons_succ]
          refine wpAnyH_take (i := 5) (oi := { dst := some 8, op := Go.Op.assign (Go.Operand.const (Go.Value.int Go.IntKind.i64 0)), type := 3, pos := "ref.go:39", after := #[{ on := 4, ground := Go.Ground.chain }, { on := 0, ground := Go.Ground.phase }, { on := 1, ground := Go.Ground.phase }, { on := 2, ground := Go.Ground.phase }, { on := 3, ground := Go.Ground.phase }, { on := 4, ground := Go.Ground.phase }], guard := none }) (v := ?_) rfl (by kernel_rfl) (by kernel_rfl) (by kernel_rfl) (fun _ _ _ h => h) (Or.inl ⟨by rfl, ?_⟩) (by assumption) ?_
          rotate_left
          · intro wz hSw; (try dsimp only at hSw); go_simp; (try with_reducible rfl)
          try simp only [Act.put, List.setIfInBounds_toArray, List.set_cons_zero, List.set_cons_succ]
          refine wpAnyH_done (by kernel_rfl) (NoPanic.normal ?_) _
          try simp only [Act.put, List.setIfInBounds_toArray, List.set_cons_zero, List.set_cons_succ]
          go_wp2
          all_goals refine bodyPost_ret (results_Q3 Tryd.results17 _ _ (w.heap.size + 1) 39 (.slice va M.length vc) (.int .i64 (last + 1)) (0, 0) rfl HQ7.out.res) rfl ⟨HQ7.out.below, .inr ⟨HE.out, _, rfl, ?_⟩⟩
          all_goals rw [HM.out]
          all_goals exact HO4.out.far HP5.out.1 (fun k hk => by
            have h1 := HP5.out.2.1
            rw [Below.heap_setCell _ _ _ _ (by simp; omega), Below.heap_setCell _ _ _ _ (by simp; omega)]
            exact HP6.out k (by omega)) HQ7.out.below
        · refine step_sliceEv rfl (.tmp 53) rfl (last + 1) due nm (by rfl) ?_
          have hb1 : Below wd.heap.size wd (wd.alloc (.cells #[.int .i64 (last + 1), .int .i64 due, encStr nm] 51)) := (Below.refl _ wd).alloc (Nat.le_refl _) _
          have hS1 := HSK.out (wd.alloc (.cells #[.int .i64 (last + 1), .int .i64 due, encStr nm] 51)) hb1
          have hlt1 : wd.heap.size < (wd.alloc (.cells #[.int .i64 (last + 1), .int .i64 due, encStr nm] 51)).heap.size := by simp
          refine hK.out _ _ (fun _ => hS1) (fun _ => ?_)
          clear hK K
          try simp only [Act.put, List.setIfInBounds_toArray, List.set_cons_zero, List.set_cons_succ]
          refine wpAnyK_ready (rs := [5]) (by kernel_rfl) (by simp) ?_
          refine (AllReadyK.cons (o := { dst := some 48, op := Go.Op.call { callee := Go.Callee.builtin Go.Builtin.append, args := #[Go.Operand.tmp 43, Go.Operand.tmp 47], argTypes := #[37, 37] }, type := 37, pos := "ref.go:38", after := #[{ on := 0, ground := Go.Ground.data }, { on := 4, ground := Go.Ground.data }], guard := none }) rfl (fun K hK => ?_) AllReadyK.nil)
          refine step_append_Ev rfl (.tmp 43) (.tmp 47) rfl wd (.slice none 0 0) [] (L.take i) (some ⟨bb, off, none⟩) cap (by rfl) (by rw [hT]; rfl) (HO0.out.keep hb1) ((HLQ.out.below hb1).take i) (fun e => by cases e) (by simp <;> omega) ?_
          intro v1 w2 hO1 hk1
          have hS2 := HSK.out w2 hO1.below
          have hone : EvAt w2 (some ⟨wd.heap.size, 0, none⟩) [⟨last + 1, due, nm⟩] := (HONE.out wd).keep (fun a e _ => by cases e; exact hk1 _ hlt1 (by simp [Value.ownBlock]))
          refine hK.out _ _ (fun _ => hS2) (fun _ => ?_)
          clear hK K
          try simp only [Act.put, List.setIfInBounds_toArray, List.set_cons_zero, List.set_cons_succ]
          refine wpAnyK_ready (rs := [12]) (by kernel_rfl) (by simp) ?_
          refine (AllReadyK.cons (o := { dst := some 55, op := Go.Op.call { callee := Go.Callee.builtin Go.Builtin.append, args := #[Go.Operand.tmp 48, Go.Operand.tmp 54], argTypes := #[37, 37] }, type := 37, pos := "ref.go:38", after := #[{ on := 5, ground := Go.Ground.data }, { on := 11, ground := Go.Ground.data }, { on := 5, ground := Go.Ground.chain }], guard := none }) rfl (fun K hK => ?_) AllReadyK.nil)
          refine step_append_Ev rfl (.tmp 48) (.tmp 54) rfl wd v1 ([] ++ L.take i) [⟨last + 1, due, nm⟩] (some ⟨wd.heap.size, 0, none⟩) 1 (by rfl) (by rfl) hO1 hone (fun e => by cases e) (by simp <;> omega) ?_
          intro v3 w3 hO3 hk3
          have hS3 := HSK.out w3 hO3.below
          refine hK.out _ _ (fun _ => hS3) (fun _ => ?_)
          clear hK K
          try simp only [Act.put, List.setIfInBounds_toArray, List.set_cons_zero, List.set_cons_succ]
          refine wpAnyK_ready (rs := [17]) (by kernel_rfl) (by simp) ?_
          refine (AllReadyK.cons (o := { dst := some 60, op := Go.Op.call { callee := Go.Callee.builtin Go.Builtin.append, args := #[Go.Operand.tmp 55, Go.Operand.tmp 59], argTypes := #[37, 37] }, type := 37, pos := "ref.go:38", after := #[{ on := 12, ground := Go.Ground.data }, { on := 16, ground := Go.Ground.data }, { on := 12, ground := Go.Ground.chain }], guard := none }) rfl (fun K hK => ?_) AllReadyK.nil)
          refine step_append_Ev rfl (.tmp 55) (.tmp 59) rfl wd v3 ([] ++ L.take i ++ [⟨last + 1, due, nm⟩]) (L.drop i) (if cap = i then some ⟨bb, off, none⟩ else some ⟨bb, off + i * 3, none⟩) (cap - i) (by rfl) (by rw [hD]; rfl) hO3 (HDR.out w3 (HLQ.out.below hO3.below)) (fun e => by split at e <;> cases e) (by simp <;> omega) ?_
          intro v4 w4 hO4 hk4
          have hS4 := HSK.out w4 hO4.below
          refine hK.out _ _ (fun _ => hS4) (fun _ => ?_)
          clear hK K
          try simp only [Act.put, List.setIfInBounds_toArray, List.set_cons_zero, List.set_cons_succ]
          refine wpAnyK_take (by kernel_rfl) (i := 18) (oi := { dst := some 61, op := Go.Op.fieldAddr 39 (Go.Operand.tmp 3) 0, type := 0, pos := "ref.go:38", after := #[{ on := 0, ground := Go.Ground.phase }, { on := 1, ground := Go.Ground.phase }, { on := 2, ground := Go.Ground.phase }, { on := 3, ground := Go.Ground.phase }, { on := 4, ground := Go.Ground.phase }, { on := 5, ground := Go.Ground.phase }, { on := 6, ground := Go.Ground.phase }, { on := 7, ground := Go.Ground.phase }, { on := 8, ground := Go.Ground.phase }, { on := 9, ground := Go.Ground.phase }, { on := 10, ground := Go.Ground.phase }, { on := 11, ground := Go.Ground.phase }, { on := 12, ground := Go.Ground.phase }, { on := 13, ground := Go.Ground.phase }, { on := 14, ground := Go.Ground.phase }, { on := 15, ground := Go.Ground.phase }, { on := 16, ground := Go.Ground.phase }, { on := 17, ground := Go.Ground.phase }], guard := none }) (v := ?_) rfl (by kernel_rfl) (by kernel_rfl) (by kernel_rfl) (fun _ _ _ h => h) (Or.inl ⟨by rfl, ?_⟩) (by assumption) ?_
          rotate_left
          · intro wz hSw; (try dsimp only at hSw); go_simp; (try with_reducible rfl)
          try simp only [Act.put, List.setIfInBounds_toArray, List.set_cons_zero, List.set_cons_succ]
          have HQ4 : Hid (QB w w4 (.slice (some ⟨bb, off, none⟩) L.length cap) (last + 1) (.slice none 0 0) 0) := HD.out.keep hO4.below
          have hO5 : EvOw wd w4 v4 (insE ⟨last + 1, due, nm⟩ L) := by rw [HIN.out]; simpa using hO4
          clear HIN
          generalize hM : insE ⟨last + 1, due, nm⟩ L = M at hO5 ⊢
          have HM : Hid (insE ⟨last + 1, due, nm⟩ L = M) := hM
          obtain ⟨va, vc, rfl, -, -, -⟩ := hO5.sl
          have HO4 : Hid (EvOw wd w4 (.slice va M.length vc) M) := hO5
          clear hM hO5
          clear hk1 hk3 hk4 hO1 hO3 hO4 HSK HDR HONE HO0 HLQ hS1 hS2 hS3 hT hD
          have f4 : w4.frozen? ⟨w.heap.size, 0, none⟩ = false := frozen_of_row w4 _ 0 _ _ HQ4.out.box
          refine wpAnyK_ready (rs := [19]) (by kernel_rfl) (by simp) ?_
          refine (AllReadyK.cons (o := { dst := none, op := Go.Op.store 37 (Go.Operand.tmp 61) (Go.Operand.tmp 60), type := 0, pos := "ref.go:38", after := #[{ on := 18, ground := Go.Ground.data }, { on := 17, ground := Go.Ground.data }, { on := 17, ground := Go.Ground.chain }, { on := 0, ground := Go.Ground.phase }, { on := 1, ground := Go.Ground.phase }, { on := 2, ground := Go.Ground.phase }, { on := 3, ground := Go.Ground.phase }, { on := 4, ground := Go.Ground.phase }, { on := 5, ground := Go.Ground.phase }, { on := 6, ground := Go.Ground.phase }, { on := 7, ground := Go.Ground.phase }, { on := 8, ground := Go.Ground.phase }, { on := 9, ground := Go.Ground.phase }, { on := 10, ground := Go.Ground.phase }, { on := 11, ground := Go.Ground.phase }, { on := 12, ground := Go.Ground.phase }, { on := 13, ground := Go.Ground.phase }, { on := 14, ground := Go.Ground.phase }, { on := 15, ground := Go.Ground.phase }, { on := 16, ground := Go.Ground.phase }, { on := 17, ground := Go.Ground.phase }], guard := none }) rfl (fun K hK => ?_) AllReadyK.nil)
          go_simp
          refine hK.out _ _ (fun e => absurd rfl e) (fun _ => ?_)
          clear hK K
          try simp only [Act.put, List.setIfInBounds_toArray, List.set_cons_zero, List.set_cons_succ]
          refine wpAnyK_done (by kernel_rfl) (NoPanic.normal ?_) _
          try simp only [Act.put, List.setIfInBounds_toArray, List.set_cons_zero, List.set_cons_succ]
          have HQ5 : Hid (QB w (w4.setCell ⟨w.heap.size, 0, none⟩ (.slice va M.length vc)) (.slice va M.length vc) (last + 1) (.slice none 0 0) 0) := HQ4.out.setBox (.slice va M.length vc)
          have HP5 : Hid (Below w.heap.size w wd ∧ w.heap.size + 1 < wd.heap.size ∧ ∀ k, k ≠ w.heap.size → (w4.setCell ⟨w.heap.size, 0, none⟩ (.slice va M.length vc)).heap[k]? = w4.heap[k]?) := ⟨HD.out.below, HD.out.size, fun k hk => Below.heap_setCell _ _ _ _ (by simpa using hk)⟩
          clear hS4 f4 hHeld HQ4
          generalize w4.setCell ⟨w.heap.size, 0, none⟩ (.slice va M.length vc) = w5 at *
          go_upto_region 11 with fail
          have HQ6 : Hid (QB w w5.drew (.slice va M.length vc) (last + 1) (.slice none 0 0) 0) := HQ5.out.drew
          obtain ⟨w6, hw6⟩ : ∃ w6, w5.drew = w6 := ⟨_, rfl⟩
          refine wp_region_noPanic ?_
          refine wp_region_held_drew (S := fun w' => w'.cell? ⟨w.heap.size, 0, none⟩ = some (.slice va M.length vc) ∧ w'.cell? ⟨w.heap.size, 1, none⟩ = some (.int .i64 (last + 1))) (by kernel_rfl) HQ6.out.cells (fun hHeld => ?_)
          have HP6 : Hid (∀ k, k ≠ w.heap.size → w6.heap[k]? = w4.heap[k]?) := fun k hk => by rw [← hw6]; exact HP5.out.2.2 k hk
          rw [hw6] at hHeld HQ6 ⊢
          clear hw6
          have r0 : w6.cell? ⟨w.heap.size + 1, 0, none⟩ = some (.slice none 0 0) := by rw [cell_of_row _ _ 0 _ _ _ HQ6.out.res]; rfl
          have r1 : w6.cell? ⟨w.heap.size + 1, 1, none⟩ = some (.int .i64 0) := by rw [cell_of_row _ _ 1 _ _ _ HQ6.out.res]; rfl
          have f1 : w6.frozen? ⟨w.heap.size + 1, 0, none⟩ = false := frozen_of_row w6 _ 0 _ _ HQ6.out.res
          have f2 : w6.frozen? ⟨w.heap.size + 1, 1, none⟩ = false := frozen_of_row w6 _ 1 _ _ HQ6.out.res
          have HQ7 : Hid (QB w ((w6.setCell ⟨w.heap.size + 1, 0, none⟩ (.slice va M.length vc)).setCell ⟨w.heap.size + 1, 1, none⟩ (.int .i64 (last + 1))) (.slice va M.length vc) (last + 1) (.slice va M.length vc) (last + 1)) := HQ6.out.setRes _ _
          refine wpAnyH_take (i := 0) (oi := { dst := some 62, op := Go.Op.load 39 (Go.Operand.tmp 3), type := 39, pos := "ref.go:39", after := #[], guard := none }) (v := .agg #[.slice va M.length vc, .int .i64 (last + 1)]) rfl (by kernel_rfl) (by kernel_rfl) (by kernel_rfl) (fun _ _ _ h => h) (Or.inl ⟨by rfl, ?_⟩) (by assumption) ?_
          · intro wz hSw; (try dsimp only at hSw); have h1 := hSw.1; have h2 := hSw.2; go_simp; try rfl
          try simp only [Act.put, List.setIfInBounds_toArray, List.set_cons_zero, List.set_cons_succ]
          refine wpAnyH_take (i := 1) (oi := { dst := some 63, op := Go.Op.fieldAddr 39 (Go.Operand.tmp 3) 1, type := 0, pos := "ref.go:39", after := #[{ on := 3, ground := Go.Ground.gcOnly Go.Departure.lateStores }], guard := none }) (v := ?_) rfl (by kernel_rfl) (by kernel_rfl) (by kernel_rfl) (fun _ _ _ h => h) (Or.inl ⟨by rfl, ?_⟩) (by assumption) ?_
          rotate_left
          · intro wz hSw; (try dsimp only at hSw); go_simp; (try with_reducible rfl)
          try simp only [Act.put, List.setIfInBounds_toArray, List.set_cons_zero, List.set_cons_succ]
          refine wpAnyH_take (i := 2) (oi := { dst := some 64, op := Go.Op.load 3 (Go.Operand.tmp 63), type := 3, pos := "ref.go:39", after := #[{ on := 1, ground := Go.Ground.data }, { on := 3, ground := Go.Ground.gcOnly Go.Departure.lateStores }], guard := none }) (v := .int .i64 (last + 1)) rfl (by kernel_rfl) (by kernel_rfl) (by kernel_rfl) (fun _ _ _ h => h) (Or.inl ⟨by rfl, ?_⟩) (by assumption) ?_
          · intro wz hSw; (try dsimp only at hSw); have h1 := hSw.2; go_simp; try rfl
          try simp only [Act.put, List.setIfInBounds_toArray, List.set_cons_zero, List.set_cons_succ]
          refine wpAnyH_ready (rs := [3]) (by kernel_rfl) (by simp) ?_
          refine (AllReadyH.cons (o := { dst := none, op := Go.Op.store 39 (Go.Operand.tmp 6) (Go.Operand.tmp 62), type := 0, pos := "ref.go:39", after := #[{ on := 0, ground := Go.Ground.data }, { on := 0, ground := Go.Ground.phase }, { on := 1, ground := Go.Ground.textOnly Go.Departure.lateStores }, { on := 2, ground := Go.Ground.textOnly Go.Departure.lateStores }], guard := none }) rfl (fun K hK => ?_) AllReadyH.nil)
          go_simp
          refine hK.out _ _ HQ7.out.cells (fun hS7 => ?_)
          clear hK K
          try simp only [Act.put, List.setIfInBounds_toArray, List.set_cons_zero, List.set_cons_succ]
          refine wpAnyH_take (i := 4) (oi := { dst := some 7, op := Go.Op.assign (Go.Operand.tmp 64), type := 3, pos := "ref.go:39", after := #[{ on := 2, ground := Go.Ground.data }, { on := 3, ground := Go.Ground.chain }, { on := 0, ground := Go.Ground.phase }, { on := 1, ground := Go.Ground.phase }, { on := 2, ground := Go.Ground.phase }, { on := 3, ground := Go.Ground.phase }], guard := none }) (v := ?_) rfl (by kernel_rfl) (by kernel_rfl) (by kernel_rfl) (fun _ _ _ h => h) (Or.inl ⟨by rfl, ?_⟩) (by assumption) ?_
          rotate_left
          · intro wz hSw; (try dsimp only at hSw); go_simp; (try with_reducible rfl)
          try simp only [Act.put, List.setIfInBounds_toArray, List.set_cons_zero, List.set_cons_succ]
          refine wpAnyH_take (i := 5) (oi := { dst := some 8, op := Go.Op.assign (Go.Operand.const (Go.Value.int Go.IntKind.i64 0)), type := 3, pos := "ref.go:39", after := #[{ on := 4, ground := Go.Ground.chain }, { on := 0, ground := Go.Ground.phase }, { on := 1, ground := Go.Ground.phase }, { on := 2, ground := Go.Ground.phase }, { on := 3, ground := Go.Ground.phase }, { on := 4, ground := Go.Ground.phase }], guard := none }) (v := ?_) rfl (by kernel_rfl) (by kernel_rfl) (by kernel_rfl) (fun _ _ _ h => h) (Or.inl ⟨by rfl, ?_⟩) (by assumption) ?_
          rotate_left
          · intro wz hSw; (try dsimp only at hSw); go_simp; (try with_reducible rfl)
          try simp only [Act.put, List.setIfInBounds_toArray, List.set_cons_zero, List.set_cons_succ]
          refine wpAnyH_done (by kernel_rfl) (NoPanic.normal ?_) _
          try simp only [Act.put, List.setIfInBounds_toArray, List.set_cons_zero, List.set_cons_succ]
          go_wp2
          all_goals refine bodyPost_ret (results_Q3 Tryd.results17 _ _ (w.heap.size + 1) 39 (.slice va M.length vc) (.int .i64 (last + 1)) (0, 0) rfl HQ7.out.res) rfl ⟨HQ7.out.below, .inr ⟨HE.out, _, rfl, ?_⟩⟩
          all_goals rw [HM.out]
          all_goals exact HO4.out.far HP5.out.1 (fun k hk => by
            have h1 := HP5.out.2.1
            rw [Below.heap_setCell _ _ _ _ (by simp; omega), Below.heap_setCell _ _ _ _ (by simp; omega)]
            exact HP6.out k (by omega)) HQ7.out.below
    · obtain rfl : i = L.length := by omega
      have hlt' : ¬ ((L.length : Int) < L.length) := by omega
      have HIN : Hid (insE ⟨last + 1, due, nm⟩ L = L.take L.length ++ ⟨last + 1, due, nm⟩ :: L.drop L.length) := insE_at hi HDu.out (fun y hy => by rw [List.getElem?_eq_none (Nat.le_refl _)] at hy; cases hy)
      cases ad with
      | none =>
        obtain ⟨hn0, rfl⟩ := hnil rfl
        obtain rfl : L = [] := List.eq_nil_of_length_eq_zero hn0
        simp only [List.length_nil] at *
        go_upto_region 10 with fail
        have HD : Hid (QB w wr.drew (.slice none 0 0) (last + 1) (.slice none 0 0) 0) := HI.out.drew
        obtain ⟨wd, hwd⟩ : ∃ wd, wr.drew = wd := ⟨_, rfl⟩
        rw [hwd] at HD
        have HSK : Hid (∀ W : World, Below wd.heap.size wd W → W.cell? ⟨w.heap.size, 0, none⟩ = some (.slice none 0 0) ∧ W.cell? ⟨w.heap.size, 1, none⟩ = some (.int .i64 (last + 1))) := fun W hb => (HD.out.keep hb).cells
        have hT : (([] : List Ev).take 0).length = 0 := by rw [List.length_take]; omega
        have hD : (([] : List Ev).drop 0).length = 0 - 0 := by simp
        have HO0 : Hid (EvOw wd wd (.slice none 0 0) []) := EvOw.nil' (Below.refl _ _)
        have HLQ : Hid (EvAt wd none ([] : List Ev)) := HL.out.below HD.out.below
        have HDR : Hid (∀ W : World, EvAt W none ([] : List Ev) → EvAt W none (([] : List Ev).drop 0)) := fun W h => (fun hn => by simp at hn)
        have HONE : Hid (∀ W : World, EvAt (W.alloc (.cells #[.int .i64 (last + 1), .int .i64 due, encStr nm] 51)) (some ⟨W.heap.size, 0, none⟩) [⟨last + 1, due, nm⟩]) := fun W => EvAt.one ⟨last + 1, due, nm⟩ W
        refine wp_region_noPanic ?_
        refine wp_region_K (S := fun w' => w'.cell? ⟨w.heap.size, 0, none⟩ = some (.slice none 0 0) ∧ w'.cell? ⟨w.heap.size, 1, none⟩ = some (.int .i64 (last + 1))) 19 (by kernel_rfl) (by rw [hwd]; exact HSK.out _ (Below.refl _ _)) (fun hHeld => ?_)
        rw [hwd] at hHeld ⊢
        clear hwd
        refine wpAnyK_take (by kernel_rfl) (i := 0) (oi := { dst := some 43, op := Go.Op.move (Go.Operand.tmp 9), type := 37, pos := "ref.go:38", after := #[], guard := none }) (v := ?_) rfl (by kernel_rfl) (by kernel_rfl) (by kernel_rfl) (fun _ _ _ h => h) (Or.inl ⟨by rfl, ?_⟩) (by assumption) ?_
        rotate_left
        · intro wz hSw; (try dsimp only at hSw); go_simp; (try with_reducible rfl)
        try simp only [Act.put, List.setIfInBounds_toArray, List.set_cons_zero, List.set_cons_succ]
        refine wpAnyK_take (by kernel_rfl) (i := 1) (oi := { dst := some 44, op := Go.Op.fieldAddr 39 (Go.Operand.tmp 3) 0, type := 0, pos := "ref.go:38", after := #[], guard := none }) (v := ?_) rfl (by kernel_rfl) (by kernel_rfl) (by kernel_rfl) (fun _ _ _ h => h) (Or.inl ⟨by rfl, ?_⟩) (by assumption) ?_
        rotate_left
        · intro wz hSw; (try dsimp only at hSw); go_simp; (try with_reducible rfl)
        try simp only [Act.put, List.setIfInBounds_toArray, List.set_cons_zero, List.set_cons_succ]
        refine wpAnyK_take (by kernel_rfl) (i := 2) (oi := { dst := some 45, op := Go.Op.load 37 (Go.Operand.tmp 44), type := 37, pos := "ref.go:38", after := #[{ on := 1, ground := Go.Ground.data }], guard := none }) (v := .slice none 0 0) rfl (by kernel_rfl) (by kernel_rfl) (by kernel_rfl) (fun _ _ _ h => h) (Or.inl ⟨by rfl, ?_⟩) (by assumption) ?_
        · intro wz hSw; (try dsimp only at hSw); have h1 := hSw.1; go_simp; try rfl
        try simp only [Act.put, List.setIfInBounds_toArray, List.set_cons_zero, List.set_cons_succ]
        refine wpAnyK_take (by kernel_rfl) (i := 3) (oi := { dst := some 46, op := Go.Op.move (Go.Operand.tmp 10), type := 3, pos := "ref.go:38", after := #[], guard := none }) (v := ?_) rfl (by kernel_rfl) (by kernel_rfl) (by kernel_rfl) (fun _ _ _ h => h) (Or.inl ⟨by rfl, ?_⟩) (by assumption) ?_
        rotate_left
        · intro wz hSw; (try dsimp only at hSw); go_simp; (try with_reducible rfl)
        try simp only [Act.put, List.setIfInBounds_toArray, List.set_cons_zero, List.set_cons_succ]
        refine wpAnyK_take (by kernel_rfl) (i := 4) (oi := { dst := some 47, op := Go.Op.slice 37 (Go.Operand.tmp 45) none (some (Go.Operand.tmp 46)) none, type := 37, pos := "ref.go:38", after := #[{ on := 2, ground := Go.Ground.data }, { on := 3, ground := Go.Ground.data }], guard := none }) (v := .slice none 0 0) rfl (by kernel_rfl) (by kernel_rfl) (by kernel_rfl) (fun _ _ _ h => h) (Or.inl ⟨by rfl, ?_⟩) (by assumption) ?_
        · intro wz hSw; (try dsimp only at hSw); go_simp; try (intro hbad; omega)
        try simp only [Act.put, List.setIfInBounds_toArray, List.set_cons_zero, List.set_cons_succ]
        refine wpAnyK_take (by kernel_rfl) (i := 6) (oi := { dst := some 49, op := Go.Op.fieldAddr 39 (Go.Operand.tmp 3) 1, type := 0, pos := "ref.go:38", after := #[], guard := none }) (v := ?_) rfl (by kernel_rfl) (by kernel_rfl) (by kernel_rfl) (fun _ _ _ h => h) (Or.inl ⟨by rfl, ?_⟩) (by assumption) ?_
        rotate_left
        · intro wz hSw; (try dsimp only at hSw); go_simp; (try with_reducible rfl)
        try simp only [Act.put, List.setIfInBounds_toArray, List.set_cons_zero, List.set_cons_succ]
        refine wpAnyK_take (by kernel_rfl) (i := 7) (oi := { dst := some 50, op := Go.Op.load 3 (Go.Operand.tmp 49), type := 3, pos := "ref.go:38", after := #[{ on := 6, ground := Go.Ground.data }], guard := none }) (v := .int .i64 (last + 1)) rfl (by kernel_rfl) (by kernel_rfl) (by kernel_rfl) (fun _ _ _ h => h) (Or.inl ⟨by rfl, ?_⟩) (by assumption) ?_
        · intro wz hSw; (try dsimp only at hSw); have h1 := hSw.2; go_simp; try rfl
        try simp only [Act.put, List.setIfInBounds_toArray, List.set_cons_zero, List.set_cons_succ]
        refine wpAnyK_take (by kernel_rfl) (i := 8) (oi := { dst := some 51, op := Go.Op.move (Go.Operand.tmp 1), type := 3, pos := "ref.go:38", after := #[], guard := none }) (v := ?_) rfl (by kernel_rfl) (by kernel_rfl) (by kernel_rfl) (fun _ _ _ h => h) (Or.inl ⟨by rfl, ?_⟩) (by assumption) ?_
        rotate_left
        · intro wz hSw; (try dsimp only at hSw); go_simp; (try with_reducible rfl)
        try simp only [Act.put, List.setIfInBounds_toArray, List.set_cons_zero, List.set_cons_succ]
        refine wpAnyK_take (by kernel_rfl) (i := 9) (oi := { dst := some 52, op := Go.Op.move (Go.Operand.tmp 2), type := 9, pos := "ref.go:38", after := #[], guard := none }) (v := ?_) rfl (by kernel_rfl) (by kernel_rfl) (by kernel_rfl) (fun _ _ _ h => h) (Or.inl ⟨by rfl, ?_⟩) (by assumption) ?_
        rotate_left
        · intro wz hSw; (try dsimp only at hSw); go_simp; (try with_reducible rfl)
        try simp only [Act.put, List.setIfInBounds_toArray, List.set_cons_zero, List.set_cons_succ]
        refine wpAnyK_take (by kernel_rfl) (i := 10) (oi := { dst := some 53, op := Go.Op.build 51 #[(0, Go.Operand.tmp 50), (1, Go.Operand.tmp 51), (2, Go.Operand.tmp 52)], type := 51, pos := "ref.go:38", after := #[{ on := 7, ground := Go.Ground.data }, { on := 8, ground := Go.Ground.data }, { on := 9, ground := Go.Ground.data }], guard := none }) (v := .agg #[.int .i64 (last + 1), .int .i64 due, encStr nm]) rfl (by kernel_rfl) (by kernel_rfl) (by kernel_rfl) (fun _ _ _ h => h) (Or.inl ⟨by rfl, ?_⟩) (by assumption) ?_
        · intro wz hSw; (try dsimp only at hSw); kernel_rfl
        try simp only [Act.put, List.setIfInBounds_toArray, List.set_cons_zero, List.set_cons_succ]
        refine wpAnyK_take (by kernel_rfl) (i := 13) (oi := { dst := some 56, op := Go.Op.fieldAddr 39 (Go.Operand.tmp 3) 0, type := 0, pos := "ref.go:38", after := #[], guard := none }) (v := ?_) rfl (by kernel_rfl) (by kernel_rfl) (by kernel_rfl) (fun _ _ _ h => h) (Or.inl ⟨by rfl, ?_⟩) (by assumption) ?_
        rotate_left
        · intro wz hSw; (try dsimp only at hSw); go_simp; (try with_reducible rfl)
        try simp only [Act.put, List.setIfInBounds_toArray, List.set_cons_zero, List.set_cons_succ]
        refine wpAnyK_take (by kernel_rfl) (i := 14) (oi := { dst := some 57, op := Go.Op.load 37 (Go.Operand.tmp 56), type := 37, pos := "ref.go:38", after := #[{ on := 13, ground := Go.Ground.data }], guard := none }) (v := .slice none 0 0) rfl (by kernel_rfl) (by kernel_rfl) (by kernel_rfl) (fun _ _ _ h => h) (Or.inl ⟨by rfl, ?_⟩) (by assumption) ?_
        · intro wz hSw; (try dsimp only at hSw); have h1 := hSw.1; go_simp; try rfl
        try simp only [Act.put, List.setIfInBounds_toArray, List.set_cons_zero, List.set_cons_succ]
        refine wpAnyK_take (by kernel_rfl) (i := 15) (oi := { dst := some 58, op := Go.Op.move (Go.Operand.tmp 10), type := 3, pos := "ref.go:38", after := #[], guard := none }) (v := ?_) rfl (by kernel_rfl) (by kernel_rfl) (by kernel_rfl) (fun _ _ _ h => h) (Or.inl ⟨by rfl, ?_⟩) (by assumption) ?_
        rotate_left
        · intro wz hSw; (try dsimp only at hSw); go_simp; (try with_reducible rfl)
        try simp only [Act.put, List.setIfInBounds_toArray, List.set_cons_zero, List.set_cons_succ]
        refine wpAnyK_take (by kernel_rfl) (i := 16) (oi := { dst := some 59, op := Go.Op.slice 37 (Go.Operand.tmp 57) (some (Go.Operand.tmp 58)) none none, type := 37, pos := "ref.go:38", after := #[{ on := 14, ground := Go.Ground.data }, { on := 15, ground := Go.Ground.data }], guard := none }) (v := .slice none 0 0) rfl (by kernel_rfl) (by kernel_rfl) (by kernel_rfl) (fun _ _ _ h => h) (Or.inl ⟨by rfl, ?_⟩) (by assumption) ?_
        · intro wz hSw; (try dsimp only at hSw); go_simp; try (intro hbad; omega)
        try simp only [Act.put, List.setIfInBounds_toArray, List.set_cons_zero, List.set_cons_succ]
        refine wpAnyK_ready (rs := [5, 11]) (by kernel_rfl) (by simp) ?_
        refine (AllReadyK.cons (o := { dst := some 48, op := Go.Op.call { callee := Go.Callee.builtin Go.Builtin.append, args := #[Go.Operand.tmp 43, Go.Operand.tmp 47], argTypes := #[37, 37] }, type := 37, pos := "ref.go:38", after := #[{ on := 0, ground := Go.Ground.data }, { on := 4, ground := Go.Ground.data }], guard := none }) rfl (fun K hK => ?_) (AllReadyK.cons (o := { dst := some 54, op := Go.Op.buildSlice 37 1 #[(0, Go.Operand.tmp 53)], type := 37, pos := "ref.go:38", after := #[{ on := 10, ground := Go.Ground.data }], guard := none }) rfl (fun K hK => ?_) AllReadyK.nil))
        · refine step_append_Ev rfl (.tmp 43) (.tmp 47) rfl wd (.slice none 0 0) [] (([] : List Ev).take 0) none 0 (by rfl) (by rw [hT]; rfl) HO0.out (HLQ.out.take 0) (fun _ => rfl) (by simp <;> omega) ?_
          intro v1 w1 hO1 hk1
          have hS1 := HSK.out w1 hO1.below
          refine hK.out _ _ (fun _ => hS1) (fun _ => ?_)
          clear hK K
          try simp only [Act.put, List.setIfInBounds_toArray, List.set_cons_zero, List.set_cons_succ]
          refine wpAnyK_ready (rs := [11]) (by kernel_rfl) (by simp) ?_
          refine (AllReadyK.cons (o := { dst := some 54, op := Go.Op.buildSlice 37 1 #[(0, Go.Operand.tmp 53)], type := 37, pos := "ref.go:38", after := #[{ on := 10, ground := Go.Ground.data }], guard := none }) rfl (fun K hK => ?_) AllReadyK.nil)
          refine step_sliceEv rfl (.tmp 53) rfl (last + 1) due nm (by rfl) ?_
          have hb2 : Below w1.heap.size w1 (w1.alloc (.cells #[.int .i64 (last + 1), .int .i64 due, encStr nm] 51)) := (Below.refl _ w1).alloc (Nat.le_refl _) _
          have hS2 := HSK.out (w1.alloc (.cells #[.int .i64 (last + 1), .int .i64 due, encStr nm] 51)) (hO1.keep hb2).below
          refine hK.out _ _ (fun _ => hS2) (fun _ => ?_)
          clear hK K
          try simp only [Act.put, List.setIfInBounds_toArray, List.set_cons_zero, List.set_cons_succ]
          refine wpAnyK_ready (rs := [12]) (by kernel_rfl) (by simp) ?_
          refine (AllReadyK.cons (o := { dst := some 55, op := Go.Op.call { callee := Go.Callee.builtin Go.Builtin.append, args := #[Go.Operand.tmp 48, Go.Operand.tmp 54], argTypes := #[37, 37] }, type := 37, pos := "ref.go:38", after := #[{ on := 5, ground := Go.Ground.data }, { on := 11, ground := Go.Ground.data }, { on := 5, ground := Go.Ground.chain }], guard := none }) rfl (fun K hK => ?_) AllReadyK.nil)
          refine step_append_Ev rfl (.tmp 48) (.tmp 54) rfl wd v1 ([] ++ ([] : List Ev).take 0) [⟨last + 1, due, nm⟩] (some ⟨w1.heap.size, 0, none⟩) 1 (by rfl) (by rfl) (hO1.keep hb2) (HONE.out w1) (fun e => by cases e) (by simp <;> omega) ?_
          intro v3 w3 hO3 hk3
          have hS3 := HSK.out w3 hO3.below
          refine hK.out _ _ (fun _ => hS3) (fun _ => ?_)
          clear hK K
          try simp only [Act.put, List.setIfInBounds_toArray, List.set_cons_zero, List.set_cons_succ]
          refine wpAnyK_ready (rs := [17]) (by kernel_rfl) (by simp) ?_
          refine (AllReadyK.cons (o := { dst := some 60, op := Go.Op.call { callee := Go.Callee.builtin Go.Builtin.append, args := #[Go.Operand.tmp 55, Go.Operand.tmp 59], argTypes := #[37, 37] }, type := 37, pos := "ref.go:38", after := #[{ on := 12, ground := Go.Ground.data }, { on := 16, ground := Go.Ground.data }, { on := 12, ground := Go.Ground.chain }], guard := none }) rfl (fun K hK => ?_) AllReadyK.nil)
          refine step_append_Ev rfl (.tmp 55) (.tmp 59) rfl wd v3 ([] ++ ([] : List Ev).take 0 ++ [⟨last + 1, due, nm⟩]) (([] : List Ev).drop 0) none 0 (by rfl) (by rw [hD]; rfl) hO3 (HDR.out w3 (HLQ.out.below hO3.below)) (fun _ => rfl) (by simp <;> omega) ?_
          intro v4 w4 hO4 hk4
          have hS4 := HSK.out w4 hO4.below
          refine hK.out _ _ (fun _ => hS4) (fun _ => ?_)
          clear hK K
          try simp only [Act.put, List.setIfInBounds_toArray, List.set_cons_zero, List.set_cons_succ]
          refine wpAnyK_take (by kernel_rfl) (i := 18) (oi := { dst := some 61, op := Go.Op.fieldAddr 39 (Go.Operand.tmp 3) 0, type := 0, pos := "ref.go:38", after := #[{ on := 0, ground := Go.Ground.phase }, { on := 1, ground := Go.Ground.phase }, { on := 2, ground := Go.Ground.phase }, { on := 3, ground := Go.Ground.phase }, { on := 4, ground := Go.Ground.phase }, { on := 5, ground := Go.Ground.phase }, { on := 6, ground := Go.Ground.phase }, { on := 7, ground := Go.Ground.phase }, { on := 8, ground := Go.Ground.phase }, { on := 9, ground := Go.Ground.phase }, { on := 10, ground := Go.Ground.phase }, { on := 11, ground := Go.Ground.phase }, { on := 12, ground := Go.Ground.phase }, { on := 13, ground := Go.Ground.phase }, { on := 14, ground := Go.Ground.phase }, { on := 15, ground := Go.Ground.phase }, { on := 16, ground := Go.Ground.phase }, { on := 17, ground := Go.Ground.phase }], guard := none }) (v := ?_) rfl (by kernel_rfl) (by kernel_rfl) (by kernel_rfl) (fun _ _ _ h => h) (Or.inl ⟨by rfl, ?_⟩) (by assumption) ?_
          rotate_left
          · intro wz hSw; (try dsimp only at hSw); go_simp; (try with_reducible rfl)
          try simp only [Act.put, List.setIfInBounds_toArray, List.set_cons_zero, List.set_cons_succ]
          have HQ4 : Hid (QB w w4 (.slice none 0 0) (last + 1) (.slice none 0 0) 0) := HD.out.keep hO4.below
          have hO5 : EvOw wd w4 v4 (insE ⟨last + 1, due, nm⟩ ([] : List Ev)) := by rw [HIN.out]; simpa using hO4
          clear HIN
          generalize hM : insE ⟨last + 1, due, nm⟩ ([] : List Ev) = M at hO5 ⊢
          have HM : Hid (insE ⟨last + 1, due, nm⟩ ([] : List Ev) = M) := hM
          obtain ⟨va, vc, rfl, -, -, -⟩ := hO5.sl
          have HO4 : Hid (EvOw wd w4 (.slice va M.length vc) M) := hO5
          clear hM hO5
          clear hk1 hk3 hk4 hO1 hO3 hO4 HSK HDR HONE HO0 HLQ hS1 hS2 hS3 hT hD
          have f4 : w4.frozen? ⟨w.heap.size, 0, none⟩ = false := frozen_of_row w4 _ 0 _ _ HQ4.out.box
          refine wpAnyK_ready (rs := [19]) (by kernel_rfl) (by simp) ?_
          refine (AllReadyK.cons (o := { dst := none, op := Go.Op.store 37 (Go.Operand.tmp 61) (Go.Operand.tmp 60), type := 0, pos := "ref.go:38", after := #[{ on := 18, ground := Go.Ground.data }, { on := 17, ground := Go.Ground.data }, { on := 17, ground := Go.Ground.chain }, { on := 0, ground := Go.Ground.phase }, { on := 1, ground := Go.Ground.phase }, { on := 2, ground := Go.Ground.phase }, { on := 3, ground := Go.Ground.phase }, { on := 4, ground := Go.Ground.phase }, { on := 5, ground := Go.Ground.phase }, { on := 6, ground := Go.Ground.phase }, { on := 7, ground := Go.Ground.phase }, { on := 8, ground := Go.Ground.phase }, { on := 9, ground := Go.Ground.phase }, { on := 10, ground := Go.Ground.phase }, { on := 11, ground := Go.Ground.phase }, { on := 12, ground := Go.Ground.phase }, { on := 13, ground := Go.Ground.phase }, { on := 14, ground := Go.Ground.phase }, { on := 15, ground := Go.Ground.phase }, { on := 16, ground := Go.Ground.phase }, { on := 17, ground := Go.Ground.phase }], guard := none }) rfl (fun K hK => ?_) AllReadyK.nil)
          go_simp
          refine hK.out _ _ (fun e => absurd rfl e) (fun _ => ?_)
          clear hK K
          try simp only [Act.put, List.setIfInBounds_toArray, List.set_cons_zero, List.set_cons_succ]
          refine wpAnyK_done (by kernel_rfl) (NoPanic.normal ?_) _
          try simp only [Act.put, List.setIfInBounds_toArray, List.set_cons_zero, List.set_cons_succ]
          have HQ5 : Hid (QB w (w4.setCell ⟨w.heap.size, 0, none⟩ (.slice va M.length vc)) (.slice va M.length vc) (last + 1) (.slice none 0 0) 0) := HQ4.out.setBox (.slice va M.length vc)
          have HP5 : Hid (Below w.heap.size w wd ∧ w.heap.size + 1 < wd.heap.size ∧ ∀ k, k ≠ w.heap.size → (w4.setCell ⟨w.heap.size, 0, none⟩ (.slice va M.length vc)).heap[k]? = w4.heap[k]?) := ⟨HD.out.below, HD.out.size, fun k hk => Below.heap_setCell _ _ _ _ (by simpa using hk)⟩
          clear hS4 f4 hHeld HQ4
          generalize w4.setCell ⟨w.heap.size, 0, none⟩ (.slice va M.length vc) = w5 at *
          go_upto_region 11 with fail
          have HQ6 : Hid (QB w w5.drew (.slice va M.length vc) (last + 1) (.slice none 0 0) 0) := HQ5.out.drew
          obtain ⟨w6, hw6⟩ : ∃ w6, w5.drew = w6 := ⟨_, rfl⟩
          refine wp_region_noPanic ?_
          refine wp_region_held_drew (S := fun w' => w'.cell? ⟨w.heap.size, 0, none⟩ = some (.slice va M.length vc) ∧ w'.cell? ⟨w.heap.size, 1, none⟩ = some (.int .i64 (last + 1))) (by kernel_rfl) HQ6.out.cells (fun hHeld => ?_)
          have HP6 : Hid (∀ k, k ≠ w.heap.size → w6.heap[k]? = w4.heap[k]?) := fun k hk => by rw [← hw6]; exact HP5.out.2.2 k hk
          rw [hw6] at hHeld HQ6 ⊢
          clear hw6
          have r0 : w6.cell? ⟨w.heap.size + 1, 0, none⟩ = some (.slice none 0 0) := by rw [cell_of_row _ _ 0 _ _ _ HQ6.out.res]; rfl
          have r1 : w6.cell? ⟨w.heap.size + 1, 1, none⟩ = some (.int .i64 0) := by rw [cell_of_row _ _ 1 _ _ _ HQ6.out.res]; rfl
          have f1 : w6.frozen? ⟨w.heap.size + 1, 0, none⟩ = false := frozen_of_row w6 _ 0 _ _ HQ6.out.res
          have f2 : w6.frozen? ⟨w.heap.size + 1, 1, none⟩ = false := frozen_of_row w6 _ 1 _ _ HQ6.out.res
          have HQ7 : Hid (QB w ((w6.setCell ⟨w.heap.size + 1, 0, none⟩ (.slice va M.length vc)).setCell ⟨w.heap.size + 1, 1, none⟩ (.int .i64 (last + 1))) (.slice va M.length vc) (last + 1) (.slice va M.length vc) (last + 1)) := HQ6.out.setRes _ _
          refine wpAnyH_take (i := 0) (oi := { dst := some 62, op := Go.Op.load 39 (Go.Operand.tmp 3), type := 39, pos := "ref.go:39", after := #[], guard := none }) (v := .agg #[.slice va M.length vc, .int .i64 (last + 1)]) rfl (by kernel_rfl) (by kernel_rfl) (by kernel_rfl) (fun _ _ _ h => h) (Or.inl ⟨by rfl, ?_⟩) (by assumption) ?_
          · intro wz hSw; (try dsimp only at hSw); have h1 := hSw.1; have h2 := hSw.2; go_simp; try rfl
          try simp only [Act.put, List.setIfInBounds_toArray, List.set_cons_zero, List.set_cons_succ]
          refine wpAnyH_take (i := 1) (oi := { dst := some 63, op := Go.Op.fieldAddr 39 (Go.Operand.tmp 3) 1, type := 0, pos := "ref.go:39", after := #[{ on := 3, ground := Go.Ground.gcOnly Go.Departure.lateStores }], guard := none }) (v := ?_) rfl (by kernel_rfl) (by kernel_rfl) (by kernel_rfl) (fun _ _ _ h => h) (Or.inl ⟨by rfl, ?_⟩) (by assumption) ?_
          rotate_left
          · intro wz hSw; (try dsimp only at hSw); go_simp; (try with_reducible rfl)
          try simp only [Act.put, List.setIfInBounds_toArray, List.set_cons_zero, List.set_cons_succ]
          refine wpAnyH_take (i := 2) (oi := { dst := some 64, op := Go.Op.load 3 (Go.Operand.tmp 63), type := 3, pos := "ref.go:39", after := #[{ on := 1, ground := Go.Ground.data }, { on := 3, ground := Go.Ground.gcOnly Go.Departure.lateStores }], guard := none }) (v := .int .i64 (last + 1)) rfl (by kernel_rfl) (by kernel_rfl) (by kernel_rfl) (fun _ _ _ h => h) (Or.inl ⟨by rfl, ?_⟩) (by assumption) ?_
          · intro wz hSw; (try dsimp only at hSw); have h1 := hSw.2; go_simp; try rfl
          try simp only [Act.put, List.setIfInBounds_toArray, List.set_cons_zero, List.set_cons_succ]
          refine wpAnyH_ready (rs := [3]) (by kernel_rfl) (by simp) ?_
          refine (AllReadyH.cons (o := { dst := none, op := Go.Op.store 39 (Go.Operand.tmp 6) (Go.Operand.tmp 62), type := 0, pos := "ref.go:39", after := #[{ on := 0, ground := Go.Ground.data }, { on := 0, ground := Go.Ground.phase }, { on := 1, ground := Go.Ground.textOnly Go.Departure.lateStores }, { on := 2, ground := Go.Ground.textOnly Go.Departure.lateStores }], guard := none }) rfl (fun K hK => ?_) AllReadyH.nil)
          go_simp
          refine hK.out _ _ HQ7.out.cells (fun hS7 => ?_)
          clear hK K
          try simp only [Act.put, List.setIfInBounds_toArray, List.set_cons_zero, List.set_cons_succ]
          refine wpAnyH_take (i := 4) (oi := { dst := some 7, op := Go.Op.assign (Go.Operand.tmp 64), type := 3, pos := "ref.go:39", after := #[{ on := 2, ground := Go.Ground.data }, { on := 3, ground := Go.Ground.chain }, { on := 0, ground := Go.Ground.phase }, { on := 1, ground := Go.Ground.phase }, { on := 2, ground := Go.Ground.phase }, { on := 3, ground := Go.Ground.phase }], guard := none }) (v := ?_) rfl (by kernel_rfl) (by kernel_rfl) (by kernel_rfl) (fun _ _ _ h => h) (Or.inl ⟨by rfl, ?_⟩) (by assumption) ?_
          rotate_left
          · intro wz hSw; (try dsimp only at hSw); go_simp; (try with_reducible rfl)
          try simp only [Act.put, List.setIfInBounds_toArray, List.set_cons_zero, List.set_cons_succ]
          refine wpAnyH_take (i := 5) (oi := { dst := some 8, op := Go.Op.assign (Go.Operand.const (Go.Value.int Go.IntKind.i64 0)), type := 3, pos := "ref.go:39", after := #[{ on := 4, ground := Go.Ground.chain }, { on := 0, ground := Go.Ground.phase }, { on := 1, ground := Go.Ground.phase }, { on := 2, ground := Go.Ground.phase }, { on := 3, ground := Go.Ground.phase }, { on := 4, ground := Go.Ground.phase }], guard := none }) (v := ?_) rfl (by kernel_rfl) (by kernel_rfl) (by kernel_rfl) (fun _ _ _ h => h) (Or.inl ⟨by rfl, ?_⟩) (by assumption) ?_
          rotate_left
          · intro wz hSw; (try dsimp only at hSw); go_simp; (try with_reducible rfl)
          try simp only [Act.put, List.setIfInBounds_toArray, List.set_cons_zero, List.set_cons_succ]
          refine wpAnyH_done (by kernel_rfl) (NoPanic.normal ?_) _
          try simp only [Act.put, List.setIfInBounds_toArray, List.set_cons_zero, List.set_cons_succ]
          go_wp2
          all_goals refine bodyPost_ret (results_Q3 Tryd.results17 _ _ (w.heap.size + 1) 39 (.slice va M.length vc) (.int .i64 (last + 1)) (0, 0) rfl HQ7.out.res) rfl ⟨HQ7.out.below, .inr ⟨HE.out, _, rfl, ?_⟩⟩
          all_goals rw [HM.out]
          all_goals exact HO4.out.far HP5.out.1 (fun k hk => by
            have h1 := HP5.out.2.1
            rw [Below.heap_setCell _ _ _ _ (by simp; omega), Below.heap_setCell _ _ _ _ (by simp; omega)]
            exact HP6.out k (by omega)) HQ7.out.below
        · refine step_sliceEv rfl (.tmp 53) rfl (last + 1) due nm (by rfl) ?_
          have hb1 : Below wd.heap.size wd (wd.alloc (.cells #[.int .i64 (last + 1), .int .i64 due, encStr nm] 51)) := (Below.refl _ wd).alloc (Nat.le_refl _) _
          have hS1 := HSK.out (wd.alloc (.cells #[.int .i64 (last + 1), .int .i64 due, encStr nm] 51)) hb1
          have hlt1 : wd.heap.size < (wd.alloc (.cells #[.int .i64 (last + 1), .int .i64 due, encStr nm] 51)).heap.size := by simp
          refine hK.out _ _ (fun _ => hS1) (fun _ => ?_)
          clear hK K
          try simp only [Act.put, List.setIfInBounds_toArray, List.set_cons_zero, List.set_cons_succ]
          refine wpAnyK_ready (rs := [5]) (by kernel_rfl) (by simp) ?_
          refine (AllReadyK.cons (o := { dst := some 48, op := Go.Op.call { callee := Go.Callee.builtin Go.Builtin.append, args := #[Go.Operand.tmp 43, Go.Operand.tmp 47], argTypes := #[37, 37] }, type := 37, pos := "ref.go:38", after := #[{ on := 0, ground := Go.Ground.data }, { on := 4, ground := Go.Ground.data }], guard := none }) rfl (fun K hK => ?_) AllReadyK.nil)
          refine step_append_Ev rfl (.tmp 43) (.tmp 47) rfl wd (.slice none 0 0) [] (([] : List Ev).take 0) none 0 (by rfl) (by rw [hT]; rfl) (HO0.out.keep hb1) ((HLQ.out.below hb1).take 0) (fun _ => rfl) (by simp <;> omega) ?_
          intro v1 w2 hO1 hk1
          have hS2 := HSK.out w2 hO1.below
          have hone : EvAt w2 (some ⟨wd.heap.size, 0, none⟩) [⟨last + 1, due, nm⟩] := (HONE.out wd).keep (fun a e _ => by cases e; exact hk1 _ hlt1 (by simp [Value.ownBlock]))
          refine hK.out _ _ (fun _ => hS2) (fun _ => ?_)
          clear hK K
          try simp only [Act.put, List.setIfInBounds_toArray, List.set_cons_zero, List.set_cons_succ]
          refine wpAnyK_ready (rs := [12]) (by kernel_rfl) (by simp) ?_
          refine (AllReadyK.cons (o := { dst := some 55, op := Go.Op.call { callee := Go.Callee.builtin Go.Builtin.append, args := #[Go.Operand.tmp 48, Go.Operand.tmp 54], argTypes := #[37, 37] }, type := 37, pos := "ref.go:38", after := #[{ on := 5, ground := Go.Ground.data }, { on := 11, ground := Go.Ground.data }, { on := 5, ground := Go.Ground.chain }], guard := none }) rfl (fun K hK => ?_) AllReadyK.nil)
          refine step_append_Ev rfl (.tmp 48) (.tmp 54) rfl wd v1 ([] ++ ([] : List Ev).take 0) [⟨last + 1, due, nm⟩] (some ⟨wd.heap.size, 0, none⟩) 1 (by rfl) (by rfl) hO1 hone (fun e => by cases e) (by simp <;> omega) ?_
          intro v3 w3 hO3 hk3
          have hS3 := HSK.out w3 hO3.below
          refine hK.out _ _ (fun _ => hS3) (fun _ => ?_)
          clear hK K
          try simp only [Act.put, List.setIfInBounds_toArray, List.set_cons_zero, List.set_cons_succ]
          refine wpAnyK_ready (rs := [17]) (by kernel_rfl) (by simp) ?_
          refine (AllReadyK.cons (o := { dst := some 60, op := Go.Op.call { callee := Go.Callee.builtin Go.Builtin.append, args := #[Go.Operand.tmp 55, Go.Operand.tmp 59], argTypes := #[37, 37] }, type := 37, pos := "ref.go:38", after := #[{ on := 12, ground := Go.Ground.data }, { on := 16, ground := Go.Ground.data }, { on := 12, ground := Go.Ground.chain }], guard := none }) rfl (fun K hK => ?_) AllReadyK.nil)
          refine step_append_Ev rfl (.tmp 55) (.tmp 59) rfl wd v3 ([] ++ ([] : List Ev).take 0 ++ [⟨last + 1, due, nm⟩]) (([] : List Ev).drop 0) none 0 (by rfl) (by rw [hD]; rfl) hO3 (HDR.out w3 (HLQ.out.below hO3.below)) (fun _ => rfl) (by simp <;> omega) ?_
          intro v4 w4 hO4 hk4
          have hS4 := HSK.out w4 hO4.below
          refine hK.out _ _ (fun _ => hS4) (fun _ => ?_)
          clear hK K
          try simp only [Act.put, List.setIfInBounds_toArray, List.set_cons_zero, List.set_cons_succ]
          refine wpAnyK_take (by kernel_rfl) (i := 18) (oi := { dst := some 61, op := Go.Op.fieldAddr 39 (Go.Operand.tmp 3) 0, type := 0, pos := "ref.go:38", after := #[{ on := 0, ground := Go.Ground.phase }, { on := 1, ground := Go.Ground.phase }, { on := 2, ground := Go.Ground.phase }, { on := 3, ground := Go.Ground.phase }, { on := 4, ground := Go.Ground.phase }, { on := 5, ground := Go.Ground.phase }, { on := 6, ground := Go.Ground.phase }, { on := 7, ground := Go.Ground.phase }, { on := 8, ground := Go.Ground.phase }, { on := 9, ground := Go.Ground.phase }, { on := 10, ground := Go.Ground.phase }, { on := 11, ground := Go.Ground.phase }, { on := 12, ground := Go.Ground.phase }, { on := 13, ground := Go.Ground.phase }, { on := 14, ground := Go.Ground.phase }, { on := 15, ground := Go.Ground.phase }, { on := 16, ground := Go.Ground.phase }, { on := 17, ground := Go.Ground.phase }], guard := none }) (v := ?_) rfl (by kernel_rfl) (by kernel_rfl) (by kernel_rfl) (fun _ _ _ h => h) (Or.inl ⟨by rfl, ?_⟩) (by assumption) ?_
          rotate_left
          · intro wz hSw; (try dsimp only at hSw); go_simp; (try with_reducible rfl)
          try simp only [Act.put, List.setIfInBounds_toArray, List.set_cons_zero, List.set_cons_succ]
          have HQ4 : Hid (QB w w4 (.slice none 0 0) (last + 1) (.slice none 0 0) 0) := HD.out.keep hO4.below
          have hO5 : EvOw wd w4 v4 (insE ⟨last + 1, due, nm⟩ ([] : List Ev)) := by rw [HIN.out]; simpa using hO4
          clear HIN
          generalize hM : insE ⟨last + 1, due, nm⟩ ([] : List Ev) = M at hO5 ⊢
          have HM : Hid (insE ⟨last + 1, due, nm⟩ ([] : List Ev) = M) := hM
          obtain ⟨va, vc, rfl, -, -, -⟩ := hO5.sl
          have HO4 : Hid (EvOw wd w4 (.slice va M.length vc) M) := hO5
          clear hM hO5
          clear hk1 hk3 hk4 hO1 hO3 hO4 HSK HDR HONE HO0 HLQ hS1 hS2 hS3 hT hD
          have f4 : w4.frozen? ⟨w.heap.size, 0, none⟩ = false := frozen_of_row w4 _ 0 _ _ HQ4.out.box
          refine wpAnyK_ready (rs := [19]) (by kernel_rfl) (by simp) ?_
          refine (AllReadyK.cons (o := { dst := none, op := Go.Op.store 37 (Go.Operand.tmp 61) (Go.Operand.tmp 60), type := 0, pos := "ref.go:38", after := #[{ on := 18, ground := Go.Ground.data }, { on := 17, ground := Go.Ground.data }, { on := 17, ground := Go.Ground.chain }, { on := 0, ground := Go.Ground.phase }, { on := 1, ground := Go.Ground.phase }, { on := 2, ground := Go.Ground.phase }, { on := 3, ground := Go.Ground.phase }, { on := 4, ground := Go.Ground.phase }, { on := 5, ground := Go.Ground.phase }, { on := 6, ground := Go.Ground.phase }, { on := 7, ground := Go.Ground.phase }, { on := 8, ground := Go.Ground.phase }, { on := 9, ground := Go.Ground.phase }, { on := 10, ground := Go.Ground.phase }, { on := 11, ground := Go.Ground.phase }, { on := 12, ground := Go.Ground.phase }, { on := 13, ground := Go.Ground.phase }, { on := 14, ground := Go.Ground.phase }, { on := 15, ground := Go.Ground.phase }, { on := 16, ground := Go.Ground.phase }, { on := 17, ground := Go.Ground.phase }], guard := none }) rfl (fun K hK => ?_) AllReadyK.nil)
          go_simp
          refine hK.out _ _ (fun e => absurd rfl e) (fun _ => ?_)
          clear hK K
          try simp only [Act.put, List.setIfInBounds_toArray, List.set_cons_zero, List.set_cons_succ]
          refine wpAnyK_done (by kernel_rfl) (NoPanic.normal ?_) _
          try simp only [Act.put, List.setIfInBounds_toArray, List.set_cons_zero, List.set_cons_succ]
          have HQ5 : Hid (QB w (w4.setCell ⟨w.heap.size, 0, none⟩ (.slice va M.length vc)) (.slice va M.length vc) (last + 1) (.slice none 0 0) 0) := HQ4.out.setBox (.slice va M.length vc)
          have HP5 : Hid (Below w.heap.size w wd ∧ w.heap.size + 1 < wd.heap.size ∧ ∀ k, k ≠ w.heap.size → (w4.setCell ⟨w.heap.size, 0, none⟩ (.slice va M.length vc)).heap[k]? = w4.heap[k]?) := ⟨HD.out.below, HD.out.size, fun k hk => Below.heap_setCell _ _ _ _ (by simpa using hk)⟩
          clear hS4 f4 hHeld HQ4
          generalize w4.setCell ⟨w.heap.size, 0, none⟩ (.slice va M.length vc) = w5 at *
          go_upto_region 11 with fail
          have HQ6 : Hid (QB w w5.drew (.slice va M.length vc) (last + 1) (.slice none 0 0) 0) := HQ5.out.drew
          obtain ⟨w6, hw6⟩ : ∃ w6, w5.drew = w6 := ⟨_, rfl⟩
          refine wp_region_noPanic ?_
          refine wp_region_held_drew (S := fun w' => w'.cell? ⟨w.heap.size, 0, none⟩ = some (.slice va M.length vc) ∧ w'.cell? ⟨w.heap.size, 1, none⟩ = some (.int .i64 (last + 1))) (by kernel_rfl) HQ6.out.cells (fun hHeld => ?_)
          have HP6 : Hid (∀ k, k ≠ w.heap.size → w6.heap[k]? = w4.heap[k]?) := fun k hk => by rw [← hw6]; exact HP5.out.2.2 k hk
          rw [hw6] at hHeld HQ6 ⊢
          clear hw6
          have r0 : w6.cell? ⟨w.heap.size + 1, 0, none⟩ = some (.slice none 0 0) := by rw [cell_of_row _ _ 0 _ _ _ HQ6.out.res]; rfl
          have r1 : w6.cell? ⟨w.heap.size + 1, 1, none⟩ = some (.int .i64 0) := by rw [cell_of_row _ _ 1 _ _ _ HQ6.out.res]; rfl
          have f1 : w6.frozen? ⟨w.heap.size + 1, 0, none⟩ = false := frozen_of_row w6 _ 0 _ _ HQ6.out.res
          have f2 : w6.frozen? ⟨w.heap.size + 1, 1, none⟩ = false := frozen_of_row w6 _ 1 _ _ HQ6.out.res
          have HQ7 : Hid (QB w ((w6.setCell ⟨w.heap.size + 1, 0, none⟩ (.slice va M.length vc)).setCell ⟨w.heap.size + 1, 1, none⟩ (.int .i64 (last + 1))) (.slice va M.length vc) (last + 1) (.slice va M.length vc) (last + 1)) := HQ6.out.setRes _ _
          refine wpAnyH_take (i := 0) (oi := { dst := some 62, op := Go.Op.load 39 (Go.Operand.tmp 3), type := 39, pos := "ref.go:39", after := #[], guard := none }) (v := .agg #[.slice va M.length vc, .int .i64 (last + 1)]) rfl (by kernel_rfl) (by kernel_rfl) (by kernel_rfl) (fun _ _ _ h => h) (Or.inl ⟨by rfl, ?_⟩) (by assumption) ?_
          · intro wz hSw; (try dsimp only at hSw); have h1 := hSw.1; have h2 := hSw.2; go_simp; try rfl
          try simp only [Act.put, List.setIfInBounds_toArray, List.set_cons_zero, List.set_cons_succ]
          refine wpAnyH_take (i := 1) (oi := { dst := some 63, op := Go.Op.fieldAddr 39 (Go.Operand.tmp 3) 1, type := 0, pos := "ref.go:39", after := #[{ on := 3, ground := Go.Ground.gcOnly Go.Departure.lateStores }], guard := none }) (v := ?_) rfl (by kernel_rfl) (by kernel_rfl) (by kernel_rfl) (fun _ _ _ h => h) (Or.inl ⟨by rfl, ?_⟩) (by assumption) ?_
          rotate_left
          · intro wz hSw; (try dsimp only at hSw); go_simp; (try with_reducible rfl)
          try simp only [Act.put, List.setIfInBounds_toArray, List.set_cons_zero, List.set_cons_succ]
          refine wpAnyH_take (i := 2) (oi := { dst := some 64, op := Go.Op.load 3 (Go.Operand.tmp 63), type := 3, pos := "ref.go:39", after := #[{ on := 1, ground := Go.Ground.data }, { on := 3, ground := Go.Ground.gcOnly Go.Departure.lateStores }], guard := none }) (v := .int .i64 (last + 1)) rfl (by kernel_rfl) (by kernel_rfl) (by kernel_rfl) (fun _ _ _ h => h) (Or.inl ⟨by rfl, ?_⟩) (by assumption) ?_
          · intro wz hSw; (try dsimp only at hSw); have h1 := hSw.2; go_simp; try rfl
          try simp only [Act.put, List.setIfInBounds_toArray, List.set_cons_zero, List.set_cons_succ]
          refine wpAnyH_ready (rs := [3]) (by kernel_rfl) (by simp) ?_
          refine (AllReadyH.cons (o := { dst := none, op := Go.Op.store 39 (Go.Operand.tmp 6) (Go.Operand.tmp 62), type := 0, pos := "ref.go:39", after := #[{ on := 0, ground := Go.Ground.data }, { on := 0, ground := Go.Ground.phase }, { on := 1, ground := Go.Ground.textOnly Go.Departure.lateStores }, { on := 2, ground := Go.Ground.textOnly Go.Departure.lateStores }], guard := none }) rfl (fun K hK => ?_) AllReadyH.nil)
          go_simp
          refine hK.out _ _ HQ7.out.cells (fun hS7 => ?_)
          clear hK K
          try simp only [Act.put, List.setIfInBounds_toArray, List.set_cons_zero, List.set_cons_succ]
          refine wpAnyH_take (i := 4) (oi := { dst := some 7, op := Go.Op.assign (Go.Operand.tmp 64), type := 3, pos := "ref.go:39", after := #[{ on := 2, ground := Go.Ground.data }, { on := 3, ground := Go.Ground.chain }, { on := 0, ground := Go.Ground.phase }, { on := 1, ground := Go.Ground.phase }, { on := 2, ground := Go.Ground.phase }, { on := 3, ground := Go.Ground.phase }], guard := none }) (v := ?_) rfl (by kernel_rfl) (by kernel_rfl) (by kernel_rfl) (fun _ _ _ h => h) (Or.inl ⟨by rfl, ?_⟩) (by assumption) ?_
          rotate_left
          · intro wz hSw; (try dsimp only at hSw); go_simp; (try with_reducible rfl)
          try simp only [Act.put, List.setIfInBounds_toArray, List.set_cons_zero, List.set_cons_succ]
          refine wpAnyH_take (i := 5) (oi := { dst := some 8, op := Go.Op.assign (Go.Operand.const (Go.Value.int Go.IntKind.i64 0)), type := 3, pos := "ref.go:39", after := #[{ on := 4, ground := Go.Ground.chain }, { on := 0, ground := Go.Ground.phase }, { on := 1, ground := Go.Ground.phase }, { on := 2, ground := Go.Ground.phase }, { on := 3, ground := Go.Ground.phase }, { on := 4, ground := Go.Ground.phase }], guard := none }) (v := ?_) rfl (by kernel_rfl) (by kernel_rfl) (by kernel_rfl) (fun _ _ _ h => h) (Or.inl ⟨by rfl, ?_⟩) (by assumption) ?_
          rotate_left
          · intro wz hSw; (try dsimp only at hSw); go_simp; (try with_reducible rfl)
          try simp only [Act.put, List.setIfInBounds_toArray, List.set_cons_zero, List.set_cons_succ]
          refine wpAnyH_done (by kernel_rfl) (NoPanic.normal ?_) _
          try simp only [Act.put, List.setIfInBounds_toArray, List.set_cons_zero, List.set_cons_succ]
          go_wp2
          all_goals refine bodyPost_ret (results_Q3 Tryd.results17 _ _ (w.heap.size + 1) 39 (.slice va M.length vc) (.int .i64 (last + 1)) (0, 0) rfl HQ7.out.res) rfl ⟨HQ7.out.below, .inr ⟨HE.out, _, rfl, ?_⟩⟩
          all_goals rw [HM.out]
          all_goals exact HO4.out.far HP5.out.1 (fun k hk => by
            have h1 := HP5.out.2.1
            rw [Below.heap_setCell _ _ _ _ (by simp; omega), Below.heap_setCell _ _ _ _ (by simp; omega)]
            exact HP6.out k (by omega)) HQ7.out.below

      | some a =>
        obtain ⟨bb, off, rfl⟩ := hsp a rfl
        go_upto_region 10 with fail
        have HD : Hid (QB w wr.drew (.slice (some ⟨bb, off, none⟩) L.length cap) (last + 1) (.slice none 0 0) 0) := HI.out.drew
        obtain ⟨wd, hwd⟩ : ∃ wd, wr.drew = wd := ⟨_, rfl⟩
        rw [hwd] at HD
        have HSK : Hid (∀ W : World, Below wd.heap.size wd W → W.cell? ⟨w.heap.size, 0, none⟩ = some (.slice (some ⟨bb, off, none⟩) L.length cap) ∧ W.cell? ⟨w.heap.size, 1, none⟩ = some (.int .i64 (last + 1))) := fun W hb => (HD.out.keep hb).cells
        have hT : (L.take L.length).length = L.length := by rw [List.length_take]; omega
        have hD : (L.drop L.length).length = L.length - L.length := by simp
        have HO0 : Hid (EvOw wd wd (.slice none 0 0) []) := EvOw.nil' (Below.refl _ _)
        have HLQ : Hid (EvAt wd (some ⟨bb, off, none⟩) L) := HL.out.below HD.out.below
        have HDR : Hid (∀ W : World, EvAt W (some ⟨bb, off, none⟩) L → EvAt W (if cap = L.length then some ⟨bb, off, none⟩ else some ⟨bb, off + L.length * 3, none⟩) (L.drop L.length)) := fun W h => by split; exact (fun hn => by rw [List.length_drop] at hn; omega); exact h.drop _
        have HONE : Hid (∀ W : World, EvAt (W.alloc (.cells #[.int .i64 (last + 1), .int .i64 due, encStr nm] 51)) (some ⟨W.heap.size, 0, none⟩) [⟨last + 1, due, nm⟩]) := fun W => EvAt.one ⟨last + 1, due, nm⟩ W
        refine wp_region_noPanic ?_
        refine wp_region_K (S := fun w' => w'.cell? ⟨w.heap.size, 0, none⟩ = some (.slice (some ⟨bb, off, none⟩) L.length cap) ∧ w'.cell? ⟨w.heap.size, 1, none⟩ = some (.int .i64 (last + 1))) 19 (by kernel_rfl) (by rw [hwd]; exact HSK.out _ (Below.refl _ _)) (fun hHeld => ?_)
        rw [hwd] at hHeld ⊢
        clear hwd
        refine wpAnyK_take (by kernel_rfl) (i := 0) (oi := { dst := some 43, op := Go.Op.move (Go.Operand.tmp 9), type := 37, pos := "ref.go:38", after := #[], guard := none }) (v := ?_) rfl (by kernel_rfl) (by kernel_rfl) (by kernel_rfl) (fun _ _ _ h => h) (Or.inl ⟨by rfl, ?_⟩) (by assumption) ?_
        rotate_left
        · intro wz hSw; (try dsimp only at hSw); go_simp; (try with_reducible rfl)
        try simp only [Act.put, List.setIfInBounds_toArray, List.set_cons_zero, List.set_cons_succ]
        refine wpAnyK_take (by kernel_rfl) (i := 1) (oi := { dst := some 44, op := Go.Op.fieldAddr 39 (Go.Operand.tmp 3) 0, type := 0, pos := "ref.go:38", after := #[], guard := none }) (v := ?_) rfl (by kernel_rfl) (by kernel_rfl) (by kernel_rfl) (fun _ _ _ h => h) (Or.inl ⟨by rfl, ?_⟩) (by assumption) ?_
        rotate_left
        · intro wz hSw; (try dsimp only at hSw); go_simp; (try with_reducible rfl)
        try simp only [Act.put, List.setIfInBounds_toArray, List.set_cons_zero, List.set_cons_succ]
        refine wpAnyK_take (by kernel_rfl) (i := 2) (oi := { dst := some 45, op := Go.Op.load 37 (Go.Operand.tmp 44), type := 37, pos := "ref.go:38", after := #[{ on := 1, ground := Go.Ground.data }], guard := none }) (v := .slice (some ⟨bb, off, none⟩) L.length cap) rfl (by kernel_rfl) (by kernel_rfl) (by kernel_rfl) (fun _ _ _ h => h) (Or.inl ⟨by rfl, ?_⟩) (by assumption) ?_
        · intro wz hSw; (try dsimp only at hSw); have h1 := hSw.1; go_simp; try rfl
        try simp only [Act.put, List.setIfInBounds_toArray, List.set_cons_zero, List.set_cons_succ]
        refine wpAnyK_take (by kernel_rfl) (i := 3) (oi := { dst := some 46, op := Go.Op.move (Go.Operand.tmp 10), type := 3, pos := "ref.go:38", after := #[], guard := none }) (v := ?_) rfl (by kernel_rfl) (by kernel_rfl) (by kernel_rfl) (fun _ _ _ h => h) (Or.inl ⟨by rfl, ?_⟩) (by assumption) ?_
        rotate_left
        · intro wz hSw; (try dsimp only at hSw); go_simp; (try with_reducible rfl)
        try simp only [Act.put, List.setIfInBounds_toArray, List.set_cons_zero, List.set_cons_succ]
        refine wpAnyK_take (by kernel_rfl) (i := 4) (oi := { dst := some 47, op := Go.Op.slice 37 (Go.Operand.tmp 45) none (some (Go.Operand.tmp 46)) none, type := 37, pos := "ref.go:38", after := #[{ on := 2, ground := Go.Ground.data }, { on := 3, ground := Go.Ground.data }], guard := none }) (v := .slice (some ⟨bb, off, none⟩) L.length cap) rfl (by kernel_rfl) (by kernel_rfl) (by kernel_rfl) (fun _ _ _ h => h) (Or.inl ⟨by rfl, ?_⟩) (by assumption) ?_
        · intro wz hSw; (try dsimp only at hSw); go_simp; try (intro hbad; omega)
        try simp only [Act.put, List.setIfInBounds_toArray, List.set_cons_zero, List.set_cons_succ]
        refine wpAnyK_take (by kernel_rfl) (i := 6) (oi := { dst := some 49, op := Go.Op.fieldAddr 39 (Go.Operand.tmp 3) 1, type := 0, pos := "ref.go:38", after := #[], guard := none }) (v := ?_) rfl (by kernel_rfl) (by kernel_rfl) (by kernel_rfl) (fun _ _ _ h => h) (Or.inl ⟨by rfl, ?_⟩) (by assumption) ?_
        rotate_left
        · intro wz hSw; (try dsimp only at hSw); go_simp; (try with_reducible rfl)
        try simp only [Act.put, List.setIfInBounds_toArray, List.set_cons_zero, List.set_cons_succ]
        refine wpAnyK_take (by kernel_rfl) (i := 7) (oi := { dst := some 50, op := Go.Op.load 3 (Go.Operand.tmp 49), type := 3, pos := "ref.go:38", after := #[{ on := 6, ground := Go.Ground.data }], guard := none }) (v := .int .i64 (last + 1)) rfl (by kernel_rfl) (by kernel_rfl) (by kernel_rfl) (fun _ _ _ h => h) (Or.inl ⟨by rfl, ?_⟩) (by assumption) ?_
        · intro wz hSw; (try dsimp only at hSw); have h1 := hSw.2; go_simp; try rfl
        try simp only [Act.put, List.setIfInBounds_toArray, List.set_cons_zero, List.set_cons_succ]
        refine wpAnyK_take (by kernel_rfl) (i := 8) (oi := { dst := some 51, op := Go.Op.move (Go.Operand.tmp 1), type := 3, pos := "ref.go:38", after := #[], guard := none }) (v := ?_) rfl (by kernel_rfl) (by kernel_rfl) (by kernel_rfl) (fun _ _ _ h => h) (Or.inl ⟨by rfl, ?_⟩) (by assumption) ?_
        rotate_left
        · intro wz hSw; (try dsimp only at hSw); go_simp; (try with_reducible rfl)
        try simp only [Act.put, List.setIfInBounds_toArray, List.set_cons_zero, List.set_cons_succ]
        refine wpAnyK_take (by kernel_rfl) (i := 9) (oi := { dst := some 52, op := Go.Op.move (Go.Operand.tmp 2), type := 9, pos := "ref.go:38", after := #[], guard := none }) (v := ?_) rfl (by kernel_rfl) (by kernel_rfl) (by kernel_rfl) (fun _ _ _ h => h) (Or.inl ⟨by rfl, ?_⟩) (by assumption) ?_
        rotate_left
        · intro wz hSw; (try dsimp only at hSw); go_simp; (try with_reducible rfl)
        try simp only [Act.put, List.setIfInBounds_toArray, List.set_cons_zero, List.set_cons_succ]
        refine wpAnyK_take (by kernel_rfl) (i := 10) (oi := { dst := some 53, op := Go.Op.build 51 #[(0, Go.Operand.tmp 50), (1, Go.Operand.tmp 51), (2, Go.Operand.tmp 52)], type := 51, pos := "ref.go:38", after := #[{ on := 7, ground := Go.Ground.data }, { on := 8, ground := Go.Ground.data }, { on := 9, ground := Go.Ground.data }], guard := none }) (v := .agg #[.int .i64 (last + 1), .int .i64 due, encStr nm]) rfl (by kernel_rfl) (by kernel_rfl) (by kernel_rfl) (fun _ _ _ h => h) (Or.inl ⟨by rfl, ?_⟩) (by assumption) ?_
        · intro wz hSw; (try dsimp only at hSw); kernel_rfl
        try simp only [Act.put, List.setIfInBounds_toArray, List.set_cons_zero, List.set_cons_succ]
        refine wpAnyK_take (by kernel_rfl) (i := 13) (oi := { dst := some 56, op := Go.Op.fieldAddr 39 (Go.Operand.tmp 3) 0, type := 0, pos := "ref.go:38", after := #[], guard := none }) (v := ?_) rfl (by kernel_rfl) (by kernel_rfl) (by kernel_rfl) (fun _ _ _ h => h) (Or.inl ⟨by rfl, ?_⟩) (by assumption) ?_
        rotate_left
        · intro wz hSw; (try dsimp only at hSw); go_simp; (try with_reducible rfl)
        try simp only [Act.put, List.setIfInBounds_toArray, List.set_cons_zero, List.set_cons_succ]
        refine wpAnyK_take (by kernel_rfl) (i := 14) (oi := { dst := some 57, op := Go.Op.load 37 (Go.Operand.tmp 56), type := 37, pos := "ref.go:38", after := #[{ on := 13, ground := Go.Ground.data }], guard := none }) (v := .slice (some ⟨bb, off, none⟩) L.length cap) rfl (by kernel_rfl) (by kernel_rfl) (by kernel_rfl) (fun _ _ _ h => h) (Or.inl ⟨by rfl, ?_⟩) (by assumption) ?_
        · intro wz hSw; (try dsimp only at hSw); have h1 := hSw.1; go_simp; try rfl
        try simp only [Act.put, List.setIfInBounds_toArray, List.set_cons_zero, List.set_cons_succ]
        refine wpAnyK_take (by kernel_rfl) (i := 15) (oi := { dst := some 58, op := Go.Op.move (Go.Operand.tmp 10), type := 3, pos := "ref.go:38", after := #[], guard := none }) (v := ?_) rfl (by kernel_rfl) (by kernel_rfl) (by kernel_rfl) (fun _ _ _ h => h) (Or.inl ⟨by rfl, ?_⟩) (by assumption) ?_
        rotate_left
        · intro wz hSw; (try dsimp only at hSw); go_simp; (try with_reducible rfl)
        try simp only [Act.put, List.setIfInBounds_toArray, List.set_cons_zero, List.set_cons_succ]
        refine wpAnyK_take (by kernel_rfl) (i := 16) (oi := { dst := some 59, op := Go.Op.slice 37 (Go.Operand.tmp 57) (some (Go.Operand.tmp 58)) none none, type := 37, pos := "ref.go:38", after := #[{ on := 14, ground := Go.Ground.data }, { on := 15, ground := Go.Ground.data }], guard := none }) (v := .slice (if cap = L.length then some ⟨bb, off, none⟩ else some ⟨bb, off + L.length * 3, none⟩) (L.length - L.length) (cap - L.length)) rfl (by kernel_rfl) (by kernel_rfl) (by kernel_rfl) (fun _ _ _ h => h) (Or.inl ⟨by rfl, ?_⟩) (by assumption) ?_
        · intro wz hSw; (try dsimp only at hSw); go_simp; try (intro hbad; omega)
        try simp only [Act.put, List.setIfInBounds_toArray, List.set_cons_zero, List.set_cons_succ]
        refine wpAnyK_ready (rs := [5, 11]) (by kernel_rfl) (by simp) ?_
        refine (AllReadyK.cons (o := { dst := some 48, op := Go.Op.call { callee := Go.Callee.builtin Go.Builtin.append, args := #[Go.Operand.tmp 43, Go.Operand.tmp 47], argTypes := #[37, 37] }, type := 37, pos := "ref.go:38", after := #[{ on := 0, ground := Go.Ground.data }, { on := 4, ground := Go.Ground.data }], guard := none }) rfl (fun K hK => ?_) (AllReadyK.cons (o := { dst := some 54, op := Go.Op.buildSlice 37 1 #[(0, Go.Operand.tmp 53)], type := 37, pos := "ref.go:38", after := #[{ on := 10, ground := Go.Ground.data }], guard := none }) rfl (fun K hK => ?_) AllReadyK.nil))
        · refine step_append_Ev rfl (.tmp 43) (.tmp 47) rfl wd (.slice none 0 0) [] (L.take L.length) (some ⟨bb, off, none⟩) cap (by rfl) (by rw [hT]; rfl) HO0.out (HLQ.out.take L.length) (fun e => by cases e) (by simp <;> omega) ?_
          intro v1 w1 hO1 hk1
          have hS1 := HSK.out w1 hO1.below
          refine hK.out _ _ (fun _ => hS1) (fun _ => ?_)
          clear hK K
          try simp only [Act.put, List.setIfInBounds_toArray, List.set_cons_zero, List.set_cons_succ]
          refine wpAnyK_ready (rs := [11]) (by kernel_rfl) (by simp) ?_
          refine (AllReadyK.cons (o := { dst := some 54, op := Go.Op.buildSlice 37 1 #[(0, Go.Operand.tmp 53)], type := 37, pos := "ref.go:38", after := #[{ on := 10, ground := Go.Ground.data }], guard := none }) rfl (fun K hK => ?_) AllReadyK.nil)
          refine step_sliceEv rfl (.tmp 53) rfl (last + 1) due nm (by rfl) ?_
          have hb2 : Below w1.heap.size w1 (w1.alloc (.cells #[.int .i64 (last + 1), .int .i64 due, encStr nm] 51)) := (Below.refl _ w1).alloc (Nat.le_refl _) _
          have hS2 := HSK.out (w1.alloc (.cells #[.int .i64 (last + 1), .int .i64 due, encStr nm] 51)) (hO1.keep hb2).below
          refine hK.out _ _ (fun _ => hS2) (fun _ => ?_)
          clear hK K
          try simp only [Act.put, List.setIfInBounds_toArray, List.set_cons_zero, List.set_cons_succ]
          refine wpAnyK_ready (rs := [12]) (by kernel_rfl) (by simp) ?_
          refine (AllReadyK.cons (o := { dst := some 55, op := Go.Op.call { callee := Go.Callee.builtin Go.Builtin.append, args := #[Go.Operand.tmp 48, Go.Operand.tmp 54], argTypes := #[37, 37] }, type := 37, pos := "ref.go:38", after := #[{ on := 5, ground := Go.Ground.data }, { on := 11, ground := Go.Ground.data }, { on := 5, ground := Go.Ground.chain }], guard := none }) rfl (fun K hK => ?_) AllReadyK.nil)
          refine step_append_Ev rfl (.tmp 48) (.tmp 54) rfl wd v1 ([] ++ L.take L.length) [⟨last + 1, due, nm⟩] (some ⟨w1.heap.size, 0, none⟩) 1 (by rfl) (by rfl) (hO1.keep hb2) (HONE.out w1) (fun e => by cases e) (by simp <;> omega) ?_
          intro v3 w3 hO3 hk3
          have hS3 := HSK.out w3 hO3.below
          refine hK.out _ _ (fun _ => hS3) (fun _ => ?_)
          clear hK K
          try simp only [Act.put, List.setIfInBounds_toArray, List.set_cons_zero, List.set_cons_succ]
          refine wpAnyK_ready (rs := [17]) (by kernel_rfl) (by simp) ?_
          refine (AllReadyK.cons (o := { dst := some 60, op := Go.Op.call { callee := Go.Callee.builtin Go.Builtin.append, args := #[Go.Operand.tmp 55, Go.Operand.tmp 59], argTypes := #[37, 37] }, type := 37, pos := "ref.go:38", after := #[{ on := 12, ground := Go.Ground.data }, { on := 16, ground := Go.Ground.data }, { on := 12, ground := Go.Ground.chain }], guard := none }) rfl (fun K hK => ?_) AllReadyK.nil)
          refine step_append_Ev rfl (.tmp 55) (.tmp 59) rfl wd v3 ([] ++ L.take L.length ++ [⟨last + 1, due, nm⟩]) (L.drop L.length) (if cap = L.length then some ⟨bb, off, none⟩ else some ⟨bb, off + L.length * 3, none⟩) (cap - L.length) (by rfl) (by rw [hD]; rfl) hO3 (HDR.out w3 (HLQ.out.below hO3.below)) (fun e => by split at e <;> cases e) (by simp <;> omega) ?_
          intro v4 w4 hO4 hk4
          have hS4 := HSK.out w4 hO4.below
          refine hK.out _ _ (fun _ => hS4) (fun _ => ?_)
          clear hK K
          try simp only [Act.put, List.setIfInBounds_toArray, List.set_cons_zero, List.set_cons_succ]
          refine wpAnyK_take (by kernel_rfl) (i := 18) (oi := { dst := some 61, op := Go.Op.fieldAddr 39 (Go.Operand.tmp 3) 0, type := 0, pos := "ref.go:38", after := #[{ on := 0, ground := Go.Ground.phase }, { on := 1, ground := Go.Ground.phase }, { on := 2, ground := Go.Ground.phase }, { on := 3, ground := Go.Ground.phase }, { on := 4, ground := Go.Ground.phase }, { on := 5, ground := Go.Ground.phase }, { on := 6, ground := Go.Ground.phase }, { on := 7, ground := Go.Ground.phase }, { on := 8, ground := Go.Ground.phase }, { on := 9, ground := Go.Ground.phase }, { on := 10, ground := Go.Ground.phase }, { on := 11, ground := Go.Ground.phase }, { on := 12, ground := Go.Ground.phase }, { on := 13, ground := Go.Ground.phase }, { on := 14, ground := Go.Ground.phase }, { on := 15, ground := Go.Ground.phase }, { on := 16, ground := Go.Ground.phase }, { on := 17, ground := Go.Ground.phase }], guard := none }) (v := ?_) rfl (by kernel_rfl) (by kernel_rfl) (by kernel_rfl) (fun _ _ _ h => h) (Or.inl ⟨by rfl, ?_⟩) (by assumption) ?_
          rotate_left
          · intro wz hSw; (try dsimp only at hSw); go_simp; (try with_reducible rfl)
          try simp only [Act.put, List.setIfInBounds_toArray, List.set_cons_zero, List.set_cons_succ]
          have HQ4 : Hid (QB w w4 (.slice (some ⟨bb, off, none⟩) L.length cap) (last + 1) (.slice none 0 0) 0) := HD.out.keep hO4.below
          have hO5 : EvOw wd w4 v4 (insE ⟨last + 1, due, nm⟩ L) := by rw [HIN.out]; simpa using hO4
          clear HIN
          generalize hM : insE ⟨last + 1, due, nm⟩ L = M at hO5 ⊢
          have HM : Hid (insE ⟨last + 1, due, nm⟩ L = M) := hM
          obtain ⟨va, vc, rfl, -, -, -⟩ := hO5.sl
          have HO4 : Hid (EvOw wd w4 (.slice va M.length vc) M) := hO5
          clear hM hO5
          clear hk1 hk3 hk4 hO1 hO3 hO4 HSK HDR HONE HO0 HLQ hS1 hS2 hS3 hT hD
          have f4 : w4.frozen? ⟨w.heap.size, 0, none⟩ = false := frozen_of_row w4 _ 0 _ _ HQ4.out.box
          refine wpAnyK_ready (rs := [19]) (by kernel_rfl) (by simp) ?_
          refine (AllReadyK.cons (o := { dst := none, op := Go.Op.store 37 (Go.Operand.tmp 61) (Go.Operand.tmp 60), type := 0, pos := "ref.go:38", after := #[{ on := 18, ground := Go.Ground.data }, { on := 17, ground := Go.Ground.data }, { on := 17, ground := Go.Ground.chain }, { on := 0, ground := Go.Ground.phase }, { on := 1, ground := Go.Ground.phase }, { on := 2, ground := Go.Ground.phase }, { on := 3, ground := Go.Ground.phase }, { on := 4, ground := Go.Ground.phase }, { on := 5, ground := Go.Ground.phase }, { on := 6, ground := Go.Ground.phase }, { on := 7, ground := Go.Ground.phase }, { on := 8, ground := Go.Ground.phase }, { on := 9, ground := Go.Ground.phase }, { on := 10, ground := Go.Ground.phase }, { on := 11, ground := Go.Ground.phase }, { on := 12, ground := Go.Ground.phase }, { on := 13, ground := Go.Ground.phase }, { on := 14, ground := Go.Ground.phase }, { on := 15, ground := Go.Ground.phase }, { on := 16, ground := Go.Ground.phase }, { on := 17, ground := Go.Ground.phase }], guard := none }) rfl (fun K hK => ?_) AllReadyK.nil)
          go_simp
          refine hK.out _ _ (fun e => absurd rfl e) (fun _ => ?_)
          clear hK K
          try simp only [Act.put, List.setIfInBounds_toArray, List.set_cons_zero, List.set_cons_succ]
          refine wpAnyK_done (by kernel_rfl) (NoPanic.normal ?_) _
          try simp only [Act.put, List.setIfInBounds_toArray, List.set_cons_zero, List.set_cons_succ]
          have HQ5 : Hid (QB w (w4.setCell ⟨w.heap.size, 0, none⟩ (.slice va M.length vc)) (.slice va M.length vc) (last + 1) (.slice none 0 0) 0) := HQ4.out.setBox (.slice va M.length vc)
          have HP5 : Hid (Below w.heap.size w wd ∧ w.heap.size + 1 < wd.heap.size ∧ ∀ k, k ≠ w.heap.size → (w4.setCell ⟨w.heap.size, 0, none⟩ (.slice va M.length vc)).heap[k]? = w4.heap[k]?) := ⟨HD.out.below, HD.out.size, fun k hk => Below.heap_setCell _ _ _ _ (by simpa using hk)⟩
          clear hS4 f4 hHeld HQ4
          generalize w4.setCell ⟨w.heap.size, 0, none⟩ (.slice va M.length vc) = w5 at *
          go_upto_region 11 with fail
          have HQ6 : Hid (QB w w5.drew (.slice va M.length vc) (last + 1) (.slice none 0 0) 0) := HQ5.out.drew
          obtain ⟨w6, hw6⟩ : ∃ w6, w5.drew = w6 := ⟨_, rfl⟩
          refine wp_region_noPanic ?_
          refine wp_region_held_drew (S := fun w' => w'.cell? ⟨w.heap.size, 0, none⟩ = some (.slice va M.length vc) ∧ w'.cell? ⟨w.heap.size, 1, none⟩ = some (.int .i64 (last + 1))) (by kernel_rfl) HQ6.out.cells (fun hHeld => ?_)
          have HP6 : Hid (∀ k, k ≠ w.heap.size → w6.heap[k]? = w4.heap[k]?) := fun k hk => by rw [← hw6]; exact HP5.out.2.2 k hk
          rw [hw6] at hHeld HQ6 ⊢
          clear hw6
          have r0 : w6.cell? ⟨w.heap.size + 1, 0, none⟩ = some (.slice none 0 0) := by rw [cell_of_row _ _ 0 _ _ _ HQ6.out.res]; rfl
          have r1 : w6.cell? ⟨w.heap.size + 1, 1, none⟩ = some (.int .i64 0) := by rw [cell_of_row _ _ 1 _ _ _ HQ6.out.res]; rfl
          have f1 : w6.frozen? ⟨w.heap.size + 1, 0, none⟩ = false := frozen_of_row w6 _ 0 _ _ HQ6.out.res
          have f2 : w6.frozen? ⟨w.heap.size + 1, 1, none⟩ = false := frozen_of_row w6 _ 1 _ _ HQ6.out.res
          have HQ7 : Hid (QB w ((w6.setCell ⟨w.heap.size + 1, 0, none⟩ (.slice va M.length vc)).setCell ⟨w.heap.size + 1, 1, none⟩ (.int .i64 (last + 1))) (.slice va M.length vc) (last + 1) (.slice va M.length vc) (last + 1)) := HQ6.out.setRes _ _
          refine wpAnyH_take (i := 0) (oi := { dst := some 62, op := Go.Op.load 39 (Go.Operand.tmp 3), type := 39, pos := "ref.go:39", after := #[], guard := none }) (v := .agg #[.slice va M.length vc, .int .i64 (last + 1)]) rfl (by kernel_rfl) (by kernel_rfl) (by kernel_rfl) (fun _ _ _ h => h) (Or.inl ⟨by rfl, ?_⟩) (by assumption) ?_
          · intro wz hSw; (try dsimp only at hSw); have h1 := hSw.1; have h2 := hSw.2; go_simp; try rfl
          try simp only [Act.put, List.setIfInBounds_toArray, List.set_cons_zero, List.set_cons_succ]
          refine wpAnyH_take (i := 1) (oi := { dst := some 63, op := Go.Op.fieldAddr 39 (Go.Operand.tmp 3) 1, type := 0, pos := "ref.go:39", after := #[{ on := 3, ground := Go.Ground.gcOnly Go.Departure.lateStores }], guard := none }) (v := ?_) rfl (by kernel_rfl) (by kernel_rfl) (by kernel_rfl) (fun _ _ _ h => h) (Or.inl ⟨by rfl, ?_⟩) (by assumption) ?_
          rotate_left
          · intro wz hSw; (try dsimp only at hSw); go_simp; (try with_reducible rfl)
          try simp only [Act.put, List.setIfInBounds_toArray, List.set_cons_zero, List.set_cons_succ]
          refine wpAnyH_take (i := 2) (oi := { dst := some 64, op := Go.Op.load 3 (Go.Operand.tmp 63), type := 3, pos := "ref.go:39", after := #[{ on := 1, ground := Go.Ground.data }, { on := 3, ground := Go.Ground.gcOnly Go.Departure.lateStores }], guard := none }) (v := .int .i64 (last + 1)) rfl (by kernel_rfl) (by kernel_rfl) (by kernel_rfl) (fun _ _ _ h => h) (Or.inl ⟨by rfl, ?_⟩) (by assumption) ?_
          · intro wz hSw; (try dsimp only at hSw); have h1 := hSw.2; go_simp; try rfl
          try simp only [Act.put, List.setIfInBounds_toArray, List.set_cons_zero, List.set_cons_succ]
          refine wpAnyH_ready (rs := [3]) (by kernel_rfl) (by simp) ?_
          refine (AllReadyH.cons (o := { dst := none, op := Go.Op.store 39 (Go.Operand.tmp 6) (Go.Operand.tmp 62), type := 0, pos := "ref.go:39", after := #[{ on := 0, ground := Go.Ground.data }, { on := 0, ground := Go.Ground.phase }, { on := 1, ground := Go.Ground.textOnly Go.Departure.lateStores }, { on := 2, ground := Go.Ground.textOnly Go.Departure.lateStores }], guard := none }) rfl (fun K hK => ?_) AllReadyH.nil)
          go_simp
          refine hK.out _ _ HQ7.out.cells (fun hS7 => ?_)
          clear hK K
          try simp only [Act.put, List.setIfInBounds_toArray, List.set_cons_zero, List.set_cons_succ]
          refine wpAnyH_take (i := 4) (oi := { dst := some 7, op := Go.Op.assign (Go.Operand.tmp 64), type := 3, pos := "ref.go:39", after := #[{ on := 2, ground := Go.Ground.data }, { on := 3, ground := Go.Ground.chain }, { on := 0, ground := Go.Ground.phase }, { on := 1, ground := Go.Ground.phase }, { on := 2, ground := Go.Ground.phase }, { on := 3, ground := Go.Ground.phase }], guard := none }) (v := ?_) rfl (by kernel_rfl) (by kernel_rfl) (by kernel_rfl) (fun _ _ _ h => h) (Or.inl ⟨by rfl, ?_⟩) (by assumption) ?_
          rotate_left
          · intro wz hSw; (try dsimp only at hSw); go_simp; (try with_reducible rfl)
          try simp only [Act.put, List.setIfInBounds_toArray, List.set_cons_zero, List.set_cons_succ]
          refine wpAnyH_take (i := 5) (oi := { dst := some 8, op := Go.Op.assign (Go.Operand.const (Go.Value.int Go.IntKind.i64 0)), type := 3, pos := "ref.go:39", after := #[{ on := 4, ground := Go.Ground.chain }, { on := 0, ground := Go.Ground.phase }, { on := 1, ground := Go.Ground.phase }, { on := 2, ground := Go.Ground.phase }, { on := 3, ground := Go.Ground.phase }, { on := 4, ground := Go.Ground.phase }], guard := none }) (v := ?_) rfl (by kernel_rfl) (by kernel_rfl) (by kernel_rfl) (fun _ _ _ h => h) (Or.inl ⟨by rfl, ?_⟩) (by assumption) ?_
          rotate_left
          · intro wz hSw; (try dsimp only at hSw); go_simp; (try with_reducible rfl)
          try simp only [Act.put, List.setIfInBounds_toArray, List.set_cons_zero, List.set_cons_succ]
          refine wpAnyH_done (by kernel_rfl) (NoPanic.normal ?_) _
          try simp only [Act.put, List.setIfInBounds_toArray, List.set_cons_zero, List.set_cons_succ]
          go_wp2
          all_goals refine bodyPost_ret (results_Q3 Tryd.results17 _ _ (w.heap.size + 1) 39 (.slice va M.length vc) (.int .i64 (last + 1)) (0, 0) rfl HQ7.out.res) rfl ⟨HQ7.out.below, .inr ⟨HE.out, _, rfl, ?_⟩⟩
          all_goals rw [HM.out]
          all_goals exact HO4.out.far HP5.out.1 (fun k hk => by
            have h1 := HP5.out.2.1
            rw [Below.heap_setCell _ _ _ _ (by simp; omega), Below.heap_setCell _ _ _ _ (by simp; omega)]
            exact HP6.out k (by omega)) HQ7.out.below
        · refine step_sliceEv rfl (.tmp 53) rfl (last + 1) due nm (by rfl) ?_
          have hb1 : Below wd.heap.size wd (wd.alloc (.cells #[.int .i64 (last + 1), .int .i64 due, encStr nm] 51)) := (Below.refl _ wd).alloc (Nat.le_refl _) _
          have hS1 := HSK.out (wd.alloc (.cells #[.int .i64 (last + 1), .int .i64 due, encStr nm] 51)) hb1
          have hlt1 : wd.heap.size < (wd.alloc (.cells #[.int .i64 (last + 1), .int .i64 due, encStr nm] 51)).heap.size := by simp
          refine hK.out _ _ (fun _ => hS1) (fun _ => ?_)
          clear hK K
          try simp only [Act.put, List.setIfInBounds_toArray, List.set_cons_zero, List.set_cons_succ]
          refine wpAnyK_ready (rs := [5]) (by kernel_rfl) (by simp) ?_
          refine (AllReadyK.cons (o := { dst := some 48, op := Go.Op.call { callee := Go.Callee.builtin Go.Builtin.append, args := #[Go.Operand.tmp 43, Go.Operand.tmp 47], argTypes := #[37, 37] }, type := 37, pos := "ref.go:38", after := #[{ on := 0, ground := Go.Ground.data }, { on := 4, ground := Go.Ground.data }], guard := none }) rfl (fun K hK => ?_) AllReadyK.nil)
          refine step_append_Ev rfl (.tmp 43) (.tmp 47) rfl wd (.slice none 0 0) [] (L.take L.length) (some ⟨bb, off, none⟩) cap (by rfl) (by rw [hT]; rfl) (HO0.out.keep hb1) ((HLQ.out.below hb1).take L.length) (fun e => by cases e) (by simp <;> omega) ?_
          intro v1 w2 hO1 hk1
          have hS2 := HSK.out w2 hO1.below
          have hone : EvAt w2 (some ⟨wd.heap.size, 0, none⟩) [⟨last + 1, due, nm⟩] := (HONE.out wd).keep (fun a e _ => by cases e; exact hk1 _ hlt1 (by simp [Value.ownBlock]))
          refine hK.out _ _ (fun _ => hS2) (fun _ => ?_)
          clear hK K
          try simp only [Act.put, List.setIfInBounds_toArray, List.set_cons_zero, List.set_cons_succ]
          refine wpAnyK_ready (rs := [12]) (by kernel_rfl) (by simp) ?_
          refine (AllReadyK.cons (o := { dst := some 55, op := Go.Op.call { callee := Go.Callee.builtin Go.Builtin.append, args := #[Go.Operand.tmp 48, Go.Operand.tmp 54], argTypes := #[37, 37] }, type := 37, pos := "ref.go:38", after := #[{ on := 5, ground := Go.Ground.data }, { on := 11, ground := Go.Ground.data }, { on := 5, ground := Go.Ground.chain }], guard := none }) rfl (fun K hK => ?_) AllReadyK.nil)
          refine step_append_Ev rfl (.tmp 48) (.tmp 54) rfl wd v1 ([] ++ L.take L.length) [⟨last + 1, due, nm⟩] (some ⟨wd.heap.size, 0, none⟩) 1 (by rfl) (by rfl) hO1 hone (fun e => by cases e) (by simp <;> omega) ?_
          intro v3 w3 hO3 hk3
          have hS3 := HSK.out w3 hO3.below
          refine hK.out _ _ (fun _ => hS3) (fun _ => ?_)
          clear hK K
          try simp only [Act.put, List.setIfInBounds_toArray, List.set_cons_zero, List.set_cons_succ]
          refine wpAnyK_ready (rs := [17]) (by kernel_rfl) (by simp) ?_
          refine (AllReadyK.cons (o := { dst := some 60, op := Go.Op.call { callee := Go.Callee.builtin Go.Builtin.append, args := #[Go.Operand.tmp 55, Go.Operand.tmp 59], argTypes := #[37, 37] }, type := 37, pos := "ref.go:38", after := #[{ on := 12, ground := Go.Ground.data }, { on := 16, ground := Go.Ground.data }, { on := 12, ground := Go.Ground.chain }], guard := none }) rfl (fun K hK => ?_) AllReadyK.nil)
          refine step_append_Ev rfl (.tmp 55) (.tmp 59) rfl wd v3 ([] ++ L.take L.length ++ [⟨last + 1, due, nm⟩]) (L.drop L.length) (if cap = L.length then some ⟨bb, off, none⟩ else some ⟨bb, off + L.length * 3, none⟩) (cap - L.length) (by rfl) (by rw [hD]; rfl) hO3 (HDR.out w3 (HLQ.out.below hO3.below)) (fun e => by split at e <;> cases e) (by simp <;> omega) ?_
          intro v4 w4 hO4 hk4
          have hS4 := HSK.out w4 hO4.below
          refine hK.out _ _ (fun _ => hS4) (fun _ => ?_)
          clear hK K
          try simp only [Act.put, List.setIfInBounds_toArray, List.set_cons_zero, List.set_cons_succ]
          refine wpAnyK_take (by kernel_rfl) (i := 18) (oi := { dst := some 61, op := Go.Op.fieldAddr 39 (Go.Operand.tmp 3) 0, type := 0, pos := "ref.go:38", after := #[{ on := 0, ground := Go.Ground.phase }, { on := 1, ground := Go.Ground.phase }, { on := 2, ground := Go.Ground.phase }, { on := 3, ground := Go.Ground.phase }, { on := 4, ground := Go.Ground.phase }, { on := 5, ground := Go.Ground.phase }, { on := 6, ground := Go.Ground.phase }, { on := 7, ground := Go.Ground.phase }, { on := 8, ground := Go.Ground.phase }, { on := 9, ground := Go.Ground.phase }, { on := 10, ground := Go.Ground.phase }, { on := 11, ground := Go.Ground.phase }, { on := 12, ground := Go.Ground.phase }, { on := 13, ground := Go.Ground.phase }, { on := 14, ground := Go.Ground.phase }, { on := 15, ground := Go.Ground.phase }, { on := 16, ground := Go.Ground.phase }, { on := 17, ground := Go.Ground.phase }], guard := none }) (v := ?_) rfl (by kernel_rfl) (by kernel_rfl) (by kernel_rfl) (fun _ _ _ h => h) (Or.inl ⟨by rfl, ?_⟩) (by assumption) ?_
          rotate_left
          · intro wz hSw; (try dsimp only at hSw); go_simp; (try with_reducible rfl)
          try simp only [Act.put, List.setIfInBounds_toArray, List.set_cons_zero, List.set_cons_succ]
          have HQ4 : Hid (QB w w4 (.slice (some ⟨bb, off, none⟩) L.length cap) (last + 1) (.slice none 0 0) 0) := HD.out.keep hO4.below
          have hO5 : EvOw wd w4 v4 (insE ⟨last + 1, due, nm⟩ L) := by rw [HIN.out]; simpa using hO4
          clear HIN
          generalize hM : insE ⟨last + 1, due, nm⟩ L = M at hO5 ⊢
          have HM : Hid (insE ⟨last + 1, due, nm⟩ L = M) := hM
          obtain ⟨va, vc, rfl, -, -, -⟩ := hO5.sl
          have HO4 : Hid (EvOw wd w4 (.slice va M.length vc) M) := hO5
          clear hM hO5
          clear hk1 hk3 hk4 hO1 hO3 hO4 HSK HDR HONE HO0 HLQ hS1 hS2 hS3 hT hD
          have f4 : w4.frozen? ⟨w.heap.size, 0, none⟩ = false := frozen_of_row w4 _ 0 _ _ HQ4.out.box
          refine wpAnyK_ready (rs := [19]) (by kernel_rfl) (by simp) ?_
          refine (AllReadyK.cons (o := { dst := none, op := Go.Op.store 37 (Go.Operand.tmp 61) (Go.Operand.tmp 60), type := 0, pos := "ref.go:38", after := #[{ on := 18, ground := Go.Ground.data }, { on := 17, ground := Go.Ground.data }, { on := 17, ground := Go.Ground.chain }, { on := 0, ground := Go.Ground.phase }, { on := 1, ground := Go.Ground.phase }, { on := 2, ground := Go.Ground.phase }, { on := 3, ground := Go.Ground.phase }, { on := 4, ground := Go.Ground.phase }, { on := 5, ground := Go.Ground.phase }, { on := 6, ground := Go.Ground.phase }, { on := 7, ground := Go.Ground.phase }, { on := 8, ground := Go.Ground.phase }, { on := 9, ground := Go.Ground.phase }, { on := 10, ground := Go.Ground.phase }, { on := 11, ground := Go.Ground.phase }, { on := 12, ground := Go.Ground.phase }, { on := 13, ground := Go.Ground.phase }, { on := 14, ground := Go.Ground.phase }, { on := 15, ground := Go.Ground.phase }, { on := 16, ground := Go.Ground.phase }, { on := 17, ground := Go.Ground.phase }], guard := none }) rfl (fun K hK => ?_) AllReadyK.nil)
          go_simp
          refine hK.out _ _ (fun e => absurd rfl e) (fun _ => ?_)
          clear hK K
          try simp only [Act.put, List.setIfInBounds_toArray, List.set_cons_zero, List.set_cons_succ]
          refine wpAnyK_done (by kernel_rfl) (NoPanic.normal ?_) _
          try simp only [Act.put, List.setIfInBounds_toArray, List.set_cons_zero, List.set_cons_succ]
          have HQ5 : Hid (QB w (w4.setCell ⟨w.heap.size, 0, none⟩ (.slice va M.length vc)) (.slice va M.length vc) (last + 1) (.slice none 0 0) 0) := HQ4.out.setBox (.slice va M.length vc)
          have HP5 : Hid (Below w.heap.size w wd ∧ w.heap.size + 1 < wd.heap.size ∧ ∀ k, k ≠ w.heap.size → (w4.setCell ⟨w.heap.size, 0, none⟩ (.slice va M.length vc)).heap[k]? = w4.heap[k]?) := ⟨HD.out.below, HD.out.size, fun k hk => Below.heap_setCell _ _ _ _ (by simpa using hk)⟩
          clear hS4 f4 hHeld HQ4
          generalize w4.setCell ⟨w.heap.size, 0, none⟩ (.slice va M.length vc) = w5 at *
          go_upto_region 11 with fail
          have HQ6 : Hid (QB w w5.drew (.slice va M.length vc) (last + 1) (.slice none 0 0) 0) := HQ5.out.drew
          obtain ⟨w6, hw6⟩ : ∃ w6, w5.drew = w6 := ⟨_, rfl⟩
          refine wp_region_noPanic ?_
          refine wp_region_held_drew (S := fun w' => w'.cell? ⟨w.heap.size, 0, none⟩ = some (.slice va M.length vc) ∧ w'.cell? ⟨w.heap.size, 1, none⟩ = some (.int .i64 (last + 1))) (by kernel_rfl) HQ6.out.cells (fun hHeld => ?_)
          have HP6 : Hid (∀ k, k ≠ w.heap.size → w6.heap[k]? = w4.heap[k]?) := fun k hk => by rw [← hw6]; exact HP5.out.2.2 k hk
          rw [hw6] at hHeld HQ6 ⊢
          clear hw6
          have r0 : w6.cell? ⟨w.heap.size + 1, 0, none⟩ = some (.slice none 0 0) := by rw [cell_of_row _ _ 0 _ _ _ HQ6.out.res]; rfl
          have r1 : w6.cell? ⟨w.heap.size + 1, 1, none⟩ = some (.int .i64 0) := by rw [cell_of_row _ _ 1 _ _ _ HQ6.out.res]; rfl
          have f1 : w6.frozen? ⟨w.heap.size + 1, 0, none⟩ = false := frozen_of_row w6 _ 0 _ _ HQ6.out.res
          have f2 : w6.frozen? ⟨w.heap.size + 1, 1, none⟩ = false := frozen_of_row w6 _ 1 _ _ HQ6.out.res
          have HQ7 : Hid (QB w ((w6.setCell ⟨w.heap.size + 1, 0, none⟩ (.slice va M.length vc)).setCell ⟨w.heap.size + 1, 1, none⟩ (.int .i64 (last + 1))) (.slice va M.length vc) (last + 1) (.slice va M.length vc) (last + 1)) := HQ6.out.setRes _ _
          refine wpAnyH_take (i := 0) (oi := { dst := some 62, op := Go.Op.load 39 (Go.Operand.tmp 3), type := 39, pos := "ref.go:39", after := #[], guard := none }) (v := .agg #[.slice va M.length vc, .int .i64 (last + 1)]) rfl (by kernel_rfl) (by kernel_rfl) (by kernel_rfl) (fun _ _ _ h => h) (Or.inl ⟨by rfl, ?_⟩) (by assumption) ?_
          · intro wz hSw; (try dsimp only at hSw); have h1 := hSw.1; have h2 := hSw.2; go_simp; try rfl
          try simp only [Act.put, List.setIfInBounds_toArray, List.set_cons_zero, List.set_cons_succ]
          refine wpAnyH_take (i := 1) (oi := { dst := some 63, op := Go.Op.fieldAddr 39 (Go.Operand.tmp 3) 1, type := 0, pos := "ref.go:39", after := #[{ on := 3, ground := Go.Ground.gcOnly Go.Departure.lateStores }], guard := none }) (v := ?_) rfl (by kernel_rfl) (by kernel_rfl) (by kernel_rfl) (fun _ _ _ h => h) (Or.inl ⟨by rfl, ?_⟩) (by assumption) ?_
          rotate_left
          · intro wz hSw; (try dsimp only at hSw); go_simp; (try with_reducible rfl)
          try simp only [Act.put, List.setIfInBounds_toArray, List.set_cons_zero, List.set_cons_succ]
          refine wpAnyH_take (i := 2) (oi := { dst := some 64, op := Go.Op.load 3 (Go.Operand.tmp 63), type := 3, pos := "ref.go:39", after := #[{ on := 1, ground := Go.Ground.data }, { on := 3, ground := Go.Ground.gcOnly Go.Departure.lateStores }], guard := none }) (v := .int .i64 (last + 1)) rfl (by kernel_rfl) (by kernel_rfl) (by kernel_rfl) (fun _ _ _ h => h) (Or.inl ⟨by rfl, ?_⟩) (by assumption) ?_
          · intro wz hSw; (try dsimp only at hSw); have h1 := hSw.2; go_simp; try rfl
          try simp only [Act.put, List.setIfInBounds_toArray, List.set_cons_zero, List.set_cons_succ]
          refine wpAnyH_ready (rs := [3]) (by kernel_rfl) (by simp) ?_
          refine (AllReadyH.cons (o := { dst := none, op := Go.Op.store 39 (Go.Operand.tmp 6) (Go.Operand.tmp 62), type := 0, pos := "ref.go:39", after := #[{ on := 0, ground := Go.Ground.data }, { on := 0, ground := Go.Ground.phase }, { on := 1, ground := Go.Ground.textOnly Go.Departure.lateStores }, { on := 2, ground := Go.Ground.textOnly Go.Departure.lateStores }], guard := none }) rfl (fun K hK => ?_) AllReadyH.nil)
          go_simp
          refine hK.out _ _ HQ7.out.cells (fun hS7 => ?_)
          clear hK K
          try simp only [Act.put, List.setIfInBounds_toArray, List.set_cons_zero, List.set_cons_succ]
          refine wpAnyH_take (i := 4) (oi := { dst := some 7, op := Go.Op.assign (Go.Operand.tmp 64), type := 3, pos := "ref.go:39", after := #[{ on := 2, ground := Go.Ground.data }, { on := 3, ground := Go.Ground.chain }, { on := 0, ground := Go.Ground.phase }, { on := 1, ground := Go.Ground.phase }, { on := 2, ground := Go.Ground.phase }, { on := 3, ground := Go.Ground.phase }], guard := none }) (v := ?_) rfl (by kernel_rfl) (by kernel_rfl) (by kernel_rfl) (fun _ _ _ h => h) (Or.inl ⟨by rfl, ?_⟩) (by assumption) ?_
          rotate_left
          · intro wz hSw; (try dsimp only at hSw); go_simp; (try with_reducible rfl)
          try simp only [Act.put, List.setIfInBounds_toArray, List.set_cons_zero, List.set_cons_succ]
          refine wpAnyH_take (i := 5) (oi := { dst := some 8, op := Go.Op.assign (Go.Operand.const (Go.Value.int Go.IntKind.i64 0)), type := 3, pos := "ref.go:39", after := #[{ on := 4, ground := Go.Ground.chain }, { on := 0, ground := Go.Ground.phase }, { on := 1, ground := Go.Ground.phase }, { on := 2, ground := Go.Ground.phase }, { on := 3, ground := Go.Ground.phase }, { on := 4, ground := Go.Ground.phase }], guard := none }) (v := ?_) rfl (by kernel_rfl) (by kernel_rfl) (by kernel_rfl) (fun _ _ _ h => h) (Or.inl ⟨by rfl, ?_⟩) (by assumption) ?_
          rotate_left
          · intro wz hSw; (try dsimp only at hSw); go_simp; (try with_reducible rfl)
          try simp only [Act.put, List.setIfInBounds_toArray, List.set_cons_zero, List.set_cons_succ]
          refine wpAnyH_done (by kernel_rfl) (NoPanic.normal ?_) _
          try simp only [Act.put, List.setIfInBounds_toArray, List.set_cons_zero, List.set_cons_succ]
          go_wp2
          all_goals refine bodyPost_ret (results_Q3 Tryd.results17 _ _ (w.heap.size + 1) 39 (.slice va M.length vc) (.int .i64 (last + 1)) (0, 0) rfl HQ7.out.res) rfl ⟨HQ7.out.below, .inr ⟨HE.out, _, rfl, ?_⟩⟩
          all_goals rw [HM.out]
          all_goals exact HO4.out.far HP5.out.1 (fun k hk => by
            have h1 := HP5.out.2.1
            rw [Below.heap_setCell _ _ _ _ (by simp; omega), Below.heap_setCell _ _ _ _ (by simp; omega)]
            exact HP6.out k (by omega)) HQ7.out.below
end Go.Proofs.YthnobkiiaflelaaDoor
