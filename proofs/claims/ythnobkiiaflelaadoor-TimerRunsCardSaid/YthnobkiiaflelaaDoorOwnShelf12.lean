/- Events, one by one: the law's comparing. -/
import Derived.Test.YthnobkiiaflelaaDoorOwnShelf08
import Derived.Test.YthnobkiiaflelaaDoorOwnShelf04
namespace Go.Proofs.YthnobkiiaflelaaDoor
open Go.RowKit Go.Maps Go.Sort

structure EvsR (L M : List Ev) (w : World) (e : Ending) (w' : World) : Prop where
  mk :: (out : ∃ r, e = .returned (.bool r) ∧ (r = true ↔ L = M) ∧ Below w.heap.size w w')
set_option maxRecDepth 100000 in
set_option maxHeartbeats 1600000 in
theorem events_any (ad ad2 : Option Addr) (cap cap2 : Nat) (L M : List Ev) (w : World) (h : EvAt w ad L) (h2 : EvAt w ad2 M) (hl : L.length ≤ 1000) (hx : ∀ x ∈ L, x.Ok) (hy : ∀ y ∈ M, y.Ok) :
    Calls Tryd.prog 16 #[.slice ad L.length cap, .slice ad2 M.length cap2] w fun e w' => EvsR L M w e w' := by
  have HL : Hid (EvAt w ad L ∧ EvAt w ad2 M) := ⟨h, h2⟩
  have HO : Hid ((∀ x ∈ L, x.Ok) ∧ (∀ y ∈ M, y.Ok)) := ⟨hx, hy⟩
  clear h h2 hx hy
  by_cases hlen : L.length = M.length
  · have HLEN : Hid (L.length = M.length) := hlen
    rw [← hlen]
    clear hlen
    go_enter Tryd.func16, Tryd.ntmps16
    go_wp2
    go_loopw [5] (fun iv wr => ∃ i : Nat, i ≤ L.length ∧ iv = .int .i64 i ∧ Below w.heap.size w wr ∧ L.take i = M.take i) (fun iv _ => L.length - (intOf iv).toNat)
    case atStart => exact ⟨0, Nat.zero_le _, rfl, Below.refl _ _, rfl⟩
    case round =>
      obtain ⟨i, hi, rfl, hb, hE⟩ := hrel
      have HB : Hid (Below w.heap.size w wr) := hb
      have HE : Hid (L.take i = M.take i) := hE
      clear hb hE
      by_cases hlt : i < L.length
      · have hlt' : (i : Int) < L.length := by omega
        have hltM : i < M.length := by have := HLEN.out; omega
        have hx : L[i]? = some L[i] := List.getElem?_eq_getElem hlt
        have hy : M[i]? = some M[i] := List.getElem?_eq_getElem hltM
        obtain ⟨b, off, rfl, hc⟩ := (HL.out.1.below HB.out) (by omega)
        obtain ⟨b2, off2, rfl, hc2⟩ := (HL.out.2.below HB.out) (by omega)
        have HS : Hid (∃ x y, L[i]? = some x ∧ M[i]? = some y) := ⟨_, _, hx, hy⟩
        have hcx := hc i _ hx
        have hcy := hc2 i _ hy
        have hox := HO.out.1 _ (List.getElem_mem hlt)
        have hoy := HO.out.2 _ (List.getElem_mem hltM)
        have HX : Hid (∀ x y, L[i] = x → M[i] = y → L.take (i + 1) = L.take i ++ [x] ∧ M.take (i + 1) = M.take i ++ [y]) := fun x y e1 e2 => by
          subst e1; subst e2
          exact ⟨(List.take_append_getElem hlt).symm, (List.take_append_getElem hltM).symm⟩
        obtain ⟨x, ex⟩ : ∃ x, L[i] = x := ⟨_, rfl⟩
        obtain ⟨y, ey⟩ : ∃ y, M[i] = y := ⟨_, rfl⟩
        have HT := HX.out x y ex ey
        rw [ex] at hcx hox hx
        rw [ey] at hcy hoy hy
        clear hc hc2 HX ex ey
        have HTT : Hid (L.take (i + 1) = L.take i ++ [x] ∧ M.take (i + 1) = M.take i ++ [y]) := HT
        have HBD : Hid (Below w.heap.size w wr.drew) := HB.out.drew
        clear HT HS
        obtain ⟨x0, x1, x2⟩ := hcx
        obtain ⟨y0, y1, y2⟩ := hcy
        have HOK : Hid (x.Ok ∧ y.Ok) := ⟨hox, hoy⟩
        by_cases heq : x = y
        · have HC : Hid (decide (x.id = y.id ∧ x.due = y.due ∧ x.nm = y.nm) = !false) := by rw [heq]; simp [Hid]
          have hN : L.take (i + 1) = M.take (i + 1) := by rw [HTT.out.1, HTT.out.2, HE.out, heq]
          have HN : Hid (L.take (i + 1) = M.take (i + 1)) := hN
          clear heq hox hoy hx hy hN
          go_upto_region 6 with fail
          refine wp_region_noPanic ?_
          refine wp_region_held_drew (S := fun w' => (w'.cell? ⟨b, off + i * 3, none⟩ = some (.int .i64 x.id) ∧ w'.cell? ⟨b, off + i * 3 + 1, none⟩ = some (.int .i64 x.due) ∧ w'.cell? ⟨b, off + i * 3 + 2, none⟩ = some (encStr x.nm)) ∧ (w'.cell? ⟨b2, off2 + i * 3, none⟩ = some (.int .i64 y.id) ∧ w'.cell? ⟨b2, off2 + i * 3 + 1, none⟩ = some (.int .i64 y.due) ∧ w'.cell? ⟨b2, off2 + i * 3 + 2, none⟩ = some (encStr y.nm))) (by kernel_rfl) ⟨⟨x0, x1, x2⟩, y0, y1, y2⟩ (fun hHeld => ?_)
          refine wpAnyH_take (i := 0) (oi := { dst := some 17, op := Go.Op.move (Go.Operand.tmp 0), type := 34, pos := "law.go:43", after := #[], guard := none }) (v := ?_) rfl (by kernel_rfl) (by kernel_rfl) (by kernel_rfl) (fun _ _ _ h => h) (Or.inl ⟨by rfl, ?_⟩) (by assumption) ?_
          rotate_left
          · intro wz hSw; (try dsimp only at hSw); go_simp; (try with_reducible rfl)
          try simp only [Act.put, List.setIfInBounds_toArray, List.set_cons_zero, List.set_cons_succ]
          refine wpAnyH_take (i := 1) (oi := { dst := some 18, op := Go.Op.move (Go.Operand.tmp 5), type := 3, pos := "law.go:43", after := #[], guard := none }) (v := ?_) rfl (by kernel_rfl) (by kernel_rfl) (by kernel_rfl) (fun _ _ _ h => h) (Or.inl ⟨by rfl, ?_⟩) (by assumption) ?_
          rotate_left
          · intro wz hSw; (try dsimp only at hSw); go_simp; (try with_reducible rfl)
          try simp only [Act.put, List.setIfInBounds_toArray, List.set_cons_zero, List.set_cons_succ]
          refine wpAnyH_take (i := 2) (oi := { dst := some 19, op := Go.Op.indexAddr 34 (Go.Operand.tmp 17) (Go.Operand.tmp 18), type := 0, pos := "law.go:43", after := #[{ on := 0, ground := Go.Ground.data }, { on := 1, ground := Go.Ground.data }], guard := none }) (v := ?_) rfl (by kernel_rfl) (by kernel_rfl) (by kernel_rfl) (fun _ _ _ h => h) (Or.inl ⟨by rfl, ?_⟩) (by assumption) ?_
          rotate_left
          · intro wz hSw; (try dsimp only at hSw); go_simp; (try with_reducible rfl)
          try simp only [Act.put, List.setIfInBounds_toArray, List.set_cons_zero, List.set_cons_succ]
          refine wpAnyH_take (i := 3) (oi := { dst := some 20, op := Go.Op.load 58 (Go.Operand.tmp 19), type := 58, pos := "law.go:43", after := #[{ on := 2, ground := Go.Ground.data }], guard := none }) (v := .agg #[.int .i64 x.id, .int .i64 x.due, encStr x.nm]) rfl (by kernel_rfl) (by kernel_rfl) (by kernel_rfl) (fun _ _ _ h => h) (Or.inl ⟨by rfl, ?_⟩) (by assumption) ?_
          · intro wz hSw; (try dsimp only at hSw); have h1 := hSw.1.1; have h2 := hSw.1.2.1; have h3 := hSw.1.2.2; go_simp; try rfl
          try simp only [Act.put, List.setIfInBounds_toArray, List.set_cons_zero, List.set_cons_succ]
          refine wpAnyH_take (i := 4) (oi := { dst := some 21, op := Go.Op.move (Go.Operand.tmp 1), type := 37, pos := "law.go:43", after := #[], guard := none }) (v := ?_) rfl (by kernel_rfl) (by kernel_rfl) (by kernel_rfl) (fun _ _ _ h => h) (Or.inl ⟨by rfl, ?_⟩) (by assumption) ?_
          rotate_left
          · intro wz hSw; (try dsimp only at hSw); go_simp; (try with_reducible rfl)
          try simp only [Act.put, List.setIfInBounds_toArray, List.set_cons_zero, List.set_cons_succ]
          refine wpAnyH_take (i := 5) (oi := { dst := some 22, op := Go.Op.move (Go.Operand.tmp 5), type := 3, pos := "law.go:43", after := #[], guard := none }) (v := ?_) rfl (by kernel_rfl) (by kernel_rfl) (by kernel_rfl) (fun _ _ _ h => h) (Or.inl ⟨by rfl, ?_⟩) (by assumption) ?_
          rotate_left
          · intro wz hSw; (try dsimp only at hSw); go_simp; (try with_reducible rfl)
          try simp only [Act.put, List.setIfInBounds_toArray, List.set_cons_zero, List.set_cons_succ]
          refine wpAnyH_take (i := 6) (oi := { dst := some 23, op := Go.Op.indexAddr 37 (Go.Operand.tmp 21) (Go.Operand.tmp 22), type := 0, pos := "law.go:43", after := #[{ on := 4, ground := Go.Ground.data }, { on := 5, ground := Go.Ground.data }], guard := none }) (v := ?_) rfl (by kernel_rfl) (by kernel_rfl) (by kernel_rfl) (fun _ _ _ h => h) (Or.inl ⟨by rfl, ?_⟩) (by assumption) ?_
          rotate_left
          · intro wz hSw; (try dsimp only at hSw); go_simp; (try with_reducible rfl)
          try simp only [Act.put, List.setIfInBounds_toArray, List.set_cons_zero, List.set_cons_succ]
          refine wpAnyH_take (i := 7) (oi := { dst := some 24, op := Go.Op.load 51 (Go.Operand.tmp 23), type := 51, pos := "law.go:43", after := #[{ on := 6, ground := Go.Ground.data }], guard := none }) (v := .agg #[.int .i64 y.id, .int .i64 y.due, encStr y.nm]) rfl (by kernel_rfl) (by kernel_rfl) (by kernel_rfl) (fun _ _ _ h => h) (Or.inl ⟨by rfl, ?_⟩) (by assumption) ?_
          · intro wz hSw; (try dsimp only at hSw); have h1 := hSw.2.1; have h2 := hSw.2.2.1; have h3 := hSw.2.2.2; go_simp; try rfl
          try simp only [Act.put, List.setIfInBounds_toArray, List.set_cons_zero, List.set_cons_succ]
          refine wpAnyH_take (i := 8) (oi := { dst := some 25, op := Go.Op.binOp Go.BinOp.neq 58 (Go.Operand.tmp 20) (Go.Operand.tmp 24) 58, type := 4, pos := "law.go:43", after := #[{ on := 3, ground := Go.Ground.data }, { on := 7, ground := Go.Ground.data }], guard := none }) (v := .bool false) rfl (by kernel_rfl) (by kernel_rfl) (by kernel_rfl) (fun _ _ _ h => h) (Or.inl ⟨by rfl, ?_⟩) (by assumption) ?_
          · intro wz hSw; (try dsimp only at hSw); exact exec_neE _ _ rfl HOK.out.1 HOK.out.2 (by rfl) (by rfl) HC.out wz
          try simp only [Act.put, List.setIfInBounds_toArray, List.set_cons_zero, List.set_cons_succ]
          refine wpAnyH_done (by kernel_rfl) (NoPanic.normal ?_) _
          try simp only [Act.put, List.setIfInBounds_toArray, List.set_cons_zero, List.set_cons_succ]
          clear hHeld x0 x1 x2 y0 y1 y2
          go_wp2
          exact ⟨⟨i + 1, by omega, by go_num, HBD.out, HN.out⟩, by simp [intOf]; omega⟩
        · have hC : decide (x.id = y.id ∧ x.due = y.due ∧ x.nm = y.nm) = !true := by
            rw [Bool.not_true, decide_eq_false_iff_not]
            exact fun h => heq (ev_ext h)
          have HC : Hid (decide (x.id = y.id ∧ x.due = y.due ∧ x.nm = y.nm) = !true) := hC
          have HN : Hid (L ≠ M) := fun e => by
            rw [e, hy] at hx
            exact heq (Option.some.inj hx).symm
          clear heq hox hoy hx hy hC
          go_upto_region 6 with fail
          refine wp_region_noPanic ?_
          refine wp_region_held_drew (S := fun w' => (w'.cell? ⟨b, off + i * 3, none⟩ = some (.int .i64 x.id) ∧ w'.cell? ⟨b, off + i * 3 + 1, none⟩ = some (.int .i64 x.due) ∧ w'.cell? ⟨b, off + i * 3 + 2, none⟩ = some (encStr x.nm)) ∧ (w'.cell? ⟨b2, off2 + i * 3, none⟩ = some (.int .i64 y.id) ∧ w'.cell? ⟨b2, off2 + i * 3 + 1, none⟩ = some (.int .i64 y.due) ∧ w'.cell? ⟨b2, off2 + i * 3 + 2, none⟩ = some (encStr y.nm))) (by kernel_rfl) ⟨⟨x0, x1, x2⟩, y0, y1, y2⟩ (fun hHeld => ?_)
          refine wpAnyH_take (i := 0) (oi := { dst := some 17, op := Go.Op.move (Go.Operand.tmp 0), type := 34, pos := "law.go:43", after := #[], guard := none }) (v := ?_) rfl (by kernel_rfl) (by kernel_rfl) (by kernel_rfl) (fun _ _ _ h => h) (Or.inl ⟨by rfl, ?_⟩) (by assumption) ?_
          rotate_left
          · intro wz hSw; (try dsimp only at hSw); go_simp; (try with_reducible rfl)
          try simp only [Act.put, List.setIfInBounds_toArray, List.set_cons_zero, List.set_cons_succ]
          refine wpAnyH_take (i := 1) (oi := { dst := some 18, op := Go.Op.move (Go.Operand.tmp 5), type := 3, pos := "law.go:43", after := #[], guard := none }) (v := ?_) rfl (by kernel_rfl) (by kernel_rfl) (by kernel_rfl) (fun _ _ _ h => h) (Or.inl ⟨by rfl, ?_⟩) (by assumption) ?_
          rotate_left
          · intro wz hSw; (try dsimp only at hSw); go_simp; (try with_reducible rfl)
          try simp only [Act.put, List.setIfInBounds_toArray, List.set_cons_zero, List.set_cons_succ]
          refine wpAnyH_take (i := 2) (oi := { dst := some 19, op := Go.Op.indexAddr 34 (Go.Operand.tmp 17) (Go.Operand.tmp 18), type := 0, pos := "law.go:43", after := #[{ on := 0, ground := Go.Ground.data }, { on := 1, ground := Go.Ground.data }], guard := none }) (v := ?_) rfl (by kernel_rfl) (by kernel_rfl) (by kernel_rfl) (fun _ _ _ h => h) (Or.inl ⟨by rfl, ?_⟩) (by assumption) ?_
          rotate_left
          · intro wz hSw; (try dsimp only at hSw); go_simp; (try with_reducible rfl)
          try simp only [Act.put, List.setIfInBounds_toArray, List.set_cons_zero, List.set_cons_succ]
          refine wpAnyH_take (i := 3) (oi := { dst := some 20, op := Go.Op.load 58 (Go.Operand.tmp 19), type := 58, pos := "law.go:43", after := #[{ on := 2, ground := Go.Ground.data }], guard := none }) (v := .agg #[.int .i64 x.id, .int .i64 x.due, encStr x.nm]) rfl (by kernel_rfl) (by kernel_rfl) (by kernel_rfl) (fun _ _ _ h => h) (Or.inl ⟨by rfl, ?_⟩) (by assumption) ?_
          · intro wz hSw; (try dsimp only at hSw); have h1 := hSw.1.1; have h2 := hSw.1.2.1; have h3 := hSw.1.2.2; go_simp; try rfl
          try simp only [Act.put, List.setIfInBounds_toArray, List.set_cons_zero, List.set_cons_succ]
          refine wpAnyH_take (i := 4) (oi := { dst := some 21, op := Go.Op.move (Go.Operand.tmp 1), type := 37, pos := "law.go:43", after := #[], guard := none }) (v := ?_) rfl (by kernel_rfl) (by kernel_rfl) (by kernel_rfl) (fun _ _ _ h => h) (Or.inl ⟨by rfl, ?_⟩) (by assumption) ?_
          rotate_left
          · intro wz hSw; (try dsimp only at hSw); go_simp; (try with_reducible rfl)
          try simp only [Act.put, List.setIfInBounds_toArray, List.set_cons_zero, List.set_cons_succ]
          refine wpAnyH_take (i := 5) (oi := { dst := some 22, op := Go.Op.move (Go.Operand.tmp 5), type := 3, pos := "law.go:43", after := #[], guard := none }) (v := ?_) rfl (by kernel_rfl) (by kernel_rfl) (by kernel_rfl) (fun _ _ _ h => h) (Or.inl ⟨by rfl, ?_⟩) (by assumption) ?_
          rotate_left
          · intro wz hSw; (try dsimp only at hSw); go_simp; (try with_reducible rfl)
          try simp only [Act.put, List.setIfInBounds_toArray, List.set_cons_zero, List.set_cons_succ]
          refine wpAnyH_take (i := 6) (oi := { dst := some 23, op := Go.Op.indexAddr 37 (Go.Operand.tmp 21) (Go.Operand.tmp 22), type := 0, pos := "law.go:43", after := #[{ on := 4, ground := Go.Ground.data }, { on := 5, ground := Go.Ground.data }], guard := none }) (v := ?_) rfl (by kernel_rfl) (by kernel_rfl) (by kernel_rfl) (fun _ _ _ h => h) (Or.inl ⟨by rfl, ?_⟩) (by assumption) ?_
          rotate_left
          · intro wz hSw; (try dsimp only at hSw); go_simp; (try with_reducible rfl)
          try simp only [Act.put, List.setIfInBounds_toArray, List.set_cons_zero, List.set_cons_succ]
          refine wpAnyH_take (i := 7) (oi := { dst := some 24, op := Go.Op.load 51 (Go.Operand.tmp 23), type := 51, pos := "law.go:43", after := #[{ on := 6, ground := Go.Ground.data }], guard := none }) (v := .agg #[.int .i64 y.id, .int .i64 y.due, encStr y.nm]) rfl (by kernel_rfl) (by kernel_rfl) (by kernel_rfl) (fun _ _ _ h => h) (Or.inl ⟨by rfl, ?_⟩) (by assumption) ?_
          · intro wz hSw; (try dsimp only at hSw); have h1 := hSw.2.1; have h2 := hSw.2.2.1; have h3 := hSw.2.2.2; go_simp; try rfl
          try simp only [Act.put, List.setIfInBounds_toArray, List.set_cons_zero, List.set_cons_succ]
          refine wpAnyH_take (i := 8) (oi := { dst := some 25, op := Go.Op.binOp Go.BinOp.neq 58 (Go.Operand.tmp 20) (Go.Operand.tmp 24) 58, type := 4, pos := "law.go:43", after := #[{ on := 3, ground := Go.Ground.data }, { on := 7, ground := Go.Ground.data }], guard := none }) (v := .bool true) rfl (by kernel_rfl) (by kernel_rfl) (by kernel_rfl) (fun _ _ _ h => h) (Or.inl ⟨by rfl, ?_⟩) (by assumption) ?_
          · intro wz hSw; (try dsimp only at hSw); exact exec_neE _ _ rfl HOK.out.1 HOK.out.2 (by rfl) (by rfl) HC.out wz
          try simp only [Act.put, List.setIfInBounds_toArray, List.set_cons_zero, List.set_cons_succ]
          refine wpAnyH_done (by kernel_rfl) (NoPanic.normal ?_) _
          try simp only [Act.put, List.setIfInBounds_toArray, List.set_cons_zero, List.set_cons_succ]
          clear hHeld x0 x1 x2 y0 y1 y2
          go_wp2
          go_ret
          exact ⟨⟨_, rfl, ⟨(fun e => by cases e), fun e => absurd e HN.out⟩, HBD.out⟩⟩
      · obtain rfl : i = L.length := by omega
        have hlt' : ¬ ((L.length : Int) < L.length) := by omega
        have HN : Hid (L = M) := by
          have h1 := HE.out
          have h2 := HLEN.out
          rw [List.take_length, h2, List.take_length] at h1
          exact h1
        go_wp2
        go_ret
        exact ⟨⟨_, rfl, ⟨fun _ => HN.out, fun _ => rfl⟩, HB.out⟩⟩
  · have hne : ((L.length : Int) == M.length) = false := by simpa using (by omega : (L.length : Int) ≠ M.length)
    have HNE : Hid (L ≠ M) := fun e => hlen (by rw [e])
    clear hlen
    go_enter Tryd.func16, Tryd.ntmps16
    go_wp2
    go_ret
    exact ⟨⟨_, rfl, ⟨(fun e => by cases e), fun e => absurd e HNE.out⟩, Below.refl _ _⟩⟩
end Go.Proofs.YthnobkiiaflelaaDoor
