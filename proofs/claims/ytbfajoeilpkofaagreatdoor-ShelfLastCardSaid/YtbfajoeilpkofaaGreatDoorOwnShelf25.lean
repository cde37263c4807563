/- shelf.leafPages: the leaves of the keys that get a value. -/
import Derived.Test.YtbfajoeilpkofaaGreatDoorOwnShelf24
import Derived.Test.YtbfajoeilpkofaaGreatDoorOwnShelf22
import Derived.Deep.CutBlock
import Derived.Deep.DeepCutAuto
namespace Go.Proofs.YtbfajoeilpkofaaGreatDoor
open Go.RowKit Go.Maps Go.Sort

attribute [local go_sem ↓] Go.wp_at_zero Go.wp_at_succ

/-- The leaves of some changes, one behind the other; nothing if one is too long. -/
def layL : List Cg → Option (List (List Int))
  | [] => some []
  | c :: r => if c.g then layL r else if 4096 < (leafB c.k c.v).length then none else (layL r).map fun l => leafB c.k c.v :: l
theorem layL_append (a b : List Cg) : layL (a ++ b) = (layL a).bind fun x => (layL b).map fun y => x ++ y := by
  induction a with
  | nil => simp [layL]
  | cons c r ih =>
    simp only [List.cons_append, layL]
    split
    · exact ih
    · split
      · rfl
      · rw [ih]
        cases layL r <;> cases layL b <;> simp
/-- Rows of bytes of one's own: a slice of slices; all made since w0. -/
structure BsRow (w0 w : World) (v : Value) (X : List Bs) : Prop where
  own : w.ownsRow w0.heap.size 29 1 v X.length (X.map Bs.v)
  below : Below w0.heap.size w0 w
  at_ : ∀ x ∈ X, BsAt w x ∧ x.In (fun k => w0.heap.size ≤ k ∧ k < w.heap.size ∧ some k ≠ v.ownBlock)
theorem BsRow.nil (w : World) : BsRow w w (.slice none 0 0) [] := ⟨World.ownsRow_nil _ _ _ _, Below.refl _ _, fun x h => by cases h⟩
theorem BsRow.keep {w0 w w' : World} {v : Value} {X : List Bs} (h : BsRow w0 w v X) (hb : Below w.heap.size w w') : BsRow w0 w' v X := by
  have hs := hb.size
  refine ⟨owns_row_keep h.own fun k e => hb.block k (h.own.lt k e).2, Below.transS h.below hb, fun x hx => ?_⟩
  obtain ⟨h1, h2⟩ := h.at_ x hx
  exact ⟨h1.keep h2 fun k hk => hb.block k hk.2.1, fun a e => by have := h2 a e; exact ⟨this.1, by omega, this.2.2⟩⟩
theorem infoBB : (Tryz.prog.info? 29).map (fun i => (i.zero, i.size, i.bytes)) = some (some (.slice none 0 0), 1, 24) := by kernel_rfl
theorem BsRow.append {w0 w : World} {v : Value} {X : List Bs} {r : Nat} {y : Bs} (h : BsRow w0 w v X) (hr : w.heap[r]? = some (.cells #[y.v] 29 (0, 0))) (hy : BsAt w y) (hyb : y.In (fun k => w0.heap.size ≤ k ∧ k < w.heap.size ∧ some k ≠ v.ownBlock)) (hn : X.length ≤ 100000) (ty : TypeId) :
    ∃ v' w1, (Builtin.append_ #[22, 22] ty #[v, .slice (some ⟨r, 0, none⟩) 1 1]).run Tryz.prog w = .ok v' w1 ∧ BsRow w0 w1 v' (X ++ [y]) := by
  obtain ⟨i0, hi0, hz0, hz1, hz2⟩ := info_parts infoBB
  obtain ⟨v', w1, h1, h2, h3, _, h5⟩ := run_append_own_at (P := Tryz.prog) w w0.heap.size 22 ty 29 i0 (.slice none 0 0) 1 24 Tryz.underlying22 hi0 hz0 hz1 hz2 rfl (by decide) v X.length (X.map Bs.v) h.own ⟨r, 0, none⟩ 1 1 [y.v] (by simp)
    (fun j u hj => by
      rw [Addr.add_lit, Nat.zero_add, cell_of_row _ _ j _ _ _ hr]
      simpa using hj)
    (by simp [Bs.v_one]) (by unfold maxLen; omega) (by omega) h.below.size
  have hsz := h3.size
  have key : ∀ x : Bs, BsAt w x → x.In (fun k => w0.heap.size ≤ k ∧ k < w.heap.size ∧ some k ≠ v.ownBlock) → BsAt w1 x ∧ x.In (fun k => w0.heap.size ≤ k ∧ k < w1.heap.size ∧ some k ≠ v'.ownBlock) := fun x hx hi => by
    refine ⟨hx.keep hi fun k hk => h3.block k hk.2.1 hk.2.2, fun a e => ?_⟩
    have := hi a e
    refine ⟨this.1, by omega, ?_⟩
    rcases h5 with h5 | h5
    · rw [h5]; exact this.2.2
    · rw [h5]; simp; omega
  refine ⟨v', w1, h1, by simpa using h2, h.below.grown h3 h.below.size (fun k e => (h.own.lt k e).1), fun x hx => ?_⟩
  rcases List.mem_append.1 hx with hx | hx
  · exact key x (h.at_ x hx).1 (h.at_ x hx).2
  · rw [List.mem_singleton.1 hx]; exact key y hy hyb
theorem wpList_append_BB {ops : Array Oper} {rest : List Oper} {o : Oper} {a : Act} {w : World} {Q : Exit → Act → World → Prop} (hgd : o.guard = none) (s x : Operand) (ho : o.op = .call { callee := .builtin .append, args := #[s, x], argTypes := #[22, 22] })
    (w0 : World) (v : Value) (X : List Bs) (r : Nat) (y : Bs) (hs : a.eval s = v) (hx : a.eval x = .slice (some ⟨r, 0, none⟩) 1 1) (h : BsRow w0 w v X) (hr : w.heap[r]? = some (.cells #[y.v] 29 (0, 0))) (hy : BsAt w y) (hyb : y.In (fun k => w0.heap.size ≤ k ∧ k < w.heap.size ∧ some k ≠ v.ownBlock)) (hn : X.length ≤ 100000)
    (hk : ∀ v' w1, BsRow w0 w1 v' (X ++ [y]) → wpList Tryz.prog ops Q rest (a.put o.dst v') w1) : wpList Tryz.prog ops Q (o :: rest) a w := by
  obtain ⟨v', w1, hrun, h2⟩ := h.append hr hy hyb hn o.type
  refine wpList_plain hgd fun K hK => ?_
  unfold Oper.wp execOp
  simp only [ho, resolve, invoke, builtin, Sem.run_bind, Sem.run_pure, Result.andThen_ok, List.map_toArray, List.map_cons, List.map_nil, hs, hx, hrun]
  exact hK _ _ (hk v' w1 h2)
/-- What leafPages tells. -/
def LyR (w : World) (C : List Cg) (e : Ending) (w' : World) : Prop := (layL C = none ∧ e = .returned (.tuple #[.slice none 0 0, errV 2]) ∧ Below w.heap.size w w') ∨ ∃ v X, layL C = some (X.map Bs.l) ∧ e = .returned (.tuple #[v, .nilIface]) ∧ BsRow w w' v X
theorem layL_take {C : List Cg} {i : Nat} {x : Cg} (hx : C[i]? = some x) {ls : List (List Int)} (h : layL (C.take i) = some ls) :
    (x.g = true → layL (C.take (i + 1)) = some ls) ∧ (x.g = false → 4096 < (leafB x.k x.v).length → layL C = none) ∧ (x.g = false → ¬ 4096 < (leafB x.k x.v).length → layL (C.take (i + 1)) = some (ls ++ [leafB x.k x.v])) := by
  have hi : i < C.length := (List.getElem?_eq_some_iff.1 hx).1
  have e : C.take (i + 1) = C.take i ++ [x] := by rw [List.take_add_one, hx]; rfl
  refine ⟨fun hg => ?_, fun hg hl => ?_, fun hg hl => ?_⟩
  · rw [e, layL_append, h]; simp [layL, hg]
  · have e2 : C = C.take i ++ ([x] ++ C.drop (i + 1)) := by
      rw [← List.append_assoc, ← e, List.take_append_drop]
    rw [e2, layL_append, h]
    simp [layL, hg, hl]
  · rw [e, layL_append, h]; simp [layL, hg, hl]
set_option maxRecDepth 100000 in
set_option maxHeartbeats 3200000 in
theorem leafPages_any (ad : Option Addr) (cap : Nat) (C : List Cg) (w : World) (hc : CgAt w ad C) (hok : COk C) :
    Calls Tryz.prog 45 #[.slice ad C.length cap] w (LyR w C) := by
  have HC : Hid (CgAt w ad C) := hc
  have HO : Hid (COk C) := hok
  have hl0 := hok.1
  clear hc hok
  go_enter Tryz.func45, Tryz.ntmps45
  go_wp2
  go_loopw [4, 10] (fun v iv wr => ∃ (i : Nat) (X : List Bs), i ≤ C.length ∧ iv = .int .i64 i ∧ layL (C.take i) = some (X.map Bs.l) ∧ X.length ≤ i ∧ BsRow w wr v X) (fun _ iv _ => C.length - (intOf iv).toNat)
  case atStart => exact ⟨0, [], Nat.zero_le _, rfl, rfl, Nat.le_refl _, BsRow.nil w⟩
  case round =>
    obtain ⟨i, X, hi, rfl, hly, hXi, hX⟩ := hrel
    have HX : Hid (BsRow w wr u4 X) := hX
    clear hX
    by_cases hlt : i < C.length
    · have hlt' : (i : Int) < C.length := by omega
      have hx : C[i]? = some C[i] := List.getElem?_eq_getElem hlt
      have hxm : C[i] ∈ C := List.getElem_mem hlt
      have hlt3 := layL_take hx hly
      obtain ⟨b, off, rfl, hcz⟩ := HC.out (by omega)
      have hcx := hcz i _ hx
      have hx6 := HO.out.2 _ hxm
      generalize C[i] = x at *
      have hb : b < w.heap.size := World.block_lt_of_cell? w _ hcx.1
      have d0 : wr.cell? ⟨b, off + i * 3, none⟩ = some (encStr x.k) := (HX.out.below.cell (p := ⟨b, off + i * 3, none⟩) hb).trans hcx.1
      have d1 : wr.cell? ⟨b, off + i * 3 + 1, none⟩ = some (encStr x.v) := (HX.out.below.cell (p := ⟨b, off + i * 3 + 1, none⟩) hb).trans hcx.2.1
      have d2 : wr.cell? ⟨b, off + i * 3 + 2, none⟩ = some (.bool x.g) := (HX.out.below.cell (p := ⟨b, off + i * 3 + 2, none⟩) hb).trans hcx.2.2
      have HX1 : Hid (BsRow w (wr.alloc (.cells #[encStr x.k, encStr x.v, .bool x.g] 70)) u4 X) := HX.out.keep ((Below.refl _ wr).alloc (Nat.le_refl _) _)
      have HT : Hid ((x.g = true → layL (C.take (i + 1)) = some (X.map Bs.l)) ∧ (x.g = false → 4096 < (leafB x.k x.v).length → layL C = none) ∧ (x.g = false → ¬ 4096 < (leafB x.k x.v).length → layL (C.take (i + 1)) = some (X.map Bs.l ++ [leafB x.k x.v]))) := hlt3
      have HS0 : Hid (∀ w', Below (wr.alloc (.cells #[encStr x.k, encStr x.v, .bool x.g] 70)).heap.size (wr.alloc (.cells #[encStr x.k, encStr x.v, .bool x.g] 70)) w' → w'.cell? ⟨wr.heap.size, 0, none⟩ = some (encStr x.k) ∧ w'.cell? ⟨wr.heap.size, 1, none⟩ = some (encStr x.v)) := fun w' hb => by
        have hn := heap_alloc_new wr (.cells #[encStr x.k, encStr x.v, .bool x.g] 70)
        have hn' : w'.heap[wr.heap.size]? = some (.cells #[encStr x.k, encStr x.v, .bool x.g] 70 (0, 0)) := by rw [hb.block _ (by simp)]; exact hn
        exact ⟨by rw [cell_of_row _ _ 0 _ _ _ hn']; rfl, by rw [cell_of_row _ _ 1 _ _ _ hn']; rfl⟩
      clear hcz hcx hx hxm hlt3 hly HX
      cases hg : x.g with
      | true =>
        have HL : Hid (layL (C.take (i + 1)) = some (X.map Bs.l)) := HT.out.1 hg
        rw [hg] at HX1 HS0 d2
        clear HT hg
        generalize x.k = ck at *
        generalize x.v = cv at *
        go_wp2
        refine ⟨⟨i + 1, X, by omega, by go_num, HL.out, by omega, HX1.out⟩, by simp [intOf]; omega⟩
      | false =>
        rw [hg] at HX1 HS0 d2
        have HL1 : Hid (4096 < (leafB x.k x.v).length → layL C = none) := HT.out.2.1 hg
        have HL2 : Hid (¬ 4096 < (leafB x.k x.v).length → layL (C.take (i + 1)) = some (X.map Bs.l ++ [leafB x.k x.v])) := HT.out.2.2 hg
        have hk6 : x.k.length ≤ 1000000 := by omega
        have hv6 : x.v.length ≤ 1000000 := by omega
        clear HT hg hx6
        generalize x.k = ck at *
        generalize x.v = cv at *
        go_upto_region 6 with fail
        clear d0 d1 d2
        generalize wr.alloc (.cells #[encStr ck, encStr cv, .bool false] 70) = w1 at *
        go_cut [7] (fun a wc => ∃ (ad7 : Option Addr) (cap7 : Nat), a = .slice ad7 (leafB ck cv).length cap7 ∧ OwnB w1.drew wc ad7 cap7 (leafB ck cv))
        case first =>
          have HS : Hid (∀ w', Below w1.drew.heap.size w1.drew w' → w'.cell? ⟨wr.heap.size, 0, none⟩ = some (encStr ck) ∧ w'.cell? ⟨wr.heap.size, 1, none⟩ = some (encStr cv)) := fun w' hb => HS0.out w' (Below.transS (Below.refl _ _).drew hb)
          refine wp_region_noPanic ?_
          refine wp_region_held_drew (S := fun w' => w'.cell? ⟨wr.heap.size, 0, none⟩ = some (encStr ck) ∧ w'.cell? ⟨wr.heap.size, 1, none⟩ = some (encStr cv)) (by kernel_rfl) (HS.out _ (Below.refl _ _)) (fun hHeld => ?_)
          clear HS0 HX1 HL1 HL2
          generalize w1.drew = u0 at *
          refine wpAnyH_take (i := 1) (oi := { dst := some 17, op := Go.Op.fieldAddr 70 (Go.Operand.tmp 6) 0, type := 0, pos := "shelf.go:188", after := #[], guard := none }) (v := ?_) rfl (by kernel_rfl) (by kernel_rfl) (by kernel_rfl) (fun _ _ _ h => h) (Or.inl ⟨by rfl, ?_⟩) (by assumption) ?_
          rotate_left
          · intro wz hSw; (try dsimp only at hSw); go_simp; (try with_reducible rfl)
          try simp only [Act.put, List.setIfInBounds_toArray, List.set_cons_zero, List.set_cons_succ]
          refine wpAnyH_take (i := 2) (oi := { dst := some 18, op := Go.Op.load 9 (Go.Operand.tmp 17), type := 9, pos := "shelf.go:188", after := #[{ on := 1, ground := Go.Ground.data }], guard := none }) (v := encStr ck) rfl (by kernel_rfl) (by kernel_rfl) (by kernel_rfl) (fun _ _ _ h => h) (Or.inl ⟨by rfl, ?_⟩) (by assumption) ?_
          · intro wz hSw; (try dsimp only at hSw); have h1 := hSw.1; go_simp; try rfl
          try simp only [Act.put, List.setIfInBounds_toArray, List.set_cons_zero, List.set_cons_succ]
          refine wpAnyH_take (i := 5) (oi := { dst := some 21, op := Go.Op.fieldAddr 70 (Go.Operand.tmp 6) 1, type := 0, pos := "shelf.go:188", after := #[], guard := none }) (v := ?_) rfl (by kernel_rfl) (by kernel_rfl) (by kernel_rfl) (fun _ _ _ h => h) (Or.inl ⟨by rfl, ?_⟩) (by assumption) ?_
          rotate_left
          · intro wz hSw; (try dsimp only at hSw); go_simp; (try with_reducible rfl)
          try simp only [Act.put, List.setIfInBounds_toArray, List.set_cons_zero, List.set_cons_succ]
          refine wpAnyH_take (i := 6) (oi := { dst := some 22, op := Go.Op.load 9 (Go.Operand.tmp 21), type := 9, pos := "shelf.go:188", after := #[{ on := 5, ground := Go.Ground.data }], guard := none }) (v := encStr cv) rfl (by kernel_rfl) (by kernel_rfl) (by kernel_rfl) (fun _ _ _ h => h) (Or.inl ⟨by rfl, ?_⟩) (by assumption) ?_
          · intro wz hSw; (try dsimp only at hSw); have h1 := hSw.2; go_simp; try rfl
          try simp only [Act.put, List.setIfInBounds_toArray, List.set_cons_zero, List.set_cons_succ]
          have h0 := LK.start u0 ck cv
          refine wpAnyH_ready (rs := [0, 3, 7]) (by kernel_rfl) (by simp) ?_
          refine (AllReadyH.cons (o := { dst := some 16, op := Go.Op.call { callee := Go.Callee.value (Go.Operand.func 77), args := #[], argTypes := #[] }, type := 151, pos := "shelf.go:188", after := #[], guard := none }) rfl (fun K hK => ?_) (AllReadyH.cons (o := { dst := some 19, op := Go.Op.convert 9 29 (Go.Operand.tmp 18), type := 29, pos := "shelf.go:188", after := #[{ on := 2, ground := Go.Ground.data }], guard := none }) rfl (fun K hK => ?_) (AllReadyH.cons (o := { dst := some 23, op := Go.Op.convert 9 29 (Go.Operand.tmp 22), type := 29, pos := "shelf.go:188", after := #[{ on := 6, ground := Go.Ground.data }], guard := none }) rfl (fun K hK => ?_) AllReadyH.nil)))
          ·
            go_simp
            refine h0.new.mono ?_
            rintro e u1 ⟨pw, rfl, h1⟩
            refine hK.out _ _ (HS.out u1 h1.below) (fun _ => ?_)
            clear hK K
            try simp only [Act.put, List.setIfInBounds_toArray, List.set_cons_zero, List.set_cons_succ]
            refine wpAnyH_ready (rs := [3, 7]) (by kernel_rfl) (by simp) ?_
            refine (AllReadyH.cons (o := { dst := some 19, op := Go.Op.convert 9 29 (Go.Operand.tmp 18), type := 29, pos := "shelf.go:188", after := #[{ on := 2, ground := Go.Ground.data }], guard := none }) rfl (fun K hK => ?_) (AllReadyH.cons (o := { dst := some 23, op := Go.Op.convert 9 29 (Go.Operand.tmp 22), type := 29, pos := "shelf.go:188", after := #[{ on := 6, ground := Go.Ground.data }], guard := none }) rfl (fun K hK => ?_) AllReadyH.nil))
            ·
              refine step_conv rfl _ rfl ck rfl ?_
              intro c1 cap1 u2 hc1
              have h2 := h1.conv1 hc1
              clear hc1
              refine hK.out _ _ (HS.out u2 h2.below) (fun _ => ?_)
              clear hK K
              try simp only [Act.put, List.setIfInBounds_toArray, List.set_cons_zero, List.set_cons_succ]
              refine wpAnyH_ready (rs := [4, 7]) (by kernel_rfl) (by simp) ?_
              refine (AllReadyH.cons (o := { dst := some 20, op := Go.Op.call { callee := Go.Callee.value (Go.Operand.func 78), args := #[Go.Operand.tmp 16, Go.Operand.tmp 19], argTypes := #[151, 29] }, type := 151, pos := "shelf.go:188", after := #[{ on := 0, ground := Go.Ground.data }, { on := 3, ground := Go.Ground.data }, { on := 0, ground := Go.Ground.chain }], guard := none }) rfl (fun K hK => ?_) (AllReadyH.cons (o := { dst := some 23, op := Go.Op.convert 9 29 (Go.Operand.tmp 22), type := 29, pos := "shelf.go:188", after := #[{ on := 6, ground := Go.Ground.data }], guard := none }) rfl (fun K hK => ?_) AllReadyH.nil))
              ·
                go_simp
                refine (h2.by1 hk6 (by simp)).mono ?_
                rintro e u3 ⟨rfl, g1, h3⟩
                refine hK.out _ _ (HS.out u3 h3.below) (fun _ => ?_)
                clear hK K
                try simp only [Act.put, List.setIfInBounds_toArray, List.set_cons_zero, List.set_cons_succ]
                refine wpAnyH_ready (rs := [7]) (by kernel_rfl) (by simp) ?_
                refine (AllReadyH.cons (o := { dst := some 23, op := Go.Op.convert 9 29 (Go.Operand.tmp 22), type := 29, pos := "shelf.go:188", after := #[{ on := 6, ground := Go.Ground.data }], guard := none }) rfl (fun K hK => ?_) AllReadyH.nil)
                refine step_conv rfl _ rfl cv rfl ?_
                intro c2 cap2 u4 hc2
                have h4 := h3.conv2 hc2
                clear hc2
                refine hK.out _ _ (HS.out u4 h4.below) (fun _ => ?_)
                clear hK K
                try simp only [Act.put, List.setIfInBounds_toArray, List.set_cons_zero, List.set_cons_succ]
                refine wpAnyH_ready (rs := [8]) (by kernel_rfl) (by simp) ?_
                refine (AllReadyH.cons (o := { dst := some 24, op := Go.Op.call { callee := Go.Callee.value (Go.Operand.func 78), args := #[Go.Operand.tmp 20, Go.Operand.tmp 23], argTypes := #[151, 29] }, type := 151, pos := "shelf.go:188", after := #[{ on := 4, ground := Go.Ground.data }, { on := 7, ground := Go.Ground.data }, { on := 4, ground := Go.Ground.chain }], guard := none }) rfl (fun K hK => ?_) AllReadyH.nil)
                go_simp
                refine (h4.by2 hv6 (by have := encB_le ck; simp; omega)).mono ?_
                rintro e u5 ⟨rfl, g2, h5⟩
                refine hK.out _ _ (HS.out u5 h5.below) (fun _ => ?_)
                clear hK K
                try simp only [Act.put, List.setIfInBounds_toArray, List.set_cons_zero, List.set_cons_succ]
                refine wpAnyH_ready (rs := [9]) (by kernel_rfl) (by simp) ?_
                refine (AllReadyH.cons (o := { dst := some 25, op := Go.Op.call { callee := Go.Callee.value (Go.Operand.func 79), args := #[Go.Operand.tmp 24], argTypes := #[151] }, type := 29, pos := "shelf.go:188", after := #[{ on := 8, ground := Go.Ground.data }, { on := 8, ground := Go.Ground.chain }], guard := none }) rfl (fun K hK => ?_) AllReadyH.nil)
                go_simp
                refine (h5.done (by have := encB_le ck; have := encB_le cv; simp; omega)).mono ?_
                rintro e u6 ⟨ad7, cap7, rfl, hO⟩
                have hb7 := hO.2.2.2.1
                refine hK.out _ _ (HS.out u6 hb7) (fun _ => ?_)
                clear hK K
                try simp only [Act.put, List.setIfInBounds_toArray, List.set_cons_zero, List.set_cons_succ]
                refine wpAnyH_take (i := 10) (oi := { dst := some 7, op := Go.Op.assign (Go.Operand.tmp 25), type := 29, pos := "shelf.go:188", after := #[{ on := 9, ground := Go.Ground.data }, { on := 9, ground := Go.Ground.chain }, { on := 0, ground := Go.Ground.phase }, { on := 1, ground := Go.Ground.phase }, { on := 2, ground := Go.Ground.phase }, { on := 3, ground := Go.Ground.phase }, { on := 4, ground := Go.Ground.phase }, { on := 5, ground := Go.Ground.phase }, { on := 6, ground := Go.Ground.phase }, { on := 7, ground := Go.Ground.phase }, { on := 8, ground := Go.Ground.phase }, { on := 9, ground := Go.Ground.phase }], guard := none }) (v := ?_) rfl (by kernel_rfl) (by kernel_rfl) (by kernel_rfl) (fun _ _ _ h => h) (Or.inl ⟨by rfl, ?_⟩) (by assumption) ?_
                rotate_left
                · intro wz hSw; (try dsimp only at hSw); go_simp; (try with_reducible rfl)
                try simp only [Act.put, List.setIfInBounds_toArray, List.set_cons_zero, List.set_cons_succ]
                refine wpAnyH_done (by kernel_rfl) (NoPanic.normal ?_) _
                try simp only [Act.put, List.setIfInBounds_toArray, List.set_cons_zero, List.set_cons_succ]
                go_wp2_with fail
                go_meet
                exact ⟨ad7, cap7, by simp [leafB], hO⟩
              ·
                refine step_conv rfl _ rfl cv rfl ?_
                intro c2 cap2 u3 hc2
                have h3 := h2.conv2 hc2
                clear hc2
                refine hK.out _ _ (HS.out u3 h3.below) (fun _ => ?_)
                clear hK K
                try simp only [Act.put, List.setIfInBounds_toArray, List.set_cons_zero, List.set_cons_succ]
                refine wpAnyH_ready (rs := [4]) (by kernel_rfl) (by simp) ?_
                refine (AllReadyH.cons (o := { dst := some 20, op := Go.Op.call { callee := Go.Callee.value (Go.Operand.func 78), args := #[Go.Operand.tmp 16, Go.Operand.tmp 19], argTypes := #[151, 29] }, type := 151, pos := "shelf.go:188", after := #[{ on := 0, ground := Go.Ground.data }, { on := 3, ground := Go.Ground.data }, { on := 0, ground := Go.Ground.chain }], guard := none }) rfl (fun K hK => ?_) AllReadyH.nil)
                go_simp
                refine (h3.by1 hk6 (by simp)).mono ?_
                rintro e u4 ⟨rfl, g1, h4⟩
                refine hK.out _ _ (HS.out u4 h4.below) (fun _ => ?_)
                clear hK K
                try simp only [Act.put, List.setIfInBounds_toArray, List.set_cons_zero, List.set_cons_succ]
                refine wpAnyH_ready (rs := [8]) (by kernel_rfl) (by simp) ?_
                refine (AllReadyH.cons (o := { dst := some 24, op := Go.Op.call { callee := Go.Callee.value (Go.Operand.func 78), args := #[Go.Operand.tmp 20, Go.Operand.tmp 23], argTypes := #[151, 29] }, type := 151, pos := "shelf.go:188", after := #[{ on := 4, ground := Go.Ground.data }, { on := 7, ground := Go.Ground.data }, { on := 4, ground := Go.Ground.chain }], guard := none }) rfl (fun K hK => ?_) AllReadyH.nil)
                go_simp
                refine (h4.by2 hv6 (by have := encB_le ck; simp; omega)).mono ?_
                rintro e u5 ⟨rfl, g2, h5⟩
                refine hK.out _ _ (HS.out u5 h5.below) (fun _ => ?_)
                clear hK K
                try simp only [Act.put, List.setIfInBounds_toArray, List.set_cons_zero, List.set_cons_succ]
                refine wpAnyH_ready (rs := [9]) (by kernel_rfl) (by simp) ?_
                refine (AllReadyH.cons (o := { dst := some 25, op := Go.Op.call { callee := Go.Callee.value (Go.Operand.func 79), args := #[Go.Operand.tmp 24], argTypes := #[151] }, type := 29, pos := "shelf.go:188", after := #[{ on := 8, ground := Go.Ground.data }, { on := 8, ground := Go.Ground.chain }], guard := none }) rfl (fun K hK => ?_) AllReadyH.nil)
                go_simp
                refine (h5.done (by have := encB_le ck; have := encB_le cv; simp; omega)).mono ?_
                rintro e u6 ⟨ad7, cap7, rfl, hO⟩
                have hb7 := hO.2.2.2.1
                refine hK.out _ _ (HS.out u6 hb7) (fun _ => ?_)
                clear hK K
                try simp only [Act.put, List.setIfInBounds_toArray, List.set_cons_zero, List.set_cons_succ]
                refine wpAnyH_take (i := 10) (oi := { dst := some 7, op := Go.Op.assign (Go.Operand.tmp 25), type := 29, pos := "shelf.go:188", after := #[{ on := 9, ground := Go.Ground.data }, { on := 9, ground := Go.Ground.chain }, { on := 0, ground := Go.Ground.phase }, { on := 1, ground := Go.Ground.phase }, { on := 2, ground := Go.Ground.phase }, { on := 3, ground := Go.Ground.phase }, { on := 4, ground := Go.Ground.phase }, { on := 5, ground := Go.Ground.phase }, { on := 6, ground := Go.Ground.phase }, { on := 7, ground := Go.Ground.phase }, { on := 8, ground := Go.Ground.phase }, { on := 9, ground := Go.Ground.phase }], guard := none }) (v := ?_) rfl (by kernel_rfl) (by kernel_rfl) (by kernel_rfl) (fun _ _ _ h => h) (Or.inl ⟨by rfl, ?_⟩) (by assumption) ?_
                rotate_left
                · intro wz hSw; (try dsimp only at hSw); go_simp; (try with_reducible rfl)
                try simp only [Act.put, List.setIfInBounds_toArray, List.set_cons_zero, List.set_cons_succ]
                refine wpAnyH_done (by kernel_rfl) (NoPanic.normal ?_) _
                try simp only [Act.put, List.setIfInBounds_toArray, List.set_cons_zero, List.set_cons_succ]
                go_wp2_with fail
                go_meet
                exact ⟨ad7, cap7, by simp [leafB], hO⟩
            ·
              refine step_conv rfl _ rfl cv rfl ?_
              intro c2 cap2 u2 hc2
              have h2 := h1.conv2 hc2
              clear hc2
              refine hK.out _ _ (HS.out u2 h2.below) (fun _ => ?_)
              clear hK K
              try simp only [Act.put, List.setIfInBounds_toArray, List.set_cons_zero, List.set_cons_succ]
              refine wpAnyH_ready (rs := [3]) (by kernel_rfl) (by simp) ?_
              refine (AllReadyH.cons (o := { dst := some 19, op := Go.Op.convert 9 29 (Go.Operand.tmp 18), type := 29, pos := "shelf.go:188", after := #[{ on := 2, ground := Go.Ground.data }], guard := none }) rfl (fun K hK => ?_) AllReadyH.nil)
              refine step_conv rfl _ rfl ck rfl ?_
              intro c1 cap1 u3 hc1
              have h3 := h2.conv1 hc1
              clear hc1
              refine hK.out _ _ (HS.out u3 h3.below) (fun _ => ?_)
              clear hK K
              try simp only [Act.put, List.setIfInBounds_toArray, List.set_cons_zero, List.set_cons_succ]
              refine wpAnyH_ready (rs := [4]) (by kernel_rfl) (by simp) ?_
              refine (AllReadyH.cons (o := { dst := some 20, op := Go.Op.call { callee := Go.Callee.value (Go.Operand.func 78), args := #[Go.Operand.tmp 16, Go.Operand.tmp 19], argTypes := #[151, 29] }, type := 151, pos := "shelf.go:188", after := #[{ on := 0, ground := Go.Ground.data }, { on := 3, ground := Go.Ground.data }, { on := 0, ground := Go.Ground.chain }], guard := none }) rfl (fun K hK => ?_) AllReadyH.nil)
              go_simp
              refine (h3.by1 hk6 (by simp)).mono ?_
              rintro e u4 ⟨rfl, g1, h4⟩
              refine hK.out _ _ (HS.out u4 h4.below) (fun _ => ?_)
              clear hK K
              try simp only [Act.put, List.setIfInBounds_toArray, List.set_cons_zero, List.set_cons_succ]
              refine wpAnyH_ready (rs := [8]) (by kernel_rfl) (by simp) ?_
              refine (AllReadyH.cons (o := { dst := some 24, op := Go.Op.call { callee := Go.Callee.value (Go.Operand.func 78), args := #[Go.Operand.tmp 20, Go.Operand.tmp 23], argTypes := #[151, 29] }, type := 151, pos := "shelf.go:188", after := #[{ on := 4, ground := Go.Ground.data }, { on := 7, ground := Go.Ground.data }, { on := 4, ground := Go.Ground.chain }], guard := none }) rfl (fun K hK => ?_) AllReadyH.nil)
              go_simp
              refine (h4.by2 hv6 (by have := encB_le ck; simp; omega)).mono ?_
              rintro e u5 ⟨rfl, g2, h5⟩
              refine hK.out _ _ (HS.out u5 h5.below) (fun _ => ?_)
              clear hK K
              try simp only [Act.put, List.setIfInBounds_toArray, List.set_cons_zero, List.set_cons_succ]
              refine wpAnyH_ready (rs := [9]) (by kernel_rfl) (by simp) ?_
              refine (AllReadyH.cons (o := { dst := some 25, op := Go.Op.call { callee := Go.Callee.value (Go.Operand.func 79), args := #[Go.Operand.tmp 24], argTypes := #[151] }, type := 29, pos := "shelf.go:188", after := #[{ on := 8, ground := Go.Ground.data }, { on := 8, ground := Go.Ground.chain }], guard := none }) rfl (fun K hK => ?_) AllReadyH.nil)
              go_simp
              refine (h5.done (by have := encB_le ck; have := encB_le cv; simp; omega)).mono ?_
              rintro e u6 ⟨ad7, cap7, rfl, hO⟩
              have hb7 := hO.2.2.2.1
              refine hK.out _ _ (HS.out u6 hb7) (fun _ => ?_)
              clear hK K
              try simp only [Act.put, List.setIfInBounds_toArray, List.set_cons_zero, List.set_cons_succ]
              refine wpAnyH_take (i := 10) (oi := { dst := some 7, op := Go.Op.assign (Go.Operand.tmp 25), type := 29, pos := "shelf.go:188", after := #[{ on := 9, ground := Go.Ground.data }, { on := 9, ground := Go.Ground.chain }, { on := 0, ground := Go.Ground.phase }, { on := 1, ground := Go.Ground.phase }, { on := 2, ground := Go.Ground.phase }, { on := 3, ground := Go.Ground.phase }, { on := 4, ground := Go.Ground.phase }, { on := 5, ground := Go.Ground.phase }, { on := 6, ground := Go.Ground.phase }, { on := 7, ground := Go.Ground.phase }, { on := 8, ground := Go.Ground.phase }, { on := 9, ground := Go.Ground.phase }], guard := none }) (v := ?_) rfl (by kernel_rfl) (by kernel_rfl) (by kernel_rfl) (fun _ _ _ h => h) (Or.inl ⟨by rfl, ?_⟩) (by assumption) ?_
              rotate_left
              · intro wz hSw; (try dsimp only at hSw); go_simp; (try with_reducible rfl)
              try simp only [Act.put, List.setIfInBounds_toArray, List.set_cons_zero, List.set_cons_succ]
              refine wpAnyH_done (by kernel_rfl) (NoPanic.normal ?_) _
              try simp only [Act.put, List.setIfInBounds_toArray, List.set_cons_zero, List.set_cons_succ]
              go_wp2_with fail
              go_meet
              exact ⟨ad7, cap7, by simp [leafB], hO⟩
          ·
            refine step_conv rfl _ rfl ck rfl ?_
            intro c1 cap1 u1 hc1
            have h1 := h0.conv1 hc1
            clear hc1
            refine hK.out _ _ (HS.out u1 h1.below) (fun _ => ?_)
            clear hK K
            try simp only [Act.put, List.setIfInBounds_toArray, List.set_cons_zero, List.set_cons_succ]
            refine wpAnyH_ready (rs := [0, 7]) (by kernel_rfl) (by simp) ?_
            refine (AllReadyH.cons (o := { dst := some 16, op := Go.Op.call { callee := Go.Callee.value (Go.Operand.func 77), args := #[], argTypes := #[] }, type := 151, pos := "shelf.go:188", after := #[], guard := none }) rfl (fun K hK => ?_) (AllReadyH.cons (o := { dst := some 23, op := Go.Op.convert 9 29 (Go.Operand.tmp 22), type := 29, pos := "shelf.go:188", after := #[{ on := 6, ground := Go.Ground.data }], guard := none }) rfl (fun K hK => ?_) AllReadyH.nil))
            ·
              go_simp
              refine h1.new.mono ?_
              rintro e u2 ⟨pw, rfl, h2⟩
              refine hK.out _ _ (HS.out u2 h2.below) (fun _ => ?_)
              clear hK K
              try simp only [Act.put, List.setIfInBounds_toArray, List.set_cons_zero, List.set_cons_succ]
              refine wpAnyH_ready (rs := [4, 7]) (by kernel_rfl) (by simp) ?_
              refine (AllReadyH.cons (o := { dst := some 20, op := Go.Op.call { callee := Go.Callee.value (Go.Operand.func 78), args := #[Go.Operand.tmp 16, Go.Operand.tmp 19], argTypes := #[151, 29] }, type := 151, pos := "shelf.go:188", after := #[{ on := 0, ground := Go.Ground.data }, { on := 3, ground := Go.Ground.data }, { on := 0, ground := Go.Ground.chain }], guard := none }) rfl (fun K hK => ?_) (AllReadyH.cons (o := { dst := some 23, op := Go.Op.convert 9 29 (Go.Operand.tmp 22), type := 29, pos := "shelf.go:188", after := #[{ on := 6, ground := Go.Ground.data }], guard := none }) rfl (fun K hK => ?_) AllReadyH.nil))
              ·
                go_simp
                refine (h2.by1 hk6 (by simp)).mono ?_
                rintro e u3 ⟨rfl, g1, h3⟩
                refine hK.out _ _ (HS.out u3 h3.below) (fun _ => ?_)
                clear hK K
                try simp only [Act.put, List.setIfInBounds_toArray, List.set_cons_zero, List.set_cons_succ]
                refine wpAnyH_ready (rs := [7]) (by kernel_rfl) (by simp) ?_
                refine (AllReadyH.cons (o := { dst := some 23, op := Go.Op.convert 9 29 (Go.Operand.tmp 22), type := 29, pos := "shelf.go:188", after := #[{ on := 6, ground := Go.Ground.data }], guard := none }) rfl (fun K hK => ?_) AllReadyH.nil)
                refine step_conv rfl _ rfl cv rfl ?_
                intro c2 cap2 u4 hc2
                have h4 := h3.conv2 hc2
                clear hc2
                refine hK.out _ _ (HS.out u4 h4.below) (fun _ => ?_)
                clear hK K
                try simp only [Act.put, List.setIfInBounds_toArray, List.set_cons_zero, List.set_cons_succ]
                refine wpAnyH_ready (rs := [8]) (by kernel_rfl) (by simp) ?_
                refine (AllReadyH.cons (o := { dst := some 24, op := Go.Op.call { callee := Go.Callee.value (Go.Operand.func 78), args := #[Go.Operand.tmp 20, Go.Operand.tmp 23], argTypes := #[151, 29] }, type := 151, pos := "shelf.go:188", after := #[{ on := 4, ground := Go.Ground.data }, { on := 7, ground := Go.Ground.data }, { on := 4, ground := Go.Ground.chain }], guard := none }) rfl (fun K hK => ?_) AllReadyH.nil)
                go_simp
                refine (h4.by2 hv6 (by have := encB_le ck; simp; omega)).mono ?_
                rintro e u5 ⟨rfl, g2, h5⟩
                refine hK.out _ _ (HS.out u5 h5.below) (fun _ => ?_)
                clear hK K
                try simp only [Act.put, List.setIfInBounds_toArray, List.set_cons_zero, List.set_cons_succ]
                refine wpAnyH_ready (rs := [9]) (by kernel_rfl) (by simp) ?_
                refine (AllReadyH.cons (o := { dst := some 25, op := Go.Op.call { callee := Go.Callee.value (Go.Operand.func 79), args := #[Go.Operand.tmp 24], argTypes := #[151] }, type := 29, pos := "shelf.go:188", after := #[{ on := 8, ground := Go.Ground.data }, { on := 8, ground := Go.Ground.chain }], guard := none }) rfl (fun K hK => ?_) AllReadyH.nil)
                go_simp
                refine (h5.done (by have := encB_le ck; have := encB_le cv; simp; omega)).mono ?_
                rintro e u6 ⟨ad7, cap7, rfl, hO⟩
                have hb7 := hO.2.2.2.1
                refine hK.out _ _ (HS.out u6 hb7) (fun _ => ?_)
                clear hK K
                try simp only [Act.put, List.setIfInBounds_toArray, List.set_cons_zero, List.set_cons_succ]
                refine wpAnyH_take (i := 10) (oi := { dst := some 7, op := Go.Op.assign (Go.Operand.tmp 25), type := 29, pos := "shelf.go:188", after := #[{ on := 9, ground := Go.Ground.data }, { on := 9, ground := Go.Ground.chain }, { on := 0, ground := Go.Ground.phase }, { on := 1, ground := Go.Ground.phase }, { on := 2, ground := Go.Ground.phase }, { on := 3, ground := Go.Ground.phase }, { on := 4, ground := Go.Ground.phase }, { on := 5, ground := Go.Ground.phase }, { on := 6, ground := Go.Ground.phase }, { on := 7, ground := Go.Ground.phase }, { on := 8, ground := Go.Ground.phase }, { on := 9, ground := Go.Ground.phase }], guard := none }) (v := ?_) rfl (by kernel_rfl) (by kernel_rfl) (by kernel_rfl) (fun _ _ _ h => h) (Or.inl ⟨by rfl, ?_⟩) (by assumption) ?_
                rotate_left
                · intro wz hSw; (try dsimp only at hSw); go_simp; (try with_reducible rfl)
                try simp only [Act.put, List.setIfInBounds_toArray, List.set_cons_zero, List.set_cons_succ]
                refine wpAnyH_done (by kernel_rfl) (NoPanic.normal ?_) _
                try simp only [Act.put, List.setIfInBounds_toArray, List.set_cons_zero, List.set_cons_succ]
                go_wp2_with fail
                go_meet
                exact ⟨ad7, cap7, by simp [leafB], hO⟩
              ·
                refine step_conv rfl _ rfl cv rfl ?_
                intro c2 cap2 u3 hc2
                have h3 := h2.conv2 hc2
                clear hc2
                refine hK.out _ _ (HS.out u3 h3.below) (fun _ => ?_)
                clear hK K
                try simp only [Act.put, List.setIfInBounds_toArray, List.set_cons_zero, List.set_cons_succ]
                refine wpAnyH_ready (rs := [4]) (by kernel_rfl) (by simp) ?_
                refine (AllReadyH.cons (o := { dst := some 20, op := Go.Op.call { callee := Go.Callee.value (Go.Operand.func 78), args := #[Go.Operand.tmp 16, Go.Operand.tmp 19], argTypes := #[151, 29] }, type := 151, pos := "shelf.go:188", after := #[{ on := 0, ground := Go.Ground.data }, { on := 3, ground := Go.Ground.data }, { on := 0, ground := Go.Ground.chain }], guard := none }) rfl (fun K hK => ?_) AllReadyH.nil)
                go_simp
                refine (h3.by1 hk6 (by simp)).mono ?_
                rintro e u4 ⟨rfl, g1, h4⟩
                refine hK.out _ _ (HS.out u4 h4.below) (fun _ => ?_)
                clear hK K
                try simp only [Act.put, List.setIfInBounds_toArray, List.set_cons_zero, List.set_cons_succ]
                refine wpAnyH_ready (rs := [8]) (by kernel_rfl) (by simp) ?_
                refine (AllReadyH.cons (o := { dst := some 24, op := Go.Op.call { callee := Go.Callee.value (Go.Operand.func 78), args := #[Go.Operand.tmp 20, Go.Operand.tmp 23], argTypes := #[151, 29] }, type := 151, pos := "shelf.go:188", after := #[{ on := 4, ground := Go.Ground.data }, { on := 7, ground := Go.Ground.data }, { on := 4, ground := Go.Ground.chain }], guard := none }) rfl (fun K hK => ?_) AllReadyH.nil)
                go_simp
                refine (h4.by2 hv6 (by have := encB_le ck; simp; omega)).mono ?_
                rintro e u5 ⟨rfl, g2, h5⟩
                refine hK.out _ _ (HS.out u5 h5.below) (fun _ => ?_)
                clear hK K
                try simp only [Act.put, List.setIfInBounds_toArray, List.set_cons_zero, List.set_cons_succ]
                refine wpAnyH_ready (rs := [9]) (by kernel_rfl) (by simp) ?_
                refine (AllReadyH.cons (o := { dst := some 25, op := Go.Op.call { callee := Go.Callee.value (Go.Operand.func 79), args := #[Go.Operand.tmp 24], argTypes := #[151] }, type := 29, pos := "shelf.go:188", after := #[{ on := 8, ground := Go.Ground.data }, { on := 8, ground := Go.Ground.chain }], guard := none }) rfl (fun K hK => ?_) AllReadyH.nil)
                go_simp
                refine (h5.done (by have := encB_le ck; have := encB_le cv; simp; omega)).mono ?_
                rintro e u6 ⟨ad7, cap7, rfl, hO⟩
                have hb7 := hO.2.2.2.1
                refine hK.out _ _ (HS.out u6 hb7) (fun _ => ?_)
                clear hK K
                try simp only [Act.put, List.setIfInBounds_toArray, List.set_cons_zero, List.set_cons_succ]
                refine wpAnyH_take (i := 10) (oi := { dst := some 7, op := Go.Op.assign (Go.Operand.tmp 25), type := 29, pos := "shelf.go:188", after := #[{ on := 9, ground := Go.Ground.data }, { on := 9, ground := Go.Ground.chain }, { on := 0, ground := Go.Ground.phase }, { on := 1, ground := Go.Ground.phase }, { on := 2, ground := Go.Ground.phase }, { on := 3, ground := Go.Ground.phase }, { on := 4, ground := Go.Ground.phase }, { on := 5, ground := Go.Ground.phase }, { on := 6, ground := Go.Ground.phase }, { on := 7, ground := Go.Ground.phase }, { on := 8, ground := Go.Ground.phase }, { on := 9, ground := Go.Ground.phase }], guard := none }) (v := ?_) rfl (by kernel_rfl) (by kernel_rfl) (by kernel_rfl) (fun _ _ _ h => h) (Or.inl ⟨by rfl, ?_⟩) (by assumption) ?_
                rotate_left
                · intro wz hSw; (try dsimp only at hSw); go_simp; (try with_reducible rfl)
                try simp only [Act.put, List.setIfInBounds_toArray, List.set_cons_zero, List.set_cons_succ]
                refine wpAnyH_done (by kernel_rfl) (NoPanic.normal ?_) _
                try simp only [Act.put, List.setIfInBounds_toArray, List.set_cons_zero, List.set_cons_succ]
                go_wp2_with fail
                go_meet
                exact ⟨ad7, cap7, by simp [leafB], hO⟩
            ·
              refine step_conv rfl _ rfl cv rfl ?_
              intro c2 cap2 u2 hc2
              have h2 := h1.conv2 hc2
              clear hc2
              refine hK.out _ _ (HS.out u2 h2.below) (fun _ => ?_)
              clear hK K
              try simp only [Act.put, List.setIfInBounds_toArray, List.set_cons_zero, List.set_cons_succ]
              refine wpAnyH_ready (rs := [0]) (by kernel_rfl) (by simp) ?_
              refine (AllReadyH.cons (o := { dst := some 16, op := Go.Op.call { callee := Go.Callee.value (Go.Operand.func 77), args := #[], argTypes := #[] }, type := 151, pos := "shelf.go:188", after := #[], guard := none }) rfl (fun K hK => ?_) AllReadyH.nil)
              go_simp
              refine h2.new.mono ?_
              rintro e u3 ⟨pw, rfl, h3⟩
              refine hK.out _ _ (HS.out u3 h3.below) (fun _ => ?_)
              clear hK K
              try simp only [Act.put, List.setIfInBounds_toArray, List.set_cons_zero, List.set_cons_succ]
              refine wpAnyH_ready (rs := [4]) (by kernel_rfl) (by simp) ?_
              refine (AllReadyH.cons (o := { dst := some 20, op := Go.Op.call { callee := Go.Callee.value (Go.Operand.func 78), args := #[Go.Operand.tmp 16, Go.Operand.tmp 19], argTypes := #[151, 29] }, type := 151, pos := "shelf.go:188", after := #[{ on := 0, ground := Go.Ground.data }, { on := 3, ground := Go.Ground.data }, { on := 0, ground := Go.Ground.chain }], guard := none }) rfl (fun K hK => ?_) AllReadyH.nil)
              go_simp
              refine (h3.by1 hk6 (by simp)).mono ?_
              rintro e u4 ⟨rfl, g1, h4⟩
              refine hK.out _ _ (HS.out u4 h4.below) (fun _ => ?_)
              clear hK K
              try simp only [Act.put, List.setIfInBounds_toArray, List.set_cons_zero, List.set_cons_succ]
              refine wpAnyH_ready (rs := [8]) (by kernel_rfl) (by simp) ?_
              refine (AllReadyH.cons (o := { dst := some 24, op := Go.Op.call { callee := Go.Callee.value (Go.Operand.func 78), args := #[Go.Operand.tmp 20, Go.Operand.tmp 23], argTypes := #[151, 29] }, type := 151, pos := "shelf.go:188", after := #[{ on := 4, ground := Go.Ground.data }, { on := 7, ground := Go.Ground.data }, { on := 4, ground := Go.Ground.chain }], guard := none }) rfl (fun K hK => ?_) AllReadyH.nil)
              go_simp
              refine (h4.by2 hv6 (by have := encB_le ck; simp; omega)).mono ?_
              rintro e u5 ⟨rfl, g2, h5⟩
              refine hK.out _ _ (HS.out u5 h5.below) (fun _ => ?_)
              clear hK K
              try simp only [Act.put, List.setIfInBounds_toArray, List.set_cons_zero, List.set_cons_succ]
              refine wpAnyH_ready (rs := [9]) (by kernel_rfl) (by simp) ?_
              refine (AllReadyH.cons (o := { dst := some 25, op := Go.Op.call { callee := Go.Callee.value (Go.Operand.func 79), args := #[Go.Operand.tmp 24], argTypes := #[151] }, type := 29, pos := "shelf.go:188", after := #[{ on := 8, ground := Go.Ground.data }, { on := 8, ground := Go.Ground.chain }], guard := none }) rfl (fun K hK => ?_) AllReadyH.nil)
              go_simp
              refine (h5.done (by have := encB_le ck; have := encB_le cv; simp; omega)).mono ?_
              rintro e u6 ⟨ad7, cap7, rfl, hO⟩
              have hb7 := hO.2.2.2.1
              refine hK.out _ _ (HS.out u6 hb7) (fun _ => ?_)
              clear hK K
              try simp only [Act.put, List.setIfInBounds_toArray, List.set_cons_zero, List.set_cons_succ]
              refine wpAnyH_take (i := 10) (oi := { dst := some 7, op := Go.Op.assign (Go.Operand.tmp 25), type := 29, pos := "shelf.go:188", after := #[{ on := 9, ground := Go.Ground.data }, { on := 9, ground := Go.Ground.chain }, { on := 0, ground := Go.Ground.phase }, { on := 1, ground := Go.Ground.phase }, { on := 2, ground := Go.Ground.phase }, { on := 3, ground := Go.Ground.phase }, { on := 4, ground := Go.Ground.phase }, { on := 5, ground := Go.Ground.phase }, { on := 6, ground := Go.Ground.phase }, { on := 7, ground := Go.Ground.phase }, { on := 8, ground := Go.Ground.phase }, { on := 9, ground := Go.Ground.phase }], guard := none }) (v := ?_) rfl (by kernel_rfl) (by kernel_rfl) (by kernel_rfl) (fun _ _ _ h => h) (Or.inl ⟨by rfl, ?_⟩) (by assumption) ?_
              rotate_left
              · intro wz hSw; (try dsimp only at hSw); go_simp; (try with_reducible rfl)
              try simp only [Act.put, List.setIfInBounds_toArray, List.set_cons_zero, List.set_cons_succ]
              refine wpAnyH_done (by kernel_rfl) (NoPanic.normal ?_) _
              try simp only [Act.put, List.setIfInBounds_toArray, List.set_cons_zero, List.set_cons_succ]
              go_wp2_with fail
              go_meet
              exact ⟨ad7, cap7, by simp [leafB], hO⟩
          ·
            refine step_conv rfl _ rfl cv rfl ?_
            intro c2 cap2 u1 hc2
            have h1 := h0.conv2 hc2
            clear hc2
            refine hK.out _ _ (HS.out u1 h1.below) (fun _ => ?_)
            clear hK K
            try simp only [Act.put, List.setIfInBounds_toArray, List.set_cons_zero, List.set_cons_succ]
            refine wpAnyH_ready (rs := [0, 3]) (by kernel_rfl) (by simp) ?_
            refine (AllReadyH.cons (o := { dst := some 16, op := Go.Op.call { callee := Go.Callee.value (Go.Operand.func 77), args := #[], argTypes := #[] }, type := 151, pos := "shelf.go:188", after := #[], guard := none }) rfl (fun K hK => ?_) (AllReadyH.cons (o := { dst := some 19, op := Go.Op.convert 9 29 (Go.Operand.tmp 18), type := 29, pos := "shelf.go:188", after := #[{ on := 2, ground := Go.Ground.data }], guard := none }) rfl (fun K hK => ?_) AllReadyH.nil))
            ·
              go_simp
              refine h1.new.mono ?_
              rintro e u2 ⟨pw, rfl, h2⟩
              refine hK.out _ _ (HS.out u2 h2.below) (fun _ => ?_)
              clear hK K
              try simp only [Act.put, List.setIfInBounds_toArray, List.set_cons_zero, List.set_cons_succ]
              refine wpAnyH_ready (rs := [3]) (by kernel_rfl) (by simp) ?_
              refine (AllReadyH.cons (o := { dst := some 19, op := Go.Op.convert 9 29 (Go.Operand.tmp 18), type := 29, pos := "shelf.go:188", after := #[{ on := 2, ground := Go.Ground.data }], guard := none }) rfl (fun K hK => ?_) AllReadyH.nil)
              refine step_conv rfl _ rfl ck rfl ?_
              intro c1 cap1 u3 hc1
              have h3 := h2.conv1 hc1
              clear hc1
              refine hK.out _ _ (HS.out u3 h3.below) (fun _ => ?_)
              clear hK K
              try simp only [Act.put, List.setIfInBounds_toArray, List.set_cons_zero, List.set_cons_succ]
              refine wpAnyH_ready (rs := [4]) (by kernel_rfl) (by simp) ?_
              refine (AllReadyH.cons (o := { dst := some 20, op := Go.Op.call { callee := Go.Callee.value (Go.Operand.func 78), args := #[Go.Operand.tmp 16, Go.Operand.tmp 19], argTypes := #[151, 29] }, type := 151, pos := "shelf.go:188", after := #[{ on := 0, ground := Go.Ground.data }, { on := 3, ground := Go.Ground.data }, { on := 0, ground := Go.Ground.chain }], guard := none }) rfl (fun K hK => ?_) AllReadyH.nil)
              go_simp
              refine (h3.by1 hk6 (by simp)).mono ?_
              rintro e u4 ⟨rfl, g1, h4⟩
              refine hK.out _ _ (HS.out u4 h4.below) (fun _ => ?_)
              clear hK K
              try simp only [Act.put, List.setIfInBounds_toArray, List.set_cons_zero, List.set_cons_succ]
              refine wpAnyH_ready (rs := [8]) (by kernel_rfl) (by simp) ?_
              refine (AllReadyH.cons (o := { dst := some 24, op := Go.Op.call { callee := Go.Callee.value (Go.Operand.func 78), args := #[Go.Operand.tmp 20, Go.Operand.tmp 23], argTypes := #[151, 29] }, type := 151, pos := "shelf.go:188", after := #[{ on := 4, ground := Go.Ground.data }, { on := 7, ground := Go.Ground.data }, { on := 4, ground := Go.Ground.chain }], guard := none }) rfl (fun K hK => ?_) AllReadyH.nil)
              go_simp
              refine (h4.by2 hv6 (by have := encB_le ck; simp; omega)).mono ?_
              rintro e u5 ⟨rfl, g2, h5⟩
              refine hK.out _ _ (HS.out u5 h5.below) (fun _ => ?_)
              clear hK K
              try simp only [Act.put, List.setIfInBounds_toArray, List.set_cons_zero, List.set_cons_succ]
              refine wpAnyH_ready (rs := [9]) (by kernel_rfl) (by simp) ?_
              refine (AllReadyH.cons (o := { dst := some 25, op := Go.Op.call { callee := Go.Callee.value (Go.Operand.func 79), args := #[Go.Operand.tmp 24], argTypes := #[151] }, type := 29, pos := "shelf.go:188", after := #[{ on := 8, ground := Go.Ground.data }, { on := 8, ground := Go.Ground.chain }], guard := none }) rfl (fun K hK => ?_) AllReadyH.nil)
              go_simp
              refine (h5.done (by have := encB_le ck; have := encB_le cv; simp; omega)).mono ?_
              rintro e u6 ⟨ad7, cap7, rfl, hO⟩
              have hb7 := hO.2.2.2.1
              refine hK.out _ _ (HS.out u6 hb7) (fun _ => ?_)
              clear hK K
              try simp only [Act.put, List.setIfInBounds_toArray, List.set_cons_zero, List.set_cons_succ]
              refine wpAnyH_take (i := 10) (oi := { dst := some 7, op := Go.Op.assign (Go.Operand.tmp 25), type := 29, pos := "shelf.go:188", after := #[{ on := 9, ground := Go.Ground.data }, { on := 9, ground := Go.Ground.chain }, { on := 0, ground := Go.Ground.phase }, { on := 1, ground := Go.Ground.phase }, { on := 2, ground := Go.Ground.phase }, { on := 3, ground := Go.Ground.phase }, { on := 4, ground := Go.Ground.phase }, { on := 5, ground := Go.Ground.phase }, { on := 6, ground := Go.Ground.phase }, { on := 7, ground := Go.Ground.phase }, { on := 8, ground := Go.Ground.phase }, { on := 9, ground := Go.Ground.phase }], guard := none }) (v := ?_) rfl (by kernel_rfl) (by kernel_rfl) (by kernel_rfl) (fun _ _ _ h => h) (Or.inl ⟨by rfl, ?_⟩) (by assumption) ?_
              rotate_left
              · intro wz hSw; (try dsimp only at hSw); go_simp; (try with_reducible rfl)
              try simp only [Act.put, List.setIfInBounds_toArray, List.set_cons_zero, List.set_cons_succ]
              refine wpAnyH_done (by kernel_rfl) (NoPanic.normal ?_) _
              try simp only [Act.put, List.setIfInBounds_toArray, List.set_cons_zero, List.set_cons_succ]
              go_wp2_with fail
              go_meet
              exact ⟨ad7, cap7, by simp [leafB], hO⟩
            ·
              refine step_conv rfl _ rfl ck rfl ?_
              intro c1 cap1 u2 hc1
              have h2 := h1.conv1 hc1
              clear hc1
              refine hK.out _ _ (HS.out u2 h2.below) (fun _ => ?_)
              clear hK K
              try simp only [Act.put, List.setIfInBounds_toArray, List.set_cons_zero, List.set_cons_succ]
              refine wpAnyH_ready (rs := [0]) (by kernel_rfl) (by simp) ?_
              refine (AllReadyH.cons (o := { dst := some 16, op := Go.Op.call { callee := Go.Callee.value (Go.Operand.func 77), args := #[], argTypes := #[] }, type := 151, pos := "shelf.go:188", after := #[], guard := none }) rfl (fun K hK => ?_) AllReadyH.nil)
              go_simp
              refine h2.new.mono ?_
              rintro e u3 ⟨pw, rfl, h3⟩
              refine hK.out _ _ (HS.out u3 h3.below) (fun _ => ?_)
              clear hK K
              try simp only [Act.put, List.setIfInBounds_toArray, List.set_cons_zero, List.set_cons_succ]
              refine wpAnyH_ready (rs := [4]) (by kernel_rfl) (by simp) ?_
              refine (AllReadyH.cons (o := { dst := some 20, op := Go.Op.call { callee := Go.Callee.value (Go.Operand.func 78), args := #[Go.Operand.tmp 16, Go.Operand.tmp 19], argTypes := #[151, 29] }, type := 151, pos := "shelf.go:188", after := #[{ on := 0, ground := Go.Ground.data }, { on := 3, ground := Go.Ground.data }, { on := 0, ground := Go.Ground.chain }], guard := none }) rfl (fun K hK => ?_) AllReadyH.nil)
              go_simp
              refine (h3.by1 hk6 (by simp)).mono ?_
              rintro e u4 ⟨rfl, g1, h4⟩
              refine hK.out _ _ (HS.out u4 h4.below) (fun _ => ?_)
              clear hK K
              try simp only [Act.put, List.setIfInBounds_toArray, List.set_cons_zero, List.set_cons_succ]
              refine wpAnyH_ready (rs := [8]) (by kernel_rfl) (by simp) ?_
              refine (AllReadyH.cons (o := { dst := some 24, op := Go.Op.call { callee := Go.Callee.value (Go.Operand.func 78), args := #[Go.Operand.tmp 20, Go.Operand.tmp 23], argTypes := #[151, 29] }, type := 151, pos := "shelf.go:188", after := #[{ on := 4, ground := Go.Ground.data }, { on := 7, ground := Go.Ground.data }, { on := 4, ground := Go.Ground.chain }], guard := none }) rfl (fun K hK => ?_) AllReadyH.nil)
              go_simp
              refine (h4.by2 hv6 (by have := encB_le ck; simp; omega)).mono ?_
              rintro e u5 ⟨rfl, g2, h5⟩
              refine hK.out _ _ (HS.out u5 h5.below) (fun _ => ?_)
              clear hK K
              try simp only [Act.put, List.setIfInBounds_toArray, List.set_cons_zero, List.set_cons_succ]
              refine wpAnyH_ready (rs := [9]) (by kernel_rfl) (by simp) ?_
              refine (AllReadyH.cons (o := { dst := some 25, op := Go.Op.call { callee := Go.Callee.value (Go.Operand.func 79), args := #[Go.Operand.tmp 24], argTypes := #[151] }, type := 29, pos := "shelf.go:188", after := #[{ on := 8, ground := Go.Ground.data }, { on := 8, ground := Go.Ground.chain }], guard := none }) rfl (fun K hK => ?_) AllReadyH.nil)
              go_simp
              refine (h5.done (by have := encB_le ck; have := encB_le cv; simp; omega)).mono ?_
              rintro e u6 ⟨ad7, cap7, rfl, hO⟩
              have hb7 := hO.2.2.2.1
              refine hK.out _ _ (HS.out u6 hb7) (fun _ => ?_)
              clear hK K
              try simp only [Act.put, List.setIfInBounds_toArray, List.set_cons_zero, List.set_cons_succ]
              refine wpAnyH_take (i := 10) (oi := { dst := some 7, op := Go.Op.assign (Go.Operand.tmp 25), type := 29, pos := "shelf.go:188", after := #[{ on := 9, ground := Go.Ground.data }, { on := 9, ground := Go.Ground.chain }, { on := 0, ground := Go.Ground.phase }, { on := 1, ground := Go.Ground.phase }, { on := 2, ground := Go.Ground.phase }, { on := 3, ground := Go.Ground.phase }, { on := 4, ground := Go.Ground.phase }, { on := 5, ground := Go.Ground.phase }, { on := 6, ground := Go.Ground.phase }, { on := 7, ground := Go.Ground.phase }, { on := 8, ground := Go.Ground.phase }, { on := 9, ground := Go.Ground.phase }], guard := none }) (v := ?_) rfl (by kernel_rfl) (by kernel_rfl) (by kernel_rfl) (fun _ _ _ h => h) (Or.inl ⟨by rfl, ?_⟩) (by assumption) ?_
              rotate_left
              · intro wz hSw; (try dsimp only at hSw); go_simp; (try with_reducible rfl)
              try simp only [Act.put, List.setIfInBounds_toArray, List.set_cons_zero, List.set_cons_succ]
              refine wpAnyH_done (by kernel_rfl) (NoPanic.normal ?_) _
              try simp only [Act.put, List.setIfInBounds_toArray, List.set_cons_zero, List.set_cons_succ]
              go_wp2_with fail
              go_meet
              exact ⟨ad7, cap7, by simp [leafB], hO⟩
        case rest =>
          obtain ⟨ad7, cap7, rfl, hO⟩ := hcut
          have HR : Hid (BsRow w wc u4 X) := HX1.out.keep (Below.transS (Below.refl _ _).drew hO.2.2.2.1)
          have HO7 : Hid (OwnB w1.drew wc ad7 cap7 (leafB ck cv)) := hO
          have hs1 := HX1.out.below.size
          have HU4 : Hid (∀ k, u4.ownBlock = some k → k < w1.heap.size) := fun k e => (HX1.out.own.lt k e).2
          have hpos : 0 < (leafB ck cv).length := by simp [leafB, encB]; omega
          clear hO HX1 HS0
          by_cases hlg : 4096 < (leafB ck cv).length
          · have hlg' : (4096 : Int) < (leafB ck cv).length := by omega
            have HN : Hid (layL C = none) := HL1.out hlg
            clear HL1 HL2
            generalize leafB ck cv = lb at *
            go_wp2
            go_ret2
            exact .inl ⟨HN.out, rfl, HR.out.below⟩
          · have hlg' : ¬ (4096 : Int) < (leafB ck cv).length := by omega
            have HN : Hid (layL (C.take (i + 1)) = some (X.map Bs.l ++ [leafB ck cv])) := HL2.out hlg
            clear HL1 HL2
            generalize leafB ck cv = lb at *
            have hbA : Below wc.heap.size wc (wc.alloc (.cells #[.slice ad7 lb.length cap7] 29)) := (Below.refl _ wc).alloc (Nat.le_refl _) _
            have hO7 := HO7.out
            have hat7 : BsAt (wc.alloc (.cells #[.slice ad7 lb.length cap7] 29)) ⟨ad7, cap7, lb⟩ := ⟨hO7.1.keepB hbA, hO7.2.1, by simpa using hlg, hO7.2.2.2.2⟩
            have hin7 : (⟨ad7, cap7, lb⟩ : Bs).In (fun k => w.heap.size ≤ k ∧ k < (wc.alloc (.cells #[.slice ad7 lb.length cap7] 29)).heap.size ∧ some k ≠ u4.ownBlock) := fun a e => by
              have h1 := hO7.2.2.1 a e
              have h2 : a.block < wc.heap.size := by
                obtain ⟨b', off', e', hc'⟩ := hO7.1.2 hpos
                rw [e'] at e; cases e
                exact World.block_lt_of_cell? wc _ (hc' 0 hpos)
              have hs2 : w1.drew.heap.size = w1.heap.size := rfl
              refine ⟨by omega, by simp; omega, fun e2 => ?_⟩
              have := HU4.out _ e2.symm
              omega
            have HAT : Hid (BsAt (wc.alloc (.cells #[.slice ad7 lb.length cap7] 29)) ⟨ad7, cap7, lb⟩ ∧ (⟨ad7, cap7, lb⟩ : Bs).In (fun k => w.heap.size ≤ k ∧ k < (wc.alloc (.cells #[.slice ad7 lb.length cap7] 29)).heap.size ∧ some k ≠ u4.ownBlock)) := ⟨hat7, hin7⟩
            clear hat7 hin7 hO7 hbA
            go_wp2_with (first | (at_builtin; refine wpList_append_BB rfl _ _ rfl w u4 X wc.heap.size ⟨ad7, cap7, lb⟩ rfl rfl (HR.out.keep ((Below.refl _ wc).alloc (Nat.le_refl _) _)) (heap_alloc_new wc _) HAT.out.1 HAT.out.2 (by omega) ?_; intro v9 w9 hR9) | fail)
            refine ⟨⟨i + 1, X ++ [⟨ad7, cap7, lb⟩], by omega, by go_num, by rw [HN.out]; simp, by simp; omega, hR9⟩, by simp [intOf]; omega⟩
    · obtain rfl : i = C.length := by omega
      have hlt' : ¬ ((C.length : Int) < C.length) := by omega
      rw [List.take_length] at hly
      have HL : Hid (layL C = some (X.map Bs.l)) := hly
      clear hly
      go_wp2
      go_ret2
      exact .inr ⟨u4, X, HL.out, rfl, HX.out⟩
end Go.Proofs.YtbfajoeilpkofaaGreatDoor
