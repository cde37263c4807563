/- EncOrder: the walk. -/
import Derived.Test.YtmgjipemgdgjdaaOrdKit
import Derived.Deep.DeepCutAuto
import Derived.Deep.DrawnRows
namespace Go.Proofs.Ytmgjipemgdgjdaa
open Go.RowKit

attribute [local go_sem ↓] Go.wp_at_zero Go.wp_at_succ

theorem two_news {g : Nat} {o : Obj} (w : World) (hg : w.heap[g]? = some o) (o2 : Obj) : (w.alloc o2).heap[g]? = some o := by
  rw [Below.heap_alloc _ _ _ (lt_of_block hg)]; exact hg
theorem hB_lB (z : Nat → Int) : hB z = lB z 32 := rfl
theorem lB_fn (l : List Int) : lB (fn l) l.length = l := by
  apply List.ext_getElem
  · simp [lB]
  · intro j h1 h2
    simp [lB, fn, h2]
theorem WrAt.bd {w : World} {B p : Nat} {g : Option Nat} {l : List Int} (h : WrAt w B p g l) : ∀ x, x ∈ l → 0 ≤ x ∧ x ≤ 255 := by
  obtain ⟨_, _, _, _, _, h⟩ := h
  exact h
theorem or_ranges {W wr w' : World} {b o b2 o2 : Nat} {x y : Th} (hx : W.rangeAt b o x.l) (hy : W.rangeAt b2 o2 y.l) (hb : Below W.heap.size W wr) (h : Below wr.heap.size wr w') : w'.rangeAt b o x.l ∧ w'.rangeAt b2 o2 y.l :=
  ⟨range_below hx (Below.transS hb h), range_below hy (Below.transS hb h)⟩

set_option maxRecDepth 100000 in
set_option maxHeartbeats 6400000 in
theorem order_any (ad bd : Option Addr) (len cap len2 cap2 : Nat) (X Y : Nat → Th) (at_ : Int) (W : World) (hT : ThAt W ad len X) (hX : ∀ i, i < len → (X i).len ≤ 1048576) (hlen : len ≤ 1048576) (hT2 : ThAt W bd len2 Y) (hY : ∀ i, i < len2 → (Y i).len ≤ 1048576) (hlen2 : len2 ≤ 1048576) :
    Calls Try.prog 5 #[.slice ad len cap, .slice bd len2 cap2, .int .i64 at_] W fun e w' => e = .returned (.bool true) ∧ Below W.heap.size W w' := by
  have HT : Hid (ThAt W ad len X) := hT
  have HX : Hid (∀ i, i < len → (X i).len ≤ 1048576) := hX
  have HT2 : Hid (ThAt W bd len2 Y) := hT2
  have HY : Hid (∀ i, i < len2 → (Y i).len ≤ 1048576) := hY
  clear hT hX hT2 hY
  go_enter Try.func5, Try.ntmps5
  go_upto_region 1 with fail
  go_cut [7] (fun v wc => ∃ m : Nat, m ≤ len ∧ m ≤ len2 ∧ m ≤ 30 ∧ v = .int .i64 m ∧ W = wc)
  case first =>
    go_wp2_with fail
    all_goals go_meet
    · have hx : 30 < if len2 < len then (len2 : Int) else len := by assumption
      exact ⟨30, by split at hx <;> omega, by split at hx <;> omega, by omega, rfl, rfl⟩
    · have hx : (if len2 < len then (len2 : Int) else len) ≤ 30 := by assumption
      have hy : len2 < len := by assumption
      rw [if_pos hy] at hx
      exact ⟨len2, by omega, by omega, by omega, rfl, rfl⟩
    · have hx : (if len2 < len then (len2 : Int) else len) ≤ 30 := by assumption
      have hy : ¬ len2 < len := by assumption
      rw [if_neg hy] at hx
      exact ⟨len, by omega, by omega, by omega, rfl, rfl⟩
  case rest =>
  obtain ⟨m, hm1, hm2, hm3, rfl, rfl⟩ := hcut
  go_wp2_with fail
  refine (new_any _).mono ?_
  rintro e w0 ⟨rfl, rfl⟩
  go_wp2_with fail
  refine (new_any _).mono ?_
  rintro e w0 ⟨rfl, rfl⟩
  have h0 := OrW.begin W
  go_wp2_with fail
  generalize ((W.alloc (.cells #[.slice none 0 0] 49)).alloc (.cells #[.slice none 0 0] 49)) = W0 at *
  go_loopw [8, 9, 10, 11] (fun pv qv ov iv wr => ∃ (i : Nat) (o : Int), i ≤ m ∧ pv = .pointer (some ⟨W.heap.size, 0, none⟩) ∧ qv = .pointer (some ⟨W.heap.size + 1, 0, none⟩) ∧ ov = .int .i64 o ∧ iv = .int .i64 i ∧ OrW W wr (laidL X i) (laidL (oth X Y at_) i) ∧ Parts (laidL X i) (laidL (oth X Y at_) i) o) (fun _ _ _ iv _ => m + 1 - (intOf iv).toNat)
  case atStart => exact ⟨0, 0, by omega, rfl, by simp, rfl, rfl, h0, Parts.nil⟩
  case round =>
    clear h0
    obtain ⟨i, o, him, rfl, rfl, rfl, rfl, hW, hP⟩ := hrel
    have HP : Hid (Parts (laidL X i) (laidL (oth X Y at_) i) o) := hP
    have HW : Hid (OrW W wr (laidL X i) (laidL (oth X Y at_) i)) := hW
    have hb := hW.below
    clear hP hW
    by_cases hlt : i < m
    · have hi30 : (i : Int) < 30 := by omega
      obtain ⟨b, off, rfl, hcl⟩ := HT.out.at_ (by omega)
      obtain ⟨b2, off2, rfl, hcl2⟩ := HT2.out.at_ (by omega)
      have HR : Hid (W.rangeAt b (off + i * 35) (X i).l) := hcl i (by omega)
      have HR2 : Hid (W.rangeAt b2 (off2 + i * 35) (Y i).l) := hcl2 i (by omega)
      have hTx := HT.out.ok i (by omega)
      have hTy := HT2.out.ok i (by omega)
      have HTx : Hid (ThOk W (X i)) := hTx
      have HTy : Hid (ThOk W (Y i)) := hTy
      clear hcl hcl2 hTx hTy
      have hi1 : (i : Int) < len := by omega
      have hi2 : (i : Int) < len2 := by omega
      go_upto_region 7 with fail
      go_cut [12, 13] (fun a c w7 => ∃ gx gy : Nat, a = .pointer (some ⟨gx, 0, none⟩) ∧ c = .pointer (some ⟨gy, 0, none⟩) ∧ OrV wr w7 gx gy (X i) (Y i))
      case first =>
        refine wp_region_noPanic ?_
        refine wp_region_held_drew (S := fun w' => w'.rangeAt b (off + i * 35) (X i).l ∧ w'.rangeAt b2 (off2 + i * 35) (Y i).l) (by kernel_rfl) (or_ranges HR.out HR2.out hb (Below.refl _ _).drew) (fun hHeld => ?_)
        refine wpAnyH_take (i := 0) (oi := { dst := some 28, op := Go.Op.move (Go.Operand.tmp 0), type := 22, pos := "law.go:160", after := #[], guard := none }) (v := ?_) rfl (by kernel_rfl) (by kernel_rfl) (by kernel_rfl) (fun _ _ _ h => h) (Or.inl ⟨by rfl, ?_⟩) (by assumption) ?_
        rotate_left
        · intro wz hSw; (try dsimp only at hSw); go_simp; (try with_reducible rfl)
        try simp only [Act.put, List.setIfInBounds_toArray, List.set_cons_zero, List.set_cons_succ]
        refine wpAnyH_take (i := 1) (oi := { dst := some 29, op := Go.Op.move (Go.Operand.tmp 11), type := 3, pos := "law.go:160", after := #[], guard := none }) (v := ?_) rfl (by kernel_rfl) (by kernel_rfl) (by kernel_rfl) (fun _ _ _ h => h) (Or.inl ⟨by rfl, ?_⟩) (by assumption) ?_
        rotate_left
        · intro wz hSw; (try dsimp only at hSw); go_simp; (try with_reducible rfl)
        try simp only [Act.put, List.setIfInBounds_toArray, List.set_cons_zero, List.set_cons_succ]
        refine wpAnyH_take (i := 2) (oi := { dst := some 30, op := Go.Op.indexAddr 22 (Go.Operand.tmp 28) (Go.Operand.tmp 29), type := 0, pos := "law.go:160", after := #[{ on := 0, ground := Go.Ground.data }, { on := 1, ground := Go.Ground.data }], guard := none }) (v := ?_) rfl (by kernel_rfl) (by kernel_rfl) (by kernel_rfl) (fun _ _ _ h => h) (Or.inl ⟨by rfl, ?_⟩) (by assumption) ?_
        rotate_left
        · intro wz hSw; (try dsimp only at hSw); go_simp; (try with_reducible rfl)
        try simp only [Act.put, List.setIfInBounds_toArray, List.set_cons_zero, List.set_cons_succ]
        refine wpAnyH_take (i := 3) (oi := { dst := some 31, op := Go.Op.load 30 (Go.Operand.tmp 30), type := 30, pos := "law.go:160", after := #[{ on := 2, ground := Go.Ground.data }], guard := none }) rfl (by kernel_rfl) (by kernel_rfl) (by kernel_rfl) (fun _ _ _ h => h) (yieldsIf_load_mid (by rfl) _ _ rfl b (off + i * 35) rfl (X i).l _ (fun _ h => h.1) Try.underlying30 rfl (tszv _)) (by assumption) ?_
        try simp only [Act.put, List.setIfInBounds_toArray, List.set_cons_zero, List.set_cons_succ]
        refine wpAnyH_take (i := 4) (oi := { dst := some 32, op := Go.Op.move (Go.Operand.tmp 1), type := 22, pos := "law.go:160", after := #[], guard := none }) (v := ?_) rfl (by kernel_rfl) (by kernel_rfl) (by kernel_rfl) (fun _ _ _ h => h) (Or.inl ⟨by rfl, ?_⟩) (by assumption) ?_
        rotate_left
        · intro wz hSw; (try dsimp only at hSw); go_simp; (try with_reducible rfl)
        try simp only [Act.put, List.setIfInBounds_toArray, List.set_cons_zero, List.set_cons_succ]
        refine wpAnyH_take (i := 5) (oi := { dst := some 33, op := Go.Op.move (Go.Operand.tmp 11), type := 3, pos := "law.go:160", after := #[], guard := none }) (v := ?_) rfl (by kernel_rfl) (by kernel_rfl) (by kernel_rfl) (fun _ _ _ h => h) (Or.inl ⟨by rfl, ?_⟩) (by assumption) ?_
        rotate_left
        · intro wz hSw; (try dsimp only at hSw); go_simp; (try with_reducible rfl)
        try simp only [Act.put, List.setIfInBounds_toArray, List.set_cons_zero, List.set_cons_succ]
        refine wpAnyH_take (i := 6) (oi := { dst := some 34, op := Go.Op.indexAddr 22 (Go.Operand.tmp 32) (Go.Operand.tmp 33), type := 0, pos := "law.go:160", after := #[{ on := 4, ground := Go.Ground.data }, { on := 5, ground := Go.Ground.data }], guard := none }) (v := ?_) rfl (by kernel_rfl) (by kernel_rfl) (by kernel_rfl) (fun _ _ _ h => h) (Or.inl ⟨by rfl, ?_⟩) (by assumption) ?_
        rotate_left
        · intro wz hSw; (try dsimp only at hSw); go_simp; (try with_reducible rfl)
        try simp only [Act.put, List.setIfInBounds_toArray, List.set_cons_zero, List.set_cons_succ]
        refine wpAnyH_take (i := 7) (oi := { dst := some 35, op := Go.Op.load 30 (Go.Operand.tmp 34), type := 30, pos := "law.go:160", after := #[{ on := 6, ground := Go.Ground.data }], guard := none }) rfl (by kernel_rfl) (by kernel_rfl) (by kernel_rfl) (fun _ _ _ h => h) (yieldsIf_load_mid (by rfl) _ _ rfl b2 (off2 + i * 35) rfl (Y i).l _ (fun _ h => h.2) Try.underlying30 rfl (tszv _)) (by assumption) ?_
        try simp only [Act.put, List.setIfInBounds_toArray, List.set_cons_zero, List.set_cons_succ]
        refine wpAnyH_ready (rs := [8, 9]) (by kernel_rfl) (by simp) ?_
        refine (AllReadyH.cons (o := { dst := some 12, op := Go.Op.alloc 30, type := 0, pos := "law.go:160", after := #[], guard := none }) rfl (fun K hK => ?_) (AllReadyH.cons (o := { dst := some 13, op := Go.Op.alloc 30, type := 0, pos := "law.go:160", after := #[], guard := none }) rfl (fun K hK => ?_) AllReadyH.nil))
        · refine step_allocT rfl rfl ?_
          have hb1 : Below wr.heap.size wr (wr.drew.alloc (.cells (default : Th).v 30)) := (Below.refl _ wr).drew.alloc (by simp) _
          refine hK.out _ _ (or_ranges HR.out HR2.out hb hb1) (fun _ => ?_)
          clear hK K
          try simp only [Act.put, List.setIfInBounds_toArray, List.set_cons_zero, List.set_cons_succ]
          refine wpAnyH_ready (rs := [9]) (by kernel_rfl) (by simp) ?_
          refine (AllReadyH.cons (o := { dst := some 13, op := Go.Op.alloc 30, type := 0, pos := "law.go:160", after := #[], guard := none }) rfl (fun K hK => ?_) AllReadyH.nil)
          refine step_allocT rfl rfl ?_
          rw [show (wr.drew.alloc (.cells (default : Th).v 30)).heap.size = wr.heap.size + 1 from by simp]
          have hb2 := Below.allocS hb1 (.cells (default : Th).v 30)
          have hn1 : ((wr.drew.alloc (.cells (default : Th).v 30)).alloc (.cells (default : Th).v 30)).heap[wr.heap.size]? = some (.cells (default : Th).v 30 (0, 0)) := two_news _ (heap_alloc_new wr.drew _) _
          have hn2 : ((wr.drew.alloc (.cells (default : Th).v 30)).alloc (.cells (default : Th).v 30)).heap[wr.heap.size + 1]? = some (.cells (default : Th).v 30 (0, 0)) := by have := heap_alloc_new (wr.drew.alloc (.cells (default : Th).v 30)) (.cells (default : Th).v 30); simpa using this
          refine hK.out _ _ (or_ranges HR.out HR2.out hb hb2) (fun _ => ?_)
          clear hK K
          try simp only [Act.put, List.setIfInBounds_toArray, List.set_cons_zero, List.set_cons_succ]
          generalize ((wr.drew.alloc (.cells (default : Th).v 30)).alloc (.cells (default : Th).v 30)) = w5 at *
          refine wpAnyH_ready (rs := [10]) (by kernel_rfl) (by simp) ?_
          refine (AllReadyH.cons (o := { dst := none, op := Go.Op.store 30 (Go.Operand.tmp 12) (Go.Operand.tmp 31), type := 0, pos := "law.go:160", after := #[{ on := 8, ground := Go.Ground.data }, { on := 3, ground := Go.Ground.data }, { on := 0, ground := Go.Ground.phase }, { on := 1, ground := Go.Ground.phase }, { on := 2, ground := Go.Ground.phase }, { on := 3, ground := Go.Ground.phase }, { on := 4, ground := Go.Ground.textOnly Go.Departure.lateStores }, { on := 5, ground := Go.Ground.textOnly Go.Departure.lateStores }, { on := 6, ground := Go.Ground.textOnly Go.Departure.lateStoresUnsure }, { on := 7, ground := Go.Ground.phase }, { on := 8, ground := Go.Ground.phase }, { on := 9, ground := Go.Ground.phase }], guard := none }) rfl (fun K hK => ?_) AllReadyH.nil)
          refine step_storeT rfl _ _ rfl (wr.heap.size) (by rfl) (X i) default 30 (by rfl) hn1 ?_
          intro w6 hx6 hF6
          have hb6 : Below wr.heap.size wr w6 := hb2.trans (hF6.below hb2.size (by simp))
          refine hK.out _ _ (or_ranges HR.out HR2.out hb hb6) (fun _ => ?_)
          clear hK K
          try simp only [Act.put]
          refine wpAnyH_ready (rs := [11]) (by kernel_rfl) (by simp) ?_
          refine (AllReadyH.cons (o := { dst := none, op := Go.Op.store 30 (Go.Operand.tmp 13) (Go.Operand.tmp 35), type := 0, pos := "law.go:160", after := #[{ on := 9, ground := Go.Ground.data }, { on := 7, ground := Go.Ground.data }, { on := 10, ground := Go.Ground.chain }, { on := 0, ground := Go.Ground.phase }, { on := 1, ground := Go.Ground.phase }, { on := 2, ground := Go.Ground.phase }, { on := 3, ground := Go.Ground.phase }, { on := 4, ground := Go.Ground.phase }, { on := 5, ground := Go.Ground.phase }, { on := 6, ground := Go.Ground.phase }, { on := 7, ground := Go.Ground.phase }, { on := 8, ground := Go.Ground.phase }, { on := 9, ground := Go.Ground.phase }, { on := 10, ground := Go.Ground.phase }], guard := none }) rfl (fun K hK => ?_) AllReadyH.nil)
          refine step_storeT rfl _ _ rfl (wr.heap.size + 1) (by rfl) (Y i) default 30 (by rfl) (hF6.heap hn2 (by simp)) ?_
          intro w7 hy7 hF7
          have hb7 : Below wr.heap.size wr w7 := hb6.trans (hF7.below hb6.size (by simp))
          refine hK.out _ _ (or_ranges HR.out HR2.out hb hb7) (fun _ => ?_)
          clear hK K
          try simp only [Act.put]
          refine wpAnyH_done (by kernel_rfl) (NoPanic.normal ?_) _
          try simp only [Act.put, List.setIfInBounds_toArray, List.set_cons_zero, List.set_cons_succ]
          go_wp2_with fail
          go_meet
          exact ⟨wr.heap.size, wr.heap.size + 1, rfl, rfl, hb7, hF7.heap hx6 (by simp), hy7, by omega, by omega, by omega⟩
        · refine step_allocT rfl rfl ?_
          have hb1 : Below wr.heap.size wr (wr.drew.alloc (.cells (default : Th).v 30)) := (Below.refl _ wr).drew.alloc (by simp) _
          refine hK.out _ _ (or_ranges HR.out HR2.out hb hb1) (fun _ => ?_)
          clear hK K
          try simp only [Act.put, List.setIfInBounds_toArray, List.set_cons_zero, List.set_cons_succ]
          refine wpAnyH_ready (rs := [8]) (by kernel_rfl) (by simp) ?_
          refine (AllReadyH.cons (o := { dst := some 12, op := Go.Op.alloc 30, type := 0, pos := "law.go:160", after := #[], guard := none }) rfl (fun K hK => ?_) AllReadyH.nil)
          refine step_allocT rfl rfl ?_
          rw [show (wr.drew.alloc (.cells (default : Th).v 30)).heap.size = wr.heap.size + 1 from by simp]
          have hb2 := Below.allocS hb1 (.cells (default : Th).v 30)
          have hn1 : ((wr.drew.alloc (.cells (default : Th).v 30)).alloc (.cells (default : Th).v 30)).heap[wr.heap.size]? = some (.cells (default : Th).v 30 (0, 0)) := two_news _ (heap_alloc_new wr.drew _) _
          have hn2 : ((wr.drew.alloc (.cells (default : Th).v 30)).alloc (.cells (default : Th).v 30)).heap[wr.heap.size + 1]? = some (.cells (default : Th).v 30 (0, 0)) := by have := heap_alloc_new (wr.drew.alloc (.cells (default : Th).v 30)) (.cells (default : Th).v 30); simpa using this
          refine hK.out _ _ (or_ranges HR.out HR2.out hb hb2) (fun _ => ?_)
          clear hK K
          try simp only [Act.put, List.setIfInBounds_toArray, List.set_cons_zero, List.set_cons_succ]
          generalize ((wr.drew.alloc (.cells (default : Th).v 30)).alloc (.cells (default : Th).v 30)) = w5 at *
          refine wpAnyH_ready (rs := [10]) (by kernel_rfl) (by simp) ?_
          refine (AllReadyH.cons (o := { dst := none, op := Go.Op.store 30 (Go.Operand.tmp 12) (Go.Operand.tmp 31), type := 0, pos := "law.go:160", after := #[{ on := 8, ground := Go.Ground.data }, { on := 3, ground := Go.Ground.data }, { on := 0, ground := Go.Ground.phase }, { on := 1, ground := Go.Ground.phase }, { on := 2, ground := Go.Ground.phase }, { on := 3, ground := Go.Ground.phase }, { on := 4, ground := Go.Ground.textOnly Go.Departure.lateStores }, { on := 5, ground := Go.Ground.textOnly Go.Departure.lateStores }, { on := 6, ground := Go.Ground.textOnly Go.Departure.lateStoresUnsure }, { on := 7, ground := Go.Ground.phase }, { on := 8, ground := Go.Ground.phase }, { on := 9, ground := Go.Ground.phase }], guard := none }) rfl (fun K hK => ?_) AllReadyH.nil)
          refine step_storeT rfl _ _ rfl (wr.heap.size + 1) (by rfl) (X i) default 30 (by rfl) hn2 ?_
          intro w6 hx6 hF6
          have hb6 : Below wr.heap.size wr w6 := hb2.trans (hF6.below hb2.size (by simp))
          refine hK.out _ _ (or_ranges HR.out HR2.out hb hb6) (fun _ => ?_)
          clear hK K
          try simp only [Act.put]
          refine wpAnyH_ready (rs := [11]) (by kernel_rfl) (by simp) ?_
          refine (AllReadyH.cons (o := { dst := none, op := Go.Op.store 30 (Go.Operand.tmp 13) (Go.Operand.tmp 35), type := 0, pos := "law.go:160", after := #[{ on := 9, ground := Go.Ground.data }, { on := 7, ground := Go.Ground.data }, { on := 10, ground := Go.Ground.chain }, { on := 0, ground := Go.Ground.phase }, { on := 1, ground := Go.Ground.phase }, { on := 2, ground := Go.Ground.phase }, { on := 3, ground := Go.Ground.phase }, { on := 4, ground := Go.Ground.phase }, { on := 5, ground := Go.Ground.phase }, { on := 6, ground := Go.Ground.phase }, { on := 7, ground := Go.Ground.phase }, { on := 8, ground := Go.Ground.phase }, { on := 9, ground := Go.Ground.phase }, { on := 10, ground := Go.Ground.phase }], guard := none }) rfl (fun K hK => ?_) AllReadyH.nil)
          refine step_storeT rfl _ _ rfl (wr.heap.size) (by rfl) (Y i) default 30 (by rfl) (hF6.heap hn1 (by simp)) ?_
          intro w7 hy7 hF7
          have hb7 : Below wr.heap.size wr w7 := hb6.trans (hF7.below hb6.size (by simp))
          refine hK.out _ _ (or_ranges HR.out HR2.out hb hb7) (fun _ => ?_)
          clear hK K
          try simp only [Act.put]
          refine wpAnyH_done (by kernel_rfl) (NoPanic.normal ?_) _
          try simp only [Act.put, List.setIfInBounds_toArray, List.set_cons_zero, List.set_cons_succ]
          go_wp2_with fail
          go_meet
          exact ⟨wr.heap.size + 1, wr.heap.size, rfl, rfl, hb7, hF7.heap hx6 (by simp), hy7, by omega, by omega, by omega⟩
      case rest =>
        obtain ⟨gx, gy, rfl, rfl, hV⟩ := hcut
        have HV : Hid (OrV wr wc gx gy (X i) (Y i)) := hV
        clear hV HR HR2
        go_upto_if 41 with fail
        go_cut [] (fun w9 => OrV wr w9 gx gy (X i) (if decide ((i : Int) < wrap64 ((IntKind.u64.wrap at_).tmod 30)) then X i else Y i))
        case first =>
          have HX9 : Hid (wc.rangeAt gx 0 (X i).l) := th_whole HV.out.hx
          by_cases hc : (i : Int) < wrap64 ((IntKind.u64.wrap at_).tmod 30)
          · go_wp2_with (first | (refine wpList_load_mid rfl 30 _ rfl gx 0 rfl (X i).l _ HX9.out Try.underlying30 rfl (tszv _) ?_) | (refine wpList_storeT rfl _ _ rfl gy rfl (X i) (Y i) 30 rfl HV.out.hy ?_; intro w9 hy9 hF9) | fail)
            go_meet
            rw [if_pos (by simpa using hc)]
            exact HV.out.copy hF9 hy9
          · have hc2 : wrap64 ((IntKind.u64.wrap at_).tmod 30) ≤ (i : Int) := by omega
            go_wp2_with fail
            go_meet
            rw [if_neg (by simpa using hc)]
            exact HV.out
        case rest =>
          generalize hy1 : (if decide ((i : Int) < wrap64 ((IntKind.u64.wrap at_).tmod 30)) then X i else Y i) = y1 at hcut
          have HV2 : Hid (OrV wr wc gx gy (X i) y1) := hcut
          have HY1 : Hid ((if decide ((i : Int) < wrap64 ((IntKind.u64.wrap at_).tmod 30)) then X i else Y i) = y1) := hy1
          have hk0 := th_cell hcut.hx 0 _ rfl
          have hyc := th_cell hcut.hy 0 _ rfl
          have hyf := th_free hcut.hy 0
          clear hcut HV hy1
          go_upto_region 11 with fail
          have HV3 : Hid (OrV wr (wc.setCell ⟨gy, 0, none⟩ (.int .i64 (X i).k)) gx gy (X i) (oth X Y at_ i)) := by
            have := HV2.out.setK (X i).k
            rw [← HY1.out] at this
            exact this
          generalize (wc.setCell ⟨gy, 0, none⟩ (.int .i64 (X i).k)) = w10 at *
          clear hk0 hyc hyf HV2 HY1
          obtain ⟨⟨g, h, a1, a2, a3, a4, a5⟩, _⟩ := HW.out
          have hbd : Below wr.heap.size wr w10.drew := HV3.out.below.drew
          have hbW : Below W.heap.size W w10.drew := Below.transS hb hbd
          have b1 := a1.keepB hbd
          have b2 := a2.keepB hbd
          have hyy : ThOk W (oth X Y at_ i) := oth_ok HTx.out HTy.out
          have hxl := HX.out i (by omega)
          have hyl := oth_len (at_ := at_) hxl (HY.out i (by omega))
          have hL := laidL_len X i (fun j hj => HX.out j (by omega))
          have hM := laidL_len (oth X Y at_) i (fun j hj => oth_len (HX.out j (by omega)) (HY.out j (by omega)))
          have h10 : w10.drew.heap[gx]? = some (.cells (X i).v 30 (0, 0)) ∧ w10.drew.heap[gy]? = some (.cells (oth X Y at_ i).v 30 (0, 0)) := ⟨HV3.out.hx, HV3.out.hy⟩
          generalize hYY : oth X Y at_ i = yy at *
          have HYY : Hid (oth X Y at_ i = yy) := hYY
          clear hYY
          refine wp_region_noPanic ?_
          refine wp_region_held_drew (S := fun w' => w'.rangeAt gx 0 (X i).l ∧ w'.rangeAt gy 0 yy.l) (by kernel_rfl) (or_whole h10) (fun hHeld => ?_)
          refine wpAnyH_take (i := 0) (oi := { dst := some 46, op := Go.Op.move (Go.Operand.tmp 8), type := 23, pos := "law.go:165", after := #[], guard := none }) (v := ?_) rfl (by kernel_rfl) (by kernel_rfl) (by kernel_rfl) (fun _ _ _ h => h) (Or.inl ⟨by rfl, ?_⟩) (by assumption) ?_
          rotate_left
          · intro wz hSw; (try dsimp only at hSw); go_simp; (try with_reducible rfl)
          try simp only [Act.put, List.setIfInBounds_toArray, List.set_cons_zero, List.set_cons_succ]
          refine wpAnyH_take (i := 1) (oi := { dst := some 47, op := Go.Op.load 30 (Go.Operand.tmp 12), type := 30, pos := "law.go:165", after := #[], guard := none }) rfl (by kernel_rfl) (by kernel_rfl) (by kernel_rfl) (fun _ _ _ h => h) (yieldsIf_load_mid (by rfl) _ _ rfl gx 0 rfl (X i).l _ (fun _ h => h.1) Try.underlying30 rfl (tszv _)) (by assumption) ?_
          try simp only [Act.put, List.setIfInBounds_toArray, List.set_cons_zero, List.set_cons_succ]
          refine wpAnyH_take (i := 3) (oi := { dst := some 49, op := Go.Op.move (Go.Operand.tmp 9), type := 23, pos := "law.go:165", after := #[], guard := none }) (v := ?_) rfl (by kernel_rfl) (by kernel_rfl) (by kernel_rfl) (fun _ _ _ h => h) (Or.inl ⟨by rfl, ?_⟩) (by assumption) ?_
          rotate_left
          · intro wz hSw; (try dsimp only at hSw); go_simp; (try with_reducible rfl)
          try simp only [Act.put, List.setIfInBounds_toArray, List.set_cons_zero, List.set_cons_succ]
          refine wpAnyH_take (i := 4) (oi := { dst := some 50, op := Go.Op.load 30 (Go.Operand.tmp 13), type := 30, pos := "law.go:165", after := #[], guard := none }) rfl (by kernel_rfl) (by kernel_rfl) (by kernel_rfl) (fun _ _ _ h => h) (yieldsIf_load_mid (by rfl) _ _ rfl gy 0 rfl yy.l _ (fun _ h => h.2) Try.underlying30 rfl (tszv _)) (by assumption) ?_
          try simp only [Act.put, List.setIfInBounds_toArray, List.set_cons_zero, List.set_cons_succ]
          refine wpAnyH_ready (rs := [2]) (by kernel_rfl) (by simp) ?_
          refine (AllReadyH.cons (o := { dst := some 48, op := Go.Op.call { callee := Go.Callee.value (Go.Operand.func 7), args := #[Go.Operand.tmp 46, Go.Operand.tmp 47], argTypes := #[23, 30] }, type := 23, pos := "law.go:165", after := #[{ on := 0, ground := Go.Ground.data }, { on := 1, ground := Go.Ground.data }], guard := none }) rfl (fun K hK => ?_) AllReadyH.nil)
          go_simp
          refine (lay_any W.heap.size W.heap.size g (laidL X i) (X i) _ b1 (by omega) (HTx.out.below hbW) (HTx.out.apart2 a1)).mono ?_
          rintro e w11 ⟨rfl, hG⟩
          obtain ⟨g', c1, c2, c3, c4, hb11⟩ := OrW.one b1 b2 a3 a4 a5 hbW hG
          have h11 := or_keep h10.1 h10.2 HV3.out.gex HV3.out.gey a1 hG.frm
          refine hK.out _ _ (or_whole h11) (fun _ => ?_)
          clear hK K
          try simp only [Act.put, List.setIfInBounds_toArray, List.set_cons_zero, List.set_cons_succ]
          refine wpAnyH_ready (rs := [5]) (by kernel_rfl) (by simp) ?_
          refine (AllReadyH.cons (o := { dst := some 51, op := Go.Op.call { callee := Go.Callee.value (Go.Operand.func 7), args := #[Go.Operand.tmp 49, Go.Operand.tmp 50], argTypes := #[23, 30] }, type := 23, pos := "law.go:165", after := #[{ on := 3, ground := Go.Ground.data }, { on := 4, ground := Go.Ground.data }, { on := 2, ground := Go.Ground.chain }], guard := none }) rfl (fun K hK => ?_) AllReadyH.nil)
          go_simp
          refine (lay_any (W.heap.size + 1) W.heap.size h (laidL (oth X Y at_) i) yy _ c2 (by omega) (hyy.below hb11) (hyy.apart2 a2)).mono ?_
          rintro e w12 ⟨rfl, hG2⟩
          have hW12 := OrW.two c1 c2 c3 a4 c4 hb11 hG2
          have h12 := or_keep h11.1 h11.2 HV3.out.gex HV3.out.gey a2 hG2.frm
          refine hK.out _ _ (or_whole h12) (fun _ => ?_)
          clear hK K
          try simp only [Act.put, List.setIfInBounds_toArray, List.set_cons_zero, List.set_cons_succ]
          refine wpAnyH_take (i := 6) (oi := { dst := some 8, op := Go.Op.assign (Go.Operand.tmp 48), type := 23, pos := "law.go:165", after := #[{ on := 2, ground := Go.Ground.data }, { on := 5, ground := Go.Ground.chain }, { on := 0, ground := Go.Ground.phase }, { on := 1, ground := Go.Ground.phase }, { on := 2, ground := Go.Ground.phase }, { on := 3, ground := Go.Ground.textOnly Go.Departure.lateStores }, { on := 4, ground := Go.Ground.textOnly Go.Departure.lateStores }, { on := 5, ground := Go.Ground.textOnly Go.Departure.lateStoresUnsure }], guard := none }) (v := ?_) rfl (by kernel_rfl) (by kernel_rfl) (by kernel_rfl) (fun _ _ _ h => h) (Or.inl ⟨by rfl, ?_⟩) (by assumption) ?_
          rotate_left
          · intro wz hSw; (try dsimp only at hSw); go_simp; (try with_reducible rfl)
          try simp only [Act.put, List.setIfInBounds_toArray, List.set_cons_zero, List.set_cons_succ]
          refine wpAnyH_take (i := 7) (oi := { dst := some 9, op := Go.Op.assign (Go.Operand.tmp 51), type := 23, pos := "law.go:165", after := #[{ on := 5, ground := Go.Ground.data }, { on := 6, ground := Go.Ground.chain }, { on := 0, ground := Go.Ground.phase }, { on := 1, ground := Go.Ground.phase }, { on := 2, ground := Go.Ground.phase }, { on := 3, ground := Go.Ground.phase }, { on := 4, ground := Go.Ground.phase }, { on := 5, ground := Go.Ground.phase }, { on := 6, ground := Go.Ground.phase }], guard := none }) (v := ?_) rfl (by kernel_rfl) (by kernel_rfl) (by kernel_rfl) (fun _ _ _ h => h) (Or.inl ⟨by rfl, ?_⟩) (by assumption) ?_
          rotate_left
          · intro wz hSw; (try dsimp only at hSw); go_simp; (try with_reducible rfl)
          try simp only [Act.put, List.setIfInBounds_toArray, List.set_cons_zero, List.set_cons_succ]
          refine wpAnyH_done (by kernel_rfl) (NoPanic.normal ?_) _
          try simp only [Act.put, List.setIfInBounds_toArray, List.set_cons_zero, List.set_cons_succ]
          have HPQ : Hid (Parts (laidL X (i + 1)) (laidL (oth X Y at_) (i + 1)) (if o = 0 then ordT (X i) yy else o)) := by
            have := HP.out.next (by_parts HTx.out (y := oth X Y at_ i) (oth_ok HTx.out HTy.out) rfl)
            rw [HYY.out] at this
            show Parts _ _ _
            rw [laidL, laidL, HYY.out]
            exact this
          have HW12 : Hid (OrW W w12 (laidL X (i + 1)) (laidL (oth X Y at_) (i + 1))) := by
            show OrW _ _ _ _
            rw [laidL, laidL, HYY.out]
            exact hW12
          have hkk : (X i).k = yy.k := by rw [← HYY.out]; rfl
          have HXX : Hid (ThOk w12 (X i)) := HTx.out.below hW12.below
          have HYY2 : Hid (ThOk w12 yy) := hyy.below hW12.below
          have H12 : Hid (w12.heap[gx]? = some (.cells (X i).v 30 (0, 0)) ∧ w12.heap[gy]? = some (.cells yy.v 30 (0, 0))) := h12
          have HKK : Hid ((X i).k = yy.k) := hkk
          clear hbd hbW b1 b2 a1 a2 a3 a4 a5 hyy hxl hyl hL hM h10 hHeld hG c1 c2 c3 c4 hb11 h11 hG2 hW12 h12 HV3 HYY HW hkk HP HTx HTy
          by_cases ho : o = 0
          · obtain rfl := ho
            have x0 := th_cell H12.out.1 0 _ rfl
            rcases (X i).kd_cases with hk | hk | hk | hk
            all_goals
              have e0 : (wrap64 ((IntKind.u64.wrap (X i).k).tmod 4) == 0) = decide ((X i).kd = 0) := rfl
              have e1 : (wrap64 ((IntKind.u64.wrap (X i).k).tmod 4) == 1) = decide ((X i).kd = 1) := rfl
              have e2 : (wrap64 ((IntKind.u64.wrap (X i).k).tmod 4) == 2) = decide ((X i).kd = 2) := rfl
              have HK : Hid ((X i).kd = _) := hk
              rw [hk] at e0 e1 e2
              simp only [Int.reduceEq, decide_true, decide_false] at e0 e1 e2
              clear hk
            · have x1 := th_cell H12.out.1 1 _ rfl
              have y1 := th_cell H12.out.2 1 _ rfl
              go_wp2_with (first | (go_at_call 18; refine (compare_any _ _ _).mono ?_; rintro e wq ⟨rfl, rfl⟩) | fail)
              refine ⟨⟨i + 1, _, by omega, rfl, rfl, rfl, by go_num, HW12.out, ?_⟩, by simp [intOf]; omega⟩
              have := HPQ.out
              rwa [if_pos trivial, ordT, HK.out, if_pos rfl, ← cmpv_u HXX.out.n HYY2.out.n] at this
            · have x1 := th_cell H12.out.1 1 _ rfl
              have y1 := th_cell H12.out.2 1 _ rfl
              go_wp2_with (first | (go_at_call 18; refine (compare_any _ _ _).mono ?_; rintro e wq ⟨rfl, rfl⟩) | fail)
              refine ⟨⟨i + 1, _, by omega, rfl, rfl, rfl, by go_num, HW12.out, ?_⟩, by simp [intOf]; omega⟩
              have := HPQ.out
              rwa [if_pos trivial, ordT, HK.out, if_neg (by decide), if_pos rfl, ← cmpv_sgn] at this
            · have x2 := th_cell H12.out.1 2 _ rfl
              have y2 := th_cell H12.out.2 2 _ rfl
              have cx := conv_any _ _ _ _ w12 HXX.out.b HXX.out.nil
              have cy := conv_any _ _ _ _ w12 HYY2.out.b HYY2.out.nil
              go_wp2_with (first | (go_at_call 18; refine (compare_any _ _ _).mono ?_; rintro e wq ⟨rfl, rfl⟩) | fail)
              refine ⟨⟨i + 1, _, by omega, rfl, rfl, rfl, by go_num, HW12.out, ?_⟩, by simp [intOf]; omega⟩
              have := HPQ.out
              rw [if_pos trivial, ordT, HK.out, if_neg (by decide), if_neg (by decide), if_pos rfl, ← toU_cmp _ _ (lB_bd HXX.out.b.1) (lB_bd HYY2.out.b.1), ← strB_list, ← strB_list] at this
              exact this
            · have heq := or_eq HXX.out.h HYY2.out.h
              have hS := or_sums (w := w12.drew) H12.out HXX.out.h HYY2.out.h
              have hi : (Try.prog.info? 28).map (·.size) = some (bl (X i).h 32).length := by rw [bl_length]; exact hsz
              have hi2 : (Try.prog.info? 28).map (·.size) = some (bl yy.h 32).length := by rw [bl_length]; exact hsz
              have HI : Hid ((Try.prog.info? 28).map (·.size) = some (bl (X i).h 32).length) := hi
              have HI2 : Hid ((Try.prog.info? 28).map (·.size) = some (bl yy.h 32).length) := hi2
              clear hi hi2
              go_upto_region 14 with fail
              refine wp_region_noPanic ?_
              refine wp_region_held_drew (S := fun w' => w'.rangeAt gx 3 (bl (X i).h 32) ∧ w'.rangeAt gy 3 (bl yy.h 32) ∧ (convert 25 9 (.slice (some ⟨gx, 3, none⟩) 32 32)).run Try.prog w' = .ok (.string (strB (X i).h 32)) w' ∧ (convert 25 9 (.slice (some ⟨gy, 3, none⟩) 32 32)).run Try.prog w' = .ok (.string (strB yy.h 32)) w') (by kernel_rfl) hS (fun hHeld => ?_)
              refine wpAnyH_take (i := 0) (oi := { dst := some 59, op := Go.Op.fieldAddr 30 (Go.Operand.tmp 12) 3, type := 0, pos := "law.go:177", after := #[], guard := none }) (v := ?_) rfl (by kernel_rfl) (by kernel_rfl) (by kernel_rfl) (fun _ _ _ h => h) (Or.inl ⟨by rfl, ?_⟩) (by assumption) ?_
              rotate_left
              · intro wz hSw; (try dsimp only at hSw); go_simp; (try with_reducible rfl)
              try simp only [Act.put, List.setIfInBounds_toArray, List.set_cons_zero, List.set_cons_succ]
              refine wpAnyH_take (i := 1) (oi := { dst := some 60, op := Go.Op.slice 28 (Go.Operand.tmp 59) none none none, type := 25, pos := "law.go:177", after := #[{ on := 0, ground := Go.Ground.data }], guard := none }) (v := ?_) rfl (by kernel_rfl) (by kernel_rfl) (by kernel_rfl) (fun _ _ _ h => h) (Or.inl ⟨by rfl, ?_⟩) (by assumption) ?_
              rotate_left
              · intro wz hSw; (try dsimp only at hSw); go_simp; (try with_reducible rfl)
              try simp only [Act.put, List.setIfInBounds_toArray, List.set_cons_zero, List.set_cons_succ]
              refine wpAnyH_take (i := 2) (oi := { dst := some 61, op := Go.Op.convert 25 9 (Go.Operand.tmp 60), type := 9, pos := "law.go:177", after := #[{ on := 1, ground := Go.Ground.data }], guard := none }) (v := ?_) rfl (by kernel_rfl) (by kernel_rfl) (by kernel_rfl) (fun _ _ _ h => h) (Or.inl ⟨by rfl, ?_⟩) (by assumption) ?_
              rotate_left
              · intro wz hSw; (try dsimp only at hSw); go_simp; (try with_reducible rfl)
              try simp only [Act.put, List.setIfInBounds_toArray, List.set_cons_zero, List.set_cons_succ]
              refine wpAnyH_take (i := 3) (oi := { dst := some 62, op := Go.Op.fieldAddr 30 (Go.Operand.tmp 13) 3, type := 0, pos := "law.go:177", after := #[], guard := none }) (v := ?_) rfl (by kernel_rfl) (by kernel_rfl) (by kernel_rfl) (fun _ _ _ h => h) (Or.inl ⟨by rfl, ?_⟩) (by assumption) ?_
              rotate_left
              · intro wz hSw; (try dsimp only at hSw); go_simp; (try with_reducible rfl)
              try simp only [Act.put, List.setIfInBounds_toArray, List.set_cons_zero, List.set_cons_succ]
              refine wpAnyH_take (i := 4) (oi := { dst := some 63, op := Go.Op.slice 28 (Go.Operand.tmp 62) none none none, type := 25, pos := "law.go:177", after := #[{ on := 3, ground := Go.Ground.data }], guard := none }) (v := ?_) rfl (by kernel_rfl) (by kernel_rfl) (by kernel_rfl) (fun _ _ _ h => h) (Or.inl ⟨by rfl, ?_⟩) (by assumption) ?_
              rotate_left
              · intro wz hSw; (try dsimp only at hSw); go_simp; (try with_reducible rfl)
              try simp only [Act.put, List.setIfInBounds_toArray, List.set_cons_zero, List.set_cons_succ]
              refine wpAnyH_take (i := 5) (oi := { dst := some 64, op := Go.Op.convert 25 9 (Go.Operand.tmp 63), type := 9, pos := "law.go:177", after := #[{ on := 4, ground := Go.Ground.data }], guard := none }) (v := ?_) rfl (by kernel_rfl) (by kernel_rfl) (by kernel_rfl) (fun _ _ _ h => h) (Or.inl ⟨by rfl, ?_⟩) (by assumption) ?_
              rotate_left
              · intro wz hSw; (try dsimp only at hSw); go_simp; (try with_reducible rfl)
              try simp only [Act.put, List.setIfInBounds_toArray, List.set_cons_zero, List.set_cons_succ]
              refine wpAnyH_take (i := 6) (oi := { dst := some 65, op := Go.Op.binOp Go.BinOp.lss 9 (Go.Operand.tmp 61) (Go.Operand.tmp 64) 9, type := 4, pos := "law.go:177", after := #[{ on := 2, ground := Go.Ground.data }, { on := 5, ground := Go.Ground.data }], guard := none }) (v := ?_) rfl (by kernel_rfl) (by kernel_rfl) (by kernel_rfl) (fun _ _ _ h => h) (Or.inl ⟨by rfl, ?_⟩) (by assumption) ?_
              rotate_left
              · intro wz hSw; (try dsimp only at hSw); go_simp; (try with_reducible rfl)
              try simp only [Act.put, List.setIfInBounds_toArray, List.set_cons_zero, List.set_cons_succ]
              refine wpAnyH_take (i := 7) (oi := { dst := some 66, op := Go.Op.fieldAddr 30 (Go.Operand.tmp 12) 3, type := 0, pos := "law.go:177", after := #[], guard := none }) (v := ?_) rfl (by kernel_rfl) (by kernel_rfl) (by kernel_rfl) (fun _ _ _ h => h) (Or.inl ⟨by rfl, ?_⟩) (by assumption) ?_
              rotate_left
              · intro wz hSw; (try dsimp only at hSw); go_simp; (try with_reducible rfl)
              try simp only [Act.put, List.setIfInBounds_toArray, List.set_cons_zero, List.set_cons_succ]
              refine wpAnyH_take (i := 8) (oi := { dst := some 67, op := Go.Op.load 28 (Go.Operand.tmp 66), type := 28, pos := "law.go:177", after := #[{ on := 7, ground := Go.Ground.data }], guard := none }) rfl (by kernel_rfl) (by kernel_rfl) (by kernel_rfl) (fun _ _ _ h => h) (yieldsIf_load_mid (by rfl) _ _ rfl gx 3 rfl (bl (X i).h 32) _ (fun _ h => h.1) Try.underlying28 rfl HI.out) (by assumption) ?_
              try simp only [Act.put, List.setIfInBounds_toArray, List.set_cons_zero, List.set_cons_succ]
              refine wpAnyH_take (i := 9) (oi := { dst := some 68, op := Go.Op.fieldAddr 30 (Go.Operand.tmp 13) 3, type := 0, pos := "law.go:177", after := #[], guard := none }) (v := ?_) rfl (by kernel_rfl) (by kernel_rfl) (by kernel_rfl) (fun _ _ _ h => h) (Or.inl ⟨by rfl, ?_⟩) (by assumption) ?_
              rotate_left
              · intro wz hSw; (try dsimp only at hSw); go_simp; (try with_reducible rfl)
              try simp only [Act.put, List.setIfInBounds_toArray, List.set_cons_zero, List.set_cons_succ]
              refine wpAnyH_take (i := 10) (oi := { dst := some 69, op := Go.Op.load 28 (Go.Operand.tmp 68), type := 28, pos := "law.go:177", after := #[{ on := 9, ground := Go.Ground.data }], guard := none }) rfl (by kernel_rfl) (by kernel_rfl) (by kernel_rfl) (fun _ _ _ h => h) (yieldsIf_load_mid (by rfl) _ _ rfl gy 3 rfl (bl yy.h 32) _ (fun _ h => h.2.1) Try.underlying28 rfl HI2.out) (by assumption) ?_
              try simp only [Act.put, List.setIfInBounds_toArray, List.set_cons_zero, List.set_cons_succ]
              refine wpAnyH_take (i := 11) (oi := { dst := some 70, op := Go.Op.binOp Go.BinOp.eql 28 (Go.Operand.tmp 67) (Go.Operand.tmp 69) 28, type := 4, pos := "law.go:177", after := #[{ on := 8, ground := Go.Ground.data }, { on := 10, ground := Go.Ground.data }], guard := none }) (v := ?_) rfl (by kernel_rfl) (by kernel_rfl) (by kernel_rfl) (fun _ _ _ h => h) (Or.inl ⟨by rfl, ?_⟩) (by assumption) ?_
              rotate_left
              · intro wz hSw; (try dsimp only at hSw); go_simp; (try with_reducible rfl)
              try simp only [Act.put, List.setIfInBounds_toArray, List.set_cons_zero, List.set_cons_succ]
              refine wpAnyH_ready (rs := [12]) (by kernel_rfl) (by simp) ?_
              refine (AllReadyH.cons (o := { dst := some 71, op := Go.Op.call { callee := Go.Callee.value (Go.Operand.func 18), args := #[Go.Operand.tmp 65, Go.Operand.tmp 70], argTypes := #[4, 4] }, type := 3, pos := "law.go:177", after := #[{ on := 6, ground := Go.Ground.data }, { on := 11, ground := Go.Ground.data }], guard := none }) rfl (fun K hK => ?_) AllReadyH.nil)
              go_simp
              refine (compare_any _ _ _).mono ?_
              rintro e wq ⟨rfl, rfl⟩
              refine hK.out _ _ hS (fun _ => ?_)
              clear hK K
              try simp only [Act.put, List.setIfInBounds_toArray, List.set_cons_zero, List.set_cons_succ]
              refine wpAnyH_take (i := 13) (oi := { dst := some 10, op := Go.Op.assign (Go.Operand.tmp 71), type := 3, pos := "law.go:177", after := #[{ on := 12, ground := Go.Ground.data }, { on := 12, ground := Go.Ground.chain }, { on := 0, ground := Go.Ground.phase }, { on := 1, ground := Go.Ground.phase }, { on := 2, ground := Go.Ground.phase }, { on := 3, ground := Go.Ground.phase }, { on := 4, ground := Go.Ground.phase }, { on := 5, ground := Go.Ground.phase }, { on := 6, ground := Go.Ground.phase }, { on := 7, ground := Go.Ground.phase }, { on := 8, ground := Go.Ground.phase }, { on := 9, ground := Go.Ground.phase }, { on := 10, ground := Go.Ground.phase }, { on := 11, ground := Go.Ground.phase }, { on := 12, ground := Go.Ground.phase }], guard := none }) (v := ?_) rfl (by kernel_rfl) (by kernel_rfl) (by kernel_rfl) (fun _ _ _ h => h) (Or.inl ⟨by rfl, ?_⟩) (by assumption) ?_
              rotate_left
              · intro wz hSw; (try dsimp only at hSw); go_simp; (try with_reducible rfl)
              try simp only [Act.put, List.setIfInBounds_toArray, List.set_cons_zero, List.set_cons_succ]
              refine wpAnyH_done (by kernel_rfl) (NoPanic.normal ?_) _
              try simp only [Act.put, List.setIfInBounds_toArray, List.set_cons_zero, List.set_cons_succ]
              go_wp2
              refine ⟨⟨i + 1, _, by omega, rfl, rfl, rfl, by go_num, HW12.out.keep (Below.refl _ _).drew, ?_⟩, by simp [intOf]; omega⟩
              have := HPQ.out
              rw [if_pos rfl, ordT, HK.out, if_neg (by decide), if_neg (by decide), if_neg (by decide), hB_lB, hB_lB, ← toU_cmp _ _ (lB_bd HXX.out.h) (lB_bd HYY2.out.h), ← hq_toU, ← strB_list, ← strB_list] at this
              exact this
          · have ho' : (o == 0) = false := by simpa using ho
            have HO : Hid (¬ o = 0) := ho
            go_wp2
            go_roundw
            case rel => exact ⟨i + 1, o, by omega, rfl, rfl, rfl, by go_num, HW12.out, by have := HPQ.out; rwa [if_neg HO.out] at this⟩
            case measure => simp [intOf]; omega
    · obtain rfl : i = m := by omega
      have hL := laidL_len X i (fun j hj => HX.out j (by omega))
      have hM := laidL_len (oth X Y at_) i (fun j hj => oth_len (HX.out j (by omega)) (HY.out j (by omega)))
      have hcmp := HP.out.cmp
      obtain ⟨⟨g, h, a1, a2, -, -, -⟩, -⟩ := HW.out
      clear HP HW HT HT2 HX HY
      generalize laidL X i = L at *
      generalize laidL (oth X Y at_) i = M at *
      have HCM : Hid (cmpv (Op.bytesLess (strB (fn L) L.length).toList (strB (fn M) M.length).toList) ((strB (fn L) L.length).toList == (strB (fn M) M.length).toList) = o) := by
        show _ = _
        rw [strB_list, strB_list, lB_fn, lB_fn, toU_cmp _ _ a1.bd a2.bd]
        exact hcmp
      have A1 : Hid (WrAt wr W.heap.size W.heap.size g L) := a1
      have A2 : Hid (WrAt wr W.heap.size (W.heap.size + 1) h M) := a2
      clear a1 a2 hcmp
      go_upto_region 21 with fail
      go_cut [14, 15] (fun a c w7 => a = .string (strB (fn L) L.length) ∧ c = .string (strB (fn M) M.length) ∧ Below wr.heap.size wr w7)
      case first =>
          refine wp_region_noPanic ?_
          refine wp_region_held_drew (S := fun w' => Below wr.heap.size wr w') (by kernel_rfl) ((Below.refl wr.heap.size wr).drew) (fun hHeld => ?_)
          refine wpAnyH_take (i := 0) (oi := { dst := some 117, op := Go.Op.move (Go.Operand.tmp 8), type := 23, pos := "law.go:180", after := #[], guard := none }) (v := ?_) rfl (by kernel_rfl) (by kernel_rfl) (by kernel_rfl) (fun _ _ _ h => h) (Or.inl ⟨by rfl, ?_⟩) (by assumption) ?_
          rotate_left
          · intro wz hSw; (try dsimp only at hSw); go_simp; (try with_reducible rfl)
          try simp only [Act.put, List.setIfInBounds_toArray, List.set_cons_zero, List.set_cons_succ]
          refine wpAnyH_take (i := 3) (oi := { dst := some 120, op := Go.Op.move (Go.Operand.tmp 9), type := 23, pos := "law.go:180", after := #[], guard := none }) (v := ?_) rfl (by kernel_rfl) (by kernel_rfl) (by kernel_rfl) (fun _ _ _ h => h) (Or.inl ⟨by rfl, ?_⟩) (by assumption) ?_
          rotate_left
          · intro wz hSw; (try dsimp only at hSw); go_simp; (try with_reducible rfl)
          try simp only [Act.put, List.setIfInBounds_toArray, List.set_cons_zero, List.set_cons_succ]
          refine wpAnyH_ready (rs := [1]) (by kernel_rfl) (by simp) ?_
          refine (AllReadyH.cons (o := { dst := some 118, op := Go.Op.call { callee := Go.Callee.value (Go.Operand.func 9), args := #[Go.Operand.tmp 117], argTypes := #[23] }, type := 25, pos := "law.go:180", after := #[{ on := 0, ground := Go.Ground.data }], guard := none }) rfl (fun K hK => ?_) AllReadyH.nil)
          go_simp
          refine (wrDone_any W.heap.size W.heap.size g L _ (A1.out.keepB ((Below.refl wr.heap.size wr).drew)) (by omega)).mono ?_
          rintro e w1 ⟨ad1, cap1, rfl, k1, k2, k3, k4, hb1⟩
          have hB1 := Below.transS (Below.refl wr.heap.size wr).drew hb1
          have hc1 := conv_any ad1 _ cap1 _ w1 k2 k3
          have HS1 : Hid (SlAt w1 ad1 L.length (fn L)) := k2
          have HN1 : Hid (ad1 = none → L.length = 0 ∧ cap1 = 0) := k3
          clear k1 k2 k3 k4
          refine hK.out _ _ hB1 (fun _ => ?_)
          clear hK K
          try simp only [Act.put, List.setIfInBounds_toArray, List.set_cons_zero, List.set_cons_succ]
          refine wpAnyH_ready (rs := [2, 4]) (by kernel_rfl) (by simp) ?_
          refine (AllReadyH.cons (o := { dst := some 119, op := Go.Op.convert 25 9 (Go.Operand.tmp 118), type := 9, pos := "law.go:180", after := #[{ on := 1, ground := Go.Ground.data }], guard := none }) rfl (fun K hK => ?_) (AllReadyH.cons (o := { dst := some 121, op := Go.Op.call { callee := Go.Callee.value (Go.Operand.func 9), args := #[Go.Operand.tmp 120], argTypes := #[23] }, type := 25, pos := "law.go:180", after := #[{ on := 3, ground := Go.Ground.data }, { on := 1, ground := Go.Ground.chain }], guard := none }) rfl (fun K hK => ?_) AllReadyH.nil))
          · go_simp
            refine hK.out _ _ hB1 (fun _ => ?_)
            clear hK K
            try simp only [Act.put, List.setIfInBounds_toArray, List.set_cons_zero, List.set_cons_succ]
            refine wpAnyH_ready (rs := [4]) (by kernel_rfl) (by simp) ?_
            refine (AllReadyH.cons (o := { dst := some 121, op := Go.Op.call { callee := Go.Callee.value (Go.Operand.func 9), args := #[Go.Operand.tmp 120], argTypes := #[23] }, type := 25, pos := "law.go:180", after := #[{ on := 3, ground := Go.Ground.data }, { on := 1, ground := Go.Ground.chain }], guard := none }) rfl (fun K hK => ?_) AllReadyH.nil)
            go_simp
            refine (wrDone_any (W.heap.size + 1) W.heap.size h M _ (A2.out.keepB hB1) (by omega)).mono ?_
            rintro e w2 ⟨ad2, cap2, rfl, k1, k2, k3, k4, hb2⟩
            have hB2 := Below.transS hB1 hb2
            have hc2 := conv_any ad2 _ cap2 _ w2 k2 k3
            clear k1 k2 k3 k4
            refine hK.out _ _ hB2 (fun _ => ?_)
            clear hK K
            try simp only [Act.put, List.setIfInBounds_toArray, List.set_cons_zero, List.set_cons_succ]
            refine wpAnyH_take (i := 6) (oi := { dst := some 14, op := Go.Op.assign (Go.Operand.tmp 119), type := 9, pos := "law.go:180", after := #[{ on := 2, ground := Go.Ground.data }, { on := 4, ground := Go.Ground.chain }, { on := 0, ground := Go.Ground.phase }, { on := 1, ground := Go.Ground.phase }, { on := 2, ground := Go.Ground.phase }, { on := 3, ground := Go.Ground.textOnly Go.Departure.lateStores }, { on := 4, ground := Go.Ground.textOnly Go.Departure.lateStoresUnsure }, { on := 5, ground := Go.Ground.textOnly Go.Departure.lateStores }], guard := none }) (v := ?_) rfl (by kernel_rfl) (by kernel_rfl) (by kernel_rfl) (fun _ _ _ h => h) (Or.inl ⟨by rfl, ?_⟩) (by assumption) ?_
            rotate_left
            · intro wz hSw; (try dsimp only at hSw); go_simp; (try with_reducible rfl)
            try simp only [Act.put, List.setIfInBounds_toArray, List.set_cons_zero, List.set_cons_succ]
            refine wpAnyH_ready (rs := [5]) (by kernel_rfl) (by simp) ?_
            refine (AllReadyH.cons (o := { dst := some 122, op := Go.Op.convert 25 9 (Go.Operand.tmp 121), type := 9, pos := "law.go:180", after := #[{ on := 4, ground := Go.Ground.data }, { on := 6, ground := Go.Ground.gcOnly Go.Departure.lateStores }], guard := none }) rfl (fun K hK => ?_) AllReadyH.nil)
            go_simp
            refine hK.out _ _ hB2 (fun _ => ?_)
            clear hK K
            try simp only [Act.put, List.setIfInBounds_toArray, List.set_cons_zero, List.set_cons_succ]
            refine wpAnyH_take (i := 7) (oi := { dst := some 15, op := Go.Op.assign (Go.Operand.tmp 122), type := 9, pos := "law.go:180", after := #[{ on := 5, ground := Go.Ground.data }, { on := 6, ground := Go.Ground.chain }, { on := 0, ground := Go.Ground.phase }, { on := 1, ground := Go.Ground.phase }, { on := 2, ground := Go.Ground.phase }, { on := 3, ground := Go.Ground.phase }, { on := 4, ground := Go.Ground.phase }, { on := 5, ground := Go.Ground.phase }, { on := 6, ground := Go.Ground.phase }], guard := none }) (v := ?_) rfl (by kernel_rfl) (by kernel_rfl) (by kernel_rfl) (fun _ _ _ h => h) (Or.inl ⟨by rfl, ?_⟩) (by assumption) ?_
            rotate_left
            · intro wz hSw; (try dsimp only at hSw); go_simp; (try with_reducible rfl)
            try simp only [Act.put, List.setIfInBounds_toArray, List.set_cons_zero, List.set_cons_succ]
            refine wpAnyH_done (by kernel_rfl) (NoPanic.normal ?_) _
            try simp only [Act.put, List.setIfInBounds_toArray, List.set_cons_zero, List.set_cons_succ]
            go_wp2_with fail
            go_meet
            exact ⟨rfl, rfl, hB2⟩
          · go_simp
            refine (wrDone_any (W.heap.size + 1) W.heap.size h M _ (A2.out.keepB hB1) (by omega)).mono ?_
            rintro e w2 ⟨ad2, cap2, rfl, k1, k2, k3, k4, hb2⟩
            have hB2 := Below.transS hB1 hb2
            have hc2 := conv_any ad2 _ cap2 _ w2 k2 k3
            have hc3 := conv_any ad1 _ cap1 _ w2 (SlAt.frm (S := []) HS1.out (Frm.ofBelow hb2) (fun _ _ _ _ => by simp)) HN1.out
            clear k1 k2 k3 k4
            refine hK.out _ _ hB2 (fun _ => ?_)
            clear hK K
            try simp only [Act.put, List.setIfInBounds_toArray, List.set_cons_zero, List.set_cons_succ]
            refine wpAnyH_ready (rs := [2, 5]) (by kernel_rfl) (by simp) ?_
            refine (AllReadyH.cons (o := { dst := some 119, op := Go.Op.convert 25 9 (Go.Operand.tmp 118), type := 9, pos := "law.go:180", after := #[{ on := 1, ground := Go.Ground.data }], guard := none }) rfl (fun K hK => ?_) (AllReadyH.cons (o := { dst := some 122, op := Go.Op.convert 25 9 (Go.Operand.tmp 121), type := 9, pos := "law.go:180", after := #[{ on := 4, ground := Go.Ground.data }, { on := 6, ground := Go.Ground.gcOnly Go.Departure.lateStores }], guard := none }) rfl (fun K hK => ?_) AllReadyH.nil))
            · go_simp
              refine hK.out _ _ hB2 (fun _ => ?_)
              clear hK K
              try simp only [Act.put, List.setIfInBounds_toArray, List.set_cons_zero, List.set_cons_succ]
              refine wpAnyH_take (i := 6) (oi := { dst := some 14, op := Go.Op.assign (Go.Operand.tmp 119), type := 9, pos := "law.go:180", after := #[{ on := 2, ground := Go.Ground.data }, { on := 4, ground := Go.Ground.chain }, { on := 0, ground := Go.Ground.phase }, { on := 1, ground := Go.Ground.phase }, { on := 2, ground := Go.Ground.phase }, { on := 3, ground := Go.Ground.textOnly Go.Departure.lateStores }, { on := 4, ground := Go.Ground.textOnly Go.Departure.lateStoresUnsure }, { on := 5, ground := Go.Ground.textOnly Go.Departure.lateStores }], guard := none }) (v := ?_) rfl (by kernel_rfl) (by kernel_rfl) (by kernel_rfl) (fun _ _ _ h => h) (Or.inl ⟨by rfl, ?_⟩) (by assumption) ?_
              rotate_left
              · intro wz hSw; (try dsimp only at hSw); go_simp; (try with_reducible rfl)
              try simp only [Act.put, List.setIfInBounds_toArray, List.set_cons_zero, List.set_cons_succ]
              refine wpAnyH_ready (rs := [5]) (by kernel_rfl) (by simp) ?_
              refine (AllReadyH.cons (o := { dst := some 122, op := Go.Op.convert 25 9 (Go.Operand.tmp 121), type := 9, pos := "law.go:180", after := #[{ on := 4, ground := Go.Ground.data }, { on := 6, ground := Go.Ground.gcOnly Go.Departure.lateStores }], guard := none }) rfl (fun K hK => ?_) AllReadyH.nil)
              go_simp
              refine hK.out _ _ hB2 (fun _ => ?_)
              clear hK K
              try simp only [Act.put, List.setIfInBounds_toArray, List.set_cons_zero, List.set_cons_succ]
              refine wpAnyH_take (i := 7) (oi := { dst := some 15, op := Go.Op.assign (Go.Operand.tmp 122), type := 9, pos := "law.go:180", after := #[{ on := 5, ground := Go.Ground.data }, { on := 6, ground := Go.Ground.chain }, { on := 0, ground := Go.Ground.phase }, { on := 1, ground := Go.Ground.phase }, { on := 2, ground := Go.Ground.phase }, { on := 3, ground := Go.Ground.phase }, { on := 4, ground := Go.Ground.phase }, { on := 5, ground := Go.Ground.phase }, { on := 6, ground := Go.Ground.phase }], guard := none }) (v := ?_) rfl (by kernel_rfl) (by kernel_rfl) (by kernel_rfl) (fun _ _ _ h => h) (Or.inl ⟨by rfl, ?_⟩) (by assumption) ?_
              rotate_left
              · intro wz hSw; (try dsimp only at hSw); go_simp; (try with_reducible rfl)
              try simp only [Act.put, List.setIfInBounds_toArray, List.set_cons_zero, List.set_cons_succ]
              refine wpAnyH_done (by kernel_rfl) (NoPanic.normal ?_) _
              try simp only [Act.put, List.setIfInBounds_toArray, List.set_cons_zero, List.set_cons_succ]
              go_wp2_with fail
              go_meet
              exact ⟨rfl, rfl, hB2⟩
            · go_simp
              refine hK.out _ _ hB2 (fun _ => ?_)
              clear hK K
              try simp only [Act.put, List.setIfInBounds_toArray, List.set_cons_zero, List.set_cons_succ]
              refine wpAnyH_ready (rs := [2]) (by kernel_rfl) (by simp) ?_
              refine (AllReadyH.cons (o := { dst := some 119, op := Go.Op.convert 25 9 (Go.Operand.tmp 118), type := 9, pos := "law.go:180", after := #[{ on := 1, ground := Go.Ground.data }], guard := none }) rfl (fun K hK => ?_) AllReadyH.nil)
              go_simp
              refine hK.out _ _ hB2 (fun _ => ?_)
              clear hK K
              try simp only [Act.put, List.setIfInBounds_toArray, List.set_cons_zero, List.set_cons_succ]
              refine wpAnyH_take (i := 6) (oi := { dst := some 14, op := Go.Op.assign (Go.Operand.tmp 119), type := 9, pos := "law.go:180", after := #[{ on := 2, ground := Go.Ground.data }, { on := 4, ground := Go.Ground.chain }, { on := 0, ground := Go.Ground.phase }, { on := 1, ground := Go.Ground.phase }, { on := 2, ground := Go.Ground.phase }, { on := 3, ground := Go.Ground.textOnly Go.Departure.lateStores }, { on := 4, ground := Go.Ground.textOnly Go.Departure.lateStoresUnsure }, { on := 5, ground := Go.Ground.textOnly Go.Departure.lateStores }], guard := none }) (v := ?_) rfl (by kernel_rfl) (by kernel_rfl) (by kernel_rfl) (fun _ _ _ h => h) (Or.inl ⟨by rfl, ?_⟩) (by assumption) ?_
              rotate_left
              · intro wz hSw; (try dsimp only at hSw); go_simp; (try with_reducible rfl)
              try simp only [Act.put, List.setIfInBounds_toArray, List.set_cons_zero, List.set_cons_succ]
              refine wpAnyH_take (i := 7) (oi := { dst := some 15, op := Go.Op.assign (Go.Operand.tmp 122), type := 9, pos := "law.go:180", after := #[{ on := 5, ground := Go.Ground.data }, { on := 6, ground := Go.Ground.chain }, { on := 0, ground := Go.Ground.phase }, { on := 1, ground := Go.Ground.phase }, { on := 2, ground := Go.Ground.phase }, { on := 3, ground := Go.Ground.phase }, { on := 4, ground := Go.Ground.phase }, { on := 5, ground := Go.Ground.phase }, { on := 6, ground := Go.Ground.phase }], guard := none }) (v := ?_) rfl (by kernel_rfl) (by kernel_rfl) (by kernel_rfl) (fun _ _ _ h => h) (Or.inl ⟨by rfl, ?_⟩) (by assumption) ?_
              rotate_left
              · intro wz hSw; (try dsimp only at hSw); go_simp; (try with_reducible rfl)
              try simp only [Act.put, List.setIfInBounds_toArray, List.set_cons_zero, List.set_cons_succ]
              refine wpAnyH_done (by kernel_rfl) (NoPanic.normal ?_) _
              try simp only [Act.put, List.setIfInBounds_toArray, List.set_cons_zero, List.set_cons_succ]
              go_wp2_with fail
              go_meet
              exact ⟨rfl, rfl, hB2⟩
      case rest =>
        obtain ⟨rfl, rfl, hB⟩ := hcut
        have hcm := HCM.out
        go_wp2_with (first | (go_at_call 18; refine (compare_any _ _ _).mono ?_; rintro e wq ⟨rfl, rfl⟩) | (go_at_call 10; refine (sure_any _).mono ?_; rintro e w9 ⟨rfl, hb9⟩) | fail)
        go_ret
        exact ⟨rfl, hb.trans ((Below.transS hB hb9).mono hb.size)⟩
end Go.Proofs.Ytmgjipemgdgjdaa
