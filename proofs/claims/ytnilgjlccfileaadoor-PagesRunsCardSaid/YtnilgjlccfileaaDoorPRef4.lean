/- The document's answer: the loose writes are done. -/
import Derived.Test.YtnilgjlccfileaaDoorPRef3
import Derived.Deep.AppendLies
import Derived.Deep.CutBlock
import Derived.Deep.DeepCutAuto
namespace Go.Proofs.YtnilgjlccfileaaDoor
open Go.RowKit

attribute [local go_sem ↓] Go.wp_at_zero Go.wp_at_succ

theorem other_cell {w : World} {g o b q : Nat} {v : Value} (h : b ≠ g) : (w.setCell ⟨g, o, none⟩ v).cell? ⟨b, q, none⟩ = w.cell? ⟨b, q, none⟩ := World.cell?_setCell_other _ _ _ _ (fun e => h (by injection e with e1; exact e1.symm))
/-- Behind i writes. -/
structure DnI (g cap : Nat) (p : List Bs) (L : List (Int × Bs)) (K : Nat → Bool) (w wr : World) (i : Nat) : Prop where
  row : wr.ownsRow 0 24 1 (.slice (some ⟨g, 0, none⟩) p.length cap) p.length ((setF K 0 (L.take i) p).map Bs.v)
  frm : Frm [g] w wr
theorem DnI.skip {g cap : Nat} {p : List Bs} {L : List (Int × Bs)} {K : Nat → Bool} {w wr : World} {i : Nat} (h : DnI g cap p L K w wr i) {x : Int × Bs} (hx : L[i]? = some x) (hi : i < L.length) (hK : K i = false) : DnI g cap p L K w wr (i + 1) := by
  refine ⟨?_, h.frm⟩
  rw [List.take_add_one, hx, Option.toList_some, setF_snoc, if_neg (by simp [Nat.min_eq_left (Nat.le_of_lt hi), hK])]
  exact h.row
theorem DnI.set {g cap : Nat} {p : List Bs} {L : List (Int × Bs)} {K : Nat → Bool} {w wr : World} {i : Nat} (h : DnI g cap p L K w wr i) {x : Int × Bs} (hx : L[i]? = some x) (hi : i < L.length) (hK : K i = true) {pg : Nat} (hp : x.1 = (pg : Int)) : DnI g cap p L K w (wr.setCell ⟨g, pg, none⟩ x.2.v).drew (i + 1) := by
  have h1 := (h.row.stored pg x.2.v).1
  refine ⟨?_, (h.frm.setCell _ _ (by simp)).drew⟩
  rw [List.take_add_one, hx, Option.toList_some, setF_snoc, if_pos (by simp [Nat.min_eq_left (Nat.le_of_lt hi), hK]), hp, Int.toNat_natCast, List.map_set]
  exact h1.drew
def RDoneR (p : List Bs) (L : List (Int × Bs)) (ks : List Int) (st : Int) (dn : Bool) (w : World) (e : Ending) (w' : World) : Prop :=
  ∃ g cap, e = .returned (.agg #[.slice (some ⟨g, 0, none⟩) p.length cap, .slice none 0 0, .int .i64 st, .bool dn]) ∧ RowC w' (some ⟨g, 0, none⟩) p.length ((setF (toldK ks) 0 L p).map Bs.v) ∧ w.heap.size ≤ g ∧ Below w.heap.size w w'
theorem toldK_take (ks : List Int) (i k : Nat) {x : Int} (h : ks[k]? = some x) : toldK (ks.take (k + 1)) i = (toldK (ks.take k) i || (x == (i : Int))) := by
  simp only [toldK, List.take_add_one, h, Option.toList_some, List.contains_eq_any_beq, List.any_append, List.any_cons, List.any_nil, Bool.or_false]
  congr 1
  exact Bool.beq_comm
set_option maxRecDepth 100000 in
set_option maxHeartbeats 3200000 in
theorem rdone_any (pa : Option Addr) (pc : Nat) (p : List Bs) (la : Option Addr) (lc : Nat) (L : List (Int × Bs)) (st : Int) (dn : Bool) (ka : Option Addr) (kc : Nat) (ks : List Int) (w : World) (hp1 : 1 ≤ p.length) (hp2 : p.length ≤ 4096) (hP : RowC w pa p.length (p.map Bs.v)) (hL : RowC w la L.length (flatW L)) (hl : L.length ≤ 1000)
    (hpg : ∀ e ∈ L, 0 ≤ e.1 ∧ e.1 < p.length) (hk : IsL w ka ks) (hks : ks.length ≤ 140737488355328) :
    Calls Tryd.prog 32 #[.agg #[.slice pa p.length pc, .slice la L.length lc, .int .i64 st, .bool dn], .slice ka ks.length kc] w (RDoneR p L ks st dn w) := by
  obtain ⟨gp, rfl, hgp, hcp⟩ := hP (by omega)
  obtain ⟨W2, hW2⟩ : ∃ W2, (w.alloc (.cells #[.slice (some ⟨gp, 0, none⟩) p.length pc, .slice la L.length lc, .int .i64 st, .bool dn] 41)).alloc (.cells #[.slice none 0 0, .slice none 0 0, .int .i64 0, .bool false] 41) = W2 := ⟨_, rfl⟩
  have hb2 : Below w.heap.size w W2 := by rw [← hW2]; exact below2 _ _ _
  have hz2 : W2.heap.size = w.heap.size + 2 := by rw [← hW2]; simp
  have n1 : W2.heap[w.heap.size]? = some (.cells #[.slice (some ⟨gp, 0, none⟩) p.length pc, .slice la L.length lc, .int .i64 st, .bool dn] 41 (0, 0)) := by rw [← hW2]; exact new1 _ _ _
  have n2 : W2.heap[w.heap.size + 1]? = some (.cells #[.slice none 0 0, .slice none 0 0, .int .i64 0, .bool false] 41 (0, 0)) := by rw [← hW2]; exact new2 _ _ _
  obtain ⟨i0, hi0, hz0, hz1, hz2'⟩ := info_parts Tryd.infoRB
  obtain ⟨g, cap, w3, hrun, hown, hgrow, hg, hglt⟩ := run_append_lies (P := Tryd.prog) W2 38 38 0 24 i0 (.slice none 0 0) 1 24 Tryd.underlying38 hi0 hz0 hz1 hz2' rfl (by decide) (.slice none 0 0) 0 [] (World.ownsRow_nil _ _ _ _) ⟨gp, 0, none⟩ p.length pc (p.map Bs.v) (by simp)
    (fun j u hu => by rw [Addr.add_lit, Nat.zero_add, hb2.cell (p := ⟨gp, j, none⟩) hgp]; exact hcp j u hu) (fun u hu => by obtain ⟨y, _, rfl⟩ := List.mem_map.1 hu; rfl) (by omega) (by unfold maxLen; omega) (by omega) (by omega) _ rfl
  rw [Nat.zero_add, List.nil_append] at hown
  rw [Nat.zero_add] at hrun
  have hgw : w.heap.size + 2 ≤ g := by
    rcases hg with h | h
    · simp [Value.ownBlock] at h
    · omega
  have hb3 : Below W2.heap.size W2 w3 := (Below.refl _ W2).grown hgrow (Nat.le_refl _) (fun k hk => by simp [Value.ownBlock] at hk)
  have HI0 : DnI g cap p L (toldK ks) w3 w3 0 := ⟨by simpa [setF] using hown, Frm.refl _ _⟩
  have hb03 : Below w.heap.size w w3 := hb2.trans (hb3.mono (by omega))
  have m1 : w3.heap[w.heap.size]? = _ := (hb3.block _ (by omega)).trans n1
  have m2 : w3.heap[w.heap.size + 1]? = _ := (hb3.block _ (by omega)).trans n2
  have HB : Hid (∀ wr, Frm [g] w3 wr → wr.heap[w.heap.size]? = some (.cells #[.slice (some ⟨gp, 0, none⟩) p.length pc, .slice la L.length lc, .int .i64 st, .bool dn] 41 (0, 0)) ∧ wr.heap[w.heap.size + 1]? = some (.cells #[.slice none 0 0, .slice none 0 0, .int .i64 0, .bool false] 41 (0, 0)) ∧ Below w.heap.size w wr) := fun wr hf =>
    ⟨(hf.block _ (lt_of_block m1) (by simp; omega)).trans m1, (hf.block _ (lt_of_block m2) (by simp; omega)).trans m2, hb03.trans (hf.below hb03.size (by simp; omega))⟩
  have HL : Hid (RowC w la L.length (flatW L)) := hL
  have HK : Hid (IsL w ka ks) := hk
  have HPG : Hid (∀ e ∈ L, 0 ≤ e.1 ∧ e.1 < p.length) := hpg
  have HP : Hid (1 ≤ p.length ∧ p.length ≤ 4096) := ⟨hp1, hp2⟩
  subst hW2
  clear hP hL hk hpg hcp hb2 n1 n2 hown hgrow hg hb3 hb03 m1 m2 hp1 hp2 hz2
  go_enter Tryd.func32, Tryd.ntmps32
  go_wp2_with (first | (at_builtin; refine wpList_append_run rfl _ _ _ rfl rfl rfl hrun ?_) | fail)
  clear hrun
  go_loopw [6, 7, 8] (fun iv _ _ wr => ∃ i : Nat, i ≤ L.length ∧ iv = .int .i64 i ∧ DnI g cap p L (toldK ks) w3 wr i) (fun iv _ _ _ => L.length + 1 - (intOf iv).toNat)
  case atStart => exact ⟨0, by omega, rfl, HI0⟩
  case round =>
    clear HI0
    obtain ⟨i, hi, rfl, hI⟩ := hrel
    obtain ⟨b1, b2, hbw⟩ := HB.out wr hI.frm
    have F1 := four_of b1
    have q1 := F1.c1
    have HBW : Hid (Below w.heap.size w wr) := hbw
    by_cases hlt : i < L.length
    · have hltI : (i : Int) < L.length := by omega
      have HI : Hid (DnI g cap p L (toldK ks) w3 wr i) := hI
      clear hI b2 hbw F1
      go_upto_block 2 with fail
      go_cut [7] (fun v wd => v = .bool (toldK ks i) ∧ wd = wr)
      case first =>
        generalize hwo : wr = wo at *
        clear hwo wr
        go_wp2_with fail
        go_loopw [7, 8] (fun bv kv wr => ∃ k : Nat, k ≤ ks.length ∧ kv = .int .i64 k ∧ bv = .bool (toldK (ks.take k) i) ∧ wr = wo) (fun _ kv _ => ks.length + 1 - (intOf kv).toNat)
        case atStart => exact ⟨0, by omega, rfl, rfl, rfl⟩
        case round =>
          obtain ⟨k, hk, rfl, rfl, rfl⟩ := hrel
          by_cases hkl : k < ks.length
          · have hklI : (k : Int) < ks.length := by omega
            obtain ⟨b, off, rfl, hc⟩ := HK.out (by omega)
            obtain ⟨x, hx⟩ : ∃ x, ks[k]? = some x := ⟨_, List.getElem?_eq_getElem hkl⟩
            have hcw := hc k x hx
            have ck : wr.cell? ⟨b, off + k, none⟩ = some (.int .i64 x) := (HBW.out.cell (p := ⟨b, off + k, none⟩) (World.block_lt_of_cell? w _ hcw)).trans hcw
            have hsu := toldK_take ks i k hx
            generalize toldK (ks.take k) i = tv at *
            have HSU : Hid (toldK (ks.take (k + 1)) i = (tv || (x == (i : Int)))) := hsu
            clear hc hcw hsu
            cases tv with
            | true =>
              go_wp2
              go_roundw
              case rel => exact ⟨k + 1, by omega, by go_num, by rw [HSU.out]; rfl, trivial⟩
              case measure => simp [intOf]; omega
            | false =>
              go_wp2
              go_roundw
              case rel => exact ⟨k + 1, by omega, by go_num, by rw [HSU.out]; rfl, trivial⟩
              case measure => simp [intOf]; omega
          · obtain rfl : k = ks.length := by omega
            have hnn : ¬ ((ks.length : Int) < ks.length) := by omega
            rw [List.take_length]
            go_wp2_with fail
            go_meet
            exact ⟨rfl, rfl⟩
      case rest =>
      obtain ⟨rfl, hwd⟩ := hcut
      subst hwd
      obtain ⟨gl, rfl, hgl, hcl⟩ := HL.out (by omega)
      obtain ⟨x, hx⟩ : ∃ x, L[i]? = some x := ⟨_, List.getElem?_eq_getElem hlt⟩
      have hpx := HPG.out x (List.mem_of_getElem? hx)
      obtain ⟨pg, hpg⟩ : ∃ pg : Nat, x.1 = (pg : Int) := ⟨x.1.toNat, by omega⟩
      have x0 : wc.cell? ⟨gl, i * 2, none⟩ = some (.int .i64 pg) := by
        rw [HBW.out.cell (p := ⟨gl, i * 2, none⟩) hgl, hcl _ _ (flatW_at0 L i x hx), hpg]
      have x1 : wc.cell? ⟨gl, i * 2 + 1, none⟩ = some (.slice x.2.ad x.2.l.length x.2.cap) := (HBW.out.cell (p := ⟨gl, i * 2 + 1, none⟩) hgl).trans (hcl _ _ (flatW_at1 L i x hx))
      have hpl : (pg : Int) < p.length := by omega
      have hglg : gl ≠ g := by omega
      cases ht : toldK ks i with
      | false =>
        have HN : Hid (DnI g cap p L (toldK ks) w3 wc (i + 1)) := HI.out.skip hx hlt ht
        clear HI hcl
        go_wp2
        go_roundw
        case rel => exact ⟨i + 1, by omega, by go_num, HN.out⟩
        case measure => simp [intOf]; omega
      | true =>
        have HN : Hid (DnI g cap p L (toldK ks) w3 (wc.setCell ⟨g, pg, none⟩ (.slice x.2.ad x.2.l.length x.2.cap)).drew (i + 1)) := HI.out.set hx hlt ht hpg
        have hrow := HI.out.row
        obtain ⟨cur, hcur, hsz⟩ : ∃ cur, wc.heap[g]? = some (.cells cur 24 (0, 0)) ∧ p.length ≤ cur.size := by
          rcases hrow.2 with ⟨e, _⟩ | ⟨g', cap', cur, e, _, hg, hnc, _, hcs, _⟩
          · cases e
          · cases e; exact ⟨cur, hg, by omega⟩
        obtain ⟨u, hcu⟩ : ∃ u, wc.cell? ⟨g, pg, none⟩ = some u := ⟨_, by rw [cell_of_row _ _ pg _ _ _ hcur]; exact Array.getElem?_eq_getElem (by omega)⟩
        have hcf : wc.frozen? ⟨g, pg, none⟩ = false := frozen_of_row _ _ pg _ _ hcur
        have S1 : wc.drew.cell? ⟨w.heap.size, 1, none⟩ = some (.slice (some ⟨gl, 0, none⟩) L.length lc) ∧ wc.drew.cell? ⟨gl, i * 2, none⟩ = some (.int .i64 pg) ∧ wc.drew.cell? ⟨gl, i * 2 + 1, none⟩ = some (.slice x.2.ad x.2.l.length x.2.cap) := ⟨q1, x0, x1⟩
        have hne : w.heap.size ≠ g := by omega
        have t1 : (wc.setCell ⟨g, pg, none⟩ (.slice x.2.ad x.2.l.length x.2.cap)).drew.cell? ⟨w.heap.size, 1, none⟩ = some (.slice (some ⟨gl, 0, none⟩) L.length lc) := (other_cell hne).trans q1
        have t2 : (wc.setCell ⟨g, pg, none⟩ (.slice x.2.ad x.2.l.length x.2.cap)).drew.cell? ⟨gl, i * 2, none⟩ = some (.int .i64 pg) := (other_cell hglg).trans x0
        have t3 : (wc.setCell ⟨g, pg, none⟩ (.slice x.2.ad x.2.l.length x.2.cap)).drew.cell? ⟨gl, i * 2 + 1, none⟩ = some (.slice x.2.ad x.2.l.length x.2.cap) := (other_cell hglg).trans x1
        clear HI hcl hrow hcur hsz
        go_wp2_with fail
        refine wp_region_noPanic ?_
        refine wp_region_held_drew (S := fun w' => w'.cell? ⟨w.heap.size, 1, none⟩ = some (.slice (some ⟨gl, 0, none⟩) L.length lc) ∧ w'.cell? ⟨gl, i * 2, none⟩ = some (.int .i64 pg) ∧ w'.cell? ⟨gl, i * 2 + 1, none⟩ = some (.slice x.2.ad x.2.l.length x.2.cap)) (by kernel_rfl) S1 (fun hHeld => ?_)
        refine wpAnyH_take (i := 0) (oi := { dst := some 36, op := Go.Op.move (Go.Operand.tmp 5), type := 38, pos := "ref.go:103", after := #[], guard := none }) (v := ?_) rfl (by kernel_rfl) (by kernel_rfl) (by kernel_rfl) (fun _ _ _ h => h) (Or.inl ⟨by rfl, ?_⟩) (by assumption) ?_
        rotate_left
        · intro wz hSw; (try dsimp only at hSw); go_simp; (try with_reducible rfl)
        try simp only [Act.put, List.setIfInBounds_toArray, List.set_cons_zero, List.set_cons_succ]
        refine wpAnyH_take (i := 1) (oi := { dst := some 37, op := Go.Op.fieldAddr 41 (Go.Operand.tmp 2) 1, type := 0, pos := "ref.go:103", after := #[], guard := none }) (v := ?_) rfl (by kernel_rfl) (by kernel_rfl) (by kernel_rfl) (fun _ _ _ h => h) (Or.inl ⟨by rfl, ?_⟩) (by assumption) ?_
        rotate_left
        · intro wz hSw; (try dsimp only at hSw); go_simp; (try with_reducible rfl)
        try simp only [Act.put, List.setIfInBounds_toArray, List.set_cons_zero, List.set_cons_succ]
        refine wpAnyH_take (i := 2) (oi := { dst := some 38, op := Go.Op.load 39 (Go.Operand.tmp 37), type := 39, pos := "ref.go:103", after := #[{ on := 1, ground := Go.Ground.data }], guard := none }) (v := ?_) rfl (by kernel_rfl) (by kernel_rfl) (by kernel_rfl) (fun _ _ _ h => h) (Or.inl ⟨by rfl, ?_⟩) (by assumption) ?_
        rotate_left
        · intro wz hSw; (try dsimp only at hSw); go_simp; (try with_reducible rfl)
        try simp only [Act.put, List.setIfInBounds_toArray, List.set_cons_zero, List.set_cons_succ]
        refine wpAnyH_take (i := 3) (oi := { dst := some 39, op := Go.Op.move (Go.Operand.tmp 6), type := 3, pos := "ref.go:103", after := #[], guard := none }) (v := ?_) rfl (by kernel_rfl) (by kernel_rfl) (by kernel_rfl) (fun _ _ _ h => h) (Or.inl ⟨by rfl, ?_⟩) (by assumption) ?_
        rotate_left
        · intro wz hSw; (try dsimp only at hSw); go_simp; (try with_reducible rfl)
        try simp only [Act.put, List.setIfInBounds_toArray, List.set_cons_zero, List.set_cons_succ]
        refine wpAnyH_take (i := 4) (oi := { dst := some 40, op := Go.Op.indexAddr 39 (Go.Operand.tmp 38) (Go.Operand.tmp 39), type := 0, pos := "ref.go:103", after := #[{ on := 2, ground := Go.Ground.data }, { on := 3, ground := Go.Ground.data }], guard := none }) (v := ?_) rfl (by kernel_rfl) (by kernel_rfl) (by kernel_rfl) (fun _ _ _ h => h) (Or.inl ⟨by rfl, ?_⟩) (by assumption) ?_
        rotate_left
        · intro wz hSw; (try dsimp only at hSw); go_simp; (try with_reducible rfl)
        try simp only [Act.put, List.setIfInBounds_toArray, List.set_cons_zero, List.set_cons_succ]
        refine wpAnyH_take (i := 5) (oi := { dst := some 41, op := Go.Op.fieldAddr 71 (Go.Operand.tmp 40) 0, type := 0, pos := "ref.go:103", after := #[{ on := 4, ground := Go.Ground.data }], guard := none }) (v := ?_) rfl (by kernel_rfl) (by kernel_rfl) (by kernel_rfl) (fun _ _ _ h => h) (Or.inl ⟨by rfl, ?_⟩) (by assumption) ?_
        rotate_left
        · intro wz hSw; (try dsimp only at hSw); go_simp; (try with_reducible rfl)
        try simp only [Act.put, List.setIfInBounds_toArray, List.set_cons_zero, List.set_cons_succ]
        refine wpAnyH_take (i := 6) (oi := { dst := some 42, op := Go.Op.load 3 (Go.Operand.tmp 41), type := 3, pos := "ref.go:103", after := #[{ on := 5, ground := Go.Ground.data }], guard := none }) (v := ?_) rfl (by kernel_rfl) (by kernel_rfl) (by kernel_rfl) (fun _ _ _ h => h) (Or.inl ⟨by rfl, ?_⟩) (by assumption) ?_
        rotate_left
        · intro wz hSw; (try dsimp only at hSw); go_simp; (try with_reducible rfl)
        try simp only [Act.put, List.setIfInBounds_toArray, List.set_cons_zero, List.set_cons_succ]
        refine wpAnyH_take (i := 7) (oi := { dst := some 43, op := Go.Op.fieldAddr 41 (Go.Operand.tmp 2) 1, type := 0, pos := "ref.go:103", after := #[], guard := none }) (v := ?_) rfl (by kernel_rfl) (by kernel_rfl) (by kernel_rfl) (fun _ _ _ h => h) (Or.inl ⟨by rfl, ?_⟩) (by assumption) ?_
        rotate_left
        · intro wz hSw; (try dsimp only at hSw); go_simp; (try with_reducible rfl)
        try simp only [Act.put, List.setIfInBounds_toArray, List.set_cons_zero, List.set_cons_succ]
        refine wpAnyH_take (i := 8) (oi := { dst := some 44, op := Go.Op.load 39 (Go.Operand.tmp 43), type := 39, pos := "ref.go:103", after := #[{ on := 7, ground := Go.Ground.data }], guard := none }) (v := ?_) rfl (by kernel_rfl) (by kernel_rfl) (by kernel_rfl) (fun _ _ _ h => h) (Or.inl ⟨by rfl, ?_⟩) (by assumption) ?_
        rotate_left
        · intro wz hSw; (try dsimp only at hSw); go_simp; (try with_reducible rfl)
        try simp only [Act.put, List.setIfInBounds_toArray, List.set_cons_zero, List.set_cons_succ]
        refine wpAnyH_take (i := 9) (oi := { dst := some 45, op := Go.Op.move (Go.Operand.tmp 6), type := 3, pos := "ref.go:103", after := #[], guard := none }) (v := ?_) rfl (by kernel_rfl) (by kernel_rfl) (by kernel_rfl) (fun _ _ _ h => h) (Or.inl ⟨by rfl, ?_⟩) (by assumption) ?_
        rotate_left
        · intro wz hSw; (try dsimp only at hSw); go_simp; (try with_reducible rfl)
        try simp only [Act.put, List.setIfInBounds_toArray, List.set_cons_zero, List.set_cons_succ]
        refine wpAnyH_take (i := 10) (oi := { dst := some 46, op := Go.Op.indexAddr 39 (Go.Operand.tmp 44) (Go.Operand.tmp 45), type := 0, pos := "ref.go:103", after := #[{ on := 8, ground := Go.Ground.data }, { on := 9, ground := Go.Ground.data }], guard := none }) (v := ?_) rfl (by kernel_rfl) (by kernel_rfl) (by kernel_rfl) (fun _ _ _ h => h) (Or.inl ⟨by rfl, ?_⟩) (by assumption) ?_
        rotate_left
        · intro wz hSw; (try dsimp only at hSw); go_simp; (try with_reducible rfl)
        try simp only [Act.put, List.setIfInBounds_toArray, List.set_cons_zero, List.set_cons_succ]
        refine wpAnyH_take (i := 11) (oi := { dst := some 47, op := Go.Op.fieldAddr 71 (Go.Operand.tmp 46) 1, type := 0, pos := "ref.go:103", after := #[{ on := 10, ground := Go.Ground.data }], guard := none }) (v := ?_) rfl (by kernel_rfl) (by kernel_rfl) (by kernel_rfl) (fun _ _ _ h => h) (Or.inl ⟨by rfl, ?_⟩) (by assumption) ?_
        rotate_left
        · intro wz hSw; (try dsimp only at hSw); go_simp; (try with_reducible rfl)
        try simp only [Act.put, List.setIfInBounds_toArray, List.set_cons_zero, List.set_cons_succ]
        refine wpAnyH_take (i := 12) (oi := { dst := some 48, op := Go.Op.load 24 (Go.Operand.tmp 47), type := 24, pos := "ref.go:103", after := #[{ on := 11, ground := Go.Ground.data }], guard := none }) (v := ?_) rfl (by kernel_rfl) (by kernel_rfl) (by kernel_rfl) (fun _ _ _ h => h) (Or.inl ⟨by rfl, ?_⟩) (by assumption) ?_
        rotate_left
        · intro wz hSw; (try dsimp only at hSw); go_simp; (try with_reducible rfl)
        try simp only [Act.put, List.setIfInBounds_toArray, List.set_cons_zero, List.set_cons_succ]
        refine wpAnyH_take (i := 13) (oi := { dst := some 49, op := Go.Op.indexAddr 38 (Go.Operand.tmp 36) (Go.Operand.tmp 42), type := 0, pos := "ref.go:103", after := #[{ on := 0, ground := Go.Ground.data }, { on := 6, ground := Go.Ground.data }, { on := 0, ground := Go.Ground.phase }, { on := 1, ground := Go.Ground.phase }, { on := 2, ground := Go.Ground.phase }, { on := 3, ground := Go.Ground.phase }, { on := 4, ground := Go.Ground.phase }, { on := 5, ground := Go.Ground.phase }, { on := 6, ground := Go.Ground.phase }, { on := 7, ground := Go.Ground.phase }, { on := 8, ground := Go.Ground.phase }, { on := 9, ground := Go.Ground.phase }, { on := 10, ground := Go.Ground.phase }, { on := 11, ground := Go.Ground.phase }, { on := 12, ground := Go.Ground.phase }], guard := none }) (v := ?_) rfl (by kernel_rfl) (by kernel_rfl) (by kernel_rfl) (fun _ _ _ h => h) (Or.inl ⟨by rfl, ?_⟩) (by assumption) ?_
        rotate_left
        · intro wz hSw; (try dsimp only at hSw); go_simp; (try with_reducible rfl)
        try simp only [Act.put, List.setIfInBounds_toArray, List.set_cons_zero, List.set_cons_succ]
        refine wpAnyH_ready (rs := [14]) (by kernel_rfl) (by simp) ?_
        refine (AllReadyH.cons (o := { dst := none, op := Go.Op.store 24 (Go.Operand.tmp 49) (Go.Operand.tmp 48), type := 0, pos := "ref.go:103", after := #[{ on := 13, ground := Go.Ground.data }, { on := 12, ground := Go.Ground.data }, { on := 0, ground := Go.Ground.phase }, { on := 1, ground := Go.Ground.phase }, { on := 2, ground := Go.Ground.phase }, { on := 3, ground := Go.Ground.phase }, { on := 4, ground := Go.Ground.phase }, { on := 5, ground := Go.Ground.phase }, { on := 6, ground := Go.Ground.phase }, { on := 7, ground := Go.Ground.phase }, { on := 8, ground := Go.Ground.phase }, { on := 9, ground := Go.Ground.phase }, { on := 10, ground := Go.Ground.phase }, { on := 11, ground := Go.Ground.phase }, { on := 12, ground := Go.Ground.phase }], guard := none }) rfl (fun K hK => ?_) AllReadyH.nil)
        go_simp
        refine hK.out _ _ ⟨t1, t2, t3⟩ (fun _ => ?_)
        clear hK K
        try simp only [Act.put, List.setIfInBounds_toArray, List.set_cons_zero, List.set_cons_succ]
        refine wpAnyH_done (by kernel_rfl) (NoPanic.normal ?_) _
        try simp only [Act.put, List.setIfInBounds_toArray, List.set_cons_zero, List.set_cons_succ]
        clear S1 hHeld
        go_wp2
        go_roundw
        case rel => exact ⟨i + 1, by omega, by go_num, HN.out⟩
        case measure => simp [intOf]; omega
    · obtain rfl : i = L.length := by omega
      have hnn : ¬ ((L.length : Int) < L.length) := by omega
      have hrow := hI.row
      rw [List.take_length] at hrow
      have hfr := hI.frm
      have z1 := lt_of_block b1
      have z2 := lt_of_block b2
      obtain ⟨WA, hWA⟩ : ∃ WA, (wr.setCell ⟨w.heap.size, 0, none⟩ (.slice (some ⟨g, 0, none⟩) p.length cap)).setCell ⟨w.heap.size, 1, none⟩ (.slice none 0 0) = WA := ⟨_, rfl⟩
      have s1 : WA.heap[w.heap.size]? = some (.cells #[.slice (some ⟨g, 0, none⟩) p.length cap, .slice none 0 0, .int .i64 st, .bool dn] 41 (0, 0)) := by
        rw [← hWA]
        exact heap_setCell_same _ _ 1 _ _ _ (heap_setCell_same _ _ 0 _ _ _ b1)
      have hfA : Frm [w.heap.size] wr WA := by rw [← hWA]; exact ((Frm.refl _ _).setCell _ _ (by simp)).setCell _ _ (by simp)
      have s2 : WA.heap[w.heap.size + 1]? = _ := (hfA.block _ z2 (by simp)).trans b2
      have G1 := four_of s1
      have G2 := four_of s2
      have hsetA := set4 s2 (.slice (some ⟨g, 0, none⟩) p.length cap) (.slice none 0 0) (.int .i64 st) (.bool dn)
      have hfB := set4_frm (w := WA) (g := w.heap.size + 1) (.slice (some ⟨g, 0, none⟩) p.length cap) (.slice none 0 0) (.int .i64 st) (.bool dn)
      have hzA := hfA.size
      have hgl2 : g < wr.heap.size := (hrow.lt g rfl).2
      have HE : Hid ((((((WA.setCell ⟨w.heap.size + 1, 0, none⟩ (.slice (some ⟨g, 0, none⟩) p.length cap)).setCell ⟨w.heap.size + 1, 1, none⟩ (.slice none 0 0)).setCell ⟨w.heap.size + 1, 2, none⟩ (.int .i64 st)).setCell ⟨w.heap.size + 1, 3, none⟩ (.bool dn)).heap[w.heap.size + 1]? = some (.cells #[.slice (some ⟨g, 0, none⟩) p.length cap, .slice none 0 0, .int .i64 st, .bool dn] 41 (0, 0))) ∧
          RDoneR p L ks st dn w (.returned (.agg #[.slice (some ⟨g, 0, none⟩) p.length cap, .slice none 0 0, .int .i64 st, .bool dn])) ((((WA.setCell ⟨w.heap.size + 1, 0, none⟩ (.slice (some ⟨g, 0, none⟩) p.length cap)).setCell ⟨w.heap.size + 1, 1, none⟩ (.slice none 0 0)).setCell ⟨w.heap.size + 1, 2, none⟩ (.int .i64 st)).setCell ⟨w.heap.size + 1, 3, none⟩ (.bool dn))) := by
        refine ⟨hsetA, g, cap, rfl, fun _ => ⟨g, rfl, by have := hfB.size; omega, fun j u hu => ?_⟩, by omega, ?_⟩
        · have h0 := hrow.cells (g := g) rfl j u hu
          rw [Addr.add_lit, Nat.zero_add] at h0
          rw [World.cell?_of_block (a := ⟨g, j, none⟩) ((hfB.block g (by omega) (by simp; omega)).trans (hfA.block g hgl2 (by simp; omega)))]
          exact h0
        · exact (hbw.trans (hfA.below (by omega) (by simp))).trans (hfB.below (by omega) (by simp))
      have q0 := F1.c0
      have f0 := F1.f0
      have f1 := F1.f1
      have v0 := G1.c0
      have v1 := G1.c1
      have v2 := G1.c2
      have v3 := G1.c3
      have y0 := G2.f0
      have y1 := G2.f1
      have y2 := G2.f2
      have y3 := G2.f3
      have r0 := G2.c0
      have r1 := G2.c1
      have r2 := G2.c2
      have r3 := G2.c3
      clear hI hrow hfr b1 b2 hbw s1 s2 hfA G1 G2 hsetA hfB F1
      go_wp2
      exact bodyPost_ret (results_R1 Tryd.results32 _ _ (w.heap.size + 1) 41 _ _ _ _ (0, 0) rfl HE.out.1) rfl HE.out.2
end Go.Proofs.YtnilgjlccfileaaDoor
