/- shelf's write: leaves on free places, then the root. -/
import Derived.Test.YtbfajoeilpkofaaGreatDoorOwnShelf18
import Derived.Test.YtbfajoeilpkofaaGreatDoorOwnShelf22
import Derived.Test.YtbfajoeilpkofaaGreatDoorOwnShelf25
import Derived.Test.YtbfajoeilpkofaaGreatDoorOwnShelf06
namespace Go.Proofs.YtbfajoeilpkofaaGreatDoor
open Go.RowKit Go.Maps Go.Sort

attribute [local go_sem ↓] Go.wp_at_zero Go.wp_at_succ

/-- The writes of some leaves. -/
def wsOf (fr : Nat) (ls : List (List Int)) (f : List Nat) : List (Int × List Int) := (ls.zip f).map fun x => (((fr + x.2 : Nat) : Int), x.1)
theorem wsOf_length {fr : Nat} {ls : List (List Int)} {f : List Nat} (h : ls.length ≤ f.length) : (wsOf fr ls f).length = ls.length := by simp [wsOf]; omega
theorem wsOf_get {fr : Nat} {ls : List (List Int)} {f : List Nat} {i : Nat} {l : List Int} {x : Nat} (h1 : ls[i]? = some l) (h2 : f[i]? = some x) : (wsOf fr ls f)[i]? = some (((fr + x : Nat) : Int), l) := by
  have h3 : (ls.zip f)[i]? = some (l, x) := List.getElem?_zip_eq_some.2 ⟨h1, h2⟩
  simp [wsOf, h3]
theorem StG.trans {G : Nat → Prop} {p : Nat} {w w1 w2 : World} {c : Ct} {G1 : Nat → Prop} (h : ∀ k, G1 k → G k ∨ (w.heap.size ≤ k ∧ k < w1.heap.size)) (hf : Fr G w w1) (h2 : StG G1 p w1 w2 c) : StG G p w w2 c := by
  obtain ⟨G2, k1, k2, k3⟩ := h2
  have s1 := hf.size
  have s2 := k3.size
  refine ⟨G2, k1, fun k hk => ?_, hf.trans k3 fun i hi hg => ?_⟩
  · rcases k2 k hk with hk | hk
    · rcases h k hk with hk | hk
      · exact .inl hk
      · exact .inr ⟨hk.1, by omega⟩
    · exact .inr ⟨by omega, hk.2⟩
  · rcases h i hg with hg | hg
    · exact hg
    · omega
theorem Ct.wrs_cons (c : Ct) (x : Int × List Int) (r : List (Int × List Int)) : c.wrs (x :: r) = if c.stepE = 0 then (c.put x.1 x.2).step.wrs r else (c.stepE, (c.put x.1 x.2).step) := rfl
theorem Ct.wrs_nil (c : Ct) : c.wrs [] = (0, c) := rfl
/-- What a Set's writing answers and leaves. -/
def LayR (G : Nat → Prop) (p : Nat) (w : World) (r : Int × Ct) (e : Ending) (w' : World) : Prop := e = .returned (errV r.1) ∧ StG G p w w' r.2
/-- While leaves are written. -/
structure WrI (G : Nat → Prop) (p : Nat) (w wr : World) (c : Ct) (ws : List (Int × List Int)) (i N : Nat) : Prop where
  ex : ∃ (G1 : Nat → Prop) (ci : Ct), c.wrs ws = ci.wrs (ws.drop i) ∧ CtAt wr G1 p ci ∧ (∀ k, G1 k → G k ∨ (w.heap.size ≤ k ∧ k < wr.heap.size)) ∧ ci.Ok N ∧ ci.loose.length ≤ c.loose.length + i
  frm : Fr G w wr
set_option maxRecDepth 100000 in
set_option maxHeartbeats 3200000 in
theorem write_any (sh m p fr n N B : Nat) (L : List Lf) (dead : Int) (G : Nat → Prop) (c : Ct) (lv : Value) (X : List Bs) (fa : Option Addr) (fc : Nat) (f : List Nat) (ra : Option Addr) (rc : Nat) (root : List Int) (w : World)
    (h : ShAt w sh m p fr n L dead) (hc : CtAt w G p c) (ho : c.Ok N) (hlo : c.loose.length + X.length + 1 < 100000) (hN : fr + n ≤ N) (hGB : ∀ k, G k → k < B) (hsh : ¬ G sh)
    (hrow : w.ownsRow B 29 1 lv X.length (X.map Bs.v)) (hX : ∀ x ∈ X, BsAt w x ∧ x.In (fun k => B ≤ k ∧ k < w.heap.size)) (hXl : X.length ≤ 1000)
    (hf : NsAt w fa f) (hfb : ∀ a, fa = some a → B ≤ a.block) (hXf : X.length ≤ f.length) (hfn : ∀ x ∈ f, x < n)
    (hr1 : SlAt w ra root.length (fn root)) (hr2 : ra = none → root.length = 0 ∧ rc = 0) (hr3 : ∀ a, ra = some a → B ≤ a.block) (hr4 : ∀ y, y ∈ root → 0 ≤ y ∧ y ≤ 255) (hr5 : root.length ≤ 4096) :
    Calls Tryz.prog 48 #[.pointer (some ⟨sh, 0, none⟩), lv, .slice fa f.length fc, .slice ra root.length rc] w (LayR G p w (c.lay (wsOf fr (X.map Bs.l) f) (fr : Int) root)) := by
  obtain ⟨la, lc, rfl⟩ : ∃ la lc, lv = .slice la X.length lc := by
    rcases hrow.2 with ⟨rfl, e⟩ | ⟨g, cap, cur, rfl, _⟩
    · exact ⟨none, 0, by rw [e]⟩
    · exact ⟨_, cap, rfl⟩
  have hcs : ∀ j x, X[j]? = some x → ∃ g, la = some ⟨g, 0, none⟩ ∧ B ≤ g ∧ g < w.heap.size ∧ w.cell? ⟨g, j, none⟩ = some x.v := fun j x hx => by
    rcases hrow.2 with ⟨e, e2⟩ | ⟨g, cap, cur, e, hb, hg, _⟩
    · have : X = [] := List.eq_nil_of_length_eq_zero e2
      subst this; simp at hx
    · cases e
      have := hrow.cells (g := g) rfl j x.v (by simp [hx])
      rw [Addr.add_lit, Nat.zero_add] at this
      exact ⟨g, rfl, hb, lt_of_block hg, this⟩
  have HCs : Hid (∀ j x, X[j]? = some x → ∃ g, la = some ⟨g, 0, none⟩ ∧ B ≤ g ∧ g < w.heap.size ∧ w.cell? ⟨g, j, none⟩ = some x.v) := hcs
  have HH : Hid (ShAt w sh m p fr n L dead) := h
  have HX : Hid (∀ x ∈ X, BsAt w x ∧ x.In (fun k => B ≤ k ∧ k < w.heap.size)) := hX
  have HF : Hid (NsAt w fa f ∧ (∀ a, fa = some a → B ≤ a.block) ∧ ∀ x ∈ f, x < n) := ⟨hf, hfb, hfn⟩
  have HR : Hid (SlAt w ra root.length (fn root) ∧ (ra = none → root.length = 0 ∧ rc = 0) ∧ (∀ a, ra = some a → B ≤ a.block) ∧ (∀ y, y ∈ root → 0 ≤ y ∧ y ≤ 255) ∧ root.length ≤ 4096) := ⟨hr1, hr2, hr3, hr4, hr5⟩
  have HG : Hid ((∀ k, G k → k < B) ∧ ¬ G sh) := ⟨hGB, hsh⟩
  have lsh := h.lt
  have hsc := h.from_
  have hnc := h.count
  obtain ⟨ws, hws⟩ : ∃ ws, wsOf fr (X.map Bs.l) f = ws := ⟨_, rfl⟩
  have HW : Hid (wsOf fr (X.map Bs.l) f = ws) := hws
  have hwl : ws.length = X.length := by rw [← hws, wsOf_length (by simpa using hXf)]; simp
  have hI0 : WrI G p w w c ws 0 N := ⟨⟨G, c, rfl, hc, (fun k hk => .inl hk), ho, Nat.le_refl _⟩, Fr.refl _ _⟩
  rw [hws]
  clear h hX hf hfb hfn hr1 hr2 hr3 hr4 hr5 hGB hsh hrow hcs hc ho hws
  go_enter Tryz.func48, Tryz.ntmps48
  go_wp2
  go_loopw [16] (fun iv wr => ∃ i : Nat, i ≤ X.length ∧ iv = .int .i64 i ∧ WrI G p w wr c ws i N) (fun iv _ => X.length - (intOf iv).toNat)
  case atStart => exact ⟨0, Nat.zero_le _, rfl, hI0⟩
  case round =>
    clear hI0
    obtain ⟨i, hi, rfl, ⟨G1, ci, hwr, hci, hG1, hoi, hli⟩, hfr⟩ := hrel
    have HFr : Hid (Fr G w wr) := hfr
    have HCi : Hid (c.wrs ws = ci.wrs (ws.drop i) ∧ CtAt wr G1 p ci ∧ (∀ k, G1 k → G k ∨ (w.heap.size ≤ k ∧ k < wr.heap.size)) ∧ ci.Ok N) := ⟨hwr, hci, hG1, hoi⟩
    have HK : Hid (∀ k, k < w.heap.size → (B ≤ k ∨ k = sh) → wr.heap[k]? = w.heap[k]? ∧ ¬ G1 k) := fun k hk hb => by
      have hng : ¬ G k := fun hg => by
        rcases hb with hb | rfl
        · have := HG.out.1 k hg; omega
        · exact HG.out.2 hg
      refine ⟨hfr.block k hk hng, fun hg => ?_⟩
      rcases hG1 k hg with hg | hg
      · exact hng hg
      · omega
    clear hwr hci hG1 hoi hfr
    by_cases hlt : i < X.length
    · have hlt' : (i : Int) < X.length := by omega
      have hx : X[i]? = some X[i] := List.getElem?_eq_getElem hlt
      have hxm : X[i] ∈ X := List.getElem_mem hlt
      have hif : i < f.length := by omega
      have hfi : f[i]? = some f[i] := List.getElem?_eq_getElem hif
      have hfm : f[i] < n := HF.out.2.2 _ (List.getElem_mem hif)
      have hwx : ws.drop i = (((fr + f[i] : Nat) : Int), X[i].l) :: ws.drop (i + 1) := by
        have h1 : ws[i]? = some (((fr + f[i] : Nat) : Int), X[i].l) := by rw [← HW.out]; exact wsOf_get (by simp [hx]) hfi
        have h2 : i < ws.length := by omega
        rw [List.drop_eq_getElem_cons h2]
        congr 1
        exact (List.getElem?_eq_some_iff.1 h1).2
      obtain ⟨g, rfl, hgB, hgl, hgc⟩ := HCs.out i _ hx
      obtain ⟨gf, of, rfl, hfc'⟩ := HF.out.1 (by simp; omega)
      have hgf0 := hfc' i (f[i] : Int) (by simp [hfi])
      have hgfB := HF.out.2.1 _ rfl
      have hgfl : gf < w.heap.size := World.block_lt_of_cell? w _ hgf0
      have hbx := HX.out _ hxm
      have hwrx := HCi.out.1
      rw [hwx] at hwrx
      rw [Ct.wrs_cons] at hwrx
      generalize X[i] = x at *
      generalize f[i] = fi at *
      have hkg := HK.out g hgl (.inl hgB)
      have hkf := HK.out gf hgfl (.inl hgfB)
      have hks := HK.out sh lsh (.inr rfl)
      have e1 : wr.cell? ⟨g, i, none⟩ = some (.slice x.ad x.l.length x.cap) := by rw [World.cell?_of_block (a := ⟨g, i, none⟩) hkg.1]; exact hgc
      have e2 : wr.cell? ⟨gf, of + i, none⟩ = some (.int .i64 (fi : Int)) := by rw [World.cell?_of_block (a := ⟨gf, of + i, none⟩) hkf.1]; exact hgf0
      have e3 : wr.cell? ⟨sh, 0, none⟩ = some (.pointer (some ⟨p, 0, none⟩)) := by rw [World.cell?_of_block (a := ⟨sh, 0, none⟩) hks.1]; exact HH.out.c0
      have e4 : wr.cell? ⟨sh, 1, none⟩ = some (.int .i64 (fr : Int)) := by rw [World.cell?_of_block (a := ⟨sh, 1, none⟩) hks.1]; exact HH.out.c1
      have hbw : BsAt wr x := hbx.1.keep hbx.2 fun k hk => (HK.out k hk.2 (.inl hk.1)).1
      have hadd : IntKind.i64.wrap ((fr : Int) + (fi : Int)) = ((fr + fi : Nat) : Int) := by rw [IntKind.wrap_i64]; omega
      have hgfl' : gf < wr.heap.size := World.block_lt_of_cell? wr _ e2
      have hshl' : sh < wr.heap.size := World.block_lt_of_cell? wr _ e3
      have HS : Hid (∀ w' : World, Fr G1 wr.drew w' → w'.cell? ⟨gf, of + i, none⟩ = some (.int .i64 (fi : Int)) ∧ w'.cell? ⟨sh, 0, none⟩ = some (.pointer (some ⟨p, 0, none⟩)) ∧ w'.cell? ⟨sh, 1, none⟩ = some (.int .i64 (fr : Int))) := fun w' hf => by
        have a1 := hf.block gf hgfl' hkf.2
        have a2 := hf.block sh hshl' hks.2
        exact ⟨by rw [World.cell?_of_block (a := ⟨gf, of + i, none⟩) a1]; exact e2, by rw [World.cell?_of_block (a := ⟨sh, 0, none⟩) a2]; exact e3, by rw [World.cell?_of_block (a := ⟨sh, 1, none⟩) a2]; exact e4⟩
      have hcd : CtAt wr.drew G1 p ci := HCi.out.2.1.below (Below.refl _ _).drew
      have hwc := write_ct G1 p ci N ((fr + fi : Nat) : Int) x.ad x.cap x.l wr.drew hcd HCi.out.2.2.2 (by omega) (hbw.lies.keepB (Below.refl _ _).drew) hbw.nil hbw.bd hbw.len
      have HT : Hid (∀ w', StG G1 p wr.drew w' (ci.put ((fr + fi : Nat) : Int) x.l).step → StG G p w w' (ci.put ((fr + fi : Nat) : Int) x.l).step) := fun w' hh => StG.trans (w1 := wr.drew) HCi.out.2.2.1 HFr.out.drew hh
      clear hgc hgf0 hfc' hx hxm hfi hbx hkg hkf hks e2 e3 e4 hcd hbw
      have hil : (i : Int) < f.length := by omega
      by_cases hse : ci.stepE = 0
      · rw [hse, errV_0] at hwc
        rw [if_pos hse] at hwrx
        have HWx : Hid (c.wrs ws = (ci.put ((fr + fi : Nat) : Int) x.l).step.wrs (ws.drop (i + 1)) ∧ (ci.put ((fr + fi : Nat) : Int) x.l).step.Ok N ∧ (ci.put ((fr + fi : Nat) : Int) x.l).step.loose.length ≤ c.loose.length + (i + 1)) :=
          ⟨hwrx, (HCi.out.2.2.2.put _ _ (by omega)).step hse, by rw [Ct.step_loose]; simp [Ct.put]; omega⟩
        clear hwrx
        go_upto_region 4 with fail
        refine wp_region_noPanic ?_
        refine wp_region_held_drew (S := fun w' => w'.cell? ⟨gf, of + i, none⟩ = some (.int .i64 (fi : Int)) ∧ w'.cell? ⟨sh, 0, none⟩ = some (.pointer (some ⟨p, 0, none⟩)) ∧ w'.cell? ⟨sh, 1, none⟩ = some (.int .i64 (fr : Int))) (by kernel_rfl) (HS.out _ (Fr.refl _ _)) (fun hHeld => ?_)
        refine wpAnyH_take (i := 0) (oi := { dst := some 21, op := Go.Op.move (Go.Operand.tmp 0), type := 31, pos := "shelf.go:242", after := #[], guard := none }) (v := ?_) rfl (by kernel_rfl) (by kernel_rfl) (by kernel_rfl) (fun _ _ _ h => h) (Or.inl ⟨by rfl, ?_⟩) (by assumption) ?_
        rotate_left
        · intro wz hSw; (try dsimp only at hSw); go_simp; (try with_reducible rfl)
        try simp only [Act.put, List.setIfInBounds_toArray, List.set_cons_zero, List.set_cons_succ]
        refine wpAnyH_take (i := 1) (oi := { dst := some 22, op := Go.Op.nilCheck (Go.Operand.tmp 21), type := 0, pos := "shelf.go:242", after := #[{ on := 0, ground := Go.Ground.data }], guard := none }) (v := ?_) rfl (by kernel_rfl) (by kernel_rfl) (by kernel_rfl) (fun _ _ _ h => h) (Or.inl ⟨by rfl, ?_⟩) (by assumption) ?_
        rotate_left
        · intro wz hSw; (try dsimp only at hSw); go_simp; (try with_reducible rfl)
        try simp only [Act.put, List.setIfInBounds_toArray, List.set_cons_zero, List.set_cons_succ]
        refine wpAnyH_take (i := 2) (oi := { dst := some 23, op := Go.Op.fieldAddr 83 (Go.Operand.tmp 22) 0, type := 0, pos := "shelf.go:242", after := #[{ on := 1, ground := Go.Ground.data }], guard := none }) (v := ?_) rfl (by kernel_rfl) (by kernel_rfl) (by kernel_rfl) (fun _ _ _ h => h) (Or.inl ⟨by rfl, ?_⟩) (by assumption) ?_
        rotate_left
        · intro wz hSw; (try dsimp only at hSw); go_simp; (try with_reducible rfl)
        try simp only [Act.put, List.setIfInBounds_toArray, List.set_cons_zero, List.set_cons_succ]
        refine wpAnyH_take (i := 3) (oi := { dst := some 24, op := Go.Op.load 24 (Go.Operand.tmp 23), type := 24, pos := "shelf.go:242", after := #[{ on := 2, ground := Go.Ground.data }], guard := none }) (v := .pointer (some ⟨p, 0, none⟩)) rfl (by kernel_rfl) (by kernel_rfl) (by kernel_rfl) (fun _ _ _ h => h) (Or.inl ⟨by rfl, ?_⟩) (by assumption) ?_
        · intro wz hSw; (try dsimp only at hSw); have h1 := hSw.2.1; go_simp; try rfl
        try simp only [Act.put, List.setIfInBounds_toArray, List.set_cons_zero, List.set_cons_succ]
        refine wpAnyH_take (i := 4) (oi := { dst := some 25, op := Go.Op.move (Go.Operand.tmp 0), type := 31, pos := "shelf.go:242", after := #[], guard := none }) (v := ?_) rfl (by kernel_rfl) (by kernel_rfl) (by kernel_rfl) (fun _ _ _ h => h) (Or.inl ⟨by rfl, ?_⟩) (by assumption) ?_
        rotate_left
        · intro wz hSw; (try dsimp only at hSw); go_simp; (try with_reducible rfl)
        try simp only [Act.put, List.setIfInBounds_toArray, List.set_cons_zero, List.set_cons_succ]
        refine wpAnyH_take (i := 5) (oi := { dst := some 26, op := Go.Op.nilCheck (Go.Operand.tmp 25), type := 0, pos := "shelf.go:242", after := #[{ on := 4, ground := Go.Ground.data }], guard := none }) (v := ?_) rfl (by kernel_rfl) (by kernel_rfl) (by kernel_rfl) (fun _ _ _ h => h) (Or.inl ⟨by rfl, ?_⟩) (by assumption) ?_
        rotate_left
        · intro wz hSw; (try dsimp only at hSw); go_simp; (try with_reducible rfl)
        try simp only [Act.put, List.setIfInBounds_toArray, List.set_cons_zero, List.set_cons_succ]
        refine wpAnyH_take (i := 6) (oi := { dst := some 27, op := Go.Op.fieldAddr 83 (Go.Operand.tmp 26) 1, type := 0, pos := "shelf.go:242", after := #[{ on := 5, ground := Go.Ground.data }], guard := none }) (v := ?_) rfl (by kernel_rfl) (by kernel_rfl) (by kernel_rfl) (fun _ _ _ h => h) (Or.inl ⟨by rfl, ?_⟩) (by assumption) ?_
        rotate_left
        · intro wz hSw; (try dsimp only at hSw); go_simp; (try with_reducible rfl)
        try simp only [Act.put, List.setIfInBounds_toArray, List.set_cons_zero, List.set_cons_succ]
        refine wpAnyH_take (i := 7) (oi := { dst := some 28, op := Go.Op.fieldAddr 35 (Go.Operand.tmp 27) 0, type := 0, pos := "shelf.go:242", after := #[{ on := 6, ground := Go.Ground.data }], guard := none }) (v := ?_) rfl (by kernel_rfl) (by kernel_rfl) (by kernel_rfl) (fun _ _ _ h => h) (Or.inl ⟨by rfl, ?_⟩) (by assumption) ?_
        rotate_left
        · intro wz hSw; (try dsimp only at hSw); go_simp; (try with_reducible rfl)
        try simp only [Act.put, List.setIfInBounds_toArray, List.set_cons_zero, List.set_cons_succ]
        refine wpAnyH_take (i := 8) (oi := { dst := some 29, op := Go.Op.load 3 (Go.Operand.tmp 28), type := 3, pos := "shelf.go:242", after := #[{ on := 7, ground := Go.Ground.data }], guard := none }) (v := .int .i64 (fr : Int)) rfl (by kernel_rfl) (by kernel_rfl) (by kernel_rfl) (fun _ _ _ h => h) (Or.inl ⟨by rfl, ?_⟩) (by assumption) ?_
        · intro wz hSw; (try dsimp only at hSw); have h1 := hSw.2.2; go_simp; try rfl
        try simp only [Act.put, List.setIfInBounds_toArray, List.set_cons_zero, List.set_cons_succ]
        refine wpAnyH_take (i := 9) (oi := { dst := some 30, op := Go.Op.move (Go.Operand.tmp 2), type := 63, pos := "shelf.go:242", after := #[], guard := none }) (v := ?_) rfl (by kernel_rfl) (by kernel_rfl) (by kernel_rfl) (fun _ _ _ h => h) (Or.inl ⟨by rfl, ?_⟩) (by assumption) ?_
        rotate_left
        · intro wz hSw; (try dsimp only at hSw); go_simp; (try with_reducible rfl)
        try simp only [Act.put, List.setIfInBounds_toArray, List.set_cons_zero, List.set_cons_succ]
        refine wpAnyH_take (i := 10) (oi := { dst := some 31, op := Go.Op.move (Go.Operand.tmp 9), type := 3, pos := "shelf.go:242", after := #[], guard := none }) (v := ?_) rfl (by kernel_rfl) (by kernel_rfl) (by kernel_rfl) (fun _ _ _ h => h) (Or.inl ⟨by rfl, ?_⟩) (by assumption) ?_
        rotate_left
        · intro wz hSw; (try dsimp only at hSw); go_simp; (try with_reducible rfl)
        try simp only [Act.put, List.setIfInBounds_toArray, List.set_cons_zero, List.set_cons_succ]
        refine wpAnyH_take (i := 11) (oi := { dst := some 32, op := Go.Op.indexAddr 63 (Go.Operand.tmp 30) (Go.Operand.tmp 31), type := 0, pos := "shelf.go:242", after := #[{ on := 9, ground := Go.Ground.data }, { on := 10, ground := Go.Ground.data }], guard := none }) (v := ?_) rfl (by kernel_rfl) (by kernel_rfl) (by kernel_rfl) (fun _ _ _ h => h) (Or.inl ⟨by rfl, ?_⟩) (by assumption) ?_
        rotate_left
        · intro wz hSw; (try dsimp only at hSw); go_simp; (try with_reducible rfl)
        try simp only [Act.put, List.setIfInBounds_toArray, List.set_cons_zero, List.set_cons_succ]
        refine wpAnyH_take (i := 12) (oi := { dst := some 33, op := Go.Op.load 3 (Go.Operand.tmp 32), type := 3, pos := "shelf.go:242", after := #[{ on := 11, ground := Go.Ground.data }], guard := none }) (v := .int .i64 (fi : Int)) rfl (by kernel_rfl) (by kernel_rfl) (by kernel_rfl) (fun _ _ _ h => h) (Or.inl ⟨by rfl, ?_⟩) (by assumption) ?_
        · intro wz hSw; (try dsimp only at hSw); have h1 := hSw.1; go_simp; try rfl
        try simp only [Act.put, List.setIfInBounds_toArray, List.set_cons_zero, List.set_cons_succ]
        refine wpAnyH_take (i := 13) (oi := { dst := some 34, op := Go.Op.binOp Go.BinOp.add 3 (Go.Operand.tmp 29) (Go.Operand.tmp 33) 3, type := 3, pos := "shelf.go:242", after := #[{ on := 8, ground := Go.Ground.data }, { on := 12, ground := Go.Ground.data }], guard := none }) (v := .int .i64 ((fr + fi : Nat) : Int)) rfl (by kernel_rfl) (by kernel_rfl) (by kernel_rfl) (fun _ _ _ h => h) (Or.inl ⟨by rfl, ?_⟩) (by assumption) ?_
        · intro wz hSw; (try dsimp only at hSw); go_simp; try rfl
        try simp only [Act.put, List.setIfInBounds_toArray, List.set_cons_zero, List.set_cons_succ]
        refine wpAnyH_take (i := 14) (oi := { dst := some 35, op := Go.Op.move (Go.Operand.tmp 10), type := 29, pos := "shelf.go:242", after := #[], guard := none }) (v := ?_) rfl (by kernel_rfl) (by kernel_rfl) (by kernel_rfl) (fun _ _ _ h => h) (Or.inl ⟨by rfl, ?_⟩) (by assumption) ?_
        rotate_left
        · intro wz hSw; (try dsimp only at hSw); go_simp; (try with_reducible rfl)
        try simp only [Act.put, List.setIfInBounds_toArray, List.set_cons_zero, List.set_cons_succ]
        refine wpAnyH_ready (rs := [15]) (by kernel_rfl) (by simp) ?_
        refine (AllReadyH.cons (o := { dst := some 36, op := Go.Op.call { callee := Go.Callee.value (Go.Operand.func 10), args := #[Go.Operand.tmp 24, Go.Operand.tmp 34, Go.Operand.tmp 35], argTypes := #[24, 3, 29] }, type := 26, pos := "shelf.go:242", after := #[{ on := 3, ground := Go.Ground.data }, { on := 13, ground := Go.Ground.data }, { on := 14, ground := Go.Ground.data }], guard := none }) rfl (fun K hK => ?_) AllReadyH.nil)
        go_simp
        refine hwc.mono ?_
        rintro e w5 ⟨rfl, hG5⟩
        have HG5 : Hid (StG G p w w5 (ci.put ((fr + fi : Nat) : Int) x.l).step) := HT.out w5 hG5
        have hF5 : Fr G1 wr.drew w5 := by obtain ⟨_, _, _, h4⟩ := hG5; exact h4
        refine hK.out _ _ (HS.out w5 hF5) (fun _ => ?_)
        clear hK K hG5 hF5
        try simp only [Act.put, List.setIfInBounds_toArray, List.set_cons_zero, List.set_cons_succ]
        refine wpAnyH_take (i := 16) (oi := { dst := some 11, op := Go.Op.assign (Go.Operand.tmp 36), type := 26, pos := "shelf.go:242", after := #[{ on := 15, ground := Go.Ground.data }, { on := 15, ground := Go.Ground.chain }, { on := 0, ground := Go.Ground.phase }, { on := 1, ground := Go.Ground.phase }, { on := 2, ground := Go.Ground.phase }, { on := 3, ground := Go.Ground.phase }, { on := 4, ground := Go.Ground.phase }, { on := 5, ground := Go.Ground.phase }, { on := 6, ground := Go.Ground.phase }, { on := 7, ground := Go.Ground.phase }, { on := 8, ground := Go.Ground.phase }, { on := 9, ground := Go.Ground.phase }, { on := 10, ground := Go.Ground.phase }, { on := 11, ground := Go.Ground.phase }, { on := 12, ground := Go.Ground.phase }, { on := 13, ground := Go.Ground.phase }, { on := 14, ground := Go.Ground.phase }, { on := 15, ground := Go.Ground.phase }], guard := none }) (v := ?_) rfl (by kernel_rfl) (by kernel_rfl) (by kernel_rfl) (fun _ _ _ h => h) (Or.inl ⟨by rfl, ?_⟩) (by assumption) ?_
        rotate_left
        · intro wz hSw; (try dsimp only at hSw); go_simp; (try with_reducible rfl)
        try simp only [Act.put, List.setIfInBounds_toArray, List.set_cons_zero, List.set_cons_succ]
        refine wpAnyH_done (by kernel_rfl) (NoPanic.normal ?_) _
        try simp only [Act.put, List.setIfInBounds_toArray, List.set_cons_zero, List.set_cons_succ]
        clear HS HT hwc hHeld
        go_wp2
        obtain ⟨G5, k1, k2, k3⟩ := HG5.out
        refine ⟨⟨i + 1, by omega, by go_num, ⟨G5, _, HWx.out.1, k1, k2, HWx.out.2.1, HWx.out.2.2⟩, k3⟩, by simp [intOf]; omega⟩
      · rw [errV_ne hse] at hwc
        rw [if_neg hse] at hwrx
        have HWx : Hid (c.lay ws (fr : Int) root = (ci.stepE, (ci.put ((fr + fi : Nat) : Int) x.l).step)) := by
          unfold Ct.lay
          rw [hwrx, if_neg (by simpa using hse)]
          exact rfl
        clear hwrx
        go_upto_region 4 with fail
        refine wp_region_noPanic ?_
        refine wp_region_held_drew (S := fun w' => w'.cell? ⟨gf, of + i, none⟩ = some (.int .i64 (fi : Int)) ∧ w'.cell? ⟨sh, 0, none⟩ = some (.pointer (some ⟨p, 0, none⟩)) ∧ w'.cell? ⟨sh, 1, none⟩ = some (.int .i64 (fr : Int))) (by kernel_rfl) (HS.out _ (Fr.refl _ _)) (fun hHeld => ?_)
        refine wpAnyH_take (i := 0) (oi := { dst := some 21, op := Go.Op.move (Go.Operand.tmp 0), type := 31, pos := "shelf.go:242", after := #[], guard := none }) (v := ?_) rfl (by kernel_rfl) (by kernel_rfl) (by kernel_rfl) (fun _ _ _ h => h) (Or.inl ⟨by rfl, ?_⟩) (by assumption) ?_
        rotate_left
        · intro wz hSw; (try dsimp only at hSw); go_simp; (try with_reducible rfl)
        try simp only [Act.put, List.setIfInBounds_toArray, List.set_cons_zero, List.set_cons_succ]
        refine wpAnyH_take (i := 1) (oi := { dst := some 22, op := Go.Op.nilCheck (Go.Operand.tmp 21), type := 0, pos := "shelf.go:242", after := #[{ on := 0, ground := Go.Ground.data }], guard := none }) (v := ?_) rfl (by kernel_rfl) (by kernel_rfl) (by kernel_rfl) (fun _ _ _ h => h) (Or.inl ⟨by rfl, ?_⟩) (by assumption) ?_
        rotate_left
        · intro wz hSw; (try dsimp only at hSw); go_simp; (try with_reducible rfl)
        try simp only [Act.put, List.setIfInBounds_toArray, List.set_cons_zero, List.set_cons_succ]
        refine wpAnyH_take (i := 2) (oi := { dst := some 23, op := Go.Op.fieldAddr 83 (Go.Operand.tmp 22) 0, type := 0, pos := "shelf.go:242", after := #[{ on := 1, ground := Go.Ground.data }], guard := none }) (v := ?_) rfl (by kernel_rfl) (by kernel_rfl) (by kernel_rfl) (fun _ _ _ h => h) (Or.inl ⟨by rfl, ?_⟩) (by assumption) ?_
        rotate_left
        · intro wz hSw; (try dsimp only at hSw); go_simp; (try with_reducible rfl)
        try simp only [Act.put, List.setIfInBounds_toArray, List.set_cons_zero, List.set_cons_succ]
        refine wpAnyH_take (i := 3) (oi := { dst := some 24, op := Go.Op.load 24 (Go.Operand.tmp 23), type := 24, pos := "shelf.go:242", after := #[{ on := 2, ground := Go.Ground.data }], guard := none }) (v := .pointer (some ⟨p, 0, none⟩)) rfl (by kernel_rfl) (by kernel_rfl) (by kernel_rfl) (fun _ _ _ h => h) (Or.inl ⟨by rfl, ?_⟩) (by assumption) ?_
        · intro wz hSw; (try dsimp only at hSw); have h1 := hSw.2.1; go_simp; try rfl
        try simp only [Act.put, List.setIfInBounds_toArray, List.set_cons_zero, List.set_cons_succ]
        refine wpAnyH_take (i := 4) (oi := { dst := some 25, op := Go.Op.move (Go.Operand.tmp 0), type := 31, pos := "shelf.go:242", after := #[], guard := none }) (v := ?_) rfl (by kernel_rfl) (by kernel_rfl) (by kernel_rfl) (fun _ _ _ h => h) (Or.inl ⟨by rfl, ?_⟩) (by assumption) ?_
        rotate_left
        · intro wz hSw; (try dsimp only at hSw); go_simp; (try with_reducible rfl)
        try simp only [Act.put, List.setIfInBounds_toArray, List.set_cons_zero, List.set_cons_succ]
        refine wpAnyH_take (i := 5) (oi := { dst := some 26, op := Go.Op.nilCheck (Go.Operand.tmp 25), type := 0, pos := "shelf.go:242", after := #[{ on := 4, ground := Go.Ground.data }], guard := none }) (v := ?_) rfl (by kernel_rfl) (by kernel_rfl) (by kernel_rfl) (fun _ _ _ h => h) (Or.inl ⟨by rfl, ?_⟩) (by assumption) ?_
        rotate_left
        · intro wz hSw; (try dsimp only at hSw); go_simp; (try with_reducible rfl)
        try simp only [Act.put, List.setIfInBounds_toArray, List.set_cons_zero, List.set_cons_succ]
        refine wpAnyH_take (i := 6) (oi := { dst := some 27, op := Go.Op.fieldAddr 83 (Go.Operand.tmp 26) 1, type := 0, pos := "shelf.go:242", after := #[{ on := 5, ground := Go.Ground.data }], guard := none }) (v := ?_) rfl (by kernel_rfl) (by kernel_rfl) (by kernel_rfl) (fun _ _ _ h => h) (Or.inl ⟨by rfl, ?_⟩) (by assumption) ?_
        rotate_left
        · intro wz hSw; (try dsimp only at hSw); go_simp; (try with_reducible rfl)
        try simp only [Act.put, List.setIfInBounds_toArray, List.set_cons_zero, List.set_cons_succ]
        refine wpAnyH_take (i := 7) (oi := { dst := some 28, op := Go.Op.fieldAddr 35 (Go.Operand.tmp 27) 0, type := 0, pos := "shelf.go:242", after := #[{ on := 6, ground := Go.Ground.data }], guard := none }) (v := ?_) rfl (by kernel_rfl) (by kernel_rfl) (by kernel_rfl) (fun _ _ _ h => h) (Or.inl ⟨by rfl, ?_⟩) (by assumption) ?_
        rotate_left
        · intro wz hSw; (try dsimp only at hSw); go_simp; (try with_reducible rfl)
        try simp only [Act.put, List.setIfInBounds_toArray, List.set_cons_zero, List.set_cons_succ]
        refine wpAnyH_take (i := 8) (oi := { dst := some 29, op := Go.Op.load 3 (Go.Operand.tmp 28), type := 3, pos := "shelf.go:242", after := #[{ on := 7, ground := Go.Ground.data }], guard := none }) (v := .int .i64 (fr : Int)) rfl (by kernel_rfl) (by kernel_rfl) (by kernel_rfl) (fun _ _ _ h => h) (Or.inl ⟨by rfl, ?_⟩) (by assumption) ?_
        · intro wz hSw; (try dsimp only at hSw); have h1 := hSw.2.2; go_simp; try rfl
        try simp only [Act.put, List.setIfInBounds_toArray, List.set_cons_zero, List.set_cons_succ]
        refine wpAnyH_take (i := 9) (oi := { dst := some 30, op := Go.Op.move (Go.Operand.tmp 2), type := 63, pos := "shelf.go:242", after := #[], guard := none }) (v := ?_) rfl (by kernel_rfl) (by kernel_rfl) (by kernel_rfl) (fun _ _ _ h => h) (Or.inl ⟨by rfl, ?_⟩) (by assumption) ?_
        rotate_left
        · intro wz hSw; (try dsimp only at hSw); go_simp; (try with_reducible rfl)
        try simp only [Act.put, List.setIfInBounds_toArray, List.set_cons_zero, List.set_cons_succ]
        refine wpAnyH_take (i := 10) (oi := { dst := some 31, op := Go.Op.move (Go.Operand.tmp 9), type := 3, pos := "shelf.go:242", after := #[], guard := none }) (v := ?_) rfl (by kernel_rfl) (by kernel_rfl) (by kernel_rfl) (fun _ _ _ h => h) (Or.inl ⟨by rfl, ?_⟩) (by assumption) ?_
        rotate_left
        · intro wz hSw; (try dsimp only at hSw); go_simp; (try with_reducible rfl)
        try simp only [Act.put, List.setIfInBounds_toArray, List.set_cons_zero, List.set_cons_succ]
        refine wpAnyH_take (i := 11) (oi := { dst := some 32, op := Go.Op.indexAddr 63 (Go.Operand.tmp 30) (Go.Operand.tmp 31), type := 0, pos := "shelf.go:242", after := #[{ on := 9, ground := Go.Ground.data }, { on := 10, ground := Go.Ground.data }], guard := none }) (v := ?_) rfl (by kernel_rfl) (by kernel_rfl) (by kernel_rfl) (fun _ _ _ h => h) (Or.inl ⟨by rfl, ?_⟩) (by assumption) ?_
        rotate_left
        · intro wz hSw; (try dsimp only at hSw); go_simp; (try with_reducible rfl)
        try simp only [Act.put, List.setIfInBounds_toArray, List.set_cons_zero, List.set_cons_succ]
        refine wpAnyH_take (i := 12) (oi := { dst := some 33, op := Go.Op.load 3 (Go.Operand.tmp 32), type := 3, pos := "shelf.go:242", after := #[{ on := 11, ground := Go.Ground.data }], guard := none }) (v := .int .i64 (fi : Int)) rfl (by kernel_rfl) (by kernel_rfl) (by kernel_rfl) (fun _ _ _ h => h) (Or.inl ⟨by rfl, ?_⟩) (by assumption) ?_
        · intro wz hSw; (try dsimp only at hSw); have h1 := hSw.1; go_simp; try rfl
        try simp only [Act.put, List.setIfInBounds_toArray, List.set_cons_zero, List.set_cons_succ]
        refine wpAnyH_take (i := 13) (oi := { dst := some 34, op := Go.Op.binOp Go.BinOp.add 3 (Go.Operand.tmp 29) (Go.Operand.tmp 33) 3, type := 3, pos := "shelf.go:242", after := #[{ on := 8, ground := Go.Ground.data }, { on := 12, ground := Go.Ground.data }], guard := none }) (v := .int .i64 ((fr + fi : Nat) : Int)) rfl (by kernel_rfl) (by kernel_rfl) (by kernel_rfl) (fun _ _ _ h => h) (Or.inl ⟨by rfl, ?_⟩) (by assumption) ?_
        · intro wz hSw; (try dsimp only at hSw); go_simp; try rfl
        try simp only [Act.put, List.setIfInBounds_toArray, List.set_cons_zero, List.set_cons_succ]
        refine wpAnyH_take (i := 14) (oi := { dst := some 35, op := Go.Op.move (Go.Operand.tmp 10), type := 29, pos := "shelf.go:242", after := #[], guard := none }) (v := ?_) rfl (by kernel_rfl) (by kernel_rfl) (by kernel_rfl) (fun _ _ _ h => h) (Or.inl ⟨by rfl, ?_⟩) (by assumption) ?_
        rotate_left
        · intro wz hSw; (try dsimp only at hSw); go_simp; (try with_reducible rfl)
        try simp only [Act.put, List.setIfInBounds_toArray, List.set_cons_zero, List.set_cons_succ]
        refine wpAnyH_ready (rs := [15]) (by kernel_rfl) (by simp) ?_
        refine (AllReadyH.cons (o := { dst := some 36, op := Go.Op.call { callee := Go.Callee.value (Go.Operand.func 10), args := #[Go.Operand.tmp 24, Go.Operand.tmp 34, Go.Operand.tmp 35], argTypes := #[24, 3, 29] }, type := 26, pos := "shelf.go:242", after := #[{ on := 3, ground := Go.Ground.data }, { on := 13, ground := Go.Ground.data }, { on := 14, ground := Go.Ground.data }], guard := none }) rfl (fun K hK => ?_) AllReadyH.nil)
        go_simp
        refine hwc.mono ?_
        rintro e w5 ⟨rfl, hG5⟩
        have HG5 : Hid (StG G p w w5 (ci.put ((fr + fi : Nat) : Int) x.l).step) := HT.out w5 hG5
        have hF5 : Fr G1 wr.drew w5 := by obtain ⟨_, _, _, h4⟩ := hG5; exact h4
        refine hK.out _ _ (HS.out w5 hF5) (fun _ => ?_)
        clear hK K hG5 hF5
        try simp only [Act.put, List.setIfInBounds_toArray, List.set_cons_zero, List.set_cons_succ]
        refine wpAnyH_take (i := 16) (oi := { dst := some 11, op := Go.Op.assign (Go.Operand.tmp 36), type := 26, pos := "shelf.go:242", after := #[{ on := 15, ground := Go.Ground.data }, { on := 15, ground := Go.Ground.chain }, { on := 0, ground := Go.Ground.phase }, { on := 1, ground := Go.Ground.phase }, { on := 2, ground := Go.Ground.phase }, { on := 3, ground := Go.Ground.phase }, { on := 4, ground := Go.Ground.phase }, { on := 5, ground := Go.Ground.phase }, { on := 6, ground := Go.Ground.phase }, { on := 7, ground := Go.Ground.phase }, { on := 8, ground := Go.Ground.phase }, { on := 9, ground := Go.Ground.phase }, { on := 10, ground := Go.Ground.phase }, { on := 11, ground := Go.Ground.phase }, { on := 12, ground := Go.Ground.phase }, { on := 13, ground := Go.Ground.phase }, { on := 14, ground := Go.Ground.phase }, { on := 15, ground := Go.Ground.phase }], guard := none }) (v := ?_) rfl (by kernel_rfl) (by kernel_rfl) (by kernel_rfl) (fun _ _ _ h => h) (Or.inl ⟨by rfl, ?_⟩) (by assumption) ?_
        rotate_left
        · intro wz hSw; (try dsimp only at hSw); go_simp; (try with_reducible rfl)
        try simp only [Act.put, List.setIfInBounds_toArray, List.set_cons_zero, List.set_cons_succ]
        refine wpAnyH_done (by kernel_rfl) (NoPanic.normal ?_) _
        try simp only [Act.put, List.setIfInBounds_toArray, List.set_cons_zero, List.set_cons_succ]
        clear HS HT hwc hHeld
        go_wp2
        go_ret
        refine ⟨?_, ?_⟩
        · rw [HWx.out]; exact congrArg _ (errV_ne hse).symm
        · rw [HWx.out]; exact HG5.out
    · obtain rfl : i = X.length := by omega
      have hlt' : ¬ ((X.length : Int) < X.length) := by omega
      have hwr0 := HCi.out.1
      rw [List.drop_eq_nil_of_le (by omega), Ct.wrs_nil] at hwr0
      by_cases hX0 : X.length = 0
      · have hws0 : ws = [] := List.eq_nil_of_length_eq_zero (by omega)
        have HLay : Hid (c.lay ws (fr : Int) root = ci.root (fr : Int) root) := by
          unfold Ct.lay
          rw [hwr0, if_pos rfl, if_pos hws0]
          exact rfl
        have hg0 : ¬ ((0 : Int) < (X.length : Int)) := by omega
        have HV : Hid (CtAt wr G1 p ci ∧ ci.Ok N ∧ (∀ k, G1 k → G k ∨ (w.heap.size ≤ k ∧ k < wr.heap.size)) ∧ Fr G w wr ∧ ci.loose.length < 100000) := ⟨HCi.out.2.1, HCi.out.2.2.2, HCi.out.2.2.1, HFr.out, by omega⟩
        clear HCi HFr HK hwr0 hws0 hX0
        generalize wr = wv at *
        generalize G1 = Gv at *
        generalize ci = cv at *
        have hkr : ∀ k, k < w.heap.size → (B ≤ k ∨ k = sh) → wv.heap[k]? = w.heap[k]? ∧ ¬ Gv k := fun k hk hb => by
          have hng : ¬ G k := fun hg => by
            rcases hb with hb | rfl
            · have := HG.out.1 k hg; omega
            · exact HG.out.2 hg
          refine ⟨HV.out.2.2.2.1.block k hk hng, fun hg => ?_⟩
          rcases HV.out.2.2.1 k hg with hg | hg
          · exact hng hg
          · omega
        have hksv := hkr sh lsh (.inr rfl)
        have hshv : sh < wv.heap.size := Nat.lt_of_lt_of_le lsh HV.out.2.2.2.1.size
        have HSv : Hid (∀ w' : World, Fr Gv wv.drew w' → w'.cell? ⟨sh, 0, none⟩ = some (.pointer (some ⟨p, 0, none⟩)) ∧ w'.cell? ⟨sh, 1, none⟩ = some (.int .i64 (fr : Int))) := fun w' hf => by
          have a2 : w'.heap[sh]? = w.heap[sh]? := (hf.block sh hshv hksv.2).trans hksv.1
          exact ⟨by rw [World.cell?_of_block (a := ⟨sh, 0, none⟩) a2]; exact HH.out.c0, by rw [World.cell?_of_block (a := ⟨sh, 1, none⟩) a2]; exact HH.out.c1⟩
        have HRv : Hid (SlAt wv ra root.length (fn root) ∧ (ra = none → root.length = 0 ∧ rc = 0) ∧ (∀ y, y ∈ root → 0 ≤ y ∧ y ≤ 255) ∧ root.length ≤ 4096) :=
          ⟨HR.out.1.block fun b off hn e => (hkr b (HR.out.1.lt hn e) (.inl (HR.out.2.2.1 _ e))).1, HR.out.2.1, HR.out.2.2.2.1, HR.out.2.2.2.2⟩
        clear hkr hksv hshv
        have hwc := write_ct Gv p cv N (fr : Int) ra rc root wv.drew (HV.out.1.below (Below.refl _ _).drew) HV.out.2.1 (by omega) (HRv.out.1.keepB (Below.refl _ _).drew) HRv.out.2.1 HRv.out.2.2.1 HRv.out.2.2.2
        by_cases hs3 : cv.stepE = 0
        · rw [hs3, errV_0] at hwc
          have HLr : Hid (c.lay ws (fr : Int) root = ((cv.put (fr : Int) root).step.stepE, (cv.put (fr : Int) root).step.sync)) := by
            rw [HLay.out, Ct.root, if_pos hs3]
            exact rfl
          go_upto_region 12 with fail
          refine wp_region_noPanic ?_
          refine wp_region_held_drew (S := fun w' => w'.cell? ⟨sh, 0, none⟩ = some (.pointer (some ⟨p, 0, none⟩)) ∧ w'.cell? ⟨sh, 1, none⟩ = some (.int .i64 (fr : Int))) (by kernel_rfl) (HSv.out _ (Fr.refl _ _)) (fun hHeld => ?_)
          refine wpAnyH_take (i := 0) (oi := { dst := some 52, op := Go.Op.move (Go.Operand.tmp 0), type := 31, pos := "shelf.go:251", after := #[], guard := none }) (v := ?_) rfl (by kernel_rfl) (by kernel_rfl) (by kernel_rfl) (fun _ _ _ h => h) (Or.inl ⟨by rfl, ?_⟩) (by assumption) ?_
          rotate_left
          · intro wz hSw; (try dsimp only at hSw); go_simp; (try with_reducible rfl)
          try simp only [Act.put, List.setIfInBounds_toArray, List.set_cons_zero, List.set_cons_succ]
          refine wpAnyH_take (i := 1) (oi := { dst := some 53, op := Go.Op.nilCheck (Go.Operand.tmp 52), type := 0, pos := "shelf.go:251", after := #[{ on := 0, ground := Go.Ground.data }], guard := none }) (v := ?_) rfl (by kernel_rfl) (by kernel_rfl) (by kernel_rfl) (fun _ _ _ h => h) (Or.inl ⟨by rfl, ?_⟩) (by assumption) ?_
          rotate_left
          · intro wz hSw; (try dsimp only at hSw); go_simp; (try with_reducible rfl)
          try simp only [Act.put, List.setIfInBounds_toArray, List.set_cons_zero, List.set_cons_succ]
          refine wpAnyH_take (i := 2) (oi := { dst := some 54, op := Go.Op.fieldAddr 83 (Go.Operand.tmp 53) 0, type := 0, pos := "shelf.go:251", after := #[{ on := 1, ground := Go.Ground.data }], guard := none }) (v := ?_) rfl (by kernel_rfl) (by kernel_rfl) (by kernel_rfl) (fun _ _ _ h => h) (Or.inl ⟨by rfl, ?_⟩) (by assumption) ?_
          rotate_left
          · intro wz hSw; (try dsimp only at hSw); go_simp; (try with_reducible rfl)
          try simp only [Act.put, List.setIfInBounds_toArray, List.set_cons_zero, List.set_cons_succ]
          refine wpAnyH_take (i := 3) (oi := { dst := some 55, op := Go.Op.load 24 (Go.Operand.tmp 54), type := 24, pos := "shelf.go:251", after := #[{ on := 2, ground := Go.Ground.data }], guard := none }) (v := .pointer (some ⟨p, 0, none⟩)) rfl (by kernel_rfl) (by kernel_rfl) (by kernel_rfl) (fun _ _ _ h => h) (Or.inl ⟨by rfl, ?_⟩) (by assumption) ?_
          · intro wz hSw; (try dsimp only at hSw); have h1 := hSw.1; go_simp; try rfl
          try simp only [Act.put, List.setIfInBounds_toArray, List.set_cons_zero, List.set_cons_succ]
          refine wpAnyH_take (i := 4) (oi := { dst := some 56, op := Go.Op.move (Go.Operand.tmp 0), type := 31, pos := "shelf.go:251", after := #[], guard := none }) (v := ?_) rfl (by kernel_rfl) (by kernel_rfl) (by kernel_rfl) (fun _ _ _ h => h) (Or.inl ⟨by rfl, ?_⟩) (by assumption) ?_
          rotate_left
          · intro wz hSw; (try dsimp only at hSw); go_simp; (try with_reducible rfl)
          try simp only [Act.put, List.setIfInBounds_toArray, List.set_cons_zero, List.set_cons_succ]
          refine wpAnyH_take (i := 5) (oi := { dst := some 57, op := Go.Op.nilCheck (Go.Operand.tmp 56), type := 0, pos := "shelf.go:251", after := #[{ on := 4, ground := Go.Ground.data }], guard := none }) (v := ?_) rfl (by kernel_rfl) (by kernel_rfl) (by kernel_rfl) (fun _ _ _ h => h) (Or.inl ⟨by rfl, ?_⟩) (by assumption) ?_
          rotate_left
          · intro wz hSw; (try dsimp only at hSw); go_simp; (try with_reducible rfl)
          try simp only [Act.put, List.setIfInBounds_toArray, List.set_cons_zero, List.set_cons_succ]
          refine wpAnyH_take (i := 6) (oi := { dst := some 58, op := Go.Op.fieldAddr 83 (Go.Operand.tmp 57) 1, type := 0, pos := "shelf.go:251", after := #[{ on := 5, ground := Go.Ground.data }], guard := none }) (v := ?_) rfl (by kernel_rfl) (by kernel_rfl) (by kernel_rfl) (fun _ _ _ h => h) (Or.inl ⟨by rfl, ?_⟩) (by assumption) ?_
          rotate_left
          · intro wz hSw; (try dsimp only at hSw); go_simp; (try with_reducible rfl)
          try simp only [Act.put, List.setIfInBounds_toArray, List.set_cons_zero, List.set_cons_succ]
          refine wpAnyH_take (i := 7) (oi := { dst := some 59, op := Go.Op.fieldAddr 35 (Go.Operand.tmp 58) 0, type := 0, pos := "shelf.go:251", after := #[{ on := 6, ground := Go.Ground.data }], guard := none }) (v := ?_) rfl (by kernel_rfl) (by kernel_rfl) (by kernel_rfl) (fun _ _ _ h => h) (Or.inl ⟨by rfl, ?_⟩) (by assumption) ?_
          rotate_left
          · intro wz hSw; (try dsimp only at hSw); go_simp; (try with_reducible rfl)
          try simp only [Act.put, List.setIfInBounds_toArray, List.set_cons_zero, List.set_cons_succ]
          refine wpAnyH_take (i := 8) (oi := { dst := some 60, op := Go.Op.load 3 (Go.Operand.tmp 59), type := 3, pos := "shelf.go:251", after := #[{ on := 7, ground := Go.Ground.data }], guard := none }) (v := .int .i64 (fr : Int)) rfl (by kernel_rfl) (by kernel_rfl) (by kernel_rfl) (fun _ _ _ h => h) (Or.inl ⟨by rfl, ?_⟩) (by assumption) ?_
          · intro wz hSw; (try dsimp only at hSw); have h1 := hSw.2; go_simp; try rfl
          try simp only [Act.put, List.setIfInBounds_toArray, List.set_cons_zero, List.set_cons_succ]
          refine wpAnyH_take (i := 9) (oi := { dst := some 61, op := Go.Op.move (Go.Operand.tmp 3), type := 29, pos := "shelf.go:251", after := #[], guard := none }) (v := ?_) rfl (by kernel_rfl) (by kernel_rfl) (by kernel_rfl) (fun _ _ _ h => h) (Or.inl ⟨by rfl, ?_⟩) (by assumption) ?_
          rotate_left
          · intro wz hSw; (try dsimp only at hSw); go_simp; (try with_reducible rfl)
          try simp only [Act.put, List.setIfInBounds_toArray, List.set_cons_zero, List.set_cons_succ]
          refine wpAnyH_ready (rs := [10]) (by kernel_rfl) (by simp) ?_
          refine (AllReadyH.cons (o := { dst := some 62, op := Go.Op.call { callee := Go.Callee.value (Go.Operand.func 10), args := #[Go.Operand.tmp 55, Go.Operand.tmp 60, Go.Operand.tmp 61], argTypes := #[24, 3, 29] }, type := 26, pos := "shelf.go:251", after := #[{ on := 3, ground := Go.Ground.data }, { on := 8, ground := Go.Ground.data }, { on := 9, ground := Go.Ground.data }], guard := none }) rfl (fun K hK => ?_) AllReadyH.nil)
          go_simp
          refine hwc.mono ?_
          rintro e w8 ⟨rfl, G8, k1, k2, k3⟩
          have HG8 : Hid (CtAt w8 G8 p (cv.put (fr : Int) root).step ∧ (∀ k, G8 k → Gv k ∨ (wv.heap.size ≤ k ∧ k < w8.heap.size)) ∧ Fr Gv wv w8) := ⟨k1, k2, ⟨k3.os, k3.tape, k3.output, k3.size, k3.block⟩⟩
          refine hK.out _ _ (HSv.out w8 k3) (fun _ => ?_)
          clear hK K k1 k2
          try simp only [Act.put, List.setIfInBounds_toArray, List.set_cons_zero, List.set_cons_succ]
          refine wpAnyH_take (i := 11) (oi := { dst := some 13, op := Go.Op.assign (Go.Operand.tmp 62), type := 26, pos := "shelf.go:251", after := #[{ on := 10, ground := Go.Ground.data }, { on := 10, ground := Go.Ground.chain }, { on := 0, ground := Go.Ground.phase }, { on := 1, ground := Go.Ground.phase }, { on := 2, ground := Go.Ground.phase }, { on := 3, ground := Go.Ground.phase }, { on := 4, ground := Go.Ground.phase }, { on := 5, ground := Go.Ground.phase }, { on := 6, ground := Go.Ground.phase }, { on := 7, ground := Go.Ground.phase }, { on := 8, ground := Go.Ground.phase }, { on := 9, ground := Go.Ground.phase }, { on := 10, ground := Go.Ground.phase }], guard := none }) (v := ?_) rfl (by kernel_rfl) (by kernel_rfl) (by kernel_rfl) (fun _ _ _ h => h) (Or.inl ⟨by rfl, ?_⟩) (by assumption) ?_
          rotate_left
          · intro wz hSw; (try dsimp only at hSw); go_simp; (try with_reducible rfl)
          try simp only [Act.put, List.setIfInBounds_toArray, List.set_cons_zero, List.set_cons_succ]
          refine wpAnyH_done (by kernel_rfl) (NoPanic.normal ?_) _
          try simp only [Act.put, List.setIfInBounds_toArray, List.set_cons_zero, List.set_cons_succ]
          have e30 : w8.cell? ⟨sh, 0, none⟩ = some (.pointer (some ⟨p, 0, none⟩)) := (HSv.out w8 k3).1
          clear k3 hHeld hwc
          have hok8 : (cv.put (fr : Int) root).step.Ok N := (HV.out.2.1.put _ _ (by have := HV.out.2.2.2.2; omega)).step hs3
          have hsy := sync_ct G8 p _ N w8 HG8.out.1 hok8
          generalize hvv : errV (cv.put (fr : Int) root).step.stepE = vv at hsy
          have HVV : Hid (errV (cv.put (fr : Int) root).step.stepE = vv) := hvv
          clear hvv hok8 HSv
          go_wp2_with fail
          refine hsy.mono ?_
          rintro e w9 ⟨rfl, hG9⟩
          have HG9 : Hid (StG G p w w9 (cv.put (fr : Int) root).step.sync) := StG.trans (w1 := wv) HV.out.2.2.1 HV.out.2.2.2.1 (StG.trans HG8.out.2.1 HG8.out.2.2 hG9)
          clear hG9 hsy
          go_wp2
          go_ret
          refine ⟨?_, ?_⟩
          · rw [HLr.out]; exact congrArg _ HVV.out.symm
          · rw [HLr.out]; exact HG9.out
        · rw [errV_ne hs3] at hwc
          have HLr : Hid (c.lay ws (fr : Int) root = (cv.stepE, (cv.put (fr : Int) root).step)) := by
            rw [HLay.out, Ct.root, if_neg hs3]
            exact rfl
          go_upto_region 12 with fail
          refine wp_region_noPanic ?_
          refine wp_region_held_drew (S := fun w' => w'.cell? ⟨sh, 0, none⟩ = some (.pointer (some ⟨p, 0, none⟩)) ∧ w'.cell? ⟨sh, 1, none⟩ = some (.int .i64 (fr : Int))) (by kernel_rfl) (HSv.out _ (Fr.refl _ _)) (fun hHeld => ?_)
          refine wpAnyH_take (i := 0) (oi := { dst := some 52, op := Go.Op.move (Go.Operand.tmp 0), type := 31, pos := "shelf.go:251", after := #[], guard := none }) (v := ?_) rfl (by kernel_rfl) (by kernel_rfl) (by kernel_rfl) (fun _ _ _ h => h) (Or.inl ⟨by rfl, ?_⟩) (by assumption) ?_
          rotate_left
          · intro wz hSw; (try dsimp only at hSw); go_simp; (try with_reducible rfl)
          try simp only [Act.put, List.setIfInBounds_toArray, List.set_cons_zero, List.set_cons_succ]
          refine wpAnyH_take (i := 1) (oi := { dst := some 53, op := Go.Op.nilCheck (Go.Operand.tmp 52), type := 0, pos := "shelf.go:251", after := #[{ on := 0, ground := Go.Ground.data }], guard := none }) (v := ?_) rfl (by kernel_rfl) (by kernel_rfl) (by kernel_rfl) (fun _ _ _ h => h) (Or.inl ⟨by rfl, ?_⟩) (by assumption) ?_
          rotate_left
          · intro wz hSw; (try dsimp only at hSw); go_simp; (try with_reducible rfl)
          try simp only [Act.put, List.setIfInBounds_toArray, List.set_cons_zero, List.set_cons_succ]
          refine wpAnyH_take (i := 2) (oi := { dst := some 54, op := Go.Op.fieldAddr 83 (Go.Operand.tmp 53) 0, type := 0, pos := "shelf.go:251", after := #[{ on := 1, ground := Go.Ground.data }], guard := none }) (v := ?_) rfl (by kernel_rfl) (by kernel_rfl) (by kernel_rfl) (fun _ _ _ h => h) (Or.inl ⟨by rfl, ?_⟩) (by assumption) ?_
          rotate_left
          · intro wz hSw; (try dsimp only at hSw); go_simp; (try with_reducible rfl)
          try simp only [Act.put, List.setIfInBounds_toArray, List.set_cons_zero, List.set_cons_succ]
          refine wpAnyH_take (i := 3) (oi := { dst := some 55, op := Go.Op.load 24 (Go.Operand.tmp 54), type := 24, pos := "shelf.go:251", after := #[{ on := 2, ground := Go.Ground.data }], guard := none }) (v := .pointer (some ⟨p, 0, none⟩)) rfl (by kernel_rfl) (by kernel_rfl) (by kernel_rfl) (fun _ _ _ h => h) (Or.inl ⟨by rfl, ?_⟩) (by assumption) ?_
          · intro wz hSw; (try dsimp only at hSw); have h1 := hSw.1; go_simp; try rfl
          try simp only [Act.put, List.setIfInBounds_toArray, List.set_cons_zero, List.set_cons_succ]
          refine wpAnyH_take (i := 4) (oi := { dst := some 56, op := Go.Op.move (Go.Operand.tmp 0), type := 31, pos := "shelf.go:251", after := #[], guard := none }) (v := ?_) rfl (by kernel_rfl) (by kernel_rfl) (by kernel_rfl) (fun _ _ _ h => h) (Or.inl ⟨by rfl, ?_⟩) (by assumption) ?_
          rotate_left
          · intro wz hSw; (try dsimp only at hSw); go_simp; (try with_reducible rfl)
          try simp only [Act.put, List.setIfInBounds_toArray, List.set_cons_zero, List.set_cons_succ]
          refine wpAnyH_take (i := 5) (oi := { dst := some 57, op := Go.Op.nilCheck (Go.Operand.tmp 56), type := 0, pos := "shelf.go:251", after := #[{ on := 4, ground := Go.Ground.data }], guard := none }) (v := ?_) rfl (by kernel_rfl) (by kernel_rfl) (by kernel_rfl) (fun _ _ _ h => h) (Or.inl ⟨by rfl, ?_⟩) (by assumption) ?_
          rotate_left
          · intro wz hSw; (try dsimp only at hSw); go_simp; (try with_reducible rfl)
          try simp only [Act.put, List.setIfInBounds_toArray, List.set_cons_zero, List.set_cons_succ]
          refine wpAnyH_take (i := 6) (oi := { dst := some 58, op := Go.Op.fieldAddr 83 (Go.Operand.tmp 57) 1, type := 0, pos := "shelf.go:251", after := #[{ on := 5, ground := Go.Ground.data }], guard := none }) (v := ?_) rfl (by kernel_rfl) (by kernel_rfl) (by kernel_rfl) (fun _ _ _ h => h) (Or.inl ⟨by rfl, ?_⟩) (by assumption) ?_
          rotate_left
          · intro wz hSw; (try dsimp only at hSw); go_simp; (try with_reducible rfl)
          try simp only [Act.put, List.setIfInBounds_toArray, List.set_cons_zero, List.set_cons_succ]
          refine wpAnyH_take (i := 7) (oi := { dst := some 59, op := Go.Op.fieldAddr 35 (Go.Operand.tmp 58) 0, type := 0, pos := "shelf.go:251", after := #[{ on := 6, ground := Go.Ground.data }], guard := none }) (v := ?_) rfl (by kernel_rfl) (by kernel_rfl) (by kernel_rfl) (fun _ _ _ h => h) (Or.inl ⟨by rfl, ?_⟩) (by assumption) ?_
          rotate_left
          · intro wz hSw; (try dsimp only at hSw); go_simp; (try with_reducible rfl)
          try simp only [Act.put, List.setIfInBounds_toArray, List.set_cons_zero, List.set_cons_succ]
          refine wpAnyH_take (i := 8) (oi := { dst := some 60, op := Go.Op.load 3 (Go.Operand.tmp 59), type := 3, pos := "shelf.go:251", after := #[{ on := 7, ground := Go.Ground.data }], guard := none }) (v := .int .i64 (fr : Int)) rfl (by kernel_rfl) (by kernel_rfl) (by kernel_rfl) (fun _ _ _ h => h) (Or.inl ⟨by rfl, ?_⟩) (by assumption) ?_
          · intro wz hSw; (try dsimp only at hSw); have h1 := hSw.2; go_simp; try rfl
          try simp only [Act.put, List.setIfInBounds_toArray, List.set_cons_zero, List.set_cons_succ]
          refine wpAnyH_take (i := 9) (oi := { dst := some 61, op := Go.Op.move (Go.Operand.tmp 3), type := 29, pos := "shelf.go:251", after := #[], guard := none }) (v := ?_) rfl (by kernel_rfl) (by kernel_rfl) (by kernel_rfl) (fun _ _ _ h => h) (Or.inl ⟨by rfl, ?_⟩) (by assumption) ?_
          rotate_left
          · intro wz hSw; (try dsimp only at hSw); go_simp; (try with_reducible rfl)
          try simp only [Act.put, List.setIfInBounds_toArray, List.set_cons_zero, List.set_cons_succ]
          refine wpAnyH_ready (rs := [10]) (by kernel_rfl) (by simp) ?_
          refine (AllReadyH.cons (o := { dst := some 62, op := Go.Op.call { callee := Go.Callee.value (Go.Operand.func 10), args := #[Go.Operand.tmp 55, Go.Operand.tmp 60, Go.Operand.tmp 61], argTypes := #[24, 3, 29] }, type := 26, pos := "shelf.go:251", after := #[{ on := 3, ground := Go.Ground.data }, { on := 8, ground := Go.Ground.data }, { on := 9, ground := Go.Ground.data }], guard := none }) rfl (fun K hK => ?_) AllReadyH.nil)
          go_simp
          refine hwc.mono ?_
          rintro e w8 ⟨rfl, G8, k1, k2, k3⟩
          have HG8 : Hid (CtAt w8 G8 p (cv.put (fr : Int) root).step ∧ (∀ k, G8 k → Gv k ∨ (wv.heap.size ≤ k ∧ k < w8.heap.size)) ∧ Fr Gv wv w8) := ⟨k1, k2, ⟨k3.os, k3.tape, k3.output, k3.size, k3.block⟩⟩
          refine hK.out _ _ (HSv.out w8 k3) (fun _ => ?_)
          clear hK K k1 k2
          try simp only [Act.put, List.setIfInBounds_toArray, List.set_cons_zero, List.set_cons_succ]
          refine wpAnyH_take (i := 11) (oi := { dst := some 13, op := Go.Op.assign (Go.Operand.tmp 62), type := 26, pos := "shelf.go:251", after := #[{ on := 10, ground := Go.Ground.data }, { on := 10, ground := Go.Ground.chain }, { on := 0, ground := Go.Ground.phase }, { on := 1, ground := Go.Ground.phase }, { on := 2, ground := Go.Ground.phase }, { on := 3, ground := Go.Ground.phase }, { on := 4, ground := Go.Ground.phase }, { on := 5, ground := Go.Ground.phase }, { on := 6, ground := Go.Ground.phase }, { on := 7, ground := Go.Ground.phase }, { on := 8, ground := Go.Ground.phase }, { on := 9, ground := Go.Ground.phase }, { on := 10, ground := Go.Ground.phase }], guard := none }) (v := ?_) rfl (by kernel_rfl) (by kernel_rfl) (by kernel_rfl) (fun _ _ _ h => h) (Or.inl ⟨by rfl, ?_⟩) (by assumption) ?_
          rotate_left
          · intro wz hSw; (try dsimp only at hSw); go_simp; (try with_reducible rfl)
          try simp only [Act.put, List.setIfInBounds_toArray, List.set_cons_zero, List.set_cons_succ]
          refine wpAnyH_done (by kernel_rfl) (NoPanic.normal ?_) _
          try simp only [Act.put, List.setIfInBounds_toArray, List.set_cons_zero, List.set_cons_succ]
          have e30 : w8.cell? ⟨sh, 0, none⟩ = some (.pointer (some ⟨p, 0, none⟩)) := (HSv.out w8 k3).1
          clear k3 hHeld hwc
          have HG9 : Hid (StG G p w w8 (cv.put (fr : Int) root).step) := StG.trans (w1 := wv) HV.out.2.2.1 HV.out.2.2.2.1 ⟨G8, HG8.out⟩
          clear HSv
          go_wp2
          go_ret
          refine ⟨?_, ?_⟩
          · rw [HLr.out]; exact congrArg _ (errV_ne hs3).symm
          · rw [HLr.out]; exact HG9.out
      · have hws0 : ws ≠ [] := fun e => hX0 (by rw [← hwl, e]; rfl)
        have hg0 : (0 : Int) < (X.length : Int) := by omega
        have hks := HK.out sh lsh (.inr rfl)
        have e0 : wr.cell? ⟨sh, 0, none⟩ = some (.pointer (some ⟨p, 0, none⟩)) := by rw [World.cell?_of_block (a := ⟨sh, 0, none⟩) hks.1]; exact HH.out.c0
        have hsy := sync_ct G1 p ci N wr HCi.out.2.1 HCi.out.2.2.2
        by_cases hs2 : ci.stepE = 0
        · rw [hs2, errV_0] at hsy
          have HLay : Hid (c.lay ws (fr : Int) root = ci.sync.root (fr : Int) root) := by
            unfold Ct.lay
            rw [hwr0, if_pos rfl, if_neg hws0, if_pos hs2]
            exact rfl
          have HV0 : Hid (∀ w6, StG G1 p wr w6 ci.sync → ∃ Gv, CtAt w6 Gv p ci.sync ∧ ci.sync.Ok N ∧ (∀ k, Gv k → G k ∨ (w.heap.size ≤ k ∧ k < w6.heap.size)) ∧ Fr G w w6 ∧ ci.sync.loose.length < 100000) := fun w6 hh => by
            obtain ⟨G6, a1, a2, a3⟩ := StG.trans HCi.out.2.2.1 HFr.out hh
            exact ⟨G6, a1, HCi.out.2.2.2.sync hs2, a2, a3, by unfold Ct.sync; rw [if_pos hs2]; simp [Ct.settled]⟩
          clear HCi HFr HK hwr0 hks
          go_wp2_with fail
          refine hsy.mono ?_
          rintro e wv ⟨rfl, hG6⟩
          obtain ⟨Gv, hv⟩ := HV0.out wv hG6
          have HV : Hid (CtAt wv Gv p ci.sync ∧ ci.sync.Ok N ∧ (∀ k, Gv k → G k ∨ (w.heap.size ≤ k ∧ k < wv.heap.size)) ∧ Fr G w wv ∧ ci.sync.loose.length < 100000) := hv
          clear hsy hG6 HV0 hv e0
          generalize ci.sync = cv at *
          have hkr : ∀ k, k < w.heap.size → (B ≤ k ∨ k = sh) → wv.heap[k]? = w.heap[k]? ∧ ¬ Gv k := fun k hk hb => by
            have hng : ¬ G k := fun hg => by
              rcases hb with hb | rfl
              · have := HG.out.1 k hg; omega
              · exact HG.out.2 hg
            refine ⟨HV.out.2.2.2.1.block k hk hng, fun hg => ?_⟩
            rcases HV.out.2.2.1 k hg with hg | hg
            · exact hng hg
            · omega
          have hksv := hkr sh lsh (.inr rfl)
          have hshv : sh < wv.heap.size := Nat.lt_of_lt_of_le lsh HV.out.2.2.2.1.size
          have HSv : Hid (∀ w' : World, Fr Gv wv.drew w' → w'.cell? ⟨sh, 0, none⟩ = some (.pointer (some ⟨p, 0, none⟩)) ∧ w'.cell? ⟨sh, 1, none⟩ = some (.int .i64 (fr : Int))) := fun w' hf => by
            have a2 : w'.heap[sh]? = w.heap[sh]? := (hf.block sh hshv hksv.2).trans hksv.1
            exact ⟨by rw [World.cell?_of_block (a := ⟨sh, 0, none⟩) a2]; exact HH.out.c0, by rw [World.cell?_of_block (a := ⟨sh, 1, none⟩) a2]; exact HH.out.c1⟩
          have HRv : Hid (SlAt wv ra root.length (fn root) ∧ (ra = none → root.length = 0 ∧ rc = 0) ∧ (∀ y, y ∈ root → 0 ≤ y ∧ y ≤ 255) ∧ root.length ≤ 4096) :=
            ⟨HR.out.1.block fun b off hn e => (hkr b (HR.out.1.lt hn e) (.inl (HR.out.2.2.1 _ e))).1, HR.out.2.1, HR.out.2.2.2.1, HR.out.2.2.2.2⟩
          clear hkr hksv hshv
          have hwc := write_ct Gv p cv N (fr : Int) ra rc root wv.drew (HV.out.1.below (Below.refl _ _).drew) HV.out.2.1 (by omega) (HRv.out.1.keepB (Below.refl _ _).drew) HRv.out.2.1 HRv.out.2.2.1 HRv.out.2.2.2
          by_cases hs3 : cv.stepE = 0
          · rw [hs3, errV_0] at hwc
            have HLr : Hid (c.lay ws (fr : Int) root = ((cv.put (fr : Int) root).step.stepE, (cv.put (fr : Int) root).step.sync)) := by
              rw [HLay.out, Ct.root, if_pos hs3]
              exact rfl
            go_upto_region 12 with fail
            refine wp_region_noPanic ?_
            refine wp_region_held_drew (S := fun w' => w'.cell? ⟨sh, 0, none⟩ = some (.pointer (some ⟨p, 0, none⟩)) ∧ w'.cell? ⟨sh, 1, none⟩ = some (.int .i64 (fr : Int))) (by kernel_rfl) (HSv.out _ (Fr.refl _ _)) (fun hHeld => ?_)
            refine wpAnyH_take (i := 0) (oi := { dst := some 52, op := Go.Op.move (Go.Operand.tmp 0), type := 31, pos := "shelf.go:251", after := #[], guard := none }) (v := ?_) rfl (by kernel_rfl) (by kernel_rfl) (by kernel_rfl) (fun _ _ _ h => h) (Or.inl ⟨by rfl, ?_⟩) (by assumption) ?_
            rotate_left
            · intro wz hSw; (try dsimp only at hSw); go_simp; (try with_reducible rfl)
            try simp only [Act.put, List.setIfInBounds_toArray, List.set_cons_zero, List.set_cons_succ]
            refine wpAnyH_take (i := 1) (oi := { dst := some 53, op := Go.Op.nilCheck (Go.Operand.tmp 52), type := 0, pos := "shelf.go:251", after := #[{ on := 0, ground := Go.Ground.data }], guard := none }) (v := ?_) rfl (by kernel_rfl) (by kernel_rfl) (by kernel_rfl) (fun _ _ _ h => h) (Or.inl ⟨by rfl, ?_⟩) (by assumption) ?_
            rotate_left
            · intro wz hSw; (try dsimp only at hSw); go_simp; (try with_reducible rfl)
            try simp only [Act.put, List.setIfInBounds_toArray, List.set_cons_zero, List.set_cons_succ]
            refine wpAnyH_take (i := 2) (oi := { dst := some 54, op := Go.Op.fieldAddr 83 (Go.Operand.tmp 53) 0, type := 0, pos := "shelf.go:251", after := #[{ on := 1, ground := Go.Ground.data }], guard := none }) (v := ?_) rfl (by kernel_rfl) (by kernel_rfl) (by kernel_rfl) (fun _ _ _ h => h) (Or.inl ⟨by rfl, ?_⟩) (by assumption) ?_
            rotate_left
            · intro wz hSw; (try dsimp only at hSw); go_simp; (try with_reducible rfl)
            try simp only [Act.put, List.setIfInBounds_toArray, List.set_cons_zero, List.set_cons_succ]
            refine wpAnyH_take (i := 3) (oi := { dst := some 55, op := Go.Op.load 24 (Go.Operand.tmp 54), type := 24, pos := "shelf.go:251", after := #[{ on := 2, ground := Go.Ground.data }], guard := none }) (v := .pointer (some ⟨p, 0, none⟩)) rfl (by kernel_rfl) (by kernel_rfl) (by kernel_rfl) (fun _ _ _ h => h) (Or.inl ⟨by rfl, ?_⟩) (by assumption) ?_
            · intro wz hSw; (try dsimp only at hSw); have h1 := hSw.1; go_simp; try rfl
            try simp only [Act.put, List.setIfInBounds_toArray, List.set_cons_zero, List.set_cons_succ]
            refine wpAnyH_take (i := 4) (oi := { dst := some 56, op := Go.Op.move (Go.Operand.tmp 0), type := 31, pos := "shelf.go:251", after := #[], guard := none }) (v := ?_) rfl (by kernel_rfl) (by kernel_rfl) (by kernel_rfl) (fun _ _ _ h => h) (Or.inl ⟨by rfl, ?_⟩) (by assumption) ?_
            rotate_left
            · intro wz hSw; (try dsimp only at hSw); go_simp; (try with_reducible rfl)
            try simp only [Act.put, List.setIfInBounds_toArray, List.set_cons_zero, List.set_cons_succ]
            refine wpAnyH_take (i := 5) (oi := { dst := some 57, op := Go.Op.nilCheck (Go.Operand.tmp 56), type := 0, pos := "shelf.go:251", after := #[{ on := 4, ground := Go.Ground.data }], guard := none }) (v := ?_) rfl (by kernel_rfl) (by kernel_rfl) (by kernel_rfl) (fun _ _ _ h => h) (Or.inl ⟨by rfl, ?_⟩) (by assumption) ?_
            rotate_left
            · intro wz hSw; (try dsimp only at hSw); go_simp; (try with_reducible rfl)
            try simp only [Act.put, List.setIfInBounds_toArray, List.set_cons_zero, List.set_cons_succ]
            refine wpAnyH_take (i := 6) (oi := { dst := some 58, op := Go.Op.fieldAddr 83 (Go.Operand.tmp 57) 1, type := 0, pos := "shelf.go:251", after := #[{ on := 5, ground := Go.Ground.data }], guard := none }) (v := ?_) rfl (by kernel_rfl) (by kernel_rfl) (by kernel_rfl) (fun _ _ _ h => h) (Or.inl ⟨by rfl, ?_⟩) (by assumption) ?_
            rotate_left
            · intro wz hSw; (try dsimp only at hSw); go_simp; (try with_reducible rfl)
            try simp only [Act.put, List.setIfInBounds_toArray, List.set_cons_zero, List.set_cons_succ]
            refine wpAnyH_take (i := 7) (oi := { dst := some 59, op := Go.Op.fieldAddr 35 (Go.Operand.tmp 58) 0, type := 0, pos := "shelf.go:251", after := #[{ on := 6, ground := Go.Ground.data }], guard := none }) (v := ?_) rfl (by kernel_rfl) (by kernel_rfl) (by kernel_rfl) (fun _ _ _ h => h) (Or.inl ⟨by rfl, ?_⟩) (by assumption) ?_
            rotate_left
            · intro wz hSw; (try dsimp only at hSw); go_simp; (try with_reducible rfl)
            try simp only [Act.put, List.setIfInBounds_toArray, List.set_cons_zero, List.set_cons_succ]
            refine wpAnyH_take (i := 8) (oi := { dst := some 60, op := Go.Op.load 3 (Go.Operand.tmp 59), type := 3, pos := "shelf.go:251", after := #[{ on := 7, ground := Go.Ground.data }], guard := none }) (v := .int .i64 (fr : Int)) rfl (by kernel_rfl) (by kernel_rfl) (by kernel_rfl) (fun _ _ _ h => h) (Or.inl ⟨by rfl, ?_⟩) (by assumption) ?_
            · intro wz hSw; (try dsimp only at hSw); have h1 := hSw.2; go_simp; try rfl
            try simp only [Act.put, List.setIfInBounds_toArray, List.set_cons_zero, List.set_cons_succ]
            refine wpAnyH_take (i := 9) (oi := { dst := some 61, op := Go.Op.move (Go.Operand.tmp 3), type := 29, pos := "shelf.go:251", after := #[], guard := none }) (v := ?_) rfl (by kernel_rfl) (by kernel_rfl) (by kernel_rfl) (fun _ _ _ h => h) (Or.inl ⟨by rfl, ?_⟩) (by assumption) ?_
            rotate_left
            · intro wz hSw; (try dsimp only at hSw); go_simp; (try with_reducible rfl)
            try simp only [Act.put, List.setIfInBounds_toArray, List.set_cons_zero, List.set_cons_succ]
            refine wpAnyH_ready (rs := [10]) (by kernel_rfl) (by simp) ?_
            refine (AllReadyH.cons (o := { dst := some 62, op := Go.Op.call { callee := Go.Callee.value (Go.Operand.func 10), args := #[Go.Operand.tmp 55, Go.Operand.tmp 60, Go.Operand.tmp 61], argTypes := #[24, 3, 29] }, type := 26, pos := "shelf.go:251", after := #[{ on := 3, ground := Go.Ground.data }, { on := 8, ground := Go.Ground.data }, { on := 9, ground := Go.Ground.data }], guard := none }) rfl (fun K hK => ?_) AllReadyH.nil)
            go_simp
            refine hwc.mono ?_
            rintro e w8 ⟨rfl, G8, k1, k2, k3⟩
            have HG8 : Hid (CtAt w8 G8 p (cv.put (fr : Int) root).step ∧ (∀ k, G8 k → Gv k ∨ (wv.heap.size ≤ k ∧ k < w8.heap.size)) ∧ Fr Gv wv w8) := ⟨k1, k2, ⟨k3.os, k3.tape, k3.output, k3.size, k3.block⟩⟩
            refine hK.out _ _ (HSv.out w8 k3) (fun _ => ?_)
            clear hK K k1 k2
            try simp only [Act.put, List.setIfInBounds_toArray, List.set_cons_zero, List.set_cons_succ]
            refine wpAnyH_take (i := 11) (oi := { dst := some 13, op := Go.Op.assign (Go.Operand.tmp 62), type := 26, pos := "shelf.go:251", after := #[{ on := 10, ground := Go.Ground.data }, { on := 10, ground := Go.Ground.chain }, { on := 0, ground := Go.Ground.phase }, { on := 1, ground := Go.Ground.phase }, { on := 2, ground := Go.Ground.phase }, { on := 3, ground := Go.Ground.phase }, { on := 4, ground := Go.Ground.phase }, { on := 5, ground := Go.Ground.phase }, { on := 6, ground := Go.Ground.phase }, { on := 7, ground := Go.Ground.phase }, { on := 8, ground := Go.Ground.phase }, { on := 9, ground := Go.Ground.phase }, { on := 10, ground := Go.Ground.phase }], guard := none }) (v := ?_) rfl (by kernel_rfl) (by kernel_rfl) (by kernel_rfl) (fun _ _ _ h => h) (Or.inl ⟨by rfl, ?_⟩) (by assumption) ?_
            rotate_left
            · intro wz hSw; (try dsimp only at hSw); go_simp; (try with_reducible rfl)
            try simp only [Act.put, List.setIfInBounds_toArray, List.set_cons_zero, List.set_cons_succ]
            refine wpAnyH_done (by kernel_rfl) (NoPanic.normal ?_) _
            try simp only [Act.put, List.setIfInBounds_toArray, List.set_cons_zero, List.set_cons_succ]
            have e30 : w8.cell? ⟨sh, 0, none⟩ = some (.pointer (some ⟨p, 0, none⟩)) := (HSv.out w8 k3).1
            clear k3 hHeld hwc
            have hok8 : (cv.put (fr : Int) root).step.Ok N := (HV.out.2.1.put _ _ (by have := HV.out.2.2.2.2; omega)).step hs3
            have hsy := sync_ct G8 p _ N w8 HG8.out.1 hok8
            generalize hvv : errV (cv.put (fr : Int) root).step.stepE = vv at hsy
            have HVV : Hid (errV (cv.put (fr : Int) root).step.stepE = vv) := hvv
            clear hvv hok8 HSv
            go_wp2_with fail
            refine hsy.mono ?_
            rintro e w9 ⟨rfl, hG9⟩
            have HG9 : Hid (StG G p w w9 (cv.put (fr : Int) root).step.sync) := StG.trans (w1 := wv) HV.out.2.2.1 HV.out.2.2.2.1 (StG.trans HG8.out.2.1 HG8.out.2.2 hG9)
            clear hG9 hsy
            go_wp2
            go_ret
            refine ⟨?_, ?_⟩
            · rw [HLr.out]; exact congrArg _ HVV.out.symm
            · rw [HLr.out]; exact HG9.out
          · rw [errV_ne hs3] at hwc
            have HLr : Hid (c.lay ws (fr : Int) root = (cv.stepE, (cv.put (fr : Int) root).step)) := by
              rw [HLay.out, Ct.root, if_neg hs3]
              exact rfl
            go_upto_region 12 with fail
            refine wp_region_noPanic ?_
            refine wp_region_held_drew (S := fun w' => w'.cell? ⟨sh, 0, none⟩ = some (.pointer (some ⟨p, 0, none⟩)) ∧ w'.cell? ⟨sh, 1, none⟩ = some (.int .i64 (fr : Int))) (by kernel_rfl) (HSv.out _ (Fr.refl _ _)) (fun hHeld => ?_)
            refine wpAnyH_take (i := 0) (oi := { dst := some 52, op := Go.Op.move (Go.Operand.tmp 0), type := 31, pos := "shelf.go:251", after := #[], guard := none }) (v := ?_) rfl (by kernel_rfl) (by kernel_rfl) (by kernel_rfl) (fun _ _ _ h => h) (Or.inl ⟨by rfl, ?_⟩) (by assumption) ?_
            rotate_left
            · intro wz hSw; (try dsimp only at hSw); go_simp; (try with_reducible rfl)
            try simp only [Act.put, List.setIfInBounds_toArray, List.set_cons_zero, List.set_cons_succ]
            refine wpAnyH_take (i := 1) (oi := { dst := some 53, op := Go.Op.nilCheck (Go.Operand.tmp 52), type := 0, pos := "shelf.go:251", after := #[{ on := 0, ground := Go.Ground.data }], guard := none }) (v := ?_) rfl (by kernel_rfl) (by kernel_rfl) (by kernel_rfl) (fun _ _ _ h => h) (Or.inl ⟨by rfl, ?_⟩) (by assumption) ?_
            rotate_left
            · intro wz hSw; (try dsimp only at hSw); go_simp; (try with_reducible rfl)
            try simp only [Act.put, List.setIfInBounds_toArray, List.set_cons_zero, List.set_cons_succ]
            refine wpAnyH_take (i := 2) (oi := { dst := some 54, op := Go.Op.fieldAddr 83 (Go.Operand.tmp 53) 0, type := 0, pos := "shelf.go:251", after := #[{ on := 1, ground := Go.Ground.data }], guard := none }) (v := ?_) rfl (by kernel_rfl) (by kernel_rfl) (by kernel_rfl) (fun _ _ _ h => h) (Or.inl ⟨by rfl, ?_⟩) (by assumption) ?_
            rotate_left
            · intro wz hSw; (try dsimp only at hSw); go_simp; (try with_reducible rfl)
            try simp only [Act.put, List.setIfInBounds_toArray, List.set_cons_zero, List.set_cons_succ]
            refine wpAnyH_take (i := 3) (oi := { dst := some 55, op := Go.Op.load 24 (Go.Operand.tmp 54), type := 24, pos := "shelf.go:251", after := #[{ on := 2, ground := Go.Ground.data }], guard := none }) (v := .pointer (some ⟨p, 0, none⟩)) rfl (by kernel_rfl) (by kernel_rfl) (by kernel_rfl) (fun _ _ _ h => h) (Or.inl ⟨by rfl, ?_⟩) (by assumption) ?_
            · intro wz hSw; (try dsimp only at hSw); have h1 := hSw.1; go_simp; try rfl
            try simp only [Act.put, List.setIfInBounds_toArray, List.set_cons_zero, List.set_cons_succ]
            refine wpAnyH_take (i := 4) (oi := { dst := some 56, op := Go.Op.move (Go.Operand.tmp 0), type := 31, pos := "shelf.go:251", after := #[], guard := none }) (v := ?_) rfl (by kernel_rfl) (by kernel_rfl) (by kernel_rfl) (fun _ _ _ h => h) (Or.inl ⟨by rfl, ?_⟩) (by assumption) ?_
            rotate_left
            · intro wz hSw; (try dsimp only at hSw); go_simp; (try with_reducible rfl)
            try simp only [Act.put, List.setIfInBounds_toArray, List.set_cons_zero, List.set_cons_succ]
            refine wpAnyH_take (i := 5) (oi := { dst := some 57, op := Go.Op.nilCheck (Go.Operand.tmp 56), type := 0, pos := "shelf.go:251", after := #[{ on := 4, ground := Go.Ground.data }], guard := none }) (v := ?_) rfl (by kernel_rfl) (by kernel_rfl) (by kernel_rfl) (fun _ _ _ h => h) (Or.inl ⟨by rfl, ?_⟩) (by assumption) ?_
            rotate_left
            · intro wz hSw; (try dsimp only at hSw); go_simp; (try with_reducible rfl)
            try simp only [Act.put, List.setIfInBounds_toArray, List.set_cons_zero, List.set_cons_succ]
            refine wpAnyH_take (i := 6) (oi := { dst := some 58, op := Go.Op.fieldAddr 83 (Go.Operand.tmp 57) 1, type := 0, pos := "shelf.go:251", after := #[{ on := 5, ground := Go.Ground.data }], guard := none }) (v := ?_) rfl (by kernel_rfl) (by kernel_rfl) (by kernel_rfl) (fun _ _ _ h => h) (Or.inl ⟨by rfl, ?_⟩) (by assumption) ?_
            rotate_left
            · intro wz hSw; (try dsimp only at hSw); go_simp; (try with_reducible rfl)
            try simp only [Act.put, List.setIfInBounds_toArray, List.set_cons_zero, List.set_cons_succ]
            refine wpAnyH_take (i := 7) (oi := { dst := some 59, op := Go.Op.fieldAddr 35 (Go.Operand.tmp 58) 0, type := 0, pos := "shelf.go:251", after := #[{ on := 6, ground := Go.Ground.data }], guard := none }) (v := ?_) rfl (by kernel_rfl) (by kernel_rfl) (by kernel_rfl) (fun _ _ _ h => h) (Or.inl ⟨by rfl, ?_⟩) (by assumption) ?_
            rotate_left
            · intro wz hSw; (try dsimp only at hSw); go_simp; (try with_reducible rfl)
            try simp only [Act.put, List.setIfInBounds_toArray, List.set_cons_zero, List.set_cons_succ]
            refine wpAnyH_take (i := 8) (oi := { dst := some 60, op := Go.Op.load 3 (Go.Operand.tmp 59), type := 3, pos := "shelf.go:251", after := #[{ on := 7, ground := Go.Ground.data }], guard := none }) (v := .int .i64 (fr : Int)) rfl (by kernel_rfl) (by kernel_rfl) (by kernel_rfl) (fun _ _ _ h => h) (Or.inl ⟨by rfl, ?_⟩) (by assumption) ?_
            · intro wz hSw; (try dsimp only at hSw); have h1 := hSw.2; go_simp; try rfl
            try simp only [Act.put, List.setIfInBounds_toArray, List.set_cons_zero, List.set_cons_succ]
            refine wpAnyH_take (i := 9) (oi := { dst := some 61, op := Go.Op.move (Go.Operand.tmp 3), type := 29, pos := "shelf.go:251", after := #[], guard := none }) (v := ?_) rfl (by kernel_rfl) (by kernel_rfl) (by kernel_rfl) (fun _ _ _ h => h) (Or.inl ⟨by rfl, ?_⟩) (by assumption) ?_
            rotate_left
            · intro wz hSw; (try dsimp only at hSw); go_simp; (try with_reducible rfl)
            try simp only [Act.put, List.setIfInBounds_toArray, List.set_cons_zero, List.set_cons_succ]
            refine wpAnyH_ready (rs := [10]) (by kernel_rfl) (by simp) ?_
            refine (AllReadyH.cons (o := { dst := some 62, op := Go.Op.call { callee := Go.Callee.value (Go.Operand.func 10), args := #[Go.Operand.tmp 55, Go.Operand.tmp 60, Go.Operand.tmp 61], argTypes := #[24, 3, 29] }, type := 26, pos := "shelf.go:251", after := #[{ on := 3, ground := Go.Ground.data }, { on := 8, ground := Go.Ground.data }, { on := 9, ground := Go.Ground.data }], guard := none }) rfl (fun K hK => ?_) AllReadyH.nil)
            go_simp
            refine hwc.mono ?_
            rintro e w8 ⟨rfl, G8, k1, k2, k3⟩
            have HG8 : Hid (CtAt w8 G8 p (cv.put (fr : Int) root).step ∧ (∀ k, G8 k → Gv k ∨ (wv.heap.size ≤ k ∧ k < w8.heap.size)) ∧ Fr Gv wv w8) := ⟨k1, k2, ⟨k3.os, k3.tape, k3.output, k3.size, k3.block⟩⟩
            refine hK.out _ _ (HSv.out w8 k3) (fun _ => ?_)
            clear hK K k1 k2
            try simp only [Act.put, List.setIfInBounds_toArray, List.set_cons_zero, List.set_cons_succ]
            refine wpAnyH_take (i := 11) (oi := { dst := some 13, op := Go.Op.assign (Go.Operand.tmp 62), type := 26, pos := "shelf.go:251", after := #[{ on := 10, ground := Go.Ground.data }, { on := 10, ground := Go.Ground.chain }, { on := 0, ground := Go.Ground.phase }, { on := 1, ground := Go.Ground.phase }, { on := 2, ground := Go.Ground.phase }, { on := 3, ground := Go.Ground.phase }, { on := 4, ground := Go.Ground.phase }, { on := 5, ground := Go.Ground.phase }, { on := 6, ground := Go.Ground.phase }, { on := 7, ground := Go.Ground.phase }, { on := 8, ground := Go.Ground.phase }, { on := 9, ground := Go.Ground.phase }, { on := 10, ground := Go.Ground.phase }], guard := none }) (v := ?_) rfl (by kernel_rfl) (by kernel_rfl) (by kernel_rfl) (fun _ _ _ h => h) (Or.inl ⟨by rfl, ?_⟩) (by assumption) ?_
            rotate_left
            · intro wz hSw; (try dsimp only at hSw); go_simp; (try with_reducible rfl)
            try simp only [Act.put, List.setIfInBounds_toArray, List.set_cons_zero, List.set_cons_succ]
            refine wpAnyH_done (by kernel_rfl) (NoPanic.normal ?_) _
            try simp only [Act.put, List.setIfInBounds_toArray, List.set_cons_zero, List.set_cons_succ]
            have e30 : w8.cell? ⟨sh, 0, none⟩ = some (.pointer (some ⟨p, 0, none⟩)) := (HSv.out w8 k3).1
            clear k3 hHeld hwc
            have HG9 : Hid (StG G p w w8 (cv.put (fr : Int) root).step) := StG.trans (w1 := wv) HV.out.2.2.1 HV.out.2.2.2.1 ⟨G8, HG8.out⟩
            clear HSv
            go_wp2
            go_ret
            refine ⟨?_, ?_⟩
            · rw [HLr.out]; exact congrArg _ (errV_ne hs3).symm
            · rw [HLr.out]; exact HG9.out
        · rw [errV_ne hs2] at hsy
          have HLr : Hid (c.lay ws (fr : Int) root = (ci.stepE, ci.sync)) := by
            unfold Ct.lay
            rw [hwr0, if_pos rfl, if_neg hws0, if_neg hs2]
            exact rfl
          have HT : Hid (∀ w', StG G1 p wr w' ci.sync → StG G p w w' ci.sync) := fun w' hh => StG.trans HCi.out.2.2.1 HFr.out hh
          clear HCi HFr HK hwr0 hks
          go_wp2_with fail
          refine hsy.mono ?_
          rintro e w6 ⟨rfl, hG6⟩
          have HG6 := HT.out w6 hG6
          have HG7 : Hid (StG G p w w6 ci.sync) := HG6
          clear HG6 hG6 hsy
          go_wp2
          go_ret
          refine ⟨?_, ?_⟩
          · rw [HLr.out]; exact congrArg _ (errV_ne hs2).symm
          · rw [HLr.out]; exact HG7.out
end Go.Proofs.YtbfajoeilpkofaaGreatDoor
