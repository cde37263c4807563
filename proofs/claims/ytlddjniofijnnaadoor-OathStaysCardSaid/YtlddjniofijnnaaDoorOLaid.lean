/- laid: a book, and the document's, behind some signatures. -/
import Derived.Test.YtlddjniofijnnaaDoorORef
namespace Go.Proofs.YtlddjniofijnnaaDoor
open Go.RowKit

attribute [local go_sem ↓] Go.wp_at_zero Go.wp_at_succ

/-- The signatures behind the first i. -/
def ldS (X : Nat → Sg) : Nat → List (Int × List UInt8)
  | 0 => []
  | i + 1 => sgnS (ldS X i) (X i).k (X i).z
theorem ldS_len (X : Nat → Sg) : ∀ i, (ldS X i).length ≤ i
  | 0 => by simp [ldS]
  | i + 1 => by have h1 := ldS_len X i; have h2 := sgnS_len (ldS X i) (X i).k (X i).z; rw [ldS]; omega
/-- A book and the document's list, with the same signatures. -/
structure LdR (W w' : World) (p m : Nat) (g : Nat → Option Nat) (ra : Option Addr) (rn rc : Nat) (Y : Nat → Sg) (S : List (Int × List UInt8)) : Prop where
  bk : BkAt w' W.heap.size p m g S
  sg : SgAt w' ra rn Y
  nil : (rn = 0 ∧ ra = none ∧ rc = 0) ∨ (0 < rn ∧ rn ≤ rc)
  list : SgL Y rn = S
  below : Below W.heap.size W w'
  apart : ∀ a, ra = some a → a.block ∉ fpL p m g
theorem LdR.keep {W w w' : World} {p m : Nat} {g : Nat → Option Nat} {ra : Option Addr} {rn rc : Nat} {Y : Nat → Sg} {S : List (Int × List UInt8)} (h : LdR W w p m g ra rn rc Y S) (hb : Below w.heap.size w w') : LdR W w' p m g ra rn rc Y S :=
  ⟨h.bk.below hb, h.sg.below hb, h.nil, h.list, Below.transS h.below hb, h.apart⟩
theorem SgAt.frm {w w' : World} {ad : Option Addr} {n : Nat} {X : Nat → Sg} {T : List Nat} (h : SgAt w ad n X) (hf : Frm T w w') (hn : ∀ a, ad = some a → a.block ∉ T) : SgAt w' ad n X := by
  refine ⟨h.ok, fun hp => ?_⟩
  obtain ⟨b, off, e, hr⟩ := h.at_ hp
  refine ⟨b, off, e, fun i hi j v hv => ?_⟩
  have h1 := hr i hi j v hv
  have hlt : b < w.heap.size := World.block_lt_of_cell? w ⟨b, _, none⟩ h1
  rw [World.cell?_of_block (a := ⟨b, off + i * 33 + j, none⟩) (hf.block b hlt (hn _ e))]
  exact h1
theorem LdR.sign {W w w' : World} {p m : Nat} {g g' : Nat → Option Nat} {ra : Option Addr} {rn rc : Nat} {Y : Nat → Sg} {S S' : List (Int × List UInt8)} (h : LdR W w p m g ra rn rc Y S) (hk : BkAt w' W.heap.size p m g' S') (hf : Frm (fpL p m g) w w') (hg : Grew w g g') :
    BkAt w' W.heap.size p m g' S' ∧ SgAt w' ra rn Y ∧ Below W.heap.size W w' ∧ ∀ a, ra = some a → a.block ∉ fpL p m g' := by
  have hlt : ∀ a, ra = some a → 0 < rn ∧ a.block < w.heap.size := by
    intro a e
    rcases h.nil with ⟨_, h2, _⟩ | ⟨h1, _⟩
    · rw [h2] at e; cases e
    · refine ⟨h1, ?_⟩
      obtain ⟨b, off, e', hr⟩ := h.sg.at_ h1
      rw [e'] at e
      cases e
      exact World.block_lt_of_cell? w ⟨b, _, none⟩ (hr 0 h1 0 _ rfl)
  refine ⟨hk, h.sg.frm hf (fun a e => h.apart a e), h.below.trans (hf.below h.below.size (fun k hk' => (h.bk.lt hk').1)), fun a e hm => ?_⟩
  rcases mem_fpL.1 hm with e1 | e1 | ⟨i, hi, e1⟩
  · exact h.apart a e (mem_fpL.2 (.inl e1))
  · exact h.apart a e (mem_fpL.2 (.inr (.inl e1)))
  · rcases hg i _ hi e1 with e2 | e2
    · exact h.apart a e (mem_fpL.2 (.inr (.inr ⟨i, hi, e2⟩)))
    · have := (hlt a e).2; omega

set_option maxRecDepth 100000 in
set_option maxHeartbeats 6400000 in
theorem laid_any (ad : Option Addr) (len cap : Nat) (X : Nat → Sg) (W : World) (hg : Glob W) (hX : SgAt W ad len X) (hlen : len ≤ 9223372036854775807) :
    Calls Tryd.prog 6 #[.slice ad len cap] W fun e w' => ∃ p m g ra rn rc Y, e = .returned (.tuple #[.pointer (some ⟨p, 0, none⟩), .slice ra rn rc, .bool true]) ∧ LdR W w' p m g ra rn rc Y (ldS X (min len 60)) := by
  have HG : Hid (Glob W) := hg
  have HX : Hid (SgAt W ad len X) := hX
  have hpos := hg.pos
  clear hg hX
  go_enter Tryd.func6, Tryd.ntmps6
  go_wp2_with fail
  refine (new_any W W.heap.size (Nat.le_refl _)).mono ?_
  rintro e w1 ⟨rfl, hk1, hb1, -⟩
  have h0 : LdR W w1 (W.heap.size + 1) W.heap.size (fun _ => none) none 0 0 (fun _ => default) (ldS X 0) := ⟨hk1, SgAt.nil _ _ _, .inl ⟨rfl, rfl, rfl⟩, rfl, hb1, fun _ e => by cases e⟩
  clear hk1 hb1
  go_wp2_with fail
  generalize W.heap.size + 1 = p at *
  generalize hmm : W.heap.size = m at h0
  go_loopw [6, 7] (fun rv iv wr => ∃ (i : Nat) (g : Nat → Option Nat) (ra : Option Addr) (rn rc : Nat) (Y : Nat → Sg), i ≤ len ∧ i ≤ 60 ∧ rv = .slice ra rn rc ∧ iv = .int .i64 i ∧ LdR W wr p m g ra rn rc Y (ldS X i)) (fun _ iv _ => 61 - (intOf iv).toNat)
  case atStart => exact ⟨0, _, _, _, _, _, by omega, by omega, rfl, rfl, h0⟩
  case round =>
    clear h0 hmm
    obtain ⟨i, g, ra, rn, rc, Y, hi1, hi2, rfl, rfl, hL⟩ := hrel
    have HL : Hid (LdR W wr p m g ra rn rc Y (ldS X i)) := hL
    have hSl := ldS_len X i
    clear hL
    by_cases hlt : i < len ∧ i < 60
    · obtain ⟨hk1, hk2⟩ := hlt
      have hk1' : (i : Int) < len := by omega
      have hk2' : (i : Int) < 60 := by omega
      obtain ⟨b, off, rfl, hc⟩ := HX.out.at_ (by omega)
      have hXi := HX.out.ok i hk1
      have HR : Hid (W.rangeAt b (off + i * 33) (X i).l) := hc i hk1
      clear hc
      have hr1 : wr.drew.rangeAt b (off + i * 33) (X i).l := range_below HR.out HL.out.below.drew
      have S1 : wr.drew.cell? ⟨b, off + i * 33, none⟩ = some (.int .i64 (X i).k) ∧ wr.drew.rangeAt b (off + i * 33 + 1) (bl (X i).z 32) := ⟨range_head hr1, range_tail hr1⟩
      have HLd : Hid (LdR W wr.drew p m g ra rn rc Y (ldS X i)) := HL.out.keep (Below.refl _ _).drew
      clear hr1 HL
      go_wp2_with fail
      refine wp_region_noPanic ?_
      refine wp_region_held_drew (S := fun w' => w'.cell? ⟨b, off + i * 33, none⟩ = some (.int .i64 (X i).k) ∧ w'.rangeAt b (off + i * 33 + 1) (bl (X i).z 32)) (by kernel_rfl) S1 (fun hHeld => ?_)
      refine wpAnyH_take (i := 0) (oi := { dst := some 24, op := Go.Op.move (Go.Operand.tmp 5), type := 23, pos := "law.go:64", after := #[], guard := none }) (v := ?_) rfl (by kernel_rfl) (by kernel_rfl) (by kernel_rfl) (fun _ _ _ h => h) (Or.inl ⟨by rfl, ?_⟩) (by assumption) ?_
      rotate_left
      · intro wz hSw; (try dsimp only at hSw); go_simp; (try with_reducible rfl)
      try simp only [Act.put, List.setIfInBounds_toArray, List.set_cons_zero, List.set_cons_succ]
      refine wpAnyH_take (i := 1) (oi := { dst := some 25, op := Go.Op.move (Go.Operand.tmp 0), type := 22, pos := "law.go:64", after := #[], guard := none }) (v := ?_) rfl (by kernel_rfl) (by kernel_rfl) (by kernel_rfl) (fun _ _ _ h => h) (Or.inl ⟨by rfl, ?_⟩) (by assumption) ?_
      rotate_left
      · intro wz hSw; (try dsimp only at hSw); go_simp; (try with_reducible rfl)
      try simp only [Act.put, List.setIfInBounds_toArray, List.set_cons_zero, List.set_cons_succ]
      refine wpAnyH_take (i := 2) (oi := { dst := some 26, op := Go.Op.move (Go.Operand.tmp 7), type := 3, pos := "law.go:64", after := #[], guard := none }) (v := ?_) rfl (by kernel_rfl) (by kernel_rfl) (by kernel_rfl) (fun _ _ _ h => h) (Or.inl ⟨by rfl, ?_⟩) (by assumption) ?_
      rotate_left
      · intro wz hSw; (try dsimp only at hSw); go_simp; (try with_reducible rfl)
      try simp only [Act.put, List.setIfInBounds_toArray, List.set_cons_zero, List.set_cons_succ]
      refine wpAnyH_take (i := 3) (oi := { dst := some 27, op := Go.Op.indexAddr 22 (Go.Operand.tmp 25) (Go.Operand.tmp 26), type := 0, pos := "law.go:64", after := #[{ on := 1, ground := Go.Ground.data }, { on := 2, ground := Go.Ground.data }], guard := none }) (v := ?_) rfl (by kernel_rfl) (by kernel_rfl) (by kernel_rfl) (fun _ _ _ h => h) (Or.inl ⟨by rfl, ?_⟩) (by assumption) ?_
      rotate_left
      · intro wz hSw; (try dsimp only at hSw); go_simp; (try with_reducible rfl)
      try simp only [Act.put, List.setIfInBounds_toArray, List.set_cons_zero, List.set_cons_succ]
      refine wpAnyH_take (i := 4) (oi := { dst := some 28, op := Go.Op.fieldAddr 34 (Go.Operand.tmp 27) 0, type := 0, pos := "law.go:64", after := #[{ on := 3, ground := Go.Ground.data }], guard := none }) (v := ?_) rfl (by kernel_rfl) (by kernel_rfl) (by kernel_rfl) (fun _ _ _ h => h) (Or.inl ⟨by rfl, ?_⟩) (by assumption) ?_
      rotate_left
      · intro wz hSw; (try dsimp only at hSw); go_simp; (try with_reducible rfl)
      try simp only [Act.put, List.setIfInBounds_toArray, List.set_cons_zero, List.set_cons_succ]
      refine wpAnyH_take (i := 5) (oi := { dst := some 29, op := Go.Op.load 3 (Go.Operand.tmp 28), type := 3, pos := "law.go:64", after := #[{ on := 4, ground := Go.Ground.data }], guard := none }) (v := ?_) rfl (by kernel_rfl) (by kernel_rfl) (by kernel_rfl) (fun _ _ _ h => h) (Or.inl ⟨by rfl, ?_⟩) (by assumption) ?_
      rotate_left
      · intro wz hSw; (try dsimp only at hSw); go_simp; (try with_reducible rfl)
      try simp only [Act.put, List.setIfInBounds_toArray, List.set_cons_zero, List.set_cons_succ]
      refine wpAnyH_take (i := 6) (oi := { dst := some 30, op := Go.Op.move (Go.Operand.tmp 0), type := 22, pos := "law.go:64", after := #[], guard := none }) (v := ?_) rfl (by kernel_rfl) (by kernel_rfl) (by kernel_rfl) (fun _ _ _ h => h) (Or.inl ⟨by rfl, ?_⟩) (by assumption) ?_
      rotate_left
      · intro wz hSw; (try dsimp only at hSw); go_simp; (try with_reducible rfl)
      try simp only [Act.put, List.setIfInBounds_toArray, List.set_cons_zero, List.set_cons_succ]
      refine wpAnyH_take (i := 7) (oi := { dst := some 31, op := Go.Op.move (Go.Operand.tmp 7), type := 3, pos := "law.go:64", after := #[], guard := none }) (v := ?_) rfl (by kernel_rfl) (by kernel_rfl) (by kernel_rfl) (fun _ _ _ h => h) (Or.inl ⟨by rfl, ?_⟩) (by assumption) ?_
      rotate_left
      · intro wz hSw; (try dsimp only at hSw); go_simp; (try with_reducible rfl)
      try simp only [Act.put, List.setIfInBounds_toArray, List.set_cons_zero, List.set_cons_succ]
      refine wpAnyH_take (i := 8) (oi := { dst := some 32, op := Go.Op.indexAddr 22 (Go.Operand.tmp 30) (Go.Operand.tmp 31), type := 0, pos := "law.go:64", after := #[{ on := 6, ground := Go.Ground.data }, { on := 7, ground := Go.Ground.data }], guard := none }) (v := ?_) rfl (by kernel_rfl) (by kernel_rfl) (by kernel_rfl) (fun _ _ _ h => h) (Or.inl ⟨by rfl, ?_⟩) (by assumption) ?_
      rotate_left
      · intro wz hSw; (try dsimp only at hSw); go_simp; (try with_reducible rfl)
      try simp only [Act.put, List.setIfInBounds_toArray, List.set_cons_zero, List.set_cons_succ]
      refine wpAnyH_take (i := 9) (oi := { dst := some 33, op := Go.Op.fieldAddr 34 (Go.Operand.tmp 32) 1, type := 0, pos := "law.go:64", after := #[{ on := 8, ground := Go.Ground.data }], guard := none }) (v := ?_) rfl (by kernel_rfl) (by kernel_rfl) (by kernel_rfl) (fun _ _ _ h => h) (Or.inl ⟨by rfl, ?_⟩) (by assumption) ?_
      rotate_left
      · intro wz hSw; (try dsimp only at hSw); go_simp; (try with_reducible rfl)
      try simp only [Act.put, List.setIfInBounds_toArray, List.set_cons_zero, List.set_cons_succ]
      refine wpAnyH_take (i := 10) (oi := { dst := some 34, op := Go.Op.load 32 (Go.Operand.tmp 33), type := 32, pos := "law.go:64", after := #[{ on := 9, ground := Go.Ground.data }], guard := none }) rfl (by kernel_rfl) (by kernel_rfl) (by kernel_rfl) (fun _ _ _ h => h) (yieldsIf_load_mid (by rfl) _ _ rfl b (off + i * 33 + 1) rfl (bl (X i).z 32) _ (fun _ h => h.2) Tryd.underlying32 rfl (bl_size _)) (by assumption) ?_
      try simp only [Act.put, List.setIfInBounds_toArray, List.set_cons_zero, List.set_cons_succ]
      refine wpAnyH_ready (rs := [11]) (by kernel_rfl) (by simp) ?_
      refine (AllReadyH.cons (o := { dst := some 35, op := Go.Op.call { callee := Go.Callee.value (Go.Operand.func 9), args := #[Go.Operand.tmp 24, Go.Operand.tmp 29, Go.Operand.tmp 34], argTypes := #[23, 3, 32] }, type := 29, pos := "law.go:64", after := #[{ on := 0, ground := Go.Ground.data }, { on := 5, ground := Go.Ground.data }, { on := 10, ground := Go.Ground.data }], guard := none }) rfl (fun K hK => ?_) AllReadyH.nil)
      go_simp
      refine (sign_any p m _ g _ (X i).k (X i).z _ HLd.out.bk hXi.1 hXi.2 (by omega) HLd.out.below.size).mono ?_
      rintro e w3 ⟨rfl, g', q1, q2, q3⟩
      obtain ⟨j1, j2, j3, j4⟩ := HLd.out.sign q1 q2 q3
      have hr3 : w3.rangeAt b (off + i * 33) (X i).l := range_below HR.out j3
      refine hK.out _ _ ⟨range_head hr3, range_tail hr3⟩ (fun _ => ?_)
      clear hK K
      try simp only [Act.put, List.setIfInBounds_toArray, List.set_cons_zero, List.set_cons_succ]
      refine wpAnyH_take (i := 12) (oi := { dst := some 8, op := Go.Op.assign (Go.Operand.tmp 35), type := 29, pos := "law.go:64", after := #[{ on := 11, ground := Go.Ground.data }, { on := 11, ground := Go.Ground.chain }, { on := 0, ground := Go.Ground.phase }, { on := 1, ground := Go.Ground.phase }, { on := 2, ground := Go.Ground.phase }, { on := 3, ground := Go.Ground.phase }, { on := 4, ground := Go.Ground.phase }, { on := 5, ground := Go.Ground.phase }, { on := 6, ground := Go.Ground.phase }, { on := 7, ground := Go.Ground.phase }, { on := 8, ground := Go.Ground.phase }, { on := 9, ground := Go.Ground.phase }, { on := 10, ground := Go.Ground.phase }, { on := 11, ground := Go.Ground.phase }], guard := none }) (v := ?_) rfl (by kernel_rfl) (by kernel_rfl) (by kernel_rfl) (fun _ _ _ h => h) (Or.inl ⟨by rfl, ?_⟩) (by assumption) ?_
      rotate_left
      · intro wz hSw; (try dsimp only at hSw); go_simp; (try with_reducible rfl)
      try simp only [Act.put, List.setIfInBounds_toArray, List.set_cons_zero, List.set_cons_succ]
      refine wpAnyH_done (by kernel_rfl) (NoPanic.normal ?_) _
      try simp only [Act.put, List.setIfInBounds_toArray, List.set_cons_zero, List.set_cons_succ]
      have HJ : Hid (BkAt w3.drew W.heap.size p m g' (ldS X (i + 1)) ∧ SgAt w3.drew ra rn Y ∧ Below W.heap.size W w3.drew ∧ ∀ a, ra = some a → a.block ∉ fpL p m g') := ⟨j1.below (Below.refl _ _).drew, j2.below (Below.refl _ _).drew, j3.drew, j4⟩
      have hr3d : w3.drew.rangeAt b (off + i * 33) (X i).l := range_below HR.out j3.drew
      have S3 : w3.drew.cell? ⟨b, off + i * 33, none⟩ = some (.int .i64 (X i).k) ∧ w3.drew.rangeAt b (off + i * 33 + 1) (bl (X i).z 32) := ⟨range_head hr3d, range_tail hr3d⟩
      have hrl : rn ≤ 60 := by have := congrArg List.length HLd.out.list; rw [SgL_length] at this; omega
      have HN : Hid (((rn = 0 ∧ ra = none ∧ rc = 0) ∨ (0 < rn ∧ rn ≤ rc)) ∧ SgL Y rn = ldS X i) := ⟨HLd.out.nil, HLd.out.list⟩
      clear q1 q2 q3 j1 j2 j3 j4 hr3 hr3d S1 hHeld HLd
      go_wp2_with fail
      refine wp_region_noPanic ?_
      refine wp_region_held_drew (S := fun w' => w'.cell? ⟨b, off + i * 33, none⟩ = some (.int .i64 (X i).k) ∧ w'.rangeAt b (off + i * 33 + 1) (bl (X i).z 32)) (by kernel_rfl) S3 (fun hHeld => ?_)
      refine wpAnyH_take (i := 0) (oi := { dst := some 37, op := Go.Op.move (Go.Operand.tmp 6), type := 22, pos := "law.go:65", after := #[], guard := none }) (v := ?_) rfl (by kernel_rfl) (by kernel_rfl) (by kernel_rfl) (fun _ _ _ h => h) (Or.inl ⟨by rfl, ?_⟩) (by assumption) ?_
      rotate_left
      · intro wz hSw; (try dsimp only at hSw); go_simp; (try with_reducible rfl)
      try simp only [Act.put, List.setIfInBounds_toArray, List.set_cons_zero, List.set_cons_succ]
      refine wpAnyH_take (i := 1) (oi := { dst := some 38, op := Go.Op.move (Go.Operand.tmp 0), type := 22, pos := "law.go:65", after := #[], guard := none }) (v := ?_) rfl (by kernel_rfl) (by kernel_rfl) (by kernel_rfl) (fun _ _ _ h => h) (Or.inl ⟨by rfl, ?_⟩) (by assumption) ?_
      rotate_left
      · intro wz hSw; (try dsimp only at hSw); go_simp; (try with_reducible rfl)
      try simp only [Act.put, List.setIfInBounds_toArray, List.set_cons_zero, List.set_cons_succ]
      refine wpAnyH_take (i := 2) (oi := { dst := some 39, op := Go.Op.move (Go.Operand.tmp 7), type := 3, pos := "law.go:65", after := #[], guard := none }) (v := ?_) rfl (by kernel_rfl) (by kernel_rfl) (by kernel_rfl) (fun _ _ _ h => h) (Or.inl ⟨by rfl, ?_⟩) (by assumption) ?_
      rotate_left
      · intro wz hSw; (try dsimp only at hSw); go_simp; (try with_reducible rfl)
      try simp only [Act.put, List.setIfInBounds_toArray, List.set_cons_zero, List.set_cons_succ]
      refine wpAnyH_take (i := 3) (oi := { dst := some 40, op := Go.Op.indexAddr 22 (Go.Operand.tmp 38) (Go.Operand.tmp 39), type := 0, pos := "law.go:65", after := #[{ on := 1, ground := Go.Ground.data }, { on := 2, ground := Go.Ground.data }], guard := none }) (v := ?_) rfl (by kernel_rfl) (by kernel_rfl) (by kernel_rfl) (fun _ _ _ h => h) (Or.inl ⟨by rfl, ?_⟩) (by assumption) ?_
      rotate_left
      · intro wz hSw; (try dsimp only at hSw); go_simp; (try with_reducible rfl)
      try simp only [Act.put, List.setIfInBounds_toArray, List.set_cons_zero, List.set_cons_succ]
      refine wpAnyH_take (i := 4) (oi := { dst := some 41, op := Go.Op.fieldAddr 34 (Go.Operand.tmp 40) 0, type := 0, pos := "law.go:65", after := #[{ on := 3, ground := Go.Ground.data }], guard := none }) (v := ?_) rfl (by kernel_rfl) (by kernel_rfl) (by kernel_rfl) (fun _ _ _ h => h) (Or.inl ⟨by rfl, ?_⟩) (by assumption) ?_
      rotate_left
      · intro wz hSw; (try dsimp only at hSw); go_simp; (try with_reducible rfl)
      try simp only [Act.put, List.setIfInBounds_toArray, List.set_cons_zero, List.set_cons_succ]
      refine wpAnyH_take (i := 5) (oi := { dst := some 42, op := Go.Op.load 3 (Go.Operand.tmp 41), type := 3, pos := "law.go:65", after := #[{ on := 4, ground := Go.Ground.data }], guard := none }) (v := ?_) rfl (by kernel_rfl) (by kernel_rfl) (by kernel_rfl) (fun _ _ _ h => h) (Or.inl ⟨by rfl, ?_⟩) (by assumption) ?_
      rotate_left
      · intro wz hSw; (try dsimp only at hSw); go_simp; (try with_reducible rfl)
      try simp only [Act.put, List.setIfInBounds_toArray, List.set_cons_zero, List.set_cons_succ]
      refine wpAnyH_take (i := 6) (oi := { dst := some 43, op := Go.Op.move (Go.Operand.tmp 0), type := 22, pos := "law.go:65", after := #[], guard := none }) (v := ?_) rfl (by kernel_rfl) (by kernel_rfl) (by kernel_rfl) (fun _ _ _ h => h) (Or.inl ⟨by rfl, ?_⟩) (by assumption) ?_
      rotate_left
      · intro wz hSw; (try dsimp only at hSw); go_simp; (try with_reducible rfl)
      try simp only [Act.put, List.setIfInBounds_toArray, List.set_cons_zero, List.set_cons_succ]
      refine wpAnyH_take (i := 7) (oi := { dst := some 44, op := Go.Op.move (Go.Operand.tmp 7), type := 3, pos := "law.go:65", after := #[], guard := none }) (v := ?_) rfl (by kernel_rfl) (by kernel_rfl) (by kernel_rfl) (fun _ _ _ h => h) (Or.inl ⟨by rfl, ?_⟩) (by assumption) ?_
      rotate_left
      · intro wz hSw; (try dsimp only at hSw); go_simp; (try with_reducible rfl)
      try simp only [Act.put, List.setIfInBounds_toArray, List.set_cons_zero, List.set_cons_succ]
      refine wpAnyH_take (i := 8) (oi := { dst := some 45, op := Go.Op.indexAddr 22 (Go.Operand.tmp 43) (Go.Operand.tmp 44), type := 0, pos := "law.go:65", after := #[{ on := 6, ground := Go.Ground.data }, { on := 7, ground := Go.Ground.data }], guard := none }) (v := ?_) rfl (by kernel_rfl) (by kernel_rfl) (by kernel_rfl) (fun _ _ _ h => h) (Or.inl ⟨by rfl, ?_⟩) (by assumption) ?_
      rotate_left
      · intro wz hSw; (try dsimp only at hSw); go_simp; (try with_reducible rfl)
      try simp only [Act.put, List.setIfInBounds_toArray, List.set_cons_zero, List.set_cons_succ]
      refine wpAnyH_take (i := 9) (oi := { dst := some 46, op := Go.Op.fieldAddr 34 (Go.Operand.tmp 45) 1, type := 0, pos := "law.go:65", after := #[{ on := 8, ground := Go.Ground.data }], guard := none }) (v := ?_) rfl (by kernel_rfl) (by kernel_rfl) (by kernel_rfl) (fun _ _ _ h => h) (Or.inl ⟨by rfl, ?_⟩) (by assumption) ?_
      rotate_left
      · intro wz hSw; (try dsimp only at hSw); go_simp; (try with_reducible rfl)
      try simp only [Act.put, List.setIfInBounds_toArray, List.set_cons_zero, List.set_cons_succ]
      refine wpAnyH_take (i := 10) (oi := { dst := some 47, op := Go.Op.load 32 (Go.Operand.tmp 46), type := 32, pos := "law.go:65", after := #[{ on := 9, ground := Go.Ground.data }], guard := none }) rfl (by kernel_rfl) (by kernel_rfl) (by kernel_rfl) (fun _ _ _ h => h) (yieldsIf_load_mid (by rfl) _ _ rfl b (off + i * 33 + 1) rfl (bl (X i).z 32) _ (fun _ h => h.2) Tryd.underlying32 rfl (bl_size _)) (by assumption) ?_
      try simp only [Act.put, List.setIfInBounds_toArray, List.set_cons_zero, List.set_cons_succ]
      refine wpAnyH_ready (rs := [11]) (by kernel_rfl) (by simp) ?_
      refine (AllReadyH.cons (o := { dst := some 48, op := Go.Op.call { callee := Go.Callee.value (Go.Operand.func 17), args := #[Go.Operand.tmp 37, Go.Operand.tmp 42, Go.Operand.tmp 47], argTypes := #[22, 3, 32] }, type := 43, pos := "law.go:65", after := #[{ on := 0, ground := Go.Ground.data }, { on := 5, ground := Go.Ground.data }, { on := 10, ground := Go.Ground.data }], guard := none }) rfl (fun K hK => ?_) AllReadyH.nil)
      go_simp
      refine (radd_any ra rn rc Y (X i).k (X i).z _ HJ.out.2.1 HN.out.1 hXi.1 hXi.2 (by omega)).mono ?_
      rintro e w4 ⟨ra', rn', rc', Y', rfl, hA⟩
      have hr4 : w4.rangeAt b (off + i * 33) (X i).l := range_below HR.out (Below.transS HJ.out.2.2.1 hA.below)
      have HA : Hid (LdR W w4 p m g' ra' rn' rc' Y' (ldS X (i + 1))) := by
        refine ⟨HJ.out.1.below hA.below, hA.at_, hA.nil, by rw [hA.list, HN.out.2]; rfl, Below.transS HJ.out.2.2.1 hA.below, fun a e hm => ?_⟩
        rcases hA.fresh a e with e' | e'
        · exact HJ.out.2.2.2 a (by rw [← e', e]) hm
        · have := (HJ.out.1.lt hm).2; omega
      refine hK.out _ _ ⟨range_head hr4, range_tail hr4⟩ (fun _ => ?_)
      clear hK K
      try simp only [Act.put, List.setIfInBounds_toArray, List.set_cons_zero, List.set_cons_succ]
      refine wpAnyH_take (i := 12) (oi := { dst := some 36, op := Go.Op.move (Go.Operand.tmp 48), type := 43, pos := "law.go:65", after := #[{ on := 11, ground := Go.Ground.data }], guard := none }) (v := ?_) rfl (by kernel_rfl) (by kernel_rfl) (by kernel_rfl) (fun _ _ _ h => h) (Or.inl ⟨by rfl, ?_⟩) (by assumption) ?_
      rotate_left
      · intro wz hSw; (try dsimp only at hSw); go_simp; (try with_reducible rfl)
      try simp only [Act.put, List.setIfInBounds_toArray, List.set_cons_zero, List.set_cons_succ]
      refine wpAnyH_take (i := 13) (oi := { dst := some 49, op := Go.Op.extract (Go.Operand.tmp 36) 0, type := 22, pos := "law.go:65", after := #[{ on := 12, ground := Go.Ground.data }], guard := none }) (v := ?_) rfl (by kernel_rfl) (by kernel_rfl) (by kernel_rfl) (fun _ _ _ h => h) (Or.inl ⟨by rfl, ?_⟩) (by assumption) ?_
      rotate_left
      · intro wz hSw; (try dsimp only at hSw); go_simp; (try with_reducible rfl)
      try simp only [Act.put, List.setIfInBounds_toArray, List.set_cons_zero, List.set_cons_succ]
      refine wpAnyH_take (i := 14) (oi := { dst := some 50, op := Go.Op.extract (Go.Operand.tmp 36) 1, type := 3, pos := "law.go:65", after := #[{ on := 12, ground := Go.Ground.data }, { on := 15, ground := Go.Ground.gcOnly Go.Departure.lateStores }], guard := none }) (v := ?_) rfl (by kernel_rfl) (by kernel_rfl) (by kernel_rfl) (fun _ _ _ h => h) (Or.inl ⟨by rfl, ?_⟩) (by assumption) ?_
      rotate_left
      · intro wz hSw; (try dsimp only at hSw); go_simp; (try with_reducible rfl)
      try simp only [Act.put, List.setIfInBounds_toArray, List.set_cons_zero, List.set_cons_succ]
      refine wpAnyH_take (i := 15) (oi := { dst := some 9, op := Go.Op.assign (Go.Operand.tmp 49), type := 22, pos := "law.go:65", after := #[{ on := 13, ground := Go.Ground.data }, { on := 11, ground := Go.Ground.chain }, { on := 0, ground := Go.Ground.phase }, { on := 1, ground := Go.Ground.phase }, { on := 2, ground := Go.Ground.phase }, { on := 3, ground := Go.Ground.phase }, { on := 4, ground := Go.Ground.phase }, { on := 5, ground := Go.Ground.phase }, { on := 6, ground := Go.Ground.phase }, { on := 7, ground := Go.Ground.phase }, { on := 8, ground := Go.Ground.phase }, { on := 9, ground := Go.Ground.phase }, { on := 10, ground := Go.Ground.phase }, { on := 11, ground := Go.Ground.phase }, { on := 12, ground := Go.Ground.phase }, { on := 13, ground := Go.Ground.phase }, { on := 14, ground := Go.Ground.textOnly Go.Departure.lateStores }], guard := none }) (v := ?_) rfl (by kernel_rfl) (by kernel_rfl) (by kernel_rfl) (fun _ _ _ h => h) (Or.inl ⟨by rfl, ?_⟩) (by assumption) ?_
      rotate_left
      · intro wz hSw; (try dsimp only at hSw); go_simp; (try with_reducible rfl)
      try simp only [Act.put, List.setIfInBounds_toArray, List.set_cons_zero, List.set_cons_succ]
      refine wpAnyH_take (i := 16) (oi := { dst := some 10, op := Go.Op.assign (Go.Operand.tmp 50), type := 3, pos := "law.go:65", after := #[{ on := 14, ground := Go.Ground.data }, { on := 15, ground := Go.Ground.chain }, { on := 0, ground := Go.Ground.phase }, { on := 1, ground := Go.Ground.phase }, { on := 2, ground := Go.Ground.phase }, { on := 3, ground := Go.Ground.phase }, { on := 4, ground := Go.Ground.phase }, { on := 5, ground := Go.Ground.phase }, { on := 6, ground := Go.Ground.phase }, { on := 7, ground := Go.Ground.phase }, { on := 8, ground := Go.Ground.phase }, { on := 9, ground := Go.Ground.phase }, { on := 10, ground := Go.Ground.phase }, { on := 11, ground := Go.Ground.phase }, { on := 12, ground := Go.Ground.phase }, { on := 13, ground := Go.Ground.phase }, { on := 14, ground := Go.Ground.phase }, { on := 15, ground := Go.Ground.phase }], guard := none }) (v := ?_) rfl (by kernel_rfl) (by kernel_rfl) (by kernel_rfl) (fun _ _ _ h => h) (Or.inl ⟨by rfl, ?_⟩) (by assumption) ?_
      rotate_left
      · intro wz hSw; (try dsimp only at hSw); go_simp; (try with_reducible rfl)
      try simp only [Act.put, List.setIfInBounds_toArray, List.set_cons_zero, List.set_cons_succ]
      refine wpAnyH_done (by kernel_rfl) (NoPanic.normal ?_) _
      try simp only [Act.put, List.setIfInBounds_toArray, List.set_cons_zero, List.set_cons_succ]
      clear hA hr4 S3 hHeld HJ HN
      go_wp2_with fail
      refine (num_any _ _ (HG.out.below HA.out.below hpos)).mono ?_
      rintro e w5 ⟨rfl, hb5⟩
      have HA5 : Hid (LdR W w5 p m g' ra' rn' rc' Y' (ldS X (i + 1))) := HA.out.keep hb5
      clear hb5 HA
      go_wp2
      go_roundw
      case rel => exact ⟨i + 1, _, _, _, _, _, by omega, by omega, rfl, by go_num, HA5.out⟩
      case measure => simp [intOf]; omega
    · have hmin : i = min len 60 := by omega
      have HE : Hid (LdR W wr p m g ra rn rc Y (ldS X (min len 60))) := by rw [← hmin]; exact HL.out
      clear HL
      by_cases h1 : i < len
      · have h1' : (i : Int) < len := by omega
        have h2' : (60 : Int) ≤ i := by omega
        go_wp2
        go_ret3
        exact ⟨_, _, _, _, _, _, _, rfl, HE.out⟩
      · have h1' : (len : Int) ≤ i := by omega
        go_wp2
        go_ret3
        exact ⟨_, _, _, _, _, _, _, rfl, HE.out⟩
end Go.Proofs.YtlddjniofijnnaaDoor
