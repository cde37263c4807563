/- A leaf read. -/
import Derived.Test.YtbfajoeilpkofaaGreatDoorOwnShelf19
import Derived.Test.YtbfajoeilpkofaaGreatDoorOwnShelf22
namespace Go.Proofs.YtbfajoeilpkofaaGreatDoor
open Go.RowKit Go.Maps Go.Sort

attribute [local go_sem ↓] Go.wp_at_zero Go.wp_at_succ

/-- Numbers as a string's bytes. -/
def uL (l : List Int) : List UInt8 := l.map fun x => UInt8.ofNat x.toNat
theorem uL_length (l : List Int) : (uL l).length = l.length := by simp [uL]
theorem strB_uL (l : List Int) : Value.string (strB (fn l) l.length) = encStr (uL l) := by
  unfold strB encStr uL
  congr 2
  apply Array.toList_inj.1
  apply List.ext_getElem
  · simp
  · intro j h1 h2
    simp at h2
    simp [fn, h2]
/-- The key, the value and what is left of a leaf's bytes. -/
def leafK (b : List Int) : List UInt8 := uL ((((some b).bind (bytesR 4096)).map Prod.fst).getD [])
def leafQ (b : List Int) : Option (List Int) := ((some b).bind (bytesR 4096)).map Prod.snd
def leafV (b : List Int) : List UInt8 := uL ((((leafQ b).bind (bytesR 4096)).map Prod.fst).getD [])
def leafE (b : List Int) : Option (List Int) := ((leafQ b).bind (bytesR 4096)).map Prod.snd
theorem sc_le (n : Nat) (z : Nat → Int) (most : Int) (h0 : 0 ≤ most) : ∀ (f q : Nat) (l : List Int), (l.length : Int) ≤ most → ((sc n z most f q l).1.length : Int) ≤ most
  | 0, q, l, _ => by simpa [sc] using h0
  | f + 1, q, l, hl => by
    unfold sc
    split
    · split
      · split
        · simpa using h0
        · split
          · exact hl
          · split
            · split
              · simpa using h0
              · exact sc_le n z most h0 f (q + 2) _ (by simp; omega)
            · simpa using h0
      · split
        · simpa using h0
        · exact sc_le n z most h0 f (q + 1) _ (by simp; omega)
    · simpa using h0
theorem bytesR_le {l r t : List Int} (h : bytesR 4096 l = some (r, t)) : r.length ≤ 4096 := by
  unfold bytesR at h
  split at h
  · cases h
    have : ((bR l.length (fn l) 4096).1.length : Int) ≤ 4096 := by
      unfold bR
      rw [if_neg (by decide)]
      exact sc_le _ _ _ (by decide) _ _ _ (by simp)
    omega
  · cases h
theorem readS_le (q : Option (List Int)) : (((q.bind (bytesR 4096)).map Prod.fst).getD []).length ≤ 4096 := by
  cases q with
  | none => simp
  | some l =>
    simp only [Option.bind_some]
    cases h : bytesR 4096 l with
    | none => simp
    | some x => simpa using bytesR_le h
theorem leafK_le (b : List Int) : (leafK b).length ≤ 4096 := by rw [leafK, uL_length]; exact readS_le _
theorem leafV_le (b : List Int) : (leafV b).length ≤ 4096 := by rw [leafV, uL_length]; exact readS_le _
theorem wpAnyH_more {P : Program} {md : Region.Mode} {ops : Array Oper} {Q : Exit → Act → World → Prop} {S S' : World → Prop} (hS : ∀ w, S' w → S w) : ∀ (fuel : Nat) (listed : Array Bool) (a : Act) (w : World), wpAnyH P md ops Q S' fuel listed a w → wpAnyH P md ops Q S fuel listed a w
  | 0, _, _, _, h => h
  | fuel + 1, _, _, _, h => ⟨h.1, fun i hi => wpOp_mono (fun a' w' h' => ⟨hS w' h'.1, wpAnyH_more hS fuel _ a' w' h'.2⟩) (h.2 i hi)⟩
theorem insK_permL (x : Lf) : ∀ l : List Lf, (insK Lf.k x l).Perm (x :: l)
  | [] => List.Perm.refl _
  | y :: r => by
    unfold insK
    split
    · exact List.Perm.refl _
    · exact ((insK_permL x r).cons y).trans (List.Perm.swap x y r)
/-- Can a leaf be taken up beside others? -/
def leafOk (M : List Lf) (b : List Int) : Bool := !(getK Lf.k (leafK b) M).isSome && endsR (leafE b)
/-- What readLeaf tells. -/
def RlR (w : World) (sh m p fr n pl : Nat) (M : List Lf) (b : List Int) (e : Ending) (w' : World) : Prop :=
  (leafOk M b = false ∧ e = .returned (.iface 72 (.int .i64 14)) ∧ Below w.heap.size w w') ∨ (leafOk M b = true ∧ e = .returned .nilIface ∧ ShAt w' sh m p fr n (putK Lf.k ⟨leafK b, pl, leafV b⟩ M) 0 ∧ Frm [m] w w')
theorem own_conv {w' : World} {ad : Option Addr} {cap : Nat} {l : List Int} (h : SlAt w' ad l.length (fn l)) (hn : ad = none → l.length = 0 ∧ cap = 0) : (convert 29 9 (.slice ad l.length cap)).run Tryz.prog w' = .ok (encStr (uL l)) w' := by
  have := conv_any ad l.length cap (fn l) w' h hn
  rw [this, strB_uL]
set_option maxRecDepth 100000 in
set_option maxHeartbeats 3200000 in
theorem readLeaf_any (sh m p fr n N pl : Nat) (M : List Lf) (G : Nat → Prop) (c : Ct) (w : World) (h : ShAt w sh m p fr n M 0) (hc : CtAt w G p c) (ho : c.Ok N) (hN : fr + n ≤ N) (hp : 1 ≤ pl ∧ pl < n) (hpl : ∀ x ∈ M, x.p ≠ pl) :
    Calls Tryz.prog 36 #[.pointer (some ⟨sh, 0, none⟩), .int .i64 (pl : Int)] w (RlR w sh m p fr n pl M (c.last ((fr + pl : Nat) : Int))) := by
  have c0 := h.c0
  have c1 := h.c1
  have c3 := h.c3
  have lsh := h.lt
  have lm := h.ltm
  have hn := h.count
  have hf4 := h.from_
  have hMl := h.few
  have HH : Hid (ShAt w sh m p fr n M 0) := h
  have HPl : Hid (∀ x ∈ M, x.p ≠ pl) := hpl
  have hrd := read_ct G p c N ((fr + pl : Nat) : Int) w.drew (hc.below (Below.refl _ _).drew) ho (by omega)
  have hbl := hc.last_le ((fr + pl : Nat) : Int)
  have HS : Hid (∀ w' : World, Below w.drew.heap.size w.drew w' → w'.cell? ⟨sh, 0, none⟩ = some (.pointer (some ⟨p, 0, none⟩)) ∧ w'.cell? ⟨sh, 1, none⟩ = some (.int .i64 (fr : Int))) := fun w' hb => by
    have h1 := hb.block sh lsh
    exact ⟨by rw [World.cell?_of_block (a := ⟨sh, 0, none⟩) h1]; exact c0, by rw [World.cell?_of_block (a := ⟨sh, 1, none⟩) h1]; exact c1⟩
  have hadd : IntKind.i64.wrap ((fr : Int) + (pl : Int)) = ((fr + pl : Nat) : Int) := by rw [IntKind.wrap_i64]; omega
  generalize c.last ((fr + pl : Nat) : Int) = b at *
  clear h hc ho c0 c1 hpl
  go_enter Tryz.func36, Tryz.ntmps36
  go_upto_region 1 with fail
  refine wp_region_noPanic ?_
  refine wp_region_held_drew (S := fun w' => w'.cell? ⟨sh, 0, none⟩ = some (.pointer (some ⟨p, 0, none⟩)) ∧ w'.cell? ⟨sh, 1, none⟩ = some (.int .i64 (fr : Int))) (by kernel_rfl) (HS.out _ (Below.refl _ _)) (fun hHeld => ?_)
  refine wpAnyH_take (i := 0) (oi := { dst := some 13, op := Go.Op.move (Go.Operand.tmp 0), type := 31, pos := "shelf.go:152", after := #[], guard := none }) (v := ?_) rfl (by kernel_rfl) (by kernel_rfl) (by kernel_rfl) (fun _ _ _ h => h) (Or.inl ⟨by rfl, ?_⟩) (by assumption) ?_
  rotate_left
  · intro wz hSw; (try dsimp only at hSw); go_simp; (try with_reducible rfl)
  try simp only [Act.put, List.setIfInBounds_toArray, List.set_cons_zero, List.set_cons_succ]
  refine wpAnyH_take (i := 1) (oi := { dst := some 14, op := Go.Op.nilCheck (Go.Operand.tmp 13), type := 0, pos := "shelf.go:152", after := #[{ on := 0, ground := Go.Ground.data }], guard := none }) (v := ?_) rfl (by kernel_rfl) (by kernel_rfl) (by kernel_rfl) (fun _ _ _ h => h) (Or.inl ⟨by rfl, ?_⟩) (by assumption) ?_
  rotate_left
  · intro wz hSw; (try dsimp only at hSw); go_simp; (try with_reducible rfl)
  try simp only [Act.put, List.setIfInBounds_toArray, List.set_cons_zero, List.set_cons_succ]
  refine wpAnyH_take (i := 2) (oi := { dst := some 15, op := Go.Op.fieldAddr 83 (Go.Operand.tmp 14) 0, type := 0, pos := "shelf.go:152", after := #[{ on := 1, ground := Go.Ground.data }], guard := none }) (v := ?_) rfl (by kernel_rfl) (by kernel_rfl) (by kernel_rfl) (fun _ _ _ h => h) (Or.inl ⟨by rfl, ?_⟩) (by assumption) ?_
  rotate_left
  · intro wz hSw; (try dsimp only at hSw); go_simp; (try with_reducible rfl)
  try simp only [Act.put, List.setIfInBounds_toArray, List.set_cons_zero, List.set_cons_succ]
  refine wpAnyH_take (i := 3) (oi := { dst := some 16, op := Go.Op.load 24 (Go.Operand.tmp 15), type := 24, pos := "shelf.go:152", after := #[{ on := 2, ground := Go.Ground.data }], guard := none }) (v := .pointer (some ⟨p, 0, none⟩)) rfl (by kernel_rfl) (by kernel_rfl) (by kernel_rfl) (fun _ _ _ h => h) (Or.inl ⟨by rfl, ?_⟩) (by assumption) ?_
  · intro wz hSw; (try dsimp only at hSw); have h1 := hSw.1; go_simp; try rfl
  try simp only [Act.put, List.setIfInBounds_toArray, List.set_cons_zero, List.set_cons_succ]
  refine wpAnyH_take (i := 4) (oi := { dst := some 17, op := Go.Op.move (Go.Operand.tmp 0), type := 31, pos := "shelf.go:152", after := #[], guard := none }) (v := ?_) rfl (by kernel_rfl) (by kernel_rfl) (by kernel_rfl) (fun _ _ _ h => h) (Or.inl ⟨by rfl, ?_⟩) (by assumption) ?_
  rotate_left
  · intro wz hSw; (try dsimp only at hSw); go_simp; (try with_reducible rfl)
  try simp only [Act.put, List.setIfInBounds_toArray, List.set_cons_zero, List.set_cons_succ]
  refine wpAnyH_take (i := 5) (oi := { dst := some 18, op := Go.Op.nilCheck (Go.Operand.tmp 17), type := 0, pos := "shelf.go:152", after := #[{ on := 4, ground := Go.Ground.data }], guard := none }) (v := ?_) rfl (by kernel_rfl) (by kernel_rfl) (by kernel_rfl) (fun _ _ _ h => h) (Or.inl ⟨by rfl, ?_⟩) (by assumption) ?_
  rotate_left
  · intro wz hSw; (try dsimp only at hSw); go_simp; (try with_reducible rfl)
  try simp only [Act.put, List.setIfInBounds_toArray, List.set_cons_zero, List.set_cons_succ]
  refine wpAnyH_take (i := 6) (oi := { dst := some 19, op := Go.Op.fieldAddr 83 (Go.Operand.tmp 18) 1, type := 0, pos := "shelf.go:152", after := #[{ on := 5, ground := Go.Ground.data }], guard := none }) (v := ?_) rfl (by kernel_rfl) (by kernel_rfl) (by kernel_rfl) (fun _ _ _ h => h) (Or.inl ⟨by rfl, ?_⟩) (by assumption) ?_
  rotate_left
  · intro wz hSw; (try dsimp only at hSw); go_simp; (try with_reducible rfl)
  try simp only [Act.put, List.setIfInBounds_toArray, List.set_cons_zero, List.set_cons_succ]
  refine wpAnyH_take (i := 7) (oi := { dst := some 20, op := Go.Op.fieldAddr 35 (Go.Operand.tmp 19) 0, type := 0, pos := "shelf.go:152", after := #[{ on := 6, ground := Go.Ground.data }], guard := none }) (v := ?_) rfl (by kernel_rfl) (by kernel_rfl) (by kernel_rfl) (fun _ _ _ h => h) (Or.inl ⟨by rfl, ?_⟩) (by assumption) ?_
  rotate_left
  · intro wz hSw; (try dsimp only at hSw); go_simp; (try with_reducible rfl)
  try simp only [Act.put, List.setIfInBounds_toArray, List.set_cons_zero, List.set_cons_succ]
  refine wpAnyH_take (i := 8) (oi := { dst := some 21, op := Go.Op.load 3 (Go.Operand.tmp 20), type := 3, pos := "shelf.go:152", after := #[{ on := 7, ground := Go.Ground.data }], guard := none }) (v := .int .i64 (fr : Int)) rfl (by kernel_rfl) (by kernel_rfl) (by kernel_rfl) (fun _ _ _ h => h) (Or.inl ⟨by rfl, ?_⟩) (by assumption) ?_
  · intro wz hSw; (try dsimp only at hSw); have h1 := hSw.2; go_simp; try rfl
  try simp only [Act.put, List.setIfInBounds_toArray, List.set_cons_zero, List.set_cons_succ]
  refine wpAnyH_take (i := 9) (oi := { dst := some 22, op := Go.Op.move (Go.Operand.tmp 1), type := 3, pos := "shelf.go:152", after := #[], guard := none }) (v := ?_) rfl (by kernel_rfl) (by kernel_rfl) (by kernel_rfl) (fun _ _ _ h => h) (Or.inl ⟨by rfl, ?_⟩) (by assumption) ?_
  rotate_left
  · intro wz hSw; (try dsimp only at hSw); go_simp; (try with_reducible rfl)
  try simp only [Act.put, List.setIfInBounds_toArray, List.set_cons_zero, List.set_cons_succ]
  refine wpAnyH_take (i := 10) (oi := { dst := some 23, op := Go.Op.binOp Go.BinOp.add 3 (Go.Operand.tmp 21) (Go.Operand.tmp 22) 3, type := 3, pos := "shelf.go:152", after := #[{ on := 8, ground := Go.Ground.data }, { on := 9, ground := Go.Ground.data }], guard := none }) (v := .int .i64 ((fr + pl : Nat) : Int)) rfl (by kernel_rfl) (by kernel_rfl) (by kernel_rfl) (fun _ _ _ h => h) (Or.inl ⟨by rfl, ?_⟩) (by assumption) ?_
  · intro wz hSw; (try dsimp only at hSw); go_simp; try rfl
  try simp only [Act.put, List.setIfInBounds_toArray, List.set_cons_zero, List.set_cons_succ]
  refine wpAnyH_ready (rs := [11]) (by kernel_rfl) (by simp) ?_
  refine (AllReadyH.cons (o := { dst := some 24, op := Go.Op.call { callee := Go.Callee.value (Go.Operand.func 23), args := #[Go.Operand.tmp 16, Go.Operand.tmp 23], argTypes := #[24, 3] }, type := 56, pos := "shelf.go:152", after := #[{ on := 3, ground := Go.Ground.data }, { on := 10, ground := Go.Ground.data }], guard := none }) rfl (fun K hK => ?_) AllReadyH.nil)
  go_simp
  refine hrd.mono ?_
  rintro e w1 ⟨ad1, cap1, rfl, hO1⟩
  have hb1 : Below w.drew.heap.size w.drew w1 := hO1.below
  refine hK.out _ _ (HS.out w1 hb1) (fun _ => ?_)
  clear hK K
  try simp only [Act.put, List.setIfInBounds_toArray, List.set_cons_zero, List.set_cons_succ]
  refine wpAnyH_take (i := 12) (oi := { dst := some 12, op := Go.Op.move (Go.Operand.tmp 24), type := 56, pos := "shelf.go:152", after := #[{ on := 11, ground := Go.Ground.data }], guard := none }) (v := ?_) rfl (by kernel_rfl) (by kernel_rfl) (by kernel_rfl) (fun _ _ _ h => h) (Or.inl ⟨by rfl, ?_⟩) (by assumption) ?_
  rotate_left
  · intro wz hSw; (try dsimp only at hSw); go_simp; (try with_reducible rfl)
  try simp only [Act.put, List.setIfInBounds_toArray, List.set_cons_zero, List.set_cons_succ]
  refine wpAnyH_take (i := 13) (oi := { dst := some 25, op := Go.Op.extract (Go.Operand.tmp 12) 0, type := 29, pos := "shelf.go:152", after := #[{ on := 12, ground := Go.Ground.data }], guard := none }) (v := ?_) rfl (by kernel_rfl) (by kernel_rfl) (by kernel_rfl) (fun _ _ _ h => h) (Or.inl ⟨by rfl, ?_⟩) (by assumption) ?_
  rotate_left
  · intro wz hSw; (try dsimp only at hSw); go_simp; (try with_reducible rfl)
  try simp only [Act.put, List.setIfInBounds_toArray, List.set_cons_zero, List.set_cons_succ]
  refine wpAnyH_take (i := 14) (oi := { dst := some 26, op := Go.Op.extract (Go.Operand.tmp 12) 1, type := 26, pos := "shelf.go:152", after := #[{ on := 12, ground := Go.Ground.data }, { on := 15, ground := Go.Ground.gcOnly Go.Departure.lateStores }], guard := none }) (v := ?_) rfl (by kernel_rfl) (by kernel_rfl) (by kernel_rfl) (fun _ _ _ h => h) (Or.inl ⟨by rfl, ?_⟩) (by assumption) ?_
  rotate_left
  · intro wz hSw; (try dsimp only at hSw); go_simp; (try with_reducible rfl)
  try simp only [Act.put, List.setIfInBounds_toArray, List.set_cons_zero, List.set_cons_succ]
  refine wpAnyH_take (i := 15) (oi := { dst := some 5, op := Go.Op.assign (Go.Operand.tmp 25), type := 29, pos := "shelf.go:152", after := #[{ on := 13, ground := Go.Ground.data }, { on := 11, ground := Go.Ground.chain }, { on := 0, ground := Go.Ground.phase }, { on := 1, ground := Go.Ground.phase }, { on := 2, ground := Go.Ground.phase }, { on := 3, ground := Go.Ground.phase }, { on := 4, ground := Go.Ground.phase }, { on := 5, ground := Go.Ground.phase }, { on := 6, ground := Go.Ground.phase }, { on := 7, ground := Go.Ground.phase }, { on := 8, ground := Go.Ground.phase }, { on := 9, ground := Go.Ground.phase }, { on := 10, ground := Go.Ground.phase }, { on := 11, ground := Go.Ground.phase }, { on := 12, ground := Go.Ground.phase }, { on := 13, ground := Go.Ground.phase }, { on := 14, ground := Go.Ground.textOnly Go.Departure.lateStores }], guard := none }) (v := ?_) rfl (by kernel_rfl) (by kernel_rfl) (by kernel_rfl) (fun _ _ _ h => h) (Or.inl ⟨by rfl, ?_⟩) (by assumption) ?_
  rotate_left
  · intro wz hSw; (try dsimp only at hSw); go_simp; (try with_reducible rfl)
  try simp only [Act.put, List.setIfInBounds_toArray, List.set_cons_zero, List.set_cons_succ]
  refine wpAnyH_take (i := 16) (oi := { dst := some 6, op := Go.Op.assign (Go.Operand.tmp 26), type := 26, pos := "shelf.go:152", after := #[{ on := 14, ground := Go.Ground.data }, { on := 15, ground := Go.Ground.chain }, { on := 0, ground := Go.Ground.phase }, { on := 1, ground := Go.Ground.phase }, { on := 2, ground := Go.Ground.phase }, { on := 3, ground := Go.Ground.phase }, { on := 4, ground := Go.Ground.phase }, { on := 5, ground := Go.Ground.phase }, { on := 6, ground := Go.Ground.phase }, { on := 7, ground := Go.Ground.phase }, { on := 8, ground := Go.Ground.phase }, { on := 9, ground := Go.Ground.phase }, { on := 10, ground := Go.Ground.phase }, { on := 11, ground := Go.Ground.phase }, { on := 12, ground := Go.Ground.phase }, { on := 13, ground := Go.Ground.phase }, { on := 14, ground := Go.Ground.phase }, { on := 15, ground := Go.Ground.phase }], guard := none }) (v := ?_) rfl (by kernel_rfl) (by kernel_rfl) (by kernel_rfl) (fun _ _ _ h => h) (Or.inl ⟨by rfl, ?_⟩) (by assumption) ?_
  rotate_left
  · intro wz hSw; (try dsimp only at hSw); go_simp; (try with_reducible rfl)
  try simp only [Act.put, List.setIfInBounds_toArray, List.set_cons_zero, List.set_cons_succ]
  refine wpAnyH_done (by kernel_rfl) (NoPanic.normal ?_) _
  try simp only [Act.put, List.setIfInBounds_toArray, List.set_cons_zero, List.set_cons_succ]
  have HB1 : Hid (Below w.heap.size w w1) := Below.transS (Below.refl _ _).drew hb1
  have hFr := hO1.fresh
  have hre := readE_rs ad1 cap1 b w1 hFr.2.1 hFr.2.2.1 (by omega)
  clear hO1 hb1 hrd hHeld HS hFr
  go_wp2_with fail
  refine hre.mono ?_
  rintro e w2 ⟨rb, rfl, hRS2, hrb, hb2⟩
  have HB2 : Hid (Below w.heap.size w w2 ∧ w.heap.size ≤ rb) := ⟨Below.transS HB1.out hb2, Nat.le_trans HB1.out.size hrb⟩
  clear hre hrb hb2
  go_upto_region 5 with fail
  refine wp_region_noPanic ?_
  refine wp_region_held_drew (S := fun _ => True) (by kernel_rfl) trivial (fun hHeld => ?_)
  have hRSd : RS w2.drew rb (some b) := hRS2.keep (Below.refl _ _).drew
  have hby := bytes_rs rb 4096 (some b) w2.drew hRSd
  clear hRS2
  refine wpAnyH_take (i := 0) (oi := { dst := some 32, op := Go.Op.move (Go.Operand.tmp 7), type := 122, pos := "shelf.go:157", after := #[], guard := none }) (v := ?_) rfl (by kernel_rfl) (by kernel_rfl) (by kernel_rfl) (fun _ _ _ h => h) (Or.inl ⟨by rfl, ?_⟩) (by assumption) ?_
  rotate_left
  · intro wz hSw; (try dsimp only at hSw); go_simp; (try with_reducible rfl)
  try simp only [Act.put, List.setIfInBounds_toArray, List.set_cons_zero, List.set_cons_succ]
  refine wpAnyH_take (i := 3) (oi := { dst := some 35, op := Go.Op.move (Go.Operand.tmp 7), type := 122, pos := "shelf.go:157", after := #[], guard := none }) (v := ?_) rfl (by kernel_rfl) (by kernel_rfl) (by kernel_rfl) (fun _ _ _ h => h) (Or.inl ⟨by rfl, ?_⟩) (by assumption) ?_
  rotate_left
  · intro wz hSw; (try dsimp only at hSw); go_simp; (try with_reducible rfl)
  try simp only [Act.put, List.setIfInBounds_toArray, List.set_cons_zero, List.set_cons_succ]
  refine wpAnyH_ready (rs := [1]) (by kernel_rfl) (by simp) ?_
  refine (AllReadyH.cons (o := { dst := some 33, op := Go.Op.call { callee := Go.Callee.value (Go.Operand.func 64), args := #[Go.Operand.tmp 32, Go.Operand.const (Go.Value.int Go.IntKind.i64 4096)], argTypes := #[122, 3] }, type := 29, pos := "shelf.go:157", after := #[{ on := 0, ground := Go.Ground.data }], guard := none }) rfl (fun K hK => ?_) AllReadyH.nil)
  go_simp
  refine hby.mono ?_
  rintro e w3 ⟨ad3, cap3, rfl, hO3, hF3, hRS3⟩
  have HO3 : Hid (Own w2.drew w3 ad3 cap3 ((((some b).bind (bytesR 4096)).map Prod.fst).getD [])) := hO3
  refine hK.out _ _ trivial (fun _ => ?_)
  clear hK K
  try simp only [Act.put, List.setIfInBounds_toArray, List.set_cons_zero, List.set_cons_succ]
  have hq3 : ((some b).bind (bytesR 4096)).map Prod.snd = leafQ b := rfl
  rw [hq3] at hRS3
  obtain ⟨l3, hl3⟩ : ∃ l3, (((some b).bind (bytesR 4096)).map Prod.fst).getD [] = l3 := ⟨_, rfl⟩
  have hk3 : uL l3 = leafK b := by rw [← hl3]; rfl
  rw [hl3] at HO3 ⊢
  refine wpAnyH_more (S' := fun w' => (convert 29 9 (.slice ad3 l3.length cap3)).run Tryz.prog w' = .ok (encStr (leafK b)) w') (fun _ _ => trivial) _ _ _ _ ?_
  have S3 : (convert 29 9 (.slice ad3 l3.length cap3)).run Tryz.prog w3 = .ok (encStr (leafK b)) w3 := by rw [← hk3]; exact own_conv HO3.out.2.1 HO3.out.2.2.1
  have hrbl : rb < w2.heap.size := hRSd.lt
  refine wpAnyH_take (i := 2) (oi := { dst := some 34, op := Go.Op.convert 29 9 (Go.Operand.tmp 33), type := 9, pos := "shelf.go:157", after := #[{ on := 1, ground := Go.Ground.data }], guard := none }) (v := encStr (leafK b)) rfl (by kernel_rfl) (by kernel_rfl) (by kernel_rfl) (fun _ _ _ h => h) (Or.inl ⟨by rfl, ?_⟩) (by assumption) ?_
  · intro wz hSw; (try dsimp only at hSw); go_simp; try rfl
  try simp only [Act.put, List.setIfInBounds_toArray, List.set_cons_zero, List.set_cons_succ]
  have hby4 := bytes_rs rb 4096 (leafQ b) w3 hRS3
  refine wpAnyH_ready (rs := [4]) (by kernel_rfl) (by simp) ?_
  refine (AllReadyH.cons (o := { dst := some 36, op := Go.Op.call { callee := Go.Callee.value (Go.Operand.func 64), args := #[Go.Operand.tmp 35, Go.Operand.const (Go.Value.int Go.IntKind.i64 4096)], argTypes := #[122, 3] }, type := 29, pos := "shelf.go:157", after := #[{ on := 3, ground := Go.Ground.data }, { on := 1, ground := Go.Ground.chain }], guard := none }) rfl (fun K hK => ?_) AllReadyH.nil)
  go_simp
  refine hby4.mono ?_
  rintro e w4 ⟨ad4, cap4, rfl, hO4, hF4, hRS4⟩
  have HO4 : Hid (Own w3 w4 ad4 cap4 ((((leafQ b).bind (bytesR 4096)).map Prod.fst).getD [])) := hO4
  have hs3 : SlAt w4 ad3 l3.length (fn l3) := HO3.out.2.1.frm hF4 (fun bb off _ e hm => by
    have h1 := HO3.out.2.2.2 _ e
    simp at hm
    have h2 : w2.drew.heap.size = w2.heap.size := rfl
    simp at h1
    omega)
  have S4 : (convert 29 9 (.slice ad3 l3.length cap3)).run Tryz.prog w4 = .ok (encStr (leafK b)) w4 := by rw [← hk3]; exact own_conv hs3 HO3.out.2.2.1
  refine hK.out _ _ S4 (fun _ => ?_)
  clear hK K
  try simp only [Act.put, List.setIfInBounds_toArray, List.set_cons_zero, List.set_cons_succ]
  obtain ⟨l4, hl4⟩ : ∃ l4, (((leafQ b).bind (bytesR 4096)).map Prod.fst).getD [] = l4 := ⟨_, rfl⟩
  have hk4 : uL l4 = leafV b := by rw [← hl4]; rfl
  have hq4 : ((leafQ b).bind (bytesR 4096)).map Prod.snd = leafE b := rfl
  rw [hq4] at hRS4
  rw [hl4] at HO4 ⊢
  refine wpAnyH_more (S' := fun w' => (convert 29 9 (.slice ad3 l3.length cap3)).run Tryz.prog w' = .ok (encStr (leafK b)) w' ∧ (convert 29 9 (.slice ad4 l4.length cap4)).run Tryz.prog w' = .ok (encStr (leafV b)) w') (fun _ h => h.1) _ _ _ _ ?_
  have S5 : (convert 29 9 (.slice ad3 l3.length cap3)).run Tryz.prog w4 = .ok (encStr (leafK b)) w4 ∧ (convert 29 9 (.slice ad4 l4.length cap4)).run Tryz.prog w4 = .ok (encStr (leafV b)) w4 := ⟨S4, by rw [← hk4]; exact own_conv HO4.out.2.1 HO4.out.2.2.1⟩
  refine wpAnyH_take (i := 5) (oi := { dst := some 37, op := Go.Op.convert 29 9 (Go.Operand.tmp 36), type := 9, pos := "shelf.go:157", after := #[{ on := 4, ground := Go.Ground.data }, { on := 6, ground := Go.Ground.gcOnly Go.Departure.lateStores }], guard := none }) (v := encStr (leafV b)) rfl (by kernel_rfl) (by kernel_rfl) (by kernel_rfl) (fun _ _ _ h => h) (Or.inl ⟨by rfl, ?_⟩) (by assumption) ?_
  · intro wz hSw; (try dsimp only at hSw); have h1 := hSw.2; go_simp; try rfl
  try simp only [Act.put, List.setIfInBounds_toArray, List.set_cons_zero, List.set_cons_succ]
  refine wpAnyH_take (i := 6) (oi := { dst := some 8, op := Go.Op.assign (Go.Operand.tmp 34), type := 9, pos := "shelf.go:157", after := #[{ on := 2, ground := Go.Ground.data }, { on := 4, ground := Go.Ground.chain }, { on := 0, ground := Go.Ground.phase }, { on := 1, ground := Go.Ground.phase }, { on := 2, ground := Go.Ground.phase }, { on := 3, ground := Go.Ground.textOnly Go.Departure.lateStores }, { on := 4, ground := Go.Ground.textOnly Go.Departure.lateStoresUnsure }, { on := 5, ground := Go.Ground.textOnly Go.Departure.lateStores }], guard := none }) (v := ?_) rfl (by kernel_rfl) (by kernel_rfl) (by kernel_rfl) (fun _ _ _ h => h) (Or.inl ⟨by rfl, ?_⟩) (by assumption) ?_
  rotate_left
  · intro wz hSw; (try dsimp only at hSw); go_simp; (try with_reducible rfl)
  try simp only [Act.put, List.setIfInBounds_toArray, List.set_cons_zero, List.set_cons_succ]
  refine wpAnyH_take (i := 7) (oi := { dst := some 9, op := Go.Op.assign (Go.Operand.tmp 37), type := 9, pos := "shelf.go:157", after := #[{ on := 5, ground := Go.Ground.data }, { on := 6, ground := Go.Ground.chain }, { on := 0, ground := Go.Ground.phase }, { on := 1, ground := Go.Ground.phase }, { on := 2, ground := Go.Ground.phase }, { on := 3, ground := Go.Ground.phase }, { on := 4, ground := Go.Ground.phase }, { on := 5, ground := Go.Ground.phase }, { on := 6, ground := Go.Ground.phase }], guard := none }) (v := ?_) rfl (by kernel_rfl) (by kernel_rfl) (by kernel_rfl) (fun _ _ _ h => h) (Or.inl ⟨by rfl, ?_⟩) (by assumption) ?_
  rotate_left
  · intro wz hSw; (try dsimp only at hSw); go_simp; (try with_reducible rfl)
  try simp only [Act.put, List.setIfInBounds_toArray, List.set_cons_zero, List.set_cons_succ]
  refine wpAnyH_done (by kernel_rfl) (NoPanic.normal ?_) _
  try simp only [Act.put, List.setIfInBounds_toArray, List.set_cons_zero, List.set_cons_succ]
  have hB4 : Below w.heap.size w w4 := by
    have h1 : Below w.heap.size w w2.drew := HB2.out.1.drew
    have h2 := h1.trans (hF3.below h1.size (by simpa using HB2.out.2))
    exact h2.trans (hF4.below h2.size (by simpa using HB2.out.2))
  have HB4 : Hid (Below w.heap.size w w4) := hB4
  have HS4 : Hid (ShAt w4 sh m p fr n M 0) := HH.out.below hB4
  have k3 : w4.cell? ⟨sh, 3, none⟩ = some (.map (some m)) := HS4.out.c3
  have hkl := leafK_le b
  have hvl := leafV_le b
  obtain ⟨lp, lu, hlk, hlv⟩ := look_lf HS4.out.map (k := leafK b) (by unfold maxLen; omega)
  have hdn := done_rs rb (leafE b) w4 hRS4
  have HRS : Hid (RS w4 rb (leafE b)) := hRS4
  obtain ⟨ok, hok⟩ : ∃ ok, leafOk M b = ok := ⟨_, rfl⟩
  have HOk : Hid (leafOk M b = ok) := hok
  have hokd : ok = (!(getK Lf.k (leafK b) M).isSome && endsR (leafE b)) := by rw [← hok]; rfl
  clear hB4 hF3 hF4 hRS3 hRS4 hO3 hO4 hby hby4 hl3 hl4 hk3 hk4 hq3 hq4 S3 S4 S5 hs3 HO3 HO4 hRSd hHeld hok hlv
  have hbx : Below w4.heap.size w4 (w4.alloc (.cells #[.int .i64 (lp : Int), encStr lu] 101)) := (Below.refl _ w4).alloc (Nat.le_refl _) _
  cases htw : (getK Lf.k (leafK b) M).isSome with
  | true =>
    rw [htw] at hlk hokd
    have HE : Hid (RlR w sh m p fr n pl M b (.returned (.iface 72 (.int .i64 14))) (w4.alloc (.cells #[.int .i64 (lp : Int), encStr lu] 101))) := .inl ⟨by rw [HOk.out, hokd]; rfl, rfl, Below.transS HB4.out hbx⟩
    clear hdn hokd HOk hbx
    generalize leafK b = kk at *
    generalize leafV b = vv at *
    go_wp2
    go_ret
    exact HE.out
  | false =>
    rw [htw] at hlk hokd
    have hdn5 := done_rs rb (leafE b) (w4.alloc (.cells #[.int .i64 (lp : Int), encStr lu] 101)) (HRS.out.keep hbx)
    have hdn' : Calls Tryz.prog 62 #[.pointer (some ⟨rb, 0, none⟩)] (w4.alloc (.cells #[.int .i64 (lp : Int), encStr lu] 101)) fun e w' => ((endsR (leafE b) = true ∧ e = .returned .nilIface) ∨ (endsR (leafE b) = false ∧ ∃ x, e = .returned (.iface 72 (.int .i64 x)))) ∧ w' = w4.alloc (.cells #[.int .i64 (lp : Int), encStr lu] 101) := hdn5.mono fun e w' hh => by
      obtain ⟨⟨x, rfl, hx⟩, rfl⟩ := hh
      refine ⟨?_, rfl⟩
      by_cases h0 : x = 0
      · subst h0; exact .inl ⟨hx.2 rfl, rfl⟩
      · refine .inr ⟨?_, x, by rw [errV_ne h0]⟩
        cases he : endsR (leafE b) with
        | true => exact absurd (hx.1 he) h0
        | false => rfl
    have HB5 : Hid (Below w.heap.size w (w4.alloc (.cells #[.int .i64 (lp : Int), encStr lu] 101))) := Below.transS HB4.out hbx
    have HS5 : Hid (ShAt (w4.alloc (.cells #[.int .i64 (lp : Int), encStr lu] 101)) sh m p fr n M 0) := HS4.out.below hbx
    have k35 := HS5.out.c3
    clear hdn hdn5 hbx
    go_wp2_with fail
    refine hdn'.mono ?_
    rintro e w5 ⟨⟨he, rfl⟩ | ⟨he, x, rfl⟩, hW5⟩
    · have hown5 : w5.ownsMap Tryz.prog 9 lfR m M.length (dOf Lf.k Lf.en M) := by rw [hW5]; exact HS5.out.map
      have k36 : w5.cell? ⟨sh, 3, none⟩ = some (.map (some m)) := by rw [hW5]; exact k35
      have hkey := key_str (k := leafK b) (by unfold maxLen; omega)
      have hval : lfR (.agg #[.int .i64 (pl : Int), encStr (leafV b)]) = some (lfD pl (leafV b), []) := lfR_mk pl (leafV b)
      have HN : Hid (∀ w6, w6.ownsMap Tryz.prog 9 lfR m (M.length + 1) ((dOf Lf.k Lf.en M).put (.string (leafK b)) (lfD pl (leafV b))) → w5.grownBy w6 (some m) → RlR w sh m p fr n pl M b (.returned .nilIface) w6) := fun w6 h1 h2 => by
        refine .inr ⟨by rw [HOk.out, hokd, he]; rfl, rfl, ?_, ?_⟩
        · have hm6 : lfM w6 m (putK Lf.k ⟨leafK b, pl, leafV b⟩ M) := insMap (x := ⟨leafK b, pl, leafV b⟩) h1
          have h5 := HS5.out
          rw [← hW5] at h5
          have hne : sh ≠ m := fun e => by
            obtain ⟨es, cl, hb, _⟩ := h5.map
            rw [← e, h5.cells] at hb; cases hb
          have hcl : w6.heap[sh]? = w5.heap[sh]? := h2.block _ h5.lt (by simpa using hne)
          refine ⟨by rw [hcl]; exact h5.cells, hm6, ?_, h5.count, h5.from_⟩
          have hgn : getK Lf.k (leafK b) M = none := by
            cases hg : getK Lf.k (leafK b) M with
            | none => rfl
            | some y => rw [hg] at htw; cases htw
          have hap := HPl.out
          have hmem : ∀ x ∈ putK Lf.k ⟨leafK b, pl, leafV b⟩ M, x = ⟨leafK b, pl, leafV b⟩ ∨ x ∈ M := fun x hx => ((mem_putK Lf.k).1 hx).imp id And.left
          refine ⟨h5.ok.rise.put Lf.k, ?_, fun x hx => ?_, fun x hx => ?_⟩
          · have hpp := (insK_permL ⟨leafK b, pl, leafV b⟩ (delK Lf.k (leafK b) M)).map Lf.p
            unfold putK
            rw [hpp.nodup_iff, List.map_cons, List.nodup_cons]
            refine ⟨fun hy => ?_, (List.filter_sublist.map Lf.p).nodup h5.ok.apart⟩
            obtain ⟨x, hx, e⟩ := List.mem_map.1 hy
            exact hap x ((mem_delK Lf.k).1 hx).1 e
          · rcases hmem x hx with rfl | hx
            · exact hp
            · exact h5.ok.place x hx
          · rcases hmem x hx with rfl | hx
            · exact ⟨hkl, hvl⟩
            · exact h5.ok.len x hx
        · have hbw : Below w.heap.size w w5 := by rw [hW5]; exact HB5.out
          exact (Frm.ofBelow hbw).grown h2 (fun k e => by cases e; simp)
      clear hokd HOk hW5 hdn' k35
      generalize leafK b = kk at *
      generalize leafV b = vv at *
      generalize lfD pl vv = dd at *
      go_wp2_with (first | (at_mapUpdate; refine wpList_mapUpdate_own _ rfl _ _ _ 81 rfl 9 101 strK Tryz.underlying81 _ m _ _ rfl hown5 (by unfold maxLen; omega) _ _ (.string kk) rfl rfl hkey dd [] hval ?_; intro w6 hown6 hgrow6) | fail)
      go_ret
      exact HN.out w6 hown6 hgrow6
    · have HE : Hid (RlR w sh m p fr n pl M b (.returned (.iface 72 (.int .i64 14))) w5) := .inl ⟨by rw [HOk.out, hokd, he]; rfl, rfl, by rw [hW5]; exact HB5.out⟩
      clear hokd HOk hW5 hdn' k35
      generalize leafK b = kk at *
      generalize leafV b = vv at *
      go_wp2
      go_ret
      exact HE.out
end Go.Proofs.YtbfajoeilpkofaaGreatDoor
