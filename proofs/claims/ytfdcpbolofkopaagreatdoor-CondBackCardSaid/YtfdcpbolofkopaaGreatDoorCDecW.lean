/- cond.Decode of what Put laid: the walk. -/
import Derived.Test.YtfdcpbolofkopaaGreatDoorCDec
namespace Go.Proofs.YtfdcpbolofkopaaGreatDoor
open Go.RowKit

theorem RdAt.lt {w : World} {rb n : Nat} {z : Nat → Int} {er : Int} (h : RdAt w rb n z er) : rb < w.heap.size := by
  obtain ⟨_, _, hr, _⟩ := h
  exact lt_of_block hr
theorem DcR.cell {w wr : World} {C : Nat} {v : Value} {Y : Nat → Bv} {A : Nat → Option Addr × Nat} {i : Nat} (h : DcR w wr C v Y A i) : wr.cell? ⟨C, 0, none⟩ = some v := by
  rw [cell_of_row wr C 0 _ _ _ h.box]; rfl
/-- What Decode answers. -/
def DecodePost (w : World) (X : Nat → Bv) (n : Nat) (e : Ending) (w' : World) : Prop :=
  ((COk X n ∧ ∃ ad cap Y, e = .returned (.tuple #[.agg #[.slice ad n cap], .nilIface]) ∧ BrAt w' ad n Y ∧ (∀ j, j < n → Alike (Y j) (X j))) ∨ (¬ COk X n ∧ e = .returned (.tuple #[.agg #[.slice none 0 0], errV 3]))) ∧ Below w.heap.size w w'
theorem alike_ok {x y : Bv} (h : Alike y x) (hx : x.Ok) : y.Ok := by
  refine ⟨fun j hj => ?_, fun j hj => ?_, ?_, ?_⟩
  · rw [h.z j hj]; exact hx.z j (by rw [← h.n]; exact hj)
  · rw [h.lk j hj]; exact hx.lk j hj
  · rw [h.af]; exact hx.af
  · rw [h.ol]; exact hx.ol
theorem dec_begin (w w1 : World) (rb : Nat) (L : List Int) (hr : w1.heap[w.heap.size]? = some (.cells #[.slice none 0 0] 30 (0, 0))) (hb : Below w.heap.size w w1) (hR : RdAt w1 rb L.length (fn L) 0) (hl : L.length ≤ 140737488351232) :
    DcR w (w1.alloc (.cells #[.slice none 0 0] 30)) w1.heap.size (.slice none 0 0) (fun _ => b0) (fun _ => (none, 0)) 0 ∧ RS (w1.alloc (.cells #[.slice none 0 0] 30)) rb (some L) := by
  have hb1 : Below w1.heap.size w1 (w1.alloc (.cells #[.slice none 0 0] 30)) := (Below.refl _ _).alloc (Nat.le_refl _) _
  have hW := lt_of_block hr
  refine ⟨⟨hb.trans (hb1.mono hb.size), ?_, heap_alloc_new w1 _, World.ownsRow_nil _ _ _ _, fun j hj => by omega, fun j hj => by omega, fun j hj => by omega⟩, RS.keep (st := some L) ⟨hR, hl⟩ hb1⟩
  rw [hb1.block _ hW]; exact hr

set_option maxRecDepth 100000 in
set_option maxHeartbeats 3200000 in
theorem decode_any (ad : Option Addr) (cap : Nat) (X : Nat → Bv) (n : Nat) (L : List Int) (w : World) (hL : L = laidC X n) (hs : SlAt w ad L.length (fn L)) (hnil : ad = none → L.length = 0 ∧ cap = 0) (hX : ∀ j, j < n → (X j).Ok) (hn : n ≤ 1000) (hx : ∀ j, j < n → (X j).n ≤ 1000000) :
    Calls Tryz.prog 7 #[.slice ad L.length cap] w (DecodePost w X n) := by
  have hlen : L.length ≤ 140737488351232 := by
    rw [hL, laidC_parts X n (by omega), List.length_append, ← laidBrs_laidT]
    have h1 := laidBrs_len X n hx
    have h2 : (uB (n : Int)).length ≤ 9 := uB_len _
    omega
  have HL : Hid (L = uB (n : Int) ++ laidT X 0 n) := hL.trans (laidC_parts X n (by omega))
  have hr0 : (w.alloc (.cells #[.slice none 0 0] 30)).heap[w.heap.size]? = some (.cells #[.slice none 0 0] 30 (0, 0)) := heap_alloc_new w _
  have hb0 : Below w.heap.size w (w.alloc (.cells #[.slice none 0 0] 30)) := (Below.refl _ w).alloc (Nat.le_refl _) _
  have hsz0 : (w.alloc (.cells #[.slice none 0 0] 30)).heap.size = w.heap.size + 1 := by simp
  have hread := read_any ad L.length cap (fn L) _ (hs.below hb0) hnil hlen
  clear hs hL
  go_enter Tryz.func7, Tryz.ntmps7
  go_wp2_with fail
  generalize w.alloc (.cells #[.slice none 0 0] 30) = W0 at *
  refine hread.mono ?_
  rintro e w1 ⟨rb, rfl, hR, hge, hb1⟩
  clear hread
  have hr1 : w1.heap[w.heap.size]? = some (.cells #[.slice none 0 0] 30 (0, 0)) := by rw [hb1.block _ (by omega)]; exact hr0
  have hrb : rb < w1.heap.size := hR.lt
  have hwr : w.heap.size < rb := by omega
  obtain ⟨hD0, hR0⟩ := dec_begin w w1 rb L hr1 (hb0.trans (hb1.mono hb0.size)) hR hlen
  clear hr0 hb0 hr1 hb1 hR hge hsz0
  have HD0 : Hid (DcR w (w1.alloc (.cells #[.slice none 0 0] 30)) w1.heap.size (.slice none 0 0) (fun _ => b0) (fun _ => (none, 0)) 0 ∧ RS (w1.alloc (.cells #[.slice none 0 0] 30)) rb (some L)) := ⟨hD0, hR0⟩
  clear hD0 hR0
  go_wp2_with fail
  generalize w1.alloc (.cells #[.slice none 0 0] 30) = W1 at *
  generalize w1.heap.size = C at *
  have hR1 := HD0.out.2
  rw [HL.out] at hR1
  refine (count_some rb n 8 (laidT X 0 n) W1 (by omega) (by omega) (laidT_ge X n 0) hR1).mono ?_
  rintro e w2 ⟨rfl, hF2, hR2⟩
  clear hR1
  have hA0 : ∃ m : Nat, (if n ≤ 8 then (n : Int) else 0) = (m : Int) ∧ m ≤ 8 ∧ At X n m 0 (fun _ => b0) w2 rb := by
    by_cases h8 : n ≤ 8
    · rw [if_pos h8] at hR2 ⊢
      exact ⟨n, rfl, h8, .inl ⟨rfl, h8, fun j hj => by omega, by simpa using hR2⟩⟩
    · rw [if_neg h8] at hR2 ⊢
      exact ⟨0, rfl, by omega, .inr ⟨fun hk => h8 hk.1.2, hR2⟩⟩
  obtain ⟨m, hm, hm8, hA2⟩ := hA0
  have hD2 := HD0.out.1.keep hF2 hwr hrb
  clear hR2 HD0 hF2
  have hm' : (if (n : Int) ≤ 8 then (n : Int) else 0) = (m : Int) := by
    rw [← hm]
    by_cases h8 : n ≤ 8
    · rw [if_pos h8, if_pos (by omega)]
    · rw [if_neg h8, if_neg (by omega)]
  try simp only [hm]
  go_wp2
  try simp only [hm, hm']
  go_loopw [10] (fun jv wr => ∃ (i : Nat) (v : Value) (Y : Nat → Bv) (A : Nat → Option Addr × Nat), i ≤ m ∧ jv = .int .i64 i ∧ DcR w wr C v Y A i ∧ At X n m i Y wr rb) (fun jv _ => m + 1 - (intOf jv).toNat)
  case atStart => exact ⟨0, _, _, _, by omega, rfl, hD2, hA2⟩
  case round =>
    clear hD2 hA2
    obtain ⟨i, v, Y, A, hi, rfl, hD, hA⟩ := hrel
    have HT : Hid (DcR w wr C v Y A i ∧ At X n m i Y wr rb) := ⟨hD, hA⟩
    clear hD hA
    by_cases hlt : i < m
    · have hlt' : (i : Int) < m := by omega
      go_wp2_with fail
      have hTd : DcR w wr.drew C v Y A i := HT.out.1.keep (rb := rb) ((Frm.refl _ wr).drew) hwr hrb
      have hCd : At X n m i Y wr.drew rb := HT.out.2.frm (S := []) ((Frm.refl _ wr).drew) (by simp)
      have cd : wr.drew.cell? ⟨C, 0, none⟩ = some v := hTd.cell
      have HTd : Hid (DcR w wr.drew C v Y A i ∧ At X n m i Y wr.drew rb) := ⟨hTd, hCd⟩
      clear hTd hCd HT
      refine wp_region_noPanic ?_
      refine wp_region_held_drew (S := fun _ => True) (by kernel_rfl) trivial (fun hHeld => ?_)
      refine wpAnyH_take (i := 0) (oi := { dst := some 12, op := Go.Op.fieldAddr 30 (Go.Operand.tmp 5) 0, type := 0, pos := "cond.go:107", after := #[], guard := none }) (v := ?_) rfl (by kernel_rfl) (by kernel_rfl) (by kernel_rfl) (fun _ _ _ h => h) (Or.inl ⟨by rfl, ?_⟩) (by assumption) ?_
      rotate_left
      · intro wz hSw; (try dsimp only at hSw); go_simp; (try with_reducible rfl)
      try simp only [Act.put, List.setIfInBounds_toArray, List.set_cons_zero, List.set_cons_succ]
      refine wpAnyH_take (i := 2) (oi := { dst := some 14, op := Go.Op.move (Go.Operand.tmp 4), type := 56, pos := "cond.go:107", after := #[], guard := none }) (v := ?_) rfl (by kernel_rfl) (by kernel_rfl) (by kernel_rfl) (fun _ _ _ h => h) (Or.inl ⟨by rfl, ?_⟩) (by assumption) ?_
      rotate_left
      · intro wz hSw; (try dsimp only at hSw); go_simp; (try with_reducible rfl)
      try simp only [Act.put, List.setIfInBounds_toArray, List.set_cons_zero, List.set_cons_succ]
      refine wpAnyH_ready (rs := [1, 3]) (by kernel_rfl) (by simp) ?_
      refine (AllReadyH.cons (o := { dst := some 13, op := Go.Op.load 28 (Go.Operand.tmp 12), type := 28, pos := "cond.go:107", after := #[{ on := 0, ground := Go.Ground.data }], guard := none }) rfl (fun K hK => ?_) (AllReadyH.cons (o := { dst := some 15, op := Go.Op.call { callee := Go.Callee.value (Go.Operand.func 21), args := #[Go.Operand.tmp 14], argTypes := #[56] }, type := 55, pos := "cond.go:107", after := #[{ on := 2, ground := Go.Ground.data }], guard := none }) rfl (fun K hK => ?_) AllReadyH.nil))
      ·
        go_simp
        refine hK.out _ _ trivial (fun _ => ?_)
        clear hK K
        try simp only [Act.put, List.setIfInBounds_toArray, List.set_cons_zero, List.set_cons_succ]
        refine wpAnyH_ready (rs := [3]) (by kernel_rfl) (by simp) ?_
        refine (AllReadyH.cons (o := { dst := some 15, op := Go.Op.call { callee := Go.Callee.value (Go.Operand.func 21), args := #[Go.Operand.tmp 14], argTypes := #[56] }, type := 55, pos := "cond.go:107", after := #[{ on := 2, ground := Go.Ground.data }], guard := none }) rfl (fun K hK => ?_) AllReadyH.nil)
        go_simp
        refine (dec_take w wr.drew rb C v X n m i Y A hlt hX hx HTd.out.1 HTd.out.2 hwr hrb).mono ?_
        rintro e w3 ⟨y, ka, kc, rfl, hy, hI3, hA3, hD3, hC3⟩
        have hl3 := lt_of_block hD3.box
        have hb4 : Below w3.heap.size w3 (w3.alloc (.cells (bv y ka kc) 55)) := (Below.refl _ _).alloc (Nat.le_refl _) _
        have hD4 := hD3.keep (rb := rb) (Frm.ofBelow hb4) hwr hrb
        have hC4 := hC3.frm (S := []) (Frm.ofBelow hb4) (by simp)
        have hI4 := hI3.below hb4
        have hA4 : ∀ a, ka = some a → C < a.block ∧ a.block < (w3.alloc (.cells (bv y ka kc) 55)).heap.size ∧ v.ownBlock ≠ some a.block := fun a e => ⟨(hA3 a e).1, Nat.lt_of_lt_of_le (hA3 a e).2.1 hb4.size, (hA3 a e).2.2⟩
        have c3 : w3.cell? ⟨C, 0, none⟩ = some v := hD3.cell
        have c4 : (w3.alloc (.cells (bv y ka kc) 55)).cell? ⟨C, 0, none⟩ = some v := hD4.cell
        have hs4 : C + 1 ≤ (w3.alloc (.cells (bv y ka kc) 55)).heap.size := Nat.le_trans hl3 hb4.size
        have H4 : Hid (DcR w (w3.alloc (.cells (bv y ka kc) 55)) C v Y A i ∧ At X n m (i + 1) (fun j => if j = i then y else Y j) (w3.alloc (.cells (bv y ka kc) 55)) rb ∧ IsAt (w3.alloc (.cells (bv y ka kc) 55)) ka y.n y.z ∧ (∀ a, ka = some a → C < a.block ∧ a.block < (w3.alloc (.cells (bv y ka kc) 55)).heap.size ∧ v.ownBlock ≠ some a.block)) := ⟨hD4, hC4, hI4, hA4⟩
        clear hI3 hA3 hD3 hC3 hD4 hC4 hI4 hA4
        refine hK.out _ _ trivial (fun _ => ?_)
        clear hK K
        try simp only [Act.put, List.setIfInBounds_toArray, List.set_cons_zero, List.set_cons_succ]
        refine wpAnyH_ready (rs := [4]) (by kernel_rfl) (by simp) ?_
        refine (AllReadyH.cons (o := { dst := some 16, op := Go.Op.buildSlice 28 1 #[(0, Go.Operand.tmp 15)], type := 28, pos := "cond.go:107", after := #[{ on := 3, ground := Go.Ground.data }], guard := none }) rfl (fun K hK => ?_) AllReadyH.nil)
        refine step_sliceB rfl (.tmp 15) rfl y ka kc (by rfl) ?_
        refine hK.out _ _ trivial (fun _ => ?_)
        clear hK K
        try simp only [Act.put, List.setIfInBounds_toArray, List.set_cons_zero, List.set_cons_succ]
        refine wpAnyH_ready (rs := [5]) (by kernel_rfl) (by simp) ?_
        refine (AllReadyH.cons (o := { dst := some 17, op := Go.Op.call { callee := Go.Callee.builtin Go.Builtin.append, args := #[Go.Operand.tmp 13, Go.Operand.tmp 16], argTypes := #[28, 28] }, type := 28, pos := "cond.go:107", after := #[{ on := 1, ground := Go.Ground.data }, { on := 4, ground := Go.Ground.data }, { on := 3, ground := Go.Ground.chain }], guard := none }) rfl (fun K hK => ?_) AllReadyH.nil)
        refine step_append_Br rfl (.tmp 13) (.tmp 16) rfl (C + 1) w3.heap.size v i (flatB Y A i) y ka kc (by rfl) (by rfl) H4.out.1.own hs4 (heap_alloc_new w3 _) (by omega) ?_
        intro v' w6 hown' hgrow hloc
        obtain ⟨va', vc', rfl⟩ : ∃ va' vc', v' = .slice va' (i + 1) vc' := by
          rcases hown'.2 with ⟨_, e⟩ | ⟨g, c, cur, e, _⟩
          · simp at e
          · exact ⟨_, _, e⟩
        obtain ⟨⟨c6, f6⟩, hT6, S6, hS6, hS7⟩ := H4.out.1.push hown' hgrow hloc H4.out.2.2.1 H4.out.2.2.2 hy hwr hrb
        have HN : Hid (DcR w (w6.setCell ⟨C, 0, none⟩ (.slice va' (i + 1) vc')) C (.slice va' (i + 1) vc') (fun j => if j = i then y else Y j) (fun j => if j = i then (ka, kc) else A j) (i + 1) ∧ At X n m (i + 1) (fun j => if j = i then y else Y j) (w6.setCell ⟨C, 0, none⟩ (.slice va' (i + 1) vc')) rb) := ⟨hT6, H4.out.2.1.frm hS6 hS7⟩
        clear hown' hgrow hloc hT6 hS6 hS7 H4
        refine hK.out _ _ trivial (fun _ => ?_)
        clear hK K
        try simp only [Act.put, List.setIfInBounds_toArray, List.set_cons_zero, List.set_cons_succ]
        refine wpAnyH_take (i := 6) (oi := { dst := some 18, op := Go.Op.fieldAddr 30 (Go.Operand.tmp 5) 0, type := 0, pos := "cond.go:107", after := #[{ on := 0, ground := Go.Ground.phase }, { on := 1, ground := Go.Ground.phase }, { on := 2, ground := Go.Ground.phase }, { on := 3, ground := Go.Ground.phase }, { on := 4, ground := Go.Ground.phase }, { on := 5, ground := Go.Ground.phase }], guard := none }) (v := ?_) rfl (by kernel_rfl) (by kernel_rfl) (by kernel_rfl) (fun _ _ _ h => h) (Or.inl ⟨by rfl, ?_⟩) (by assumption) ?_
        rotate_left
        · intro wz hSw; (try dsimp only at hSw); go_simp; (try with_reducible rfl)
        try simp only [Act.put, List.setIfInBounds_toArray, List.set_cons_zero, List.set_cons_succ]
        refine wpAnyH_ready (rs := [7]) (by kernel_rfl) (by simp) ?_
        refine (AllReadyH.cons (o := { dst := none, op := Go.Op.store 28 (Go.Operand.tmp 18) (Go.Operand.tmp 17), type := 0, pos := "cond.go:107", after := #[{ on := 6, ground := Go.Ground.data }, { on := 5, ground := Go.Ground.data }, { on := 5, ground := Go.Ground.chain }, { on := 0, ground := Go.Ground.phase }, { on := 1, ground := Go.Ground.phase }, { on := 2, ground := Go.Ground.phase }, { on := 3, ground := Go.Ground.phase }, { on := 4, ground := Go.Ground.phase }, { on := 5, ground := Go.Ground.phase }], guard := none }) rfl (fun K hK => ?_) AllReadyH.nil)
        go_simp
        refine hK.out _ _ trivial (fun _ => ?_)
        clear hK K
        try simp only [Act.put, List.setIfInBounds_toArray, List.set_cons_zero, List.set_cons_succ]
        refine wpAnyH_done (by kernel_rfl) (NoPanic.normal ?_) _
        try simp only [Act.put, List.setIfInBounds_toArray, List.set_cons_zero, List.set_cons_succ]
        clear hHeld c6 f6
        go_wp2
        go_roundw
        case rel => exact ⟨i + 1, _, _, _, by omega, by go_num, HN.out.1, HN.out.2⟩
        case measure => simp [intOf]; omega
      ·
        go_simp
        refine (dec_take w wr.drew rb C v X n m i Y A hlt hX hx HTd.out.1 HTd.out.2 hwr hrb).mono ?_
        rintro e w3 ⟨y, ka, kc, rfl, hy, hI3, hA3, hD3, hC3⟩
        have hl3 := lt_of_block hD3.box
        have hb4 : Below w3.heap.size w3 (w3.alloc (.cells (bv y ka kc) 55)) := (Below.refl _ _).alloc (Nat.le_refl _) _
        have hD4 := hD3.keep (rb := rb) (Frm.ofBelow hb4) hwr hrb
        have hC4 := hC3.frm (S := []) (Frm.ofBelow hb4) (by simp)
        have hI4 := hI3.below hb4
        have hA4 : ∀ a, ka = some a → C < a.block ∧ a.block < (w3.alloc (.cells (bv y ka kc) 55)).heap.size ∧ v.ownBlock ≠ some a.block := fun a e => ⟨(hA3 a e).1, Nat.lt_of_lt_of_le (hA3 a e).2.1 hb4.size, (hA3 a e).2.2⟩
        have c3 : w3.cell? ⟨C, 0, none⟩ = some v := hD3.cell
        have c4 : (w3.alloc (.cells (bv y ka kc) 55)).cell? ⟨C, 0, none⟩ = some v := hD4.cell
        have hs4 : C + 1 ≤ (w3.alloc (.cells (bv y ka kc) 55)).heap.size := Nat.le_trans hl3 hb4.size
        have H4 : Hid (DcR w (w3.alloc (.cells (bv y ka kc) 55)) C v Y A i ∧ At X n m (i + 1) (fun j => if j = i then y else Y j) (w3.alloc (.cells (bv y ka kc) 55)) rb ∧ IsAt (w3.alloc (.cells (bv y ka kc) 55)) ka y.n y.z ∧ (∀ a, ka = some a → C < a.block ∧ a.block < (w3.alloc (.cells (bv y ka kc) 55)).heap.size ∧ v.ownBlock ≠ some a.block)) := ⟨hD4, hC4, hI4, hA4⟩
        clear hI3 hA3 hD3 hC3 hD4 hC4 hI4 hA4
        refine hK.out _ _ trivial (fun _ => ?_)
        clear hK K
        try simp only [Act.put, List.setIfInBounds_toArray, List.set_cons_zero, List.set_cons_succ]
        refine wpAnyH_ready (rs := [1, 4]) (by kernel_rfl) (by simp) ?_
        refine (AllReadyH.cons (o := { dst := some 13, op := Go.Op.load 28 (Go.Operand.tmp 12), type := 28, pos := "cond.go:107", after := #[{ on := 0, ground := Go.Ground.data }], guard := none }) rfl (fun K hK => ?_) (AllReadyH.cons (o := { dst := some 16, op := Go.Op.buildSlice 28 1 #[(0, Go.Operand.tmp 15)], type := 28, pos := "cond.go:107", after := #[{ on := 3, ground := Go.Ground.data }], guard := none }) rfl (fun K hK => ?_) AllReadyH.nil))
        ·
          go_simp
          refine hK.out _ _ trivial (fun _ => ?_)
          clear hK K
          try simp only [Act.put, List.setIfInBounds_toArray, List.set_cons_zero, List.set_cons_succ]
          refine wpAnyH_ready (rs := [4]) (by kernel_rfl) (by simp) ?_
          refine (AllReadyH.cons (o := { dst := some 16, op := Go.Op.buildSlice 28 1 #[(0, Go.Operand.tmp 15)], type := 28, pos := "cond.go:107", after := #[{ on := 3, ground := Go.Ground.data }], guard := none }) rfl (fun K hK => ?_) AllReadyH.nil)
          refine step_sliceB rfl (.tmp 15) rfl y ka kc (by rfl) ?_
          refine hK.out _ _ trivial (fun _ => ?_)
          clear hK K
          try simp only [Act.put, List.setIfInBounds_toArray, List.set_cons_zero, List.set_cons_succ]
          refine wpAnyH_ready (rs := [5]) (by kernel_rfl) (by simp) ?_
          refine (AllReadyH.cons (o := { dst := some 17, op := Go.Op.call { callee := Go.Callee.builtin Go.Builtin.append, args := #[Go.Operand.tmp 13, Go.Operand.tmp 16], argTypes := #[28, 28] }, type := 28, pos := "cond.go:107", after := #[{ on := 1, ground := Go.Ground.data }, { on := 4, ground := Go.Ground.data }, { on := 3, ground := Go.Ground.chain }], guard := none }) rfl (fun K hK => ?_) AllReadyH.nil)
          refine step_append_Br rfl (.tmp 13) (.tmp 16) rfl (C + 1) w3.heap.size v i (flatB Y A i) y ka kc (by rfl) (by rfl) H4.out.1.own hs4 (heap_alloc_new w3 _) (by omega) ?_
          intro v' w6 hown' hgrow hloc
          obtain ⟨va', vc', rfl⟩ : ∃ va' vc', v' = .slice va' (i + 1) vc' := by
            rcases hown'.2 with ⟨_, e⟩ | ⟨g, c, cur, e, _⟩
            · simp at e
            · exact ⟨_, _, e⟩
          obtain ⟨⟨c6, f6⟩, hT6, S6, hS6, hS7⟩ := H4.out.1.push hown' hgrow hloc H4.out.2.2.1 H4.out.2.2.2 hy hwr hrb
          have HN : Hid (DcR w (w6.setCell ⟨C, 0, none⟩ (.slice va' (i + 1) vc')) C (.slice va' (i + 1) vc') (fun j => if j = i then y else Y j) (fun j => if j = i then (ka, kc) else A j) (i + 1) ∧ At X n m (i + 1) (fun j => if j = i then y else Y j) (w6.setCell ⟨C, 0, none⟩ (.slice va' (i + 1) vc')) rb) := ⟨hT6, H4.out.2.1.frm hS6 hS7⟩
          clear hown' hgrow hloc hT6 hS6 hS7 H4
          refine hK.out _ _ trivial (fun _ => ?_)
          clear hK K
          try simp only [Act.put, List.setIfInBounds_toArray, List.set_cons_zero, List.set_cons_succ]
          refine wpAnyH_take (i := 6) (oi := { dst := some 18, op := Go.Op.fieldAddr 30 (Go.Operand.tmp 5) 0, type := 0, pos := "cond.go:107", after := #[{ on := 0, ground := Go.Ground.phase }, { on := 1, ground := Go.Ground.phase }, { on := 2, ground := Go.Ground.phase }, { on := 3, ground := Go.Ground.phase }, { on := 4, ground := Go.Ground.phase }, { on := 5, ground := Go.Ground.phase }], guard := none }) (v := ?_) rfl (by kernel_rfl) (by kernel_rfl) (by kernel_rfl) (fun _ _ _ h => h) (Or.inl ⟨by rfl, ?_⟩) (by assumption) ?_
          rotate_left
          · intro wz hSw; (try dsimp only at hSw); go_simp; (try with_reducible rfl)
          try simp only [Act.put, List.setIfInBounds_toArray, List.set_cons_zero, List.set_cons_succ]
          refine wpAnyH_ready (rs := [7]) (by kernel_rfl) (by simp) ?_
          refine (AllReadyH.cons (o := { dst := none, op := Go.Op.store 28 (Go.Operand.tmp 18) (Go.Operand.tmp 17), type := 0, pos := "cond.go:107", after := #[{ on := 6, ground := Go.Ground.data }, { on := 5, ground := Go.Ground.data }, { on := 5, ground := Go.Ground.chain }, { on := 0, ground := Go.Ground.phase }, { on := 1, ground := Go.Ground.phase }, { on := 2, ground := Go.Ground.phase }, { on := 3, ground := Go.Ground.phase }, { on := 4, ground := Go.Ground.phase }, { on := 5, ground := Go.Ground.phase }], guard := none }) rfl (fun K hK => ?_) AllReadyH.nil)
          go_simp
          refine hK.out _ _ trivial (fun _ => ?_)
          clear hK K
          try simp only [Act.put, List.setIfInBounds_toArray, List.set_cons_zero, List.set_cons_succ]
          refine wpAnyH_done (by kernel_rfl) (NoPanic.normal ?_) _
          try simp only [Act.put, List.setIfInBounds_toArray, List.set_cons_zero, List.set_cons_succ]
          clear hHeld c6 f6
          go_wp2
          go_roundw
          case rel => exact ⟨i + 1, _, _, _, by omega, by go_num, HN.out.1, HN.out.2⟩
          case measure => simp [intOf]; omega
        ·
          refine step_sliceB rfl (.tmp 15) rfl y ka kc (by rfl) ?_
          refine hK.out _ _ trivial (fun _ => ?_)
          clear hK K
          try simp only [Act.put, List.setIfInBounds_toArray, List.set_cons_zero, List.set_cons_succ]
          refine wpAnyH_ready (rs := [1]) (by kernel_rfl) (by simp) ?_
          refine (AllReadyH.cons (o := { dst := some 13, op := Go.Op.load 28 (Go.Operand.tmp 12), type := 28, pos := "cond.go:107", after := #[{ on := 0, ground := Go.Ground.data }], guard := none }) rfl (fun K hK => ?_) AllReadyH.nil)
          go_simp
          refine hK.out _ _ trivial (fun _ => ?_)
          clear hK K
          try simp only [Act.put, List.setIfInBounds_toArray, List.set_cons_zero, List.set_cons_succ]
          refine wpAnyH_ready (rs := [5]) (by kernel_rfl) (by simp) ?_
          refine (AllReadyH.cons (o := { dst := some 17, op := Go.Op.call { callee := Go.Callee.builtin Go.Builtin.append, args := #[Go.Operand.tmp 13, Go.Operand.tmp 16], argTypes := #[28, 28] }, type := 28, pos := "cond.go:107", after := #[{ on := 1, ground := Go.Ground.data }, { on := 4, ground := Go.Ground.data }, { on := 3, ground := Go.Ground.chain }], guard := none }) rfl (fun K hK => ?_) AllReadyH.nil)
          refine step_append_Br rfl (.tmp 13) (.tmp 16) rfl (C + 1) w3.heap.size v i (flatB Y A i) y ka kc (by rfl) (by rfl) H4.out.1.own hs4 (heap_alloc_new w3 _) (by omega) ?_
          intro v' w6 hown' hgrow hloc
          obtain ⟨va', vc', rfl⟩ : ∃ va' vc', v' = .slice va' (i + 1) vc' := by
            rcases hown'.2 with ⟨_, e⟩ | ⟨g, c, cur, e, _⟩
            · simp at e
            · exact ⟨_, _, e⟩
          obtain ⟨⟨c6, f6⟩, hT6, S6, hS6, hS7⟩ := H4.out.1.push hown' hgrow hloc H4.out.2.2.1 H4.out.2.2.2 hy hwr hrb
          have HN : Hid (DcR w (w6.setCell ⟨C, 0, none⟩ (.slice va' (i + 1) vc')) C (.slice va' (i + 1) vc') (fun j => if j = i then y else Y j) (fun j => if j = i then (ka, kc) else A j) (i + 1) ∧ At X n m (i + 1) (fun j => if j = i then y else Y j) (w6.setCell ⟨C, 0, none⟩ (.slice va' (i + 1) vc')) rb) := ⟨hT6, H4.out.2.1.frm hS6 hS7⟩
          clear hown' hgrow hloc hT6 hS6 hS7 H4
          refine hK.out _ _ trivial (fun _ => ?_)
          clear hK K
          try simp only [Act.put, List.setIfInBounds_toArray, List.set_cons_zero, List.set_cons_succ]
          refine wpAnyH_take (i := 6) (oi := { dst := some 18, op := Go.Op.fieldAddr 30 (Go.Operand.tmp 5) 0, type := 0, pos := "cond.go:107", after := #[{ on := 0, ground := Go.Ground.phase }, { on := 1, ground := Go.Ground.phase }, { on := 2, ground := Go.Ground.phase }, { on := 3, ground := Go.Ground.phase }, { on := 4, ground := Go.Ground.phase }, { on := 5, ground := Go.Ground.phase }], guard := none }) (v := ?_) rfl (by kernel_rfl) (by kernel_rfl) (by kernel_rfl) (fun _ _ _ h => h) (Or.inl ⟨by rfl, ?_⟩) (by assumption) ?_
          rotate_left
          · intro wz hSw; (try dsimp only at hSw); go_simp; (try with_reducible rfl)
          try simp only [Act.put, List.setIfInBounds_toArray, List.set_cons_zero, List.set_cons_succ]
          refine wpAnyH_ready (rs := [7]) (by kernel_rfl) (by simp) ?_
          refine (AllReadyH.cons (o := { dst := none, op := Go.Op.store 28 (Go.Operand.tmp 18) (Go.Operand.tmp 17), type := 0, pos := "cond.go:107", after := #[{ on := 6, ground := Go.Ground.data }, { on := 5, ground := Go.Ground.data }, { on := 5, ground := Go.Ground.chain }, { on := 0, ground := Go.Ground.phase }, { on := 1, ground := Go.Ground.phase }, { on := 2, ground := Go.Ground.phase }, { on := 3, ground := Go.Ground.phase }, { on := 4, ground := Go.Ground.phase }, { on := 5, ground := Go.Ground.phase }], guard := none }) rfl (fun K hK => ?_) AllReadyH.nil)
          go_simp
          refine hK.out _ _ trivial (fun _ => ?_)
          clear hK K
          try simp only [Act.put, List.setIfInBounds_toArray, List.set_cons_zero, List.set_cons_succ]
          refine wpAnyH_done (by kernel_rfl) (NoPanic.normal ?_) _
          try simp only [Act.put, List.setIfInBounds_toArray, List.set_cons_zero, List.set_cons_succ]
          clear hHeld c6 f6
          go_wp2
          go_roundw
          case rel => exact ⟨i + 1, _, _, _, by omega, by go_num, HN.out.1, HN.out.2⟩
          case measure => simp [intOf]; omega
    · obtain rfl : i = m := by omega
      have hnn : ¬ ((i : Int) < i) := by omega
      go_wp2_with fail
      have hD := HT.out.1
      have hc := hD.cell
      have hres : wr.cell? ⟨w.heap.size, 0, none⟩ = some (.slice none 0 0) := by rw [cell_of_row wr _ 0 _ _ _ hD.res]; rfl
      have fres : wr.frozen? ⟨w.heap.size, 0, none⟩ = false := frozen_of_row wr _ 0 _ _ hD.res
      rcases HT.out.2 with ⟨hin, h8, hall, hR⟩ | ⟨hno, hR⟩
      · subst hin
        rw [Nat.sub_self] at hR
        have hok : ∀ j, j < i → (Y j).Ok := fun j hj => alike_ok (hall j hj).2 (hX j hj)
        obtain ⟨va, vc, rfl, hBr⟩ := hD.brAt (w' := wr) hok (fun _ _ _ => rfl)
        have hy : ∀ j, j < i → (Y j).n ≤ 1000000 := fun j hj => by have := hD.small j hj; omega
        have hcok : COk Y i ↔ COk X i := by
          have := (alike_brs i (fun j hj => (hall j hj).2)).2
          unfold COk
          rw [this]
        have HB : Hid (DcR w wr C (.slice va i vc) Y A i ∧ BrAt wr va i Y ∧ (∀ j, j < i → Alike (Y j) (X j))) := ⟨hD, hBr, fun j hj => (hall j hj).2⟩
        clear hD hall hBr hok HT
        refine (done_rs rb _ wr hR).mono ?_
        rintro e w5 ⟨er, rfl, her, rfl⟩
        obtain rfl : er = 0 := her.2 rfl
        clear her hR
        rw [errV_0]
        go_wp2_with fail
        refine (check_any va i vc Y w5 HB.out.2.1 (by omega) hy).mono ?_
        rintro e w6 ⟨rfl, hb6⟩
        have hc6 : w6.cell? ⟨C, 0, none⟩ = some (.slice va i vc) := by rw [hb6.cell (p := ⟨C, 0, none⟩) (World.block_lt_of_cell? w5 ⟨C, 0, none⟩ hc)]; exact hc
        have hr6 : w6.heap[w.heap.size]? = some (.cells #[.slice none 0 0] 30 (0, 0)) := by rw [hb6.block _ (lt_of_block HB.out.1.res)]; exact HB.out.1.res
        have cr6 : w6.cell? ⟨w.heap.size, 0, none⟩ = some (.slice none 0 0) := by rw [cell_of_row w6 _ 0 _ _ _ hr6]; rfl
        have fr6 : w6.frozen? ⟨w.heap.size, 0, none⟩ = false := frozen_of_row w6 _ 0 _ _ hr6
        have hbw : Below w.heap.size w w6 := HB.out.1.below.trans (hb6.mono HB.out.1.below.size)
        by_cases hk : COk X i
        · have hz : chkE Y i = 0 := if_pos (hcok.2 hk)
          rw [hz, errV_0]
          have hset : (w6.setCell ⟨w.heap.size, 0, none⟩ (.slice va i vc)).heap[w.heap.size]? = some (.cells #[.slice va i vc] 30 (0, 0)) := heap_setCell_same w6 _ 0 _ _ _ hr6
          have hfs : Frm [w.heap.size] w6 (w6.setCell ⟨w.heap.size, 0, none⟩ (.slice va i vc)) := (Frm.refl _ w6).setCell _ _ (by simp)
          have HE : Hid ((w6.setCell ⟨w.heap.size, 0, none⟩ (.slice va i vc)).heap[w.heap.size]? = some (.cells #[.slice va i vc] 30 (0, 0)) ∧ BrAt (w6.setCell ⟨w.heap.size, 0, none⟩ (.slice va i vc)) va i Y ∧ Below w.heap.size w (w6.setCell ⟨w.heap.size, 0, none⟩ (.slice va i vc))) := by
            refine ⟨hset, ?_, hbw.setCell (Nat.le_refl _) _⟩
            obtain ⟨va2, vc2, e2, hb2⟩ := HB.out.1.brAt (w' := w6.setCell ⟨w.heap.size, 0, none⟩ (.slice va i vc)) HB.out.2.1.ok (fun k hk hk2 => by rw [Below.heap_setCell _ _ _ _ (by show k ≠ w.heap.size; omega)]; exact hb6.block k hk2)
            cases e2; exact hb2
          clear hset hfs hr6 hbw
          go_wp2
          exact bodyPost_ret (results_C2 Tryz.results7 _ _ w.heap.size 30 (.slice va i vc) (0, 0) rfl HE.out.1) rfl ⟨.inl ⟨hk, va, vc, Y, rfl, HE.out.2.1, HB.out.2.2⟩, HE.out.2.2⟩
        · have hz : chkE Y i = 1 := if_neg (fun h => hk (hcok.1 h))
          rw [hz, errV_ne (by omega)]
          have hset : (w6.setCell ⟨w.heap.size, 0, none⟩ (.slice none 0 0)).heap[w.heap.size]? = some (.cells #[.slice none 0 0] 30 (0, 0)) := heap_setCell_same w6 _ 0 _ _ _ hr6
          have HE : Hid ((w6.setCell ⟨w.heap.size, 0, none⟩ (.slice none 0 0)).heap[w.heap.size]? = some (.cells #[.slice none 0 0] 30 (0, 0)) ∧ Below w.heap.size w (w6.setCell ⟨w.heap.size, 0, none⟩ (.slice none 0 0))) := ⟨hset, hbw.setCell (Nat.le_refl _) _⟩
          clear hset hr6 hbw
          go_wp2
          exact bodyPost_ret (results_C2 Tryz.results7 _ _ w.heap.size 30 (.slice none 0 0) (0, 0) rfl HE.out.1) rfl ⟨.inr ⟨hk, rfl⟩, HE.out.2⟩
      · refine (done_rs rb _ wr hR).mono ?_
        rintro e w5 ⟨er, rfl, her, rfl⟩
        have her0 : er ≠ 0 := fun h => by cases her.1 h
        rw [errV_ne her0]
        have hset : (w5.setCell ⟨w.heap.size, 0, none⟩ (.slice none 0 0)).heap[w.heap.size]? = some (.cells #[.slice none 0 0] 30 (0, 0)) := heap_setCell_same w5 _ 0 _ _ _ hD.res
        have HE : Hid ((w5.setCell ⟨w.heap.size, 0, none⟩ (.slice none 0 0)).heap[w.heap.size]? = some (.cells #[.slice none 0 0] 30 (0, 0)) ∧ Below w.heap.size w (w5.setCell ⟨w.heap.size, 0, none⟩ (.slice none 0 0))) := ⟨hset, hD.below.setCell (Nat.le_refl _) _⟩
        clear hset hD hR HT
        go_wp2
        exact bodyPost_ret (results_C2 Tryz.results7 _ _ w.heap.size 30 (.slice none 0 0) (0, 0) rfl HE.out.1) rfl ⟨.inr ⟨hno, rfl⟩, HE.out.2⟩
end Go.Proofs.YtfdcpbolofkopaaGreatDoor
