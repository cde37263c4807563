/- The document's Put. -/
import Derived.Test.YtjnepkggdkccaaaGreatDoorOwnShelf38
import Derived.Test.YtjnepkggdkccaaaGreatDoorOwnShelf36
import Derived.Test.YtjnepkggdkccaaaGreatDoorOwnShelf18
namespace Go.Proofs.YtjnepkggdkccaaaGreatDoor.Cd
open Go.RowKit

theorem refUint_ow (W0 w : World) (v : Value) (L : List Int) (n : Int) (h : Ow W0 w v L) (hl : L.length + 64 ≤ 140737488351232) :
    Calls Tryz.prog 99 #[v, .int .u64 (u64 n)] w fun e w' => ∃ v', e = .returned v' ∧ Ow W0 w' v' (L ++ uB (u64 n)) ∧ Below w.heap.size w w' := by
  obtain ⟨ad, cp, rfl⟩ := h.form
  obtain ⟨_, hs, hn, _, _⟩ := h.fresh
  have hb := u64_bd n
  refine (refUint_any ad L cp (u64 n) w hs hn hl hb.1 hb.2).mono ?_
  rintro e w' ⟨v', rfl, hO⟩
  exact ⟨v', rfl, hO.mono h.below, hO.below⟩
theorem refHash_ow (W0 w : World) (v : Value) (L : List Int) (z : Nat → Int) (h : Ow W0 w v L) (hl : L.length + 64 ≤ 140737488351232) (hz : Zb z) :
    Calls Tryz.prog 100 #[v, .agg (hv z)] w fun e w' => ∃ v', e = .returned v' ∧ Ow W0 w' v' (L ++ hB z) ∧ Below w.heap.size w w' := by
  obtain ⟨ad, cp, rfl⟩ := h.form
  obtain ⟨_, hs, hn, _, _⟩ := h.fresh
  refine (refHash_any ad L cp z w hs hn hl hz).mono ?_
  rintro e w' ⟨v', rfl, hO⟩
  exact ⟨v', rfl, hO.mono h.below, hO.below⟩
theorem _root_.Go.Proofs.YtjnepkggdkccaaaGreatDoor.Ow.keep {w0 w w' : World} {v : Value} {L : List Int} (h : Ow w0 w v L) (hb : Below w.heap.size w w') : Ow w0 w' v L := by
  refine ⟨⟨h.own.1, ?_⟩, h.below.trans (hb.mono h.below.size), h.bd⟩
  rcases h.own.2 with hn | ⟨g, cap, cur, e, hbs, hg, rest⟩
  · exact .inl hn
  · exact .inr ⟨g, cap, cur, e, hbs, by rw [hb.block _ (lt_of_block hg)]; exact hg, rest⟩
theorem laidK_one (n : Int) : laidK (fun _ => n) 1 = uB (u64 n) := by simp [laidK]
theorem laidK_two (z : Nat → Int) : laidK z 2 = uB (u64 (z 0)) ++ uB (u64 (z 1)) := by simp [laidK]

set_option maxRecDepth 100000 in
set_option maxHeartbeats 3200000 in
theorem rput_any (bd : Option Addr) (lb : List Int) (bc : Nat) (ad : Option Addr) (n cap : Nat) (X : Nat → Bv) (w : World) (hs : SlAt w bd lb.length (fn lb)) (hnil : bd = none → lb.length = 0 ∧ bc = 0) (h : BrAt w ad n X) (hn : n ≤ 1000) (hx : ∀ i, i < n → (X i).n ≤ 1000000) (hlb : lb.length ≤ 70368744177664) :
    Calls Tryz.prog 102 #[.slice bd lb.length bc, .agg #[.slice ad n cap]] w fun e w' => ∃ v, e = .returned v ∧ Ow w w' v (lb ++ laidC X n) := by
  have hb0 : Below w.heap.size w (w.alloc (.cells #[.slice ad n cap] 122)) := (Below.refl _ w).alloc (Nat.le_refl _) _
  have hc0 : (w.alloc (.cells #[.slice ad n cap] 122)).cell? ⟨w.heap.size, 0, none⟩ = some (.slice ad n cap) := by simp
  have HS : Hid (SlAt (w.alloc (.cells #[.slice ad n cap] 122)) bd lb.length (fn lb) ∧ (bd = none → lb.length = 0 ∧ bc = 0)) := ⟨hs.below hb0, hnil⟩
  have HB : Hid (BrAt (w.alloc (.cells #[.slice ad n cap] 122)) ad n X) := h.below hb0
  clear hs hnil h
  go_enter Tryz.func102, Tryz.ntmps102
  go_wp2_with fail
  generalize w.alloc (.cells #[.slice ad n cap] 122) = W0 at *
  have hp0 := World.block_lt_of_cell? W0 ⟨w.heap.size, 0, none⟩ hc0
  have S1 : W0.drew.cell? ⟨w.heap.size, 0, none⟩ = some (.slice ad n cap) := hc0
  have hsrc : BSrc W0.drew (.slice bd lb.length bc) lb := SlAt.src (HS.out.1.below (Below.refl _ W0).drew) HS.out.2
  have hy := bd_of HS.out.1
  refine wp_region_noPanic ?_
  refine wp_region_held_drew (S := fun w' => w'.cell? ⟨w.heap.size, 0, none⟩ = some (.slice ad n cap)) (by kernel_rfl) S1 (fun hHeld => ?_)
  have ew : IntKind.u64.wrap (n : Int) = n := u64_nat n (by omega)
  refine wpAnyH_take (i := 0) (oi := { dst := some 9, op := Go.Op.move (Go.Operand.tmp 5), type := 33, pos := "ref.go:110", after := #[], guard := none }) (v := ?_) rfl (by kernel_rfl) (by kernel_rfl) (by kernel_rfl) (fun _ _ _ h => h) (Or.inl ⟨by rfl, ?_⟩) (by assumption) ?_
  rotate_left
  · intro wz hSw; (try dsimp only at hSw); go_simp; (try with_reducible rfl)
  try simp only [Act.put, List.setIfInBounds_toArray, List.set_cons_zero, List.set_cons_succ]
  refine wpAnyH_take (i := 1) (oi := { dst := some 10, op := Go.Op.move (Go.Operand.tmp 0), type := 33, pos := "ref.go:110", after := #[], guard := none }) (v := ?_) rfl (by kernel_rfl) (by kernel_rfl) (by kernel_rfl) (fun _ _ _ h => h) (Or.inl ⟨by rfl, ?_⟩) (by assumption) ?_
  rotate_left
  · intro wz hSw; (try dsimp only at hSw); go_simp; (try with_reducible rfl)
  try simp only [Act.put, List.setIfInBounds_toArray, List.set_cons_zero, List.set_cons_succ]
  refine wpAnyH_take (i := 3) (oi := { dst := some 12, op := Go.Op.fieldAddr 122 (Go.Operand.tmp 3) 0, type := 0, pos := "ref.go:110", after := #[], guard := none }) (v := ?_) rfl (by kernel_rfl) (by kernel_rfl) (by kernel_rfl) (fun _ _ _ h => h) (Or.inl ⟨by rfl, ?_⟩) (by assumption) ?_
  rotate_left
  · intro wz hSw; (try dsimp only at hSw); go_simp; (try with_reducible rfl)
  try simp only [Act.put, List.setIfInBounds_toArray, List.set_cons_zero, List.set_cons_succ]
  refine wpAnyH_take (i := 4) (oi := { dst := some 13, op := Go.Op.load 120 (Go.Operand.tmp 12), type := 120, pos := "ref.go:110", after := #[{ on := 3, ground := Go.Ground.data }], guard := none }) (v := ?_) rfl (by kernel_rfl) (by kernel_rfl) (by kernel_rfl) (fun _ _ _ h => h) (Or.inl ⟨by rfl, ?_⟩) (by assumption) ?_
  rotate_left
  · intro wz hSw; (try dsimp only at hSw); go_simp; (try with_reducible rfl)
  try simp only [Act.put, List.setIfInBounds_toArray, List.set_cons_zero, List.set_cons_succ]
  refine wpAnyH_take (i := 5) (oi := { dst := some 14, op := Go.Op.call { callee := Go.Callee.builtin Go.Builtin.len, args := #[Go.Operand.tmp 13], argTypes := #[120] }, type := 3, pos := "ref.go:110", after := #[{ on := 4, ground := Go.Ground.data }], guard := none }) (v := ?_) rfl (by kernel_rfl) (by kernel_rfl) (by kernel_rfl) (fun _ _ _ h => h) (Or.inl ⟨by rfl, ?_⟩) (by assumption) ?_
  rotate_left
  · intro wz hSw; (try dsimp only at hSw); go_simp; (try with_reducible rfl)
  try simp only [Act.put, List.setIfInBounds_toArray, List.set_cons_zero, List.set_cons_succ]
  refine wpAnyH_take (i := 6) (oi := { dst := some 15, op := Go.Op.convert 3 203 (Go.Operand.tmp 14), type := 203, pos := "ref.go:110", after := #[{ on := 5, ground := Go.Ground.data }], guard := none }) (v := .int .u64 (n : Int)) rfl (by kernel_rfl) (by kernel_rfl) (by kernel_rfl) (fun _ _ _ h => h) (Or.inl ⟨by rfl, ?_⟩) (by assumption) ?_
  · intro wz hSw; (try dsimp only at hSw); go_simp; try (rw [ew]); try rfl
  try simp only [Act.put, List.setIfInBounds_toArray, List.set_cons_zero, List.set_cons_succ]
  refine wpAnyH_ready (rs := [2]) (by kernel_rfl) (by simp) ?_
  refine (AllReadyH.cons (o := { dst := some 11, op := Go.Op.call { callee := Go.Callee.builtin Go.Builtin.append, args := #[Go.Operand.tmp 9, Go.Operand.tmp 10], argTypes := #[33, 33] }, type := 33, pos := "ref.go:110", after := #[{ on := 0, ground := Go.Ground.data }, { on := 1, ground := Go.Ground.data }], guard := none }) rfl (fun K hK => ?_) AllReadyH.nil)
  refine step_append_B rfl (.tmp 9) (.tmp 10) rfl W0.drew _ _ [] lb (by rfl) (by rfl) (Ow.nil _) hsrc hy (by simp; omega) ?_
  intro v1 w1 hO1
  have hO1' : Ow W0 w1 v1 lb := by simpa using hO1.mono (Below.refl _ W0).drew
  have S2 : w1.cell? ⟨w.heap.size, 0, none⟩ = some (.slice ad n cap) := by rw [hO1'.below.cell (p := ⟨w.heap.size, 0, none⟩) hp0]; exact hc0
  have HO1 : Hid (Ow W0 w1 v1 lb) := hO1'
  clear hO1 hO1' hsrc hy S1
  refine hK.out _ _ S2 (fun _ => ?_)
  clear hK K
  refine wpAnyH_ready (rs := [7]) (by kernel_rfl) (by simp) ?_
  refine (AllReadyH.cons (o := { dst := some 16, op := Go.Op.call { callee := Go.Callee.value (Go.Operand.func 99), args := #[Go.Operand.tmp 11, Go.Operand.tmp 15], argTypes := #[33, 203] }, type := 33, pos := "ref.go:110", after := #[{ on := 2, ground := Go.Ground.data }, { on := 6, ground := Go.Ground.data }, { on := 2, ground := Go.Ground.chain }], guard := none }) rfl (fun K hK => ?_) AllReadyH.nil)
  go_simp
  have hcall := refUint_ow W0 w1 v1 lb n HO1.out (by omega)
  have en0 := u64_nat n (by omega)
  rw [en0] at hcall
  refine hcall.mono ?_
  rintro e w2 ⟨v2, rfl, hO2, hb2⟩
  have S3 : w2.cell? ⟨w.heap.size, 0, none⟩ = some (.slice ad n cap) := by rw [hO2.below.cell (p := ⟨w.heap.size, 0, none⟩) hp0]; exact hc0
  have HO2 : Hid (Ow W0 w2 v2 (lb ++ (laidK (fun _ => (n : Int)) 1 ++ laidBrs X 0))) := by
    show Ow _ _ _ _
    rw [laidK_one, en0]
    simpa [laidBrs] using hO2
  clear hcall hO2 hb2 HO1 S2 ew en0
  refine hK.out _ _ S3 (fun _ => ?_)
  clear hK K
  refine wpAnyH_take (i := 8) (oi := { dst := some 5, op := Go.Op.assign (Go.Operand.tmp 16), type := 33, pos := "ref.go:110", after := #[{ on := 7, ground := Go.Ground.data }, { on := 7, ground := Go.Ground.chain }, { on := 0, ground := Go.Ground.phase }, { on := 1, ground := Go.Ground.phase }, { on := 2, ground := Go.Ground.phase }, { on := 3, ground := Go.Ground.phase }, { on := 4, ground := Go.Ground.phase }, { on := 5, ground := Go.Ground.phase }, { on := 6, ground := Go.Ground.phase }, { on := 7, ground := Go.Ground.phase }], guard := none }) (v := ?_) rfl (by kernel_rfl) (by kernel_rfl) (by kernel_rfl) (fun _ _ _ h => h) (Or.inl ⟨by rfl, ?_⟩) (by assumption) ?_
  rotate_left
  · intro wz hSw; (try dsimp only at hSw); go_simp; (try with_reducible rfl)
  try simp only [Act.put, List.setIfInBounds_toArray, List.set_cons_zero, List.set_cons_succ]
  refine wpAnyH_done (by kernel_rfl) (NoPanic.normal ?_) _
  try simp only [Act.put, List.setIfInBounds_toArray, List.set_cons_zero, List.set_cons_succ]
  clear hHeld
  go_wp2
  have hO2 := HO2.out
  go_loopw [5, 6, 7, 8] (fun sv iv _ _ wr => ∃ (i : Nat) (v : Value), i ≤ n ∧ v = sv ∧ iv = .int .i64 i ∧ Ow W0 wr v (lb ++ (laidK (fun _ => (n : Int)) 1 ++ laidBrs X i))) (fun _ iv _ _ _ => n + 1 - (intOf iv).toNat)
  case atStart => exact ⟨0, _, by omega, rfl, rfl, hO2⟩
  case round =>
    clear hO2 HO2 S3
    obtain ⟨i, v, hi, rfl, rfl, hO⟩ := hrel
    have HO : Hid (Ow W0 wr v (lb ++ (laidK (fun _ => (n : Int)) 1 ++ laidBrs X i))) := hO
    have cb : wr.cell? ⟨w.heap.size, 0, none⟩ = some (.slice ad n cap) := by rw [hO.below.cell (p := ⟨w.heap.size, 0, none⟩) hp0]; exact hc0
    have hLn : (lb ++ (laidK (fun _ => (n : Int)) 1 ++ laidBrs X i)).length ≤ 70368744177664 + 9000100 * 1000 + 9 := by
      have h1 := laidK_len (fun _ => (n : Int)) 1
      have h2 := laidBrs_len X i (fun j hj => hx j (by omega))
      simp only [List.length_append]
      omega
    clear hO
    by_cases hlt : i < n
    · have hlt' : (i : Int) < n := by omega
      obtain ⟨b, off, rfl, hc⟩ := HB.out.at_ (by omega)
      obtain ⟨ka, kc, hr0, hI0⟩ := hc i hlt
      have hxi := hx i hlt
      have hok := HB.out.ok i hlt
      have HR : Hid (wr.rangeAt b (off + i * 35) (brl (X i) ka kc)) := range_below hr0 HO.out.below
      have HI : Hid (IsAt W0 ka (X i).n (X i).z) := hI0
      obtain ⟨L, hL⟩ : ∃ L, L = lb ++ (laidK (fun _ => (n : Int)) 1 ++ laidBrs X i) := ⟨_, rfl⟩
      rw [← hL] at HO hLn
      have HS1 : Hid (∀ w' : World, w'.heap[wr.heap.size]? = some (.cells (bv (X i) ka kc) 126 (0, 0)) → Frm [wr.heap.size] (wr.alloc (.cells (bv b0 none 0) 126)) w' → Ow W0 w' v L) := by
        intro w' h1 h2
        have h3 : Below wr.heap.size (wr.alloc (.cells (bv b0 none 0) 126)) w' := h2.below (by simp) (by simp)
        exact HO.out.keep (((Below.refl _ wr).alloc (Nat.le_refl _) _).trans h3)
      clear hc hr0 hI0
      go_wp2_with (first | (refine wpList_load_mid rfl 126 _ rfl b (off + i * 35) rfl (brl (X i) ka kc) _ HR.out Tryz.underlying126 rfl (szRl _ _ _) ?_) | (refine wpList_allocR rfl rfl ?_) | (refine wpList_storeR _ szR rfl _ _ rfl wr.heap.size rfl (X i) b0 ka none kc 0 126 rfl (heap_alloc_new wr _) ?_; intro w3 hg3 hf3; have HO3 : Hid (Ow W0 w3 v L ∧ w3.heap[wr.heap.size]? = some (.cells (bv (X i) ka kc) 126 (0, 0))) := ⟨HS1.out w3 hg3 hf3, hg3⟩; obtain ⟨c30, c333, c334⟩ := bbox_of hg3; clear hg3 hf3) | fail)
      have hcall := refUint_ow W0 w3 v L (X i).n HO3.out.1 (by omega)
      have en := u64_nat (X i).n (by omega)
      rw [en] at hcall
      refine hcall.mono ?_
      rintro e w4 ⟨v4, rfl, hO4, hb4⟩
      have l4 := laidK_len (fun _ => ((X i).n : Int)) 1
      obtain ⟨L4, hL4⟩ : ∃ L4, L4 = L ++ laidK (fun _ => ((X i).n : Int)) 1 := ⟨_, rfl⟩
      have e4 : L ++ uB ((X i).n : Int) = L4 := by rw [hL4, laidK_one, en]
      rw [e4] at hO4
      have hLn4 : L4.length ≤ 70368744177664 + 9000100 * 1000 + 18 := by rw [hL4]; simp only [List.length_append]; omega
      have hg4 : w4.heap[wr.heap.size]? = some (.cells (bv (X i) ka kc) 126 (0, 0)) := by rw [hb4.block _ (lt_of_block HO3.out.2)]; exact HO3.out.2
      have HO4 : Hid (Ow W0 w4 v4 L4 ∧ w4.heap[wr.heap.size]? = some (.cells (bv (X i) ka kc) 126 (0, 0))) := ⟨hO4, hg4⟩
      have hl4 := lt_of_block hg4
      clear hcall e4 hO4 hb4 hg4 HO3 c30 c333 c334 en
      go_wp2_with fail
      have hO4 : Ow W0 w4 v4 (L4 ++ laidK (X i).z 0) ∧ Below w4.heap.size w4 w4 := ⟨by simpa [laidK] using HO4.out.1, Below.refl _ _⟩
      go_loopw [5, 8] (fun sv kv wq => ∃ (k : Nat) (vq : Value), k ≤ (X i).n ∧ vq = sv ∧ kv = .int .i64 k ∧ Ow W0 wq vq (L4 ++ laidK (X i).z k) ∧ Below w4.heap.size w4 wq) (fun _ kv _ => (X i).n + 1 - (intOf kv).toNat)
      case atStart => exact ⟨0, _, by omega, rfl, rfl, hO4⟩
      case round =>
        clear hO4
        rename World => wq
        obtain ⟨k, vq, hk, rfl, rfl, hOq, hbq⟩ := hrel
        have hgq : wq.heap[wr.heap.size]? = some (.cells (bv (X i) ka kc) 126 (0, 0)) := by rw [hbq.block _ hl4]; exact HO4.out.2
        have cq := (bbox_of hgq).c0
        have lq := laidK_len (X i).z k
        have HOq : Hid (Ow W0 wq vq (L4 ++ laidK (X i).z k) ∧ Below w4.heap.size w4 wq ∧ wq.heap[wr.heap.size]? = some (.cells (bv (X i) ka kc) 126 (0, 0))) := ⟨hOq, hbq, hgq⟩
        clear hOq hbq hgq
        by_cases hkl : k < (X i).n
        · have hkl' : (k : Int) < (X i).n := by omega
          obtain ⟨b2, off2, rfl, hc2⟩ := (HI.out.below HOq.out.1.below) (by omega)
          have hck := hc2 k hkl
          have hcall := refUint_ow W0 wq vq (L4 ++ laidK (X i).z k) ((X i).z k) HOq.out.1 (by simp only [List.length_append]; omega)
          unfold u64 at hcall
          clear hc2
          go_wp2_with (go_at_call 99; refine hcall.mono ?_; rintro e w5 ⟨v5, rfl, hO5, hb5⟩)
          have HN : Hid (Ow W0 w5 v5 (L4 ++ laidK (X i).z (k + 1)) ∧ Below w4.heap.size w4 w5) := ⟨by
            have := hO5
            rw [List.append_assoc] at this
            exact this, HOq.out.2.1.trans (hb5.mono HOq.out.2.1.size)⟩
          clear hO5 hb5 hcall
          go_roundw
          case rel => exact ⟨k + 1, v5, by omega, rfl, by go_num, HN.out⟩
          case measure => simp [intOf]; omega
        · obtain rfl : k = (X i).n := by omega
          have hnn : ¬ (((X i).n : Int) < (X i).n) := by omega
          go_wp2_with fail
          have hq : wq.drew.heap[wr.heap.size]? = some (.cells (bv (X i) ka kc) 126 (0, 0)) := HOq.out.2.2
          have Hq : Hid (Ow W0 wq.drew vq (L4 ++ laidK (X i).z (X i).n) ∧ wq.drew.heap[wr.heap.size]? = some (.cells (bv (X i) ka kc) 126 (0, 0))) := ⟨HOq.out.1.drew, hq⟩
          have S12 : wq.drew.rangeAt wr.heap.size 1 (bl (X i).lk 32) ∧ wq.drew.cell? ⟨wr.heap.size, 33, none⟩ = some (.int .i64 (X i).af) ∧ wq.drew.cell? ⟨wr.heap.size, 34, none⟩ = some (.int .i64 (X i).ol) := ⟨brl_lock (X i) ka kc hq, (bbox_of hq).c33, (bbox_of hq).c34⟩
          have lh := hB_length (X i).lk
          have la := uB_len (u64 (X i).af)
          have ca := u64_bd (X i).af
          clear hq
          refine wp_region_noPanic ?_
          refine wp_region_held_drew (S := fun w' => w'.rangeAt wr.heap.size 1 (bl (X i).lk 32) ∧ w'.cell? ⟨wr.heap.size, 33, none⟩ = some (.int .i64 (X i).af) ∧ w'.cell? ⟨wr.heap.size, 34, none⟩ = some (.int .i64 (X i).ol)) (by kernel_rfl) S12 (fun hHeld => ?_)
          refine wpAnyH_take (i := 0) (oi := { dst := some 50, op := Go.Op.move (Go.Operand.tmp 5), type := 33, pos := "ref.go:117", after := #[], guard := none }) (v := ?_) rfl (by kernel_rfl) (by kernel_rfl) (by kernel_rfl) (fun _ _ _ h => h) (Or.inl ⟨by rfl, ?_⟩) (by assumption) ?_
          rotate_left
          · intro wz hSw; (try dsimp only at hSw); go_simp; (try with_reducible rfl)
          try simp only [Act.put, List.setIfInBounds_toArray, List.set_cons_zero, List.set_cons_succ]
          refine wpAnyH_take (i := 1) (oi := { dst := some 51, op := Go.Op.fieldAddr 126 (Go.Operand.tmp 7) 1, type := 0, pos := "ref.go:117", after := #[], guard := none }) (v := ?_) rfl (by kernel_rfl) (by kernel_rfl) (by kernel_rfl) (fun _ _ _ h => h) (Or.inl ⟨by rfl, ?_⟩) (by assumption) ?_
          rotate_left
          · intro wz hSw; (try dsimp only at hSw); go_simp; (try with_reducible rfl)
          try simp only [Act.put, List.setIfInBounds_toArray, List.set_cons_zero, List.set_cons_succ]
          refine wpAnyH_take (i := 2) (oi := { dst := some 52, op := Go.Op.load 23 (Go.Operand.tmp 51), type := 23, pos := "ref.go:117", after := #[{ on := 1, ground := Go.Ground.data }], guard := none }) rfl (by kernel_rfl) (by kernel_rfl) (by kernel_rfl) (fun _ _ _ h => h) (yieldsIf_load_mid (by rfl) _ _ rfl wr.heap.size 1 rfl (bl (X i).lk 32) _ (fun _ h => h.1) Tryz.underlying23 rfl (szHl _)) (by assumption) ?_
          try simp only [Act.put, List.setIfInBounds_toArray, List.set_cons_zero, List.set_cons_succ]
          refine wpAnyH_take (i := 4) (oi := { dst := some 54, op := Go.Op.fieldAddr 126 (Go.Operand.tmp 7) 2, type := 0, pos := "ref.go:117", after := #[], guard := none }) (v := ?_) rfl (by kernel_rfl) (by kernel_rfl) (by kernel_rfl) (fun _ _ _ h => h) (Or.inl ⟨by rfl, ?_⟩) (by assumption) ?_
          rotate_left
          · intro wz hSw; (try dsimp only at hSw); go_simp; (try with_reducible rfl)
          try simp only [Act.put, List.setIfInBounds_toArray, List.set_cons_zero, List.set_cons_succ]
          refine wpAnyH_take (i := 5) (oi := { dst := some 55, op := Go.Op.load 3 (Go.Operand.tmp 54), type := 3, pos := "ref.go:117", after := #[{ on := 4, ground := Go.Ground.data }], guard := none }) (v := ?_) rfl (by kernel_rfl) (by kernel_rfl) (by kernel_rfl) (fun _ _ _ h => h) (Or.inl ⟨by rfl, ?_⟩) (by assumption) ?_
          rotate_left
          · intro wz hSw; (try dsimp only at hSw); go_simp; (try with_reducible rfl)
          try simp only [Act.put, List.setIfInBounds_toArray, List.set_cons_zero, List.set_cons_succ]
          refine wpAnyH_take (i := 6) (oi := { dst := some 56, op := Go.Op.convert 3 203 (Go.Operand.tmp 55), type := 203, pos := "ref.go:117", after := #[{ on := 5, ground := Go.Ground.data }], guard := none }) (v := ?_) rfl (by kernel_rfl) (by kernel_rfl) (by kernel_rfl) (fun _ _ _ h => h) (Or.inl ⟨by rfl, ?_⟩) (by assumption) ?_
          rotate_left
          · intro wz hSw; (try dsimp only at hSw); go_simp; (try with_reducible rfl)
          try simp only [Act.put, List.setIfInBounds_toArray, List.set_cons_zero, List.set_cons_succ]
          refine wpAnyH_take (i := 8) (oi := { dst := some 58, op := Go.Op.fieldAddr 126 (Go.Operand.tmp 7) 3, type := 0, pos := "ref.go:117", after := #[], guard := none }) (v := ?_) rfl (by kernel_rfl) (by kernel_rfl) (by kernel_rfl) (fun _ _ _ h => h) (Or.inl ⟨by rfl, ?_⟩) (by assumption) ?_
          rotate_left
          · intro wz hSw; (try dsimp only at hSw); go_simp; (try with_reducible rfl)
          try simp only [Act.put, List.setIfInBounds_toArray, List.set_cons_zero, List.set_cons_succ]
          refine wpAnyH_take (i := 9) (oi := { dst := some 59, op := Go.Op.load 3 (Go.Operand.tmp 58), type := 3, pos := "ref.go:117", after := #[{ on := 8, ground := Go.Ground.data }], guard := none }) (v := ?_) rfl (by kernel_rfl) (by kernel_rfl) (by kernel_rfl) (fun _ _ _ h => h) (Or.inl ⟨by rfl, ?_⟩) (by assumption) ?_
          rotate_left
          · intro wz hSw; (try dsimp only at hSw); go_simp; (try with_reducible rfl)
          try simp only [Act.put, List.setIfInBounds_toArray, List.set_cons_zero, List.set_cons_succ]
          refine wpAnyH_take (i := 10) (oi := { dst := some 60, op := Go.Op.convert 3 203 (Go.Operand.tmp 59), type := 203, pos := "ref.go:117", after := #[{ on := 9, ground := Go.Ground.data }], guard := none }) (v := ?_) rfl (by kernel_rfl) (by kernel_rfl) (by kernel_rfl) (fun _ _ _ h => h) (Or.inl ⟨by rfl, ?_⟩) (by assumption) ?_
          rotate_left
          · intro wz hSw; (try dsimp only at hSw); go_simp; (try with_reducible rfl)
          try simp only [Act.put, List.setIfInBounds_toArray, List.set_cons_zero, List.set_cons_succ]
          refine wpAnyH_ready (rs := [3]) (by kernel_rfl) (by simp) ?_
          refine (AllReadyH.cons (o := { dst := some 53, op := Go.Op.call { callee := Go.Callee.value (Go.Operand.func 100), args := #[Go.Operand.tmp 50, Go.Operand.tmp 52], argTypes := #[33, 23] }, type := 33, pos := "ref.go:117", after := #[{ on := 0, ground := Go.Ground.data }, { on := 2, ground := Go.Ground.data }], guard := none }) rfl (fun K hK => ?_) AllReadyH.nil)
          go_simp
          refine (refHash_ow W0 _ vq _ (X i).lk Hq.out.1 (by simp only [List.length_append]; omega) hok.lk).mono ?_
          rintro e w6 ⟨v6, rfl, hO, hb⟩
          have Hw6 : Hid (Ow W0 w6 v6 ((L4 ++ laidK (X i).z (X i).n) ++ hB (X i).lk) ∧ w6.heap[wr.heap.size]? = some (.cells (bv (X i) ka kc) 126 (0, 0))) := ⟨hO, by rw [hb.block _ (lt_of_block Hq.out.2)]; exact Hq.out.2⟩
          clear hO hb Hq
          refine hK.out _ _ ⟨brl_lock (X i) ka kc Hw6.out.2, (bbox_of Hw6.out.2).c33, (bbox_of Hw6.out.2).c34⟩ (fun _ => ?_)
          clear hK K
          refine wpAnyH_ready (rs := [7]) (by kernel_rfl) (by simp) ?_
          refine (AllReadyH.cons (o := { dst := some 57, op := Go.Op.call { callee := Go.Callee.value (Go.Operand.func 99), args := #[Go.Operand.tmp 53, Go.Operand.tmp 56], argTypes := #[33, 203] }, type := 33, pos := "ref.go:117", after := #[{ on := 3, ground := Go.Ground.data }, { on := 6, ground := Go.Ground.data }, { on := 3, ground := Go.Ground.chain }], guard := none }) rfl (fun K hK => ?_) AllReadyH.nil)
          go_simp
          refine (refUint_ow W0 _ v6 _ (X i).af Hw6.out.1 (by simp only [List.length_append]; omega)).mono ?_
          rintro e w7 ⟨v7, rfl, hO, hb⟩
          have Hw7 : Hid (Ow W0 w7 v7 (((L4 ++ laidK (X i).z (X i).n) ++ hB (X i).lk) ++ uB (u64 (X i).af)) ∧ w7.heap[wr.heap.size]? = some (.cells (bv (X i) ka kc) 126 (0, 0))) := ⟨hO, by rw [hb.block _ (lt_of_block Hw6.out.2)]; exact Hw6.out.2⟩
          clear hO hb Hw6
          refine hK.out _ _ ⟨brl_lock (X i) ka kc Hw7.out.2, (bbox_of Hw7.out.2).c33, (bbox_of Hw7.out.2).c34⟩ (fun _ => ?_)
          clear hK K
          refine wpAnyH_ready (rs := [11]) (by kernel_rfl) (by simp) ?_
          refine (AllReadyH.cons (o := { dst := some 61, op := Go.Op.call { callee := Go.Callee.value (Go.Operand.func 99), args := #[Go.Operand.tmp 57, Go.Operand.tmp 60], argTypes := #[33, 203] }, type := 33, pos := "ref.go:117", after := #[{ on := 7, ground := Go.Ground.data }, { on := 10, ground := Go.Ground.data }, { on := 7, ground := Go.Ground.chain }], guard := none }) rfl (fun K hK => ?_) AllReadyH.nil)
          go_simp
          refine (refUint_ow W0 _ v7 _ (X i).ol Hw7.out.1 (by simp only [List.length_append]; omega)).mono ?_
          rintro e w8 ⟨v8, rfl, hO, hb⟩
          have Hw8 : Hid (Ow W0 w8 v8 ((((L4 ++ laidK (X i).z (X i).n) ++ hB (X i).lk) ++ uB (u64 (X i).af)) ++ uB (u64 (X i).ol)) ∧ w8.heap[wr.heap.size]? = some (.cells (bv (X i) ka kc) 126 (0, 0))) := ⟨hO, by rw [hb.block _ (lt_of_block Hw7.out.2)]; exact Hw7.out.2⟩
          clear hO hb Hw7
          refine hK.out _ _ ⟨brl_lock (X i) ka kc Hw8.out.2, (bbox_of Hw8.out.2).c33, (bbox_of Hw8.out.2).c34⟩ (fun _ => ?_)
          clear hK K
          refine wpAnyH_take (i := 12) (oi := { dst := some 5, op := Go.Op.assign (Go.Operand.tmp 61), type := 33, pos := "ref.go:117", after := #[{ on := 11, ground := Go.Ground.data }, { on := 11, ground := Go.Ground.chain }, { on := 0, ground := Go.Ground.phase }, { on := 1, ground := Go.Ground.phase }, { on := 2, ground := Go.Ground.phase }, { on := 3, ground := Go.Ground.phase }, { on := 4, ground := Go.Ground.phase }, { on := 5, ground := Go.Ground.phase }, { on := 6, ground := Go.Ground.phase }, { on := 7, ground := Go.Ground.phase }, { on := 8, ground := Go.Ground.phase }, { on := 9, ground := Go.Ground.phase }, { on := 10, ground := Go.Ground.phase }, { on := 11, ground := Go.Ground.phase }], guard := none }) (v := ?_) rfl (by kernel_rfl) (by kernel_rfl) (by kernel_rfl) (fun _ _ _ h => h) (Or.inl ⟨by rfl, ?_⟩) (by assumption) ?_
          rotate_left
          · intro wz hSw; (try dsimp only at hSw); go_simp; (try with_reducible rfl)
          try simp only [Act.put, List.setIfInBounds_toArray, List.set_cons_zero, List.set_cons_succ]
          refine wpAnyH_done (by kernel_rfl) (NoPanic.normal ?_) _
          try simp only [Act.put, List.setIfInBounds_toArray, List.set_cons_zero, List.set_cons_succ]
          have HN : Hid (Ow W0 w8 v8 (lb ++ (laidK (fun _ => (n : Int)) 1 ++ laidBrs X (i + 1)))) := by
            have h8 := Hw8.out.1
            have e8 : lb ++ (laidK (fun _ => (n : Int)) 1 ++ laidBrs X (i + 1)) = (((L4 ++ laidK (X i).z (X i).n) ++ hB (X i).lk) ++ uB (u64 (X i).af)) ++ uB (u64 (X i).ol) := by
              rw [hL4, hL]
              simp only [laidBrs, laidBr, List.append_assoc]
              rw [laidK_two]
              rfl
            show Ow _ _ _ _
            rw [e8]; exact h8
          clear hHeld Hw8
          go_wp2
          go_roundw
          case rel => exact ⟨i + 1, v8, by omega, rfl, by go_num, HN.out⟩
          case measure => simp [intOf]; omega
    · obtain rfl : i = n := by omega
      have hnn : ¬ ((i : Int) < i) := by omega
      have HE : Hid (Ow w wr v (lb ++ laidC X i)) := HO.out.mono hb0
      go_wp2
      go_ret
      exact ⟨_, rfl, HE.out⟩
end Go.Proofs.YtjnepkggdkccaaaGreatDoor.Cd
/- The document's Bytes, behind bytes of one's own. -/
namespace Go.Proofs.YtjnepkggdkccaaaGreatDoor
open Go.RowKit

theorem src_new {w : World} {g : Nat} {l : List Int} {c : Nat} {t : TypeId} {fr : Nat × Nat} (h : w.heap[g]? = some (.cells (l.map (Value.int .u8)).toArray t fr)) : BSrc w (.slice (some ⟨g, 0, none⟩) l.length c) l := by
  refine ⟨_, c, rfl, .inr ⟨_, rfl, ?_⟩⟩
  have := World.news_of_block h
  simpa using this
theorem src_one (w : World) (x : Int) : BSrc (w.alloc (.cells #[.int .u8 x] 5)) (.slice (some ⟨w.heap.size, 0, none⟩) 1 1) [x] := src_new (l := [x]) (heap_alloc_new w _)
theorem src_two (w : World) (x y : Int) : BSrc (w.alloc (.cells #[.int .u8 x, .int .u8 y] 5)) (.slice (some ⟨w.heap.size, 0, none⟩) 2 2) [x, y] := src_new (l := [x, y]) (heap_alloc_new w _)
set_option maxRecDepth 100000 in
set_option maxHeartbeats 1600000 in
theorem refBytes_ow (W0 w : World) (v : Value) (L : List Int) (ad : Option Addr) (n cap : Nat) (z : Nat → Int) (h : Ow W0 w v L) (hs : SlAt w ad n z) (hl : L.length + 2 * n + 64 ≤ 140737488351232) :
    Calls Tryz.prog 101 #[v, .slice ad n cap] w fun e w' => ∃ v', e = .returned v' ∧ Ow W0 w' v' (L ++ (escF z n ++ [0, 0])) ∧ Below w.heap.size w w' := by
  obtain ⟨a0, c0, rfl⟩ := h.form
  obtain ⟨_, hs0, hn0, _, _⟩ := h.fresh
  have hcall := refOwn_any a0 L c0 w hs0 hn0 (by omega)
  have HS : Hid (SlAt w ad n z) := hs
  have HW : Hid (Below W0.heap.size W0 w) := h.below
  clear hs0 hn0 hs h
  go_enter Tryz.func101, Tryz.ntmps101
  go_wp2_with (go_at_call 111; refine hcall.mono ?_; rintro e w1 ⟨vo, rfl, hO⟩)
  clear hcall
  have hO1 : Ow w w1 vo (L ++ escF z 0) := by simpa [escF] using hO
  go_loopw [5, 6] (fun ov iv wr => ∃ (q : Nat) (x : Value), q ≤ n ∧ x = ov ∧ iv = .int .i64 q ∧ Ow w wr x (L ++ escF z q)) (fun _ iv _ => n + 1 - (intOf iv).toNat)
  case atStart => exact ⟨0, _, by omega, rfl, rfl, hO1⟩
  case round =>
    clear hO hO1
    obtain ⟨q, x, hq, rfl, rfl, hO⟩ := hrel
    have HO : Hid (Ow w wr x (L ++ escF z q)) := hO
    clear hO
    have hle := escF_le z q
    have hll : (L ++ escF z q).length + 2 * (n - q) + 64 ≤ 140737488351232 := by rw [List.length_append]; omega
    by_cases hlt : q < n
    · have hlt' : (q : Int) < n := by omega
      obtain ⟨b, off, rfl, hcz⟩ := HS.out.2 (by omega)
      have hzq := HS.out.1 q hlt
      have HC : Hid (∀ w', Below w.heap.size w w' → w'.cell? ⟨b, off + q, none⟩ = some (.int .u8 (z q))) := fun w' hb => by
        rw [hb.cell (p := ⟨b, off + q, none⟩) (HS.out.lt (by omega) rfl)]
        exact hcz q hlt
      have hc0 := HC.out wr HO.out.below
      have HE : Hid (L ++ escF z (q + 1) = (L ++ escF z q) ++ esc (z q)) := by show _ = _; rw [escF, List.append_assoc]
      obtain ⟨M, hM⟩ : ∃ M, L ++ escF z q = M := ⟨_, rfl⟩
      rw [hM] at HO HE hll
      clear hcz hM hle
      by_cases h0 : z q = 0
      · have h0' : (z q == 0) = true := by simp [h0]
        have HN : Hid (L ++ escF z (q + 1) = (M ++ [z q]) ++ [255]) := by show _ = _; rw [HE.out, esc, if_pos h0, h0]; simp
        clear h0 HE
        go_wp2_with (first | (at_builtin; refine wpList_append_B rfl (.tmp 15) (.tmp 20) rfl w _ _ M [z q] rfl rfl (HO.out.alloc _) (src_one wr (z q)) (by intro y hy; rw [List.mem_singleton.1 hy]; exact hzq) (by simp; omega) ?_; intro v1 w1 hO1; have hc1 := HC.out w1 hO1.below) | (at_builtin; refine wpList_append_B rfl (.tmp 27) (.tmp 28) rfl w _ _ (M ++ [z q]) [255] rfl rfl (hO1.alloc _) (src_one w1 255) (by intro y hy; rw [List.mem_singleton.1 hy]; omega) (by simp; omega) ?_; intro v2 w2 hO2))
        have HR : Hid (Ow w w2 v2 (L ++ escF z (q + 1))) := by show Ow _ _ _ _; rw [HN.out]; exact hO2
        go_roundw
        case rel => exact ⟨q + 1, v2, by omega, rfl, by go_num, HR.out⟩
        case measure => simp [intOf]; omega
      · have h0' : (z q == 0) = false := by simp [h0]
        have HN : Hid (L ++ escF z (q + 1) = M ++ [z q]) := by show _ = _; rw [HE.out, esc, if_neg h0]
        clear h0 HE
        go_wp2_with (at_builtin; refine wpList_append_B rfl (.tmp 15) (.tmp 20) rfl w _ _ M [z q] rfl rfl (HO.out.alloc _) (src_one wr (z q)) (by intro y hy; rw [List.mem_singleton.1 hy]; exact hzq) (by simp; omega) ?_; intro v1 w1 hO1; have hc1 := HC.out w1 hO1.below)
        have HR : Hid (Ow w w1 v1 (L ++ escF z (q + 1))) := by show Ow _ _ _ _; rw [HN.out]; exact hO1
        go_roundw
        case rel => exact ⟨q + 1, v1, by omega, rfl, by go_num, HR.out⟩
        case measure => simp [intOf]; omega
    · obtain rfl : q = n := by omega
      have hnn : ¬ ((q : Int) < q) := by omega
      go_wp2_with (at_builtin; refine wpList_append_B rfl _ _ rfl w _ _ (L ++ escF z q) [0, 0] rfl rfl (HO.out.alloc _) (src_two wr 0 0) (by intro y hy; simp at hy; omega) (by simp only [List.length_cons, List.length_nil]; omega) ?_; intro v1 w1 hO1)
      have HR : Hid (Ow W0 w1 v1 (L ++ (escF z q ++ [0, 0])) ∧ Below w.heap.size w w1) := ⟨by rw [← List.append_assoc]; exact hO1.mono HW.out, hO1.below⟩
      go_ret
      exact ⟨_, rfl, HR.out⟩
end Go.Proofs.YtjnepkggdkccaaaGreatDoor
/- tx.number and tx.layOut: a number, and an output, as bytes. -/
namespace Go.Proofs.YtjnepkggdkccaaaGreatDoor
open Go.RowKit

set_option maxHeartbeats 800000 in
theorem number_any (p B : Nat) (g : Option Nat) (l : List Int) (x : Int) (w : World) (hw : WrAt w B p g l) (hl : l.length + 16 ≤ 140737488355328) :
    Calls Tryz.prog 94 #[.pointer (some ⟨p, 0, none⟩), .int .i64 x] w fun e w' => e = .returned (.tuple #[]) ∧ WrGrown w w' B p g (l ++ uB (Cd.u64 x)) := by
  have hc := wrUint_any p B g l (Cd.u64 x) w hw hl (Cd.u64_bd x)
  unfold Cd.u64 at hc
  go_enter Tryz.func94, Tryz.ntmps94
  go_wp2_with fail
  refine hc.mono ?_
  rintro e w1 ⟨rfl, hW⟩
  clear hc hw
  have HW : Hid (WrGrown w w1 B p g (l ++ uB (Cd.u64 x))) := hW
  clear hW
  go_wp2
  go_end0
  exact ⟨rfl, HW.out⟩
end Go.Proofs.YtjnepkggdkccaaaGreatDoor
