/- The document's Check of layer 5. -/
import Derived.Deep.CutBlock
import Derived.Deep.DeepCutAuto
import Derived.Test.YtanchjfodcjlmaaGreatDoorOwnShelf26
import Derived.Test.YtanchjfodcjlmaaGreatDoorOwnShelf13
namespace Go.Proofs.YtanchjfodcjlmaaGreatDoor
open Go.RowKit

theorem run_allocTiR (w : World) : (Instr.alloc 65 true (.tuple #[])).run Tryz.prog w = .ok (.pointer (some ⟨w.heap.size, 0, none⟩)) (w.alloc (.cells (tiv ti0 none 0) 65)) := by kernel_rfl
theorem szTiR : (Tryz.prog.info? 65).map (·.size) = some 35 := by kernel_rfl
theorem szTilR (x : Ti) (sa : Option Addr) (sc : Nat) : (Tryz.prog.info? 65).map (·.size) = some (til x sa sc).length := by rw [til_length]; exact szTiR
theorem szPtlR (z : Nat → Int) (n : Int) : (Tryz.prog.info? 45).map (·.size) = some (ptl z n).length := by rw [ptl_length]; kernel_rfl
theorem szTxR : (Tryz.prog.info? 25).map (·.size) = some 3 := by kernel_rfl
theorem szCondR : (Tryz.prog.info? 68).map (·.size) = some 1 := by kernel_rfl
set_option maxRecDepth 100000 in
set_option maxHeartbeats 6400000 in
theorem rkcheck_any (lk : Int) (ia : Option Addr) (n ic : Nat) (oa : Option Addr) (m oc : Nat) (X : Nat → Ti) (S : Nat → Option Addr × Nat) (O : Nat → To) (w : World) (h : TiAt w ia n X S) (ho : ToAt w oa m O) (hs : ∀ i, i < m → (O i).Small) (hn : n ≤ 1000000) (hm : m ≤ 1000000) :
    Calls Tryz.prog 13 #[.agg (txv lk ia n ic oa m oc)] w fun e w' => e = .returned (.int .i64 (txE lk n X m O)) ∧ Below w.heap.size w w' := by
  have HH : Hid (TiAt w ia n X S ∧ ToAt w oa m O ∧ ∀ i, i < m → (O i).Small) := ⟨h, ho, hs⟩
  clear h ho hs
  unfold txv
  go_enter Tryz.func13, Tryz.ntmps13
  go_upto_region 1 with (first | (refine wpList_boxN rfl _ _ rfl #[.int .i64 lk, .slice ia n ic, .slice oa m oc] rfl ?_; intro W0 N0) | fail)
  have HB0 := hidV N0.below
  have HC : Hid (∀ w', Below W0.heap.size W0 w' → w'.heap[w.heap.size]? = some (.cells #[.int .i64 lk, .slice ia n ic, .slice oa m oc] 25 (0, 0))) := fun w' hb => heap_below hb N0.blk
  have HC1 : Hid (∀ w', Below W0.heap.size W0 w' → w'.cell? ⟨w.heap.size, 1, none⟩ = some (.slice ia n ic)) := fun w' hb => by rw [cell_of_row _ _ 1 _ _ _ (HC.out w' hb)]; rfl
  have HC2 : Hid (∀ w', Below W0.heap.size W0 w' → w'.cell? ⟨w.heap.size, 2, none⟩ = some (.slice oa m oc)) := fun w' hb => by rw [cell_of_row _ _ 2 _ _ _ (HC.out w' hb)]; rfl
  have c0 : W0.cell? ⟨w.heap.size, 0, none⟩ = some (.int .i64 lk) := by rw [cell_of_row _ _ 0 _ _ _ N0.blk]; rfl
  have c1 := HC1.out W0 (Below.refl _ _)
  have c2 := HC2.out W0 (Below.refl _ _)
  clear N0
  by_cases hN : NumOk lk n m
  · have HN := hidV hN
    obtain ⟨⟨a1, a2⟩, ⟨a3, a4⟩, a5, a6⟩ := hN
    have b1 : ¬ lk < 0 := by omega
    have b2 : ¬ 1099511627776 < lk := by omega
    have b3 : ¬ (n : Int) < 1 := by omega
    have b4 : ¬ 64 < (n : Int) := by omega
    have b5 : ¬ (m : Int) < 1 := by omega
    have b6 : ¬ 64 < (m : Int) := by omega
    go_upto_region 3 with fail
    clear c0 c1 c2 a1 a2 a3 a4 a5 a6 b1 b2 b3 b4 b5 b6
    go_wp2
    go_loopw [2, 3, 4] (fun ev iv _ wr => ∃ i : Nat, i ≤ n ∧ ev = .int .i64 0 ∧ iv = .int .i64 i ∧ InsOk X i ∧ Below W0.heap.size W0 wr) (fun _ iv _ _ => n + 1 - (intOf iv).toNat)
    case atStart => exact ⟨0, by omega, rfl, rfl, fun j hj => by omega, Below.refl _ _⟩
    case round =>
      obtain ⟨i, hi, rfl, rfl, hk, hb⟩ := hrel
      have HK := hidV hk
      have HB := hidV hb
      clear hk hb
      by_cases hlt : i < n
      · have hlt' : (i : Int) < n := by omega
        obtain ⟨b, off, rfl, hc⟩ := HH.out.1.at_ (by omega)
        have HR : Hid (wr.rangeAt b (off + i * 35) (til (X i) (S i).1 (S i).2)) := range_below (hc i hlt) (Below.transS HB0.out HB.out)
        have c1 := HC1.out wr HB.out
        clear hc
        go_upto_region 7 with (first | (refine wpList_load_mid rfl 65 _ rfl b (off + i * 35) rfl (til (X i) (S i).1 (S i).2) _ HR.out Tryz.underlying65 rfl (szTilR _ _ _) ?_) | (refine wpList_allocN 65 (tiv ti0 none 0) run_allocTiR rfl rfl ?_; intro z1 N1) | (refine wpList_storeG 65 szTiR rfl _ _ rfl wr.heap.size rfl (tiv (X i) (S i).1 (S i).2) (tiv ti0 none 0) (tiv_size _ _ _) (tiv_size _ _ _) (tiv_one _ _ _) 65 rfl N1.blk ?_; intro z2 hg2 hf2; have HZ2 : Hid (Below wr.heap.size wr z2) := N1.below.trans (hf2.below N1.below.size (by simp)); have d32 : z2.cell? ⟨wr.heap.size, 32, none⟩ = some (.int .i64 (X i).n) := cell_list hg2 (til_32 _ _ _); have d33 : z2.cell? ⟨wr.heap.size, 33, none⟩ = some (.int .i64 (X i).br) := cell_list hg2 (til_33 _ _ _); have d34 : z2.cell? ⟨wr.heap.size, 34, none⟩ = some (.slice (S i).1 (X i).sn (S i).2) := cell_list hg2 (til_34 _ _ _); clear N1 hf2 hg2) | fail)
        have HB2 : Hid (Below W0.heap.size W0 z2) := Below.transS HB.out HZ2.out
        clear HR c1
        by_cases hq : InOk (X i)
        · have HN2 : Hid (InsOk X (i + 1)) := fun j hj => by
            by_cases e : j = i
            · subst e; exact hq
            · exact HK.out j (by omega)
          obtain ⟨⟨q1, q2⟩, ⟨q3, q4⟩, q5⟩ := hq
          have e1 : ¬ (X i).n < 0 := by omega
          have e2 : ¬ 63 < (X i).n := by omega
          have e3 : ¬ (X i).br < 0 := by omega
          have e4 : ¬ 7 < (X i).br := by omega
          have e5 : ¬ (64 : Int) < ((X i).sn : Int) := by omega
          go_wp2
          go_roundw
          case rel => exact ⟨i + 1, by omega, rfl, by go_num, HN2.out, HB2.out⟩
          case measure => simp [intOf]; omega
        · have HE : Hid (txE lk n X m O = 4) := by unfold txE; rw [if_neg (by simpa using HN.out), if_pos (fun h => hq (h i hlt))]; exact rfl
          have HQ2 := hidV hq
          have HBE : Hid (Below w.heap.size w z2) := Below.transS HB0.out HB2.out
          clear hq
          by_cases e1 : (X i).n < 0
          · go_wp2
            go_ret
            exact ⟨by rw [HE.out]; rfl, HBE.out⟩
          · by_cases e2 : 63 < (X i).n
            · go_wp2
              go_ret
              exact ⟨by rw [HE.out]; rfl, HBE.out⟩
            · by_cases e3 : (X i).br < 0
              · go_wp2
                go_ret
                exact ⟨by rw [HE.out]; rfl, HBE.out⟩
              · by_cases e4 : 7 < (X i).br
                · go_wp2
                  go_ret
                  exact ⟨by rw [HE.out]; rfl, HBE.out⟩
                · have e5 : (64 : Int) < ((X i).sn : Int) := by
                    have := HQ2.out
                    unfold InOk at this
                    omega
                  go_wp2
                  go_ret
                  exact ⟨by rw [HE.out]; rfl, HBE.out⟩
      · obtain rfl : i = n := by omega
        have hnn : ¬ ((i : Int) < i) := by omega
        have c1 := HC1.out wr HB.out
        go_wp2
        clear c1 hnn
        have HI := hidV HK.out
        have HBw := hidV HB.out
        clear HK HB
        go_loopw [2, 5, 6] (fun ev iv _ wr => ∃ j : Nat, j ≤ i ∧ ev = .int .i64 0 ∧ iv = .int .i64 j ∧ Apart X j ∧ Below W0.heap.size W0 wr) (fun _ iv _ _ => i + 1 - (intOf iv).toNat)
        case atStart => exact ⟨0, by omega, rfl, rfl, fun j hj => by omega, HBw.out⟩
        case round =>
          rename_i wo _ _ _
          obtain ⟨j, hj, rfl, rfl, hk, hb⟩ := hrel
          have HK := hidV hk
          have HB := hidV hb
          clear hk hb
          by_cases hlt : j < i
          · have hlt' : (j : Int) < i := by omega
            have c1 := HC1.out _ HB.out
            go_wp2
            clear c1
            go_loopw [2, 6] (fun ev kv wq => ∃ k : Nat, k ≤ j ∧ ev = .int .i64 0 ∧ kv = .int .i64 k ∧ (∀ q, q < k → keyT (X j) ≠ keyT (X q)) ∧ Below W0.heap.size W0 wq) (fun _ kv _ => j + 1 - (intOf kv).toNat)
            case atStart => exact ⟨0, by omega, rfl, rfl, fun q hq => by omega, HB.out⟩
            case round =>
              obtain ⟨k, hkj, rfl, rfl, hk, hb⟩ := hrel
              have HK2 := hidV hk
              have HB2 := hidV hb
              clear hk hb
              by_cases hk2 : k < j
              · have hk2' : (k : Int) < j := by omega
                obtain ⟨b, off, rfl, hc⟩ := HH.out.1.at_ (by omega)
                have HS : Hid (∀ w', Below W0.heap.size W0 w' → w'.cell? ⟨w.heap.size, 1, none⟩ = some (.slice (some ⟨b, off, none⟩) i ic) ∧ w'.rangeAt b (off + j * 35) (ptl (X j).pt (X j).n) ∧ w'.rangeAt b (off + k * 35) (ptl (X k).pt (X k).n)) := fun w' hb => ⟨HC1.out w' hb, pt_range (range_below (hc j (by omega)) (Below.transS HB0.out hb)), pt_range (range_below (hc k (by omega)) (Below.transS HB0.out hb))⟩
                have hbj : Kp.Ib (X j).n ∧ Kp.Ib (X k).n := by
                  have h1 := (HI.out j (by omega)).1
                  have h2 := (HI.out k (by omega)).1
                  unfold Kp.Ib
                  omega
                have hzj := HH.out.1.pt j (by omega)
                have hzk := HH.out.1.pt k (by omega)
                have HBJ := hidV (And.intro hbj (And.intro hzj hzk))
                clear hc hbj hzj hzk
                go_wp2_with fail
                refine wp_region_noPanic ?_
                refine wp_region_held_drew (S := fun w' => w'.cell? ⟨w.heap.size, 1, none⟩ = some (.slice (some ⟨b, off, none⟩) i ic) ∧ w'.rangeAt b (off + j * 35) (ptl (X j).pt (X j).n) ∧ w'.rangeAt b (off + k * 35) (ptl (X k).pt (X k).n)) (by kernel_rfl) (HS.out _ (Below.transS HB2.out (Below.refl _ _).drew)) (fun hHeld => ?_)
                have HBd := hidV (Below.transS HB2.out (Below.refl _ _).drew)
                have hlj : (j : Int) < (i : Int) := hlt'
                have hki : (k : Int) < (i : Int) := by omega
                by_cases he : keyT (X j) = keyT (X k)
                · have HD : Hid (decide (((X j).n, ub (X j).pt) = ((X k).n, ub (X k).pt)) = true) := by show _ = _; exact decide_eq_true he
                  have HE : Hid (txE lk i X m O = 9) := by unfold txE; rw [if_neg (by simpa using HN.out), if_neg (by simpa using HI.out), if_pos (fun h => h j hlt k hk2 he)]; exact rfl
                  clear he
                  refine wpAnyH_take (i := 0) (oi := { dst := some 93, op := Go.Op.fieldAddr 25 (Go.Operand.tmp 1) 1, type := 0, pos := "ref.go:57", after := #[], guard := none }) (v := ?_) rfl (by kernel_rfl) (by kernel_rfl) (by kernel_rfl) (fun _ _ _ h => h) (Or.inl ⟨by rfl, ?_⟩) (by assumption) ?_
                  rotate_left
                  · intro wz hSw; (try dsimp only at hSw); go_simp; (try with_reducible rfl)
                  try simp only [Act.put, List.setIfInBounds_toArray, List.set_cons_zero, List.set_cons_succ]
                  refine wpAnyH_take (i := 1) (oi := { dst := some 94, op := Go.Op.load 22 (Go.Operand.tmp 93), type := 22, pos := "ref.go:57", after := #[{ on := 0, ground := Go.Ground.data }], guard := none }) (v := ?_) rfl (by kernel_rfl) (by kernel_rfl) (by kernel_rfl) (fun _ _ _ h => h) (Or.inl ⟨by rfl, ?_⟩) (by assumption) ?_
                  rotate_left
                  · intro wz hSw; (try dsimp only at hSw); go_simp; (try with_reducible rfl)
                  try simp only [Act.put, List.setIfInBounds_toArray, List.set_cons_zero, List.set_cons_succ]
                  refine wpAnyH_take (i := 2) (oi := { dst := some 95, op := Go.Op.move (Go.Operand.tmp 5), type := 3, pos := "ref.go:57", after := #[], guard := none }) (v := ?_) rfl (by kernel_rfl) (by kernel_rfl) (by kernel_rfl) (fun _ _ _ h => h) (Or.inl ⟨by rfl, ?_⟩) (by assumption) ?_
                  rotate_left
                  · intro wz hSw; (try dsimp only at hSw); go_simp; (try with_reducible rfl)
                  try simp only [Act.put, List.setIfInBounds_toArray, List.set_cons_zero, List.set_cons_succ]
                  refine wpAnyH_take (i := 3) (oi := { dst := some 96, op := Go.Op.indexAddr 22 (Go.Operand.tmp 94) (Go.Operand.tmp 95), type := 0, pos := "ref.go:57", after := #[{ on := 1, ground := Go.Ground.data }, { on := 2, ground := Go.Ground.data }], guard := none }) (v := ?_) rfl (by kernel_rfl) (by kernel_rfl) (by kernel_rfl) (fun _ _ _ h => h) (Or.inl ⟨by rfl, ?_⟩) (by assumption) ?_
                  rotate_left
                  · intro wz hSw; (try dsimp only at hSw); go_simp; (try with_reducible rfl)
                  try simp only [Act.put, List.setIfInBounds_toArray, List.set_cons_zero, List.set_cons_succ]
                  refine wpAnyH_take (i := 4) (oi := { dst := some 97, op := Go.Op.fieldAddr 65 (Go.Operand.tmp 96) 0, type := 0, pos := "ref.go:57", after := #[{ on := 3, ground := Go.Ground.data }], guard := none }) (v := ?_) rfl (by kernel_rfl) (by kernel_rfl) (by kernel_rfl) (fun _ _ _ h => h) (Or.inl ⟨by rfl, ?_⟩) (by assumption) ?_
                  rotate_left
                  · intro wz hSw; (try dsimp only at hSw); go_simp; (try with_reducible rfl)
                  try simp only [Act.put, List.setIfInBounds_toArray, List.set_cons_zero, List.set_cons_succ]
                  refine wpAnyH_take (i := 6) (oi := { dst := some 99, op := Go.Op.fieldAddr 25 (Go.Operand.tmp 1) 1, type := 0, pos := "ref.go:57", after := #[], guard := none }) (v := ?_) rfl (by kernel_rfl) (by kernel_rfl) (by kernel_rfl) (fun _ _ _ h => h) (Or.inl ⟨by rfl, ?_⟩) (by assumption) ?_
                  rotate_left
                  · intro wz hSw; (try dsimp only at hSw); go_simp; (try with_reducible rfl)
                  try simp only [Act.put, List.setIfInBounds_toArray, List.set_cons_zero, List.set_cons_succ]
                  refine wpAnyH_take (i := 7) (oi := { dst := some 100, op := Go.Op.load 22 (Go.Operand.tmp 99), type := 22, pos := "ref.go:57", after := #[{ on := 6, ground := Go.Ground.data }], guard := none }) (v := ?_) rfl (by kernel_rfl) (by kernel_rfl) (by kernel_rfl) (fun _ _ _ h => h) (Or.inl ⟨by rfl, ?_⟩) (by assumption) ?_
                  rotate_left
                  · intro wz hSw; (try dsimp only at hSw); go_simp; (try with_reducible rfl)
                  try simp only [Act.put, List.setIfInBounds_toArray, List.set_cons_zero, List.set_cons_succ]
                  refine wpAnyH_take (i := 8) (oi := { dst := some 101, op := Go.Op.move (Go.Operand.tmp 6), type := 3, pos := "ref.go:57", after := #[], guard := none }) (v := ?_) rfl (by kernel_rfl) (by kernel_rfl) (by kernel_rfl) (fun _ _ _ h => h) (Or.inl ⟨by rfl, ?_⟩) (by assumption) ?_
                  rotate_left
                  · intro wz hSw; (try dsimp only at hSw); go_simp; (try with_reducible rfl)
                  try simp only [Act.put, List.setIfInBounds_toArray, List.set_cons_zero, List.set_cons_succ]
                  refine wpAnyH_take (i := 9) (oi := { dst := some 102, op := Go.Op.indexAddr 22 (Go.Operand.tmp 100) (Go.Operand.tmp 101), type := 0, pos := "ref.go:57", after := #[{ on := 7, ground := Go.Ground.data }, { on := 8, ground := Go.Ground.data }], guard := none }) (v := ?_) rfl (by kernel_rfl) (by kernel_rfl) (by kernel_rfl) (fun _ _ _ h => h) (Or.inl ⟨by rfl, ?_⟩) (by assumption) ?_
                  rotate_left
                  · intro wz hSw; (try dsimp only at hSw); go_simp; (try with_reducible rfl)
                  try simp only [Act.put, List.setIfInBounds_toArray, List.set_cons_zero, List.set_cons_succ]
                  refine wpAnyH_take (i := 10) (oi := { dst := some 103, op := Go.Op.fieldAddr 65 (Go.Operand.tmp 102) 0, type := 0, pos := "ref.go:57", after := #[{ on := 9, ground := Go.Ground.data }], guard := none }) (v := ?_) rfl (by kernel_rfl) (by kernel_rfl) (by kernel_rfl) (fun _ _ _ h => h) (Or.inl ⟨by rfl, ?_⟩) (by assumption) ?_
                  rotate_left
                  · intro wz hSw; (try dsimp only at hSw); go_simp; (try with_reducible rfl)
                  try simp only [Act.put, List.setIfInBounds_toArray, List.set_cons_zero, List.set_cons_succ]
                  refine wpAnyH_take (i := 5) (oi := { dst := some 98, op := Go.Op.load 45 (Go.Operand.tmp 97), type := 45, pos := "ref.go:57", after := #[{ on := 4, ground := Go.Ground.data }], guard := none }) rfl (by kernel_rfl) (by kernel_rfl) (by kernel_rfl) (fun _ _ _ h => h) (yieldsIf_load_mid (by rfl) _ _ rfl b (off + j * 35) rfl (ptl (X j).pt (X j).n) _ (fun _ h => h.2.1) Tryz.underlying45 rfl (szPtlR _ _)) (by assumption) ?_
                  try simp only [Act.put, List.setIfInBounds_toArray, List.set_cons_zero, List.set_cons_succ]
                  refine wpAnyH_take (i := 11) (oi := { dst := some 104, op := Go.Op.load 45 (Go.Operand.tmp 103), type := 45, pos := "ref.go:57", after := #[{ on := 10, ground := Go.Ground.data }], guard := none }) rfl (by kernel_rfl) (by kernel_rfl) (by kernel_rfl) (fun _ _ _ h => h) (yieldsIf_load_mid (by rfl) _ _ rfl b (off + k * 35) rfl (ptl (X k).pt (X k).n) _ (fun _ h => h.2.2) Tryz.underlying45 rfl (szPtlR _ _)) (by assumption) ?_
                  try simp only [Act.put, List.setIfInBounds_toArray, List.set_cons_zero, List.set_cons_succ]
                  refine wpAnyH_take (i := 12) (oi := { dst := some 105, op := Go.Op.binOp Go.BinOp.eql 45 (Go.Operand.tmp 98) (Go.Operand.tmp 104) 45, type := 4, pos := "ref.go:57", after := #[{ on := 5, ground := Go.Ground.data }, { on := 11, ground := Go.Ground.data }], guard := none }) (v := .bool true) rfl (by kernel_rfl) (by kernel_rfl) (by kernel_rfl) (fun _ _ _ h => h) (Or.inl ⟨by rfl, ?_⟩) (by assumption) ?_
                  · intro wz hSw; (try dsimp only at hSw); exact exec_eqPt _ _ rfl HBJ.out.1.1 HBJ.out.2.1 HBJ.out.1.2 HBJ.out.2.2 true HD.out rfl rfl wz
                  try simp only [Act.put, List.setIfInBounds_toArray, List.set_cons_zero, List.set_cons_succ]
                  refine wpAnyH_done (by kernel_rfl) (NoPanic.normal ?_) _
                  try simp only [Act.put, List.setIfInBounds_toArray, List.set_cons_zero, List.set_cons_succ]
                  clear hHeld
                  go_wp2
                  go_ret
                  exact ⟨by rw [HE.out]; rfl, Below.transS HB0.out HBd.out⟩
                · have HD : Hid (decide (((X j).n, ub (X j).pt) = ((X k).n, ub (X k).pt)) = false) := by show _ = _; exact decide_eq_false he
                  have HN2 : Hid (∀ q, q < k + 1 → keyT (X j) ≠ keyT (X q)) := fun q hq => by
                    by_cases e : q = k
                    · subst e; exact he
                    · exact HK2.out q (by omega)
                  clear he
                  refine wpAnyH_take (i := 0) (oi := { dst := some 93, op := Go.Op.fieldAddr 25 (Go.Operand.tmp 1) 1, type := 0, pos := "ref.go:57", after := #[], guard := none }) (v := ?_) rfl (by kernel_rfl) (by kernel_rfl) (by kernel_rfl) (fun _ _ _ h => h) (Or.inl ⟨by rfl, ?_⟩) (by assumption) ?_
                  rotate_left
                  · intro wz hSw; (try dsimp only at hSw); go_simp; (try with_reducible rfl)
                  try simp only [Act.put, List.setIfInBounds_toArray, List.set_cons_zero, List.set_cons_succ]
                  refine wpAnyH_take (i := 1) (oi := { dst := some 94, op := Go.Op.load 22 (Go.Operand.tmp 93), type := 22, pos := "ref.go:57", after := #[{ on := 0, ground := Go.Ground.data }], guard := none }) (v := ?_) rfl (by kernel_rfl) (by kernel_rfl) (by kernel_rfl) (fun _ _ _ h => h) (Or.inl ⟨by rfl, ?_⟩) (by assumption) ?_
                  rotate_left
                  · intro wz hSw; (try dsimp only at hSw); go_simp; (try with_reducible rfl)
                  try simp only [Act.put, List.setIfInBounds_toArray, List.set_cons_zero, List.set_cons_succ]
                  refine wpAnyH_take (i := 2) (oi := { dst := some 95, op := Go.Op.move (Go.Operand.tmp 5), type := 3, pos := "ref.go:57", after := #[], guard := none }) (v := ?_) rfl (by kernel_rfl) (by kernel_rfl) (by kernel_rfl) (fun _ _ _ h => h) (Or.inl ⟨by rfl, ?_⟩) (by assumption) ?_
                  rotate_left
                  · intro wz hSw; (try dsimp only at hSw); go_simp; (try with_reducible rfl)
                  try simp only [Act.put, List.setIfInBounds_toArray, List.set_cons_zero, List.set_cons_succ]
                  refine wpAnyH_take (i := 3) (oi := { dst := some 96, op := Go.Op.indexAddr 22 (Go.Operand.tmp 94) (Go.Operand.tmp 95), type := 0, pos := "ref.go:57", after := #[{ on := 1, ground := Go.Ground.data }, { on := 2, ground := Go.Ground.data }], guard := none }) (v := ?_) rfl (by kernel_rfl) (by kernel_rfl) (by kernel_rfl) (fun _ _ _ h => h) (Or.inl ⟨by rfl, ?_⟩) (by assumption) ?_
                  rotate_left
                  · intro wz hSw; (try dsimp only at hSw); go_simp; (try with_reducible rfl)
                  try simp only [Act.put, List.setIfInBounds_toArray, List.set_cons_zero, List.set_cons_succ]
                  refine wpAnyH_take (i := 4) (oi := { dst := some 97, op := Go.Op.fieldAddr 65 (Go.Operand.tmp 96) 0, type := 0, pos := "ref.go:57", after := #[{ on := 3, ground := Go.Ground.data }], guard := none }) (v := ?_) rfl (by kernel_rfl) (by kernel_rfl) (by kernel_rfl) (fun _ _ _ h => h) (Or.inl ⟨by rfl, ?_⟩) (by assumption) ?_
                  rotate_left
                  · intro wz hSw; (try dsimp only at hSw); go_simp; (try with_reducible rfl)
                  try simp only [Act.put, List.setIfInBounds_toArray, List.set_cons_zero, List.set_cons_succ]
                  refine wpAnyH_take (i := 6) (oi := { dst := some 99, op := Go.Op.fieldAddr 25 (Go.Operand.tmp 1) 1, type := 0, pos := "ref.go:57", after := #[], guard := none }) (v := ?_) rfl (by kernel_rfl) (by kernel_rfl) (by kernel_rfl) (fun _ _ _ h => h) (Or.inl ⟨by rfl, ?_⟩) (by assumption) ?_
                  rotate_left
                  · intro wz hSw; (try dsimp only at hSw); go_simp; (try with_reducible rfl)
                  try simp only [Act.put, List.setIfInBounds_toArray, List.set_cons_zero, List.set_cons_succ]
                  refine wpAnyH_take (i := 7) (oi := { dst := some 100, op := Go.Op.load 22 (Go.Operand.tmp 99), type := 22, pos := "ref.go:57", after := #[{ on := 6, ground := Go.Ground.data }], guard := none }) (v := ?_) rfl (by kernel_rfl) (by kernel_rfl) (by kernel_rfl) (fun _ _ _ h => h) (Or.inl ⟨by rfl, ?_⟩) (by assumption) ?_
                  rotate_left
                  · intro wz hSw; (try dsimp only at hSw); go_simp; (try with_reducible rfl)
                  try simp only [Act.put, List.setIfInBounds_toArray, List.set_cons_zero, List.set_cons_succ]
                  refine wpAnyH_take (i := 8) (oi := { dst := some 101, op := Go.Op.move (Go.Operand.tmp 6), type := 3, pos := "ref.go:57", after := #[], guard := none }) (v := ?_) rfl (by kernel_rfl) (by kernel_rfl) (by kernel_rfl) (fun _ _ _ h => h) (Or.inl ⟨by rfl, ?_⟩) (by assumption) ?_
                  rotate_left
                  · intro wz hSw; (try dsimp only at hSw); go_simp; (try with_reducible rfl)
                  try simp only [Act.put, List.setIfInBounds_toArray, List.set_cons_zero, List.set_cons_succ]
                  refine wpAnyH_take (i := 9) (oi := { dst := some 102, op := Go.Op.indexAddr 22 (Go.Operand.tmp 100) (Go.Operand.tmp 101), type := 0, pos := "ref.go:57", after := #[{ on := 7, ground := Go.Ground.data }, { on := 8, ground := Go.Ground.data }], guard := none }) (v := ?_) rfl (by kernel_rfl) (by kernel_rfl) (by kernel_rfl) (fun _ _ _ h => h) (Or.inl ⟨by rfl, ?_⟩) (by assumption) ?_
                  rotate_left
                  · intro wz hSw; (try dsimp only at hSw); go_simp; (try with_reducible rfl)
                  try simp only [Act.put, List.setIfInBounds_toArray, List.set_cons_zero, List.set_cons_succ]
                  refine wpAnyH_take (i := 10) (oi := { dst := some 103, op := Go.Op.fieldAddr 65 (Go.Operand.tmp 102) 0, type := 0, pos := "ref.go:57", after := #[{ on := 9, ground := Go.Ground.data }], guard := none }) (v := ?_) rfl (by kernel_rfl) (by kernel_rfl) (by kernel_rfl) (fun _ _ _ h => h) (Or.inl ⟨by rfl, ?_⟩) (by assumption) ?_
                  rotate_left
                  · intro wz hSw; (try dsimp only at hSw); go_simp; (try with_reducible rfl)
                  try simp only [Act.put, List.setIfInBounds_toArray, List.set_cons_zero, List.set_cons_succ]
                  refine wpAnyH_take (i := 5) (oi := { dst := some 98, op := Go.Op.load 45 (Go.Operand.tmp 97), type := 45, pos := "ref.go:57", after := #[{ on := 4, ground := Go.Ground.data }], guard := none }) rfl (by kernel_rfl) (by kernel_rfl) (by kernel_rfl) (fun _ _ _ h => h) (yieldsIf_load_mid (by rfl) _ _ rfl b (off + j * 35) rfl (ptl (X j).pt (X j).n) _ (fun _ h => h.2.1) Tryz.underlying45 rfl (szPtlR _ _)) (by assumption) ?_
                  try simp only [Act.put, List.setIfInBounds_toArray, List.set_cons_zero, List.set_cons_succ]
                  refine wpAnyH_take (i := 11) (oi := { dst := some 104, op := Go.Op.load 45 (Go.Operand.tmp 103), type := 45, pos := "ref.go:57", after := #[{ on := 10, ground := Go.Ground.data }], guard := none }) rfl (by kernel_rfl) (by kernel_rfl) (by kernel_rfl) (fun _ _ _ h => h) (yieldsIf_load_mid (by rfl) _ _ rfl b (off + k * 35) rfl (ptl (X k).pt (X k).n) _ (fun _ h => h.2.2) Tryz.underlying45 rfl (szPtlR _ _)) (by assumption) ?_
                  try simp only [Act.put, List.setIfInBounds_toArray, List.set_cons_zero, List.set_cons_succ]
                  refine wpAnyH_take (i := 12) (oi := { dst := some 105, op := Go.Op.binOp Go.BinOp.eql 45 (Go.Operand.tmp 98) (Go.Operand.tmp 104) 45, type := 4, pos := "ref.go:57", after := #[{ on := 5, ground := Go.Ground.data }, { on := 11, ground := Go.Ground.data }], guard := none }) (v := .bool false) rfl (by kernel_rfl) (by kernel_rfl) (by kernel_rfl) (fun _ _ _ h => h) (Or.inl ⟨by rfl, ?_⟩) (by assumption) ?_
                  · intro wz hSw; (try dsimp only at hSw); exact exec_eqPt _ _ rfl HBJ.out.1.1 HBJ.out.2.1 HBJ.out.1.2 HBJ.out.2.2 false HD.out rfl rfl wz
                  try simp only [Act.put, List.setIfInBounds_toArray, List.set_cons_zero, List.set_cons_succ]
                  refine wpAnyH_done (by kernel_rfl) (NoPanic.normal ?_) _
                  try simp only [Act.put, List.setIfInBounds_toArray, List.set_cons_zero, List.set_cons_succ]
                  clear hHeld
                  go_wp2
                  go_roundw
                  case rel => exact ⟨k + 1, by omega, rfl, by go_num, HN2.out, HBd.out⟩
                  case measure => simp [intOf]; omega
              · obtain rfl : k = j := by omega
                have hnn : ¬ ((k : Int) < k) := by omega
                have HN2 : Hid (Apart X (k + 1)) := fun p hp q hq => by
                  by_cases e : p = k
                  · subst e; exact HK2.out q hq
                  · exact HK.out p (by omega) q hq
                go_wp2
                go_roundw
                case rel => exact ⟨k + 1, by omega, rfl, by go_num, HN2.out, HB2.out⟩
                case measure => simp [intOf]; omega
          · obtain rfl : j = i := by omega
            have hnn : ¬ ((j : Int) < j) := by omega
            have c1 := HC1.out _ HB.out
            have HE : Hid (txE lk j X m O = if outsE O m ≠ 0 then outsE O m else totE O m) := by unfold txE; rw [if_neg (by simpa using HN.out), if_neg (by simpa using HI.out), if_neg (by simpa using HK.out)]; exact rfl
            go_wp2
            clear c1 hnn
            have HBw := hidV HB.out
            clear HB HK HI
            go_loopw [2, 7, 8] (fun ev iv _ wr => ∃ i : Nat, i ≤ m ∧ ev = .int .i64 0 ∧ iv = .int .i64 i ∧ outsE O i = 0 ∧ Below W0.heap.size W0 wr) (fun _ iv _ _ => m + 1 - (intOf iv).toNat)
            case atStart => exact ⟨0, by omega, rfl, rfl, rfl, HBw.out⟩
            case round =>
              obtain ⟨i, hi, rfl, rfl, hk, hb⟩ := hrel
              have HZ := hidV hk
              have HB := hidV hb
              clear hk hb
              have c2 := HC2.out _ HB.out
              by_cases hlt : i < m
              · have hlt' : (i : Int) < m := by omega
                obtain ⟨b, off, rfl, hc⟩ := HH.out.2.1.at_ (by omega)
                obtain ⟨ca, cc, hr0, hbr, _⟩ := hc i hlt
                have hr1 := range_below hr0 (Below.transS HB0.out HB.out)
                have c0 : wr.cell? ⟨b, off + i * 2, none⟩ = some (.int .i64 (O i).am) := by simpa using hr1 0 _ rfl
                have HRc : Hid (wr.rangeAt b (off + i * 2 + 1) [.slice ca (O i).cn cc]) := fun q v hv => by
                  have h1 := hr1 (q + 1) v (by simpa [tol] using hv)
                  rw [show off + i * 2 + 1 + q = off + i * 2 + (q + 1) by omega]
                  exact h1
                have hck := Cd.rcheck_any ca (O i).cn cc (O i).X _ (hbr.below (Below.transS HB0.out HB.out)) (HH.out.2.2 i hlt).1 (HH.out.2.2 i hlt).2
                have HK4 := hidV hck
                clear hc hr0 hbr hr1 hck
                have HO : Hid (outE (O i) = if (O i).am < 10 then 27 else if 1125899906842624 < (O i).am then 5 else Cd.chkE (O i).X (O i).cn) := rfl
                have HBad : Hid (outE (O i) ≠ 0 → txE lk j X m O = outE (O i)) := fun hq => by
                  have e1 : outsE O (i + 1) = outE (O i) := by rw [outsE, if_pos HZ.out]
                  have e2 : outsE O m = outE (O i) := by rw [← e1]; exact outsE_stop (by rw [e1]; exact hq) m (by omega)
                  rw [HE.out, e2, if_pos hq]
                have HBE := hidV (Below.transS HB0.out HB.out)
                by_cases e1 : (O i).am < 10
                · have HE2 : Hid (txE lk j X m O = 27) := by
                    have h1 : outE (O i) = 27 := by rw [HO.out, if_pos e1]
                    show _ = _
                    rw [HBad.out (by rw [h1]; decide), h1]
                  go_wp2
                  go_ret
                  exact ⟨by rw [HE2.out]; rfl, HBE.out⟩
                · by_cases e2 : 1125899906842624 < (O i).am
                  · have HE2 : Hid (txE lk j X m O = 5) := by
                      have h1 : outE (O i) = 5 := by rw [HO.out, if_neg e1, if_pos e2]
                      show _ = _
                      rw [HBad.out (by rw [h1]; decide), h1]
                    go_wp2
                    go_ret
                    exact ⟨by rw [HE2.out]; rfl, HBE.out⟩
                  · have HO2 : Hid (outE (O i) = Cd.chkE (O i).X (O i).cn) := by show _ = _; rw [HO.out, if_neg e1, if_neg e2]
                    clear HO
                    go_wp2_with (first | (refine wpList_load_mid rfl 68 _ rfl b (off + i * 2 + 1) rfl [.slice ca (O i).cn cc] _ HRc.out Tryz.underlying68 rfl szCondR ?_) | fail)
                    refine HK4.out.mono ?_
                    rintro e v1 ⟨rfl, hb1⟩
                    have HB1 : Hid (Below W0.heap.size W0 v1) := Below.transS HB.out hb1
                    have HBE1 : Hid (Below w.heap.size w v1) := Below.transS HBE.out hb1
                    clear hb1 c0 c2 HRc HK4 e1 e2
                    by_cases e3 : Cd.chkE (O i).X (O i).cn = 0
                    · have HN2 : Hid (outsE O (i + 1) = 0) := by show _ = _; rw [outsE, if_pos HZ.out, HO2.out, e3]
                      rw [e3]
                      clear e3
                      go_wp2
                      go_roundw
                      case rel => exact ⟨i + 1, by omega, rfl, by go_num, HN2.out, HB1.out⟩
                      case measure => simp [intOf]; omega
                    · have HE2 : Hid (txE lk j X m O = Cd.chkE (O i).X (O i).cn) := by
                        show _ = _
                        rw [HBad.out (by rw [HO2.out]; exact e3), HO2.out]
                      clear HO2 HBad
                      generalize Cd.chkE (O i).X (O i).cn = ec at *
                      go_wp2
                      go_ret
                      exact ⟨by rw [HE2.out]; rfl, HBE1.out⟩
              · obtain rfl : i = m := by omega
                have hnn : ¬ ((i : Int) < i) := by omega
                have HE3 : Hid (txE lk j X i O = totE O i) := by show _ = _; rw [HE.out, if_neg (by simpa using HZ.out)]
                have HRT : Hid (wr.rangeAt w.heap.size 0 (txl lk ia j ic oa i oc)) := txl_range (HC.out _ HB.out)
                have HBE := hidV (Below.transS HB0.out HB.out)
                have HKT := hidV (rktotal_any lk ia j ic oa i oc O _ (HH.out.2.1.below HBE.out) hm)
                go_wp2_with (first | (refine wpList_load_mid rfl 25 _ rfl w.heap.size 0 rfl (txl lk ia j ic oa i oc) _ HRT.out Tryz.underlying25 rfl szTxR ?_) | fail)
                refine HKT.out.mono ?_
                rintro e v1 ⟨rfl, hb1⟩
                have HBE1 : Hid (Below w.heap.size w v1) := Below.transS HBE.out hb1
                clear hb1 hnn c2 HKT HRT
                go_wp2
                go_ret
                exact ⟨by rw [HE3.out]; rfl, HBE1.out⟩
  · have HE : Hid (txE lk n X m O = 4) := if_pos hN
    have HQ : Hid (¬ NumOk lk n m) := hN
    clear hN
    by_cases a1 : lk < 0
    · go_wp2
      go_ret
      exact ⟨by rw [HE.out]; rfl, HB0.out⟩
    · by_cases a2 : 1099511627776 < lk
      · go_wp2
        go_ret
        exact ⟨by rw [HE.out]; rfl, HB0.out⟩
      · by_cases a3 : (n : Int) < 1
        · go_wp2
          go_ret
          exact ⟨by rw [HE.out]; rfl, HB0.out⟩
        · by_cases a4 : 64 < (n : Int)
          · go_wp2
            go_ret
            exact ⟨by rw [HE.out]; rfl, HB0.out⟩
          · by_cases a5 : (m : Int) < 1
            · go_wp2
              go_ret
              exact ⟨by rw [HE.out]; rfl, HB0.out⟩
            · have a6 : 64 < (m : Int) := by
                have := HQ.out
                unfold NumOk at this
                omega
              go_wp2
              go_ret
              exact ⟨by rw [HE.out]; rfl, HB0.out⟩
end Go.Proofs.YtanchjfodcjlmaaGreatDoor
