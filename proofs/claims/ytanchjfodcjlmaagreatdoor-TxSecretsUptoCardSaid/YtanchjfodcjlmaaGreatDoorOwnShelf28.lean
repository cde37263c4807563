/- giveTx: the walk. -/
import Derived.Test.YtanchjfodcjlmaaGreatDoorOwnShelf21
import Derived.Test.YtanchjfodcjlmaaGreatDoorOwnShelf26
import Derived.Test.YtanchjfodcjlmaaGreatDoorOwnShelf27
namespace Go.Proofs.YtanchjfodcjlmaaGreatDoor
open Go.RowKit

/-- Its inputs are a row of their own, in whose block nothing else of it lies. -/
structure InsOw (w w' : World) (t : Tc5) (ia : Option Addr) (ic : Nat) (oa : Option Addr) (S : Nat → Option Addr × Nat) : Prop where
  own : w'.ownsRow w.heap.size 59 35 (.slice ia t.n ic) t.n (flatL (tiS t.X S) t.n)
  rest : ∀ w2 : World, (∀ g, w.heap.size ≤ g → g < w'.heap.size → (Value.slice ia t.n ic).ownBlock ≠ some g → w2.heap[g]? = w'.heap[g]?) → ToAt w2 oa t.m t.O ∧ ∀ k, k < t.n → SlAt w2 (S k).1 (t.X k).sn (t.Z k)
/-- giveTx's answer: the transaction anew. -/
def GvtR (t : Tc5) (w : World) (e : Ending) (w' : World) : Prop := ∃ ia ic oa oc S, e = .returned (.agg (txv t.lk ia t.n ic oa t.m oc)) ∧ TxAt w' t.lk t.n t.X t.Z t.m t.O ia oa S ∧ Below w.heap.size w w' ∧ InsOw w w' t ia ic oa S
set_option maxRecDepth 100000 in
set_option maxHeartbeats 6400000 in
theorem giveTx_any (t : Tc5) (S0 : Nat → Option Addr × Nat) (w : World) (h : TiAt w t.ia t.n t.X S0) (ho : ToAt w t.oa t.m t.O) (hs : ∀ k, k < t.n → SlAt w (S0 k).1 (t.X k).sn (t.Z k)) (hN : NoLong t.n t.X t.m t.O) (hk : ∀ i, i < t.m → ∀ j, j < (t.O i).cn → ((t.O i).X j).n ≤ 17592186043904) :
    Calls Tryz.prog 9 #[.agg (txv t.lk t.ia t.n t.ic t.oa t.m t.oc)] w (GvtR t w) := by
  have HV : Hid (TiAt w t.ia t.n t.X S0 ∧ ToAt w t.oa t.m t.O ∧ (∀ k, k < t.n → SlAt w (S0 k).1 (t.X k).sn (t.Z k)) ∧ NoLong t.n t.X t.m t.O ∧ ∀ i, i < t.m → ∀ j, j < (t.O i).cn → ((t.O i).X j).n ≤ 17592186043904) := ⟨h, ho, hs, hN, hk⟩
  have hnm := hN.nm
  have hg0 : GtS w (((w.alloc (.cells #[.int .i64 t.lk, .slice t.ia t.n t.ic, .slice t.oa t.m t.oc] 25)).alloc (.cells #[.int .i64 0, .slice none 0 0, .slice none 0 0] 35)).alloc (.cells #[.int .i64 t.lk, .slice none 0 0, .slice none 0 0] 35)) t ⟨none, 0, none, 0⟩ (fun _ => (none, 0)) (fun _ => (none, 0)) (fun _ => (0, 0)) 0 0 := by
    refine ⟨?_, ?_, ?_, World.ownsRow_nil _ _ _ _, fun k hk => by omega, World.ownsRow_nil _ _ _ _, fun k hk => by omega, fun k hk => by omega, fun k hk => by omega, fun k hk => by omega, fun k hk => by omega, (three_new w _ _ _).2⟩
    · rw [Below.heap_alloc _ _ _ (by simp; omega), Below.heap_alloc _ _ _ (by simp)]; exact heap_alloc_new w _
    · rw [Below.heap_alloc _ _ _ (by simp)]
      have := heap_alloc_new (w.alloc (.cells #[.int .i64 t.lk, .slice t.ia t.n t.ic, .slice t.oa t.m t.oc] 25)) (.cells #[.int .i64 0, .slice none 0 0, .slice none 0 0] 35)
      simpa using this
    · have := heap_alloc_new ((w.alloc (.cells #[.int .i64 t.lk, .slice t.ia t.n t.ic, .slice t.oa t.m t.oc] 25)).alloc (.cells #[.int .i64 0, .slice none 0 0, .slice none 0 0] 35)) (.cells #[.int .i64 t.lk, .slice none 0 0, .slice none 0 0] 35)
      have e2 : ((w.alloc (.cells #[.int .i64 t.lk, .slice t.ia t.n t.ic, .slice t.oa t.m t.oc] 25)).alloc (.cells #[.int .i64 0, .slice none 0 0, .slice none 0 0] 35)).heap.size = w.heap.size + 2 := by simp
      rw [e2] at this
      exact this
  clear h ho hs hN hk
  unfold txv
  go_enter Tryz.func9, Tryz.ntmps9
  go_wp2_with fail
  generalize ((w.alloc (.cells #[.int .i64 t.lk, .slice t.ia t.n t.ic, .slice t.oa t.m t.oc] 25)).alloc (.cells #[.int .i64 0, .slice none 0 0, .slice none 0 0] 35)).alloc (.cells #[.int .i64 t.lk, .slice none 0 0, .slice none 0 0] 35) = W0 at *
  go_loopw [4, 5] (fun iv _ wr => ∃ (i : Nat) (q : Gq) (S : Nat → Option Addr × Nat), i ≤ t.n ∧ iv = .int .i64 i ∧ q.oa = none ∧ q.oc = 0 ∧ GtS w wr t q S (fun _ => (none, 0)) (fun _ => (0, 0)) i 0) (fun iv _ _ => t.n + 1 - (intOf iv).toNat)
  case atStart => exact ⟨0, _, _, by omega, rfl, rfl, rfl, hg0⟩
  case round =>
    clear hg0
    obtain ⟨i, q, S, hi, rfl, hq1, hq2, hG⟩ := hrel
    have HG := hidV hG
    clear hG
    obtain ⟨b3, b4, k3, k4⟩ := HG.out.cells (fun _ _ => rfl)
    by_cases hlt : i < t.n
    · have hlt' : (i : Int) < t.n := by omega
      obtain ⟨b, off, ead, hc0⟩ := HV.out.1.at_ (by omega)
      have hr0 := hc0 i hlt
      have hbl : b < w.heap.size := World.block_lt_of_cell? w ⟨b, off + i * 35, none⟩ (by simpa using hr0 0 (.int .u8 ((t.X i).pt 0)) rfl)
      have hsn := HV.out.2.2.2.1.sn i hlt
      obtain ⟨sa, hsa⟩ : ∃ sa, (S0 i).1 = sa := ⟨_, rfl⟩
      obtain ⟨sc, hsc⟩ : ∃ sc, (S0 i).2 = sc := ⟨_, rfl⟩
      have hS0 := HV.out.2.2.1 i hlt
      rw [hsa, hsc] at hr0
      rw [hsa] at hS0
      clear hsa hsc hc0
      have HPK : Hid (Hb (t.X i).pt) := HV.out.1.pt i hlt
      rw [ead] at k3
      have HEA := hidV ead
      clear ead
      have HL : Hid (∀ w' : World, (∀ k, k < w.heap.size + 3 → w'.heap[k]? = wr.heap[k]?) → w'.cell? ⟨w.heap.size + 2, 1, none⟩ = some (.slice q.ia i q.ic) ∧ w'.cell? ⟨w.heap.size, 1, none⟩ = some (.slice (some ⟨b, off, none⟩) t.n t.ic) ∧ w'.cell? ⟨b, off + i * 35 + 33, none⟩ = some (.int .i64 (t.X i).br) ∧ w'.cell? ⟨b, off + i * 35 + 34, none⟩ = some (.slice sa (t.X i).sn sc) ∧ w'.rangeAt b (off + i * 35) (ptl (t.X i).pt (t.X i).n)) := fun w' hl => by
        obtain ⟨h1, _, h3, _⟩ := HG.out.cells hl
        have hr : w'.rangeAt b (off + i * 35) (til (t.X i) sa sc) := fun j v hv => by
          have h4 := range_below hr0 HG.out.below j v hv
          rw [World.cell?_of_block (a := ⟨b, off + i * 35 + j, none⟩) (hl b (by omega))]
          exact h4
        have hr2 : w'.rangeAt b (off + i * 35) (ptl (t.X i).pt (t.X i).n ++ [.int .i64 (t.X i).br, .slice sa (t.X i).sn sc]) := by
          have e : til (t.X i) sa sc = ptl (t.X i).pt (t.X i).n ++ [.int .i64 (t.X i).br, .slice sa (t.X i).sn sc] := by simp [til, ptl]
          rw [← e]; exact hr
        exact ⟨h1, by rw [h3, HEA.out], hr 33 _ (by rfl), hr 34 _ (by rfl), (range_app hr2).1⟩
      have S00 := HL.out wr.drew (fun _ _ => rfl)
      have HI : Hid (SlAt wr.drew sa (t.X i).sn (t.Z i)) := hS0.below HG.out.below.drew
      have HK0 : Hid (∀ w', Below wr.heap.size wr w' → GtS w w' t q S (fun _ => (none, 0)) (fun _ => (0, 0)) i 0) := fun w' hb => HG.out.keep hb
      have hbig := HG.out.big
      clear hr0 hS0
      go_wp2_with fail
      refine wp_region_noPanic ?_
      refine wp_region_K (S := fun w' => w'.cell? ⟨w.heap.size + 2, 1, none⟩ = some (.slice q.ia i q.ic) ∧ w'.cell? ⟨w.heap.size, 1, none⟩ = some (.slice (some ⟨b, off, none⟩) t.n t.ic) ∧ w'.cell? ⟨b, off + i * 35 + 33, none⟩ = some (.int .i64 (t.X i).br) ∧ w'.cell? ⟨b, off + i * 35 + 34, none⟩ = some (.slice sa (t.X i).sn sc) ∧ w'.rangeAt b (off + i * 35) (ptl (t.X i).pt (t.X i).n)) 26 (by kernel_rfl) S00 (fun hHeld => ?_)
      refine wpAnyK_take (by kernel_rfl) (i := 0) (oi := { dst := some 17, op := Go.Op.fieldAddr 35 (Go.Operand.tmp 3) 1, type := 0, pos := "law.go:43", after := #[], guard := none }) (v := ?_) rfl (by kernel_rfl) (by kernel_rfl) (by kernel_rfl) (fun _ _ _ h => h) (Or.inl ⟨by rfl, ?_⟩) (by assumption) ?_
      rotate_left
      · intro wz hSw; (try dsimp only at hSw); go_simp; (try with_reducible rfl)
      try simp only [Act.put, List.setIfInBounds_toArray, List.set_cons_zero, List.set_cons_succ]
      refine wpAnyK_take (by kernel_rfl) (i := 1) (oi := { dst := some 18, op := Go.Op.load 32 (Go.Operand.tmp 17), type := 32, pos := "law.go:43", after := #[{ on := 0, ground := Go.Ground.data }], guard := none }) (v := ?_) rfl (by kernel_rfl) (by kernel_rfl) (by kernel_rfl) (fun _ _ _ h => h) (Or.inl ⟨by rfl, ?_⟩) (by assumption) ?_
      rotate_left
      · intro wz hSw; (try dsimp only at hSw); go_simp; (try with_reducible rfl)
      try simp only [Act.put, List.setIfInBounds_toArray, List.set_cons_zero, List.set_cons_succ]
      refine wpAnyK_take (by kernel_rfl) (i := 2) (oi := { dst := some 19, op := Go.Op.fieldAddr 25 (Go.Operand.tmp 1) 1, type := 0, pos := "law.go:43", after := #[], guard := none }) (v := ?_) rfl (by kernel_rfl) (by kernel_rfl) (by kernel_rfl) (fun _ _ _ h => h) (Or.inl ⟨by rfl, ?_⟩) (by assumption) ?_
      rotate_left
      · intro wz hSw; (try dsimp only at hSw); go_simp; (try with_reducible rfl)
      try simp only [Act.put, List.setIfInBounds_toArray, List.set_cons_zero, List.set_cons_succ]
      refine wpAnyK_take (by kernel_rfl) (i := 3) (oi := { dst := some 20, op := Go.Op.load 22 (Go.Operand.tmp 19), type := 22, pos := "law.go:43", after := #[{ on := 2, ground := Go.Ground.data }], guard := none }) (v := ?_) rfl (by kernel_rfl) (by kernel_rfl) (by kernel_rfl) (fun _ _ _ h => h) (Or.inl ⟨by rfl, ?_⟩) (by assumption) ?_
      rotate_left
      · intro wz hSw; (try dsimp only at hSw); go_simp; (try with_reducible rfl)
      try simp only [Act.put, List.setIfInBounds_toArray, List.set_cons_zero, List.set_cons_succ]
      refine wpAnyK_take (by kernel_rfl) (i := 4) (oi := { dst := some 21, op := Go.Op.move (Go.Operand.tmp 4), type := 3, pos := "law.go:43", after := #[], guard := none }) (v := ?_) rfl (by kernel_rfl) (by kernel_rfl) (by kernel_rfl) (fun _ _ _ h => h) (Or.inl ⟨by rfl, ?_⟩) (by assumption) ?_
      rotate_left
      · intro wz hSw; (try dsimp only at hSw); go_simp; (try with_reducible rfl)
      try simp only [Act.put, List.setIfInBounds_toArray, List.set_cons_zero, List.set_cons_succ]
      refine wpAnyK_take (by kernel_rfl) (i := 5) (oi := { dst := some 22, op := Go.Op.indexAddr 22 (Go.Operand.tmp 20) (Go.Operand.tmp 21), type := 0, pos := "law.go:43", after := #[{ on := 3, ground := Go.Ground.data }, { on := 4, ground := Go.Ground.data }], guard := none }) (v := ?_) rfl (by kernel_rfl) (by kernel_rfl) (by kernel_rfl) (fun _ _ _ h => h) (Or.inl ⟨by rfl, ?_⟩) (by assumption) ?_
      rotate_left
      · intro wz hSw; (try dsimp only at hSw); go_simp; (try with_reducible rfl)
      try simp only [Act.put, List.setIfInBounds_toArray, List.set_cons_zero, List.set_cons_succ]
      refine wpAnyK_take (by kernel_rfl) (i := 6) (oi := { dst := some 23, op := Go.Op.fieldAddr 65 (Go.Operand.tmp 22) 0, type := 0, pos := "law.go:43", after := #[{ on := 5, ground := Go.Ground.data }], guard := none }) (v := ?_) rfl (by kernel_rfl) (by kernel_rfl) (by kernel_rfl) (fun _ _ _ h => h) (Or.inl ⟨by rfl, ?_⟩) (by assumption) ?_
      rotate_left
      · intro wz hSw; (try dsimp only at hSw); go_simp; (try with_reducible rfl)
      try simp only [Act.put, List.setIfInBounds_toArray, List.set_cons_zero, List.set_cons_succ]
      refine wpAnyK_take (by kernel_rfl) (i := 7) (oi := { dst := some 24, op := Go.Op.load 45 (Go.Operand.tmp 23), type := 45, pos := "law.go:43", after := #[{ on := 6, ground := Go.Ground.data }], guard := none }) rfl (by kernel_rfl) (by kernel_rfl) (by kernel_rfl) (fun _ _ _ h => h) (yieldsIf_load_mid (by rfl) _ _ rfl b (off + i * 35) rfl (ptl (t.X i).pt (t.X i).n) _ (fun _ h => h.2.2.2.2) Tryz.underlying45 rfl (szPtlR _ _)) (by assumption) ?_
      try simp only [Act.put, List.setIfInBounds_toArray, List.set_cons_zero, List.set_cons_succ]
      refine wpAnyK_take (by kernel_rfl) (i := 8) (oi := { dst := some 25, op := Go.Op.fieldAddr 25 (Go.Operand.tmp 1) 1, type := 0, pos := "law.go:43", after := #[], guard := none }) (v := ?_) rfl (by kernel_rfl) (by kernel_rfl) (by kernel_rfl) (fun _ _ _ h => h) (Or.inl ⟨by rfl, ?_⟩) (by assumption) ?_
      rotate_left
      · intro wz hSw; (try dsimp only at hSw); go_simp; (try with_reducible rfl)
      try simp only [Act.put, List.setIfInBounds_toArray, List.set_cons_zero, List.set_cons_succ]
      refine wpAnyK_take (by kernel_rfl) (i := 9) (oi := { dst := some 26, op := Go.Op.load 22 (Go.Operand.tmp 25), type := 22, pos := "law.go:43", after := #[{ on := 8, ground := Go.Ground.data }], guard := none }) (v := ?_) rfl (by kernel_rfl) (by kernel_rfl) (by kernel_rfl) (fun _ _ _ h => h) (Or.inl ⟨by rfl, ?_⟩) (by assumption) ?_
      rotate_left
      · intro wz hSw; (try dsimp only at hSw); go_simp; (try with_reducible rfl)
      try simp only [Act.put, List.setIfInBounds_toArray, List.set_cons_zero, List.set_cons_succ]
      refine wpAnyK_take (by kernel_rfl) (i := 10) (oi := { dst := some 27, op := Go.Op.move (Go.Operand.tmp 4), type := 3, pos := "law.go:43", after := #[], guard := none }) (v := ?_) rfl (by kernel_rfl) (by kernel_rfl) (by kernel_rfl) (fun _ _ _ h => h) (Or.inl ⟨by rfl, ?_⟩) (by assumption) ?_
      rotate_left
      · intro wz hSw; (try dsimp only at hSw); go_simp; (try with_reducible rfl)
      try simp only [Act.put, List.setIfInBounds_toArray, List.set_cons_zero, List.set_cons_succ]
      refine wpAnyK_take (by kernel_rfl) (i := 11) (oi := { dst := some 28, op := Go.Op.indexAddr 22 (Go.Operand.tmp 26) (Go.Operand.tmp 27), type := 0, pos := "law.go:43", after := #[{ on := 9, ground := Go.Ground.data }, { on := 10, ground := Go.Ground.data }], guard := none }) (v := ?_) rfl (by kernel_rfl) (by kernel_rfl) (by kernel_rfl) (fun _ _ _ h => h) (Or.inl ⟨by rfl, ?_⟩) (by assumption) ?_
      rotate_left
      · intro wz hSw; (try dsimp only at hSw); go_simp; (try with_reducible rfl)
      try simp only [Act.put, List.setIfInBounds_toArray, List.set_cons_zero, List.set_cons_succ]
      refine wpAnyK_take (by kernel_rfl) (i := 12) (oi := { dst := some 29, op := Go.Op.fieldAddr 65 (Go.Operand.tmp 28) 1, type := 0, pos := "law.go:43", after := #[{ on := 11, ground := Go.Ground.data }], guard := none }) (v := ?_) rfl (by kernel_rfl) (by kernel_rfl) (by kernel_rfl) (fun _ _ _ h => h) (Or.inl ⟨by rfl, ?_⟩) (by assumption) ?_
      rotate_left
      · intro wz hSw; (try dsimp only at hSw); go_simp; (try with_reducible rfl)
      try simp only [Act.put, List.setIfInBounds_toArray, List.set_cons_zero, List.set_cons_succ]
      refine wpAnyK_take (by kernel_rfl) (i := 13) (oi := { dst := some 30, op := Go.Op.load 3 (Go.Operand.tmp 29), type := 3, pos := "law.go:43", after := #[{ on := 12, ground := Go.Ground.data }], guard := none }) (v := ?_) rfl (by kernel_rfl) (by kernel_rfl) (by kernel_rfl) (fun _ _ _ h => h) (Or.inl ⟨by rfl, ?_⟩) (by assumption) ?_
      rotate_left
      · intro wz hSw; (try dsimp only at hSw); go_simp; (try with_reducible rfl)
      try simp only [Act.put, List.setIfInBounds_toArray, List.set_cons_zero, List.set_cons_succ]
      refine wpAnyK_take (by kernel_rfl) (i := 14) (oi := { dst := some 31, op := Go.Op.move (Go.Operand.tmp 5), type := 57, pos := "law.go:43", after := #[], guard := none }) (v := ?_) rfl (by kernel_rfl) (by kernel_rfl) (by kernel_rfl) (fun _ _ _ h => h) (Or.inl ⟨by rfl, ?_⟩) (by assumption) ?_
      rotate_left
      · intro wz hSw; (try dsimp only at hSw); go_simp; (try with_reducible rfl)
      try simp only [Act.put, List.setIfInBounds_toArray, List.set_cons_zero, List.set_cons_succ]
      refine wpAnyK_take (by kernel_rfl) (i := 15) (oi := { dst := some 32, op := Go.Op.fieldAddr 25 (Go.Operand.tmp 1) 1, type := 0, pos := "law.go:43", after := #[], guard := none }) (v := ?_) rfl (by kernel_rfl) (by kernel_rfl) (by kernel_rfl) (fun _ _ _ h => h) (Or.inl ⟨by rfl, ?_⟩) (by assumption) ?_
      rotate_left
      · intro wz hSw; (try dsimp only at hSw); go_simp; (try with_reducible rfl)
      try simp only [Act.put, List.setIfInBounds_toArray, List.set_cons_zero, List.set_cons_succ]
      refine wpAnyK_take (by kernel_rfl) (i := 16) (oi := { dst := some 33, op := Go.Op.load 22 (Go.Operand.tmp 32), type := 22, pos := "law.go:43", after := #[{ on := 15, ground := Go.Ground.data }], guard := none }) (v := ?_) rfl (by kernel_rfl) (by kernel_rfl) (by kernel_rfl) (fun _ _ _ h => h) (Or.inl ⟨by rfl, ?_⟩) (by assumption) ?_
      rotate_left
      · intro wz hSw; (try dsimp only at hSw); go_simp; (try with_reducible rfl)
      try simp only [Act.put, List.setIfInBounds_toArray, List.set_cons_zero, List.set_cons_succ]
      refine wpAnyK_take (by kernel_rfl) (i := 17) (oi := { dst := some 34, op := Go.Op.move (Go.Operand.tmp 4), type := 3, pos := "law.go:43", after := #[], guard := none }) (v := ?_) rfl (by kernel_rfl) (by kernel_rfl) (by kernel_rfl) (fun _ _ _ h => h) (Or.inl ⟨by rfl, ?_⟩) (by assumption) ?_
      rotate_left
      · intro wz hSw; (try dsimp only at hSw); go_simp; (try with_reducible rfl)
      try simp only [Act.put, List.setIfInBounds_toArray, List.set_cons_zero, List.set_cons_succ]
      refine wpAnyK_take (by kernel_rfl) (i := 18) (oi := { dst := some 35, op := Go.Op.indexAddr 22 (Go.Operand.tmp 33) (Go.Operand.tmp 34), type := 0, pos := "law.go:43", after := #[{ on := 16, ground := Go.Ground.data }, { on := 17, ground := Go.Ground.data }], guard := none }) (v := ?_) rfl (by kernel_rfl) (by kernel_rfl) (by kernel_rfl) (fun _ _ _ h => h) (Or.inl ⟨by rfl, ?_⟩) (by assumption) ?_
      rotate_left
      · intro wz hSw; (try dsimp only at hSw); go_simp; (try with_reducible rfl)
      try simp only [Act.put, List.setIfInBounds_toArray, List.set_cons_zero, List.set_cons_succ]
      refine wpAnyK_take (by kernel_rfl) (i := 19) (oi := { dst := some 36, op := Go.Op.fieldAddr 65 (Go.Operand.tmp 35) 2, type := 0, pos := "law.go:43", after := #[{ on := 18, ground := Go.Ground.data }], guard := none }) (v := ?_) rfl (by kernel_rfl) (by kernel_rfl) (by kernel_rfl) (fun _ _ _ h => h) (Or.inl ⟨by rfl, ?_⟩) (by assumption) ?_
      rotate_left
      · intro wz hSw; (try dsimp only at hSw); go_simp; (try with_reducible rfl)
      try simp only [Act.put, List.setIfInBounds_toArray, List.set_cons_zero, List.set_cons_succ]
      refine wpAnyK_take (by kernel_rfl) (i := 20) (oi := { dst := some 37, op := Go.Op.load 57 (Go.Operand.tmp 36), type := 57, pos := "law.go:43", after := #[{ on := 19, ground := Go.Ground.data }], guard := none }) (v := ?_) rfl (by kernel_rfl) (by kernel_rfl) (by kernel_rfl) (fun _ _ _ h => h) (Or.inl ⟨by rfl, ?_⟩) (by assumption) ?_
      rotate_left
      · intro wz hSw; (try dsimp only at hSw); go_simp; (try with_reducible rfl)
      try simp only [Act.put, List.setIfInBounds_toArray, List.set_cons_zero, List.set_cons_succ]
      refine wpAnyK_ready (rs := [21]) (by kernel_rfl) (by simp) ?_
      refine (AllReadyK.cons (o := { dst := some 38, op := Go.Op.call { callee := Go.Callee.builtin Go.Builtin.append, args := #[Go.Operand.tmp 31, Go.Operand.tmp 37], argTypes := #[57, 57] }, type := 57, pos := "law.go:43", after := #[{ on := 14, ground := Go.Ground.data }, { on := 20, ground := Go.Ground.data }], guard := none }) rfl (fun K hK => ?_) AllReadyK.nil)
      refine step_append_bV rfl (.tmp 31) (.tmp 37) rfl (t.X i).sn (t.Z i) sa sc (by rfl) (by rfl) HI.out (by omega) ?_
      intro ka kc w1 hok hb1
      have hb1' : Below wr.heap.size wr w1 := (Below.refl _ wr).drew.trans hb1
      have S1 := HL.out w1 (fun k hk => hb1'.block k (by omega))
      have HOK : Hid (w1.ownsRow wr.heap.size 5 1 (.slice ka (t.X i).sn kc) (t.X i).sn (bl (t.Z i) (t.X i).sn) ∧ Below wr.heap.size wr w1) := ⟨hok, hb1'⟩
      clear hok hb1
      refine hK.out _ _ (fun _ => S1) (fun _ => ?_)
      clear hK K
      try simp only [Act.put, List.setIfInBounds_toArray, List.set_cons_zero, List.set_cons_succ]
      refine wpAnyK_take (by kernel_rfl) (i := 22) (oi := { dst := some 39, op := Go.Op.build 59 #[(0, Go.Operand.tmp 24), (1, Go.Operand.tmp 30), (2, Go.Operand.tmp 38)], type := 59, pos := "law.go:43", after := #[{ on := 7, ground := Go.Ground.data }, { on := 13, ground := Go.Ground.data }, { on := 21, ground := Go.Ground.data }], guard := none }) (v := .agg (tiv (t.X i) ka kc)) rfl (by kernel_rfl) (by kernel_rfl) (by kernel_rfl) (fun _ _ _ h => h) (Or.inl ⟨by rfl, ?_⟩) (by assumption) ?_
      · intro wz hSw; (try dsimp only at hSw); kernel_rfl
      try simp only [Act.put, List.setIfInBounds_toArray, List.set_cons_zero, List.set_cons_succ]
      refine wpAnyK_ready (rs := [23]) (by kernel_rfl) (by simp) ?_
      refine (AllReadyK.cons (o := { dst := some 40, op := Go.Op.buildSlice 32 1 #[(0, Go.Operand.tmp 39)], type := 32, pos := "law.go:43", after := #[{ on := 22, ground := Go.Ground.data }], guard := none }) rfl (fun K hK => ?_) AllReadyK.nil)
      refine step_sliceTi rfl (.tmp 39) rfl (t.X i) ka kc (by rfl) ?_
      have hb2 : Below wr.heap.size wr (w1.alloc (.cells (tiv (t.X i) ka kc) 59)) := hb1'.alloc hb1'.size _
      have S2 := HL.out (w1.alloc (.cells (tiv (t.X i) ka kc) 59)) (fun k hk => hb2.block k (by omega))
      have HG2 : Hid (GtS w (w1.alloc (.cells (tiv (t.X i) ka kc) 59)) t q S (fun _ => (none, 0)) (fun _ => (0, 0)) i 0 ∧ (w1.alloc (.cells (tiv (t.X i) ka kc) 59)).ownsRow (w.heap.size + 3) 5 1 (.slice ka (t.X i).sn kc) (t.X i).sn (bl (t.Z i) (t.X i).sn)) := ⟨HK0.out _ hb2, own_low (own_below HOK.out.1 ((Below.refl _ w1).alloc (Nat.le_refl _) _)) (by omega)⟩
      refine hK.out _ _ (fun _ => S2) (fun _ => ?_)
      clear hK K
      try simp only [Act.put, List.setIfInBounds_toArray, List.set_cons_zero, List.set_cons_succ]
      refine wpAnyK_ready (rs := [24]) (by kernel_rfl) (by simp) ?_
      refine (AllReadyK.cons (o := { dst := some 41, op := Go.Op.call { callee := Go.Callee.builtin Go.Builtin.append, args := #[Go.Operand.tmp 18, Go.Operand.tmp 40], argTypes := #[32, 32] }, type := 32, pos := "law.go:43", after := #[{ on := 1, ground := Go.Ground.data }, { on := 23, ground := Go.Ground.data }, { on := 21, ground := Go.Ground.chain }], guard := none }) rfl (fun K hK => ?_) AllReadyK.nil)
      refine step_append_Ti rfl (.tmp 18) (.tmp 40) rfl (w.heap.size + 3) w1.heap.size (.slice q.ia i q.ic) i (flatL (tiS t.X S) i) (t.X i) ka kc (by rfl) (by rfl) HG2.out.1.ins HG2.out.1.big (heap_alloc_new w1 _) (by omega) ?_
      intro va vc w3 hown hgrow
      have hlo := grown_low HG2.out.1.ins hgrow HG2.out.1.big
      have S3 := HL.out w3 (fun k hk => by rw [hlo k hk]; exact hb2.block k (by omega))
      have HN : Hid (GtS w (w3.setCell ⟨w.heap.size + 2, 1, none⟩ (.slice va (i + 1) vc)) t ⟨va, vc, q.oa, q.oc⟩ (fun k => if k = i then (ka, kc) else S k) (fun _ => (none, 0)) (fun _ => (0, 0)) (i + 1) 0) := HG2.out.1.pushI HG2.out.2 hown hgrow
      have hx3 : w3.heap[w.heap.size + 2]? = some (.cells #[.int .i64 t.lk, .slice q.ia i q.ic, .slice q.oa 0 q.oc] 35 (0, 0)) := by rw [hlo _ (by omega)]; exact HG2.out.1.box
      have f3 : ∀ o, w3.frozen? ⟨w.heap.size + 2, o, none⟩ = false := fun o => frozen_of_row _ _ o _ _ hx3
      refine hK.out _ _ (fun _ => S3) (fun _ => ?_)
      clear hK K hown hgrow hlo HG HG2 HL S00 S1 S2 hx3 HOK HK0 HI hb2 hb1'
      try simp only [Act.put, List.setIfInBounds_toArray, List.set_cons_zero, List.set_cons_succ]
      refine wpAnyK_take (by kernel_rfl) (i := 25) (oi := { dst := some 42, op := Go.Op.fieldAddr 35 (Go.Operand.tmp 3) 1, type := 0, pos := "law.go:43", after := #[{ on := 0, ground := Go.Ground.phase }, { on := 1, ground := Go.Ground.phase }, { on := 2, ground := Go.Ground.phase }, { on := 3, ground := Go.Ground.phase }, { on := 4, ground := Go.Ground.phase }, { on := 5, ground := Go.Ground.phase }, { on := 6, ground := Go.Ground.phase }, { on := 7, ground := Go.Ground.phase }, { on := 8, ground := Go.Ground.phase }, { on := 9, ground := Go.Ground.phase }, { on := 10, ground := Go.Ground.phase }, { on := 11, ground := Go.Ground.phase }, { on := 12, ground := Go.Ground.phase }, { on := 13, ground := Go.Ground.phase }, { on := 14, ground := Go.Ground.phase }, { on := 15, ground := Go.Ground.phase }, { on := 16, ground := Go.Ground.phase }, { on := 17, ground := Go.Ground.phase }, { on := 18, ground := Go.Ground.phase }, { on := 19, ground := Go.Ground.phase }, { on := 20, ground := Go.Ground.phase }, { on := 21, ground := Go.Ground.phase }, { on := 22, ground := Go.Ground.phase }, { on := 23, ground := Go.Ground.phase }, { on := 24, ground := Go.Ground.phase }], guard := none }) (v := ?_) rfl (by kernel_rfl) (by kernel_rfl) (by kernel_rfl) (fun _ _ _ h => h) (Or.inl ⟨by rfl, ?_⟩) (by assumption) ?_
      rotate_left
      · intro wz hSw; (try dsimp only at hSw); go_simp; (try with_reducible rfl)
      try simp only [Act.put, List.setIfInBounds_toArray, List.set_cons_zero, List.set_cons_succ]
      obtain ⟨g1, _⟩ := S3
      refine wpAnyK_ready (rs := [26]) (by kernel_rfl) (by simp) ?_
      refine (AllReadyK.cons (o := { dst := none, op := Go.Op.store 32 (Go.Operand.tmp 42) (Go.Operand.tmp 41), type := 0, pos := "law.go:43", after := #[{ on := 25, ground := Go.Ground.data }, { on := 24, ground := Go.Ground.data }, { on := 24, ground := Go.Ground.chain }, { on := 0, ground := Go.Ground.phase }, { on := 1, ground := Go.Ground.phase }, { on := 2, ground := Go.Ground.phase }, { on := 3, ground := Go.Ground.phase }, { on := 4, ground := Go.Ground.phase }, { on := 5, ground := Go.Ground.phase }, { on := 6, ground := Go.Ground.phase }, { on := 7, ground := Go.Ground.phase }, { on := 8, ground := Go.Ground.phase }, { on := 9, ground := Go.Ground.phase }, { on := 10, ground := Go.Ground.phase }, { on := 11, ground := Go.Ground.phase }, { on := 12, ground := Go.Ground.phase }, { on := 13, ground := Go.Ground.phase }, { on := 14, ground := Go.Ground.phase }, { on := 15, ground := Go.Ground.phase }, { on := 16, ground := Go.Ground.phase }, { on := 17, ground := Go.Ground.phase }, { on := 18, ground := Go.Ground.phase }, { on := 19, ground := Go.Ground.phase }, { on := 20, ground := Go.Ground.phase }, { on := 21, ground := Go.Ground.phase }, { on := 22, ground := Go.Ground.phase }, { on := 23, ground := Go.Ground.phase }, { on := 24, ground := Go.Ground.phase }], guard := none }) rfl (fun K hK => ?_) AllReadyK.nil)
      go_simp
      refine hK.out _ _ (fun h => absurd rfl h) (fun _ => ?_)
      clear hK K
      refine wpAnyK_done (by kernel_rfl) (NoPanic.normal ?_) _
      try simp only [Act.put, List.setIfInBounds_toArray, List.set_cons_zero, List.set_cons_succ]
      clear hHeld g1 f3
      go_wp2
      go_roundw
      case rel => exact ⟨i + 1, ⟨va, vc, q.oa, q.oc⟩, _, by omega, by go_num, hq1, hq2, HN.out⟩
      case measure => simp [intOf]; omega
    · have hin : i = t.n := by omega
      have hnn : ¬ ((i : Int) < t.n) := by omega
      have HG2 : Hid (GtS w wr t q S (fun _ => (none, 0)) (fun _ => (0, 0)) t.n 0) := by rw [← hin]; exact HG.out
      clear HG hin b3 b4
      generalize wr = wo at *
      go_wp2_with fail
      have h20 := HG2.out
      clear HG2 k3 k4
      go_loopw [6] (fun iv wr => ∃ (j : Nat) (q' : Gq) (A : Nat → Option Addr × Nat) (I : Nat → Nat × Nat), j ≤ t.m ∧ iv = .int .i64 j ∧ GtS w wr t q' S A I t.n j) (fun iv _ => t.m + 1 - (intOf iv).toNat)
      case atStart => exact ⟨0, q, _, _, by omega, rfl, h20⟩
      case round =>
        clear h20
        obtain ⟨j, q', A, I, hj, rfl, hG⟩ := hrel
        have HG := hidV hG
        clear hG
        obtain ⟨b3, b4, k3, k4⟩ := HG.out.cells (fun _ _ => rfl)
        by_cases hlt : j < t.m
        · have hlt' : (j : Int) < t.m := by omega
          obtain ⟨b, off, ead, hc0⟩ := HV.out.2.1.at_ (by omega)
          obtain ⟨ca, cc, hr0, hB0, hcn⟩ := hc0 j hlt
          have hcs := HV.out.2.2.2.1.cn j hlt
          have HKB := hidV (HV.out.2.2.2.2 j hlt)
          have d0 : w.cell? ⟨b, off + j * 2, none⟩ = some (.int .i64 (t.O j).am) := hr0 0 _ rfl
          have d1 : w.cell? ⟨b, off + j * 2 + 1, none⟩ = some (.slice ca (t.O j).cn cc) := hr0 1 _ rfl
          have hbl : b < w.heap.size := World.block_lt_of_cell? w ⟨b, off + j * 2, none⟩ d0
          rw [ead] at k4
          have HEA := hidV ead
          clear ead
          have HL : Hid (∀ w' : World, (∀ k, k < w.heap.size + 3 → w'.heap[k]? = wr.heap[k]?) → w'.cell? ⟨w.heap.size + 2, 2, none⟩ = some (.slice q'.oa j q'.oc) ∧ w'.cell? ⟨w.heap.size, 2, none⟩ = some (.slice (some ⟨b, off, none⟩) t.m t.oc) ∧ w'.cell? ⟨b, off + j * 2, none⟩ = some (.int .i64 (t.O j).am) ∧ w'.cell? ⟨b, off + j * 2 + 1, none⟩ = some (.slice ca (t.O j).cn cc)) := fun w' hl => by
            obtain ⟨_, h1, _, h3⟩ := HG.out.cells hl
            have hbb := (hl b (by omega)).trans (HG.out.below.block b hbl)
            exact ⟨h1, by rw [h3, HEA.out], by rw [World.cell?_of_block (a := ⟨b, _, none⟩) hbb]; exact d0, by rw [World.cell?_of_block (a := ⟨b, _, none⟩) hbb]; exact d1⟩
          have S00 := HL.out wr.drew (fun _ _ => rfl)
          have HI : Hid (Cd.BrAt wr.drew ca (t.O j).cn (t.O j).X) := hB0.below HG.out.below.drew
          have HK0 : Hid (∀ w', Below wr.heap.size wr w' → GtS w w' t q' S A I t.n j) := fun w' hb => HG.out.keep hb
          have hbig := HG.out.big
          clear hc0 hr0 hB0 d0 d1
          go_wp2_with fail
          refine wp_region_noPanic ?_
          refine wp_region_K (S := fun w' => w'.cell? ⟨w.heap.size + 2, 2, none⟩ = some (.slice q'.oa j q'.oc) ∧ w'.cell? ⟨w.heap.size, 2, none⟩ = some (.slice (some ⟨b, off, none⟩) t.m t.oc) ∧ w'.cell? ⟨b, off + j * 2, none⟩ = some (.int .i64 (t.O j).am) ∧ w'.cell? ⟨b, off + j * 2 + 1, none⟩ = some (.slice ca (t.O j).cn cc)) 19 (by kernel_rfl) S00 (fun hHeld => ?_)
          refine wpAnyK_take (by kernel_rfl) (i := 0) (oi := { dst := some 50, op := Go.Op.fieldAddr 35 (Go.Operand.tmp 3) 2, type := 0, pos := "law.go:46", after := #[], guard := none }) (v := ?_) rfl (by kernel_rfl) (by kernel_rfl) (by kernel_rfl) (fun _ _ _ h => h) (Or.inl ⟨by rfl, ?_⟩) (by assumption) ?_
          rotate_left
          · intro wz hSw; (try dsimp only at hSw); go_simp; (try with_reducible rfl)
          try simp only [Act.put, List.setIfInBounds_toArray, List.set_cons_zero, List.set_cons_succ]
          refine wpAnyK_take (by kernel_rfl) (i := 1) (oi := { dst := some 51, op := Go.Op.load 33 (Go.Operand.tmp 50), type := 33, pos := "law.go:46", after := #[{ on := 0, ground := Go.Ground.data }], guard := none }) (v := ?_) rfl (by kernel_rfl) (by kernel_rfl) (by kernel_rfl) (fun _ _ _ h => h) (Or.inl ⟨by rfl, ?_⟩) (by assumption) ?_
          rotate_left
          · intro wz hSw; (try dsimp only at hSw); go_simp; (try with_reducible rfl)
          try simp only [Act.put, List.setIfInBounds_toArray, List.set_cons_zero, List.set_cons_succ]
          refine wpAnyK_take (by kernel_rfl) (i := 2) (oi := { dst := some 52, op := Go.Op.fieldAddr 25 (Go.Operand.tmp 1) 2, type := 0, pos := "law.go:46", after := #[], guard := none }) (v := ?_) rfl (by kernel_rfl) (by kernel_rfl) (by kernel_rfl) (fun _ _ _ h => h) (Or.inl ⟨by rfl, ?_⟩) (by assumption) ?_
          rotate_left
          · intro wz hSw; (try dsimp only at hSw); go_simp; (try with_reducible rfl)
          try simp only [Act.put, List.setIfInBounds_toArray, List.set_cons_zero, List.set_cons_succ]
          refine wpAnyK_take (by kernel_rfl) (i := 3) (oi := { dst := some 53, op := Go.Op.load 23 (Go.Operand.tmp 52), type := 23, pos := "law.go:46", after := #[{ on := 2, ground := Go.Ground.data }], guard := none }) (v := ?_) rfl (by kernel_rfl) (by kernel_rfl) (by kernel_rfl) (fun _ _ _ h => h) (Or.inl ⟨by rfl, ?_⟩) (by assumption) ?_
          rotate_left
          · intro wz hSw; (try dsimp only at hSw); go_simp; (try with_reducible rfl)
          try simp only [Act.put, List.setIfInBounds_toArray, List.set_cons_zero, List.set_cons_succ]
          refine wpAnyK_take (by kernel_rfl) (i := 4) (oi := { dst := some 54, op := Go.Op.move (Go.Operand.tmp 6), type := 3, pos := "law.go:46", after := #[], guard := none }) (v := ?_) rfl (by kernel_rfl) (by kernel_rfl) (by kernel_rfl) (fun _ _ _ h => h) (Or.inl ⟨by rfl, ?_⟩) (by assumption) ?_
          rotate_left
          · intro wz hSw; (try dsimp only at hSw); go_simp; (try with_reducible rfl)
          try simp only [Act.put, List.setIfInBounds_toArray, List.set_cons_zero, List.set_cons_succ]
          refine wpAnyK_take (by kernel_rfl) (i := 5) (oi := { dst := some 55, op := Go.Op.indexAddr 23 (Go.Operand.tmp 53) (Go.Operand.tmp 54), type := 0, pos := "law.go:46", after := #[{ on := 3, ground := Go.Ground.data }, { on := 4, ground := Go.Ground.data }], guard := none }) (v := ?_) rfl (by kernel_rfl) (by kernel_rfl) (by kernel_rfl) (fun _ _ _ h => h) (Or.inl ⟨by rfl, ?_⟩) (by assumption) ?_
          rotate_left
          · intro wz hSw; (try dsimp only at hSw); go_simp; (try with_reducible rfl)
          try simp only [Act.put, List.setIfInBounds_toArray, List.set_cons_zero, List.set_cons_succ]
          refine wpAnyK_take (by kernel_rfl) (i := 6) (oi := { dst := some 56, op := Go.Op.fieldAddr 70 (Go.Operand.tmp 55) 0, type := 0, pos := "law.go:46", after := #[{ on := 5, ground := Go.Ground.data }], guard := none }) (v := ?_) rfl (by kernel_rfl) (by kernel_rfl) (by kernel_rfl) (fun _ _ _ h => h) (Or.inl ⟨by rfl, ?_⟩) (by assumption) ?_
          rotate_left
          · intro wz hSw; (try dsimp only at hSw); go_simp; (try with_reducible rfl)
          try simp only [Act.put, List.setIfInBounds_toArray, List.set_cons_zero, List.set_cons_succ]
          refine wpAnyK_take (by kernel_rfl) (i := 7) (oi := { dst := some 57, op := Go.Op.load 3 (Go.Operand.tmp 56), type := 3, pos := "law.go:46", after := #[{ on := 6, ground := Go.Ground.data }], guard := none }) (v := ?_) rfl (by kernel_rfl) (by kernel_rfl) (by kernel_rfl) (fun _ _ _ h => h) (Or.inl ⟨by rfl, ?_⟩) (by assumption) ?_
          rotate_left
          · intro wz hSw; (try dsimp only at hSw); go_simp; (try with_reducible rfl)
          try simp only [Act.put, List.setIfInBounds_toArray, List.set_cons_zero, List.set_cons_succ]
          refine wpAnyK_take (by kernel_rfl) (i := 8) (oi := { dst := some 58, op := Go.Op.fieldAddr 25 (Go.Operand.tmp 1) 2, type := 0, pos := "law.go:46", after := #[], guard := none }) (v := ?_) rfl (by kernel_rfl) (by kernel_rfl) (by kernel_rfl) (fun _ _ _ h => h) (Or.inl ⟨by rfl, ?_⟩) (by assumption) ?_
          rotate_left
          · intro wz hSw; (try dsimp only at hSw); go_simp; (try with_reducible rfl)
          try simp only [Act.put, List.setIfInBounds_toArray, List.set_cons_zero, List.set_cons_succ]
          refine wpAnyK_take (by kernel_rfl) (i := 9) (oi := { dst := some 59, op := Go.Op.load 23 (Go.Operand.tmp 58), type := 23, pos := "law.go:46", after := #[{ on := 8, ground := Go.Ground.data }], guard := none }) (v := ?_) rfl (by kernel_rfl) (by kernel_rfl) (by kernel_rfl) (fun _ _ _ h => h) (Or.inl ⟨by rfl, ?_⟩) (by assumption) ?_
          rotate_left
          · intro wz hSw; (try dsimp only at hSw); go_simp; (try with_reducible rfl)
          try simp only [Act.put, List.setIfInBounds_toArray, List.set_cons_zero, List.set_cons_succ]
          refine wpAnyK_take (by kernel_rfl) (i := 10) (oi := { dst := some 60, op := Go.Op.move (Go.Operand.tmp 6), type := 3, pos := "law.go:46", after := #[], guard := none }) (v := ?_) rfl (by kernel_rfl) (by kernel_rfl) (by kernel_rfl) (fun _ _ _ h => h) (Or.inl ⟨by rfl, ?_⟩) (by assumption) ?_
          rotate_left
          · intro wz hSw; (try dsimp only at hSw); go_simp; (try with_reducible rfl)
          try simp only [Act.put, List.setIfInBounds_toArray, List.set_cons_zero, List.set_cons_succ]
          refine wpAnyK_take (by kernel_rfl) (i := 11) (oi := { dst := some 61, op := Go.Op.indexAddr 23 (Go.Operand.tmp 59) (Go.Operand.tmp 60), type := 0, pos := "law.go:46", after := #[{ on := 9, ground := Go.Ground.data }, { on := 10, ground := Go.Ground.data }], guard := none }) (v := ?_) rfl (by kernel_rfl) (by kernel_rfl) (by kernel_rfl) (fun _ _ _ h => h) (Or.inl ⟨by rfl, ?_⟩) (by assumption) ?_
          rotate_left
          · intro wz hSw; (try dsimp only at hSw); go_simp; (try with_reducible rfl)
          try simp only [Act.put, List.setIfInBounds_toArray, List.set_cons_zero, List.set_cons_succ]
          refine wpAnyK_take (by kernel_rfl) (i := 12) (oi := { dst := some 62, op := Go.Op.fieldAddr 70 (Go.Operand.tmp 61) 1, type := 0, pos := "law.go:46", after := #[{ on := 11, ground := Go.Ground.data }], guard := none }) (v := ?_) rfl (by kernel_rfl) (by kernel_rfl) (by kernel_rfl) (fun _ _ _ h => h) (Or.inl ⟨by rfl, ?_⟩) (by assumption) ?_
          rotate_left
          · intro wz hSw; (try dsimp only at hSw); go_simp; (try with_reducible rfl)
          try simp only [Act.put, List.setIfInBounds_toArray, List.set_cons_zero, List.set_cons_succ]
          refine wpAnyK_take (by kernel_rfl) (i := 13) (oi := { dst := some 63, op := Go.Op.load 68 (Go.Operand.tmp 62), type := 68, pos := "law.go:46", after := #[{ on := 12, ground := Go.Ground.data }], guard := none }) (v := .agg #[.slice ca (t.O j).cn cc]) rfl (by kernel_rfl) (by kernel_rfl) (by kernel_rfl) (fun _ _ _ h => h) (Or.inl ⟨by rfl, ?_⟩) (by assumption) ?_
          · intro wz hSw; (try dsimp only at hSw); have h1 := hSw.2.2.2; go_simp; try rfl
          try simp only [Act.put, List.setIfInBounds_toArray, List.set_cons_zero, List.set_cons_succ]
          refine wpAnyK_ready (rs := [14]) (by kernel_rfl) (by simp) ?_
          refine (AllReadyK.cons (o := { dst := some 64, op := Go.Op.call { callee := Go.Callee.value (Go.Operand.func 26), args := #[Go.Operand.tmp 63], argTypes := #[68] }, type := 76, pos := "law.go:46", after := #[{ on := 13, ground := Go.Ground.data }], guard := none }) rfl (fun K hK => ?_) AllReadyK.nil)
          go_simp
          refine (Cd.give_inX ca (t.O j).cn cc (t.O j).X wr.drew HI.out (by omega) HKB.out).mono ?_
          rintro e w1 ⟨ca', cc', rfl, hI1, hb1, hn1⟩
          have hb1' : Below wr.heap.size wr w1 := (Below.refl _ wr).drew.trans hb1
          have S1 := HL.out w1 (fun k hk => hb1'.block k (by omega))
          have HC1 : Hid (Cd.BrIn w1 wr.heap.size ca' (t.O j).cn (t.O j).X ∧ (ca' = none → (t.O j).cn = 0 ∧ cc' = 0)) := ⟨hI1, hn1⟩
          clear hI1 hb1 hn1
          refine hK.out _ _ (fun _ => S1) (fun _ => ?_)
          clear hK K
          try simp only [Act.put, List.setIfInBounds_toArray, List.set_cons_zero, List.set_cons_succ]
          refine wpAnyK_take (by kernel_rfl) (i := 15) (oi := { dst := some 65, op := Go.Op.build 79 #[(0, Go.Operand.tmp 57), (1, Go.Operand.tmp 64)], type := 79, pos := "law.go:46", after := #[{ on := 7, ground := Go.Ground.data }, { on := 14, ground := Go.Ground.data }], guard := none }) (v := .agg #[.int .i64 (t.O j).am, .slice ca' (t.O j).cn cc']) rfl (by kernel_rfl) (by kernel_rfl) (by kernel_rfl) (fun _ _ _ h => h) (Or.inl ⟨by rfl, ?_⟩) (by assumption) ?_
          · intro wz hSw; (try dsimp only at hSw); kernel_rfl
          try simp only [Act.put, List.setIfInBounds_toArray, List.set_cons_zero, List.set_cons_succ]
          refine wpAnyK_ready (rs := [16]) (by kernel_rfl) (by simp) ?_
          refine (AllReadyK.cons (o := { dst := some 66, op := Go.Op.buildSlice 33 1 #[(0, Go.Operand.tmp 65)], type := 33, pos := "law.go:46", after := #[{ on := 15, ground := Go.Ground.data }], guard := none }) rfl (fun K hK => ?_) AllReadyK.nil)
          refine step_sliceTo rfl (.tmp 65) rfl (t.O j).am ca' (t.O j).cn cc' (by rfl) ?_
          intro g w2 hg2 hl2 hb2
          have hb2' : Below wr.heap.size wr w2 := Below.transS hb1' hb2
          have S2 := HL.out w2 (fun k hk => hb2'.block k (by omega))
          have HG2 : Hid (GtS w w2 t q' S A I t.n j ∧ w2.heap[g]? = some (.cells #[.int .i64 (t.O j).am, .slice ca' (t.O j).cn cc'] 79 (0, 0)) ∧ (∀ w' : World, (∀ k, wr.heap.size ≤ k → k < w1.heap.size → w'.heap[k]? = w2.heap[k]?) → Cd.BrAt w' ca' (t.O j).cn (t.O j).X) ∧ w1.heap.size ≤ w2.heap.size) := ⟨HK0.out _ hb2', hg2, fun w' hw => HC1.out.1 w' (fun k h1 h2 => by rw [hw k h1 h2]; exact hb2.block k h2), hb2.size⟩
          clear hg2 hl2 hb2
          refine hK.out _ _ (fun _ => S2) (fun _ => ?_)
          clear hK K
          try simp only [Act.put, List.setIfInBounds_toArray, List.set_cons_zero, List.set_cons_succ]
          refine wpAnyK_ready (rs := [17]) (by kernel_rfl) (by simp) ?_
          refine (AllReadyK.cons (o := { dst := some 67, op := Go.Op.call { callee := Go.Callee.builtin Go.Builtin.append, args := #[Go.Operand.tmp 51, Go.Operand.tmp 66], argTypes := #[33, 33] }, type := 33, pos := "law.go:46", after := #[{ on := 1, ground := Go.Ground.data }, { on := 16, ground := Go.Ground.data }, { on := 14, ground := Go.Ground.chain }], guard := none }) rfl (fun K hK => ?_) AllReadyK.nil)
          refine step_append_To rfl (.tmp 51) (.tmp 66) rfl (w.heap.size + 3) g (.slice q'.oa j q'.oc) j (flatL (toS5 t.O A) j) (t.O j).am ca' (t.O j).cn cc' (by rfl) (by rfl) HG2.out.1.outs HG2.out.1.big HG2.out.2.1 (by omega) ?_
          intro va vc w3 hown hgrow hloc
          have hlo := grown_low HG2.out.1.outs hgrow HG2.out.1.big
          have S3 := HL.out w3 (fun k hk => by rw [hlo k hk]; exact hb2'.block k (by omega))
          have HN : Hid (GtS w (w3.setCell ⟨w.heap.size + 2, 2, none⟩ (.slice va (j + 1) vc)) t ⟨q'.ia, q'.ic, va, vc⟩ S (fun k => if k = j then (ca', cc') else A k) (fun k => if k = j then (wr.heap.size, w1.heap.size) else I k) t.n (j + 1)) :=
            HG2.out.1.pushO hown hgrow hloc HG2.out.2.2.1 (by omega) HG2.out.2.2.2 (fun g' e => (HG.out.outs.lt g' e).2) (fun g' e => (HG.out.ins.lt g' e).2) HC1.out.2
          have hx3 : w3.heap[w.heap.size + 2]? = some (.cells #[.int .i64 t.lk, .slice q'.ia t.n q'.ic, .slice q'.oa j q'.oc] 35 (0, 0)) := by rw [hlo _ (by omega)]; exact HG2.out.1.box
          have f3 : ∀ o, w3.frozen? ⟨w.heap.size + 2, o, none⟩ = false := fun o => frozen_of_row _ _ o _ _ hx3
          refine hK.out _ _ (fun _ => S3) (fun _ => ?_)
          clear hK K hown hgrow hloc hlo HG HG2 HL S00 S1 S2 hx3 HC1 HK0 HI hb2' hb1'
          try simp only [Act.put, List.setIfInBounds_toArray, List.set_cons_zero, List.set_cons_succ]
          refine wpAnyK_take (by kernel_rfl) (i := 18) (oi := { dst := some 68, op := Go.Op.fieldAddr 35 (Go.Operand.tmp 3) 2, type := 0, pos := "law.go:46", after := #[{ on := 0, ground := Go.Ground.phase }, { on := 1, ground := Go.Ground.phase }, { on := 2, ground := Go.Ground.phase }, { on := 3, ground := Go.Ground.phase }, { on := 4, ground := Go.Ground.phase }, { on := 5, ground := Go.Ground.phase }, { on := 6, ground := Go.Ground.phase }, { on := 7, ground := Go.Ground.phase }, { on := 8, ground := Go.Ground.phase }, { on := 9, ground := Go.Ground.phase }, { on := 10, ground := Go.Ground.phase }, { on := 11, ground := Go.Ground.phase }, { on := 12, ground := Go.Ground.phase }, { on := 13, ground := Go.Ground.phase }, { on := 14, ground := Go.Ground.phase }, { on := 15, ground := Go.Ground.phase }, { on := 16, ground := Go.Ground.phase }, { on := 17, ground := Go.Ground.phase }], guard := none }) (v := ?_) rfl (by kernel_rfl) (by kernel_rfl) (by kernel_rfl) (fun _ _ _ h => h) (Or.inl ⟨by rfl, ?_⟩) (by assumption) ?_
          rotate_left
          · intro wz hSw; (try dsimp only at hSw); go_simp; (try with_reducible rfl)
          try simp only [Act.put, List.setIfInBounds_toArray, List.set_cons_zero, List.set_cons_succ]
          obtain ⟨g1, _⟩ := S3
          refine wpAnyK_ready (rs := [19]) (by kernel_rfl) (by simp) ?_
          refine (AllReadyK.cons (o := { dst := none, op := Go.Op.store 33 (Go.Operand.tmp 68) (Go.Operand.tmp 67), type := 0, pos := "law.go:46", after := #[{ on := 18, ground := Go.Ground.data }, { on := 17, ground := Go.Ground.data }, { on := 17, ground := Go.Ground.chain }, { on := 0, ground := Go.Ground.phase }, { on := 1, ground := Go.Ground.phase }, { on := 2, ground := Go.Ground.phase }, { on := 3, ground := Go.Ground.phase }, { on := 4, ground := Go.Ground.phase }, { on := 5, ground := Go.Ground.phase }, { on := 6, ground := Go.Ground.phase }, { on := 7, ground := Go.Ground.phase }, { on := 8, ground := Go.Ground.phase }, { on := 9, ground := Go.Ground.phase }, { on := 10, ground := Go.Ground.phase }, { on := 11, ground := Go.Ground.phase }, { on := 12, ground := Go.Ground.phase }, { on := 13, ground := Go.Ground.phase }, { on := 14, ground := Go.Ground.phase }, { on := 15, ground := Go.Ground.phase }, { on := 16, ground := Go.Ground.phase }, { on := 17, ground := Go.Ground.phase }], guard := none }) rfl (fun K hK => ?_) AllReadyK.nil)
          go_simp
          refine hK.out _ _ (fun h => absurd rfl h) (fun _ => ?_)
          clear hK K
          refine wpAnyK_done (by kernel_rfl) (NoPanic.normal ?_) _
          try simp only [Act.put, List.setIfInBounds_toArray, List.set_cons_zero, List.set_cons_succ]
          clear hHeld g1 f3
          go_wp2
          go_roundw
          case rel => exact ⟨j + 1, _, _, _, by omega, by go_num, HN.out⟩
          case measure => simp [intOf]; omega
        · have hjn : j = t.m := by omega
          have hnn2 : ¬ ((j : Int) < t.m) := by omega
          have HG2 : Hid (GtS w wr t q' S A I t.n t.m) := by rw [← hjn]; exact HG.out
          have HRB := hidV (txl_range HG2.out.box)
          have hres := HG2.out.res
          clear HG hjn b3 b4
          go_wp2_with (first | (refine wpList_load_mid rfl 35 _ rfl (w.heap.size + 2) 0 rfl (txl t.lk q'.ia t.n q'.ic q'.oa t.m q'.oc) _ HRB.out Tryz.underlying35 rfl szTx ?_) | (refine wpList_storeG 35 szTx rfl _ _ rfl (w.heap.size + 1) rfl #[.int .i64 t.lk, .slice q'.ia t.n q'.ic, .slice q'.oa t.m q'.oc] #[.int .i64 0, .slice none 0 0, .slice none 0 0] rfl rfl (by kernel_rfl) 35 rfl hres ?_; intro v4 hg4 hf4) | fail)
          have HE : Hid (GvtR t w (.returned (.agg (txv t.lk q'.ia t.n q'.ic q'.oa t.m q'.oc))) v4) := by
            have hk : ∀ g, w.heap.size + 3 ≤ g → g < wr.heap.size → v4.heap[g]? = wr.heap[g]? := fun g h1 h2 => hf4.block g h2 (by simp; omega)
            have hO : InsOw w v4 t q'.ia q'.ic q'.oa S := by
              refine ⟨own_low (own_keep HG2.out.ins (fun g e => hk g (HG2.out.ins.lt g e).1 (HG2.out.ins.lt g e).2)) (by omega), fun w2 hw => ?_⟩
              have h2 : ∀ g, w.heap.size + 3 ≤ g → g < wr.heap.size → (Value.slice q'.ia t.n q'.ic).ownBlock ≠ some g → w2.heap[g]? = wr.heap[g]? := fun g h3 h4 h5 => by
                rw [hw g (by omega) (by have := hf4.size; omega) h5]; exact hk g h3 h4
              refine ⟨⟨fun hm => ?_⟩, fun k hkk => sl_of_own (own_keep (HG2.out.sec k hkk) (fun g e => h2 g ((HG2.out.sec k hkk).lt g e).1 ((HG2.out.sec k hkk).lt g e).2 (own_apart (HG2.out.sec k hkk) HG2.out.ins (by decide) g e))) (HV.out.2.2.1 k hkk).1⟩
              obtain ⟨g, e, _, _, hr⟩ := own_range (own_keep HG2.out.outs (fun g e => h2 g (HG2.out.outs.lt g e).1 (HG2.out.outs.lt g e).2 (own_apart HG2.out.outs HG2.out.ins (by decide) g e))) hm
              refine ⟨g, 0, e, fun k hkk => ⟨(A k).1, (A k).2, ?_, HG2.out.cond k hkk w2 (fun g h3 h4 => h2 g (by have := (HG2.out.int k hkk).1; omega) (by have := (HG2.out.int k hkk).2; omega) (fun e => by have := HG2.out.apI k hkk g e; omega)), HG2.out.nil k hkk⟩⟩
              exact (flatL_range t.m (f := toS5 t.O A) (k := 2) (fun i _ => rfl)).1 hr k hkk
            refine ⟨q'.ia, q'.ic, q'.oa, q'.oc, S, rfl, ?_, HG2.out.below.trans (hf4.below HG2.out.below.size (by simp)), hO⟩
            refine ⟨⟨fun k hk => HV.out.1.pt k hk, fun hn => ?_⟩, ⟨fun hm => ?_⟩, fun k hkk => ⟨sl_of_own (own_keep (HG2.out.sec k hkk) (fun g e => hk g ((HG2.out.sec k hkk).lt g e).1 ((HG2.out.sec k hkk).lt g e).2)) (HV.out.2.2.1 k hkk).1, by have := HV.out.2.2.2.1.sn k hkk; omega⟩⟩
            · obtain ⟨g, e, _, _, hr⟩ := own_range (own_keep HG2.out.ins (fun g e => hk g (HG2.out.ins.lt g e).1 (HG2.out.ins.lt g e).2)) hn
              exact ⟨g, 0, e, (flatL_range t.n (fun i _ => til_length _ _ _)).1 hr⟩
            · obtain ⟨g, e, _, _, hr⟩ := own_range (own_keep HG2.out.outs (fun g e => hk g (HG2.out.outs.lt g e).1 (HG2.out.outs.lt g e).2)) hm
              refine ⟨g, 0, e, fun k hkk => ⟨(A k).1, (A k).2, ?_, HG2.out.cond k hkk v4 (fun g h1 h2 => hk g (by have := (HG2.out.int k hkk).1; omega) (by have := (HG2.out.int k hkk).2; omega)), HG2.out.nil k hkk⟩⟩
              exact (flatL_range t.m (f := toS5 t.O A) (k := 2) (fun i _ => rfl)).1 hr k hkk
          exact bodyPost_ret (results_cell_row Tryz.results9 _ _ (w.heap.size + 1) 35 #[.int .i64 t.lk, .slice q'.ia t.n q'.ic, .slice q'.oa t.m q'.oc] (0, 0) _ rfl hg4 Tryz.underlying35 rfl szTx) rfl HE.out
end Go.Proofs.YtanchjfodcjlmaaGreatDoor
