/- giveTx: the walk. -/
import Derived.Test.YtanchjfodcjlmaaGreatDoorOwnShelf14
import Derived.Test.YtanchjfodcjlmaaGreatDoorOwnShelf17
import Derived.Test.YtanchjfodcjlmaaGreatDoorOwnShelf15
import Derived.Lib.Strings
import Derived.Test.YtanchjfodcjlmaaGreatDoorOwnShelf01
import Derived.Test.YtanchjfodcjlmaaGreatDoorOwnShelf16
import Derived.Deep.AppendSrc
import Derived.Maps.AppendAt
import Derived.Deep.AppendLies
namespace Go.Proofs.YtanchjfodcjlmaaGreatDoor
open Go.RowKit

/-- Its inputs are a row of their own, in whose block nothing else of it lies. -/
structure InsOw (w w' : World) (t : Tc5) (ia : Option Addr) (ic : Nat) (oa : Option Addr) (S : Nat → Option Addr × Nat) : Prop where
 own : w'.ownsRow w.heap.size 59 35 (.slice ia t.n ic) t.n (flatL (tiS t.X S) t.n)
 rest : ∀ w2 : World, (∀ g, w.heap.size ≤ g → g < w'.heap.size → (Value.slice ia t.n ic).ownBlock ≠ some g → w2.heap[g]? = w'.heap[g]?) → ToAt w2 oa t.m t.O ∧ ∀ k, k < t.n → SlAt w2 (S k).1 (t.X k).sn (t.Z k)
/-- giveTx's answer: the transaction anew. -/
def GvtR (t : Tc5) (w : World) (e : Ending) (w' : World) : Prop := ∃ ia ic oa oc S, e = .returned (.agg (txv t.lk ia t.n ic oa t.m oc)) ∧ TxAt w' t.lk t.n t.X t.Z t.m t.O ia oa S ∧ Below w.heap.size w w' ∧ InsOw w w' t ia ic oa S
set_option maxRecDepth 100000 in
set_option maxHeartbeats 6400000 in
theorem giveTx_any (t : Tc5) (S0 : Nat → Option Addr × Nat) (w : World) (h : TiAt w t.ia t.n t.X S0) (ho : ToAt w t.oa t.m t.O) (hs : ∀ k, k < t.n → SlAt w (S0 k).1 (t.X k).sn (t.Z k)) (hN : NoLong t.n t.X t.m t.O) (hk : ∀ i, i < t.m → ∀ j, j < (t.O i).cn → ((t.O i).X j).n ≤ 17592186043904) :
  Calls Tryz.prog 9 #[.agg (txv t.lk t.ia t.n t.ic t.oa t.m t.oc)] w (GvtR t w) := by
 have HV : Hid (TiAt w t.ia t.n t.X S0 ∧ ToAt w t.oa t.m t.O ∧ (∀ k, k < t.n → SlAt w (S0 k).1 (t.X k).sn (t.Z k)) ∧ NoLong t.n t.X t.m t.O ∧ ∀ i, i < t.m → ∀ j, j < (t.O i).cn → ((t.O i).X j).n ≤ 17592186043904) := ⟨h, ho, hs, hN, hk⟩
 have hnm := hN.nm
 have hg0 : GtS w (((w.alloc (.cells #[.int .i64 t.lk, .slice t.ia t.n t.ic, .slice t.oa t.m t.oc] 25)).alloc (.cells #[.int .i64 0, .slice none 0 0, .slice none 0 0] 35)).alloc (.cells #[.int .i64 t.lk, .slice none 0 0, .slice none 0 0] 35)) t ⟨none, 0, none, 0⟩ (fun _ => (none, 0)) (fun _ => (none, 0)) (fun _ => (0, 0)) 0 0 := by
  refine ⟨?_, ?_, ?_, World.ownsRow_nil _ _ _ _, fun k hk => by omega, World.ownsRow_nil _ _ _ _, fun k hk => by omega, fun k hk => by omega, fun k hk => by omega, fun k hk => by omega, fun k hk => by omega, (three_new w _ _ _).2⟩
  ·rw [Below.heap_alloc _ _ _ (by simp; omega), Below.heap_alloc _ _ _ (by simp)]; exact heap_alloc_new w _
  ·rw [Below.heap_alloc _ _ _ (by simp)]
   have := heap_alloc_new (w.alloc (.cells #[.int .i64 t.lk, .slice t.ia t.n t.ic, .slice t.oa t.m t.oc] 25)) (.cells #[.int .i64 0, .slice none 0 0, .slice none 0 0] 35)
   simpa using this
  ·have := heap_alloc_new ((w.alloc (.cells #[.int .i64 t.lk, .slice t.ia t.n t.ic, .slice t.oa t.m t.oc] 25)).alloc (.cells #[.int .i64 0, .slice none 0 0, .slice none 0 0] 35)) (.cells #[.int .i64 t.lk, .slice none 0 0, .slice none 0 0] 35)
   have e2 : ((w.alloc (.cells #[.int .i64 t.lk, .slice t.ia t.n t.ic, .slice t.oa t.m t.oc] 25)).alloc (.cells #[.int .i64 0, .slice none 0 0, .slice none 0 0] 35)).heap.size = w.heap.size + 2 := by simp
   rw [e2] at this
   exact this
 clear h ho hs hN hk
 unfold txv
 go_enter Tryz.func9, Tryz.ntmps9
 go_wp2_with fail
 generalize ((w.alloc (.cells #[.int .i64 t.lk, .slice t.ia t.n t.ic, .slice t.oa t.m t.oc] 25)).alloc (.cells #[.int .i64 0, .slice none 0 0, .slice none 0 0] 35)).alloc (.cells #[.int .i64 t.lk, .slice none 0 0, .slice none 0 0] 35) = W0 at *
 go_loopw [4, 5] (fun iv _ wr => ∃ (i : Nat) (q : Gq) (S : Nat → Option Addr × Nat), i ≤ t.n ∧ iv = .int .i64 i ∧ q.oa = none ∧ q.oc = 0 ∧ GtS w wr t q S (fun _ => (none, 0)) (fun _ => (0, 0)) i 0) (fun iv _ _ => t.n + 1 - (intOf iv).toNat)
 case atStart => exact ⟨0, _, _, by omega, rfl, rfl, rfl, hg0⟩
 case round =>
  clear hg0
  obtain ⟨i, q, S, hi, rfl, hq1, hq2, hG⟩ := hrel
  have HG := hidV hG
  clear hG
  obtain ⟨b3, b4, k3, k4⟩ := HG.out.cells (fun _ _ => rfl)
  by_cases hlt : i < t.n
  ·have hlt' : (i : Int) < t.n := by omega
   obtain ⟨b, off, ead, hc0⟩ := HV.out.1.at_ (by omega)
   have hr0 := hc0 i hlt
   have hbl : b < w.heap.size := World.block_lt_of_cell? w ⟨b, off + i * 35, none⟩ (by simpa using hr0 0 (.int .u8 ((t.X i).pt 0)) rfl)
   have hsn := HV.out.2.2.2.1.sn i hlt
   obtain ⟨sa, hsa⟩ : ∃ sa, (S0 i).1 = sa := ⟨_, rfl⟩
   obtain ⟨sc, hsc⟩ : ∃ sc, (S0 i).2 = sc := ⟨_, rfl⟩
   have hS0 := HV.out.2.2.1 i hlt
   rw [hsa, hsc] at hr0
   rw [hsa] at hS0
   clear hsa hsc hc0
   have HPK : Hid (Hb (t.X i).pt) := HV.out.1.pt i hlt
   rw [ead] at k3
   have HEA := hidV ead
   clear ead
   have HL : Hid (∀ w' : World, (∀ k, k < w.heap.size + 3 → w'.heap[k]? = wr.heap[k]?) → w'.cell? ⟨w.heap.size + 2, 1, none⟩ = some (.slice q.ia i q.ic) ∧ w'.cell? ⟨w.heap.size, 1, none⟩ = some (.slice (some ⟨b, off, none⟩) t.n t.ic) ∧ w'.cell? ⟨b, off + i * 35 + 33, none⟩ = some (.int .i64 (t.X i).br) ∧ w'.cell? ⟨b, off + i * 35 + 34, none⟩ = some (.slice sa (t.X i).sn sc) ∧ w'.rangeAt b (off + i * 35) (ptl (t.X i).pt (t.X i).n)) := fun w' hl => by
    obtain ⟨h1, _, h3, _⟩ := HG.out.cells hl
    have hr : w'.rangeAt b (off + i * 35) (til (t.X i) sa sc) := fun j v hv => by
     have h4 := range_below hr0 HG.out.below j v hv
     rw [World.cell?_of_block (a := ⟨b, off + i * 35 + j, none⟩) (hl b (by omega))]
     exact h4
    have hr2 : w'.rangeAt b (off + i * 35) (ptl (t.X i).pt (t.X i).n ++ [.int .i64 (t.X i).br, .slice sa (t.X i).sn sc]) := by
     have e : til (t.X i) sa sc = ptl (t.X i).pt (t.X i).n ++ [.int .i64 (t.X i).br, .slice sa (t.X i).sn sc] := by simp [til, ptl]
     rw [← e]; exact hr
    exact ⟨h1, by rw [h3, HEA.out], hr 33 _ (by rfl), hr 34 _ (by rfl), (range_app hr2).1⟩
   have S00 := HL.out wr.drew (fun _ _ => rfl)
   have HI : Hid (SlAt wr.drew sa (t.X i).sn (t.Z i)) := hS0.below HG.out.below.drew
   have HK0 : Hid (∀ w', Below wr.heap.size wr w' → GtS w w' t q S (fun _ => (none, 0)) (fun _ => (0, 0)) i 0) := fun w' hb => HG.out.keep hb
   have hbig := HG.out.big
   clear hr0 hS0
   go_wp2_with fail
   refine wp_region_noPanic ?_
   refine wp_region_K (S := fun w' => w'.cell? ⟨w.heap.size + 2, 1, none⟩ = some (.slice q.ia i q.ic) ∧ w'.cell? ⟨w.heap.size, 1, none⟩ = some (.slice (some ⟨b, off, none⟩) t.n t.ic) ∧ w'.cell? ⟨b, off + i * 35 + 33, none⟩ = some (.int .i64 (t.X i).br) ∧ w'.cell? ⟨b, off + i * 35 + 34, none⟩ = some (.slice sa (t.X i).sn sc) ∧ w'.rangeAt b (off + i * 35) (ptl (t.X i).pt (t.X i).n)) 26 (by kernel_rfl) S00 (fun hHeld => ?_)
   refine wpAnyK_take (by kernel_rfl) (i := 0) (oi := ⟨some 17, .fieldAddr 35 (.tmp 3) 1, 0, _, _, none⟩) (v := ?_) rfl (by kernel_rfl) (by kernel_rfl) (by kernel_rfl) (fun _ _ _ h => h) (Or.inl ⟨by rfl, ?_⟩) (by assumption) ?_
   rotate_left
   ·intro wz hSw; (try dsimp only at hSw); go_simp; (try with_reducible rfl)
   try simp only [Act.put, sqA, sqB, sqC]
   refine wpAnyK_take (by kernel_rfl) (i := 1) (oi := ⟨some 18, .load 32 (.tmp 17), 32, _, _, none⟩) (v := ?_) rfl (by kernel_rfl) (by kernel_rfl) (by kernel_rfl) (fun _ _ _ h => h) (Or.inl ⟨by rfl, ?_⟩) (by assumption) ?_
   rotate_left
   ·intro wz hSw; (try dsimp only at hSw); go_simp; (try with_reducible rfl)
   try simp only [Act.put, sqA, sqB, sqC]
   refine wpAnyK_take (by kernel_rfl) (i := 2) (oi := ⟨some 19, .fieldAddr 25 (.tmp 1) 1, 0, _, _, none⟩) (v := ?_) rfl (by kernel_rfl) (by kernel_rfl) (by kernel_rfl) (fun _ _ _ h => h) (Or.inl ⟨by rfl, ?_⟩) (by assumption) ?_
   rotate_left
   ·intro wz hSw; (try dsimp only at hSw); go_simp; (try with_reducible rfl)
   try simp only [Act.put, sqA, sqB, sqC]
   refine wpAnyK_take (by kernel_rfl) (i := 3) (oi := ⟨some 20, .load 22 (.tmp 19), 22, _, _, none⟩) (v := ?_) rfl (by kernel_rfl) (by kernel_rfl) (by kernel_rfl) (fun _ _ _ h => h) (Or.inl ⟨by rfl, ?_⟩) (by assumption) ?_
   rotate_left
   ·intro wz hSw; (try dsimp only at hSw); go_simp; (try with_reducible rfl)
   try simp only [Act.put, sqA, sqB, sqC]
   refine wpAnyK_take (by kernel_rfl) (i := 4) (oi := ⟨some 21, .move (.tmp 4), 3, _, _, none⟩) (v := ?_) rfl (by kernel_rfl) (by kernel_rfl) (by kernel_rfl) (fun _ _ _ h => h) (Or.inl ⟨by rfl, ?_⟩) (by assumption) ?_
   rotate_left
   ·intro wz hSw; (try dsimp only at hSw); go_simp; (try with_reducible rfl)
   try simp only [Act.put, sqA, sqB, sqC]
   refine wpAnyK_take (by kernel_rfl) (i := 5) (oi := ⟨some 22, .indexAddr 22 (.tmp 20) (.tmp 21), 0, _, _, none⟩) (v := ?_) rfl (by kernel_rfl) (by kernel_rfl) (by kernel_rfl) (fun _ _ _ h => h) (Or.inl ⟨by rfl, ?_⟩) (by assumption) ?_
   rotate_left
   ·intro wz hSw; (try dsimp only at hSw); go_simp; (try with_reducible rfl)
   try simp only [Act.put, sqA, sqB, sqC]
   refine wpAnyK_take (by kernel_rfl) (i := 6) (oi := ⟨some 23, .fieldAddr 65 (.tmp 22) 0, 0, _, _, none⟩) (v := ?_) rfl (by kernel_rfl) (by kernel_rfl) (by kernel_rfl) (fun _ _ _ h => h) (Or.inl ⟨by rfl, ?_⟩) (by assumption) ?_
   rotate_left
   ·intro wz hSw; (try dsimp only at hSw); go_simp; (try with_reducible rfl)
   try simp only [Act.put, sqA, sqB, sqC]
   refine wpAnyK_take (by kernel_rfl) (i := 7) (oi := ⟨some 24, .load 45 (.tmp 23), 45, _, _, none⟩) rfl (by kernel_rfl) (by kernel_rfl) (by kernel_rfl) (fun _ _ _ h => h) (yieldsIf_load_mid (by rfl) _ _ rfl b (off + i * 35) rfl (ptl (t.X i).pt (t.X i).n) _ (fun _ h => h.2.2.2.2) Tryz.underlying45 rfl (szPtlR _ _)) (by assumption) ?_
   try simp only [Act.put, sqA, sqB, sqC]
   refine wpAnyK_take (by kernel_rfl) (i := 8) (oi := ⟨some 25, .fieldAddr 25 (.tmp 1) 1, 0, _, _, none⟩) (v := ?_) rfl (by kernel_rfl) (by kernel_rfl) (by kernel_rfl) (fun _ _ _ h => h) (Or.inl ⟨by rfl, ?_⟩) (by assumption) ?_
   rotate_left
   ·intro wz hSw; (try dsimp only at hSw); go_simp; (try with_reducible rfl)
   try simp only [Act.put, sqA, sqB, sqC]
   refine wpAnyK_take (by kernel_rfl) (i := 9) (oi := ⟨some 26, .load 22 (.tmp 25), 22, _, _, none⟩) (v := ?_) rfl (by kernel_rfl) (by kernel_rfl) (by kernel_rfl) (fun _ _ _ h => h) (Or.inl ⟨by rfl, ?_⟩) (by assumption) ?_
   rotate_left
   ·intro wz hSw; (try dsimp only at hSw); go_simp; (try with_reducible rfl)
   try simp only [Act.put, sqA, sqB, sqC]
   refine wpAnyK_take (by kernel_rfl) (i := 10) (oi := ⟨some 27, .move (.tmp 4), 3, _, _, none⟩) (v := ?_) rfl (by kernel_rfl) (by kernel_rfl) (by kernel_rfl) (fun _ _ _ h => h) (Or.inl ⟨by rfl, ?_⟩) (by assumption) ?_
   rotate_left
   ·intro wz hSw; (try dsimp only at hSw); go_simp; (try with_reducible rfl)
   try simp only [Act.put, sqA, sqB, sqC]
   refine wpAnyK_take (by kernel_rfl) (i := 11) (oi := ⟨some 28, .indexAddr 22 (.tmp 26) (.tmp 27), 0, _, _, none⟩) (v := ?_) rfl (by kernel_rfl) (by kernel_rfl) (by kernel_rfl) (fun _ _ _ h => h) (Or.inl ⟨by rfl, ?_⟩) (by assumption) ?_
   rotate_left
   ·intro wz hSw; (try dsimp only at hSw); go_simp; (try with_reducible rfl)
   try simp only [Act.put, sqA, sqB, sqC]
   refine wpAnyK_take (by kernel_rfl) (i := 12) (oi := ⟨some 29, .fieldAddr 65 (.tmp 28) 1, 0, _, _, none⟩) (v := ?_) rfl (by kernel_rfl) (by kernel_rfl) (by kernel_rfl) (fun _ _ _ h => h) (Or.inl ⟨by rfl, ?_⟩) (by assumption) ?_
   rotate_left
   ·intro wz hSw; (try dsimp only at hSw); go_simp; (try with_reducible rfl)
   try simp only [Act.put, sqA, sqB, sqC]
   refine wpAnyK_take (by kernel_rfl) (i := 13) (oi := ⟨some 30, .load 3 (.tmp 29), 3, _, _, none⟩) (v := ?_) rfl (by kernel_rfl) (by kernel_rfl) (by kernel_rfl) (fun _ _ _ h => h) (Or.inl ⟨by rfl, ?_⟩) (by assumption) ?_
   rotate_left
   ·intro wz hSw; (try dsimp only at hSw); go_simp; (try with_reducible rfl)
   try simp only [Act.put, sqA, sqB, sqC]
   refine wpAnyK_take (by kernel_rfl) (i := 14) (oi := ⟨some 31, .move (.tmp 5), 57, _, _, none⟩) (v := ?_) rfl (by kernel_rfl) (by kernel_rfl) (by kernel_rfl) (fun _ _ _ h => h) (Or.inl ⟨by rfl, ?_⟩) (by assumption) ?_
   rotate_left
   ·intro wz hSw; (try dsimp only at hSw); go_simp; (try with_reducible rfl)
   try simp only [Act.put, sqA, sqB, sqC]
   refine wpAnyK_take (by kernel_rfl) (i := 15) (oi := ⟨some 32, .fieldAddr 25 (.tmp 1) 1, 0, _, _, none⟩) (v := ?_) rfl (by kernel_rfl) (by kernel_rfl) (by kernel_rfl) (fun _ _ _ h => h) (Or.inl ⟨by rfl, ?_⟩) (by assumption) ?_
   rotate_left
   ·intro wz hSw; (try dsimp only at hSw); go_simp; (try with_reducible rfl)
   try simp only [Act.put, sqA, sqB, sqC]
   refine wpAnyK_take (by kernel_rfl) (i := 16) (oi := ⟨some 33, .load 22 (.tmp 32), 22, _, _, none⟩) (v := ?_) rfl (by kernel_rfl) (by kernel_rfl) (by kernel_rfl) (fun _ _ _ h => h) (Or.inl ⟨by rfl, ?_⟩) (by assumption) ?_
   rotate_left
   ·intro wz hSw; (try dsimp only at hSw); go_simp; (try with_reducible rfl)
   try simp only [Act.put, sqA, sqB, sqC]
   refine wpAnyK_take (by kernel_rfl) (i := 17) (oi := ⟨some 34, .move (.tmp 4), 3, _, _, none⟩) (v := ?_) rfl (by kernel_rfl) (by kernel_rfl) (by kernel_rfl) (fun _ _ _ h => h) (Or.inl ⟨by rfl, ?_⟩) (by assumption) ?_
   rotate_left
   ·intro wz hSw; (try dsimp only at hSw); go_simp; (try with_reducible rfl)
   try simp only [Act.put, sqA, sqB, sqC]
   refine wpAnyK_take (by kernel_rfl) (i := 18) (oi := ⟨some 35, .indexAddr 22 (.tmp 33) (.tmp 34), 0, _, _, none⟩) (v := ?_) rfl (by kernel_rfl) (by kernel_rfl) (by kernel_rfl) (fun _ _ _ h => h) (Or.inl ⟨by rfl, ?_⟩) (by assumption) ?_
   rotate_left
   ·intro wz hSw; (try dsimp only at hSw); go_simp; (try with_reducible rfl)
   try simp only [Act.put, sqA, sqB, sqC]
   refine wpAnyK_take (by kernel_rfl) (i := 19) (oi := ⟨some 36, .fieldAddr 65 (.tmp 35) 2, 0, _, _, none⟩) (v := ?_) rfl (by kernel_rfl) (by kernel_rfl) (by kernel_rfl) (fun _ _ _ h => h) (Or.inl ⟨by rfl, ?_⟩) (by assumption) ?_
   rotate_left
   ·intro wz hSw; (try dsimp only at hSw); go_simp; (try with_reducible rfl)
   try simp only [Act.put, sqA, sqB, sqC]
   refine wpAnyK_take (by kernel_rfl) (i := 20) (oi := ⟨some 37, .load 57 (.tmp 36), 57, _, _, none⟩) (v := ?_) rfl (by kernel_rfl) (by kernel_rfl) (by kernel_rfl) (fun _ _ _ h => h) (Or.inl ⟨by rfl, ?_⟩) (by assumption) ?_
   rotate_left
   ·intro wz hSw; (try dsimp only at hSw); go_simp; (try with_reducible rfl)
   try simp only [Act.put, sqA, sqB, sqC]
   refine wpAnyK_ready (rs := [21]) (by kernel_rfl) (by simp) ?_
   refine (AllReadyK.cons (o := ⟨some 38, .call { callee := Go.Callee.builtin Go.Builtin.append, args := #[.tmp 31, .tmp 37], argTypes := #[57, 57] }, 57, _, _, none⟩) rfl (fun K hK => ?_) AllReadyK.nil)
   refine step_append_bV rfl (.tmp 31) (.tmp 37) rfl (t.X i).sn (t.Z i) sa sc (by rfl) (by rfl) HI.out (by omega) ?_
   intro ka kc w1 hok hb1
   have hb1' : Below wr.heap.size wr w1 := (Below.refl _ wr).drew.trans hb1
   have S1 := HL.out w1 (fun k hk => hb1'.block k (by omega))
   have HOK : Hid (w1.ownsRow wr.heap.size 5 1 (.slice ka (t.X i).sn kc) (t.X i).sn (bl (t.Z i) (t.X i).sn) ∧ Below wr.heap.size wr w1) := ⟨hok, hb1'⟩
   clear hok hb1
   refine hK.out _ _ (fun _ => S1) (fun _ => ?_)
   clear hK K
   try simp only [Act.put, sqA, sqB, sqC]
   refine wpAnyK_take (by kernel_rfl) (i := 22) (oi := ⟨some 39, .build 59 #[(0, .tmp 24), (1, .tmp 30), (2, .tmp 38)], 59, _, _, none⟩) (v := .agg (tiv (t.X i) ka kc)) rfl (by kernel_rfl) (by kernel_rfl) (by kernel_rfl) (fun _ _ _ h => h) (Or.inl ⟨by rfl, ?_⟩) (by assumption) ?_
   ·intro wz hSw; (try dsimp only at hSw); kernel_rfl
   try simp only [Act.put, sqA, sqB, sqC]
   refine wpAnyK_ready (rs := [23]) (by kernel_rfl) (by simp) ?_
   refine (AllReadyK.cons (o := ⟨some 40, .buildSlice 32 1 #[(0, .tmp 39)], 32, _, _, none⟩) rfl (fun K hK => ?_) AllReadyK.nil)
   refine step_sliceTi rfl (.tmp 39) rfl (t.X i) ka kc (by rfl) ?_
   have hb2 : Below wr.heap.size wr (w1.alloc (.cells (tiv (t.X i) ka kc) 59)) := hb1'.alloc hb1'.size _
   have S2 := HL.out (w1.alloc (.cells (tiv (t.X i) ka kc) 59)) (fun k hk => hb2.block k (by omega))
   have HG2 : Hid (GtS w (w1.alloc (.cells (tiv (t.X i) ka kc) 59)) t q S (fun _ => (none, 0)) (fun _ => (0, 0)) i 0 ∧ (w1.alloc (.cells (tiv (t.X i) ka kc) 59)).ownsRow (w.heap.size + 3) 5 1 (.slice ka (t.X i).sn kc) (t.X i).sn (bl (t.Z i) (t.X i).sn)) := ⟨HK0.out _ hb2, own_low (own_below HOK.out.1 ((Below.refl _ w1).alloc (Nat.le_refl _) _)) (by omega)⟩
   refine hK.out _ _ (fun _ => S2) (fun _ => ?_)
   clear hK K
   try simp only [Act.put, sqA, sqB, sqC]
   refine wpAnyK_ready (rs := [24]) (by kernel_rfl) (by simp) ?_
   refine (AllReadyK.cons (o := ⟨some 41, .call { callee := Go.Callee.builtin Go.Builtin.append, args := #[.tmp 18, .tmp 40], argTypes := #[32, 32] }, 32, _, _, none⟩) rfl (fun K hK => ?_) AllReadyK.nil)
   refine step_append_Ti rfl (.tmp 18) (.tmp 40) rfl (w.heap.size + 3) w1.heap.size (.slice q.ia i q.ic) i (flatL (tiS t.X S) i) (t.X i) ka kc (by rfl) (by rfl) HG2.out.1.ins HG2.out.1.big (heap_alloc_new w1 _) (by omega) ?_
   intro va vc w3 hown hgrow
   have hlo := grown_low HG2.out.1.ins hgrow HG2.out.1.big
   have S3 := HL.out w3 (fun k hk => by rw [hlo k hk]; exact hb2.block k (by omega))
   have HN : Hid (GtS w (w3.setCell ⟨w.heap.size + 2, 1, none⟩ (.slice va (i + 1) vc)) t ⟨va, vc, q.oa, q.oc⟩ (fun k => if k = i then (ka, kc) else S k) (fun _ => (none, 0)) (fun _ => (0, 0)) (i + 1) 0) := HG2.out.1.pushI HG2.out.2 hown hgrow
   have hx3 : w3.heap[w.heap.size + 2]? = some (.cells #[.int .i64 t.lk, .slice q.ia i q.ic, .slice q.oa 0 q.oc] 35 (0, 0)) := by rw [hlo _ (by omega)]; exact HG2.out.1.box
   have f3 : ∀ o, w3.frozen? ⟨w.heap.size + 2, o, none⟩ = false := fun o => frozen_of_row _ _ o _ _ hx3
   refine hK.out _ _ (fun _ => S3) (fun _ => ?_)
   clear hK K hown hgrow hlo HG HG2 HL S00 S1 S2 hx3 HOK HK0 HI hb2 hb1'
   try simp only [Act.put, sqA, sqB, sqC]
   refine wpAnyK_take (by kernel_rfl) (i := 25) (oi := ⟨some 42, .fieldAddr 35 (.tmp 3) 1, 0, _, _, none⟩) (v := ?_) rfl (by kernel_rfl) (by kernel_rfl) (by kernel_rfl) (fun _ _ _ h => h) (Or.inl ⟨by rfl, ?_⟩) (by assumption) ?_
   rotate_left
   ·intro wz hSw; (try dsimp only at hSw); go_simp; (try with_reducible rfl)
   try simp only [Act.put, sqA, sqB, sqC]
   obtain ⟨g1, _⟩ := S3
   refine wpAnyK_ready (rs := [26]) (by kernel_rfl) (by simp) ?_
   refine (AllReadyK.cons (o := ⟨none, .store 32 (.tmp 42) (.tmp 41), 0, _, _, none⟩) rfl (fun K hK => ?_) AllReadyK.nil)
   go_simp
   refine hK.out _ _ (fun h => absurd rfl h) (fun _ => ?_)
   clear hK K
   refine wpAnyK_done (by kernel_rfl) (NoPanic.normal ?_) _
   try simp only [Act.put, sqA, sqB, sqC]
   clear hHeld g1 f3
   go_wp2
   go_roundw
   case rel => exact ⟨i + 1, ⟨va, vc, q.oa, q.oc⟩, _, by omega, by go_num, hq1, hq2, HN.out⟩
   case measure => simp [intOf]; omega
  ·have hin : i = t.n := by omega
   have hnn : ¬ ((i : Int) < t.n) := by omega
   have HG2 : Hid (GtS w wr t q S (fun _ => (none, 0)) (fun _ => (0, 0)) t.n 0) := by rw [← hin]; exact HG.out
   clear HG hin b3 b4
   generalize wr = wo at *
   go_wp2_with fail
   have h20 := HG2.out
   clear HG2 k3 k4
   go_loopw [6] (fun iv wr => ∃ (j : Nat) (q' : Gq) (A : Nat → Option Addr × Nat) (I : Nat → Nat × Nat), j ≤ t.m ∧ iv = .int .i64 j ∧ GtS w wr t q' S A I t.n j) (fun iv _ => t.m + 1 - (intOf iv).toNat)
   case atStart => exact ⟨0, q, _, _, by omega, rfl, h20⟩
   case round =>
    clear h20
    obtain ⟨j, q', A, I, hj, rfl, hG⟩ := hrel
    have HG := hidV hG
    clear hG
    obtain ⟨b3, b4, k3, k4⟩ := HG.out.cells (fun _ _ => rfl)
    by_cases hlt : j < t.m
    ·have hlt' : (j : Int) < t.m := by omega
     obtain ⟨b, off, ead, hc0⟩ := HV.out.2.1.at_ (by omega)
     obtain ⟨ca, cc, hr0, hB0, hcn⟩ := hc0 j hlt
     have hcs := HV.out.2.2.2.1.cn j hlt
     have HKB := hidV (HV.out.2.2.2.2 j hlt)
     have d0 : w.cell? ⟨b, off + j * 2, none⟩ = some (.int .i64 (t.O j).am) := hr0 0 _ rfl
     have d1 : w.cell? ⟨b, off + j * 2 + 1, none⟩ = some (.slice ca (t.O j).cn cc) := hr0 1 _ rfl
     have hbl : b < w.heap.size := World.block_lt_of_cell? w ⟨b, off + j * 2, none⟩ d0
     rw [ead] at k4
     have HEA := hidV ead
     clear ead
     have HL : Hid (∀ w' : World, (∀ k, k < w.heap.size + 3 → w'.heap[k]? = wr.heap[k]?) → w'.cell? ⟨w.heap.size + 2, 2, none⟩ = some (.slice q'.oa j q'.oc) ∧ w'.cell? ⟨w.heap.size, 2, none⟩ = some (.slice (some ⟨b, off, none⟩) t.m t.oc) ∧ w'.cell? ⟨b, off + j * 2, none⟩ = some (.int .i64 (t.O j).am) ∧ w'.cell? ⟨b, off + j * 2 + 1, none⟩ = some (.slice ca (t.O j).cn cc)) := fun w' hl => by
      obtain ⟨_, h1, _, h3⟩ := HG.out.cells hl
      have hbb := (hl b (by omega)).trans (HG.out.below.block b hbl)
      exact ⟨h1, by rw [h3, HEA.out], by rw [World.cell?_of_block (a := ⟨b, _, none⟩) hbb]; exact d0, by rw [World.cell?_of_block (a := ⟨b, _, none⟩) hbb]; exact d1⟩
     have S00 := HL.out wr.drew (fun _ _ => rfl)
     have HI : Hid (Cd.BrAt wr.drew ca (t.O j).cn (t.O j).X) := hB0.below HG.out.below.drew
     have HK0 : Hid (∀ w', Below wr.heap.size wr w' → GtS w w' t q' S A I t.n j) := fun w' hb => HG.out.keep hb
     have hbig := HG.out.big
     clear hc0 hr0 hB0 d0 d1
     go_wp2_with fail
     refine wp_region_noPanic ?_
     refine wp_region_K (S := fun w' => w'.cell? ⟨w.heap.size + 2, 2, none⟩ = some (.slice q'.oa j q'.oc) ∧ w'.cell? ⟨w.heap.size, 2, none⟩ = some (.slice (some ⟨b, off, none⟩) t.m t.oc) ∧ w'.cell? ⟨b, off + j * 2, none⟩ = some (.int .i64 (t.O j).am) ∧ w'.cell? ⟨b, off + j * 2 + 1, none⟩ = some (.slice ca (t.O j).cn cc)) 19 (by kernel_rfl) S00 (fun hHeld => ?_)
     refine wpAnyK_take (by kernel_rfl) (i := 0) (oi := ⟨some 50, .fieldAddr 35 (.tmp 3) 2, 0, _, _, none⟩) (v := ?_) rfl (by kernel_rfl) (by kernel_rfl) (by kernel_rfl) (fun _ _ _ h => h) (Or.inl ⟨by rfl, ?_⟩) (by assumption) ?_
     rotate_left
     ·intro wz hSw; (try dsimp only at hSw); go_simp; (try with_reducible rfl)
     try simp only [Act.put, sqA, sqB, sqC]
     refine wpAnyK_take (by kernel_rfl) (i := 1) (oi := ⟨some 51, .load 33 (.tmp 50), 33, _, _, none⟩) (v := ?_) rfl (by kernel_rfl) (by kernel_rfl) (by kernel_rfl) (fun _ _ _ h => h) (Or.inl ⟨by rfl, ?_⟩) (by assumption) ?_
     rotate_left
     ·intro wz hSw; (try dsimp only at hSw); go_simp; (try with_reducible rfl)
     try simp only [Act.put, sqA, sqB, sqC]
     refine wpAnyK_take (by kernel_rfl) (i := 2) (oi := ⟨some 52, .fieldAddr 25 (.tmp 1) 2, 0, _, _, none⟩) (v := ?_) rfl (by kernel_rfl) (by kernel_rfl) (by kernel_rfl) (fun _ _ _ h => h) (Or.inl ⟨by rfl, ?_⟩) (by assumption) ?_
     rotate_left
     ·intro wz hSw; (try dsimp only at hSw); go_simp; (try with_reducible rfl)
     try simp only [Act.put, sqA, sqB, sqC]
     refine wpAnyK_take (by kernel_rfl) (i := 3) (oi := ⟨some 53, .load 23 (.tmp 52), 23, _, _, none⟩) (v := ?_) rfl (by kernel_rfl) (by kernel_rfl) (by kernel_rfl) (fun _ _ _ h => h) (Or.inl ⟨by rfl, ?_⟩) (by assumption) ?_
     rotate_left
     ·intro wz hSw; (try dsimp only at hSw); go_simp; (try with_reducible rfl)
     try simp only [Act.put, sqA, sqB, sqC]
     refine wpAnyK_take (by kernel_rfl) (i := 4) (oi := ⟨some 54, .move (.tmp 6), 3, _, _, none⟩) (v := ?_) rfl (by kernel_rfl) (by kernel_rfl) (by kernel_rfl) (fun _ _ _ h => h) (Or.inl ⟨by rfl, ?_⟩) (by assumption) ?_
     rotate_left
     ·intro wz hSw; (try dsimp only at hSw); go_simp; (try with_reducible rfl)
     try simp only [Act.put, sqA, sqB, sqC]
     refine wpAnyK_take (by kernel_rfl) (i := 5) (oi := ⟨some 55, .indexAddr 23 (.tmp 53) (.tmp 54), 0, _, _, none⟩) (v := ?_) rfl (by kernel_rfl) (by kernel_rfl) (by kernel_rfl) (fun _ _ _ h => h) (Or.inl ⟨by rfl, ?_⟩) (by assumption) ?_
     rotate_left
     ·intro wz hSw; (try dsimp only at hSw); go_simp; (try with_reducible rfl)
     try simp only [Act.put, sqA, sqB, sqC]
     refine wpAnyK_take (by kernel_rfl) (i := 6) (oi := ⟨some 56, .fieldAddr 70 (.tmp 55) 0, 0, _, _, none⟩) (v := ?_) rfl (by kernel_rfl) (by kernel_rfl) (by kernel_rfl) (fun _ _ _ h => h) (Or.inl ⟨by rfl, ?_⟩) (by assumption) ?_
     rotate_left
     ·intro wz hSw; (try dsimp only at hSw); go_simp; (try with_reducible rfl)
     try simp only [Act.put, sqA, sqB, sqC]
     refine wpAnyK_take (by kernel_rfl) (i := 7) (oi := ⟨some 57, .load 3 (.tmp 56), 3, _, _, none⟩) (v := ?_) rfl (by kernel_rfl) (by kernel_rfl) (by kernel_rfl) (fun _ _ _ h => h) (Or.inl ⟨by rfl, ?_⟩) (by assumption) ?_
     rotate_left
     ·intro wz hSw; (try dsimp only at hSw); go_simp; (try with_reducible rfl)
     try simp only [Act.put, sqA, sqB, sqC]
     refine wpAnyK_take (by kernel_rfl) (i := 8) (oi := ⟨some 58, .fieldAddr 25 (.tmp 1) 2, 0, _, _, none⟩) (v := ?_) rfl (by kernel_rfl) (by kernel_rfl) (by kernel_rfl) (fun _ _ _ h => h) (Or.inl ⟨by rfl, ?_⟩) (by assumption) ?_
     rotate_left
     ·intro wz hSw; (try dsimp only at hSw); go_simp; (try with_reducible rfl)
     try simp only [Act.put, sqA, sqB, sqC]
     refine wpAnyK_take (by kernel_rfl) (i := 9) (oi := ⟨some 59, .load 23 (.tmp 58), 23, _, _, none⟩) (v := ?_) rfl (by kernel_rfl) (by kernel_rfl) (by kernel_rfl) (fun _ _ _ h => h) (Or.inl ⟨by rfl, ?_⟩) (by assumption) ?_
     rotate_left
     ·intro wz hSw; (try dsimp only at hSw); go_simp; (try with_reducible rfl)
     try simp only [Act.put, sqA, sqB, sqC]
     refine wpAnyK_take (by kernel_rfl) (i := 10) (oi := ⟨some 60, .move (.tmp 6), 3, _, _, none⟩) (v := ?_) rfl (by kernel_rfl) (by kernel_rfl) (by kernel_rfl) (fun _ _ _ h => h) (Or.inl ⟨by rfl, ?_⟩) (by assumption) ?_
     rotate_left
     ·intro wz hSw; (try dsimp only at hSw); go_simp; (try with_reducible rfl)
     try simp only [Act.put, sqA, sqB, sqC]
     refine wpAnyK_take (by kernel_rfl) (i := 11) (oi := ⟨some 61, .indexAddr 23 (.tmp 59) (.tmp 60), 0, _, _, none⟩) (v := ?_) rfl (by kernel_rfl) (by kernel_rfl) (by kernel_rfl) (fun _ _ _ h => h) (Or.inl ⟨by rfl, ?_⟩) (by assumption) ?_
     rotate_left
     ·intro wz hSw; (try dsimp only at hSw); go_simp; (try with_reducible rfl)
     try simp only [Act.put, sqA, sqB, sqC]
     refine wpAnyK_take (by kernel_rfl) (i := 12) (oi := ⟨some 62, .fieldAddr 70 (.tmp 61) 1, 0, _, _, none⟩) (v := ?_) rfl (by kernel_rfl) (by kernel_rfl) (by kernel_rfl) (fun _ _ _ h => h) (Or.inl ⟨by rfl, ?_⟩) (by assumption) ?_
     rotate_left
     ·intro wz hSw; (try dsimp only at hSw); go_simp; (try with_reducible rfl)
     try simp only [Act.put, sqA, sqB, sqC]
     refine wpAnyK_take (by kernel_rfl) (i := 13) (oi := ⟨some 63, .load 68 (.tmp 62), 68, _, _, none⟩) (v := .agg #[.slice ca (t.O j).cn cc]) rfl (by kernel_rfl) (by kernel_rfl) (by kernel_rfl) (fun _ _ _ h => h) (Or.inl ⟨by rfl, ?_⟩) (by assumption) ?_
     ·intro wz hSw; (try dsimp only at hSw); have h1 := hSw.2.2.2; go_simp; try rfl
     try simp only [Act.put, sqA, sqB, sqC]
     refine wpAnyK_ready (rs := [14]) (by kernel_rfl) (by simp) ?_
     refine (AllReadyK.cons (o := ⟨some 64, .call { callee := Go.Callee.value (.func 26), args := #[.tmp 63], argTypes := #[68] }, 76, _, _, none⟩) rfl (fun K hK => ?_) AllReadyK.nil)
     go_simp
     refine (Cd.give_inX ca (t.O j).cn cc (t.O j).X wr.drew HI.out (by omega) HKB.out).mono ?_
     rintro e w1 ⟨ca', cc', rfl, hI1, hb1, hn1⟩
     have hb1' : Below wr.heap.size wr w1 := (Below.refl _ wr).drew.trans hb1
     have S1 := HL.out w1 (fun k hk => hb1'.block k (by omega))
     have HC1 : Hid (Cd.BrIn w1 wr.heap.size ca' (t.O j).cn (t.O j).X ∧ (ca' = none → (t.O j).cn = 0 ∧ cc' = 0)) := ⟨hI1, hn1⟩
     clear hI1 hb1 hn1
     refine hK.out _ _ (fun _ => S1) (fun _ => ?_)
     clear hK K
     try simp only [Act.put, sqA, sqB, sqC]
     refine wpAnyK_take (by kernel_rfl) (i := 15) (oi := ⟨some 65, .build 79 #[(0, .tmp 57), (1, .tmp 64)], 79, _, _, none⟩) (v := .agg #[.int .i64 (t.O j).am, .slice ca' (t.O j).cn cc']) rfl (by kernel_rfl) (by kernel_rfl) (by kernel_rfl) (fun _ _ _ h => h) (Or.inl ⟨by rfl, ?_⟩) (by assumption) ?_
     ·intro wz hSw; (try dsimp only at hSw); kernel_rfl
     try simp only [Act.put, sqA, sqB, sqC]
     refine wpAnyK_ready (rs := [16]) (by kernel_rfl) (by simp) ?_
     refine (AllReadyK.cons (o := ⟨some 66, .buildSlice 33 1 #[(0, .tmp 65)], 33, _, _, none⟩) rfl (fun K hK => ?_) AllReadyK.nil)
     refine step_sliceTo rfl (.tmp 65) rfl (t.O j).am ca' (t.O j).cn cc' (by rfl) ?_
     intro g w2 hg2 hl2 hb2
     have hb2' : Below wr.heap.size wr w2 := Below.transS hb1' hb2
     have S2 := HL.out w2 (fun k hk => hb2'.block k (by omega))
     have HG2 : Hid (GtS w w2 t q' S A I t.n j ∧ w2.heap[g]? = some (.cells #[.int .i64 (t.O j).am, .slice ca' (t.O j).cn cc'] 79 (0, 0)) ∧ (∀ w' : World, (∀ k, wr.heap.size ≤ k → k < w1.heap.size → w'.heap[k]? = w2.heap[k]?) → Cd.BrAt w' ca' (t.O j).cn (t.O j).X) ∧ w1.heap.size ≤ w2.heap.size) := ⟨HK0.out _ hb2', hg2, fun w' hw => HC1.out.1 w' (fun k h1 h2 => by rw [hw k h1 h2]; exact hb2.block k h2), hb2.size⟩
     clear hg2 hl2 hb2
     refine hK.out _ _ (fun _ => S2) (fun _ => ?_)
     clear hK K
     try simp only [Act.put, sqA, sqB, sqC]
     refine wpAnyK_ready (rs := [17]) (by kernel_rfl) (by simp) ?_
     refine (AllReadyK.cons (o := ⟨some 67, .call { callee := Go.Callee.builtin Go.Builtin.append, args := #[.tmp 51, .tmp 66], argTypes := #[33, 33] }, 33, _, _, none⟩) rfl (fun K hK => ?_) AllReadyK.nil)
     refine step_append_To rfl (.tmp 51) (.tmp 66) rfl (w.heap.size + 3) g (.slice q'.oa j q'.oc) j (flatL (toS5 t.O A) j) (t.O j).am ca' (t.O j).cn cc' (by rfl) (by rfl) HG2.out.1.outs HG2.out.1.big HG2.out.2.1 (by omega) ?_
     intro va vc w3 hown hgrow hloc
     have hlo := grown_low HG2.out.1.outs hgrow HG2.out.1.big
     have S3 := HL.out w3 (fun k hk => by rw [hlo k hk]; exact hb2'.block k (by omega))
     have HN : Hid (GtS w (w3.setCell ⟨w.heap.size + 2, 2, none⟩ (.slice va (j + 1) vc)) t ⟨q'.ia, q'.ic, va, vc⟩ S (fun k => if k = j then (ca', cc') else A k) (fun k => if k = j then (wr.heap.size, w1.heap.size) else I k) t.n (j + 1)) :=
      HG2.out.1.pushO hown hgrow hloc HG2.out.2.2.1 (by omega) HG2.out.2.2.2 (fun g' e => (HG.out.outs.lt g' e).2) (fun g' e => (HG.out.ins.lt g' e).2) HC1.out.2
     have hx3 : w3.heap[w.heap.size + 2]? = some (.cells #[.int .i64 t.lk, .slice q'.ia t.n q'.ic, .slice q'.oa j q'.oc] 35 (0, 0)) := by rw [hlo _ (by omega)]; exact HG2.out.1.box
     have f3 : ∀ o, w3.frozen? ⟨w.heap.size + 2, o, none⟩ = false := fun o => frozen_of_row _ _ o _ _ hx3
     refine hK.out _ _ (fun _ => S3) (fun _ => ?_)
     clear hK K hown hgrow hloc hlo HG HG2 HL S00 S1 S2 hx3 HC1 HK0 HI hb2' hb1'
     try simp only [Act.put, sqA, sqB, sqC]
     refine wpAnyK_take (by kernel_rfl) (i := 18) (oi := ⟨some 68, .fieldAddr 35 (.tmp 3) 2, 0, _, _, none⟩) (v := ?_) rfl (by kernel_rfl) (by kernel_rfl) (by kernel_rfl) (fun _ _ _ h => h) (Or.inl ⟨by rfl, ?_⟩) (by assumption) ?_
     rotate_left
     ·intro wz hSw; (try dsimp only at hSw); go_simp; (try with_reducible rfl)
     try simp only [Act.put, sqA, sqB, sqC]
     obtain ⟨g1, _⟩ := S3
     refine wpAnyK_ready (rs := [19]) (by kernel_rfl) (by simp) ?_
     refine (AllReadyK.cons (o := ⟨none, .store 33 (.tmp 68) (.tmp 67), 0, _, _, none⟩) rfl (fun K hK => ?_) AllReadyK.nil)
     go_simp
     refine hK.out _ _ (fun h => absurd rfl h) (fun _ => ?_)
     clear hK K
     refine wpAnyK_done (by kernel_rfl) (NoPanic.normal ?_) _
     try simp only [Act.put, sqA, sqB, sqC]
     clear hHeld g1 f3
     go_wp2
     go_roundw
     case rel => exact ⟨j + 1, _, _, _, by omega, by go_num, HN.out⟩
     case measure => simp [intOf]; omega
    ·have hjn : j = t.m := by omega
     have hnn2 : ¬ ((j : Int) < t.m) := by omega
     have HG2 : Hid (GtS w wr t q' S A I t.n t.m) := by rw [← hjn]; exact HG.out
     have HRB := hidV (txl_range HG2.out.box)
     have hres := HG2.out.res
     clear HG hjn b3 b4
     go_wp2_with (first | (refine wpList_load_mid rfl 35 _ rfl (w.heap.size + 2) 0 rfl (txl t.lk q'.ia t.n q'.ic q'.oa t.m q'.oc) _ HRB.out Tryz.underlying35 rfl szTx ?_) | (refine wpList_storeG 35 szTx rfl _ _ rfl (w.heap.size + 1) rfl #[.int .i64 t.lk, .slice q'.ia t.n q'.ic, .slice q'.oa t.m q'.oc] #[.int .i64 0, .slice none 0 0, .slice none 0 0] rfl rfl (by kernel_rfl) 35 rfl hres ?_; intro v4 hg4 hf4) | fail)
     have HE : Hid (GvtR t w (.returned (.agg (txv t.lk q'.ia t.n q'.ic q'.oa t.m q'.oc))) v4) := by
      have hk : ∀ g, w.heap.size + 3 ≤ g → g < wr.heap.size → v4.heap[g]? = wr.heap[g]? := fun g h1 h2 => hf4.block g h2 (by simp; omega)
      have hO : InsOw w v4 t q'.ia q'.ic q'.oa S := by
       refine ⟨own_low (own_keep HG2.out.ins (fun g e => hk g (HG2.out.ins.lt g e).1 (HG2.out.ins.lt g e).2)) (by omega), fun w2 hw => ?_⟩
       have h2 : ∀ g, w.heap.size + 3 ≤ g → g < wr.heap.size → (Value.slice q'.ia t.n q'.ic).ownBlock ≠ some g → w2.heap[g]? = wr.heap[g]? := fun g h3 h4 h5 => by
        rw [hw g (by omega) (by have := hf4.size; omega) h5]; exact hk g h3 h4
       refine ⟨⟨fun hm => ?_⟩, fun k hkk => sl_of_own (own_keep (HG2.out.sec k hkk) (fun g e => h2 g ((HG2.out.sec k hkk).lt g e).1 ((HG2.out.sec k hkk).lt g e).2 (own_apart (HG2.out.sec k hkk) HG2.out.ins (by decide) g e))) (HV.out.2.2.1 k hkk).1⟩
       obtain ⟨g, e, _, _, hr⟩ := own_range (own_keep HG2.out.outs (fun g e => h2 g (HG2.out.outs.lt g e).1 (HG2.out.outs.lt g e).2 (own_apart HG2.out.outs HG2.out.ins (by decide) g e))) hm
       refine ⟨g, 0, e, fun k hkk => ⟨(A k).1, (A k).2, ?_, HG2.out.cond k hkk w2 (fun g h3 h4 => h2 g (by have := (HG2.out.int k hkk).1; omega) (by have := (HG2.out.int k hkk).2; omega) (fun e => by have := HG2.out.apI k hkk g e; omega)), HG2.out.nil k hkk⟩⟩
       exact (flatL_range t.m (f := toS5 t.O A) (k := 2) (fun i _ => rfl)).1 hr k hkk
      refine ⟨q'.ia, q'.ic, q'.oa, q'.oc, S, rfl, ?_, HG2.out.below.trans (hf4.below HG2.out.below.size (by simp)), hO⟩
      refine ⟨⟨fun k hk => HV.out.1.pt k hk, fun hn => ?_⟩, ⟨fun hm => ?_⟩, fun k hkk => ⟨sl_of_own (own_keep (HG2.out.sec k hkk) (fun g e => hk g ((HG2.out.sec k hkk).lt g e).1 ((HG2.out.sec k hkk).lt g e).2)) (HV.out.2.2.1 k hkk).1, by have := HV.out.2.2.2.1.sn k hkk; omega⟩⟩
      ·obtain ⟨g, e, _, _, hr⟩ := own_range (own_keep HG2.out.ins (fun g e => hk g (HG2.out.ins.lt g e).1 (HG2.out.ins.lt g e).2)) hn
       exact ⟨g, 0, e, (flatL_range t.n (fun i _ => til_length _ _ _)).1 hr⟩
      ·obtain ⟨g, e, _, _, hr⟩ := own_range (own_keep HG2.out.outs (fun g e => hk g (HG2.out.outs.lt g e).1 (HG2.out.outs.lt g e).2)) hm
       refine ⟨g, 0, e, fun k hkk => ⟨(A k).1, (A k).2, ?_, HG2.out.cond k hkk v4 (fun g h1 h2 => hk g (by have := (HG2.out.int k hkk).1; omega) (by have := (HG2.out.int k hkk).2; omega)), HG2.out.nil k hkk⟩⟩
       exact (flatL_range t.m (f := toS5 t.O A) (k := 2) (fun i _ => rfl)).1 hr k hkk
     exact bodyPost_ret (results_cell_row Tryz.results9 _ _ (w.heap.size + 1) 35 #[.int .i64 t.lk, .slice q'.ia t.n q'.ic, .slice q'.oa t.m q'.oc] (0, 0) _ rfl hg4 Tryz.underlying35 rfl szTx) rfl HE.out
end Go.Proofs.YtanchjfodcjlmaaGreatDoor
/- TxSecrets: that another Lock makes other bytes; that an ID knows nothing of secrets; a secret set in place. -/
namespace Go.Proofs.YtanchjfodcjlmaaGreatDoor
open Go.RowKit

theorem u8_inj {a b : Int} (ha : 0 ≤ a ∧ a ≤ 255) (hb : 0 ≤ b ∧ b ≤ 255) (h : UInt8.ofNat a.toNat = UInt8.ofNat b.toNat) : a = b := by
 have h1 := congrArg UInt8.toNat h
 simp at h1
 omega
/-- One input's secret is another one. -/
def setX (X : Nat → Ti) (k sn : Nat) : Nat → Ti := fun i => if i = k then { X i with sn := sn } else X i
def setS (S : Nat → Option Addr × Nat) (k : Nat) (sa : Option Addr) (sc : Nat) : Nat → Option Addr × Nat := fun i => if i = k then (sa, sc) else S i
theorem til_low (x : Ti) (sa : Option Addr) (sc : Nat) (sn : Nat) (sb : Option Addr) (sd : Nat) (j : Nat) (hj : j < 34) : (til { x with sn := sn } sb sd)[j]? = (til x sa sc)[j]? := by
 have e : ∀ (y : Ti) (a : Option Addr) (c : Nat), til y a c = (bl y.pt 32 ++ [.int .i64 y.n, .int .i64 y.br]) ++ [.slice a y.sn c] := fun y a c => by simp [til]
 have e2 : ∀ (l : List Value) (v : Value), l.length = 34 → (l ++ [v])[j]? = l[j]? := fun l v h => List.getElem?_append_left (by omega)
 rw [e, e, e2 _ _ (by simp [bl_length]), e2 _ _ (by simp [bl_length])]
end Go.Proofs.YtanchjfodcjlmaaGreatDoor
/- TxSecrets: three transactions that are given, and the boxes they lie in. -/
namespace Go.Proofs.YtanchjfodcjlmaaGreatDoor
open Go.RowKit

/-- Where a given transaction lies: in the blocks from lo on, below hi. -/
structure Gt where
 lo : Nat
 hi : Nat
 ia : Option Addr
 ic : Nat
 oa : Option Addr
 oc : Nat
 S : Nat → Option Addr × Nat
structure TxIv (w : World) (t : Tc5) (q : Gt) : Prop where
 own : w.ownsRow q.lo 59 35 (.slice q.ia t.n q.ic) t.n (flatL (tiS t.X q.S) t.n)
 lt : ∀ g, (Value.slice q.ia t.n q.ic).ownBlock = some g → g < q.hi
 rest : ∀ w2 : World, (∀ g, q.lo ≤ g → g < q.hi → (Value.slice q.ia t.n q.ic).ownBlock ≠ some g → w2.heap[g]? = w.heap[g]?) → ToAt w2 q.oa t.m t.O ∧ ∀ k, k < t.n → SlAt w2 (q.S k).1 (t.X k).sn (t.Z k)
section
variable {t : Tc5} {v w w1 w' : World} {g p q r : Gt}
theorem TxIv.keep (h : TxIv w t q) (hw : ∀ g, q.lo ≤ g → g < q.hi → w'.heap[g]? = w.heap[g]?) : TxIv w' t q :=
 ⟨own_keep h.own (fun g e => hw g (h.own.lt g e).1 (h.lt g e)), h.lt, fun w2 h2 => h.rest w2 (fun g h3 h4 h5 => by rw [h2 g h3 h4 h5, hw g h3 h4])⟩
theorem TxIv.tx (h : TxIv w t q) (hp : ∀ k, k < t.n → Hb (t.X k).pt) (hz : ∀ k, k < t.n → (t.X k).sn ≤ 1000000) : TxAt w t.lk t.n t.X t.Z t.m t.O q.ia q.oa q.S :=
 ⟨⟨hp, fun hn => by
  obtain ⟨g, e, _, _, hr⟩ := own_range h.own hn
  exact ⟨g, 0, e, (flatL_range t.n (fun i _ => til_length _ _ _)).1 hr⟩⟩, (h.rest w (fun _ _ _ _ => rfl)).1, fun k hk => ⟨(h.rest w (fun _ _ _ _ => rfl)).2 k hk, hz k hk⟩⟩
theorem TxIv.of {ia oa : Option Addr} {ic oc : Nat} {S : Nat → Option Addr × Nat} (h : InsOw w w1 t ia ic oa S) : TxIv w1 t ⟨w.heap.size, w1.heap.size, ia, ic, oa, oc, S⟩ :=
 ⟨h.own, fun g e => (h.own.lt g e).2, h.rest⟩
/-- One input's secret is another one. -/
theorem TxIv.set (h : TxIv w t q) (hp : ∀ i, i < t.n → Hb (t.X i).pt) {k : Nat} (hk : k < t.n) :
  ∃ g, q.ia = some ⟨g, 0, none⟩ ∧ q.lo ≤ g ∧ g < q.hi ∧ (∃ u, w.cell? ⟨g, k * 35 + 34, none⟩ = some u) ∧ (∀ o, w.frozen? ⟨g, o, none⟩ = false) ∧
   ∀ (sa : Option Addr) (sn sc : Nat), TiAt (w.setCell ⟨g, k * 35 + 34, none⟩ (.slice sa sn sc)) q.ia t.n (setX t.X k sn) (setS q.S k sa sc) ∧ ToAt (w.setCell ⟨g, k * 35 + 34, none⟩ (.slice sa sn sc)) q.oa t.m t.O ∧ ∀ i, i < t.n → SlAt (w.setCell ⟨g, k * 35 + 34, none⟩ (.slice sa sn sc)) (q.S i).1 (t.X i).sn (t.Z i) := by
 obtain ⟨g, eia, hg0, hrow, hr⟩ := own_range h.own (by omega)
 have hgh : g < q.hi := h.lt g (by rw [eia]; rfl)
 have hc := (flatL_range t.n (f := tiS t.X q.S) (k := 35) (fun i _ => til_length _ _ _)).1 hr
 have h34 := hc k hk 34 _ (til_34 (t.X k) (q.S k).1 (q.S k).2)
 rw [show (0 + k * 35 + 34) = k * 35 + 34 by omega] at h34
 refine ⟨g, eia, hg0, hgh, ⟨_, h34⟩, fun o => ?_, fun sa sn sc => ⟨⟨fun i hi => ?_, fun _ => ⟨g, 0, eia, fun i hi => ?_⟩⟩, h.rest _ (fun b h1 h2 h3 => ?_)⟩⟩
 ·rcases h.own.2 with ⟨e, _⟩ | ⟨g2, cap, cur, e, _, hrow, _⟩
  ·rw [eia] at e; cases e
  ·rw [eia] at e; cases e
   exact frozen_of_row _ _ o _ _ hrow
 ·unfold setX; split
  ·exact hp i hi
  ·exact hp i hi
 ·intro j u hv
  by_cases e : i = k
  ·subst e
   simp only [setX, setS, if_true] at hv
   by_cases ej : j = 34
   ·subst ej
    rw [til_34] at hv
    rw [show (0 + i * 35 + 34) = i * 35 + 34 by omega, World.cell?_setCell_same _ _ _ h34]
    exact hv
   ·have hj : j < 35 := by have := (List.getElem?_eq_some_iff.1 hv).1; rwa [til_length] at this
    rw [til_low (t.X i) (q.S i).1 (q.S i).2 sn sa sc j (by omega)] at hv
    rw [World.cell?_setCell_other _ _ _ _ (fun e => by injection e with _ e2 _; omega)]
    exact hc i hi j u hv
  ·simp only [setX, setS, if_neg e] at hv
   have hj : j < 35 := by have := (List.getElem?_eq_some_iff.1 hv).1; rwa [til_length] at this
   rw [World.cell?_setCell_other _ _ _ _ (fun e2 => by injection e2 with _ e3 _; omega)]
   exact hc i hi j u hv
 ·rw [Below.heap_setCell _ _ _ _ (fun e => h3 (by rw [eia, e]; rfl))]
def txZ : Array Value := #[.int .i64 0, .slice none 0 0, .slice none 0 0]
/-- On the way: three new boxes, three given transactions. -/
structure SxW (t : Tc5) (v w : World) (a b c : Option Nat) (p q r : Option Gt) : Prop where
 below : Below v.heap.size v w
 bx : ∀ k, (a = some k ∨ b = some k ∨ c = some k) → w.heap[k]? = some (.cells txZ 35 (0, 0)) ∧ v.heap.size ≤ k
 ab : ∀ k l, a = some k → b = some l → k ≠ l
 ac : ∀ k l, a = some k → c = some l → k ≠ l
 bc : ∀ k l, b = some k → c = some l → k ≠ l
 iv : ∀ g, (p = some g ∨ q = some g ∨ r = some g) → TxIv w t g ∧ v.heap.size ≤ g.lo ∧ g.hi ≤ w.heap.size ∧ ∀ k, (a = some k ∨ b = some k ∨ c = some k) → k < g.lo ∨ g.hi ≤ k
 pq : ∀ g h, p = some g → q = some h → g.hi ≤ h.lo
 pr : ∀ g h, p = some g → r = some h → g.hi ≤ h.lo
 qr : ∀ g h, q = some g → r = some h → g.hi ≤ h.lo
variable {a b c : Option Nat} {P Q R : Option Gt} {k : Nat}
theorem SxW.init (t : Tc5) (v : World) : SxW t v v.drew none none none none none none :=
 ⟨(Below.refl _ _).drew, (fun _ h => by rcases h with h | h | h <;> cases h), (fun _ _ h => by cases h), (fun _ _ h => by cases h), (fun _ _ h => by cases h), (fun _ h => by rcases h with h | h | h <;> cases h), (fun _ _ h => by cases h), (fun _ _ h => by cases h), (fun _ _ h => by cases h)⟩
theorem SxW.keep (h : SxW t v w a b c P Q R) (hb : Below w.heap.size w w1) : SxW t v w1 a b c P Q R :=
 ⟨Below.transS h.below hb, fun k e => ⟨heap_below hb (h.bx k e).1, (h.bx k e).2⟩, h.ab, h.ac, h.bc, fun g e => by
  obtain ⟨h1, h2, h3, h4⟩ := h.iv g e
  exact ⟨h1.keep (fun k _ h6 => hb.block k (by omega)), h2, by have := hb.size; omega, h4⟩, h.pq, h.pr, h.qr⟩
theorem SxW.lt (h : SxW t v w a b c P Q R) : ∀ k, (a = some k ∨ b = some k ∨ c = some k) → k < w.heap.size := fun k e => lt_of_block (h.bx k e).1
theorem SxW.newA (h : SxW t v w none b c P Q R) (hk : w1.heap[k]? = some (.cells txZ 35 (0, 0))) (hl : w.heap.size ≤ k) (hb : Below w.heap.size w w1) : SxW t v w1 (some k) b c P Q R := by
 have h' := h.keep hb
 refine ⟨h'.below, fun l e => ?_, fun l m e1 e2 => ?_, fun l m e1 e2 => ?_, h'.bc, fun g e => ?_, h'.pq, h'.pr, h'.qr⟩
 ·rcases e with e | e
  ·cases e; exact ⟨hk, by have := h.below.size; omega⟩
  ·exact h'.bx l (.inr e)
 ·cases e1; have := h.lt m (.inr (.inl e2)); omega
 ·cases e1; have := h.lt m (.inr (.inr e2)); omega
 ·obtain ⟨h1, h2, h3, h4⟩ := h'.iv g e
  refine ⟨h1, h2, h3, fun l e2 => ?_⟩
  rcases e2 with e2 | e2
  ·cases e2; have := (h.iv g e).2.2.1; omega
  ·exact h4 l (.inr e2)
theorem SxW.newB (h : SxW t v w a none c P Q R) (hk : w1.heap[k]? = some (.cells txZ 35 (0, 0))) (hl : w.heap.size ≤ k) (hb : Below w.heap.size w w1) : SxW t v w1 a (some k) c P Q R := by
 have h' := h.keep hb
 refine ⟨h'.below, fun l e => ?_, fun l m e1 e2 => ?_, h'.ac, fun l m e1 e2 => ?_, fun g e => ?_, h'.pq, h'.pr, h'.qr⟩
 ·rcases e with e | e | e
  ·exact h'.bx l (.inl e)
  ·cases e; exact ⟨hk, by have := h.below.size; omega⟩
  ·exact h'.bx l (.inr (.inr e))
 ·cases e2; have := h.lt l (.inl e1); omega
 ·cases e1; have := h.lt m (.inr (.inr e2)); omega
 ·obtain ⟨h1, h2, h3, h4⟩ := h'.iv g e
  refine ⟨h1, h2, h3, fun l e2 => ?_⟩
  rcases e2 with e2 | e2 | e2
  ·exact h4 l (.inl e2)
  ·cases e2; have := (h.iv g e).2.2.1; omega
  ·exact h4 l (.inr (.inr e2))
theorem SxW.new (h : SxW t v w a b c P Q R) (hg : TxIv w1 t g) (hlo : g.lo = w.heap.size) (hhi : g.hi = w1.heap.size) : TxIv w1 t g ∧ v.heap.size ≤ g.lo ∧ g.hi ≤ w1.heap.size ∧ ∀ k, (a = some k ∨ b = some k ∨ c = some k) → k < g.lo ∨ g.hi ≤ k :=
 ⟨hg, by have := h.below.size; omega, by omega, fun k e => .inl (by have := h.lt k e; omega)⟩
theorem SxW.giveP (h : SxW t v w a b c none none none) (hg : TxIv w1 t g) (hlo : g.lo = w.heap.size) (hhi : g.hi = w1.heap.size) (hb : Below w.heap.size w w1) : SxW t v w1 a b c (some g) none none := by
 have h' := h.keep hb
 refine ⟨h'.below, h'.bx, h'.ab, h'.ac, h'.bc, fun l e => ?_, (fun _ _ _ h => by cases h), (fun _ _ _ h => by cases h), (fun _ _ h => by cases h)⟩
 rcases e with e | e | e
 ·cases e; exact h.new hg hlo hhi
 ·cases e
 ·cases e
theorem SxW.giveQ (h : SxW t v w a b c P none none) (hg : TxIv w1 t g) (hlo : g.lo = w.heap.size) (hhi : g.hi = w1.heap.size) (hb : Below w.heap.size w w1) : SxW t v w1 a b c P (some g) none := by
 have h' := h.keep hb
 refine ⟨h'.below, h'.bx, h'.ab, h'.ac, h'.bc, fun l e => ?_, fun l m e1 e2 => ?_, (fun _ _ _ h => by cases h), (fun _ _ _ h => by cases h)⟩
 ·rcases e with e | e | e
  ·exact h'.iv l (.inl e)
  ·cases e; exact h.new hg hlo hhi
  ·cases e
 ·cases e2; have := (h.iv l (.inl e1)).2.2.1; omega
def txvG (t : Tc5) (lk : Int) (g : Gt) : Array Value := txv lk g.ia t.n g.ic g.oa t.m g.oc
def txlG (t : Tc5) (lk : Int) (g : Gt) : List Value := txl lk g.ia t.n g.ic g.oa t.m g.oc
theorem txvG_one (t : Tc5) (lk : Int) (g : Gt) : (txvG t lk g).all (·.oneCell') = true := by simp [txvG, txv, Value.oneCell']
/-- Behind the stores. -/
structure SxQ (t : Tc5) (v w : World) (A B C : Nat) (lk : Int) (p q r : Gt) : Prop where
 below : Below v.heap.size v w
 pa : w.heap[A]? = some (.cells (txvG t t.lk p) 35 (0, 0))
 pb : w.heap[B]? = some (.cells (txvG t t.lk q) 35 (0, 0))
 pc : w.heap[C]? = some (.cells (txvG t lk r) 35 (0, 0)) ∧ v.heap.size ≤ C
 ne : A ≠ C ∧ B ≠ C
 iv : ∀ g, (g = p ∨ g = q ∨ g = r) → TxIv w t g ∧ v.heap.size ≤ g.lo ∧ ∀ k, (k = A ∨ k = B ∨ k = C) → k < g.lo ∨ g.hi ≤ k
 pq : p.hi ≤ q.lo
 qr : q.hi ≤ r.lo
theorem SxW.stored {w2 w3 : World} {A B C : Nat} (h : SxW t v w (some A) (some B) (some C) (some p) (some q) (some r))
  (hg1 : w1.heap[A]? = some (.cells (txvG t t.lk p) 35 (0, 0))) (hf1 : Frm [A] w w1)
  (hg2 : w2.heap[B]? = some (.cells (txvG t t.lk q) 35 (0, 0))) (hf2 : Frm [B] w1 w2)
  (hg3 : w3.heap[C]? = some (.cells (txvG t t.lk r) 35 (0, 0))) (hf3 : Frm [C] w2 w3) : SxQ t v w3 A B C t.lk p q r := by
 have hA := h.bx A (.inl rfl)
 have hB := h.bx B (.inr (.inl rfl))
 have hC := h.bx C (.inr (.inr rfl))
 have nab := h.ab A B rfl rfl
 have nac := h.ac A C rfl rfl
 have nbc := h.bc B C rfl rfl
 have b1 : Below v.heap.size v w1 := h.below.trans (hf1.below h.below.size (by simp; omega))
 have b2 : Below v.heap.size v w2 := b1.trans (hf2.below b1.size (by simp; omega))
 have b3 : Below v.heap.size v w3 := b2.trans (hf3.below b2.size (by simp; omega))
 refine ⟨b3, ?_, ?_, ⟨hg3, hC.2⟩, ⟨nac, nbc⟩, fun g e => ?_, h.pq p q rfl rfl, h.qr q r rfl rfl⟩
 ·rw [hf3.block A (by have := lt_of_block hA.1; have := hf1.size; have := hf2.size; omega) (by simp; omega), hf2.block A (by have := lt_of_block hA.1; have := hf1.size; omega) (by simp; omega)]; exact hg1
 ·rw [hf3.block B (by have := lt_of_block hB.1; have := hf1.size; have := hf2.size; omega) (by simp; omega)]; exact hg2
 ·have e2 : some p = some g ∨ some q = some g ∨ some r = some g := by rcases e with e | e | e <;> simp [e]
  obtain ⟨h1, h2, h3, h4⟩ := h.iv g e2
  have o1 := h4 A (.inl rfl)
  have o2 := h4 B (.inr (.inl rfl))
  have o3 := h4 C (.inr (.inr rfl))
  refine ⟨h1.keep (fun k k1 k2 => ?_), h2, fun k e3 => ?_⟩
  ·rw [hf3.block k (by have := hf1.size; have := hf2.size; omega) (by simp; omega), hf2.block k (by have := hf1.size; omega) (by simp; omega), hf1.block k (by omega) (by simp; omega)]
  ·rcases e3 with rfl | rfl | rfl
   ·exact o1
   ·exact o2
   ·exact o3
theorem SxQ.drew {A B C : Nat} {lk : Int} (h : SxQ t v w A B C lk p q r) : SxQ t v w.drew A B C lk p q r :=
 ⟨h.below.drew, h.pa, h.pb, h.pc, h.ne, fun g e => ⟨(h.iv g e).1.keep (fun _ _ _ => rfl), (h.iv g e).2⟩, h.pq, h.qr⟩
/-- The last one's Lock is another one. -/
theorem SxQ.lock {A B C : Nat} {lk : Int} (h : SxQ t v w A B C lk p q r) (lk' : Int) : SxQ t v (w.setCell ⟨C, 0, none⟩ (.int .i64 lk')) A B C lk' p q r := by
 have ho : ∀ k, k ≠ C → (w.setCell ⟨C, 0, none⟩ (.int .i64 lk')).heap[k]? = w.heap[k]? := fun k hk => Below.heap_setCell _ _ _ _ (by exact hk)
 refine ⟨h.below.setCell h.pc.2 _, by rw [ho A h.ne.1]; exact h.pa, by rw [ho B h.ne.2]; exact h.pb, ⟨heap_setCell_same w C 0 _ _ _ h.pc.1, h.pc.2⟩, h.ne, fun g e => ?_, h.pq, h.qr⟩
 obtain ⟨h1, h2, h3⟩ := h.iv g e
 exact ⟨h1.keep (fun k k1 k2 => ho k (by have := h3 C (.inr (.inr rfl)); omega)), h2, h3⟩
/-- What the end wants. -/
structure SxR (t : Tc5) (v w : World) (A B C : Nat) (lk : Int) (p q r : Gt) (X : Nat → Ti) (Z : Nat → Nat → Int) (S : Nat → Option Addr × Nat) : Prop where
 below : Below v.heap.size v w
 pa : w.rangeAt A 0 (txlG t t.lk p)
 pb : w.rangeAt B 0 (txlG t t.lk q)
 pc : w.rangeAt C 0 (txlG t lk r)
 xa : TxAt w t.lk t.n t.X t.Z t.m t.O p.ia p.oa p.S
 xb : TxAt w t.lk t.n X Z t.m t.O q.ia q.oa S
 xc : TxAt w lk t.n t.X t.Z t.m t.O r.ia r.oa r.S
theorem SxR.keep {A B C : Nat} {lk : Int} {X : Nat → Ti} {Z : Nat → Nat → Int} {S : Nat → Option Addr × Nat} (h : SxR t v w A B C lk p q r X Z S) (hb : Below w.heap.size w w1) : SxR t v w1 A B C lk p q r X Z S :=
 ⟨Below.transS h.below hb, range_below h.pa hb, range_below h.pb hb, range_below h.pc hb, h.xa.below hb, h.xb.below hb, h.xc.below hb⟩
end
theorem name_any {P : Program} {md : Region.Mode} {ops : Array Oper} {Q : Exit → Act → World → Prop} {S : World → Prop} {n : Nat} {l : Array Bool} {a : Act} {w : World}
  (h : ∀ G : Nat → Array Bool → Act → World → Prop, (∀ n l a w, wpAnyH P md ops Q S n l a w → G n l a w) → (∀ n l a w, G n l a w → wpAnyH P md ops Q S n l a w) → G n l a w) : wpAnyH P md ops Q S n l a w := h _ (fun _ _ _ _ h => h) (fun _ _ _ _ h => h)
end Go.Proofs.YtanchjfodcjlmaaGreatDoor
/- What several texts share. -/
namespace Go.Proofs.YtanchjfodcjlmaaGreatDoor.Cd
open Go.RowKit

/-- How many of a row are below k, from its begin on. -/
def atK : List Int → Int → Nat
 | [], _ => 0
 | x :: r, k => if x < k then atK r k + 1 else 0
/-- k laid in where it belongs, if it is not there. -/
def insK (L : List Int) (k : Int) : List Int := if L.contains k then L else L.take (atK L k) ++ [k] ++ L.drop (atK L k)
def insL (z : Nat → Int) : Nat → List Int
 | 0 => []
 | i + 1 => insK (insL z i) (z i)

section
variable {ops : Array Oper} {rest : List Oper} {o : Oper} {a : Act} {w : World} {Q : Exit → Act → World → Prop}
end
section
variable {ops : Array Oper} {o : Oper} {a : Act} {w : World} {K : Act → World → Prop} {Q : Exit → Act → World → Prop} {E : Prop}
end

end Go.Proofs.YtanchjfodcjlmaaGreatDoor.Cd
/- Sorted and made single: what the program's All and the document's have in common. -/
namespace Go.Proofs.YtanchjfodcjlmaaGreatDoor.Cd
open Go.RowKit

/-- Ascending, each once. -/
def Asc (L : List Int) : Prop := L.Pairwise (· < ·)
theorem asc_ext {L M : List Int} (hL : Asc L) (hM : Asc M) (h : ∀ x, x ∈ L ↔ x ∈ M) : L = M := by
 induction L generalizing M with
 | nil =>
  cases M with
  | nil => rfl
  | cons y r => have := (h y).2 (by simp); simp at this
 | cons x l ih =>
  cases M with
  | nil => have := (h x).1 (by simp); simp at this
  | cons y r =>
   have hx := List.pairwise_cons.1 hL
   have hy := List.pairwise_cons.1 hM
   have e : x = y := by
    rcases List.mem_cons.1 ((h x).1 (by simp)) with e | e
    ·exact e
    ·rcases List.mem_cons.1 ((h y).2 (by simp)) with e2 | e2
     ·exact e2.symm
     ·have := hy.1 x e; have := hx.1 y e2; omega
   subst e
   rw [ih hx.2 hy.2 (fun z => ?_)]
   constructor
   ·intro hz
    rcases List.mem_cons.1 ((h z).1 (List.mem_cons_of_mem _ hz)) with e | e
    ·subst e; have := hx.1 z hz; omega
    ·exact e
   ·intro hz
    rcases List.mem_cons.1 ((h z).2 (List.mem_cons_of_mem _ hz)) with e | e
    ·subst e; have := hy.1 z hz; omega
    ·exact e
theorem insK_asc {L : List Int} (k : Int) (h : Asc L) : Asc (insK L k) ∧ ∀ x, x ∈ insK L k ↔ x ∈ L ∨ x = k := by
 induction L with
 | nil => simp [insK, Asc, atK]
 | cons y r ih =>
  have hy := List.pairwise_cons.1 h
  obtain ⟨i1, i2⟩ := ih hy.2
  by_cases hm : (y :: r).contains k = true
  ·unfold insK
   rw [if_pos hm]
   refine ⟨h, fun x => ⟨.inl, fun hx => ?_⟩⟩
   rcases hx with hx | hx
   ·exact hx
   ·subst hx; simpa using hm
  ·have hm0 : insK (y :: r) k = if y < k then y :: insK r k else k :: y :: r := by
    unfold insK
    rw [if_neg hm]
    have hmr : ¬ r.contains k = true := fun e => hm (by simp at e ⊢; exact .inr e)
    rw [if_neg hmr]
    simp only [atK]
    split <;> simp
   rw [hm0]
   have hne : y ≠ k := fun e => hm (by simp [e])
   split
   ·rename_i hlt
    refine ⟨List.pairwise_cons.2 ⟨fun x hx => ?_, i1⟩, fun x => ?_⟩
    ·rcases (i2 x).1 hx with h1 | h1
     ·exact hy.1 x h1
     ·rw [h1]; exact hlt
    ·simp only [List.mem_cons, i2 x]
     constructor
     ·rintro (h | h | h) <;> simp [h]
     ·rintro ((h | h) | h) <;> simp [h]
   ·rename_i hlt
    refine ⟨List.pairwise_cons.2 ⟨fun x hx => ?_, h⟩, fun x => ?_⟩
    ·rcases List.mem_cons.1 hx with e | e
     ·rw [e]; omega
     ·have := hy.1 x e; omega
    ·simp only [List.mem_cons]
     constructor
     ·rintro (h | h | h) <;> simp [h]
     ·rintro ((h | h) | h) <;> simp [h]
theorem insL_asc (z : Nat → Int) : ∀ n, Asc (insL z n) ∧ ∀ x, x ∈ insL z n ↔ x ∈ keysL z n
 | 0 => by simp [insL, Asc, keysL]
 | n + 1 => by
  obtain ⟨h1, h2⟩ := insL_asc z n
  obtain ⟨h3, h4⟩ := insK_asc (z n) h1
  refine ⟨h3, fun x => ?_⟩
  simp only [insL, h4 x, h2 x, keysL, List.range_succ, List.map_append, List.mem_append, List.map_cons, List.map_nil, List.mem_singleton]
theorem srt_sorted (l : List Int) : (srt l).Pairwise (· ≤ ·) := by
 have := List.pairwise_mergeSort (le := fun (x y : Int) => decide (x ≤ y)) (by intro a b c; simp; omega) (by intro a b; simp; omega) l
 simpa [srt] using this
theorem sorted_le {l : List Int} (h : l.Pairwise (· ≤ ·)) {i j : Nat} (hij : i ≤ j) (hj : j < l.length) : l.toArray[i]! ≤ l.toArray[j]! := by
 have hi : i < l.length := by omega
 rw [getElem!_pos _ i (by simpa using hi), getElem!_pos _ j (by simpa using hj)]
 rcases Nat.lt_or_eq_of_le hij with h1 | h1
 ·exact List.pairwise_iff_getElem.1 h i j hi hj h1
 ·subst h1; exact Int.le_refl _
theorem kept {l : List Int} : ∀ j, j < l.length → ∃ q, q ≤ j ∧ Lib.keeps l.toArray q = true ∧ l.toArray[q]! = l.toArray[j]!
 | 0, _ => ⟨0, Nat.le_refl _, Lib.keeps_lt_one _ 0 (by omega), rfl⟩
 | j + 1, h => by
  by_cases e : l.toArray[j + 1]! = l.toArray[j]!
  ·obtain ⟨q, h1, h2, h3⟩ := kept (l := l) j (by omega)
   exact ⟨q, by omega, h2, by rw [h3, e]⟩
  ·exact ⟨j + 1, Nat.le_refl _, Lib.keeps_pos (by simpa using e), rfl⟩
theorem comp_all (l : List Int) (h : l.Pairwise (· ≤ ·)) : Asc (Lib.compact l) ∧ ∀ x, x ∈ Lib.compact l ↔ x ∈ l := by
 refine ⟨?_, fun x => ⟨compact_mem, fun hx => ?_⟩⟩
 ·unfold Asc Lib.compact Lib.compactUpTo
  rw [List.pairwise_map]
  have hr : (List.range l.length).Pairwise (· < ·) := List.pairwise_lt_range
  refine (hr.filter (Lib.keeps l.toArray)).imp_of_mem (fun {a b} ha hb hab => ?_)
  have hb1 := List.mem_filter.1 hb
  have hbl : b < l.length := List.mem_range.1 hb1.1
  have hne : l.toArray[b]! ≠ l.toArray[b - 1]! := fun e => by
   have := Lib.keeps_neg (by omega) e
   rw [this] at hb1
   exact absurd hb1.2 (by simp)
  have h1 := sorted_le h (show a ≤ b - 1 by omega) (by omega)
  have h2 := sorted_le h (show b - 1 ≤ b by omega) hbl
  omega
 ·obtain ⟨j, hj, rfl⟩ := List.mem_iff_getElem.1 hx
  obtain ⟨q, h1, h2, h3⟩ := kept j hj
  unfold Lib.compact Lib.compactUpTo
  refine List.mem_map.2 ⟨q, List.mem_filter.2 ⟨List.mem_range.2 (by omega), h2⟩, ?_⟩
  show l.toArray[q]! = l[j]
  rw [h3, getElem!_pos _ j (by simpa using hj)]
  simp
theorem all_same (z : Nat → Int) (n : Nat) : Lib.compact (srt (keysL z n)) = insL z n := by
 obtain ⟨h1, h2⟩ := comp_all _ (srt_sorted (keysL z n))
 obtain ⟨h3, h4⟩ := insL_asc z n
 refine asc_ext h1 h3 (fun x => ?_)
 rw [h2 x, h4 x]
 simp [srt]
end Go.Proofs.YtanchjfodcjlmaaGreatDoor.Cd
