/- The document's Bytes, behind bytes of one's own. -/
import Derived.Test.YtanchjfodcjlmaaGreatDoorOwnShelf15
import Derived.Test.YtanchjfodcjlmaaGreatDoorOwnShelf20
import Derived.Test.YtanchjfodcjlmaaGreatDoorOwnShelf17
namespace Go.Proofs.YtanchjfodcjlmaaGreatDoor
open Go.RowKit

theorem src_new {w : World} {g : Nat} {l : List Int} {c : Nat} {t : TypeId} {fr : Nat × Nat} (h : w.heap[g]? = some (.cells (l.map (Value.int .u8)).toArray t fr)) : BSrc w (.slice (some ⟨g, 0, none⟩) l.length c) l := by
 refine ⟨_, c, rfl, .inr ⟨_, rfl, ?_⟩⟩
 have := World.news_of_block h
 simpa using this
theorem src_one (w : World) (x : Int) : BSrc (w.alloc (.cells #[.int .u8 x] 5)) (.slice (some ⟨w.heap.size, 0, none⟩) 1 1) [x] := src_new (l := [x]) (heap_alloc_new w _)
theorem src_two (w : World) (x y : Int) : BSrc (w.alloc (.cells #[.int .u8 x, .int .u8 y] 5)) (.slice (some ⟨w.heap.size, 0, none⟩) 2 2) [x, y] := src_new (l := [x, y]) (heap_alloc_new w _)
set_option maxRecDepth 100000 in
set_option maxHeartbeats 1600000 in
theorem refBytes_ow (W0 w : World) (v : Value) (L : List Int) (ad : Option Addr) (n cap : Nat) (z : Nat → Int) (h : Ow W0 w v L) (hs : SlAt w ad n z) (hl : L.length + 2 * n + 64 ≤ 140737488351232) :
  Calls Tryz.prog 56 #[v, .slice ad n cap] w fun e w' => ∃ v', e = .returned v' ∧ Ow W0 w' v' (L ++ (escF z n ++ [0, 0])) ∧ Below w.heap.size w w' := by
 obtain ⟨a0, c0, rfl⟩ := h.form
 obtain ⟨_, hs0, hn0, _, _⟩ := h.fresh
 have hcall := refOwn_any a0 L c0 w hs0 hn0 (by omega)
 have HS : Hid (SlAt w ad n z) := hs
 have HW : Hid (Below W0.heap.size W0 w) := h.below
 clear hs0 hn0 hs h
 go_enter Tryz.func56, Tryz.ntmps56
 go_wp2_with (go_at_call 76; refine hcall.mono ?_; rintro e w1 ⟨vo, rfl, hO⟩)
 clear hcall
 have hO1 : Ow w w1 vo (L ++ escF z 0) := by simpa [escF] using hO
 go_loopw [5, 6] (fun ov iv wr => ∃ (q : Nat) (x : Value), q ≤ n ∧ x = ov ∧ iv = .int .i64 q ∧ Ow w wr x (L ++ escF z q)) (fun _ iv _ => n + 1 - (intOf iv).toNat)
 case atStart => exact ⟨0, _, by omega, rfl, rfl, hO1⟩
 case round =>
  clear hO hO1
  obtain ⟨q, x, hq, rfl, rfl, hO⟩ := hrel
  have HO : Hid (Ow w wr x (L ++ escF z q)) := hO
  clear hO
  have hle := escF_le z q
  have hll : (L ++ escF z q).length + 2 * (n - q) + 64 ≤ 140737488351232 := by rw [List.length_append]; omega
  by_cases hlt : q < n
  ·have hlt' : (q : Int) < n := by omega
   obtain ⟨b, off, rfl, hcz⟩ := HS.out.2 (by omega)
   have hzq := HS.out.1 q hlt
   have HC : Hid (∀ w', Below w.heap.size w w' → w'.cell? ⟨b, off + q, none⟩ = some (.int .u8 (z q))) := fun w' hb => by
    rw [hb.cell (p := ⟨b, off + q, none⟩) (HS.out.lt (by omega) rfl)]
    exact hcz q hlt
   have hc0 := HC.out wr HO.out.below
   have HE : Hid (L ++ escF z (q + 1) = (L ++ escF z q) ++ esc (z q)) := by show _ = _; rw [escF, List.append_assoc]
   obtain ⟨M, hM⟩ : ∃ M, L ++ escF z q = M := ⟨_, rfl⟩
   rw [hM] at HO HE hll
   clear hcz hM hle
   by_cases h0 : z q = 0
   ·have h0' : (z q == 0) = true := by simp [h0]
    have HN : Hid (L ++ escF z (q + 1) = (M ++ [z q]) ++ [255]) := by show _ = _; rw [HE.out, esc, if_pos h0, h0]; simp
    clear h0 HE
    go_wp2_with (first | (at_builtin; refine wpList_append_B rfl (.tmp 15) (.tmp 20) rfl w _ _ M [z q] rfl rfl (HO.out.alloc _) (src_one wr (z q)) (by intro y hy; rw [List.mem_singleton.1 hy]; exact hzq) (by simp; omega) ?_; intro v1 w1 hO1; have hc1 := HC.out w1 hO1.below) | (at_builtin; refine wpList_append_B rfl (.tmp 27) (.tmp 28) rfl w _ _ (M ++ [z q]) [255] rfl rfl (hO1.alloc _) (src_one w1 255) (by intro y hy; rw [List.mem_singleton.1 hy]; omega) (by simp; omega) ?_; intro v2 w2 hO2))
    have HR : Hid (Ow w w2 v2 (L ++ escF z (q + 1))) := by show Ow _ _ _ _; rw [HN.out]; exact hO2
    go_roundw
    case rel => exact ⟨q + 1, v2, by omega, rfl, by go_num, HR.out⟩
    case measure => simp [intOf]; omega
   ·have h0' : (z q == 0) = false := by simp [h0]
    have HN : Hid (L ++ escF z (q + 1) = M ++ [z q]) := by show _ = _; rw [HE.out, esc, if_neg h0]
    clear h0 HE
    go_wp2_with (at_builtin; refine wpList_append_B rfl (.tmp 15) (.tmp 20) rfl w _ _ M [z q] rfl rfl (HO.out.alloc _) (src_one wr (z q)) (by intro y hy; rw [List.mem_singleton.1 hy]; exact hzq) (by simp; omega) ?_; intro v1 w1 hO1; have hc1 := HC.out w1 hO1.below)
    have HR : Hid (Ow w w1 v1 (L ++ escF z (q + 1))) := by show Ow _ _ _ _; rw [HN.out]; exact hO1
    go_roundw
    case rel => exact ⟨q + 1, v1, by omega, rfl, by go_num, HR.out⟩
    case measure => simp [intOf]; omega
  ·obtain rfl : q = n := by omega
   have hnn : ¬ ((q : Int) < q) := by omega
   go_wp2_with (at_builtin; refine wpList_append_B rfl _ _ rfl w _ _ (L ++ escF z q) [0, 0] rfl rfl (HO.out.alloc _) (src_two wr 0 0) (by intro y hy; simp at hy; omega) (by simp only [List.length_cons, List.length_nil]; omega) ?_; intro v1 w1 hO1)
   have HR : Hid (Ow W0 w1 v1 (L ++ (escF z q ++ [0, 0])) ∧ Below w.heap.size w w1) := ⟨by rw [← List.append_assoc]; exact hO1.mono HW.out, hO1.below⟩
   go_ret
   exact ⟨_, rfl, HR.out⟩
end Go.Proofs.YtanchjfodcjlmaaGreatDoor
/- The document's put of a transaction, with nothing shown for secrets. -/
namespace Go.Proofs.YtanchjfodcjlmaaGreatDoor
open Go.RowKit

set_option maxRecDepth 100000 in
set_option maxHeartbeats 6400000 in
theorem rtputI_any (lk : Int) (ia : Option Addr) (n ic : Nat) (oa : Option Addr) (m oc : Nat) (X : Nat → Ti) (S : Nat → Option Addr × Nat) (Z : Nat → Nat → Int) (O : Nat → To) (w : World) (h : TiAt w ia n X S) (ho : ToAt w oa m O)
  (hz : ∀ i, i < n → SlAt w (S i).1 (X i).sn (Z i) ∧ (X i).sn ≤ 1000000) (hs : ∀ i, i < m → (O i).cn ≤ 1000 ∧ ∀ j, j < (O i).cn → ((O i).X j).n ≤ 1048576) (hn : n ≤ 1000) (hm : m ≤ 1000) :
  Calls Tryz.prog 38 #[.agg (txv lk ia n ic oa m oc), .bool false] w fun e w' => ∃ v, e = .returned v ∧ Ow w w' v (laidT lk n (noS X) Z m O) := by
 have hb0 : Below w.heap.size w (w.alloc (.cells #[.int .i64 lk, .slice ia n ic, .slice oa m oc] 25)) := (Below.refl _ w).alloc (Nat.le_refl _) _
 have hr0 := heap_alloc_new w (.cells #[.int .i64 lk, .slice ia n ic, .slice oa m oc] 25)
 have HH : Hid ((TiAt w ia n X S ∧ ToAt w oa m O) ∧ (∀ i, i < n → SlAt w (S i).1 (X i).sn (Z i) ∧ (X i).sn ≤ 1000000) ∧ (∀ i, i < m → (O i).cn ≤ 1000 ∧ ∀ j, j < (O i).cn → ((O i).X j).n ≤ 1048576)) := ⟨⟨h, ho⟩, hz, hs⟩
 clear h ho hz hs
 unfold txv
 go_enter Tryz.func38, Tryz.ntmps38
 go_upto_region 1 with fail
 generalize w.alloc (.cells #[.int .i64 lk, .slice ia n ic, .slice oa m oc] 25) = W0 at *
 have HC : Hid (∀ w', Below W0.heap.size W0 w' → w'.cell? ⟨w.heap.size, 0, none⟩ = some (.int .i64 lk) ∧ w'.cell? ⟨w.heap.size, 1, none⟩ = some (.slice ia n ic) ∧ w'.cell? ⟨w.heap.size, 2, none⟩ = some (.slice oa m oc)) := fun w' hb => by
  have := hb.block _ (lt_of_block hr0)
  rw [hr0] at this
  exact ⟨by rw [cell_of_row _ _ 0 _ _ _ this]; rfl, by rw [cell_of_row _ _ 1 _ _ _ this]; rfl, by rw [cell_of_row _ _ 2 _ _ _ this]; rfl⟩
 have HB0 : Hid (Below w.heap.size w W0) := hb0
 clear hr0 hb0
 have HO1 : Hid (Ow W0 W0.drew (.slice none 0 0) []) := (Ow.nil W0).drew
 refine wp_region_noPanic ?_
 refine wp_region_held_drew (S := fun w' => w'.cell? ⟨w.heap.size, 0, none⟩ = some (.int .i64 lk) ∧ w'.cell? ⟨w.heap.size, 1, none⟩ = some (.slice ia n ic)) (by kernel_rfl) ⟨(HC.out W0.drew (Below.refl _ _).drew).1, (HC.out W0.drew (Below.refl _ _).drew).2.1⟩ (fun hHeld => ?_)
 generalize W0.drew = w1 at *
 refine wpT (i := 0) (oi := ⟨some 9, .fieldAddr 25 (.tmp 2) 0, 0, _, _, none⟩) (v := ?_) rfl (by kernel_rfl) (fun _ _ _ h => h) (Or.inl ⟨by rfl, ?_⟩) (by assumption) ?_
 rotate_left
 ·intro wz hSw; (try dsimp only at hSw); go_simp; (try with_reducible rfl)
 try simp only [Act.put, sqA, sqB, sqC]
 refine wpT (i := 1) (oi := ⟨some 10, .load 3 (.tmp 9), 3, _, _, none⟩) (v := ?_) rfl (by kernel_rfl) (fun _ _ _ h => h) (Or.inl ⟨by rfl, ?_⟩) (by assumption) ?_
 rotate_left
 ·intro wz hSw; (try dsimp only at hSw); go_simp; (try with_reducible rfl)
 try simp only [Act.put, sqA, sqB, sqC]
 refine wpT (i := 2) (oi := ⟨some 11, .convert 3 119 (.tmp 10), 119, _, _, none⟩) (v := ?_) rfl (by kernel_rfl) (fun _ _ _ h => h) (Or.inl ⟨by rfl, ?_⟩) (by assumption) ?_
 rotate_left
 ·intro wz hSw; (try dsimp only at hSw); go_simp; (try with_reducible rfl)
 try simp only [Act.put, sqA, sqB, sqC]
 refine wpT (i := 4) (oi := ⟨some 13, .fieldAddr 25 (.tmp 2) 1, 0, _, _, none⟩) (v := ?_) rfl (by kernel_rfl) (fun _ _ _ h => h) (Or.inl ⟨by rfl, ?_⟩) (by assumption) ?_
 rotate_left
 ·intro wz hSw; (try dsimp only at hSw); go_simp; (try with_reducible rfl)
 try simp only [Act.put, sqA, sqB, sqC]
 refine wpT (i := 5) (oi := ⟨some 14, .load 22 (.tmp 13), 22, _, _, none⟩) (v := ?_) rfl (by kernel_rfl) (fun _ _ _ h => h) (Or.inl ⟨by rfl, ?_⟩) (by assumption) ?_
 rotate_left
 ·intro wz hSw; (try dsimp only at hSw); go_simp; (try with_reducible rfl)
 try simp only [Act.put, sqA, sqB, sqC]
 refine wpT (i := 6) (oi := ⟨some 15, .call { callee := Go.Callee.builtin Go.Builtin.len, args := #[.tmp 14], argTypes := #[22] }, 3, _, _, none⟩) (v := ?_) rfl (by kernel_rfl) (fun _ _ _ h => h) (Or.inl ⟨by rfl, ?_⟩) (by assumption) ?_
 rotate_left
 ·intro wz hSw; (try dsimp only at hSw); go_simp; (try with_reducible rfl)
 try simp only [Act.put, sqA, sqB, sqC]
 refine wpT (i := 7) (oi := ⟨some 16, .convert 3 119 (.tmp 15), 119, _, _, none⟩) (v := ?_) rfl (by kernel_rfl) (fun _ _ _ h => h) (Or.inl ⟨by rfl, ?_⟩) (by assumption) ?_
 rotate_left
 ·intro wz hSw; (try dsimp only at hSw); go_simp; (try with_reducible rfl)
 try simp only [Act.put, sqA, sqB, sqC]
 refine wpAnyH_ready (rs := [3]) (by kernel_rfl) (by simp) ?_
 refine (AllReadyH.cons (o := ⟨some 12, .call { callee := Go.Callee.value (.func 54), args := #[.const (.slice none 0 0), .tmp 11], argTypes := #[57, 119] }, 57, _, _, none⟩) rfl (fun K hK => ?_) AllReadyH.nil)
 go_simp
 refine (Cd.refUint_ow W0 w1 _ [] lk HO1.out (by simp)).mono ?_
 rintro e w2 ⟨v2, rfl, hO2, -⟩
 rw [List.nil_append] at hO2
 have HO2 := yhid hO2
 clear hO2 HO1
 refine hK.out _ _ ⟨(HC.out w2 HO2.out.below).1, (HC.out w2 HO2.out.below).2.1⟩ (fun _ => ?_)
 clear hK K
 try simp only [Act.put, sqA, sqB, sqC]
 have hle1 := Cd.uB_len (Cd.u64 lk)
 have hle2 := Cd.uB_len (Cd.u64 (n : Int))
 have hle3 := Cd.uB_len (Cd.u64 (m : Int))
 refine wpAnyH_ready (rs := [8]) (by kernel_rfl) (by simp) ?_
 refine (AllReadyH.cons (o := ⟨some 17, .call { callee := Go.Callee.value (.func 54), args := #[.tmp 12, .tmp 16], argTypes := #[57, 119] }, 57, _, _, none⟩) rfl (fun K hK => ?_) AllReadyH.nil)
 go_simp
 refine (Cd.refUint_ow W0 w2 v2 _ (n : Int) HO2.out (by omega)).mono ?_
 rintro e w3 ⟨v3, rfl, hO3, -⟩
 obtain ⟨L0, hL0⟩ : ∃ L, uB (Cd.u64 lk) ++ uB (Cd.u64 (n : Int)) = L := ⟨_, rfl⟩
 have hlL : L0.length ≤ 18 := by rw [← hL0, List.length_append]; omega
 have HL0 : Hid (uB (Cd.u64 lk) ++ uB (Cd.u64 (n : Int)) = L0) := hL0
 rw [hL0] at hO3
 have HO3 : Hid (Ow W0 w3 v3 (L0 ++ laidIns (noS X) Z 0)) := by show Ow _ _ _ _; simpa [laidIns] using hO3
 clear hL0 hle1 hle2 hO3 HO2
 refine hK.out _ _ ⟨(HC.out w3 HO3.out.below).1, (HC.out w3 HO3.out.below).2.1⟩ (fun _ => ?_)
 clear hK K
 try simp only [Act.put, sqA, sqB, sqC]
 refine wpT (i := 9) (oi := ⟨some 5, .assign (.tmp 17), 57, _, _, none⟩) (v := ?_) rfl (by kernel_rfl) (fun _ _ _ h => h) (Or.inl ⟨by rfl, ?_⟩) (by assumption) ?_
 rotate_left
 ·intro wz hSw; (try dsimp only at hSw); go_simp; (try with_reducible rfl)
 try simp only [Act.put, sqA, sqB, sqC]
 refine wpAnyH_done (by kernel_rfl) (NoPanic.normal ?_) _
 try simp only [Act.put, sqA, sqB, sqC]
 clear hHeld
 go_wp2
 have hO3 := HO3.out
 go_loopw [5, 6, 7] (fun bv iv _ wr => ∃ (i : Nat) (v : Value), i ≤ n ∧ v = bv ∧ iv = .int .i64 i ∧ Ow W0 wr v (L0 ++ laidIns (noS X) Z i)) (fun _ iv _ _ => n + 1 - (intOf iv).toNat)
 case atStart => exact ⟨0, v3, by omega, rfl, rfl, hO3⟩
 case round =>
  clear hO3 HO3
  obtain ⟨i, v, hi, rfl, rfl, hO⟩ := hrel
  have HO : Hid (Ow W0 wr v (L0 ++ laidIns (noS X) Z i)) := hO
  clear hO
  have hll : (L0 ++ laidIns (noS X) Z i).length ≤ 18 + 2000052 * 1000 := by
   have := laidIns_len (noS X) Z i (fun j _ => by simp [noS])
   rw [List.length_append]; omega
  have c1 := (HC.out wr HO.out.below).2.1
  by_cases hlt : i < n
  ·have hlt' : (i : Int) < n := by omega
   obtain ⟨b, off, rfl, hc⟩ := HH.out.1.1.at_ (by omega)
   have HR : Hid (wr.rangeAt b (off + i * 35) (til (X i) (S i).1 (S i).2)) := range_below (range_below (hc i hlt) HB0.out) HO.out.below
   have HZ : Hid (Hb (X i).pt ∧ SlAt W0 (S i).1 (X i).sn (Z i)) := ⟨HH.out.1.1.pt i hlt, (HH.out.2.1 i hlt).1.below HB0.out⟩
   have hsn := (HH.out.2.1 i hlt).2
   have HI : Hid (L0 ++ laidIns (noS X) Z (i + 1) = L0 ++ laidIns (noS X) Z i ++ hB (X i).pt ++ uB (Cd.u64 (X i).n) ++ uB (Cd.u64 (X i).br) ++ (escF (Z i) 0 ++ [0, 0])) := by show _ = _; simp only [laidIns, laidIn, noS, List.append_assoc]
   obtain ⟨L, hL⟩ : ∃ L, L0 ++ laidIns (noS X) Z i = L := ⟨_, rfl⟩
   rw [hL] at HO HI hll
   obtain ⟨x, hx⟩ : ∃ x, X i = x := ⟨_, rfl⟩
   rw [hx] at HR HZ HI hsn
   obtain ⟨⟨sa, sc⟩, hsc⟩ : ∃ s, S i = s := ⟨_, rfl⟩
   rw [hsc] at HR HZ
   clear hc hL hx hsc
   have hle1 := Cd.uB_len (Cd.u64 x.n)
   have hle2 := Cd.uB_len (Cd.u64 x.br)
   have hlh := hB_length x.pt
   go_upto_region 6 with (first | (refine wpList_load_mid rfl 65 _ rfl b (off + i * 35) rfl (til x sa sc) _ HR.out Tryz.underlying65 rfl (szTilR _ _ _) ?_) | (refine wpList_allocG 65 (tiv ti0 none 0) run_allocTiR rfl rfl ?_) | (refine wpList_storeG 65 szTiR rfl _ _ rfl wr.heap.size rfl (tiv x sa sc) (tiv ti0 none 0) (tiv_size _ _ _) (tiv_size _ _ _) (tiv_one _ _ _) 65 rfl (heap_alloc_new wr _) ?_; intro w4 hg4 hf4; have HO4 : Hid (Ow W0 w4 v L ∧ w4.heap[wr.heap.size]? = some (.cells (tiv x sa sc) 65 (0, 0))) := ⟨HO.out.keep (kfrm_new hf4), hg4⟩; clear hg4 hf4) | fail)
   have HS : Hid (∀ w' : World, w'.heap[wr.heap.size]? = some (.cells (tiv x sa sc) 65 (0, 0)) → w'.rangeAt wr.heap.size 0 (bl x.pt 32) ∧ w'.cell? ⟨wr.heap.size, 32, none⟩ = some (.int .i64 x.n) ∧ w'.cell? ⟨wr.heap.size, 33, none⟩ = some (.int .i64 x.br)) := fun w' hg => ⟨til_pt hg, cell_list hg (til_32 x sa sc), cell_list hg (til_33 x sa sc)⟩
   clear c1 HR HO
   refine wp_region_noPanic ?_
   refine wp_region_held_drew (S := fun w' => w'.rangeAt wr.heap.size 0 (bl x.pt 32) ∧ w'.cell? ⟨wr.heap.size, 32, none⟩ = some (.int .i64 x.n) ∧ w'.cell? ⟨wr.heap.size, 33, none⟩ = some (.int .i64 x.br)) (by kernel_rfl) (HS.out w4.drew HO4.out.2) (fun hHeld => ?_)
   have HO5 : Hid (Ow W0 w4.drew v L ∧ w4.drew.heap[wr.heap.size]? = some (.cells (tiv x sa sc) 65 (0, 0))) := ⟨HO4.out.1.drew, HO4.out.2⟩
   clear HO4
   generalize w4.drew = w5 at *
   refine wpT (i := 0) (oi := ⟨some 30, .move (.tmp 5), 57, _, _, none⟩) (v := ?_) rfl (by kernel_rfl) (fun _ _ _ h => h) (Or.inl ⟨by rfl, ?_⟩) (by assumption) ?_
   rotate_left
   ·intro wz hSw; (try dsimp only at hSw); go_simp; (try with_reducible rfl)
   try simp only [Act.put, sqA, sqB, sqC]
   refine wpT (i := 1) (oi := ⟨some 31, .fieldAddr 65 (.tmp 7) 0, 0, _, _, none⟩) (v := ?_) rfl (by kernel_rfl) (fun _ _ _ h => h) (Or.inl ⟨by rfl, ?_⟩) (by assumption) ?_
   rotate_left
   ·intro wz hSw; (try dsimp only at hSw); go_simp; (try with_reducible rfl)
   try simp only [Act.put, sqA, sqB, sqC]
   refine wpT (i := 2) (oi := ⟨some 32, .fieldAddr 45 (.tmp 31) 0, 0, _, _, none⟩) (v := ?_) rfl (by kernel_rfl) (fun _ _ _ h => h) (Or.inl ⟨by rfl, ?_⟩) (by assumption) ?_
   rotate_left
   ·intro wz hSw; (try dsimp only at hSw); go_simp; (try with_reducible rfl)
   try simp only [Act.put, sqA, sqB, sqC]
   refine wpAnyH_take (i := 3) (oi := ⟨some 33, .load 43 (.tmp 32), 43, _, _, none⟩) rfl (by kernel_rfl) (by kernel_rfl) (by kernel_rfl) (fun _ _ _ h => h) (yieldsIf_load_mid (by rfl) _ _ rfl wr.heap.size 0 rfl (bl x.pt 32) _ (fun _ h => h.1) Tryz.underlying43 rfl (Cd.szHl _)) (by assumption) ?_
   try simp only [Act.put, sqA, sqB, sqC]
   refine wpT (i := 5) (oi := ⟨some 35, .fieldAddr 65 (.tmp 7) 0, 0, _, _, none⟩) (v := ?_) rfl (by kernel_rfl) (fun _ _ _ h => h) (Or.inl ⟨by rfl, ?_⟩) (by assumption) ?_
   rotate_left
   ·intro wz hSw; (try dsimp only at hSw); go_simp; (try with_reducible rfl)
   try simp only [Act.put, sqA, sqB, sqC]
   refine wpT (i := 6) (oi := ⟨some 36, .fieldAddr 45 (.tmp 35) 1, 0, _, _, none⟩) (v := ?_) rfl (by kernel_rfl) (fun _ _ _ h => h) (Or.inl ⟨by rfl, ?_⟩) (by assumption) ?_
   rotate_left
   ·intro wz hSw; (try dsimp only at hSw); go_simp; (try with_reducible rfl)
   try simp only [Act.put, sqA, sqB, sqC]
   refine wpT (i := 7) (oi := ⟨some 37, .load 3 (.tmp 36), 3, _, _, none⟩) (v := ?_) rfl (by kernel_rfl) (fun _ _ _ h => h) (Or.inl ⟨by rfl, ?_⟩) (by assumption) ?_
   rotate_left
   ·intro wz hSw; (try dsimp only at hSw); go_simp; (try with_reducible rfl)
   try simp only [Act.put, sqA, sqB, sqC]
   refine wpT (i := 8) (oi := ⟨some 38, .convert 3 119 (.tmp 37), 119, _, _, none⟩) (v := ?_) rfl (by kernel_rfl) (fun _ _ _ h => h) (Or.inl ⟨by rfl, ?_⟩) (by assumption) ?_
   rotate_left
   ·intro wz hSw; (try dsimp only at hSw); go_simp; (try with_reducible rfl)
   try simp only [Act.put, sqA, sqB, sqC]
   refine wpT (i := 10) (oi := ⟨some 40, .fieldAddr 65 (.tmp 7) 1, 0, _, _, none⟩) (v := ?_) rfl (by kernel_rfl) (fun _ _ _ h => h) (Or.inl ⟨by rfl, ?_⟩) (by assumption) ?_
   rotate_left
   ·intro wz hSw; (try dsimp only at hSw); go_simp; (try with_reducible rfl)
   try simp only [Act.put, sqA, sqB, sqC]
   refine wpT (i := 11) (oi := ⟨some 41, .load 3 (.tmp 40), 3, _, _, none⟩) (v := ?_) rfl (by kernel_rfl) (fun _ _ _ h => h) (Or.inl ⟨by rfl, ?_⟩) (by assumption) ?_
   rotate_left
   ·intro wz hSw; (try dsimp only at hSw); go_simp; (try with_reducible rfl)
   try simp only [Act.put, sqA, sqB, sqC]
   refine wpT (i := 12) (oi := ⟨some 42, .convert 3 119 (.tmp 41), 119, _, _, none⟩) (v := ?_) rfl (by kernel_rfl) (fun _ _ _ h => h) (Or.inl ⟨by rfl, ?_⟩) (by assumption) ?_
   rotate_left
   ·intro wz hSw; (try dsimp only at hSw); go_simp; (try with_reducible rfl)
   try simp only [Act.put, sqA, sqB, sqC]
   refine wpAnyH_ready (rs := [4]) (by kernel_rfl) (by simp) ?_
   refine (AllReadyH.cons (o := ⟨some 34, .call { callee := Go.Callee.value (.func 55), args := #[.tmp 30, .tmp 33], argTypes := #[57, 43] }, 57, _, _, none⟩) rfl (fun K hK => ?_) AllReadyH.nil)
   go_simp
   refine (Cd.refHash_ow W0 w5 v L x.pt HO5.out.1 (by omega) HZ.out.1).mono ?_
   rintro e w6 ⟨v6, rfl, hO6, hb6⟩
   have HO6 := yhid (And.intro hO6 (heap_below hb6 HO5.out.2))
   clear hO6 hb6 HO5
   refine hK.out _ _ (HS.out w6 HO6.out.2) (fun _ => ?_)
   clear hK K
   refine wpAnyH_ready (rs := [9]) (by kernel_rfl) (by simp) ?_
   refine (AllReadyH.cons (o := ⟨some 39, .call { callee := Go.Callee.value (.func 54), args := #[.tmp 34, .tmp 38], argTypes := #[57, 119] }, 57, _, _, none⟩) rfl (fun K hK => ?_) AllReadyH.nil)
   go_simp
   refine (Cd.refUint_ow W0 w6 v6 _ x.n HO6.out.1 (by simp only [List.length_append]; omega)).mono ?_
   rintro e w7 ⟨v7, rfl, hO7, hb7⟩
   have HO7 := yhid (And.intro hO7 (heap_below hb7 HO6.out.2))
   clear hO7 hb7 HO6
   refine hK.out _ _ (HS.out w7 HO7.out.2) (fun _ => ?_)
   clear hK K
   refine wpAnyH_ready (rs := [13]) (by kernel_rfl) (by simp) ?_
   refine (AllReadyH.cons (o := ⟨some 43, .call { callee := Go.Callee.value (.func 54), args := #[.tmp 39, .tmp 42], argTypes := #[57, 119] }, 57, _, _, none⟩) rfl (fun K hK => ?_) AllReadyH.nil)
   go_simp
   refine (Cd.refUint_ow W0 w7 v7 _ x.br HO7.out.1 (by simp only [List.length_append]; omega)).mono ?_
   rintro e w8 ⟨v8, rfl, hO8, hb8⟩
   have HO8 := yhid (And.intro hO8 (heap_below hb8 HO7.out.2))
   clear hO8 hb8 HO7
   refine hK.out _ _ (HS.out w8 HO8.out.2) (fun _ => ?_)
   clear hK K
   refine wpT (i := 14) (oi := ⟨some 5, .assign (.tmp 43), 57, _, _, none⟩) (v := ?_) rfl (by kernel_rfl) (fun _ _ _ h => h) (Or.inl ⟨by rfl, ?_⟩) (by assumption) ?_
   rotate_left
   ·intro wz hSw; (try dsimp only at hSw); go_simp; (try with_reducible rfl)
   try simp only [Act.put, sqA, sqB, sqC]
   refine wpAnyH_done (by kernel_rfl) (NoPanic.normal ?_) _
   try simp only [Act.put, sqA, sqB, sqC]
   clear hHeld
   have c34 := cell_list HO8.out.2 (til_34 x sa sc)
   have hcall := refBytes_ow W0 w8 v8 _ none 0 0 (Z i) HO8.out.1 (SlAt.zero _ _) (by simp only [List.length_append]; omega)
   go_wp2_with fail
   refine hcall.mono ?_
   rintro e w9 ⟨v9, rfl, hO9, -⟩
   have HO9 : Hid (Ow W0 w9 v9 (L0 ++ laidIns (noS X) Z (i + 1))) := by
    show Ow _ _ _ _
    rw [HI.out]
    exact hO9
   clear hcall hO9 HO8 c34
   go_wp2
   go_roundw
   case rel => exact ⟨i + 1, v9, by omega, rfl, by go_num, HO9.out⟩
   case measure => simp [intOf]; omega
  ·obtain rfl : i = n := by omega
   have hnn : ¬ ((i : Int) < i) := by omega
   have c2 := (HC.out wr HO.out.below).2.2
   have HLA : Hid (laidTx0 lk i (noS X) Z m = (L0 ++ laidIns (noS X) Z i) ++ uB (Cd.u64 (m : Int))) := by show _ = _; rw [← HL0.out]; simp only [laidTx0, List.append_assoc]
   have HLT : Hid (laidT lk i (noS X) Z m O = laidTx0 lk i (noS X) Z m ++ laidOuts O m) := rfl
   obtain ⟨LA, hLA⟩ : ∃ L, laidTx0 lk i (noS X) Z m = L := ⟨_, rfl⟩
   rw [hLA] at HLA HLT
   have hlA : LA.length ≤ 27 + 2000052 * 1000 := by rw [HLA.out, List.length_append]; omega
   have hcall := Cd.refUint_ow W0 wr v _ (m : Int) HO.out (by omega)
   rw [← HLA.out] at hcall
   rw [Cd.u64_nat m (by omega)] at hcall
   clear hLA HLA HL0 hll hle3 HO
   generalize wr = wo at *
   go_wp2_with fail
   refine hcall.mono ?_
   rintro e w4 ⟨v4, rfl, hO4, -⟩
   clear hcall c1 c2
   have HO4 : Hid (Ow W0 w4 v4 (LA ++ laidOuts O 0)) := by show Ow _ _ _ _; simpa [laidOuts] using hO4
   clear hO4
   go_wp2
   have hO4 := HO4.out
   go_loopw [5, 8] (fun bv iv wr => ∃ (q : Nat) (u : Value), q ≤ m ∧ u = bv ∧ iv = .int .i64 q ∧ Ow W0 wr u (LA ++ laidOuts O q)) (fun _ iv _ => m + 1 - (intOf iv).toNat)
   case atStart => exact ⟨0, v4, by omega, rfl, rfl, hO4⟩
   case round =>
    clear hO4 HO4
    obtain ⟨q, u, hq, rfl, rfl, hO⟩ := hrel
    have HO : Hid (Ow W0 wr u (LA ++ laidOuts O q)) := hO
    clear hO
    have hll := laidOuts_len O q (fun j hj => HH.out.2.2 j (by omega))
    have hll2 : (LA ++ laidOuts O q).length ≤ 2000053000 + 9447284 * 1000 * 1000 := by rw [List.length_append]; omega
    have c2 := (HC.out wr HO.out.below).2.2
    by_cases hlt : q < m
    ·have hlt' : (q : Int) < m := by omega
     obtain ⟨b, off, rfl, hc⟩ := HH.out.1.2.at_ (by omega)
     obtain ⟨ca, cc, hr0, hbr, hca⟩ := hc q hlt
     have HR : Hid (∀ w', Below W0.heap.size W0 w' → w'.rangeAt b (off + q * 2) (tol (O q) ca cc)) := fun w' hb => range_below (range_below hr0 HB0.out) hb
     have HX : Hid (Cd.BrAt W0 ca (O q).cn (O q).X) := hbr.below HB0.out
     have HQ : Hid (LA ++ laidOuts O (q + 1) = LA ++ laidOuts O q ++ uB (Cd.u64 (O q).am) ++ Cd.laidC (O q).X (O q).cn) := by show _ = _; simp only [laidOuts, laidO, List.append_assoc]
     have hsm := HH.out.2.2 q hlt
     obtain ⟨L, hL⟩ : ∃ L, LA ++ laidOuts O q = L := ⟨_, rfl⟩
     rw [hL] at HO HQ hll2
     obtain ⟨x, hx⟩ : ∃ x, O q = x := ⟨_, rfl⟩
     rw [hx] at HR HX HQ hsm
     have hle1 := Cd.uB_len (Cd.u64 x.am)
     have HS : Hid (∀ w' : World, Below W0.heap.size W0 w' → w'.cell? ⟨w.heap.size, 2, none⟩ = some (.slice (some ⟨b, off, none⟩) m oc) ∧ w'.cell? ⟨b, off + q * 2, none⟩ = some (.int .i64 x.am) ∧ w'.cell? ⟨b, off + q * 2 + 1, none⟩ = some (.slice ca x.cn cc)) := fun w' hb => ⟨(HC.out w' hb).2.2, by simpa using HR.out w' hb 0 _ rfl, HR.out w' hb 1 _ rfl⟩
     clear hc hr0 hbr hca hL hx hll HR
     go_upto_region 14 with fail
     clear c2
     refine wp_region_noPanic ?_
     refine wp_region_held_drew (S := fun w' => w'.cell? ⟨w.heap.size, 2, none⟩ = some (.slice (some ⟨b, off, none⟩) m oc) ∧ w'.cell? ⟨b, off + q * 2, none⟩ = some (.int .i64 x.am) ∧ w'.cell? ⟨b, off + q * 2 + 1, none⟩ = some (.slice ca x.cn cc)) (by kernel_rfl) (HS.out wr.drew HO.out.below.drew) (fun hHeld => ?_)
     have HO5 : Hid (Ow W0 wr.drew u L) := HO.out.drew
     clear HO
     generalize wr.drew = w5 at *
     refine wpT (i := 0) (oi := ⟨some 64, .move (.tmp 5), 57, _, _, none⟩) (v := ?_) rfl (by kernel_rfl) (fun _ _ _ h => h) (Or.inl ⟨by rfl, ?_⟩) (by assumption) ?_
     rotate_left
     ·intro wz hSw; (try dsimp only at hSw); go_simp; (try with_reducible rfl)
     try simp only [Act.put, sqA, sqB, sqC]
     refine wpT (i := 1) (oi := ⟨some 65, .fieldAddr 25 (.tmp 2) 2, 0, _, _, none⟩) (v := ?_) rfl (by kernel_rfl) (fun _ _ _ h => h) (Or.inl ⟨by rfl, ?_⟩) (by assumption) ?_
     rotate_left
     ·intro wz hSw; (try dsimp only at hSw); go_simp; (try with_reducible rfl)
     try simp only [Act.put, sqA, sqB, sqC]
     refine wpT (i := 2) (oi := ⟨some 66, .load 23 (.tmp 65), 23, _, _, none⟩) (v := ?_) rfl (by kernel_rfl) (fun _ _ _ h => h) (Or.inl ⟨by rfl, ?_⟩) (by assumption) ?_
     rotate_left
     ·intro wz hSw; (try dsimp only at hSw); go_simp; (try with_reducible rfl)
     try simp only [Act.put, sqA, sqB, sqC]
     refine wpT (i := 3) (oi := ⟨some 67, .move (.tmp 8), 3, _, _, none⟩) (v := ?_) rfl (by kernel_rfl) (fun _ _ _ h => h) (Or.inl ⟨by rfl, ?_⟩) (by assumption) ?_
     rotate_left
     ·intro wz hSw; (try dsimp only at hSw); go_simp; (try with_reducible rfl)
     try simp only [Act.put, sqA, sqB, sqC]
     refine wpT (i := 4) (oi := ⟨some 68, .indexAddr 23 (.tmp 66) (.tmp 67), 0, _, _, none⟩) (v := ?_) rfl (by kernel_rfl) (fun _ _ _ h => h) (Or.inl ⟨by rfl, ?_⟩) (by assumption) ?_
     rotate_left
     ·intro wz hSw; (try dsimp only at hSw); go_simp; (try with_reducible rfl)
     try simp only [Act.put, sqA, sqB, sqC]
     refine wpT (i := 5) (oi := ⟨some 69, .fieldAddr 70 (.tmp 68) 0, 0, _, _, none⟩) (v := ?_) rfl (by kernel_rfl) (fun _ _ _ h => h) (Or.inl ⟨by rfl, ?_⟩) (by assumption) ?_
     rotate_left
     ·intro wz hSw; (try dsimp only at hSw); go_simp; (try with_reducible rfl)
     try simp only [Act.put, sqA, sqB, sqC]
     refine wpT (i := 6) (oi := ⟨some 70, .load 3 (.tmp 69), 3, _, _, none⟩) (v := ?_) rfl (by kernel_rfl) (fun _ _ _ h => h) (Or.inl ⟨by rfl, ?_⟩) (by assumption) ?_
     rotate_left
     ·intro wz hSw; (try dsimp only at hSw); go_simp; (try with_reducible rfl)
     try simp only [Act.put, sqA, sqB, sqC]
     refine wpT (i := 7) (oi := ⟨some 71, .convert 3 119 (.tmp 70), 119, _, _, none⟩) (v := ?_) rfl (by kernel_rfl) (fun _ _ _ h => h) (Or.inl ⟨by rfl, ?_⟩) (by assumption) ?_
     rotate_left
     ·intro wz hSw; (try dsimp only at hSw); go_simp; (try with_reducible rfl)
     try simp only [Act.put, sqA, sqB, sqC]
     refine wpT (i := 9) (oi := ⟨some 73, .fieldAddr 25 (.tmp 2) 2, 0, _, _, none⟩) (v := ?_) rfl (by kernel_rfl) (fun _ _ _ h => h) (Or.inl ⟨by rfl, ?_⟩) (by assumption) ?_
     rotate_left
     ·intro wz hSw; (try dsimp only at hSw); go_simp; (try with_reducible rfl)
     try simp only [Act.put, sqA, sqB, sqC]
     refine wpT (i := 10) (oi := ⟨some 74, .load 23 (.tmp 73), 23, _, _, none⟩) (v := ?_) rfl (by kernel_rfl) (fun _ _ _ h => h) (Or.inl ⟨by rfl, ?_⟩) (by assumption) ?_
     rotate_left
     ·intro wz hSw; (try dsimp only at hSw); go_simp; (try with_reducible rfl)
     try simp only [Act.put, sqA, sqB, sqC]
     refine wpT (i := 11) (oi := ⟨some 75, .move (.tmp 8), 3, _, _, none⟩) (v := ?_) rfl (by kernel_rfl) (fun _ _ _ h => h) (Or.inl ⟨by rfl, ?_⟩) (by assumption) ?_
     rotate_left
     ·intro wz hSw; (try dsimp only at hSw); go_simp; (try with_reducible rfl)
     try simp only [Act.put, sqA, sqB, sqC]
     refine wpT (i := 12) (oi := ⟨some 76, .indexAddr 23 (.tmp 74) (.tmp 75), 0, _, _, none⟩) (v := ?_) rfl (by kernel_rfl) (fun _ _ _ h => h) (Or.inl ⟨by rfl, ?_⟩) (by assumption) ?_
     rotate_left
     ·intro wz hSw; (try dsimp only at hSw); go_simp; (try with_reducible rfl)
     try simp only [Act.put, sqA, sqB, sqC]
     refine wpT (i := 13) (oi := ⟨some 77, .fieldAddr 70 (.tmp 76) 1, 0, _, _, none⟩) (v := ?_) rfl (by kernel_rfl) (fun _ _ _ h => h) (Or.inl ⟨by rfl, ?_⟩) (by assumption) ?_
     rotate_left
     ·intro wz hSw; (try dsimp only at hSw); go_simp; (try with_reducible rfl)
     try simp only [Act.put, sqA, sqB, sqC]
     refine wpT (i := 14) (oi := ⟨some 78, .load 68 (.tmp 77), 68, _, _, none⟩) (v := ?_) rfl (by kernel_rfl) (fun _ _ _ h => h) (Or.inl ⟨by rfl, ?_⟩) (by assumption) ?_
     rotate_left
     ·intro wz hSw; (try dsimp only at hSw); go_simp; (try with_reducible rfl)
     try simp only [Act.put, sqA, sqB, sqC]
     refine wpAnyH_ready (rs := [8]) (by kernel_rfl) (by simp) ?_
     refine (AllReadyH.cons (o := ⟨some 72, .call { callee := Go.Callee.value (.func 54), args := #[.tmp 64, .tmp 71], argTypes := #[57, 119] }, 57, _, _, none⟩) rfl (fun K hK => ?_) AllReadyH.nil)
     go_simp
     refine (Cd.refUint_ow W0 w5 u L x.am HO5.out (by omega)).mono ?_
     rintro e w6 ⟨v6, rfl, hO6, -⟩
     obtain ⟨L6, hL6⟩ : ∃ l, L ++ uB (Cd.u64 x.am) = l := ⟨_, rfl⟩
     have hl6 : L6.length ≤ 2000053000 + 9447284 * 1000 * 1000 + 9 := by rw [← hL6, List.length_append]; omega
     rw [hL6] at hO6 HQ
     obtain ⟨a6, c6, rfl⟩ := hO6.form
     have HO6 := yhid hO6
     clear hO6 HO5 hL6
     refine hK.out _ _ (HS.out w6 HO6.out.below) (fun _ => ?_)
     clear hK K
     refine wpAnyH_ready (rs := [15]) (by kernel_rfl) (by simp) ?_
     refine (AllReadyH.cons (o := ⟨some 79, .call { callee := Go.Callee.value (.func 57), args := #[.tmp 72, .tmp 78], argTypes := #[57, 68] }, 57, _, _, none⟩) rfl (fun K hK => ?_) AllReadyH.nil)
     go_simp
     refine (Cd.rput_any a6 L6 c6 ca x.cn cc x.X w6 HO6.out.fresh.2.1 HO6.out.fresh.2.2.1 (HX.out.below HO6.out.below) hsm.1 (fun j hj => by have := hsm.2 j hj; omega) (by omega)).mono ?_
     rintro e w7 ⟨v7, rfl, hO7⟩
     have HO7 : Hid (Ow W0 w7 v7 (LA ++ laidOuts O (q + 1))) := by
      show Ow _ _ _ _
      rw [HQ.out]
      exact hO7.mono HO6.out.below
     clear hO7 HO6
     refine hK.out _ _ (HS.out w7 HO7.out.below) (fun _ => ?_)
     clear hK K
     refine wpT (i := 16) (oi := ⟨some 5, .assign (.tmp 79), 57, _, _, none⟩) (v := ?_) rfl (by kernel_rfl) (fun _ _ _ h => h) (Or.inl ⟨by rfl, ?_⟩) (by assumption) ?_
     rotate_left
     ·intro wz hSw; (try dsimp only at hSw); go_simp; (try with_reducible rfl)
     try simp only [Act.put, sqA, sqB, sqC]
     refine wpAnyH_done (by kernel_rfl) (NoPanic.normal ?_) _
     try simp only [Act.put, sqA, sqB, sqC]
     clear hHeld
     go_wp2
     go_roundw
     case rel => exact ⟨q + 1, v7, by omega, rfl, by go_num, HO7.out⟩
     case measure => simp [intOf]; omega
    ·obtain rfl : q = m := by omega
     have hnn : ¬ ((q : Int) < q) := by omega
     have HE : Hid (Ow w wr u (laidT lk i (noS X) Z q O)) := by show Ow _ _ _ _; rw [HLT.out]; exact HO.out.mono HB0.out
     go_wp2
     go_ret
     exact ⟨_, rfl, HE.out⟩
end Go.Proofs.YtanchjfodcjlmaaGreatDoor
