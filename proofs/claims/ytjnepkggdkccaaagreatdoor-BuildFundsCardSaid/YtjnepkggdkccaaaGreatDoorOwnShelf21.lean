/- build.finish, where the transaction can be. -/
import Derived.Test.YtjnepkggdkccaaaGreatDoorOwnShelf20
namespace Go.Proofs.YtjnepkggdkccaaaGreatDoor
open Go.RowKit

theorem flatO_set (os : List To) (A : Nat → Option Addr × Nat) (i : Nat) (ca : Option Addr) (cc : Nat) : ∀ n, i < n → (flatL (oL os A) n).set (i * 2 + 1) (.slice ca (os.getD i default).cn cc) = flatL (oL os (fun j => if j = i then (ca, cc) else A j)) n
 | 0, h => by omega
 | n + 1, h => by
  have hl : (flatL (oL os A) n).length = n * 2 := flatL_length n (fun _ _ => rfl)
  rw [flatL, flatL]
  by_cases e : i = n
  ·subst e
   rw [List.set_append_right _ _ (by rw [hl]; omega), hl, show i * 2 + 1 - i * 2 = 1 from by omega]
   rw [flatL_congr i (f := oL os (fun j => if j = i then (ca, cc) else A j)) (g := oL os A) (fun j hj => by simp [oL, show ¬ j = i by omega])]
   congr 1
   simp [oL, tol]
  ·rw [List.set_append_left _ _ (by rw [hl]; omega), flatO_set os A i ca cc n (by omega)]
   congr 1
   simp [oL, show ¬ n = i by omega]
/-- While the conditions are made anew: the first i have theirs. -/
structure F2 (W wr : World) (go oc : Nat) (os : List To) (A A' : Nat → Option Addr × Nat) (J : Nat → Nat × Nat) (i : Nat) : Prop where
 frm : Frm [go] W wr
 outs : wr.ownsRow 0 95 2 (.slice (some ⟨go, 0, none⟩) os.length oc) os.length (flatL (oL os A') os.length)
 old : ∀ j, i ≤ j → j < os.length → A' j = A j
 new : ∀ j, j < i → ∀ w' : World, (∀ k, (J j).1 ≤ k → k < (J j).2 → w'.heap[k]? = wr.heap[k]?) → Cd.BrAt w' (A' j).1 (os.getD j default).cn (os.getD j default).X
 int : ∀ j, j < i → W.heap.size ≤ (J j).1 ∧ (J j).2 ≤ wr.heap.size
 nil : ∀ j, j < i → (A' j).1 = none → (os.getD j default).cn = 0 ∧ (A' j).2 = 0
section
variable {W wr w1 : World} {go oc : Nat} {os : List To} {A A' : Nat → Option Addr × Nat} {J : Nat → Nat × Nat} {i : Nat}
theorem F2.keep (h : F2 W wr go oc os A A' J i) (hb : Below wr.heap.size wr w1) : F2 W w1 go oc os A A' J i :=
 ⟨h.frm.trans (Frm.ofBelow hb), own_below h.outs hb, h.old, fun j hj w' hw => h.new j hj w' (fun k h1 h2 => by rw [hw k h1 h2]; exact hb.block k (by have := (h.int j hj).2; omega)), fun j hj => ⟨(h.int j hj).1, by have := (h.int j hj).2; have := hb.size; omega⟩, h.nil⟩
theorem F2.next (h : F2 W wr go oc os A A' J i) (hi : i < os.length) (hgo : go < W.heap.size) {ca : Option Addr} {cc lo hi' : Nat} (hc : ∀ w' : World, (∀ k, lo ≤ k → k < hi' → w'.heap[k]? = wr.heap[k]?) → Cd.BrAt w' ca (os.getD i default).cn (os.getD i default).X) (hlo : W.heap.size ≤ lo) (hhi : hi' ≤ wr.heap.size) (hn : ca = none → (os.getD i default).cn = 0 ∧ cc = 0) :
  F2 W (wr.setCell ⟨go, i * 2 + 1, none⟩ (.slice ca (os.getD i default).cn cc)) go oc os A (fun j => if j = i then (ca, cc) else A' j) (fun j => if j = i then (lo, hi') else J j) (i + 1) := by
 have kept : ∀ k, k ≠ go → (wr.setCell ⟨go, i * 2 + 1, none⟩ (.slice ca (os.getD i default).cn cc)).heap[k]? = wr.heap[k]? := fun k hk => Below.heap_setCell _ _ _ _ (show k ≠ go from hk)
 have hsz : (wr.setCell ⟨go, i * 2 + 1, none⟩ (.slice ca (os.getD i default).cn cc)).heap.size = wr.heap.size := by simp [World.setCell]
 refine ⟨h.frm.setCell _ _ (by simp), ?_, fun j h1 h2 => ?_, fun j hj w' hw => ?_, fun j hj => ?_, fun j hj e => ?_⟩
 ·rw [← flatO_set os A' i ca cc os.length hi]
  exact Cd.owns_set h.outs _ _
 ·rw [if_neg (by omega)]; exact h.old j (by omega) h2
 ·by_cases ej : j = i
  ·subst ej
   simp only [if_true] at hw ⊢
   exact hc w' (fun k h1 h2 => by rw [hw k h1 h2]; exact kept k (by omega))
  ·simp only [if_neg ej] at hw ⊢
   have hI := h.int j (by omega)
   exact h.new j (by omega) w' (fun k h1 h2 => by rw [hw k h1 h2]; exact kept k (by omega))
 ·by_cases ej : j = i
  ·simp only [if_pos ej]; exact ⟨hlo, by rw [hsz]; exact hhi⟩
  ·simp only [if_neg ej]; rw [hsz]; exact h.int j (by omega)
 ·by_cases ej : j = i
  ·subst ej
   simp only [if_true] at e ⊢
   exact hn e
  ·simp only [if_neg ej] at e ⊢
   exact h.nil j (by omega) e
theorem F2.tout (h : F2 W wr go oc os A A' J os.length) : ToAt wr (some ⟨go, 0, none⟩) os.length (oF os) := by
 refine ⟨fun hn => ?_⟩
 obtain ⟨g, e, _, _, hr⟩ := own_range h.outs hn
 cases e
 refine ⟨go, 0, rfl, fun j hj => ⟨(A' j).1, (A' j).2, ?_, h.new j hj wr (fun _ _ _ => rfl), h.nil j hj⟩⟩
 exact (flatL_range os.length (f := oL os A') (k := 2) (fun i _ => rfl)).1 hr j hj
theorem F2.row (h : F2 W wr go oc os A A' J i) {j : Nat} (hj : j < os.length) : wr.rangeAt go (j * 2) (tol (os.getD j default) (A' j).1 (A' j).2) := by
 obtain ⟨g, e, _, _, hr⟩ := own_range h.outs (by omega)
 cases e
 have := (flatL_range os.length (f := oL os A') (k := 2) (fun i _ => rfl)).1 hr j hj
 rw [Nat.zero_add] at this
 exact this
end
theorem ti_of_own {w : World} {B : Nat} {ia : Option Addr} {ic n : Nat} {Z : Nat → (Nat → Int) × Int} (h : w.ownsRow B 130 35 (.slice ia n ic) n (flatL (tiR Z) n)) (hz : ∀ i, i < n → Hb (Z i).1) : TiAt w ia n (tF Z) (fun _ => (none, 0)) := by
 refine ⟨hz, fun hn => ?_⟩
 obtain ⟨g, rfl, _, _, hr⟩ := own_range h hn
 exact ⟨g, 0, rfl, (flatL_range n (fun i _ => til_length (tiOf (Z i)) none 0)).1 hr⟩
theorem F2.toutF {W wr w1 : World} {go oc : Nat} {os : List To} {A A' : Nat → Option Addr × Nat} {J : Nat → Nat × Nat} (h : F2 W wr go oc os A A' J os.length) (hw : ∀ k, k = go ∨ W.heap.size ≤ k → k < wr.heap.size → w1.heap[k]? = wr.heap[k]?) : ToAt w1 (some ⟨go, 0, none⟩) os.length (oF os) := by
 refine ⟨fun hn => ?_⟩
 obtain ⟨g, e, _, hgl, hr⟩ := own_range (own_keep (w' := w1) h.outs (fun g e => by
  obtain rfl : go = g := by simpa [Value.ownBlock] using e
  exact hw go (.inl rfl) (h.outs.lt go rfl).2)) hn
 cases e
 refine ⟨go, 0, rfl, fun j hj => ⟨(A' j).1, (A' j).2, (flatL_range os.length (f := oL os A') (k := 2) (fun i _ => rfl)).1 hr j hj, h.new j hj w1 (fun k h1 h2 => ?_), h.nil j hj⟩⟩
 have := h.int j hj
 exact hw k (.inr (by omega)) (by omega)
theorem brAt_congr {w : World} {ad : Option Addr} {n : Nat} {X Y : Nat → Cd.Bv} (h : Cd.BrAt w ad n X) (e : ∀ i, i < n → X i = Y i) : Cd.BrAt w ad n Y := by
 refine ⟨fun i hi => by rw [← e i hi]; exact h.ok i hi, fun hn => ?_⟩
 obtain ⟨b, off, ea, hc⟩ := h.at_ hn
 refine ⟨b, off, ea, fun i hi => ?_⟩
 rw [← e i hi]
 exact hc i hi
/-- cond.Or of a condition and none: the condition anew, in blocks of its own. -/
theorem orNone (ca : Option Addr) (n cc : Nat) (X : Nat → Cd.Bv) (w : World) (h : Cd.BrAt w ca n X) (hn : n ≤ 1000000) (hx : ∀ i, i < n → (X i).n ≤ 1000000) :
  Calls Tryz.prog 53 #[.agg #[.slice ca n cc], .agg #[.slice none 0 0]] w fun e w' => ∃ ca' cc', e = .returned (.agg #[.slice ca' n cc']) ∧ Cd.BrIn w' w.heap.size ca' n X ∧ Below w.heap.size w w' ∧ (ca' = none → n = 0 ∧ cc' = 0) := by
 refine (Cd.or_any ca n cc X none 0 0 (fun _ => default) w h (Cd.BrAt.nil _ _ _) (by omega) hx (fun i hi => by omega)).mono ?_
 rintro e w' ⟨v, A, rfl, hg⟩
 have hok : ∀ j, j < n + 0 → (Cd.joinB X n (fun _ => default) j).Ok := fun j hj => by rw [Cd.joinB_l (by omega)]; exact h.ok j (by omega)
 obtain ⟨ad, cap, rfl, hb⟩ := hg.brIn hok
 obtain ⟨_, _, e, _, hnil⟩ := own_frmV hg.own
 simp only [Value.slice.injEq] at e
 refine ⟨ad, cap, rfl, fun z hz => brAt_congr (hb z hz) (fun i hi => Cd.joinB_l (by omega)), hg.below, fun e2 => ?_⟩
 have := hnil (by rw [← e.1]; exact e2)
 exact ⟨by omega, by rw [e.2.2]; exact this.2⟩
set_option maxRecDepth 100000 in
set_option maxHeartbeats 6400000 in
theorem finish_ok (lk : Int) (B : Nat) (ia : Option Addr) (ic n : Nat) (Z : Nat → (Nat → Int) × Int) (oa : Option Addr) (oc : Nat) (os : List To) (A : Nat → Option Addr × Nat) (w : World) (h : FinR w B ia ic n Z oa oc os A) (hz : ∀ i, i < n → Hb (Z i).1) (hs : ∀ j, j < os.length → (oF os j).Small) (hn : n ≤ 1000000) (hm : os.length ≤ 1000000) (he : finE n Z os lk = 0) :
  Calls Tryz.prog 27 #[.agg (txv lk ia n ic oa os.length oc)] w fun e w' => e = .returned (.tuple #[.agg (txv lk ia n ic oa os.length oc), .nilIface]) ∧ (∀ w1 : World, (∀ k, B ≤ k → k < w'.heap.size → w1.heap[k]? = w'.heap[k]?) → TxR w1 ia ic n Z oa oc os) ∧ Below B w w' := by
 have hno : NumOk lk n os.length := by
  unfold finE txE at he
  by_cases e : NumOk lk n os.length
  ·exact e
  ·rw [if_pos e] at he; simp at he
 obtain ⟨gi, rfl, hgi, hgi2, -⟩ := own_range h.ins (by have := hno.2.1; omega)
 obtain ⟨go, rfl, hgo, hgo2, -⟩ := own_range h.outs (by have := hno.2.2; omega)
 have hap : gi ≠ go := fun e => own_apart h.ins h.outs (by decide) gi rfl (by rw [e]; rfl)
 have HH : Hid (FinR w B (some ⟨gi, 0, none⟩) ic n Z (some ⟨go, 0, none⟩) oc os A ∧ (∀ i, i < n → Hb (Z i).1) ∧ (∀ j, j < os.length → (oF os j).Small)) := ⟨h, hz, hs⟩
 have HG : Hid ((B ≤ gi ∧ gi < w.heap.size) ∧ (B ≤ go ∧ go < w.heap.size) ∧ gi ≠ go) := ⟨⟨hgi, hgi2⟩, ⟨hgo, hgo2⟩, hap⟩
 clear h hz hs hno hgi hgi2 hgo hgo2 hap
 unfold txv
 have hev : errV (txE lk n (tF Z) os.length (oF os)) = .nilIface := by
  have : txE lk n (tF Z) os.length (oF os) = 0 := he
  rw [this]; rfl
 clear he
 go_enter Tryz.func27, Tryz.ntmps27
 go_wp2_with (first | (refine wpList_boxN rfl _ _ rfl #[.int .i64 lk, .slice (some ⟨gi, 0, none⟩) n ic, .slice (some ⟨go, 0, none⟩) os.length oc] rfl ?_; intro v1 N1) | (refine wpList_allocN 50 #[.int .i64 0, .slice none 0 0, .slice none 0 0] run_allocTx rfl rfl ?_; intro v2 N2; have HR2 := hidV (txl_range (N2.old N1.blk)); have HX2 := hidV (And.intro N2.blk (And.intro (N2.old N1.blk) (Below.transS N1.below N2.below))); have HQ : Hid (w.heap.size < v1.heap.size ∧ v1.heap.size < v2.heap.size) := ⟨by have := N1.size; omega, by have := N2.size; omega⟩; clear N1 N2) | (refine wpList_load_mid rfl 50 _ rfl w.heap.size 0 rfl (txl lk (some ⟨gi, 0, none⟩) n ic (some ⟨go, 0, none⟩) os.length oc) _ HR2.out Tryz.underlying50 rfl szTx ?_) | fail)
 have hf := HH.out.1.below HX2.out.2.2
 refine (kcheck_any lk (some ⟨gi, 0, none⟩) n ic (some ⟨go, 0, none⟩) os.length oc (tF Z) (fun _ => (none, 0)) (oF os) v2 (hf.tin HH.out.2.1) hf.tout HH.out.2.2 hn hm).mono ?_
 rintro e v3 ⟨rfl, hb3⟩
 rw [hev]
 have HX3 : Hid (v3.heap[v1.heap.size]? = some (.cells #[.int .i64 0, .slice none 0 0, .slice none 0 0] 50 (0, 0)) ∧ v3.heap[w.heap.size]? = some (.cells #[.int .i64 lk, .slice (some ⟨gi, 0, none⟩) n ic, .slice (some ⟨go, 0, none⟩) os.length oc] 50 (0, 0)) ∧ Below w.heap.size w v3) := ⟨heap_below hb3 HX2.out.1, heap_below hb3 HX2.out.2.1, Below.transS HX2.out.2.2 hb3⟩
 clear hf hb3 HX2 HR2 hev
 have HT : Hid (∀ w', Below v3.heap.size v3 w' → w'.cell? ⟨w.heap.size, 1, none⟩ = some (.slice (some ⟨gi, 0, none⟩) n ic) ∧ w'.cell? ⟨w.heap.size, 2, none⟩ = some (.slice (some ⟨go, 0, none⟩) os.length oc)) := fun w' hb => ⟨by rw [cell_of_row _ _ 1 _ _ _ (heap_below hb HX3.out.2.1)]; rfl, by rw [cell_of_row _ _ 2 _ _ _ (heap_below hb HX3.out.2.1)]; rfl⟩
 have c1 := (HT.out v3 (Below.refl _ _)).1
 go_wp2_with fail
 clear c1
 go_loopw [5, 6, 18] (fun _ _ iv wr => ∃ i : Nat, i ≤ n ∧ iv = .int .i64 i ∧ Below v3.heap.size v3 wr) (fun _ _ iv _ => n + 1 - (intOf iv).toNat)
 case atStart => exact ⟨0, by omega, rfl, Below.refl _ _⟩
 case round =>
  obtain ⟨i, hi, rfl, hb⟩ := hrel
  have HB := hidV hb
  clear hb
  by_cases hlt : i < n
  ·have hlt' : (i : Int) < n := by omega
   have hfr := (HH.out.1.below HX3.out.2.2).below HB.out
   have HRW : Hid (∀ w', Below wr.heap.size wr w' → w'.rangeAt gi (i * 35) (til (tF Z i) none 0)) := fun w' hb => by
    obtain ⟨g, e, _, _, hr⟩ := own_range (hfr.below hb).ins (by omega)
    cases e
    have := (flatL_range n (f := tiR Z) (k := 35) (fun i _ => til_length (tiOf (Z i)) none 0)).1 hr i hlt
    rw [Nat.zero_add] at this
    exact this
   have HIN : Hid (∃ cs t, wr.heap[gi]? = some (.cells cs t (0, 0))) := by
    rcases hfr.ins.2 with ⟨e, _⟩ | ⟨g, c, cur, e, _, hg, _⟩
    ·cases e
    ·cases e; exact ⟨_, _, hg⟩
   have HR := hidV (HRW.out wr (Below.refl _ _))
   clear hfr
   go_wp2_with (first | (refine wpList_load_mid rfl 130 _ rfl gi (i * 35) rfl (til (tF Z i) none 0) _ HR.out Tryz.underlying130 rfl (szTil _ _ _) ?_) | (refine wpList_allocN 130 (tiv ti0 none 0) run_allocTiF rfl rfl ?_; intro z1 N1) | (refine wpList_storeG 130 szTi rfl _ _ rfl wr.heap.size rfl (tiv (tF Z i) none 0) (tiv ti0 none 0) (tiv_size _ _ _) (tiv_size _ _ _) (all_oneCell_toArray (til_one _ _ _)) 130 rfl N1.blk ?_; intro z2 hg2 hf2; have HZ2 : Hid (z2.heap[wr.heap.size]? = some (.cells (tiv (tF Z i) none 0) 130 (0, 0)) ∧ Below wr.heap.size wr z2) := ⟨hg2, N1.below.trans (hf2.below N1.below.size (by simp))⟩; clear hg2 hf2 N1) | fail)
   have HS : Hid (∀ w', Below z2.heap.size z2 w' → w'.cell? ⟨w.heap.size, 1, none⟩ = some (.slice (some ⟨gi, 0, none⟩) n ic) ∧ w'.cell? ⟨wr.heap.size, 34, none⟩ = some (.slice none 0 0)) := fun w' hb => ⟨(HT.out w' (Below.transS (Below.transS HB.out HZ2.out.2) hb)).1, cell_list (heap_below hb HZ2.out.1) (til_34 _ _ _)⟩
   refine wp_region_noPanic ?_
   refine wp_region_held_drew (S := fun w' => w'.cell? ⟨w.heap.size, 1, none⟩ = some (.slice (some ⟨gi, 0, none⟩) n ic) ∧ w'.cell? ⟨wr.heap.size, 34, none⟩ = some (.slice none 0 0)) (by kernel_rfl) (HS.out z2.drew (Below.refl _ _).drew) (fun hHeld => ?_)
   have HB3 : Hid (Below z2.heap.size z2 z2.drew) := (Below.refl _ _).drew
   generalize z2.drew = z3 at *
   refine wpT (i := 0) (oi := ⟨some 23, .fieldAddr 50 (.tmp 1) 1, 0, _, _, none⟩) (v := ?_) rfl (by kernel_rfl) (fun _ _ _ h => h) (Or.inl ⟨by rfl, ?_⟩) (by assumption) ?_
   rotate_left
   ·intro wz hSw; (try dsimp only at hSw); go_simp; (try with_reducible rfl)
   try simp only [Act.put, zA, zB, zC]
   refine wpT (i := 1) (oi := ⟨some 24, .load 47 (.tmp 23), 47, _, _, none⟩) (v := ?_) rfl (by kernel_rfl) (fun _ _ _ h => h) (Or.inl ⟨by rfl, ?_⟩) (by assumption) ?_
   rotate_left
   ·intro wz hSw; (try dsimp only at hSw); go_simp; (try with_reducible rfl)
   try simp only [Act.put, zA, zB, zC]
   refine wpT (i := 2) (oi := ⟨some 25, .move (.tmp 5), 3, _, _, none⟩) (v := ?_) rfl (by kernel_rfl) (fun _ _ _ h => h) (Or.inl ⟨by rfl, ?_⟩) (by assumption) ?_
   rotate_left
   ·intro wz hSw; (try dsimp only at hSw); go_simp; (try with_reducible rfl)
   try simp only [Act.put, zA, zB, zC]
   refine wpT (i := 3) (oi := ⟨some 26, .fieldAddr 130 (.tmp 6) 2, 0, _, _, none⟩) (v := ?_) rfl (by kernel_rfl) (fun _ _ _ h => h) (Or.inl ⟨by rfl, ?_⟩) (by assumption) ?_
   rotate_left
   ·intro wz hSw; (try dsimp only at hSw); go_simp; (try with_reducible rfl)
   try simp only [Act.put, zA, zB, zC]
   refine wpT (i := 4) (oi := ⟨some 27, .load 33 (.tmp 26), 33, _, _, none⟩) (v := ?_) rfl (by kernel_rfl) (fun _ _ _ h => h) (Or.inl ⟨by rfl, ?_⟩) (by assumption) ?_
   rotate_left
   ·intro wz hSw; (try dsimp only at hSw); go_simp; (try with_reducible rfl)
   try simp only [Act.put, zA, zB, zC]
   refine wpAnyH_ready (rs := [5]) (by kernel_rfl) (by simp) ?_
   refine (AllReadyH.cons (o := ⟨some 28, .call { callee := Go.Callee.value (.func 52), args := #[.tmp 27], argTypes := #[33] }, 33, _, _, none⟩) rfl (fun K hK => ?_) AllReadyH.nil)
   go_simp
   refine (cloneNil z3).mono ?_
   rintro e z4 ⟨rfl, hW⟩
   rw [hW]
   clear hW
   refine hK.out _ _ (HS.out z3 HB3.out) (fun _ => ?_)
   clear hK K
   try simp only [Act.put, zA, zB, zC]
   refine wpT (i := 6) (oi := ⟨some 29, .indexAddr 47 (.tmp 24) (.tmp 25), 0, _, _, none⟩) (v := ?_) rfl (by kernel_rfl) (fun _ _ _ h => h) (Or.inl ⟨by rfl, ?_⟩) (by assumption) ?_
   rotate_left
   ·intro wz hSw; (try dsimp only at hSw); go_simp; (try with_reducible rfl)
   try simp only [Act.put, zA, zB, zC]
   refine wpT (i := 7) (oi := ⟨some 30, .fieldAddr 130 (.tmp 29) 2, 0, _, _, none⟩) (v := ?_) rfl (by kernel_rfl) (fun _ _ _ h => h) (Or.inl ⟨by rfl, ?_⟩) (by assumption) ?_
   rotate_left
   ·intro wz hSw; (try dsimp only at hSw); go_simp; (try with_reducible rfl)
   try simp only [Act.put, zA, zB, zC]
   have hr3 := HRW.out z3 (HZ2.out.2.trans (HB3.out.mono HZ2.out.2.size))
   have cg : z3.cell? ⟨gi, i * 35 + 34, none⟩ = some (.slice none 0 0) := hr3 34 _ (til_34 (tF Z i) none 0)
   obtain ⟨cs, tt, hgc⟩ := HIN.out
   have hgc3 := heap_below (HZ2.out.2.trans (HB3.out.mono HZ2.out.2.size)) hgc
   have fg : z3.frozen? ⟨gi, i * 35 + 34, none⟩ = false := frozen_of_row z3 gi _ _ _ hgc3
   have hid : Below z3.heap.size z3 (z3.setCell ⟨gi, i * 35 + 34, none⟩ (.slice none 0 0)) := setCell_idle hgc3 (by rw [cell_of_row _ _ _ _ _ _ hgc3] at cg; exact cg)
   have HB5 : Hid (Below v3.heap.size v3 (z3.setCell ⟨gi, i * 35 + 34, none⟩ (.slice none 0 0)) ∧ Below z2.heap.size z2 (z3.setCell ⟨gi, i * 35 + 34, none⟩ (.slice none 0 0))) := ⟨Below.transS (Below.transS (Below.transS HB.out HZ2.out.2) HB3.out) hid, Below.transS HB3.out hid⟩
   clear hr3 hgc hgc3 hid
   refine wpAnyH_ready (rs := [8]) (by kernel_rfl) (by simp) ?_
   refine (AllReadyH.cons (o := ⟨none, .store 33 (.tmp 30) (.tmp 28), 0, _, _, none⟩) rfl (fun K hK => ?_) AllReadyH.nil)
   go_simp
   refine hK.out _ _ (HS.out _ HB5.out.2) (fun _ => ?_)
   clear hK K
   try simp only [Act.put]
   refine wpAnyH_done (by kernel_rfl) (NoPanic.normal ?_) _
   try simp only [Act.put, zA, zB, zC]
   clear hHeld cg fg
   generalize z3.setCell ⟨gi, i * 35 + 34, none⟩ (.slice none 0 0) = z5 at *
   go_wp2
   go_roundw
   case rel => exact ⟨i + 1, by omega, by go_num, HB5.out.1⟩
   case measure => simp [intOf]; omega
  ·obtain rfl : i = n := by omega
   have hnn : ¬ ((i : Int) < i) := by omega
   have c2 := (HT.out wr HB.out).2
   go_wp2_with fail
   clear c2 hnn
   have HW : Hid (FinR wr B (some ⟨gi, 0, none⟩) ic i Z (some ⟨go, 0, none⟩) oc os A ∧ Below w.heap.size w wr) := ⟨(HH.out.1.below HX3.out.2.2).below HB.out, Below.transS HX3.out.2.2 HB.out⟩
   have h0 : F2 wr wr go oc os A A (fun _ => (0, 0)) 0 := ⟨Frm.refl _ _, own_low HW.out.1.outs (Nat.zero_le _), fun _ _ _ => rfl, fun j hj => by omega, fun j hj => by omega, fun j hj => by omega⟩
   have HV : Hid (w.heap.size < v1.heap.size ∧ v1.heap.size < wr.heap.size ∧ go < w.heap.size) := ⟨HQ.out.1, by have := lt_of_block (heap_below HB.out HX3.out.1); exact this, HG.out.2.1.2⟩
   have HTX : Hid (wr.heap[w.heap.size]? = some (.cells #[.int .i64 lk, .slice (some ⟨gi, 0, none⟩) i ic, .slice (some ⟨go, 0, none⟩) os.length oc] 50 (0, 0)) ∧ wr.heap[v1.heap.size]? = some (.cells #[.int .i64 0, .slice none 0 0, .slice none 0 0] 50 (0, 0))) := ⟨heap_below HB.out HX3.out.2.1, heap_below HB.out HX3.out.1⟩
   have HD : Hid (∀ w', Frm [go] wr w' → ∀ j, j < os.length → Cd.BrAt w' (A j).1 (os.getD j default).cn (os.getD j default).X) := fun w' hf j hj => HW.out.1.cond j hj w' (fun k h1 h2 h3 => hf.block k h1 (fun e => h3 (by simp at e; rw [e]; rfl)))
   have HSM := hidV HH.out.2.2
   have HZ := hidV HH.out.2.1
   clear HB HT HH hlt
   generalize wr = W at *
   go_loopw [7, 8, 35] (fun _ _ jv wq => ∃ (j : Nat) (A' : Nat → Option Addr × Nat) (J : Nat → Nat × Nat), j ≤ os.length ∧ jv = .int .i64 j ∧ F2 W wq go oc os A A' J j) (fun _ _ jv _ => os.length + 1 - (intOf jv).toNat)
   case atStart => exact ⟨0, A, _, by omega, rfl, h0⟩
   case round =>
    clear h0
    rename World => wq
    obtain ⟨j, A', J, hj, rfl, hF⟩ := hrel
    have HF := hidV hF
    clear hF
    by_cases hlt : j < os.length
    ·have hlt' : (j : Int) < os.length := by omega
     obtain ⟨ca, hca⟩ : ∃ x, x = (A j).1 := ⟨_, rfl⟩
     obtain ⟨cc, hcc⟩ : ∃ x, x = (A j).2 := ⟨_, rfl⟩
     obtain ⟨O, hO⟩ : ∃ x, x = os.getD j default := ⟨_, rfl⟩
     have HR : Hid (wq.rangeAt go (j * 2) (tol O ca cc)) := by
      have := HF.out.row hlt
      rw [HF.out.old j (Nat.le_refl _) hlt, ← hca, ← hcc, ← hO] at this
      exact this
     have HD2 : Hid (∀ w', Frm [go] W w' → Cd.BrAt w' ca O.cn O.X) := fun w' hf => by rw [hca, hO]; exact HD.out w' hf j hlt
     have HS2 : Hid (O.Small ∧ O = os.getD j default) := ⟨by rw [hO]; exact HSM.out j hlt, hO⟩
     clear hca hcc hO
     go_wp2_with (first | (refine wpList_load_mid rfl 95 _ rfl go (j * 2) rfl (tol O ca cc) _ HR.out Tryz.underlying95 rfl szTo ?_) | (refine wpList_allocN 95 #[.int .i64 0, .slice none 0 0] run_allocToF rfl rfl ?_; intro z1 N1) | (refine wpList_storeG 95 szTo rfl _ _ rfl wq.heap.size rfl (tov O ca cc) #[.int .i64 0, .slice none 0 0] rfl rfl (by kernel_rfl) 95 rfl N1.blk ?_; intro z2 hg2 hf2; have HZ2 : Hid (z2.heap[wq.heap.size]? = some (.cells (tov O ca cc) 95 (0, 0)) ∧ Below wq.heap.size wq z2) := ⟨hg2, N1.below.trans (hf2.below N1.below.size (by simp))⟩; clear hg2 hf2 N1) | fail)
     have HS : Hid (∀ w', Below z2.heap.size z2 w' → w'.cell? ⟨w.heap.size, 2, none⟩ = some (.slice (some ⟨go, 0, none⟩) os.length oc) ∧ w'.rangeAt wq.heap.size 1 [.slice ca O.cn cc]) := fun w' hb => ⟨by
      have h1 : wq.heap[w.heap.size]? = some (.cells #[.int .i64 lk, .slice (some ⟨gi, 0, none⟩) i ic, .slice (some ⟨go, 0, none⟩) os.length oc] 50 (0, 0)) := HF.out.frm.heap HTX.out.1 (by have := HV.out; simp; omega)
      rw [cell_of_row _ _ 2 _ _ _ (heap_below (Below.transS HZ2.out.2 hb) h1)]; rfl, fun k v hv => by
      have h1 := heap_below hb HZ2.out.1
      obtain ⟨rfl, rfl⟩ : k = 0 ∧ v = .slice ca O.cn cc := by
       match k, hv with
       | 0, hv => exact ⟨rfl, by simpa using hv.symm⟩
      rw [cell_of_row _ _ _ _ _ _ h1]; rfl⟩
     refine wp_region_noPanic ?_
     refine wp_region_held_drew (S := fun w' => w'.cell? ⟨w.heap.size, 2, none⟩ = some (.slice (some ⟨go, 0, none⟩) os.length oc) ∧ w'.rangeAt wq.heap.size 1 [.slice ca O.cn cc]) (by kernel_rfl) (HS.out z2.drew (Below.refl _ _).drew) (fun hHeld => ?_)
     have HB3 : Hid (Below z2.heap.size z2 z2.drew) := (Below.refl _ _).drew
     generalize z2.drew = z3 at *
     refine wpT (i := 0) (oi := ⟨some 40, .fieldAddr 50 (.tmp 1) 2, 0, _, _, none⟩) (v := ?_) rfl (by kernel_rfl) (fun _ _ _ h => h) (Or.inl ⟨by rfl, ?_⟩) (by assumption) ?_
     rotate_left
     ·intro wz hSw; (try dsimp only at hSw); go_simp; (try with_reducible rfl)
     try simp only [Act.put, zA, zB, zC]
     refine wpT (i := 1) (oi := ⟨some 41, .load 48 (.tmp 40), 48, _, _, none⟩) (v := ?_) rfl (by kernel_rfl) (fun _ _ _ h => h) (Or.inl ⟨by rfl, ?_⟩) (by assumption) ?_
     rotate_left
     ·intro wz hSw; (try dsimp only at hSw); go_simp; (try with_reducible rfl)
     try simp only [Act.put, zA, zB, zC]
     refine wpT (i := 2) (oi := ⟨some 42, .move (.tmp 7), 3, _, _, none⟩) (v := ?_) rfl (by kernel_rfl) (fun _ _ _ h => h) (Or.inl ⟨by rfl, ?_⟩) (by assumption) ?_
     rotate_left
     ·intro wz hSw; (try dsimp only at hSw); go_simp; (try with_reducible rfl)
     try simp only [Act.put, zA, zB, zC]
     refine wpT (i := 3) (oi := ⟨some 43, .fieldAddr 95 (.tmp 8) 1, 0, _, _, none⟩) (v := ?_) rfl (by kernel_rfl) (fun _ _ _ h => h) (Or.inl ⟨by rfl, ?_⟩) (by assumption) ?_
     rotate_left
     ·intro wz hSw; (try dsimp only at hSw); go_simp; (try with_reducible rfl)
     try simp only [Act.put, zA, zB, zC]
     refine wpAnyH_take (i := 4) (oi := ⟨some 44, .load 93 (.tmp 43), 93, _, _, none⟩) rfl (by kernel_rfl) (by kernel_rfl) (by kernel_rfl) (fun _ _ _ h => h) (yieldsIf_load_mid (by rfl) _ _ rfl wq.heap.size 1 rfl [.slice ca O.cn cc] _ (fun _ h => h.2) Tryz.underlying93 rfl szCond) (by assumption) ?_
     try simp only [Act.put, zA, zB, zC]
     refine wpT (i := 5) (oi := ⟨some 45, .build 93 #[], 93, _, _, none⟩) (v := .agg #[.slice none 0 0]) rfl (by kernel_rfl) (fun _ _ _ h => h) (Or.inl ⟨by rfl, ?_⟩) (by assumption) ?_
     ·intro wz hSw; (try dsimp only at hSw); kernel_rfl
     try simp only [Act.put, zA, zB, zC]
     refine wpAnyH_ready (rs := [6]) (by kernel_rfl) (by simp) ?_
     refine (AllReadyH.cons (o := ⟨some 46, .call { callee := Go.Callee.value (.func 53), args := #[.tmp 44, .tmp 45], argTypes := #[93, 93] }, 93, _, _, none⟩) rfl (fun K hK => ?_) AllReadyH.nil)
     go_simp
     refine (orNone ca O.cn cc O.X z3 (HD2.out z3 (HF.out.frm.trans (Frm.ofBelow (Below.transS HZ2.out.2 HB3.out)))) HS2.out.1.1 HS2.out.1.2).mono ?_
     rintro e z4 ⟨ca', cc', rfl, hI4, hb4, hn4⟩
     have H4 := hidV (And.intro hI4 (And.intro hb4 hn4))
     clear hI4 hb4 hn4
     refine hK.out _ _ (HS.out z4 (Below.transS HB3.out H4.out.2.1)) (fun _ => ?_)
     clear hK K
     try simp only [Act.put, zA, zB, zC]
     refine wpT (i := 7) (oi := ⟨some 47, .indexAddr 48 (.tmp 41) (.tmp 42), 0, _, _, none⟩) (v := ?_) rfl (by kernel_rfl) (fun _ _ _ h => h) (Or.inl ⟨by rfl, ?_⟩) (by assumption) ?_
     rotate_left
     ·intro wz hSw; (try dsimp only at hSw); go_simp; (try with_reducible rfl)
     try simp only [Act.put, zA, zB, zC]
     refine wpT (i := 8) (oi := ⟨some 48, .fieldAddr 95 (.tmp 47) 1, 0, _, _, none⟩) (v := ?_) rfl (by kernel_rfl) (fun _ _ _ h => h) (Or.inl ⟨by rfl, ?_⟩) (by assumption) ?_
     rotate_left
     ·intro wz hSw; (try dsimp only at hSw); go_simp; (try with_reducible rfl)
     try simp only [Act.put, zA, zB, zC]
     have HF4 : Hid (F2 W z4 go oc os A A' J j) := HF.out.keep (Below.transS (Below.transS HZ2.out.2 HB3.out) H4.out.2.1)
     have cg : z4.cell? ⟨go, j * 2 + 1, none⟩ = some (.slice (A' j).1 (os.getD j default).cn (A' j).2) := HF4.out.row hlt 1 _ rfl
     have fg : z4.frozen? ⟨go, j * 2 + 1, none⟩ = false := Cd.owns_frozen HF4.out.outs _
     refine wpAnyH_ready (rs := [9]) (by kernel_rfl) (by simp) ?_
     refine (AllReadyH.cons (o := ⟨none, .store 93 (.tmp 48) (.tmp 46), 0, _, _, none⟩) rfl (fun K hK => ?_) AllReadyH.nil)
     go_simp
     have hfs : Frm [go] z4 (z4.setCell ⟨go, j * 2 + 1, none⟩ (.slice ca' O.cn cc')) := (Frm.refl _ _).setCell _ _ (by simp)
     have hS4 := HS.out z4 (Below.transS HB3.out H4.out.2.1)
     have hS5 : (z4.setCell ⟨go, j * 2 + 1, none⟩ (.slice ca' O.cn cc')).cell? ⟨w.heap.size, 2, none⟩ = some (.slice (some ⟨go, 0, none⟩) os.length oc) ∧ (z4.setCell ⟨go, j * 2 + 1, none⟩ (.slice ca' O.cn cc')).rangeAt wq.heap.size 1 [.slice ca O.cn cc] := ⟨cell_frm hfs hS4.1 (by have := HV.out; simp; omega), range_frm hS4.2 hfs (by have := HV.out; have := HF.out.frm.size; simp; omega)⟩
     have HN : Hid (F2 W (z4.setCell ⟨go, j * 2 + 1, none⟩ (.slice ca' O.cn cc')) go oc os A (fun k => if k = j then (ca', cc') else A' k) (fun k => if k = j then (z3.heap.size, z4.heap.size) else J k) (j + 1)) := by
      have e := HS2.out.2
      have := HF4.out.next hlt (by have := HV.out; omega) (ca := ca') (cc := cc') (lo := z3.heap.size) (hi' := z4.heap.size) (by rw [← e]; exact H4.out.1) (by have := HF.out.frm.size; have := HZ2.out.2.size; have := HB3.out.size; omega) (Nat.le_refl _) (by rw [← e]; exact H4.out.2.2)
      rw [← e] at this
      exact this
     clear hS4 hfs cg fg
     refine hK.out _ _ hS5 (fun _ => ?_)
     clear hK K hS5
     try simp only [Act.put]
     refine wpAnyH_done (by kernel_rfl) (NoPanic.normal ?_) _
     try simp only [Act.put, zA, zB, zC]
     clear hHeld
     generalize z4.setCell ⟨go, j * 2 + 1, none⟩ (.slice ca' O.cn cc') = z5 at *
     go_wp2
     go_roundw
     case rel => exact ⟨j + 1, _, _, by omega, by go_num, HN.out⟩
     case measure => simp [intOf]; omega
    ·obtain rfl : j = os.length := by omega
     have hnn : ¬ ((os.length : Int) < os.length) := by omega
     have HR : Hid (wq.rangeAt w.heap.size 0 (txl lk (some ⟨gi, 0, none⟩) i ic (some ⟨go, 0, none⟩) os.length oc)) := txl_range (HF.out.frm.heap HTX.out.1 (by have := HV.out; simp; omega))
     have hr0 := HF.out.frm.heap HTX.out.2 (by have := HV.out; simp; omega)
     go_wp2_with (first | (refine wpList_load_mid rfl 50 _ rfl w.heap.size 0 rfl (txl lk (some ⟨gi, 0, none⟩) i ic (some ⟨go, 0, none⟩) os.length oc) _ HR.out Tryz.underlying50 rfl szTx ?_) | (refine wpList_storeG 50 szTx rfl _ _ rfl v1.heap.size rfl #[.int .i64 lk, .slice (some ⟨gi, 0, none⟩) i ic, .slice (some ⟨go, 0, none⟩) os.length oc] #[.int .i64 0, .slice none 0 0, .slice none 0 0] rfl rfl (by kernel_rfl) 50 rfl hr0 ?_; intro z6 hg6 hf6) | fail)
     refine bodyPost_ret (results_T2 Tryz.results27 _ z6 v1.heap.size 50 _ _ _ (0, 0) rfl hg6) rfl ⟨rfl, fun y hy => ⟨?_, HF.out.toutF (fun k h1 h2 => ?_), (fun e => by cases e), (fun e => by cases e), ?_, ?_⟩, ?_⟩
     ·have h1 := HW.out.1.ins
      have h2 : y.ownsRow B 130 35 (.slice (some ⟨gi, 0, none⟩) i ic) i (flatL (tiR Z) i) := own_keep h1 (fun g e => by
       obtain rfl : gi = g := by simpa [Value.ownBlock] using e
       have := h1.lt gi rfl
       rw [hy gi this.1 (by have := HF.out.frm.size; have := hf6.size; omega), hf6.block gi (by have := HF.out.frm.size; omega) (by have := HV.out; have := HG.out; simp; omega)]
       exact HF.out.frm.block gi this.2 (by have := HG.out; simp; omega))
      exact ti_of_own h2 HZ.out
     ·have hg := HG.out
      have hv := HV.out
      rw [hy k (by have := HW.out.2.size; omega) (by have := hf6.size; omega)]
      exact hf6.block k h2 (by simp; omega)
     ·have := own_frmV HW.out.1.ins
      obtain ⟨_, _, e, hc, _⟩ := this
      simp only [Value.slice.injEq] at e
      omega
     ·have := own_frmV HW.out.1.outs
      obtain ⟨_, _, e, hc, _⟩ := this
      simp only [Value.slice.injEq] at e
      omega
     ·have hB : B ≤ w.heap.size := by have := HG.out; omega
      exact ((HW.out.2.mono hB).trans (HF.out.frm.below (by have := HW.out.2.size; omega) (by have := HG.out; simp; omega))).trans (hf6.below (by have := HW.out.2.size; have := HF.out.frm.size; omega) (by have := HV.out; simp; omega))
end Go.Proofs.YtjnepkggdkccaaaGreatDoor
