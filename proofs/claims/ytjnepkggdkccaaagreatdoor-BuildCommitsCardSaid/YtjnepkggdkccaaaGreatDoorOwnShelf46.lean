/- The document's Commit of layer 14. -/
import Derived.Test.YtjnepkggdkccaaaGreatDoorOwnShelf45
import Derived.Test.YtjnepkggdkccaaaGreatDoorOwnShelf31
import Derived.Test.YtjnepkggdkccaaaGreatDoorOwnShelf43
namespace Go.Proofs.YtjnepkggdkccaaaGreatDoor
open Go.RowKit

section
variable {w w1 : World} {B kx : Nat} {x : Int} {os : List To} {zs : List (Int × Int)} {va : Option Addr} {vc : Nat} {ua : Option Addr} {uc : Nat} {A : Nat → Option Addr × Nat} {I : Nat → Nat × Nat}
theorem LayD.tout (h : LayD w B kx x os zs va vc ua uc A I) : ToAt w va os.length (oF os) := by
  refine ⟨fun hn => ?_⟩
  obtain ⟨g, rfl, _, _, hr⟩ := own_range h.outs hn
  refine ⟨g, 0, rfl, fun j hj => ⟨(A j).1, (A j).2, ?_, h.cond j hj w rfl (fun _ _ _ => rfl), fun e => absurd e (h.int j hj).2.2⟩⟩
  exact (flatL_range os.length (f := oL os A) (k := 2) (fun i _ => rfl)).1 hr j hj
theorem LayD.frm (h : LayD w B kx x os zs va vc ua uc A I) {q : Nat} (hf : Frm [q] w w1) (hq : q < kx) : LayD w1 B kx x os zs va vc ua uc A I := by
  have hs := hf.size
  obtain ⟨l1, l2⟩ := h.lt
  refine ⟨hf.heap h.fx (by simp; omega), ⟨l1, by omega⟩, own_keep h.outs (fun g e => hf.block g (h.outs.lt g e).2 (by have := (h.outs.lt g e).1; simp; omega)), own_keep h.pls (fun g e => hf.block g (h.pls.lt g e).2 (by have := (h.pls.lt g e).1; simp; omega)), fun j hj w' hx hw => h.cond j hj w' ?_ (fun k h1 h2 => ?_), fun j hj => ⟨(h.int j hj).1, by have := (h.int j hj).2.1; omega, (h.int j hj).2.2⟩, h.apO, h.apP⟩
  · rw [hx]; exact hf.block kx (by omega) (by simp; omega)
  · rw [hw k h1 h2]
    have := h.int j hj
    exact hf.block k (by omega) (by simp; omega)
end
theorem tiAt_new {w : World} {g : Nat} {z : (Nat → Int) × Int} (h : w.heap[g]? = some (.cells (tiv (tiOf z) none 0) 79 (0, 0))) (hz : Hb z.1) : TiAt w (some ⟨g, 0, none⟩) 1 (tF (fun _ => z)) (fun _ => (none, 0)) := ⟨fun _ _ => hz, fun _ => ⟨g, 0, rfl, fun i hi => by
  obtain rfl : i = 0 := by omega
  intro j v hv
  simp only [Nat.zero_mul, Nat.zero_add]
  exact cell_list h hv⟩⟩
structure RCmP (P : Pm) (s : Sv) (o : Int) (lk : Nat → Int) (w : World) (e : Ending) (w' : World) : Prop where
  bad : cmtE P s o lk ≠ 0 → e = .returned (.tuple #[zeroTx, .int .i64 (cmtE P s o lk)])
  ok : cmtE P s o lk = 0 → ∃ ia ic oa oc, e = .returned (.tuple #[.agg (txv 0 ia 1 ic oa (outsO (cm0 P o lk) s s.hn).length oc), .int .i64 0]) ∧ TiAt w' ia 1 (tF (fun _ => (P.pt, P.n))) (fun _ => (none, 0)) ∧ ToAt w' oa (outsO (cm0 P o lk) s s.hn).length (oF (outsO (cm0 P o lk) s s.hn))
  below : Below w.heap.size w w'
set_option maxRecDepth 100000 in
set_option maxHeartbeats 6400000 in
theorem rcommit_any (P : Pm) (s : Sv) (p : Pl) (o : Int) (lk : Nat → Int) (w : World) (h : SvAt w s p) (hs : s.Small) (hl : Zb lk) (hpt : Hb P.pt) :
    Calls Tryz.prog 12 #[.agg (pmv P), .agg (svv s p), .int .i64 o, .agg (hv lk)] w (RCmP P s o lk w) := by
  have HH : Hid (SvAt w s p ∧ s.Small ∧ Zb lk ∧ Hb P.pt) := ⟨h, hs, hl, hpt⟩
  clear h hs hl hpt
  go_enter Tryz.func12, Tryz.ntmps12
  go_upto_region 1 with (first | (refine wpList_boxN rfl _ _ rfl (pmv P) rfl ?_; intro v1 N1) | (refine wpList_boxN rfl _ _ rfl (svv s p) rfl ?_; intro v2 N2) | (refine wpList_boxN rfl _ _ rfl (hv lk) rfl ?_; intro v3 N3) | (refine wpList_allocN 58 #[.int .i64 0, .slice none 0 0, .slice none 0 0] run_allocTxR rfl rfl ?_; intro v4 N4) | fail)
  have HQ : Hid (w.heap.size < v1.heap.size ∧ v1.heap.size < v2.heap.size ∧ v2.heap.size < v3.heap.size ∧ v3.heap.size < v4.heap.size) := ⟨by have := N1.size; omega, by have := N2.size; omega, by have := N3.size; omega, by have := N4.size; omega⟩
  have HX : Hid (Below w.heap.size w v4 ∧ v4.heap[v3.heap.size]? = some (.cells #[.int .i64 0, .slice none 0 0, .slice none 0 0] 58 (0, 0)) ∧ (∀ w' : World, Below v4.heap.size v4 w' → w'.rangeAt w.heap.size 0 (pml P) ∧ w'.rangeAt v1.heap.size 0 (svv s p).toList ∧ w'.rangeAt v2.heap.size 0 (bl lk 32))) := by
    refine ⟨Below.transS N1.below (Below.transS N2.below (Below.transS N3.below N4.below)), N4.blk, fun w' hb => ⟨pml_range (heap_below hb (N4.old (N3.old (N2.old N1.blk)))), sv_range (heap_below hb (N4.old (N3.old N2.blk))), fun j v h1 => ?_⟩⟩
    rw [Nat.zero_add, cell_of_row _ _ j _ _ _ (heap_below hb (N4.old N3.blk))]
    simpa [hv] using h1
  clear N1 N2 N3 N4
  generalize v1.heap.size = bs at *
  generalize v2.heap.size = lb at *
  generalize v3.heap.size = rb at *
  have HP4 := hidV (HX.out.2.2 v4 (Below.refl _ _)).1
  have HS4 := hidV (HX.out.2.2 v4 (Below.refl _ _)).2.1
  go_wp2_with (first | (refine wpList_load_mid rfl 28 _ rfl w.heap.size 0 rfl (pml P) _ HP4.out Tryz.underlying28 rfl (szPmrl P) ?_) | (refine wpList_load_mid rfl 32 _ rfl bs 0 rfl (svv s p).toList _ HS4.out Tryz.underlying32 rfl szSr ?_) | fail)
  refine (rbcheck_any P s p v4 (HH.out.1.below HX.out.1) HH.out.2.1).mono ?_
  rintro e v5 ⟨rfl, hb5⟩
  have HB5 := hidV hb5
  have hr5 := heap_below hb5 HX.out.2.1
  have HE5 : Hid (∀ v6 : World, Frm [rb] v5 v6 → Below w.heap.size w v6) := fun v6 hf6 => (Below.transS HX.out.1 HB5.out).trans (hf6.below (by have := HX.out.1.size; have := HB5.out.size; omega) (by have := HQ.out; simp; omega))
  clear hb5 HP4 HS4
  by_cases h0 : bchkE P s = 0
  · rw [h0]
    by_cases ho : 0 ≤ o ∧ o ≤ 1
    · have hw0 : ownE P s o = 0 := by unfold ownE; rw [if_neg (by simpa using h0), if_pos ho]
      obtain ⟨o1, o2⟩ := id ho
      have n1 : ¬ o < 0 := by omega
      have n2 : ¬ 1 < o := by omega
      have b1 : decide (o < 0) = false := decide_eq_false n1
      have b2 : decide (1 < o) = false := decide_eq_false n2
      have HL5 := hidV (HX.out.2.2 v5 HB5.out).2.2
      have HZL := hidV HH.out.2.2.1
      by_cases h1 : hq lk nz = true
      · have HE : Hid (cmtE P s o lk = 1) := by unfold cmtE; rw [if_neg (by simpa using hw0), if_pos h1]; exact rfl
        clear h0 ho o1 o2 hw0
        go_wp2_with (first | (refine wpList_loadHG (by rfl) _ rfl lb 0 rfl lk HL5.out ?_) | (refine wpList_buildHG (by rfl) rfl ?_) | (refine wpList_eqHG (by rfl) _ _ rfl lk nz rfl rfl HZL.out nz_bd ?_; rw [h1]) | (refine wpList_storeG 58 szTxR rfl _ _ rfl rb rfl #[.int .i64 0, .slice none 0 0, .slice none 0 0] #[.int .i64 0, .slice none 0 0, .slice none 0 0] rfl rfl (by kernel_rfl) 58 rfl hr5 ?_; intro v6 hg6 hf6) | fail)
        refine bodyPost_ret (results_T2R Tryz.results12 _ v6 rb 58 _ _ _ (0, 0) rfl hg6) rfl ⟨fun _ => by rw [HE.out]; rfl, fun h => absurd h (by rw [HE.out]; decide), HE5.out v6 hf6⟩
      · have h1' : hq lk nz = false := by simpa using h1
        have HE : Hid (cmtE P s o lk = finE 1 (fun _ => (P.pt, P.n)) (outsO (cm0 P o lk) s s.hn) 0) := by unfold cmtE; rw [if_neg (by simpa using hw0), if_neg h1]; exact rfl
        have HC := hidV (cm0_ok hw0 HH.out.2.2.1)
        have HSO := hidV (ownE_ok hw0).1
        have HP5 := hidV (HX.out.2.2 v5 HB5.out).1
        have HS5 := hidV (HX.out.2.2 v5 HB5.out).2.1
        clear h0 ho o1 o2 hw0 h1 hr5
        go_wp2_with (first | (refine wpList_loadHG (by rfl) _ rfl lb 0 rfl lk HL5.out ?_) | (refine wpList_buildHG (by rfl) rfl ?_) | (refine wpList_eqHG (by rfl) _ _ rfl lk nz rfl rfl HZL.out nz_bd ?_; rw [h1']) | (refine wpList_load_mid rfl 28 _ rfl w.heap.size 0 rfl (pml P) _ HP5.out Tryz.underlying28 rfl (szPmrl P) ?_) | (refine wpList_load_mid rfl 32 _ rfl bs 0 rfl (svv s p).toList _ HS5.out Tryz.underlying32 rfl szSr ?_) | fail)
        refine (routs_any P s p o lk v5 HC.out ((HH.out.1.below HX.out.1).below HB5.out) HSO.out HH.out.2.1.k).mono ?_
        rintro e v6 ⟨va, vc, ua, uc, B, kx, A, I, rfl, hO, hkx, hb6⟩
        have HO6 := hidV (And.intro hO (And.intro hkx hb6))
        clear hO hkx hb6 HP5 HS5 HL5 HZL h1' n1 n2
        have HPT := hidV (pm_pt (HX.out.2.2 v6 (Below.transS HB5.out HO6.out.2.2)).1)
        have HMI := hidV (outsO_small (c := cm0 P o lk) HSO.out)
        have HML : Hid ((outsO (cm0 P o lk) s s.hn).length ≤ 10) := by have h1 := (outsO_len (cm0 P o lk) s s.hn).1; have h2 := HSO.out.2.1.1; show _ ≤ _; omega
        generalize hos : outsO (cm0 P o lk) s s.hn = os at *
        have HOS := hidV hos
        clear hos
        go_wp2_with (first | (refine wpList_load_mid rfl 25 _ rfl w.heap.size 0 rfl (ptl P.pt P.n) _ HPT.out Tryz.underlying25 rfl (szPtlR _ _) ?_) | (refine wpList_buildInR P.pt P.n rfl _ rfl rfl ?_) | (refine wpList_sliceInR P.pt P.n rfl _ rfl rfl ?_; intro v7 N7) | fail)
        have H7 : Hid (v7.heap[v6.heap.size]? = some (.cells (tiv (tiOf (P.pt, P.n)) none 0) 79 (0, 0)) ∧ LayD v7 B kx (keyS P (1 - o)) os (outsZ (cm0 P o lk) s s.hn) va vc ua uc A I ∧ Below v5.heap.size v5 v7) := ⟨N7.blk, HO6.out.1.below N7.below, Below.transS HO6.out.2.2 N7.below⟩
        have HLT : Hid (rb < v5.heap.size ∧ v5.heap.size ≤ kx ∧ v5.heap.size ≤ v6.heap.size) := ⟨by have := HQ.out; have := HB5.out.size; omega, HO6.out.2.1, HO6.out.2.2.size⟩
        clear N7 HPT
        refine (rdone_any 0 (some ⟨v6.heap.size, 0, none⟩) 1 1 va os.length vc (tF (fun _ => (P.pt, P.n))) (fun _ => (none, 0)) (oF os) v7 (tiAt_new H7.out.1 HH.out.2.2.2) H7.out.2.1.tout HMI.out (by decide) (by have := HML.out; omega)).mono ?_
        rintro e y3 ⟨rfl, hb3⟩
        have hr3 := heap_below hb3 (heap_below (Below.transS HB5.out H7.out.2.2) HX.out.2.1)
        have HW3 : Hid (Below v5.heap.size v5 y3 ∧ y3.heap[v6.heap.size]? = some (.cells (tiv (tiOf (P.pt, P.n)) none 0) 79 (0, 0)) ∧ LayD y3 B kx (keyS P (1 - o)) os (outsZ (cm0 P o lk) s s.hn) va vc ua uc A I) := ⟨Below.transS H7.out.2.2 hb3, heap_below hb3 H7.out.1, H7.out.2.1.below hb3⟩
        have HE2 : Hid (cmtE P s o lk = txE 0 1 (tF (fun _ => (P.pt, P.n))) os.length (oF os)) := HE
        have HE3 : Hid (∀ y4 : World, Frm [rb] y3 y4 → Below w.heap.size w y4) := fun y4 hf4 => (Below.transS (Below.transS HX.out.1 HB5.out) HW3.out.1).trans (hf4.below (by have := HX.out.1.size; have := HB5.out.size; have := HW3.out.1.size; omega) (by have := HQ.out; simp; omega))
        clear hb3 H7
        generalize hec : txE 0 1 (tF (fun _ => (P.pt, P.n))) os.length (oF os) = ec at *
        clear hec
        by_cases hf : ec = 0
        · subst hf
          have e1 : DoneR 0 (some ⟨v6.heap.size, 0, none⟩) 1 1 va os.length vc 0 = .tuple #[.agg #[.int .i64 0, .slice (some ⟨v6.heap.size, 0, none⟩) 1 1, .slice va os.length vc], .int .i64 0] := rfl
          rw [e1]
          clear e1
          go_wp2_with (first | (refine wpList_storeG 58 szTxR rfl _ _ rfl rb rfl #[.int .i64 0, .slice (some ⟨v6.heap.size, 0, none⟩) 1 1, .slice va os.length vc] #[.int .i64 0, .slice none 0 0, .slice none 0 0] rfl rfl (by kernel_rfl) 58 rfl hr3 ?_; intro y4 hg4 hf4) | fail)
          have hD4 := HW3.out.2.2.frm hf4 (by have := HLT.out; omega)
          have hI4 := hf4.heap HW3.out.2.1 (by have := HLT.out; simp; omega)
          refine bodyPost_ret (results_T2R Tryz.results12 _ y4 rb 58 _ _ _ (0, 0) rfl hg4) rfl ⟨fun h => absurd HE2.out h, fun _ => ⟨some ⟨v6.heap.size, 0, none⟩, 1, va, vc, ?_, tiAt_new hI4 HH.out.2.2.2, ?_⟩, HE3.out y4 hf4⟩
          · rw [HOS.out]; rfl
          · rw [HOS.out]; exact hD4.tout
        · have e1 : DoneR 0 (some ⟨v6.heap.size, 0, none⟩) 1 1 va os.length vc ec = .tuple #[.agg #[.int .i64 0, .slice none 0 0, .slice none 0 0], .int .i64 ec] := if_neg hf
          rw [e1]
          clear e1
          go_wp2_with (first | (refine wpList_storeG 58 szTxR rfl _ _ rfl rb rfl #[.int .i64 0, .slice none 0 0, .slice none 0 0] #[.int .i64 0, .slice none 0 0, .slice none 0 0] rfl rfl (by kernel_rfl) 58 rfl hr3 ?_; intro y4 hg4 hf4) | fail)
          refine bodyPost_ret (results_T2R Tryz.results12 _ y4 rb 58 _ _ _ (0, 0) rfl hg4) rfl ⟨fun _ => by rw [HE2.out]; rfl, fun h => absurd h (by rw [HE2.out]; exact hf), HE3.out y4 hf4⟩
    · have hw0 : ownE P s o = 1 := by unfold ownE; rw [if_neg (by simpa using h0), if_neg ho]
      have HE : Hid (cmtE P s o lk = 1) := by unfold cmtE; rw [hw0]; rfl
      clear h0 hw0
      by_cases o1 : o < 0
      · clear ho
        go_wp2_with (first | (refine wpList_storeG 58 szTxR rfl _ _ rfl rb rfl #[.int .i64 0, .slice none 0 0, .slice none 0 0] #[.int .i64 0, .slice none 0 0, .slice none 0 0] rfl rfl (by kernel_rfl) 58 rfl hr5 ?_; intro v6 hg6 hf6) | fail)
        refine bodyPost_ret (results_T2R Tryz.results12 _ v6 rb 58 _ _ _ (0, 0) rfl hg6) rfl ⟨fun _ => by rw [HE.out]; rfl, fun h => absurd h (by rw [HE.out]; decide), HE5.out v6 hf6⟩
      · have o2 : 1 < o := by omega
        clear ho
        go_wp2_with (first | (refine wpList_storeG 58 szTxR rfl _ _ rfl rb rfl #[.int .i64 0, .slice none 0 0, .slice none 0 0] #[.int .i64 0, .slice none 0 0, .slice none 0 0] rfl rfl (by kernel_rfl) 58 rfl hr5 ?_; intro v6 hg6 hf6) | fail)
        refine bodyPost_ret (results_T2R Tryz.results12 _ v6 rb 58 _ _ _ (0, 0) rfl hg6) rfl ⟨fun _ => by rw [HE.out]; rfl, fun h => absurd h (by rw [HE.out]; decide), HE5.out v6 hf6⟩
  · have h1 : ownE P s o = bchkE P s := if_pos h0
    have HE : Hid (cmtE P s o lk = bchkE P s ∧ cmtE P s o lk ≠ 0) := ⟨by unfold cmtE; rw [h1]; exact if_pos h0, by unfold cmtE; rw [h1, if_pos h0]; exact h0⟩
    have e1 : (bchkE P s == 0) = false := by simpa using h0
    clear h0 h1
    generalize bchkE P s = ec at *
    go_wp2_with (first | (refine wpList_storeG 58 szTxR rfl _ _ rfl rb rfl #[.int .i64 0, .slice none 0 0, .slice none 0 0] #[.int .i64 0, .slice none 0 0, .slice none 0 0] rfl rfl (by kernel_rfl) 58 rfl hr5 ?_; intro v6 hg6 hf6) | fail)
    refine bodyPost_ret (results_T2R Tryz.results12 _ v6 rb 58 _ _ _ (0, 0) rfl hg6) rfl ⟨fun _ => by rw [HE.out.1]; rfl, fun h => absurd h HE.out.2, HE5.out v6 hf6⟩
end Go.Proofs.YtjnepkggdkccaaaGreatDoor
/- build.Commit's answer on both sides, as one transaction that lies. -/
namespace Go.Proofs.YtjnepkggdkccaaaGreatDoor
open Go.RowKit

def cmN (P : Pm) (s : Sv) (o : Int) (lk : Nat → Int) : Nat := if cmtE P s o lk = 0 then 1 else 0
def cmM (P : Pm) (s : Sv) (o : Int) (lk : Nat → Int) : Nat := if cmtE P s o lk = 0 then (outsO (cm0 P o lk) s s.hn).length else 0
def cmX (P : Pm) : Nat → Ti := tF (fun _ => (P.pt, P.n))
def cmO (P : Pm) (s : Sv) (o : Int) (lk : Nat → Int) : Nat → To := oF (outsO (cm0 P o lk) s s.hn)
/-- What Commit answers lies in w. -/
def CmAt (w : World) (P : Pm) (s : Sv) (o : Int) (lk : Nat → Int) (ia oa : Option Addr) : Prop := TxAt w 0 (cmN P s o lk) (cmX P) (fun _ _ => 0) (cmM P s o lk) (cmO P s o lk) ia oa (fun _ => (none, 0))
theorem CmAt.below {w w' : World} {P : Pm} {s : Sv} {o : Int} {lk : Nat → Int} {ia oa : Option Addr} (h : CmAt w P s o lk ia oa) (hb : Below w.heap.size w w') : CmAt w' P s o lk ia oa := TxAt.below h hb
theorem cmAt_mk {w : World} {P : Pm} {s : Sv} {o : Int} {lk : Nat → Int} {ia oa : Option Addr} (h0 : cmtE P s o lk = 0) (h1 : TiAt w ia 1 (tF (fun _ => (P.pt, P.n))) (fun _ => (none, 0))) (h2 : ToAt w oa (outsO (cm0 P o lk) s s.hn).length (oF (outsO (cm0 P o lk) s s.hn))) : CmAt w P s o lk ia oa := by
  have hn : cmN P s o lk = 1 := if_pos h0
  have hm : cmM P s o lk = (outsO (cm0 P o lk) s s.hn).length := if_pos h0
  unfold CmAt
  rw [hn, hm]
  exact ⟨h1, h2, fun i _ => ⟨SlAt.zero _ _, Nat.zero_le _⟩⟩
theorem cmAt_no {w : World} {P : Pm} {s : Sv} {o : Int} {lk : Nat → Int} (h0 : cmtE P s o lk ≠ 0) : CmAt w P s o lk none none := by
  have hn : cmN P s o lk = 0 := if_neg h0
  have hm : cmM P s o lk = 0 := if_neg h0
  unfold CmAt
  rw [hn, hm]
  exact ⟨TiAt.nil _ _ _ _, ToAt.nil _ _ _, fun i hi => by omega⟩
theorem cmt_tx {P : Pm} {s : Sv} {o : Int} {lk : Nat → Int} {w w' : World} {e : Ending} (h : CmtR P s o lk w e w') : ∃ ia ic oa oc, e = .returned (.tuple #[.agg (txv 0 ia (cmN P s o lk) ic oa (cmM P s o lk) oc), errV (cmtE P s o lk)]) ∧ CmAt w' P s o lk ia oa := by
  by_cases h0 : cmtE P s o lk = 0
  · obtain ⟨ia, ic, oa, oc, rfl, hT⟩ := h.ok h0
    exact ⟨ia, ic, oa, oc, by rw [show cmN P s o lk = 1 from if_pos h0, show cmM P s o lk = (outsO (cm0 P o lk) s s.hn).length from if_pos h0, h0]; rfl, cmAt_mk h0 hT.tin hT.tout⟩
  · exact ⟨none, 0, none, 0, by rw [show cmN P s o lk = 0 from if_neg h0, show cmM P s o lk = 0 from if_neg h0]; exact h.bad h0, cmAt_no h0⟩
theorem rcmt_tx {P : Pm} {s : Sv} {o : Int} {lk : Nat → Int} {w w' : World} {e : Ending} (h : RCmP P s o lk w e w') : ∃ ia ic oa oc, e = .returned (.tuple #[.agg (txv 0 ia (cmN P s o lk) ic oa (cmM P s o lk) oc), .int .i64 (cmtE P s o lk)]) ∧ CmAt w' P s o lk ia oa := by
  by_cases h0 : cmtE P s o lk = 0
  · obtain ⟨ia, ic, oa, oc, rfl, h1, h2⟩ := h.ok h0
    exact ⟨ia, ic, oa, oc, by rw [show cmN P s o lk = 1 from if_pos h0, show cmM P s o lk = (outsO (cm0 P o lk) s s.hn).length from if_pos h0, h0], cmAt_mk h0 h1 h2⟩
  · exact ⟨none, 0, none, 0, by rw [show cmN P s o lk = 0 from if_neg h0, show cmM P s o lk = 0 from if_neg h0]; exact h.bad h0, cmAt_no h0⟩
theorem insK_pos (L : List Int) (k : Int) (h : 0 < L.length ∨ L.contains k = false) : 0 < (Cd.insK L k).length := by
  unfold Cd.insK
  split
  · rcases h with h | h
    · exact h
    · simp_all
  · simp; omega
theorem insL_pos (z : Nat → Int) : ∀ n, 0 < n → 0 < (Cd.insL z n).length
  | 0, h => by omega
  | 1, _ => by simp only [Cd.insL]; exact insK_pos [] _ (.inr rfl)
  | n + 2, _ => by
    have := insL_pos z (n + 1) (by omega)
    rw [Cd.insL]
    exact insK_pos _ _ (.inl this)
/-- The outputs of a commitment have branches, and these keys. -/
theorem outsO_keyed {c : Cm} {s : Sv} (hs : SOk s) : ∀ x ∈ outsO c s s.hn, (0 < x.cn ∧ x.cn ≤ 3) ∧ ∀ j, j < x.cn → 0 < (x.X j).n := by
  intro x hm
  simp only [outsO, paysO, sideO, ifL, List.mem_append, List.mem_map, List.mem_range] at hm
  rcases hm with ((hm | hm) | ⟨i, hi, rfl⟩) | ⟨i, hi, rfl⟩
  · split at hm
    · obtain rfl := by simpa using hm
      exact ⟨by simp [ownO], fun i hi => by simp only [ownO]; split <;> simp [brS, rvS]⟩
    · simp at hm
  · split at hm
    · obtain rfl := by simpa using hm
      exact ⟨by simp [othO], fun i hi => by simp [othO, Cd.kb]⟩
    · simp at hm
  · exact ⟨by simp [payO], fun k hk => by simp only [payO, pdS]; split <;> (try split) <;> simp [toS, bkS, rvS, brS]⟩
  · exact ⟨by simp [hldO], fun k hk => by simp only [hldO, Cd.kb]; exact insL_pos _ _ (hs.2.1.2.2 i hi).2.2.2.2⟩
theorem cmO_mem (P : Pm) (s : Sv) (o : Int) (lk : Nat → Int) (i : Nat) (hi : i < cmM P s o lk) : SOk s ∧ i < (outsO (cm0 P o lk) s s.hn).length ∧ cmO P s o lk i ∈ outsO (cm0 P o lk) s s.hn := by
  by_cases h0 : cmtE P s o lk = 0
  · have hj : i < (outsO (cm0 P o lk) s s.hn).length := by unfold cmM at hi; rw [if_pos h0] at hi; exact hi
    have h1 : ownE P s o = 0 := by
      unfold cmtE at h0
      by_cases h2 : ownE P s o = 0
      · exact h2
      · rw [if_pos h2] at h0; exact h0
    refine ⟨(ownE_ok h1).1, hj, ?_⟩
    simp only [cmO, oF, List.getD_eq_getElem?_getD, List.getElem?_eq_getElem hj, Option.getD_some]
    exact List.getElem_mem hj
  · unfold cmM at hi; rw [if_neg h0] at hi; omega
theorem cm_keyed (P : Pm) (s : Sv) (o : Int) (lk : Nat → Int) : Keyed (cmM P s o lk) (cmO P s o lk) := fun i hi => by
  obtain ⟨h1, _, h2⟩ := cmO_mem P s o lk i hi
  have h3 := outsO_keyed h1 _ h2
  exact ⟨h3.1.1, h3.2⟩
/-- The keys of an output are few. -/
theorem outsO_n {c : Cm} {s : Sv} (hk : ∀ i, i < s.hn → (s.H i).n ≤ 300) : ∀ x ∈ outsO c s s.hn, ∀ j, j < x.cn → (x.X j).n ≤ 300 := by
  intro x hm
  simp only [outsO, paysO, sideO, ifL, List.mem_append, List.mem_map, List.mem_range] at hm
  rcases hm with ((hm | hm) | ⟨i, hi, rfl⟩) | ⟨i, hi, rfl⟩
  · split at hm
    · obtain rfl := by simpa using hm
      exact fun i hi => by simp only [ownO]; split <;> simp [brS, rvS]
    · simp at hm
  · split at hm
    · obtain rfl := by simpa using hm
      exact fun i hi => by simp [othO, Cd.kb]
    · simp at hm
  · exact fun k hk => by simp only [payO, pdS]; split <;> (try split) <;> simp [toS, bkS, rvS, brS]
  · intro k _
    have h1 := Cd.insL_len (s.H i).z (s.H i).n
    have h2 := hk i hi
    simp only [hldO, Cd.kb]
    omega
theorem cm_few (P : Pm) (s : Sv) (o : Int) (lk : Nat → Int) (hs : s.Small) : Few (cmN P s o lk) (cmM P s o lk) (cmO P s o lk) := by
  refine ⟨by unfold cmN; split <;> omega, ?_, fun i hi => ?_⟩
  · unfold cmM
    split
    · have h1 := (outsO_len (cm0 P o lk) s s.hn).1
      have h2 := hs.n
      omega
    · omega
  · obtain ⟨h1, _, h2⟩ := cmO_mem P s o lk i hi
    have h3 := outsO_keyed h1 _ h2
    exact ⟨by omega, fun j hj => by have := outsO_n hs.k _ h2 j hj; omega⟩
theorem CmAt.over {w w' : World} {P : Pm} {s : Sv} {o : Int} {lk : Nat → Int} {ia oa : Option Addr} {tb : Nat} {t : TypeId} {v1 v2 : Value} {fr fr' : Nat × Nat} (h : CmAt w P s o lk ia oa) (hb : w.heap[tb]? = some (.cells #[.int .i64 0, .slice none 0 0, .slice none 0 0] t fr)) (hg : w'.heap[tb]? = some (.cells #[.int .i64 0, v1, v2] t fr')) (hf : ∀ k, k < w.heap.size → k ≠ tb → w'.heap[k]? = w.heap[k]?) : CmAt w' P s o lk ia oa :=
  TxAt.over h (fun _ _ => rfl) (cm_keyed P s o lk) hb rfl hg hf
end Go.Proofs.YtjnepkggdkccaaaGreatDoor
