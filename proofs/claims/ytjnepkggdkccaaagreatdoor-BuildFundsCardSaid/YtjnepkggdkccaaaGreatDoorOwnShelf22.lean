/- build.Commit and build.Places. -/
import Derived.Test.YtjnepkggdkccaaaGreatDoorOwnShelf21
import Derived.Test.YtjnepkggdkccaaaGreatDoorOwnShelf18
import Derived.Test.YtjnepkggdkccaaaGreatDoorOwnShelf14
import Derived.Deep.DeepCutAuto
import Derived.Test.YtjnepkggdkccaaaGreatDoorOwnShelf06
namespace Go.Proofs.YtjnepkggdkccaaaGreatDoor
open Go.RowKit

def cm0 (P : Pm) (o : Int) (lk : Nat → Int) : Cm := ⟨P, o, lk, p0, default⟩
theorem build_cm (P : Pm) (o : Int) (lk : Nat → Int) (w : World) : (Instr.build 104 #[(0, .agg (pml P).toArray), (1, .int .i64 o), (2, .agg (bl lk 32).toArray)]).run Tryz.prog w = .ok (.agg (cmv (cm0 P o lk) none 0)) w := by kernel_rfl
theorem slice_pt (z : (Nat → Int) × Int) (w : World) : (Instr.buildSlice 76 1 #[(0, .agg (ptl z.1 z.2).toArray)]).run Tryz.prog w = .ok (.slice (some ⟨w.heap.size, 0, none⟩) 1 1) (w.alloc (.cells (ptl z.1 z.2).toArray 38)) := by kernel_rfl
section
variable {ops : Array Oper} {rest : List Oper} {o : Oper} {a : Act} {w : World} {Q : Exit → Act → World → Prop}
theorem wpList_buildCm (P : Pm) (d : Int) (lk : Nat → Int) (hgd : o.guard = none) (x y z : Operand) (ho : o.op = .build 104 #[(0, x), (1, y), (2, z)]) (hx : a.eval x = .agg (pml P).toArray) (hy : a.eval y = .int .i64 d) (hz : a.eval z = .agg (bl lk 32).toArray)
  (h : wpList Tryz.prog ops Q rest (a.put o.dst (.agg (cmv (cm0 P d lk) none 0))) w) : wpList Tryz.prog ops Q (o :: rest) a w := by
 refine wpList_plain hgd fun K hK => ?_
 unfold Oper.wp execOp
 simp only [ho, List.map_toArray, List.map_cons, List.map_nil, hx, hy, hz, Sem.run_bind, build_cm, Result.andThen]
 exact hK _ _ h
theorem wpList_slicePt (z : (Nat → Int) × Int) (hgd : o.guard = none) (x : Operand) (ho : o.op = .buildSlice 76 1 #[(0, x)]) (hx : a.eval x = .agg (ptl z.1 z.2).toArray)
  (h : ∀ w1, New w w1 (ptl z.1 z.2).toArray 38 → wpList Tryz.prog ops Q rest (a.put o.dst (.slice (some ⟨w.heap.size, 0, none⟩) 1 1)) w1) : wpList Tryz.prog ops Q (o :: rest) a w := by
 refine wpList_plain hgd fun K hK => ?_
 unfold Oper.wp execOp
 simp only [ho, List.map_toArray, List.map_cons, List.map_nil, hx, Sem.run_bind, slice_pt, Result.andThen]
 exact hK _ _ (h _ (new_alloc w _ _))
end
theorem ptAt_new {w w1 : World} {z : (Nat → Int) × Int} (h : New w w1 (ptl z.1 z.2).toArray 38) : PtAt w1 (some ⟨w.heap.size, 0, none⟩) 1 (fun _ => z) := ⟨fun _ => ⟨w.heap.size, 0, rfl, fun i hi => by
 obtain rfl : i = 0 := by omega
 intro j v hv
 simp only [Nat.zero_mul, Nat.zero_add]
 rw [cell_of_row _ _ j _ _ _ h.blk]
 simpa using hv⟩⟩
theorem pm_pt {w : World} {g : Nat} {P : Pm} (h : w.rangeAt g 0 (pml P)) : w.rangeAt g 0 (ptl P.pt P.n) := by
 have e : pml P = ptl P.pt P.n ++ [.int .i64 P.am, .int .i64 P.k0, .int .i64 P.k1, .int .i64 P.dl, .int .i64 P.fe] := by simp [pml, ptl]
 rw [e] at h
 exact (range_app h).1
/-- What the owner's check lets by. -/
theorem ownE_ok {P : Pm} {s : Sv} {o : Int} (h : ownE P s o = 0) : SOk s ∧ PmOk P ∧ KeyOk P ∧ (o = 0 ∨ o = 1) := by
 unfold ownE at h
 by_cases h0 : bchkE P s = 0
 ·rw [if_neg (by simpa using h0)] at h
  have ho : 0 ≤ o ∧ o ≤ 1 := by
   by_cases e : 0 ≤ o ∧ o ≤ 1
   ·exact e
   ·rw [if_neg e] at h; simp at h
  unfold bchkE at h0
  by_cases h1 : SOk s ∧ PmOk P
  ·rw [if_neg (by simpa using h1)] at h0
   by_cases h2 : KeyOk P
   ·exact ⟨h1.1, h1.2, h2, by omega⟩
   ·rw [if_pos h2] at h0; simp at h0
  ·rw [if_pos h1] at h0; simp at h0
 ·rw [if_pos h0] at h; exact absurd h h0
theorem cm0_ok {P : Pm} {s : Sv} {o : Int} {lk : Nat → Int} (h : ownE P s o = 0) (hl : Zb lk) : CmOk (cm0 P o lk) := by
 obtain ⟨_, h1, h2, h3⟩ := ownE_ok h
 exact ⟨h3, ⟨h2.1, h2.2.1⟩, ⟨by have := h1.1; show 0 ≤ P.dl; omega, h1.1.2⟩, h1.2, hl⟩
/-- The outputs of a commitment are few and small. -/
theorem outsO_small {c : Cm} {s : Sv} (hs : SOk s) : ∀ j, j < (outsO c s s.hn).length → (oF (outsO c s s.hn) j).Small := by
 intro j hj
 have hm : oF (outsO c s s.hn) j ∈ outsO c s s.hn := by
  simp only [oF, List.getD_eq_getElem?_getD, List.getElem?_eq_getElem hj, Option.getD_some]
  exact List.getElem_mem hj
 generalize oF (outsO c s s.hn) j = x at hm
 simp only [outsO, paysO, sideO, ifL, List.mem_append, List.mem_map, List.mem_range] at hm
 rcases hm with ((hm | hm) | ⟨i, hi, rfl⟩) | ⟨i, hi, rfl⟩
 ·split at hm
  ·obtain rfl := by simpa using hm
   exact ⟨by simp [ownO], fun i hi => by simp only [ownO]; split <;> simp [brS, rvS]⟩
  ·simp at hm
 ·split at hm
  ·obtain rfl := by simpa using hm
   exact ⟨by simp [othO], fun i hi => by simp [othO, Cd.kb]⟩
  ·simp at hm
 ·exact ⟨by simp [payO], fun k hk => by simp only [payO, pdS]; split <;> (try split) <;> simp [toS, bkS, rvS, brS]⟩
 ·refine ⟨by simp [hldO], fun k hk => ?_⟩
  have h1 := Cd.insL_len (s.H i).z (s.H i).n
  have h2 := hs.2.1.2.2 i hi
  have h3 : (s.H i).n ≤ 16 := by
   have := h2.2.2.2.1
   have hp : ∀ j, j < (s.H i).n → (j : Int) ≤ (s.H i).z j := by
    intro j
    induction j with
    | zero => intro hj; have := (this 0 hj).1; simp [lastK] at this; omega
    | succ j ih => intro hj; have h5 := (this (j + 1) hj).1; have h6 := ih (by omega); rw [lastK_succ] at h5; omega
   rcases Nat.lt_or_ge 16 (s.H i).n with h | h
   ·have h7 := hp 16 h; have h8 := (this 16 h).2; omega
   ·exact h
  simp only [hldO, Cd.kb]
  omega
/-- Commit's error. -/
def cmtE (P : Pm) (s : Sv) (o : Int) (lk : Nat → Int) : Int := if ownE P s o ≠ 0 then ownE P s o else if hq lk nz = true then 1 else finE 1 (fun _ => (P.pt, P.n)) (outsO (cm0 P o lk) s s.hn) 0
def zeroTx : Value := .agg #[.int .i64 0, .slice none 0 0, .slice none 0 0]
structure CmtR (P : Pm) (s : Sv) (o : Int) (lk : Nat → Int) (w : World) (e : Ending) (w' : World) : Prop where
 bad : cmtE P s o lk ≠ 0 → e = .returned (.tuple #[zeroTx, errV (cmtE P s o lk)])
 ok : cmtE P s o lk = 0 → ∃ ia ic oa oc, e = .returned (.tuple #[.agg (txv 0 ia 1 ic oa (outsO (cm0 P o lk) s s.hn).length oc), .nilIface]) ∧ TxR w' ia ic 1 (fun _ => (P.pt, P.n)) oa oc (outsO (cm0 P o lk) s s.hn)
 below : Below w.heap.size w w'
set_option maxRecDepth 100000 in
set_option maxHeartbeats 6400000 in
theorem commit_any (P : Pm) (s : Sv) (p : Pl) (o : Int) (lk : Nat → Int) (w : World) (h : SvAt w s p) (hs : s.Small) (hl : Zb lk) (hpt : Hb P.pt) :
  Calls Tryz.prog 11 #[.agg (pmv P), .agg (svv s p), .int .i64 o, .agg (hv lk)] w (CmtR P s o lk w) := by
 have HH : Hid (SvAt w s p ∧ s.Small ∧ Zb lk ∧ Hb P.pt) := ⟨h, hs, hl, hpt⟩
 clear h hs hl hpt
 go_enter Tryz.func11, Tryz.ntmps11
 go_upto_region 1 with (first | (refine wpList_boxN rfl _ _ rfl (pmv P) rfl ?_; intro v1 N1) | (refine wpList_boxN rfl _ _ rfl (svv s p) rfl ?_; intro v2 N2) | (refine wpList_boxN rfl _ _ rfl (hv lk) rfl ?_; intro v3 N3) | (refine wpList_allocN 50 #[.int .i64 0, .slice none 0 0, .slice none 0 0] run_allocTx rfl rfl ?_; intro v4 N4) | fail)
 have HQ : Hid (w.heap.size < v1.heap.size ∧ v1.heap.size < v2.heap.size ∧ v2.heap.size < v3.heap.size ∧ v3.heap.size < v4.heap.size) := ⟨by have := N1.size; omega, by have := N2.size; omega, by have := N3.size; omega, by have := N4.size; omega⟩
 have HX : Hid (Below w.heap.size w v4 ∧ v4.heap[v3.heap.size]? = some (.cells #[.int .i64 0, .slice none 0 0, .slice none 0 0] 50 (0, 0)) ∧ (∀ w' : World, Below v4.heap.size v4 w' → w'.rangeAt w.heap.size 0 (pml P) ∧ w'.rangeAt v1.heap.size 0 (svv s p).toList ∧ w'.rangeAt v2.heap.size 0 (bl lk 32))) := by
  refine ⟨Below.transS N1.below (Below.transS N2.below (Below.transS N3.below N4.below)), N4.blk, fun w' hb => ⟨pml_range (heap_below hb (N4.old (N3.old (N2.old N1.blk)))), sv_range (heap_below hb (N4.old (N3.old N2.blk))), fun j v h1 => ?_⟩⟩
  rw [Nat.zero_add, cell_of_row _ _ j _ _ _ (heap_below hb (N4.old N3.blk))]
  simpa [hv] using h1
 clear N1 N2 N3 N4
 have HP4 := hidV (HX.out.2.2 v4 (Below.refl _ _)).1
 have HS4 := hidV (HX.out.2.2 v4 (Below.refl _ _)).2.1
 go_wp2_with (first | (refine wpList_load_mid rfl 40 _ rfl w.heap.size 0 rfl (pml P) _ HP4.out Tryz.underlying40 rfl (szPml P) ?_) | (refine wpList_load_mid rfl 45 _ rfl v1.heap.size 0 rfl (svv s p).toList _ HS4.out Tryz.underlying45 rfl szS ?_) | fail)
 refine (checkOwner_any P s p o v4 (HH.out.1.below HX.out.1) HH.out.2.1).mono ?_
 rintro e v5 ⟨rfl, hb5⟩
 have HB5 := hidV hb5
 clear hb5 HP4 HS4
 by_cases h0 : ownE P s o = 0
 ·rw [h0, berrV_0]
  have HL5 := hidV (HX.out.2.2 v5 HB5.out).2.2
  by_cases h1 : hq lk nz = true
  ·have HE : Hid (cmtE P s o lk = 1) := by unfold cmtE; rw [if_neg (by simpa using h0), if_pos h1]; exact rfl
   have hr5 := heap_below HB5.out HX.out.2.1
   have HZL := hidV HH.out.2.2.1
   clear h0
   go_wp2_with (first | (refine wpList_loadHG (by rfl) _ rfl v2.heap.size 0 rfl lk HL5.out ?_) | (refine wpList_buildHG (by rfl) rfl ?_) | (refine wpList_eqHG (by rfl) _ _ rfl lk nz rfl rfl HZL.out nz_bd ?_; rw [h1]) | (refine wpList_storeG 50 szTx rfl _ _ rfl v3.heap.size rfl #[.int .i64 0, .slice none 0 0, .slice none 0 0] #[.int .i64 0, .slice none 0 0, .slice none 0 0] rfl rfl (by kernel_rfl) 50 rfl hr5 ?_; intro v6 hg6 hf6) | fail)
   refine bodyPost_ret (results_T2 Tryz.results11 _ v6 v3.heap.size 50 _ _ _ (0, 0) rfl hg6) rfl ⟨fun _ => by rw [HE.out]; rfl, fun h => absurd h (by rw [HE.out]; decide), ?_⟩
   exact (Below.transS HX.out.1 HB5.out).trans (hf6.below (by have := HX.out.1.size; have := HB5.out.size; omega) (by have := HQ.out; simp; omega))
  ·have h1' : hq lk nz = false := by simpa using h1
   have HE : Hid (cmtE P s o lk = finE 1 (fun _ => (P.pt, P.n)) (outsO (cm0 P o lk) s s.hn) 0) := by unfold cmtE; rw [if_neg (by simpa using h0), if_neg h1]; exact rfl
   have HZL := hidV HH.out.2.2.1
   have HC := hidV (cm0_ok h0 HH.out.2.2.1)
   have HSO := hidV (ownE_ok h0).1
   have HP5 := hidV (HX.out.2.2 v5 HB5.out).1
   have HS5 := hidV (HX.out.2.2 v5 HB5.out).2.1
   clear h0 h1
   go_wp2_with (first | (refine wpList_loadHG (by rfl) _ rfl v2.heap.size 0 rfl lk HL5.out ?_) | (refine wpList_buildHG (by rfl) rfl ?_) | (refine wpList_eqHG (by rfl) _ _ rfl lk nz rfl rfl HZL.out nz_bd ?_; rw [h1']) | (refine wpList_load_mid rfl 40 _ rfl w.heap.size 0 rfl (pml P) _ HP5.out Tryz.underlying40 rfl (szPml P) ?_) | (refine wpList_load_mid rfl 45 _ rfl v1.heap.size 0 rfl (svv s p).toList _ HS5.out Tryz.underlying45 rfl szS ?_) | (refine wpList_buildCm P o lk rfl _ _ _ rfl rfl rfl rfl ?_) | fail)
   refine (outputs_any (cm0 P o lk) none 0 s p v5 HC.out ((HH.out.1.below HX.out.1).below HB5.out) HSO.out HH.out.2.1.k).mono ?_
   rintro e v6 ⟨va, vc, ua, uc, A, I, rfl, hO, hb6⟩
   have HO6 := hidV (And.intro hO hb6)
   clear hO hb6 HP5 HS5 HL5 h1'
   have HPT := hidV (pm_pt (HX.out.2.2 v6 (Below.transS HB5.out HO6.out.2)).1)
   have HMI := hidV (outsO_small (c := cm0 P o lk) HSO.out)
   have HML : Hid ((outsO (cm0 P o lk) s s.hn).length ≤ 10) := by have h1 := (outsO_len (cm0 P o lk) s s.hn).1; have h2 := HSO.out.2.1.1; show _ ≤ _; omega
   generalize hos : outsO (cm0 P o lk) s s.hn = os at *
   have HOS := hidV hos
   clear hos
   go_wp2_with (first | (refine wpList_load_mid rfl 38 _ rfl w.heap.size 0 rfl (ptl P.pt P.n) _ HPT.out Tryz.underlying38 rfl (szPtl _ _) ?_) | (refine wpList_slicePt (P.pt, P.n) rfl _ rfl rfl ?_; intro v7 N7) | fail)
   refine (spend_any (some ⟨v6.heap.size, 0, none⟩) 1 1 (fun _ => (P.pt, P.n)) v7 (ptAt_new N7) (by decide)).mono ?_
   rintro e v8 ⟨⟨ia, ic, rfl, hi8⟩, hb8⟩
   have H68 : Hid (Below v6.heap.size v6 v8 ∧ v6.heap.size < v7.heap.size) := ⟨Below.transS N7.below hb8, by have := N7.size; omega⟩
   have HFR : Hid (FinR v8 v5.heap.size ia ic 1 (fun _ => (P.pt, P.n)) va vc os A) := by
    have hs6 := HO6.out.2.size
    refine ⟨own_low hi8 (by have := H68.out.2; omega), own_below HO6.out.1.outs H68.out.1, fun j hj w' hw => HO6.out.1.cond j hj w' (fun k h1 h2 => ?_), fun j hj e => absurd e (HO6.out.1.int j hj).2.2, by have := H68.out.1.size; omega⟩
    have h3 := HO6.out.1.int j hj
    rw [hw k (by have := H68.out.1.size; omega) (fun e => by have := (hi8.lt k e.symm).1; have := H68.out.2; omega) (fun e => by have := HO6.out.1.apO j hj k e.symm; omega)]
    exact H68.out.1.block k (by omega)
   have HB8 : Hid (Below w.heap.size w v8 ∧ v8.heap[v3.heap.size]? = some (.cells #[.int .i64 0, .slice none 0 0, .slice none 0 0] 50 (0, 0)) ∧ w.heap.size ≤ v5.heap.size ∧ v3.heap.size < v5.heap.size) := by
    have h45 := Below.transS HX.out.1 HB5.out
    have h48 := Below.transS (Below.transS HB5.out HO6.out.2) H68.out.1
    exact ⟨Below.transS HX.out.1 h48, heap_below h48 HX.out.2.1, h45.size, by have := HQ.out; have := HB5.out.size; omega⟩
   clear hi8 hb8 N7 HPT
   have HZP : Hid (∀ i, i < 1 → Hb ((fun _ => (P.pt, P.n) : Nat → (Nat → Int) × Int) i).1) := fun i _ => HH.out.2.2.2
   go_wp2_with fail
   by_cases hf : finE 1 (fun _ => (P.pt, P.n)) os 0 = 0
   ·refine (finish_ok 0 v5.heap.size ia ic 1 (fun _ => (P.pt, P.n)) va vc os A v8 HFR.out HZP.out HMI.out (by decide) (by have := HML.out; omega) hf).mono ?_
    rintro e v9 ⟨rfl, ht9, hb9⟩
    have HT9 := hidV (And.intro ht9 hb9)
    have hr9 : v9.heap[v3.heap.size]? = some (.cells #[.int .i64 0, .slice none 0 0, .slice none 0 0] 50 (0, 0)) := by rw [hb9.block _ HB8.out.2.2.2]; exact HB8.out.2.1
    have HE0 : Hid (cmtE P s o lk = 0) := by show _ = _; rw [HE.out]; exact hf
    clear ht9 hb9 hf
    unfold txv
    go_wp2_with (first | (refine wpList_storeG 50 szTx rfl _ _ rfl v3.heap.size rfl #[.int .i64 0, .slice ia 1 ic, .slice va os.length vc] #[.int .i64 0, .slice none 0 0, .slice none 0 0] rfl rfl (by kernel_rfl) 50 rfl hr9 ?_; intro v10 hg10 hf10) | fail)
    refine bodyPost_ret (results_T2 Tryz.results11 _ v10 v3.heap.size 50 _ _ _ (0, 0) rfl hg10) rfl ⟨fun h => absurd HE0.out h, fun _ => ⟨ia, ic, va, vc, ?_, ?_⟩, ?_⟩
    ·rw [HOS.out]; rfl
    ·rw [HOS.out]
     exact HT9.out.1 v10 (fun k h1 h2 => hf10.block k h2 (by have := HB8.out; simp; omega))
    ·exact (HB8.out.1.trans (HT9.out.2.mono HB8.out.2.2.1)).trans (hf10.below (by have := HB8.out.1.size; have := HT9.out.2.size; omega) (by have := HQ.out; simp; omega))
   ·refine (finish_bad 0 v5.heap.size ia ic 1 (fun _ => (P.pt, P.n)) va vc os A v8 HFR.out HZP.out HMI.out (by decide) (by have := HML.out; omega) hf).mono ?_
    rintro e v9 ⟨rfl, hb9⟩
    have hr9 := heap_below hb9 HB8.out.2.1
    have HB9 := hidV hb9
    have HE0 : Hid (cmtE P s o lk = finE 1 (fun _ => (P.pt, P.n)) os 0 ∧ cmtE P s o lk ≠ 0) := ⟨HE.out, by rw [HE.out]; exact hf⟩
    clear hb9 hf
    generalize finE 1 (fun _ => (P.pt, P.n)) os 0 = ec at *
    go_wp2_with (first | (refine wpList_storeG 50 szTx rfl _ _ rfl v3.heap.size rfl #[.int .i64 0, .slice none 0 0, .slice none 0 0] #[.int .i64 0, .slice none 0 0, .slice none 0 0] rfl rfl (by kernel_rfl) 50 rfl hr9 ?_; intro v10 hg10 hf10) | fail)
    refine bodyPost_ret (results_T2 Tryz.results11 _ v10 v3.heap.size 50 _ _ _ (0, 0) rfl hg10) rfl ⟨fun _ => by rw [HE0.out.1]; rfl, fun h => absurd h HE0.out.2, ?_⟩
    exact (Below.transS HB8.out.1 HB9.out).trans (hf10.below (by have := HB8.out.1.size; have := HB9.out.size; omega) (by have := HQ.out; simp; omega))
 ·have HE : Hid (cmtE P s o lk = ownE P s o ∧ cmtE P s o lk ≠ 0) := ⟨by unfold cmtE; exact if_pos h0, by unfold cmtE; rw [if_pos h0]; exact h0⟩
  have e1 := errV_ne h0
  have HV := hidV e1
  have hr5 := heap_below HB5.out HX.out.2.1
  rw [e1]
  clear e1 h0
  go_wp2_with (first | (refine wpList_storeG 50 szTx rfl _ _ rfl v3.heap.size rfl #[.int .i64 0, .slice none 0 0, .slice none 0 0] #[.int .i64 0, .slice none 0 0, .slice none 0 0] rfl rfl (by kernel_rfl) 50 rfl hr5 ?_; intro v6 hg6 hf6) | fail)
  refine bodyPost_ret (results_T2 Tryz.results11 _ v6 v3.heap.size 50 _ _ _ (0, 0) rfl hg6) rfl ⟨fun _ => by rw [HE.out.1, HV.out]; rfl, fun h => absurd h HE.out.2, ?_⟩
  exact (Below.transS HX.out.1 HB5.out).trans (hf6.below (by have := HX.out.1.size; have := HB5.out.size; omega) (by have := HQ.out; simp; omega))
end Go.Proofs.YtjnepkggdkccaaaGreatDoor
/- The document's branches of a commitment: laws. -/
namespace Go.Proofs.YtjnepkggdkccaaaGreatDoor
open Go.RowKit

theorem szPmr : (Tryz.prog.info? 28).map (·.size) = some 38 := by kernel_rfl
theorem szPmrl (P : Pm) : (Tryz.prog.info? 28).map (·.size) = some (pml P).length := by rw [pml_length]; exact szPmr
section
variable {ops : Array Oper} {rest : List Oper} {o : Oper} {a : Act} {w : World} {Q : Exit → Act → World → Prop} {K : Act → World → Prop} {E : Prop}
theorem step_kSliceP (hgd : o.guard = none) (x : Operand) (ho : o.op = .buildSlice 88 1 #[(0, x)]) (v : Int) (hx : a.eval x = .int .i64 v)
  (h : ∀ q w1, w1.heap[q]? = some (.cells #[.int .i64 v] 3 (0, 0)) → w.heap.size ≤ q → Below w.heap.size w w1 → K (a.put o.dst (.slice (some ⟨q, 0, none⟩) 1 1)) w1) : if Region.wanted o (yielded ops a.tmps) = true then Oper.wp Tryz.prog o a w K Q else E := by
 have hw : Region.wanted o (yielded ops a.tmps) = true := by simp [Region.wanted, hgd]
 rw [if_pos hw]
 unfold Oper.wp execOp
 simp only [ho, List.map_toArray, List.map_cons, List.map_nil, hx, Sem.run_bind, bslice_k, Result.andThen]
 exact h _ _ (heap_alloc_new _ _) (Nat.le_refl _) ((Below.refl _ _).alloc (Nat.le_refl _) _)
end
/-- A key's row and a variable for a branch, made in either order. -/
structure TwM (w0 w : World) (k p : Nat) (x : Int) : Prop where
 below : Below w0.heap.size w0 w
 kb : w.heap[k]? = some (.cells #[.int .i64 x] 3 (0, 0))
 pb : w.heap[p]? = some (.cells (Cd.bv z0 none 0) 126 (0, 0))
 low : w0.heap.size ≤ k ∧ w0.heap.size ≤ p ∧ k ≠ p
end Go.Proofs.YtjnepkggdkccaaaGreatDoor
/- The document's outputs of a commitment: what stands throughout. -/
namespace Go.Proofs.YtjnepkggdkccaaaGreatDoor
open Go.RowKit

/-- What stands throughout. -/
structure EnvD (w : World) (g bs bh bf kx : Nat) (P : Pm) (s : Sv) (p : Pl) (l0 l1 : Int) (fine : Cd.Bv) : Prop where
 pm : w.rangeAt g 0 (pml P)
 st : w.rangeAt bs 0 (svv s p).toList
 h0 : w.cell? ⟨bh, 0, none⟩ = some (.int .i64 l0)
 h1 : w.cell? ⟨bh, 1, none⟩ = some (.int .i64 l1)
 fn : w.rangeAt bf 0 (Cd.brl fine (some ⟨kx, 0, none⟩) 1)
/-- What an append leaves. -/
structure AppS (w w1 : World) (B : Nat) (v : Value) : Prop where
 below : ∀ C, C ≤ B → Below C w w1
 kept : ∀ k, k < w.heap.size → v.ownBlock ≠ some k → w1.heap[k]? = w.heap[k]?
section
variable {ops : Array Oper} {rest : List Oper} {o : Oper} {a : Act} {w : World} {Q : Exit → Act → World → Prop} {K : Act → World → Prop} {E : Prop} {B kx : Nat} {x : Int} {os : List To} {zs : List (Int × Int)} {va : Option Addr} {vc : Nat} {ua : Option Addr} {uc : Nat}
end
/-- A branch in a variable of its own, its key in a row of its own. -/
structure TwS (z w : World) (pg kg : Nat) (x : Int) (V : Cd.Bv) : Prop where
 pb : w.heap[pg]? = some (.cells (Cd.bv V (some ⟨kg, 0, none⟩) 1) 126 (0, 0))
 kb : w.heap[kg]? = some (.cells #[.int .i64 x] 3 (0, 0))
 low : z.heap.size ≤ pg ∧ z.heap.size ≤ kg ∧ pg ≠ kg
 below : Below z.heap.size z w
theorem LaidD.below {w w1 : World} {B kx : Nat} {x : Int} {os : List To} {zs : List (Int × Int)} {va : Option Addr} {vc : Nat} {ua : Option Addr} {uc : Nat} (h : LaidD w B kx x os zs va vc ua uc) (hb : Below w.heap.size w w1) : LaidD w1 B kx x os zs va vc ua uc := by
 obtain ⟨A, I, h⟩ := h
 exact ⟨A, I, h.below hb⟩

end Go.Proofs.YtjnepkggdkccaaaGreatDoor
/- build.Places. -/
namespace Go.Proofs.YtjnepkggdkccaaaGreatDoor
open Go.RowKit

/-- Places lie at an address. -/
def PlAt (w : World) (ad : Option Addr) (zs : List (Int × Int)) : Prop := 0 < zs.length → ∃ b, ad = some ⟨b, 0, none⟩ ∧ ∀ i, i < zs.length → w.rangeAt b (i * 2) (pL zs i)
theorem PlAt.below {w w' : World} {ad : Option Addr} {zs : List (Int × Int)} (h : PlAt w ad zs) (hb : Below w.heap.size w w') : PlAt w' ad zs := fun hn => by
 obtain ⟨b, e, hr⟩ := h hn
 exact ⟨b, e, fun i hi => range_below (hr i hi) hb⟩
structure PlcR (P : Pm) (s : Sv) (o : Int) (w : World) (e : Ending) (w' : World) : Prop where
 bad : ownE P s o ≠ 0 → e = .returned (.tuple #[.slice none 0 0, errV (ownE P s o)])
 ok : ownE P s o = 0 → ∃ ua uc, e = .returned (.tuple #[.slice ua (outsZ (cm0 P o nz) s s.hn).length uc, .nilIface]) ∧ PlAt w' ua (outsZ (cm0 P o nz) s s.hn)
 below : Below w.heap.size w w'
end Go.Proofs.YtjnepkggdkccaaaGreatDoor
/- The document's Check of layer 14. -/


namespace Go.Proofs.YtjnepkggdkccaaaGreatDoor
open Go.RowKit

theorem rparty_any (n : Int) (w : World) :
  Calls Tryz.prog 37 #[.int .i64 n] w fun e w' => e = .returned (.bool (decide (0 ≤ n ∧ n ≤ 15))) ∧ w' = w := by
 by_cases h : 0 ≤ n
 ·have e : decide (0 ≤ n ∧ n ≤ 15) = decide (n < 16) := by simp [h]; omega
  rw [e]
  go_enter Tryz.func37, Tryz.ntmps37
  go_wp2
  go_ret
  exact ⟨rfl, rfl⟩
 ·have e : decide (0 ≤ n ∧ n ≤ 15) = false := by simp; omega
  rw [e]
  go_enter Tryz.func37, Tryz.ntmps37
  go_wp2
  go_ret
  exact ⟨rfl, rfl⟩
set_option maxRecDepth 100000 in
set_option maxHeartbeats 3200000 in
theorem rbcheck_any (P : Pm) (s : Sv) (p : Pl) (w : World) (h : SvAt w s p) (hs : s.Small) :
  Calls Tryz.prog 17 #[.agg (pmv P), .agg (svv s p)] w fun e w' => e = .returned (.int .i64 (bchkE P s)) ∧ Below w.heap.size w w' := by
 have HH : Hid (SvAt w s p ∧ s.Small) := ⟨h, hs⟩
 clear h hs
 go_enter Tryz.func17, Tryz.ntmps17
 go_upto_region 1 with (first | (refine wpList_boxN rfl _ _ rfl (pmv P) rfl ?_; intro v1 N1) | (refine wpList_boxN rfl _ _ rfl (svv s p) rfl ?_; intro v4 N2) | fail)
 have HX : Hid (Below w.heap.size w v4 ∧ (∀ w' : World, Below v4.heap.size v4 w' → w'.rangeAt w.heap.size 0 (pml P) ∧ w'.rangeAt v1.heap.size 0 (svv s p).toList)) :=
  ⟨Below.transS N1.below N2.below, fun w' hb => ⟨pml_range (heap_below hb (N2.old N1.blk)), sv_range (heap_below hb N2.blk)⟩⟩
 clear N1 N2
 generalize v1.heap.size = bs at *
 have HS4 := hidV (HX.out.2 v4 (Below.refl _ _)).2
 go_wp2_with (first | (refine wpList_load_mid rfl 32 _ rfl bs 0 rfl (svv s p).toList _ HS4.out Tryz.underlying32 rfl szSr ?_) | fail)
 refine (rcheck_any s p v4 (HH.out.1.below HX.out.1) HH.out.2).mono ?_
 rintro e v5 ⟨rfl, hb5⟩
 have HB5 := hidV hb5
 have hpm := pmBox (HX.out.2 v5 hb5).1
 have c36 : v5.cell? ⟨w.heap.size, 36, none⟩ = some (.int .i64 P.dl) := by simpa using hpm.dl
 have c37 : v5.cell? ⟨w.heap.size, 37, none⟩ = some (.int .i64 P.fe) := by simpa using hpm.fe
 have c34 : v5.cell? ⟨w.heap.size, 34, none⟩ = some (.int .i64 P.k0) := by simpa using hpm.k0
 have c35 : v5.cell? ⟨w.heap.size, 35, none⟩ = some (.int .i64 P.k1) := by simpa using hpm.k1
 clear hb5 hpm HS4
 by_cases h1 : SOk s ∧ PmOk P
 ·obtain ⟨hs, hp⟩ := h1
  have e0 : chkE s = 0 := if_pos hs
  obtain ⟨⟨d1, d2⟩, ⟨f1, f2⟩⟩ := id hp
  have HSO : Hid (SOk s ∧ PmOk P) := ⟨hs, hp⟩
  rw [e0]
  have n1 : ¬ P.dl < 1 := by omega
  have n2 : ¬ 65536 < P.dl := by omega
  have n3 : ¬ P.fe < 0 := by omega
  have n4 : ¬ 1125899906842624 < P.fe := by omega
  clear hs hp e0
  by_cases hk : KeyOk P
  ·obtain ⟨hk0, hk1, hkn⟩ := id hk
   have HKK := hidV hk
   have e1 : decide (0 ≤ P.k0 ∧ P.k0 ≤ 15) = true := by simpa using hk0
   have e2 : decide (0 ≤ P.k1 ∧ P.k1 ≤ 15) = true := by simpa using hk1
   have e3 : (P.k0 == P.k1) = false := by simpa using hkn
   clear hk hk0 hk1 hkn
   go_wp2_with fail
   refine (rparty_any P.k0 _).mono ?_
   rintro e q1 ⟨rfl, hW⟩
   rw [hW, e1]
   clear hW
   go_wp2_with fail
   refine (rparty_any P.k1 _).mono ?_
   rintro e q1 ⟨rfl, hW⟩
   rw [hW, e2]
   clear hW e1 e2
   go_upto_region 5 with fail
   clear c34 c35 c36 c37 n1 n2 n3 n4 d1 d2 f1 f2 e3
   have HS : Hid (∀ w' : World, Below v5.heap.size v5 w' → w'.rangeAt bs 0 (svv s p).toList ∧ w'.cell? ⟨w.heap.size, 33, none⟩ = some (.int .i64 P.am)) := fun w' hb => by
    have h1 := HX.out.2 w' (Below.transS HB5.out hb)
    exact ⟨h1.2, by have := (pmBox h1.1).am; simpa using this⟩
   refine wp_region_noPanic ?_
   refine wp_region_held_drew (S := fun w' => w'.rangeAt bs 0 (svv s p).toList ∧ w'.cell? ⟨w.heap.size, 33, none⟩ = some (.int .i64 P.am)) (by kernel_rfl) (HS.out v5.drew (Below.refl _ _).drew) (fun hHeld => ?_)
   have HB6 : Hid (Below v5.heap.size v5 v5.drew) := (Below.refl _ _).drew
   generalize v5.drew = v6 at *
   refine wpT (i := 2) (oi := ⟨some 51, .fieldAddr 28 (.tmp 2) 1, 0, _, _, none⟩) (v := ?_) rfl (by kernel_rfl) (fun _ _ _ h => h) (Or.inl ⟨by rfl, ?_⟩) (by assumption) ?_
   rotate_left
   ·intro wz hSw; (try dsimp only at hSw); go_simp; (try with_reducible rfl)
   try simp only [Act.put, zA, zB, zC]
   refine wpT (i := 3) (oi := ⟨some 52, .load 3 (.tmp 51), 3, _, _, none⟩) (v := ?_) rfl (by kernel_rfl) (fun _ _ _ h => h) (Or.inl ⟨by rfl, ?_⟩) (by assumption) ?_
   rotate_left
   ·intro wz hSw; (try dsimp only at hSw); go_simp; (try with_reducible rfl)
   try simp only [Act.put, zA, zB, zC]
   refine wpAnyH_take (i := 0) (oi := ⟨some 49, .load 32 (.tmp 3), 32, _, _, none⟩) rfl (by kernel_rfl) (by kernel_rfl) (by kernel_rfl) (fun _ _ _ h => h) (yieldsIf_load_mid (by rfl) _ _ rfl bs 0 rfl (svv s p).toList _ (fun _ h => h.1) Tryz.underlying32 rfl szSr) (by assumption) ?_
   try simp only [Act.put, zA, zB, zC]
   refine wpAnyH_ready (rs := [1]) (by kernel_rfl) (by simp) ?_
   refine (AllReadyH.cons (o := ⟨some 50, .call { callee := Go.Callee.value (.func 38), args := #[.tmp 49], argTypes := #[32] }, 3, _, _, none⟩) rfl (fun K hK => ?_) AllReadyH.nil)
   go_simp
   refine (rtotal_any s p v6 (((HH.out.1.below HX.out.1).below HB5.out).below HB6.out) HH.out.2).mono ?_
   rintro e v7 ⟨rfl, hb7⟩
   have HB7 : Hid (Below v5.heap.size v5 v7) := Below.transS HB6.out hb7
   clear hb7
   refine hK.out _ _ (HS.out v7 HB7.out) (fun _ => ?_)
   clear hK K
   try simp only [Act.put, zA, zB, zC]
   refine wpT (i := 4) (oi := ⟨some 53, .binOp .neq 3 (.tmp 50) (.tmp 52) 3, 4, _, _, none⟩) (v := ?_) rfl (by kernel_rfl) (fun _ _ _ h => h) (Or.inl ⟨by rfl, ?_⟩) (by assumption) ?_
   rotate_left
   ·intro wz hSw; (try dsimp only at hSw); go_simp; (try with_reducible rfl)
   try simp only [Act.put, zA, zB, zC]
   refine wpAnyH_done (by kernel_rfl) (NoPanic.normal ?_) _
   try simp only [Act.put, zA, zB, zC]
   clear hHeld
   have e4 : totF s = tot s := if_pos HSO.out.1
   rw [e4]
   clear e4
   have hpm := pmBox (HX.out.2 v7 (Below.transS HB5.out HB7.out)).1
   have c37 : v7.cell? ⟨w.heap.size, 37, none⟩ = some (.int .i64 P.fe) := by simpa using hpm.fe
   have ca : v7.cell? ⟨bs, 1, none⟩ = some (.int .i64 s.a) := (HS.out v7 HB7.out).1 1 _ rfl
   have HBE : Hid (Below w.heap.size w v7) := Below.transS HX.out.1 (Below.transS HB5.out HB7.out)
   clear hpm
   by_cases ht : tot s = P.am
   ·have e5 : (tot s == P.am) = true := by simpa using ht
    by_cases hf : s.a < P.fe
    ·have HE : Hid (bchkE P s = 26) := by unfold bchkE; rw [if_neg (by simpa using HSO.out), if_neg (by simpa using HKK.out), if_neg (by simpa using ht), if_pos hf]; exact rfl
     rw [ht]
     clear ht e5
     go_wp2
     go_ret
     exact ⟨by rw [HE.out]; rfl, HBE.out⟩
    ·have HE : Hid (bchkE P s = 0) := by unfold bchkE; rw [if_neg (by simpa using HSO.out), if_neg (by simpa using HKK.out), if_neg (by simpa using ht), if_neg hf]; exact rfl
     rw [ht]
     clear ht e5
     go_wp2
     go_ret
     exact ⟨by rw [HE.out]; rfl, HBE.out⟩
   ·have HE : Hid (bchkE P s = 20) := by unfold bchkE; rw [if_neg (by simpa using HSO.out), if_neg (by simpa using HKK.out), if_pos (by simpa using ht)]; exact rfl
    have e5 : (tot s == P.am) = false := by simpa using ht
    clear ht
    go_wp2
    go_ret
    exact ⟨by rw [HE.out]; rfl, HBE.out⟩
  ·have HE : Hid (bchkE P s = 33) := by unfold bchkE; rw [if_neg (by simpa using HSO.out), if_pos hk]; exact rfl
   have HBE : Hid (Below w.heap.size w v5) := Below.transS HX.out.1 HB5.out
   by_cases hk0 : 0 ≤ P.k0 ∧ P.k0 ≤ 15
   ·have e1 : decide (0 ≤ P.k0 ∧ P.k0 ≤ 15) = true := by simpa using hk0
    by_cases hk1 : 0 ≤ P.k1 ∧ P.k1 ≤ 15
    ·have e2 : decide (0 ≤ P.k1 ∧ P.k1 ≤ 15) = true := by simpa using hk1
     have e3 : P.k0 = P.k1 := by
      rcases Int.lt_trichotomy P.k0 P.k1 with h | h | h
      ·exact absurd (show KeyOk P from ⟨hk0, hk1, by omega⟩) hk
      ·exact h
      ·exact absurd (show KeyOk P from ⟨hk0, hk1, by omega⟩) hk
     rw [e3] at c34
     clear hk hk0 hk1
     go_wp2_with fail
     refine (rparty_any P.k1 _).mono ?_
     rintro e q1 ⟨rfl, hW⟩
     rw [hW, e2]
     clear hW
     go_wp2_with fail
     refine (rparty_any P.k1 _).mono ?_
     rintro e q1 ⟨rfl, hW⟩
     rw [hW, e2]
     clear hW e1 e2 e3
     go_wp2
     go_ret
     exact ⟨by rw [HE.out]; rfl, HBE.out⟩
    ·have e2 : decide (0 ≤ P.k1 ∧ P.k1 ≤ 15) = false := by simpa using hk1
     clear hk hk0 hk1
     go_wp2_with fail
     refine (rparty_any P.k0 _).mono ?_
     rintro e q1 ⟨rfl, hW⟩
     rw [hW, e1]
     clear hW
     go_wp2_with fail
     refine (rparty_any P.k1 _).mono ?_
     rintro e q1 ⟨rfl, hW⟩
     rw [hW, e2]
     clear hW e1 e2
     go_wp2
     go_ret
     exact ⟨by rw [HE.out]; rfl, HBE.out⟩
   ·have e1 : decide (0 ≤ P.k0 ∧ P.k0 ≤ 15) = false := by simpa using hk0
    clear hk hk0
    go_wp2_with fail
    refine (rparty_any P.k0 _).mono ?_
    rintro e q1 ⟨rfl, hW⟩
    rw [hW, e1]
    clear hW e1
    go_wp2
    go_ret
    exact ⟨by rw [HE.out]; rfl, HBE.out⟩
 ·have HE : Hid (bchkE P s = 1) := by unfold bchkE; rw [if_pos h1]; exact rfl
  by_cases hs : SOk s
  ·have hp : ¬ PmOk P := fun h => h1 ⟨hs, h⟩
   have e0 : chkE s = 0 := if_pos hs
   rw [e0]
   clear h1 e0 hs
   by_cases d1 : P.dl < 1
   ·clear hp
    go_wp2
    go_ret
    exact ⟨by rw [HE.out]; rfl, Below.transS HX.out.1 HB5.out⟩
   ·by_cases d2 : 65536 < P.dl
    ·clear hp
     go_wp2
     go_ret
     exact ⟨by rw [HE.out]; rfl, Below.transS HX.out.1 HB5.out⟩
    ·by_cases f1 : P.fe < 0
     ·clear hp
      go_wp2
      go_ret
      exact ⟨by rw [HE.out]; rfl, Below.transS HX.out.1 HB5.out⟩
     ·have f2 : 1125899906842624 < P.fe := by
       rcases Int.lt_or_le 1125899906842624 P.fe with h | h
       ·exact h
       ·exact absurd (show PmOk P from ⟨⟨by omega, by omega⟩, by omega, h⟩) hp
      clear hp
      go_wp2
      go_ret
      exact ⟨by rw [HE.out]; rfl, Below.transS HX.out.1 HB5.out⟩
  ·have e0 : chkE s = 1 := if_neg hs
   rw [e0]
   clear h1 e0 hs
   go_wp2
   go_ret
   exact ⟨by rw [HE.out]; rfl, Below.transS HX.out.1 HB5.out⟩
end Go.Proofs.YtjnepkggdkccaaaGreatDoor
/- build: what must come whatever the input is. -/
namespace Go.Proofs.YtjnepkggdkccaaaGreatDoor
open Go.RowKit

def P1 : Pm := ⟨nz, 0, 100, 1, 2, 3, 5⟩
def s1 : Sv := ⟨0, 50, 50, 0, fun _ => p0, 0, fun _ => default⟩
def lk1 : Nat → Int := fun j => if j = 0 then 1 else 0
theorem cmt1 : cmtE P1 s1 1 lk1 = 0 := by kernel_rfl
theorem out1 : (outsO (cm0 P1 1 lk1) s1 s1.hn).length = 2 ∧ (oF (outsO (cm0 P1 1 lk1) s1 s1.hn) 0).am = 50 ∧ (oF (outsO (cm0 P1 1 lk1) s1 s1.hn) 1).am = 45 := ⟨by kernel_rfl, by kernel_rfl, by kernel_rfl⟩
theorem run_allocPm (w : World) : (Instr.alloc 40 true (.tuple #[])).run Tryz.prog w = .ok (.pointer (some ⟨w.heap.size, 0, none⟩)) (w.alloc (.cells (pmv ⟨nz, 0, 0, 0, 0, 0, 0⟩) 40)) := by kernel_rfl
set_option maxRecDepth 100000 in
set_option maxHeartbeats 1600000 in
theorem sure_any (w : World) :
  Calls Tryz.prog 8 #[] w fun e w' => e = .returned (.bool true) ∧ Below w.heap.size w w' := by
 have hS : SvAt w s1 pl0 := ⟨PyAt.nil _ _ _, HdAt.nil _ _ _, Nat.le_refl _, Nat.le_refl _, fun _ => ⟨rfl, rfl⟩, fun _ => ⟨rfl, rfl⟩⟩
 have HS : Hid (SvAt w s1 pl0 ∧ s1.Small ∧ Zb lk1 ∧ Hb P1.pt) := ⟨hS, ⟨by simp [s1], fun i hi => by simp [s1] at hi⟩, fun j _ => by unfold lk1; split <;> omega, fun j _ => by simp [P1, nz]⟩
 clear hS
 go_enter Tryz.func8, Tryz.ntmps8
 go_wp2_with (first | (refine wpList_allocN 40 (pmv ⟨nz, 0, 0, 0, 0, 0, 0⟩) run_allocPm rfl rfl ?_; intro v1 N1) | (refine wpList_storeG 40 szPm rfl _ _ rfl w.heap.size rfl (pmv P1) (pmv ⟨nz, 0, 0, 0, 0, 0, 0⟩) (pmv_size _) (pmv_size _) (all_oneCell_toArray (pml_one _)) 40 rfl N1.blk ?_; intro v2 hg2 hf2; have H2 := hidV (And.intro (pml_range hg2) (N1.below.trans (hf2.below N1.below.size (by simp)))); clear hg2 hf2 N1) | (refine wpList_load_mid rfl 40 _ rfl w.heap.size 0 rfl (pml P1) _ H2.out.1 Tryz.underlying40 rfl (szPml P1) ?_) | fail)
 refine (commit_any P1 s1 pl0 1 lk1 v2 (HS.out.1.below H2.out.2) HS.out.2.1 HS.out.2.2.1 HS.out.2.2.2).mono ?_
 rintro e v3 hC
 obtain ⟨ia, ic, oa, oc, rfl, hT⟩ := hC.ok cmt1
 have hB3 := hC.below
 have ho := hT.tout
 have h50 := out1.2.1
 have h45 := out1.2.2
 rw [out1.1] at ho ⊢
 obtain ⟨b, off, rfl, hr⟩ := ho.at_ (by decide)
 obtain ⟨ca0, cc0, hr0, -⟩ := hr 0 (by decide)
 obtain ⟨ca1, cc1, hr1, -⟩ := hr 1 (by decide)
 have H0 : Hid (∀ w', Below v3.heap.size v3 w' → w'.cell? ⟨b, off, none⟩ = some (.int .i64 50) ∧ w'.cell? ⟨b, off + 2, none⟩ = some (.int .i64 45)) := fun w' hb => by
  have c0 := range_below hr0 hb 0 _ rfl
  have c1 := range_below hr1 hb 0 _ rfl
  rw [h50] at c0
  rw [h45] at c1
  exact ⟨by simpa using c0, by simpa using c1⟩
 have HB3 : Hid (Below w.heap.size w v3) := Below.transS H2.out.2 hB3
 clear hC hB3 ho h50 h45 hr hr0 hr1 hT H2 HS
 unfold txv
 go_wp2_with (first | (refine wpList_allocN 50 #[.int .i64 0, .slice none 0 0, .slice none 0 0] run_allocTx rfl rfl ?_; intro v4 N4) | (refine wpList_storeG 50 szTx rfl _ _ rfl v3.heap.size rfl #[.int .i64 0, .slice ia 1 ic, .slice (some ⟨b, off, none⟩) 2 oc] #[.int .i64 0, .slice none 0 0, .slice none 0 0] rfl rfl (by kernel_rfl) 50 rfl N4.blk ?_; intro v5 hg5 hf5; have c2 : v5.cell? ⟨v3.heap.size, 2, none⟩ = some (.slice (some ⟨b, off, none⟩) 2 oc) := (by rw [cell_of_row _ _ 2 _ _ _ hg5]; rfl); have hb5 : Below v3.heap.size v3 v5 := N4.below.trans (hf5.below N4.below.size (by simp)); obtain ⟨c50, c45⟩ := H0.out v5 hb5; have HE : Hid (Below w.heap.size w v5) := Below.transS HB3.out hb5; clear hg5 hf5 N4 hb5) | fail)
 go_ret
 exact ⟨rfl, HE.out⟩
end Go.Proofs.YtjnepkggdkccaaaGreatDoor
