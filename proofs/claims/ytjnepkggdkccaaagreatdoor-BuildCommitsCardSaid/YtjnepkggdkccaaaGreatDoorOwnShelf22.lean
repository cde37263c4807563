/- build.Commit and build.Places. -/
import Derived.Test.YtjnepkggdkccaaaGreatDoorOwnShelf21
import Derived.Test.YtjnepkggdkccaaaGreatDoorOwnShelf18
import Derived.Test.YtjnepkggdkccaaaGreatDoorOwnShelf14
import Derived.Deep.DeepCutAuto
namespace Go.Proofs.YtjnepkggdkccaaaGreatDoor
open Go.RowKit

def cm0 (P : Pm) (o : Int) (lk : Nat → Int) : Cm := ⟨P, o, lk, p0, default⟩
theorem build_cm (P : Pm) (o : Int) (lk : Nat → Int) (w : World) : (Instr.build 104 #[(0, .agg (pml P).toArray), (1, .int .i64 o), (2, .agg (bl lk 32).toArray)]).run Tryz.prog w = .ok (.agg (cmv (cm0 P o lk) none 0)) w := by kernel_rfl
theorem build_cm0 (P : Pm) (o : Int) (w : World) : (Instr.build 104 #[(0, .agg (pml P).toArray), (1, .int .i64 o)]).run Tryz.prog w = .ok (.agg (cmv (cm0 P o nz) none 0)) w := by kernel_rfl
theorem slice_pt (z : (Nat → Int) × Int) (w : World) : (Instr.buildSlice 76 1 #[(0, .agg (ptl z.1 z.2).toArray)]).run Tryz.prog w = .ok (.slice (some ⟨w.heap.size, 0, none⟩) 1 1) (w.alloc (.cells (ptl z.1 z.2).toArray 38)) := by kernel_rfl
section
variable {ops : Array Oper} {rest : List Oper} {o : Oper} {a : Act} {w : World} {Q : Exit → Act → World → Prop}
theorem wpList_buildCm (P : Pm) (d : Int) (lk : Nat → Int) (hgd : o.guard = none) (x y z : Operand) (ho : o.op = .build 104 #[(0, x), (1, y), (2, z)]) (hx : a.eval x = .agg (pml P).toArray) (hy : a.eval y = .int .i64 d) (hz : a.eval z = .agg (bl lk 32).toArray)
  (h : wpList Tryz.prog ops Q rest (a.put o.dst (.agg (cmv (cm0 P d lk) none 0))) w) : wpList Tryz.prog ops Q (o :: rest) a w := by
 refine wpList_plain hgd fun K hK => ?_
 unfold Oper.wp execOp
 simp only [ho, List.map_toArray, List.map_cons, List.map_nil, hx, hy, hz, Sem.run_bind, build_cm, Result.andThen]
 exact hK _ _ h
theorem wpList_buildCm0 (P : Pm) (d : Int) (hgd : o.guard = none) (x y : Operand) (ho : o.op = .build 104 #[(0, x), (1, y)]) (hx : a.eval x = .agg (pml P).toArray) (hy : a.eval y = .int .i64 d)
  (h : wpList Tryz.prog ops Q rest (a.put o.dst (.agg (cmv (cm0 P d nz) none 0))) w) : wpList Tryz.prog ops Q (o :: rest) a w := by
 refine wpList_plain hgd fun K hK => ?_
 unfold Oper.wp execOp
 simp only [ho, List.map_toArray, List.map_cons, List.map_nil, hx, hy, Sem.run_bind, build_cm0, Result.andThen]
 exact hK _ _ h
theorem wpList_slicePt (z : (Nat → Int) × Int) (hgd : o.guard = none) (x : Operand) (ho : o.op = .buildSlice 76 1 #[(0, x)]) (hx : a.eval x = .agg (ptl z.1 z.2).toArray)
  (h : ∀ w1, New w w1 (ptl z.1 z.2).toArray 38 → wpList Tryz.prog ops Q rest (a.put o.dst (.slice (some ⟨w.heap.size, 0, none⟩) 1 1)) w1) : wpList Tryz.prog ops Q (o :: rest) a w := by
 refine wpList_plain hgd fun K hK => ?_
 unfold Oper.wp execOp
 simp only [ho, List.map_toArray, List.map_cons, List.map_nil, hx, Sem.run_bind, slice_pt, Result.andThen]
 exact hK _ _ (h _ (new_alloc w _ _))
end
theorem ptAt_new {w w1 : World} {z : (Nat → Int) × Int} (h : New w w1 (ptl z.1 z.2).toArray 38) : PtAt w1 (some ⟨w.heap.size, 0, none⟩) 1 (fun _ => z) := ⟨fun _ => ⟨w.heap.size, 0, rfl, fun i hi => by
 obtain rfl : i = 0 := by omega
 intro j v hv
 simp only [Nat.zero_mul, Nat.zero_add]
 rw [cell_of_row _ _ j _ _ _ h.blk]
 simpa using hv⟩⟩
theorem pm_pt {w : World} {g : Nat} {P : Pm} (h : w.rangeAt g 0 (pml P)) : w.rangeAt g 0 (ptl P.pt P.n) := by
 have e : pml P = ptl P.pt P.n ++ [.int .i64 P.am, .int .i64 P.k0, .int .i64 P.k1, .int .i64 P.dl, .int .i64 P.fe] := by simp [pml, ptl]
 rw [e] at h
 exact (range_app h).1
/-- What the owner's check lets by. -/
theorem ownE_ok {P : Pm} {s : Sv} {o : Int} (h : ownE P s o = 0) : SOk s ∧ PmOk P ∧ KeyOk P ∧ (o = 0 ∨ o = 1) := by
 unfold ownE at h
 by_cases h0 : bchkE P s = 0
 ·rw [if_neg (by simpa using h0)] at h
  have ho : 0 ≤ o ∧ o ≤ 1 := by
   by_cases e : 0 ≤ o ∧ o ≤ 1
   ·exact e
   ·rw [if_neg e] at h; simp at h
  unfold bchkE at h0
  by_cases h1 : SOk s ∧ PmOk P
  ·rw [if_neg (by simpa using h1)] at h0
   by_cases h2 : KeyOk P
   ·exact ⟨h1.1, h1.2, h2, by omega⟩
   ·rw [if_pos h2] at h0; simp at h0
  ·rw [if_pos h1] at h0; simp at h0
 ·rw [if_pos h0] at h; exact absurd h h0
theorem cm0_ok {P : Pm} {s : Sv} {o : Int} {lk : Nat → Int} (h : ownE P s o = 0) (hl : Zb lk) : CmOk (cm0 P o lk) := by
 obtain ⟨_, h1, h2, h3⟩ := ownE_ok h
 exact ⟨h3, ⟨h2.1, h2.2.1⟩, ⟨by have := h1.1; show 0 ≤ P.dl; omega, h1.1.2⟩, h1.2, hl⟩
/-- The outputs of a commitment are few and small. -/
theorem outsO_small {c : Cm} {s : Sv} (hs : SOk s) : ∀ j, j < (outsO c s s.hn).length → (oF (outsO c s s.hn) j).Small := by
 intro j hj
 have hm : oF (outsO c s s.hn) j ∈ outsO c s s.hn := by
  simp only [oF, List.getD_eq_getElem?_getD, List.getElem?_eq_getElem hj, Option.getD_some]
  exact List.getElem_mem hj
 generalize oF (outsO c s s.hn) j = x at hm
 simp only [outsO, paysO, sideO, ifL, List.mem_append, List.mem_map, List.mem_range] at hm
 rcases hm with ((hm | hm) | ⟨i, hi, rfl⟩) | ⟨i, hi, rfl⟩
 ·split at hm
  ·obtain rfl := by simpa using hm
   exact ⟨by simp [ownO], fun i hi => by simp only [ownO]; split <;> simp [brS, rvS]⟩
  ·simp at hm
 ·split at hm
  ·obtain rfl := by simpa using hm
   exact ⟨by simp [othO], fun i hi => by simp [othO, Cd.kb]⟩
  ·simp at hm
 ·exact ⟨by simp [payO], fun k hk => by simp only [payO, pdS]; split <;> (try split) <;> simp [toS, bkS, rvS, brS]⟩
 ·refine ⟨by simp [hldO], fun k hk => ?_⟩
  have h1 := Cd.insL_len (s.H i).z (s.H i).n
  have h2 := hs.2.1.2.2 i hi
  have h3 : (s.H i).n ≤ 16 := by
   have := h2.2.2.2.1
   have hp : ∀ j, j < (s.H i).n → (j : Int) ≤ (s.H i).z j := by
    intro j
    induction j with
    | zero => intro hj; have := (this 0 hj).1; simp [lastK] at this; omega
    | succ j ih => intro hj; have h5 := (this (j + 1) hj).1; have h6 := ih (by omega); rw [lastK_succ] at h5; omega
   rcases Nat.lt_or_ge 16 (s.H i).n with h | h
   ·have h7 := hp 16 h; have h8 := (this 16 h).2; omega
   ·exact h
  simp only [hldO, Cd.kb]
  omega
/-- Commit's error. -/
def cmtE (P : Pm) (s : Sv) (o : Int) (lk : Nat → Int) : Int := if ownE P s o ≠ 0 then ownE P s o else if hq lk nz = true then 1 else finE 1 (fun _ => (P.pt, P.n)) (outsO (cm0 P o lk) s s.hn) 0
def zeroTx : Value := .agg #[.int .i64 0, .slice none 0 0, .slice none 0 0]
structure CmtR (P : Pm) (s : Sv) (o : Int) (lk : Nat → Int) (w : World) (e : Ending) (w' : World) : Prop where
 bad : cmtE P s o lk ≠ 0 → e = .returned (.tuple #[zeroTx, errV (cmtE P s o lk)])
 ok : cmtE P s o lk = 0 → ∃ ia ic oa oc, e = .returned (.tuple #[.agg (txv 0 ia 1 ic oa (outsO (cm0 P o lk) s s.hn).length oc), .nilIface]) ∧ TxR w' ia ic 1 (fun _ => (P.pt, P.n)) oa oc (outsO (cm0 P o lk) s s.hn)
 below : Below w.heap.size w w'
set_option maxRecDepth 100000 in
set_option maxHeartbeats 6400000 in
theorem commit_any (P : Pm) (s : Sv) (p : Pl) (o : Int) (lk : Nat → Int) (w : World) (h : SvAt w s p) (hs : s.Small) (hl : Zb lk) (hpt : Hb P.pt) :
  Calls Tryz.prog 11 #[.agg (pmv P), .agg (svv s p), .int .i64 o, .agg (hv lk)] w (CmtR P s o lk w) := by
 have HH : Hid (SvAt w s p ∧ s.Small ∧ Zb lk ∧ Hb P.pt) := ⟨h, hs, hl, hpt⟩
 clear h hs hl hpt
 go_enter Tryz.func11, Tryz.ntmps11
 go_upto_region 1 with (first | (refine wpList_boxN rfl _ _ rfl (pmv P) rfl ?_; intro v1 N1) | (refine wpList_boxN rfl _ _ rfl (svv s p) rfl ?_; intro v2 N2) | (refine wpList_boxN rfl _ _ rfl (hv lk) rfl ?_; intro v3 N3) | (refine wpList_allocN 50 #[.int .i64 0, .slice none 0 0, .slice none 0 0] run_allocTx rfl rfl ?_; intro v4 N4) | fail)
 have HQ : Hid (w.heap.size < v1.heap.size ∧ v1.heap.size < v2.heap.size ∧ v2.heap.size < v3.heap.size ∧ v3.heap.size < v4.heap.size) := ⟨by have := N1.size; omega, by have := N2.size; omega, by have := N3.size; omega, by have := N4.size; omega⟩
 have HX : Hid (Below w.heap.size w v4 ∧ v4.heap[v3.heap.size]? = some (.cells #[.int .i64 0, .slice none 0 0, .slice none 0 0] 50 (0, 0)) ∧ (∀ w' : World, Below v4.heap.size v4 w' → w'.rangeAt w.heap.size 0 (pml P) ∧ w'.rangeAt v1.heap.size 0 (svv s p).toList ∧ w'.rangeAt v2.heap.size 0 (bl lk 32))) := by
  refine ⟨Below.transS N1.below (Below.transS N2.below (Below.transS N3.below N4.below)), N4.blk, fun w' hb => ⟨pml_range (heap_below hb (N4.old (N3.old (N2.old N1.blk)))), sv_range (heap_below hb (N4.old (N3.old N2.blk))), fun j v h1 => ?_⟩⟩
  rw [Nat.zero_add, cell_of_row _ _ j _ _ _ (heap_below hb (N4.old N3.blk))]
  simpa [hv] using h1
 clear N1 N2 N3 N4
 have HP4 := hidV (HX.out.2.2 v4 (Below.refl _ _)).1
 have HS4 := hidV (HX.out.2.2 v4 (Below.refl _ _)).2.1
 go_wp2_with (first | (refine wpList_load_mid rfl 40 _ rfl w.heap.size 0 rfl (pml P) _ HP4.out Tryz.underlying40 rfl (szPml P) ?_) | (refine wpList_load_mid rfl 45 _ rfl v1.heap.size 0 rfl (svv s p).toList _ HS4.out Tryz.underlying45 rfl szS ?_) | fail)
 refine (checkOwner_any P s p o v4 (HH.out.1.below HX.out.1) HH.out.2.1).mono ?_
 rintro e v5 ⟨rfl, hb5⟩
 have HB5 := hidV hb5
 clear hb5 HP4 HS4
 by_cases h0 : ownE P s o = 0
 ·rw [h0, berrV_0]
  have HL5 := hidV (HX.out.2.2 v5 HB5.out).2.2
  by_cases h1 : hq lk nz = true
  ·have HE : Hid (cmtE P s o lk = 1) := by unfold cmtE; rw [if_neg (by simpa using h0), if_pos h1]; exact rfl
   have hr5 := heap_below HB5.out HX.out.2.1
   have HZL := hidV HH.out.2.2.1
   clear h0
   go_wp2_with (first | (refine wpList_loadHG (by rfl) _ rfl v2.heap.size 0 rfl lk HL5.out ?_) | (refine wpList_buildHG (by rfl) rfl ?_) | (refine wpList_eqHG (by rfl) _ _ rfl lk nz rfl rfl HZL.out nz_bd ?_; rw [h1]) | (refine wpList_storeG 50 szTx rfl _ _ rfl v3.heap.size rfl #[.int .i64 0, .slice none 0 0, .slice none 0 0] #[.int .i64 0, .slice none 0 0, .slice none 0 0] rfl rfl (by kernel_rfl) 50 rfl hr5 ?_; intro v6 hg6 hf6) | fail)
   refine bodyPost_ret (results_T2 Tryz.results11 _ v6 v3.heap.size 50 _ _ _ (0, 0) rfl hg6) rfl ⟨fun _ => by rw [HE.out]; rfl, fun h => absurd h (by rw [HE.out]; decide), ?_⟩
   exact (Below.transS HX.out.1 HB5.out).trans (hf6.below (by have := HX.out.1.size; have := HB5.out.size; omega) (by have := HQ.out; simp; omega))
  ·have h1' : hq lk nz = false := by simpa using h1
   have HE : Hid (cmtE P s o lk = finE 1 (fun _ => (P.pt, P.n)) (outsO (cm0 P o lk) s s.hn) 0) := by unfold cmtE; rw [if_neg (by simpa using h0), if_neg h1]; exact rfl
   have HZL := hidV HH.out.2.2.1
   have HC := hidV (cm0_ok h0 HH.out.2.2.1)
   have HSO := hidV (ownE_ok h0).1
   have HP5 := hidV (HX.out.2.2 v5 HB5.out).1
   have HS5 := hidV (HX.out.2.2 v5 HB5.out).2.1
   clear h0 h1
   go_wp2_with (first | (refine wpList_loadHG (by rfl) _ rfl v2.heap.size 0 rfl lk HL5.out ?_) | (refine wpList_buildHG (by rfl) rfl ?_) | (refine wpList_eqHG (by rfl) _ _ rfl lk nz rfl rfl HZL.out nz_bd ?_; rw [h1']) | (refine wpList_load_mid rfl 40 _ rfl w.heap.size 0 rfl (pml P) _ HP5.out Tryz.underlying40 rfl (szPml P) ?_) | (refine wpList_load_mid rfl 45 _ rfl v1.heap.size 0 rfl (svv s p).toList _ HS5.out Tryz.underlying45 rfl szS ?_) | (refine wpList_buildCm P o lk rfl _ _ _ rfl rfl rfl rfl ?_) | fail)
   refine (outputs_any (cm0 P o lk) none 0 s p v5 HC.out ((HH.out.1.below HX.out.1).below HB5.out) HSO.out HH.out.2.1.k).mono ?_
   rintro e v6 ⟨va, vc, ua, uc, A, I, rfl, hO, hb6⟩
   have HO6 := hidV (And.intro hO hb6)
   clear hO hb6 HP5 HS5 HL5 h1'
   have HPT := hidV (pm_pt (HX.out.2.2 v6 (Below.transS HB5.out HO6.out.2)).1)
   have HMI := hidV (outsO_small (c := cm0 P o lk) HSO.out)
   have HML : Hid ((outsO (cm0 P o lk) s s.hn).length ≤ 10) := by have h1 := (outsO_len (cm0 P o lk) s s.hn).1; have h2 := HSO.out.2.1.1; show _ ≤ _; omega
   generalize hos : outsO (cm0 P o lk) s s.hn = os at *
   have HOS := hidV hos
   clear hos
   go_wp2_with (first | (refine wpList_load_mid rfl 38 _ rfl w.heap.size 0 rfl (ptl P.pt P.n) _ HPT.out Tryz.underlying38 rfl (szPtl _ _) ?_) | (refine wpList_slicePt (P.pt, P.n) rfl _ rfl rfl ?_; intro v7 N7) | fail)
   refine (spend_any (some ⟨v6.heap.size, 0, none⟩) 1 1 (fun _ => (P.pt, P.n)) v7 (ptAt_new N7) (by decide)).mono ?_
   rintro e v8 ⟨⟨ia, ic, rfl, hi8⟩, hb8⟩
   have H68 : Hid (Below v6.heap.size v6 v8 ∧ v6.heap.size < v7.heap.size) := ⟨Below.transS N7.below hb8, by have := N7.size; omega⟩
   have HFR : Hid (FinR v8 v5.heap.size ia ic 1 (fun _ => (P.pt, P.n)) va vc os A) := by
    have hs6 := HO6.out.2.size
    refine ⟨own_low hi8 (by have := H68.out.2; omega), own_below HO6.out.1.outs H68.out.1, fun j hj w' hw => HO6.out.1.cond j hj w' (fun k h1 h2 => ?_), fun j hj e => absurd e (HO6.out.1.int j hj).2.2, by have := H68.out.1.size; omega⟩
    have h3 := HO6.out.1.int j hj
    rw [hw k (by have := H68.out.1.size; omega) (fun e => by have := (hi8.lt k e.symm).1; have := H68.out.2; omega) (fun e => by have := HO6.out.1.apO j hj k e.symm; omega)]
    exact H68.out.1.block k (by omega)
   have HB8 : Hid (Below w.heap.size w v8 ∧ v8.heap[v3.heap.size]? = some (.cells #[.int .i64 0, .slice none 0 0, .slice none 0 0] 50 (0, 0)) ∧ w.heap.size ≤ v5.heap.size ∧ v3.heap.size < v5.heap.size) := by
    have h45 := Below.transS HX.out.1 HB5.out
    have h48 := Below.transS (Below.transS HB5.out HO6.out.2) H68.out.1
    exact ⟨Below.transS HX.out.1 h48, heap_below h48 HX.out.2.1, h45.size, by have := HQ.out; have := HB5.out.size; omega⟩
   clear hi8 hb8 N7 HPT
   have HZP : Hid (∀ i, i < 1 → Hb ((fun _ => (P.pt, P.n) : Nat → (Nat → Int) × Int) i).1) := fun i _ => HH.out.2.2.2
   go_wp2_with fail
   by_cases hf : finE 1 (fun _ => (P.pt, P.n)) os 0 = 0
   ·refine (finish_ok 0 v5.heap.size ia ic 1 (fun _ => (P.pt, P.n)) va vc os A v8 HFR.out HZP.out HMI.out (by decide) (by have := HML.out; omega) hf).mono ?_
    rintro e v9 ⟨rfl, ht9, hb9⟩
    have HT9 := hidV (And.intro ht9 hb9)
    have hr9 : v9.heap[v3.heap.size]? = some (.cells #[.int .i64 0, .slice none 0 0, .slice none 0 0] 50 (0, 0)) := by rw [hb9.block _ HB8.out.2.2.2]; exact HB8.out.2.1
    have HE0 : Hid (cmtE P s o lk = 0) := by show _ = _; rw [HE.out]; exact hf
    clear ht9 hb9 hf
    unfold txv
    go_wp2_with (first | (refine wpList_storeG 50 szTx rfl _ _ rfl v3.heap.size rfl #[.int .i64 0, .slice ia 1 ic, .slice va os.length vc] #[.int .i64 0, .slice none 0 0, .slice none 0 0] rfl rfl (by kernel_rfl) 50 rfl hr9 ?_; intro v10 hg10 hf10) | fail)
    refine bodyPost_ret (results_T2 Tryz.results11 _ v10 v3.heap.size 50 _ _ _ (0, 0) rfl hg10) rfl ⟨fun h => absurd HE0.out h, fun _ => ⟨ia, ic, va, vc, ?_, ?_⟩, ?_⟩
    ·rw [HOS.out]; rfl
    ·rw [HOS.out]
     exact HT9.out.1 v10 (fun k h1 h2 => hf10.block k h2 (by have := HB8.out; simp; omega))
    ·exact (HB8.out.1.trans (HT9.out.2.mono HB8.out.2.2.1)).trans (hf10.below (by have := HB8.out.1.size; have := HT9.out.2.size; omega) (by have := HQ.out; simp; omega))
   ·refine (finish_bad 0 v5.heap.size ia ic 1 (fun _ => (P.pt, P.n)) va vc os A v8 HFR.out HZP.out HMI.out (by decide) (by have := HML.out; omega) hf).mono ?_
    rintro e v9 ⟨rfl, hb9⟩
    have hr9 := heap_below hb9 HB8.out.2.1
    have HB9 := hidV hb9
    have HE0 : Hid (cmtE P s o lk = finE 1 (fun _ => (P.pt, P.n)) os 0 ∧ cmtE P s o lk ≠ 0) := ⟨HE.out, by rw [HE.out]; exact hf⟩
    clear hb9 hf
    generalize finE 1 (fun _ => (P.pt, P.n)) os 0 = ec at *
    go_wp2_with (first | (refine wpList_storeG 50 szTx rfl _ _ rfl v3.heap.size rfl #[.int .i64 0, .slice none 0 0, .slice none 0 0] #[.int .i64 0, .slice none 0 0, .slice none 0 0] rfl rfl (by kernel_rfl) 50 rfl hr9 ?_; intro v10 hg10 hf10) | fail)
    refine bodyPost_ret (results_T2 Tryz.results11 _ v10 v3.heap.size 50 _ _ _ (0, 0) rfl hg10) rfl ⟨fun _ => by rw [HE0.out.1]; rfl, fun h => absurd h HE0.out.2, ?_⟩
    exact (Below.transS HB8.out.1 HB9.out).trans (hf10.below (by have := HB8.out.1.size; have := HB9.out.size; omega) (by have := HQ.out; simp; omega))
 ·have HE : Hid (cmtE P s o lk = ownE P s o ∧ cmtE P s o lk ≠ 0) := ⟨by unfold cmtE; exact if_pos h0, by unfold cmtE; rw [if_pos h0]; exact h0⟩
  have e1 := errV_ne h0
  have HV := hidV e1
  have hr5 := heap_below HB5.out HX.out.2.1
  rw [e1]
  clear e1 h0
  go_wp2_with (first | (refine wpList_storeG 50 szTx rfl _ _ rfl v3.heap.size rfl #[.int .i64 0, .slice none 0 0, .slice none 0 0] #[.int .i64 0, .slice none 0 0, .slice none 0 0] rfl rfl (by kernel_rfl) 50 rfl hr5 ?_; intro v6 hg6 hf6) | fail)
  refine bodyPost_ret (results_T2 Tryz.results11 _ v6 v3.heap.size 50 _ _ _ (0, 0) rfl hg6) rfl ⟨fun _ => by rw [HE.out.1, HV.out]; rfl, fun h => absurd h HE.out.2, ?_⟩
  exact (Below.transS HX.out.1 HB5.out).trans (hf6.below (by have := HX.out.1.size; have := HB5.out.size; omega) (by have := HQ.out; simp; omega))
end Go.Proofs.YtjnepkggdkccaaaGreatDoor
/- The document's branches of a commitment: laws. -/
namespace Go.Proofs.YtjnepkggdkccaaaGreatDoor
open Go.RowKit

theorem szPmr : (Tryz.prog.info? 28).map (·.size) = some 38 := by kernel_rfl
theorem szPmrl (P : Pm) : (Tryz.prog.info? 28).map (·.size) = some (pml P).length := by rw [pml_length]; exact szPmr
theorem szRb : (Tryz.prog.info? 126).map (·.size) = some 35 := by kernel_rfl
theorem szRbl (x : Cd.Bv) (ka : Option Addr) (kc : Nat) : (Tryz.prog.info? 126).map (·.size) = some (Cd.brl x ka kc).length := by rw [Cd.brl_length]; exact szRb
theorem sz2i : (Tryz.prog.info? 26).map (·.size) = some 2 := by kernel_rfl
theorem run_allocRb (w : World) : (Instr.alloc 126 true (.tuple #[])).run Tryz.prog w = .ok (.pointer (some ⟨w.heap.size, 0, none⟩)) (w.alloc (.cells (Cd.bv z0 none 0) 126)) := by kernel_rfl
theorem run_alloc2i (w : World) : (Instr.alloc 26 true (.tuple #[])).run Tryz.prog w = .ok (.pointer (some ⟨w.heap.size, 0, none⟩)) (w.alloc (.cells #[.int .i64 0, .int .i64 0] 26)) := by kernel_rfl
theorem run_allocPyr (w : World) : (Instr.alloc 98 true (.tuple #[])).run Tryz.prog w = .ok (.pointer (some ⟨w.heap.size, 0, none⟩)) (w.alloc (.cells (pyv p0) 98)) := by kernel_rfl
theorem slice_rb1 (x y : Cd.Bv) (ka kb : Option Addr) (kc kd : Nat) (w : World) : (Instr.buildSlice 120 2 #[(0, .agg (Cd.bv x ka kc)), (1, .agg (Cd.bv y kb kd))]).run Tryz.prog w = .ok (.slice (some ⟨w.heap.size, 0, none⟩) 2 2) (w.alloc (.cells (Cd.brl x ka kc ++ Cd.brl y kb kd).toArray 126)) := by kernel_rfl
theorem slice_rb3 (x y z : Cd.Bv) (ka kb ke : Option Addr) (kc kd kf : Nat) (w : World) : (Instr.buildSlice 120 3 #[(0, .agg (Cd.bv x ka kc)), (1, .agg (Cd.bv y kb kd)), (2, .agg (Cd.bv z ke kf))]).run Tryz.prog w = .ok (.slice (some ⟨w.heap.size, 0, none⟩) 3 3) (w.alloc (.cells (Cd.brl x ka kc ++ (Cd.brl y kb kd ++ Cd.brl z ke kf)).toArray 126)) := by kernel_rfl
theorem build_rbL (x : Int) (ka : Option Addr) (lk : Nat → Int) (w : World) : (Instr.build 126 #[(0, .slice ka 1 1), (1, .agg (bl lk 32).toArray)]).run Tryz.prog w = .ok (.agg (Cd.bv ⟨1, fun _ => x, lk, 0, 0⟩ ka 1)) w := by kernel_rfl
section
variable {ops : Array Oper} {rest : List Oper} {o : Oper} {a : Act} {w : World} {Q : Exit → Act → World → Prop} {K : Act → World → Prop} {E : Prop}
theorem step_kSliceP (hgd : o.guard = none) (x : Operand) (ho : o.op = .buildSlice 88 1 #[(0, x)]) (v : Int) (hx : a.eval x = .int .i64 v)
  (h : ∀ q w1, w1.heap[q]? = some (.cells #[.int .i64 v] 3 (0, 0)) → w.heap.size ≤ q → Below w.heap.size w w1 → K (a.put o.dst (.slice (some ⟨q, 0, none⟩) 1 1)) w1) : if Region.wanted o (yielded ops a.tmps) = true then Oper.wp Tryz.prog o a w K Q else E := by
 have hw : Region.wanted o (yielded ops a.tmps) = true := by simp [Region.wanted, hgd]
 rw [if_pos hw]
 unfold Oper.wp execOp
 simp only [ho, List.map_toArray, List.map_cons, List.map_nil, hx, Sem.run_bind, bslice_k, Result.andThen]
 exact h _ _ (heap_alloc_new _ _) (Nat.le_refl _) ((Below.refl _ _).alloc (Nat.le_refl _) _)
theorem step_sliceRb2 (hgd : o.guard = none) (x y : Operand) (ho : o.op = .buildSlice 120 2 #[(0, x), (1, y)]) (u v : Cd.Bv) (ka kb : Option Addr) (kc kd : Nat) (hx : a.eval x = .agg (Cd.bv u ka kc)) (hy : a.eval y = .agg (Cd.bv v kb kd))
  (h : ∀ q w1, w1.heap[q]? = some (.cells (Cd.brl u ka kc ++ Cd.brl v kb kd).toArray 126 (0, 0)) → w.heap.size ≤ q → Below w.heap.size w w1 → K (a.put o.dst (.slice (some ⟨q, 0, none⟩) 2 2)) w1) : if Region.wanted o (yielded ops a.tmps) = true then Oper.wp Tryz.prog o a w K Q else E := by
 have hw : Region.wanted o (yielded ops a.tmps) = true := by simp [Region.wanted, hgd]
 rw [if_pos hw]
 unfold Oper.wp execOp
 simp only [ho, List.map_toArray, List.map_cons, List.map_nil, hx, hy, Sem.run_bind, slice_rb1, Result.andThen]
 exact h _ _ (heap_alloc_new _ _) (Nat.le_refl _) ((Below.refl _ _).alloc (Nat.le_refl _) _)
theorem wpList_sliceRb3 (hgd : o.guard = none) (x y z : Operand) (ho : o.op = .buildSlice 120 3 #[(0, x), (1, y), (2, z)]) (u v s : Cd.Bv) (ka kb ke : Option Addr) (kc kd kf : Nat) (hx : a.eval x = .agg (Cd.bv u ka kc)) (hy : a.eval y = .agg (Cd.bv v kb kd)) (hz : a.eval z = .agg (Cd.bv s ke kf))
  (h : ∀ w1, New w w1 (Cd.brl u ka kc ++ (Cd.brl v kb kd ++ Cd.brl s ke kf)).toArray 126 → wpList Tryz.prog ops Q rest (a.put o.dst (.slice (some ⟨w.heap.size, 0, none⟩) 3 3)) w1) : wpList Tryz.prog ops Q (o :: rest) a w := by
 refine wpList_plain hgd fun K hK => ?_
 unfold Oper.wp execOp
 simp only [ho, List.map_toArray, List.map_cons, List.map_nil, hx, hy, hz, Sem.run_bind, slice_rb3, Result.andThen]
 exact hK _ _ (h _ (new_alloc w _ _))
theorem wpList_sliceTr (hgd : o.guard = none) (x : Operand) (ho : o.op = .buildSlice 56 1 #[(0, x)]) (am : Int) (ca : Option Addr) (n cc : Nat) (hx : a.eval x = .agg #[.int .i64 am, .slice ca n cc])
  (h : ∀ w1, New w w1 #[.int .i64 am, .slice ca n cc] 124 → wpList Tryz.prog ops Q rest (a.put o.dst (.slice (some ⟨w.heap.size, 0, none⟩) 1 1)) w1) : wpList Tryz.prog ops Q (o :: rest) a w := by
 refine wpList_plain hgd fun K hK => ?_
 unfold Oper.wp execOp
 simp only [ho, List.map_toArray, List.map_cons, List.map_nil, hx, Sem.run_bind, slice_tr, Result.andThen]
 exact hK _ _ (h _ (new_alloc w _ _))
theorem wpList_buildRbL (x : Int) (lk : Nat → Int) (ka : Option Addr) (hgd : o.guard = none) (y z : Operand) (ho : o.op = .build 126 #[(0, y), (1, z)]) (hy : a.eval y = .slice ka 1 1) (hz : a.eval z = .agg (bl lk 32).toArray)
  (h : wpList Tryz.prog ops Q rest (a.put o.dst (.agg (Cd.bv ⟨1, fun _ => x, lk, 0, 0⟩ ka 1))) w) : wpList Tryz.prog ops Q (o :: rest) a w := by
 refine wpList_plain hgd fun K hK => ?_
 unfold Oper.wp execOp
 simp only [ho, List.map_toArray, List.map_cons, List.map_nil, hy, hz, Sem.run_bind, build_rbL x, Result.andThen]
 exact hK _ _ h
end
/-- A key's row and a variable for a branch, made in either order. -/
structure TwM (w0 w : World) (k p : Nat) (x : Int) : Prop where
 below : Below w0.heap.size w0 w
 kb : w.heap[k]? = some (.cells #[.int .i64 x] 3 (0, 0))
 pb : w.heap[p]? = some (.cells (Cd.bv z0 none 0) 126 (0, 0))
 low : w0.heap.size ≤ k ∧ w0.heap.size ≤ p ∧ k ≠ p
theorem TwM.kp {w0 w1 w2 : World} {k p : Nat} {x : Int} (h1 : w1.heap[k]? = some (.cells #[.int .i64 x] 3 (0, 0))) (l1 : w0.heap.size ≤ k) (b1 : Below w0.heap.size w0 w1) (h2 : w2.heap[p]? = some (.cells (Cd.bv z0 none 0) 126 (0, 0))) (l2 : w1.heap.size ≤ p) (b2 : Below w1.heap.size w1 w2) : TwM w0 w2 k p x :=
 ⟨Below.transS b1 b2, heap_below b2 h1, h2, l1, Nat.le_trans b1.size l2, by have := lt_of_block h1; omega⟩
theorem TwM.pk {w0 w1 w2 : World} {k p : Nat} {x : Int} (h1 : w1.heap[p]? = some (.cells (Cd.bv z0 none 0) 126 (0, 0))) (l1 : w0.heap.size ≤ p) (b1 : Below w0.heap.size w0 w1) (h2 : w2.heap[k]? = some (.cells #[.int .i64 x] 3 (0, 0))) (l2 : w1.heap.size ≤ k) (b2 : Below w1.heap.size w1 w2) : TwM w0 w2 k p x :=
 ⟨Below.transS b1 b2, h2, heap_below b2 h1, Nat.le_trans b1.size l2, l1, by have := lt_of_block h1; omega⟩
end Go.Proofs.YtjnepkggdkccaaaGreatDoor
/- The document's outputs of a commitment: what stands throughout. -/
namespace Go.Proofs.YtjnepkggdkccaaaGreatDoor
open Go.RowKit

/-- What stands throughout. -/
structure EnvD (w : World) (g bs bh bf kx : Nat) (P : Pm) (s : Sv) (p : Pl) (l0 l1 : Int) (fine : Cd.Bv) : Prop where
 pm : w.rangeAt g 0 (pml P)
 st : w.rangeAt bs 0 (svv s p).toList
 h0 : w.cell? ⟨bh, 0, none⟩ = some (.int .i64 l0)
 h1 : w.cell? ⟨bh, 1, none⟩ = some (.int .i64 l1)
 fn : w.rangeAt bf 0 (Cd.brl fine (some ⟨kx, 0, none⟩) 1)
/-- What an append of an output asks for. -/
def AppR (w : World) (B kx : Nat) (x : Int) (os : List To) (zs : List (Int × Int)) (va : Option Addr) (vc : Nat) (ua : Option Addr) (uc q : Nat) (O : To) (ca : Option Addr) (cc : Nat) : Prop := ∃ A I lo hi, LayD w B kx x os zs va vc ua uc A I ∧ w.heap[q]? = some (.cells #[.int .i64 O.am, .slice ca O.cn cc] 124 (0, 0)) ∧ (∀ w' : World, w'.heap[kx]? = w.heap[kx]? → (∀ k, lo ≤ k → k < hi → w'.heap[k]? = w.heap[k]?) → Cd.BrAt w' ca O.cn O.X) ∧ B ≤ lo ∧ hi ≤ w.heap.size ∧ (∀ g, (Value.slice va os.length vc).ownBlock = some g → g < lo) ∧ (∀ g, (Value.slice ua zs.length uc).ownBlock = some g → g < lo) ∧ ca ≠ none
/-- What an append leaves. -/
structure AppS (w w1 : World) (B : Nat) (v : Value) : Prop where
 below : ∀ C, C ≤ B → Below C w w1
 kept : ∀ k, k < w.heap.size → v.ownBlock ≠ some k → w1.heap[k]? = w.heap[k]?
section
variable {ops : Array Oper} {rest : List Oper} {o : Oper} {a : Act} {w : World} {Q : Exit → Act → World → Prop} {K : Act → World → Prop} {E : Prop} {B kx : Nat} {x : Int} {os : List To} {zs : List (Int × Int)} {va : Option Addr} {vc : Nat} {ua : Option Addr} {uc : Nat}
theorem run_AppR {q : Nat} {O : To} {ca : Option Addr} {cc : Nat} (hA : AppR w B kx x os zs va vc ua uc q O ca cc) (ho1 : os.length ≤ 1000000) (ty : TypeId) : ∃ va' vc' w1, (Builtin.append_ #[56, 56] ty #[.slice va os.length vc, .slice (some ⟨q, 0, none⟩) 1 1]).run Tryz.prog w = .ok (.slice va' (os.length + 1) vc') w1 ∧ LaidD w1 B kx x (os ++ [O]) zs va' vc' ua uc ∧ AppS w w1 B (.slice va os.length vc) := by
 obtain ⟨A, I, lo, hi, hL, hq, hc, hlo, hhi, hva, hua, hca⟩ := hA
 obtain ⟨va', vc', w1, hr, h1, h2, h3⟩ := run_append_Tr w B q ty (.slice va os.length vc) os.length _ O.am ca O.cn cc hL.outs hL.lt.2 hq ho1
 exact ⟨va', vc', w1, hr, ⟨_, _, hL.pushO h1 h2 h3 hc hlo hhi hva hua hca⟩, fun C hC => ⟨h2.os, h2.tape, h2.output, h2.size, fun k hk => h2.block k (by have := hL.lt.2; omega) (fun e => by have := (hL.outs.lt k e.symm).1; omega)⟩, fun k hk hn => h2.block k hk (fun e => hn e.symm)⟩
theorem wpList_append_TrS {q : Nat} {O : To} {ca : Option Addr} {cc : Nat} (hA : AppR w B kx x os zs va vc ua uc q O ca cc) (hgd : o.guard = none) (s y : Operand) (ho : o.op = .call { callee := .builtin .append, args := #[s, y], argTypes := #[56, 56] }) (hs : a.eval s = .slice va os.length vc) (hx : a.eval y = .slice (some ⟨q, 0, none⟩) 1 1) (ho1 : os.length ≤ 1000000)
  (h : ∀ va' vc' w1, LaidD w1 B kx x (os ++ [O]) zs va' vc' ua uc → AppS w w1 B (.slice va os.length vc) → wpList Tryz.prog ops Q rest (a.put o.dst (.slice va' (os.length + 1) vc')) w1) : wpList Tryz.prog ops Q (o :: rest) a w := by
 obtain ⟨va', vc', w1, hr, h1, h2⟩ := run_AppR hA ho1 o.type
 refine wpList_plain hgd fun K hK => ?_
 unfold Oper.wp execOp
 simp only [ho, resolve, invoke, builtin, Sem.run_bind, Sem.run_pure, Result.andThen_ok, List.map_toArray, List.map_cons, List.map_nil, hs, hx, hr]
 exact hK _ _ (h _ _ _ h1 h2)
theorem step_append_TrS {q : Nat} {O : To} {ca : Option Addr} {cc : Nat} (hA : AppR w B kx x os zs va vc ua uc q O ca cc) (hgd : o.guard = none) (s y : Operand) (ho : o.op = .call { callee := .builtin .append, args := #[s, y], argTypes := #[56, 56] }) (hs : a.eval s = .slice va os.length vc) (hx : a.eval y = .slice (some ⟨q, 0, none⟩) 1 1) (ho1 : os.length ≤ 1000000)
  (h : ∀ va' vc' w1, LaidD w1 B kx x (os ++ [O]) zs va' vc' ua uc → AppS w w1 B (.slice va os.length vc) → K (a.put o.dst (.slice va' (os.length + 1) vc')) w1) : if Region.wanted o (yielded ops a.tmps) = true then Oper.wp Tryz.prog o a w K Q else E := by
 have hw : Region.wanted o (yielded ops a.tmps) = true := by simp [Region.wanted, hgd]
 rw [if_pos hw]
 obtain ⟨va', vc', w1, hr, h1, h2⟩ := run_AppR hA ho1 o.type
 unfold Oper.wp execOp
 simp only [ho, resolve, invoke, builtin, Sem.run_bind, Sem.run_pure, Result.andThen_ok, List.map_toArray, List.map_cons, List.map_nil, hs, hx, hr]
 exact h _ _ _ h1 h2
end
def OutsD (w0 : World) (m k : Nat) (os : List To) (zs : List (Int × Int)) (x : Int) (e : Ending) (w' : World) : Prop := ∃ va vc ua uc B kx A I, e = .returned (.tuple #[.slice va m vc, .slice ua k uc]) ∧ LayD w' B kx x os zs va vc ua uc A I ∧ w0.heap.size ≤ kx ∧ Below w0.heap.size w0 w'
/-- A branch in a variable of its own, its key in a row of its own. -/
structure TwS (z w : World) (pg kg : Nat) (x : Int) (V : Cd.Bv) : Prop where
 pb : w.heap[pg]? = some (.cells (Cd.bv V (some ⟨kg, 0, none⟩) 1) 126 (0, 0))
 kb : w.heap[kg]? = some (.cells #[.int .i64 x] 3 (0, 0))
 low : z.heap.size ≤ pg ∧ z.heap.size ≤ kg ∧ pg ≠ kg
 below : Below z.heap.size z w
theorem layD_start {w : World} {kx : Nat} {x : Int} (hx : w.heap[kx]? = some (.cells #[.int .i64 x] 3 (0, 0))) : LaidD w w.heap.size kx x [] [] none 0 none 0 :=
 ⟨fun _ => (none, 0), fun _ => (0, 0), hx, ⟨lt_of_block hx, Nat.le_refl _⟩, World.ownsRow_nil _ _ _ _, World.ownsRow_nil _ _ _ _, (fun j hj => by simp at hj), (fun j hj => by simp at hj), (fun j hj => by simp at hj), (fun j hj => by simp at hj)⟩
theorem LaidD.below {w w1 : World} {B kx : Nat} {x : Int} {os : List To} {zs : List (Int × Int)} {va : Option Addr} {vc : Nat} {ua : Option Addr} {uc : Nat} (h : LaidD w B kx x os zs va vc ua uc) (hb : Below w.heap.size w w1) : LaidD w1 B kx x os zs va vc ua uc := by
 obtain ⟨A, I, h⟩ := h
 exact ⟨A, I, h.below hb⟩

end Go.Proofs.YtjnepkggdkccaaaGreatDoor
/- build.Places. -/
namespace Go.Proofs.YtjnepkggdkccaaaGreatDoor
open Go.RowKit

/-- Places lie at an address. -/
def PlAt (w : World) (ad : Option Addr) (zs : List (Int × Int)) : Prop := 0 < zs.length → ∃ b, ad = some ⟨b, 0, none⟩ ∧ ∀ i, i < zs.length → w.rangeAt b (i * 2) (pL zs i)
theorem PlAt.below {w w' : World} {ad : Option Addr} {zs : List (Int × Int)} (h : PlAt w ad zs) (hb : Below w.heap.size w w') : PlAt w' ad zs := fun hn => by
 obtain ⟨b, e, hr⟩ := h hn
 exact ⟨b, e, fun i hi => range_below (hr i hi) hb⟩
theorem plAt_own {w : World} {B T : Nat} {ad : Option Addr} {c : Nat} {zs : List (Int × Int)} (h : w.ownsRow B T 2 (.slice ad zs.length c) zs.length (flatL (pL zs) zs.length)) : PlAt w ad zs := fun hn => by
 obtain ⟨g, e, _, _, hr⟩ := own_range h hn
 refine ⟨g, e, fun i hi => ?_⟩
 have := (flatL_range zs.length (f := pL zs) (k := 2) (fun _ _ => rfl)).1 hr i hi
 rwa [Nat.zero_add] at this
structure PlcR (P : Pm) (s : Sv) (o : Int) (w : World) (e : Ending) (w' : World) : Prop where
 bad : ownE P s o ≠ 0 → e = .returned (.tuple #[.slice none 0 0, errV (ownE P s o)])
 ok : ownE P s o = 0 → ∃ ua uc, e = .returned (.tuple #[.slice ua (outsZ (cm0 P o nz) s s.hn).length uc, .nilIface]) ∧ PlAt w' ua (outsZ (cm0 P o nz) s s.hn)
 below : Below w.heap.size w w'
set_option maxRecDepth 100000 in
set_option maxHeartbeats 3200000 in
theorem places_any (P : Pm) (s : Sv) (p : Pl) (o : Int) (w : World) (h : SvAt w s p) (hs : s.Small) :
  Calls Tryz.prog 13 #[.agg (pmv P), .agg (svv s p), .int .i64 o] w (PlcR P s o w) := by
 have HH : Hid (SvAt w s p ∧ s.Small) := ⟨h, hs⟩
 clear h hs
 go_enter Tryz.func13, Tryz.ntmps13
 go_upto_region 1 with (first | (refine wpList_boxN rfl _ _ rfl (pmv P) rfl ?_; intro v1 N1) | (refine wpList_boxN rfl _ _ rfl (svv s p) rfl ?_; intro v4 N2) | fail)
 have HX : Hid (Below w.heap.size w v4 ∧ (∀ w' : World, Below v4.heap.size v4 w' → w'.rangeAt w.heap.size 0 (pml P) ∧ w'.rangeAt v1.heap.size 0 (svv s p).toList)) :=
  ⟨Below.transS N1.below N2.below, fun w' hb => ⟨pml_range (heap_below hb (N2.old N1.blk)), sv_range (heap_below hb N2.blk)⟩⟩
 clear N1 N2
 have HP4 := hidV (HX.out.2 v4 (Below.refl _ _)).1
 have HS4 := hidV (HX.out.2 v4 (Below.refl _ _)).2
 go_wp2_with (first | (refine wpList_load_mid rfl 40 _ rfl w.heap.size 0 rfl (pml P) _ HP4.out Tryz.underlying40 rfl (szPml P) ?_) | (refine wpList_load_mid rfl 45 _ rfl v1.heap.size 0 rfl (svv s p).toList _ HS4.out Tryz.underlying45 rfl szS ?_) | fail)
 refine (checkOwner_any P s p o v4 (HH.out.1.below HX.out.1) HH.out.2).mono ?_
 rintro e v5 ⟨rfl, hb5⟩
 have HB5 := hidV hb5
 clear hb5 HP4 HS4
 by_cases h0 : ownE P s o = 0
 ·have HC := hidV (cm0_ok h0 (lk := nz) nz_zb)
  have HSO := hidV (ownE_ok h0).1
  have HZ := hidV h0
  have HP5 := hidV (HX.out.2 v5 HB5.out).1
  have HS5 := hidV (HX.out.2 v5 HB5.out).2
  rw [h0, berrV_0]
  clear h0
  go_wp2_with (first | (refine wpList_load_mid rfl 40 _ rfl w.heap.size 0 rfl (pml P) _ HP5.out Tryz.underlying40 rfl (szPml P) ?_) | (refine wpList_load_mid rfl 45 _ rfl v1.heap.size 0 rfl (svv s p).toList _ HS5.out Tryz.underlying45 rfl szS ?_) | (refine wpList_buildCm0 P o rfl _ _ rfl rfl rfl ?_) | fail)
  refine (outputs_any (cm0 P o nz) none 0 s p v5 HC.out ((HH.out.1.below HX.out.1).below HB5.out) HSO.out HH.out.2.k).mono ?_
  rintro e v6 ⟨va, vc, ua, uc, A, I, rfl, hO, hb6⟩
  have HE : Hid (PlcR P s o w (.returned (.tuple #[.slice ua (outsZ (cm0 P o nz) s s.hn).length uc, .nilIface])) v6) := ⟨fun h => absurd HZ.out h, fun _ => ⟨ua, uc, rfl, plAt_own hO.pls⟩, Below.transS (Below.transS HX.out.1 HB5.out) hb6⟩
  clear hO hb6 HP5 HS5
  go_wp2
  go_ret2
  exact HE.out
 ·have e1 := errV_ne h0
  have HE : Hid (PlcR P s o w (.returned (.tuple #[.slice none 0 0, errV (ownE P s o)])) v5) := ⟨fun _ => rfl, fun h => absurd h h0, Below.transS HX.out.1 HB5.out⟩
  have HV := hidV e1
  rw [e1] at HE ⊢
  clear e1 h0
  go_wp2
  go_ret2
  exact HE.out
end Go.Proofs.YtjnepkggdkccaaaGreatDoor
