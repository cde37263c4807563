/- The law BuildCommits. -/
import Derived.Test.YtjnepkggdkccaaaGreatDoorOwnShelf25
import Derived.Test.YtjnepkggdkccaaaGreatDoorOwnShelf28
import Derived.Test.YtjnepkggdkccaaaGreatDoorOwnShelf40
namespace Go.Proofs.YtjnepkggdkccaaaGreatDoor
open Go.RowKit

theorem txv_one (lk : Int) (ia : Option Addr) (n ic : Nat) (oa : Option Addr) (m oc : Nat) : (txv lk ia n ic oa m oc).all (·.oneCell') = true := by simp [txv, Value.oneCell']
theorem svv_one (s : Sv) (p : Pl) : (svv s p).all (·.oneCell') = true := by simp [svv, Value.oneCell']
def pmZ : Array Value := pmv ⟨nz, 0, 0, 0, 0, 0, 0⟩
def svZ : Array Value := #[.int .i64 0, .int .i64 0, .int .i64 0, .slice none 0 0, .slice none 0 0]
theorem run_allocSvZ (w : World) : (Instr.alloc 45 true (.tuple #[])).run Tryz.prog w = .ok (.pointer (some ⟨w.heap.size, 0, none⟩)) (w.alloc (.cells svZ 45)) := by kernel_rfl
theorem run_allocPmZ (w : World) : (Instr.alloc 40 true (.tuple #[])).run Tryz.prog w = .ok (.pointer (some ⟨w.heap.size, 0, none⟩)) (w.alloc (.cells pmZ 40)) := run_allocPm w
/-- The state that was given lies in the blocks from lo to hi. -/
structure InSv (w : World) (s : Sv) (p : Pl) (lo hi : Nat) : Prop where
 at_ : ∀ w' : World, (∀ k, lo ≤ k → k < hi → w'.heap[k]? = w.heap[k]?) → SvAt w' s p
theorem inSv_mk {B : Nat} {w : World} {s : Sv} {p : Pl} {A : Nat → Option Addr × Nat} (h : SvOw B w s p A) : InSv w s p B w.heap.size := ⟨fun _ hw => SvOw.at (B := B) (A := A) ⟨h.lk, own_keep h.py (fun g e => hw g (h.py.lt g e).1 (h.py.lt g e).2), own_keep h.hd (fun g e => hw g (h.hd.lt g e).1 (h.hd.lt g e).2), fun i hi => own_keep (h.ks i hi) (fun g e => hw g ((h.ks i hi).lt g e).1 ((h.ks i hi).lt g e).2)⟩⟩
/-- On the way: the two new blocks, and the state as the program's. -/
structure CmW (v w : World) (s : Sv) (a b : Option Nat) (g : Option (Pl × Nat × Nat)) : Prop where
 below : Below v.heap.size v w
 pa : ∀ k, a = some k → w.heap[k]? = some (.cells pmZ 40 (0, 0)) ∧ v.heap.size ≤ k
 pb : ∀ k, b = some k → w.heap[k]? = some (.cells svZ 45 (0, 0)) ∧ v.heap.size ≤ k
 ne : ∀ k l, a = some k → b = some l → k ≠ l
 sv : ∀ q, g = some q → q.2.2 ≤ w.heap.size ∧ InSv w s q.1 q.2.1 q.2.2 ∧ (∀ k, a = some k ∨ b = some k → k < q.2.1 ∨ q.2.2 ≤ k)
theorem CmW.init (v : World) (s : Sv) : CmW v v.drew s none none none := ⟨(Below.refl _ _).drew, (fun _ h => by cases h), (fun _ h => by cases h), (fun _ _ h => by cases h), (fun _ h => by cases h)⟩
theorem CmW.keep {v w w1 : World} {s : Sv} {a b : Option Nat} {g : Option (Pl × Nat × Nat)} (h : CmW v w s a b g) (hb : Below w.heap.size w w1) : CmW v w1 s a b g :=
 ⟨Below.transS h.below hb, fun k e => ⟨heap_below hb (h.pa k e).1, (h.pa k e).2⟩, fun k e => ⟨heap_below hb (h.pb k e).1, (h.pb k e).2⟩, h.ne, fun q e => ⟨by have := (h.sv q e).1; have := hb.size; omega, ⟨fun w' hw => (h.sv q e).2.1.at_ w' (fun k h1 h2 => by rw [hw k h1 h2]; exact hb.block k (by have := (h.sv q e).1; omega))⟩, (h.sv q e).2.2⟩⟩
theorem CmW.lt {v w : World} {s : Sv} {a b : Option Nat} {g : Option (Pl × Nat × Nat)} (h : CmW v w s a b g) : ∀ k, a = some k ∨ b = some k → k < w.heap.size := fun k e => by
 rcases e with e | e
 ·exact lt_of_block (h.pa k e).1
 ·exact lt_of_block (h.pb k e).1
theorem CmW.newA {v w w1 : World} {s : Sv} {b : Option Nat} {g : Option (Pl × Nat × Nat)} {k : Nat} (h : CmW v w s none b g) (hk : w1.heap[k]? = some (.cells pmZ 40 (0, 0))) (hl : w.heap.size ≤ k) (hb : Below w.heap.size w w1) : CmW v w1 s (some k) b g := by
 have h' := h.keep hb
 refine ⟨h'.below, fun q e => by cases e; exact ⟨hk, by have := h.below.size; omega⟩, h'.pb, fun q l e1 e2 => ?_, fun q e => ⟨(h'.sv q e).1, (h'.sv q e).2.1, fun l e2 => ?_⟩⟩
 ·cases e1; have := h.lt l (.inr e2); omega
 ·rcases e2 with e2 | e2
  ·cases e2; have := (h.sv q e).1; omega
  ·exact (h.sv q e).2.2 l (.inr e2)
theorem CmW.newB {v w w1 : World} {s : Sv} {a : Option Nat} {g : Option (Pl × Nat × Nat)} {k : Nat} (h : CmW v w s a none g) (hk : w1.heap[k]? = some (.cells svZ 45 (0, 0))) (hl : w.heap.size ≤ k) (hb : Below w.heap.size w w1) : CmW v w1 s a (some k) g := by
 have h' := h.keep hb
 refine ⟨h'.below, h'.pa, fun q e => by cases e; exact ⟨hk, by have := h.below.size; omega⟩, fun l q e1 e2 => ?_, fun q e => ⟨(h'.sv q e).1, (h'.sv q e).2.1, fun l e2 => ?_⟩⟩
 ·cases e2; have := h.lt l (.inl e1); omega
 ·rcases e2 with e2 | e2
  ·exact (h.sv q e).2.2 l (.inl e2)
  ·cases e2; have := (h.sv q e).1; omega
theorem CmW.give {v w w1 : World} {s : Sv} {a b : Option Nat} {p : Pl} {A : Nat → Option Addr × Nat} (h : CmW v w s a b none) (ho : SvOw w.heap.size w1 s p A) (hb : Below w.heap.size w w1) : CmW v w1 s a b (some (p, w.heap.size, w1.heap.size)) := by
 have h' := h.keep hb
 refine ⟨h'.below, h'.pa, h'.pb, h'.ne, fun q e => ?_⟩
 cases e
 exact ⟨Nat.le_refl _, inSv_mk ho, fun k e => .inl (h.lt k e)⟩
/-- Where the twelve orders meet. -/
structure CmZ (v w : World) (s : Sv) (ta tb : Nat) (p : Pl) : Prop where
 below : Below v.heap.size v w
 pa : w.heap[ta]? = some (.cells pmZ 40 (0, 0)) ∧ v.heap.size ≤ ta
 pb : w.heap[tb]? = some (.cells svZ 45 (0, 0)) ∧ v.heap.size ≤ tb
 ne : ta ≠ tb
 sv : ∀ w' : World, (∀ k, k < w.heap.size → k ≠ ta → k ≠ tb → w'.heap[k]? = w.heap[k]?) → SvAt w' s p
theorem CmW.fin {v w : World} {s : Sv} {ta tb : Nat} {q : Pl × Nat × Nat} (h : CmW v w s (some ta) (some tb) (some q)) : CmZ v w s ta tb q.1 :=
 ⟨h.below, h.pa ta rfl, h.pb tb rfl, h.ne ta tb rfl rfl, fun w' hw => (h.sv q rfl).2.1.at_ w' (fun k h1 h2 => hw k (by have := (h.sv q rfl).1; omega) (fun e => by have := (h.sv q rfl).2.2 ta (.inl rfl); omega) (fun e => by have := (h.sv q rfl).2.2 tb (.inr rfl); omega))⟩
/-- Behind the stores. -/
structure CmQ (v w : World) (P : Pm) (s : Sv) (ta tb : Nat) (p : Pl) : Prop where
 below : Below v.heap.size v w
 pa : w.heap[ta]? = some (.cells (pmv P) 40 (0, 0))
 pb : w.heap[tb]? = some (.cells (svv s p) 45 (0, 0))
 sv : SvAt w s p
theorem CmZ.stored {v w w1 w2 : World} {P : Pm} {s : Sv} {ta tb : Nat} {p : Pl} (h : CmZ v w s ta tb p) (hg1 : w1.heap[ta]? = some (.cells (pmv P) 40 (0, 0))) (hf1 : Frm [ta] w w1) (hg2 : w2.heap[tb]? = some (.cells (svv s p) 45 (0, 0))) (hf2 : Frm [tb] w1 w2) : CmQ v w2 P s ta tb p := by
 have h1 : Below v.heap.size v w1 := h.below.trans (hf1.below h.below.size (by have := h.pa.2; simp; omega))
 refine ⟨h1.trans (hf2.below h1.size (by have := h.pb.2; simp; omega)), hf2.heap hg1 (by have := h.ne; simp; omega), hg2, h.sv w2 (fun k hk ha hb => ?_)⟩
 rw [hf2.block k (by have := hf1.size; omega) (by simp; omega), hf1.block k hk (by simp; omega)]
theorem CmQ.keep {v w w1 : World} {P : Pm} {s : Sv} {ta tb : Nat} {p : Pl} (h : CmQ v w P s ta tb p) (hb : Below w.heap.size w w1) : CmQ v w1 P s ta tb p := ⟨Below.transS h.below hb, heap_below hb h.pa, heap_below hb h.pb, h.sv.below hb⟩
set_option maxRecDepth 100000 in
set_option maxHeartbeats 12800000 in
theorem lcommits_any (P : Pm) (s : Sv) (p : Pl) (o : Int) (lk : Nat → Int) (sa : Option Addr) (sn sc : Nat) (w : World) (hg : Cd.Glob w) (h : StIn w s p) (hpt : Hb P.pt) (hl : Zb lk) :
  Calls Tryz.prog 3 #[.agg (pmv P), .agg (svv s p), .agg (owv o lk sa sn sc)] w fun e w' => e = .returned (.bool true) ∧ Below w.heap.size w w' := by
 have HH := hidV (And.intro h hg)
 have HPT := hidV hpt
 have HLK := hidV hl
 clear h hg hpt hl
 go_enter Tryz.func3, Tryz.ntmps3
 go_upto_region 1 with (first | (refine wpList_boxN rfl _ _ rfl (pmv P) rfl ?_; intro v1 N1) | (refine wpList_boxN rfl _ _ rfl (svv s p) rfl ?_; intro v2 N2) | (refine wpList_boxN rfl _ _ rfl (owv o lk sa sn sc) rfl ?_; intro v3 N3) | fail)
 have HX0 : Hid (Below w.heap.size w v3 ∧ (∀ w' : World, Below v3.heap.size v3 w' → w'.rangeAt w.heap.size 0 (pml P) ∧ w'.rangeAt v1.heap.size 0 (svv s p).toList ∧ w'.cell? ⟨v2.heap.size, 0, none⟩ = some (.int .i64 o) ∧ w'.rangeAt v2.heap.size 1 (bl lk 32))) := by
  refine ⟨Below.transS N1.below (Below.transS N2.below N3.below), fun w' hb => ?_⟩
  have h3 : w'.rangeAt v2.heap.size 0 (owl o lk sa sn sc) := fun j v hj => by
   rw [Nat.zero_add, cell_of_row _ _ j _ _ _ (heap_below hb N3.blk)]
   simpa [owv] using hj
  have h4 : w'.rangeAt v2.heap.size 0 ([.int .i64 o] ++ (bl lk 32 ++ [.slice sa sn sc])) := h3
  obtain ⟨h5, h6⟩ := range_app h4
  obtain ⟨h7, _⟩ := range_app h6
  exact ⟨pml_range (heap_below hb (N3.old (N2.old N1.blk))), sv_range (heap_below hb (N3.old N2.blk)), by simpa using h5 0 _ rfl, by simpa using h7⟩
 clear N1 N2 N3
 generalize v1.heap.size = bs at *
 generalize v2.heap.size = ob at *
 refine wp_region_noPanic ?_
 refine wp_region_held_drew (S := fun w' => w'.cell? ⟨ob, 0, none⟩ = some (.int .i64 o) ∧ w'.rangeAt ob 1 (bl lk 32)) (by kernel_rfl) ((HX0.out.2 v3.drew (Below.refl _ _).drew).2.2) (fun hHeld => ?_)
 have HB0 : Hid (Below v3.heap.size v3 v3.drew) := (Below.refl _ _).drew
 generalize v3.drew = z0 at *
 refine wpAnyH_take (i := 0) (oi := ⟨some 20, .fieldAddr 35 (.tmp 5) 0, 0, _, _, none⟩) (v := ?_) rfl (by kernel_rfl) (by kernel_rfl) (by kernel_rfl) (fun _ _ _ h => h) (Or.inl ⟨by rfl, ?_⟩) (by assumption) ?_
 rotate_left
 ·intro wz hSw; (try dsimp only at hSw); go_simp; (try with_reducible rfl)
 try simp only [Act.put, zA, zB, zC]
 refine wpAnyH_take (i := 1) (oi := ⟨some 21, .load 3 (.tmp 20), 3, _, _, none⟩) (v := ?_) rfl (by kernel_rfl) (by kernel_rfl) (by kernel_rfl) (fun _ _ _ h => h) (Or.inl ⟨by rfl, ?_⟩) (by assumption) ?_
 rotate_left
 ·intro wz hSw; (try dsimp only at hSw); go_simp; (try with_reducible rfl)
 try simp only [Act.put, zA, zB, zC]
 refine wpAnyH_take (i := 2) (oi := ⟨some 22, .fieldAddr 35 (.tmp 5) 1, 0, _, _, none⟩) (v := ?_) rfl (by kernel_rfl) (by kernel_rfl) (by kernel_rfl) (fun _ _ _ h => h) (Or.inl ⟨by rfl, ?_⟩) (by assumption) ?_
 rotate_left
 ·intro wz hSw; (try dsimp only at hSw); go_simp; (try with_reducible rfl)
 try simp only [Act.put, zA, zB, zC]
 refine wpAnyH_take (i := 3) (oi := ⟨some 23, .load 23 (.tmp 22), 23, _, _, none⟩) rfl (by kernel_rfl) (by kernel_rfl) (by kernel_rfl) (fun _ _ _ h => h) (yieldsIf_load_mid (by rfl) _ _ rfl ob 1 rfl (bl lk 32) _ (fun _ h => h.2) Tryz.underlying23 rfl (szHl lk)) (by assumption) ?_
 try simp only [Act.put, zA, zB, zC]
 refine wpAnyH_ready (rs := [4]) (by kernel_rfl) (by simp) ?_
 refine (AllReadyH.cons (o := ⟨some 8, .alloc 23, 0, _, _, none⟩) rfl (fun K hK => ?_) AllReadyH.nil)
 refine step_allocP 23 (hv nz) run_allocH rfl rfl ?_
 intro lb z1 hk hl hb
 have HB1 : Hid (Below v3.heap.size v3 z1 ∧ v3.heap.size ≤ lb) := ⟨Below.transS HB0.out hb, by have := HB0.out.size; omega⟩
 refine hK.out _ _ (HX0.out.2 z1 HB1.out.1).2.2 (fun _ => ?_)
 clear hK K
 try simp only [Act.put, zA, zB, zC]
 refine wpAnyH_take (i := 5) (oi := ⟨some 7, .assign (.tmp 21), 3, _, _, none⟩) (v := ?_) rfl (by kernel_rfl) (by kernel_rfl) (by kernel_rfl) (fun _ _ _ h => h) (Or.inl ⟨by rfl, ?_⟩) (by assumption) ?_
 rotate_left
 ·intro wz hSw; (try dsimp only at hSw); go_simp; (try with_reducible rfl)
 try simp only [Act.put, zA, zB, zC]
 refine wpAnyH_ready (rs := [6]) (by kernel_rfl) (by simp) ?_
 refine (AllReadyH.cons (o := ⟨none, .store 23 (.tmp 8) (.tmp 23), 0, _, _, none⟩) rfl (fun K hK => ?_) AllReadyH.nil)
 refine step_storeG 23 hsz rfl _ _ rfl lb (by rfl) (hv lk) (hv nz) (hv_size _) (hv_size _) (hv_one _) 23 (by rfl) hk ?_
 intro v4 hg4 hf4
 have HB4 : Hid (Below v3.heap.size v3 v4 ∧ v4.heap[lb]? = some (.cells (hv lk) 23 (0, 0))) := ⟨HB1.out.1.trans (hf4.below HB1.out.1.size (by have := HB1.out.2; simp; omega)), hg4⟩
 clear hk hl hb hg4 hf4
 refine hK.out _ _ (HX0.out.2 v4 HB4.out.1).2.2 (fun _ => ?_)
 clear hK K
 try simp only [Act.put]
 refine wpAnyH_done (by kernel_rfl) (NoPanic.normal ?_) _
 try simp only [Act.put, zA, zB, zC]
 clear hHeld
 have HX : Hid (Below w.heap.size w v4 ∧ (∀ w' : World, Below v4.heap.size v4 w' → w'.rangeAt w.heap.size 0 (pml P) ∧ w'.rangeAt bs 0 (svv s p).toList ∧ w'.rangeAt lb 0 (bl lk 32))) := ⟨Below.transS HX0.out.1 HB4.out.1, fun w' hb => ⟨(HX0.out.2 w' (Below.transS HB4.out.1 hb)).1, (HX0.out.2 w' (Below.transS HB4.out.1 hb)).2.1, fun j v h1 => by
  rw [Nat.zero_add, cell_of_row _ _ j _ _ _ (heap_below hb HB4.out.2)]
  simpa [hv] using h1⟩⟩
 clear HX0 HB0 HB1 HB4
 have HS4 := hidV (HX.out.2 v4 (Below.refl _ _)).2.1
 go_wp2_with (first | (refine wpList_load_mid rfl 32 _ rfl bs 0 rfl (svv s p).toList _ HS4.out Tryz.underlying32 rfl szSr ?_) | fail)
 refine (long_any s p v4 (HH.out.1.at_.below HX.out.1) HH.out.1.pn HH.out.1.hn HH.out.1.ks).mono ?_
 rintro e v5 ⟨rfl, hb5⟩
 have HB5 := hidV hb5
 clear hb5 HS4
 by_cases hl : lngS s = true
 ·rw [hl]
  clear hl
  go_wp2_with fail
  refine (sure_any v5).mono ?_
  rintro e v6 ⟨rfl, hb6⟩
  have HE : Hid (Below w.heap.size w v6) := Below.transS (Below.transS HX.out.1 HB5.out) hb6
  clear hb6
  go_wp2
  go_ret
  exact ⟨rfl, HE.out⟩
 ·have hlf : lngS s = false := by simpa using hl
  have HSM := hidV (lngS_no hlf)
  rw [hlf]
  clear hl hlf
  have HS : Hid (∀ w' : World, Below v5.heap.size v5 w' → w'.rangeAt w.heap.size 0 (pml P) ∧ w'.rangeAt bs 0 (svv s p).toList ∧ w'.rangeAt lb 0 (bl lk 32)) := fun w' hb => HX.out.2 w' (Below.transS HB5.out hb)
  have HST : Hid (∀ w' : World, Below v5.heap.size v5 w' → SvAt w' s p) := fun w' hb => ((HH.out.1.at_.below HX.out.1).below HB5.out).below hb
  have HEW : Hid (∀ w' : World, Below v5.heap.size v5 w' → Below w.heap.size w w') := fun w' hb => Below.transS (Below.transS HX.out.1 HB5.out) hb
  clear HX HB5
  go_upto_region 4 with fail
  go_cut [9, 10] (fun a c wc => ∃ (ta tb : Nat) (p' : Pl), a = .pointer (some ⟨ta, 0, none⟩) ∧ c = .pointer (some ⟨tb, 0, none⟩) ∧ CmQ v5 wc P s ta tb p')
  case first =>
   refine wp_region_noPanic ?_
   refine wp_region_held_drew (S := fun w' => w'.rangeAt w.heap.size 0 (pml P) ∧ w'.rangeAt bs 0 (svv s p).toList ∧ w'.rangeAt lb 0 (bl lk 32)) (by kernel_rfl) (HS.out v5.drew (Below.refl _ _).drew) (fun hHeld => ?_)
   have M0 : Hid (CmW v5 v5.drew s none none none) := CmW.init v5 s
   generalize v5.drew = z0 at *
   refine wpAnyH_take (i := 0) (oi := ⟨some 27, .load 28 (.tmp 3), 28, _, _, none⟩) rfl (by kernel_rfl) (by kernel_rfl) (by kernel_rfl) (fun _ _ _ h => h) (yieldsIf_load_mid (by rfl) _ _ rfl w.heap.size 0 rfl (pml P) _ (fun _ h => h.1) Tryz.underlying28 rfl (szPmrl P)) (by assumption) ?_
   try simp only [Act.put, zA, zB, zC]
   refine wpAnyH_take (i := 2) (oi := ⟨some 29, .load 32 (.tmp 4), 32, _, _, none⟩) rfl (by kernel_rfl) (by kernel_rfl) (by kernel_rfl) (fun _ _ _ h => h) (yieldsIf_load_mid (by rfl) _ _ rfl bs 0 rfl (svv s p).toList _ (fun _ h => h.2.1) Tryz.underlying32 rfl szSr) (by assumption) ?_
   try simp only [Act.put, zA, zB, zC]
   refine wpAnyH_ready (rs := [1, 4, 5]) (by kernel_rfl) (by simp) ?_
   refine (AllReadyH.cons (o := ⟨some 28, .call { callee := Go.Callee.value (.func 9), args := #[.tmp 27], argTypes := #[28] }, 40, _, _, none⟩) rfl (fun K hK => ?_) (AllReadyH.cons (o := ⟨some 9, .alloc 40, 0, _, _, none⟩) rfl (fun K hK => ?_) (AllReadyH.cons (o := ⟨some 10, .alloc 45, 0, _, _, none⟩) rfl (fun K hK => ?_) AllReadyH.nil)))
   focus
    go_simp
    refine (giveParams_any P z0).mono ?_
    rintro e z1 ⟨rfl, hb⟩
    have M1 := hidV (M0.out.keep hb)
    clear hb M0
    refine hK.out _ _ (HS.out z1 M1.out.below) (fun _ => ?_)
    clear hK K
    try simp only [Act.put, zA, zB, zC]
    refine wpAnyH_ready (rs := [3, 4, 5]) (by kernel_rfl) (by simp) ?_
    refine (AllReadyH.cons (o := ⟨some 30, .call { callee := Go.Callee.value (.func 10), args := #[.tmp 29], argTypes := #[32] }, 45, _, _, none⟩) rfl (fun K hK => ?_) (AllReadyH.cons (o := ⟨some 9, .alloc 40, 0, _, _, none⟩) rfl (fun K hK => ?_) (AllReadyH.cons (o := ⟨some 10, .alloc 45, 0, _, _, none⟩) rfl (fun K hK => ?_) AllReadyH.nil)))
    focus
     go_simp
     refine (give_any s p z1 (HST.out z1 M1.out.below) HSM.out).mono ?_
     rintro e z2 ⟨⟨p', A, rfl, hO⟩, hb⟩
     have M2 := hidV (M1.out.give hO hb)
     clear hO hb M1
     refine hK.out _ _ (HS.out z2 M2.out.below) (fun _ => ?_)
     clear hK K
     try simp only [Act.put, zA, zB, zC]
     refine wpAnyH_ready (rs := [4, 5]) (by kernel_rfl) (by simp) ?_
     refine (AllReadyH.cons (o := ⟨some 9, .alloc 40, 0, _, _, none⟩) rfl (fun K hK => ?_) (AllReadyH.cons (o := ⟨some 10, .alloc 45, 0, _, _, none⟩) rfl (fun K hK => ?_) AllReadyH.nil))
     focus
      refine step_allocP 40 pmZ run_allocPmZ rfl rfl ?_
      intro ta z3 hk hl hb
      have M3 := hidV (M2.out.newA hk hl hb)
      clear hk hl hb M2
      refine hK.out _ _ (HS.out z3 M3.out.below) (fun _ => ?_)
      clear hK K
      try simp only [Act.put, zA, zB, zC]
      refine wpAnyH_ready (rs := [5]) (by kernel_rfl) (by simp) ?_
      refine (AllReadyH.cons (o := ⟨some 10, .alloc 45, 0, _, _, none⟩) rfl (fun K hK => ?_) AllReadyH.nil)
      refine step_allocP 45 svZ run_allocSvZ rfl rfl ?_
      intro tb z4 hk hl hb
      have M4 := hidV (M3.out.newB hk hl hb)
      clear hk hl hb M3
      refine hK.out _ _ (HS.out z4 M4.out.below) (fun _ => ?_)
      clear hK K
      try simp only [Act.put, zA, zB, zC]
      have HZ := hidV M4.out.fin
      clear M4
      refine wpAnyH_ready (rs := [6]) (by kernel_rfl) (by simp) ?_
      refine (AllReadyH.cons (o := ⟨none, .store 40 (.tmp 9) (.tmp 28), 0, _, _, none⟩) rfl (fun K hK => ?_) AllReadyH.nil)
      refine step_storeG 40 szPm rfl _ _ rfl ta (by rfl) (pmv P) pmZ (pmv_size _) (pmv_size _) (all_oneCell_toArray (pml_one _)) 40 (by rfl) HZ.out.pa.1 ?_
      intro z5 hg5 hf5
      have hb5 : Below v5.heap.size v5 z5 := HZ.out.below.trans (hf5.below HZ.out.below.size (by have := HZ.out.pa.2; simp; omega))
      refine hK.out _ _ (HS.out z5 hb5) (fun _ => ?_)
      clear hK K hb5
      try simp only [Act.put]
      refine wpAnyH_ready (rs := [7]) (by kernel_rfl) (by simp) ?_
      refine (AllReadyH.cons (o := ⟨none, .store 45 (.tmp 10) (.tmp 30), 0, _, _, none⟩) rfl (fun K hK => ?_) AllReadyH.nil)
      refine step_storeG 45 szS rfl _ _ rfl tb (by rfl) (svv s p') svZ rfl rfl (svv_one s p') 45 (by rfl) (hf5.heap HZ.out.pb.1 (by have := HZ.out.ne; simp; omega)) ?_
      intro z6 hg6 hf6
      have HQ6 := hidV (HZ.out.stored hg5 hf5 hg6 hf6)
      clear hg5 hf5 hg6 hf6 HZ
      refine hK.out _ _ (HS.out z6 HQ6.out.below) (fun _ => ?_)
      clear hK K
      try simp only [Act.put]
      refine wpAnyH_done (by kernel_rfl) (NoPanic.normal ?_) _
      try simp only [Act.put, zA, zB, zC]
      clear hHeld
      go_wp2
      go_meet
      case rel => exact ⟨ta, tb, p', rfl, rfl, HQ6.out⟩
     focus
      refine step_allocP 45 svZ run_allocSvZ rfl rfl ?_
      intro tb z3 hk hl hb
      have M3 := hidV (M2.out.newB hk hl hb)
      clear hk hl hb M2
      refine hK.out _ _ (HS.out z3 M3.out.below) (fun _ => ?_)
      clear hK K
      try simp only [Act.put, zA, zB, zC]
      refine wpAnyH_ready (rs := [4]) (by kernel_rfl) (by simp) ?_
      refine (AllReadyH.cons (o := ⟨some 9, .alloc 40, 0, _, _, none⟩) rfl (fun K hK => ?_) AllReadyH.nil)
      refine step_allocP 40 pmZ run_allocPmZ rfl rfl ?_
      intro ta z4 hk hl hb
      have M4 := hidV (M3.out.newA hk hl hb)
      clear hk hl hb M3
      refine hK.out _ _ (HS.out z4 M4.out.below) (fun _ => ?_)
      clear hK K
      try simp only [Act.put, zA, zB, zC]
      have HZ := hidV M4.out.fin
      clear M4
      refine wpAnyH_ready (rs := [6]) (by kernel_rfl) (by simp) ?_
      refine (AllReadyH.cons (o := ⟨none, .store 40 (.tmp 9) (.tmp 28), 0, _, _, none⟩) rfl (fun K hK => ?_) AllReadyH.nil)
      refine step_storeG 40 szPm rfl _ _ rfl ta (by rfl) (pmv P) pmZ (pmv_size _) (pmv_size _) (all_oneCell_toArray (pml_one _)) 40 (by rfl) HZ.out.pa.1 ?_
      intro z5 hg5 hf5
      have hb5 : Below v5.heap.size v5 z5 := HZ.out.below.trans (hf5.below HZ.out.below.size (by have := HZ.out.pa.2; simp; omega))
      refine hK.out _ _ (HS.out z5 hb5) (fun _ => ?_)
      clear hK K hb5
      try simp only [Act.put]
      refine wpAnyH_ready (rs := [7]) (by kernel_rfl) (by simp) ?_
      refine (AllReadyH.cons (o := ⟨none, .store 45 (.tmp 10) (.tmp 30), 0, _, _, none⟩) rfl (fun K hK => ?_) AllReadyH.nil)
      refine step_storeG 45 szS rfl _ _ rfl tb (by rfl) (svv s p') svZ rfl rfl (svv_one s p') 45 (by rfl) (hf5.heap HZ.out.pb.1 (by have := HZ.out.ne; simp; omega)) ?_
      intro z6 hg6 hf6
      have HQ6 := hidV (HZ.out.stored hg5 hf5 hg6 hf6)
      clear hg5 hf5 hg6 hf6 HZ
      refine hK.out _ _ (HS.out z6 HQ6.out.below) (fun _ => ?_)
      clear hK K
      try simp only [Act.put]
      refine wpAnyH_done (by kernel_rfl) (NoPanic.normal ?_) _
      try simp only [Act.put, zA, zB, zC]
      clear hHeld
      go_wp2
      go_meet
      case rel => exact ⟨ta, tb, p', rfl, rfl, HQ6.out⟩
    focus
     refine step_allocP 40 pmZ run_allocPmZ rfl rfl ?_
     intro ta z2 hk hl hb
     have M2 := hidV (M1.out.newA hk hl hb)
     clear hk hl hb M1
     refine hK.out _ _ (HS.out z2 M2.out.below) (fun _ => ?_)
     clear hK K
     try simp only [Act.put, zA, zB, zC]
     refine wpAnyH_ready (rs := [3, 5]) (by kernel_rfl) (by simp) ?_
     refine (AllReadyH.cons (o := ⟨some 30, .call { callee := Go.Callee.value (.func 10), args := #[.tmp 29], argTypes := #[32] }, 45, _, _, none⟩) rfl (fun K hK => ?_) (AllReadyH.cons (o := ⟨some 10, .alloc 45, 0, _, _, none⟩) rfl (fun K hK => ?_) AllReadyH.nil))
     focus
      go_simp
      refine (give_any s p z2 (HST.out z2 M2.out.below) HSM.out).mono ?_
      rintro e z3 ⟨⟨p', A, rfl, hO⟩, hb⟩
      have M3 := hidV (M2.out.give hO hb)
      clear hO hb M2
      refine hK.out _ _ (HS.out z3 M3.out.below) (fun _ => ?_)
      clear hK K
      try simp only [Act.put, zA, zB, zC]
      refine wpAnyH_ready (rs := [5]) (by kernel_rfl) (by simp) ?_
      refine (AllReadyH.cons (o := ⟨some 10, .alloc 45, 0, _, _, none⟩) rfl (fun K hK => ?_) AllReadyH.nil)
      refine step_allocP 45 svZ run_allocSvZ rfl rfl ?_
      intro tb z4 hk hl hb
      have M4 := hidV (M3.out.newB hk hl hb)
      clear hk hl hb M3
      refine hK.out _ _ (HS.out z4 M4.out.below) (fun _ => ?_)
      clear hK K
      try simp only [Act.put, zA, zB, zC]
      have HZ := hidV M4.out.fin
      clear M4
      refine wpAnyH_ready (rs := [6]) (by kernel_rfl) (by simp) ?_
      refine (AllReadyH.cons (o := ⟨none, .store 40 (.tmp 9) (.tmp 28), 0, _, _, none⟩) rfl (fun K hK => ?_) AllReadyH.nil)
      refine step_storeG 40 szPm rfl _ _ rfl ta (by rfl) (pmv P) pmZ (pmv_size _) (pmv_size _) (all_oneCell_toArray (pml_one _)) 40 (by rfl) HZ.out.pa.1 ?_
      intro z5 hg5 hf5
      have hb5 : Below v5.heap.size v5 z5 := HZ.out.below.trans (hf5.below HZ.out.below.size (by have := HZ.out.pa.2; simp; omega))
      refine hK.out _ _ (HS.out z5 hb5) (fun _ => ?_)
      clear hK K hb5
      try simp only [Act.put]
      refine wpAnyH_ready (rs := [7]) (by kernel_rfl) (by simp) ?_
      refine (AllReadyH.cons (o := ⟨none, .store 45 (.tmp 10) (.tmp 30), 0, _, _, none⟩) rfl (fun K hK => ?_) AllReadyH.nil)
      refine step_storeG 45 szS rfl _ _ rfl tb (by rfl) (svv s p') svZ rfl rfl (svv_one s p') 45 (by rfl) (hf5.heap HZ.out.pb.1 (by have := HZ.out.ne; simp; omega)) ?_
      intro z6 hg6 hf6
      have HQ6 := hidV (HZ.out.stored hg5 hf5 hg6 hf6)
      clear hg5 hf5 hg6 hf6 HZ
      refine hK.out _ _ (HS.out z6 HQ6.out.below) (fun _ => ?_)
      clear hK K
      try simp only [Act.put]
      refine wpAnyH_done (by kernel_rfl) (NoPanic.normal ?_) _
      try simp only [Act.put, zA, zB, zC]
      clear hHeld
      go_wp2
      go_meet
      case rel => exact ⟨ta, tb, p', rfl, rfl, HQ6.out⟩
     focus
      refine step_allocP 45 svZ run_allocSvZ rfl rfl ?_
      intro tb z3 hk hl hb
      have M3 := hidV (M2.out.newB hk hl hb)
      clear hk hl hb M2
      refine hK.out _ _ (HS.out z3 M3.out.below) (fun _ => ?_)
      clear hK K
      try simp only [Act.put, zA, zB, zC]
      refine wpAnyH_ready (rs := [3]) (by kernel_rfl) (by simp) ?_
      refine (AllReadyH.cons (o := ⟨some 30, .call { callee := Go.Callee.value (.func 10), args := #[.tmp 29], argTypes := #[32] }, 45, _, _, none⟩) rfl (fun K hK => ?_) AllReadyH.nil)
      go_simp
      refine (give_any s p z3 (HST.out z3 M3.out.below) HSM.out).mono ?_
      rintro e z4 ⟨⟨p', A, rfl, hO⟩, hb⟩
      have M4 := hidV (M3.out.give hO hb)
      clear hO hb M3
      refine hK.out _ _ (HS.out z4 M4.out.below) (fun _ => ?_)
      clear hK K
      try simp only [Act.put, zA, zB, zC]
      have HZ := hidV M4.out.fin
      clear M4
      refine wpAnyH_ready (rs := [6]) (by kernel_rfl) (by simp) ?_
      refine (AllReadyH.cons (o := ⟨none, .store 40 (.tmp 9) (.tmp 28), 0, _, _, none⟩) rfl (fun K hK => ?_) AllReadyH.nil)
      refine step_storeG 40 szPm rfl _ _ rfl ta (by rfl) (pmv P) pmZ (pmv_size _) (pmv_size _) (all_oneCell_toArray (pml_one _)) 40 (by rfl) HZ.out.pa.1 ?_
      intro z5 hg5 hf5
      have hb5 : Below v5.heap.size v5 z5 := HZ.out.below.trans (hf5.below HZ.out.below.size (by have := HZ.out.pa.2; simp; omega))
      refine hK.out _ _ (HS.out z5 hb5) (fun _ => ?_)
      clear hK K hb5
      try simp only [Act.put]
      refine wpAnyH_ready (rs := [7]) (by kernel_rfl) (by simp) ?_
      refine (AllReadyH.cons (o := ⟨none, .store 45 (.tmp 10) (.tmp 30), 0, _, _, none⟩) rfl (fun K hK => ?_) AllReadyH.nil)
      refine step_storeG 45 szS rfl _ _ rfl tb (by rfl) (svv s p') svZ rfl rfl (svv_one s p') 45 (by rfl) (hf5.heap HZ.out.pb.1 (by have := HZ.out.ne; simp; omega)) ?_
      intro z6 hg6 hf6
      have HQ6 := hidV (HZ.out.stored hg5 hf5 hg6 hf6)
      clear hg5 hf5 hg6 hf6 HZ
      refine hK.out _ _ (HS.out z6 HQ6.out.below) (fun _ => ?_)
      clear hK K
      try simp only [Act.put]
      refine wpAnyH_done (by kernel_rfl) (NoPanic.normal ?_) _
      try simp only [Act.put, zA, zB, zC]
      clear hHeld
      go_wp2
      go_meet
      case rel => exact ⟨ta, tb, p', rfl, rfl, HQ6.out⟩
    focus
     refine step_allocP 45 svZ run_allocSvZ rfl rfl ?_
     intro tb z2 hk hl hb
     have M2 := hidV (M1.out.newB hk hl hb)
     clear hk hl hb M1
     refine hK.out _ _ (HS.out z2 M2.out.below) (fun _ => ?_)
     clear hK K
     try simp only [Act.put, zA, zB, zC]
     refine wpAnyH_ready (rs := [3, 4]) (by kernel_rfl) (by simp) ?_
     refine (AllReadyH.cons (o := ⟨some 30, .call { callee := Go.Callee.value (.func 10), args := #[.tmp 29], argTypes := #[32] }, 45, _, _, none⟩) rfl (fun K hK => ?_) (AllReadyH.cons (o := ⟨some 9, .alloc 40, 0, _, _, none⟩) rfl (fun K hK => ?_) AllReadyH.nil))
     focus
      go_simp
      refine (give_any s p z2 (HST.out z2 M2.out.below) HSM.out).mono ?_
      rintro e z3 ⟨⟨p', A, rfl, hO⟩, hb⟩
      have M3 := hidV (M2.out.give hO hb)
      clear hO hb M2
      refine hK.out _ _ (HS.out z3 M3.out.below) (fun _ => ?_)
      clear hK K
      try simp only [Act.put, zA, zB, zC]
      refine wpAnyH_ready (rs := [4]) (by kernel_rfl) (by simp) ?_
      refine (AllReadyH.cons (o := ⟨some 9, .alloc 40, 0, _, _, none⟩) rfl (fun K hK => ?_) AllReadyH.nil)
      refine step_allocP 40 pmZ run_allocPmZ rfl rfl ?_
      intro ta z4 hk hl hb
      have M4 := hidV (M3.out.newA hk hl hb)
      clear hk hl hb M3
      refine hK.out _ _ (HS.out z4 M4.out.below) (fun _ => ?_)
      clear hK K
      try simp only [Act.put, zA, zB, zC]
      have HZ := hidV M4.out.fin
      clear M4
      refine wpAnyH_ready (rs := [6]) (by kernel_rfl) (by simp) ?_
      refine (AllReadyH.cons (o := ⟨none, .store 40 (.tmp 9) (.tmp 28), 0, _, _, none⟩) rfl (fun K hK => ?_) AllReadyH.nil)
      refine step_storeG 40 szPm rfl _ _ rfl ta (by rfl) (pmv P) pmZ (pmv_size _) (pmv_size _) (all_oneCell_toArray (pml_one _)) 40 (by rfl) HZ.out.pa.1 ?_
      intro z5 hg5 hf5
      have hb5 : Below v5.heap.size v5 z5 := HZ.out.below.trans (hf5.below HZ.out.below.size (by have := HZ.out.pa.2; simp; omega))
      refine hK.out _ _ (HS.out z5 hb5) (fun _ => ?_)
      clear hK K hb5
      try simp only [Act.put]
      refine wpAnyH_ready (rs := [7]) (by kernel_rfl) (by simp) ?_
      refine (AllReadyH.cons (o := ⟨none, .store 45 (.tmp 10) (.tmp 30), 0, _, _, none⟩) rfl (fun K hK => ?_) AllReadyH.nil)
      refine step_storeG 45 szS rfl _ _ rfl tb (by rfl) (svv s p') svZ rfl rfl (svv_one s p') 45 (by rfl) (hf5.heap HZ.out.pb.1 (by have := HZ.out.ne; simp; omega)) ?_
      intro z6 hg6 hf6
      have HQ6 := hidV (HZ.out.stored hg5 hf5 hg6 hf6)
      clear hg5 hf5 hg6 hf6 HZ
      refine hK.out _ _ (HS.out z6 HQ6.out.below) (fun _ => ?_)
      clear hK K
      try simp only [Act.put]
      refine wpAnyH_done (by kernel_rfl) (NoPanic.normal ?_) _
      try simp only [Act.put, zA, zB, zC]
      clear hHeld
      go_wp2
      go_meet
      case rel => exact ⟨ta, tb, p', rfl, rfl, HQ6.out⟩
     focus
      refine step_allocP 40 pmZ run_allocPmZ rfl rfl ?_
      intro ta z3 hk hl hb
      have M3 := hidV (M2.out.newA hk hl hb)
      clear hk hl hb M2
      refine hK.out _ _ (HS.out z3 M3.out.below) (fun _ => ?_)
      clear hK K
      try simp only [Act.put, zA, zB, zC]
      refine wpAnyH_ready (rs := [3]) (by kernel_rfl) (by simp) ?_
      refine (AllReadyH.cons (o := ⟨some 30, .call { callee := Go.Callee.value (.func 10), args := #[.tmp 29], argTypes := #[32] }, 45, _, _, none⟩) rfl (fun K hK => ?_) AllReadyH.nil)
      go_simp
      refine (give_any s p z3 (HST.out z3 M3.out.below) HSM.out).mono ?_
      rintro e z4 ⟨⟨p', A, rfl, hO⟩, hb⟩
      have M4 := hidV (M3.out.give hO hb)
      clear hO hb M3
      refine hK.out _ _ (HS.out z4 M4.out.below) (fun _ => ?_)
      clear hK K
      try simp only [Act.put, zA, zB, zC]
      have HZ := hidV M4.out.fin
      clear M4
      refine wpAnyH_ready (rs := [6]) (by kernel_rfl) (by simp) ?_
      refine (AllReadyH.cons (o := ⟨none, .store 40 (.tmp 9) (.tmp 28), 0, _, _, none⟩) rfl (fun K hK => ?_) AllReadyH.nil)
      refine step_storeG 40 szPm rfl _ _ rfl ta (by rfl) (pmv P) pmZ (pmv_size _) (pmv_size _) (all_oneCell_toArray (pml_one _)) 40 (by rfl) HZ.out.pa.1 ?_
      intro z5 hg5 hf5
      have hb5 : Below v5.heap.size v5 z5 := HZ.out.below.trans (hf5.below HZ.out.below.size (by have := HZ.out.pa.2; simp; omega))
      refine hK.out _ _ (HS.out z5 hb5) (fun _ => ?_)
      clear hK K hb5
      try simp only [Act.put]
      refine wpAnyH_ready (rs := [7]) (by kernel_rfl) (by simp) ?_
      refine (AllReadyH.cons (o := ⟨none, .store 45 (.tmp 10) (.tmp 30), 0, _, _, none⟩) rfl (fun K hK => ?_) AllReadyH.nil)
      refine step_storeG 45 szS rfl _ _ rfl tb (by rfl) (svv s p') svZ rfl rfl (svv_one s p') 45 (by rfl) (hf5.heap HZ.out.pb.1 (by have := HZ.out.ne; simp; omega)) ?_
      intro z6 hg6 hf6
      have HQ6 := hidV (HZ.out.stored hg5 hf5 hg6 hf6)
      clear hg5 hf5 hg6 hf6 HZ
      refine hK.out _ _ (HS.out z6 HQ6.out.below) (fun _ => ?_)
      clear hK K
      try simp only [Act.put]
      refine wpAnyH_done (by kernel_rfl) (NoPanic.normal ?_) _
      try simp only [Act.put, zA, zB, zC]
      clear hHeld
      go_wp2
      go_meet
      case rel => exact ⟨ta, tb, p', rfl, rfl, HQ6.out⟩
   focus
    refine step_allocP 40 pmZ run_allocPmZ rfl rfl ?_
    intro ta z1 hk hl hb
    have M1 := hidV (M0.out.newA hk hl hb)
    clear hk hl hb M0
    refine hK.out _ _ (HS.out z1 M1.out.below) (fun _ => ?_)
    clear hK K
    try simp only [Act.put, zA, zB, zC]
    refine wpAnyH_ready (rs := [1, 5]) (by kernel_rfl) (by simp) ?_
    refine (AllReadyH.cons (o := ⟨some 28, .call { callee := Go.Callee.value (.func 9), args := #[.tmp 27], argTypes := #[28] }, 40, _, _, none⟩) rfl (fun K hK => ?_) (AllReadyH.cons (o := ⟨some 10, .alloc 45, 0, _, _, none⟩) rfl (fun K hK => ?_) AllReadyH.nil))
    focus
     go_simp
     refine (giveParams_any P z1).mono ?_
     rintro e z2 ⟨rfl, hb⟩
     have M2 := hidV (M1.out.keep hb)
     clear hb M1
     refine hK.out _ _ (HS.out z2 M2.out.below) (fun _ => ?_)
     clear hK K
     try simp only [Act.put, zA, zB, zC]
     refine wpAnyH_ready (rs := [3, 5]) (by kernel_rfl) (by simp) ?_
     refine (AllReadyH.cons (o := ⟨some 30, .call { callee := Go.Callee.value (.func 10), args := #[.tmp 29], argTypes := #[32] }, 45, _, _, none⟩) rfl (fun K hK => ?_) (AllReadyH.cons (o := ⟨some 10, .alloc 45, 0, _, _, none⟩) rfl (fun K hK => ?_) AllReadyH.nil))
     focus
      go_simp
      refine (give_any s p z2 (HST.out z2 M2.out.below) HSM.out).mono ?_
      rintro e z3 ⟨⟨p', A, rfl, hO⟩, hb⟩
      have M3 := hidV (M2.out.give hO hb)
      clear hO hb M2
      refine hK.out _ _ (HS.out z3 M3.out.below) (fun _ => ?_)
      clear hK K
      try simp only [Act.put, zA, zB, zC]
      refine wpAnyH_ready (rs := [5]) (by kernel_rfl) (by simp) ?_
      refine (AllReadyH.cons (o := ⟨some 10, .alloc 45, 0, _, _, none⟩) rfl (fun K hK => ?_) AllReadyH.nil)
      refine step_allocP 45 svZ run_allocSvZ rfl rfl ?_
      intro tb z4 hk hl hb
      have M4 := hidV (M3.out.newB hk hl hb)
      clear hk hl hb M3
      refine hK.out _ _ (HS.out z4 M4.out.below) (fun _ => ?_)
      clear hK K
      try simp only [Act.put, zA, zB, zC]
      have HZ := hidV M4.out.fin
      clear M4
      refine wpAnyH_ready (rs := [6]) (by kernel_rfl) (by simp) ?_
      refine (AllReadyH.cons (o := ⟨none, .store 40 (.tmp 9) (.tmp 28), 0, _, _, none⟩) rfl (fun K hK => ?_) AllReadyH.nil)
      refine step_storeG 40 szPm rfl _ _ rfl ta (by rfl) (pmv P) pmZ (pmv_size _) (pmv_size _) (all_oneCell_toArray (pml_one _)) 40 (by rfl) HZ.out.pa.1 ?_
      intro z5 hg5 hf5
      have hb5 : Below v5.heap.size v5 z5 := HZ.out.below.trans (hf5.below HZ.out.below.size (by have := HZ.out.pa.2; simp; omega))
      refine hK.out _ _ (HS.out z5 hb5) (fun _ => ?_)
      clear hK K hb5
      try simp only [Act.put]
      refine wpAnyH_ready (rs := [7]) (by kernel_rfl) (by simp) ?_
      refine (AllReadyH.cons (o := ⟨none, .store 45 (.tmp 10) (.tmp 30), 0, _, _, none⟩) rfl (fun K hK => ?_) AllReadyH.nil)
      refine step_storeG 45 szS rfl _ _ rfl tb (by rfl) (svv s p') svZ rfl rfl (svv_one s p') 45 (by rfl) (hf5.heap HZ.out.pb.1 (by have := HZ.out.ne; simp; omega)) ?_
      intro z6 hg6 hf6
      have HQ6 := hidV (HZ.out.stored hg5 hf5 hg6 hf6)
      clear hg5 hf5 hg6 hf6 HZ
      refine hK.out _ _ (HS.out z6 HQ6.out.below) (fun _ => ?_)
      clear hK K
      try simp only [Act.put]
      refine wpAnyH_done (by kernel_rfl) (NoPanic.normal ?_) _
      try simp only [Act.put, zA, zB, zC]
      clear hHeld
      go_wp2
      go_meet
      case rel => exact ⟨ta, tb, p', rfl, rfl, HQ6.out⟩
     focus
      refine step_allocP 45 svZ run_allocSvZ rfl rfl ?_
      intro tb z3 hk hl hb
      have M3 := hidV (M2.out.newB hk hl hb)
      clear hk hl hb M2
      refine hK.out _ _ (HS.out z3 M3.out.below) (fun _ => ?_)
      clear hK K
      try simp only [Act.put, zA, zB, zC]
      refine wpAnyH_ready (rs := [3]) (by kernel_rfl) (by simp) ?_
      refine (AllReadyH.cons (o := ⟨some 30, .call { callee := Go.Callee.value (.func 10), args := #[.tmp 29], argTypes := #[32] }, 45, _, _, none⟩) rfl (fun K hK => ?_) AllReadyH.nil)
      go_simp
      refine (give_any s p z3 (HST.out z3 M3.out.below) HSM.out).mono ?_
      rintro e z4 ⟨⟨p', A, rfl, hO⟩, hb⟩
      have M4 := hidV (M3.out.give hO hb)
      clear hO hb M3
      refine hK.out _ _ (HS.out z4 M4.out.below) (fun _ => ?_)
      clear hK K
      try simp only [Act.put, zA, zB, zC]
      have HZ := hidV M4.out.fin
      clear M4
      refine wpAnyH_ready (rs := [6]) (by kernel_rfl) (by simp) ?_
      refine (AllReadyH.cons (o := ⟨none, .store 40 (.tmp 9) (.tmp 28), 0, _, _, none⟩) rfl (fun K hK => ?_) AllReadyH.nil)
      refine step_storeG 40 szPm rfl _ _ rfl ta (by rfl) (pmv P) pmZ (pmv_size _) (pmv_size _) (all_oneCell_toArray (pml_one _)) 40 (by rfl) HZ.out.pa.1 ?_
      intro z5 hg5 hf5
      have hb5 : Below v5.heap.size v5 z5 := HZ.out.below.trans (hf5.below HZ.out.below.size (by have := HZ.out.pa.2; simp; omega))
      refine hK.out _ _ (HS.out z5 hb5) (fun _ => ?_)
      clear hK K hb5
      try simp only [Act.put]
      refine wpAnyH_ready (rs := [7]) (by kernel_rfl) (by simp) ?_
      refine (AllReadyH.cons (o := ⟨none, .store 45 (.tmp 10) (.tmp 30), 0, _, _, none⟩) rfl (fun K hK => ?_) AllReadyH.nil)
      refine step_storeG 45 szS rfl _ _ rfl tb (by rfl) (svv s p') svZ rfl rfl (svv_one s p') 45 (by rfl) (hf5.heap HZ.out.pb.1 (by have := HZ.out.ne; simp; omega)) ?_
      intro z6 hg6 hf6
      have HQ6 := hidV (HZ.out.stored hg5 hf5 hg6 hf6)
      clear hg5 hf5 hg6 hf6 HZ
      refine hK.out _ _ (HS.out z6 HQ6.out.below) (fun _ => ?_)
      clear hK K
      try simp only [Act.put]
      refine wpAnyH_done (by kernel_rfl) (NoPanic.normal ?_) _
      try simp only [Act.put, zA, zB, zC]
      clear hHeld
      go_wp2
      go_meet
      case rel => exact ⟨ta, tb, p', rfl, rfl, HQ6.out⟩
    focus
     refine step_allocP 45 svZ run_allocSvZ rfl rfl ?_
     intro tb z2 hk hl hb
     have M2 := hidV (M1.out.newB hk hl hb)
     clear hk hl hb M1
     refine hK.out _ _ (HS.out z2 M2.out.below) (fun _ => ?_)
     clear hK K
     try simp only [Act.put, zA, zB, zC]
     refine wpAnyH_ready (rs := [1]) (by kernel_rfl) (by simp) ?_
     refine (AllReadyH.cons (o := ⟨some 28, .call { callee := Go.Callee.value (.func 9), args := #[.tmp 27], argTypes := #[28] }, 40, _, _, none⟩) rfl (fun K hK => ?_) AllReadyH.nil)
     go_simp
     refine (giveParams_any P z2).mono ?_
     rintro e z3 ⟨rfl, hb⟩
     have M3 := hidV (M2.out.keep hb)
     clear hb M2
     refine hK.out _ _ (HS.out z3 M3.out.below) (fun _ => ?_)
     clear hK K
     try simp only [Act.put, zA, zB, zC]
     refine wpAnyH_ready (rs := [3]) (by kernel_rfl) (by simp) ?_
     refine (AllReadyH.cons (o := ⟨some 30, .call { callee := Go.Callee.value (.func 10), args := #[.tmp 29], argTypes := #[32] }, 45, _, _, none⟩) rfl (fun K hK => ?_) AllReadyH.nil)
     go_simp
     refine (give_any s p z3 (HST.out z3 M3.out.below) HSM.out).mono ?_
     rintro e z4 ⟨⟨p', A, rfl, hO⟩, hb⟩
     have M4 := hidV (M3.out.give hO hb)
     clear hO hb M3
     refine hK.out _ _ (HS.out z4 M4.out.below) (fun _ => ?_)
     clear hK K
     try simp only [Act.put, zA, zB, zC]
     have HZ := hidV M4.out.fin
     clear M4
     refine wpAnyH_ready (rs := [6]) (by kernel_rfl) (by simp) ?_
     refine (AllReadyH.cons (o := ⟨none, .store 40 (.tmp 9) (.tmp 28), 0, _, _, none⟩) rfl (fun K hK => ?_) AllReadyH.nil)
     refine step_storeG 40 szPm rfl _ _ rfl ta (by rfl) (pmv P) pmZ (pmv_size _) (pmv_size _) (all_oneCell_toArray (pml_one _)) 40 (by rfl) HZ.out.pa.1 ?_
     intro z5 hg5 hf5
     have hb5 : Below v5.heap.size v5 z5 := HZ.out.below.trans (hf5.below HZ.out.below.size (by have := HZ.out.pa.2; simp; omega))
     refine hK.out _ _ (HS.out z5 hb5) (fun _ => ?_)
     clear hK K hb5
     try simp only [Act.put]
     refine wpAnyH_ready (rs := [7]) (by kernel_rfl) (by simp) ?_
     refine (AllReadyH.cons (o := ⟨none, .store 45 (.tmp 10) (.tmp 30), 0, _, _, none⟩) rfl (fun K hK => ?_) AllReadyH.nil)
     refine step_storeG 45 szS rfl _ _ rfl tb (by rfl) (svv s p') svZ rfl rfl (svv_one s p') 45 (by rfl) (hf5.heap HZ.out.pb.1 (by have := HZ.out.ne; simp; omega)) ?_
     intro z6 hg6 hf6
     have HQ6 := hidV (HZ.out.stored hg5 hf5 hg6 hf6)
     clear hg5 hf5 hg6 hf6 HZ
     refine hK.out _ _ (HS.out z6 HQ6.out.below) (fun _ => ?_)
     clear hK K
     try simp only [Act.put]
     refine wpAnyH_done (by kernel_rfl) (NoPanic.normal ?_) _
     try simp only [Act.put, zA, zB, zC]
     clear hHeld
     go_wp2
     go_meet
     case rel => exact ⟨ta, tb, p', rfl, rfl, HQ6.out⟩
   focus
    refine step_allocP 45 svZ run_allocSvZ rfl rfl ?_
    intro tb z1 hk hl hb
    have M1 := hidV (M0.out.newB hk hl hb)
    clear hk hl hb M0
    refine hK.out _ _ (HS.out z1 M1.out.below) (fun _ => ?_)
    clear hK K
    try simp only [Act.put, zA, zB, zC]
    refine wpAnyH_ready (rs := [1, 4]) (by kernel_rfl) (by simp) ?_
    refine (AllReadyH.cons (o := ⟨some 28, .call { callee := Go.Callee.value (.func 9), args := #[.tmp 27], argTypes := #[28] }, 40, _, _, none⟩) rfl (fun K hK => ?_) (AllReadyH.cons (o := ⟨some 9, .alloc 40, 0, _, _, none⟩) rfl (fun K hK => ?_) AllReadyH.nil))
    focus
     go_simp
     refine (giveParams_any P z1).mono ?_
     rintro e z2 ⟨rfl, hb⟩
     have M2 := hidV (M1.out.keep hb)
     clear hb M1
     refine hK.out _ _ (HS.out z2 M2.out.below) (fun _ => ?_)
     clear hK K
     try simp only [Act.put, zA, zB, zC]
     refine wpAnyH_ready (rs := [3, 4]) (by kernel_rfl) (by simp) ?_
     refine (AllReadyH.cons (o := ⟨some 30, .call { callee := Go.Callee.value (.func 10), args := #[.tmp 29], argTypes := #[32] }, 45, _, _, none⟩) rfl (fun K hK => ?_) (AllReadyH.cons (o := ⟨some 9, .alloc 40, 0, _, _, none⟩) rfl (fun K hK => ?_) AllReadyH.nil))
     focus
      go_simp
      refine (give_any s p z2 (HST.out z2 M2.out.below) HSM.out).mono ?_
      rintro e z3 ⟨⟨p', A, rfl, hO⟩, hb⟩
      have M3 := hidV (M2.out.give hO hb)
      clear hO hb M2
      refine hK.out _ _ (HS.out z3 M3.out.below) (fun _ => ?_)
      clear hK K
      try simp only [Act.put, zA, zB, zC]
      refine wpAnyH_ready (rs := [4]) (by kernel_rfl) (by simp) ?_
      refine (AllReadyH.cons (o := ⟨some 9, .alloc 40, 0, _, _, none⟩) rfl (fun K hK => ?_) AllReadyH.nil)
      refine step_allocP 40 pmZ run_allocPmZ rfl rfl ?_
      intro ta z4 hk hl hb
      have M4 := hidV (M3.out.newA hk hl hb)
      clear hk hl hb M3
      refine hK.out _ _ (HS.out z4 M4.out.below) (fun _ => ?_)
      clear hK K
      try simp only [Act.put, zA, zB, zC]
      have HZ := hidV M4.out.fin
      clear M4
      refine wpAnyH_ready (rs := [6]) (by kernel_rfl) (by simp) ?_
      refine (AllReadyH.cons (o := ⟨none, .store 40 (.tmp 9) (.tmp 28), 0, _, _, none⟩) rfl (fun K hK => ?_) AllReadyH.nil)
      refine step_storeG 40 szPm rfl _ _ rfl ta (by rfl) (pmv P) pmZ (pmv_size _) (pmv_size _) (all_oneCell_toArray (pml_one _)) 40 (by rfl) HZ.out.pa.1 ?_
      intro z5 hg5 hf5
      have hb5 : Below v5.heap.size v5 z5 := HZ.out.below.trans (hf5.below HZ.out.below.size (by have := HZ.out.pa.2; simp; omega))
      refine hK.out _ _ (HS.out z5 hb5) (fun _ => ?_)
      clear hK K hb5
      try simp only [Act.put]
      refine wpAnyH_ready (rs := [7]) (by kernel_rfl) (by simp) ?_
      refine (AllReadyH.cons (o := ⟨none, .store 45 (.tmp 10) (.tmp 30), 0, _, _, none⟩) rfl (fun K hK => ?_) AllReadyH.nil)
      refine step_storeG 45 szS rfl _ _ rfl tb (by rfl) (svv s p') svZ rfl rfl (svv_one s p') 45 (by rfl) (hf5.heap HZ.out.pb.1 (by have := HZ.out.ne; simp; omega)) ?_
      intro z6 hg6 hf6
      have HQ6 := hidV (HZ.out.stored hg5 hf5 hg6 hf6)
      clear hg5 hf5 hg6 hf6 HZ
      refine hK.out _ _ (HS.out z6 HQ6.out.below) (fun _ => ?_)
      clear hK K
      try simp only [Act.put]
      refine wpAnyH_done (by kernel_rfl) (NoPanic.normal ?_) _
      try simp only [Act.put, zA, zB, zC]
      clear hHeld
      go_wp2
      go_meet
      case rel => exact ⟨ta, tb, p', rfl, rfl, HQ6.out⟩
     focus
      refine step_allocP 40 pmZ run_allocPmZ rfl rfl ?_
      intro ta z3 hk hl hb
      have M3 := hidV (M2.out.newA hk hl hb)
      clear hk hl hb M2
      refine hK.out _ _ (HS.out z3 M3.out.below) (fun _ => ?_)
      clear hK K
      try simp only [Act.put, zA, zB, zC]
      refine wpAnyH_ready (rs := [3]) (by kernel_rfl) (by simp) ?_
      refine (AllReadyH.cons (o := ⟨some 30, .call { callee := Go.Callee.value (.func 10), args := #[.tmp 29], argTypes := #[32] }, 45, _, _, none⟩) rfl (fun K hK => ?_) AllReadyH.nil)
      go_simp
      refine (give_any s p z3 (HST.out z3 M3.out.below) HSM.out).mono ?_
      rintro e z4 ⟨⟨p', A, rfl, hO⟩, hb⟩
      have M4 := hidV (M3.out.give hO hb)
      clear hO hb M3
      refine hK.out _ _ (HS.out z4 M4.out.below) (fun _ => ?_)
      clear hK K
      try simp only [Act.put, zA, zB, zC]
      have HZ := hidV M4.out.fin
      clear M4
      refine wpAnyH_ready (rs := [6]) (by kernel_rfl) (by simp) ?_
      refine (AllReadyH.cons (o := ⟨none, .store 40 (.tmp 9) (.tmp 28), 0, _, _, none⟩) rfl (fun K hK => ?_) AllReadyH.nil)
      refine step_storeG 40 szPm rfl _ _ rfl ta (by rfl) (pmv P) pmZ (pmv_size _) (pmv_size _) (all_oneCell_toArray (pml_one _)) 40 (by rfl) HZ.out.pa.1 ?_
      intro z5 hg5 hf5
      have hb5 : Below v5.heap.size v5 z5 := HZ.out.below.trans (hf5.below HZ.out.below.size (by have := HZ.out.pa.2; simp; omega))
      refine hK.out _ _ (HS.out z5 hb5) (fun _ => ?_)
      clear hK K hb5
      try simp only [Act.put]
      refine wpAnyH_ready (rs := [7]) (by kernel_rfl) (by simp) ?_
      refine (AllReadyH.cons (o := ⟨none, .store 45 (.tmp 10) (.tmp 30), 0, _, _, none⟩) rfl (fun K hK => ?_) AllReadyH.nil)
      refine step_storeG 45 szS rfl _ _ rfl tb (by rfl) (svv s p') svZ rfl rfl (svv_one s p') 45 (by rfl) (hf5.heap HZ.out.pb.1 (by have := HZ.out.ne; simp; omega)) ?_
      intro z6 hg6 hf6
      have HQ6 := hidV (HZ.out.stored hg5 hf5 hg6 hf6)
      clear hg5 hf5 hg6 hf6 HZ
      refine hK.out _ _ (HS.out z6 HQ6.out.below) (fun _ => ?_)
      clear hK K
      try simp only [Act.put]
      refine wpAnyH_done (by kernel_rfl) (NoPanic.normal ?_) _
      try simp only [Act.put, zA, zB, zC]
      clear hHeld
      go_wp2
      go_meet
      case rel => exact ⟨ta, tb, p', rfl, rfl, HQ6.out⟩
    focus
     refine step_allocP 40 pmZ run_allocPmZ rfl rfl ?_
     intro ta z2 hk hl hb
     have M2 := hidV (M1.out.newA hk hl hb)
     clear hk hl hb M1
     refine hK.out _ _ (HS.out z2 M2.out.below) (fun _ => ?_)
     clear hK K
     try simp only [Act.put, zA, zB, zC]
     refine wpAnyH_ready (rs := [1]) (by kernel_rfl) (by simp) ?_
     refine (AllReadyH.cons (o := ⟨some 28, .call { callee := Go.Callee.value (.func 9), args := #[.tmp 27], argTypes := #[28] }, 40, _, _, none⟩) rfl (fun K hK => ?_) AllReadyH.nil)
     go_simp
     refine (giveParams_any P z2).mono ?_
     rintro e z3 ⟨rfl, hb⟩
     have M3 := hidV (M2.out.keep hb)
     clear hb M2
     refine hK.out _ _ (HS.out z3 M3.out.below) (fun _ => ?_)
     clear hK K
     try simp only [Act.put, zA, zB, zC]
     refine wpAnyH_ready (rs := [3]) (by kernel_rfl) (by simp) ?_
     refine (AllReadyH.cons (o := ⟨some 30, .call { callee := Go.Callee.value (.func 10), args := #[.tmp 29], argTypes := #[32] }, 45, _, _, none⟩) rfl (fun K hK => ?_) AllReadyH.nil)
     go_simp
     refine (give_any s p z3 (HST.out z3 M3.out.below) HSM.out).mono ?_
     rintro e z4 ⟨⟨p', A, rfl, hO⟩, hb⟩
     have M4 := hidV (M3.out.give hO hb)
     clear hO hb M3
     refine hK.out _ _ (HS.out z4 M4.out.below) (fun _ => ?_)
     clear hK K
     try simp only [Act.put, zA, zB, zC]
     have HZ := hidV M4.out.fin
     clear M4
     refine wpAnyH_ready (rs := [6]) (by kernel_rfl) (by simp) ?_
     refine (AllReadyH.cons (o := ⟨none, .store 40 (.tmp 9) (.tmp 28), 0, _, _, none⟩) rfl (fun K hK => ?_) AllReadyH.nil)
     refine step_storeG 40 szPm rfl _ _ rfl ta (by rfl) (pmv P) pmZ (pmv_size _) (pmv_size _) (all_oneCell_toArray (pml_one _)) 40 (by rfl) HZ.out.pa.1 ?_
     intro z5 hg5 hf5
     have hb5 : Below v5.heap.size v5 z5 := HZ.out.below.trans (hf5.below HZ.out.below.size (by have := HZ.out.pa.2; simp; omega))
     refine hK.out _ _ (HS.out z5 hb5) (fun _ => ?_)
     clear hK K hb5
     try simp only [Act.put]
     refine wpAnyH_ready (rs := [7]) (by kernel_rfl) (by simp) ?_
     refine (AllReadyH.cons (o := ⟨none, .store 45 (.tmp 10) (.tmp 30), 0, _, _, none⟩) rfl (fun K hK => ?_) AllReadyH.nil)
     refine step_storeG 45 szS rfl _ _ rfl tb (by rfl) (svv s p') svZ rfl rfl (svv_one s p') 45 (by rfl) (hf5.heap HZ.out.pb.1 (by have := HZ.out.ne; simp; omega)) ?_
     intro z6 hg6 hf6
     have HQ6 := hidV (HZ.out.stored hg5 hf5 hg6 hf6)
     clear hg5 hf5 hg6 hf6 HZ
     refine hK.out _ _ (HS.out z6 HQ6.out.below) (fun _ => ?_)
     clear hK K
     try simp only [Act.put]
     refine wpAnyH_done (by kernel_rfl) (NoPanic.normal ?_) _
     try simp only [Act.put, zA, zB, zC]
     clear hHeld
     go_wp2
     go_meet
     case rel => exact ⟨ta, tb, p', rfl, rfl, HQ6.out⟩
  case rest =>
   obtain ⟨ta, tb, p', rfl, rfl, hQ⟩ := hcut
   have HQ := hidV hQ
   clear hQ
   have HR : Hid (∀ w' : World, Below wc.heap.size wc w' → w'.rangeAt ta 0 (pml P) ∧ w'.rangeAt tb 0 (svv s p').toList ∧ w'.rangeAt w.heap.size 0 (pml P) ∧ w'.rangeAt bs 0 (svv s p).toList ∧ w'.rangeAt lb 0 (bl lk 32)) := fun w' hb => by
    have hq := HQ.out.keep hb
    exact ⟨pml_range hq.pa, sv_range hq.pb, HS.out w' hq.below⟩
   have HRS : Hid (∀ w' : World, Below wc.heap.size wc w' → SvAt w' s p' ∧ SvAt w' s p ∧ Below w.heap.size w w') := fun w' hb => by
    have hq := HQ.out.keep hb
    exact ⟨hq.sv, HST.out w' hq.below, HEW.out w' hq.below⟩
   clear HQ HS HST HEW
   have HP := hidV (HR.out wc (Below.refl _ _))
   go_wp2_with (first | (refine wpList_load_mid rfl 40 _ rfl ta 0 rfl (pml P) _ HP.out.1 Tryz.underlying40 rfl (szPml P) ?_) | (refine wpList_load_mid rfl 45 _ rfl tb 0 rfl (svv s p').toList _ HP.out.2.1 Tryz.underlying45 rfl szS ?_) | (refine wpList_loadHG (by rfl) _ rfl lb 0 rfl lk HP.out.2.2.2.2 ?_) | (refine wpList_load_mid rfl 28 _ rfl w.heap.size 0 rfl (pml P) _ HP.out.2.2.1 Tryz.underlying28 rfl (szPmrl P) ?_) | (refine wpList_load_mid rfl 32 _ rfl bs 0 rfl (svv s p).toList _ HP.out.2.2.2.1 Tryz.underlying32 rfl szSr ?_) | fail)
   refine (commit_any P s p' o lk wc (HRS.out wc (Below.refl _ _)).1 HSM.out HLK.out HPT.out).mono ?_
   intro e y1 hR
   have HY1 := hidV hR.below
   obtain ⟨ia, ic, oa, oc, rfl, hT⟩ := cmt_tx hR
   have HT1 := hidV hT
   clear hR hT HP
   go_wp2_with (first | (refine wpList_allocN 50 #[.int .i64 0, .slice none 0 0, .slice none 0 0] run_allocTx rfl rfl ?_; intro y2 N2) | (refine wpList_storeG 50 szTx rfl _ _ rfl y1.heap.size rfl (txv 0 ia (cmN P s o lk) ic oa (cmM P s o lk) oc) #[.int .i64 0, .slice none 0 0, .slice none 0 0] rfl rfl (txv_one _ _ _ _ _ _ _) 50 rfl N2.blk ?_; intro y3 hg3 hf3; have hb13 : Below y1.heap.size y1 y3 := N2.below.trans (hf3.below N2.below.size (fun k hk => by rw [List.mem_singleton.1 hk]; exact Nat.le_refl _)); have H3 := hidV (And.intro (Below.transS HY1.out hb13) (And.intro hg3 (HT1.out.below hb13))); have HP := hidV (HR.out y3 H3.out.1); clear hg3 hf3 hb13 N2 HT1) | (refine wpList_load_mid rfl 40 _ rfl ta 0 rfl (pml P) _ HP.out.1 Tryz.underlying40 rfl (szPml P) ?_) | (refine wpList_load_mid rfl 45 _ rfl tb 0 rfl (svv s p').toList _ HP.out.2.1 Tryz.underlying45 rfl szS ?_) | (refine wpList_loadHG (by rfl) _ rfl lb 0 rfl lk HP.out.2.2.2.2 ?_) | (refine wpList_load_mid rfl 28 _ rfl w.heap.size 0 rfl (pml P) _ HP.out.2.2.1 Tryz.underlying28 rfl (szPmrl P) ?_) | (refine wpList_load_mid rfl 32 _ rfl bs 0 rfl (svv s p).toList _ HP.out.2.2.2.1 Tryz.underlying32 rfl szSr ?_) | fail)
   refine (rcommit_any P s p o lk y3 (HRS.out y3 H3.out.1).2.1 HSM.out HLK.out HPT.out).mono ?_
   intro e y4 hR
   have HY4 := hidV (Below.transS H3.out.1 hR.below)
   have HT4 : Hid (y4.heap[y1.heap.size]? = some (.cells (txv 0 ia (cmN P s o lk) ic oa (cmM P s o lk) oc) 50 (0, 0)) ∧ CmAt y4 P s o lk ia oa) := ⟨heap_below hR.below H3.out.2.1, H3.out.2.2.below hR.below⟩
   obtain ⟨ja, jc, qa, qc, rfl, hT⟩ := rcmt_tx hR
   have HU4 := hidV hT
   clear hR hT HP H3
   go_wp2_with (first | (refine wpList_allocN 58 #[.int .i64 0, .slice none 0 0, .slice none 0 0] run_allocTxR rfl rfl ?_; intro y5 N5) | (refine wpList_storeG 58 szTxR rfl _ _ rfl y4.heap.size rfl (txv 0 ja (cmN P s o lk) jc qa (cmM P s o lk) qc) #[.int .i64 0, .slice none 0 0, .slice none 0 0] rfl rfl (txv_one _ _ _ _ _ _ _) 58 rfl N5.blk ?_; intro y6 hg6 hf6; have hb46 : Below y4.heap.size y4 y6 := N5.below.trans (hf6.below N5.below.size (fun k hk => by rw [List.mem_singleton.1 hk]; exact Nat.le_refl _)); have H6 := hidV (And.intro (Below.transS HY4.out hb46) (And.intro (heap_below hb46 HT4.out.1) (And.intro (HT4.out.2.below hb46) (And.intro hg6 (HU4.out.below hb46))))); have HP := hidV (HR.out y6 H6.out.1); clear hg6 hf6 hb46 N5 HT4 HU4) | (refine wpList_load_mid rfl 40 _ rfl ta 0 rfl (pml P) _ HP.out.1 Tryz.underlying40 rfl (szPml P) ?_) | (refine wpList_load_mid rfl 45 _ rfl tb 0 rfl (svv s p').toList _ HP.out.2.1 Tryz.underlying45 rfl szS ?_) | (refine wpList_loadHG (by rfl) _ rfl lb 0 rfl lk HP.out.2.2.2.2 ?_) | (refine wpList_load_mid rfl 28 _ rfl w.heap.size 0 rfl (pml P) _ HP.out.2.2.1 Tryz.underlying28 rfl (szPmrl P) ?_) | (refine wpList_load_mid rfl 32 _ rfl bs 0 rfl (svv s p).toList _ HP.out.2.2.2.1 Tryz.underlying32 rfl szSr ?_) | fail)
   refine (places_any P s p' o y6 (HRS.out y6 H6.out.1).1 HSM.out).mono ?_
   intro e y7 hR
   have HY7 := hidV (Below.transS H6.out.1 hR.below)
   have HB7 := hidV hR.below
   obtain ⟨ua, uc, rfl, hpl⟩ := plc_u hR
   have HPL7 := hidV hpl
   clear hR hpl HP
   have HP := hidV (HR.out y7 HY7.out)
   go_wp2_with (first | (refine wpList_load_mid rfl 40 _ rfl ta 0 rfl (pml P) _ HP.out.1 Tryz.underlying40 rfl (szPml P) ?_) | (refine wpList_load_mid rfl 45 _ rfl tb 0 rfl (svv s p').toList _ HP.out.2.1 Tryz.underlying45 rfl szS ?_) | (refine wpList_loadHG (by rfl) _ rfl lb 0 rfl lk HP.out.2.2.2.2 ?_) | (refine wpList_load_mid rfl 28 _ rfl w.heap.size 0 rfl (pml P) _ HP.out.2.2.1 Tryz.underlying28 rfl (szPmrl P) ?_) | (refine wpList_load_mid rfl 32 _ rfl bs 0 rfl (svv s p).toList _ HP.out.2.2.2.1 Tryz.underlying32 rfl szSr ?_) | fail)
   refine (rplaces_any P s p o y7 (HRS.out y7 HY7.out).2.1 HSM.out).mono ?_
   intro e y8 hR
   have HY8 := hidV (Below.transS HY7.out hR.below)
   have HB8 := hidV (Below.transS HB7.out hR.below)
   obtain ⟨va, vc, rfl, hpl⟩ := rplc_u hR
   have HPL8 := hidV (And.intro (HPL7.out.below hR.below) hpl)
   clear hR hpl HP HPL7 HB7 HY7
   have HIB := hidV (plZ_ib P s o)
   have hlen := plZ_len P s o HSM.out
   have HG8 := hidV (HH.out.2.below (HRS.out y8 HY8.out).2.2 HH.out.2.pos)
   generalize plZ P s o = zs at *
   generalize hoe : ownE P s o = oe at *
   clear hoe
   go_upto_region 9 with fail
   refine wp_region_noPanic ?_
   refine wp_region_held_drew (S := fun w' => w'.rangeAt ta 0 (pml P) ∧ w'.rangeAt tb 0 (svv s p').toList ∧ w'.rangeAt w.heap.size 0 (pml P) ∧ w'.rangeAt bs 0 (svv s p).toList ∧ w'.rangeAt lb 0 (bl lk 32)) (by kernel_rfl) (HR.out y8.drew (Below.transS HY8.out (Below.refl _ _).drew)) (fun hHeld => ?_)
   have HB9 : Hid (Below y8.heap.size y8 y8.drew) := (Below.refl _ _).drew
   generalize y8.drew = q0 at *
   refine wpAnyH_take (i := 0) (oi := ⟨some 61, .move (.tmp 15), 61, _, _, none⟩) (v := ?_) rfl (by kernel_rfl) (by kernel_rfl) (by kernel_rfl) (fun _ _ _ h => h) (Or.inl ⟨by rfl, ?_⟩) (by assumption) ?_
   rotate_left
   ·intro wz hSw; (try dsimp only at hSw); go_simp; (try with_reducible rfl)
   try simp only [Act.put, zA, zB, zC]
   refine wpAnyH_take (i := 1) (oi := ⟨some 62, .call { callee := Go.Callee.builtin Go.Builtin.len, args := #[.tmp 61], argTypes := #[61] }, 3, _, _, none⟩) (v := ?_) rfl (by kernel_rfl) (by kernel_rfl) (by kernel_rfl) (fun _ _ _ h => h) (Or.inl ⟨by rfl, ?_⟩) (by assumption) ?_
   rotate_left
   ·intro wz hSw; (try dsimp only at hSw); go_simp; (try with_reducible rfl)
   try simp only [Act.put, zA, zB, zC]
   refine wpAnyH_take (i := 2) (oi := ⟨some 63, .move (.tmp 17), 64, _, _, none⟩) (v := ?_) rfl (by kernel_rfl) (by kernel_rfl) (by kernel_rfl) (fun _ _ _ h => h) (Or.inl ⟨by rfl, ?_⟩) (by assumption) ?_
   rotate_left
   ·intro wz hSw; (try dsimp only at hSw); go_simp; (try with_reducible rfl)
   try simp only [Act.put, zA, zB, zC]
   refine wpAnyH_take (i := 3) (oi := ⟨some 64, .call { callee := Go.Callee.builtin Go.Builtin.len, args := #[.tmp 63], argTypes := #[64] }, 3, _, _, none⟩) (v := ?_) rfl (by kernel_rfl) (by kernel_rfl) (by kernel_rfl) (fun _ _ _ h => h) (Or.inl ⟨by rfl, ?_⟩) (by assumption) ?_
   rotate_left
   ·intro wz hSw; (try dsimp only at hSw); go_simp; (try with_reducible rfl)
   try simp only [Act.put, zA, zB, zC]
   refine wpAnyH_take (i := 4) (oi := ⟨some 65, .binOp .neq 3 (.tmp 62) (.tmp 64) 3, 4, _, _, none⟩) (v := .bool false) rfl (by kernel_rfl) (by kernel_rfl) (by kernel_rfl) (fun _ _ _ h => h) (Or.inl ⟨by rfl, ?_⟩) (by assumption) ?_
   ·intro wz hSw; (try dsimp only at hSw); go_simp; try simp
   try simp only [Act.put, zA, zB, zC]
   refine wpAnyH_take (i := 5) (oi := ⟨some 66, .move (.tmp 65), 4, _, _, none⟩) (v := ?_) rfl (by kernel_rfl) (by kernel_rfl) (by kernel_rfl) (fun _ _ _ h => h) (Or.inl ⟨by rfl, ?_⟩) (by assumption) ?_
   rotate_left
   ·intro wz hSw; (try dsimp only at hSw); go_simp; (try with_reducible rfl)
   try simp only [Act.put, zA, zB, zC]
   refine wpAnyH_take (i := 6) (oi := ⟨some 67, .move (.tmp 16), 52, _, _, some (5, false)⟩) (v := ?_) rfl (by kernel_rfl) (by kernel_rfl) (by kernel_rfl) (fun _ _ _ h => h) (Or.inl ⟨by rfl, ?_⟩) (by assumption) ?_
   rotate_left
   ·intro wz hSw; (try dsimp only at hSw); go_simp; (try with_reducible rfl)
   try simp only [Act.put, zA, zB, zC]
   refine wpAnyH_take (i := 8) (oi := ⟨some 69, .move (.tmp 18), 3, _, _, some (5, false)⟩) (v := ?_) rfl (by kernel_rfl) (by kernel_rfl) (by kernel_rfl) (fun _ _ _ h => h) (Or.inl ⟨by rfl, ?_⟩) (by assumption) ?_
   rotate_left
   ·intro wz hSw; (try dsimp only at hSw); go_simp; (try with_reducible rfl)
   try simp only [Act.put, zA, zB, zC]
   refine wpAnyH_ready (rs := [7]) (by kernel_rfl) (by simp) ?_
   refine (AllReadyH.cons (o := ⟨some 68, .call { callee := Go.Callee.value (.func 15), args := #[.tmp 67], argTypes := #[52] }, 3, _, _, some (5, false)⟩) rfl (fun K hK => ?_) AllReadyH.nil)
   go_simp
   refine (Cd.num_any oe q0 (HG8.out.below HB9.out HG8.out.pos)).mono ?_
   rintro e q1 ⟨rfl, hb⟩
   have HQ1 : Hid (Below y8.heap.size y8 q1) := Below.transS HB9.out hb
   clear hb
   refine hK.out _ _ (HR.out q1 (Below.transS HY8.out HQ1.out)) (fun _ => ?_)
   clear hK K
   try simp only [Act.put, zA, zB, zC]
   refine wpAnyH_take (i := 9) (oi := ⟨some 70, .binOp .neq 3 (.tmp 68) (.tmp 69) 3, 4, _, _, some (5, false)⟩) (v := .bool false) rfl (by kernel_rfl) (by kernel_rfl) (by kernel_rfl) (fun _ _ _ h => h) (Or.inl ⟨by rfl, ?_⟩) (by assumption) ?_
   ·intro wz hSw; (try dsimp only at hSw); go_simp; try simp
   try simp only [Act.put, zA, zB, zC]
   refine wpAnyH_take (i := 10) (oi := ⟨some 71, .pick (.tmp 66) (.const (.bool true)) (.tmp 70), 4, _, _, none⟩) (v := ?_) rfl (by kernel_rfl) (by kernel_rfl) (by kernel_rfl) (fun _ _ _ h => h) (Or.inl ⟨by rfl, ?_⟩) (by assumption) ?_
   rotate_left
   ·intro wz hSw; (try dsimp only at hSw); go_simp; (try with_reducible rfl)
   try simp only [Act.put, zA, zB, zC]
   refine wpAnyH_take (i := 11) (oi := ⟨some 72, .move (.tmp 71), 4, _, _, none⟩) (v := ?_) rfl (by kernel_rfl) (by kernel_rfl) (by kernel_rfl) (fun _ _ _ h => h) (Or.inl ⟨by rfl, ?_⟩) (by assumption) ?_
   rotate_left
   ·intro wz hSw; (try dsimp only at hSw); go_simp; (try with_reducible rfl)
   try simp only [Act.put, zA, zB, zC]
   refine wpAnyH_take (i := 12) (oi := ⟨some 73, .load 40 (.tmp 9), 40, _, _, some (11, false)⟩) rfl (by kernel_rfl) (by kernel_rfl) (by kernel_rfl) (fun _ _ _ h => h) (yieldsIf_load_mid (by rfl) _ _ rfl ta 0 rfl (pml P) _ (fun _ h => h.1) Tryz.underlying40 rfl (szPml P)) (by assumption) ?_
   try simp only [Act.put, zA, zB, zC]
   refine wpAnyH_take (i := 13) (oi := ⟨some 74, .load 45 (.tmp 10), 45, _, _, some (11, false)⟩) rfl (by kernel_rfl) (by kernel_rfl) (by kernel_rfl) (fun _ _ _ h => h) (yieldsIf_load_mid (by rfl) _ _ rfl tb 0 rfl (svv s p').toList _ (fun _ h => h.2.1) Tryz.underlying45 rfl szS) (by assumption) ?_
   try simp only [Act.put, zA, zB, zC]
   refine wpAnyH_take (i := 16) (oi := ⟨some 77, .load 28 (.tmp 3), 28, _, _, some (11, false)⟩) rfl (by kernel_rfl) (by kernel_rfl) (by kernel_rfl) (fun _ _ _ h => h) (yieldsIf_load_mid (by rfl) _ _ rfl w.heap.size 0 rfl (pml P) _ (fun _ h => h.2.2.1) Tryz.underlying28 rfl (szPmrl P)) (by assumption) ?_
   try simp only [Act.put, zA, zB, zC]
   refine wpAnyH_take (i := 17) (oi := ⟨some 78, .load 32 (.tmp 4), 32, _, _, some (11, false)⟩) rfl (by kernel_rfl) (by kernel_rfl) (by kernel_rfl) (fun _ _ _ h => h) (yieldsIf_load_mid (by rfl) _ _ rfl bs 0 rfl (svv s p).toList _ (fun _ h => h.2.2.2.1) Tryz.underlying32 rfl szSr) (by assumption) ?_
   try simp only [Act.put, zA, zB, zC]
   refine wpAnyH_ready (rs := [14]) (by kernel_rfl) (by simp) ?_
   refine (AllReadyH.cons (o := ⟨some 75, .call { callee := Go.Callee.value (.func 16), args := #[.tmp 73, .tmp 74], argTypes := #[40, 45] }, 52, _, _, some (11, false)⟩) rfl (fun K hK => ?_) AllReadyH.nil)
   go_simp
   refine (bcheck_any P s p' q1 (HRS.out q1 (Below.transS HY8.out HQ1.out)).1 HSM.out).mono ?_
   rintro e q2 ⟨rfl, hb⟩
   have HQ2 : Hid (Below y8.heap.size y8 q2) := Below.transS HQ1.out hb
   clear hb
   refine hK.out _ _ (HR.out q2 (Below.transS HY8.out HQ2.out)) (fun _ => ?_)
   clear hK K
   try simp only [Act.put, zA, zB, zC]
   refine wpAnyH_ready (rs := [15]) (by kernel_rfl) (by simp) ?_
   refine (AllReadyH.cons (o := ⟨some 76, .call { callee := Go.Callee.value (.func 15), args := #[.tmp 75], argTypes := #[52] }, 3, _, _, some (11, false)⟩) rfl (fun K hK => ?_) AllReadyH.nil)
   go_simp
   refine (Cd.num_any (bchkE P s) q2 (HG8.out.below HQ2.out HG8.out.pos)).mono ?_
   rintro e q3 ⟨rfl, hb⟩
   have HQ3 : Hid (Below y8.heap.size y8 q3) := Below.transS HQ2.out hb
   clear hb
   refine hK.out _ _ (HR.out q3 (Below.transS HY8.out HQ3.out)) (fun _ => ?_)
   clear hK K
   try simp only [Act.put, zA, zB, zC]
   refine wpAnyH_ready (rs := [18]) (by kernel_rfl) (by simp) ?_
   refine (AllReadyH.cons (o := ⟨some 79, .call { callee := Go.Callee.value (.func 17), args := #[.tmp 77, .tmp 78], argTypes := #[28, 32] }, 3, _, _, some (11, false)⟩) rfl (fun K hK => ?_) AllReadyH.nil)
   go_simp
   refine (rbcheck_any P s p q3 (HRS.out q3 (Below.transS HY8.out HQ3.out)).2.1 HSM.out).mono ?_
   rintro e q4 ⟨rfl, hb⟩
   have HQ4 : Hid (Below y8.heap.size y8 q4) := Below.transS HQ3.out hb
   clear hb
   refine hK.out _ _ (HR.out q4 (Below.transS HY8.out HQ4.out)) (fun _ => ?_)
   clear hK K
   try simp only [Act.put, zA, zB, zC]
   refine wpAnyH_take (i := 19) (oi := ⟨some 80, .binOp .neq 3 (.tmp 76) (.tmp 79) 3, 4, _, _, some (11, false)⟩) (v := .bool false) rfl (by kernel_rfl) (by kernel_rfl) (by kernel_rfl) (fun _ _ _ h => h) (Or.inl ⟨by rfl, ?_⟩) (by assumption) ?_
   ·intro wz hSw; (try dsimp only at hSw); go_simp; try simp
   try simp only [Act.put, zA, zB, zC]
   refine wpAnyH_take (i := 20) (oi := ⟨some 81, .pick (.tmp 72) (.const (.bool true)) (.tmp 80), 4, _, _, none⟩) (v := ?_) rfl (by kernel_rfl) (by kernel_rfl) (by kernel_rfl) (fun _ _ _ h => h) (Or.inl ⟨by rfl, ?_⟩) (by assumption) ?_
   rotate_left
   ·intro wz hSw; (try dsimp only at hSw); go_simp; (try with_reducible rfl)
   try simp only [Act.put, zA, zB, zC]
   refine wpAnyH_done (by kernel_rfl) (NoPanic.normal ?_) _
   try simp only [Act.put, zA, zB, zC]
   clear hHeld
   have HP11 : Hid (PlAt q4 ua zs ∧ PlAt q4 va zs) := ⟨HPL8.out.1.below HQ4.out, HPL8.out.2.below HQ4.out⟩
   have H11 : Hid (Below wc.heap.size wc q4 ∧ q4.heap[y1.heap.size]? = some (.cells (txv 0 ia (cmN P s o lk) ic oa (cmM P s o lk) oc) 50 (0, 0)) ∧ CmAt q4 P s o lk ia oa ∧ q4.heap[y4.heap.size]? = some (.cells (txv 0 ja (cmN P s o lk) jc qa (cmM P s o lk) qc) 58 (0, 0)) ∧ CmAt q4 P s o lk ja qa) := by
    have hb := Below.transS HB8.out HQ4.out
    exact ⟨Below.transS HY8.out HQ4.out, heap_below hb H6.out.2.1, H6.out.2.2.1.below hb, heap_below hb H6.out.2.2.2.1, H6.out.2.2.2.2.below hb⟩
   clear HPL8 H6 HB8 HQ1 HQ2 HQ3
   generalize y1.heap.size = g50 at *
   generalize y4.heap.size = g58 at *
   go_wp2
   go_loopw [6, 19] (fun _ iv wr => ∃ i : Nat, i ≤ zs.length ∧ iv = .int .i64 i ∧ Below q4.heap.size q4 wr) (fun _ iv _ => zs.length + 1 - (intOf iv).toNat)
   case atStart => exact ⟨0, by omega, rfl, Below.refl _ _⟩
   case round =>
    obtain ⟨i, hi, rfl, hb⟩ := hrel
    have HB := hidV hb
    clear hb
    by_cases hlt : i < zs.length
    ·have hlt' : (i : Int) < zs.length := by omega
     obtain ⟨ba, rfl, hra⟩ := HP11.out.1 (by omega)
     obtain ⟨bb, rfl, hrb⟩ := HP11.out.2 (by omega)
     have HW : Hid (wr.rangeAt ba (i * 2) (pL zs i) ∧ wr.rangeAt bb (i * 2) (pL zs i)) := ⟨range_below (hra i hlt) HB.out, range_below (hrb i hlt) HB.out⟩
     clear hra hrb
     go_wp2_with fail
     refine wp_region_noPanic ?_
     refine wp_region_held_drew (S := fun w' => w'.rangeAt ba (i * 2) (pL zs i) ∧ w'.rangeAt bb (i * 2) (pL zs i)) (by kernel_rfl) ⟨range_below HW.out.1 (Below.refl _ _).drew, range_below HW.out.2 (Below.refl _ _).drew⟩ (fun hHeld => ?_)
     have HBd : Hid (Below q4.heap.size q4 wr.drew) := Below.transS HB.out (Below.refl _ _).drew
     generalize wr.drew = wd at *
     refine wpAnyH_take (i := 0) (oi := ⟨some 88, .move (.tmp 15), 61, _, _, none⟩) (v := ?_) rfl (by kernel_rfl) (by kernel_rfl) (by kernel_rfl) (fun _ _ _ h => h) (Or.inl ⟨by rfl, ?_⟩) (by assumption) ?_
     rotate_left
     ·intro wz hSw; (try dsimp only at hSw); go_simp; (try with_reducible rfl)
     try simp only [Act.put, zA, zB, zC]
     refine wpAnyH_take (i := 1) (oi := ⟨some 89, .move (.tmp 19), 3, _, _, none⟩) (v := ?_) rfl (by kernel_rfl) (by kernel_rfl) (by kernel_rfl) (fun _ _ _ h => h) (Or.inl ⟨by rfl, ?_⟩) (by assumption) ?_
     rotate_left
     ·intro wz hSw; (try dsimp only at hSw); go_simp; (try with_reducible rfl)
     try simp only [Act.put, zA, zB, zC]
     refine wpAnyH_take (i := 2) (oi := ⟨some 90, .indexAddr 61 (.tmp 88) (.tmp 89), 0, _, _, none⟩) (v := ?_) rfl (by kernel_rfl) (by kernel_rfl) (by kernel_rfl) (fun _ _ _ h => h) (Or.inl ⟨by rfl, ?_⟩) (by assumption) ?_
     rotate_left
     ·intro wz hSw; (try dsimp only at hSw); go_simp; (try with_reducible rfl)
     try simp only [Act.put, zA, zB, zC]
     refine wpAnyH_take (i := 4) (oi := ⟨some 92, .move (.tmp 17), 64, _, _, none⟩) (v := ?_) rfl (by kernel_rfl) (by kernel_rfl) (by kernel_rfl) (fun _ _ _ h => h) (Or.inl ⟨by rfl, ?_⟩) (by assumption) ?_
     rotate_left
     ·intro wz hSw; (try dsimp only at hSw); go_simp; (try with_reducible rfl)
     try simp only [Act.put, zA, zB, zC]
     refine wpAnyH_take (i := 5) (oi := ⟨some 93, .move (.tmp 19), 3, _, _, none⟩) (v := ?_) rfl (by kernel_rfl) (by kernel_rfl) (by kernel_rfl) (fun _ _ _ h => h) (Or.inl ⟨by rfl, ?_⟩) (by assumption) ?_
     rotate_left
     ·intro wz hSw; (try dsimp only at hSw); go_simp; (try with_reducible rfl)
     try simp only [Act.put, zA, zB, zC]
     refine wpAnyH_take (i := 6) (oi := ⟨some 94, .indexAddr 64 (.tmp 92) (.tmp 93), 0, _, _, none⟩) (v := ?_) rfl (by kernel_rfl) (by kernel_rfl) (by kernel_rfl) (fun _ _ _ h => h) (Or.inl ⟨by rfl, ?_⟩) (by assumption) ?_
     rotate_left
     ·intro wz hSw; (try dsimp only at hSw); go_simp; (try with_reducible rfl)
     try simp only [Act.put, zA, zB, zC]
     refine wpAnyH_take (i := 3) (oi := ⟨some 91, .load 71 (.tmp 90), 71, _, _, none⟩) rfl (by kernel_rfl) (by kernel_rfl) (by kernel_rfl) (fun _ _ _ h => h) (yieldsIf_load_mid (by rfl) _ _ rfl ba (i * 2) rfl (pL zs i) _ (fun _ h => h.1) Tryz.underlying71 rfl (szPlS zs i)) (by assumption) ?_
     try simp only [Act.put, zA, zB, zC]
     refine wpAnyH_take (i := 7) (oi := ⟨some 95, .load 72 (.tmp 94), 72, _, _, none⟩) rfl (by kernel_rfl) (by kernel_rfl) (by kernel_rfl) (fun _ _ _ h => h) (yieldsIf_load_mid (by rfl) _ _ rfl bb (i * 2) rfl (pL zs i) _ (fun _ h => h.2) Tryz.underlying72 rfl (szPlR zs i)) (by assumption) ?_
     try simp only [Act.put, zA, zB, zC]
     refine wpAnyH_take (i := 8) (oi := ⟨some 96, .binOp .neq 71 (.tmp 91) (.tmp 95) 71, 4, _, _, none⟩) (v := .bool false) rfl (by kernel_rfl) (by kernel_rfl) (by kernel_rfl) (fun _ _ _ h => h) (Or.inl ⟨by rfl, ?_⟩) (by assumption) ?_
     ·intro wz hSw; (try dsimp only at hSw); exact exec_nePl _ _ rfl (getD_ib HIB.out i hlt).1 (getD_ib HIB.out i hlt).2 rfl rfl wz
     try simp only [Act.put, zA, zB, zC]
     refine wpAnyH_done (by kernel_rfl) (NoPanic.normal ?_) _
     try simp only [Act.put, zA, zB, zC]
     clear hHeld
     go_wp2
     go_roundw
     case rel => exact ⟨i + 1, by omega, by go_num, HBd.out⟩
     case measure => simp [intOf]; omega
    ·obtain rfl : i = zs.length := by omega
     have hnn : ¬ ((zs.length : Int) < zs.length) := by omega
     have H12 : Hid (wr.rangeAt g50 0 (txl 0 ia (cmN P s o lk) ic oa (cmM P s o lk) oc) ∧ wr.rangeAt g58 0 (txl 0 ja (cmN P s o lk) jc qa (cmM P s o lk) qc)) := ⟨txl_range (heap_below HB.out H11.out.2.1), txl_range (heap_below HB.out H11.out.2.2.2.1)⟩
     have HEr : Hid (Below w.heap.size w wr) := (HRS.out wr (Below.transS H11.out.1 HB.out)).2.2
     go_wp2_with (first | (refine wpList_load_mid rfl 50 _ rfl g50 0 rfl (txl 0 ia (cmN P s o lk) ic oa (cmM P s o lk) oc) _ H12.out.1 Tryz.underlying50 rfl szTx ?_) | (refine wpList_load_mid rfl 58 _ rfl g58 0 rfl (txl 0 ja (cmN P s o lk) jc qa (cmM P s o lk) qc) _ H12.out.2 Tryz.underlying58 rfl szTxR ?_) | fail)
     refine (same14_any (cmtE P s o lk) 0 (cmN P s o lk) (cmX P) (fun _ _ => 0) (cmM P s o lk) (cmO P s o lk) ia oa ic oc (fun _ => (none, 0)) ja qa jc qc (fun _ => (none, 0)) wr (HH.out.2.below HEr.out HH.out.2.pos) (H11.out.2.2.1.below HB.out) (H11.out.2.2.2.2.below HB.out) (cm_few P s o lk HSM.out)).mono ?_
     rintro e r1 ⟨rfl, hb9⟩
     have HE9 := hidV (Below.transS HEr.out hb9)
     clear hb9
     go_wp2_with fail
     refine (sure_any r1).mono ?_
     rintro e r2 ⟨rfl, hb10⟩
     have HE10 := hidV (Below.transS HE9.out hb10)
     clear hb10
     go_wp2
     go_ret
     exact ⟨rfl, HE10.out⟩
theorem lcommitsC_any (P : Pm) (s : Sv) (p : Pl) (o : Int) (lk : Nat → Int) (sa : Option Addr) (sn sc : Nat) (w : World) (hg : Cd.Glob w) (hz : Hb P.pt) (_hi : Ib P.n ∧ Ib P.am ∧ Ib P.k0 ∧ Ib P.k1 ∧ Ib P.dl ∧ Ib P.fe) (h : StIn w s p) (hl : Zb lk) (_ho : Ib o) :
  Calls Tryz.prog 3 #[.agg (pmv P), .agg (svv s p), .agg (owv o lk sa sn sc)] w fun e w' => e = .returned (.bool true) ∧ Below w.heap.size w w' := lcommits_any P s p o lk sa sn sc w hg h hz hl
end Go.Proofs.YtjnepkggdkccaaaGreatDoor
