/- The document's Places of layer 14. -/
import Derived.Test.YtjnepkggdkccaaaGreatDoorOwnShelf23
import Derived.Test.YtjnepkggdkccaaaGreatDoorOwnShelf26
import Derived.Test.YtjnepkggdkccaaaGreatDoorOwnShelf27
import Derived.Test.YtjnepkggdkccaaaGreatDoorOwnShelf15
import Derived.Test.YtjnepkggdkccaaaGreatDoorOwnShelf01
namespace Go.Proofs.YtjnepkggdkccaaaGreatDoor
open Go.RowKit

structure RPlR (P : Pm) (s : Sv) (o : Int) (w : World) (e : Ending) (w' : World) : Prop where
 bad : ownE P s o ≠ 0 → e = .returned (.tuple #[.slice none 0 0, .int .i64 (ownE P s o)])
 ok : ownE P s o = 0 → ∃ ua uc, e = .returned (.tuple #[.slice ua (outsZ (cm0 P o nz) s s.hn).length uc, .int .i64 0]) ∧ PlAt w' ua (outsZ (cm0 P o nz) s s.hn)
 below : Below w.heap.size w w'
theorem routs_any (P : Pm) (s : Sv) (p : Pl) (o : Int) (lk : Nat → Int) (w : World) (hc : CmOk (cm0 P o lk)) (h : SvAt w s p) (hs : SOk s) (hn : ∀ i, i < s.hn → (s.H i).n ≤ 300) :
  Calls Tryz.prog 29 #[.agg (pmv P), .agg (svv s p), .int .i64 o, .agg (hv lk)] w (OutsD w (outsO (cm0 P o lk) s s.hn).length (outsZ (cm0 P o lk) s s.hn).length (outsO (cm0 P o lk) s s.hn) (outsZ (cm0 P o lk) s s.hn) (keyS P (1 - o))) := by
 rcases hc.o with e | e
 ·have e : o = 0 := e
  subst e
  exact routs_0 P s p lk w hc h hs hn
 ·have e : o = 1 := e
  subst e
  exact routs_1 P s p lk w hc h hs hn
set_option maxRecDepth 100000 in
set_option maxHeartbeats 3200000 in
theorem rplaces_any (P : Pm) (s : Sv) (p : Pl) (o : Int) (w : World) (h : SvAt w s p) (hs : s.Small) :
  Calls Tryz.prog 14 #[.agg (pmv P), .agg (svv s p), .int .i64 o] w (RPlR P s o w) := by
 have HH : Hid (SvAt w s p ∧ s.Small) := ⟨h, hs⟩
 clear h hs
 go_enter Tryz.func14, Tryz.ntmps14
 go_upto_region 1 with (first | (refine wpList_boxN rfl _ _ rfl (pmv P) rfl ?_; intro v1 N1) | (refine wpList_boxN rfl _ _ rfl (svv s p) rfl ?_; intro v4 N2) | fail)
 have HX : Hid (Below w.heap.size w v4 ∧ (∀ w' : World, Below v4.heap.size v4 w' → w'.rangeAt w.heap.size 0 (pml P) ∧ w'.rangeAt v1.heap.size 0 (svv s p).toList)) :=
  ⟨Below.transS N1.below N2.below, fun w' hb => ⟨pml_range (heap_below hb (N2.old N1.blk)), sv_range (heap_below hb N2.blk)⟩⟩
 clear N1 N2
 generalize v1.heap.size = bs at *
 have HP4 := hidV (HX.out.2 v4 (Below.refl _ _)).1
 have HS4 := hidV (HX.out.2 v4 (Below.refl _ _)).2
 go_wp2_with (first | (refine wpList_load_mid rfl 28 _ rfl w.heap.size 0 rfl (pml P) _ HP4.out Tryz.underlying28 rfl (szPmrl P) ?_) | (refine wpList_load_mid rfl 32 _ rfl bs 0 rfl (svv s p).toList _ HS4.out Tryz.underlying32 rfl szSr ?_) | fail)
 refine (rbcheck_any P s p v4 (HH.out.1.below HX.out.1) HH.out.2).mono ?_
 rintro e v5 ⟨rfl, hb5⟩
 have HB5 := hidV hb5
 clear hb5 HP4 HS4
 by_cases h0 : bchkE P s = 0
 ·rw [h0]
  by_cases ho : 0 ≤ o ∧ o ≤ 1
  ·have h1 : ownE P s o = 0 := by unfold ownE; rw [if_neg (by simpa using h0), if_pos ho]
   have HC := hidV (cm0_ok h1 (lk := nz) nz_zb)
   have HSO := hidV (ownE_ok h1).1
   have HZ := hidV h1
   have HP5 := hidV (HX.out.2 v5 HB5.out).1
   have HS5 := hidV (HX.out.2 v5 HB5.out).2
   obtain ⟨o1, o2⟩ := id ho
   have n1 : ¬ o < 0 := by omega
   have n2 : ¬ 1 < o := by omega
   clear h0 h1 ho o1 o2
   go_wp2_with (first | (refine wpList_load_mid rfl 28 _ rfl w.heap.size 0 rfl (pml P) _ HP5.out Tryz.underlying28 rfl (szPmrl P) ?_) | (refine wpList_load_mid rfl 32 _ rfl bs 0 rfl (svv s p).toList _ HS5.out Tryz.underlying32 rfl szSr ?_) | (refine wpList_buildHG (by rfl) rfl ?_) | fail)
   refine (routs_any P s p o nz v5 HC.out ((HH.out.1.below HX.out.1).below HB5.out) HSO.out HH.out.2.k).mono ?_
   rintro e v6 ⟨va, vc, ua, uc, B, kx, A, I, rfl, hO, hkx, hb6⟩
   have HE : Hid (RPlR P s o w (.returned (.tuple #[.slice ua (outsZ (cm0 P o nz) s s.hn).length uc, .int .i64 0])) v6) := ⟨fun h => absurd HZ.out h, fun _ => ⟨ua, uc, rfl, plAt_own hO.pls⟩, Below.transS (Below.transS HX.out.1 HB5.out) hb6⟩
   clear hO hb6 hkx HP5 HS5
   go_wp2
   go_ret2
   exact HE.out
  ·have h1 : ownE P s o = 1 := by unfold ownE; rw [if_neg (by simpa using h0), if_neg ho]
   have HE : Hid (RPlR P s o w (.returned (.tuple #[.slice none 0 0, .int .i64 1])) v5) := ⟨fun _ => by rw [h1], fun h => by rw [h1] at h; simp at h, Below.transS HX.out.1 HB5.out⟩
   clear h0 h1
   by_cases o1 : o < 0
   ·clear ho
    go_wp2
    go_ret2
    exact HE.out
   ·have o2 : 1 < o := by omega
    clear ho
    go_wp2
    go_ret2
    exact HE.out
 ·have h1 : ownE P s o = bchkE P s := if_pos h0
  have HE : Hid (RPlR P s o w (.returned (.tuple #[.slice none 0 0, .int .i64 (bchkE P s)])) v5) := ⟨fun _ => by rw [h1], fun h => by rw [h1] at h; exact absurd h h0, Below.transS HX.out.1 HB5.out⟩
  have e1 : (bchkE P s == 0) = false := by simpa using h0
  clear h1
  generalize bchkE P s = ec at *
  clear h0
  go_wp2
  go_ret2
  exact HE.out
end Go.Proofs.YtjnepkggdkccaaaGreatDoor
/- Places held against each other. -/
namespace Go.Proofs.YtjnepkggdkccaaaGreatDoor
open Go.RowKit

theorem ktPl : Tryz.prog.keyTypeAt 3 71 = true := by kernel_rfl
theorem cellsPl : Tryz.prog.cellsOf 71 = 2 := by kernel_rfl
theorem formedPl (a b : Int) : (Value.agg #[.int .i64 a, .int .i64 b]).formed Tryz.prog 71 = true := by
 simp only [Value.formed, Tryz.underlying71]
 simp [cellsPl]
theorem lits_pl (d : Nat) {a b : Int} (ha : Ib a) (hb : Ib b) : Tryz.prog.keyLits (d + 3) 71 [.int .i64 a, .int .i64 b] = some [Lit.int .i64 a, Lit.int .i64 b] := by
 unfold Program.keyLits
 rw [Tryz.underlying71]
 simp [cellsI, cellsPl, Kp.lits_int (d + 1) ha, Kp.lits_int (d + 1) hb]
set_option maxRecDepth 20000 in
theorem eqPl {a b : Int} (ha : Ib a) (hb : Ib b) (w : World) : (Op.equalIn (9998 + 2) 71 (.agg #[.int .i64 a, .int .i64 b]) (.agg #[.int .i64 a, .int .i64 b])).run Tryz.prog w = .ok true w := by
 obtain ⟨r, h1, h2⟩ := run_equalIn_deep (P := Tryz.prog) 9997 3 71 ktPl w 3 3 (.agg #[.int .i64 a, .int .i64 b]) (.agg #[.int .i64 a, .int .i64 b]) _ _ (formedPl a b) (formedPl a b) (by simpa [Value.cells] using lits_pl 0 ha hb) (by simpa [Value.cells] using lits_pl 0 ha hb)
 rw [show (9998 + 2 : Nat) = 9997 + 3 from rfl, h1]
 congr 1
 exact h2.2 rfl
set_option maxRecDepth 20000 in
theorem eqPl2 {a b : Int} (ha : Ib a) (hb : Ib b) (w : World) : (binOp .eql 71 (.agg #[.int .i64 a, .int .i64 b]) (.agg #[.int .i64 a, .int .i64 b])).run Tryz.prog w = .ok (.bool true) w := by
 rw [run_eql_struct, eqPl ha hb]
 rfl
theorem nePl {a b : Int} (ha : Ib a) (hb : Ib b) (w : World) : (binOp .neq 71 (.agg #[.int .i64 a, .int .i64 b]) (.agg #[.int .i64 a, .int .i64 b])).run Tryz.prog w = .ok (.bool false) w := by
 have e0 := eqPl2 ha hb w
 simp only [binOp, Sem.run_bind] at e0 ⊢
 revert e0
 cases hh : Sem.run Tryz.prog (Op.equal 71 (.agg #[.int .i64 a, .int .i64 b]) (.agg #[.int .i64 a, .int .i64 b])) w with
 | ok b w2 =>
  simp [Result.andThen]
 | halt hx w2 => simp [Result.andThen]
end Go.Proofs.YtjnepkggdkccaaaGreatDoor
/- What build's laws share of places: both sides' answers in one form. -/
namespace Go.Proofs.YtjnepkggdkccaaaGreatDoor
open Go.RowKit

/-- Places' numbers are numbers. -/
theorem outsZ_ib {P : Pm} {o : Int} {s : Sv} (hs : SOk s) : ∀ x ∈ outsZ (cm0 P o nz) s s.hn, Ib x.1 ∧ Ib x.2 := by
 intro x hx
 simp only [outsZ, paysZ, sideZ, ifL, List.mem_append, List.mem_map, List.mem_range] at hx
 rcases hx with ((hx | hx) | ⟨i, hi, rfl⟩) | ⟨i, hi, rfl⟩
 ·split at hx
  ·obtain rfl := by simpa using hx
   constructor <;> simp [Ib]
  ·simp at hx
 ·split at hx
  ·obtain rfl := by simpa using hx
   constructor <;> simp [Ib]
  ·simp at hx
 ·have h0 : ∀ j, j < s.pn → -1 < (s.P j).id := fun j => by
   induction j with
   | zero => intro hj; have := (hs.2.1.2.1 0 hj).1; simpa [lastP] using this
   | succ j ih => intro hj; have h5 := (hs.2.1.2.1 (j + 1) hj).1; have h6 := ih (by omega); rw [lastP_succ] at h5; omega
  have h1 := (hs.2.1.2.1 i hi).2.1
  have h2 := h0 i hi
  constructor
  ·simp [Ib]
  ·unfold Ib; simp only; omega
 ·have h0 : ∀ j, j < s.hn → -1 < (s.H j).id := fun j => by
   induction j with
   | zero => intro hj; have := (hs.2.1.2.2 0 hj).1; simpa [lastH] using this
   | succ j ih => intro hj; have h5 := (hs.2.1.2.2 (j + 1) hj).1; have h6 := ih (by omega); rw [lastH_succ] at h5; omega
  have h1 := (hs.2.1.2.2 i hi).2.1
  have h2 := h0 i hi
  constructor
  ·simp [Ib]
  ·unfold Ib; simp only; omega
/-- What is loaded of a place. -/
theorem szPlS (zs : List (Int × Int)) (i : Nat) : (Tryz.prog.info? 71).map (·.size) = some (pL zs i).length := by
 show _ = some 2
 kernel_rfl
theorem szPlR (zs : List (Int × Int)) (i : Nat) : (Tryz.prog.info? 72).map (·.size) = some (pL zs i).length := by
 show _ = some 2
 kernel_rfl
theorem guardPl : Tryz.prog.eqGuardType Tryz.prog.depth 71 = false := by kernel_rfl
theorem exec_nePl {a : Act} {o : Oper} (x y : Operand) (ho : o.op = .binOp .neq 71 x y 71) {p q : Int} (hp : Ib p) (hq : Ib q) (hx : a.eval x = .agg #[.int .i64 p, .int .i64 q]) (hy : a.eval y = .agg #[.int .i64 p, .int .i64 q]) (w : World) :
  (execOp a.eval o).run Tryz.prog w = .ok (.value (.bool false)) w := by
 have e1 := nePl hp hq w
 unfold execOp
 simp only [ho, hx, hy, Sem.run_bind, run_eqGuard_agg w .neq 71 x y _ _ guardPl, e1, Result.andThen_ok, Sem.run_pure]
theorem getD_ib {zs : List (Int × Int)} (h : ∀ x ∈ zs, Ib x.1 ∧ Ib x.2) (i : Nat) (hi : i < zs.length) : Ib (zs.getD i (0, 0)).1 ∧ Ib (zs.getD i (0, 0)).2 := by
 have e : zs.getD i (0, 0) = zs[i] := by simp [List.getD, List.getElem?_eq_getElem hi]
 rw [e]
 exact h _ (List.getElem_mem hi)
/-- Both sides' places, none where there is an error. -/
def plZ (P : Pm) (s : Sv) (o : Int) : List (Int × Int) := if ownE P s o = 0 then outsZ (cm0 P o nz) s s.hn else []
theorem plc_u {P : Pm} {s : Sv} {o : Int} {w w' : World} {e : Ending} (h : PlcR P s o w e w') : ∃ ua uc, e = .returned (.tuple #[.slice ua (plZ P s o).length uc, errV (ownE P s o)]) ∧ PlAt w' ua (plZ P s o) := by
 by_cases h0 : ownE P s o = 0
 ·obtain ⟨ua, uc, rfl, hp⟩ := h.ok h0
  exact ⟨ua, uc, by rw [show plZ P s o = outsZ (cm0 P o nz) s s.hn from if_pos h0, h0]; rfl, by rw [show plZ P s o = outsZ (cm0 P o nz) s s.hn from if_pos h0]; exact hp⟩
 ·exact ⟨none, 0, by rw [show plZ P s o = [] from if_neg h0]; exact h.bad h0, by rw [show plZ P s o = [] from if_neg h0]; exact fun hn => by simp at hn⟩
theorem rplc_u {P : Pm} {s : Sv} {o : Int} {w w' : World} {e : Ending} (h : RPlR P s o w e w') : ∃ ua uc, e = .returned (.tuple #[.slice ua (plZ P s o).length uc, .int .i64 (ownE P s o)]) ∧ PlAt w' ua (plZ P s o) := by
 by_cases h0 : ownE P s o = 0
 ·obtain ⟨ua, uc, rfl, hp⟩ := h.ok h0
  exact ⟨ua, uc, by rw [show plZ P s o = outsZ (cm0 P o nz) s s.hn from if_pos h0, h0], by rw [show plZ P s o = outsZ (cm0 P o nz) s s.hn from if_pos h0]; exact hp⟩
 ·exact ⟨none, 0, by rw [show plZ P s o = [] from if_neg h0]; exact h.bad h0, by rw [show plZ P s o = [] from if_neg h0]; exact fun hn => by simp at hn⟩
theorem plZ_ib (P : Pm) (s : Sv) (o : Int) : ∀ x ∈ plZ P s o, Ib x.1 ∧ Ib x.2 := by
 by_cases h0 : ownE P s o = 0
 ·rw [show plZ P s o = outsZ (cm0 P o nz) s s.hn from if_pos h0]
  exact outsZ_ib (ownE_ok h0).1
 ·rw [show plZ P s o = [] from if_neg h0]
  exact fun x hx => by simp at hx
theorem plZ_len (P : Pm) (s : Sv) (o : Int) (hs : s.Small) : (plZ P s o).length ≤ 1000 := by
 have h1 := (outsO_len (cm0 P o nz) s s.hn).2
 have h2 := hs.n
 unfold plZ
 split
 ·omega
 ·simp
end Go.Proofs.YtjnepkggdkccaaaGreatDoor
