/- build.Commit's answer on both sides, as one transaction that lies. -/
import Derived.Test.YtjnepkggdkccaaaGreatDoorOwnShelf39
namespace Go.Proofs.YtjnepkggdkccaaaGreatDoor
open Go.RowKit

def cmN (P : Pm) (s : Sv) (o : Int) (lk : Nat → Int) : Nat := if cmtE P s o lk = 0 then 1 else 0
def cmM (P : Pm) (s : Sv) (o : Int) (lk : Nat → Int) : Nat := if cmtE P s o lk = 0 then (outsO (cm0 P o lk) s s.hn).length else 0
def cmX (P : Pm) : Nat → Ti := tF (fun _ => (P.pt, P.n))
def cmO (P : Pm) (s : Sv) (o : Int) (lk : Nat → Int) : Nat → To := oF (outsO (cm0 P o lk) s s.hn)
/-- What Commit answers lies in w. -/
def CmAt (w : World) (P : Pm) (s : Sv) (o : Int) (lk : Nat → Int) (ia oa : Option Addr) : Prop := TxAt w 0 (cmN P s o lk) (cmX P) (fun _ _ => 0) (cmM P s o lk) (cmO P s o lk) ia oa (fun _ => (none, 0))
theorem CmAt.below {w w' : World} {P : Pm} {s : Sv} {o : Int} {lk : Nat → Int} {ia oa : Option Addr} (h : CmAt w P s o lk ia oa) (hb : Below w.heap.size w w') : CmAt w' P s o lk ia oa := TxAt.below h hb
theorem cmAt_mk {w : World} {P : Pm} {s : Sv} {o : Int} {lk : Nat → Int} {ia oa : Option Addr} (h0 : cmtE P s o lk = 0) (h1 : TiAt w ia 1 (tF (fun _ => (P.pt, P.n))) (fun _ => (none, 0))) (h2 : ToAt w oa (outsO (cm0 P o lk) s s.hn).length (oF (outsO (cm0 P o lk) s s.hn))) : CmAt w P s o lk ia oa := by
 have hn : cmN P s o lk = 1 := if_pos h0
 have hm : cmM P s o lk = (outsO (cm0 P o lk) s s.hn).length := if_pos h0
 unfold CmAt
 rw [hn, hm]
 exact ⟨h1, h2, fun i _ => ⟨SlAt.zero _ _, Nat.zero_le _⟩⟩
theorem cmAt_no {w : World} {P : Pm} {s : Sv} {o : Int} {lk : Nat → Int} (h0 : cmtE P s o lk ≠ 0) : CmAt w P s o lk none none := by
 have hn : cmN P s o lk = 0 := if_neg h0
 have hm : cmM P s o lk = 0 := if_neg h0
 unfold CmAt
 rw [hn, hm]
 exact ⟨TiAt.nil _ _ _ _, ToAt.nil _ _ _, fun i hi => by omega⟩
theorem cmt_tx {P : Pm} {s : Sv} {o : Int} {lk : Nat → Int} {w w' : World} {e : Ending} (h : CmtR P s o lk w e w') : ∃ ia ic oa oc, e = .returned (.tuple #[.agg (txv 0 ia (cmN P s o lk) ic oa (cmM P s o lk) oc), errV (cmtE P s o lk)]) ∧ CmAt w' P s o lk ia oa := by
 by_cases h0 : cmtE P s o lk = 0
 ·obtain ⟨ia, ic, oa, oc, rfl, hT⟩ := h.ok h0
  exact ⟨ia, ic, oa, oc, by rw [show cmN P s o lk = 1 from if_pos h0, show cmM P s o lk = (outsO (cm0 P o lk) s s.hn).length from if_pos h0, h0]; rfl, cmAt_mk h0 hT.tin hT.tout⟩
 ·exact ⟨none, 0, none, 0, by rw [show cmN P s o lk = 0 from if_neg h0, show cmM P s o lk = 0 from if_neg h0]; exact h.bad h0, cmAt_no h0⟩
theorem rcmt_tx {P : Pm} {s : Sv} {o : Int} {lk : Nat → Int} {w w' : World} {e : Ending} (h : RCmP P s o lk w e w') : ∃ ia ic oa oc, e = .returned (.tuple #[.agg (txv 0 ia (cmN P s o lk) ic oa (cmM P s o lk) oc), .int .i64 (cmtE P s o lk)]) ∧ CmAt w' P s o lk ia oa := by
 by_cases h0 : cmtE P s o lk = 0
 ·obtain ⟨ia, ic, oa, oc, rfl, h1, h2⟩ := h.ok h0
  exact ⟨ia, ic, oa, oc, by rw [show cmN P s o lk = 1 from if_pos h0, show cmM P s o lk = (outsO (cm0 P o lk) s s.hn).length from if_pos h0, h0], cmAt_mk h0 h1 h2⟩
 ·exact ⟨none, 0, none, 0, by rw [show cmN P s o lk = 0 from if_neg h0, show cmM P s o lk = 0 from if_neg h0]; exact h.bad h0, cmAt_no h0⟩
theorem insK_pos (L : List Int) (k : Int) (h : 0 < L.length ∨ L.contains k = false) : 0 < (Cd.insK L k).length := by
 unfold Cd.insK
 split
 ·rcases h with h | h
  ·exact h
  ·simp_all
 ·simp; omega
theorem insL_pos (z : Nat → Int) : ∀ n, 0 < n → 0 < (Cd.insL z n).length
 | 0, h => by omega
 | 1, _ => by simp only [Cd.insL]; exact insK_pos [] _ (.inr rfl)
 | n + 2, _ => by
  have := insL_pos z (n + 1) (by omega)
  rw [Cd.insL]
  exact insK_pos _ _ (.inl this)
/-- The outputs of a commitment have branches, and these keys. -/
theorem outsO_keyed {c : Cm} {s : Sv} (hs : SOk s) : ∀ x ∈ outsO c s s.hn, (0 < x.cn ∧ x.cn ≤ 3) ∧ ∀ j, j < x.cn → 0 < (x.X j).n := by
 intro x hm
 simp only [outsO, paysO, sideO, ifL, List.mem_append, List.mem_map, List.mem_range] at hm
 rcases hm with ((hm | hm) | ⟨i, hi, rfl⟩) | ⟨i, hi, rfl⟩
 ·split at hm
  ·obtain rfl := by simpa using hm
   exact ⟨by simp [ownO], fun i hi => by simp only [ownO]; split <;> simp [brS, rvS]⟩
  ·simp at hm
 ·split at hm
  ·obtain rfl := by simpa using hm
   exact ⟨by simp [othO], fun i hi => by simp [othO, Cd.kb]⟩
  ·simp at hm
 ·exact ⟨by simp [payO], fun k hk => by simp only [payO, pdS]; split <;> (try split) <;> simp [toS, bkS, rvS, brS]⟩
 ·exact ⟨by simp [hldO], fun k hk => by simp only [hldO, Cd.kb]; exact insL_pos _ _ (hs.2.1.2.2 i hi).2.2.2.2⟩
theorem cmO_mem (P : Pm) (s : Sv) (o : Int) (lk : Nat → Int) (i : Nat) (hi : i < cmM P s o lk) : SOk s ∧ i < (outsO (cm0 P o lk) s s.hn).length ∧ cmO P s o lk i ∈ outsO (cm0 P o lk) s s.hn := by
 by_cases h0 : cmtE P s o lk = 0
 ·have hj : i < (outsO (cm0 P o lk) s s.hn).length := by unfold cmM at hi; rw [if_pos h0] at hi; exact hi
  have h1 : ownE P s o = 0 := by
   unfold cmtE at h0
   by_cases h2 : ownE P s o = 0
   ·exact h2
   ·rw [if_pos h2] at h0; exact h0
  refine ⟨(ownE_ok h1).1, hj, ?_⟩
  simp only [cmO, oF, List.getD_eq_getElem?_getD, List.getElem?_eq_getElem hj, Option.getD_some]
  exact List.getElem_mem hj
 ·unfold cmM at hi; rw [if_neg h0] at hi; omega
/-- The keys of an output are few. -/
theorem outsO_n {c : Cm} {s : Sv} (hk : ∀ i, i < s.hn → (s.H i).n ≤ 300) : ∀ x ∈ outsO c s s.hn, ∀ j, j < x.cn → (x.X j).n ≤ 300 := by
 intro x hm
 simp only [outsO, paysO, sideO, ifL, List.mem_append, List.mem_map, List.mem_range] at hm
 rcases hm with ((hm | hm) | ⟨i, hi, rfl⟩) | ⟨i, hi, rfl⟩
 ·split at hm
  ·obtain rfl := by simpa using hm
   exact fun i hi => by simp only [ownO]; split <;> simp [brS, rvS]
  ·simp at hm
 ·split at hm
  ·obtain rfl := by simpa using hm
   exact fun i hi => by simp [othO, Cd.kb]
  ·simp at hm
 ·exact fun k hk => by simp only [payO, pdS]; split <;> (try split) <;> simp [toS, bkS, rvS, brS]
 ·intro k _
  have h1 := Cd.insL_len (s.H i).z (s.H i).n
  have h2 := hk i hi
  simp only [hldO, Cd.kb]
  omega
theorem cm_few (P : Pm) (s : Sv) (o : Int) (lk : Nat → Int) (hs : s.Small) : Few (cmN P s o lk) (cmM P s o lk) (cmO P s o lk) := by
 refine ⟨by unfold cmN; split <;> omega, ?_, fun i hi => ?_⟩
 ·unfold cmM
  split
  ·have h1 := (outsO_len (cm0 P o lk) s s.hn).1
   have h2 := hs.n
   omega
  ·omega
 ·obtain ⟨h1, _, h2⟩ := cmO_mem P s o lk i hi
  have h3 := outsO_keyed h1 _ h2
  exact ⟨by omega, fun j hj => by have := outsO_n hs.k _ h2 j hj; omega⟩
end Go.Proofs.YtjnepkggdkccaaaGreatDoor
