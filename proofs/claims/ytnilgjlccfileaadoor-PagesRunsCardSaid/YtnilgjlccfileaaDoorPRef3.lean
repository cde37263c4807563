/- The document's answer: Read. -/
import Derived.Test.YtnilgjlccfileaaDoorPRef2
namespace Go.Proofs.YtnilgjlccfileaaDoor
open Go.RowKit

attribute [local go_sem ↓] Go.wp_at_zero Go.wp_at_succ

def rrE (n : Nat) (dn : Bool) (pg : Int) : Int := if ¬ (0 ≤ pg ∧ pg < n) then 1 else if dn = true then 13 else 0
set_option maxRecDepth 100000 in
set_option maxHeartbeats 1600000 in
theorem rread_bad (pa : Option Addr) (pn pc : Nat) (la : Option Addr) (ln lc : Nat) (st : Int) (dn : Bool) (pg : Int) (w : World) (he : rrE pn dn pg ≠ 0) :
    Calls Tryd.prog 18 #[.agg #[.slice pa pn pc, .slice la ln lc, .int .i64 st, .bool dn], .int .i64 pg] w fun e w' => e = .returned (.tuple #[.slice none 0 0, .int .i64 (rrE pn dn pg)]) ∧ Below w.heap.size w w' := by
  have hb := (Below.refl _ w).alloc (Nat.le_refl _) (.cells #[.slice pa pn pc, .slice la ln lc, .int .i64 st, .bool dn] 41)
  unfold rrE at he ⊢
  by_cases h0 : 0 ≤ pg
  · by_cases h1 : pg < pn
    · rw [if_neg (by simp [h0, h1])] at he ⊢
      cases dn with
      | false => exact absurd rfl he
      | true =>
        rw [if_pos rfl]
        clear he
        go_enter Tryd.func18, Tryd.ntmps18
        go_wp2
        go_ret2
        exact ⟨rfl, hb⟩
    · rw [if_pos (by simp [h1])]
      clear he
      go_enter Tryd.func18, Tryd.ntmps18
      go_wp2
      go_ret2
      exact ⟨rfl, hb⟩
  · rw [if_pos (by simp [h0])]
    clear he
    go_enter Tryd.func18, Tryd.ntmps18
    go_wp2
    go_ret2
    exact ⟨rfl, hb⟩
/-- What stands on a page, by the document. -/
def lastR (p : List Bs) (L : List (Int × Bs)) (pg : Int) : Bs := lastB ⟨p, L, false, 0, false⟩ pg
theorem lastR_nil (p : List Bs) (pg : Int) : lastR p [] pg = (p[pg.toNat]?).getD nilBs := rfl
theorem lastR_snoc (p : List Bs) (L : List (Int × Bs)) (x : Int × Bs) (pg : Int) : lastR p (L ++ [x]) pg = if x.1 = pg then x.2 else lastR p L pg := by
  unfold lastR lastB
  simp only [List.reverse_append, List.reverse_cons, List.reverse_nil, List.nil_append, List.singleton_append, List.find?_cons]
  by_cases h : x.1 = pg
  · simp [h]
  · have : (x.1 == pg) = false := by simpa using h
    simp [h, this]
set_option maxRecDepth 100000 in
set_option maxHeartbeats 1600000 in
theorem rread_ok (pa : Option Addr) (pc : Nat) (p : List Bs) (la : Option Addr) (lc : Nat) (L : List (Int × Bs)) (st : Int) (pg : Int) (w : World) (hp : 0 ≤ pg ∧ pg < p.length) (hP : RowC w pa p.length (p.map Bs.v)) (hL : RowC w la L.length (flatW L)) (hl : L.length ≤ 1000) :
    Calls Tryd.prog 18 #[.agg #[.slice pa p.length pc, .slice la L.length lc, .int .i64 st, .bool false], .int .i64 pg] w fun e w' => e = .returned (.tuple #[(lastR p L pg).v, .int .i64 0]) ∧ Below w.heap.size w w' := by
  have hb := (Below.refl _ w).alloc (Nat.le_refl _) (.cells #[.slice pa p.length pc, .slice la L.length lc, .int .i64 st, .bool false] 41)
  obtain ⟨k, rfl⟩ : ∃ k : Nat, pg = k := ⟨pg.toNat, by omega⟩
  obtain ⟨gp, rfl, hgp, hcp⟩ := hP (by omega)
  have hk : k < p.length := by omega
  have hkI : (k : Int) < p.length := by omega
  have cp : (w.alloc (.cells #[.slice (some ⟨gp, 0, none⟩) p.length pc, .slice la L.length lc, .int .i64 st, .bool false] 41)).cell? ⟨gp, k, none⟩ = some (lastR p [] k).v := by
    rw [World.cell?_alloc_lt _ _ _ hgp, lastR_nil, Int.toNat_natCast]
    exact hcp k _ (by simp [hk])
  have d1 : decide ((k : Int) < 0) = false := by simp
  have d2 : decide ((p.length : Int) ≤ k) = false := by simp; omega
  have HL : Hid (RowC w la L.length (flatW L)) := hL
  have f0 : ∃ a n c, (lastR p [] k).v = .slice a n c := ⟨_, _, _, rfl⟩
  obtain ⟨a0, n0, c0, hv0⟩ := f0
  rw [hv0] at cp
  clear hL hcp hP hp
  go_enter Tryd.func18, Tryd.ntmps18
  go_wp2
  rw [← hv0]
  clear cp hv0
  go_loopw [6, 7] (fun bv iv wr => ∃ i : Nat, i ≤ L.length ∧ iv = .int .i64 i ∧ bv = (lastR p (L.take i) k).v ∧ wr = w.alloc (.cells #[.slice (some ⟨gp, 0, none⟩) p.length pc, .slice la L.length lc, .int .i64 st, .bool false] 41)) (fun _ iv _ => L.length + 1 - (intOf iv).toNat)
  case atStart => exact ⟨0, by omega, rfl, rfl, rfl⟩
  case round =>
    obtain ⟨i, hi, rfl, rfl, rfl⟩ := hrel
    obtain ⟨a1, n1, c1, hv1⟩ : ∃ a n c, (lastR p (L.take i) k).v = .slice a n c := ⟨_, _, _, rfl⟩
    by_cases hlt : i < L.length
    · have hltI : (i : Int) < L.length := by omega
      obtain ⟨gl, rfl, hgl, hcl⟩ := HL.out (by omega)
      obtain ⟨x, hx⟩ : ∃ x, L[i]? = some x := ⟨_, List.getElem?_eq_getElem hlt⟩
      have q0 : (w.alloc (.cells #[.slice (some ⟨gp, 0, none⟩) p.length pc, .slice (some ⟨gl, 0, none⟩) L.length lc, .int .i64 st, .bool false] 41)).cell? ⟨gl, i * 2, none⟩ = some (.int .i64 x.1) := by
        rw [World.cell?_alloc_lt _ _ _ hgl]; exact hcl _ _ (flatW_at0 L i x hx)
      have q1 : (w.alloc (.cells #[.slice (some ⟨gp, 0, none⟩) p.length pc, .slice (some ⟨gl, 0, none⟩) L.length lc, .int .i64 st, .bool false] 41)).cell? ⟨gl, i * 2 + 1, none⟩ = some (.slice x.2.ad x.2.l.length x.2.cap) := by
        rw [World.cell?_alloc_lt _ _ _ hgl]; exact hcl _ _ (flatW_at1 L i x hx)
      have hnx := lastR_snoc p (L.take i) x k
      rw [show L.take i ++ [x] = L.take (i + 1) by rw [List.take_add_one, hx]; rfl] at hnx
      have HNX : Hid (lastR p (L.take (i + 1)) k = if x.1 = (k : Int) then x.2 else lastR p (L.take i) k) := hnx
      rw [hv1]
      clear hcl hnx
      cases hq : (x.1 == (k : Int)) with
      | true =>
        have hq' : x.1 = (k : Int) := by simpa using hq
        have HV : Hid ((lastR p (L.take (i + 1)) k).v = .slice x.2.ad x.2.l.length x.2.cap) := by rw [Hid, HNX.out, if_pos hq']; rfl
        clear HNX hv1
        go_wp2
        go_roundw
        case rel => exact ⟨i + 1, by omega, by go_num, HV.out.symm, trivial⟩
        case measure => simp [intOf]; omega
      | false =>
        have hq' : ¬ x.1 = (k : Int) := by simpa using hq
        have HV : Hid ((lastR p (L.take (i + 1)) k).v = .slice a1 n1 c1) := by rw [Hid, HNX.out, if_neg hq']; exact hv1
        clear HNX hv1
        go_wp2
        go_roundw
        case rel => exact ⟨i + 1, by omega, by go_num, HV.out.symm, trivial⟩
        case measure => simp [intOf]; omega
    · obtain rfl : i = L.length := by omega
      have hnn : ¬ ((L.length : Int) < L.length) := by omega
      rw [List.take_length] at hv1 ⊢
      rw [hv1]
      go_wp2
      go_ret2
      exact ⟨rfl, hb⟩
end Go.Proofs.YtnilgjlccfileaaDoor
