/- Readers of what was laid: by the list of what is left, or stopped. -/
import Derived.Test.YtfdcpbolofkopaaGreatDoorEBack
import Derived.Test.YtfdcpbolofkopaaGreatDoorEStops
import Derived.Test.YtfdcpbolofkopaaGreatDoorEEnds
namespace Go.Proofs.YtfdcpbolofkopaaGreatDoor
open Go.RowKit

/-- A reader at block rb: what is left, or that it has stopped. -/
def RS (w : World) (rb : Nat) : Option (List Int) → Prop
  | some l => RdAt w rb l.length (fn l) 0 ∧ l.length ≤ 140737488351232
  | none => ∃ n z er, er ≠ 0 ∧ RdAt w rb n z er
theorem RdAt.congr {w : World} {rb n m : Nat} {z y : Nat → Int} {er : Int} (h : RdAt w rb n z er) (hn : n = m) (he : ∀ j, j < n → z j = y j) : RdAt w rb m y er := by
  subst hn
  obtain ⟨ad, cap, h1, h2, h3, h4⟩ := h
  exact ⟨ad, cap, h1, h2, h3.congr he, h4⟩
theorem pre_app (a b : List Int) : Pre (a ++ b).length (fn (a ++ b)) a := ⟨by simp, fun j hj => fn_append_left a b j hj⟩
theorem uE_most {n : Nat} {z : Nat → Int} {most : Int} (h : uE n z 18446744073709551615 = 0) : uE n z most = if uV n z 18446744073709551615 ≤ most then 0 else 4 := by
  have hv : uV n z 18446744073709551615 = numV (n - 1) (behind false z) (z 0).toNat := if_pos h
  rw [hv]
  unfold uE at h ⊢
  split at h
  · simp at h
  · split at h
    · simp at h
    · rename_i h1 h2
      split at h
      · rename_i h3
        rw [if_neg h1, if_neg h2, if_pos h3]
        split at h
        · simp at h
        · by_cases e : most < numV (n - 1) (behind false z) (z 0).toNat
          · rw [if_pos e, if_neg (by omega)]
          · rw [if_neg e, if_pos (by omega)]
      · rename_i h3
        exact absurd h h3
theorem u_most {n : Nat} {z : Nat → Int} {m most : Int} (h0 : 0 ≤ m) (h1 : m ≤ 18446744073709551615) (hp : Pre n z (uB m)) :
    (m ≤ most → uE n z most = 0 ∧ uV n z most = m ∧ uN n z most = (uB m).length) ∧ (¬ m ≤ most → uE n z most = 4 ∧ uV n z most = 0 ∧ uN n z most = 0) := by
  obtain ⟨b1, b2, b3⟩ := u_back h0 h1 hp
  have e := uE_most (most := most) b1
  rw [b2] at e
  have hv : numV (n - 1) (behind false z) (z 0).toNat = m := by rw [← b2]; exact (if_pos b1).symm
  have hN : 1 + (z 0).toNat = (uB m).length := by rw [← b3]; exact (if_pos b1).symm
  refine ⟨fun h => ?_, fun h => ?_⟩
  · rw [if_pos h] at e
    exact ⟨e, by rw [uV, if_pos e]; exact hv, by rw [uN, if_pos e]; exact hN⟩
  · rw [if_neg h] at e
    exact ⟨e, by rw [uV, if_neg (by rw [e]; decide)], by rw [uN, if_neg (by rw [e]; decide)]⟩
theorem rest_rs {w : World} {rb : Nat} {a l : List Int} (h : RdAt w rb ((a ++ l).length - a.length) (fun j => fn (a ++ l) (j + a.length)) 0) (hl : (a ++ l).length ≤ 140737488351232) : RS w rb (some l) := by
  refine ⟨h.congr (by simp) (fun j _ => ?_), by simp at hl; omega⟩
  show fn (a ++ l) (j + a.length) = fn l j
  rw [Nat.add_comm, fn_append_right]
/-- A number taken off what was laid. -/
theorem uint_some (rb : Nat) (m most : Int) (l : List Int) (w : World) (h0 : 0 ≤ m) (h1 : m ≤ 18446744073709551615) (h : RS w rb (some (uB m ++ l))) :
    Calls Tryz.prog 50 #[.pointer (some ⟨rb, 0, none⟩), .int .u64 most] w fun e w' =>
      e = .returned (.int .u64 (if m ≤ most then m else 0)) ∧ Frm [rb] w w' ∧ RS w' rb (if m ≤ most then some l else none) := by
  obtain ⟨hr, hl⟩ := h
  refine (rdUint_any rb _ _ most w hr).mono ?_
  rintro e w' ⟨rfl, hF, hR⟩
  obtain ⟨c1, c2⟩ := u_most (most := most) h0 h1 (pre_app (uB m) l)
  by_cases hm : m ≤ most
  · obtain ⟨a1, a2, a3⟩ := c1 hm
    rw [a2, if_pos hm, if_pos hm]
    rw [a1, a3] at hR
    exact ⟨rfl, hF, rest_rs hR hl⟩
  · obtain ⟨a1, a2, a3⟩ := c2 hm
    rw [a2, if_neg hm, if_neg hm]
    rw [a1] at hR
    exact ⟨rfl, hF, _, _, 4, by decide, hR⟩
theorem RdAt.cell1 {w : World} {rb n : Nat} {z : Nat → Int} {er : Int} (h : RdAt w rb n z er) (he : er ≠ 0) : w.cell? ⟨rb, 1, none⟩ = some (.iface 61 (.int .i64 er)) := by
  obtain ⟨ad, cap, h1, _⟩ := h
  rw [two_cell1 h1, errV_ne he]
theorem RdAt.keep {w w' : World} {rb n : Nat} {z : Nat → Int} {er : Int} (h : RdAt w rb n z er) (hb : Below w.heap.size w w') : RdAt w' rb n z er := by
  obtain ⟨ad, cap, h1, h2, h3, h4⟩ := h
  exact ⟨ad, cap, by rw [hb.block _ (lt_of_block h1)]; exact h1, h2, h3.frm (S := []) (Frm.ofBelow hb) (by simp), h4⟩
/-- What is turned lies behind the reader. -/
theorem RdAt.frm {S : List Nat} {w w' : World} {rb n : Nat} {z : Nat → Int} {er : Int} (h : RdAt w rb n z er) (hf : Frm S w w') (hS : ∀ k, k ∈ S → rb < k) : RdAt w' rb n z er := by
  obtain ⟨ad, cap, h1, h2, h3, h4⟩ := h
  exact ⟨ad, cap, hf.heap h1 (fun hk => Nat.lt_irrefl _ (hS _ hk)), h2, h3.frm hf (fun b off hn e hk => by have := hS b hk; have := h4 b off hn e; omega), h4⟩
theorem RS.keep {w w' : World} {rb : Nat} {st : Option (List Int)} (h : RS w rb st) (hb : Below w.heap.size w w') : RS w' rb st := by
  cases st with
  | none => obtain ⟨n, z, er, h1, h2⟩ := h; exact ⟨n, z, er, h1, h2.keep hb⟩
  | some l => exact ⟨h.1.keep hb, h.2⟩
theorem RS.frm {S : List Nat} {w w' : World} {rb : Nat} {st : Option (List Int)} (h : RS w rb st) (hf : Frm S w w') (hS : ∀ k, k ∈ S → rb < k) : RS w' rb st := by
  cases st with
  | none => obtain ⟨n, z, er, h1, h2⟩ := h; exact ⟨n, z, er, h1, h2.frm hf hS⟩
  | some l => exact ⟨h.1.frm hf hS, h.2⟩
theorem uint_none (rb : Nat) (most : Int) (w : World) (h : RS w rb none) :
    Calls Tryz.prog 50 #[.pointer (some ⟨rb, 0, none⟩), .int .u64 most] w fun e w' => e = .returned (.int .u64 0) ∧ Frm [rb] w w' ∧ RS w' rb none := by
  obtain ⟨n, z, er, h1, h2⟩ := h
  refine (stopUint rb most _ _ w (h2.cell1 h1)).mono ?_
  rintro e w' ⟨rfl, hb⟩
  exact ⟨rfl, Frm.ofBelow hb, n, z, er, h1, h2.keep hb⟩
/-- A count taken off what was laid. -/
theorem count_some (rb : Nat) (m most : Nat) (l : List Int) (w : World) (h1 : m ≤ 1000000) (h2 : most ≤ 1000000) (hml : m ≤ l.length) (h : RS w rb (some (uB (m : Int) ++ l))) :
    Calls Tryz.prog 20 #[.pointer (some ⟨rb, 0, none⟩), .int .i64 (most : Int)] w fun e w' =>
      e = .returned (.int .i64 (if m ≤ most then (m : Int) else 0)) ∧ Frm [rb] w w' ∧ RS w' rb (if m ≤ most then some l else none) := by
  obtain ⟨hr, hl⟩ := h
  refine (rdCount_any rb _ _ (most : Int) w hl (by omega) hr).mono ?_
  rintro e w' ⟨rfl, hF, hR⟩
  obtain ⟨c1, c2⟩ := u_most (most := (most : Int)) (m := (m : Int)) (by omega) (by omega) (pre_app (uB (m : Int)) l)
  have hmx : max (most : Int) 0 = most := by omega
  by_cases hm : m ≤ most
  · obtain ⟨a1, a2, a3⟩ := c1 (by omega)
    have ce : cE (uB (m : Int) ++ l).length (fn (uB (m : Int) ++ l)) most = 0 := by
      unfold cE
      rw [hmx, if_pos a1, a2, a3, if_neg (by simp; omega)]
    have cv : cV (uB (m : Int) ++ l).length (fn (uB (m : Int) ++ l)) most = m := by rw [cV, if_pos ce, hmx, a2]
    have cn : cN (uB (m : Int) ++ l).length (fn (uB (m : Int) ++ l)) most = (uB (m : Int)).length := by rw [cN, if_pos ce, hmx, a3]
    rw [cv, if_pos hm, if_pos hm]
    rw [ce, cn] at hR
    exact ⟨rfl, hF, rest_rs hR hl⟩
  · obtain ⟨a1, a2, a3⟩ := c2 (by omega)
    have ce : cE (uB (m : Int) ++ l).length (fn (uB (m : Int) ++ l)) most = 4 := by
      unfold cE
      rw [hmx, a1, if_neg (by decide)]
    have cv : cV (uB (m : Int) ++ l).length (fn (uB (m : Int) ++ l)) most = 0 := by rw [cV, if_neg (by rw [ce]; decide)]
    rw [cv, if_neg hm, if_neg hm]
    rw [ce] at hR
    exact ⟨rfl, hF, _, _, 4, by decide, hR⟩
theorem count_none (rb : Nat) (most : Int) (w : World) (h : RS w rb none) :
    Calls Tryz.prog 20 #[.pointer (some ⟨rb, 0, none⟩), .int .i64 most] w fun e w' => e = .returned (.int .i64 0) ∧ Frm [rb] w w' ∧ RS w' rb none := by
  obtain ⟨n, z, er, h1, h2⟩ := h
  refine (stopCount rb most _ _ w (h2.cell1 h1)).mono ?_
  rintro e w' ⟨rfl, hb⟩
  exact ⟨rfl, Frm.ofBelow hb, n, z, er, h1, h2.keep hb⟩
theorem hv_same {z y : Nat → Int} (h : ∀ j, j < 32 → z j = y j) : hv z = hv y := by
  unfold hv bl
  congr 1
  apply List.map_congr_left
  intro j hj
  rw [h j (List.mem_range.1 hj)]
theorem hash_some (rb : Nat) (y : Nat → Int) (l : List Int) (w : World) (h : RS w rb (some (hB y ++ l))) :
    Calls Tryz.prog 51 #[.pointer (some ⟨rb, 0, none⟩)] w fun e w' => e = .returned (.agg (hv y)) ∧ Frm [rb] w w' ∧ RS w' rb (some l) := by
  obtain ⟨hr, hl⟩ := h
  refine (rdHash_any rb _ _ w hr).mono ?_
  rintro e w' ⟨rfl, hF, hR⟩
  obtain ⟨b1, b2, b3⟩ := h_back (pre_app (hB y) l)
  rw [b1, b2] at hR
  exact ⟨by rw [hv_same b3], hF, rest_rs hR hl⟩
theorem hash_none (rb : Nat) (w : World) (h : RS w rb none) :
    Calls Tryz.prog 51 #[.pointer (some ⟨rb, 0, none⟩)] w fun e w' => e = .returned (.agg (hv nz)) ∧ Frm [rb] w w' ∧ RS w' rb none := by
  obtain ⟨n, z, er, h1, h2⟩ := h
  refine (stopHash rb _ _ w (h2.cell1 h1)).mono ?_
  rintro e w' ⟨rfl, hb⟩
  exact ⟨rfl, Frm.ofBelow hb, n, z, er, h1, h2.keep hb⟩
/-- What Done answers: no error just where nothing is left. -/
theorem done_rs (rb : Nat) (st : Option (List Int)) (w : World) (h : RS w rb st) :
    Calls Tryz.prog 22 #[.pointer (some ⟨rb, 0, none⟩)] w fun e w' => ∃ er : Int, e = .returned (errV er) ∧ (er = 0 ↔ st = some []) ∧ w' = w := by
  cases st with
  | none =>
    obtain ⟨n, z, er, h1, h2⟩ := h
    refine (done_any rb n z er w h2).mono ?_
    rintro e w' ⟨rfl, rfl⟩
    refine ⟨_, rfl, ?_, rfl⟩
    simp [dn, h1]
  | some l =>
    refine (done_any rb _ _ 0 w h.1).mono ?_
    rintro e w' ⟨rfl, rfl⟩
    refine ⟨_, rfl, ?_, rfl⟩
    cases l with
    | nil => simp [dn]
    | cons x r => simp [dn]
end Go.Proofs.YtfdcpbolofkopaaGreatDoor
