/- Readers of any bytes: by the list of what is left, or stopped. -/
import Derived.Test.YtnjkgpgbipcgcaaDoorOwnShelf38
import Derived.Test.YtnjkgpgbipcgcaaDoorOwnShelf09
import Derived.Test.YtnjkgpgbipcgcaaDoorOwnShelf12
namespace Go.Proofs.YtnjkgpgbipcgcaaDoor
open Go.RowKit

def uintR (most : Int) (l : List Int) : Option (Int × List Int) := if uE l.length (fn l) most = 0 then some (uV l.length (fn l) most, l.drop (uN l.length (fn l) most)) else none
def countR (most : Int) (l : List Int) : Option (Int × List Int) := if cE l.length (fn l) most = 0 then some (cV l.length (fn l) most, l.drop (cN l.length (fn l) most)) else none
def hashR (l : List Int) : Option ((Nat → Int) × List Int) := if l.length < 32 then none else some (fn l, l.drop 32)
/-- One thing taken off: it, and what is left. -/
def tk {α : Type} (f : List Int → Option (α × List Int)) (d : α) : Option (List Int) → α × Option (List Int)
  | none => (d, none)
  | some l => match f l with | none => (d, none) | some (a, r) => (a, some r)
theorem tk_none {α : Type} (f : List Int → Option (α × List Int)) (d : α) : tk f d none = (d, none) := rfl
def numS (q : Option (List Int)) : Int × Option (List Int) := tk (uintR 9223372036854775807) 0 q
def cntS (most : Int) (q : Option (List Int)) : Int × Option (List Int) := tk (countR most) 0 q
def hshS (q : Option (List Int)) : (Nat → Int) × Option (List Int) := tk hashR nz q
/-- A reader at block rb: what is left, or that it has stopped. -/
def RS (w : World) (rb : Nat) : Option (List Int) → Prop
  | some l => RdAt w rb l.length (fn l) 0 ∧ l.length ≤ 140737488351232
  | none => ∃ n z er, er ≠ 0 ∧ RdAt w rb n z er
theorem RdAt.congr {w : World} {rb n m : Nat} {z y : Nat → Int} {er : Int} (h : RdAt w rb n z er) (hn : n = m) (he : ∀ j, j < n → z j = y j) : RdAt w rb m y er := by
  subst hn
  obtain ⟨ad, cap, h1, h2, h3, h4⟩ := h
  exact ⟨ad, cap, h1, h2, h3.congr he, h4⟩
theorem fn_drop (l : List Int) (k j : Nat) : fn (l.drop k) j = fn l (j + k) := by simp [fn, Nat.add_comm]
theorem RdAt.drop {w : World} {rb k : Nat} {l : List Int} (h : RdAt w rb (l.length - k) (fun j => fn l (j + k)) 0) : RdAt w rb (l.drop k).length (fn (l.drop k)) 0 := h.congr (by simp) fun j _ => (fn_drop l k j).symm
theorem RdAt.cell1 {w : World} {rb n : Nat} {z : Nat → Int} {er : Int} (h : RdAt w rb n z er) (he : er ≠ 0) : w.cell? ⟨rb, 1, none⟩ = some (.iface 72 (.int .i64 er)) := by
  obtain ⟨ad, cap, h1, _⟩ := h
  rw [two_cell1 h1, errV_ne he]
theorem RdAt.keep {w w' : World} {rb n : Nat} {z : Nat → Int} {er : Int} (h : RdAt w rb n z er) (hb : Below w.heap.size w w') : RdAt w' rb n z er := by
  obtain ⟨ad, cap, h1, h2, h3, h4⟩ := h
  exact ⟨ad, cap, by rw [hb.block _ (lt_of_block h1)]; exact h1, h2, h3.frm (S := []) (Frm.ofBelow hb) (by simp), h4⟩
/-- What is turned lies behind the reader. -/
theorem RdAt.frm {S : List Nat} {w w' : World} {rb n : Nat} {z : Nat → Int} {er : Int} (h : RdAt w rb n z er) (hf : Frm S w w') (hS : ∀ k, k ∈ S → rb < k) : RdAt w' rb n z er := by
  obtain ⟨ad, cap, h1, h2, h3, h4⟩ := h
  exact ⟨ad, cap, hf.heap h1 (fun hk => Nat.lt_irrefl _ (hS _ hk)), h2, h3.frm hf (fun b off hn e hk => by have := hS b hk; have := h4 b off hn e; omega), h4⟩
/-- All blocks up to the reader's are as they were. -/
theorem RdAt.upto {w w' : World} {rb n : Nat} {z : Nat → Int} {er : Int} (h : RdAt w rb n z er) (hf : ∀ k, k ≤ rb → w'.heap[k]? = w.heap[k]?) : RdAt w' rb n z er := by
  obtain ⟨ad, cap, h1, h2, h3, h4⟩ := h
  exact ⟨ad, cap, by rw [hf _ (Nat.le_refl _)]; exact h1, h2, h3.block (fun b off hn e => hf b (by have := h4 b off hn e; omega)), h4⟩
theorem RS.keep {w w' : World} {rb : Nat} {q : Option (List Int)} (h : RS w rb q) (hb : Below w.heap.size w w') : RS w' rb q := by
  cases q with
  | some l => exact ⟨h.1.keep hb, h.2⟩
  | none => obtain ⟨n, z, er, he, h⟩ := h; exact ⟨n, z, er, he, h.keep hb⟩
theorem RS.frm {S : List Nat} {w w' : World} {rb : Nat} {q : Option (List Int)} (h : RS w rb q) (hf : Frm S w w') (hS : ∀ k, k ∈ S → rb < k) : RS w' rb q := by
  cases q with
  | some l => exact ⟨h.1.frm hf hS, h.2⟩
  | none => obtain ⟨n, z, er, he, h⟩ := h; exact ⟨n, z, er, he, h.frm hf hS⟩
theorem RS.upto {w w' : World} {rb : Nat} {q : Option (List Int)} (h : RS w rb q) (hf : ∀ k, k ≤ rb → w'.heap[k]? = w.heap[k]?) : RS w' rb q := by
  cases q with
  | some l => exact ⟨h.1.upto hf, h.2⟩
  | none => obtain ⟨n, z, er, he, h⟩ := h; exact ⟨n, z, er, he, h.upto hf⟩
theorem RS.lt {w : World} {rb : Nat} {q : Option (List Int)} (h : RS w rb q) : rb < w.heap.size := by
  cases q with
  | some l => obtain ⟨⟨ad, cap, h1, _⟩, _⟩ := h; exact lt_of_block h1
  | none => obtain ⟨n, z, er, he, ad, cap, h1, _⟩ := h; exact lt_of_block h1
/-- All of its bytes are bytes. -/
def ByQ (q : Option (List Int)) : Prop := ∀ l, q = some l → ∀ j, j < l.length → 0 ≤ fn l j ∧ fn l j ≤ 255
theorem RS.by {w : World} {rb : Nat} {q : Option (List Int)} (h : RS w rb q) : ByQ q := by
  rintro l rfl j hj
  obtain ⟨⟨ad, cap, h1, h2, h3, h4⟩, _⟩ := h
  exact h3.1 j hj
theorem uintR_bd {most v : Int} {l r : List Int} (hl : ∀ j, j < l.length → 0 ≤ fn l j ∧ fn l j ≤ 255) (h : uintR most l = some (v, r)) : 0 ≤ v ∧ v ≤ most := by
  unfold uintR at h
  split at h
  · rename_i hE
    cases h
    refine ⟨(uV_bd most hl).1, ?_⟩
    unfold uV
    rw [if_pos hE]
    unfold uE at hE
    split at hE
    · simp at hE
    · split at hE
      · simp at hE
      · split at hE
        · split at hE
          · simp at hE
          · omega
        · rename_i h2
          exact absurd hE h2
  · cases h
theorem numS_bd {q : Option (List Int)} (h : ByQ q) : 0 ≤ (numS q).1 ∧ (numS q).1 ≤ 9223372036854775807 := by
  unfold numS tk
  cases q with
  | none => simp
  | some l =>
    dsimp only
    cases e : uintR 9223372036854775807 l with
    | none => simp
    | some x => exact uintR_bd (h l rfl) e
theorem hshS_bd {q : Option (List Int)} (h : ByQ q) : Zb (hshS q).1 := by
  unfold hshS tk
  cases q with
  | none => intro j _; simp [nz]
  | some l =>
    dsimp only [hashR]
    by_cases hl : l.length < 32
    · rw [if_pos hl]; intro j _; simp [nz]
    · rw [if_neg hl]
      intro j hj
      exact h l rfl j (by omega)
theorem uint_rs (rb : Nat) (most : Int) (q : Option (List Int)) (w : World) (h : RS w rb q) :
    Calls Tryd.prog 66 #[.pointer (some ⟨rb, 0, none⟩), .int .u64 most] w fun e w' =>
      e = .returned (.int .u64 (tk (uintR most) 0 q).1) ∧ Frm [rb] w w' ∧ RS w' rb (tk (uintR most) 0 q).2 := by
  cases q with
  | none =>
    obtain ⟨n, z, er, he, h⟩ := h
    refine (stopUint rb most _ _ w (h.cell1 he)).mono ?_
    rintro e w' ⟨rfl, hb⟩
    exact ⟨rfl, Frm.ofBelow hb, n, z, er, he, h.keep hb⟩
  | some l =>
    refine (rdUint_any rb _ _ most w h.1).mono ?_
    rintro e w' ⟨rfl, hF, hR⟩
    simp only [tk, uintR]
    by_cases hE : uE l.length (fn l) most = 0
    · rw [if_pos hE]
      rw [hE] at hR
      exact ⟨rfl, hF, hR.drop, by have := h.2; simp; omega⟩
    · rw [if_neg hE]
      refine ⟨?_, hF, _, _, _, hE, hR⟩
      simp [uV, hE]
theorem count_rs (rb : Nat) (most : Int) (q : Option (List Int)) (w : World) (h : RS w rb q) (hm : most ≤ 9223372036854775807) :
    Calls Tryd.prog 43 #[.pointer (some ⟨rb, 0, none⟩), .int .i64 most] w fun e w' =>
      e = .returned (.int .i64 (cntS most q).1) ∧ Frm [rb] w w' ∧ RS w' rb (cntS most q).2 := by
  unfold cntS
  cases q with
  | none =>
    obtain ⟨n, z, er, he, h⟩ := h
    refine (stopCount rb most _ _ w (h.cell1 he)).mono ?_
    rintro e w' ⟨rfl, hb⟩
    exact ⟨rfl, Frm.ofBelow hb, n, z, er, he, h.keep hb⟩
  | some l =>
    refine (rdCount_any rb _ _ most w h.2 hm h.1).mono ?_
    rintro e w' ⟨rfl, hF, hR⟩
    simp only [tk, countR]
    by_cases hE : cE l.length (fn l) most = 0
    · rw [if_pos hE]
      rw [hE] at hR
      exact ⟨rfl, hF, hR.drop, by have := h.2; simp; omega⟩
    · rw [if_neg hE]
      refine ⟨?_, hF, _, _, _, hE, hR⟩
      simp [cV, hE]
theorem hash_rs (rb : Nat) (q : Option (List Int)) (w : World) (h : RS w rb q) :
    Calls Tryd.prog 70 #[.pointer (some ⟨rb, 0, none⟩)] w fun e w' =>
      e = .returned (.agg (hv (hshS q).1)) ∧ Frm [rb] w w' ∧ RS w' rb (hshS q).2 := by
  unfold hshS
  cases q with
  | none =>
    obtain ⟨n, z, er, he, h⟩ := h
    refine (stopHash rb _ _ w (h.cell1 he)).mono ?_
    rintro e w' ⟨rfl, hb⟩
    exact ⟨rfl, Frm.ofBelow hb, n, z, er, he, h.keep hb⟩
  | some l =>
    refine (rdHash_any rb _ _ w h.1).mono ?_
    rintro e w' ⟨rfl, hF, hR⟩
    simp only [tk, hashR]
    by_cases hq : l.length < 32
    · rw [if_pos hq]
      rw [show hZ l.length (fn l) = nz from if_pos hq]
      rw [show hE l.length = 12 from if_pos hq] at hR
      exact ⟨rfl, hF, _, _, 12, by decide, hR⟩
    · rw [if_neg hq]
      rw [show hZ l.length (fn l) = fn l from if_neg hq]
      rw [show hE l.length = 0 from if_neg hq, show hN l.length = 32 from if_neg hq] at hR
      exact ⟨rfl, hF, hR.drop, by have := h.2; simp; omega⟩
theorem done_rs (rb : Nat) (q : Option (List Int)) (w : World) (h : RS w rb q) :
    Calls Tryd.prog 46 #[.pointer (some ⟨rb, 0, none⟩)] w fun e w' => (∃ x, e = .returned (errV x) ∧ (q = some [] ↔ x = 0)) ∧ w' = w := by
  cases q with
  | none =>
    obtain ⟨n, z, er, he, h⟩ := h
    refine (done_any rb n z er w h).mono ?_
    rintro e w' ⟨rfl, rfl⟩
    refine ⟨⟨_, rfl, ?_⟩, rfl⟩
    simp [dn, he]
  | some l =>
    refine (done_any rb _ _ 0 w h.1).mono ?_
    rintro e w' ⟨rfl, rfl⟩
    refine ⟨⟨_, rfl, ?_⟩, rfl⟩
    cases l <;> simp [dn]
theorem read_rs (ad : Option Addr) (cap : Nat) (l : List Int) (w : World) (hs : SlAt w ad l.length (fn l)) (hnil : ad = none → l.length = 0 ∧ cap = 0) (hn : l.length ≤ 140737488351232) :
    Calls Tryd.prog 41 #[.slice ad l.length cap] w fun e w' => ∃ rb, e = .returned (.pointer (some ⟨rb, 0, none⟩)) ∧ RS w' rb (some l) ∧ w.heap.size ≤ rb ∧ Below w.heap.size w w' := by
  refine (read_any ad l.length cap (fn l) w hs hnil hn).mono ?_
  rintro e w' ⟨rb, rfl, h1, h2, h3⟩
  exact ⟨rb, rfl, ⟨h1, hn⟩, h2, h3⟩
set_option maxHeartbeats 400000 in
theorem snum_any (rb : Nat) (q : Option (List Int)) (w : World) (h : RS w rb q) :
    Calls Tryd.prog 42 #[.pointer (some ⟨rb, 0, none⟩)] w fun e w' => e = .returned (.int .i64 (numS q).1) ∧ Frm [rb] w w' ∧ RS w' rb (numS q).2 := by
  have hb := numS_bd h.by
  have hw : IntKind.i64.wrap (numS q).1 = (numS q).1 := by rw [IntKind.wrap_i64]; omega
  have hc := uint_rs rb 9223372036854775807 q w h
  change Calls _ _ _ _ (fun e w' => e = .returned (.int .u64 (numS q).1) ∧ Frm [rb] w w' ∧ RS w' rb (numS q).2) at hc
  generalize (numS q).1 = x at *
  generalize (numS q).2 = q' at *
  clear h hb
  go_enter Tryd.func42, Tryd.ntmps42
  go_wp2_with fail
  refine hc.mono ?_
  rintro e w1 ⟨rfl, hF, hR⟩
  have HF : Hid (Frm [rb] w w1 ∧ RS w1 rb q') := ⟨hF, hR⟩
  clear hF hR hc
  go_wp2
  go_ret
  exact ⟨rfl, HF.out⟩
end Go.Proofs.YtnjkgpgbipcgcaaDoor
