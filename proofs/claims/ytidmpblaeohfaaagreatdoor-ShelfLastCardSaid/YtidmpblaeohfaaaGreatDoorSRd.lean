/- Readers of any bytes: by the list of what is left, or stopped. -/
import Derived.Test.YtidmpblaeohfaaaGreatDoorXRdCount
import Derived.Test.YtidmpblaeohfaaaGreatDoorXRdBytes
import Derived.Test.YtidmpblaeohfaaaGreatDoorXRead
import Derived.Test.YtidmpblaeohfaaaGreatDoorXEnds
namespace Go.Proofs.YtidmpblaeohfaaaGreatDoor
open Go.RowKit

def uintR (most : Int) (l : List Int) : Option (Int × List Int) := if uE l.length (fn l) most = 0 then some (uV l.length (fn l) most, l.drop (uN l.length (fn l) most)) else none
def countR (most : Int) (l : List Int) : Option (Int × List Int) := if cE l.length (fn l) most = 0 then some (cV l.length (fn l) most, l.drop (cN l.length (fn l) most)) else none
def bytesR (most : Int) (l : List Int) : Option (List Int × List Int) := if (bR l.length (fn l) most).2.2 = 0 then some ((bR l.length (fn l) most).1, l.drop (bR l.length (fn l) most).2.1) else none
/-- A reader at block rb: what is left, or that it has stopped. -/
def RS (w : World) (rb : Nat) : Option (List Int) → Prop
  | some l => RdAt w rb l.length (fn l) 0 ∧ l.length ≤ 140737488351232
  | none => ∃ n z er, er ≠ 0 ∧ RdAt w rb n z er
theorem RdAt.congr {w : World} {rb n m : Nat} {z y : Nat → Int} {er : Int} (h : RdAt w rb n z er) (hn : n = m) (he : ∀ j, j < n → z j = y j) : RdAt w rb m y er := by
  subst hn
  obtain ⟨ad, cap, h1, h2, h3, h4⟩ := h
  exact ⟨ad, cap, h1, h2, h3.congr he, h4⟩
theorem fn_drop (l : List Int) (k j : Nat) : fn (l.drop k) j = fn l (j + k) := by simp [fn, Nat.add_comm]
theorem RdAt.drop {w : World} {rb k : Nat} {l : List Int} (h : RdAt w rb (l.length - k) (fun j => fn l (j + k)) 0) : RdAt w rb (l.drop k).length (fn (l.drop k)) 0 := h.congr (by simp) fun j _ => (fn_drop l k j).symm
theorem RdAt.cell1 {w : World} {rb n : Nat} {z : Nat → Int} {er : Int} (h : RdAt w rb n z er) (he : er ≠ 0) : w.cell? ⟨rb, 1, none⟩ = some (.iface 72 (.int .i64 er)) := by
  obtain ⟨ad, cap, h1, _⟩ := h
  rw [two_cell1 h1, errV_ne he]
theorem RdAt.keep {w w' : World} {rb n : Nat} {z : Nat → Int} {er : Int} (h : RdAt w rb n z er) (hb : Below w.heap.size w w') : RdAt w' rb n z er := by
  obtain ⟨ad, cap, h1, h2, h3, h4⟩ := h
  exact ⟨ad, cap, by rw [hb.block _ (lt_of_block h1)]; exact h1, h2, h3.frm (S := []) (Frm.ofBelow hb) (by simp), h4⟩
/-- What is turned lies behind the reader. -/
theorem RdAt.frm {S : List Nat} {w w' : World} {rb n : Nat} {z : Nat → Int} {er : Int} (h : RdAt w rb n z er) (hf : Frm S w w') (hS : ∀ k, k ∈ S → rb < k) : RdAt w' rb n z er := by
  obtain ⟨ad, cap, h1, h2, h3, h4⟩ := h
  exact ⟨ad, cap, hf.heap h1 (fun hk => Nat.lt_irrefl _ (hS _ hk)), h2, h3.frm hf (fun b off hn e hk => by have := hS b hk; have := h4 b off hn e; omega), h4⟩
theorem RS.keep {w w' : World} {rb : Nat} {q : Option (List Int)} (h : RS w rb q) (hb : Below w.heap.size w w') : RS w' rb q := by
  cases q with
  | some l => exact ⟨h.1.keep hb, h.2⟩
  | none => obtain ⟨n, z, er, he, h⟩ := h; exact ⟨n, z, er, he, h.keep hb⟩
theorem RS.frm {S : List Nat} {w w' : World} {rb : Nat} {q : Option (List Int)} (h : RS w rb q) (hf : Frm S w w') (hS : ∀ k, k ∈ S → rb < k) : RS w' rb q := by
  cases q with
  | some l => exact ⟨h.1.frm hf hS, h.2⟩
  | none => obtain ⟨n, z, er, he, h⟩ := h; exact ⟨n, z, er, he, h.frm hf hS⟩
theorem RS.lt {w : World} {rb : Nat} {q : Option (List Int)} (h : RS w rb q) : rb < w.heap.size := by
  cases q with
  | some l => obtain ⟨⟨ad, cap, h1, _⟩, _⟩ := h; exact lt_of_block h1
  | none => obtain ⟨n, z, er, he, ad, cap, h1, _⟩ := h; exact lt_of_block h1
set_option maxHeartbeats 400000 in
theorem stopUint (rb : Nat) (most : Int) (u : TypeId) (x : Value) (w : World) (h1 : w.cell? ⟨rb, 1, none⟩ = some (.iface u x)) :
    Calls Tryz.prog 61 #[.pointer (some ⟨rb, 0, none⟩), .int .u64 most] w fun e w' => e = .returned (.int .u64 0) ∧ Below w.heap.size w w' := by
  have hlt : rb < w.heap.size := World.block_lt_of_cell? w _ h1
  go_enter Tryz.func61, Tryz.ntmps61
  go_wp2
  go_ret
  exact ⟨rfl, (by repeat (first | exact Below.refl _ _ | refine Below.alloc ?_ (by simp; try omega) _ | refine Below.setCell ?_ (by simp) _ | refine below_drewN ?_ _ | refine Below.drew ?_))⟩
set_option maxHeartbeats 400000 in
theorem stopBytes (rb : Nat) (most : Int) (u : TypeId) (x : Value) (w : World) (h1 : w.cell? ⟨rb, 1, none⟩ = some (.iface u x)) :
    Calls Tryz.prog 64 #[.pointer (some ⟨rb, 0, none⟩), .int .i64 most] w fun e w' => e = .returned (.slice none 0 0) ∧ Below w.heap.size w w' := by
  have hlt : rb < w.heap.size := World.block_lt_of_cell? w _ h1
  go_enter Tryz.func64, Tryz.ntmps64
  go_wp2
  go_ret
  exact ⟨rfl, (by repeat (first | exact Below.refl _ _ | refine Below.alloc ?_ (by simp; try omega) _ | refine Below.setCell ?_ (by simp) _ | refine below_drewN ?_ _ | refine Below.drew ?_))⟩
theorem uint_rs (rb : Nat) (most : Int) (q : Option (List Int)) (w : World) (h : RS w rb q) :
    Calls Tryz.prog 61 #[.pointer (some ⟨rb, 0, none⟩), .int .u64 most] w fun e w' =>
      e = .returned (.int .u64 (((q.bind (uintR most)).map Prod.fst).getD 0)) ∧ Frm [rb] w w' ∧ RS w' rb ((q.bind (uintR most)).map Prod.snd) := by
  cases q with
  | none =>
    obtain ⟨n, z, er, he, h⟩ := h
    refine (stopUint rb most _ _ w (h.cell1 he)).mono ?_
    rintro e w' ⟨rfl, hb⟩
    exact ⟨rfl, Frm.ofBelow hb, n, z, er, he, h.keep hb⟩
  | some l =>
    refine (rdUint_any rb _ _ most w h.1).mono ?_
    rintro e w' ⟨rfl, hF, hR⟩
    simp only [Option.bind_some, uintR]
    by_cases hE : uE l.length (fn l) most = 0
    · rw [if_pos hE]
      rw [hE] at hR
      exact ⟨rfl, hF, hR.drop, by have := h.2; simp; omega⟩
    · rw [if_neg hE]
      refine ⟨?_, hF, _, _, _, hE, hR⟩
      simp [uV, hE]
theorem count_rs (rb : Nat) (most : Int) (l : List Int) (w : World) (h : RS w rb (some l)) (hm : most ≤ 9223372036854775807) :
    Calls Tryz.prog 60 #[.pointer (some ⟨rb, 0, none⟩), .int .i64 most] w fun e w' =>
      e = .returned (.int .i64 (((countR most l).map Prod.fst).getD 0)) ∧ Frm [rb] w w' ∧ RS w' rb ((countR most l).map Prod.snd) := by
  refine (rdCount_any rb _ _ most w h.2 hm h.1).mono ?_
  rintro e w' ⟨rfl, hF, hR⟩
  simp only [countR]
  by_cases hE : cE l.length (fn l) most = 0
  · rw [if_pos hE]
    rw [hE] at hR
    exact ⟨rfl, hF, hR.drop, by have := h.2; simp; omega⟩
  · rw [if_neg hE]
    refine ⟨?_, hF, _, _, _, hE, hR⟩
    simp [cV, hE]
theorem bytes_rs (rb : Nat) (most : Int) (q : Option (List Int)) (w : World) (h : RS w rb q) :
    Calls Tryz.prog 64 #[.pointer (some ⟨rb, 0, none⟩), .int .i64 most] w fun e w' =>
      ∃ ad cap, e = .returned (.slice ad (((q.bind (bytesR most)).map Prod.fst).getD []).length cap) ∧ Own w w' ad cap (((q.bind (bytesR most)).map Prod.fst).getD []) ∧ Frm [rb] w w' ∧ RS w' rb ((q.bind (bytesR most)).map Prod.snd) := by
  cases q with
  | none =>
    obtain ⟨n, z, er, he, h⟩ := h
    refine (stopBytes rb most _ _ w (h.cell1 he)).mono ?_
    rintro e w' ⟨rfl, hb⟩
    exact ⟨none, 0, rfl, ⟨Nat.le_refl _, SlAt.zero _ _, (fun _ => ⟨rfl, rfl⟩), fun a h => by cases h⟩, Frm.ofBelow hb, n, z, er, he, h.keep hb⟩
  | some l =>
    refine (rdBytes_any rb _ _ most w h.2 h.1).mono ?_
    rintro e w' ⟨ad, cap, rfl, hO, hF, hR⟩
    simp only [Option.bind_some, bytesR]
    by_cases hE : (bR l.length (fn l) most).2.2 = 0
    · rw [if_pos hE]
      rw [hE] at hR
      exact ⟨ad, cap, rfl, hO, hF, hR.drop, by have := h.2; simp; omega⟩
    · rw [if_neg hE]
      have hc := (bR_cases l.length (fn l) most).2 hE
      rw [hc.1] at hO ⊢
      exact ⟨ad, cap, rfl, hO, hF, _, _, _, hE, hR⟩
/-- Is all taken off? -/
def endsR (q : Option (List Int)) : Bool := match q with | some [] => true | _ => false
theorem done_rs (rb : Nat) (q : Option (List Int)) (w : World) (h : RS w rb q) :
    Calls Tryz.prog 62 #[.pointer (some ⟨rb, 0, none⟩)] w fun e w' => (∃ x, e = .returned (errV x) ∧ (endsR q = true ↔ x = 0)) ∧ w' = w := by
  cases q with
  | none =>
    obtain ⟨n, z, er, he, h⟩ := h
    refine (done_any rb n z er w h).mono ?_
    rintro e w' ⟨rfl, rfl⟩
    refine ⟨⟨_, rfl, ?_⟩, rfl⟩
    simp [endsR, dn, he]
  | some l =>
    refine (done_any rb _ _ 0 w h.1).mono ?_
    rintro e w' ⟨rfl, rfl⟩
    refine ⟨⟨_, rfl, ?_⟩, rfl⟩
    cases l <;> simp [endsR, dn]
theorem readE_rs (ad : Option Addr) (cap : Nat) (l : List Int) (w : World) (hs : SlAt w ad l.length (fn l)) (hnil : ad = none → l.length = 0 ∧ cap = 0) (hn : l.length ≤ 140737488351232) :
    Calls Tryz.prog 59 #[.slice ad l.length cap] w fun e w' => ∃ rb, e = .returned (.pointer (some ⟨rb, 0, none⟩)) ∧ RS w' rb (some l) ∧ w.heap.size ≤ rb ∧ Below w.heap.size w w' := by
  refine (readE_any ad l.length cap (fn l) w hs hnil hn).mono ?_
  rintro e w' ⟨rb, rfl, h1, h2, h3⟩
  exact ⟨rb, rfl, ⟨h1, hn⟩, h2, h3⟩
end Go.Proofs.YtidmpblaeohfaaaGreatDoor
