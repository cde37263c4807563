/- Which places the root page tells: what is read. -/
import Derived.Test.YtidmpblaeohfaaaGreatDoorSRd
import Derived.Test.YtidmpblaeohfaaaGreatDoorSBase
import Derived.Test.YtidmpblaeohfaaaGreatDoorSStore
import Derived.Test.YtidmpblaeohfaaaGreatDoorSIow
namespace Go.Proofs.YtidmpblaeohfaaaGreatDoor
open Go.RowKit

attribute [local go_sem ↓] Go.wp_at_zero Go.wp_at_succ

/-- What is left behind i numbers; the number i. -/
def stN (most : Int) : Nat → Option (List Int) → Option (List Int)
  | 0, q => q
  | i + 1, q => ((stN most i q).bind (uintR most)).map Prod.snd
def vlN (most : Int) (i : Nat) (q : Option (List Int)) : Int := (((stN most i q).bind (uintR most)).map Prod.fst).getD 0
def vals (most : Int) (k : Nat) (q : Option (List Int)) : List Int := (List.range k).map fun i => vlN most i q
theorem vals_length (most : Int) (k : Nat) (q : Option (List Int)) : (vals most k q).length = k := by simp [vals]
def riseI : Int → List Int → Bool
  | _, [] => true
  | b, x :: r => if x ≤ b then false else riseI x r
/-- The places that a root page tells. -/
def rootR (last : Int) (b : List Int) : Option (List Int) :=
  if b.length = 0 then some [] else
    if endsR (stN last (((countR last b).map Prod.fst).getD 0).toNat ((countR last b).map Prod.snd)) = true ∧ riseI 0 (vals last (((countR last b).map Prod.fst).getD 0).toNat ((countR last b).map Prod.snd)) = true
    then some (vals last (((countR last b).map Prod.fst).getD 0).toNat ((countR last b).map Prod.snd)) else none
theorem uV_le {n : Nat} {z : Nat → Int} {most : Int} (h : uE n z most = 0) : uV n z most ≤ most := by
  rw [uV, if_pos h]
  unfold uE at h
  split at h
  · simp at h
  · split at h
    · simp at h
    · split at h
      · split at h
        · simp at h
        · rename_i h4; omega
      · rename_i h3; exact absurd h h3
theorem bd_fn {l : List Int} (h : ∀ y, y ∈ l → 0 ≤ y ∧ y ≤ 255) : ∀ j, j < l.length → 0 ≤ fn l j ∧ fn l j ≤ 255 := fn_bd h
theorem uintR_bd {most v : Int} {l r : List Int} (hl : ∀ y, y ∈ l → 0 ≤ y ∧ y ≤ 255) (h : uintR most l = some (v, r)) : 0 ≤ v ∧ v ≤ most ∧ ∀ y, y ∈ r → 0 ≤ y ∧ y ≤ 255 := by
  unfold uintR at h
  split at h
  · rename_i hE
    cases h
    have h1 := uV_bd (n := l.length) (z := fn l) most (bd_fn hl)
    exact ⟨h1.1, uV_le hE, fun y hy => hl y (List.mem_of_mem_drop hy)⟩
  · cases h
theorem countR_bd {most v : Int} {l r : List Int} (h0 : 0 ≤ most) (hl : ∀ y, y ∈ l → 0 ≤ y ∧ y ≤ 255) (h : countR most l = some (v, r)) : 0 ≤ v ∧ v ≤ most ∧ ∀ y, y ∈ r → 0 ≤ y ∧ y ≤ 255 := by
  unfold countR at h
  split at h
  · rename_i hE
    cases h
    have hu := cE_u hE
    have hm : max most 0 = most := by omega
    have h1 := uV_bd (n := l.length) (z := fn l) (max most 0) (bd_fn hl)
    rw [cV, if_pos hE]
    have h2 := uV_le hu
    rw [hm] at h1 h2 ⊢
    exact ⟨h1.1, h2, fun y hy => hl y (List.mem_of_mem_drop hy)⟩
  · cases h
def QBd (q : Option (List Int)) : Prop := ∀ l, q = some l → ∀ y, y ∈ l → 0 ≤ y ∧ y ≤ 255
theorem stN_bd {most : Int} {q : Option (List Int)} (h : QBd q) : ∀ i, QBd (stN most i q)
  | 0 => h
  | i + 1 => fun l hl y hy => by
    have ih := stN_bd (most := most) h i
    unfold stN at hl
    cases hs : stN most i q with
    | none => rw [hs] at hl; cases hl
    | some l0 =>
      rw [hs] at hl
      simp only [Option.bind_some] at hl
      cases hu : uintR most l0 with
      | none => rw [hu] at hl; cases hl
      | some x =>
        rw [hu] at hl
        cases hl
        exact (uintR_bd (ih l0 hs) hu).2.2 y hy
theorem vlN_bd {most : Int} {q : Option (List Int)} (h0 : 0 ≤ most) (h : QBd q) (i : Nat) : 0 ≤ vlN most i q ∧ vlN most i q ≤ most := by
  unfold vlN
  have hb := stN_bd (most := most) h i
  cases hs : stN most i q with
  | none => simpa using h0
  | some l0 =>
    simp only [Option.bind_some]
    cases hu : uintR most l0 with
    | none => simpa using h0
    | some x => have := uintR_bd (hb l0 hs) hu; simpa using ⟨this.1, this.2.1⟩
theorem CtAt.last_le {w : World} {G : Nat → Prop} {p : Nat} {c : Ct} (h : CtAt w G p c) (pg : Int) : (c.last pg).length ≤ 4096 := by
  obtain ⟨S, ⟨q, lo, F, h0, _⟩, rfl⟩ := h
  rw [← ct_last]
  exact (lastB_in h0).1.len
set_option maxRecDepth 100000 in
set_option maxHeartbeats 800000 in
theorem rise_any (ad : Option Addr) (cap : Nat) (ps : List Int) (w : World) (h : IsL w ad ps) (hl : ps.length ≤ 1000000) :
    Calls Tryz.prog 63 #[.slice ad ps.length cap] w fun e w' => e = .returned (.bool (riseI 0 ps)) ∧ w' = w := by
  have HL : Hid (IsL w ad ps) := h
  clear h
  obtain ⟨R, hR⟩ : ∃ R, riseI 0 ps = R := ⟨_, rfl⟩
  rw [hR]
  have HR : Hid (riseI 0 ps = R) := hR
  clear hR
  go_enter Tryz.func63, Tryz.ntmps63
  go_wp2
  go_loopw [3, 8] (fun bv iv wr => ∃ (i : Nat) (b : Int), i ≤ ps.length ∧ iv = .int .i64 i ∧ bv = .int .i64 b ∧ riseI b (ps.drop i) = R ∧ wr = w) (fun _ iv _ => ps.length - (intOf iv).toNat)
  case atStart => exact ⟨0, 0, Nat.zero_le _, rfl, rfl, HR.out, rfl⟩
  case round =>
    obtain ⟨i, b, hi, rfl, rfl, hr, rfl⟩ := hrel
    by_cases hlt : i < ps.length
    · have hlt' : (i : Int) < ps.length := by omega
      have hx : ps[i]? = some ps[i] := List.getElem?_eq_getElem hlt
      have hdr : ps.drop i = ps[i] :: ps.drop (i + 1) := List.drop_eq_getElem_cons hlt
      obtain ⟨bb, off, rfl, hc⟩ := HL.out (by omega)
      have hcx := hc i _ hx
      rw [hdr, riseI] at hr
      clear hc hx hdr
      generalize ps[i] = x at *
      by_cases hle : x ≤ b
      · rw [if_pos hle] at hr
        have HE : Hid (false = R) := hr
        clear hr
        go_wp2
        go_ret
        exact ⟨by rw [← HE.out]; rfl, rfl⟩
      · rw [if_neg hle] at hr
        have HE : Hid (riseI x (ps.drop (i + 1)) = R) := hr
        clear hr
        go_wp2
        refine ⟨⟨i + 1, x, by omega, by go_num, rfl, HE.out, by trivial⟩, by simp [intOf]; omega⟩
    · obtain rfl : i = ps.length := by omega
      have hlt' : ¬ ((ps.length : Int) < ps.length) := by omega
      rw [List.drop_length] at hr
      have HE : Hid (true = R) := hr
      clear hr
      go_wp2
      go_ret
      exact ⟨by rw [← HE.out]; rfl, rfl⟩
end Go.Proofs.YtidmpblaeohfaaaGreatDoor
