/- Read; Sync. -/
import Derived.Test.YtidmpblaeohfaaaGreatDoorPLast
namespace Go.Proofs.YtidmpblaeohfaaaGreatDoor
open Go.RowKit

attribute [local go_sem ↓] Go.wp_at_zero Go.wp_at_succ

def rdE (S : St) (pg : Int) : Int := if ¬ (0 ≤ pg ∧ pg < S.safe.length) then 1 else if S.down = true then 13 else 0
/-- What a read answers. -/
def RdR (w : World) (l : List Int) (e : Ending) (w' : World) : Prop := ∃ ad cap, e = .returned (.tuple #[.slice ad l.length cap, .nilIface]) ∧ Ow w w' (.slice ad l.length cap) l
set_option maxRecDepth 100000 in
set_option maxHeartbeats 1600000 in
theorem read_ok (p q : Nat) (lo : Value) (F : Nat → Prop) (S : St) (pg : Int) (w : World) (h : St0 w p q lo F S) (hp : 0 ≤ pg ∧ pg < S.safe.length) (hd : S.down = false) :
    Calls Tryz.prog 23 #[.pointer (some ⟨p, 0, none⟩), .int .i64 pg] w (RdR w (lastB S pg).l) := by
  have hh := has_any p q lo F S pg w h
  have e1 : decide (0 ≤ pg ∧ pg < S.safe.length) = true := by simp [hp]
  rw [e1] at hh
  have h4 := h.c4
  rw [hd] at h4
  have hla := last_any p q lo F S pg w h hp
  have hcl : Hid (∀ w', Below w.heap.size w w' → Calls Tryz.prog 31 #[(lastB S pg).v] w' (ClR w' (lastB S pg).l)) := fun w' hb => by
    obtain ⟨h1, h2⟩ := lastB_in (pg := pg) h
    have h3 := h1.keep (w' := w') h2 fun k hk => hb.block k (h.ltF k hk)
    have := h3.len
    exact clone_any _ _ _ _ h3.lies h3.nil h3.bd (by omega)
  clear h hd e1 hp
  obtain ⟨xa, xn, xc, hv⟩ : ∃ a n c, (lastB S pg).v = .slice a n c := ⟨_, _, _, rfl⟩
  rw [hv] at hla hcl
  go_enter Tryz.func23, Tryz.ntmps23
  go_wp2_with fail
  refine hh.mono ?_
  rintro e w0 ⟨rfl, hw0⟩
  rw [hw0]
  clear hh hw0 w0
  go_wp2_with fail
  refine hla.mono ?_
  rintro e w1 ⟨rfl, hb1⟩
  have hc2 := hcl.out w1 hb1
  clear hla hcl
  go_wp2_with fail
  refine hc2.mono ?_
  rintro e w2 ⟨ad, cap, rfl, how⟩
  have HE : Hid (RdR w (lastB S pg).l (.returned (.tuple #[.slice ad (lastB S pg).l.length cap, .nilIface])) w2) := ⟨ad, cap, rfl, how.mono hb1⟩
  clear how hc2
  generalize (lastB S pg).l = l at *
  go_wp2
  go_ret2
  exact HE.out
set_option maxRecDepth 100000 in
set_option maxHeartbeats 1600000 in
theorem read_bad (p q : Nat) (lo : Value) (F : Nat → Prop) (S : St) (pg : Int) (w : World) (h : St0 w p q lo F S) (hn : rdE S pg ≠ 0) :
    Calls Tryz.prog 23 #[.pointer (some ⟨p, 0, none⟩), .int .i64 pg] w fun e w' => e = .returned (.tuple #[.slice none 0 0, errV (rdE S pg)]) ∧ w' = w := by
  have hh := has_any p q lo F S pg w h
  have h4 := h.c4
  clear h
  unfold rdE at hn ⊢
  by_cases hp : 0 ≤ pg ∧ pg < S.safe.length
  · have e1 : decide (0 ≤ pg ∧ pg < S.safe.length) = true := by simp [hp]
    rw [if_neg (by simpa using hp)] at hn ⊢
    by_cases hd : S.down = true
    · rw [if_pos hd]
      rw [e1] at hh
      rw [hd] at h4
      clear hn hp e1 hd
      rw [errV_ne (by decide)]
      go_enter Tryz.func23, Tryz.ntmps23
      go_wp2_with fail
      refine hh.mono ?_
      rintro e w0 ⟨rfl, hw0⟩
      rw [hw0]
      clear hh hw0 w0
      go_wp2
      go_ret2
      exact ⟨rfl, rfl⟩
    · rw [if_neg hd] at hn; exact absurd rfl hn
  · have e1 : decide (0 ≤ pg ∧ pg < S.safe.length) = false := by simpa using hp
    rw [if_pos hp]
    rw [e1] at hh
    clear hn hp e1 h4
    rw [errV_ne (by decide)]
    go_enter Tryz.func23, Tryz.ntmps23
    go_wp2_with fail
    refine hh.mono ?_
    rintro e w0 ⟨rfl, hw0⟩
    rw [hw0]
    clear hh hw0 w0
    go_wp2
    go_ret2
    exact ⟨rfl, rfl⟩
/-- Which error a write answers, ahead of its step. -/
def wrE (S : St) (pg : Int) (n : Nat) : Int := if ¬ (0 ≤ pg ∧ pg < S.safe.length) then 1 else if 4096 < n then 2 else if S.down = true then 13 else 0
set_option maxRecDepth 100000 in
set_option maxHeartbeats 1600000 in
theorem write_bad (p q : Nat) (lo : Value) (F : Nat → Prop) (S : St) (pg : Int) (ad : Option Addr) (n cap : Nat) (w : World) (h : St0 w p q lo F S) (hn : wrE S pg n ≠ 0) :
    Calls Tryz.prog 10 #[.pointer (some ⟨p, 0, none⟩), .int .i64 pg, .slice ad n cap] w fun e w' => e = .returned (errV (wrE S pg n)) ∧ w' = w := by
  have hh := has_any p q lo F S pg w h
  have h4 := h.c4
  clear h
  unfold wrE at hn ⊢
  by_cases hp : 0 ≤ pg ∧ pg < S.safe.length
  · have e1 : decide (0 ≤ pg ∧ pg < S.safe.length) = true := by simp [hp]
    rw [if_neg (by simpa using hp)] at hn ⊢
    rw [e1] at hh
    clear hp e1
    by_cases hl : 4096 < n
    · rw [if_pos hl]
      have hlI : (4096 : Int) < (n : Int) := by omega
      clear hn
      rw [errV_ne (by decide)]
      go_enter Tryz.func10, Tryz.ntmps10
      go_wp2_with fail
      refine hh.mono ?_
      rintro e w0 ⟨rfl, hw0⟩
      rw [hw0]
      clear hh hw0 w0
      go_wp2
      go_ret
      exact ⟨rfl, rfl⟩
    · rw [if_neg hl] at hn ⊢
      have hlI : ¬ (4096 : Int) < (n : Int) := by omega
      by_cases hd : S.down = true
      · rw [if_pos hd]
        rw [hd] at h4
        clear hn hd
        rw [errV_ne (by decide)]
        go_enter Tryz.func10, Tryz.ntmps10
        go_wp2_with fail
        refine hh.mono ?_
        rintro e w0 ⟨rfl, hw0⟩
        rw [hw0]
        clear hh hw0 w0
        go_wp2
        go_ret
        exact ⟨rfl, rfl⟩
      · rw [if_neg hd] at hn; exact absurd rfl hn
  · have e1 : decide (0 ≤ pg ∧ pg < S.safe.length) = false := by simpa using hp
    rw [if_pos hp]
    rw [e1] at hh
    clear hn hp e1 h4
    rw [errV_ne (by decide)]
    go_enter Tryz.func10, Tryz.ntmps10
    go_wp2_with fail
    refine hh.mono ?_
    rintro e w0 ⟨rfl, hw0⟩
    rw [hw0]
    clear hh hw0 w0
    go_wp2
    go_ret
    exact ⟨rfl, rfl⟩
end Go.Proofs.YtidmpblaeohfaaaGreatDoor
