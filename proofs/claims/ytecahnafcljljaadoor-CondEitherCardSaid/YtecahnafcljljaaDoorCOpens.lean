/- cond.Opens of a condition that just asks for keys: whether all of them have signed. -/
import Derived.Test.YtecahnafcljljaaDoorCAll
import Derived.Test.YtecahnafcljljaaDoorCChk
namespace Go.Proofs.YtecahnafcljljaaDoor
open Go.RowKit Go.Shelf Go.Sort

/-- Whether an int is among some. -/
def hasK (sz : Nat → Int) (sn : Nat) (k : Int) : Bool := (keysL sz sn).contains k

theorem has_any (sa : Option Addr) (sn sc : Nat) (sz : Nat → Int) (k : Int) (w : World) (hI : IsAt w sa sn sz) (hn : sn ≤ 1000000) :
    Calls Tryd.prog 24 #[.slice sa sn sc, .int .i64 k] w fun e w' => e = .returned (.bool (hasK sz sn k)) ∧ w' = w := by
  rcases Nat.eq_zero_or_pos sn with h0 | hp
  · subst h0
    have hcon := Any.slices_Contains_int_empty Tryd.lContains sa sc k w
    change Calls Tryd.prog 24 _ _ _ at hcon
    exact hcon
  · obtain ⟨b, off, rfl, hc⟩ := hI hp
    have hcon := Any.slices_Contains_int Tryd.lContains b off sn sc (keysL sz sn) k w (by simp [keysL]) (by omega) (fun j hj => by
      rw [keysL_length] at hj
      rw [hc j hj, keysL_getD sz sn j hj])
    have ht : (keysL sz sn).take sn = keysL sz sn := List.take_of_length_le (by simp [keysL])
    rw [ht] at hcon
    change Calls Tryd.prog 24 _ _ _ at hcon
    exact hcon

theorem missing_any (sb : Nat) (sa : Option Addr) (sn sc : Nat) (sz : Nat → Int) (k : Int) (w : World) (hc : w.cell? ⟨sb, 0, none⟩ = some (.slice sa sn sc)) (hI : IsAt w sa sn sz) (hn : sn ≤ 1000000) :
    Calls Tryd.prog 23 #[.int .i64 k, .pointer (some ⟨sb, 0, none⟩)] w fun e w' => e = .returned (.bool (!hasK sz sn k)) ∧ w' = w := by
  have hh := has_any sa sn sc sz k w hI hn
  generalize hasK sz sn k = r at *
  go_enter Tryd.func23, Tryd.ntmps23
  go_wp2_with (go_at_call 24; refine hh.mono ?_; rintro e w1 ⟨rfl, rfl⟩)
  go_ret
  exact ⟨rfl, rfl⟩

/-- All of some keys are among those that signed. -/
def AllIn (z : Nat → Int) (n : Nat) (sz : Nat → Int) (sn : Nat) : Prop := ∀ j, j < n → hasK sz sn (z j) = true
instance (z : Nat → Int) (n : Nat) (sz : Nat → Int) (sn : Nat) : Decidable (AllIn z n sz sn) := inferInstanceAs (Decidable (∀ j, j < n → _))

set_option maxHeartbeats 1600000 in
theorem indexI_any (ka : Option Addr) (n kc : Nat) (z : Nat → Int) (sb : Nat) (sa : Option Addr) (sn sc : Nat) (sz : Nat → Int) (w : World) (h : IsAt w ka n z) (hn : n ≤ 1000000) (hc : w.cell? ⟨sb, 0, none⟩ = some (.slice sa sn sc)) (hI : IsAt w sa sn sz) (hsn : sn ≤ 1000000) :
    Calls Tryd.prog 41 #[.slice ka n kc, .func (.func 23) #[] #[.pointer (some ⟨sb, 0, none⟩)]] w fun e w' => (∃ q : Int, e = .returned (.int .i64 q) ∧ decide (q ≥ 0) = !decide (AllIn z n sz sn)) ∧ Below w.heap.size w w' := by
  have HB : Hid (IsAt w ka n z) := h
  have HS : Hid (w.cell? ⟨sb, 0, none⟩ = some (.slice sa sn sc) ∧ IsAt w sa sn sz) := ⟨hc, hI⟩
  have hb0 := Below.refl w.heap.size w
  have eg : ∀ args w, (callFunc 23 args).run Tryd.prog w = .ok (.enter 23 args) w := enters_of Tryd.func23 (by kernel_rfl) rfl
  clear h hc hI
  go_enter Tryd.func41, Tryd.ntmps41
  go_wp2
  go_loopw [5, 8] (fun _ iv wr => ∃ i : Nat, i ≤ n ∧ iv = .int .i64 i ∧ AllIn z i sz sn ∧ Below w.heap.size w wr) (fun _ iv _ => n + 1 - (intOf iv).toNat)
  case atStart => exact ⟨0, by omega, rfl, fun j hj => by omega, hb0⟩
  case round =>
    clear hb0
    obtain ⟨i, hi, rfl, hk, hb⟩ := hrel
    have HK : Hid (AllIn z i sz sn) := hk
    clear hk
    by_cases hlt : i < n
    · have hlt' : (i : Int) < n := by omega
      obtain ⟨b, off, rfl, hc⟩ := HB.out (by omega)
      have hci : wr.cell? ⟨b, off + i, none⟩ = some (.int .i64 (z i)) := by
        have := hc i hlt
        rw [hb.cell (p := ⟨b, off + i, none⟩) (World.block_lt_of_cell? w ⟨b, off + i, none⟩ this)]; exact this
      have hcall := missing_any sb sa sn sc sz (z i) wr (by rw [hb.cell (p := ⟨sb, 0, none⟩) (World.block_lt_of_cell? w ⟨sb, 0, none⟩ HS.out.1)]; exact HS.out.1) (HS.out.2.below hb) hsn
      clear hc
      by_cases hq : hasK sz sn (z i) = true
      · rw [hq] at hcall
        have HN : Hid (AllIn z (i + 1) sz sn) := fun j hj => by
          by_cases e : j = i
          · subst e; exact hq
          · exact HK.out j (by omega)
        clear hq
        go_wp2_with (first | (go_at_fn 23; refine hcall.mono ?_; rintro e w1 ⟨rfl, rfl⟩) | fail)
        go_roundw
        case rel => exact ⟨i + 1, by omega, by go_num, HN.out, hb⟩
        case measure => simp [intOf]; omega
      · have e1 : hasK sz sn (z i) = false := by simpa using hq
        rw [e1] at hcall
        have HN : Hid (¬ AllIn z n sz sn) := fun h => hq (h i hlt)
        clear e1 hq
        go_wp2_with (first | (go_at_fn 23; refine hcall.mono ?_; rintro e w1 ⟨rfl, rfl⟩) | fail)
        go_ret
        refine ⟨⟨_, rfl, ?_⟩, hb⟩
        have := HN.out
        simp [this]
    · obtain rfl : i = n := by omega
      have hnn : ¬ ((i : Int) < i) := by omega
      have hk := HK.out
      go_wp2
      go_ret
      refine ⟨⟨_, rfl, ?_⟩, hb⟩
      simp

set_option maxHeartbeats 800000 in
theorem containsI_any (ka : Option Addr) (n kc : Nat) (z : Nat → Int) (sb : Nat) (sa : Option Addr) (sn sc : Nat) (sz : Nat → Int) (w : World) (h : IsAt w ka n z) (hn : n ≤ 1000000) (hc : w.cell? ⟨sb, 0, none⟩ = some (.slice sa sn sc)) (hI : IsAt w sa sn sz) (hsn : sn ≤ 1000000) :
    Calls Tryd.prog 25 #[.slice ka n kc, .func (.func 23) #[] #[.pointer (some ⟨sb, 0, none⟩)]] w fun e w' => e = .returned (.bool (!decide (AllIn z n sz sn))) ∧ Below w.heap.size w w' := by
  have hi := indexI_any ka n kc z sb sa sn sc sz w h hn hc hI hsn
  clear h hc hI
  generalize (!decide (AllIn z n sz sn)) = r at *
  go_enter Tryd.func25, Tryd.ntmps25
  go_wp2_with (go_at_call 41; refine hi.mono ?_; rintro e w1 ⟨⟨q, rfl, hq⟩, hb1⟩)
  all_goals (go_ret; exact ⟨by simp_all, hb1⟩)
end Go.Proofs.YtecahnafcljljaaDoor
