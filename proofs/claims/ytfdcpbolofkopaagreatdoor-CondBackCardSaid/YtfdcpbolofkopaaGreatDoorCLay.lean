/- cond.lay: ints laid by a writer. -/
import Derived.Test.YtfdcpbolofkopaaGreatDoorEWrHash
import Derived.Test.YtfdcpbolofkopaaGreatDoorEStr
import Derived.Test.YtfdcpbolofkopaaGreatDoorCBase
namespace Go.Proofs.YtfdcpbolofkopaaGreatDoor
open Go.RowKit

/-- An int as a number from 0 on. -/
def u64 (n : Int) : Int := IntKind.u64.wrap n
theorem u64_bd (n : Int) : 0 ≤ u64 n ∧ u64 n ≤ 18446744073709551615 := by
  unfold u64
  simp [IntKind.wrap, IntKind.bits, IntKind.signed]
  omega
theorem u64_nat (n : Nat) (h : n ≤ 9223372036854775807) : u64 (n : Int) = n := by
  unfold u64
  simp [IntKind.wrap, IntKind.bits, IntKind.signed]
  omega
/-- Ints as they are laid. -/
def laidK (z : Nat → Int) : Nat → List Int
  | 0 => []
  | j + 1 => laidK z j ++ uB (u64 (z j))
theorem uB_len (n : Int) : (uB n).length ≤ 9 := by
  have := sz_le n
  simp [uB, dgs_length]
  omega
theorem laidK_len (z : Nat → Int) : ∀ j, (laidK z j).length ≤ 9 * j
  | 0 => by simp [laidK]
  | j + 1 => by
    have h1 := laidK_len z j
    have h2 := uB_len (u64 (z j))
    simp only [laidK, List.length_append]
    omega
theorem laidK_congr {z y : Nat → Int} : ∀ n, (∀ j, j < n → z j = y j) → laidK z n = laidK y n
  | 0, _ => rfl
  | n + 1, h => by rw [laidK, laidK, laidK_congr n (fun j hj => h j (by omega)), h n (by omega)]
theorem WrGrown.refl {w : World} {B p : Nat} {g : Option Nat} {l : List Int} (h : WrAt w B p g l) : WrGrown w w B p g l := ⟨g, h, Frm.refl _ _, .inl rfl⟩
theorem WrGrown.next {w w1 w2 : World} {B p : Nat} {g g1 : Option Nat} {l l' : List Int} (h : WrGrown w w1 B p g l) (h1 : WrAt w1 B p g1 l) (h2 : WrGrown w1 w2 B p g1 l') : WrGrown w w2 B p g l' :=
  h.trans fun g' hg' => by rw [hg'.same h1]; exact h2
theorem isAt_frm {S : List Nat} {w w' : World} {ad : Option Addr} {n : Nat} {z : Nat → Int} (h : IsAt w ad n z) (hf : Frm S w w') (ha : ∀ a, ad = some a → a.block ∉ S) : IsAt w' ad n z := by
  intro hn
  obtain ⟨b, off, e, hc⟩ := h hn
  refine ⟨b, off, e, fun j hj => ?_⟩
  have h1 := hc j hj
  rw [World.cell?_of_block (a := ⟨b, off + j, none⟩) (hf.block b (World.block_lt_of_cell? w ⟨b, off + j, none⟩ h1) (ha _ e))]
  exact h1

set_option maxHeartbeats 1600000 in
theorem lay_any (p B : Nat) (g : Option Nat) (l : List Int) (ad : Option Addr) (n cap : Nat) (z : Nat → Int) (w : World) (hw : WrAt w B p g l) (hl : l.length + 9 * n + 16 ≤ 140737488355328) (hI : IsAt w ad n z) (ha : 0 < n → ∀ a, ad = some a → a.block ∉ p :: g.toList) (hn : n ≤ 1000000) :
    Calls Tryz.prog 31 #[.pointer (some ⟨p, 0, none⟩), .slice ad n cap] w fun e w' => e = .returned (.tuple #[]) ∧ WrGrown w w' B p g (l ++ laidK z n) := by
  have HI : Hid (IsAt w ad n z ∧ (0 < n → ∀ a, ad = some a → a.block ∉ p :: g.toList)) := ⟨hI, ha⟩
  have h0 : WrGrown w w B p g (l ++ laidK z 0) := by simpa [laidK] using WrGrown.refl hw
  clear hI ha hw
  go_enter Tryz.func31, Tryz.ntmps31
  go_wp2
  go_loopw [5, 8] (fun _ iv wr => ∃ i : Nat, i ≤ n ∧ iv = .int .i64 i ∧ WrGrown w wr B p g (l ++ laidK z i)) (fun _ iv _ => n + 1 - (intOf iv).toNat)
  case atStart => exact ⟨0, by omega, rfl, h0⟩
  case round =>
    clear h0
    obtain ⟨i, hi, rfl, hW⟩ := hrel
    have HW : Hid (WrGrown w wr B p g (l ++ laidK z i)) := hW
    clear hW
    by_cases hlt : i < n
    · have hlt' : (i : Int) < n := by omega
      obtain ⟨g1, hA1, hF1, -⟩ := HW.out
      obtain ⟨b, off, rfl, hc⟩ := (isAt_frm HI.out.1 hF1 (HI.out.2 (by omega))) (by omega)
      have hci := hc i hlt
      have hbd := u64_bd (z i)
      have hll := laidK_len z i
      have hcall := wrUint_any p B g1 (l ++ laidK z i) (u64 (z i)) wr hA1 (by simp; omega) hbd
      have HA : Hid (WrAt wr B p g1 (l ++ laidK z i)) := hA1
      clear hc hF1 hA1
      unfold u64 at hcall
      go_wp2_with (go_at_call 58; refine hcall.mono ?_; rintro e w1 ⟨rfl, hW1⟩)
      have HN : Hid (WrGrown w w1 B p g (l ++ laidK z (i + 1))) := by
        have := HW.out.next HA.out hW1
        rw [List.append_assoc] at this
        exact this
      clear hW1 hcall
      go_roundw
      case rel => exact ⟨i + 1, by omega, by go_num, HN.out⟩
      case measure => simp [intOf]; omega
    · obtain rfl : i = n := by omega
      have hnn : ¬ ((i : Int) < i) := by omega
      have hW := HW.out
      go_wp2
      go_end0
      exact ⟨rfl, hW⟩
end Go.Proofs.YtfdcpbolofkopaaGreatDoor
