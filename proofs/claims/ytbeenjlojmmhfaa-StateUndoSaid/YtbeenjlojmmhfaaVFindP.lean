/- findPay: where an ID is among them. -/
import Derived.Test.YtbeenjlojmmhfaaVChk
import Derived.Shelf.Abstract
import Derived.Deep.LoopGhost
namespace Go.Proofs.Ytbeenjlojmmhfaa
open Go.RowKit

def cmpI (x y : Int) : Int := if x < y then -1 else if y < x then 1 else 0
theorem cmpI_neg {x y : Int} : cmpI x y < 0 ↔ x < y := by
  unfold cmpI
  by_cases h : x < y
  · simp [h]
  · by_cases h2 : y < x <;> simp [h, h2]
theorem cmpI_zero {x y : Int} : cmpI x y = 0 ↔ x = y := by
  unfold cmpI
  by_cases h : x < y
  · simp [h]; omega
  · by_cases h2 : y < x
    · simp [h, h2]; omega
    · simp [h, h2]; omega
theorem isNaN_any (x : Int) (w : World) : Calls Try.prog 29 #[.int .i64 x] w fun e w' => e = .returned (.bool false) ∧ w' = w := by
  have hx : (x != x) = false := by simp
  go_enter Try.func29, Try.ntmps29
  go_wp2
  go_ret
  exact ⟨rfl, rfl⟩
set_option maxHeartbeats 800000 in
theorem compare_any (x y : Int) (w : World) : Calls Try.prog 19 #[.int .i64 x, .int .i64 y] w fun e w' => e = .returned (.int .i64 (cmpI x y)) ∧ w' = w := by
  have h1 := isNaN_any x
  have h2 := isNaN_any y
  by_cases h : x < y
  · have e : cmpI x y = -1 := by simp [cmpI, h]
    rw [e]
    go_enter Try.func19, Try.ntmps19
    go_wp2_with fail
    refine (h1 _).mono ?_
    rintro e w1 ⟨rfl, hw⟩
    rw [hw]
    go_wp2_with fail
    refine (h2 _).mono ?_
    rintro e w2 ⟨rfl, hw2⟩
    rw [hw2]
    clear h1 h2 hw hw2
    go_wp2
    go_ret
    exact ⟨rfl, rfl⟩
  · by_cases h' : y < x
    · have e : cmpI x y = 1 := by simp [cmpI, h, h']
      rw [e]
      go_enter Try.func19, Try.ntmps19
      go_wp2_with fail
      refine (h1 _).mono ?_
      rintro e w1 ⟨rfl, hw⟩
      rw [hw]
      go_wp2_with fail
      refine (h2 _).mono ?_
      rintro e w2 ⟨rfl, hw2⟩
      rw [hw2]
      clear h1 h2 hw hw2
      go_wp2
      go_ret
      exact ⟨rfl, rfl⟩
    · have e : cmpI x y = 0 := by simp [cmpI, h, h']
      rw [e]
      go_enter Try.func19, Try.ntmps19
      go_wp2_with fail
      refine (h1 _).mono ?_
      rintro e w1 ⟨rfl, hw⟩
      rw [hw]
      go_wp2_with fail
      refine (h2 _).mono ?_
      rintro e w2 ⟨rfl, hw2⟩
      rw [hw2]
      clear h1 h2 hw hw2
      go_wp2
      go_ret
      exact ⟨rfl, rfl⟩
/-- Numbers that rise. -/
def Srt (f : Nat → Int) (n : Nat) : Prop := ∀ a b, a < b → b < n → f a < f b
/-- Where a number is found. -/
structure FndR (f : Nat → Int) (n : Nat) (x : Int) (i : Nat) (b : Bool) : Prop where
  le : i ≤ n
  hit : b = decide (i < n ∧ f i = x)
  lo : Srt f n → ∀ j, j < i → f j < x
  hi : Srt f n → ∀ j, i ≤ j → j < n → x ≤ f j
def FndO (f : Nat → Int) (n : Nat) (x : Int) (e : Ending) : Prop := ∃ (i : Nat) (b : Bool), e = .returned (.tuple #[.int .i64 (i : Int), .bool b]) ∧ FndR f n x i b
section
variable {ops : Array Oper} {rest : List Oper} {o : Oper} {a : Act} {w : World} {Q : Exit → Act → World → Prop}
/-- A payment loaded, guarded or not. -/
theorem wpList_loadPG (hw : Region.wanted o (yielded ops a.tmps) = true) (x : Operand) (ho : o.op = .load 42 x) (b q : Nat) (hx : a.eval x = .pointer (some ⟨b, q, none⟩)) (z : Py) (hc : w.rangeAt b q (pyl z))
    (h : wpList Try.prog ops Q rest (a.put o.dst (.agg (pyv z))) w) : wpList Try.prog ops Q (o :: rest) a w :=
  wpList_wanted hw fun _ hK => wp_load_mid 42 x ho b q hx (pyl z) _ hc Try.underlying42 rfl (szPl z) (hK _ _ h)
end

set_option maxRecDepth 100000 in
set_option maxHeartbeats 800000 in
theorem cmpP_any (x : Py) (id : Int) (w : World) : Calls Try.prog 18 #[.agg (pyv x), .int .i64 id] w fun e w' => e = .returned (.int .i64 (cmpI x.id id)) ∧ Below w.heap.size w w' := by
  have hc := compare_any x.id id
  have hb0 : Below w.heap.size w (w.alloc (.cells (pyv x) 42)) := (Below.refl _ w).alloc (Nat.le_refl _) _
  have c0 : (w.alloc (.cells (pyv x) 42)).cell? ⟨w.heap.size, 0, none⟩ = some (.int .i64 x.id) := by rw [cell_of_row _ _ 0 _ _ _ (heap_alloc_new w _)]; simp [pyv, pyl]
  go_enter Try.func18, Try.ntmps18
  go_wp2_with (first | (refine Go.Great.wpList_boxTo rfl _ _ rfl _ rfl _ rfl (pyv x) rfl ?_) | fail)
  generalize w.alloc (.cells (pyv x) 42) = W0 at *
  refine (hc _).mono ?_
  rintro e w1 ⟨rfl, hw⟩
  rw [hw]
  clear hc hw
  go_wp2
  go_ret
  exact ⟨rfl, hb0⟩
set_option maxRecDepth 100000 in
set_option maxHeartbeats 3200000 in
theorem bsP_any (ad : Option Addr) (n cap : Nat) (X : Nat → Py) (id : Int) (w : World) (h : PyAt w ad n X) (hn : n ≤ 1000000) :
    Calls Try.prog 17 #[.slice ad n cap, .int .i64 id, .func (.func 18) #[] #[]] w fun e w' => FndO (fun j => (X j).id) n id e ∧ Below w.heap.size w w' := by
  have HB : Hid (PyAt w ad n X) := h
  have eg : ∀ args w, (callFunc 18 args).run Try.prog w = .ok (.enter 18 args) w := enters_of Try.func18 (by kernel_rfl) rfl
  have hb0 := Below.refl w.heap.size w
  clear h
  go_enter Try.func17, Try.ntmps17
  go_wp2
  go_loopw [9, 10, 11] (fun lv hv _ wr => ∃ lo hi : Nat, lv = .int .i64 lo ∧ hv = .int .i64 hi ∧ lo ≤ hi ∧ hi ≤ n ∧ (Srt (fun j => (X j).id) n → ∀ j, j < lo → (X j).id < id) ∧ (Srt (fun j => (X j).id) n → ∀ j, hi ≤ j → j < n → id ≤ (X j).id) ∧ Below w.heap.size w wr) (fun lv hv _ _ => (intOf hv).toNat - (intOf lv).toNat)
  case atStart => exact ⟨0, n, rfl, rfl, by omega, by omega, fun _ j hj => by omega, fun _ j h1 h2 => by omega, hb0⟩
  case round =>
    clear hb0
    obtain ⟨lo, hi, rfl, rfl, hlh, hin, hA, hZ, hb⟩ := hrel
    have HA : Hid ((Srt (fun j => (X j).id) n → ∀ j, j < lo → (X j).id < id) ∧ (Srt (fun j => (X j).id) n → ∀ j, hi ≤ j → j < n → id ≤ (X j).id)) := ⟨hA, hZ⟩
    clear hA hZ
    by_cases hlt : lo < hi
    · have hlt' : (lo : Int) < hi := by omega
      obtain ⟨m, hm⟩ : ∃ m : Nat, m = (lo + hi) / 2 := ⟨_, rfl⟩
      have hmi : ((lo : Int) + hi) / 2 = m := by omega
      have hm1 : lo ≤ m ∧ m < hi := by omega
      have hmn : m < n := by omega
      have hmn' : (m : Int) < n := by omega
      obtain ⟨b, off, rfl, hc⟩ := HB.out.at_ (by omega)
      have HR : Hid (wr.rangeAt b (off + m * 36) (pyl (X m))) := range_below (hc m hmn) hb
      have hcall := cmpP_any (X m) id wr
      clear hc hm
      by_cases hq : (X m).id < id
      · have hq' : cmpI (X m).id id < 0 := cmpI_neg.2 hq
        have HN : Hid ((Srt (fun j => (X j).id) n → ∀ j, j < m + 1 → (X j).id < id) ∧ (Srt (fun j => (X j).id) n → ∀ j, hi ≤ j → j < n → id ≤ (X j).id)) := ⟨fun hs j hj => by
          by_cases e : j = m
          · rw [e]; exact hq
          · have := hs j m (by omega) hmn
            dsimp only at this
            omega, HA.out.2⟩
        clear HA hq
        generalize cmpI (X m).id id = cq at *
        go_wp2_with (first | (refine wpList_load_mid rfl 42 _ rfl b (off + m * 36) rfl (pyl (X m)) _ HR.out Try.underlying42 rfl (szPl _) ?_) | (refine wpList_loadPG (by rfl) _ rfl b (off + m * 36) rfl (X m) HR.out ?_) | (go_at_fn 18; refine hcall.mono ?_; rintro e w1 ⟨rfl, hb1⟩) | fail)
        go_roundw
        case rel => exact ⟨m + 1, hi, by go_num, rfl, by omega, by omega, HN.out.1, HN.out.2, hb.trans (hb1.mono hb.size)⟩
        case measure => simp [intOf]; omega
      · have hq' : ¬ cmpI (X m).id id < 0 := fun h => hq (cmpI_neg.1 h)
        have HN : Hid ((Srt (fun j => (X j).id) n → ∀ j, j < lo → (X j).id < id) ∧ (Srt (fun j => (X j).id) n → ∀ j, m ≤ j → j < n → id ≤ (X j).id)) := ⟨HA.out.1, fun hs j h1 h2 => by
          by_cases e : j = m
          · rw [e]; omega
          · have := hs m j (by omega) h2
            dsimp only at this
            omega⟩
        clear HA hq
        generalize cmpI (X m).id id = cq at *
        go_wp2_with (first | (refine wpList_load_mid rfl 42 _ rfl b (off + m * 36) rfl (pyl (X m)) _ HR.out Try.underlying42 rfl (szPl _) ?_) | (refine wpList_loadPG (by rfl) _ rfl b (off + m * 36) rfl (X m) HR.out ?_) | (go_at_fn 18; refine hcall.mono ?_; rintro e w1 ⟨rfl, hb1⟩) | fail)
        go_roundw
        case rel => exact ⟨lo, m, rfl, rfl, by omega, by omega, HN.out.1, HN.out.2, hb.trans (hb1.mono hb.size)⟩
        case measure => simp [intOf]; omega
    · have hnl : ¬ ((lo : Int) < hi) := by omega
      obtain rfl : lo = hi := by omega
      by_cases hmn : lo < n
      · have hmn' : (lo : Int) < n := by omega
        have hm1 : (0 : Int) ≤ lo := by omega
        obtain ⟨b, off, rfl, hc⟩ := HB.out.at_ (by omega)
        obtain ⟨m, hm⟩ : ∃ m : Nat, m = lo := ⟨_, rfl⟩
        subst hm
        have HR : Hid (wr.rangeAt b (off + m * 36) (pyl (X m))) := range_below (hc m hmn) hb
        have hcall := cmpP_any (X m) id wr
        clear hc
        by_cases hq : (X m).id = id
        · have hq' : cmpI (X m).id id = 0 := cmpI_zero.2 hq
          have HN : Hid (FndR (fun j => (X j).id) n id m true) := ⟨hin, by simp [hmn, hq], HA.out.1, HA.out.2⟩
          clear HA hq
          generalize cmpI (X m).id id = cq at *
          go_wp2_with (first | (refine wpList_load_mid rfl 42 _ rfl b (off + m * 36) rfl (pyl (X m)) _ HR.out Try.underlying42 rfl (szPl _) ?_) | (refine wpList_loadPG (by rfl) _ rfl b (off + m * 36) rfl (X m) HR.out ?_) | (go_at_fn 18; refine hcall.mono ?_; rintro e w1 ⟨rfl, hb1⟩) | fail)
          go_ret2
          exact ⟨⟨m, true, rfl, HN.out⟩, hb.trans (hb1.mono hb.size)⟩
        · have hq' : ¬ cmpI (X m).id id = 0 := fun h => hq (cmpI_zero.1 h)
          have hqb : (cmpI (X m).id id == 0) = false := by simpa using hq'
          have HN : Hid (FndR (fun j => (X j).id) n id m false) := ⟨hin, by simp [hq], HA.out.1, HA.out.2⟩
          clear HA hq hq'
          generalize cmpI (X m).id id = cq at *
          go_wp2_with (first | (refine wpList_load_mid rfl 42 _ rfl b (off + m * 36) rfl (pyl (X m)) _ HR.out Try.underlying42 rfl (szPl _) ?_) | (refine wpList_loadPG (by rfl) _ rfl b (off + m * 36) rfl (X m) HR.out ?_) | (go_at_fn 18; refine hcall.mono ?_; rintro e w1 ⟨rfl, hb1⟩) | fail)
          go_ret2
          exact ⟨⟨m, false, rfl, HN.out⟩, hb.trans (hb1.mono hb.size)⟩
      · have hmn' : ¬ (lo : Int) < n := by omega
        have HN : Hid (FndR (fun j => (X j).id) n id lo false) := ⟨hin, by simp [hmn], HA.out.1, HA.out.2⟩
        clear HA
        go_wp2
        go_ret2
        exact ⟨⟨lo, false, rfl, HN.out⟩, hb⟩
theorem findP_any (ad : Option Addr) (n cap : Nat) (X : Nat → Py) (id : Int) (w : World) (h : PyAt w ad n X) (hn : n ≤ 1000000) :
    Calls Try.prog 10 #[.slice ad n cap, .int .i64 id] w fun e w' => FndO (fun j => (X j).id) n id e ∧ Below w.heap.size w w' := by
  have hc := bsP_any ad n cap X id w h hn
  clear h
  go_enter Try.func10, Try.ntmps10
  go_wp2_with fail
  refine hc.mono ?_
  rintro e w1 ⟨⟨i, b, rfl, hf⟩, hb⟩
  have HF : Hid (FndR (fun j => (X j).id) n id i b) := hf
  clear hc hf
  go_wp2
  go_ret2
  exact ⟨⟨i, b, rfl, HF.out⟩, hb⟩
end Go.Proofs.Ytbeenjlojmmhfaa
