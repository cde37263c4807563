/- findHold: where an ID is among them. -/
import Derived.Test.YtchiapnhkhbigaaDoorOwnShelf16
import Derived.Shelf.Abstract
import Derived.Deep.LoopGhost
namespace Go.Proofs.YtchiapnhkhbigaaDoor
open Go.RowKit

def cmpI (x y : Int) : Int := if x < y then -1 else if y < x then 1 else 0
theorem cmpI_neg {x y : Int} : cmpI x y < 0 ↔ x < y := by
  unfold cmpI
  by_cases h : x < y
  · simp [h]
  · by_cases h2 : y < x <;> simp [h, h2]
theorem cmpI_zero {x y : Int} : cmpI x y = 0 ↔ x = y := by
  unfold cmpI
  by_cases h : x < y
  · simp [h]; omega
  · by_cases h2 : y < x
    · simp [h, h2]; omega
    · simp [h, h2]; omega
theorem isNaN_any (x : Int) (w : World) : Calls Tryd.prog 82 #[.int .i64 x] w fun e w' => e = .returned (.bool false) ∧ w' = w := by
  have hx : (x != x) = false := by simp
  go_enter Tryd.func82, Tryd.ntmps82
  go_wp2
  go_ret
  exact ⟨rfl, rfl⟩
set_option maxHeartbeats 800000 in
theorem compare_any (x y : Int) (w : World) : Calls Tryd.prog 58 #[.int .i64 x, .int .i64 y] w fun e w' => e = .returned (.int .i64 (cmpI x y)) ∧ w' = w := by
  have h1 := isNaN_any x
  have h2 := isNaN_any y
  by_cases h : x < y
  · have e : cmpI x y = -1 := by simp [cmpI, h]
    rw [e]
    go_enter Tryd.func58, Tryd.ntmps58
    go_wp2_with fail
    refine (h1 _).mono ?_
    rintro e w1 ⟨rfl, hw⟩
    rw [hw]
    go_wp2_with fail
    refine (h2 _).mono ?_
    rintro e w2 ⟨rfl, hw2⟩
    rw [hw2]
    clear h1 h2 hw hw2
    go_wp2
    go_ret
    exact ⟨rfl, rfl⟩
  · by_cases h' : y < x
    · have e : cmpI x y = 1 := by simp [cmpI, h, h']
      rw [e]
      go_enter Tryd.func58, Tryd.ntmps58
      go_wp2_with fail
      refine (h1 _).mono ?_
      rintro e w1 ⟨rfl, hw⟩
      rw [hw]
      go_wp2_with fail
      refine (h2 _).mono ?_
      rintro e w2 ⟨rfl, hw2⟩
      rw [hw2]
      clear h1 h2 hw hw2
      go_wp2
      go_ret
      exact ⟨rfl, rfl⟩
    · have e : cmpI x y = 0 := by simp [cmpI, h, h']
      rw [e]
      go_enter Tryd.func58, Tryd.ntmps58
      go_wp2_with fail
      refine (h1 _).mono ?_
      rintro e w1 ⟨rfl, hw⟩
      rw [hw]
      go_wp2_with fail
      refine (h2 _).mono ?_
      rintro e w2 ⟨rfl, hw2⟩
      rw [hw2]
      clear h1 h2 hw hw2
      go_wp2
      go_ret
      exact ⟨rfl, rfl⟩
/-- Numbers that rise. -/
def Srt (f : Nat → Int) (n : Nat) : Prop := ∀ a b, a < b → b < n → f a < f b
/-- Where a number is found. -/
structure FndR (f : Nat → Int) (n : Nat) (x : Int) (i : Nat) (b : Bool) : Prop where
  le : i ≤ n
  hit : b = decide (i < n ∧ f i = x)
  lo : Srt f n → ∀ j, j < i → f j < x
  hi : Srt f n → ∀ j, i ≤ j → j < n → x ≤ f j
def FndO (f : Nat → Int) (n : Nat) (x : Int) (e : Ending) : Prop := ∃ (i : Nat) (b : Bool), e = .returned (.tuple #[.int .i64 (i : Int), .bool b]) ∧ FndR f n x i b

set_option maxRecDepth 100000 in
set_option maxHeartbeats 800000 in
theorem cmpH_any (x : Hd) (ka : Option Addr) (kc : Nat) (id : Int) (w : World) : Calls Tryd.prog 57 #[.agg (hdv x ka kc), .int .i64 id] w fun e w' => e = .returned (.int .i64 (cmpI x.id id)) ∧ Below w.heap.size w w' := by
  have hc := compare_any x.id id
  have hb0 : Below w.heap.size w (w.alloc (.cells (hdv x ka kc) 37)) := (Below.refl _ w).alloc (Nat.le_refl _) _
  have c0 : (w.alloc (.cells (hdv x ka kc) 37)).cell? ⟨w.heap.size, 0, none⟩ = some (.int .i64 x.id) := by rw [cell_of_row _ _ 0 _ _ _ (heap_alloc_new w _)]; rfl
  unfold hdv at hb0 c0 ⊢
  go_enter Tryd.func57, Tryd.ntmps57
  go_wp2_with fail
  generalize w.alloc (.cells #[.int .i64 x.id, .int .i64 x.am, .slice ka x.n kc] 37) = W0 at *
  refine (hc _).mono ?_
  rintro e w1 ⟨rfl, hw⟩
  rw [hw]
  clear hc hw
  go_wp2
  go_ret
  exact ⟨rfl, hb0⟩
set_option maxRecDepth 100000 in
set_option maxHeartbeats 3200000 in
theorem bsH_any (ad : Option Addr) (n cap : Nat) (X : Nat → Hd) (id : Int) (w : World) (h : HdAt w ad n X) (hn : n ≤ 1000000) :
    Calls Tryd.prog 56 #[.slice ad n cap, .int .i64 id, .func (.func 57) #[] #[]] w fun e w' => FndO (fun j => (X j).id) n id e ∧ Below w.heap.size w w' := by
  have HB : Hid (HdAt w ad n X) := h
  have eg : ∀ args w, (callFunc 57 args).run Tryd.prog w = .ok (.enter 57 args) w := enters_of Tryd.func57 (by kernel_rfl) rfl
  have hb0 := Below.refl w.heap.size w
  clear h
  go_enter Tryd.func56, Tryd.ntmps56
  go_wp2
  go_loopw [9, 10, 11] (fun lv hv _ wr => ∃ lo hi : Nat, lv = .int .i64 lo ∧ hv = .int .i64 hi ∧ lo ≤ hi ∧ hi ≤ n ∧ (Srt (fun j => (X j).id) n → ∀ j, j < lo → (X j).id < id) ∧ (Srt (fun j => (X j).id) n → ∀ j, hi ≤ j → j < n → id ≤ (X j).id) ∧ Below w.heap.size w wr) (fun lv hv _ _ => (intOf hv).toNat - (intOf lv).toNat)
  case atStart => exact ⟨0, n, rfl, rfl, by omega, by omega, fun _ j hj => by omega, fun _ j h1 h2 => by omega, hb0⟩
  case round =>
    clear hb0
    obtain ⟨lo, hi, rfl, rfl, hlh, hin, hA, hZ, hb⟩ := hrel
    have HA : Hid ((Srt (fun j => (X j).id) n → ∀ j, j < lo → (X j).id < id) ∧ (Srt (fun j => (X j).id) n → ∀ j, hi ≤ j → j < n → id ≤ (X j).id)) := ⟨hA, hZ⟩
    clear hA hZ
    by_cases hlt : lo < hi
    · have hlt' : (lo : Int) < hi := by omega
      obtain ⟨m, hm⟩ : ∃ m : Nat, m = (lo + hi) / 2 := ⟨_, rfl⟩
      have hmi : ((lo : Int) + hi) / 2 = m := by omega
      have hm1 : lo ≤ m ∧ m < hi := by omega
      have hmn : m < n := by omega
      have hmn' : (m : Int) < n := by omega
      obtain ⟨b, off, rfl, hc⟩ := HB.out.at_ (by omega)
      obtain ⟨ka, kc, hr0, _, _⟩ := hc m hmn
      obtain ⟨d0, d1, d2⟩ := hd_cells (range_below hr0 hb)
      have hcall := cmpH_any (X m) ka kc id wr
      unfold hdv at hcall
      clear hr0
      clear hc hm
      by_cases hq : (X m).id < id
      · have hq' : cmpI (X m).id id < 0 := cmpI_neg.2 hq
        have HN : Hid ((Srt (fun j => (X j).id) n → ∀ j, j < m + 1 → (X j).id < id) ∧ (Srt (fun j => (X j).id) n → ∀ j, hi ≤ j → j < n → id ≤ (X j).id)) := ⟨fun hs j hj => by
          by_cases e : j = m
          · rw [e]; exact hq
          · have := hs j m (by omega) hmn
            dsimp only at this
            omega, HA.out.2⟩
        clear HA hq
        generalize cmpI (X m).id id = cq at *
        go_wp2_with (first | fail | (go_at_fn 57; refine hcall.mono ?_; rintro e w1 ⟨rfl, hb1⟩) | fail)
        go_roundw
        case rel => exact ⟨m + 1, hi, by go_num, rfl, by omega, by omega, HN.out.1, HN.out.2, hb.trans (hb1.mono hb.size)⟩
        case measure => simp [intOf]; omega
      · have hq' : ¬ cmpI (X m).id id < 0 := fun h => hq (cmpI_neg.1 h)
        have HN : Hid ((Srt (fun j => (X j).id) n → ∀ j, j < lo → (X j).id < id) ∧ (Srt (fun j => (X j).id) n → ∀ j, m ≤ j → j < n → id ≤ (X j).id)) := ⟨HA.out.1, fun hs j h1 h2 => by
          by_cases e : j = m
          · rw [e]; omega
          · have := hs m j (by omega) h2
            dsimp only at this
            omega⟩
        clear HA hq
        generalize cmpI (X m).id id = cq at *
        go_wp2_with (first | fail | (go_at_fn 57; refine hcall.mono ?_; rintro e w1 ⟨rfl, hb1⟩) | fail)
        go_roundw
        case rel => exact ⟨lo, m, rfl, rfl, by omega, by omega, HN.out.1, HN.out.2, hb.trans (hb1.mono hb.size)⟩
        case measure => simp [intOf]; omega
    · have hnl : ¬ ((lo : Int) < hi) := by omega
      obtain rfl : lo = hi := by omega
      by_cases hmn : lo < n
      · have hmn' : (lo : Int) < n := by omega
        have hm1 : (0 : Int) ≤ lo := by omega
        obtain ⟨b, off, rfl, hc⟩ := HB.out.at_ (by omega)
        obtain ⟨m, hm⟩ : ∃ m : Nat, m = lo := ⟨_, rfl⟩
        subst hm
        obtain ⟨ka, kc, hr0, _, _⟩ := hc m hmn
        obtain ⟨d0, d1, d2⟩ := hd_cells (range_below hr0 hb)
        have hcall := cmpH_any (X m) ka kc id wr
        unfold hdv at hcall
        clear hr0
        clear hc
        by_cases hq : (X m).id = id
        · have hq' : cmpI (X m).id id = 0 := cmpI_zero.2 hq
          have HN : Hid (FndR (fun j => (X j).id) n id m true) := ⟨hin, by simp [hmn, hq], HA.out.1, HA.out.2⟩
          clear HA hq
          generalize cmpI (X m).id id = cq at *
          go_wp2_with (first | fail | (go_at_fn 57; refine hcall.mono ?_; rintro e w1 ⟨rfl, hb1⟩) | fail)
          go_ret2
          exact ⟨⟨m, true, rfl, HN.out⟩, hb.trans (hb1.mono hb.size)⟩
        · have hq' : ¬ cmpI (X m).id id = 0 := fun h => hq (cmpI_zero.1 h)
          have hqb : (cmpI (X m).id id == 0) = false := by simpa using hq'
          have HN : Hid (FndR (fun j => (X j).id) n id m false) := ⟨hin, by simp [hq], HA.out.1, HA.out.2⟩
          clear HA hq hq'
          generalize cmpI (X m).id id = cq at *
          go_wp2_with (first | fail | (go_at_fn 57; refine hcall.mono ?_; rintro e w1 ⟨rfl, hb1⟩) | fail)
          go_ret2
          exact ⟨⟨m, false, rfl, HN.out⟩, hb.trans (hb1.mono hb.size)⟩
      · have hmn' : ¬ (lo : Int) < n := by omega
        have HN : Hid (FndR (fun j => (X j).id) n id lo false) := ⟨hin, by simp [hmn], HA.out.1, HA.out.2⟩
        clear HA
        go_wp2
        go_ret2
        exact ⟨⟨lo, false, rfl, HN.out⟩, hb⟩
theorem findH_any (ad : Option Addr) (n cap : Nat) (X : Nat → Hd) (id : Int) (w : World) (h : HdAt w ad n X) (hn : n ≤ 1000000) :
    Calls Tryd.prog 20 #[.slice ad n cap, .int .i64 id] w fun e w' => FndO (fun j => (X j).id) n id e ∧ Below w.heap.size w w' := by
  have hc := bsH_any ad n cap X id w h hn
  clear h
  go_enter Tryd.func20, Tryd.ntmps20
  go_wp2_with fail
  refine hc.mono ?_
  rintro e w1 ⟨⟨i, b, rfl, hf⟩, hb⟩
  have HF : Hid (FndR (fun j => (X j).id) n id i b) := hf
  clear hc hf
  go_wp2
  go_ret2
  exact ⟨⟨i, b, rfl, HF.out⟩, hb⟩
end Go.Proofs.YtchiapnhkhbigaaDoor
