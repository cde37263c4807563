/- container/heap: up and down, over any row whose Less and Swap are told. -/
import Derived.Test.YthnobkiiaflelaaDoorOwnShelf18
import Derived.Deep.DrawnRows
import Derived.Deep.CutBlock
import Derived.Deep.DeepCutAuto
namespace Go.Proofs.YthnobkiiaflelaaDoor
open Go.RowKit

attribute [local go_sem ↓] Go.wp_at_zero Go.wp_at_succ

/-- A row of events as a heap sees it: what holds of a world where it bears n events a, how worlds may go on, and what its calls do. -/
structure HpC (ad : Addr) where
  at_ : World → Nat → (Nat → Ev) → Prop
  rel : World → World → Prop
  refl : ∀ w, rel w w
  trans : ∀ {a b c}, rel a b → rel b c → rel a c
  few : ∀ {w n a}, at_ w n a → n ≤ 1000000
  cell : ∀ {w n a}, at_ w n a → ∃ v, w.cell? ad = some v
  less : ∀ (w : World) (n : Nat) (a : Nat → Ev) (v : Value) (i j : Nat), at_ w n a → w.cell? ad = some v → i < n → j < n → Calls Tryd.prog 86 #[v, .int .i64 (i : Int), .int .i64 (j : Int)] w fun e w' => e = .returned (.bool (ltE (a i) (a j))) ∧ at_ w' n a ∧ rel w w'
  swap : ∀ (w : World) (n : Nat) (a : Nat → Ev) (v : Value) (i j : Nat), at_ w n a → w.cell? ad = some v → i < n → j < n → Calls Tryd.prog 87 #[v, .int .i64 (i : Int), .int .i64 (j : Int)] w fun e w' => e = .returned (.tuple #[]) ∧ at_ w' n (swapA a i j) ∧ rel w w'
/-- What up leaves. -/
structure UpP (N m : Nat) (a a' : Nat → Ev) : Prop where
  heap : HeapN ltE m a'
  perm : (rowA m a').Perm (rowA m a)
  tail : ∀ k, m ≤ k → a' k = a k
structure UpJ (N m : Nat) (a b : Nat → Ev) (j : Nat) : Prop where
  up : UpH ltE m b j
  perm : (rowA m b).Perm (rowA m a)
  tail : ∀ k, m ≤ k → b k = a k
  lt : j < m
set_option maxRecDepth 100000 in
set_option maxHeartbeats 1600000 in
theorem up_any {qb : Nat} (H : HpC ⟨qb, 1, none⟩) (N m : Nat) (a : Nat → Ev) (j : Nat) (w : World) (h : H.at_ w N a) (hm : m ≤ N) (hj : j < m) (hu : UpH ltE m a j) :
    Calls Tryd.prog 27 #[.iface 71 (.pointer (some ⟨qb, 1, none⟩)), .int .i64 (j : Int)] w fun e w' => e = .returned (.tuple #[]) ∧ ∃ a', H.at_ w' N a' ∧ UpP N m a a' ∧ H.rel w w' := by
  have HJ0 : Hid (UpJ N m a a j) := ⟨hu, List.Perm.refl _, fun _ _ => rfl, hj⟩
  have HA0 : Hid (H.at_ w N a) := h
  have hNf := H.few h
  clear h hu
  go_enter Tryd.func27, Tryd.ntmps27
  go_wp2_with fail
  go_loopw [1, 4] (fun jv _ wr => ∃ (j : Nat) (b : Nat → Ev), jv = .int .i64 j ∧ UpJ N m a b j ∧ H.at_ wr N b ∧ H.rel w wr) (fun jv _ _ => (intOf jv).toNat)
  case atStart => exact ⟨j, a, rfl, HJ0.out, HA0.out, H.refl w⟩
  case round =>
    clear HJ0 HA0
    obtain ⟨j, b, rfl, hJ, hA, hR⟩ := hrel
    have hjm := hJ.lt
    by_cases h0 : j = 0
    · subst h0
      have HE : Hid (∃ a', H.at_ wr N a' ∧ UpP N m a a' ∧ H.rel w wr) := ⟨b, hA, ⟨hJ.up.stop (.inl rfl), hJ.perm, hJ.tail⟩, hR⟩
      clear hJ hA hR
      go_wp2
      go_end0
      exact ⟨rfl, HE.out⟩
    · obtain ⟨sv, hsv⟩ := H.cell hA
      have hl := H.less wr N b sv j ((j - 1) / 2) hA hsv (by omega) (by omega)
      have hq : ((j : Int) - 1).tdiv 2 = (((j - 1) / 2 : Nat) : Int) := by rw [Int.tdiv_eq_ediv_of_nonneg (by omega)]; omega
      obtain ⟨i, hi⟩ : ∃ i, (j - 1) / 2 = i := ⟨_, rfl⟩
      rw [hi] at hl hq
      have hij : i < j := by omega
      have hne : ¬ ((i : Int) = (j : Int)) := by omega
      have hmL := mLess hsv
      go_wp2_with fail
      refine hl.mono ?_
      rintro e w2 ⟨rfl, hA2, hR2⟩
      cases hlt : ltE (b j) (b i) with
      | false =>
        have HE : Hid (∃ a', H.at_ w2 N a' ∧ UpP N m a a' ∧ H.rel w w2) := ⟨b, hA2, ⟨hJ.up.stop (.inr (by rw [hi]; exact hlt)), hJ.perm, hJ.tail⟩, H.trans hR hR2⟩
        clear hJ hA hR hA2 hR2 hl hmL hlt hsv
        go_wp2
        go_end0
        exact ⟨rfl, HE.out⟩
      | true =>
        obtain ⟨sv2, hsv2⟩ := H.cell hA2
        have hs := H.swap w2 N b sv2 i j hA2 hsv2 (by omega) (by omega)
        have hmS := mSwap hsv2
        have HJ2 : Hid (UpJ N m a (swapA b i j) i) := by
          refine ⟨?_, (rowA_swap b (by omega) hjm).trans hJ.perm, fun k hk => by rw [swapA_o b (by omega) (by omega)]; exact hJ.tail k hk, by omega⟩
          have := hJ.up.step ordE (by omega) hjm (by rw [hi]; exact hlt)
          rwa [hi] at this
        have HR2 : Hid (H.rel w w2) := H.trans hR hR2
        clear hJ hA hR hA2 hR2 hl hmL hlt hsv
        go_wp2_with fail
        refine hs.mono ?_
        rintro e w3 ⟨rfl, hA3, hR3⟩
        have HA3 : Hid (H.at_ w3 N (swapA b i j)) := hA3
        have HR3 : Hid (H.rel w w3) := H.trans HR2.out hR3
        clear hs hA3 hR3 hmS hsv2
        go_wp2
        exact ⟨⟨i, _, rfl, HJ2.out, HA3.out, HR3.out⟩, by simp [intOf]; omega⟩
/-- On the way down. -/
structure DnJ (m : Nat) (a b : Nat → Ev) (i0 i : Nat) : Prop where
  way : (i = i0 ∧ b = a ∧ CutH ltE m b i) ∨ (i0 < i ∧ DnH ltE m b i)
  perm : (rowA m b).Perm (rowA m a)
  tail : ∀ k, m ≤ k → b k = a k
  lt : i < m
/-- What down leaves: it moved, and all is a heap; or nothing has changed, and nobody below is ahead. -/
def DnP (N m : Nat) (a a' : Nat → Ev) (i0 : Nat) (mv : Bool) : Prop := (mv = false ∧ a' = a ∧ UpH ltE m a i0) ∨ (mv = true ∧ UpP N m a a')
theorem DnJ.stop {N m : Nat} {a b : Nat → Ev} {i0 i : Nat} (h : DnJ m a b i0 i) (hc : ∀ k, 0 < k → k < m → (k - 1) / 2 = i → ltE (b k) (b i) = false) : DnP N m a b i0 (decide (i0 < i)) := by
  rcases h.way with ⟨rfl, rfl, h1⟩ | ⟨h0, h1⟩
  · exact .inl ⟨decide_eq_false (by omega), rfl, h1.up hc⟩
  · exact .inr ⟨decide_eq_true (by omega), h1.stop hc, h.perm, h.tail⟩
theorem DnJ.step {m : Nat} {a b : Nat → Ev} {i0 i j : Nat} (h : DnJ m a b i0 i) (hj0 : 0 < j) (hjm : j < m) (hp : (j - 1) / 2 = i) (hl : ltE (b j) (b i) = true) (hsm : ∀ k, 0 < k → k < m → (k - 1) / 2 = i → ltE (b k) (b j) = false) : DnJ m a (swapA b i j) i0 j := by
  have hd : DnH ltE m b i := by
    rcases h.way with ⟨rfl, rfl, h1⟩ | ⟨_, h1⟩
    · exact h1.dn ordE h.lt hj0 hjm hp hl
    · exact h1
  have h0 : i0 ≤ i := by rcases h.way with ⟨rfl, _, _⟩ | ⟨h0, _⟩ <;> omega
  exact ⟨.inr ⟨by omega, hd.step ordE hj0 hjm hp hl hsm⟩, (rowA_swap b h.lt hjm).trans h.perm, fun k hk => by rw [swapA_o b (by have := h.lt; omega) (by omega)]; exact h.tail k hk, hjm⟩
def DnQ {qb : Nat} (H : HpC ⟨qb, 1, none⟩) (N m : Nat) (a : Nat → Ev) (i0 : Nat) (w : World) (e : Ending) (w' : World) : Prop := ∃ mv a', e = .returned (.bool mv) ∧ H.at_ w' N a' ∧ DnP N m a a' i0 mv ∧ H.rel w w'
theorem ltE_self (x : Ev) : ltE x x = false := by rw [ltE_not]; omega
set_option maxRecDepth 100000 in
set_option maxHeartbeats 3200000 in
theorem down_any {qb : Nat} (H : HpC ⟨qb, 1, none⟩) (N m : Nat) (a : Nat → Ev) (i0 : Nat) (w : World) (h : H.at_ w N a) (hm : m ≤ N) (hi : i0 < m) (hu : CutH ltE m a i0) :
    Calls Tryd.prog 40 #[.iface 71 (.pointer (some ⟨qb, 1, none⟩)), .int .i64 (i0 : Int), .int .i64 (m : Int)] w (DnQ H N m a i0 w) := by
  have HJ0 : Hid (DnJ m a a i0 i0) := ⟨.inl ⟨rfl, rfl, hu⟩, List.Perm.refl _, fun _ _ => rfl, hi⟩
  have HA0 : Hid (H.at_ w N a) := h
  have hNf := H.few h
  clear h hu
  go_enter Tryd.func40, Tryd.ntmps40
  go_wp2_with fail
  go_loopw [7, 8, 9, 10] (fun iv _ _ _ wr => ∃ (i : Nat) (b : Nat → Ev), iv = .int .i64 i ∧ DnJ m a b i0 i ∧ H.at_ wr N b ∧ H.rel w wr) (fun iv _ _ _ _ => m - (intOf iv).toNat)
  case atStart => exact ⟨i0, a, rfl, HJ0.out, HA0.out, H.refl w⟩
  case round =>
    clear HJ0 HA0
    obtain ⟨i, b, rfl, hJ, hA, hR⟩ := hrel
    have him := hJ.lt
    have hw1 : wrap64 (2 * (i : Int)) = 2 * (i : Int) := by unfold wrap64; omega
    obtain ⟨j1, hj1⟩ : ∃ j1 : Nat, j1 = 2 * i + 1 := ⟨_, rfl⟩
    have hw2 : wrap64 (2 * (i : Int) + 1) = (j1 : Int) := by unfold wrap64; omega
    have hw2' : 2 * (i : Int) + 1 = (j1 : Int) := by omega
    have hw3 : wrap64 ((j1 : Int) + 1) = ((j1 + 1 : Nat) : Int) := by unfold wrap64; omega
    have HK : Hid (∀ k, 0 < k → (k - 1) / 2 = i → k = j1 ∨ k = j1 + 1) := fun k h0 hk => by omega
    have HP1 : Hid (j1 = 2 * i + 1) := hj1
    have hj1p : 0 < j1 := by omega
    have hn0 : ¬ ((j1 : Int) < 0) := by omega
    clear hj1
    by_cases h1 : m ≤ j1
    · have HE : Hid (DnP N m a b i0 (decide (i0 < i))) := hJ.stop fun k h0 hk hp => by rcases HK.out k h0 hp with h | h <;> omega
      have HA : Hid (H.at_ wr N b ∧ H.rel w wr) := ⟨hA, hR⟩
      have h1' : (m : Int) ≤ (j1 : Int) := by omega
      clear hJ hA hR
      go_wp2
      go_ret
      exact ⟨_, b, rfl, HA.out.1, HE.out, HA.out.2⟩
    · have h1' : ¬ ((m : Int) ≤ (j1 : Int)) := by omega
      obtain ⟨j2, hj2⟩ : ∃ j2 : Nat, j2 = j1 + 1 := ⟨_, rfl⟩
      rw [← hj2] at hw3
      have HP2 : Hid (j2 = j1 + 1) := hj2
      have hw3' : (j1 : Int) + 1 = (j2 : Int) := by omega
      have HJ : Hid (DnJ m a b i0 i) := hJ
      have HA : Hid (H.at_ wr N b) := hA
      have HR : Hid (H.rel w wr) := hR
      clear hJ hA hR hj2
      go_upto_region 6 with fail
      go_cut [33] (fun v wd => ∃ t : Bool, v = .bool t ∧ (t = true → j2 < m ∧ ltE (b j2) (b j1) = true) ∧ (t = false → j2 < m → ltE (b j2) (b j1) = false) ∧ H.at_ wd N b ∧ H.rel w wd)
      case first =>
        by_cases h2 : j2 < m
        · have h2' : (j2 : Int) < m := by omega
          obtain ⟨sv, hsv⟩ := H.cell HA.out
          have hl := H.less wr N b sv j2 j1 HA.out hsv (by omega) (by omega)
          have hmL := mLess hsv
          go_wp2_with fail
          refine hl.mono ?_
          rintro e w2 ⟨rfl, hA2, hR2⟩
          cases hlt : ltE (b j2) (b j1) with
          | true =>
            have HE : Hid (ltE (b j2) (b j1) = true ∧ H.at_ w2 N b ∧ H.rel w w2) := ⟨hlt, hA2, H.trans HR.out hR2⟩
            clear hl hA2 hR2 hlt hmL hsv
            go_wp2_with fail
            go_meet
            exact ⟨true, rfl, fun _ => ⟨h2, HE.out.1⟩, (fun h => by cases h), HE.out.2.1, HE.out.2.2⟩
          | false =>
            have HE : Hid (ltE (b j2) (b j1) = false ∧ H.at_ w2 N b ∧ H.rel w w2) := ⟨hlt, hA2, H.trans HR.out hR2⟩
            clear hl hA2 hR2 hlt hmL hsv
            go_wp2_with fail
            go_meet
            exact ⟨false, rfl, (fun h => by cases h), fun _ _ => HE.out.1, HE.out.2.1, HE.out.2.2⟩
        · have h2' : ¬ ((j2 : Int) < m) := by omega
          go_wp2_with fail
          go_meet
          exact ⟨false, rfl, (fun h => by cases h), fun _ h => absurd h h2, HA.out, HR.out⟩
      case rest =>
      obtain ⟨t, rfl, ht1, ht2, hA2, hR2⟩ := hcut
      have HA2 : Hid (H.at_ wc N b) := hA2
      have HR2 : Hid (H.rel w wc) := hR2
      clear hA2 hR2 HA HR
      cases t with
      | true =>
        have HSM : Hid (∀ k, 0 < k → k < m → (k - 1) / 2 = i → ltE (b k) (b j2) = false) := fun k h0 hk hp => by
          have h2 := HP2.out
          rcases HK.out k h0 hp with h | h
          · rw [h]; exact ordE.asymm _ _ (ht1 rfl).2
          · rw [h, ← h2]; exact ltE_self _
        have hjm : j2 < m := (ht1 rfl).1
        have hjp : (j2 - 1) / 2 = i := by have := HP1.out; have := HP2.out; omega
        have hj0 : 0 < j2 := by have := HP2.out; omega
        obtain ⟨sv3, hsv3⟩ := H.cell HA2.out
        have hl := H.less wc N b sv3 j2 i HA2.out hsv3 (by omega) (by omega)
        have hmL := mLess hsv3
        clear ht1 ht2
        go_wp2_with fail
        refine hl.mono ?_
        rintro e w3 ⟨rfl, hA3, hR3⟩
        have HR3 : Hid (H.rel w w3) := H.trans HR2.out hR3
        cases hlt : ltE (b j2) (b i) with
        | false =>
          have HE : Hid (DnP N m a b i0 (decide (i0 < i))) := HJ.out.stop fun k h0 hk hp => ordE.trans _ _ _ hlt (HSM.out k h0 hk hp)
          have HA3 : Hid (H.at_ w3 N b) := hA3
          clear hl hA3 hR3 hlt hmL hsv3
          go_wp2
          go_ret
          exact ⟨_, b, rfl, HA3.out, HE.out, HR3.out⟩
        | true =>
          obtain ⟨sv4, hsv4⟩ := H.cell hA3
          have hs := H.swap w3 N b sv4 i j2 hA3 hsv4 (by omega) (by omega)
          have hmS := mSwap hsv4
          have HJ4 : Hid (DnJ m a (swapA b i j2) i0 j2) := HJ.out.step hj0 hjm hjp hlt HSM.out
          clear hl hA3 hR3 hlt hmL hsv3
          go_wp2_with fail
          refine hs.mono ?_
          rintro e w4 ⟨rfl, hA4, hR4⟩
          have HA4 : Hid (H.at_ w4 N (swapA b i j2) ∧ H.rel w w4) := ⟨hA4, H.trans HR3.out hR4⟩
          have hij : i < j2 := by omega
          clear hs hA4 hR4 hmS hsv4 hw1 hw2 hw2' hw3 hw3'
          go_wp2
          go_roundw
          case rel => exact ⟨j2, _, rfl, HJ4.out, HA4.out.1, HA4.out.2⟩
          case measure => simp [intOf]; omega
      | false =>
        have HSM : Hid (∀ k, 0 < k → k < m → (k - 1) / 2 = i → ltE (b k) (b j1) = false) := fun k h0 hk hp => by
          have h2 := HP2.out
          rcases HK.out k h0 hp with h | h
          · rw [h]; exact ltE_self _
          · rw [h, ← h2]; exact ht2 rfl (by omega)
        have hjm : j1 < m := by omega
        have hjp : (j1 - 1) / 2 = i := by have := HP1.out; have := HP2.out; omega
        have hj0 : 0 < j1 := by have := HP2.out; omega
        obtain ⟨sv3, hsv3⟩ := H.cell HA2.out
        have hl := H.less wc N b sv3 j1 i HA2.out hsv3 (by omega) (by omega)
        have hmL := mLess hsv3
        clear ht1 ht2
        go_wp2_with fail
        refine hl.mono ?_
        rintro e w3 ⟨rfl, hA3, hR3⟩
        have HR3 : Hid (H.rel w w3) := H.trans HR2.out hR3
        cases hlt : ltE (b j1) (b i) with
        | false =>
          have HE : Hid (DnP N m a b i0 (decide (i0 < i))) := HJ.out.stop fun k h0 hk hp => ordE.trans _ _ _ hlt (HSM.out k h0 hk hp)
          have HA3 : Hid (H.at_ w3 N b) := hA3
          clear hl hA3 hR3 hlt hmL hsv3
          go_wp2
          go_ret
          exact ⟨_, b, rfl, HA3.out, HE.out, HR3.out⟩
        | true =>
          obtain ⟨sv4, hsv4⟩ := H.cell hA3
          have hs := H.swap w3 N b sv4 i j1 hA3 hsv4 (by omega) (by omega)
          have hmS := mSwap hsv4
          have HJ4 : Hid (DnJ m a (swapA b i j1) i0 j1) := HJ.out.step hj0 hjm hjp hlt HSM.out
          clear hl hA3 hR3 hlt hmL hsv3
          go_wp2_with fail
          refine hs.mono ?_
          rintro e w4 ⟨rfl, hA4, hR4⟩
          have HA4 : Hid (H.at_ w4 N (swapA b i j1) ∧ H.rel w w4) := ⟨hA4, H.trans HR3.out hR4⟩
          have hij : i < j1 := by omega
          clear hs hA4 hR4 hmS hsv4 hw1 hw2 hw2' hw3 hw3'
          go_wp2
          go_roundw
          case rel => exact ⟨j1, _, rfl, HJ4.out, HA4.out.1, HA4.out.2⟩
          case measure => simp [intOf]; omega
end Go.Proofs.YthnobkiiaflelaaDoor
