/- container/heap: Push, Pop and Remove, over any row whose calls are told. -/
import Derived.Test.YthnobkiiaflelaaDoorOwnShelf19
namespace Go.Proofs.YthnobkiiaflelaaDoor
open Go.RowKit

attribute [local go_sem ↓] Go.wp_at_zero Go.wp_at_succ

/-- A row that grows and shrinks, too; box: an event as the heap hands it over. -/
structure HpD (ad : Addr) extends HpC ad where
  box : Ev → Value
  congr : ∀ {w n a b}, at_ w n a → (∀ k, k < n → a k = b k) → at_ w n b
  len : ∀ (w : World) (n : Nat) (a : Nat → Ev) (v : Value), at_ w n a → w.cell? ad = some v → Calls Tryd.prog 85 #[v] w fun e w' => e = .returned (.int .i64 (n : Int)) ∧ at_ w' n a ∧ rel w w'
  pop : ∀ (w : World) (n : Nat) (a : Nat → Ev), at_ w (n + 1) a → Calls Tryd.prog 88 #[.pointer (some ad)] w fun x w' => x = .returned (box (a n)) ∧ at_ w' n a ∧ rel w w'
def HpuQ {ad : Addr} (H : HpD ad) (n : Nat) (a : Nat → Ev) (e : Ev) (w : World) (x : Ending) (w' : World) : Prop := x = .returned (.tuple #[]) ∧ ∃ a', H.at_ w' (n + 1) a' ∧ HeapN ltE (n + 1) a' ∧ (rowA (n + 1) a').Perm (e :: rowA n a) ∧ H.rel w w'
theorem rowA_congr {α : Type} {n : Nat} {a b : Nat → α} (h : ∀ k, k < n → a k = b k) : rowA n a = rowA n b := by
  unfold rowA
  exact List.map_congr_left fun k hk => h k (List.mem_range.1 hk)
theorem HeapN.congr {n : Nat} {a b : Nat → Ev} (h : HeapN ltE n a) (hab : ∀ k, k < n → a k = b k) : HeapN ltE n b := fun k h0 hk => by
  rw [← hab k hk, ← hab _ (by omega)]; exact h k h0 hk
set_option maxRecDepth 100000 in
set_option maxHeartbeats 1600000 in
theorem heapPush {qb : Nat} (H : HpD ⟨qb, 1, none⟩) (n : Nat) (a : Nat → Ev) (e : Ev) (bx : Value) (w : World) (hn : n < 1000) (hh : HeapN ltE n a)
    (hp : Calls Tryd.prog 89 #[.pointer (some ⟨qb, 1, none⟩), bx] w fun x w' => x = .returned (.tuple #[]) ∧ H.at_ w' (n + 1) (fun k => if k = n then e else a k) ∧ H.rel w w') :
    Calls Tryd.prog 20 #[.iface 71 (.pointer (some ⟨qb, 1, none⟩)), bx] w (HpuQ H n a e w) := by
  have hmP := mPush ⟨qb, 1, none⟩ w
  go_enter Tryd.func20, Tryd.ntmps20
  go_wp2_with fail
  refine hp.mono ?_
  rintro x w1 ⟨rfl, hA1, hR1⟩
  obtain ⟨a1, ha1⟩ : ∃ a1 : Nat → Ev, (fun k => if k = n then e else a k) = a1 := ⟨_, rfl⟩
  rw [ha1] at hA1
  have hat : a1 n = e ∧ ∀ k, k < n → a k = a1 k := ⟨by rw [← ha1]; simp, fun k hk => by rw [← ha1]; simp [show k ≠ n by omega]⟩
  obtain ⟨sv, hsv⟩ := H.cell hA1
  have hl := H.len w1 (n + 1) a1 sv hA1 hsv
  have hmL := mLen hsv
  clear hp hmP ha1
  go_wp2_with fail
  refine hl.mono ?_
  rintro x w2 ⟨rfl, hA2, hR2⟩
  have hu := up_any H.toHpC (n + 1) (n + 1) a1 n w2 hA2 (Nat.le_refl _) (by omega) (hh.congr hat.2).push
  have hsub : ((n + 1 : Nat) : Int) - 1 = (n : Int) := by omega
  have HX : Hid (a1 n = e ∧ ∀ k, k < n → a k = a1 k) := hat
  have HR : Hid (H.rel w w2) := H.trans hR1 hR2
  clear hl hA1 hR1 hA2 hR2 hmL hsv hat
  go_wp2_with fail
  refine hu.mono ?_
  rintro x w3 ⟨rfl, a3, hA3, hP3, hR3⟩
  have HE : Hid (HpuQ H n a e w (.returned (.tuple #[])) w3) := by
    refine ⟨rfl, a3, hA3, hP3.heap, ?_, H.trans HR.out hR3⟩
    refine hP3.perm.trans ?_
    rw [rowA_succ, HX.out.1, ← rowA_congr HX.out.2]
    exact List.perm_append_singleton e (rowA n a)
  clear hu hA3 hP3 hR3
  go_wp2
  go_end0
  exact HE.out
theorem DnP.heap0 {N m : Nat} {a a' : Nat → Ev} {mv : Bool} (h : DnP N m a a' 0 mv) : UpP N m a a' := by
  rcases h with ⟨_, rfl, h1⟩ | ⟨_, h1⟩
  · exact ⟨h1.stop (.inl rfl), List.Perm.refl _, fun _ _ => rfl⟩
  · exact h1
set_option maxRecDepth 100000 in
set_option maxHeartbeats 800000 in
theorem down_none (hv : Value) (w : World) : Calls Tryd.prog 40 #[hv, .int .i64 0, .int .i64 0] w fun e w' => e = .returned (.bool false) ∧ w' = w := by
  go_enter Tryd.func40, Tryd.ntmps40
  go_wp2_with fail
  go_loopw [7, 8, 9, 10] (fun iv _ _ _ wr => iv = .int .i64 0 ∧ wr = w) (fun _ _ _ _ _ => 0)
  case atStart => exact ⟨rfl, rfl⟩
  case round =>
    obtain ⟨rfl, rfl⟩ := hrel
    go_wp2
    go_ret
    exact ⟨rfl, rfl⟩
/-- down, from the first one on, whatever there is. -/
theorem down_first {qb : Nat} (H : HpC ⟨qb, 1, none⟩) (N m : Nat) (a : Nat → Ev) (w : World) (h : H.at_ w N a) (hm : m ≤ N) (hu : CutH ltE m a 0) :
    Calls Tryd.prog 40 #[.iface 71 (.pointer (some ⟨qb, 1, none⟩)), .int .i64 0, .int .i64 (m : Int)] w fun e w' => ∃ x a', e = .returned x ∧ H.at_ w' N a' ∧ UpP N m a a' ∧ H.rel w w' := by
  by_cases h0 : m = 0
  · subst h0
    refine (down_none _ w).mono ?_
    rintro e w' ⟨rfl, rfl⟩
    exact ⟨_, a, rfl, h, ⟨fun k _ hk => by omega, List.Perm.refl _, fun _ _ => rfl⟩, H.refl _⟩
  · refine (down_any H N m a 0 w h hm (by omega) hu).mono ?_
    rintro e w' ⟨mv, a', rfl, h1, h2, h3⟩
    exact ⟨_, a', rfl, h1, h2.heap0, h3⟩
def HpoQ {ad : Addr} (H : HpD ad) (n : Nat) (a : Nat → Ev) (e : Ev) (w : World) (x : Ending) (w' : World) : Prop := x = .returned (H.box e) ∧ ∃ a', H.at_ w' n a' ∧ HeapN ltE n a' ∧ (e :: rowA n a').Perm (rowA (n + 1) a) ∧ H.rel w w'
theorem perm_last {n i : Nat} {a : Nat → Ev} (hi : i ≤ n) : (a i :: rowA n (swapA a i n)).Perm (rowA (n + 1) a) := by
  have h := rowA_swap (n := n + 1) a (i := i) (j := n) (by omega) (by omega)
  rw [rowA_succ, swapA_j] at h
  exact (List.perm_append_singleton (a i) (rowA n (swapA a i n))).symm.trans h
set_option maxRecDepth 100000 in
set_option maxHeartbeats 1600000 in
theorem heapRemove {qb : Nat} (H : HpD ⟨qb, 1, none⟩) (n i : Nat) (a : Nat → Ev) (w : World) (h : H.at_ w (n + 1) a) (hh : HeapN ltE (n + 1) a) (hi : i ≤ n) :
    Calls Tryd.prog 32 #[.iface 71 (.pointer (some ⟨qb, 1, none⟩)), .int .i64 (i : Int)] w (HpoQ H n a (a i) w) := by
  obtain ⟨sv, hsv⟩ := H.cell h
  have hl := H.len w (n + 1) a sv h hsv
  have hmL := mLen hsv
  have hf := H.few h
  have hsub : ((n + 1 : Nat) : Int) - 1 = (n : Int) := by omega
  clear h
  go_enter Tryd.func32, Tryd.ntmps32
  go_wp2_with fail
  refine hl.mono ?_
  rintro x w1 ⟨rfl, hA1, hR1⟩
  have HR1 : Hid (H.rel w w1) := hR1
  clear hl hmL hsv hR1
  by_cases e : n = i
  · subst e
    have hp := H.pop w1 n a hA1
    have hmP := mPop ⟨qb, 1, none⟩ w1
    have HP1 : Hid (HeapN ltE n a ∧ (a n :: rowA n a).Perm (rowA (n + 1) a)) := ⟨hh.less (by omega), by rw [rowA_succ]; exact (List.perm_append_singleton (a n) (rowA n a)).symm⟩
    obtain ⟨bx, hbx⟩ : ∃ bx, H.box (a n) = bx := ⟨_, rfl⟩
    rw [hbx] at hp
    have HBX : Hid (H.box (a n) = bx) := hbx
    clear hA1 hbx hh
    go_wp2_with fail
    refine hp.mono ?_
    rintro x w4 ⟨rfl, hA4, hR4⟩
    have HE : Hid (HpoQ H n a (a n) w (.returned bx) w4) := ⟨by rw [HBX.out], a, hA4, HP1.out.1, HP1.out.2, H.trans HR1.out hR4⟩
    clear hp hA4 hR4 hmP
    go_wp2
    go_ret
    exact HE.out
  · have hin : i < n := by omega
    have hne : ¬ ((n : Int) = (i : Int)) := by omega
    obtain ⟨sv1, hsv1⟩ := H.cell hA1
    have hs := H.swap w1 (n + 1) a sv1 i n hA1 hsv1 (by omega) (by omega)
    have hmS := mSwap hsv1
    have HPL : Hid ((a i :: rowA n (swapA a i n)).Perm (rowA (n + 1) a)) := perm_last (by omega)
    have HPC : Hid (CutH ltE n (swapA a i n) i) := hh.cutH ordE hin
    have HBN : Hid (swapA a i n n = a i) := swapA_j a i n
    clear hA1 hh e
    go_wp2_with fail
    refine hs.mono ?_
    rintro x w2 ⟨rfl, hA2, hR2⟩
    have hd := down_any H.toHpC (n + 1) n (swapA a i n) i w2 hA2 (by omega) hin HPC.out
    have HR2 : Hid (H.rel w w2) := H.trans HR1.out hR2
    have HLAST : Hid (∀ (a3 : Nat → Ev) (w3 : World), H.at_ w3 (n + 1) a3 → UpP (n + 1) n (swapA a i n) a3 → H.rel w w3 → Calls Tryd.prog 88 #[.pointer (some ⟨qb, 1, none⟩)] w3 (HpoQ H n a (a i) w)) := fun a3 w3 h1 h2 h3 => by
      have hp := H.pop w3 n a3 h1
      rw [show a3 n = a i by rw [h2.tail n (Nat.le_refl _), HBN.out]] at hp
      refine hp.mono ?_
      rintro x w4 ⟨rfl, hA4, hR4⟩
      exact ⟨rfl, a3, hA4, h2.heap, (h2.perm.cons (a i)).trans HPL.out, H.trans h3 hR4⟩
    clear hs hmS hsv1 hA2 hR2 HPL HBN
    go_wp2_with fail
    refine hd.mono ?_
    rintro x w3 ⟨mv, a3, rfl, hA3, hP3, hR3⟩
    have HR3 : Hid (H.rel w w3) := H.trans HR2.out hR3
    clear hd hR3
    cases mv with
    | true =>
      have hup : UpP (n + 1) n (swapA a i n) a3 := by
        rcases hP3 with ⟨h, _⟩ | ⟨_, h⟩
        · cases h
        · exact h
      have hp := HLAST.out a3 w3 hA3 hup HR3.out
      have hmP := mPop ⟨qb, 1, none⟩ w3
      clear hP3 hA3 hup
      go_wp2_with fail
      refine hp.mono ?_
      rintro x w4 hq
      have hx := hq.1
      subst hx
      have HE : Hid (HpoQ H n a (a i) w (.returned (H.box (a i))) w4) := hq
      clear hp hq hmP
      go_wp2
      go_ret
      exact HE.out
    | false =>
      obtain ⟨rfl, hup⟩ : a3 = swapA a i n ∧ UpH ltE n (swapA a i n) i := by
        rcases hP3 with ⟨_, h1, h2⟩ | ⟨h, _⟩
        · exact ⟨h1, h2⟩
        · cases h
      have hu := up_any H.toHpC (n + 1) n (swapA a i n) i w3 hA3 (by omega) hin hup
      clear hP3 hA3 hup
      go_wp2_with fail
      refine hu.mono ?_
      rintro x w4 ⟨rfl, a4, hA4, hP4, hR4⟩
      have hp := HLAST.out a4 w4 hA4 hP4 (H.trans HR3.out hR4)
      have hmP := mPop ⟨qb, 1, none⟩ w4
      clear hu hA4 hP4 hR4
      go_wp2_with fail
      refine hp.mono ?_
      rintro x w5 hq
      have hx := hq.1
      subst hx
      have HE : Hid (HpoQ H n a (a i) w (.returned (H.box (a i))) w5) := hq
      clear hp hq hmP
      go_wp2
      go_ret
      exact HE.out
end Go.Proofs.YthnobkiiaflelaaDoor
