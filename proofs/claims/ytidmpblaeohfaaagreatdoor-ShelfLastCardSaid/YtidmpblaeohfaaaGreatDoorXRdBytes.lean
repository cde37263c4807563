/- What (*enc.Reader).Bytes does. -/
import Derived.Test.YtidmpblaeohfaaaGreatDoorXFrontB
import Derived.Test.YtidmpblaeohfaaaGreatDoorXRead
namespace Go.Proofs.YtidmpblaeohfaaaGreatDoor
open Go.RowKit

theorem sc_cases (n : Nat) (z : Nat → Int) (most : Int) : ∀ (f q : Nat) (l : List Int), q ≤ n → (sc n z most f q l).2.1 ≤ n ∧ ((sc n z most f q l).2.2 ≠ 0 → (sc n z most f q l).1 = [] ∧ (sc n z most f q l).2.1 = 0) ∧ 0 ≤ (sc n z most f q l).2.2
  | 0, q, l, _ => by simp [sc]
  | f + 1, q, l, hq => by
    unfold sc
    split
    · split
      · split
        · simp
        · split
          · simp; omega
          · split
            · split
              · simp
              · exact sc_cases n z most f (q + 2) _ (by omega)
            · simp
      · split
        · simp
        · exact sc_cases n z most f (q + 1) _ (by omega)
    · simp
theorem bR_cases (n : Nat) (z : Nat → Int) (most : Int) : (bR n z most).2.1 ≤ n ∧ ((bR n z most).2.2 ≠ 0 → (bR n z most).1 = [] ∧ (bR n z most).2.1 = 0) := by
  unfold bR
  split
  · simp
  · have := sc_cases n z most (n + 1) 0 [] (Nat.zero_le _)
    exact ⟨this.1, this.2.1⟩

theorem Fresh.back {w w0 w1 : World} {ad : Option Addr} {cap : Nat} {l : List Int} (h : Fresh w0 w1 ad cap l) (hb : Below w.heap.size w w0) : Fresh w w1 ad cap l := by
  obtain ⟨h1, h2, h3, h4, h5⟩ := h
  have := hb.size
  exact ⟨h1, h2, h3, (fun a e => Nat.le_trans this (h4 a e)), hb.trans (h5.mono this)⟩

set_option maxRecDepth 100000 in
set_option maxHeartbeats 400000 in
theorem rdBytes_err (rb n cap : Nat) (ad : Option Addr) (z : Nat → Int) (er most : Int) (w : World) (h0 : w.cell? ⟨rb, 0, none⟩ = some (.slice ad n cap)) (h1 : w.cell? ⟨rb, 1, none⟩ = some .nilIface) (hf : w.frozen? ⟨rb, 1, none⟩ = false)
    (hlc : n ≤ cap) (hn : n ≤ 140737488351232) (hs : SlAt w ad n z) (hE : errV (bR n z most).2.2 = .iface 72 (.int .i64 er)) :
    Calls Tryz.prog 64 #[.pointer (some ⟨rb, 0, none⟩), .int .i64 most] w fun e w' =>
      e = .returned (.slice none 0 0) ∧ ∃ w1, Below w.heap.size w w1 ∧ w' = w1.setCell ⟨rb, 1, none⟩ (.iface 72 (.int .i64 er)) := by
  have hs1 : SlAt (w.alloc (.cells #[.int .i64 most] 3)) ad n z := hs.frm ((Frm.refl [] w).alloc _) (by simp)
  have hlt : rb < w.heap.size := World.block_lt_of_cell? w ⟨rb, 0, none⟩ h0
  have hb0 : Below w.heap.size w (w.alloc (.cells #[.int .i64 most] 3)) := (Below.refl _ w).alloc (Nat.le_refl _) _
  go_enter Tryz.func64, Tryz.ntmps64
  go_wp2_with (first | (go_at_call 99; refine (frontBytes_any _ _ _ z most _ hlc hn hs1).mono ?_; rintro e w1 ⟨ad1, cap1, rfl, hF⟩; have hb1 := hb0.trans (hF.2.2.2.2.mono (by simp)); have hc0 := hb1.cell (p := ⟨rb, 0, none⟩) hlt; have hc1 := hb1.cell (p := ⟨rb, 1, none⟩) hlt; have hf1 := hb1.frozen (p := ⟨rb, 1, none⟩) hlt; rw [h0] at hc0; rw [h1] at hc1; rw [hf] at hf1; clear hF) | go_in)
  go_ret3
  go_wp2
  go_ret
  exact ⟨rfl, w1, hb1, rfl⟩

set_option maxRecDepth 100000 in
set_option maxHeartbeats 400000 in
theorem rdBytes_ok (rb n cap k : Nat) (ad : Option Addr) (z : Nat → Int) (most : Int) (l : List Int) (w : World) (h0 : w.cell? ⟨rb, 0, none⟩ = some (.slice ad n cap)) (h1 : w.cell? ⟨rb, 1, none⟩ = some .nilIface) (hf : w.frozen? ⟨rb, 0, none⟩ = false)
    (hlc : n ≤ cap) (hn : n ≤ 140737488351232) (hs : SlAt w ad n z) (hR : bR n z most = (l, k, 0)) (hkn : k ≤ n) :
    Calls Tryz.prog 64 #[.pointer (some ⟨rb, 0, none⟩), .int .i64 most] w fun e w' =>
      ∃ ad1 cap1 w1, e = .returned (.slice ad1 l.length cap1) ∧ Fresh w w1 ad1 cap1 l ∧ Took w1 w' rb n cap k ad := by
  have hs1 : SlAt (w.alloc (.cells #[.int .i64 most] 3)) ad n z := hs.frm ((Frm.refl [] w).alloc _) (by simp)
  have hlt : rb < w.heap.size := World.block_lt_of_cell? w ⟨rb, 0, none⟩ h0
  have hb0 : Below w.heap.size w (w.alloc (.cells #[.int .i64 most] 3)) := (Below.refl _ w).alloc (Nat.le_refl _) _
  have hkn1 : (k : Int) ≤ (n : Int) := by omega
  have hlc1 : (n : Int) ≤ (cap : Int) := by omega
  have hk0 : (0 : Int) ≤ (k : Int) := by omega
  have HR : Hid (bR n z most = (l, k, 0)) := hR
  clear hR
  go_enter Tryz.func64, Tryz.ntmps64
  go_wp2_with (first | (go_at_call 99; refine (frontBytes_any _ _ _ z most _ hlc hn hs1).mono ?_; rw [HR.out]; rintro e w1 ⟨ad1, cap1, rfl, hF⟩; have hF1 := Fresh.back hF hb0; have hb1 := hF1.2.2.2.2; have hc0 := hb1.cell (p := ⟨rb, 0, none⟩) hlt; have hc1 := hb1.cell (p := ⟨rb, 1, none⟩) hlt; have hf1 := hb1.frozen (p := ⟨rb, 0, none⟩) hlt; rw [h0] at hc0; rw [h1] at hc1; rw [hf] at hf1; have he := errV_0; clear hF) | go_in)
  go_ret3
  go_wp2
  · subst h
    go_ret
    exact ⟨ad1, cap1, rfl, w1, hF1, Took.all _ _ _ _ 0 _⟩
  · go_ret
    exact ⟨ad1, cap1, rfl, w1, hF1, Took.some _ _ _ _ _ 0 _⟩

/-- Bytes of its own, whatever else has become of the world. -/
def Own (w w' : World) (ad : Option Addr) (cap : Nat) (l : List Int) : Prop :=
  l.length ≤ cap ∧ SlAt w' ad l.length (fn l) ∧ (ad = none → l.length = 0 ∧ cap = 0) ∧ (∀ a, ad = some a → w.heap.size ≤ a.block)
theorem Fresh.own {w w1 w2 : World} {ad : Option Addr} {cap : Nat} {l : List Int} {S : List Nat} (h : Fresh w w1 ad cap l) (hf : Frm S w1 w2) (hS : ∀ k, k ∈ S → k < w.heap.size) : Own w w2 ad cap l :=
  ⟨h.1, h.2.1.frm hf (fun b off _ e hb => by have h1 := h.2.2.2.1 _ e; have h2 := hS b hb; simp at h1; omega), h.2.2.1, h.2.2.2.1⟩

theorem rdBytes_any (rb n : Nat) (z : Nat → Int) (most : Int) (w : World) (hn : n ≤ 140737488351232) (h : RdAt w rb n z 0) :
    Calls Tryz.prog 64 #[.pointer (some ⟨rb, 0, none⟩), .int .i64 most] w fun e w' =>
      ∃ ad1 cap1, e = .returned (.slice ad1 (bR n z most).1.length cap1) ∧ Own w w' ad1 cap1 (bR n z most).1 ∧ Frm [rb] w w' ∧ RdAt w' rb (n - (bR n z most).2.1) (fun j => z (j + (bR n z most).2.1)) (bR n z most).2.2 := by
  obtain ⟨ad, cap, hr, hlc, hs, hlb⟩ := h
  have hlt := lt_of_block hr
  have hc := bR_cases n z most
  by_cases hE : (bR n z most).2.2 = 0
  · refine (rdBytes_ok rb n cap (bR n z most).2.1 ad z most (bR n z most).1 w (two_cell0 hr) (two_cell1 hr) (two_free hr 0) hlc hn hs (by rw [← hE]) hc.1).mono ?_
    rintro e w' ⟨ad1, cap1, w1, rfl, hF, ht⟩
    rw [hE]
    have := ht.rd hr hlc hs hlb hc.1 (Frm.ofBelow hF.2.2.2.2)
    refine ⟨ad1, cap1, rfl, ?_, this.2, this.1⟩
    obtain ⟨ad', q, _, rfl⟩ := ht
    exact hF.own (((Frm.refl [rb] w1).drewN q).setCell _ _ (by simp)) (by simpa using hlt)
  · obtain ⟨hl, hk⟩ := hc.2 hE
    refine (rdBytes_err rb n cap ad z (bR n z most).2.2 most w (two_cell0 hr) (two_cell1 hr) (two_free hr 1) hlc hn hs (errV_ne hE)).mono ?_
    rintro e w' ⟨rfl, w1, hb, rfl⟩
    rw [hl, hk, ← errV_ne hE]
    have := RdAt.fail (er := (bR n z most).2.2) hr hlc hs hlb (Frm.ofBelow (S := []) hb)
    exact ⟨none, 0, rfl, (Fresh.nil hb).own ((Frm.refl [rb] w1).setCell _ _ (by simp)) (by simpa using hlt), this.2, this.1⟩
end Go.Proofs.YtidmpblaeohfaaaGreatDoor
