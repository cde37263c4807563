/- A new store; Sync; all calls over what a store says. -/
import Derived.Test.YtidmpblaeohfaaaGreatDoorPStart
namespace Go.Proofs.YtidmpblaeohfaaaGreatDoor
open Go.RowKit

attribute [local go_sem ↓] Go.wp_at_zero Go.wp_at_succ

def newS (n : Nat) : St := ⟨List.replicate n nilBs, [], false, 0, false⟩
theorem Tryz.infoBB : (Tryz.prog.info? 29).map (fun i => (i.zero, i.size, i.bytes)) = some (some (.slice none 0 0), 1, 24) := by kernel_rfl
theorem make_pages (n : Nat) (hn : n ≤ 1000000) (w : World) : (Instr.makeSlice 22 (.int .i64 (n : Int)) (.int .i64 (n : Int))).run Tryz.prog w = .ok (.slice (some ⟨w.heap.size, 0, none⟩) n n) (w.alloc (.cells ((newS n).safe.map Bs.v).toArray 29)) := by
  obtain ⟨i0, hi0, hz0, hz1, hz2⟩ := info_parts Tryz.infoBB
  have h := run_make (P := Tryz.prog) w 22 29 i0 (.slice none 0 0) Tryz.underlying22 hi0 hz0 .i64 .i64 (n : Int) (n : Int) (by omega) (Int.le_refl _) (by rw [hz2]; omega) (by omega)
  have e : madeCells (Value.slice none 0 0).cells n = ((newS n).safe.map Bs.v).toArray := by
    apply Array.toList_inj.1
    simp only [madeCells, newS]
    apply List.ext_getElem
    · simp
    · intro j h1 h2
      simp [Value.cells, Nat.mod_one, nilBs, Bs.v]
  rw [h]
  simp only [Int.toNat_natCast, hz1, Nat.mul_one, e]
theorem build_store (a : Option Addr) (n c : Nat) (w : World) : (Instr.build 75 #[(0, .slice a n c)]).run Tryz.prog w = .ok (.agg #[.slice a n c, .slice none 0 0, .bool false, .int .i64 0, .bool false]) w := by kernel_rfl
def NewR (n : Nat) (w : World) (e : Ending) (w' : World) : Prop :=
  e = .returned (.tuple #[.pointer (some ⟨w.heap.size + 1, 0, none⟩), .nilIface]) ∧ St0 w' (w.heap.size + 1) w.heap.size (.slice none 0 0) (fun _ => False) (newS n) ∧ Below w.heap.size w w' ∧ w'.heap.size = w.heap.size + 2
theorem new_end (n : Nat) (h1 : 1 ≤ n) (h2 : n ≤ 4096) (w : World) : NewR n w (.returned (.tuple #[.pointer (some ⟨w.heap.size + 1, 0, none⟩), .nilIface])) ((w.alloc (.cells ((newS n).safe.map Bs.v).toArray 29)).alloc (.cells #[.slice (some ⟨w.heap.size, 0, none⟩) n n, .slice none 0 0, .bool false, .int .i64 0, .bool false] 75)) := by
  refine ⟨rfl, ⟨?_, ?_, World.ownsRow_nil _ _ _ _, ?_, (fun x hx => by cases hx), by omega, ⟨id, id⟩, (fun k e => by cases e), (fun k e => e.elim), by simpa [newS] using h2, by simp [newS], by simp [newS]; omega⟩, ((Below.refl _ w).alloc (Nat.le_refl _) _).alloc (by simp) _, by simp⟩
  · have := heap_alloc_new (w.alloc (.cells ((newS n).safe.map Bs.v).toArray 29)) (.cells #[.slice (some ⟨w.heap.size, 0, none⟩) n n, .slice none 0 0, .bool false, .int .i64 0, .bool false] 75)
    rw [World.size_alloc] at this
    rw [this]
    simp [stC, newS]
  · rw [Below.heap_alloc _ _ _ (by simp)]
    exact heap_alloc_new w _
  · intro x hx
    have : x = nilBs := by simp [newS] at hx; exact hx.2
    subst this
    exact ⟨nilBs_at _, nilBs_in _⟩
set_option maxRecDepth 100000 in
set_option maxHeartbeats 800000 in
theorem new_any (n : Nat) (h1 : 1 ≤ n) (h2 : n ≤ 4096) (w : World) : Calls Tryz.prog 9 #[.int .i64 (n : Int)] w (NewR n w) := by
  have HE : Hid (NewR n w (.returned (.tuple #[.pointer (some ⟨w.heap.size + 1, 0, none⟩), .nilIface])) ((w.alloc (.cells ((newS n).safe.map Bs.v).toArray 29)).alloc (.cells #[.slice (some ⟨w.heap.size, 0, none⟩) n n, .slice none 0 0, .bool false, .int .i64 0, .bool false] 75))) := new_end n h1 h2 w
  have k1 := make_pages n (by omega) w
  have k2 := build_store
  have d1 : ¬ ((n : Int) < 1) := by omega
  have d2 : ¬ ((4096 : Int) < (n : Int)) := by omega
  generalize ((newS n).safe.map Bs.v).toArray = ps at *
  go_enter Tryz.func9, Tryz.ntmps9
  go_wp2
  go_ret2
  exact HE.out
set_option maxRecDepth 100000 in
set_option maxHeartbeats 800000 in
theorem new_bad (n : Int) (h : ¬ (1 ≤ n ∧ n ≤ 4096)) (w : World) : Calls Tryz.prog 9 #[.int .i64 n] w fun e w' => e = .returned (.tuple #[.pointer none, errV 1]) ∧ w' = w := by
  rw [errV_ne (by decide)]
  by_cases d1 : n < 1
  · go_enter Tryz.func9, Tryz.ntmps9
    go_wp2
    go_ret2
    exact ⟨rfl, rfl⟩
  · have d2 : (4096 : Int) < n := by omega
    go_enter Tryz.func9, Tryz.ntmps9
    go_wp2
    go_ret2
    exact ⟨rfl, rfl⟩
/-- A block that was of G, or is new. -/
def Gn (G : Nat → Prop) (w w' : World) (k : Nat) : Prop := G k ∨ (w.heap.size ≤ k ∧ k < w'.heap.size)
theorem StAt.mono {w : World} {G G' : Nat → Prop} {p : Nat} {S : St} (h : StAt w G p S) (hg : ∀ k, G k → G' k) : StAt w G' p S := by
  obtain ⟨q, lo, F, h0, h1⟩ := h
  exact ⟨q, lo, F, h0, fun k hk => hg k (h1 k hk)⟩
/-- Write: what a store says. -/
def WrS (G : Nat → Prop) (p : Nat) (S : St) (pg : Int) (l : List Int) (w : World) (e : Ending) (w' : World) : Prop :=
  e = .returned (errV (stepE S)) ∧ ∃ y : Bs, y.l = l ∧ StAt w' (Gn G w w') p (stepS (S.put pg y)) ∧ Fr G w w'
theorem write_st (G : Nat → Prop) (p : Nat) (S : St) (pg : Int) (ad : Option Addr) (cap : Nat) (l : List Int) (w : World) (h : StAt w G p S) (hs : 0 ≤ S.steps ∧ S.steps < 9223372036854775808)
    (hp : 0 ≤ pg ∧ pg < S.safe.length) (hd : S.down = false) (hfew : S.loose.length < 1000000) (hb : SlAt w ad l.length (fn l)) (hn : ad = none → l.length = 0 ∧ cap = 0) (hy : ∀ y, y ∈ l → 0 ≤ y ∧ y ≤ 255) (hl : l.length ≤ 4096) :
    Calls Tryz.prog 10 #[.pointer (some ⟨p, 0, none⟩), .int .i64 pg, .slice ad l.length cap] w (WrS G p S pg l w) := by
  obtain ⟨q, lo, F, h0, hG⟩ := h
  refine (write_ok p q lo F S pg ad cap l w h0 hs hp hd hfew hb hn hy hl).mono ?_
  rintro e w' ⟨rfl, y, hy, lo', F', h1, hF, hM⟩
  exact ⟨rfl, y, hy, ⟨q, lo', F', h1, fun k hk => (hM k hk).imp (hG k) id⟩, hF.mono fun k _ hk => hG k hk⟩
theorem writeB_st (G : Nat → Prop) (p : Nat) (S : St) (pg : Int) (ad : Option Addr) (n cap : Nat) (w : World) (h : StAt w G p S) (hn : wrE S pg n ≠ 0) :
    Calls Tryz.prog 10 #[.pointer (some ⟨p, 0, none⟩), .int .i64 pg, .slice ad n cap] w fun e w' => e = .returned (errV (wrE S pg n)) ∧ w' = w := by
  obtain ⟨q, lo, F, h0, hG⟩ := h
  exact write_bad p q lo F S pg ad n cap w h0 hn
theorem read_st (G : Nat → Prop) (p : Nat) (S : St) (pg : Int) (w : World) (h : StAt w G p S) (hp : 0 ≤ pg ∧ pg < S.safe.length) (hd : S.down = false) :
    Calls Tryz.prog 23 #[.pointer (some ⟨p, 0, none⟩), .int .i64 pg] w (RdR w (lastB S pg).l) := by
  obtain ⟨q, lo, F, h0, hG⟩ := h
  exact read_ok p q lo F S pg w h0 hp hd
theorem readB_st (G : Nat → Prop) (p : Nat) (S : St) (pg : Int) (w : World) (h : StAt w G p S) (hn : rdE S pg ≠ 0) :
    Calls Tryz.prog 23 #[.pointer (some ⟨p, 0, none⟩), .int .i64 pg] w fun e w' => e = .returned (.tuple #[.slice none 0 0, errV (rdE S pg)]) ∧ w' = w := by
  obtain ⟨q, lo, F, h0, hG⟩ := h
  exact read_bad p q lo F S pg w h0 hn
theorem loose_st (G : Nat → Prop) (p : Nat) (S : St) (w : World) (h : StAt w G p S) :
    Calls Tryz.prog 22 #[.pointer (some ⟨p, 0, none⟩)] w fun e w' => e = .returned (.int .i64 S.loose.length) ∧ w' = w := by
  obtain ⟨q, lo, F, h0, hG⟩ := h
  exact loose_any p q lo F S w h0
/-- Start: what a store says. -/
def StaS (G : Nat → Prop) (p : Nat) (S : St) (K : Nat → Bool) (w : World) (e : Ending) (w' : World) : Prop :=
  e = .returned (.tuple #[]) ∧ StAt w' G p (S.started K) ∧ Fr G w w'
theorem start_st (G : Nat → Prop) (p : Nat) (S : St) (ad : Option Addr) (cap : Nat) (ks : List Int) (w : World) (h : StAt w G p S) (hk : IsL w ad ks) (hks : ks.length ≤ 140737488355328) :
    Calls Tryz.prog 28 #[.pointer (some ⟨p, 0, none⟩), .slice ad ks.length cap] w (StaS G p S (toldK ks) w) := by
  obtain ⟨q, lo, F, h0, hG⟩ := h
  refine (start_any p q lo F S ad cap ks w h0 hk hks).mono ?_
  rintro e w' ⟨rfl, h1, hF⟩
  exact ⟨rfl, ⟨q, _, F, h1, fun k hk => hG k (cut0_mine.1 hk)⟩, hF.mono fun k _ hk => hG k hk⟩
def NewS (n : Nat) (w : World) (e : Ending) (w' : World) : Prop :=
  e = .returned (.tuple #[.pointer (some ⟨w.heap.size + 1, 0, none⟩), .nilIface]) ∧ StAt w' (Gn (fun _ => False) w w') (w.heap.size + 1) (newS n) ∧ Below w.heap.size w w'
theorem new_st (n : Nat) (h1 : 1 ≤ n) (h2 : n ≤ 4096) (w : World) : Calls Tryz.prog 9 #[.int .i64 (n : Int)] w (NewS n w) := by
  refine (new_any n h1 h2 w).mono ?_
  rintro e w' ⟨rfl, h0, hb, hs⟩
  exact ⟨rfl, ⟨_, _, _, h0, fun k hk => by
    refine .inr ?_
    rcases hk with rfl | rfl | hk | hk
    · omega
    · omega
    · cases hk
    · exact hk.elim⟩, hb⟩
end Go.Proofs.YtidmpblaeohfaaaGreatDoor
