/- What is done, as it came in; rows of one's own; numbers of one's own. -/
import Derived.Test.YtnilgjlccfileaaDoorPSync
namespace Go.Proofs.YtnilgjlccfileaaDoor
open Go.RowKit

attribute [local go_sem ↓] Go.wp_at_zero Go.wp_at_succ

/-- What is done. -/
structure Ac where
  kind : Int
  page : Int
  n : Int
  d : Bs
  ka : Option Addr
  kc : Nat
  ks : List Int
/-- Bytes that came in: however many. -/
structure DtAt (w : World) (x : Bs) : Prop where
  lies : SlAt w x.ad x.l.length (fn x.l)
  nil : x.ad = none → x.l.length = 0 ∧ x.cap = 0
  bd : ∀ y, y ∈ x.l → 0 ≤ y ∧ y ≤ 255
theorem DtAt.below {w w' : World} {x : Bs} (h : DtAt w x) (hb : Below w.heap.size w w') : DtAt w' x := ⟨h.lies.block fun b _ hn e => hb.block b (h.lies.lt hn e), h.nil, h.bd⟩
structure AcAt (w : World) (ad : Option Addr) (n : Nat) (X : Nat → Ac) : Prop where
  cells : 0 < n → ∃ b off, ad = some ⟨b, off, none⟩ ∧ b < w.heap.size ∧ ∀ j, j < n → w.cell? ⟨b, off + j * 5, none⟩ = some (.int .i64 (X j).kind) ∧ w.cell? ⟨b, off + j * 5 + 1, none⟩ = some (.int .i64 (X j).page) ∧ w.cell? ⟨b, off + j * 5 + 2, none⟩ = some (.int .i64 (X j).n) ∧ w.cell? ⟨b, off + j * 5 + 3, none⟩ = some (X j).d.v ∧ w.cell? ⟨b, off + j * 5 + 4, none⟩ = some (.slice (X j).ka (X j).ks.length (X j).kc)
  data : ∀ j, j < n → DtAt w (X j).d
  keep : ∀ j, j < n → IsL w (X j).ka (X j).ks ∧ (X j).ks.length * 8 ≤ 140737488355328 ∧ ((X j).ka = none → (X j).ks.length = 0 ∧ (X j).kc = 0)
  bds : ∀ j, j < n → (-9223372036854775808 ≤ (X j).page ∧ (X j).page ≤ 9223372036854775807) ∧ (-9223372036854775808 ≤ (X j).n ∧ (X j).n ≤ 9223372036854775807)
theorem Tryd.infoRB : (Tryd.prog.info? 24).map (fun i => (i.zero, i.size, i.bytes)) = some (some (.slice none 0 0), 1, 24) := by kernel_rfl
theorem run_appRB {w : World} {v u : Value} {n r : Nat} {xs : List Value} (hown : w.ownsRow 0 24 1 v n xs) (hr : w.heap[r]? = some (.cells #[u] 24 (0, 0))) (hu : u.oneCell' = true) (hn : n ≤ 1000000) :
    ∃ v' w1, (Builtin.append_ #[38, 38] 38 #[v, .slice (some ⟨r, 0, none⟩) 1 1]).run Tryd.prog w = .ok v' w1 ∧ w1.ownsRow 0 24 1 v' (n + 1) (xs ++ [u]) ∧ w.grownBy w1 v.ownBlock ∧ (v'.ownBlock = v.ownBlock ∨ v'.ownBlock = some w.heap.size) := by
  obtain ⟨i0, hi0, hz0, hz1, hz2⟩ := info_parts Tryd.infoRB
  obtain ⟨v', w4, h1, h2, h3, _, h5⟩ := run_append_own_at (P := Tryd.prog) w 0 38 38 24 i0 (.slice none 0 0) 1 24 Tryd.underlying38 hi0 hz0 hz1 hz2 rfl (by decide) v n xs hown ⟨r, 0, none⟩ 1 1 [u] (by simp)
    (fun j y hj => by
      rw [Addr.add_lit, Nat.zero_add, cell_of_row _ _ j _ _ _ hr]
      simpa using hj)
    (by simpa using hu) (by unfold maxLen; omega) (by omega) (by omega)
  exact ⟨v', w4, h1, h2, h3, h5⟩
theorem Tryd.infoRI : (Tryd.prog.info? 3).map (fun i => (i.zero, i.size, i.bytes)) = some (some (.int .i64 0), 1, 8) := by kernel_rfl
theorem run_appRI {w : World} {v u : Value} {n r : Nat} {xs : List Value} (hown : w.ownsRow 0 3 1 v n xs) (hr : w.heap[r]? = some (.cells #[u] 3 (0, 0))) (hu : u.oneCell' = true) (hn : n ≤ 1000000) :
    ∃ v' w1, (Builtin.append_ #[44, 44] 44 #[v, .slice (some ⟨r, 0, none⟩) 1 1]).run Tryd.prog w = .ok v' w1 ∧ w1.ownsRow 0 3 1 v' (n + 1) (xs ++ [u]) ∧ w.grownBy w1 v.ownBlock ∧ (v'.ownBlock = v.ownBlock ∨ v'.ownBlock = some w.heap.size) := by
  obtain ⟨i0, hi0, hz0, hz1, hz2⟩ := info_parts Tryd.infoRI
  obtain ⟨v', w4, h1, h2, h3, _, h5⟩ := run_append_own_at (P := Tryd.prog) w 0 44 44 3 i0 (.int .i64 0) 1 8 Tryd.underlying44 hi0 hz0 hz1 hz2 rfl (by decide) v n xs hown ⟨r, 0, none⟩ 1 1 [u] (by simp)
    (fun j y hj => by
      rw [Addr.add_lit, Nat.zero_add, cell_of_row _ _ j _ _ _ hr]
      simpa using hj)
    (by simpa using hu) (by unfold maxLen; omega) (by omega) (by omega)
  exact ⟨v', w4, h1, h2, h3, h5⟩

/-- A store that is neither armed nor down. -/
def Calm (S : St) : Prop := S.armed = false ∧ S.down = false ∧ 0 ≤ S.steps ∧ S.steps < 9223372036854775808
theorem Calm.step {S : St} (h : Calm S) : stepS S = S := by simp [stepS, h.1]
theorem Calm.stepE {S : St} (h : Calm S) : stepE S = 0 := by simp [Go.Proofs.YtnilgjlccfileaaDoor.stepE, h.1]
/-- What a write to such a store leaves. -/
def WrC (G : Nat → Prop) (p : Nat) (S : St) (pg : Int) (l : List Int) (w : World) (e : Ending) (w' : World) : Prop :=
  e = .returned (errV (wrE S pg l.length)) ∧ ∃ S', StAt w' (Gn G w w') p S' ∧ Fr G w w' ∧ ((wrE S pg l.length = 0 ∧ ∃ y : Bs, y.l = l ∧ S' = S.put pg y) ∨ (wrE S pg l.length ≠ 0 ∧ S' = S))
theorem write_calm (G : Nat → Prop) (p : Nat) (S : St) (pg : Int) (x : Bs) (w : World) (h : StAt w G p S) (hc : Calm S) (hfew : S.loose.length < 1000000) (hx : DtAt w x) :
    Calls Tryd.prog 8 #[.pointer (some ⟨p, 0, none⟩), .int .i64 pg, x.v] w (WrC G p S pg x.l w) := by
  by_cases he : wrE S pg x.l.length = 0
  · have h1 : 0 ≤ pg ∧ pg < S.safe.length := by
      unfold wrE at he
      split at he
      · cases he
      · rename_i h; exact Classical.not_not.1 h
    have h2 : ¬ 4096 < x.l.length := by
      intro h2
      unfold wrE at he
      rw [if_neg (by simpa using h1), if_pos h2] at he
      cases he
    refine (write_st G p S pg x.ad x.cap x.l w h hc.2.2 h1 hc.2.1 hfew hx.lies hx.nil hx.bd (by omega)).mono ?_
    rintro e w' ⟨rfl, y, hy, hS, hF⟩
    refine ⟨by rw [he, hc.stepE], _, hS, hF, .inl ⟨he, y, hy, ?_⟩⟩
    have : Calm (S.put pg y) := hc
    exact this.step
  · refine (writeB_st G p S pg x.ad x.l.length x.cap w h he).mono ?_
    rintro e w' ⟨rfl, rfl⟩
    exact ⟨rfl, S, h.mono fun k hk => .inl hk, Fr.refl _ _, .inr ⟨he, rfl⟩⟩
/-- Numbers of one's own. -/
def OwnR (w : World) (ks : List Int) (e : Ending) (w' : World) : Prop := ∃ ad cap, e = .returned (.slice ad ks.length cap) ∧ IsL w' ad ks ∧ Below w.heap.size w w'
set_option maxRecDepth 100000 in
set_option maxHeartbeats 800000 in
theorem ownI_any (ad : Option Addr) (cap : Nat) (ks : List Int) (w : World) (h : IsL w ad ks) (hn : ad = none → ks.length = 0 ∧ cap = 0) (hl : ks.length * 8 ≤ 140737488355328) :
    Calls Tryd.prog 20 #[.slice ad ks.length cap] w (OwnR w ks) := by
  obtain ⟨i0, hi0, hz0, hz1, hz2⟩ := info_parts Tryd.infoRI
  have key : ∃ v' w', (Builtin.append_ #[44, 44] 44 #[.slice none 0 0, .slice ad ks.length cap]).run Tryd.prog w = .ok v' w' ∧ OwnR w ks (.returned v') w' := by
    cases ad with
    | none =>
      obtain ⟨e, rfl⟩ := hn rfl
      have : ks = [] := List.eq_nil_of_length_eq_zero e
      subst this
      refine ⟨.slice none 0 0, w, ?_, none, 0, rfl, fun h => by simp at h, Below.refl _ _⟩
      simp [Builtin.append_, run_underlying Tryd.underlying44, sizeOf, typeInfo, hi0, Builtin.lenOf, Builtin.firstCells]
    | some a =>
      obtain ⟨v', w4, h1, h2, h3, _, h5⟩ := run_append_own_at (P := Tryd.prog) w w.heap.size 44 44 3 i0 (.int .i64 0) 1 8 Tryd.underlying44 hi0 hz0 hz1 hz2 rfl (by decide) (.slice none 0 0) 0 [] (World.ownsRow_nil _ _ _ _) a ks.length cap (ks.map (Value.int .i64)) (by simp)
        (fun j y hj => by
          have hjl : j < ks.length := by simpa using (List.getElem?_eq_some_iff.1 hj).1
          obtain ⟨b, off, e, hc⟩ := h (by omega)
          cases e
          rw [Addr.add_lit, hc j ks[j] (List.getElem?_eq_getElem hjl)]
          simpa [hjl] using hj)
        (fun u hu => by obtain ⟨y, _, rfl⟩ := List.mem_map.1 hu; rfl) (by unfold maxLen; omega) (by omega) (by omega)
      rw [Nat.zero_add, List.nil_append] at h2
      refine ⟨v', w4, h1, ?_⟩
      have hb : Below w.heap.size w w4 := (Below.refl _ w).grown h3 (Nat.le_refl _) (fun k hk => by simp [Value.ownBlock] at hk)
      rcases h2.2 with ⟨rfl, e⟩ | ⟨g, c, cur, rfl, _⟩
      · exact ⟨none, 0, by rw [e], fun hn => by omega, hb⟩
      · refine ⟨some ⟨g, 0, none⟩, c, rfl, fun _ => ⟨g, 0, rfl, fun j x hx => ?_⟩, hb⟩
        have := h2.cells (g := g) rfl j (.int .i64 x) (by rw [List.getElem?_map, hx]; rfl)
        rwa [Addr.add_lit] at this
  obtain ⟨v', w', hrun, hR⟩ := key
  have HR : Hid (OwnR w ks (.returned v') w') := hR
  clear hR h hn
  go_enter Tryd.func20, Tryd.ntmps20
  go_wp2_with (first | (at_builtin; refine wpList_append_run rfl _ _ _ rfl rfl rfl hrun ?_) | fail)
  go_ret
  exact HR.out
end Go.Proofs.YtnilgjlccfileaaDoor
