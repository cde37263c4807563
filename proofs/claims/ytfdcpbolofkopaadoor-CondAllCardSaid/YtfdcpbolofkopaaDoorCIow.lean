/- Rows of ints of one's own: append; the document's has. -/
import Derived.Test.YtfdcpbolofkopaaDoorCSort
import Derived.Deep.AppendSrc
import Derived.Maps.AppendAt
namespace Go.Proofs.YtfdcpbolofkopaaDoor
open Go.RowKit

def iC (L : List Int) : List Value := L.map (Value.int .i64)
def fi (L : List Int) : Nat → Int := fun j => L.getD j 0
/-- What is appended: ints that lie somewhere, or nothing. -/
def ISrc (w : World) (u : Value) (ys : List Int) : Prop :=
  ∃ ad c, u = .slice ad ys.length c ∧ ((ad = none ∧ ys = []) ∨ ∃ a, ad = some a ∧ ∀ j v, (iC ys)[j]? = some v → w.cell? (a.add j) = some v)
theorem ISrc.below {w w' : World} {u : Value} {ys : List Int} (h : ISrc w u ys) (hb : Below w.heap.size w w') : ISrc w' u ys := by
  obtain ⟨ad, c, rfl, h⟩ := h
  refine ⟨ad, c, rfl, ?_⟩
  rcases h with h | ⟨a, rfl, hc⟩
  · exact .inl h
  · refine .inr ⟨a, rfl, fun j v hv => ?_⟩
    have h1 := hc j v hv
    rw [hb.cell (p := a.add j) (World.block_lt_of_cell? w _ h1)]
    exact h1
/-- A value that owns ints, made since w0; nothing that was there in w0 has changed. -/
structure IOw (w0 w : World) (v : Value) (L : List Int) : Prop where
  own : w.ownsRow w0.heap.size 3 1 v L.length (iC L)
  below : Below w0.heap.size w0 w
theorem IOw.nil (w : World) : IOw w w (.slice none 0 0) [] := ⟨World.ownsRow_nil _ _ _ _, Below.refl _ _⟩
theorem IOw.nil' {w0 w : World} (h : Below w0.heap.size w0 w) : IOw w0 w (.slice none 0 0) [] := ⟨World.ownsRow_nil _ _ _ _, h⟩
theorem IOw.keep {w0 w w' : World} {v : Value} {L : List Int} (h : IOw w0 w v L) (hb : Below w.heap.size w w') : IOw w0 w' v L := by
  refine ⟨⟨h.own.1, ?_⟩, h.below.trans (hb.mono h.below.size)⟩
  rcases h.own.2 with hn | ⟨g, cap, cur, e, hbs, hg, rest⟩
  · exact .inl hn
  · exact .inr ⟨g, cap, cur, e, hbs, by rw [hb.block _ (lt_of_block hg)]; exact hg, rest⟩
theorem IOw.mono {w w0 w1 : World} {v : Value} {L : List Int} (h : IOw w0 w1 v L) (hb : Below w.heap.size w w0) : IOw w w1 v L := by
  refine ⟨⟨h.own.1, ?_⟩, hb.trans (h.below.mono hb.size)⟩
  rcases h.own.2 with hn | ⟨g, cap, cur, e, hbs, rest⟩
  · exact .inl hn
  · exact .inr ⟨g, cap, cur, e, Nat.le_trans hb.size hbs, rest⟩
theorem IOw.form {w0 w : World} {v : Value} {L : List Int} (h : IOw w0 w v L) : (v = .slice none 0 0 ∧ L = []) ∨ ∃ g cap, v = .slice (some ⟨g, 0, none⟩) L.length cap ∧ L.length ≤ cap ∧ cap ≤ maxLen ∧ w0.heap.size ≤ g ∧ g < w.heap.size ∧ ∀ j, j < L.length → w.cell? ⟨g, 0 + j, none⟩ = some (.int .i64 (fi L j)) := by
  rcases h.own.2 with ⟨rfl, e⟩ | ⟨g, cap, cur, rfl, hbs, hg, hc, hm, _⟩
  · exact .inl ⟨rfl, List.eq_nil_of_length_eq_zero e⟩
  · refine .inr ⟨g, cap, rfl, hc, hm, hbs, lt_of_block hg, fun j hj => ?_⟩
    have := h.own.cells (g := g) rfl j (.int .i64 (fi L j)) (by simp [iC, fi, hj])
    rwa [Addr.add_lit] at this
theorem IOw.isAt {w0 w : World} {ad : Option Addr} {n cap : Nat} {L : List Int} (h : IOw w0 w (.slice ad n cap) L) : n = L.length ∧ IsAt w ad L.length (fi L) := by
  rcases h.form with ⟨e, rfl⟩ | ⟨g, c, e, _, _, _, _, hc⟩
  · cases e; exact ⟨rfl, fun h => by cases h⟩
  · cases e; exact ⟨rfl, fun _ => ⟨g, 0, rfl, hc⟩⟩

theorem run_append_I (w w0 : World) (ty : TypeId) (v u : Value) (L ys : List Int) (hown : IOw w0 w v L) (hu : ISrc w u ys) (hlen : L.length + ys.length ≤ 1000000) :
    ∃ v' w1, (Builtin.append_ #[22, 22] ty #[v, u]).run Tryd.prog w = .ok v' w1 ∧ IOw w0 w1 v' (L ++ ys) ∧ (∀ k, k < w.heap.size → v.ownBlock ≠ some k → w1.heap[k]? = w.heap[k]?) := by
  obtain ⟨i0, hi0, hz0, hz1, hz2⟩ := info_parts infoI
  obtain ⟨ad, c, rfl, ⟨rfl, rfl⟩ | ⟨a, rfl, hc⟩⟩ := hu
  · refine ⟨v, w, ?_, by simpa using hown, fun _ _ _ => rfl⟩
    rcases hown.own.2 with ⟨rfl, hl⟩ | ⟨g, cap, cur, rfl, hbs, hg, hcap, _⟩
    · simp [Builtin.append_, run_underlying Tryd.underlying22, sizeOf, typeInfo, hi0, Builtin.lenOf, Builtin.firstCells]
    · have := run_append_room_src (P := Tryd.prog) w 22 22 ty 3 i0 Tryd.underlying22 hi0 g 0 L.length cap (.slice none 0 c) 0 [] (Src.ofNil w Tryd.underlying22 c) (by omega) (fun j hj => by simp at hj) (fun j hj => by simp at hj)
      simpa [World.setCells] using this
  · obtain ⟨v', w1, hr, h2, h3, _, h5⟩ := run_append_own_at (P := Tryd.prog) w w0.heap.size 22 ty 3 i0 (.int .i64 0) 1 8 Tryd.underlying22 hi0 hz0 hz1 hz2 rfl (by decide) v L.length (iC L) hown.own a ys.length c (iC ys) (by simp [iC]) hc
      (fun u hu => by obtain ⟨y, _, rfl⟩ := List.mem_map.1 hu; rfl) (by simp only [maxLen]; omega) (by omega) hown.below.size
    refine ⟨v', w1, hr, ⟨by simpa [iC] using h2, hown.below.trans ⟨h3.os, h3.tape, h3.output, h3.size, fun k hk => h3.block k (by have := hown.below.size; omega) (fun e => ?_)⟩⟩, fun k hk hne => h3.block k hk (fun e => hne e.symm)⟩
    have := (hown.own.lt k e.symm).1
    omega

section
variable {ops : Array Oper} {o : Oper} {a : Act} {w : World} {K : Act → World → Prop} {Q : Exit → Act → World → Prop} {E : Prop}
theorem step_append_I (hgd : o.guard = none) (s x : Operand) (ho : o.op = .call { callee := .builtin .append, args := #[s, x], argTypes := #[22, 22] })
    (w0 : World) (v u : Value) (L ys : List Int) (hs : a.eval s = v) (hx : a.eval x = u) (hown : IOw w0 w v L) (hu : ISrc w u ys) (hlen : L.length + ys.length ≤ 1000000)
    (h : ∀ v' w1, IOw w0 w1 v' (L ++ ys) → (∀ k, k < w.heap.size → v.ownBlock ≠ some k → w1.heap[k]? = w.heap[k]?) → K (a.put o.dst v') w1) : if Region.wanted o (yielded ops a.tmps) = true then Oper.wp Tryd.prog o a w K Q else E := by
  have hw : Region.wanted o (yielded ops a.tmps) = true := by simp [Region.wanted, hgd]
  rw [if_pos hw]
  obtain ⟨v', w1, hr, h2, h3⟩ := run_append_I w w0 o.type v u L ys hown hu hlen
  unfold Oper.wp execOp
  simp only [ho, resolve, invoke, builtin, Sem.run_bind, Sem.run_pure, Result.andThen_ok, List.map_toArray, List.map_cons, List.map_nil, hs, hx, hr]
  exact h v' w1 h2 h3
end

/-- Whether an int is among some. -/
def memK (z : Nat → Int) (n : Nat) (k : Int) : Bool := (keysL z n).contains k

set_option maxHeartbeats 800000 in
theorem rhas_any (ad : Option Addr) (n cap : Nat) (z : Nat → Int) (k : Int) (w : World) (h : IsAt w ad n z) (hn : n ≤ 1000000) :
    Calls Tryd.prog 27 #[.slice ad n cap, .int .i64 k] w fun e w' => e = .returned (.bool (memK z n k)) ∧ Below w.heap.size w w' := by
  have HI : Hid (IsAt w ad n z) := h
  have hb0 := Below.refl w.heap.size w
  clear h
  go_enter Tryd.func27, Tryd.ntmps27
  go_wp2
  go_loopw [5] (fun iv wr => ∃ i : Nat, i ≤ n ∧ iv = .int .i64 i ∧ (∀ j, j < i → z j ≠ k) ∧ Below w.heap.size w wr) (fun iv _ => n + 1 - (intOf iv).toNat)
  case atStart => exact ⟨0, by omega, rfl, fun j hj => by omega, hb0⟩
  case round =>
    clear hb0
    obtain ⟨i, hi, rfl, hk, hb⟩ := hrel
    have HK : Hid (∀ j, j < i → z j ≠ k) := hk
    clear hk
    by_cases hlt : i < n
    · have hlt' : (i : Int) < n := by omega
      obtain ⟨b, off, rfl, hc⟩ := HI.out (by omega)
      have hci : wr.cell? ⟨b, off + i, none⟩ = some (.int .i64 (z i)) := by
        have := hc i hlt
        rw [hb.cell (p := ⟨b, off + i, none⟩) (World.block_lt_of_cell? w ⟨b, off + i, none⟩ this)]; exact this
      clear hc
      by_cases hq : z i = k
      · have HE : Hid (memK z n k = true) := by
          show (keysL z n).contains k = true
          simp only [List.contains_iff_mem, keysL, List.mem_map, List.mem_range]
          exact ⟨i, hlt, hq⟩
        go_wp2
        go_ret
        exact ⟨by rw [HE.out]; rfl, hb⟩
      · have HN : Hid (∀ j, j < i + 1 → z j ≠ k) := fun j hj => by
          by_cases e : j = i
          · subst e; exact hq
          · exact HK.out j (by omega)
        go_wp2
        go_roundw
        case rel => exact ⟨i + 1, by omega, by go_num, HN.out, hb⟩
        case measure => simp [intOf]; omega
    · obtain rfl : i = n := by omega
      have hnn : ¬ ((i : Int) < i) := by omega
      have HE : Hid (memK z i k = false) := by
        show (keysL z i).contains k = false
        simp only [List.contains_eq_mem, decide_eq_false_iff_not, keysL, List.mem_map, List.mem_range]
        rintro ⟨j, hj, e⟩
        exact HK.out j hj e
      go_wp2
      go_ret
      exact ⟨by rw [HE.out]; rfl, hb⟩
end Go.Proofs.YtfdcpbolofkopaaDoor
