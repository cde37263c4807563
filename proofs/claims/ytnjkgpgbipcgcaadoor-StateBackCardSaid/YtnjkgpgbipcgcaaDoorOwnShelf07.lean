/- The writer's digits: a number's bytes, the highest first. -/
import Derived.Test.YtnjkgpgbipcgcaaDoorOwnShelf06
import Derived.Test.YtnjkgpgbipcgcaaDoorOwnShelf04
import Derived.Test.YtnjkgpgbipcgcaaDoorOwnShelf03
import Derived.Deep.RegionLaw
import Derived.Deep.AppendLies
import Derived.Deep.DrawnRows
namespace Go.Proofs.YtnjkgpgbipcgcaaDoor
open Go.RowKit

attribute [local go_sem ↓] Go.wp_at_zero Go.wp_at_succ

/-- A writer at block p has laid the bytes l; g: the block of them. -/
def WrAt (w : World) (B p : Nat) (g : Option Nat) (l : List Int) : Prop :=
  ∃ v, w.heap[p]? = some (.cells #[v] 114 (0, 0)) ∧ w.ownsRow B 5 1 v l.length (l.map (Value.int .u8)) ∧ v.ownBlock = g ∧ B ≤ p ∧ (∀ x, x ∈ l → 0 ≤ x ∧ x ≤ 255)

/-- The byte j of k of a number, the highest first. -/
def dgt (t : Bool) (n : Int) (k j : Nat) : Int := trn t (n / 256 ^ (k - 1 - j) % 256)
def dgs (t : Bool) (n : Int) (k q : Nat) : List Int := (List.range q).map (dgt t n k)
theorem dgs_succ (t : Bool) (n : Int) (k q : Nat) : dgs t n k (q + 1) = dgs t n k q ++ [dgt t n k q] := by simp [dgs, List.range_succ]
theorem dgs_length (t : Bool) (n : Int) (k q : Nat) : (dgs t n k q).length = q := by simp [dgs]


theorem wrap_u8 (x : Int) : IntKind.u8.wrap x = x % 256 := by simp [IntKind.wrap, IntKind.bits, IntKind.signed]
theorem wrap_u8_bd (x : Int) : 0 ≤ IntKind.u8.wrap x ∧ IntKind.u8.wrap x ≤ 255 := by rw [wrap_u8]; omega
theorem dgt_bd (t : Bool) (n : Int) (k j : Nat) : 0 ≤ dgt t n k j ∧ dgt t n k j ≤ 255 := trn_bd (by omega)

/-- A writer that has grown from w on: what it has laid; the rest is as it was. -/
def WrGrown (w wr : World) (B p : Nat) (g : Option Nat) (l : List Int) : Prop :=
  ∃ g', WrAt wr B p g' l ∧ Frm (p :: g.toList) w wr ∧ (g' = g ∨ ∃ b, g' = some b ∧ w.heap.size ≤ b)

/-- The block of bytes is not the writer's own. -/
theorem own_ne {w : World} {B p n : Nat} {v u : Value} {xs : List Value} (h : w.ownsRow B 5 1 v n xs) (hp : w.heap[p]? = some (.cells #[u] 114 (0, 0))) : v.ownBlock ≠ some p := by
  intro e
  rcases h.2 with ⟨rfl, _⟩ | ⟨g, cap, cur, rfl, _, hg, _⟩
  · simp [Value.ownBlock] at e
  · simp [Value.ownBlock] at e
    subst e
    rw [hg] at hp
    simp at hp

/-- Behind an append to the bytes the writer's own block is as it was. -/
theorem grown_keep {w w0 w1 : World} {ob : Obj} {p : Nat} {row : Option Nat} (h0 : Frm [] w w0) (hg : w0.grownBy w1 row) (hp : w.heap[p]? = some ob) (hne : some p ≠ row) : w1.heap[p]? = some ob := by
  have hlt := lt_of_block hp
  have := h0.size
  rw [hg.block p (by omega) hne, h0.block p hlt (by simp)]
  exact hp

theorem Frm.grown2 {S : List Nat} {a b c : World} {row : Option Nat} (h : Frm S a b) (hg : b.grownBy c row) (hr : ∀ k, row = some k → k ∈ S ∨ a.heap.size ≤ k) : Frm S a c :=
  ⟨hg.os.trans h.os, hg.tape.trans h.tape, hg.output.trans h.output, Nat.le_trans h.size hg.size, fun k hk hn => by
    have := h.size
    rw [hg.block k (by omega) (fun e => by rcases hr k e.symm with h | h; exact hn h; omega)]
    exact h.block k hk hn⟩

/-- One append of a writer, part by part: the block, the row, what is kept. -/
theorem wr_parts {w wr w0 w1 : World} {B p gg cap : Nat} {g g1 : Option Nat} {v : Value} {L ys : List Int}
    (hp : wr.heap[p]? = some (.cells #[v] 114 (0, 0))) (h0 : Frm [] wr w0) 
    (hown1 : w1.ownsRow B 5 1 (.slice (some ⟨gg, 0, none⟩) (L.length + ys.length) cap) (L.length + ys.length) (L.map (Value.int .u8) ++ ys.map (Value.int .u8)))
    (hgrow : w0.grownBy w1 v.ownBlock) (hat : v.ownBlock = some gg ∨ gg = wr.heap.size + 1) (hg : v.ownBlock = g1) (hg1 : g1 = g ∨ ∃ b, g1 = some b ∧ w.heap.size ≤ b)
    (hF : Frm (p :: g.toList) w wr) (hB : B ≤ p) (hx : ∀ x, x ∈ L → 0 ≤ x ∧ x ≤ 255) (hy : ∀ y, y ∈ ys → 0 ≤ y ∧ y ≤ 255) (hne : some p ≠ v.ownBlock) :
    (w1.setCell ⟨p, 0, none⟩ (.slice (some ⟨gg, 0, none⟩) (L.length + ys.length) cap)).heap[p]? = some (.cells #[.slice (some ⟨gg, 0, none⟩) (L.length + ys.length) cap] 114 (0, 0)) ∧
    (w1.setCell ⟨p, 0, none⟩ (.slice (some ⟨gg, 0, none⟩) (L.length + ys.length) cap)).ownsRow B 5 1 (.slice (some ⟨gg, 0, none⟩) (L.length + ys.length) cap) (L ++ ys).length ((L ++ ys).map (Value.int .u8)) ∧
    (∀ x, x ∈ L ++ ys → 0 ≤ x ∧ x ≤ 255) ∧ gg ≠ p ∧
    Frm (p :: g.toList) w (w1.setCell ⟨p, 0, none⟩ (.slice (some ⟨gg, 0, none⟩) (L.length + ys.length) cap)) ∧ (some gg = g ∨ ∃ b, some gg = some b ∧ w.heap.size ≤ b) ∧ B ≤ p := by
  have hplt := lt_of_block hp
  have hgp : gg ≠ p := by
    rcases hat with h | h
    · intro e; subst e; exact hne h.symm
    · omega
  refine ⟨one_setCell (grown_keep h0 hgrow hp hne), ?_, ?_, hgp, ?_, ?_, hB⟩
  · have := ownsRow_setCell_other hown1 (a := ⟨p, 0, none⟩) (by simp [Value.ownBlock, hgp]) (.slice (some ⟨gg, 0, none⟩) (L.length + ys.length) cap)
    simpa using this
  · intro x hxx
    rcases List.mem_append.1 hxx with h | h
    · exact hx x h
    · exact hy x h
  · refine Frm.setCell ?_ _ _ (by simp)
    refine ((hF.trans (h0.mono (fun _ h => by cases h))).grown2 hgrow fun k hk => ?_)
    rw [hg] at hk
    rcases hg1 with h | ⟨b, h, hb⟩
    · left; rw [← h, hk]; simp
    · right; rw [h] at hk; cases hk; exact hb
  · rcases hat with h | h
    · rcases hg1 with h1 | ⟨b, h1, hb⟩
      · left; rw [← h1, ← hg, h]
      · right; refine ⟨gg, rfl, ?_⟩; rw [h1, h] at hg; cases hg; exact hb
    · right; have := hF.size; exact ⟨gg, rfl, by omega⟩

/-- One append of a writer: bytes behind what was laid. -/
theorem wr_step {w wr w0 w1 : World} {B p gg cap : Nat} {g g1 : Option Nat} {v : Value} {L ys : List Int}
    (hp : wr.heap[p]? = some (.cells #[v] 114 (0, 0))) (h0 : Frm [] wr w0) 
    (hown1 : w1.ownsRow B 5 1 (.slice (some ⟨gg, 0, none⟩) (L.length + ys.length) cap) (L.length + ys.length) (L.map (Value.int .u8) ++ ys.map (Value.int .u8)))
    (hgrow : w0.grownBy w1 v.ownBlock) (hat : v.ownBlock = some gg ∨ gg = wr.heap.size + 1) (hg : v.ownBlock = g1) (hg1 : g1 = g ∨ ∃ b, g1 = some b ∧ w.heap.size ≤ b)
    (hF : Frm (p :: g.toList) w wr) (hB : B ≤ p) (hx : ∀ x, x ∈ L → 0 ≤ x ∧ x ≤ 255) (hy : ∀ y, y ∈ ys → 0 ≤ y ∧ y ≤ 255) (hne : some p ≠ v.ownBlock) :
    WrGrown w (w1.setCell ⟨p, 0, none⟩ (.slice (some ⟨gg, 0, none⟩) (L.length + ys.length) cap)) B p g (L ++ ys) := by
  obtain ⟨h1, h2, h3, _, h5, h6, h7⟩ := wr_parts hp h0 hown1 hgrow hat hg hg1 hF hB hx hy hne
  exact ⟨some gg, ⟨_, h1, h2, rfl, h7, h3⟩, h5, h6⟩

theorem shr_byte (n : Int) (i : Nat) (hi : i < 8) : Op.shift .shr .u64 n .i64 (IntKind.i64.wrap (8 * (i : Int))) = pure (.int .u64 (n / 256 ^ i)) := by
  have h : i = 0 ∨ i = 1 ∨ i = 2 ∨ i = 3 ∨ i = 4 ∨ i = 5 ∨ i = 6 ∨ i = 7 := by omega
  have e : IntKind.i64.wrap (8 * (i : Int)) = 8 * (i : Int) := by
    rcases h with h | h | h | h | h | h | h | h <;> subst h <;> decide
  rw [e, shift_shr .u64 .i64 n _ (by omega) (by simp [IntKind.bits]; omega)]
  rcases h with h | h | h | h | h | h | h | h <;> subst h <;> rfl

set_option maxRecDepth 100000 in
set_option maxHeartbeats 1600000 in
theorem digits_any (p B k : Nat) (g : Option Nat) (l : List Int) (n tn : Int) (t : Bool) (w : World) (hk : sz n = k) (htn : tn = if t then 255 else 0)
    (hw : WrAt w B p g l) (hl : l.length + 8 ≤ 140737488355328) (hn : 0 ≤ n ∧ n ≤ 18446744073709551615) :
    Calls Tryd.prog 64 #[.pointer (some ⟨p, 0, none⟩), .int .u64 n, .int .u8 tn] w fun e w' => e = .returned (.tuple #[]) ∧ WrGrown w w' B p g (l ++ dgs t n k k) := by
  obtain ⟨i0, hi0, hz0, hz1, hz2⟩ := info_parts Tryd.infoB
  have H : Hid (Tryd.prog.info? 5 = some i0 ∧ i0.zero = some (.int .u8 0) ∧ i0.size = 1 ∧ i0.bytes = 1) := ⟨hi0, hz0, hz1, hz2⟩
  clear hi0 hz0 hz1 hz2
  have hk8 : k ≤ 8 := by rw [← hk]; exact sz_le n
  have HT : Hid (tn = if t then 255 else 0) := htn
  clear htn
  have HW : Hid (WrAt w B p g l) := hw
  clear hw
  go_enter Tryd.func64, Tryd.ntmps64
  go_wp2_with (go_at_call 63; refine (size_any _ _ hn.1 hn.2).mono ?_; rintro e wx ⟨rfl, rfl⟩; rw [hk])
  clear hk
  go_loopw [6] (fun iv wr => ∃ q : Nat, q ≤ k ∧ iv = .int .i64 ((k : Int) - 1 - q) ∧ WrGrown wx wr B p g (l ++ dgs t n k q)) (fun iv _ => (intOf iv + 1).toNat)
  case atStart => exact ⟨0, Nat.zero_le _, by go_num, g, by simpa [dgs] using HW.out, Frm.refl _ _, .inl rfl⟩
  case round =>
    obtain ⟨q, hq, rfl, g1, hW1, hF1, hg1⟩ := hrel
    by_cases hlt : q < k
    · obtain ⟨i, hi⟩ : ∃ i : Nat, k = i + 1 + q := ⟨k - 1 - q, by omega⟩
      obtain ⟨v, hp, hown, hg, hB, hx⟩ := hW1
      have hc := cell_of_one hp
      have hf := free_of_one hp
      have hplt := lt_of_block hp
      rw [show ((k : Int) - 1 - q) = (i : Int) from by omega]
      have hi0 : (0 : Int) ≤ (i : Int) := by omega
      have hi8 : (i : Int) < 8 := by omega
      have HO : Hid (wr.ownsRow B 5 1 v (l ++ dgs t n k q).length ((l ++ dgs t n k q).map (Value.int .u8))) := hown
      have HP : Hid (wr.heap[p]? = some (.cells #[v] 114 (0, 0))) := hp
      have HF : Hid (Frm (p :: g.toList) wx wr) := hF1
      have hne : some p ≠ v.ownBlock := by
        intro e
        exact own_ne hown hp e.symm
      clear hown hp hF1
      have HI : Hid (k = i + 1 + q) := hi
      have hsh : Op.shift .shr .u64 n .i64 (IntKind.i64.wrap (8 * (i : Int))) = pure (.int .u64 (n / 256 ^ i)) := shr_byte n i (by omega)
      clear hi
      generalize hX : n / 256 ^ i = X at *
      have HX : Hid (n / 256 ^ i = X) := hX
      clear hX
      go_wp2_with fail
      go_region_law
        ((refine step_append_lies _ (by rfl) _ _ _ (by rfl) B 5 i0 _ 1 1 Tryd.underlying37 H.out.1 H.out.2.1 H.out.2.2.1 H.out.2.2.2 rfl (by omega) v (l ++ dgs t n k q).length ((l ++ dgs t n k q).map (Value.int .u8)) (by rfl) ((HO.out.alloc _).drew) ⟨wr.heap.size, 0, none⟩ 1 1 [_] (by rfl) (by rfl) (World.news_of_block (cs := #[_]) (t := 5) (fr := (0, 0)) (heap_alloc_new wr _)) (by simp [Value.oneCell']) (by omega) (by simp [dgs_length, maxLen]; omega) (by simp [dgs_length]; omega) (by simp; omega) (wr.heap.size + 1) (by simp) ?_; intro gg cap w1 hown1 hgrow hat hlt1; have hp1 := grown_keep (((Frm.refl [] wr).alloc _).drew) hgrow HP.out hne; have hc1 := cell_of_one hp1; have hf1 := free_of_one hp1))
      all_goals
        have R : WrGrown wx (w1.setCell ⟨p, 0, none⟩ (.slice (some ⟨gg, 0, none⟩) (l.length + (dgs t n k q).length + 1) cap)) B p g (l ++ dgs t n k (q + 1)) := by
          have hd : bits .xor .u8 (IntKind.u8.wrap X) tn = dgt t n k q := by
            rw [xor_trn t tn _ HT.out (wrap_u8_bd X), wrap_u8 X, dgt, show k - 1 - q = i from by have := HI.out; omega, HX.out]
          rw [hd] at hown1
          rw [dgs_succ, ← List.append_assoc]
          have := wr_step (ys := [dgt t n k q]) HP.out (((Frm.refl [] wr).alloc _).drew) (by simpa using hown1) hgrow hat hg hg1 HF.out hB hx (by intro y hy; rw [List.mem_singleton.1 hy]; exact dgt_bd t n k q) hne
          simpa using this
        clear hown1 hgrow hp1 hc1 hf1
        go_wp2
        go_roundw
        case rel => exact ⟨q + 1, by omega, by have := HI.out; go_num, R⟩
        case measure => simp [intOf]
    · have : q = k := by omega
      subst this
      go_wp2
      go_end0
      exact ⟨rfl, g1, hW1, hF1, hg1⟩
end Go.Proofs.YtnjkgpgbipcgcaaDoor
