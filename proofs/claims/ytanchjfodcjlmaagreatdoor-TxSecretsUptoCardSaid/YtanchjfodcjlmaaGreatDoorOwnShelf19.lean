/- How many bytes a number has: math/bits.Len64 and enc.size. -/
import Derived.Test.YtanchjfodcjlmaaGreatDoorOwnShelf17
import Derived.Test.YtanchjfodcjlmaaGreatDoorOwnShelf18
import Derived.Test.YtanchjfodcjlmaaGreatDoorOwnShelf16
import Derived.Deep.RegionLaw
import Derived.Deep.AppendLies
import Derived.Deep.DrawnRows
import Derived.Deep.AppendSrc
import Derived.Deep.RegionWith
namespace Go.Proofs.YtanchjfodcjlmaaGreatDoor
open Go.RowKit

/-- How many bytes a number has without needless noughts. -/
def sz (n : Int) : Nat :=
  if n < 1 then 0 else if n < 256 then 1 else if n < 65536 then 2 else if n < 16777216 then 3 else if n < 4294967296 then 4
  else if n < 1099511627776 then 5 else if n < 281474976710656 then 6 else if n < 72057594037927936 then 7 else 8

theorem bitLen_byte (y : Nat) (h1 : 1 ≤ y) (h2 : y < 256) : 1 ≤ Lib.bitLen y ∧ Lib.bitLen y ≤ 8 := by
  refine ⟨?_, Lib.bitLen_le y 8 (by omega) (by omega)⟩
  rw [Lib.bitLen_half y (by omega) (by omega)]; omega

theorem sz_close (x k : Nat) (h : 2 ^ (8 * k) ≤ x) (h2 : x / 2 ^ (8 * k) < 256) (hx : x < 18446744073709551616) : (Lib.bitLen x + 7) / 8 = k + 1 := by
  have e := Lib.bitLen_shift (8 * k) x h hx
  have b := bitLen_byte (x / 2 ^ (8 * k)) (Nat.div_pos h (Nat.two_pow_pos _)) h2
  omega

theorem sz_bitLen (x : Int) (h0 : 0 ≤ x) (h1 : x ≤ 18446744073709551615) : (Lib.bitLen x.toNat + 7) / 8 = sz x := by
  unfold sz
  split
  · have : x.toNat = 0 := by omega
    rw [this]; rfl
  · split
    · exact sz_close x.toNat 0 (by omega) (by omega) (by omega)
    · split
      · exact sz_close x.toNat 1 (by omega) (by omega) (by omega)
      · split
        · exact sz_close x.toNat 2 (by omega) (by omega) (by omega)
        · split
          · exact sz_close x.toNat 3 (by omega) (by omega) (by omega)
          · split
            · exact sz_close x.toNat 4 (by omega) (by omega) (by omega)
            · split
              · exact sz_close x.toNat 5 (by omega) (by omega) (by omega)
              · split
                · exact sz_close x.toNat 6 (by omega) (by omega) (by omega)
                · exact sz_close x.toNat 7 (by omega) (by omega) (by omega)

theorem sz_le (n : Int) : sz n ≤ 8 := by unfold sz; repeat' split
                                         all_goals omega

set_option maxHeartbeats 400000 in
theorem size_any (x : Int) (w : World) (h0 : 0 ≤ x) (h1 : x ≤ 18446744073709551615) :
    Calls Tryz.prog 101 #[.int .u64 x] w fun e w' => e = .returned (.int .i64 (sz x)) ∧ w' = w := by
  have hb := Lib.bitLen_le x.toNat 64 (by omega) (by omega)
  have hs := sz_bitLen x h0 h1
  have HS : Hid ((Lib.bitLen x.toNat + 7) / 8 = sz x) := hs
  clear hs
  generalize hB : Lib.bitLen x.toNat = B at *
  have HB := (show Hid (Lib.bitLen x.toNat = B) from hB)
  clear hB
  go_enter Tryz.func101, Tryz.ntmps101
  go_wp2_with (go_at_call 93; refine (len64_any _ _ h0 h1).mono ?_; rintro e w' ⟨rfl, rfl⟩; rw [HB.out])
  go_ret
  refine ⟨congrArg (fun i => Ending.returned (Value.int IntKind.i64 i)) ?_, rfl⟩
  have := HS.out
  omega
end Go.Proofs.YtanchjfodcjlmaaGreatDoor
/- The writer's digits: a number's bytes, the highest first. -/
namespace Go.Proofs.YtanchjfodcjlmaaGreatDoor
open Go.RowKit

attribute [local go_sem ↓] Go.wp_at_zero Go.wp_at_succ

/-- A writer at block p has laid the bytes l; g: the block of them. -/
def WrAt (w : World) (B p : Nat) (g : Option Nat) (l : List Int) : Prop :=
  ∃ v, w.heap[p]? = some (.cells #[v] 161 (0, 0)) ∧ w.ownsRow B 5 1 v l.length (l.map (Value.int .u8)) ∧ v.ownBlock = g ∧ B ≤ p ∧ (∀ x, x ∈ l → 0 ≤ x ∧ x ≤ 255)

/-- The byte j of k of a number, the highest first. -/
def dgt (t : Bool) (n : Int) (k j : Nat) : Int := trn t (n / 256 ^ (k - 1 - j) % 256)
def dgs (t : Bool) (n : Int) (k q : Nat) : List Int := (List.range q).map (dgt t n k)
theorem dgs_succ (t : Bool) (n : Int) (k q : Nat) : dgs t n k (q + 1) = dgs t n k q ++ [dgt t n k q] := by simp [dgs, List.range_succ]
theorem dgs_length (t : Bool) (n : Int) (k q : Nat) : (dgs t n k q).length = q := by simp [dgs]


theorem wrap_u8 (x : Int) : IntKind.u8.wrap x = x % 256 := by simp [IntKind.wrap, IntKind.bits, IntKind.signed]
theorem wrap_u8_bd (x : Int) : 0 ≤ IntKind.u8.wrap x ∧ IntKind.u8.wrap x ≤ 255 := by rw [wrap_u8]; omega
theorem dgt_bd (t : Bool) (n : Int) (k j : Nat) : 0 ≤ dgt t n k j ∧ dgt t n k j ≤ 255 := trn_bd (by omega)

/-- A writer that has grown from w on: what it has laid; the rest is as it was. -/
def WrGrown (w wr : World) (B p : Nat) (g : Option Nat) (l : List Int) : Prop :=
  ∃ g', WrAt wr B p g' l ∧ Frm (p :: g.toList) w wr ∧ (g' = g ∨ ∃ b, g' = some b ∧ w.heap.size ≤ b)

/-- The block of bytes is not the writer's own. -/
theorem own_ne {w : World} {B p n : Nat} {v u : Value} {xs : List Value} (h : w.ownsRow B 5 1 v n xs) (hp : w.heap[p]? = some (.cells #[u] 161 (0, 0))) : v.ownBlock ≠ some p := by
  intro e
  rcases h.2 with ⟨rfl, _⟩ | ⟨g, cap, cur, rfl, _, hg, _⟩
  · simp [Value.ownBlock] at e
  · simp [Value.ownBlock] at e
    subst e
    rw [hg] at hp
    simp at hp

/-- Behind an append to the bytes the writer's own block is as it was. -/
theorem grown_keep {w w0 w1 : World} {ob : Obj} {p : Nat} {row : Option Nat} (h0 : Frm [] w w0) (hg : w0.grownBy w1 row) (hp : w.heap[p]? = some ob) (hne : some p ≠ row) : w1.heap[p]? = some ob := by
  have hlt := lt_of_block hp
  have := h0.size
  rw [hg.block p (by omega) hne, h0.block p hlt (by simp)]
  exact hp

theorem Frm.grown2 {S : List Nat} {a b c : World} {row : Option Nat} (h : Frm S a b) (hg : b.grownBy c row) (hr : ∀ k, row = some k → k ∈ S ∨ a.heap.size ≤ k) : Frm S a c :=
  ⟨hg.os.trans h.os, hg.tape.trans h.tape, hg.output.trans h.output, Nat.le_trans h.size hg.size, fun k hk hn => by
    have := h.size
    rw [hg.block k (by omega) (fun e => by rcases hr k e.symm with h | h; exact hn h; omega)]
    exact h.block k hk hn⟩

/-- One append of a writer, part by part: the block, the row, what is kept. -/
theorem wr_parts {w wr w0 w1 : World} {B p gg cap : Nat} {g g1 : Option Nat} {v : Value} {L ys : List Int}
    (hp : wr.heap[p]? = some (.cells #[v] 161 (0, 0))) (h0 : Frm [] wr w0) 
    (hown1 : w1.ownsRow B 5 1 (.slice (some ⟨gg, 0, none⟩) (L.length + ys.length) cap) (L.length + ys.length) (L.map (Value.int .u8) ++ ys.map (Value.int .u8)))
    (hgrow : w0.grownBy w1 v.ownBlock) (hat : v.ownBlock = some gg ∨ gg = wr.heap.size + 1) (hg : v.ownBlock = g1) (hg1 : g1 = g ∨ ∃ b, g1 = some b ∧ w.heap.size ≤ b)
    (hF : Frm (p :: g.toList) w wr) (hB : B ≤ p) (hx : ∀ x, x ∈ L → 0 ≤ x ∧ x ≤ 255) (hy : ∀ y, y ∈ ys → 0 ≤ y ∧ y ≤ 255) (hne : some p ≠ v.ownBlock) :
    (w1.setCell ⟨p, 0, none⟩ (.slice (some ⟨gg, 0, none⟩) (L.length + ys.length) cap)).heap[p]? = some (.cells #[.slice (some ⟨gg, 0, none⟩) (L.length + ys.length) cap] 161 (0, 0)) ∧
    (w1.setCell ⟨p, 0, none⟩ (.slice (some ⟨gg, 0, none⟩) (L.length + ys.length) cap)).ownsRow B 5 1 (.slice (some ⟨gg, 0, none⟩) (L.length + ys.length) cap) (L ++ ys).length ((L ++ ys).map (Value.int .u8)) ∧
    (∀ x, x ∈ L ++ ys → 0 ≤ x ∧ x ≤ 255) ∧ gg ≠ p ∧
    Frm (p :: g.toList) w (w1.setCell ⟨p, 0, none⟩ (.slice (some ⟨gg, 0, none⟩) (L.length + ys.length) cap)) ∧ (some gg = g ∨ ∃ b, some gg = some b ∧ w.heap.size ≤ b) ∧ B ≤ p := by
  have hplt := lt_of_block hp
  have hgp : gg ≠ p := by
    rcases hat with h | h
    · intro e; subst e; exact hne h.symm
    · omega
  refine ⟨one_setCell (grown_keep h0 hgrow hp hne), ?_, ?_, hgp, ?_, ?_, hB⟩
  · have := ownsRow_setCell_other hown1 (a := ⟨p, 0, none⟩) (by simp [Value.ownBlock, hgp]) (.slice (some ⟨gg, 0, none⟩) (L.length + ys.length) cap)
    simpa using this
  · intro x hxx
    rcases List.mem_append.1 hxx with h | h
    · exact hx x h
    · exact hy x h
  · refine Frm.setCell ?_ _ _ (by simp)
    refine ((hF.trans (h0.mono (fun _ h => by cases h))).grown2 hgrow fun k hk => ?_)
    rw [hg] at hk
    rcases hg1 with h | ⟨b, h, hb⟩
    · left; rw [← h, hk]; simp
    · right; rw [h] at hk; cases hk; exact hb
  · rcases hat with h | h
    · rcases hg1 with h1 | ⟨b, h1, hb⟩
      · left; rw [← h1, ← hg, h]
      · right; refine ⟨gg, rfl, ?_⟩; rw [h1, h] at hg; cases hg; exact hb
    · right; have := hF.size; exact ⟨gg, rfl, by omega⟩

/-- One append of a writer: bytes behind what was laid. -/
theorem wr_step {w wr w0 w1 : World} {B p gg cap : Nat} {g g1 : Option Nat} {v : Value} {L ys : List Int}
    (hp : wr.heap[p]? = some (.cells #[v] 161 (0, 0))) (h0 : Frm [] wr w0) 
    (hown1 : w1.ownsRow B 5 1 (.slice (some ⟨gg, 0, none⟩) (L.length + ys.length) cap) (L.length + ys.length) (L.map (Value.int .u8) ++ ys.map (Value.int .u8)))
    (hgrow : w0.grownBy w1 v.ownBlock) (hat : v.ownBlock = some gg ∨ gg = wr.heap.size + 1) (hg : v.ownBlock = g1) (hg1 : g1 = g ∨ ∃ b, g1 = some b ∧ w.heap.size ≤ b)
    (hF : Frm (p :: g.toList) w wr) (hB : B ≤ p) (hx : ∀ x, x ∈ L → 0 ≤ x ∧ x ≤ 255) (hy : ∀ y, y ∈ ys → 0 ≤ y ∧ y ≤ 255) (hne : some p ≠ v.ownBlock) :
    WrGrown w (w1.setCell ⟨p, 0, none⟩ (.slice (some ⟨gg, 0, none⟩) (L.length + ys.length) cap)) B p g (L ++ ys) := by
  obtain ⟨h1, h2, h3, _, h5, h6, h7⟩ := wr_parts hp h0 hown1 hgrow hat hg hg1 hF hB hx hy hne
  exact ⟨some gg, ⟨_, h1, h2, rfl, h7, h3⟩, h5, h6⟩

theorem shr_byte (n : Int) (i : Nat) (hi : i < 8) : Op.shift .shr .u64 n .i64 (IntKind.i64.wrap (8 * (i : Int))) = pure (.int .u64 (n / 256 ^ i)) := by
  have h : i = 0 ∨ i = 1 ∨ i = 2 ∨ i = 3 ∨ i = 4 ∨ i = 5 ∨ i = 6 ∨ i = 7 := by omega
  have e : IntKind.i64.wrap (8 * (i : Int)) = 8 * (i : Int) := by
    rcases h with h | h | h | h | h | h | h | h <;> subst h <;> decide
  rw [e, shift_shr .u64 .i64 n _ (by omega) (by simp [IntKind.bits]; omega)]
  rcases h with h | h | h | h | h | h | h | h <;> subst h <;> rfl

set_option maxRecDepth 100000 in
set_option maxHeartbeats 1600000 in
theorem digits_any (p B k : Nat) (g : Option Nat) (l : List Int) (n tn : Int) (t : Bool) (w : World) (hk : sz n = k) (htn : tn = if t then 255 else 0)
    (hw : WrAt w B p g l) (hl : l.length + 8 ≤ 140737488355328) (hn : 0 ≤ n ∧ n ≤ 18446744073709551615) :
    Calls Tryz.prog 102 #[.pointer (some ⟨p, 0, none⟩), .int .u64 n, .int .u8 tn] w fun e w' => e = .returned (.tuple #[]) ∧ WrGrown w w' B p g (l ++ dgs t n k k) := by
  obtain ⟨i0, hi0, hz0, hz1, hz2⟩ := info_parts Tryz.infoB
  have H : Hid (Tryz.prog.info? 5 = some i0 ∧ i0.zero = some (.int .u8 0) ∧ i0.size = 1 ∧ i0.bytes = 1) := ⟨hi0, hz0, hz1, hz2⟩
  clear hi0 hz0 hz1 hz2
  have hk8 : k ≤ 8 := by rw [← hk]; exact sz_le n
  have HT : Hid (tn = if t then 255 else 0) := htn
  clear htn
  have HW : Hid (WrAt w B p g l) := hw
  clear hw
  go_enter Tryz.func102, Tryz.ntmps102
  go_wp2_with (go_at_call 101; refine (size_any _ _ hn.1 hn.2).mono ?_; rintro e wx ⟨rfl, rfl⟩; rw [hk])
  clear hk
  go_loopw [6] (fun iv wr => ∃ q : Nat, q ≤ k ∧ iv = .int .i64 ((k : Int) - 1 - q) ∧ WrGrown wx wr B p g (l ++ dgs t n k q)) (fun iv _ => (intOf iv + 1).toNat)
  case atStart => exact ⟨0, Nat.zero_le _, by go_num, g, by simpa [dgs] using HW.out, Frm.refl _ _, .inl rfl⟩
  case round =>
    obtain ⟨q, hq, rfl, g1, hW1, hF1, hg1⟩ := hrel
    by_cases hlt : q < k
    · obtain ⟨i, hi⟩ : ∃ i : Nat, k = i + 1 + q := ⟨k - 1 - q, by omega⟩
      obtain ⟨v, hp, hown, hg, hB, hx⟩ := hW1
      have hc := cell_of_one hp
      have hf := free_of_one hp
      have hplt := lt_of_block hp
      rw [show ((k : Int) - 1 - q) = (i : Int) from by omega]
      have hi0 : (0 : Int) ≤ (i : Int) := by omega
      have hi8 : (i : Int) < 8 := by omega
      have HO : Hid (wr.ownsRow B 5 1 v (l ++ dgs t n k q).length ((l ++ dgs t n k q).map (Value.int .u8))) := hown
      have HP : Hid (wr.heap[p]? = some (.cells #[v] 161 (0, 0))) := hp
      have HF : Hid (Frm (p :: g.toList) wx wr) := hF1
      have hne : some p ≠ v.ownBlock := by
        intro e
        exact own_ne hown hp e.symm
      clear hown hp hF1
      have HI : Hid (k = i + 1 + q) := hi
      have hsh : Op.shift .shr .u64 n .i64 (IntKind.i64.wrap (8 * (i : Int))) = pure (.int .u64 (n / 256 ^ i)) := shr_byte n i (by omega)
      clear hi
      generalize hX : n / 256 ^ i = X at *
      have HX : Hid (n / 256 ^ i = X) := hX
      clear hX
      go_wp2_with fail
      go_region_law
        ((refine step_append_lies _ (by rfl) _ _ _ (by rfl) B 5 i0 _ 1 1 Tryz.underlying57 H.out.1 H.out.2.1 H.out.2.2.1 H.out.2.2.2 rfl (by omega) v (l ++ dgs t n k q).length ((l ++ dgs t n k q).map (Value.int .u8)) (by rfl) ((HO.out.alloc _).drew) ⟨wr.heap.size, 0, none⟩ 1 1 [_] (by rfl) (by rfl) (World.news_of_block (cs := #[_]) (t := 5) (fr := (0, 0)) (heap_alloc_new wr _)) (by simp [Value.oneCell']) (by omega) (by simp [dgs_length, maxLen]; omega) (by simp [dgs_length]; omega) (by simp; omega) (wr.heap.size + 1) (by simp) ?_; intro gg cap w1 hown1 hgrow hat hlt1; have hp1 := grown_keep (((Frm.refl [] wr).alloc _).drew) hgrow HP.out hne; have hc1 := cell_of_one hp1; have hf1 := free_of_one hp1))
      all_goals
        have R : WrGrown wx (w1.setCell ⟨p, 0, none⟩ (.slice (some ⟨gg, 0, none⟩) (l.length + (dgs t n k q).length + 1) cap)) B p g (l ++ dgs t n k (q + 1)) := by
          have hd : bits .xor .u8 (IntKind.u8.wrap X) tn = dgt t n k q := by
            rw [xor_trn t tn _ HT.out (wrap_u8_bd X), wrap_u8 X, dgt, show k - 1 - q = i from by have := HI.out; omega, HX.out]
          rw [hd] at hown1
          rw [dgs_succ, ← List.append_assoc]
          have := wr_step (ys := [dgt t n k q]) HP.out (((Frm.refl [] wr).alloc _).drew) (by simpa using hown1) hgrow hat hg hg1 HF.out hB hx (by intro y hy; rw [List.mem_singleton.1 hy]; exact dgt_bd t n k q) hne
          simpa using this
        clear hown1 hgrow hp1 hc1 hf1
        go_wp2
        go_roundw
        case rel => exact ⟨q + 1, by omega, by have := HI.out; go_num, R⟩
        case measure => simp [intOf]
    · have : q = k := by omega
      subst this
      go_wp2
      go_end0
      exact ⟨rfl, g1, hW1, hF1, hg1⟩
end Go.Proofs.YtanchjfodcjlmaaGreatDoor
/- The writer's Uint and Int. -/
namespace Go.Proofs.YtanchjfodcjlmaaGreatDoor
open Go.RowKit

attribute [local go_sem ↓] Go.wp_at_zero Go.wp_at_succ

/-- A number's bytes as it is laid. -/
def uB (n : Int) : List Int := (sz n : Int) :: dgs false n (sz n) (sz n)

theorem WrGrown.trans {w w1 w2 : World} {B p : Nat} {g : Option Nat} {l l' : List Int} (h : WrGrown w w1 B p g l) (h2 : ∀ g', WrAt w1 B p g' l → WrGrown w1 w2 B p g' l') : WrGrown w w2 B p g l' := by
  obtain ⟨g1, ha, hf, hg⟩ := h
  obtain ⟨g2, ha2, hf2, hg2⟩ := h2 g1 ha
  refine ⟨g2, ha2, ?_, ?_⟩
  · have hsz := hf.size
    refine ⟨hf2.os.trans hf.os, hf2.tape.trans hf.tape, hf2.output.trans hf.output, Nat.le_trans hf.size hf2.size, fun k hk hn => ?_⟩
    rw [hf2.block k (by omega) ?_]
    · exact hf.block k hk hn
    · intro hm
      rcases hg with rfl | ⟨b, rfl, hb⟩
      · exact hn hm
      · simp at hm hn
        rcases hm with h | h
        · exact hn.1 h
        · omega
  · have hsz := hf.size
    rcases hg2 with rfl | ⟨b, rfl, hb⟩
    · exact hg
    · exact .inr ⟨b, rfl, by omega⟩

theorem WrAt.same {w : World} {B p : Nat} {g g' : Option Nat} {l l' : List Int} (h : WrAt w B p g l) (h' : WrAt w B p g' l') : g = g' := by
  obtain ⟨v, hp, _, hg, _⟩ := h
  obtain ⟨v', hp', _, hg', _⟩ := h'
  rw [hp] at hp'
  have : v = v' := by simpa using hp'
  rw [← hg, ← hg', this]

set_option maxRecDepth 100000 in
set_option maxHeartbeats 1600000 in
theorem wrUint_any (p B : Nat) (g : Option Nat) (l : List Int) (n : Int) (w : World) (hw : WrAt w B p g l) (hl : l.length + 16 ≤ 140737488355328) (hn : 0 ≤ n ∧ n ≤ 18446744073709551615) :
    Calls Tryz.prog 80 #[.pointer (some ⟨p, 0, none⟩), .int .u64 n] w fun e w' => e = .returned (.pointer (some ⟨p, 0, none⟩)) ∧ WrGrown w w' B p g (l ++ uB n) := by
  obtain ⟨i0, hi0, hz0, hz1, hz2⟩ := info_parts Tryz.infoB
  have H : Hid (Tryz.prog.info? 5 = some i0 ∧ i0.zero = some (.int .u8 0) ∧ i0.size = 1 ∧ i0.bytes = 1) := ⟨hi0, hz0, hz1, hz2⟩
  clear hi0 hz0 hz1 hz2
  obtain ⟨v, hp, hown, hg, hB, hx⟩ := hw
  have hc := cell_of_one hp
  have hf := free_of_one hp
  have hplt := lt_of_block hp
  have hne : some p ≠ v.ownBlock := fun e => own_ne hown hp e.symm
  have HO : Hid (w.ownsRow B 5 1 v l.length (l.map (Value.int .u8))) := hown
  have HP : Hid (w.heap[p]? = some (.cells #[v] 161 (0, 0))) := hp
  clear hown hp
  obtain ⟨k, hk⟩ : ∃ k, sz n = k := ⟨_, rfl⟩
  have hk8 : k ≤ 8 := by rw [← hk]; exact sz_le n
  have HK : Hid (sz n = k) := hk
  clear hk
  go_enter Tryz.func80, Tryz.ntmps80
  go_wp2_with fail
  go_region_law (first | (refine step_append_lies _ (by rfl) _ _ _ (by rfl) B 5 i0 _ 1 1 Tryz.underlying57 H.out.1 H.out.2.1 H.out.2.2.1 H.out.2.2.2 rfl (by omega) v l.length (l.map (Value.int .u8)) (by rfl) ((HO.out.alloc _).drew) ⟨w.heap.size, 0, none⟩ 1 1 [_] (by rfl) (by rfl) (World.news_of_block (cs := #[_]) (t := 5) (fr := (0, 0)) (heap_alloc_new w _)) (by simp [Value.oneCell']) (by omega) (by simp [maxLen]; omega) (by simp; omega) (by simp; omega) (w.heap.size + 1) (by simp) ?_; intro gg cap w1 hown1 hgrow hat hlt1; have hp1 := grown_keep (((Frm.refl [] w).alloc _).drew) hgrow HP.out hne; have hc1 := cell_of_one hp1; have hf1 := free_of_one hp1) | (go_simp; go_at_call 101; refine (size_any _ _ hn.1 hn.2).mono ?_; rintro e wx ⟨rfl, rfl⟩; rw [HK.out]))
  all_goals
    have hk1 : IntKind.u8.wrap ((k : Int)) = (k : Int) := by rw [wrap_u8]; omega
    rw [hk1] at hown1
    have R := wr_step (ys := [(k : Int)]) HP.out (((Frm.refl [] w).alloc _).drew) (by simpa using hown1) hgrow hat hg (.inl rfl) (Frm.refl _ w) hB hx (by intro y hy; rw [List.mem_singleton.1 hy]; omega) hne
    have R1 : WrGrown w (w1.setCell ⟨p, 0, none⟩ (.slice (some ⟨gg, 0, none⟩) (l.length + 1) cap)) B p g (l ++ [(k : Int)]) := by simpa using R
    have HR : Hid (WrGrown w (w1.setCell ⟨p, 0, none⟩ (.slice (some ⟨gg, 0, none⟩) (l.length + 1) cap)) B p g (l ++ [(k : Int)])) := R1
    clear R R1 hown1 hgrow hp1 hc1 hf1 hk1
    obtain ⟨g1, ha, hF1, hg1⟩ := HR.out
    have HA : Hid (WrAt (w1.setCell ⟨p, 0, none⟩ (.slice (some ⟨gg, 0, none⟩) (l.length + 1) cap)) B p g1 (l ++ [(k : Int)])) := ha
    clear ha hF1 hg1
    go_wp2_with (go_at_call 102; refine (digits_any p B k g1 (l ++ [(k : Int)]) n 0 false _ HK.out rfl HA.out (by simp; omega) hn).mono ?_; rintro e w2 ⟨rfl, hG⟩)
    go_ret
    refine ⟨rfl, ?_⟩
    have hG2 : ∀ g', WrAt (w1.setCell ⟨p, 0, none⟩ (.slice (some ⟨gg, 0, none⟩) (l.length + 1) cap)) B p g' (l ++ [(k : Int)]) → WrGrown (w1.setCell ⟨p, 0, none⟩ (.slice (some ⟨gg, 0, none⟩) (l.length + 1) cap)) w2 B p g' (l ++ [(k : Int)] ++ dgs false n k k) := by
      intro g' h'
      rw [WrAt.same h' HA.out]; exact hG
    have := HR.out.trans hG2
    rw [List.append_assoc] at this
    have hkk := HK.out
    subst hkk
    exact this

end Go.Proofs.YtanchjfodcjlmaaGreatDoor
/- The writer's New and Done. -/
namespace Go.Proofs.YtanchjfodcjlmaaGreatDoor
open Go.RowKit

theorem WrAt.parts {w : World} {B p : Nat} {g : Option Nat} {l : List Int} (h : WrAt w B p g l) : ∃ v, w.heap[p]? = some (.cells #[v] 161 (0, 0)) ∧ w.ownsRow B 5 1 v l.length (l.map (Value.int .u8)) ∧ v.ownBlock = g ∧ B ≤ p ∧ (∀ x, x ∈ l → 0 ≤ x ∧ x ≤ 255) ∧ some p ≠ v.ownBlock ∧ p < w.heap.size := by
  obtain ⟨v, hp, hown, hg, hB, hx⟩ := h
  exact ⟨v, hp, hown, hg, hB, hx, fun e => own_ne hown hp e.symm, lt_of_block hp⟩

theorem alloc_set_new (w : World) (a : Addr) (u : Value) (o : Obj) : ((w.setCell a u).alloc o).heap[w.heap.size]? = some o := by
  have h : (w.setCell a u).heap.size = w.heap.size := by simp [World.setCell]
  have := heap_alloc_new (w.setCell a u) o
  rwa [h] at this

/-- Behind the first of two appends. -/
theorem wr_two {w wr w0 w1 : World} {B p gg cap : Nat} {g g1 : Option Nat} {v : Value} {L : List Int} {y : Int}
    (hp : wr.heap[p]? = some (.cells #[v] 161 (0, 0))) (h0 : Frm [] wr w0)
    (hown1 : w1.ownsRow B 5 1 (.slice (some ⟨gg, 0, none⟩) (L.length + 1) cap) (L.length + 1) (L.map (Value.int .u8) ++ [Value.int .u8 y]))
    (hgrow : w0.grownBy w1 v.ownBlock) (hat : v.ownBlock = some gg ∨ gg = wr.heap.size + 1) (hg : v.ownBlock = g1) (hg1 : g1 = g ∨ ∃ b, g1 = some b ∧ w.heap.size ≤ b)
    (hF : Frm (p :: g.toList) w wr) (hB : B ≤ p) (hx : ∀ x, x ∈ L → 0 ≤ x ∧ x ≤ 255) (hy : 0 ≤ y ∧ y ≤ 255) (hne : some p ≠ v.ownBlock) :
    Hid ((w1.setCell ⟨p, 0, none⟩ (.slice (some ⟨gg, 0, none⟩) (L.length + 1) cap)).heap[p]? = some (.cells #[.slice (some ⟨gg, 0, none⟩) (L.length + 1) cap] 161 (0, 0)) ∧
    (w1.setCell ⟨p, 0, none⟩ (.slice (some ⟨gg, 0, none⟩) (L.length + 1) cap)).ownsRow B 5 1 (.slice (some ⟨gg, 0, none⟩) (L.length + 1) cap) (L.length + 1) ((L ++ [y]).map (Value.int .u8)) ∧ gg ≠ p ∧ p < w1.heap.size ∧
    (∀ x, x ∈ L ++ [y] → 0 ≤ x ∧ x ≤ 255) ∧ Frm (p :: g.toList) w (w1.setCell ⟨p, 0, none⟩ (.slice (some ⟨gg, 0, none⟩) (L.length + 1) cap)) ∧ (some gg = g ∨ ∃ b, some gg = some b ∧ w.heap.size ≤ b)) := by
  obtain ⟨k1, k2, k3, k4, k5, k6, _⟩ := wr_parts (ys := [y]) hp h0 (by simpa using hown1) hgrow hat hg hg1 hF hB hx (by intro x hx; rw [List.mem_singleton.1 hx]; exact hy) hne
  have hl := lt_of_block k1
  simp only [List.length_singleton] at k1 k2 k5
  exact ⟨k1, by simpa using k2, k4, by simpa [World.setCell] using hl, k3, k5, k6⟩

/-- Bytes do not lie in a writer's own block. -/
def fn (l : List Int) : Nat → Int := fun j => l.getD j 0
theorem fn_get (l : List Int) (j : Nat) (h : j < l.length) : fn l j = l[j] := by simp [fn, h]
theorem map_bl (l : List Int) : l.map (Value.int .u8) = bl (fn l) l.length := by
  apply List.ext_getElem
  · simp [bl_length]
  · intro j h1 h2
    simp at h1
    simp [bl, fn, h1]

set_option maxHeartbeats 400000 in
theorem new_any (w : World) :
    Calls Tryz.prog 59 #[] w fun e w' => e = .returned (.pointer (some ⟨w.heap.size, 0, none⟩)) ∧ w' = w.alloc (.cells #[.slice none 0 0] 161) := by
  go_enter Tryz.func59, Tryz.ntmps59
  go_wp2
  go_ret
  exact ⟨rfl, rfl⟩

theorem new_wr (w : World) : WrAt (w.alloc (.cells #[.slice none 0 0] 161)) w.heap.size w.heap.size none [] :=
  ⟨.slice none 0 0, heap_alloc_new w _, World.ownsRow_nil _ _ _ _, rfl, Nat.le_refl _, fun x h => by cases h⟩

set_option maxHeartbeats 400000 in
theorem wrDone_any (p B : Nat) (g : Option Nat) (l : List Int) (w : World) (hw : WrAt w B p g l) (hl : l.length ≤ 140737488351232) :
    Calls Tryz.prog 63 #[.pointer (some ⟨p, 0, none⟩)] w fun e w' => ∃ ad cap, e = .returned (.slice ad l.length cap) ∧ l.length ≤ cap ∧ SlAt w' ad l.length (fn l) ∧ (ad = none → l.length = 0 ∧ cap = 0) ∧ (∀ a, ad = some a → w.heap.size ≤ a.block) ∧ Below w.heap.size w w' := by
  obtain ⟨v, hp, hown, hg, hB, hx⟩ := hw
  rw [map_bl] at hown
  obtain ⟨ad, cap, rfl, h1, h2, h3, h4⟩ := own_SlAt (fun j hj => by rw [fn_get l j hj]; exact hx _ (List.getElem_mem hj)) hown
  have hc := cell_of_one hp
  clear hown hp
  go_enter Tryz.func63, Tryz.ntmps63
  go_wp2_with fail
  refine (clone_any ad l.length cap (fn l) w h2 h3 hl).mono ?_
  rintro e w1 ⟨ad', cap', rfl, k1, k2, k3, k4, hb⟩
  go_wp2
  go_ret
  exact ⟨ad', cap', rfl, k1, k2, k3, k4, hb⟩
end Go.Proofs.YtanchjfodcjlmaaGreatDoor
/- What several texts share. -/
namespace Go.Proofs.YtanchjfodcjlmaaGreatDoor
open Go.RowKit


theorem own_form {w : World} {B n : Nat} {v : Value} {xs : List Value} (h : w.ownsRow B 5 1 v n xs) : ∃ ad cp, v = .slice ad n cp := by
  rcases h.2 with ⟨rfl, rfl⟩ | ⟨g, cap, cur, rfl, _⟩
  · exact ⟨none, 0, rfl⟩
  · exact ⟨_, cap, rfl⟩
/-- What is appended: bytes that lie somewhere, or nothing. -/
def BSrc (w : World) (u : Value) (ys : List Int) : Prop :=
  ∃ ad c, u = .slice ad ys.length c ∧ ((ad = none ∧ ys = []) ∨ ∃ a, ad = some a ∧ ∀ j v, (ys.map (Value.int .u8))[j]? = some v → w.cell? (a.add j) = some v)
/-- A value that owns bytes, made since w0; nothing that was there in w0 has changed. -/
structure Ow (w0 w : World) (v : Value) (L : List Int) : Prop where
  own : w.ownsRow w0.heap.size 5 1 v L.length (L.map (Value.int .u8))
  below : Below w0.heap.size w0 w
  bd : ∀ x, x ∈ L → 0 ≤ x ∧ x ≤ 255

theorem Ow.nil (w : World) : Ow w w (.slice none 0 0) [] := ⟨World.ownsRow_nil _ _ _ _, Below.refl _ _, fun x h => by cases h⟩
theorem Ow.alloc {w0 w : World} {v : Value} {L : List Int} (h : Ow w0 w v L) (o : Obj) : Ow w0 (w.alloc o) v L := ⟨h.own.alloc _, h.below.alloc h.below.size _, h.bd⟩
theorem Ow.drew {w0 w : World} {v : Value} {L : List Int} (h : Ow w0 w v L) : Ow w0 w.drew v L := ⟨h.own.drew, h.below.drew, h.bd⟩
theorem Ow.le {w0 w : World} {v : Value} {L : List Int} (h : Ow w0 w v L) : w0.heap.size ≤ w.heap.size := h.below.size
theorem Ow.mono {w w0 w1 : World} {v : Value} {L : List Int} (h : Ow w0 w1 v L) (hb : Below w.heap.size w w0) : Ow w w1 v L := by
  refine ⟨⟨h.own.1, ?_⟩, hb.trans (h.below.mono hb.size), h.bd⟩
  rcases h.own.2 with hn | ⟨g, cap, cur, e, hbs, rest⟩
  · exact .inl hn
  · exact .inr ⟨g, cap, cur, e, Nat.le_trans hb.size hbs, rest⟩
theorem Ow.src {w0 w w' : World} {v : Value} {L : List Int} (h : Ow w0 w v L) (hb : Below w.heap.size w w') : BSrc w' v L := by
  have hown := h.own
  rcases h.own.2 with ⟨rfl, hl⟩ | ⟨g, cap, cur, rfl, hbs, hg, rest⟩
  · have : L = [] := List.eq_nil_of_length_eq_zero hl
    subst this
    exact ⟨none, 0, rfl, .inl ⟨rfl, rfl⟩⟩
  · refine ⟨some ⟨g, 0, none⟩, cap, rfl, .inr ⟨_, rfl, fun j u hu => ?_⟩⟩
    have h1 := hown.cells (g := g) rfl j u hu
    rw [Addr.add_lit] at h1 ⊢
    rw [hb.cell (p := ⟨g, 0 + j, none⟩) (World.block_lt_of_cell? w _ h1)]
    exact h1
theorem SlAt.src {w : World} {ad : Option Addr} {l : List Int} {cap : Nat} (h : SlAt w ad l.length (fn l)) (hn : ad = none → l.length = 0 ∧ cap = 0) : BSrc w (.slice ad l.length cap) l := by
  refine ⟨ad, cap, rfl, ?_⟩
  cases ad with
  | none => exact .inl ⟨rfl, List.eq_nil_of_length_eq_zero (hn rfl).1⟩
  | some a =>
    refine .inr ⟨a, rfl, fun j v hv => ?_⟩
    have hj : j < l.length := by simpa using (List.getElem?_eq_some_iff.1 hv).1
    obtain ⟨b, off, e, hc⟩ := h.2 (by omega)
    cases e
    rw [Addr.add_lit, hc j hj, fn_get l j hj]
    simp [hj] at hv
    rw [hv]

theorem run_append_B (w w0 : World) (ty : TypeId) (v u : Value) (L ys : List Int) (hown : Ow w0 w v L) (hu : BSrc w u ys) (hy : ∀ y, y ∈ ys → 0 ≤ y ∧ y ≤ 255) (hlen : L.length + ys.length ≤ 140737488355328) :
    ∃ v' w1, (Builtin.append_ #[57, 57] ty #[v, u]).run Tryz.prog w = .ok v' w1 ∧ Ow w0 w1 v' (L ++ ys) := by
  obtain ⟨i0, hi0, hz0, hz1, hz2⟩ := info_parts Tryz.infoB
  have hbd : ∀ x, x ∈ L ++ ys → 0 ≤ x ∧ x ≤ 255 := fun x hx => by
    rcases List.mem_append.1 hx with h | h
    · exact hown.bd x h
    · exact hy x h
  obtain ⟨ad, c, rfl, ⟨rfl, rfl⟩ | ⟨a, rfl, hc⟩⟩ := hu
  · refine ⟨v, w, ?_, by simpa using hown⟩
    rcases hown.own.2 with ⟨rfl, hl⟩ | ⟨g, cap, cur, rfl, hbs, hg, hcap, _⟩
    · simp [Builtin.append_, run_underlying Tryz.underlying57, sizeOf, typeInfo, hi0, Builtin.lenOf, Builtin.firstCells]
    · have := run_append_room_src (P := Tryz.prog) w 57 57 ty 5 i0 Tryz.underlying57 hi0 g 0 L.length cap (.slice none 0 c) 0 [] (Src.ofNil w Tryz.underlying57 c) (by omega) (fun j hj => by simp at hj) (fun j hj => by simp at hj)
      simpa [World.setCells] using this
  · obtain ⟨v', w1, hr, h2, h3, _, h5⟩ := run_append_own_at (P := Tryz.prog) w w0.heap.size 57 ty 5 i0 (.int .u8 0) 1 1 Tryz.underlying57 hi0 hz0 hz1 hz2 rfl (by decide) v L.length (L.map (Value.int .u8)) hown.own a ys.length c (ys.map (Value.int .u8)) (by simp) hc
      (fun u hu => by obtain ⟨y, _, rfl⟩ := List.mem_map.1 hu; rfl) (by simp only [maxLen]; omega) (by omega) hown.le
    refine ⟨v', w1, hr, ⟨by simpa using h2, hown.below.grown h3 hown.le (fun k hk => ?_), hbd⟩⟩
    rcases hown.own.2 with ⟨rfl, _⟩ | ⟨g, cap, cur, rfl, hbs, _⟩
    · simp [Value.ownBlock] at hk
    · have : g = k := by simpa [Value.ownBlock] using hk
      omega

section
variable {ops : Array Oper} {rest : List Oper} {o : Oper} {a : Act} {w : World} {Q : Exit → Act → World → Prop}
/-- 'append(v, u...)' at the list of a plain region's operations. -/
theorem wpList_append_B (hgd : o.guard = none) (s x : Operand) (ho : o.op = .call { callee := .builtin .append, args := #[s, x], argTypes := #[57, 57] })
    (w0 : World) (v u : Value) (L ys : List Int) (hs : a.eval s = v) (hx : a.eval x = u) (hown : Ow w0 w v L) (hu : BSrc w u ys) (hy : ∀ y, y ∈ ys → 0 ≤ y ∧ y ≤ 255) (hlen : L.length + ys.length ≤ 140737488355328)
    (h : ∀ v' w1, Ow w0 w1 v' (L ++ ys) → wpList Tryz.prog ops Q rest (a.put o.dst v') w1) : wpList Tryz.prog ops Q (o :: rest) a w := by
  obtain ⟨v', w1, hr, h2⟩ := run_append_B w w0 o.type v u L ys hown hu hy hlen
  refine wpList_plain hgd fun K hK => ?_
  unfold Oper.wp execOp
  simp only [ho, resolve, invoke, builtin, Sem.run_bind, Sem.run_pure, Result.andThen_ok, List.map_toArray, List.map_cons, List.map_nil, hs, hx, hr]
  exact hK _ _ (h v' w1 h2)
end
theorem Ow.form {w0 w : World} {v : Value} {L : List Int} (h : Ow w0 w v L) : ∃ ad cp, v = .slice ad L.length cp := own_form h.own

end Go.Proofs.YtanchjfodcjlmaaGreatDoor

namespace Go.Proofs.YtanchjfodcjlmaaGreatDoor
open Go.RowKit


theorem SlAt.below {w w' : World} {ad : Option Addr} {n : Nat} {z : Nat → Int} (h : SlAt w ad n z) (hb : Below w.heap.size w w') : SlAt w' ad n z := h.frm (S := []) (Frm.ofBelow hb) (by simp)


end Go.Proofs.YtanchjfodcjlmaaGreatDoor
