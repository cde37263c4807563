/- How many bytes a number has: math/bits.Len64 and enc.size. -/
import Derived.Test.YtanchjfodcjlmaaGreatDoorOwnShelf11
import Derived.Test.YtanchjfodcjlmaaGreatDoorOwnShelf12
import Derived.Test.YtanchjfodcjlmaaGreatDoorOwnShelf10
import Derived.Deep.RegionLaw
import Derived.Deep.AppendLies
import Derived.Deep.DrawnRows
import Derived.Deep.AppendSrc
import Derived.Deep.RegionWith
import Derived.Test.YtanchjfodcjlmaaGreatDoorOwnShelf01
import Derived.Test.YtanchjfodcjlmaaGreatDoorOwnShelf07
import Derived.Test.YtanchjfodcjlmaaGreatDoorOwnShelf08
import Derived.Test.YtanchjfodcjlmaaGreatDoorOwnShelf06
import Derived.Maps.AppendAt
import Derived.Lib.Slices
namespace Go.Proofs.YtanchjfodcjlmaaGreatDoor
open Go.RowKit

/-- How many bytes a number has without needless noughts. -/
def sz (n : Int) : Nat :=
 if n < 1 then 0 else if n < 256 then 1 else if n < 65536 then 2 else if n < 16777216 then 3 else if n < 4294967296 then 4
 else if n < 1099511627776 then 5 else if n < 281474976710656 then 6 else if n < 72057594037927936 then 7 else 8

theorem bitLen_byte (y : Nat) (h1 : 1 ≤ y) (h2 : y < 256) : 1 ≤ Lib.bitLen y ∧ Lib.bitLen y ≤ 8 := by
 refine ⟨?_, Lib.bitLen_le y 8 (by omega) (by omega)⟩
 rw [Lib.bitLen_half y (by omega) (by omega)]; omega

theorem sz_close (x k : Nat) (h : 2 ^ (8 * k) ≤ x) (h2 : x / 2 ^ (8 * k) < 256) (hx : x < 18446744073709551616) : (Lib.bitLen x + 7) / 8 = k + 1 := by
 have e := Lib.bitLen_shift (8 * k) x h hx
 have b := bitLen_byte (x / 2 ^ (8 * k)) (Nat.div_pos h (Nat.two_pow_pos _)) h2
 omega

theorem sz_bitLen (x : Int) (h0 : 0 ≤ x) (h1 : x ≤ 18446744073709551615) : (Lib.bitLen x.toNat + 7) / 8 = sz x := by
 unfold sz
 split
 ·have : x.toNat = 0 := by omega
  rw [this]; rfl
 ·split
  ·exact sz_close x.toNat 0 (by omega) (by omega) (by omega)
  ·split
   ·exact sz_close x.toNat 1 (by omega) (by omega) (by omega)
   ·split
    ·exact sz_close x.toNat 2 (by omega) (by omega) (by omega)
    ·split
     ·exact sz_close x.toNat 3 (by omega) (by omega) (by omega)
     ·split
      ·exact sz_close x.toNat 4 (by omega) (by omega) (by omega)
      ·split
       ·exact sz_close x.toNat 5 (by omega) (by omega) (by omega)
       ·split
        ·exact sz_close x.toNat 6 (by omega) (by omega) (by omega)
        ·exact sz_close x.toNat 7 (by omega) (by omega) (by omega)

theorem sz_le (n : Int) : sz n ≤ 8 := by unfold sz; repeat' split
                                         all_goals omega

set_option maxHeartbeats 400000 in
theorem size_any (x : Int) (w : World) (h0 : 0 ≤ x) (h1 : x ≤ 18446744073709551615) :
  Calls Tryz.prog 101 #[.int .u64 x] w fun e w' => e = .returned (.int .i64 (sz x)) ∧ w' = w := by
 have hb := Lib.bitLen_le x.toNat 64 (by omega) (by omega)
 have hs := sz_bitLen x h0 h1
 have HS : Hid ((Lib.bitLen x.toNat + 7) / 8 = sz x) := hs
 clear hs
 generalize hB : Lib.bitLen x.toNat = B at *
 have HB := (show Hid (Lib.bitLen x.toNat = B) from hB)
 clear hB
 go_enter Tryz.func101, Tryz.ntmps101
 go_wp2_with (go_at_call 93; refine (len64_any _ _ h0 h1).mono ?_; rintro e w' ⟨rfl, rfl⟩; rw [HB.out])
 go_ret
 refine ⟨congrArg (fun i => Ending.returned (Value.int IntKind.i64 i)) ?_, rfl⟩
 have := HS.out
 omega
end Go.Proofs.YtanchjfodcjlmaaGreatDoor
/- The writer's digits: a number's bytes, the highest first. -/
namespace Go.Proofs.YtanchjfodcjlmaaGreatDoor
open Go.RowKit

attribute [local go_sem ↓] Go.wp_at_zero Go.wp_at_succ

/-- A writer at block p has laid the bytes l; g: the block of them. -/
def WrAt (w : World) (B p : Nat) (g : Option Nat) (l : List Int) : Prop :=
 ∃ v, w.heap[p]? = some (.cells #[v] 161 (0, 0)) ∧ w.ownsRow B 5 1 v l.length (l.map (Value.int .u8)) ∧ v.ownBlock = g ∧ B ≤ p ∧ (∀ x, x ∈ l → 0 ≤ x ∧ x ≤ 255)

/-- The byte j of k of a number, the highest first. -/
def dgt (t : Bool) (n : Int) (k j : Nat) : Int := trn t (n / 256 ^ (k - 1 - j) % 256)
def dgs (t : Bool) (n : Int) (k q : Nat) : List Int := (List.range q).map (dgt t n k)
theorem dgs_succ (t : Bool) (n : Int) (k q : Nat) : dgs t n k (q + 1) = dgs t n k q ++ [dgt t n k q] := by simp [dgs, List.range_succ]
theorem dgs_length (t : Bool) (n : Int) (k q : Nat) : (dgs t n k q).length = q := by simp [dgs]


theorem wrap_u8 (x : Int) : IntKind.u8.wrap x = x % 256 := by simp [IntKind.wrap, IntKind.bits, IntKind.signed]
theorem wrap_u8_bd (x : Int) : 0 ≤ IntKind.u8.wrap x ∧ IntKind.u8.wrap x ≤ 255 := by rw [wrap_u8]; omega
theorem dgt_bd (t : Bool) (n : Int) (k j : Nat) : 0 ≤ dgt t n k j ∧ dgt t n k j ≤ 255 := trn_bd (by omega)

/-- A writer that has grown from w on: what it has laid; the rest is as it was. -/
def WrGrown (w wr : World) (B p : Nat) (g : Option Nat) (l : List Int) : Prop :=
 ∃ g', WrAt wr B p g' l ∧ Frm (p :: g.toList) w wr ∧ (g' = g ∨ ∃ b, g' = some b ∧ w.heap.size ≤ b)

/-- The block of bytes is not the writer's own. -/
theorem own_ne {w : World} {B p n : Nat} {v u : Value} {xs : List Value} (h : w.ownsRow B 5 1 v n xs) (hp : w.heap[p]? = some (.cells #[u] 161 (0, 0))) : v.ownBlock ≠ some p := by
 intro e
 rcases h.2 with ⟨rfl, _⟩ | ⟨g, cap, cur, rfl, _, hg, _⟩
 ·simp [Value.ownBlock] at e
 ·simp [Value.ownBlock] at e
  subst e
  rw [hg] at hp
  simp at hp

/-- Behind an append to the bytes the writer's own block is as it was. -/
theorem grown_keep {w w0 w1 : World} {ob : Obj} {p : Nat} {row : Option Nat} (h0 : Frm [] w w0) (hg : w0.grownBy w1 row) (hp : w.heap[p]? = some ob) (hne : some p ≠ row) : w1.heap[p]? = some ob := by
 have hlt := lt_of_block hp
 have := h0.size
 rw [hg.block p (by omega) hne, h0.block p hlt (by simp)]
 exact hp

theorem Frm.grown2 {S : List Nat} {a b c : World} {row : Option Nat} (h : Frm S a b) (hg : b.grownBy c row) (hr : ∀ k, row = some k → k ∈ S ∨ a.heap.size ≤ k) : Frm S a c :=
 ⟨hg.os.trans h.os, hg.tape.trans h.tape, hg.output.trans h.output, Nat.le_trans h.size hg.size, fun k hk hn => by
  have := h.size
  rw [hg.block k (by omega) (fun e => by rcases hr k e.symm with h | h; exact hn h; omega)]
  exact h.block k hk hn⟩

/-- One append of a writer, part by part: the block, the row, what is kept. -/
theorem wr_parts {w wr w0 w1 : World} {B p gg cap : Nat} {g g1 : Option Nat} {v : Value} {L ys : List Int}
  (hp : wr.heap[p]? = some (.cells #[v] 161 (0, 0))) (h0 : Frm [] wr w0) 
  (hown1 : w1.ownsRow B 5 1 (.slice (some ⟨gg, 0, none⟩) (L.length + ys.length) cap) (L.length + ys.length) (L.map (Value.int .u8) ++ ys.map (Value.int .u8)))
  (hgrow : w0.grownBy w1 v.ownBlock) (hat : v.ownBlock = some gg ∨ gg = wr.heap.size + 1) (hg : v.ownBlock = g1) (hg1 : g1 = g ∨ ∃ b, g1 = some b ∧ w.heap.size ≤ b)
  (hF : Frm (p :: g.toList) w wr) (hB : B ≤ p) (hx : ∀ x, x ∈ L → 0 ≤ x ∧ x ≤ 255) (hy : ∀ y, y ∈ ys → 0 ≤ y ∧ y ≤ 255) (hne : some p ≠ v.ownBlock) :
  (w1.setCell ⟨p, 0, none⟩ (.slice (some ⟨gg, 0, none⟩) (L.length + ys.length) cap)).heap[p]? = some (.cells #[.slice (some ⟨gg, 0, none⟩) (L.length + ys.length) cap] 161 (0, 0)) ∧
  (w1.setCell ⟨p, 0, none⟩ (.slice (some ⟨gg, 0, none⟩) (L.length + ys.length) cap)).ownsRow B 5 1 (.slice (some ⟨gg, 0, none⟩) (L.length + ys.length) cap) (L ++ ys).length ((L ++ ys).map (Value.int .u8)) ∧
  (∀ x, x ∈ L ++ ys → 0 ≤ x ∧ x ≤ 255) ∧ gg ≠ p ∧
  Frm (p :: g.toList) w (w1.setCell ⟨p, 0, none⟩ (.slice (some ⟨gg, 0, none⟩) (L.length + ys.length) cap)) ∧ (some gg = g ∨ ∃ b, some gg = some b ∧ w.heap.size ≤ b) ∧ B ≤ p := by
 have hplt := lt_of_block hp
 have hgp : gg ≠ p := by
  rcases hat with h | h
  ·intro e; subst e; exact hne h.symm
  ·omega
 refine ⟨one_setCell (grown_keep h0 hgrow hp hne), ?_, ?_, hgp, ?_, ?_, hB⟩
 ·have := ownsRow_setCell_other hown1 (a := ⟨p, 0, none⟩) (by simp [Value.ownBlock, hgp]) (.slice (some ⟨gg, 0, none⟩) (L.length + ys.length) cap)
  simpa using this
 ·intro x hxx
  rcases List.mem_append.1 hxx with h | h
  ·exact hx x h
  ·exact hy x h
 ·refine Frm.setCell ?_ _ _ (by simp)
  refine ((hF.trans (h0.mono (fun _ h => by cases h))).grown2 hgrow fun k hk => ?_)
  rw [hg] at hk
  rcases hg1 with h | ⟨b, h, hb⟩
  ·left; rw [← h, hk]; simp
  ·right; rw [h] at hk; cases hk; exact hb
 ·rcases hat with h | h
  ·rcases hg1 with h1 | ⟨b, h1, hb⟩
   ·left; rw [← h1, ← hg, h]
   ·right; refine ⟨gg, rfl, ?_⟩; rw [h1, h] at hg; cases hg; exact hb
  ·right; have := hF.size; exact ⟨gg, rfl, by omega⟩

/-- One append of a writer: bytes behind what was laid. -/
theorem wr_step {w wr w0 w1 : World} {B p gg cap : Nat} {g g1 : Option Nat} {v : Value} {L ys : List Int}
  (hp : wr.heap[p]? = some (.cells #[v] 161 (0, 0))) (h0 : Frm [] wr w0) 
  (hown1 : w1.ownsRow B 5 1 (.slice (some ⟨gg, 0, none⟩) (L.length + ys.length) cap) (L.length + ys.length) (L.map (Value.int .u8) ++ ys.map (Value.int .u8)))
  (hgrow : w0.grownBy w1 v.ownBlock) (hat : v.ownBlock = some gg ∨ gg = wr.heap.size + 1) (hg : v.ownBlock = g1) (hg1 : g1 = g ∨ ∃ b, g1 = some b ∧ w.heap.size ≤ b)
  (hF : Frm (p :: g.toList) w wr) (hB : B ≤ p) (hx : ∀ x, x ∈ L → 0 ≤ x ∧ x ≤ 255) (hy : ∀ y, y ∈ ys → 0 ≤ y ∧ y ≤ 255) (hne : some p ≠ v.ownBlock) :
  WrGrown w (w1.setCell ⟨p, 0, none⟩ (.slice (some ⟨gg, 0, none⟩) (L.length + ys.length) cap)) B p g (L ++ ys) := by
 obtain ⟨h1, h2, h3, _, h5, h6, h7⟩ := wr_parts hp h0 hown1 hgrow hat hg hg1 hF hB hx hy hne
 exact ⟨some gg, ⟨_, h1, h2, rfl, h7, h3⟩, h5, h6⟩

theorem shr_byte (n : Int) (i : Nat) (hi : i < 8) : Op.shift .shr .u64 n .i64 (IntKind.i64.wrap (8 * (i : Int))) = pure (.int .u64 (n / 256 ^ i)) := by
 have h : i = 0 ∨ i = 1 ∨ i = 2 ∨ i = 3 ∨ i = 4 ∨ i = 5 ∨ i = 6 ∨ i = 7 := by omega
 have e : IntKind.i64.wrap (8 * (i : Int)) = 8 * (i : Int) := by
  rcases h with h | h | h | h | h | h | h | h <;> subst h <;> decide
 rw [e, shift_shr .u64 .i64 n _ (by omega) (by simp [IntKind.bits]; omega)]
 rcases h with h | h | h | h | h | h | h | h <;> subst h <;> rfl

set_option maxRecDepth 100000 in
set_option maxHeartbeats 1600000 in
theorem digits_any (p B k : Nat) (g : Option Nat) (l : List Int) (n tn : Int) (t : Bool) (w : World) (hk : sz n = k) (htn : tn = if t then 255 else 0)
  (hw : WrAt w B p g l) (hl : l.length + 8 ≤ 140737488355328) (hn : 0 ≤ n ∧ n ≤ 18446744073709551615) :
  Calls Tryz.prog 102 #[.pointer (some ⟨p, 0, none⟩), .int .u64 n, .int .u8 tn] w fun e w' => e = .returned (.tuple #[]) ∧ WrGrown w w' B p g (l ++ dgs t n k k) := by
 obtain ⟨i0, hi0, hz0, hz1, hz2⟩ := info_parts Tryz.infoB
 have H : Hid (Tryz.prog.info? 5 = some i0 ∧ i0.zero = some (.int .u8 0) ∧ i0.size = 1 ∧ i0.bytes = 1) := ⟨hi0, hz0, hz1, hz2⟩
 clear hi0 hz0 hz1 hz2
 have hk8 : k ≤ 8 := by rw [← hk]; exact sz_le n
 have HT : Hid (tn = if t then 255 else 0) := htn
 clear htn
 have HW : Hid (WrAt w B p g l) := hw
 clear hw
 go_enter Tryz.func102, Tryz.ntmps102
 go_wp2_with (go_at_call 101; refine (size_any _ _ hn.1 hn.2).mono ?_; rintro e wx ⟨rfl, rfl⟩; rw [hk])
 clear hk
 go_loopw [6] (fun iv wr => ∃ q : Nat, q ≤ k ∧ iv = .int .i64 ((k : Int) - 1 - q) ∧ WrGrown wx wr B p g (l ++ dgs t n k q)) (fun iv _ => (intOf iv + 1).toNat)
 case atStart => exact ⟨0, Nat.zero_le _, by go_num, g, by simpa [dgs] using HW.out, Frm.refl _ _, .inl rfl⟩
 case round =>
  obtain ⟨q, hq, rfl, g1, hW1, hF1, hg1⟩ := hrel
  by_cases hlt : q < k
  ·obtain ⟨i, hi⟩ : ∃ i : Nat, k = i + 1 + q := ⟨k - 1 - q, by omega⟩
   obtain ⟨v, hp, hown, hg, hB, hx⟩ := hW1
   have hc := cell_of_one hp
   have hf := free_of_one hp
   have hplt := lt_of_block hp
   rw [show ((k : Int) - 1 - q) = (i : Int) from by omega]
   have hi0 : (0 : Int) ≤ (i : Int) := by omega
   have hi8 : (i : Int) < 8 := by omega
   have HO : Hid (wr.ownsRow B 5 1 v (l ++ dgs t n k q).length ((l ++ dgs t n k q).map (Value.int .u8))) := hown
   have HP : Hid (wr.heap[p]? = some (.cells #[v] 161 (0, 0))) := hp
   have HF : Hid (Frm (p :: g.toList) wx wr) := hF1
   have hne : some p ≠ v.ownBlock := by
    intro e
    exact own_ne hown hp e.symm
   clear hown hp hF1
   have HI : Hid (k = i + 1 + q) := hi
   have hsh : Op.shift .shr .u64 n .i64 (IntKind.i64.wrap (8 * (i : Int))) = pure (.int .u64 (n / 256 ^ i)) := shr_byte n i (by omega)
   clear hi
   generalize hX : n / 256 ^ i = X at *
   have HX : Hid (n / 256 ^ i = X) := hX
   clear hX
   go_wp2_with fail
   go_region_law
    ((refine step_append_lies _ (by rfl) _ _ _ (by rfl) B 5 i0 _ 1 1 Tryz.underlying57 H.out.1 H.out.2.1 H.out.2.2.1 H.out.2.2.2 rfl (by omega) v (l ++ dgs t n k q).length ((l ++ dgs t n k q).map (Value.int .u8)) (by rfl) ((HO.out.alloc _).drew) ⟨wr.heap.size, 0, none⟩ 1 1 [_] (by rfl) (by rfl) (World.news_of_block (cs := #[_]) (t := 5) (fr := (0, 0)) (heap_alloc_new wr _)) (by simp [Value.oneCell']) (by omega) (by simp [dgs_length, maxLen]; omega) (by simp [dgs_length]; omega) (by simp; omega) (wr.heap.size + 1) (by simp) ?_; intro gg cap w1 hown1 hgrow hat hlt1; have hp1 := grown_keep (((Frm.refl [] wr).alloc _).drew) hgrow HP.out hne; have hc1 := cell_of_one hp1; have hf1 := free_of_one hp1))
   all_goals
    have R : WrGrown wx (w1.setCell ⟨p, 0, none⟩ (.slice (some ⟨gg, 0, none⟩) (l.length + (dgs t n k q).length + 1) cap)) B p g (l ++ dgs t n k (q + 1)) := by
     have hd : bits .xor .u8 (IntKind.u8.wrap X) tn = dgt t n k q := by
      rw [xor_trn t tn _ HT.out (wrap_u8_bd X), wrap_u8 X, dgt, show k - 1 - q = i from by have := HI.out; omega, HX.out]
     rw [hd] at hown1
     rw [dgs_succ, ← List.append_assoc]
     have := wr_step (ys := [dgt t n k q]) HP.out (((Frm.refl [] wr).alloc _).drew) (by simpa using hown1) hgrow hat hg hg1 HF.out hB hx (by intro y hy; rw [List.mem_singleton.1 hy]; exact dgt_bd t n k q) hne
     simpa using this
    clear hown1 hgrow hp1 hc1 hf1
    go_wp2
    go_roundw
    case rel => exact ⟨q + 1, by omega, by have := HI.out; go_num, R⟩
    case measure => simp [intOf]
  ·have : q = k := by omega
   subst this
   go_wp2
   go_end0
   exact ⟨rfl, g1, hW1, hF1, hg1⟩
end Go.Proofs.YtanchjfodcjlmaaGreatDoor
/- The writer's Uint and Int. -/
namespace Go.Proofs.YtanchjfodcjlmaaGreatDoor
open Go.RowKit

attribute [local go_sem ↓] Go.wp_at_zero Go.wp_at_succ

/-- A number's bytes as it is laid. -/
def uB (n : Int) : List Int := (sz n : Int) :: dgs false n (sz n) (sz n)

theorem WrGrown.trans {w w1 w2 : World} {B p : Nat} {g : Option Nat} {l l' : List Int} (h : WrGrown w w1 B p g l) (h2 : ∀ g', WrAt w1 B p g' l → WrGrown w1 w2 B p g' l') : WrGrown w w2 B p g l' := by
 obtain ⟨g1, ha, hf, hg⟩ := h
 obtain ⟨g2, ha2, hf2, hg2⟩ := h2 g1 ha
 refine ⟨g2, ha2, ?_, ?_⟩
 ·have hsz := hf.size
  refine ⟨hf2.os.trans hf.os, hf2.tape.trans hf.tape, hf2.output.trans hf.output, Nat.le_trans hf.size hf2.size, fun k hk hn => ?_⟩
  rw [hf2.block k (by omega) ?_]
  ·exact hf.block k hk hn
  ·intro hm
   rcases hg with rfl | ⟨b, rfl, hb⟩
   ·exact hn hm
   ·simp at hm hn
    rcases hm with h | h
    ·exact hn.1 h
    ·omega
 ·have hsz := hf.size
  rcases hg2 with rfl | ⟨b, rfl, hb⟩
  ·exact hg
  ·exact .inr ⟨b, rfl, by omega⟩

theorem WrAt.same {w : World} {B p : Nat} {g g' : Option Nat} {l l' : List Int} (h : WrAt w B p g l) (h' : WrAt w B p g' l') : g = g' := by
 obtain ⟨v, hp, _, hg, _⟩ := h
 obtain ⟨v', hp', _, hg', _⟩ := h'
 rw [hp] at hp'
 have : v = v' := by simpa using hp'
 rw [← hg, ← hg', this]

set_option maxRecDepth 100000 in
set_option maxHeartbeats 1600000 in
theorem wrUint_any (p B : Nat) (g : Option Nat) (l : List Int) (n : Int) (w : World) (hw : WrAt w B p g l) (hl : l.length + 16 ≤ 140737488355328) (hn : 0 ≤ n ∧ n ≤ 18446744073709551615) :
  Calls Tryz.prog 80 #[.pointer (some ⟨p, 0, none⟩), .int .u64 n] w fun e w' => e = .returned (.pointer (some ⟨p, 0, none⟩)) ∧ WrGrown w w' B p g (l ++ uB n) := by
 obtain ⟨i0, hi0, hz0, hz1, hz2⟩ := info_parts Tryz.infoB
 have H : Hid (Tryz.prog.info? 5 = some i0 ∧ i0.zero = some (.int .u8 0) ∧ i0.size = 1 ∧ i0.bytes = 1) := ⟨hi0, hz0, hz1, hz2⟩
 clear hi0 hz0 hz1 hz2
 obtain ⟨v, hp, hown, hg, hB, hx⟩ := hw
 have hc := cell_of_one hp
 have hf := free_of_one hp
 have hplt := lt_of_block hp
 have hne : some p ≠ v.ownBlock := fun e => own_ne hown hp e.symm
 have HO : Hid (w.ownsRow B 5 1 v l.length (l.map (Value.int .u8))) := hown
 have HP : Hid (w.heap[p]? = some (.cells #[v] 161 (0, 0))) := hp
 clear hown hp
 obtain ⟨k, hk⟩ : ∃ k, sz n = k := ⟨_, rfl⟩
 have hk8 : k ≤ 8 := by rw [← hk]; exact sz_le n
 have HK : Hid (sz n = k) := hk
 clear hk
 go_enter Tryz.func80, Tryz.ntmps80
 go_wp2_with fail
 go_region_law (first | (refine step_append_lies _ (by rfl) _ _ _ (by rfl) B 5 i0 _ 1 1 Tryz.underlying57 H.out.1 H.out.2.1 H.out.2.2.1 H.out.2.2.2 rfl (by omega) v l.length (l.map (Value.int .u8)) (by rfl) ((HO.out.alloc _).drew) ⟨w.heap.size, 0, none⟩ 1 1 [_] (by rfl) (by rfl) (World.news_of_block (cs := #[_]) (t := 5) (fr := (0, 0)) (heap_alloc_new w _)) (by simp [Value.oneCell']) (by omega) (by simp [maxLen]; omega) (by simp; omega) (by simp; omega) (w.heap.size + 1) (by simp) ?_; intro gg cap w1 hown1 hgrow hat hlt1; have hp1 := grown_keep (((Frm.refl [] w).alloc _).drew) hgrow HP.out hne; have hc1 := cell_of_one hp1; have hf1 := free_of_one hp1) | (go_simp; go_at_call 101; refine (size_any _ _ hn.1 hn.2).mono ?_; rintro e wx ⟨rfl, rfl⟩; rw [HK.out]))
 all_goals
  have hk1 : IntKind.u8.wrap ((k : Int)) = (k : Int) := by rw [wrap_u8]; omega
  rw [hk1] at hown1
  have R := wr_step (ys := [(k : Int)]) HP.out (((Frm.refl [] w).alloc _).drew) (by simpa using hown1) hgrow hat hg (.inl rfl) (Frm.refl _ w) hB hx (by intro y hy; rw [List.mem_singleton.1 hy]; omega) hne
  have R1 : WrGrown w (w1.setCell ⟨p, 0, none⟩ (.slice (some ⟨gg, 0, none⟩) (l.length + 1) cap)) B p g (l ++ [(k : Int)]) := by simpa using R
  have HR : Hid (WrGrown w (w1.setCell ⟨p, 0, none⟩ (.slice (some ⟨gg, 0, none⟩) (l.length + 1) cap)) B p g (l ++ [(k : Int)])) := R1
  clear R R1 hown1 hgrow hp1 hc1 hf1 hk1
  obtain ⟨g1, ha, hF1, hg1⟩ := HR.out
  have HA : Hid (WrAt (w1.setCell ⟨p, 0, none⟩ (.slice (some ⟨gg, 0, none⟩) (l.length + 1) cap)) B p g1 (l ++ [(k : Int)])) := ha
  clear ha hF1 hg1
  go_wp2_with (go_at_call 102; refine (digits_any p B k g1 (l ++ [(k : Int)]) n 0 false _ HK.out rfl HA.out (by simp; omega) hn).mono ?_; rintro e w2 ⟨rfl, hG⟩)
  go_ret
  refine ⟨rfl, ?_⟩
  have hG2 : ∀ g', WrAt (w1.setCell ⟨p, 0, none⟩ (.slice (some ⟨gg, 0, none⟩) (l.length + 1) cap)) B p g' (l ++ [(k : Int)]) → WrGrown (w1.setCell ⟨p, 0, none⟩ (.slice (some ⟨gg, 0, none⟩) (l.length + 1) cap)) w2 B p g' (l ++ [(k : Int)] ++ dgs false n k k) := by
   intro g' h'
   rw [WrAt.same h' HA.out]; exact hG
  have := HR.out.trans hG2
  rw [List.append_assoc] at this
  have hkk := HK.out
  subst hkk
  exact this

end Go.Proofs.YtanchjfodcjlmaaGreatDoor
/- The writer's New and Done. -/
namespace Go.Proofs.YtanchjfodcjlmaaGreatDoor
open Go.RowKit

theorem WrAt.parts {w : World} {B p : Nat} {g : Option Nat} {l : List Int} (h : WrAt w B p g l) : ∃ v, w.heap[p]? = some (.cells #[v] 161 (0, 0)) ∧ w.ownsRow B 5 1 v l.length (l.map (Value.int .u8)) ∧ v.ownBlock = g ∧ B ≤ p ∧ (∀ x, x ∈ l → 0 ≤ x ∧ x ≤ 255) ∧ some p ≠ v.ownBlock ∧ p < w.heap.size := by
 obtain ⟨v, hp, hown, hg, hB, hx⟩ := h
 exact ⟨v, hp, hown, hg, hB, hx, fun e => own_ne hown hp e.symm, lt_of_block hp⟩

theorem alloc_set_new (w : World) (a : Addr) (u : Value) (o : Obj) : ((w.setCell a u).alloc o).heap[w.heap.size]? = some o := by
 have h : (w.setCell a u).heap.size = w.heap.size := by simp [World.setCell]
 have := heap_alloc_new (w.setCell a u) o
 rwa [h] at this

/-- Behind the first of two appends. -/
theorem wr_two {w wr w0 w1 : World} {B p gg cap : Nat} {g g1 : Option Nat} {v : Value} {L : List Int} {y : Int}
  (hp : wr.heap[p]? = some (.cells #[v] 161 (0, 0))) (h0 : Frm [] wr w0)
  (hown1 : w1.ownsRow B 5 1 (.slice (some ⟨gg, 0, none⟩) (L.length + 1) cap) (L.length + 1) (L.map (Value.int .u8) ++ [Value.int .u8 y]))
  (hgrow : w0.grownBy w1 v.ownBlock) (hat : v.ownBlock = some gg ∨ gg = wr.heap.size + 1) (hg : v.ownBlock = g1) (hg1 : g1 = g ∨ ∃ b, g1 = some b ∧ w.heap.size ≤ b)
  (hF : Frm (p :: g.toList) w wr) (hB : B ≤ p) (hx : ∀ x, x ∈ L → 0 ≤ x ∧ x ≤ 255) (hy : 0 ≤ y ∧ y ≤ 255) (hne : some p ≠ v.ownBlock) :
  Hid ((w1.setCell ⟨p, 0, none⟩ (.slice (some ⟨gg, 0, none⟩) (L.length + 1) cap)).heap[p]? = some (.cells #[.slice (some ⟨gg, 0, none⟩) (L.length + 1) cap] 161 (0, 0)) ∧
  (w1.setCell ⟨p, 0, none⟩ (.slice (some ⟨gg, 0, none⟩) (L.length + 1) cap)).ownsRow B 5 1 (.slice (some ⟨gg, 0, none⟩) (L.length + 1) cap) (L.length + 1) ((L ++ [y]).map (Value.int .u8)) ∧ gg ≠ p ∧ p < w1.heap.size ∧
  (∀ x, x ∈ L ++ [y] → 0 ≤ x ∧ x ≤ 255) ∧ Frm (p :: g.toList) w (w1.setCell ⟨p, 0, none⟩ (.slice (some ⟨gg, 0, none⟩) (L.length + 1) cap)) ∧ (some gg = g ∨ ∃ b, some gg = some b ∧ w.heap.size ≤ b)) := by
 obtain ⟨k1, k2, k3, k4, k5, k6, _⟩ := wr_parts (ys := [y]) hp h0 (by simpa using hown1) hgrow hat hg hg1 hF hB hx (by intro x hx; rw [List.mem_singleton.1 hx]; exact hy) hne
 have hl := lt_of_block k1
 simp only [List.length_singleton] at k1 k2 k5
 exact ⟨k1, by simpa using k2, k4, by simpa [World.setCell] using hl, k3, k5, k6⟩

/-- Bytes do not lie in a writer's own block. -/
def fn (l : List Int) : Nat → Int := fun j => l.getD j 0
theorem fn_get (l : List Int) (j : Nat) (h : j < l.length) : fn l j = l[j] := by simp [fn, h]
theorem map_bl (l : List Int) : l.map (Value.int .u8) = bl (fn l) l.length := by
 apply List.ext_getElem
 ·simp [bl_length]
 ·intro j h1 h2
  simp at h1
  simp [bl, fn, h1]

set_option maxHeartbeats 400000 in
theorem new_any (w : World) :
  Calls Tryz.prog 59 #[] w fun e w' => e = .returned (.pointer (some ⟨w.heap.size, 0, none⟩)) ∧ w' = w.alloc (.cells #[.slice none 0 0] 161) := by
 go_enter Tryz.func59, Tryz.ntmps59
 go_wp2
 go_ret
 exact ⟨rfl, rfl⟩

theorem new_wr (w : World) : WrAt (w.alloc (.cells #[.slice none 0 0] 161)) w.heap.size w.heap.size none [] :=
 ⟨.slice none 0 0, heap_alloc_new w _, World.ownsRow_nil _ _ _ _, rfl, Nat.le_refl _, fun x h => by cases h⟩

set_option maxHeartbeats 400000 in
theorem wrDone_any (p B : Nat) (g : Option Nat) (l : List Int) (w : World) (hw : WrAt w B p g l) (hl : l.length ≤ 140737488351232) :
  Calls Tryz.prog 63 #[.pointer (some ⟨p, 0, none⟩)] w fun e w' => ∃ ad cap, e = .returned (.slice ad l.length cap) ∧ l.length ≤ cap ∧ SlAt w' ad l.length (fn l) ∧ (ad = none → l.length = 0 ∧ cap = 0) ∧ (∀ a, ad = some a → w.heap.size ≤ a.block) ∧ Below w.heap.size w w' := by
 obtain ⟨v, hp, hown, hg, hB, hx⟩ := hw
 rw [map_bl] at hown
 obtain ⟨ad, cap, rfl, h1, h2, h3, h4⟩ := own_SlAt (fun j hj => by rw [fn_get l j hj]; exact hx _ (List.getElem_mem hj)) hown
 have hc := cell_of_one hp
 clear hown hp
 go_enter Tryz.func63, Tryz.ntmps63
 go_wp2_with fail
 refine (clone_any ad l.length cap (fn l) w h2 h3 hl).mono ?_
 rintro e w1 ⟨ad', cap', rfl, k1, k2, k3, k4, hb⟩
 go_wp2
 go_ret
 exact ⟨ad', cap', rfl, k1, k2, k3, k4, hb⟩
end Go.Proofs.YtanchjfodcjlmaaGreatDoor
/- What several texts share. -/
namespace Go.Proofs.YtanchjfodcjlmaaGreatDoor
open Go.RowKit


theorem own_form {w : World} {B n : Nat} {v : Value} {xs : List Value} (h : w.ownsRow B 5 1 v n xs) : ∃ ad cp, v = .slice ad n cp := by
 rcases h.2 with ⟨rfl, rfl⟩ | ⟨g, cap, cur, rfl, _⟩
 ·exact ⟨none, 0, rfl⟩
 ·exact ⟨_, cap, rfl⟩
/-- What is appended: bytes that lie somewhere, or nothing. -/
def BSrc (w : World) (u : Value) (ys : List Int) : Prop :=
 ∃ ad c, u = .slice ad ys.length c ∧ ((ad = none ∧ ys = []) ∨ ∃ a, ad = some a ∧ ∀ j v, (ys.map (Value.int .u8))[j]? = some v → w.cell? (a.add j) = some v)
/-- A value that owns bytes, made since w0; nothing that was there in w0 has changed. -/
structure Ow (w0 w : World) (v : Value) (L : List Int) : Prop where
 own : w.ownsRow w0.heap.size 5 1 v L.length (L.map (Value.int .u8))
 below : Below w0.heap.size w0 w
 bd : ∀ x, x ∈ L → 0 ≤ x ∧ x ≤ 255

theorem Ow.nil (w : World) : Ow w w (.slice none 0 0) [] := ⟨World.ownsRow_nil _ _ _ _, Below.refl _ _, fun x h => by cases h⟩
theorem Ow.alloc {w0 w : World} {v : Value} {L : List Int} (h : Ow w0 w v L) (o : Obj) : Ow w0 (w.alloc o) v L := ⟨h.own.alloc _, h.below.alloc h.below.size _, h.bd⟩
theorem Ow.drew {w0 w : World} {v : Value} {L : List Int} (h : Ow w0 w v L) : Ow w0 w.drew v L := ⟨h.own.drew, h.below.drew, h.bd⟩
theorem Ow.le {w0 w : World} {v : Value} {L : List Int} (h : Ow w0 w v L) : w0.heap.size ≤ w.heap.size := h.below.size
theorem Ow.mono {w w0 w1 : World} {v : Value} {L : List Int} (h : Ow w0 w1 v L) (hb : Below w.heap.size w w0) : Ow w w1 v L := by
 refine ⟨⟨h.own.1, ?_⟩, hb.trans (h.below.mono hb.size), h.bd⟩
 rcases h.own.2 with hn | ⟨g, cap, cur, e, hbs, rest⟩
 ·exact .inl hn
 ·exact .inr ⟨g, cap, cur, e, Nat.le_trans hb.size hbs, rest⟩
theorem Ow.src {w0 w w' : World} {v : Value} {L : List Int} (h : Ow w0 w v L) (hb : Below w.heap.size w w') : BSrc w' v L := by
 have hown := h.own
 rcases h.own.2 with ⟨rfl, hl⟩ | ⟨g, cap, cur, rfl, hbs, hg, rest⟩
 ·have : L = [] := List.eq_nil_of_length_eq_zero hl
  subst this
  exact ⟨none, 0, rfl, .inl ⟨rfl, rfl⟩⟩
 ·refine ⟨some ⟨g, 0, none⟩, cap, rfl, .inr ⟨_, rfl, fun j u hu => ?_⟩⟩
  have h1 := hown.cells (g := g) rfl j u hu
  rw [Addr.add_lit] at h1 ⊢
  rw [hb.cell (p := ⟨g, 0 + j, none⟩) (World.block_lt_of_cell? w _ h1)]
  exact h1
theorem SlAt.src {w : World} {ad : Option Addr} {l : List Int} {cap : Nat} (h : SlAt w ad l.length (fn l)) (hn : ad = none → l.length = 0 ∧ cap = 0) : BSrc w (.slice ad l.length cap) l := by
 refine ⟨ad, cap, rfl, ?_⟩
 cases ad with
 | none => exact .inl ⟨rfl, List.eq_nil_of_length_eq_zero (hn rfl).1⟩
 | some a =>
  refine .inr ⟨a, rfl, fun j v hv => ?_⟩
  have hj : j < l.length := by simpa using (List.getElem?_eq_some_iff.1 hv).1
  obtain ⟨b, off, e, hc⟩ := h.2 (by omega)
  cases e
  rw [Addr.add_lit, hc j hj, fn_get l j hj]
  simp [hj] at hv
  rw [hv]

theorem run_append_B (w w0 : World) (ty : TypeId) (v u : Value) (L ys : List Int) (hown : Ow w0 w v L) (hu : BSrc w u ys) (hy : ∀ y, y ∈ ys → 0 ≤ y ∧ y ≤ 255) (hlen : L.length + ys.length ≤ 140737488355328) :
  ∃ v' w1, (Builtin.append_ #[57, 57] ty #[v, u]).run Tryz.prog w = .ok v' w1 ∧ Ow w0 w1 v' (L ++ ys) := by
 obtain ⟨i0, hi0, hz0, hz1, hz2⟩ := info_parts Tryz.infoB
 have hbd : ∀ x, x ∈ L ++ ys → 0 ≤ x ∧ x ≤ 255 := fun x hx => by
  rcases List.mem_append.1 hx with h | h
  ·exact hown.bd x h
  ·exact hy x h
 obtain ⟨ad, c, rfl, ⟨rfl, rfl⟩ | ⟨a, rfl, hc⟩⟩ := hu
 ·refine ⟨v, w, ?_, by simpa using hown⟩
  rcases hown.own.2 with ⟨rfl, hl⟩ | ⟨g, cap, cur, rfl, hbs, hg, hcap, _⟩
  ·simp [Builtin.append_, run_underlying Tryz.underlying57, sizeOf, typeInfo, hi0, Builtin.lenOf, Builtin.firstCells]
  ·have := run_append_room_src (P := Tryz.prog) w 57 57 ty 5 i0 Tryz.underlying57 hi0 g 0 L.length cap (.slice none 0 c) 0 [] (Src.ofNil w Tryz.underlying57 c) (by omega) (fun j hj => by simp at hj) (fun j hj => by simp at hj)
   simpa [World.setCells] using this
 ·obtain ⟨v', w1, hr, h2, h3, _, h5⟩ := run_append_own_at (P := Tryz.prog) w w0.heap.size 57 ty 5 i0 (.int .u8 0) 1 1 Tryz.underlying57 hi0 hz0 hz1 hz2 rfl (by decide) v L.length (L.map (Value.int .u8)) hown.own a ys.length c (ys.map (Value.int .u8)) (by simp) hc
   (fun u hu => by obtain ⟨y, _, rfl⟩ := List.mem_map.1 hu; rfl) (by simp only [maxLen]; omega) (by omega) hown.le
  refine ⟨v', w1, hr, ⟨by simpa using h2, hown.below.grown h3 hown.le (fun k hk => ?_), hbd⟩⟩
  rcases hown.own.2 with ⟨rfl, _⟩ | ⟨g, cap, cur, rfl, hbs, _⟩
  ·simp [Value.ownBlock] at hk
  ·have : g = k := by simpa [Value.ownBlock] using hk
   omega

section
variable {ops : Array Oper} {rest : List Oper} {o : Oper} {a : Act} {w : World} {Q : Exit → Act → World → Prop}
/-- 'append(v, u...)' at the list of a plain region's operations. -/
theorem wpList_append_B (hgd : o.guard = none) (s x : Operand) (ho : o.op = .call { callee := .builtin .append, args := #[s, x], argTypes := #[57, 57] })
  (w0 : World) (v u : Value) (L ys : List Int) (hs : a.eval s = v) (hx : a.eval x = u) (hown : Ow w0 w v L) (hu : BSrc w u ys) (hy : ∀ y, y ∈ ys → 0 ≤ y ∧ y ≤ 255) (hlen : L.length + ys.length ≤ 140737488355328)
  (h : ∀ v' w1, Ow w0 w1 v' (L ++ ys) → wpList Tryz.prog ops Q rest (a.put o.dst v') w1) : wpList Tryz.prog ops Q (o :: rest) a w := by
 obtain ⟨v', w1, hr, h2⟩ := run_append_B w w0 o.type v u L ys hown hu hy hlen
 refine wpList_plain hgd fun K hK => ?_
 unfold Oper.wp execOp
 simp only [ho, resolve, invoke, builtin, Sem.run_bind, Sem.run_pure, Result.andThen_ok, List.map_toArray, List.map_cons, List.map_nil, hs, hx, hr]
 exact hK _ _ (h v' w1 h2)
end
theorem Ow.form {w0 w : World} {v : Value} {L : List Int} (h : Ow w0 w v L) : ∃ ad cp, v = .slice ad L.length cp := own_form h.own

end Go.Proofs.YtanchjfodcjlmaaGreatDoor

namespace Go.Proofs.YtanchjfodcjlmaaGreatDoor
open Go.RowKit


theorem SlAt.below {w w' : World} {ad : Option Addr} {n : Nat} {z : Nat → Int} (h : SlAt w ad n z) (hb : Below w.heap.size w w') : SlAt w' ad n z := h.frm (S := []) (Frm.ofBelow hb) (by simp)


end Go.Proofs.YtanchjfodcjlmaaGreatDoor
/- What several texts share. -/
namespace Go.Proofs.YtanchjfodcjlmaaGreatDoor
open Go.RowKit

/-- Rows of other types lie in other blocks. -/
theorem own_apart {w : World} {B C T U k l n m : Nat} {v u : Value} {xs ys : List Value} (h : w.ownsRow B T k v n xs) (h' : w.ownsRow C U l u m ys) (hT : T ≠ U) : ∀ g, v.ownBlock = some g → u.ownBlock ≠ some g := by
 intro g e e'
 rcases h.2 with ⟨rfl, _⟩ | ⟨g1, cap, cur, rfl, _, hg, _⟩
 ·cases e
 ·rcases h'.2 with ⟨rfl, _⟩ | ⟨g2, cap2, cur2, rfl, _, hg2, _⟩
  ·cases e'
  ·have e1 : g1 = g := by simpa [Value.ownBlock] using e
   have e2 : g2 = g := by simpa [Value.ownBlock] using e'
   subst e1 e2
   rw [hg] at hg2
   simp at hg2
   exact hT hg2.2
end Go.Proofs.YtanchjfodcjlmaaGreatDoor

namespace Go.Proofs.YtanchjfodcjlmaaGreatDoor
open Go.RowKit

theorem range_app {w : World} {g off : Nat} {l1 l2 : List Value} (h : w.rangeAt g off (l1 ++ l2)) : w.rangeAt g off l1 ∧ w.rangeAt g (off + l1.length) l2 := by
 refine ⟨fun j v hv => h j v ?_, fun j v hv => ?_⟩
 ·rw [List.getElem?_append_left (List.getElem?_eq_some_iff.1 hv).1]; exact hv
 ·have := h (l1.length + j) v (by rw [List.getElem?_append_right (by omega)]; simpa using hv)
  rwa [← Nat.add_assoc] at this
section
variable {ops : Array Oper} {rest : List Oper} {o : Oper} {a : Act} {w : World} {Q : Exit → Act → World → Prop}
end
end Go.Proofs.YtanchjfodcjlmaaGreatDoor

namespace Go.Proofs.YtanchjfodcjlmaaGreatDoor
open Go.RowKit

theorem infoTo : (Tryz.prog.info? 79).map (fun i => (i.zero, i.size, i.bytes)) = some (some (.agg #[.int .i64 0, .slice none 0 0]), 2, 32) := by kernel_rfl
theorem slice_to (am : Int) (ca : Option Addr) (n cc : Nat) (w : World) : (Instr.buildSlice 33 1 #[(0, .agg #[.int .i64 am, .slice ca n cc])]).run Tryz.prog w = .ok (.slice (some ⟨w.heap.size, 0, none⟩) 1 1) (w.alloc (.cells #[.int .i64 am, .slice ca n cc] 79)) := by kernel_rfl
theorem run_append_To (w : World) (B q : Nat) (ty : TypeId) (v : Value) (i : Nat) (xs : List Value) (am : Int) (ca : Option Addr) (n cc : Nat) (hown : w.ownsRow B 79 2 v i xs) (hB : B ≤ w.heap.size) (hq : w.heap[q]? = some (.cells #[.int .i64 am, .slice ca n cc] 79 (0, 0))) (hi : i ≤ 1000000) :
  ∃ va vc w1, (Builtin.append_ #[33, 33] ty #[v, .slice (some ⟨q, 0, none⟩) 1 1]).run Tryz.prog w = .ok (.slice va (i + 1) vc) w1 ∧ w1.ownsRow B 79 2 (.slice va (i + 1) vc) (i + 1) (xs ++ [.int .i64 am, .slice ca n cc]) ∧ w.grownBy w1 v.ownBlock ∧ ((Value.slice va (i + 1) vc).ownBlock = v.ownBlock ∨ (Value.slice va (i + 1) vc).ownBlock = some w.heap.size) := by
 obtain ⟨i0, hi0, hz0, hz1, hz2⟩ := info_parts infoTo
 obtain ⟨v', w1, hr, h2, h3, _, h5⟩ := run_append_own_at (P := Tryz.prog) w B 33 ty 79 i0 (.agg #[.int .i64 0, .slice none 0 0]) 2 32 Tryz.underlying33 hi0 hz0 hz1 hz2 rfl (by omega) v i xs hown ⟨q, 0, none⟩ 1 1 [.int .i64 am, .slice ca n cc] rfl (fun j u hj => by
   rw [Addr.add_lit, Nat.zero_add, cell_of_row _ _ j _ _ _ hq]
   simpa using hj) (fun u hu => by simp at hu; rcases hu with rfl | rfl <;> rfl) (by unfold maxLen; omega) (by omega) hB
 obtain ⟨va, vc, rfl, _, _⟩ := own_frmV h2
 exact ⟨va, vc, w1, hr, h2, h3, h5⟩
section
variable {ops : Array Oper} {rest : List Oper} {o : Oper} {a : Act} {w : World} {Q : Exit → Act → World → Prop} {K : Act → World → Prop} {E : Prop}
theorem step_sliceTo (hgd : o.guard = none) (x : Operand) (ho : o.op = .buildSlice 33 1 #[(0, x)]) (am : Int) (ca : Option Addr) (n cc : Nat) (hx : a.eval x = .agg #[.int .i64 am, .slice ca n cc])
  (h : ∀ q w1, w1.heap[q]? = some (.cells #[.int .i64 am, .slice ca n cc] 79 (0, 0)) → w.heap.size ≤ q → Below w.heap.size w w1 → K (a.put o.dst (.slice (some ⟨q, 0, none⟩) 1 1)) w1) : if Region.wanted o (yielded ops a.tmps) = true then Oper.wp Tryz.prog o a w K Q else E := by
 have hw : Region.wanted o (yielded ops a.tmps) = true := by simp [Region.wanted, hgd]
 rw [if_pos hw]
 unfold Oper.wp execOp
 simp only [ho, List.map_toArray, List.map_cons, List.map_nil, hx, Sem.run_bind, slice_to, Result.andThen]
 exact h _ _ (heap_alloc_new _ _) (Nat.le_refl _) ((Below.refl _ _).alloc (Nat.le_refl _) _)
theorem step_append_To (hgd : o.guard = none) (s x : Operand) (ho : o.op = .call { callee := .builtin .append, args := #[s, x], argTypes := #[33, 33] }) (B q : Nat) (v : Value) (i : Nat) (xs : List Value) (am : Int) (ca : Option Addr) (n cc : Nat) (hs : a.eval s = v) (hx : a.eval x = .slice (some ⟨q, 0, none⟩) 1 1) (hown : w.ownsRow B 79 2 v i xs) (hB : B ≤ w.heap.size) (hq : w.heap[q]? = some (.cells #[.int .i64 am, .slice ca n cc] 79 (0, 0))) (hi : i ≤ 1000000)
  (h : ∀ va vc w1, w1.ownsRow B 79 2 (.slice va (i + 1) vc) (i + 1) (xs ++ [.int .i64 am, .slice ca n cc]) → w.grownBy w1 v.ownBlock → ((Value.slice va (i + 1) vc).ownBlock = v.ownBlock ∨ (Value.slice va (i + 1) vc).ownBlock = some w.heap.size) → K (a.put o.dst (.slice va (i + 1) vc)) w1) : if Region.wanted o (yielded ops a.tmps) = true then Oper.wp Tryz.prog o a w K Q else E := by
 have hw : Region.wanted o (yielded ops a.tmps) = true := by simp [Region.wanted, hgd]
 rw [if_pos hw]
 obtain ⟨va, vc, w1, hr, h1, h2, h3⟩ := run_append_To w B q o.type v i xs am ca n cc hown hB hq hi
 unfold Oper.wp execOp
 simp only [ho, resolve, invoke, builtin, Sem.run_bind, Sem.run_pure, Result.andThen_ok, List.map_toArray, List.map_cons, List.map_nil, hs, hx, hr]
 exact h _ _ _ h1 h2 h3
end
end Go.Proofs.YtanchjfodcjlmaaGreatDoor

namespace Go.Proofs.YtanchjfodcjlmaaGreatDoor
open Go.RowKit

theorem slice_ti (x : Ti) (sa : Option Addr) (sc : Nat) (w : World) : (Instr.buildSlice 32 1 #[(0, .agg (tiv x sa sc))]).run Tryz.prog w = .ok (.slice (some ⟨w.heap.size, 0, none⟩) 1 1) (w.alloc (.cells (tiv x sa sc) 59)) := by kernel_rfl
theorem infoTi : (Tryz.prog.info? 59).map (fun i => (i.zero, i.size, i.bytes)) = some (some (.agg (tiv ti0 none 0)), 35, 72) := by kernel_rfl
theorem run_append_Ti (w : World) (B q : Nat) (ty : TypeId) (v : Value) (i : Nat) (xs : List Value) (x : Ti) (sa : Option Addr) (sc : Nat) (hown : w.ownsRow B 59 35 v i xs) (hB : B ≤ w.heap.size) (hq : w.heap[q]? = some (.cells (tiv x sa sc) 59 (0, 0))) (hi : i ≤ 1000000) :
  ∃ va vc w1, (Builtin.append_ #[32, 32] ty #[v, .slice (some ⟨q, 0, none⟩) 1 1]).run Tryz.prog w = .ok (.slice va (i + 1) vc) w1 ∧ w1.ownsRow B 59 35 (.slice va (i + 1) vc) (i + 1) (xs ++ til x sa sc) ∧ w.grownBy w1 v.ownBlock := by
 obtain ⟨i0, hi0, hz0, hz1, hz2⟩ := info_parts infoTi
 obtain ⟨v', w1, hr, h2, h3, _, h5⟩ := run_append_own_at (P := Tryz.prog) w B 32 ty 59 i0 (.agg (tiv ti0 none 0)) 35 72 Tryz.underlying32 hi0 hz0 hz1 hz2 (by simp [Value.cells, tiv_size]) (by omega) v i xs hown ⟨q, 0, none⟩ 1 1 (til x sa sc) (by rw [til_length]) (fun j u hj => by
   rw [Addr.add_lit, Nat.zero_add, cell_of_row _ _ j _ _ _ hq]
   simpa [tiv] using hj) (til_one _ _ _) (by unfold maxLen; omega) (by omega) hB
 obtain ⟨va, vc, rfl, _, _⟩ := own_frmV h2
 exact ⟨va, vc, w1, hr, h2, h3⟩
section
variable {ops : Array Oper} {rest : List Oper} {o : Oper} {a : Act} {w : World} {Q : Exit → Act → World → Prop}
end
end Go.Proofs.YtanchjfodcjlmaaGreatDoor

namespace Go.Proofs.YtanchjfodcjlmaaGreatDoor
open Go.RowKit

/-- A transaction lies in a world: what it says, where its bytes are. -/
structure TxAt (w : World) (lk : Int) (n : Nat) (X : Nat → Ti) (Z : Nat → Nat → Int) (m : Nat) (O : Nat → To) (ia : Option Addr) (oa : Option Addr) (S : Nat → Option Addr × Nat) : Prop where
 ti : TiAt w ia n X S
 ou : ToAt w oa m O
 sc : ∀ i, i < n → SlAt w (S i).1 (X i).sn (Z i) ∧ (X i).sn ≤ 1000000
theorem TxAt.below {w w' : World} {lk : Int} {n : Nat} {X : Nat → Ti} {Z : Nat → Nat → Int} {m : Nat} {O : Nat → To} {ia oa : Option Addr} {S : Nat → Option Addr × Nat} (h : TxAt w lk n X Z m O ia oa S) (hb : Below w.heap.size w w') : TxAt w' lk n X Z m O ia oa S := ⟨h.ti.below hb, h.ou.below hb, fun i hi => ⟨(h.sc i hi).1.below hb, (h.sc i hi).2⟩⟩
end Go.Proofs.YtanchjfodcjlmaaGreatDoor

namespace Go.Proofs.YtanchjfodcjlmaaGreatDoor
open Go.RowKit

section
variable {ops : Array Oper} {o : Oper} {a : Act} {w : World} {K : Act → World → Prop} {Q : Exit → Act → World → Prop} {E : Prop}
end
theorem grown_low {w1 w2 : World} {B T k n : Nat} {v : Value} {xs : List Value} (h : w1.ownsRow B T k v n xs) (hg : w1.grownBy w2 v.ownBlock) (hB : B ≤ w1.heap.size) : ∀ k, k < B → w2.heap[k]? = w1.heap[k]? := fun k hk =>
 hg.block k (by omega) (fun e => by have := (h.lt k e.symm).1; omega)
theorem grown_keepV {w1 w2 : World} {B C T U k l n m : Nat} {v u : Value} {xs ys : List Value} (h : w1.ownsRow B T k v n xs) (h' : w1.ownsRow C U l u m ys) (hT : U ≠ T) (hg : w1.grownBy w2 v.ownBlock) : w2.ownsRow C U l u m ys :=
 own_keep h' fun g e => hg.block g (h'.lt g e).2 (fun e2 => own_apart h' h hT g e e2.symm)
theorem grown_below {w w1 w2 : World} {B T k n : Nat} {v : Value} {xs : List Value} (h : w1.ownsRow B T k v n xs) (hg : w1.grownBy w2 v.ownBlock) (hb : Below w.heap.size w w1) (hB : w.heap.size ≤ B) : Below w.heap.size w w2 :=
 hb.trans ⟨hg.os, hg.tape, hg.output, hg.size, fun k hk => hg.block k (by have := hb.size; omega) (fun e => by have := (h.lt k e.symm).1; omega)⟩
theorem three_new (w : World) (o1 o2 o3 : Obj) : ((w.alloc o1).alloc o2).alloc o3 = ((w.alloc o1).alloc o2).alloc o3 ∧
  Below w.heap.size w (((w.alloc o1).alloc o2).alloc o3) := ⟨rfl, (((Below.refl _ w).alloc (Nat.le_refl _) _).alloc (by simp) _).alloc (by simp; omega) _⟩

end Go.Proofs.YtanchjfodcjlmaaGreatDoor
/- longTx: whether a transaction has more than is gone through. -/
namespace Go.Proofs.YtanchjfodcjlmaaGreatDoor
open Go.RowKit

/-- What is said of a transaction that is not long. -/
structure NoLong (n : Nat) (X : Nat → Ti) (m : Nat) (O : Nat → To) : Prop where
 nm : n + m ≤ 300
 sn : ∀ i, i < n → (X i).sn ≤ 10000
 cn : ∀ i, i < m → (O i).cn ≤ 400
def LngR (n : Nat) (X : Nat → Ti) (m : Nat) (O : Nat → To) (w : World) (e : Ending) (w' : World) : Prop := ∃ b : Bool, e = .returned (.bool b) ∧ (b = false → NoLong n X m O) ∧ Below w.heap.size w w'
set_option maxRecDepth 100000 in
set_option maxHeartbeats 3200000 in
theorem longTx_any (lk : Int) (ia : Option Addr) (n ic : Nat) (oa : Option Addr) (m oc : Nat) (X : Nat → Ti) (S : Nat → Option Addr × Nat) (O : Nat → To) (w : World) (h : TiAt w ia n X S) (ho : ToAt w oa m O) (hn : n ≤ 140737488355328) (hm : m ≤ 140737488355328) (hs : ∀ i, i < n → (X i).sn ≤ 140737488355328) (hc : ∀ i, i < m → (O i).cn ≤ 140737488355328 ∧ ∀ j, j < (O i).cn → ((O i).X j).n ≤ 140737488355328) :
  Calls Tryz.prog 6 #[.agg (txv lk ia n ic oa m oc)] w (LngR n X m O w) := by
 have hb0 : Below w.heap.size w (w.alloc (.cells #[.int .i64 lk, .slice ia n ic, .slice oa m oc] 25)) := (Below.refl _ w).alloc (Nat.le_refl _) _
 have HT : Hid (TiAt (w.alloc (.cells #[.int .i64 lk, .slice ia n ic, .slice oa m oc] 25)) ia n X S ∧ ToAt (w.alloc (.cells #[.int .i64 lk, .slice ia n ic, .slice oa m oc] 25)) oa m O) := ⟨h.below hb0, ho.below hb0⟩
 have hr0 := heap_alloc_new w (.cells #[.int .i64 lk, .slice ia n ic, .slice oa m oc] 25)
 have HS := hidV hs
 have HC := hidV hc
 have HB := hidV hb0
 have ew : wrap64 ((n : Int) + m) = (n : Int) + m := by simp [wrap64]; omega
 unfold txv
 clear h ho hs hc hb0
 by_cases h1 : 300 < n + m
 ·have h1' : (300 : Int) < (n : Int) + m := by omega
  clear hr0
  go_enter Tryz.func6, Tryz.ntmps6
  go_wp2
  go_ret
  exact ⟨true, rfl, (fun h => by cases h), HB.out⟩
 ·have h1'' : ¬ (300 : Int) < (n : Int) + m := by omega
  go_enter Tryz.func6, Tryz.ntmps6
  go_wp2
  generalize w.alloc (.cells #[.int .i64 lk, .slice ia n ic, .slice oa m oc] 25) = W0 at *
  have c1 : W0.cell? ⟨w.heap.size, 1, none⟩ = some (.slice ia n ic) := by rw [cell_of_row _ _ 1 _ _ _ hr0]; rfl
  have c2 : W0.cell? ⟨w.heap.size, 2, none⟩ = some (.slice oa m oc) := by rw [cell_of_row _ _ 2 _ _ _ hr0]; rfl
  clear hr0
  go_loop [3, 4] (fun qv iv => ∃ (i : Nat) (q : Int), i ≤ n ∧ qv = .int .i64 q ∧ iv = .int .i64 i ∧ 0 ≤ q ∧ q ≤ 300 + i * 8796093022208 ∧ ∀ j, j < i → (((X j).sn / 16 : Nat) : Int) ≤ q) (fun _ iv => n + 1 - (intOf iv).toNat)
  case atStart => exact ⟨0, _, by omega, rfl, rfl, by omega, by omega, fun j hj => by omega⟩
  case round =>
   obtain ⟨i, q, hi, rfl, rfl, hq0, hq1, hq⟩ := hrel
   have HQ := hidV hq
   clear hq
   by_cases hlt : i < n
   ·have hlt' : (i : Int) < n := by omega
    have hsi := HS.out i hlt
    obtain ⟨b0, off, rfl, hra⟩ := HT.out.1.at_ (by omega)
    have hr := hra i hlt
    clear hra
    obtain ⟨x, hx⟩ : ∃ x, X i = x := ⟨_, rfl⟩
    rw [hx] at hr hsi
    have d2 : W0.cell? ⟨b0, off + i * 35 + 34, none⟩ = some (.slice (S i).1 x.sn (S i).2) := hr 34 _ (by rfl)
    have eq : Int.tdiv (x.sn : Int) 16 = ((x.sn / 16 : Nat) : Int) := by rw [Int.tdiv_eq_ediv_of_nonneg (by omega)]; rfl
    have ew2 : wrap64 (q + ((x.sn / 16 : Nat) : Int)) = q + ((x.sn / 16 : Nat) : Int) := by simp [wrap64]; omega
    have HX := hidV hx
    clear hr hx
    go_wp2
    go_round
    case rel => exact ⟨i + 1, q + ((x.sn / 16 : Nat) : Int), by omega, rfl, by go_num, by omega, by omega, fun j hj => by
     by_cases e : j = i
     ·subst e; rw [HX.out]; omega
     ·have := HQ.out j (by omega); omega⟩
    case measure => simp [intOf]; omega
   ·obtain rfl : i = n := by omega
    have hnn : ¬ ((i : Int) < i) := by omega
    have HA : Hid (∀ r : Int, q ≤ r → r ≤ 400 → ∀ j, j < i → (X j).sn ≤ 10000) := fun r h1 h2 j hj => by have := HQ.out j hj; omega
    have hq2 : q ≤ 2700000000000000 := by omega
    clear hq1 HQ HS ew h1
    go_wp2
    go_loop [3, 5] (fun qv iv => ∃ (k : Nat) (r : Int), k ≤ m ∧ qv = .int .i64 r ∧ iv = .int .i64 k ∧ q ≤ r ∧ r ≤ 2700000000000000 + k * 562949953421312 ∧ ∀ j, j < k → ((O j).cn : Int) ≤ r) (fun _ iv => m + 1 - (intOf iv).toNat)
    case atStart => exact ⟨0, _, by omega, rfl, rfl, by omega, by omega, fun j hj => by omega⟩
    case round =>
     obtain ⟨k, r, hk, rfl, rfl, hr0, hr1, hr⟩ := hrel
     have HR := hidV hr
     clear hr
     by_cases hlt : k < m
     ·have hlt' : (k : Int) < m := by omega
      have hck := HC.out k hlt
      obtain ⟨b0, off, rfl, hra⟩ := HT.out.2.at_ (by omega)
      obtain ⟨ca, cc, hrw, hbr, _⟩ := hra k hlt
      clear hra
      obtain ⟨y, hy⟩ : ∃ y, O k = y := ⟨_, rfl⟩
      rw [hy] at hrw hck hbr
      have d1 : W0.cell? ⟨b0, off + k * 2 + 1, none⟩ = some (.slice ca y.cn cc) := hrw 1 _ (by rfl)
      have ew2 : wrap64 (r + (y.cn : Int)) = r + (y.cn : Int) := by simp [wrap64]; omega
      have HY := hidV (And.intro hy hbr)
      have HK := hidV hck.2
      have hk2 := hck.1
      clear hrw hy hbr hck
      go_wp2
      go_loop [3, 6] (fun qv iv => ∃ (l : Nat) (t : Int), l ≤ y.cn ∧ qv = .int .i64 t ∧ iv = .int .i64 l ∧ r + y.cn ≤ t ∧ (t = r + y.cn ∨ t ≤ 140737488355728)) (fun _ iv => y.cn + 1 - (intOf iv).toNat)
      case atStart => exact ⟨0, _, by omega, rfl, rfl, by omega, .inl rfl⟩
      case round =>
       obtain ⟨l, t, hl, rfl, rfl, ht0, ht1⟩ := hrel
       by_cases hlt2 : l < y.cn
       ·have hlt2' : (l : Int) < y.cn := by omega
        by_cases h400 : t < 400
        ·obtain ⟨b2, o2, rfl, hrb⟩ := HY.out.2.at_ (by omega)
         obtain ⟨ka, kc, hrk, _⟩ := hrb l hlt2
         have hkl := HK.out l hlt2
         obtain ⟨z, hz⟩ : ∃ z, (y.X l).n = z := ⟨_, rfl⟩
         have d3 : W0.cell? ⟨b2, o2 + l * 35, none⟩ = some (.slice ka (y.X l).n kc) := hrk 0 _ (by rfl)
         rw [hz] at d3 hkl
         have ew3 : wrap64 (t + (z : Int)) = t + (z : Int) := by simp [wrap64]; omega
         clear hrb hrk hz
         go_wp2
         go_round
         case rel => exact ⟨l + 1, t + z, by omega, rfl, by go_num, by omega, by omega⟩
         case measure => simp [intOf]; omega
        ·go_wp2
         go_round
         case rel => exact ⟨k + 1, t, by omega, rfl, by go_num, by omega, by omega, fun j hj => by
          by_cases e : j = k
          ·subst e; rw [HY.out.1]; omega
          ·have := HR.out j (by omega); omega⟩
         case measure => simp [intOf]; omega
       ·obtain rfl : l = y.cn := by omega
        have hnn2 : ¬ ((y.cn : Int) < y.cn) := by omega
        go_wp2
        go_round
        case rel => exact ⟨k + 1, t, by omega, rfl, by go_num, by omega, by omega, fun j hj => by
         by_cases e : j = k
         ·subst e; rw [HY.out.1]; omega
         ·have := HR.out j (by omega); omega⟩
        case measure => simp [intOf]; omega
     ·obtain rfl : k = m := by omega
      have hnn3 : ¬ ((k : Int) < k) := by omega
      go_wp2
      go_ret
      refine ⟨_, rfl, fun h => ?_, HB.out⟩
      have h4 : r ≤ 400 := by simpa using h
      exact ⟨by omega, HA.out r hr0 h4, fun j hj => by have := HR.out j hj; omega⟩
end Go.Proofs.YtanchjfodcjlmaaGreatDoor
