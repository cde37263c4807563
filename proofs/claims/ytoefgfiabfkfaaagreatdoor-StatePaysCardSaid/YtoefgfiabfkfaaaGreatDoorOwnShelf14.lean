/- How many bytes a number has: math/bits.Len64 and enc.size. -/
import Derived.Test.YtoefgfiabfkfaaaGreatDoorOwnShelf12
import Derived.Test.YtoefgfiabfkfaaaGreatDoorOwnShelf13
import Derived.Test.YtoefgfiabfkfaaaGreatDoorOwnShelf11
import Derived.Deep.RegionLaw
import Derived.Deep.AppendLies
import Derived.Deep.DrawnRows
import Derived.Great.Ranges
import Derived.Laws.IdiomStrings
import Derived.Lib.BufferRead
import Derived.Test.YtoefgfiabfkfaaaGreatDoorOwnShelf01
namespace Go.Proofs.YtoefgfiabfkfaaaGreatDoor
open Go.RowKit

/-- How many bytes a number has without needless noughts. -/
def sz (n : Int) : Nat :=
 if n < 1 then 0 else if n < 256 then 1 else if n < 65536 then 2 else if n < 16777216 then 3 else if n < 4294967296 then 4
 else if n < 1099511627776 then 5 else if n < 281474976710656 then 6 else if n < 72057594037927936 then 7 else 8

theorem bitLen_byte (y : Nat) (h1 : 1 ≤ y) (h2 : y < 256) : 1 ≤ Lib.bitLen y ∧ Lib.bitLen y ≤ 8 := by
 refine ⟨?_, Lib.bitLen_le y 8 (by omega) (by omega)⟩
 rw [Lib.bitLen_half y (by omega) (by omega)]; omega

theorem sz_close (x k : Nat) (h : 2 ^ (8 * k) ≤ x) (h2 : x / 2 ^ (8 * k) < 256) (hx : x < 18446744073709551616) : (Lib.bitLen x + 7) / 8 = k + 1 := by
 have e := Lib.bitLen_shift (8 * k) x h hx
 have b := bitLen_byte (x / 2 ^ (8 * k)) (Nat.div_pos h (Nat.two_pow_pos _)) h2
 omega

theorem sz_bitLen (x : Int) (h0 : 0 ≤ x) (h1 : x ≤ 18446744073709551615) : (Lib.bitLen x.toNat + 7) / 8 = sz x := by
 unfold sz
 split
 ·have : x.toNat = 0 := by omega
  rw [this]; rfl
 ·split
  ·exact sz_close x.toNat 0 (by omega) (by omega) (by omega)
  ·split
   ·exact sz_close x.toNat 1 (by omega) (by omega) (by omega)
   ·split
    ·exact sz_close x.toNat 2 (by omega) (by omega) (by omega)
    ·split
     ·exact sz_close x.toNat 3 (by omega) (by omega) (by omega)
     ·split
      ·exact sz_close x.toNat 4 (by omega) (by omega) (by omega)
      ·split
       ·exact sz_close x.toNat 5 (by omega) (by omega) (by omega)
       ·split
        ·exact sz_close x.toNat 6 (by omega) (by omega) (by omega)
        ·exact sz_close x.toNat 7 (by omega) (by omega) (by omega)

theorem sz_le (n : Int) : sz n ≤ 8 := by unfold sz; repeat' split
                                         all_goals omega

set_option maxHeartbeats 400000 in
theorem size_any (x : Int) (w : World) (h0 : 0 ≤ x) (h1 : x ≤ 18446744073709551615) :
  Calls Tryz.prog 53 #[.int .u64 x] w fun e w' => e = .returned (.int .i64 (sz x)) ∧ w' = w := by
 have hb := Lib.bitLen_le x.toNat 64 (by omega) (by omega)
 have hs := sz_bitLen x h0 h1
 have HS : Hid ((Lib.bitLen x.toNat + 7) / 8 = sz x) := hs
 clear hs
 generalize hB : Lib.bitLen x.toNat = B at *
 have HB := (show Hid (Lib.bitLen x.toNat = B) from hB)
 clear hB
 go_enter Tryz.func53, Tryz.ntmps53
 go_wp2_with (go_at_call 75; refine (len64_any _ _ h0 h1).mono ?_; rintro e w' ⟨rfl, rfl⟩; rw [HB.out])
 go_ret
 refine ⟨congrArg (fun i => Ending.returned (Value.int IntKind.i64 i)) ?_, rfl⟩
 have := HS.out
 omega
end Go.Proofs.YtoefgfiabfkfaaaGreatDoor
/- The writer's digits: a number's bytes, the highest first. -/
namespace Go.Proofs.YtoefgfiabfkfaaaGreatDoor
open Go.RowKit

attribute [local go_sem ↓] Go.wp_at_zero Go.wp_at_succ

/-- A writer at block p has laid the bytes l; g: the block of them. -/
def WrAt (w : World) (B p : Nat) (g : Option Nat) (l : List Int) : Prop :=
 ∃ v, w.heap[p]? = some (.cells #[v] 102 (0, 0)) ∧ w.ownsRow B 5 1 v l.length (l.map (Value.int .u8)) ∧ v.ownBlock = g ∧ B ≤ p ∧ (∀ x, x ∈ l → 0 ≤ x ∧ x ≤ 255)

/-- The byte j of k of a number, the highest first. -/
def dgt (t : Bool) (n : Int) (k j : Nat) : Int := trn t (n / 256 ^ (k - 1 - j) % 256)
def dgs (t : Bool) (n : Int) (k q : Nat) : List Int := (List.range q).map (dgt t n k)
theorem dgs_succ (t : Bool) (n : Int) (k q : Nat) : dgs t n k (q + 1) = dgs t n k q ++ [dgt t n k q] := by simp [dgs, List.range_succ]
theorem dgs_length (t : Bool) (n : Int) (k q : Nat) : (dgs t n k q).length = q := by simp [dgs]


theorem wrap_u8 (x : Int) : IntKind.u8.wrap x = x % 256 := by simp [IntKind.wrap, IntKind.bits, IntKind.signed]
theorem wrap_u8_bd (x : Int) : 0 ≤ IntKind.u8.wrap x ∧ IntKind.u8.wrap x ≤ 255 := by rw [wrap_u8]; omega
theorem dgt_bd (t : Bool) (n : Int) (k j : Nat) : 0 ≤ dgt t n k j ∧ dgt t n k j ≤ 255 := trn_bd (by omega)

/-- A writer that has grown from w on: what it has laid; the rest is as it was. -/
def WrGrown (w wr : World) (B p : Nat) (g : Option Nat) (l : List Int) : Prop :=
 ∃ g', WrAt wr B p g' l ∧ Frm (p :: g.toList) w wr ∧ (g' = g ∨ ∃ b, g' = some b ∧ w.heap.size ≤ b)

/-- The block of bytes is not the writer's own. -/
theorem own_ne {w : World} {B p n : Nat} {v u : Value} {xs : List Value} (h : w.ownsRow B 5 1 v n xs) (hp : w.heap[p]? = some (.cells #[u] 102 (0, 0))) : v.ownBlock ≠ some p := by
 intro e
 rcases h.2 with ⟨rfl, _⟩ | ⟨g, cap, cur, rfl, _, hg, _⟩
 ·simp [Value.ownBlock] at e
 ·simp [Value.ownBlock] at e
  subst e
  rw [hg] at hp
  simp at hp

/-- Behind an append to the bytes the writer's own block is as it was. -/
theorem grown_keep {w w0 w1 : World} {ob : Obj} {p : Nat} {row : Option Nat} (h0 : Frm [] w w0) (hg : w0.grownBy w1 row) (hp : w.heap[p]? = some ob) (hne : some p ≠ row) : w1.heap[p]? = some ob := by
 have hlt := lt_of_block hp
 have := h0.size
 rw [hg.block p (by omega) hne, h0.block p hlt (by simp)]
 exact hp

theorem Frm.grown2 {S : List Nat} {a b c : World} {row : Option Nat} (h : Frm S a b) (hg : b.grownBy c row) (hr : ∀ k, row = some k → k ∈ S ∨ a.heap.size ≤ k) : Frm S a c :=
 ⟨hg.os.trans h.os, hg.tape.trans h.tape, hg.output.trans h.output, Nat.le_trans h.size hg.size, fun k hk hn => by
  have := h.size
  rw [hg.block k (by omega) (fun e => by rcases hr k e.symm with h | h; exact hn h; omega)]
  exact h.block k hk hn⟩

/-- One append of a writer, part by part: the block, the row, what is kept. -/
theorem wr_parts {w wr w0 w1 : World} {B p gg cap : Nat} {g g1 : Option Nat} {v : Value} {L ys : List Int}
  (hp : wr.heap[p]? = some (.cells #[v] 102 (0, 0))) (h0 : Frm [] wr w0) 
  (hown1 : w1.ownsRow B 5 1 (.slice (some ⟨gg, 0, none⟩) (L.length + ys.length) cap) (L.length + ys.length) (L.map (Value.int .u8) ++ ys.map (Value.int .u8)))
  (hgrow : w0.grownBy w1 v.ownBlock) (hat : v.ownBlock = some gg ∨ gg = wr.heap.size + 1) (hg : v.ownBlock = g1) (hg1 : g1 = g ∨ ∃ b, g1 = some b ∧ w.heap.size ≤ b)
  (hF : Frm (p :: g.toList) w wr) (hB : B ≤ p) (hx : ∀ x, x ∈ L → 0 ≤ x ∧ x ≤ 255) (hy : ∀ y, y ∈ ys → 0 ≤ y ∧ y ≤ 255) (hne : some p ≠ v.ownBlock) :
  (w1.setCell ⟨p, 0, none⟩ (.slice (some ⟨gg, 0, none⟩) (L.length + ys.length) cap)).heap[p]? = some (.cells #[.slice (some ⟨gg, 0, none⟩) (L.length + ys.length) cap] 102 (0, 0)) ∧
  (w1.setCell ⟨p, 0, none⟩ (.slice (some ⟨gg, 0, none⟩) (L.length + ys.length) cap)).ownsRow B 5 1 (.slice (some ⟨gg, 0, none⟩) (L.length + ys.length) cap) (L ++ ys).length ((L ++ ys).map (Value.int .u8)) ∧
  (∀ x, x ∈ L ++ ys → 0 ≤ x ∧ x ≤ 255) ∧ gg ≠ p ∧
  Frm (p :: g.toList) w (w1.setCell ⟨p, 0, none⟩ (.slice (some ⟨gg, 0, none⟩) (L.length + ys.length) cap)) ∧ (some gg = g ∨ ∃ b, some gg = some b ∧ w.heap.size ≤ b) ∧ B ≤ p := by
 have hplt := lt_of_block hp
 have hgp : gg ≠ p := by
  rcases hat with h | h
  ·intro e; subst e; exact hne h.symm
  ·omega
 refine ⟨one_setCell (grown_keep h0 hgrow hp hne), ?_, ?_, hgp, ?_, ?_, hB⟩
 ·have := ownsRow_setCell_other hown1 (a := ⟨p, 0, none⟩) (by simp [Value.ownBlock, hgp]) (.slice (some ⟨gg, 0, none⟩) (L.length + ys.length) cap)
  simpa using this
 ·intro x hxx
  rcases List.mem_append.1 hxx with h | h
  ·exact hx x h
  ·exact hy x h
 ·refine Frm.setCell ?_ _ _ (by simp)
  refine ((hF.trans (h0.mono (fun _ h => by cases h))).grown2 hgrow fun k hk => ?_)
  rw [hg] at hk
  rcases hg1 with h | ⟨b, h, hb⟩
  ·left; rw [← h, hk]; simp
  ·right; rw [h] at hk; cases hk; exact hb
 ·rcases hat with h | h
  ·rcases hg1 with h1 | ⟨b, h1, hb⟩
   ·left; rw [← h1, ← hg, h]
   ·right; refine ⟨gg, rfl, ?_⟩; rw [h1, h] at hg; cases hg; exact hb
  ·right; have := hF.size; exact ⟨gg, rfl, by omega⟩

/-- One append of a writer: bytes behind what was laid. -/
theorem wr_step {w wr w0 w1 : World} {B p gg cap : Nat} {g g1 : Option Nat} {v : Value} {L ys : List Int}
  (hp : wr.heap[p]? = some (.cells #[v] 102 (0, 0))) (h0 : Frm [] wr w0) 
  (hown1 : w1.ownsRow B 5 1 (.slice (some ⟨gg, 0, none⟩) (L.length + ys.length) cap) (L.length + ys.length) (L.map (Value.int .u8) ++ ys.map (Value.int .u8)))
  (hgrow : w0.grownBy w1 v.ownBlock) (hat : v.ownBlock = some gg ∨ gg = wr.heap.size + 1) (hg : v.ownBlock = g1) (hg1 : g1 = g ∨ ∃ b, g1 = some b ∧ w.heap.size ≤ b)
  (hF : Frm (p :: g.toList) w wr) (hB : B ≤ p) (hx : ∀ x, x ∈ L → 0 ≤ x ∧ x ≤ 255) (hy : ∀ y, y ∈ ys → 0 ≤ y ∧ y ≤ 255) (hne : some p ≠ v.ownBlock) :
  WrGrown w (w1.setCell ⟨p, 0, none⟩ (.slice (some ⟨gg, 0, none⟩) (L.length + ys.length) cap)) B p g (L ++ ys) := by
 obtain ⟨h1, h2, h3, _, h5, h6, h7⟩ := wr_parts hp h0 hown1 hgrow hat hg hg1 hF hB hx hy hne
 exact ⟨some gg, ⟨_, h1, h2, rfl, h7, h3⟩, h5, h6⟩

theorem shr_byte (n : Int) (i : Nat) (hi : i < 8) : Op.shift .shr .u64 n .i64 (IntKind.i64.wrap (8 * (i : Int))) = pure (.int .u64 (n / 256 ^ i)) := by
 have h : i = 0 ∨ i = 1 ∨ i = 2 ∨ i = 3 ∨ i = 4 ∨ i = 5 ∨ i = 6 ∨ i = 7 := by omega
 have e : IntKind.i64.wrap (8 * (i : Int)) = 8 * (i : Int) := by
  rcases h with h | h | h | h | h | h | h | h <;> subst h <;> decide
 rw [e, shift_shr .u64 .i64 n _ (by omega) (by simp [IntKind.bits]; omega)]
 rcases h with h | h | h | h | h | h | h | h <;> subst h <;> rfl

set_option maxRecDepth 100000 in
set_option maxHeartbeats 1600000 in
theorem digits_any (p B k : Nat) (g : Option Nat) (l : List Int) (n tn : Int) (t : Bool) (w : World) (hk : sz n = k) (htn : tn = if t then 255 else 0)
  (hw : WrAt w B p g l) (hl : l.length + 8 ≤ 140737488355328) (hn : 0 ≤ n ∧ n ≤ 18446744073709551615) :
  Calls Tryz.prog 54 #[.pointer (some ⟨p, 0, none⟩), .int .u64 n, .int .u8 tn] w fun e w' => e = .returned (.tuple #[]) ∧ WrGrown w w' B p g (l ++ dgs t n k k) := by
 obtain ⟨i0, hi0, hz0, hz1, hz2⟩ := info_parts Tryz.infoB
 have H : Hid (Tryz.prog.info? 5 = some i0 ∧ i0.zero = some (.int .u8 0) ∧ i0.size = 1 ∧ i0.bytes = 1) := ⟨hi0, hz0, hz1, hz2⟩
 clear hi0 hz0 hz1 hz2
 have hk8 : k ≤ 8 := by rw [← hk]; exact sz_le n
 have HT : Hid (tn = if t then 255 else 0) := htn
 clear htn
 have HW : Hid (WrAt w B p g l) := hw
 clear hw
 go_enter Tryz.func54, Tryz.ntmps54
 go_wp2_with (go_at_call 53; refine (size_any _ _ hn.1 hn.2).mono ?_; rintro e wx ⟨rfl, rfl⟩; rw [hk])
 clear hk
 go_loopw [6] (fun iv wr => ∃ q : Nat, q ≤ k ∧ iv = .int .i64 ((k : Int) - 1 - q) ∧ WrGrown wx wr B p g (l ++ dgs t n k q)) (fun iv _ => (intOf iv + 1).toNat)
 case atStart => exact ⟨0, Nat.zero_le _, by go_num, g, by simpa [dgs] using HW.out, Frm.refl _ _, .inl rfl⟩
 case round =>
  obtain ⟨q, hq, rfl, g1, hW1, hF1, hg1⟩ := hrel
  by_cases hlt : q < k
  ·obtain ⟨i, hi⟩ : ∃ i : Nat, k = i + 1 + q := ⟨k - 1 - q, by omega⟩
   obtain ⟨v, hp, hown, hg, hB, hx⟩ := hW1
   have hc := cell_of_one hp
   have hf := free_of_one hp
   have hplt := lt_of_block hp
   rw [show ((k : Int) - 1 - q) = (i : Int) from by omega]
   have hi0 : (0 : Int) ≤ (i : Int) := by omega
   have hi8 : (i : Int) < 8 := by omega
   have HO : Hid (wr.ownsRow B 5 1 v (l ++ dgs t n k q).length ((l ++ dgs t n k q).map (Value.int .u8))) := hown
   have HP : Hid (wr.heap[p]? = some (.cells #[v] 102 (0, 0))) := hp
   have HF : Hid (Frm (p :: g.toList) wx wr) := hF1
   have hne : some p ≠ v.ownBlock := by
    intro e
    exact own_ne hown hp e.symm
   clear hown hp hF1
   have HI : Hid (k = i + 1 + q) := hi
   have hsh : Op.shift .shr .u64 n .i64 (IntKind.i64.wrap (8 * (i : Int))) = pure (.int .u64 (n / 256 ^ i)) := shr_byte n i (by omega)
   clear hi
   generalize hX : n / 256 ^ i = X at *
   have HX : Hid (n / 256 ^ i = X) := hX
   clear hX
   go_wp2_with fail
   go_region_law
    ((refine step_append_lies _ (by rfl) _ _ _ (by rfl) B 5 i0 _ 1 1 Tryz.underlying31 H.out.1 H.out.2.1 H.out.2.2.1 H.out.2.2.2 rfl (by omega) v (l ++ dgs t n k q).length ((l ++ dgs t n k q).map (Value.int .u8)) (by rfl) ((HO.out.alloc _).drew) ⟨wr.heap.size, 0, none⟩ 1 1 [_] (by rfl) (by rfl) (World.news_of_block (cs := #[_]) (t := 5) (fr := (0, 0)) (heap_alloc_new wr _)) (by simp [Value.oneCell']) (by omega) (by simp [dgs_length, maxLen]; omega) (by simp [dgs_length]; omega) (by simp; omega) (wr.heap.size + 1) (by simp) ?_; intro gg cap w1 hown1 hgrow hat hlt1; have hp1 := grown_keep (((Frm.refl [] wr).alloc _).drew) hgrow HP.out hne; have hc1 := cell_of_one hp1; have hf1 := free_of_one hp1))
   all_goals
    have R : WrGrown wx (w1.setCell ⟨p, 0, none⟩ (.slice (some ⟨gg, 0, none⟩) (l.length + (dgs t n k q).length + 1) cap)) B p g (l ++ dgs t n k (q + 1)) := by
     have hd : bits .xor .u8 (IntKind.u8.wrap X) tn = dgt t n k q := by
      rw [xor_trn t tn _ HT.out (wrap_u8_bd X), wrap_u8 X, dgt, show k - 1 - q = i from by have := HI.out; omega, HX.out]
     rw [hd] at hown1
     rw [dgs_succ, ← List.append_assoc]
     have := wr_step (ys := [dgt t n k q]) HP.out (((Frm.refl [] wr).alloc _).drew) (by simpa using hown1) hgrow hat hg hg1 HF.out hB hx (by intro y hy; rw [List.mem_singleton.1 hy]; exact dgt_bd t n k q) hne
     simpa using this
    clear hown1 hgrow hp1 hc1 hf1
    go_wp2
    go_roundw
    case rel => exact ⟨q + 1, by omega, by have := HI.out; go_num, R⟩
    case measure => simp [intOf]
  ·have : q = k := by omega
   subst this
   go_wp2
   go_end0
   exact ⟨rfl, g1, hW1, hF1, hg1⟩
end Go.Proofs.YtoefgfiabfkfaaaGreatDoor
/- The writer's Uint and Int. -/
namespace Go.Proofs.YtoefgfiabfkfaaaGreatDoor
open Go.RowKit

attribute [local go_sem ↓] Go.wp_at_zero Go.wp_at_succ

/-- A number's bytes as it is laid. -/
def uB (n : Int) : List Int := (sz n : Int) :: dgs false n (sz n) (sz n)

theorem WrGrown.trans {w w1 w2 : World} {B p : Nat} {g : Option Nat} {l l' : List Int} (h : WrGrown w w1 B p g l) (h2 : ∀ g', WrAt w1 B p g' l → WrGrown w1 w2 B p g' l') : WrGrown w w2 B p g l' := by
 obtain ⟨g1, ha, hf, hg⟩ := h
 obtain ⟨g2, ha2, hf2, hg2⟩ := h2 g1 ha
 refine ⟨g2, ha2, ?_, ?_⟩
 ·have hsz := hf.size
  refine ⟨hf2.os.trans hf.os, hf2.tape.trans hf.tape, hf2.output.trans hf.output, Nat.le_trans hf.size hf2.size, fun k hk hn => ?_⟩
  rw [hf2.block k (by omega) ?_]
  ·exact hf.block k hk hn
  ·intro hm
   rcases hg with rfl | ⟨b, rfl, hb⟩
   ·exact hn hm
   ·simp at hm hn
    rcases hm with h | h
    ·exact hn.1 h
    ·omega
 ·have hsz := hf.size
  rcases hg2 with rfl | ⟨b, rfl, hb⟩
  ·exact hg
  ·exact .inr ⟨b, rfl, by omega⟩

theorem WrAt.same {w : World} {B p : Nat} {g g' : Option Nat} {l l' : List Int} (h : WrAt w B p g l) (h' : WrAt w B p g' l') : g = g' := by
 obtain ⟨v, hp, _, hg, _⟩ := h
 obtain ⟨v', hp', _, hg', _⟩ := h'
 rw [hp] at hp'
 have : v = v' := by simpa using hp'
 rw [← hg, ← hg', this]

set_option maxRecDepth 100000 in
set_option maxHeartbeats 1600000 in
theorem wrUint_any (p B : Nat) (g : Option Nat) (l : List Int) (n : Int) (w : World) (hw : WrAt w B p g l) (hl : l.length + 16 ≤ 140737488355328) (hn : 0 ≤ n ∧ n ≤ 18446744073709551615) :
  Calls Tryz.prog 33 #[.pointer (some ⟨p, 0, none⟩), .int .u64 n] w fun e w' => e = .returned (.pointer (some ⟨p, 0, none⟩)) ∧ WrGrown w w' B p g (l ++ uB n) := by
 obtain ⟨i0, hi0, hz0, hz1, hz2⟩ := info_parts Tryz.infoB
 have H : Hid (Tryz.prog.info? 5 = some i0 ∧ i0.zero = some (.int .u8 0) ∧ i0.size = 1 ∧ i0.bytes = 1) := ⟨hi0, hz0, hz1, hz2⟩
 clear hi0 hz0 hz1 hz2
 obtain ⟨v, hp, hown, hg, hB, hx⟩ := hw
 have hc := cell_of_one hp
 have hf := free_of_one hp
 have hplt := lt_of_block hp
 have hne : some p ≠ v.ownBlock := fun e => own_ne hown hp e.symm
 have HO : Hid (w.ownsRow B 5 1 v l.length (l.map (Value.int .u8))) := hown
 have HP : Hid (w.heap[p]? = some (.cells #[v] 102 (0, 0))) := hp
 clear hown hp
 obtain ⟨k, hk⟩ : ∃ k, sz n = k := ⟨_, rfl⟩
 have hk8 : k ≤ 8 := by rw [← hk]; exact sz_le n
 have HK : Hid (sz n = k) := hk
 clear hk
 go_enter Tryz.func33, Tryz.ntmps33
 go_wp2_with fail
 go_region_law (first | (refine step_append_lies _ (by rfl) _ _ _ (by rfl) B 5 i0 _ 1 1 Tryz.underlying31 H.out.1 H.out.2.1 H.out.2.2.1 H.out.2.2.2 rfl (by omega) v l.length (l.map (Value.int .u8)) (by rfl) ((HO.out.alloc _).drew) ⟨w.heap.size, 0, none⟩ 1 1 [_] (by rfl) (by rfl) (World.news_of_block (cs := #[_]) (t := 5) (fr := (0, 0)) (heap_alloc_new w _)) (by simp [Value.oneCell']) (by omega) (by simp [maxLen]; omega) (by simp; omega) (by simp; omega) (w.heap.size + 1) (by simp) ?_; intro gg cap w1 hown1 hgrow hat hlt1; have hp1 := grown_keep (((Frm.refl [] w).alloc _).drew) hgrow HP.out hne; have hc1 := cell_of_one hp1; have hf1 := free_of_one hp1) | (go_simp; go_at_call 53; refine (size_any _ _ hn.1 hn.2).mono ?_; rintro e wx ⟨rfl, rfl⟩; rw [HK.out]))
 all_goals
  have hk1 : IntKind.u8.wrap ((k : Int)) = (k : Int) := by rw [wrap_u8]; omega
  rw [hk1] at hown1
  have R := wr_step (ys := [(k : Int)]) HP.out (((Frm.refl [] w).alloc _).drew) (by simpa using hown1) hgrow hat hg (.inl rfl) (Frm.refl _ w) hB hx (by intro y hy; rw [List.mem_singleton.1 hy]; omega) hne
  have R1 : WrGrown w (w1.setCell ⟨p, 0, none⟩ (.slice (some ⟨gg, 0, none⟩) (l.length + 1) cap)) B p g (l ++ [(k : Int)]) := by simpa using R
  have HR : Hid (WrGrown w (w1.setCell ⟨p, 0, none⟩ (.slice (some ⟨gg, 0, none⟩) (l.length + 1) cap)) B p g (l ++ [(k : Int)])) := R1
  clear R R1 hown1 hgrow hp1 hc1 hf1 hk1
  obtain ⟨g1, ha, hF1, hg1⟩ := HR.out
  have HA : Hid (WrAt (w1.setCell ⟨p, 0, none⟩ (.slice (some ⟨gg, 0, none⟩) (l.length + 1) cap)) B p g1 (l ++ [(k : Int)])) := ha
  clear ha hF1 hg1
  go_wp2_with (go_at_call 54; refine (digits_any p B k g1 (l ++ [(k : Int)]) n 0 false _ HK.out rfl HA.out (by simp; omega) hn).mono ?_; rintro e w2 ⟨rfl, hG⟩)
  go_ret
  refine ⟨rfl, ?_⟩
  have hG2 : ∀ g', WrAt (w1.setCell ⟨p, 0, none⟩ (.slice (some ⟨gg, 0, none⟩) (l.length + 1) cap)) B p g' (l ++ [(k : Int)]) → WrGrown (w1.setCell ⟨p, 0, none⟩ (.slice (some ⟨gg, 0, none⟩) (l.length + 1) cap)) w2 B p g' (l ++ [(k : Int)] ++ dgs false n k k) := by
   intro g' h'
   rw [WrAt.same h' HA.out]; exact hG
  have := HR.out.trans hG2
  rw [List.append_assoc] at this
  have hkk := HK.out
  subst hkk
  exact this

end Go.Proofs.YtoefgfiabfkfaaaGreatDoor
/- The writer's New and Done. -/
namespace Go.Proofs.YtoefgfiabfkfaaaGreatDoor
open Go.RowKit

theorem WrAt.parts {w : World} {B p : Nat} {g : Option Nat} {l : List Int} (h : WrAt w B p g l) : ∃ v, w.heap[p]? = some (.cells #[v] 102 (0, 0)) ∧ w.ownsRow B 5 1 v l.length (l.map (Value.int .u8)) ∧ v.ownBlock = g ∧ B ≤ p ∧ (∀ x, x ∈ l → 0 ≤ x ∧ x ≤ 255) ∧ some p ≠ v.ownBlock ∧ p < w.heap.size := by
 obtain ⟨v, hp, hown, hg, hB, hx⟩ := h
 exact ⟨v, hp, hown, hg, hB, hx, fun e => own_ne hown hp e.symm, lt_of_block hp⟩



/-- Bytes do not lie in a writer's own block. -/
def fn (l : List Int) : Nat → Int := fun j => l.getD j 0
theorem fn_get (l : List Int) (j : Nat) (h : j < l.length) : fn l j = l[j] := by simp [fn, h]
theorem map_bl (l : List Int) : l.map (Value.int .u8) = bl (fn l) l.length := by
 apply List.ext_getElem
 ·simp [bl_length]
 ·intro j h1 h2
  simp at h1
  simp [bl, fn, h1]

set_option maxHeartbeats 400000 in
theorem new_any (w : World) :
  Calls Tryz.prog 31 #[] w fun e w' => e = .returned (.pointer (some ⟨w.heap.size, 0, none⟩)) ∧ w' = w.alloc (.cells #[.slice none 0 0] 102) := by
 go_enter Tryz.func31, Tryz.ntmps31
 go_wp2
 go_ret
 exact ⟨rfl, rfl⟩

theorem new_wr (w : World) : WrAt (w.alloc (.cells #[.slice none 0 0] 102)) w.heap.size w.heap.size none [] :=
 ⟨.slice none 0 0, heap_alloc_new w _, World.ownsRow_nil _ _ _ _, rfl, Nat.le_refl _, fun x h => by cases h⟩

set_option maxHeartbeats 400000 in
theorem wrDone_any (p B : Nat) (g : Option Nat) (l : List Int) (w : World) (hw : WrAt w B p g l) (hl : l.length ≤ 140737488351232) :
  Calls Tryz.prog 35 #[.pointer (some ⟨p, 0, none⟩)] w fun e w' => ∃ ad cap, e = .returned (.slice ad l.length cap) ∧ l.length ≤ cap ∧ SlAt w' ad l.length (fn l) ∧ (ad = none → l.length = 0 ∧ cap = 0) ∧ (∀ a, ad = some a → w.heap.size ≤ a.block) ∧ Below w.heap.size w w' := by
 obtain ⟨v, hp, hown, hg, hB, hx⟩ := hw
 rw [map_bl] at hown
 obtain ⟨ad, cap, rfl, h1, h2, h3, h4⟩ := own_SlAt (fun j hj => by rw [fn_get l j hj]; exact hx _ (List.getElem_mem hj)) hown
 have hc := cell_of_one hp
 clear hown hp
 go_enter Tryz.func35, Tryz.ntmps35
 go_wp2_with fail
 refine (clone_any ad l.length cap (fn l) w h2 h3 hl).mono ?_
 rintro e w1 ⟨ad', cap', rfl, k1, k2, k3, k4, hb⟩
 go_wp2
 go_ret
 exact ⟨ad', cap', rfl, k1, k2, k3, k4, hb⟩
end Go.Proofs.YtoefgfiabfkfaaaGreatDoor
/- The writer's Hash; a nil writer's calls. -/
namespace Go.Proofs.YtoefgfiabfkfaaaGreatDoor
open Go.RowKit

attribute [local go_sem ↓] Go.wp_at_zero Go.wp_at_succ

/-- A sum's bytes. -/
def hB (z : Nat → Int) : List Int := (List.range 32).map z
theorem hB_length (z : Nat → Int) : (hB z).length = 32 := by simp [hB]
theorem hB_bl (z : Nat → Int) : (hB z).map (Value.int .u8) = bl z 32 := by simp [hB, bl]

set_option maxRecDepth 100000 in
set_option maxHeartbeats 1600000 in
theorem wrHash_any (p B : Nat) (g : Option Nat) (l : List Int) (z : Nat → Int) (w : World) (hw : WrAt w B p g l) (hl : l.length + 32 ≤ 140737488355328) (hz : ∀ j, j < 32 → 0 ≤ z j ∧ z j ≤ 255) :
  Calls Tryz.prog 34 #[.pointer (some ⟨p, 0, none⟩), .agg (hv z)] w fun e w' => e = .returned (.pointer (some ⟨p, 0, none⟩)) ∧ WrGrown w w' B p g (l ++ hB z) := by
 obtain ⟨i0, hi0, hz0, hz1, hz2⟩ := info_parts Tryz.infoB
 have H : Hid (Tryz.prog.info? 5 = some i0 ∧ i0.zero = some (.int .u8 0) ∧ i0.size = 1 ∧ i0.bytes = 1) := ⟨hi0, hz0, hz1, hz2⟩
 clear hi0 hz0 hz1 hz2
 have HZ : Hid (∀ j, j < 32 → 0 ≤ z j ∧ z j ≤ 255) := hz
 clear hz
 obtain ⟨v, hp, hown, hg, hB0, hx⟩ := hw
 have hc := cell_of_one hp
 have hf := free_of_one hp
 have hplt := lt_of_block hp
 have hne : some p ≠ v.ownBlock := fun e => own_ne hown hp e.symm
 have HO : Hid (w.ownsRow B 5 1 v l.length (l.map (Value.int .u8))) := hown
 have HP : Hid (w.heap[p]? = some (.cells #[v] 102 (0, 0))) := hp
 clear hown hp
 have HN : Hid (((w.alloc (.cells (hv z) 28)).drew).heap[w.heap.size]? = some (.cells (hv z) 28 (0, 0))) := heap_alloc_new w (.cells (hv z) 28)
 go_enter Tryz.func34, Tryz.ntmps34
 go_wp2_with (refine Go.Great.wpList_boxTo rfl _ _ rfl _ rfl _ rfl (hv z) rfl ?_)
 go_region_law (refine step_append_lies _ (by rfl) _ _ _ (by rfl) B 5 i0 _ 1 1 Tryz.underlying31 H.out.1 H.out.2.1 H.out.2.2.1 H.out.2.2.2 rfl (by omega) v l.length (l.map (Value.int .u8)) (by rfl) ((HO.out.alloc _).drew) ⟨w.heap.size, 0, none⟩ 32 32 (bl z 32) (by rfl) (by simp [bl_length]) (by have := World.news_of_block HN.out; rw [hv_list] at this; exact this) (bl_one z 32) (by omega) (by simp [maxLen]; omega) (by simp; omega) (by simp; omega) (w.heap.size + 1) (by simp) ?_; intro gg cap w1 hown1 hgrow hat hlt1; have hp1 := grown_keep (((Frm.refl [] w).alloc _).drew) hgrow HP.out hne; have hc1 := cell_of_one hp1; have hf1 := free_of_one hp1)
 all_goals
  have R := wr_step (ys := hB z) HP.out (((Frm.refl [] w).alloc _).drew) (by rw [hB_bl, hB_length]; exact hown1) hgrow hat hg (.inl rfl) (Frm.refl _ w) hB0 hx (by intro y hy; simp [hB] at hy; obtain ⟨j, hj, rfl⟩ := hy; exact HZ.out j hj) hne
  rw [hB_length] at R
  clear hown1 hgrow hp1
  go_wp2
  go_ret
  exact ⟨rfl, R⟩

end Go.Proofs.YtoefgfiabfkfaaaGreatDoor
/- Bytes as a string. -/
namespace Go.Proofs.YtoefgfiabfkfaaaGreatDoor
open Go.RowKit

/-- n bytes z as a string. -/
def strB (z : Nat → Int) (n : Nat) : ByteArray := ⟨((List.range n).map fun j => UInt8.ofNat (z j).toNat).toArray⟩

theorem conv_any (ad : Option Addr) (n cap : Nat) (z : Nat → Int) (w : World) (hs : SlAt w ad n z) (hnil : ad = none → n = 0 ∧ cap = 0) :
  (convert 31 9 (.slice ad n cap)).run Tryz.prog w = .ok (.string (strB z n)) w := by
 cases ad with
 | none =>
  obtain ⟨rfl, rfl⟩ := hnil rfl
  exact Lib.run_convert_nil_bytes w 31 9 5 0 Tryz.underlying31 Tryz.underlying5 Tryz.underlying9
 | some a =>
  have h := run_convert_bytes_back (P := Tryz.prog) w 31 9 5 a cap ((List.range n).map fun j => UInt8.ofNat (z j).toNat) Tryz.underlying31 Tryz.underlying5 Tryz.underlying9 ?_
  ·simpa [strB] using h
  ·intro j hj
   simp at hj
   obtain ⟨b, off, e, hc⟩ := hs.2 (by omega)
   cases e
   have hz := hs.1 j hj
   rw [Addr.add_lit, hc j hj]
   simp
   omega
end Go.Proofs.YtoefgfiabfkfaaaGreatDoor
/- Payments, holds and states: what they say, their cells, and how they lie. -/
namespace Go.Proofs.YtoefgfiabfkfaaaGreatDoor
open Go.RowKit

def Zb (z : Nat → Int) : Prop := ∀ j, j < 32 → 0 ≤ z j ∧ z j ≤ 255
def Ib (n : Int) : Prop := -9223372036854775808 ≤ n ∧ n ≤ 9223372036854775807
theorem tsize : Tryz.prog.types.size = 199 := by kernel_rfl
theorem cellsH : Tryz.prog.cellsOf 28 = 32 := by kernel_rfl
theorem cellsI : Tryz.prog.cellsOf 3 = 1 := by kernel_rfl
theorem cellsB : Tryz.prog.cellsOf 5 = 1 := by kernel_rfl
theorem cellsS : Tryz.prog.cellsOf 54 = 1 := by kernel_rfl
theorem infoI : (Tryz.prog.info? 3).map (fun i => (i.zero, i.size, i.bytes)) = some (some (.int .i64 0), 1, 8) := by kernel_rfl
/-- Ints that lie at an address. -/
def IsAt (w : World) (ad : Option Addr) (n : Nat) (z : Nat → Int) : Prop := 0 < n → ∃ b off, ad = some ⟨b, off, none⟩ ∧ ∀ j, j < n → w.cell? ⟨b, off + j, none⟩ = some (.int .i64 (z j))
theorem IsAt.below {w w' : World} {ad : Option Addr} {n : Nat} {z : Nat → Int} (h : IsAt w ad n z) (hb : Below w.heap.size w w') : IsAt w' ad n z := by
 intro hn
 obtain ⟨b, off, e, hc⟩ := h hn
 refine ⟨b, off, e, fun j hj => ?_⟩
 have := hc j hj
 have hl : b < w.heap.size := World.block_lt_of_cell? w ⟨b, off + j, none⟩ this
 rw [hb.cell (p := ⟨b, off + j, none⟩) hl]; exact this

/-- What a payment says. -/
structure Py where
 id : Int
 fr : Int
 am : Int
 af : Int
 lk : Nat → Int
instance : Inhabited Py := ⟨⟨0, 0, 0, 0, nz⟩⟩
/-- Its 36 cells. -/
def pyl (x : Py) : List Value := .int .i64 x.id :: .int .i64 x.fr :: .int .i64 x.am :: .int .i64 x.af :: bl x.lk 32
theorem pyl_length (x : Py) : (pyl x).length = 36 := by simp [pyl, bl_length]
def pyv (x : Py) : Array Value := (pyl x).toArray
theorem pyv_size (x : Py) : (pyv x).size = 36 := by simp [pyv, pyl_length]
theorem pyl_one (x : Py) : ∀ u ∈ pyl x, u.oneCell' = true := by
 intro u hu
 simp only [pyl, List.mem_cons] at hu
 rcases hu with rfl | rfl | rfl | rfl | hu
 ·rfl
 ·rfl
 ·rfl
 ·rfl
 ·exact bl_one _ _ u hu
theorem pyv_one (x : Py) : (pyv x).all (·.oneCell') = true := by
 have : (pyv x) = (pyl x).toArray := rfl
 rw [this]
 exact all_oneCell_toArray (pyl_one x)
theorem szP : (Tryz.prog.info? 43).map (·.size) = some 36 := by kernel_rfl
theorem szPr : (Tryz.prog.info? 30).map (·.size) = some 36 := by kernel_rfl
theorem szPv (x : Py) : (Tryz.prog.info? 43).map (·.size) = some (pyv x).size := by rw [pyv_size]; exact szP
theorem szPl (x : Py) : (Tryz.prog.info? 43).map (·.size) = some (pyl x).length := by rw [pyl_length]; exact szP
theorem szPrl (x : Py) : (Tryz.prog.info? 30).map (·.size) = some (pyl x).length := by rw [pyl_length]; exact szPr
/-- What a block that holds a payment gives a walk. -/
structure PBox (w : World) (g : Nat) (x : Py) : Prop where
 c0 : w.cell? ⟨g, 0, none⟩ = some (.int .i64 x.id)
 c1 : w.cell? ⟨g, 1, none⟩ = some (.int .i64 x.fr)
 c2 : w.cell? ⟨g, 2, none⟩ = some (.int .i64 x.am)
 c3 : w.cell? ⟨g, 3, none⟩ = some (.int .i64 x.af)
 lk : w.rangeAt g 4 (bl x.lk 32)
theorem pbox_of {w : World} {g : Nat} {x : Py} {t : TypeId} {fr : Nat × Nat} (h : w.heap[g]? = some (.cells (pyv x) t fr)) : PBox w g x := by
 refine ⟨?_, ?_, ?_, ?_, ?_⟩
 ·rw [cell_of_row w g 0 _ _ _ h]; simp [pyv, pyl]
 ·rw [cell_of_row w g 1 _ _ _ h]; simp [pyv, pyl]
 ·rw [cell_of_row w g 2 _ _ _ h]; simp [pyv, pyl]
 ·rw [cell_of_row w g 3 _ _ _ h]; simp [pyv, pyl]
 ·intro j v hv
  rw [cell_of_row w g (4 + j) _ _ _ h, Nat.add_comm 4 j]
  simpa [pyv, pyl] using hv
/-- What a payment in a row gives a walk. -/
theorem py_cells {w : World} {b off : Nat} {x : Py} (h : w.rangeAt b off (pyl x)) :
  w.cell? ⟨b, off, none⟩ = some (.int .i64 x.id) ∧ w.cell? ⟨b, off + 1, none⟩ = some (.int .i64 x.fr) ∧ w.cell? ⟨b, off + 2, none⟩ = some (.int .i64 x.am) ∧ w.cell? ⟨b, off + 3, none⟩ = some (.int .i64 x.af) ∧ w.rangeAt b (off + 4) (bl x.lk 32) := by
 refine ⟨by simpa using h 0 _ rfl, h 1 _ rfl, h 2 _ rfl, h 3 _ rfl, fun j v hv => ?_⟩
 have := h (j + 4) v (by simpa [pyl] using hv)
 rwa [show off + (j + 4) = off + 4 + j from by omega] at this
/-- n payments lie at an address. -/
structure PyAt (w : World) (ad : Option Addr) (n : Nat) (X : Nat → Py) : Prop where
 lk : ∀ i, i < n → Zb (X i).lk
 at_ : 0 < n → ∃ b off, ad = some ⟨b, off, none⟩ ∧ ∀ i, i < n → w.rangeAt b (off + i * 36) (pyl (X i))
theorem PyAt.nil (w : World) (ad : Option Addr) (X : Nat → Py) : PyAt w ad 0 X := ⟨fun _ h => by omega, fun h => by omega⟩
theorem PyAt.below {w w' : World} {ad : Option Addr} {n : Nat} {X : Nat → Py} (h : PyAt w ad n X) (hb : Below w.heap.size w w') : PyAt w' ad n X := by
 refine ⟨h.lk, fun hn => ?_⟩
 obtain ⟨b, off, e, hr⟩ := h.at_ hn
 exact ⟨b, off, e, fun i hi => range_below (hr i hi) hb⟩

/-- What a hold says. -/
structure Hd where
 id : Int
 am : Int
 n : Nat
 z : Nat → Int
instance : Inhabited Hd := ⟨⟨0, 0, 0, fun _ => 0⟩⟩
/-- Its three cells, the keys at ka. -/
def hdl (x : Hd) (ka : Option Addr) (kc : Nat) : List Value := [.int .i64 x.id, .int .i64 x.am, .slice ka x.n kc]
def hdv (x : Hd) (ka : Option Addr) (kc : Nat) : Array Value := #[.int .i64 x.id, .int .i64 x.am, .slice ka x.n kc]
theorem szH : (Tryz.prog.info? 58).map (·.size) = some 3 := by kernel_rfl
theorem szHr : (Tryz.prog.info? 56).map (·.size) = some 3 := by kernel_rfl
/-- n holds lie at an address. -/
structure HdAt (w : World) (ad : Option Addr) (n : Nat) (X : Nat → Hd) : Prop where
 at_ : 0 < n → ∃ b off, ad = some ⟨b, off, none⟩ ∧ ∀ i, i < n → ∃ ka kc, w.rangeAt b (off + i * 3) (hdl (X i) ka kc) ∧ IsAt w ka (X i).n (X i).z ∧ (ka = none → (X i).n = 0 ∧ kc = 0)
theorem HdAt.nil (w : World) (ad : Option Addr) (X : Nat → Hd) : HdAt w ad 0 X := ⟨fun h => by omega⟩
theorem HdAt.below {w w' : World} {ad : Option Addr} {n : Nat} {X : Nat → Hd} (h : HdAt w ad n X) (hb : Below w.heap.size w w') : HdAt w' ad n X := by
 refine ⟨fun hn => ?_⟩
 obtain ⟨b, off, e, hr⟩ := h.at_ hn
 refine ⟨b, off, e, fun i hi => ?_⟩
 obtain ⟨ka, kc, h1, h2, h3⟩ := hr i hi
 exact ⟨ka, kc, range_below h1 hb, h2.below hb, h3⟩
theorem hd_cells {w : World} {b off : Nat} {x : Hd} {ka : Option Addr} {kc : Nat} (h : w.rangeAt b off (hdl x ka kc)) :
  w.cell? ⟨b, off, none⟩ = some (.int .i64 x.id) ∧ w.cell? ⟨b, off + 1, none⟩ = some (.int .i64 x.am) ∧ w.cell? ⟨b, off + 2, none⟩ = some (.slice ka x.n kc) :=
 ⟨by simpa using h 0 _ rfl, h 1 _ rfl, h 2 _ rfl⟩

/-- What a state says. -/
structure Sv where
 nu : Int
 a : Int
 b : Int
 pn : Nat
 P : Nat → Py
 hn : Nat
 H : Nat → Hd
/-- The zero state. -/
def sv0 : Sv := ⟨0, 0, 0, 0, fun _ => default, 0, fun _ => default⟩
/-- Where a state's rows lie. -/
structure Pl where
 pa : Option Addr
 pc : Nat
 ha : Option Addr
 hc : Nat
def pl0 : Pl := ⟨none, 0, none, 0⟩
def svv (s : Sv) (p : Pl) : Array Value := #[.int .i64 s.nu, .int .i64 s.a, .int .i64 s.b, .slice p.pa s.pn p.pc, .slice p.ha s.hn p.hc]
theorem szS : (Tryz.prog.info? 37).map (·.size) = some 5 := by kernel_rfl
theorem szSr : (Tryz.prog.info? 26).map (·.size) = some 5 := by kernel_rfl
/-- The rows of a state lie there. -/
structure SvAt (w : World) (s : Sv) (p : Pl) : Prop where
 py : PyAt w p.pa s.pn s.P
 hd : HdAt w p.ha s.hn s.H
 pcap : s.pn ≤ p.pc
 hcap : s.hn ≤ p.hc
 pnil : p.pa = none → s.pn = 0 ∧ p.pc = 0
 hnil : p.ha = none → s.hn = 0 ∧ p.hc = 0
theorem SvAt.below {w w' : World} {s : Sv} {p : Pl} (h : SvAt w s p) (hb : Below w.heap.size w w') : SvAt w' s p :=
 ⟨h.py.below hb, h.hd.below hb, h.pcap, h.hcap, h.pnil, h.hnil⟩
theorem sv0_at (w : World) : SvAt w sv0 pl0 := ⟨PyAt.nil _ _ _, HdAt.nil _ _ _, Nat.le_refl _, Nat.le_refl _, fun _ => ⟨rfl, rfl⟩, fun _ => ⟨rfl, rfl⟩⟩
/-- How long a state may be here. -/
structure Sv.Small (s : Sv) : Prop where
 n : s.pn + s.hn ≤ 100
 k : ∀ i, i < s.hn → (s.H i).n ≤ 300
theorem sv0_small : sv0.Small := ⟨by simp [sv0], fun i hi => by simp [sv0] at hi⟩

/-- A state that may be. -/
def lastP (X : Nat → Py) (j : Nat) : Int := if j = 0 then -1 else (X (j - 1)).id
theorem lastP_succ (X : Nat → Py) (j : Nat) : lastP X (j + 1) = (X j).id := by simp [lastP]
def lastH (X : Nat → Hd) (j : Nat) : Int := if j = 0 then -1 else (X (j - 1)).id
theorem lastH_succ (X : Nat → Hd) (j : Nat) : lastH X (j + 1) = (X j).id := by simp [lastH]
/-- The key ahead of the key j. -/
def lastK (z : Nat → Int) (j : Nat) : Int := if j = 0 then -1 else z (j - 1)
theorem lastK_succ (z : Nat → Int) (j : Nat) : lastK z (j + 1) = z j := by simp [lastK]
/-- Keys that are parties, ascending. -/
def KOk (z : Nat → Int) (n : Nat) : Prop := ∀ j, j < n → lastK z j < z j ∧ z j < 16
instance (z : Nat → Int) (n : Nat) : Decidable (KOk z n) := inferInstanceAs (Decidable (∀ j, j < n → _))
/-- A payment that may be, but for its ID's lower bound. -/
def POne (x : Py) : Prop := x.id ≤ 4294967296 ∧ (x.fr = 0 ∨ x.fr = 1) ∧ (10 ≤ x.am ∧ x.am ≤ 1125899906842624) ∧ (0 ≤ x.af ∧ x.af ≤ 1099511627776) ∧ hq x.lk nz = false
instance (x : Py) : Decidable (POne x) := inferInstanceAs (Decidable (_ ∧ _))
def PsOk (X : Nat → Py) (n : Nat) : Prop := ∀ j, j < n → lastP X j < (X j).id ∧ POne (X j)
instance (X : Nat → Py) (n : Nat) : Decidable (PsOk X n) := inferInstanceAs (Decidable (∀ j, j < n → _))
def HOne (x : Hd) : Prop := x.id ≤ 4294967296 ∧ (10 ≤ x.am ∧ x.am ≤ 1125899906842624) ∧ KOk x.z x.n ∧ 0 < x.n
instance (x : Hd) : Decidable (HOne x) := inferInstanceAs (Decidable (_ ∧ _))
def HsOk (X : Nat → Hd) (n : Nat) : Prop := ∀ j, j < n → lastH X j < (X j).id ∧ HOne (X j)
instance (X : Nat → Hd) (n : Nat) : Decidable (HsOk X n) := inferInstanceAs (Decidable (∀ j, j < n → _))
def sumP (X : Nat → Py) : Nat → Int
 | 0 => 0
 | j + 1 => sumP X j + (X j).am
def sumH (X : Nat → Hd) : Nat → Int
 | 0 => 0
 | j + 1 => sumH X j + (X j).am
/-- What is in a state together. -/
def tot (s : Sv) : Int := s.a + s.b + sumP s.P s.pn + sumH s.H s.hn
/-- Numbers, sides and how many there are. -/
def SNum (s : Sv) : Prop := (0 ≤ s.nu ∧ s.nu ≤ 1099511627776) ∧ (0 ≤ s.a ∧ s.a ≤ 1125899906842624) ∧ (0 ≤ s.b ∧ s.b ≤ 1125899906842624)
instance (s : Sv) : Decidable (SNum s) := inferInstanceAs (Decidable (_ ∧ _))
def SRows (s : Sv) : Prop := s.pn + s.hn ≤ 8 ∧ PsOk s.P s.pn ∧ HsOk s.H s.hn
instance (s : Sv) : Decidable (SRows s) := inferInstanceAs (Decidable (_ ∧ _))
def SOk (s : Sv) : Prop := SNum s ∧ SRows s ∧ tot s ≤ 1125899906842624
instance (s : Sv) : Decidable (SOk s) := inferInstanceAs (Decidable (_ ∧ _))
def chkE (s : Sv) : Int := if SOk s then 0 else 1
theorem sumP_bd (X : Nat → Py) : ∀ n, PsOk X n → 0 ≤ sumP X n ∧ sumP X n ≤ 1125899906842624 * n
 | 0, _ => by simp [sumP]
 | n + 1, h => by
  have h1 := sumP_bd X n (fun j hj => h j (by omega))
  have h2 := (h n (by omega)).2.2.2.1
  simp only [sumP]
  omega
theorem sumH_bd (X : Nat → Hd) : ∀ n, HsOk X n → 0 ≤ sumH X n ∧ sumH X n ≤ 1125899906842624 * n
 | 0, _ => by simp [sumH]
 | n + 1, h => by
  have h1 := sumH_bd X n (fun j hj => h j (by omega))
  have h2 := (h n (by omega)).2.2.1
  simp only [sumH]
  omega
end Go.Proofs.YtoefgfiabfkfaaaGreatDoor
