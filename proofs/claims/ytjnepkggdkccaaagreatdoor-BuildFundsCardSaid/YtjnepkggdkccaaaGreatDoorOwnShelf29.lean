/- How many bytes a number has: math/bits.Len64 and enc.size. -/
import Derived.Test.YtjnepkggdkccaaaGreatDoorOwnShelf27
import Derived.Test.YtjnepkggdkccaaaGreatDoorOwnShelf28
import Derived.Test.YtjnepkggdkccaaaGreatDoorOwnShelf26
import Derived.Deep.RegionLaw
import Derived.Deep.AppendLies
import Derived.Deep.DrawnRows
import Derived.Great.Ranges
import Derived.Laws.IdiomStrings
import Derived.Lib.BufferRead
import Derived.Test.YtjnepkggdkccaaaGreatDoorOwnShelf07
namespace Go.Proofs.YtjnepkggdkccaaaGreatDoor
open Go.RowKit

/-- How many bytes a number has without needless noughts. -/
def sz (n : Int) : Nat :=
 if n < 1 then 0 else if n < 256 then 1 else if n < 65536 then 2 else if n < 16777216 then 3 else if n < 4294967296 then 4
 else if n < 1099511627776 then 5 else if n < 281474976710656 then 6 else if n < 72057594037927936 then 7 else 8

theorem bitLen_byte (y : Nat) (h1 : 1 ≤ y) (h2 : y < 256) : 1 ≤ Lib.bitLen y ∧ Lib.bitLen y ≤ 8 := by
 refine ⟨?_, Lib.bitLen_le y 8 (by omega) (by omega)⟩
 rw [Lib.bitLen_half y (by omega) (by omega)]; omega

theorem sz_close (x k : Nat) (h : 2 ^ (8 * k) ≤ x) (h2 : x / 2 ^ (8 * k) < 256) (hx : x < 18446744073709551616) : (Lib.bitLen x + 7) / 8 = k + 1 := by
 have e := Lib.bitLen_shift (8 * k) x h hx
 have b := bitLen_byte (x / 2 ^ (8 * k)) (Nat.div_pos h (Nat.two_pow_pos _)) h2
 omega

theorem sz_bitLen (x : Int) (h0 : 0 ≤ x) (h1 : x ≤ 18446744073709551615) : (Lib.bitLen x.toNat + 7) / 8 = sz x := by
 unfold sz
 split
 ·have : x.toNat = 0 := by omega
  rw [this]; rfl
 ·split
  ·exact sz_close x.toNat 0 (by omega) (by omega) (by omega)
  ·split
   ·exact sz_close x.toNat 1 (by omega) (by omega) (by omega)
   ·split
    ·exact sz_close x.toNat 2 (by omega) (by omega) (by omega)
    ·split
     ·exact sz_close x.toNat 3 (by omega) (by omega) (by omega)
     ·split
      ·exact sz_close x.toNat 4 (by omega) (by omega) (by omega)
      ·split
       ·exact sz_close x.toNat 5 (by omega) (by omega) (by omega)
       ·split
        ·exact sz_close x.toNat 6 (by omega) (by omega) (by omega)
        ·exact sz_close x.toNat 7 (by omega) (by omega) (by omega)

theorem sz_le (n : Int) : sz n ≤ 8 := by unfold sz; repeat' split
                                         all_goals omega

set_option maxHeartbeats 400000 in
theorem size_any (x : Int) (w : World) (h0 : 0 ≤ x) (h1 : x ≤ 18446744073709551615) :
  Calls Tryz.prog 126 #[.int .u64 x] w fun e w' => e = .returned (.int .i64 (sz x)) ∧ w' = w := by
 have hb := Lib.bitLen_le x.toNat 64 (by omega) (by omega)
 have hs := sz_bitLen x h0 h1
 have HS : Hid ((Lib.bitLen x.toNat + 7) / 8 = sz x) := hs
 clear hs
 generalize hB : Lib.bitLen x.toNat = B at *
 have HB := (show Hid (Lib.bitLen x.toNat = B) from hB)
 clear hB
 go_enter Tryz.func126, Tryz.ntmps126
 go_wp2_with (go_at_call 122; refine (len64_any _ _ h0 h1).mono ?_; rintro e w' ⟨rfl, rfl⟩; rw [HB.out])
 go_ret
 refine ⟨congrArg (fun i => Ending.returned (Value.int IntKind.i64 i)) ?_, rfl⟩
 have := HS.out
 omega
end Go.Proofs.YtjnepkggdkccaaaGreatDoor
/- The writer's digits: a number's bytes, the highest first. -/
namespace Go.Proofs.YtjnepkggdkccaaaGreatDoor
open Go.RowKit

attribute [local go_sem ↓] Go.wp_at_zero Go.wp_at_succ

/-- A writer at block p has laid the bytes l; g: the block of them. -/
def WrAt (w : World) (B p : Nat) (g : Option Nat) (l : List Int) : Prop :=
 ∃ v, w.heap[p]? = some (.cells #[v] 216 (0, 0)) ∧ w.ownsRow B 5 1 v l.length (l.map (Value.int .u8)) ∧ v.ownBlock = g ∧ B ≤ p ∧ (∀ x, x ∈ l → 0 ≤ x ∧ x ≤ 255)

/-- The byte j of k of a number, the highest first. -/
def dgt (t : Bool) (n : Int) (k j : Nat) : Int := trn t (n / 256 ^ (k - 1 - j) % 256)
def dgs (t : Bool) (n : Int) (k q : Nat) : List Int := (List.range q).map (dgt t n k)
theorem dgs_succ (t : Bool) (n : Int) (k q : Nat) : dgs t n k (q + 1) = dgs t n k q ++ [dgt t n k q] := by simp [dgs, List.range_succ]
theorem dgs_length (t : Bool) (n : Int) (k q : Nat) : (dgs t n k q).length = q := by simp [dgs]


theorem wrap_u8 (x : Int) : IntKind.u8.wrap x = x % 256 := by simp [IntKind.wrap, IntKind.bits, IntKind.signed]
theorem wrap_u8_bd (x : Int) : 0 ≤ IntKind.u8.wrap x ∧ IntKind.u8.wrap x ≤ 255 := by rw [wrap_u8]; omega
theorem dgt_bd (t : Bool) (n : Int) (k j : Nat) : 0 ≤ dgt t n k j ∧ dgt t n k j ≤ 255 := trn_bd (by omega)

/-- A writer that has grown from w on: what it has laid; the rest is as it was. -/
def WrGrown (w wr : World) (B p : Nat) (g : Option Nat) (l : List Int) : Prop :=
 ∃ g', WrAt wr B p g' l ∧ Frm (p :: g.toList) w wr ∧ (g' = g ∨ ∃ b, g' = some b ∧ w.heap.size ≤ b)

/-- The block of bytes is not the writer's own. -/
theorem own_ne {w : World} {B p n : Nat} {v u : Value} {xs : List Value} (h : w.ownsRow B 5 1 v n xs) (hp : w.heap[p]? = some (.cells #[u] 216 (0, 0))) : v.ownBlock ≠ some p := by
 intro e
 rcases h.2 with ⟨rfl, _⟩ | ⟨g, cap, cur, rfl, _, hg, _⟩
 ·simp [Value.ownBlock] at e
 ·simp [Value.ownBlock] at e
  subst e
  rw [hg] at hp
  simp at hp

/-- Behind an append to the bytes the writer's own block is as it was. -/
theorem grown_keep {w w0 w1 : World} {ob : Obj} {p : Nat} {row : Option Nat} (h0 : Frm [] w w0) (hg : w0.grownBy w1 row) (hp : w.heap[p]? = some ob) (hne : some p ≠ row) : w1.heap[p]? = some ob := by
 have hlt := lt_of_block hp
 have := h0.size
 rw [hg.block p (by omega) hne, h0.block p hlt (by simp)]
 exact hp

theorem Frm.grown2 {S : List Nat} {a b c : World} {row : Option Nat} (h : Frm S a b) (hg : b.grownBy c row) (hr : ∀ k, row = some k → k ∈ S ∨ a.heap.size ≤ k) : Frm S a c :=
 ⟨hg.os.trans h.os, hg.tape.trans h.tape, hg.output.trans h.output, Nat.le_trans h.size hg.size, fun k hk hn => by
  have := h.size
  rw [hg.block k (by omega) (fun e => by rcases hr k e.symm with h | h; exact hn h; omega)]
  exact h.block k hk hn⟩

/-- One append of a writer, part by part: the block, the row, what is kept. -/
theorem wr_parts {w wr w0 w1 : World} {B p gg cap : Nat} {g g1 : Option Nat} {v : Value} {L ys : List Int}
  (hp : wr.heap[p]? = some (.cells #[v] 216 (0, 0))) (h0 : Frm [] wr w0) 
  (hown1 : w1.ownsRow B 5 1 (.slice (some ⟨gg, 0, none⟩) (L.length + ys.length) cap) (L.length + ys.length) (L.map (Value.int .u8) ++ ys.map (Value.int .u8)))
  (hgrow : w0.grownBy w1 v.ownBlock) (hat : v.ownBlock = some gg ∨ gg = wr.heap.size + 1) (hg : v.ownBlock = g1) (hg1 : g1 = g ∨ ∃ b, g1 = some b ∧ w.heap.size ≤ b)
  (hF : Frm (p :: g.toList) w wr) (hB : B ≤ p) (hx : ∀ x, x ∈ L → 0 ≤ x ∧ x ≤ 255) (hy : ∀ y, y ∈ ys → 0 ≤ y ∧ y ≤ 255) (hne : some p ≠ v.ownBlock) :
  (w1.setCell ⟨p, 0, none⟩ (.slice (some ⟨gg, 0, none⟩) (L.length + ys.length) cap)).heap[p]? = some (.cells #[.slice (some ⟨gg, 0, none⟩) (L.length + ys.length) cap] 216 (0, 0)) ∧
  (w1.setCell ⟨p, 0, none⟩ (.slice (some ⟨gg, 0, none⟩) (L.length + ys.length) cap)).ownsRow B 5 1 (.slice (some ⟨gg, 0, none⟩) (L.length + ys.length) cap) (L ++ ys).length ((L ++ ys).map (Value.int .u8)) ∧
  (∀ x, x ∈ L ++ ys → 0 ≤ x ∧ x ≤ 255) ∧ gg ≠ p ∧
  Frm (p :: g.toList) w (w1.setCell ⟨p, 0, none⟩ (.slice (some ⟨gg, 0, none⟩) (L.length + ys.length) cap)) ∧ (some gg = g ∨ ∃ b, some gg = some b ∧ w.heap.size ≤ b) ∧ B ≤ p := by
 have hplt := lt_of_block hp
 have hgp : gg ≠ p := by
  rcases hat with h | h
  ·intro e; subst e; exact hne h.symm
  ·omega
 refine ⟨one_setCell (grown_keep h0 hgrow hp hne), ?_, ?_, hgp, ?_, ?_, hB⟩
 ·have := ownsRow_setCell_other hown1 (a := ⟨p, 0, none⟩) (by simp [Value.ownBlock, hgp]) (.slice (some ⟨gg, 0, none⟩) (L.length + ys.length) cap)
  simpa using this
 ·intro x hxx
  rcases List.mem_append.1 hxx with h | h
  ·exact hx x h
  ·exact hy x h
 ·refine Frm.setCell ?_ _ _ (by simp)
  refine ((hF.trans (h0.mono (fun _ h => by cases h))).grown2 hgrow fun k hk => ?_)
  rw [hg] at hk
  rcases hg1 with h | ⟨b, h, hb⟩
  ·left; rw [← h, hk]; simp
  ·right; rw [h] at hk; cases hk; exact hb
 ·rcases hat with h | h
  ·rcases hg1 with h1 | ⟨b, h1, hb⟩
   ·left; rw [← h1, ← hg, h]
   ·right; refine ⟨gg, rfl, ?_⟩; rw [h1, h] at hg; cases hg; exact hb
  ·right; have := hF.size; exact ⟨gg, rfl, by omega⟩

/-- One append of a writer: bytes behind what was laid. -/
theorem wr_step {w wr w0 w1 : World} {B p gg cap : Nat} {g g1 : Option Nat} {v : Value} {L ys : List Int}
  (hp : wr.heap[p]? = some (.cells #[v] 216 (0, 0))) (h0 : Frm [] wr w0) 
  (hown1 : w1.ownsRow B 5 1 (.slice (some ⟨gg, 0, none⟩) (L.length + ys.length) cap) (L.length + ys.length) (L.map (Value.int .u8) ++ ys.map (Value.int .u8)))
  (hgrow : w0.grownBy w1 v.ownBlock) (hat : v.ownBlock = some gg ∨ gg = wr.heap.size + 1) (hg : v.ownBlock = g1) (hg1 : g1 = g ∨ ∃ b, g1 = some b ∧ w.heap.size ≤ b)
  (hF : Frm (p :: g.toList) w wr) (hB : B ≤ p) (hx : ∀ x, x ∈ L → 0 ≤ x ∧ x ≤ 255) (hy : ∀ y, y ∈ ys → 0 ≤ y ∧ y ≤ 255) (hne : some p ≠ v.ownBlock) :
  WrGrown w (w1.setCell ⟨p, 0, none⟩ (.slice (some ⟨gg, 0, none⟩) (L.length + ys.length) cap)) B p g (L ++ ys) := by
 obtain ⟨h1, h2, h3, _, h5, h6, h7⟩ := wr_parts hp h0 hown1 hgrow hat hg hg1 hF hB hx hy hne
 exact ⟨some gg, ⟨_, h1, h2, rfl, h7, h3⟩, h5, h6⟩

theorem shr_byte (n : Int) (i : Nat) (hi : i < 8) : Op.shift .shr .u64 n .i64 (IntKind.i64.wrap (8 * (i : Int))) = pure (.int .u64 (n / 256 ^ i)) := by
 have h : i = 0 ∨ i = 1 ∨ i = 2 ∨ i = 3 ∨ i = 4 ∨ i = 5 ∨ i = 6 ∨ i = 7 := by omega
 have e : IntKind.i64.wrap (8 * (i : Int)) = 8 * (i : Int) := by
  rcases h with h | h | h | h | h | h | h | h <;> subst h <;> decide
 rw [e, shift_shr .u64 .i64 n _ (by omega) (by simp [IntKind.bits]; omega)]
 rcases h with h | h | h | h | h | h | h | h <;> subst h <;> rfl

set_option maxRecDepth 100000 in
set_option maxHeartbeats 1600000 in
theorem digits_any (p B k : Nat) (g : Option Nat) (l : List Int) (n tn : Int) (t : Bool) (w : World) (hk : sz n = k) (htn : tn = if t then 255 else 0)
  (hw : WrAt w B p g l) (hl : l.length + 8 ≤ 140737488355328) (hn : 0 ≤ n ∧ n ≤ 18446744073709551615) :
  Calls Tryz.prog 127 #[.pointer (some ⟨p, 0, none⟩), .int .u64 n, .int .u8 tn] w fun e w' => e = .returned (.tuple #[]) ∧ WrGrown w w' B p g (l ++ dgs t n k k) := by
 obtain ⟨i0, hi0, hz0, hz1, hz2⟩ := info_parts Tryz.infoB
 have H : Hid (Tryz.prog.info? 5 = some i0 ∧ i0.zero = some (.int .u8 0) ∧ i0.size = 1 ∧ i0.bytes = 1) := ⟨hi0, hz0, hz1, hz2⟩
 clear hi0 hz0 hz1 hz2
 have hk8 : k ≤ 8 := by rw [← hk]; exact sz_le n
 have HT : Hid (tn = if t then 255 else 0) := htn
 clear htn
 have HW : Hid (WrAt w B p g l) := hw
 clear hw
 go_enter Tryz.func127, Tryz.ntmps127
 go_wp2_with (go_at_call 126; refine (size_any _ _ hn.1 hn.2).mono ?_; rintro e wx ⟨rfl, rfl⟩; rw [hk])
 clear hk
 go_loopw [6] (fun iv wr => ∃ q : Nat, q ≤ k ∧ iv = .int .i64 ((k : Int) - 1 - q) ∧ WrGrown wx wr B p g (l ++ dgs t n k q)) (fun iv _ => (intOf iv + 1).toNat)
 case atStart => exact ⟨0, Nat.zero_le _, by go_num, g, by simpa [dgs] using HW.out, Frm.refl _ _, .inl rfl⟩
 case round =>
  obtain ⟨q, hq, rfl, g1, hW1, hF1, hg1⟩ := hrel
  by_cases hlt : q < k
  ·obtain ⟨i, hi⟩ : ∃ i : Nat, k = i + 1 + q := ⟨k - 1 - q, by omega⟩
   obtain ⟨v, hp, hown, hg, hB, hx⟩ := hW1
   have hc := cell_of_one hp
   have hf := free_of_one hp
   have hplt := lt_of_block hp
   rw [show ((k : Int) - 1 - q) = (i : Int) from by omega]
   have hi0 : (0 : Int) ≤ (i : Int) := by omega
   have hi8 : (i : Int) < 8 := by omega
   have HO : Hid (wr.ownsRow B 5 1 v (l ++ dgs t n k q).length ((l ++ dgs t n k q).map (Value.int .u8))) := hown
   have HP : Hid (wr.heap[p]? = some (.cells #[v] 216 (0, 0))) := hp
   have HF : Hid (Frm (p :: g.toList) wx wr) := hF1
   have hne : some p ≠ v.ownBlock := by
    intro e
    exact own_ne hown hp e.symm
   clear hown hp hF1
   have HI : Hid (k = i + 1 + q) := hi
   have hsh : Op.shift .shr .u64 n .i64 (IntKind.i64.wrap (8 * (i : Int))) = pure (.int .u64 (n / 256 ^ i)) := shr_byte n i (by omega)
   clear hi
   generalize hX : n / 256 ^ i = X at *
   have HX : Hid (n / 256 ^ i = X) := hX
   clear hX
   go_wp2_with fail
   go_region_law
    ((refine step_append_lies _ (by rfl) _ _ _ (by rfl) B 5 i0 _ 1 1 Tryz.underlying33 H.out.1 H.out.2.1 H.out.2.2.1 H.out.2.2.2 rfl (by omega) v (l ++ dgs t n k q).length ((l ++ dgs t n k q).map (Value.int .u8)) (by rfl) ((HO.out.alloc _).drew) ⟨wr.heap.size, 0, none⟩ 1 1 [_] (by rfl) (by rfl) (World.news_of_block (cs := #[_]) (t := 5) (fr := (0, 0)) (heap_alloc_new wr _)) (by simp [Value.oneCell']) (by omega) (by simp [dgs_length, maxLen]; omega) (by simp [dgs_length]; omega) (by simp; omega) (wr.heap.size + 1) (by simp) ?_; intro gg cap w1 hown1 hgrow hat hlt1; have hp1 := grown_keep (((Frm.refl [] wr).alloc _).drew) hgrow HP.out hne; have hc1 := cell_of_one hp1; have hf1 := free_of_one hp1))
   all_goals
    have R : WrGrown wx (w1.setCell ⟨p, 0, none⟩ (.slice (some ⟨gg, 0, none⟩) (l.length + (dgs t n k q).length + 1) cap)) B p g (l ++ dgs t n k (q + 1)) := by
     have hd : bits .xor .u8 (IntKind.u8.wrap X) tn = dgt t n k q := by
      rw [xor_trn t tn _ HT.out (wrap_u8_bd X), wrap_u8 X, dgt, show k - 1 - q = i from by have := HI.out; omega, HX.out]
     rw [hd] at hown1
     rw [dgs_succ, ← List.append_assoc]
     have := wr_step (ys := [dgt t n k q]) HP.out (((Frm.refl [] wr).alloc _).drew) (by simpa using hown1) hgrow hat hg hg1 HF.out hB hx (by intro y hy; rw [List.mem_singleton.1 hy]; exact dgt_bd t n k q) hne
     simpa using this
    clear hown1 hgrow hp1 hc1 hf1
    go_wp2
    go_roundw
    case rel => exact ⟨q + 1, by omega, by have := HI.out; go_num, R⟩
    case measure => simp [intOf]
  ·have : q = k := by omega
   subst this
   go_wp2
   go_end0
   exact ⟨rfl, g1, hW1, hF1, hg1⟩
end Go.Proofs.YtjnepkggdkccaaaGreatDoor
/- The writer's Uint and Int. -/
namespace Go.Proofs.YtjnepkggdkccaaaGreatDoor
open Go.RowKit

attribute [local go_sem ↓] Go.wp_at_zero Go.wp_at_succ

/-- A number's bytes as it is laid. -/
def uB (n : Int) : List Int := (sz n : Int) :: dgs false n (sz n) (sz n)

theorem WrGrown.trans {w w1 w2 : World} {B p : Nat} {g : Option Nat} {l l' : List Int} (h : WrGrown w w1 B p g l) (h2 : ∀ g', WrAt w1 B p g' l → WrGrown w1 w2 B p g' l') : WrGrown w w2 B p g l' := by
 obtain ⟨g1, ha, hf, hg⟩ := h
 obtain ⟨g2, ha2, hf2, hg2⟩ := h2 g1 ha
 refine ⟨g2, ha2, ?_, ?_⟩
 ·have hsz := hf.size
  refine ⟨hf2.os.trans hf.os, hf2.tape.trans hf.tape, hf2.output.trans hf.output, Nat.le_trans hf.size hf2.size, fun k hk hn => ?_⟩
  rw [hf2.block k (by omega) ?_]
  ·exact hf.block k hk hn
  ·intro hm
   rcases hg with rfl | ⟨b, rfl, hb⟩
   ·exact hn hm
   ·simp at hm hn
    rcases hm with h | h
    ·exact hn.1 h
    ·omega
 ·have hsz := hf.size
  rcases hg2 with rfl | ⟨b, rfl, hb⟩
  ·exact hg
  ·exact .inr ⟨b, rfl, by omega⟩

theorem WrAt.same {w : World} {B p : Nat} {g g' : Option Nat} {l l' : List Int} (h : WrAt w B p g l) (h' : WrAt w B p g' l') : g = g' := by
 obtain ⟨v, hp, _, hg, _⟩ := h
 obtain ⟨v', hp', _, hg', _⟩ := h'
 rw [hp] at hp'
 have : v = v' := by simpa using hp'
 rw [← hg, ← hg', this]

set_option maxRecDepth 100000 in
set_option maxHeartbeats 1600000 in
theorem wrUint_any (p B : Nat) (g : Option Nat) (l : List Int) (n : Int) (w : World) (hw : WrAt w B p g l) (hl : l.length + 16 ≤ 140737488355328) (hn : 0 ≤ n ∧ n ≤ 18446744073709551615) :
  Calls Tryz.prog 108 #[.pointer (some ⟨p, 0, none⟩), .int .u64 n] w fun e w' => e = .returned (.pointer (some ⟨p, 0, none⟩)) ∧ WrGrown w w' B p g (l ++ uB n) := by
 obtain ⟨i0, hi0, hz0, hz1, hz2⟩ := info_parts Tryz.infoB
 have H : Hid (Tryz.prog.info? 5 = some i0 ∧ i0.zero = some (.int .u8 0) ∧ i0.size = 1 ∧ i0.bytes = 1) := ⟨hi0, hz0, hz1, hz2⟩
 clear hi0 hz0 hz1 hz2
 obtain ⟨v, hp, hown, hg, hB, hx⟩ := hw
 have hc := cell_of_one hp
 have hf := free_of_one hp
 have hplt := lt_of_block hp
 have hne : some p ≠ v.ownBlock := fun e => own_ne hown hp e.symm
 have HO : Hid (w.ownsRow B 5 1 v l.length (l.map (Value.int .u8))) := hown
 have HP : Hid (w.heap[p]? = some (.cells #[v] 216 (0, 0))) := hp
 clear hown hp
 obtain ⟨k, hk⟩ : ∃ k, sz n = k := ⟨_, rfl⟩
 have hk8 : k ≤ 8 := by rw [← hk]; exact sz_le n
 have HK : Hid (sz n = k) := hk
 clear hk
 go_enter Tryz.func108, Tryz.ntmps108
 go_wp2_with fail
 go_region_law (first | (refine step_append_lies _ (by rfl) _ _ _ (by rfl) B 5 i0 _ 1 1 Tryz.underlying33 H.out.1 H.out.2.1 H.out.2.2.1 H.out.2.2.2 rfl (by omega) v l.length (l.map (Value.int .u8)) (by rfl) ((HO.out.alloc _).drew) ⟨w.heap.size, 0, none⟩ 1 1 [_] (by rfl) (by rfl) (World.news_of_block (cs := #[_]) (t := 5) (fr := (0, 0)) (heap_alloc_new w _)) (by simp [Value.oneCell']) (by omega) (by simp [maxLen]; omega) (by simp; omega) (by simp; omega) (w.heap.size + 1) (by simp) ?_; intro gg cap w1 hown1 hgrow hat hlt1; have hp1 := grown_keep (((Frm.refl [] w).alloc _).drew) hgrow HP.out hne; have hc1 := cell_of_one hp1; have hf1 := free_of_one hp1) | (go_simp; go_at_call 126; refine (size_any _ _ hn.1 hn.2).mono ?_; rintro e wx ⟨rfl, rfl⟩; rw [HK.out]))
 all_goals
  have hk1 : IntKind.u8.wrap ((k : Int)) = (k : Int) := by rw [wrap_u8]; omega
  rw [hk1] at hown1
  have R := wr_step (ys := [(k : Int)]) HP.out (((Frm.refl [] w).alloc _).drew) (by simpa using hown1) hgrow hat hg (.inl rfl) (Frm.refl _ w) hB hx (by intro y hy; rw [List.mem_singleton.1 hy]; omega) hne
  have R1 : WrGrown w (w1.setCell ⟨p, 0, none⟩ (.slice (some ⟨gg, 0, none⟩) (l.length + 1) cap)) B p g (l ++ [(k : Int)]) := by simpa using R
  have HR : Hid (WrGrown w (w1.setCell ⟨p, 0, none⟩ (.slice (some ⟨gg, 0, none⟩) (l.length + 1) cap)) B p g (l ++ [(k : Int)])) := R1
  clear R R1 hown1 hgrow hp1 hc1 hf1 hk1
  obtain ⟨g1, ha, hF1, hg1⟩ := HR.out
  have HA : Hid (WrAt (w1.setCell ⟨p, 0, none⟩ (.slice (some ⟨gg, 0, none⟩) (l.length + 1) cap)) B p g1 (l ++ [(k : Int)])) := ha
  clear ha hF1 hg1
  go_wp2_with (go_at_call 127; refine (digits_any p B k g1 (l ++ [(k : Int)]) n 0 false _ HK.out rfl HA.out (by simp; omega) hn).mono ?_; rintro e w2 ⟨rfl, hG⟩)
  go_ret
  refine ⟨rfl, ?_⟩
  have hG2 : ∀ g', WrAt (w1.setCell ⟨p, 0, none⟩ (.slice (some ⟨gg, 0, none⟩) (l.length + 1) cap)) B p g' (l ++ [(k : Int)]) → WrGrown (w1.setCell ⟨p, 0, none⟩ (.slice (some ⟨gg, 0, none⟩) (l.length + 1) cap)) w2 B p g' (l ++ [(k : Int)] ++ dgs false n k k) := by
   intro g' h'
   rw [WrAt.same h' HA.out]; exact hG
  have := HR.out.trans hG2
  rw [List.append_assoc] at this
  have hkk := HK.out
  subst hkk
  exact this

end Go.Proofs.YtjnepkggdkccaaaGreatDoor
/- The writer's New and Done. -/
namespace Go.Proofs.YtjnepkggdkccaaaGreatDoor
open Go.RowKit

theorem WrAt.parts {w : World} {B p : Nat} {g : Option Nat} {l : List Int} (h : WrAt w B p g l) : ∃ v, w.heap[p]? = some (.cells #[v] 216 (0, 0)) ∧ w.ownsRow B 5 1 v l.length (l.map (Value.int .u8)) ∧ v.ownBlock = g ∧ B ≤ p ∧ (∀ x, x ∈ l → 0 ≤ x ∧ x ≤ 255) ∧ some p ≠ v.ownBlock ∧ p < w.heap.size := by
 obtain ⟨v, hp, hown, hg, hB, hx⟩ := h
 exact ⟨v, hp, hown, hg, hB, hx, fun e => own_ne hown hp e.symm, lt_of_block hp⟩

theorem alloc_set_new (w : World) (a : Addr) (u : Value) (o : Obj) : ((w.setCell a u).alloc o).heap[w.heap.size]? = some o := by
 have h : (w.setCell a u).heap.size = w.heap.size := by simp [World.setCell]
 have := heap_alloc_new (w.setCell a u) o
 rwa [h] at this

/-- Behind the first of two appends. -/
theorem wr_two {w wr w0 w1 : World} {B p gg cap : Nat} {g g1 : Option Nat} {v : Value} {L : List Int} {y : Int}
  (hp : wr.heap[p]? = some (.cells #[v] 216 (0, 0))) (h0 : Frm [] wr w0)
  (hown1 : w1.ownsRow B 5 1 (.slice (some ⟨gg, 0, none⟩) (L.length + 1) cap) (L.length + 1) (L.map (Value.int .u8) ++ [Value.int .u8 y]))
  (hgrow : w0.grownBy w1 v.ownBlock) (hat : v.ownBlock = some gg ∨ gg = wr.heap.size + 1) (hg : v.ownBlock = g1) (hg1 : g1 = g ∨ ∃ b, g1 = some b ∧ w.heap.size ≤ b)
  (hF : Frm (p :: g.toList) w wr) (hB : B ≤ p) (hx : ∀ x, x ∈ L → 0 ≤ x ∧ x ≤ 255) (hy : 0 ≤ y ∧ y ≤ 255) (hne : some p ≠ v.ownBlock) :
  Hid ((w1.setCell ⟨p, 0, none⟩ (.slice (some ⟨gg, 0, none⟩) (L.length + 1) cap)).heap[p]? = some (.cells #[.slice (some ⟨gg, 0, none⟩) (L.length + 1) cap] 216 (0, 0)) ∧
  (w1.setCell ⟨p, 0, none⟩ (.slice (some ⟨gg, 0, none⟩) (L.length + 1) cap)).ownsRow B 5 1 (.slice (some ⟨gg, 0, none⟩) (L.length + 1) cap) (L.length + 1) ((L ++ [y]).map (Value.int .u8)) ∧ gg ≠ p ∧ p < w1.heap.size ∧
  (∀ x, x ∈ L ++ [y] → 0 ≤ x ∧ x ≤ 255) ∧ Frm (p :: g.toList) w (w1.setCell ⟨p, 0, none⟩ (.slice (some ⟨gg, 0, none⟩) (L.length + 1) cap)) ∧ (some gg = g ∨ ∃ b, some gg = some b ∧ w.heap.size ≤ b)) := by
 obtain ⟨k1, k2, k3, k4, k5, k6, _⟩ := wr_parts (ys := [y]) hp h0 (by simpa using hown1) hgrow hat hg hg1 hF hB hx (by intro x hx; rw [List.mem_singleton.1 hx]; exact hy) hne
 have hl := lt_of_block k1
 simp only [List.length_singleton] at k1 k2 k5
 exact ⟨k1, by simpa using k2, k4, by simpa [World.setCell] using hl, k3, k5, k6⟩

/-- Bytes do not lie in a writer's own block. -/
def fn (l : List Int) : Nat → Int := fun j => l.getD j 0
theorem fn_get (l : List Int) (j : Nat) (h : j < l.length) : fn l j = l[j] := by simp [fn, h]
theorem map_bl (l : List Int) : l.map (Value.int .u8) = bl (fn l) l.length := by
 apply List.ext_getElem
 ·simp [bl_length]
 ·intro j h1 h2
  simp at h1
  simp [bl, fn, h1]

set_option maxHeartbeats 400000 in
theorem new_any (w : World) :
  Calls Tryz.prog 93 #[] w fun e w' => e = .returned (.pointer (some ⟨w.heap.size, 0, none⟩)) ∧ w' = w.alloc (.cells #[.slice none 0 0] 216) := by
 go_enter Tryz.func93, Tryz.ntmps93
 go_wp2
 go_ret
 exact ⟨rfl, rfl⟩

theorem new_wr (w : World) : WrAt (w.alloc (.cells #[.slice none 0 0] 216)) w.heap.size w.heap.size none [] :=
 ⟨.slice none 0 0, heap_alloc_new w _, World.ownsRow_nil _ _ _ _, rfl, Nat.le_refl _, fun x h => by cases h⟩

set_option maxHeartbeats 400000 in
theorem wrDone_any (p B : Nat) (g : Option Nat) (l : List Int) (w : World) (hw : WrAt w B p g l) (hl : l.length ≤ 140737488351232) :
  Calls Tryz.prog 97 #[.pointer (some ⟨p, 0, none⟩)] w fun e w' => ∃ ad cap, e = .returned (.slice ad l.length cap) ∧ l.length ≤ cap ∧ SlAt w' ad l.length (fn l) ∧ (ad = none → l.length = 0 ∧ cap = 0) ∧ (∀ a, ad = some a → w.heap.size ≤ a.block) ∧ Below w.heap.size w w' := by
 obtain ⟨v, hp, hown, hg, hB, hx⟩ := hw
 rw [map_bl] at hown
 obtain ⟨ad, cap, rfl, h1, h2, h3, h4⟩ := own_SlAt (fun j hj => by rw [fn_get l j hj]; exact hx _ (List.getElem_mem hj)) hown
 have hc := cell_of_one hp
 clear hown hp
 go_enter Tryz.func97, Tryz.ntmps97
 go_wp2_with fail
 refine (clone_any ad l.length cap (fn l) w h2 h3 hl).mono ?_
 rintro e w1 ⟨ad', cap', rfl, k1, k2, k3, k4, hb⟩
 go_wp2
 go_ret
 exact ⟨ad', cap', rfl, k1, k2, k3, k4, hb⟩
end Go.Proofs.YtjnepkggdkccaaaGreatDoor
/- The writer's Bytes, behind EWrDone. -/
namespace Go.Proofs.YtjnepkggdkccaaaGreatDoor
open Go.RowKit

/-- A byte as it is laid within bytes. -/
def esc (x : Int) : List Int := if x = 0 then [0, 255] else [x]
def escF (z : Nat → Int) : Nat → List Int
 | 0 => []
 | k + 1 => escF z k ++ esc (z k)
theorem esc_len (x : Int) : (esc x).length ≤ 2 ∧ 1 ≤ (esc x).length := by unfold esc; split <;> simp
theorem escF_le (z : Nat → Int) (k : Nat) : (escF z k).length ≤ 2 * k := by
 induction k with
 | zero => simp [escF]
 | succ k ih => have := esc_len (z k); simp only [escF, List.length_append]; omega

/-- Bytes do not lie in a writer's own block. -/
theorem SlAt.ne_wr {w : World} {ad : Option Addr} {n : Nat} {z : Nat → Int} (h : SlAt w ad n z) {B p : Nat} {g : Option Nat} {l : List Int} (hw : WrAt w B p g l) {b off : Nat} (hn : 0 < n) (e : ad = some ⟨b, off, none⟩) : b ≠ p := by
 obtain ⟨v, hp, hown, _⟩ := hw
 rcases hown.2 with ⟨rfl, _⟩ | ⟨g, cap, cur, rfl, _⟩
 ·exact h.ne_one hp hn e
 ·exact h.ne_one hp hn e

set_option maxRecDepth 100000 in
set_option maxHeartbeats 1600000 in
theorem wrBytes_any (p B : Nat) (g : Option Nat) (l : List Int) (ad : Option Addr) (n cap : Nat) (z : Nat → Int) (w : World) (hw : WrAt w B p g l) (hl : l.length + 2 * n + 2 ≤ 140737488355328)
  (hs : SlAt w ad n z) (hsg : ∀ b off, 0 < n → ad = some ⟨b, off, none⟩ → some b ≠ g) :
  Calls Tryz.prog 96 #[.pointer (some ⟨p, 0, none⟩), .slice ad n cap] w fun e w' => e = .returned (.pointer (some ⟨p, 0, none⟩)) ∧ WrGrown w w' B p g (l ++ (escF z n ++ [0, 0])) := by
 obtain ⟨i0, hi0, hz0, hz1, hz2⟩ := info_parts Tryz.infoB
 have H : Hid (Tryz.prog.info? 5 = some i0 ∧ i0.zero = some (.int .u8 0) ∧ i0.size = 1 ∧ i0.bytes = 1) := ⟨hi0, hz0, hz1, hz2⟩
 clear hi0 hz0 hz1 hz2
 have HS : Hid (SlAt w ad n z) := hs
 have HG : Hid (∀ b off, 0 < n → ad = some ⟨b, off, none⟩ → some b ≠ g) := hsg
 have HW : Hid (WrAt w B p g l) := hw
 clear hs hsg hw
 go_enter Tryz.func96, Tryz.ntmps96
 go_wp2
 go_loopw [11] (fun iv wr => ∃ q : Nat, q ≤ n ∧ iv = .int .i64 q ∧ WrGrown w wr B p g (l ++ escF z q)) (fun iv _ => n - (intOf iv).toNat)
 case atStart => exact ⟨0, Nat.zero_le _, rfl, g, by simpa [escF] using HW.out, Frm.refl _ _, .inl rfl⟩
 case round =>
  obtain ⟨q, hq, rfl, hR⟩ := hrel
  have hle := escF_le z q
  generalize hL : l ++ escF z q = L at hR
  have hLl : L.length + 2 * (n - q) + 2 ≤ 140737488355328 := by rw [← hL, List.length_append]; omega
  have HL : Hid (l ++ escF z q = L) := hL
  clear hL hle
  obtain ⟨g1, hA, hF, hg1⟩ := hR
  obtain ⟨v, hp, hown, hg, hB, hx, hne1, hplt⟩ := hA.parts
  have hc := cell_of_one hp
  have hf := free_of_one hp
  have HO : Hid (wr.ownsRow B 5 1 v L.length (L.map (Value.int .u8))) := hown
  have HP1 : Hid (wr.heap[p]? = some (.cells #[v] 216 (0, 0))) := hp
  have HF : Hid (Frm (p :: g.toList) w wr) := hF
  clear hown hp hA hF
  by_cases hlt : q < n
  ·obtain ⟨b, off, rfl, hcz⟩ := HS.out.2 (by omega)
   have hzq := HS.out.1 q hlt
   have hcq : wr.cell? ⟨b, off + q, none⟩ = some (.int .u8 (z q)) := by
    have hblt : b < w.heap.size := HS.out.lt (by omega) rfl
    have hb : b ∉ p :: g.toList := by
     intro hm
     simp at hm
     rcases hm with h | h
     ·exact HS.out.ne_wr HW.out (by omega) rfl h
     ·exact HG.out b off (by omega) rfl h.symm
    rw [World.cell?_of_block (a := ⟨b, off + q, none⟩) (HF.out.block b hblt hb)]
    exact hcz q hlt
   clear hcz
   by_cases h0 : z q = 0
   ·have h0' : (z q == 0) = true := by simp [h0]
    have H0 : Hid (z q = 0) := h0
    clear h0
    go_wp2_with (first | (at_builtin; refine wpList_append_lies _ rfl (.tmp 19) (.tmp 21) 33 rfl B 5 i0 _ 1 1 Tryz.underlying33 H.out.1 H.out.2.1 H.out.2.2.1 H.out.2.2.2 rfl (by omega) v L.length (L.map (Value.int .u8)) rfl (HO.out.alloc _) ⟨wr.heap.size, 0, none⟩ 1 1 [.int .u8 (z q)] rfl rfl (World.news_of_block (cs := #[.int .u8 (z q)]) (t := 5) (fr := (0, 0)) (heap_alloc_new wr _)) (by simp [Value.oneCell']) (by omega) (by simp [maxLen]; omega) (by simp; omega) (by simp; omega) (wr.heap.size + 1) (by simp) ?_; intro gg1 cap1 w1 hown1 hgrow1 hat1 hlt1; have hp1 := grown_keep ((Frm.refl [] wr).alloc _) hgrow1 HP1.out hne1; have hc1 := cell_of_one hp1; have hf1 := free_of_one hp1; have HX := wr_two HP1.out ((Frm.refl [] wr).alloc _) hown1 hgrow1 hat1 hg hg1 HF.out hB hx hzq hne1; have HP2 := HX.out.1; have hne2 : some p ≠ (Value.slice (some ⟨gg1, 0, none⟩) (L.length + 1) cap1).ownBlock := fun e => HX.out.2.2.1 (Option.some.inj e).symm; have hB2 : p < w1.heap.size := HX.out.2.2.2.1; clear hown1 hgrow1 hp1) | (at_builtin; refine wpList_append_lies _ rfl (.tmp 31) (.tmp 32) 33 rfl B 5 i0 _ 1 1 Tryz.underlying33 H.out.1 H.out.2.1 H.out.2.2.1 H.out.2.2.2 rfl (by omega) (.slice (some ⟨gg1, 0, none⟩) (L.length + 1) cap1) (L.length + 1) ((L ++ [z q]).map (Value.int .u8)) rfl (HX.out.2.1.alloc _) ⟨w1.heap.size, 0, none⟩ 1 1 [.int .u8 255] rfl rfl (World.news_of_block (cs := #[.int .u8 255]) (t := 5) (fr := (0, 0)) (alloc_set_new w1 _ _ _)) (by simp [Value.oneCell']) (by omega) (by simp [maxLen]; omega) (by simp; omega) (by simp; omega) (w1.heap.size + 1) (by simp) ?_; intro gg2 cap2 w2 hown2 hgrow2 hat2 hlt2; have hp2 := grown_keep ((Frm.refl [] (w1.setCell ⟨p, 0, none⟩ (.slice (some ⟨gg1, 0, none⟩) (L.length + 1) cap1))).alloc _) hgrow2 HP2 hne2; have hc2 := cell_of_one hp2; have hf2 := free_of_one hp2))
    have R := wr_step (L := L ++ [z q]) (ys := [255]) HP2 ((Frm.refl [] _).alloc _) (by simpa using hown2) hgrow2 (by simpa [World.setCell] using hat2) rfl HX.out.2.2.2.2.2.2 HX.out.2.2.2.2.2.1 hB HX.out.2.2.2.2.1 (by intro y hy; simp at hy; omega) hne2
    refine ⟨⟨q + 1, by omega, by go_num, ?_⟩, by simp [intOf]; omega⟩
    have e : l ++ escF z (q + 1) = L ++ [z q] ++ [255] := by rw [escF, esc, if_pos H0.out, ← List.append_assoc, HL.out, H0.out]; simp
    rw [e]
    simpa using R
   ·have h0' : (z q == 0) = false := by simp [h0]
    have H0 : Hid (¬ z q = 0) := h0
    clear h0
    go_wp2_with (at_builtin; refine wpList_append_lies _ rfl (.tmp 19) (.tmp 21) 33 rfl B 5 i0 _ 1 1 Tryz.underlying33 H.out.1 H.out.2.1 H.out.2.2.1 H.out.2.2.2 rfl (by omega) v L.length (L.map (Value.int .u8)) rfl (HO.out.alloc _) ⟨wr.heap.size, 0, none⟩ 1 1 [.int .u8 (z q)] rfl rfl (World.news_of_block (cs := #[.int .u8 (z q)]) (t := 5) (fr := (0, 0)) (heap_alloc_new wr _)) (by simp [Value.oneCell']) (by omega) (by simp [maxLen]; omega) (by simp; omega) (by simp; omega) (wr.heap.size + 1) (by simp) ?_; intro gg1 cap1 w1 hown1 hgrow1 hat1 hlt1; have hp1 := grown_keep ((Frm.refl [] wr).alloc _) hgrow1 HP1.out hne1; have hc1 := cell_of_one hp1; have hf1 := free_of_one hp1)
    have R := wr_step (ys := [z q]) HP1.out ((Frm.refl [] wr).alloc _) (by simpa using hown1) hgrow1 hat1 hg hg1 HF.out hB hx (by intro y hy; rw [List.mem_singleton.1 hy]; exact hzq) hne1
    refine ⟨⟨q + 1, by omega, by go_num, ?_⟩, by simp [intOf]; omega⟩
    rw [escF, esc, if_neg H0.out, ← List.append_assoc, HL.out]
    simpa using R
  ·have : q = n := by omega
   subst this
   go_wp2_with (at_builtin; refine wpList_append_lies _ rfl (.tmp 41) (.tmp 42) 33 rfl B 5 i0 _ 1 1 Tryz.underlying33 H.out.1 H.out.2.1 H.out.2.2.1 H.out.2.2.2 rfl (by omega) v L.length (L.map (Value.int .u8)) rfl (HO.out.alloc _) ⟨wr.heap.size, 0, none⟩ 2 2 [.int .u8 0, .int .u8 0] rfl rfl (World.news_of_block (cs := #[.int .u8 0, .int .u8 0]) (t := 5) (fr := (0, 0)) (heap_alloc_new wr _)) (by simp [Value.oneCell']) (by omega) (by simp [maxLen]; omega) (by simp; omega) (by simp; omega) (wr.heap.size + 1) (by simp) ?_; intro gg1 cap1 w1 hown1 hgrow1 hat1 hlt1; have hp1 := grown_keep ((Frm.refl [] wr).alloc _) hgrow1 HP1.out hne1; have hc1 := cell_of_one hp1; have hf1 := free_of_one hp1)
   have R := wr_step (ys := [0, 0]) HP1.out ((Frm.refl [] wr).alloc _) (by simpa using hown1) hgrow1 hat1 hg hg1 HF.out hB hx (by intro y hy; simp at hy; omega) hne1
   go_ret
   refine ⟨rfl, ?_⟩
   rw [← List.append_assoc, HL.out]
   simpa using R

end Go.Proofs.YtjnepkggdkccaaaGreatDoor
/- The writer's Hash; a nil writer's calls. -/
namespace Go.Proofs.YtjnepkggdkccaaaGreatDoor
open Go.RowKit

attribute [local go_sem ↓] Go.wp_at_zero Go.wp_at_succ

/-- A sum's bytes. -/
def hB (z : Nat → Int) : List Int := (List.range 32).map z
theorem hB_length (z : Nat → Int) : (hB z).length = 32 := by simp [hB]
theorem hB_bl (z : Nat → Int) : (hB z).map (Value.int .u8) = bl z 32 := by simp [hB, bl]

set_option maxRecDepth 100000 in
set_option maxHeartbeats 1600000 in
theorem wrHash_any (p B : Nat) (g : Option Nat) (l : List Int) (z : Nat → Int) (w : World) (hw : WrAt w B p g l) (hl : l.length + 32 ≤ 140737488355328) (hz : ∀ j, j < 32 → 0 ≤ z j ∧ z j ≤ 255) :
  Calls Tryz.prog 95 #[.pointer (some ⟨p, 0, none⟩), .agg (hv z)] w fun e w' => e = .returned (.pointer (some ⟨p, 0, none⟩)) ∧ WrGrown w w' B p g (l ++ hB z) := by
 obtain ⟨i0, hi0, hz0, hz1, hz2⟩ := info_parts Tryz.infoB
 have H : Hid (Tryz.prog.info? 5 = some i0 ∧ i0.zero = some (.int .u8 0) ∧ i0.size = 1 ∧ i0.bytes = 1) := ⟨hi0, hz0, hz1, hz2⟩
 clear hi0 hz0 hz1 hz2
 have HZ : Hid (∀ j, j < 32 → 0 ≤ z j ∧ z j ≤ 255) := hz
 clear hz
 obtain ⟨v, hp, hown, hg, hB0, hx⟩ := hw
 have hc := cell_of_one hp
 have hf := free_of_one hp
 have hplt := lt_of_block hp
 have hne : some p ≠ v.ownBlock := fun e => own_ne hown hp e.symm
 have HO : Hid (w.ownsRow B 5 1 v l.length (l.map (Value.int .u8))) := hown
 have HP : Hid (w.heap[p]? = some (.cells #[v] 216 (0, 0))) := hp
 clear hown hp
 have HN : Hid (((w.alloc (.cells (hv z) 23)).drew).heap[w.heap.size]? = some (.cells (hv z) 23 (0, 0))) := heap_alloc_new w (.cells (hv z) 23)
 go_enter Tryz.func95, Tryz.ntmps95
 go_wp2_with (refine Go.Great.wpList_boxTo rfl _ _ rfl _ rfl _ rfl (hv z) rfl ?_)
 go_region_law (refine step_append_lies _ (by rfl) _ _ _ (by rfl) B 5 i0 _ 1 1 Tryz.underlying33 H.out.1 H.out.2.1 H.out.2.2.1 H.out.2.2.2 rfl (by omega) v l.length (l.map (Value.int .u8)) (by rfl) ((HO.out.alloc _).drew) ⟨w.heap.size, 0, none⟩ 32 32 (bl z 32) (by rfl) (by simp [bl_length]) (by have := World.news_of_block HN.out; rw [hv_list] at this; exact this) (bl_one z 32) (by omega) (by simp [maxLen]; omega) (by simp; omega) (by simp; omega) (w.heap.size + 1) (by simp) ?_; intro gg cap w1 hown1 hgrow hat hlt1; have hp1 := grown_keep (((Frm.refl [] w).alloc _).drew) hgrow HP.out hne; have hc1 := cell_of_one hp1; have hf1 := free_of_one hp1)
 all_goals
  have R := wr_step (ys := hB z) HP.out (((Frm.refl [] w).alloc _).drew) (by rw [hB_bl, hB_length]; exact hown1) hgrow hat hg (.inl rfl) (Frm.refl _ w) hB0 hx (by intro y hy; simp [hB] at hy; obtain ⟨j, hj, rfl⟩ := hy; exact HZ.out j hj) hne
  rw [hB_length] at R
  clear hown1 hgrow hp1
  go_wp2
  go_ret
  exact ⟨rfl, R⟩

end Go.Proofs.YtjnepkggdkccaaaGreatDoor
/- Bytes as a string. -/
namespace Go.Proofs.YtjnepkggdkccaaaGreatDoor
open Go.RowKit

/-- n bytes z as a string. -/
def strB (z : Nat → Int) (n : Nat) : ByteArray := ⟨((List.range n).map fun j => UInt8.ofNat (z j).toNat).toArray⟩

theorem conv_any (ad : Option Addr) (n cap : Nat) (z : Nat → Int) (w : World) (hs : SlAt w ad n z) (hnil : ad = none → n = 0 ∧ cap = 0) :
  (convert 33 9 (.slice ad n cap)).run Tryz.prog w = .ok (.string (strB z n)) w := by
 cases ad with
 | none =>
  obtain ⟨rfl, rfl⟩ := hnil rfl
  exact Lib.run_convert_nil_bytes w 33 9 5 0 Tryz.underlying33 Tryz.underlying5 Tryz.underlying9
 | some a =>
  have h := run_convert_bytes_back (P := Tryz.prog) w 33 9 5 a cap ((List.range n).map fun j => UInt8.ofNat (z j).toNat) Tryz.underlying33 Tryz.underlying5 Tryz.underlying9 ?_
  ·simpa [strB] using h
  ·intro j hj
   simp at hj
   obtain ⟨b, off, e, hc⟩ := hs.2 (by omega)
   cases e
   have hz := hs.1 j hj
   rw [Addr.add_lit, hc j hj]
   simp
   omega
end Go.Proofs.YtjnepkggdkccaaaGreatDoor
/- cond.lay: ints laid by a writer. -/
namespace Go.Proofs.YtjnepkggdkccaaaGreatDoor.Cd
open Go.RowKit

/-- An int as a number from 0 on. -/
def u64 (n : Int) : Int := IntKind.u64.wrap n
theorem u64_bd (n : Int) : 0 ≤ u64 n ∧ u64 n ≤ 18446744073709551615 := by
 unfold u64
 simp [IntKind.wrap, IntKind.bits, IntKind.signed]
 omega
theorem u64_nat (n : Nat) (h : n ≤ 9223372036854775807) : u64 (n : Int) = n := by
 unfold u64
 simp [IntKind.wrap, IntKind.bits, IntKind.signed]
 omega
/-- Ints as they are laid. -/
def laidK (z : Nat → Int) : Nat → List Int
 | 0 => []
 | j + 1 => laidK z j ++ uB (u64 (z j))
theorem uB_len (n : Int) : (uB n).length ≤ 9 := by
 have := sz_le n
 simp [uB, dgs_length]
 omega
theorem laidK_len (z : Nat → Int) : ∀ j, (laidK z j).length ≤ 9 * j
 | 0 => by simp [laidK]
 | j + 1 => by
  have h1 := laidK_len z j
  have h2 := uB_len (u64 (z j))
  simp only [laidK, List.length_append]
  omega
theorem _root_.Go.Proofs.YtjnepkggdkccaaaGreatDoor.WrGrown.refl {w : World} {B p : Nat} {g : Option Nat} {l : List Int} (h : WrAt w B p g l) : WrGrown w w B p g l := ⟨g, h, Frm.refl _ _, .inl rfl⟩
theorem _root_.Go.Proofs.YtjnepkggdkccaaaGreatDoor.WrGrown.next {w w1 w2 : World} {B p : Nat} {g g1 : Option Nat} {l l' : List Int} (h : WrGrown w w1 B p g l) (h1 : WrAt w1 B p g1 l) (h2 : WrGrown w1 w2 B p g1 l') : WrGrown w w2 B p g l' :=
 h.trans fun g' hg' => by rw [hg'.same h1]; exact h2
theorem isAt_frm {S : List Nat} {w w' : World} {ad : Option Addr} {n : Nat} {z : Nat → Int} (h : IsAt w ad n z) (hf : Frm S w w') (ha : ∀ a, ad = some a → a.block ∉ S) : IsAt w' ad n z := by
 intro hn
 obtain ⟨b, off, e, hc⟩ := h hn
 refine ⟨b, off, e, fun j hj => ?_⟩
 have h1 := hc j hj
 rw [World.cell?_of_block (a := ⟨b, off + j, none⟩) (hf.block b (World.block_lt_of_cell? w ⟨b, off + j, none⟩ h1) (ha _ e))]
 exact h1

set_option maxHeartbeats 1600000 in
theorem lay_any (p B : Nat) (g : Option Nat) (l : List Int) (ad : Option Addr) (n cap : Nat) (z : Nat → Int) (w : World) (hw : WrAt w B p g l) (hl : l.length + 9 * n + 16 ≤ 140737488355328) (hI : IsAt w ad n z) (ha : 0 < n → ∀ a, ad = some a → a.block ∉ p :: g.toList) (hn : n ≤ 1000000) :
  Calls Tryz.prog 128 #[.pointer (some ⟨p, 0, none⟩), .slice ad n cap] w fun e w' => e = .returned (.tuple #[]) ∧ WrGrown w w' B p g (l ++ laidK z n) := by
 have HI : Hid (IsAt w ad n z ∧ (0 < n → ∀ a, ad = some a → a.block ∉ p :: g.toList)) := ⟨hI, ha⟩
 have h0 : WrGrown w w B p g (l ++ laidK z 0) := by simpa [laidK] using WrGrown.refl hw
 clear hI ha hw
 go_enter Tryz.func128, Tryz.ntmps128
 go_wp2
 go_loopw [5, 8] (fun _ iv wr => ∃ i : Nat, i ≤ n ∧ iv = .int .i64 i ∧ WrGrown w wr B p g (l ++ laidK z i)) (fun _ iv _ => n + 1 - (intOf iv).toNat)
 case atStart => exact ⟨0, by omega, rfl, h0⟩
 case round =>
  clear h0
  obtain ⟨i, hi, rfl, hW⟩ := hrel
  have HW : Hid (WrGrown w wr B p g (l ++ laidK z i)) := hW
  clear hW
  by_cases hlt : i < n
  ·have hlt' : (i : Int) < n := by omega
   obtain ⟨g1, hA1, hF1, -⟩ := HW.out
   obtain ⟨b, off, rfl, hc⟩ := (isAt_frm HI.out.1 hF1 (HI.out.2 (by omega))) (by omega)
   have hci := hc i hlt
   have hbd := u64_bd (z i)
   have hll := laidK_len z i
   have hcall := wrUint_any p B g1 (l ++ laidK z i) (u64 (z i)) wr hA1 (by simp; omega) hbd
   have HA : Hid (WrAt wr B p g1 (l ++ laidK z i)) := hA1
   clear hc hF1 hA1
   unfold u64 at hcall
   go_wp2_with (go_at_call 108; refine hcall.mono ?_; rintro e w1 ⟨rfl, hW1⟩)
   have HN : Hid (WrGrown w w1 B p g (l ++ laidK z (i + 1))) := by
    have := HW.out.next HA.out hW1
    rw [List.append_assoc] at this
    exact this
   clear hW1 hcall
   go_roundw
   case rel => exact ⟨i + 1, by omega, by go_num, HN.out⟩
   case measure => simp [intOf]; omega
  ·obtain rfl : i = n := by omega
   have hnn : ¬ ((i : Int) < i) := by omega
   have hW := HW.out
   go_wp2
   go_end0
   exact ⟨rfl, hW⟩
end Go.Proofs.YtjnepkggdkccaaaGreatDoor.Cd
