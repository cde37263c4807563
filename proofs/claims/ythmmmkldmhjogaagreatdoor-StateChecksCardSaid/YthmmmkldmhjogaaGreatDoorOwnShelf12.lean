/- How many bytes a number has: math/bits.Len64 and enc.size. -/
import Derived.Test.YthmmmkldmhjogaaGreatDoorOwnShelf09
import Derived.Test.YthmmmkldmhjogaaGreatDoorOwnShelf11
import Derived.Test.YthmmmkldmhjogaaGreatDoorOwnShelf08
import Derived.Deep.RegionLaw
import Derived.Deep.AppendLies
import Derived.Deep.DrawnRows
import Derived.Test.YthmmmkldmhjogaaGreatDoorOwnShelf01
import Derived.Test.YthmmmkldmhjogaaGreatDoorOwnShelf10
import Derived.Great.Ranges
namespace Go.Proofs.YthmmmkldmhjogaaGreatDoor
open Go.RowKit

/-- How many bytes a number has without needless noughts. -/
def sz (n : Int) : Nat :=
 if n < 1 then 0 else if n < 256 then 1 else if n < 65536 then 2 else if n < 16777216 then 3 else if n < 4294967296 then 4
 else if n < 1099511627776 then 5 else if n < 281474976710656 then 6 else if n < 72057594037927936 then 7 else 8

theorem bitLen_byte (y : Nat) (h1 : 1 ≤ y) (h2 : y < 256) : 1 ≤ Lib.bitLen y ∧ Lib.bitLen y ≤ 8 := by
 refine ⟨?_, Lib.bitLen_le y 8 (by omega) (by omega)⟩
 rw [Lib.bitLen_half y (by omega) (by omega)]; omega

theorem sz_close (x k : Nat) (h : 2 ^ (8 * k) ≤ x) (h2 : x / 2 ^ (8 * k) < 256) (hx : x < 18446744073709551616) : (Lib.bitLen x + 7) / 8 = k + 1 := by
 have e := Lib.bitLen_shift (8 * k) x h hx
 have b := bitLen_byte (x / 2 ^ (8 * k)) (Nat.div_pos h (Nat.two_pow_pos _)) h2
 omega

theorem sz_bitLen (x : Int) (h0 : 0 ≤ x) (h1 : x ≤ 18446744073709551615) : (Lib.bitLen x.toNat + 7) / 8 = sz x := by
 unfold sz
 split
 ·have : x.toNat = 0 := by omega
  rw [this]; rfl
 ·split
  ·exact sz_close x.toNat 0 (by omega) (by omega) (by omega)
  ·split
   ·exact sz_close x.toNat 1 (by omega) (by omega) (by omega)
   ·split
    ·exact sz_close x.toNat 2 (by omega) (by omega) (by omega)
    ·split
     ·exact sz_close x.toNat 3 (by omega) (by omega) (by omega)
     ·split
      ·exact sz_close x.toNat 4 (by omega) (by omega) (by omega)
      ·split
       ·exact sz_close x.toNat 5 (by omega) (by omega) (by omega)
       ·split
        ·exact sz_close x.toNat 6 (by omega) (by omega) (by omega)
        ·exact sz_close x.toNat 7 (by omega) (by omega) (by omega)

theorem sz_le (n : Int) : sz n ≤ 8 := by unfold sz; repeat' split
                                         all_goals omega

set_option maxHeartbeats 400000 in
theorem size_any (x : Int) (w : World) (h0 : 0 ≤ x) (h1 : x ≤ 18446744073709551615) :
  Calls Tryz.prog 64 #[.int .u64 x] w fun e w' => e = .returned (.int .i64 (sz x)) ∧ w' = w := by
 have hb := Lib.bitLen_le x.toNat 64 (by omega) (by omega)
 have hs := sz_bitLen x h0 h1
 have HS : Hid ((Lib.bitLen x.toNat + 7) / 8 = sz x) := hs
 clear hs
 generalize hB : Lib.bitLen x.toNat = B at *
 have HB := (show Hid (Lib.bitLen x.toNat = B) from hB)
 clear hB
 go_enter Tryz.func64, Tryz.ntmps64
 go_wp2_with (go_at_call 83; refine (len64_any _ _ h0 h1).mono ?_; rintro e w' ⟨rfl, rfl⟩; rw [HB.out])
 go_ret
 refine ⟨congrArg (fun i => Ending.returned (Value.int IntKind.i64 i)) ?_, rfl⟩
 have := HS.out
 omega
end Go.Proofs.YthmmmkldmhjogaaGreatDoor
/- The writer's digits: a number's bytes, the highest first. -/
namespace Go.Proofs.YthmmmkldmhjogaaGreatDoor
open Go.RowKit

attribute [local go_sem ↓] Go.wp_at_zero Go.wp_at_succ

/-- A writer at block p has laid the bytes l; g: the block of them. -/
def WrAt (w : World) (B p : Nat) (g : Option Nat) (l : List Int) : Prop :=
 ∃ v, w.heap[p]? = some (.cells #[v] 124 (0, 0)) ∧ w.ownsRow B 5 1 v l.length (l.map (Value.int .u8)) ∧ v.ownBlock = g ∧ B ≤ p ∧ (∀ x, x ∈ l → 0 ≤ x ∧ x ≤ 255)

/-- The byte j of k of a number, the highest first. -/
def dgt (t : Bool) (n : Int) (k j : Nat) : Int := trn t (n / 256 ^ (k - 1 - j) % 256)
def dgs (t : Bool) (n : Int) (k q : Nat) : List Int := (List.range q).map (dgt t n k)
theorem dgs_succ (t : Bool) (n : Int) (k q : Nat) : dgs t n k (q + 1) = dgs t n k q ++ [dgt t n k q] := by simp [dgs, List.range_succ]
theorem dgs_length (t : Bool) (n : Int) (k q : Nat) : (dgs t n k q).length = q := by simp [dgs]


theorem wrap_u8 (x : Int) : IntKind.u8.wrap x = x % 256 := by simp [IntKind.wrap, IntKind.bits, IntKind.signed]
theorem wrap_u8_bd (x : Int) : 0 ≤ IntKind.u8.wrap x ∧ IntKind.u8.wrap x ≤ 255 := by rw [wrap_u8]; omega
theorem dgt_bd (t : Bool) (n : Int) (k j : Nat) : 0 ≤ dgt t n k j ∧ dgt t n k j ≤ 255 := trn_bd (by omega)

/-- A writer that has grown from w on: what it has laid; the rest is as it was. -/
def WrGrown (w wr : World) (B p : Nat) (g : Option Nat) (l : List Int) : Prop :=
 ∃ g', WrAt wr B p g' l ∧ Frm (p :: g.toList) w wr ∧ (g' = g ∨ ∃ b, g' = some b ∧ w.heap.size ≤ b)

/-- The block of bytes is not the writer's own. -/
theorem own_ne {w : World} {B p n : Nat} {v u : Value} {xs : List Value} (h : w.ownsRow B 5 1 v n xs) (hp : w.heap[p]? = some (.cells #[u] 124 (0, 0))) : v.ownBlock ≠ some p := by
 intro e
 rcases h.2 with ⟨rfl, _⟩ | ⟨g, cap, cur, rfl, _, hg, _⟩
 ·simp [Value.ownBlock] at e
 ·simp [Value.ownBlock] at e
  subst e
  rw [hg] at hp
  simp at hp

/-- Behind an append to the bytes the writer's own block is as it was. -/
theorem grown_keep {w w0 w1 : World} {ob : Obj} {p : Nat} {row : Option Nat} (h0 : Frm [] w w0) (hg : w0.grownBy w1 row) (hp : w.heap[p]? = some ob) (hne : some p ≠ row) : w1.heap[p]? = some ob := by
 have hlt := lt_of_block hp
 have := h0.size
 rw [hg.block p (by omega) hne, h0.block p hlt (by simp)]
 exact hp

theorem Frm.grown2 {S : List Nat} {a b c : World} {row : Option Nat} (h : Frm S a b) (hg : b.grownBy c row) (hr : ∀ k, row = some k → k ∈ S ∨ a.heap.size ≤ k) : Frm S a c :=
 ⟨hg.os.trans h.os, hg.tape.trans h.tape, hg.output.trans h.output, Nat.le_trans h.size hg.size, fun k hk hn => by
  have := h.size
  rw [hg.block k (by omega) (fun e => by rcases hr k e.symm with h | h; exact hn h; omega)]
  exact h.block k hk hn⟩

/-- One append of a writer, part by part: the block, the row, what is kept. -/
theorem wr_parts {w wr w0 w1 : World} {B p gg cap : Nat} {g g1 : Option Nat} {v : Value} {L ys : List Int}
  (hp : wr.heap[p]? = some (.cells #[v] 124 (0, 0))) (h0 : Frm [] wr w0) 
  (hown1 : w1.ownsRow B 5 1 (.slice (some ⟨gg, 0, none⟩) (L.length + ys.length) cap) (L.length + ys.length) (L.map (Value.int .u8) ++ ys.map (Value.int .u8)))
  (hgrow : w0.grownBy w1 v.ownBlock) (hat : v.ownBlock = some gg ∨ gg = wr.heap.size + 1) (hg : v.ownBlock = g1) (hg1 : g1 = g ∨ ∃ b, g1 = some b ∧ w.heap.size ≤ b)
  (hF : Frm (p :: g.toList) w wr) (hB : B ≤ p) (hx : ∀ x, x ∈ L → 0 ≤ x ∧ x ≤ 255) (hy : ∀ y, y ∈ ys → 0 ≤ y ∧ y ≤ 255) (hne : some p ≠ v.ownBlock) :
  (w1.setCell ⟨p, 0, none⟩ (.slice (some ⟨gg, 0, none⟩) (L.length + ys.length) cap)).heap[p]? = some (.cells #[.slice (some ⟨gg, 0, none⟩) (L.length + ys.length) cap] 124 (0, 0)) ∧
  (w1.setCell ⟨p, 0, none⟩ (.slice (some ⟨gg, 0, none⟩) (L.length + ys.length) cap)).ownsRow B 5 1 (.slice (some ⟨gg, 0, none⟩) (L.length + ys.length) cap) (L ++ ys).length ((L ++ ys).map (Value.int .u8)) ∧
  (∀ x, x ∈ L ++ ys → 0 ≤ x ∧ x ≤ 255) ∧ gg ≠ p ∧
  Frm (p :: g.toList) w (w1.setCell ⟨p, 0, none⟩ (.slice (some ⟨gg, 0, none⟩) (L.length + ys.length) cap)) ∧ (some gg = g ∨ ∃ b, some gg = some b ∧ w.heap.size ≤ b) ∧ B ≤ p := by
 have hplt := lt_of_block hp
 have hgp : gg ≠ p := by
  rcases hat with h | h
  ·intro e; subst e; exact hne h.symm
  ·omega
 refine ⟨one_setCell (grown_keep h0 hgrow hp hne), ?_, ?_, hgp, ?_, ?_, hB⟩
 ·have := ownsRow_setCell_other hown1 (a := ⟨p, 0, none⟩) (by simp [Value.ownBlock, hgp]) (.slice (some ⟨gg, 0, none⟩) (L.length + ys.length) cap)
  simpa using this
 ·intro x hxx
  rcases List.mem_append.1 hxx with h | h
  ·exact hx x h
  ·exact hy x h
 ·refine Frm.setCell ?_ _ _ (by simp)
  refine ((hF.trans (h0.mono (fun _ h => by cases h))).grown2 hgrow fun k hk => ?_)
  rw [hg] at hk
  rcases hg1 with h | ⟨b, h, hb⟩
  ·left; rw [← h, hk]; simp
  ·right; rw [h] at hk; cases hk; exact hb
 ·rcases hat with h | h
  ·rcases hg1 with h1 | ⟨b, h1, hb⟩
   ·left; rw [← h1, ← hg, h]
   ·right; refine ⟨gg, rfl, ?_⟩; rw [h1, h] at hg; cases hg; exact hb
  ·right; have := hF.size; exact ⟨gg, rfl, by omega⟩

/-- One append of a writer: bytes behind what was laid. -/
theorem wr_step {w wr w0 w1 : World} {B p gg cap : Nat} {g g1 : Option Nat} {v : Value} {L ys : List Int}
  (hp : wr.heap[p]? = some (.cells #[v] 124 (0, 0))) (h0 : Frm [] wr w0) 
  (hown1 : w1.ownsRow B 5 1 (.slice (some ⟨gg, 0, none⟩) (L.length + ys.length) cap) (L.length + ys.length) (L.map (Value.int .u8) ++ ys.map (Value.int .u8)))
  (hgrow : w0.grownBy w1 v.ownBlock) (hat : v.ownBlock = some gg ∨ gg = wr.heap.size + 1) (hg : v.ownBlock = g1) (hg1 : g1 = g ∨ ∃ b, g1 = some b ∧ w.heap.size ≤ b)
  (hF : Frm (p :: g.toList) w wr) (hB : B ≤ p) (hx : ∀ x, x ∈ L → 0 ≤ x ∧ x ≤ 255) (hy : ∀ y, y ∈ ys → 0 ≤ y ∧ y ≤ 255) (hne : some p ≠ v.ownBlock) :
  WrGrown w (w1.setCell ⟨p, 0, none⟩ (.slice (some ⟨gg, 0, none⟩) (L.length + ys.length) cap)) B p g (L ++ ys) := by
 obtain ⟨h1, h2, h3, _, h5, h6, h7⟩ := wr_parts hp h0 hown1 hgrow hat hg hg1 hF hB hx hy hne
 exact ⟨some gg, ⟨_, h1, h2, rfl, h7, h3⟩, h5, h6⟩

theorem shr_byte (n : Int) (i : Nat) (hi : i < 8) : Op.shift .shr .u64 n .i64 (IntKind.i64.wrap (8 * (i : Int))) = pure (.int .u64 (n / 256 ^ i)) := by
 have h : i = 0 ∨ i = 1 ∨ i = 2 ∨ i = 3 ∨ i = 4 ∨ i = 5 ∨ i = 6 ∨ i = 7 := by omega
 have e : IntKind.i64.wrap (8 * (i : Int)) = 8 * (i : Int) := by
  rcases h with h | h | h | h | h | h | h | h <;> subst h <;> decide
 rw [e, shift_shr .u64 .i64 n _ (by omega) (by simp [IntKind.bits]; omega)]
 rcases h with h | h | h | h | h | h | h | h <;> subst h <;> rfl

set_option maxRecDepth 100000 in
set_option maxHeartbeats 1600000 in
theorem digits_any (p B k : Nat) (g : Option Nat) (l : List Int) (n tn : Int) (t : Bool) (w : World) (hk : sz n = k) (htn : tn = if t then 255 else 0)
  (hw : WrAt w B p g l) (hl : l.length + 8 ≤ 140737488355328) (hn : 0 ≤ n ∧ n ≤ 18446744073709551615) :
  Calls Tryz.prog 65 #[.pointer (some ⟨p, 0, none⟩), .int .u64 n, .int .u8 tn] w fun e w' => e = .returned (.tuple #[]) ∧ WrGrown w w' B p g (l ++ dgs t n k k) := by
 obtain ⟨i0, hi0, hz0, hz1, hz2⟩ := info_parts Tryz.infoB
 have H : Hid (Tryz.prog.info? 5 = some i0 ∧ i0.zero = some (.int .u8 0) ∧ i0.size = 1 ∧ i0.bytes = 1) := ⟨hi0, hz0, hz1, hz2⟩
 clear hi0 hz0 hz1 hz2
 have hk8 : k ≤ 8 := by rw [← hk]; exact sz_le n
 have HT : Hid (tn = if t then 255 else 0) := htn
 clear htn
 have HW : Hid (WrAt w B p g l) := hw
 clear hw
 go_enter Tryz.func65, Tryz.ntmps65
 go_wp2_with (go_at_call 64; refine (size_any _ _ hn.1 hn.2).mono ?_; rintro e wx ⟨rfl, rfl⟩; rw [hk])
 clear hk
 go_loopw [6] (fun iv wr => ∃ q : Nat, q ≤ k ∧ iv = .int .i64 ((k : Int) - 1 - q) ∧ WrGrown wx wr B p g (l ++ dgs t n k q)) (fun iv _ => (intOf iv + 1).toNat)
 case atStart => exact ⟨0, Nat.zero_le _, by go_num, g, by simpa [dgs] using HW.out, Frm.refl _ _, .inl rfl⟩
 case round =>
  obtain ⟨q, hq, rfl, g1, hW1, hF1, hg1⟩ := hrel
  by_cases hlt : q < k
  ·obtain ⟨i, hi⟩ : ∃ i : Nat, k = i + 1 + q := ⟨k - 1 - q, by omega⟩
   obtain ⟨v, hp, hown, hg, hB, hx⟩ := hW1
   have hc := cell_of_one hp
   have hf := free_of_one hp
   have hplt := lt_of_block hp
   rw [show ((k : Int) - 1 - q) = (i : Int) from by omega]
   have hi0 : (0 : Int) ≤ (i : Int) := by omega
   have hi8 : (i : Int) < 8 := by omega
   have HO : Hid (wr.ownsRow B 5 1 v (l ++ dgs t n k q).length ((l ++ dgs t n k q).map (Value.int .u8))) := hown
   have HP : Hid (wr.heap[p]? = some (.cells #[v] 124 (0, 0))) := hp
   have HF : Hid (Frm (p :: g.toList) wx wr) := hF1
   have hne : some p ≠ v.ownBlock := by
    intro e
    exact own_ne hown hp e.symm
   clear hown hp hF1
   have HI : Hid (k = i + 1 + q) := hi
   have hsh : Op.shift .shr .u64 n .i64 (IntKind.i64.wrap (8 * (i : Int))) = pure (.int .u64 (n / 256 ^ i)) := shr_byte n i (by omega)
   clear hi
   generalize hX : n / 256 ^ i = X at *
   have HX : Hid (n / 256 ^ i = X) := hX
   clear hX
   go_wp2_with fail
   go_region_law
    ((refine step_append_lies _ (by rfl) _ _ _ (by rfl) B 5 i0 _ 1 1 Tryz.underlying27 H.out.1 H.out.2.1 H.out.2.2.1 H.out.2.2.2 rfl (by omega) v (l ++ dgs t n k q).length ((l ++ dgs t n k q).map (Value.int .u8)) (by rfl) ((HO.out.alloc _).drew) ⟨wr.heap.size, 0, none⟩ 1 1 [_] (by rfl) (by rfl) (World.news_of_block (cs := #[_]) (t := 5) (fr := (0, 0)) (heap_alloc_new wr _)) (by simp [Value.oneCell']) (by omega) (by simp [dgs_length, maxLen]; omega) (by simp [dgs_length]; omega) (by simp; omega) (wr.heap.size + 1) (by simp) ?_; intro gg cap w1 hown1 hgrow hat hlt1; have hp1 := grown_keep (((Frm.refl [] wr).alloc _).drew) hgrow HP.out hne; have hc1 := cell_of_one hp1; have hf1 := free_of_one hp1))
   all_goals
    have R : WrGrown wx (w1.setCell ⟨p, 0, none⟩ (.slice (some ⟨gg, 0, none⟩) (l.length + (dgs t n k q).length + 1) cap)) B p g (l ++ dgs t n k (q + 1)) := by
     have hd : bits .xor .u8 (IntKind.u8.wrap X) tn = dgt t n k q := by
      rw [xor_trn t tn _ HT.out (wrap_u8_bd X), wrap_u8 X, dgt, show k - 1 - q = i from by have := HI.out; omega, HX.out]
     rw [hd] at hown1
     rw [dgs_succ, ← List.append_assoc]
     have := wr_step (ys := [dgt t n k q]) HP.out (((Frm.refl [] wr).alloc _).drew) (by simpa using hown1) hgrow hat hg hg1 HF.out hB hx (by intro y hy; rw [List.mem_singleton.1 hy]; exact dgt_bd t n k q) hne
     simpa using this
    clear hown1 hgrow hp1 hc1 hf1
    go_wp2
    go_roundw
    case rel => exact ⟨q + 1, by omega, by have := HI.out; go_num, R⟩
    case measure => simp [intOf]
  ·have : q = k := by omega
   subst this
   go_wp2
   go_end0
   exact ⟨rfl, g1, hW1, hF1, hg1⟩
end Go.Proofs.YthmmmkldmhjogaaGreatDoor
/- The writer's Uint and Int. -/
namespace Go.Proofs.YthmmmkldmhjogaaGreatDoor
open Go.RowKit

attribute [local go_sem ↓] Go.wp_at_zero Go.wp_at_succ

/-- A number's bytes as it is laid. -/
def uB (n : Int) : List Int := (sz n : Int) :: dgs false n (sz n) (sz n)

theorem WrGrown.trans {w w1 w2 : World} {B p : Nat} {g : Option Nat} {l l' : List Int} (h : WrGrown w w1 B p g l) (h2 : ∀ g', WrAt w1 B p g' l → WrGrown w1 w2 B p g' l') : WrGrown w w2 B p g l' := by
 obtain ⟨g1, ha, hf, hg⟩ := h
 obtain ⟨g2, ha2, hf2, hg2⟩ := h2 g1 ha
 refine ⟨g2, ha2, ?_, ?_⟩
 ·have hsz := hf.size
  refine ⟨hf2.os.trans hf.os, hf2.tape.trans hf.tape, hf2.output.trans hf.output, Nat.le_trans hf.size hf2.size, fun k hk hn => ?_⟩
  rw [hf2.block k (by omega) ?_]
  ·exact hf.block k hk hn
  ·intro hm
   rcases hg with rfl | ⟨b, rfl, hb⟩
   ·exact hn hm
   ·simp at hm hn
    rcases hm with h | h
    ·exact hn.1 h
    ·omega
 ·have hsz := hf.size
  rcases hg2 with rfl | ⟨b, rfl, hb⟩
  ·exact hg
  ·exact .inr ⟨b, rfl, by omega⟩

theorem WrAt.same {w : World} {B p : Nat} {g g' : Option Nat} {l l' : List Int} (h : WrAt w B p g l) (h' : WrAt w B p g' l') : g = g' := by
 obtain ⟨v, hp, _, hg, _⟩ := h
 obtain ⟨v', hp', _, hg', _⟩ := h'
 rw [hp] at hp'
 have : v = v' := by simpa using hp'
 rw [← hg, ← hg', this]

set_option maxRecDepth 100000 in
set_option maxHeartbeats 1600000 in
theorem wrUint_any (p B : Nat) (g : Option Nat) (l : List Int) (n : Int) (w : World) (hw : WrAt w B p g l) (hl : l.length + 16 ≤ 140737488355328) (hn : 0 ≤ n ∧ n ≤ 18446744073709551615) :
  Calls Tryz.prog 42 #[.pointer (some ⟨p, 0, none⟩), .int .u64 n] w fun e w' => e = .returned (.pointer (some ⟨p, 0, none⟩)) ∧ WrGrown w w' B p g (l ++ uB n) := by
 obtain ⟨i0, hi0, hz0, hz1, hz2⟩ := info_parts Tryz.infoB
 have H : Hid (Tryz.prog.info? 5 = some i0 ∧ i0.zero = some (.int .u8 0) ∧ i0.size = 1 ∧ i0.bytes = 1) := ⟨hi0, hz0, hz1, hz2⟩
 clear hi0 hz0 hz1 hz2
 obtain ⟨v, hp, hown, hg, hB, hx⟩ := hw
 have hc := cell_of_one hp
 have hf := free_of_one hp
 have hplt := lt_of_block hp
 have hne : some p ≠ v.ownBlock := fun e => own_ne hown hp e.symm
 have HO : Hid (w.ownsRow B 5 1 v l.length (l.map (Value.int .u8))) := hown
 have HP : Hid (w.heap[p]? = some (.cells #[v] 124 (0, 0))) := hp
 clear hown hp
 obtain ⟨k, hk⟩ : ∃ k, sz n = k := ⟨_, rfl⟩
 have hk8 : k ≤ 8 := by rw [← hk]; exact sz_le n
 have HK : Hid (sz n = k) := hk
 clear hk
 go_enter Tryz.func42, Tryz.ntmps42
 go_wp2_with fail
 go_region_law (first | (refine step_append_lies _ (by rfl) _ _ _ (by rfl) B 5 i0 _ 1 1 Tryz.underlying27 H.out.1 H.out.2.1 H.out.2.2.1 H.out.2.2.2 rfl (by omega) v l.length (l.map (Value.int .u8)) (by rfl) ((HO.out.alloc _).drew) ⟨w.heap.size, 0, none⟩ 1 1 [_] (by rfl) (by rfl) (World.news_of_block (cs := #[_]) (t := 5) (fr := (0, 0)) (heap_alloc_new w _)) (by simp [Value.oneCell']) (by omega) (by simp [maxLen]; omega) (by simp; omega) (by simp; omega) (w.heap.size + 1) (by simp) ?_; intro gg cap w1 hown1 hgrow hat hlt1; have hp1 := grown_keep (((Frm.refl [] w).alloc _).drew) hgrow HP.out hne; have hc1 := cell_of_one hp1; have hf1 := free_of_one hp1) | (go_simp; go_at_call 64; refine (size_any _ _ hn.1 hn.2).mono ?_; rintro e wx ⟨rfl, rfl⟩; rw [HK.out]))
 all_goals
  have hk1 : IntKind.u8.wrap ((k : Int)) = (k : Int) := by rw [wrap_u8]; omega
  rw [hk1] at hown1
  have R := wr_step (ys := [(k : Int)]) HP.out (((Frm.refl [] w).alloc _).drew) (by simpa using hown1) hgrow hat hg (.inl rfl) (Frm.refl _ w) hB hx (by intro y hy; rw [List.mem_singleton.1 hy]; omega) hne
  have R1 : WrGrown w (w1.setCell ⟨p, 0, none⟩ (.slice (some ⟨gg, 0, none⟩) (l.length + 1) cap)) B p g (l ++ [(k : Int)]) := by simpa using R
  have HR : Hid (WrGrown w (w1.setCell ⟨p, 0, none⟩ (.slice (some ⟨gg, 0, none⟩) (l.length + 1) cap)) B p g (l ++ [(k : Int)])) := R1
  clear R R1 hown1 hgrow hp1 hc1 hf1 hk1
  obtain ⟨g1, ha, hF1, hg1⟩ := HR.out
  have HA : Hid (WrAt (w1.setCell ⟨p, 0, none⟩ (.slice (some ⟨gg, 0, none⟩) (l.length + 1) cap)) B p g1 (l ++ [(k : Int)])) := ha
  clear ha hF1 hg1
  go_wp2_with (go_at_call 65; refine (digits_any p B k g1 (l ++ [(k : Int)]) n 0 false _ HK.out rfl HA.out (by simp; omega) hn).mono ?_; rintro e w2 ⟨rfl, hG⟩)
  go_ret
  refine ⟨rfl, ?_⟩
  have hG2 : ∀ g', WrAt (w1.setCell ⟨p, 0, none⟩ (.slice (some ⟨gg, 0, none⟩) (l.length + 1) cap)) B p g' (l ++ [(k : Int)]) → WrGrown (w1.setCell ⟨p, 0, none⟩ (.slice (some ⟨gg, 0, none⟩) (l.length + 1) cap)) w2 B p g' (l ++ [(k : Int)] ++ dgs false n k k) := by
   intro g' h'
   rw [WrAt.same h' HA.out]; exact hG
  have := HR.out.trans hG2
  rw [List.append_assoc] at this
  have hkk := HK.out
  subst hkk
  exact this

end Go.Proofs.YthmmmkldmhjogaaGreatDoor
/- The writer's New and Done. -/
namespace Go.Proofs.YthmmmkldmhjogaaGreatDoor
open Go.RowKit

theorem WrAt.parts {w : World} {B p : Nat} {g : Option Nat} {l : List Int} (h : WrAt w B p g l) : ∃ v, w.heap[p]? = some (.cells #[v] 124 (0, 0)) ∧ w.ownsRow B 5 1 v l.length (l.map (Value.int .u8)) ∧ v.ownBlock = g ∧ B ≤ p ∧ (∀ x, x ∈ l → 0 ≤ x ∧ x ≤ 255) ∧ some p ≠ v.ownBlock ∧ p < w.heap.size := by
 obtain ⟨v, hp, hown, hg, hB, hx⟩ := h
 exact ⟨v, hp, hown, hg, hB, hx, fun e => own_ne hown hp e.symm, lt_of_block hp⟩



/-- Bytes do not lie in a writer's own block. -/
def fn (l : List Int) : Nat → Int := fun j => l.getD j 0
theorem fn_get (l : List Int) (j : Nat) (h : j < l.length) : fn l j = l[j] := by simp [fn, h]
theorem map_bl (l : List Int) : l.map (Value.int .u8) = bl (fn l) l.length := by
 apply List.ext_getElem
 ·simp [bl_length]
 ·intro j h1 h2
  simp at h1
  simp [bl, fn, h1]

set_option maxHeartbeats 400000 in
theorem new_any (w : World) :
  Calls Tryz.prog 40 #[] w fun e w' => e = .returned (.pointer (some ⟨w.heap.size, 0, none⟩)) ∧ w' = w.alloc (.cells #[.slice none 0 0] 124) := by
 go_enter Tryz.func40, Tryz.ntmps40
 go_wp2
 go_ret
 exact ⟨rfl, rfl⟩

theorem new_wr (w : World) : WrAt (w.alloc (.cells #[.slice none 0 0] 124)) w.heap.size w.heap.size none [] :=
 ⟨.slice none 0 0, heap_alloc_new w _, World.ownsRow_nil _ _ _ _, rfl, Nat.le_refl _, fun x h => by cases h⟩

set_option maxHeartbeats 400000 in
theorem wrDone_any (p B : Nat) (g : Option Nat) (l : List Int) (w : World) (hw : WrAt w B p g l) (hl : l.length ≤ 140737488351232) :
  Calls Tryz.prog 44 #[.pointer (some ⟨p, 0, none⟩)] w fun e w' => ∃ ad cap, e = .returned (.slice ad l.length cap) ∧ l.length ≤ cap ∧ SlAt w' ad l.length (fn l) ∧ (ad = none → l.length = 0 ∧ cap = 0) ∧ (∀ a, ad = some a → w.heap.size ≤ a.block) ∧ Below w.heap.size w w' := by
 obtain ⟨v, hp, hown, hg, hB, hx⟩ := hw
 rw [map_bl] at hown
 obtain ⟨ad, cap, rfl, h1, h2, h3, h4⟩ := own_SlAt (fun j hj => by rw [fn_get l j hj]; exact hx _ (List.getElem_mem hj)) hown
 have hc := cell_of_one hp
 clear hown hp
 go_enter Tryz.func44, Tryz.ntmps44
 go_wp2_with fail
 refine (clone_any ad l.length cap (fn l) w h2 h3 hl).mono ?_
 rintro e w1 ⟨ad', cap', rfl, k1, k2, k3, k4, hb⟩
 go_wp2
 go_ret
 exact ⟨ad', cap', rfl, k1, k2, k3, k4, hb⟩
end Go.Proofs.YthmmmkldmhjogaaGreatDoor
/- Payments, holds and states: what they say, their cells, and how they lie. -/
namespace Go.Proofs.YthmmmkldmhjogaaGreatDoor
open Go.RowKit

def Zb (z : Nat → Int) : Prop := ∀ j, j < 32 → 0 ≤ z j ∧ z j ≤ 255
def Ib (n : Int) : Prop := -9223372036854775808 ≤ n ∧ n ≤ 9223372036854775807
theorem tsize : Tryz.prog.types.size = 214 := by kernel_rfl
theorem cellsH : Tryz.prog.cellsOf 48 = 32 := by kernel_rfl
theorem cellsI : Tryz.prog.cellsOf 3 = 1 := by kernel_rfl
theorem cellsB : Tryz.prog.cellsOf 5 = 1 := by kernel_rfl
theorem cellsS : Tryz.prog.cellsOf 53 = 1 := by kernel_rfl
theorem infoI : (Tryz.prog.info? 3).map (fun i => (i.zero, i.size, i.bytes)) = some (some (.int .i64 0), 1, 8) := by kernel_rfl
/-- Ints that lie at an address. -/
def IsAt (w : World) (ad : Option Addr) (n : Nat) (z : Nat → Int) : Prop := 0 < n → ∃ b off, ad = some ⟨b, off, none⟩ ∧ ∀ j, j < n → w.cell? ⟨b, off + j, none⟩ = some (.int .i64 (z j))
theorem IsAt.below {w w' : World} {ad : Option Addr} {n : Nat} {z : Nat → Int} (h : IsAt w ad n z) (hb : Below w.heap.size w w') : IsAt w' ad n z := by
 intro hn
 obtain ⟨b, off, e, hc⟩ := h hn
 refine ⟨b, off, e, fun j hj => ?_⟩
 have := hc j hj
 have hl : b < w.heap.size := World.block_lt_of_cell? w ⟨b, off + j, none⟩ this
 rw [hb.cell (p := ⟨b, off + j, none⟩) hl]; exact this

/-- What a payment says. -/
structure Py where
 id : Int
 fr : Int
 am : Int
 af : Int
 lk : Nat → Int
instance : Inhabited Py := ⟨⟨0, 0, 0, 0, nz⟩⟩
/-- Its 36 cells. -/
def pyl (x : Py) : List Value := .int .i64 x.id :: .int .i64 x.fr :: .int .i64 x.am :: .int .i64 x.af :: bl x.lk 32
theorem pyl_length (x : Py) : (pyl x).length = 36 := by simp [pyl, bl_length]
def pyv (x : Py) : Array Value := (pyl x).toArray
theorem pyv_size (x : Py) : (pyv x).size = 36 := by simp [pyv, pyl_length]
theorem pyl_one (x : Py) : ∀ u ∈ pyl x, u.oneCell' = true := by
 intro u hu
 simp only [pyl, List.mem_cons] at hu
 rcases hu with rfl | rfl | rfl | rfl | hu
 ·rfl
 ·rfl
 ·rfl
 ·rfl
 ·exact bl_one _ _ u hu
theorem pyv_one (x : Py) : (pyv x).all (·.oneCell') = true := by
 have : (pyv x) = (pyl x).toArray := rfl
 rw [this]
 exact all_oneCell_toArray (pyl_one x)
theorem szP : (Tryz.prog.info? 62).map (·.size) = some 36 := by kernel_rfl
theorem szPr : (Tryz.prog.info? 73).map (·.size) = some 36 := by kernel_rfl
theorem szPv (x : Py) : (Tryz.prog.info? 62).map (·.size) = some (pyv x).size := by rw [pyv_size]; exact szP
theorem szPl (x : Py) : (Tryz.prog.info? 62).map (·.size) = some (pyl x).length := by rw [pyl_length]; exact szP
theorem szPrl (x : Py) : (Tryz.prog.info? 73).map (·.size) = some (pyl x).length := by rw [pyl_length]; exact szPr
/-- What a block that holds a payment gives a walk. -/
structure PBox (w : World) (g : Nat) (x : Py) : Prop where
 c0 : w.cell? ⟨g, 0, none⟩ = some (.int .i64 x.id)
 c1 : w.cell? ⟨g, 1, none⟩ = some (.int .i64 x.fr)
 c2 : w.cell? ⟨g, 2, none⟩ = some (.int .i64 x.am)
 c3 : w.cell? ⟨g, 3, none⟩ = some (.int .i64 x.af)
 lk : w.rangeAt g 4 (bl x.lk 32)
theorem pbox_of {w : World} {g : Nat} {x : Py} {t : TypeId} {fr : Nat × Nat} (h : w.heap[g]? = some (.cells (pyv x) t fr)) : PBox w g x := by
 refine ⟨?_, ?_, ?_, ?_, ?_⟩
 ·rw [cell_of_row w g 0 _ _ _ h]; simp [pyv, pyl]
 ·rw [cell_of_row w g 1 _ _ _ h]; simp [pyv, pyl]
 ·rw [cell_of_row w g 2 _ _ _ h]; simp [pyv, pyl]
 ·rw [cell_of_row w g 3 _ _ _ h]; simp [pyv, pyl]
 ·intro j v hv
  rw [cell_of_row w g (4 + j) _ _ _ h, Nat.add_comm 4 j]
  simpa [pyv, pyl] using hv
/-- What a payment in a row gives a walk. -/
theorem py_cells {w : World} {b off : Nat} {x : Py} (h : w.rangeAt b off (pyl x)) :
  w.cell? ⟨b, off, none⟩ = some (.int .i64 x.id) ∧ w.cell? ⟨b, off + 1, none⟩ = some (.int .i64 x.fr) ∧ w.cell? ⟨b, off + 2, none⟩ = some (.int .i64 x.am) ∧ w.cell? ⟨b, off + 3, none⟩ = some (.int .i64 x.af) ∧ w.rangeAt b (off + 4) (bl x.lk 32) := by
 refine ⟨by simpa using h 0 _ rfl, h 1 _ rfl, h 2 _ rfl, h 3 _ rfl, fun j v hv => ?_⟩
 have := h (j + 4) v (by simpa [pyl] using hv)
 rwa [show off + (j + 4) = off + 4 + j from by omega] at this
/-- n payments lie at an address. -/
structure PyAt (w : World) (ad : Option Addr) (n : Nat) (X : Nat → Py) : Prop where
 lk : ∀ i, i < n → Zb (X i).lk
 at_ : 0 < n → ∃ b off, ad = some ⟨b, off, none⟩ ∧ ∀ i, i < n → w.rangeAt b (off + i * 36) (pyl (X i))
theorem PyAt.nil (w : World) (ad : Option Addr) (X : Nat → Py) : PyAt w ad 0 X := ⟨fun _ h => by omega, fun h => by omega⟩
theorem PyAt.below {w w' : World} {ad : Option Addr} {n : Nat} {X : Nat → Py} (h : PyAt w ad n X) (hb : Below w.heap.size w w') : PyAt w' ad n X := by
 refine ⟨h.lk, fun hn => ?_⟩
 obtain ⟨b, off, e, hr⟩ := h.at_ hn
 exact ⟨b, off, e, fun i hi => range_below (hr i hi) hb⟩

/-- What a hold says. -/
structure Hd where
 id : Int
 am : Int
 n : Nat
 z : Nat → Int
instance : Inhabited Hd := ⟨⟨0, 0, 0, fun _ => 0⟩⟩
/-- Its three cells, the keys at ka. -/
def hdl (x : Hd) (ka : Option Addr) (kc : Nat) : List Value := [.int .i64 x.id, .int .i64 x.am, .slice ka x.n kc]
def hdv (x : Hd) (ka : Option Addr) (kc : Nat) : Array Value := #[.int .i64 x.id, .int .i64 x.am, .slice ka x.n kc]
theorem szH : (Tryz.prog.info? 64).map (·.size) = some 3 := by kernel_rfl
theorem szHr : (Tryz.prog.info? 55).map (·.size) = some 3 := by kernel_rfl
/-- n holds lie at an address. -/
structure HdAt (w : World) (ad : Option Addr) (n : Nat) (X : Nat → Hd) : Prop where
 at_ : 0 < n → ∃ b off, ad = some ⟨b, off, none⟩ ∧ ∀ i, i < n → ∃ ka kc, w.rangeAt b (off + i * 3) (hdl (X i) ka kc) ∧ IsAt w ka (X i).n (X i).z ∧ (ka = none → (X i).n = 0 ∧ kc = 0)
theorem HdAt.nil (w : World) (ad : Option Addr) (X : Nat → Hd) : HdAt w ad 0 X := ⟨fun h => by omega⟩
theorem HdAt.below {w w' : World} {ad : Option Addr} {n : Nat} {X : Nat → Hd} (h : HdAt w ad n X) (hb : Below w.heap.size w w') : HdAt w' ad n X := by
 refine ⟨fun hn => ?_⟩
 obtain ⟨b, off, e, hr⟩ := h.at_ hn
 refine ⟨b, off, e, fun i hi => ?_⟩
 obtain ⟨ka, kc, h1, h2, h3⟩ := hr i hi
 exact ⟨ka, kc, range_below h1 hb, h2.below hb, h3⟩
theorem hd_cells {w : World} {b off : Nat} {x : Hd} {ka : Option Addr} {kc : Nat} (h : w.rangeAt b off (hdl x ka kc)) :
  w.cell? ⟨b, off, none⟩ = some (.int .i64 x.id) ∧ w.cell? ⟨b, off + 1, none⟩ = some (.int .i64 x.am) ∧ w.cell? ⟨b, off + 2, none⟩ = some (.slice ka x.n kc) :=
 ⟨by simpa using h 0 _ rfl, h 1 _ rfl, h 2 _ rfl⟩

/-- What a state says. -/
structure Sv where
 nu : Int
 a : Int
 b : Int
 pn : Nat
 P : Nat → Py
 hn : Nat
 H : Nat → Hd
/-- The zero state. -/
def sv0 : Sv := ⟨0, 0, 0, 0, fun _ => default, 0, fun _ => default⟩
/-- Where a state's rows lie. -/
structure Pl where
 pa : Option Addr
 pc : Nat
 ha : Option Addr
 hc : Nat
def pl0 : Pl := ⟨none, 0, none, 0⟩
def svv (s : Sv) (p : Pl) : Array Value := #[.int .i64 s.nu, .int .i64 s.a, .int .i64 s.b, .slice p.pa s.pn p.pc, .slice p.ha s.hn p.hc]
theorem szS : (Tryz.prog.info? 33).map (·.size) = some 5 := by kernel_rfl
theorem szSr : (Tryz.prog.info? 26).map (·.size) = some 5 := by kernel_rfl
/-- The rows of a state lie there. -/
structure SvAt (w : World) (s : Sv) (p : Pl) : Prop where
 py : PyAt w p.pa s.pn s.P
 hd : HdAt w p.ha s.hn s.H
 pcap : s.pn ≤ p.pc
 hcap : s.hn ≤ p.hc
 pnil : p.pa = none → s.pn = 0 ∧ p.pc = 0
 hnil : p.ha = none → s.hn = 0 ∧ p.hc = 0
theorem SvAt.below {w w' : World} {s : Sv} {p : Pl} (h : SvAt w s p) (hb : Below w.heap.size w w') : SvAt w' s p :=
 ⟨h.py.below hb, h.hd.below hb, h.pcap, h.hcap, h.pnil, h.hnil⟩
theorem sv0_at (w : World) : SvAt w sv0 pl0 := ⟨PyAt.nil _ _ _, HdAt.nil _ _ _, Nat.le_refl _, Nat.le_refl _, fun _ => ⟨rfl, rfl⟩, fun _ => ⟨rfl, rfl⟩⟩
/-- How long a state may be here. -/
structure Sv.Small (s : Sv) : Prop where
 n : s.pn + s.hn ≤ 100
 k : ∀ i, i < s.hn → (s.H i).n ≤ 300
theorem sv0_small : sv0.Small := ⟨by simp [sv0], fun i hi => by simp [sv0] at hi⟩

/-- A state that may be. -/
def lastP (X : Nat → Py) (j : Nat) : Int := if j = 0 then -1 else (X (j - 1)).id
theorem lastP_succ (X : Nat → Py) (j : Nat) : lastP X (j + 1) = (X j).id := by simp [lastP]
def lastH (X : Nat → Hd) (j : Nat) : Int := if j = 0 then -1 else (X (j - 1)).id
theorem lastH_succ (X : Nat → Hd) (j : Nat) : lastH X (j + 1) = (X j).id := by simp [lastH]
/-- The key ahead of the key j. -/
def lastK (z : Nat → Int) (j : Nat) : Int := if j = 0 then -1 else z (j - 1)
theorem lastK_succ (z : Nat → Int) (j : Nat) : lastK z (j + 1) = z j := by simp [lastK]
/-- Keys that are parties, ascending. -/
def KOk (z : Nat → Int) (n : Nat) : Prop := ∀ j, j < n → lastK z j < z j ∧ z j < 16
instance (z : Nat → Int) (n : Nat) : Decidable (KOk z n) := inferInstanceAs (Decidable (∀ j, j < n → _))
/-- A payment that may be, but for its ID's lower bound. -/
def POne (x : Py) : Prop := x.id ≤ 4294967296 ∧ (x.fr = 0 ∨ x.fr = 1) ∧ (10 ≤ x.am ∧ x.am ≤ 1125899906842624) ∧ (0 ≤ x.af ∧ x.af ≤ 1099511627776) ∧ hq x.lk nz = false
instance (x : Py) : Decidable (POne x) := inferInstanceAs (Decidable (_ ∧ _))
def PsOk (X : Nat → Py) (n : Nat) : Prop := ∀ j, j < n → lastP X j < (X j).id ∧ POne (X j)
instance (X : Nat → Py) (n : Nat) : Decidable (PsOk X n) := inferInstanceAs (Decidable (∀ j, j < n → _))
def HOne (x : Hd) : Prop := x.id ≤ 4294967296 ∧ (10 ≤ x.am ∧ x.am ≤ 1125899906842624) ∧ KOk x.z x.n ∧ 0 < x.n
instance (x : Hd) : Decidable (HOne x) := inferInstanceAs (Decidable (_ ∧ _))
def HsOk (X : Nat → Hd) (n : Nat) : Prop := ∀ j, j < n → lastH X j < (X j).id ∧ HOne (X j)
instance (X : Nat → Hd) (n : Nat) : Decidable (HsOk X n) := inferInstanceAs (Decidable (∀ j, j < n → _))
def sumP (X : Nat → Py) : Nat → Int
 | 0 => 0
 | j + 1 => sumP X j + (X j).am
def sumH (X : Nat → Hd) : Nat → Int
 | 0 => 0
 | j + 1 => sumH X j + (X j).am
/-- What is in a state together. -/
def tot (s : Sv) : Int := s.a + s.b + sumP s.P s.pn + sumH s.H s.hn
/-- Numbers, sides and how many there are. -/
def SNum (s : Sv) : Prop := (0 ≤ s.nu ∧ s.nu ≤ 1099511627776) ∧ (0 ≤ s.a ∧ s.a ≤ 1125899906842624) ∧ (0 ≤ s.b ∧ s.b ≤ 1125899906842624)
instance (s : Sv) : Decidable (SNum s) := inferInstanceAs (Decidable (_ ∧ _))
def SRows (s : Sv) : Prop := s.pn + s.hn ≤ 8 ∧ PsOk s.P s.pn ∧ HsOk s.H s.hn
instance (s : Sv) : Decidable (SRows s) := inferInstanceAs (Decidable (_ ∧ _))
def SOk (s : Sv) : Prop := SNum s ∧ SRows s ∧ tot s ≤ 1125899906842624
instance (s : Sv) : Decidable (SOk s) := inferInstanceAs (Decidable (_ ∧ _))
def chkE (s : Sv) : Int := if SOk s then 0 else 1
theorem sumP_bd (X : Nat → Py) : ∀ n, PsOk X n → 0 ≤ sumP X n ∧ sumP X n ≤ 1125899906842624 * n
 | 0, _ => by simp [sumP]
 | n + 1, h => by
  have h1 := sumP_bd X n (fun j hj => h j (by omega))
  have h2 := (h n (by omega)).2.2.2.1
  simp only [sumP]
  omega
theorem sumH_bd (X : Nat → Hd) : ∀ n, HsOk X n → 0 ≤ sumH X n ∧ sumH X n ≤ 1125899906842624 * n
 | 0, _ => by simp [sumH]
 | n + 1, h => by
  have h1 := sumH_bd X n (fun j hj => h j (by omega))
  have h2 := (h n (by omega)).2.2.1
  simp only [sumH]
  omega
end Go.Proofs.YthmmmkldmhjogaaGreatDoor
/- Readers of any bytes: by the list of what is left, or stopped. -/
namespace Go.Proofs.YthmmmkldmhjogaaGreatDoor
open Go.RowKit

def uintR (most : Int) (l : List Int) : Option (Int × List Int) := if uE l.length (fn l) most = 0 then some (uV l.length (fn l) most, l.drop (uN l.length (fn l) most)) else none
def countR (most : Int) (l : List Int) : Option (Int × List Int) := if cE l.length (fn l) most = 0 then some (cV l.length (fn l) most, l.drop (cN l.length (fn l) most)) else none
def hashR (l : List Int) : Option ((Nat → Int) × List Int) := if l.length < 32 then none else some (fn l, l.drop 32)
/-- One thing taken off: it, and what is left. -/
def tk {α : Type} (f : List Int → Option (α × List Int)) (d : α) : Option (List Int) → α × Option (List Int)
 | none => (d, none)
 | some l => match f l with | none => (d, none) | some (a, r) => (a, some r)
def numS (q : Option (List Int)) : Int × Option (List Int) := tk (uintR 9223372036854775807) 0 q
def cntS (most : Int) (q : Option (List Int)) : Int × Option (List Int) := tk (countR most) 0 q
def hshS (q : Option (List Int)) : (Nat → Int) × Option (List Int) := tk hashR nz q
/-- A reader at block rb: what is left, or that it has stopped. -/
def RS (w : World) (rb : Nat) : Option (List Int) → Prop
 | some l => RdAt w rb l.length (fn l) 0 ∧ l.length ≤ 140737488351232
 | none => ∃ n z er, er ≠ 0 ∧ RdAt w rb n z er
theorem RdAt.congr {w : World} {rb n m : Nat} {z y : Nat → Int} {er : Int} (h : RdAt w rb n z er) (hn : n = m) (he : ∀ j, j < n → z j = y j) : RdAt w rb m y er := by
 subst hn
 obtain ⟨ad, cap, h1, h2, h3, h4⟩ := h
 exact ⟨ad, cap, h1, h2, h3.congr he, h4⟩
theorem fn_drop (l : List Int) (k j : Nat) : fn (l.drop k) j = fn l (j + k) := by simp [fn, Nat.add_comm]
theorem RdAt.drop {w : World} {rb k : Nat} {l : List Int} (h : RdAt w rb (l.length - k) (fun j => fn l (j + k)) 0) : RdAt w rb (l.drop k).length (fn (l.drop k)) 0 := h.congr (by simp) fun j _ => (fn_drop l k j).symm
theorem RdAt.cell1 {w : World} {rb n : Nat} {z : Nat → Int} {er : Int} (h : RdAt w rb n z er) (he : er ≠ 0) : w.cell? ⟨rb, 1, none⟩ = some (.iface 67 (.int .i64 er)) := by
 obtain ⟨ad, cap, h1, _⟩ := h
 rw [two_cell1 h1, errV_ne he]
theorem RdAt.keep {w w' : World} {rb n : Nat} {z : Nat → Int} {er : Int} (h : RdAt w rb n z er) (hb : Below w.heap.size w w') : RdAt w' rb n z er := by
 obtain ⟨ad, cap, h1, h2, h3, h4⟩ := h
 exact ⟨ad, cap, by rw [hb.block _ (lt_of_block h1)]; exact h1, h2, h3.frm (S := []) (Frm.ofBelow hb) (by simp), h4⟩
/-- What is turned lies behind the reader. -/
theorem RdAt.frm {S : List Nat} {w w' : World} {rb n : Nat} {z : Nat → Int} {er : Int} (h : RdAt w rb n z er) (hf : Frm S w w') (hS : ∀ k, k ∈ S → rb < k) : RdAt w' rb n z er := by
 obtain ⟨ad, cap, h1, h2, h3, h4⟩ := h
 exact ⟨ad, cap, hf.heap h1 (fun hk => Nat.lt_irrefl _ (hS _ hk)), h2, h3.frm hf (fun b off hn e hk => by have := hS b hk; have := h4 b off hn e; omega), h4⟩
/-- All blocks up to the reader's are as they were. -/
theorem RdAt.upto {w w' : World} {rb n : Nat} {z : Nat → Int} {er : Int} (h : RdAt w rb n z er) (hf : ∀ k, k ≤ rb → w'.heap[k]? = w.heap[k]?) : RdAt w' rb n z er := by
 obtain ⟨ad, cap, h1, h2, h3, h4⟩ := h
 exact ⟨ad, cap, by rw [hf _ (Nat.le_refl _)]; exact h1, h2, h3.block (fun b off hn e => hf b (by have := h4 b off hn e; omega)), h4⟩
theorem RS.keep {w w' : World} {rb : Nat} {q : Option (List Int)} (h : RS w rb q) (hb : Below w.heap.size w w') : RS w' rb q := by
 cases q with
 | some l => exact ⟨h.1.keep hb, h.2⟩
 | none => obtain ⟨n, z, er, he, h⟩ := h; exact ⟨n, z, er, he, h.keep hb⟩
theorem RS.frm {S : List Nat} {w w' : World} {rb : Nat} {q : Option (List Int)} (h : RS w rb q) (hf : Frm S w w') (hS : ∀ k, k ∈ S → rb < k) : RS w' rb q := by
 cases q with
 | some l => exact ⟨h.1.frm hf hS, h.2⟩
 | none => obtain ⟨n, z, er, he, h⟩ := h; exact ⟨n, z, er, he, h.frm hf hS⟩
theorem RS.upto {w w' : World} {rb : Nat} {q : Option (List Int)} (h : RS w rb q) (hf : ∀ k, k ≤ rb → w'.heap[k]? = w.heap[k]?) : RS w' rb q := by
 cases q with
 | some l => exact ⟨h.1.upto hf, h.2⟩
 | none => obtain ⟨n, z, er, he, h⟩ := h; exact ⟨n, z, er, he, h.upto hf⟩
theorem RS.lt {w : World} {rb : Nat} {q : Option (List Int)} (h : RS w rb q) : rb < w.heap.size := by
 cases q with
 | some l => obtain ⟨⟨ad, cap, h1, _⟩, _⟩ := h; exact lt_of_block h1
 | none => obtain ⟨n, z, er, he, ad, cap, h1, _⟩ := h; exact lt_of_block h1
/-- All of its bytes are bytes. -/
def ByQ (q : Option (List Int)) : Prop := ∀ l, q = some l → ∀ j, j < l.length → 0 ≤ fn l j ∧ fn l j ≤ 255
theorem RS.by {w : World} {rb : Nat} {q : Option (List Int)} (h : RS w rb q) : ByQ q := by
 rintro l rfl j hj
 obtain ⟨⟨ad, cap, h1, h2, h3, h4⟩, _⟩ := h
 exact h3.1 j hj
theorem uintR_bd {most v : Int} {l r : List Int} (hl : ∀ j, j < l.length → 0 ≤ fn l j ∧ fn l j ≤ 255) (h : uintR most l = some (v, r)) : 0 ≤ v ∧ v ≤ most := by
 unfold uintR at h
 split at h
 ·rename_i hE
  cases h
  refine ⟨(uV_bd most hl).1, ?_⟩
  unfold uV
  rw [if_pos hE]
  unfold uE at hE
  split at hE
  ·simp at hE
  ·split at hE
   ·simp at hE
   ·split at hE
    ·split at hE
     ·simp at hE
     ·omega
    ·rename_i h2
     exact absurd hE h2
 ·cases h
theorem numS_bd {q : Option (List Int)} (h : ByQ q) : 0 ≤ (numS q).1 ∧ (numS q).1 ≤ 9223372036854775807 := by
 unfold numS tk
 cases q with
 | none => simp
 | some l =>
  dsimp only
  cases e : uintR 9223372036854775807 l with
  | none => simp
  | some x => exact uintR_bd (h l rfl) e
theorem hshS_bd {q : Option (List Int)} (h : ByQ q) : Zb (hshS q).1 := by
 unfold hshS tk
 cases q with
 | none => intro j _; simp [nz]
 | some l =>
  dsimp only [hashR]
  by_cases hl : l.length < 32
  ·rw [if_pos hl]; intro j _; simp [nz]
  ·rw [if_neg hl]
   intro j hj
   exact h l rfl j (by omega)
theorem uint_rs (rb : Nat) (most : Int) (q : Option (List Int)) (w : World) (h : RS w rb q) :
  Calls Tryz.prog 52 #[.pointer (some ⟨rb, 0, none⟩), .int .u64 most] w fun e w' =>
   e = .returned (.int .u64 (tk (uintR most) 0 q).1) ∧ Frm [rb] w w' ∧ RS w' rb (tk (uintR most) 0 q).2 := by
 cases q with
 | none =>
  obtain ⟨n, z, er, he, h⟩ := h
  refine (stopUint rb most _ _ w (h.cell1 he)).mono ?_
  rintro e w' ⟨rfl, hb⟩
  exact ⟨rfl, Frm.ofBelow hb, n, z, er, he, h.keep hb⟩
 | some l =>
  refine (rdUint_any rb _ _ most w h.1).mono ?_
  rintro e w' ⟨rfl, hF, hR⟩
  simp only [tk, uintR]
  by_cases hE : uE l.length (fn l) most = 0
  ·rw [if_pos hE]
   rw [hE] at hR
   exact ⟨rfl, hF, hR.drop, by have := h.2; simp; omega⟩
  ·rw [if_neg hE]
   refine ⟨?_, hF, _, _, _, hE, hR⟩
   simp [uV, hE]
theorem count_rs (rb : Nat) (most : Int) (q : Option (List Int)) (w : World) (h : RS w rb q) (hm : most ≤ 9223372036854775807) :
  Calls Tryz.prog 22 #[.pointer (some ⟨rb, 0, none⟩), .int .i64 most] w fun e w' =>
   e = .returned (.int .i64 (cntS most q).1) ∧ Frm [rb] w w' ∧ RS w' rb (cntS most q).2 := by
 unfold cntS
 cases q with
 | none =>
  obtain ⟨n, z, er, he, h⟩ := h
  refine (stopCount rb most _ _ w (h.cell1 he)).mono ?_
  rintro e w' ⟨rfl, hb⟩
  exact ⟨rfl, Frm.ofBelow hb, n, z, er, he, h.keep hb⟩
 | some l =>
  refine (rdCount_any rb _ _ most w h.2 hm h.1).mono ?_
  rintro e w' ⟨rfl, hF, hR⟩
  simp only [tk, countR]
  by_cases hE : cE l.length (fn l) most = 0
  ·rw [if_pos hE]
   rw [hE] at hR
   exact ⟨rfl, hF, hR.drop, by have := h.2; simp; omega⟩
  ·rw [if_neg hE]
   refine ⟨?_, hF, _, _, _, hE, hR⟩
   simp [cV, hE]
theorem hash_rs (rb : Nat) (q : Option (List Int)) (w : World) (h : RS w rb q) :
  Calls Tryz.prog 56 #[.pointer (some ⟨rb, 0, none⟩)] w fun e w' =>
   e = .returned (.agg (hv (hshS q).1)) ∧ Frm [rb] w w' ∧ RS w' rb (hshS q).2 := by
 unfold hshS
 cases q with
 | none =>
  obtain ⟨n, z, er, he, h⟩ := h
  refine (stopHash rb _ _ w (h.cell1 he)).mono ?_
  rintro e w' ⟨rfl, hb⟩
  exact ⟨rfl, Frm.ofBelow hb, n, z, er, he, h.keep hb⟩
 | some l =>
  refine (rdHash_any rb _ _ w h.1).mono ?_
  rintro e w' ⟨rfl, hF, hR⟩
  simp only [tk, hashR]
  by_cases hq : l.length < 32
  ·rw [if_pos hq]
   rw [show hZ l.length (fn l) = nz from if_pos hq]
   rw [show hE l.length = 12 from if_pos hq] at hR
   exact ⟨rfl, hF, _, _, 12, by decide, hR⟩
  ·rw [if_neg hq]
   rw [show hZ l.length (fn l) = fn l from if_neg hq]
   rw [show hE l.length = 0 from if_neg hq, show hN l.length = 32 from if_neg hq] at hR
   exact ⟨rfl, hF, hR.drop, by have := h.2; simp; omega⟩
theorem done_rs (rb : Nat) (q : Option (List Int)) (w : World) (h : RS w rb q) :
  Calls Tryz.prog 25 #[.pointer (some ⟨rb, 0, none⟩)] w fun e w' => (∃ x, e = .returned (errV x) ∧ (q = some [] ↔ x = 0)) ∧ w' = w := by
 cases q with
 | none =>
  obtain ⟨n, z, er, he, h⟩ := h
  refine (done_any rb n z er w h).mono ?_
  rintro e w' ⟨rfl, rfl⟩
  refine ⟨⟨_, rfl, ?_⟩, rfl⟩
  simp [dn, he]
 | some l =>
  refine (done_any rb _ _ 0 w h.1).mono ?_
  rintro e w' ⟨rfl, rfl⟩
  refine ⟨⟨_, rfl, ?_⟩, rfl⟩
  cases l <;> simp [dn]
theorem read_rs (ad : Option Addr) (cap : Nat) (l : List Int) (w : World) (hs : SlAt w ad l.length (fn l)) (hnil : ad = none → l.length = 0 ∧ cap = 0) (hn : l.length ≤ 140737488351232) :
  Calls Tryz.prog 20 #[.slice ad l.length cap] w fun e w' => ∃ rb, e = .returned (.pointer (some ⟨rb, 0, none⟩)) ∧ RS w' rb (some l) ∧ w.heap.size ≤ rb ∧ Below w.heap.size w w' := by
 refine (read_any ad l.length cap (fn l) w hs hnil hn).mono ?_
 rintro e w' ⟨rb, rfl, h1, h2, h3⟩
 exact ⟨rb, rfl, ⟨h1, hn⟩, h2, h3⟩
set_option maxHeartbeats 400000 in
theorem snum_any (rb : Nat) (q : Option (List Int)) (w : World) (h : RS w rb q) :
  Calls Tryz.prog 21 #[.pointer (some ⟨rb, 0, none⟩)] w fun e w' => e = .returned (.int .i64 (numS q).1) ∧ Frm [rb] w w' ∧ RS w' rb (numS q).2 := by
 have hb := numS_bd h.by
 have hw : IntKind.i64.wrap (numS q).1 = (numS q).1 := by rw [IntKind.wrap_i64]; omega
 have hc := uint_rs rb 9223372036854775807 q w h
 change Calls _ _ _ _ (fun e w' => e = .returned (.int .u64 (numS q).1) ∧ Frm [rb] w w' ∧ RS w' rb (numS q).2) at hc
 generalize (numS q).1 = x at *
 generalize (numS q).2 = q' at *
 clear h hb
 go_enter Tryz.func21, Tryz.ntmps21
 go_wp2_with fail
 refine hc.mono ?_
 rintro e w1 ⟨rfl, hF, hR⟩
 have HF : Hid (Frm [rb] w w1 ∧ RS w1 rb q') := ⟨hF, hR⟩
 clear hF hR hc
 go_wp2
 go_ret
 exact ⟨rfl, HF.out⟩
end Go.Proofs.YthmmmkldmhjogaaGreatDoor
/- The writer's Hash; a nil writer's calls. -/
namespace Go.Proofs.YthmmmkldmhjogaaGreatDoor
open Go.RowKit

attribute [local go_sem ↓] Go.wp_at_zero Go.wp_at_succ

/-- A sum's bytes. -/
def hB (z : Nat → Int) : List Int := (List.range 32).map z
theorem hB_length (z : Nat → Int) : (hB z).length = 32 := by simp [hB]
theorem hB_bl (z : Nat → Int) : (hB z).map (Value.int .u8) = bl z 32 := by simp [hB, bl]

set_option maxRecDepth 100000 in
set_option maxHeartbeats 1600000 in
theorem wrHash_any (p B : Nat) (g : Option Nat) (l : List Int) (z : Nat → Int) (w : World) (hw : WrAt w B p g l) (hl : l.length + 32 ≤ 140737488355328) (hz : ∀ j, j < 32 → 0 ≤ z j ∧ z j ≤ 255) :
  Calls Tryz.prog 43 #[.pointer (some ⟨p, 0, none⟩), .agg (hv z)] w fun e w' => e = .returned (.pointer (some ⟨p, 0, none⟩)) ∧ WrGrown w w' B p g (l ++ hB z) := by
 obtain ⟨i0, hi0, hz0, hz1, hz2⟩ := info_parts Tryz.infoB
 have H : Hid (Tryz.prog.info? 5 = some i0 ∧ i0.zero = some (.int .u8 0) ∧ i0.size = 1 ∧ i0.bytes = 1) := ⟨hi0, hz0, hz1, hz2⟩
 clear hi0 hz0 hz1 hz2
 have HZ : Hid (∀ j, j < 32 → 0 ≤ z j ∧ z j ≤ 255) := hz
 clear hz
 obtain ⟨v, hp, hown, hg, hB0, hx⟩ := hw
 have hc := cell_of_one hp
 have hf := free_of_one hp
 have hplt := lt_of_block hp
 have hne : some p ≠ v.ownBlock := fun e => own_ne hown hp e.symm
 have HO : Hid (w.ownsRow B 5 1 v l.length (l.map (Value.int .u8))) := hown
 have HP : Hid (w.heap[p]? = some (.cells #[v] 124 (0, 0))) := hp
 clear hown hp
 have HN : Hid (((w.alloc (.cells (hv z) 48)).drew).heap[w.heap.size]? = some (.cells (hv z) 48 (0, 0))) := heap_alloc_new w (.cells (hv z) 48)
 go_enter Tryz.func43, Tryz.ntmps43
 go_wp2_with (refine Go.Great.wpList_boxTo rfl _ _ rfl _ rfl _ rfl (hv z) rfl ?_)
 go_region_law (refine step_append_lies _ (by rfl) _ _ _ (by rfl) B 5 i0 _ 1 1 Tryz.underlying27 H.out.1 H.out.2.1 H.out.2.2.1 H.out.2.2.2 rfl (by omega) v l.length (l.map (Value.int .u8)) (by rfl) ((HO.out.alloc _).drew) ⟨w.heap.size, 0, none⟩ 32 32 (bl z 32) (by rfl) (by simp [bl_length]) (by have := World.news_of_block HN.out; rw [hv_list] at this; exact this) (bl_one z 32) (by omega) (by simp [maxLen]; omega) (by simp; omega) (by simp; omega) (w.heap.size + 1) (by simp) ?_; intro gg cap w1 hown1 hgrow hat hlt1; have hp1 := grown_keep (((Frm.refl [] w).alloc _).drew) hgrow HP.out hne; have hc1 := cell_of_one hp1; have hf1 := free_of_one hp1)
 all_goals
  have R := wr_step (ys := hB z) HP.out (((Frm.refl [] w).alloc _).drew) (by rw [hB_bl, hB_length]; exact hown1) hgrow hat hg (.inl rfl) (Frm.refl _ w) hB0 hx (by intro y hy; simp [hB] at hy; obtain ⟨j, hj, rfl⟩ := hy; exact HZ.out j hj) hne
  rw [hB_length] at R
  clear hown1 hgrow hp1
  go_wp2
  go_ret
  exact ⟨rfl, R⟩

end Go.Proofs.YthmmmkldmhjogaaGreatDoor
/- What was laid, read back. -/
namespace Go.Proofs.YthmmmkldmhjogaaGreatDoor
open Go.RowKit
theorem pow256_pos (k : Nat) : (0 : Int) < 256 ^ k := Int.pow_pos (by decide)

theorem fn_cons (a : Int) (l : List Int) (j : Nat) : fn (a :: l) (j + 1) = fn l j := rfl
theorem fn_dgs (t : Bool) (n : Int) (k q j : Nat) (h : j < q) : fn (dgs t n k q) j = dgt t n k j := by
 rw [fn_get _ _ (by rw [dgs_length]; exact h)]; simp [dgs]

theorem fn_append_right (a b : List Int) (j : Nat) : fn (a ++ b) (a.length + j) = fn b j := by
 simp [fn, List.getD_eq_getElem?_getD, List.getElem?_append_right]
end Go.Proofs.YthmmmkldmhjogaaGreatDoor
/- What is read is laid by the same bytes: numbers, counts, sums. -/
namespace Go.Proofs.YthmmmkldmhjogaaGreatDoor
open Go.RowKit

/-- A number up to a bound taken off. -/
def numM (M : Int) (q : Option (List Int)) : Int × Option (List Int) := tk (uintR M) 0 q
theorem valF_div {f : Nat → Int} : ∀ (k q : Nat), q ≤ k → (∀ j, j < k → 0 ≤ f j ∧ f j ≤ 255) → valF f k / 256 ^ (k - q) = valF f q
 | 0, q, h, _ => by obtain rfl : q = 0 := (by omega); simp
 | k + 1, q, h, hf => by
  by_cases e : q = k + 1
  ·subst e; simp
  ·have ih := valF_div k q (by omega) (fun j hj => hf j (by omega))
   have h1 : (256 * valF f k + f k) / 256 = valF f k := by have := hf k (by omega); omega
   rw [show k + 1 - q = (k - q) + 1 from by omega, Int.pow_succ, Int.mul_comm, ← Int.ediv_ediv_of_nonneg (by decide), valF, h1, ih]
theorem valF_digit {f : Nat → Int} {k j : Nat} (hj : j < k) (hf : ∀ j, j < k → 0 ≤ f j ∧ f j ≤ 255) : valF f k / 256 ^ (k - 1 - j) % 256 = f j := by
 rw [show k - 1 - j = k - (j + 1) from by omega, valF_div k (j + 1) (by omega) hf, valF]
 have := hf j hj
 omega
theorem sz_of {v : Int} {k : Nat} (hk : k ≤ 8) (h0 : 0 ≤ v) (h1 : v < 256 ^ k) (h2 : 0 < k → 256 ^ (k - 1) ≤ v) : sz v = k := by
 have hc : k = 0 ∨ k = 1 ∨ k = 2 ∨ k = 3 ∨ k = 4 ∨ k = 5 ∨ k = 6 ∨ k = 7 ∨ k = 8 := by omega
 rcases hc with h | h | h | h | h | h | h | h | h <;> subst h <;> simp only [Nat.reduceSub, Int.reducePow, Nat.lt_irrefl, false_imp_iff, Nat.zero_lt_succ, Int.pow_zero, forall_const] at h1 h2 <;> unfold sz <;> repeat' split
 all_goals omega
theorem valF_low {f : Nat → Int} {k : Nat} (hk : 0 < k) (hf : ∀ j, j < k → 0 ≤ f j ∧ f j ≤ 255) (h0 : f 0 ≠ 0) : 256 ^ (k - 1) ≤ valF f k := by
 have h1 := valF_div k 1 (by omega) hf
 have h2 : valF f 1 = f 0 := by simp [valF]
 have h3 := hf 0 hk
 have h4 : (256 : Int) ^ (k - 1) * (valF f k / 256 ^ (k - 1)) ≤ valF f k := Int.mul_ediv_self_le (by have := pow256_pos (k - 1); omega)
 rw [h1, h2] at h4
 have h5 : (256 : Int) ^ (k - 1) * 1 ≤ 256 ^ (k - 1) * f 0 := Int.mul_le_mul_of_nonneg_left (by omega) (Int.le_of_lt (pow256_pos _))
 omega
theorem list_fn {a b : List Int} (hl : a.length = b.length) (h : ∀ j, j < a.length → fn a j = fn b j) : a = b := by
 apply List.ext_getElem hl
 intro j h1 h2
 have := h j h1
 rw [fn_get a j h1, fn_get b j h2] at this
 exact this
theorem fn_take (l : List Int) (k j : Nat) (h : j < k) : fn (l.take k) j = fn l j := by simp [fn, List.getD_eq_getElem?_getD, h]
theorem uintR_laid {most v : Int} {l r : List Int} (hl : ∀ j, j < l.length → 0 ≤ fn l j ∧ fn l j ≤ 255) (h : uintR most l = some (v, r)) : l = uB v ++ r := by
 unfold uintR at h
 split at h
 ·rename_i hE
  have hE0 := hE
  cases h
  unfold uE at hE0
  split at hE0
  ·simp at hE0
  rename_i hn
  split at hE0
  ·simp at hE0
  rename_i h8
  split at hE0
  ·rename_i hnE
   have hz0 := hl 0 (by omega)
   have hV : uV l.length (fn l) most = valF (behind false (fn l)) (fn l 0).toNat := by rw [uV, if_pos hE, numV, if_pos hnE]
   have hN : uN l.length (fn l) most = 1 + (fn l 0).toNat := by rw [uN, if_pos hE]
   have hkn := numE_le hnE
   rw [hV, hN]
   obtain ⟨k, hk⟩ : ∃ k, (fn l 0).toNat = k := ⟨_, rfl⟩
   rw [hk] at hkn hnE ⊢
   have hf : ∀ j, j < k → 0 ≤ behind false (fn l) j ∧ behind false (fn l) j ≤ 255 := fun j hj => by
    have := hl (j + 1) (by omega)
    simpa [behind, trn] using this
   have hf0 : 0 < k → behind false (fn l) 0 ≠ 0 := fun hk0 h0 => by
    unfold numE at hnE
    rw [if_neg (by omega), if_pos ⟨hk0, h0⟩] at hnE
    simp at hnE
   have hb := valF_bd k hf
   have hsz : sz (valF (behind false (fn l)) k) = k := sz_of (by omega) hb.1 hb.2 (fun hk0 => valF_low hk0 hf (hf0 hk0))
   have ht : l.take (1 + k) = uB (valF (behind false (fn l)) k) := by
    apply list_fn
    ·simp only [List.length_take, uB, List.length_cons, dgs_length, hsz]; omega
    ·intro j hj
     rw [List.length_take] at hj
     rw [fn_take l _ j (by omega), uB, hsz]
     cases j with
     | zero => show fn l 0 = (k : Int); omega
     | succ j =>
      rw [fn_cons, fn_dgs _ _ _ _ _ (by omega), dgt, valF_digit (by omega) hf]
      simp [trn, behind]
   rw [← ht]
   exact (List.take_append_drop _ _).symm
  ·rename_i h1
   exact absurd hE0 h1
 ·cases h
theorem countR_u {most v : Int} {l r : List Int} (h : countR most l = some (v, r)) : uintR (max most 0) l = some (v, r) := by
 unfold countR at h
 split at h
 ·rename_i hE
  have hu := cE_u hE
  unfold uintR
  rw [if_pos hu]
  rw [cV, if_pos hE, cN, if_pos hE] at h
  exact h
 ·cases h
theorem hashR_laid {z : Nat → Int} {l r : List Int} (h : hashR l = some (z, r)) : l = hB z ++ r := by
 unfold hashR at h
 split at h
 ·cases h
 ·rename_i hn
  cases h
  have ht : l.take 32 = hB (fn l) := by
   apply list_fn
   ·simp [hB]; omega
   ·intro j hj
    rw [List.length_take] at hj
    rw [fn_take l _ j (by omega), fn_get (hB (fn l)) j (by simp [hB]; omega)]
    simp [hB]
  rw [← ht]
  exact (List.take_append_drop _ _).symm
theorem byq_right {a r : List Int} (h : ByQ (some (a ++ r))) : ByQ (some r) := by
 rintro l hl j hj
 cases hl
 have := h _ rfl (a.length + j) (by simp; omega)
 rwa [fn_append_right] at this
theorem tk_some {α : Type} {f : List Int → Option (α × List Int)} {d : α} {q : Option (List Int)} {r : List Int} (h : (tk f d q).2 = some r) : ∃ l, q = some l ∧ f l = some ((tk f d q).1, r) := by
 cases q with
 | none => cases h
 | some l =>
  refine ⟨l, rfl, ?_⟩
  simp only [tk] at h ⊢
  cases e : f l with
  | none => rw [e] at h; cases h
  | some x =>
   rw [e] at h
   cases h
   rfl
/-- Of a bound that is smaller. -/
theorem uintR_up {M1 M2 v : Int} {l r : List Int} (hM : M2 ≤ M1) (h : uintR M2 l = some (v, r)) : uintR M1 l = some (v, r) := by
 unfold uintR at h ⊢
 split at h
 ·rename_i hE
  have hE2 : uE l.length (fn l) M1 = 0 := by
   unfold uE at hE ⊢
   split at hE
   ·simp at hE
   rename_i h1
   rw [if_neg h1]
   split at hE
   ·simp at hE
   rename_i h2
   rw [if_neg h2]
   split at hE
   ·rename_i h3
    rw [if_pos h3]
    split at hE
    ·simp at hE
    ·rw [if_neg (by omega)]
   ·rename_i h3; exact absurd hE h3
  rw [if_pos hE2]
  rw [uV, if_pos hE, uN, if_pos hE] at h
  rw [uV, if_pos hE2, uN, if_pos hE2]
  exact h
 ·cases h
theorem uintR_down {M1 M2 v : Int} {l r : List Int} (hv : v ≤ M2) (h : uintR M1 l = some (v, r)) : uintR M2 l = some (v, r) := by
 unfold uintR at h ⊢
 split at h
 ·rename_i hE
  rw [uV, if_pos hE, uN, if_pos hE] at h
  have hvv : numV (l.length - 1) (behind false (fn l)) (fn l 0).toNat = v := by cases h; rfl
  have hE2 : uE l.length (fn l) M2 = 0 := by
   unfold uE at hE ⊢
   split at hE
   ·simp at hE
   rename_i h1
   rw [if_neg h1]
   split at hE
   ·simp at hE
   rename_i h2
   rw [if_neg h2]
   split at hE
   ·rename_i h3
    rw [if_pos h3, hvv, if_neg (by omega)]
   ·rename_i h3; exact absurd hE h3
  rw [if_pos hE2, uV, if_pos hE2, uN, if_pos hE2]
  exact h
 ·cases h
end Go.Proofs.YthmmmkldmhjogaaGreatDoor
