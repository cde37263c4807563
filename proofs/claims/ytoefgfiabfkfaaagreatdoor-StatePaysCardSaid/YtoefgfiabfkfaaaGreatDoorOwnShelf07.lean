/- BLAKE2s on plain numbers: bytes fed one by one, the sum; cut anyhow, the same. -/
import Derived.Test.YtoefgfiabfkfaaaGreatDoorOwnShelf04
import Derived.Test.YtoefgfiabfkfaaaGreatDoorOwnShelf06
namespace Go.Proofs.YtoefgfiabfkfaaaGreatDoor

/-- A sum under way: its words, how many bytes were taken in, those that wait. -/
structure Sm where
 h : List Nat
 t : Nat
 b : List Nat
def feed1 (s : Sm) (x : Nat) : Sm := if s.b.length = 64 then ⟨cF s.h s.b (s.t + 64) false, s.t + 64, [x]⟩ else ⟨s.h, s.t, s.b ++ [x]⟩
def feed (s : Sm) (l : List Nat) : Sm := l.foldl feed1 s
theorem feed_cons (s : Sm) (x : Nat) (l : List Nat) : feed s (x :: l) = feed (feed1 s x) l := rfl
theorem feed_append (s : Sm) (l r : List Nat) : feed s (l ++ r) = feed (feed s l) r := List.foldl_append
/-- There is room for all. -/
theorem feed_room (h : List Nat) (t : Nat) : ∀ (l b : List Nat), b.length + l.length ≤ 64 → feed ⟨h, t, b⟩ l = ⟨h, t, b ++ l⟩
 | [], b, _ => by simp [feed]
 | x :: l, b, hl => by
  simp only [List.length_cons] at hl
  rw [feed_cons]
  have : feed1 ⟨h, t, b⟩ x = ⟨h, t, b ++ [x]⟩ := if_neg (by show ¬ b.length = 64; omega)
  rw [this, feed_room h t l (b ++ [x]) (by simp; omega)]
  simp
/-- A block is full: it is taken in first. -/
theorem feed_full (h : List Nat) (t : Nat) (b l : List Nat) (hb : b.length = 64) (hl : 0 < l.length) (hl2 : l.length ≤ 64) : feed ⟨h, t, b⟩ l = ⟨cF h b (t + 64) false, t + 64, l⟩ := by
 cases l with
 | nil => simp at hl
 | cons x l =>
  rw [feed_cons]
  have : feed1 ⟨h, t, b⟩ x = ⟨cF h b (t + 64) false, t + 64, [x]⟩ := if_pos hb
  rw [this, feed_room _ _ l [x] (by simp at hl2 ⊢; omega)]
  simp
/-- The sum's bytes. -/
def leP (h : List Nat) (j : Nat) : Nat := (h.getD (j / 4) 0 >>> (8 * (j % 4))) % 256
def endL (h : List Nat) : List Nat := (List.range 32).map (leP h)
def pad (b : List Nat) : List Nat := b ++ List.replicate (64 - b.length) 0
def sumS (s : Sm) : List Nat := endL (cF s.h (pad s.b) (s.t + s.b.length) true)
/-- The words as they are begun under a key of n bytes; the sum begun. -/
def h0 (n : Nat) : List Nat := firstL.set 0 (xorW (firstL.getD 0 0) (xorW 16842784 (n * 256 % 4294967296)))
def new0 (k : List Nat) : Sm := if k.length = 0 then ⟨h0 0, 0, []⟩ else ⟨h0 k.length, 0, pad k⟩
/-- The sum of bytes under a key, and under none. -/
def keyedF (k b : List Nat) : List Nat := sumS (feed (new0 k) b)
def sumF (b : List Nat) : List Nat := keyedF [] b
theorem pad_len {b : List Nat} (h : b.length ≤ 64) : (pad b).length = 64 := by simp [pad]; omega
theorem getD_append_lt {a b : List Nat} {i : Nat} (ha : ∀ i, a.getD i 0 < 256) (hb : ∀ i, b.getD i 0 < 256) : (a ++ b).getD i 0 < 256 := by
 rw [List.getD_eq_getElem?_getD, List.getElem?_append]
 split
 ·simpa [List.getD_eq_getElem?_getD] using ha i
 ·simpa [List.getD_eq_getElem?_getD] using hb (i - a.length)
theorem zeros_lt (n i : Nat) : (List.replicate n 0).getD i 0 < 256 := by
 rw [List.getD_eq_getElem?_getD, List.getElem?_replicate]; split <;> decide
theorem pad_by {b : List Nat} (h : b.length ≤ 64) (hb : ∀ i, b.getD i 0 < 256) : By 64 (pad b) := ⟨pad_len h, fun _ => getD_append_lt hb (zeros_lt _)⟩
theorem h0_ok (n : Nat) : Wd 8 (h0 n) := firstL_ok.set 0 (xorW_lt (firstL_ok.2 0) (xorW_lt (by decide) (Nat.mod_lt _ (by decide))))
/-- What holds of a sum under way. -/
structure Sm.Ok (s : Sm) : Prop where
 h : Wd 8 s.h
 l : s.b.length ≤ 64
 b : ∀ i, s.b.getD i 0 < 256
theorem new0_ok {k : List Nat} (hk : k.length ≤ 32) (hb : ∀ i, k.getD i 0 < 256) : (new0 k).Ok := by
 unfold new0
 split
 ·exact ⟨h0_ok 0, by simp, by simp⟩
 ·exact ⟨h0_ok _, by rw [pad_len (by omega)]; omega, (pad_by (by omega) hb).2⟩
theorem feed1_ok {s : Sm} {x : Nat} (hs : s.Ok) (hx : x < 256) : (feed1 s x).Ok := by
 have h1 : ∀ i, ([x] : List Nat).getD i 0 < 256 := fun i => by cases i <;> simp [hx]
 unfold feed1
 split
 ·exact ⟨cF_ok hs.h _ _, by simp, h1⟩
 ·exact ⟨hs.h, by have := hs.l; simp; omega, fun _ => getD_append_lt hs.b h1⟩
theorem feed_ok : ∀ (l : List Nat) (s : Sm), s.Ok → (∀ i, l.getD i 0 < 256) → (feed s l).Ok
 | [], _, hs, _ => hs
 | x :: l, s, hs, hl => feed_ok l _ (feed1_ok hs (by simpa using hl 0)) (fun i => by simpa using hl (i + 1))
theorem feed1_t {s : Sm} {x : Nat} : (feed1 s x).t + (feed1 s x).b.length = s.t + s.b.length + 1 := by
 unfold feed1
 split
 ·simp; omega
 ·simp; omega
/-- How many bytes it has. -/
theorem feed_t : ∀ (l : List Nat) (s : Sm), (feed s l).t + (feed s l).b.length = s.t + s.b.length + l.length
 | [], s => by simp [feed]
 | x :: l, s => by rw [feed_cons, feed_t l, feed1_t]; simp; omega
theorem endL_len (h : List Nat) : (endL h).length = 32 := by simp [endL]
theorem endL_lt (h : List Nat) (i : Nat) : (endL h).getD i 0 < 256 := by
 simp only [endL, List.getD_eq_getElem?_getD, List.getElem?_map]
 cases (List.range 32)[i]? with
 | none => simp
 | some j => exact Nat.mod_lt _ (by decide)
end Go.Proofs.YtoefgfiabfkfaaaGreatDoor
/- A sum begun: blake.New. -/
namespace Go.Proofs.YtoefgfiabfkfaaaGreatDoor
open Go.RowKit

/-- The bytes b lie at ad. -/
def SlB (w : World) (ad : Option Addr) (b : List Nat) : Prop := 0 < b.length → ∃ g o, ad = some ⟨g, o, none⟩ ∧ w.rangeAt g o (sl8 b)
theorem SlB.nil (w : World) (ad : Option Addr) : SlB w ad [] := fun h => by simp at h
theorem range_keep {w w' : World} {S : List Nat} {g o : Nat} {l : List Value} (h : w.rangeAt g o l) (hf : Frm S w w') (hg : g ∉ S) : w'.rangeAt g o l := by
 intro j u hu
 have hc := h j u hu
 have hlt := World.block_lt_of_cell? w _ hc
 rw [← hc]
 simp [World.cell?, hf.block g hlt hg]
theorem SlB.keep {w w' : World} {ad : Option Addr} {b : List Nat} {S : List Nat} (h : SlB w ad b) (hf : Frm S w w') (hn : ∀ g o, ad = some ⟨g, o, none⟩ → 0 < b.length → g ∉ S) : SlB w' ad b := fun hl => by
 obtain ⟨g, o, rfl, hr⟩ := h hl
 exact ⟨g, o, rfl, range_keep hr hf (hn g o rfl hl)⟩
def z64 : List Nat := List.replicate 64 0
theorem z64_by : By 64 z64 := ⟨by simp [z64], fun i => zeros_lt 64 i⟩
theorem run_buildSt (w : World) : (Instr.build 140 #[(0, .agg (wv firstL))]).run Tryz.prog w = .ok (.agg (stc firstL 0 z64 0 0)) w := by kernel_rfl
section
variable {ops : Array Oper} {rest : List Oper} {o : Oper} {a : Act} {w : World} {Q : Exit → Act → World → Prop}
theorem wpList_buildSt (hgd : o.guard = none) (x : Operand) (ho : o.op = .build 140 #[(0, x)]) (hx : a.eval x = .agg (wv firstL))
  (h : wpList Tryz.prog ops Q rest (a.put o.dst (.agg (stc firstL 0 z64 0 0))) w) : wpList Tryz.prog ops Q (o :: rest) a w := by
 refine wpList_plain hgd fun K hK => ?_
 unfold Oper.wp execOp
 simp only [ho, List.map_toArray, List.map_cons, List.map_nil, hx, Sem.run_bind, run_buildSt, Result.andThen]
 exact hK _ _ h
end

/-- The row of a State behind a copy into its block. -/
theorem stc_copy {h b c : List Nat} {tk fl : Nat} {wr : Int} (hh : h.length = 8) (hb : b.length = 64) {o : Nat} (ho : o + c.length ≤ 64) :
  ((stc h tk b fl wr).toList.take (9 + o) ++ (sl8 c ++ (stc h tk b fl wr).toList.drop (9 + o + (sl8 c).length))).toArray = stc h tk (b.take o ++ (c ++ b.drop (o + c.length))) fl wr := by
 have e : (stc h tk b fl wr).toList = stl h tk b fl wr := by simp [stc]
 have e2 : stl h tk b fl wr = (wl h ++ [.int .u64 (tk : Nat)]) ++ (sl8 b ++ [.int .i64 (fl : Nat), .int .i64 wr]) := by simp [stl]
 have l9 : (wl h ++ [Value.int .u64 (tk : Nat)]).length = 9 := by simp [wl_len, hh]
 rw [e, e2, List.take_append, List.drop_append, l9, List.take_of_length_le (by omega), List.drop_of_length_le (by omega)]
 rw [show 9 + o - 9 = o by omega, show 9 + o + (sl8 c).length - 9 = o + (sl8 c).length by omega]
 rw [List.take_append_of_le_length (by rw [sl8_len, hb]; omega), List.drop_append_of_le_length (by rw [sl8_len, sl8_len, hb]; omega)]
 simp [stc, stl, sl8, List.map_take, List.map_drop, List.map_append]

theorem sl8_one (c : List Nat) : ∀ v ∈ sl8 c, v.oneCell' = true := by
 intro u hu
 obtain ⟨x, _, rfl⟩ := List.mem_map.1 hu
 rfl
/-- 'copy(s.block[o:], b)': the chunk c goes over. -/
theorem wp_copyS {o : Oper} {a : Act} {w : World} {K : Act → World → Prop} {Q : Exit → Act → World → Prop} (d s : Operand) (ho : o.op = .call ⟨.builtin .copy, #[d, s], #[31, 31]⟩)
  {p f g so sLen sCap dCap dLen : Nat} {h b c : List Nat} {tk fl : Nat} {wr : Int} (hd : a.eval d = .slice (some ⟨p, 9 + f, none⟩) dLen dCap) (hs : a.eval s = .slice (some ⟨g, so, none⟩) sLen sCap)
  (hp : w.heap[p]? = some (.cells (stc h tk b fl wr) 140 (0, 0))) (hh : h.length = 8) (hb : b.length = 64) (hc : c.length = Nat.min sLen dLen) (hf : f + dLen ≤ 64) (hsrc : w.rangeAt g so (sl8 c))
  (hK : ∀ w', w'.heap[p]? = some (.cells (stc h tk (b.take f ++ (c ++ b.drop (f + c.length))) fl wr) 140 (0, 0)) → Frm [p] w w' → K (a.put o.dst (.int .i64 (c.length : Nat))) w') : o.wp Tryz.prog a w K Q := by
 have hfc : f + c.length ≤ 64 := by have h1 : Nat.min sLen dLen ≤ dLen := Nat.min_le_right _ _; rw [← hc] at h1; omega
 have hrun := run_copy_row (P := Tryz.prog) w 31 31 o.type 5 p (9 + f) dLen dCap ⟨g, so, none⟩ sLen sCap (stc h tk b fl wr) 140 (sl8 c) Tryz.underlying31 (by kernel_rfl) hp (by rw [sl8_len]; exact hc)
  (by
   intro j v hj
   have := hsrc j v hj
   by_cases h0 : j = 0
   ·subst h0; simpa [Addr.add] using this
   ·simpa [Addr.add, h0] using this)
  (by rw [stc_size hh hb, sl8_len]; omega) (sl8_one c)
 have hlt := lt_of_block hp
 have h1 := hK (w.setRow p ((stc h tk b fl wr).toList.take (9 + f) ++ sl8 c ++ (stc h tk b fl wr).toList.drop (9 + f + (sl8 c).length)).toArray) (by
   rw [List.append_assoc, stc_copy hh hb hfc]
   have h' : w.heap[p] = .cells (stc h tk b fl wr) 140 (0, 0) := by simpa [Array.getElem?_eq_getElem hlt] using hp
   simp only [World.setRow]
   rw [Array.getElem?_eq_getElem (by simpa using hlt), Array.getElem_modify_self, h'])
  (by
   refine ⟨rfl, rfl, rfl, by simp, fun k _ hk => ?_⟩
   simp only [World.setRow, Array.getElem?_modify]
   rw [if_neg (fun e => hk (by simp [e]))])
 unfold Oper.wp
 simp [execOp, ho, resolve, invoke, builtin, hd, hs, hrun, Result.andThen, goInt, sl8_len]
 rw [List.append_assoc, sl8_len] at h1
 exact h1

theorem wpList_copyS {ops : Array Oper} {rest : List Oper} {o : Oper} {a : Act} {w : World} {Q : Exit → Act → World → Prop} (hgd : o.guard = none) (d s : Operand) (ho : o.op = .call ⟨.builtin .copy, #[d, s], #[31, 31]⟩)
  {p f g so sLen sCap dCap dLen : Nat} {h b c : List Nat} {tk fl : Nat} {wr : Int} (hd : a.eval d = .slice (some ⟨p, 9 + f, none⟩) dLen dCap) (hs : a.eval s = .slice (some ⟨g, so, none⟩) sLen sCap)
  (hp : w.heap[p]? = some (.cells (stc h tk b fl wr) 140 (0, 0))) (hh : h.length = 8) (hb : b.length = 64) (hc : c.length = Nat.min sLen dLen) (hf : f + dLen ≤ 64) (hsrc : w.rangeAt g so (sl8 c))
  (hK : ∀ w', w'.heap[p]? = some (.cells (stc h tk (b.take f ++ (c ++ b.drop (f + c.length))) fl wr) 140 (0, 0)) → Frm [p] w w' → wpList Tryz.prog ops Q rest (a.put o.dst (.int .i64 (c.length : Nat))) w') : wpList Tryz.prog ops Q (o :: rest) a w :=
 wpList_plain hgd fun _ hKK => wp_copyS d s ho hd hs hp hh hb hc hf hsrc (fun w' h1 h2 => hKK _ _ (hK w' h1 h2))

theorem new_end {w W1 W2 : World} {K : List Nat} (h2 : K.length ≤ 32) (hp2 : W2.heap[w.heap.size]? = some (.cells (stc (h0 K.length) 0 (z64.take 0 ++ (K ++ z64.drop (0 + K.length))) 0 0) 140 (0, 0))) (h1 : Frm [] w W1) (hf2 : Frm [w.heap.size] W1 W2) :
  (W2.setCell ⟨w.heap.size, 73, none⟩ (.int .i64 64)).heap[w.heap.size]? = some (.cells (stc (h0 K.length) 0 (pad K) 64 0) 140 (0, 0)) ∧ Frm [] w (W2.setCell ⟨w.heap.size, 73, none⟩ (.int .i64 64)) := by
 have e : z64.take 0 ++ (K ++ z64.drop (0 + K.length)) = pad K := by rw [Nat.zero_add, List.take_zero, List.nil_append, pad, z64, List.drop_replicate]
 rw [e] at hp2
 refine ⟨?_, (((h1.mono (T := [w.heap.size]) (by simp)).trans hf2).setCell _ _ (by simp)).old (fun k hk hlt => by simp at hk; omega)⟩
 have := heap_set_row (j := 73) (u := .int .i64 ((64 : Nat) : Int)) hp2
 rw [stc_set_f (h0_ok _).1 (pad_len (by omega))] at this
 exact this

set_option maxRecDepth 20000 in
set_option maxHeartbeats 4000000 in
theorem new_none (ad : Option Addr) (cap : Nat)  (w : World) (hT : Tab w) :
  Calls Tryz.prog 66 #[.slice ad 0 cap] w fun e w' => e = .returned (.tuple #[.pointer (some ⟨w.heap.size, 0, none⟩), .nilIface]) ∧ w'.heap[w.heap.size]? = some (.cells (stc (h0 0) 0 z64 0 0) 140 (0, 0)) ∧ Frm [] w w' := by
 obtain ⟨⟨t0, fr0, hfst⟩, -⟩ := hT
 have hn0 := heap_alloc_new w (.cells (stc firstL 0 z64 0 0) 140)
 have hF0 : Frm [] w (w.alloc (.cells (stc firstL 0 z64 0 0) 140)) := (Frm.refl _ w).alloc _
 go_enter Tryz.func66, Tryz.ntmps66
 go_wp2_with (first | (refine wpList_loadF rfl _ rfl 1 rfl firstL firstL_ok.1 _ _ hfst ?_) | (refine wpList_buildSt rfl _ rfl rfl ?_) | (refine Go.Great.wpList_boxTo rfl _ _ rfl _ rfl _ rfl (stc firstL 0 z64 0 0) rfl ?_) | fail)
 generalize w.alloc (.cells (stc firstL 0 z64 0 0) 140) = W0 at *
 obtain ⟨x, hx⟩ : ∃ x, x = firstL.getD 0 0 := ⟨_, rfl⟩
 have lx : x < 4294967296 := by rw [hx]; exact firstL_ok.2 0
 have d1 : W0.drew.cell? ⟨w.heap.size, 0, none⟩ = some (.int .u32 (x : Nat)) := by rw [cell_of_row W0.drew _ 0 _ _ _ hn0, hx]; exact stc_w firstL_ok.1 (by decide)
 have d2 : W0.drew.frozen? ⟨w.heap.size, 0, none⟩ = false := frozen_of_row W0.drew _ 0 _ _ hn0
 have n1 : bits .xor .u32 16842784 0 = 16842784 := by kernel_rfl
 obtain ⟨y, hy⟩ : ∃ y, y = xorW x 16842784 := ⟨_, rfl⟩
 have n2 : bits .xor .u32 (x : Int) 16842784 = (y : Nat) := by rw [hy]; exact xor_W x 16842784 lx (by decide)
 have HN : Hid ((W0.setCell ⟨w.heap.size, 0, none⟩ (.int .u32 (y : Nat))).drew.heap[w.heap.size]? = some (.cells (stc (h0 0) 0 z64 0 0) 140 (0, 0)) ∧ Frm [] w (W0.setCell ⟨w.heap.size, 0, none⟩ (.int .u32 (y : Nat))).drew) := by
  refine ⟨?_, ?_⟩
  ·have := heap_set_row (j := 0) (u := .int .u32 (y : Nat)) hn0
   rw [stc_set_w firstL_ok.1 (by decide)] at this
   show (W0.setCell ⟨w.heap.size, 0, none⟩ (.int .u32 (y : Nat))).heap[w.heap.size]? = _
   rw [this, hy, hx]; rfl
  ·exact (((hF0.mono (T := [w.heap.size]) (by simp)).setCell _ _ (by simp)).drew).old (fun k hk hlt => by simp at hk; omega)
 clear hx hn0 hF0 hy
 refine region_seq (c := 14) (f := 60) (ts := [(0, 0), (0, 1), (0, 2), (0, 3), (1, 4), (0, 5), (0, 6), (0, 7), (0, 8), (0, 9), (0, 10), (0, 11), (0, 12), (0, 13), (2, 14)]) (by kernel_rfl) (by kernel_rfl) ?_
 refine seq_W (o := ⟨some 12, .move (.tmp 4), 113, _, _, none⟩) (v := ?_) rfl rfl (fun wz => ?_) ?_
 rotate_left
 ·go_simp; (try with_reducible rfl)
 try simp only [Act.put, sqA, sqB, sqC]
 refine seq_W (o := ⟨some 13, .nilCheck (.tmp 12), 0, _, _, none⟩) (v := ?_) rfl rfl (fun wz => ?_) ?_
 rotate_left
 ·go_simp; (try with_reducible rfl)
 try simp only [Act.put, sqA, sqB, sqC]
 refine seq_W (o := ⟨some 14, .fieldAddr 140 (.tmp 13) 0, 0, _, _, none⟩) (v := ?_) rfl rfl (fun wz => ?_) ?_
 rotate_left
 ·go_simp; (try with_reducible rfl)
 try simp only [Act.put, sqA, sqB, sqC]
 refine seq_W (o := ⟨some 15, .indexAddr 137 (.tmp 14) (.const (.int .i64 0)), 0, _, _, none⟩) (v := ?_) rfl rfl (fun wz => ?_) ?_
 rotate_left
 ·go_simp; (try with_reducible rfl)
 try simp only [Act.put, sqA, sqB, sqC]
 refine seq_R (o := ⟨some 16, .load 120 (.tmp 15), 120, _, _, none⟩) (v := ?_) rfl rfl ?_ ?_
 rotate_left
 ·go_simp; (try with_reducible rfl)
 try simp only [Act.put, sqA, sqB, sqC]
 refine seq_W (o := ⟨some 17, .move (.tmp 0), 31, _, _, none⟩) (v := ?_) rfl rfl (fun wz => ?_) ?_
 rotate_left
 ·go_simp; (try with_reducible rfl)
 try simp only [Act.put, sqA, sqB, sqC]
 refine seq_W (o := ⟨some 18, .call ⟨.builtin .len, #[.tmp 17], #[31]⟩, 3, _, _, none⟩) (v := ?_) rfl rfl (fun wz => ?_) ?_
 rotate_left
 ·go_simp; (try with_reducible rfl)
 try simp only [Act.put, sqA, sqB, sqC]
 refine seq_W (o := ⟨some 19, .convert 3 120 (.tmp 18), 120, _, _, none⟩) (v := ?_) rfl rfl (fun wz => ?_) ?_
 rotate_left
 ·go_simp; (try with_reducible rfl)
 try simp only [Act.put, sqA, sqB, sqC]
 refine seq_W (o := ⟨some 20, .binOp .shl 120 (.tmp 19) (.const (.int .u64 8)) 111, 120, _, _, none⟩) (v := ?_) rfl rfl (fun wz => ?_) ?_
 rotate_left
 ·go_simp; (try with_reducible rfl)
 try simp only [Act.put, sqA, sqB, sqC]
 refine seq_W (o := ⟨some 21, .binOp .xor 120 (.const (.int .u32 16842784)) (.tmp 20) 120, 120, _, _, none⟩) (v := ?_) rfl rfl (fun wz => ?_) ?_
 rotate_left
 ·go_simp; (try with_reducible rfl)
 try simp only [Act.put, sqA, sqB, sqC]
 refine seq_W (o := ⟨some 22, .binOp .xor 120 (.tmp 16) (.tmp 21) 120, 120, _, _, none⟩) (v := ?_) rfl rfl (fun wz => ?_) ?_
 rotate_left
 ·go_simp; (try with_reducible rfl)
 try simp only [Act.put, sqA, sqB, sqC]
 refine seq_W (o := ⟨some 23, .nilCheck (.tmp 12), 0, _, _, none⟩) (v := ?_) rfl rfl (fun wz => ?_) ?_
 rotate_left
 ·go_simp; (try with_reducible rfl)
 try simp only [Act.put, sqA, sqB, sqC]
 refine seq_W (o := ⟨some 24, .fieldAddr 140 (.tmp 23) 0, 0, _, _, none⟩) (v := ?_) rfl rfl (fun wz => ?_) ?_
 rotate_left
 ·go_simp; (try with_reducible rfl)
 try simp only [Act.put, sqA, sqB, sqC]
 refine seq_W (o := ⟨some 25, .indexAddr 137 (.tmp 24) (.const (.int .i64 0)), 0, _, _, none⟩) (v := ?_) rfl rfl (fun wz => ?_) ?_
 rotate_left
 ·go_simp; (try with_reducible rfl)
 try simp only [Act.put, sqA, sqB, sqC]
 refine seq_A (o := ⟨none, .store 120 (.tmp 25) (.tmp 22), 0, _, _, none⟩) rfl rfl (fun K hK => ?_)
 go_simp
 refine hK _ _ ?_
 clear hK K
 try simp only [Act.put, sqA, sqB, sqC]
 refine seq_nil (NoPanic.normal ?_)
 try simp only [Act.put, sqA, sqB, sqC]
 clear d1 d2
 go_wp2
 exact bodyPost_ret (v := .tuple #[.pointer (some ⟨w.heap.size, 0, none⟩), .nilIface]) (by simp [results, Tryz.results66, go_sem]) rfl ⟨rfl, HN.out.1, HN.out.2⟩
set_option maxRecDepth 20000 in
set_option maxHeartbeats 4000000 in
theorem new_key (w : World) (ad : Option Addr) (cap : Nat) (K : List Nat) (hK : SlB w ad K) (h1 : 0 < K.length) (h2 : K.length ≤ 32) (hT : Tab w) :
  Calls Tryz.prog 66 #[.slice ad K.length cap] w fun e w' => e = .returned (.tuple #[.pointer (some ⟨w.heap.size, 0, none⟩), .nilIface]) ∧ w'.heap[w.heap.size]? = some (.cells (stc (h0 K.length) 0 (pad K) 64 0) 140 (0, 0)) ∧ Frm [] w w' := by
 obtain ⟨⟨t0, fr0, hfst⟩, -⟩ := hT
 have hn0 := heap_alloc_new w (.cells (stc firstL 0 z64 0 0) 140)
 have hF0 : Frm [] w (w.alloc (.cells (stc firstL 0 z64 0 0) 140)) := (Frm.refl _ w).alloc _
 obtain ⟨g, o, rfl, hr⟩ := hK h1
 have HK0 : Hid (w.rangeAt g o (sl8 K)) := hr
 clear hr
 have h1' : (0 : Int) < K.length := by omega
 have h2' : (K.length : Int) ≤ 32 := by omega
 clear hK
 go_enter Tryz.func66, Tryz.ntmps66
 go_wp2_with (first | (refine wpList_loadF rfl _ rfl 1 rfl firstL firstL_ok.1 _ _ hfst ?_) | (refine wpList_buildSt rfl _ rfl rfl ?_) | (refine Go.Great.wpList_boxTo rfl _ _ rfl _ rfl _ rfl (stc firstL 0 z64 0 0) rfl ?_) | fail)
 generalize w.alloc (.cells (stc firstL 0 z64 0 0) 140) = W0 at *
 obtain ⟨x, hx⟩ : ∃ x, x = firstL.getD 0 0 := ⟨_, rfl⟩
 have lx : x < 4294967296 := by rw [hx]; exact firstL_ok.2 0
 have d1 : W0.drew.cell? ⟨w.heap.size, 0, none⟩ = some (.int .u32 (x : Nat)) := by rw [cell_of_row W0.drew _ 0 _ _ _ hn0, hx]; exact stc_w firstL_ok.1 (by decide)
 have d2 : W0.drew.frozen? ⟨w.heap.size, 0, none⟩ = false := frozen_of_row W0.drew _ 0 _ _ hn0
 have e1 : IntKind.u32.wrap (K.length : Int) = K.length := by rw [IntKind.wrap_u32]; omega
 have e2 : IntKind.u32.wrap ((K.length : Int) * 256) = ((K.length * 256 % 4294967296 : Nat) : Int) := by rw [IntKind.wrap_u32]; omega
 obtain ⟨u, hu⟩ : ∃ u, u = K.length * 256 % 4294967296 := ⟨_, rfl⟩
 rw [← hu] at e2
 have lu : u < 4294967296 := by rw [hu]; exact Nat.mod_lt _ (by decide)
 obtain ⟨v, hv⟩ : ∃ v, v = xorW 16842784 u := ⟨_, rfl⟩
 have lv : v < 4294967296 := by rw [hv]; exact xorW_lt (by decide) lu
 have n1 : bits .xor .u32 16842784 (u : Int) = (v : Nat) := by rw [hv]; exact xor_W 16842784 u (by decide) lu
 obtain ⟨y, hy⟩ : ∃ y, y = xorW x v := ⟨_, rfl⟩
 have n2 : bits .xor .u32 (x : Int) (v : Int) = (y : Nat) := by rw [hy]; exact xor_W x v lx lv
 have HN : Hid ((W0.setCell ⟨w.heap.size, 0, none⟩ (.int .u32 (y : Nat))).drew.heap[w.heap.size]? = some (.cells (stc (h0 K.length) 0 z64 0 0) 140 (0, 0)) ∧ Frm [] w (W0.setCell ⟨w.heap.size, 0, none⟩ (.int .u32 (y : Nat))).drew) := by
  refine ⟨?_, ?_⟩
  ·have := heap_set_row (j := 0) (u := .int .u32 (y : Nat)) hn0
   rw [stc_set_w firstL_ok.1 (by decide)] at this
   show (W0.setCell ⟨w.heap.size, 0, none⟩ (.int .u32 (y : Nat))).heap[w.heap.size]? = _
   rw [this, hy, hv, hu, hx]; rfl
  ·exact (((hF0.mono (T := [w.heap.size]) (by simp)).setCell _ _ (by simp)).drew).old (fun k hk hlt => by simp at hk; omega)
 clear hx hn0 hF0 hy hv hu
 refine region_seq (c := 14) (f := 60) (ts := [(0, 0), (0, 1), (0, 2), (0, 3), (1, 4), (0, 5), (0, 6), (0, 7), (0, 8), (0, 9), (0, 10), (0, 11), (0, 12), (0, 13), (2, 14)]) (by kernel_rfl) (by kernel_rfl) ?_
 refine seq_W (o := ⟨some 12, .move (.tmp 4), 113, _, _, none⟩) (v := ?_) rfl rfl (fun wz => ?_) ?_
 rotate_left
 ·go_simp; (try with_reducible rfl)
 try simp only [Act.put, sqA, sqB, sqC]
 refine seq_W (o := ⟨some 13, .nilCheck (.tmp 12), 0, _, _, none⟩) (v := ?_) rfl rfl (fun wz => ?_) ?_
 rotate_left
 ·go_simp; (try with_reducible rfl)
 try simp only [Act.put, sqA, sqB, sqC]
 refine seq_W (o := ⟨some 14, .fieldAddr 140 (.tmp 13) 0, 0, _, _, none⟩) (v := ?_) rfl rfl (fun wz => ?_) ?_
 rotate_left
 ·go_simp; (try with_reducible rfl)
 try simp only [Act.put, sqA, sqB, sqC]
 refine seq_W (o := ⟨some 15, .indexAddr 137 (.tmp 14) (.const (.int .i64 0)), 0, _, _, none⟩) (v := ?_) rfl rfl (fun wz => ?_) ?_
 rotate_left
 ·go_simp; (try with_reducible rfl)
 try simp only [Act.put, sqA, sqB, sqC]
 refine seq_R (o := ⟨some 16, .load 120 (.tmp 15), 120, _, _, none⟩) (v := ?_) rfl rfl ?_ ?_
 rotate_left
 ·go_simp; (try with_reducible rfl)
 try simp only [Act.put, sqA, sqB, sqC]
 refine seq_W (o := ⟨some 17, .move (.tmp 0), 31, _, _, none⟩) (v := ?_) rfl rfl (fun wz => ?_) ?_
 rotate_left
 ·go_simp; (try with_reducible rfl)
 try simp only [Act.put, sqA, sqB, sqC]
 refine seq_W (o := ⟨some 18, .call ⟨.builtin .len, #[.tmp 17], #[31]⟩, 3, _, _, none⟩) (v := ?_) rfl rfl (fun wz => ?_) ?_
 rotate_left
 ·go_simp; (try with_reducible rfl)
 try simp only [Act.put, sqA, sqB, sqC]
 refine seq_W (o := ⟨some 19, .convert 3 120 (.tmp 18), 120, _, _, none⟩) (v := ?_) rfl rfl (fun wz => ?_) ?_
 rotate_left
 ·go_simp; (try with_reducible rfl)
 try simp only [Act.put, sqA, sqB, sqC]
 refine seq_W (o := ⟨some 20, .binOp .shl 120 (.tmp 19) (.const (.int .u64 8)) 111, 120, _, _, none⟩) (v := ?_) rfl rfl (fun wz => ?_) ?_
 rotate_left
 ·go_simp; (try with_reducible rfl)
 try simp only [Act.put, sqA, sqB, sqC]
 refine seq_W (o := ⟨some 21, .binOp .xor 120 (.const (.int .u32 16842784)) (.tmp 20) 120, 120, _, _, none⟩) (v := ?_) rfl rfl (fun wz => ?_) ?_
 rotate_left
 ·go_simp; (try with_reducible rfl)
 try simp only [Act.put, sqA, sqB, sqC]
 refine seq_W (o := ⟨some 22, .binOp .xor 120 (.tmp 16) (.tmp 21) 120, 120, _, _, none⟩) (v := ?_) rfl rfl (fun wz => ?_) ?_
 rotate_left
 ·go_simp; (try with_reducible rfl)
 try simp only [Act.put, sqA, sqB, sqC]
 refine seq_W (o := ⟨some 23, .nilCheck (.tmp 12), 0, _, _, none⟩) (v := ?_) rfl rfl (fun wz => ?_) ?_
 rotate_left
 ·go_simp; (try with_reducible rfl)
 try simp only [Act.put, sqA, sqB, sqC]
 refine seq_W (o := ⟨some 24, .fieldAddr 140 (.tmp 23) 0, 0, _, _, none⟩) (v := ?_) rfl rfl (fun wz => ?_) ?_
 rotate_left
 ·go_simp; (try with_reducible rfl)
 try simp only [Act.put, sqA, sqB, sqC]
 refine seq_W (o := ⟨some 25, .indexAddr 137 (.tmp 24) (.const (.int .i64 0)), 0, _, _, none⟩) (v := ?_) rfl rfl (fun wz => ?_) ?_
 rotate_left
 ·go_simp; (try with_reducible rfl)
 try simp only [Act.put, sqA, sqB, sqC]
 refine seq_A (o := ⟨none, .store 120 (.tmp 25) (.tmp 22), 0, _, _, none⟩) rfl rfl (fun K hK => ?_)
 go_simp
 refine hK _ _ ?_
 clear hK K
 try simp only [Act.put, sqA, sqB, sqC]
 refine seq_nil (NoPanic.normal ?_)
 try simp only [Act.put, sqA, sqB, sqC]
 clear d1 d2
 generalize (W0.setCell ⟨w.heap.size, 0, none⟩ (.int .u32 (y : Nat))).drew = W1 at *
 clear e1 e2 n1 n2 lx lu lv
 have hK2 := range_keep HK0.out HN.out.2 (by simp)
 have hcp : w.heap.size < W1.heap.size := lt_of_block HN.out.1
 have hp1 := HN.out.1
 go_wp2_with (first | (refine wpList_copyS rfl _ _ rfl (f := 0) (c := K) rfl rfl hp1 (h0_ok _).1 z64_by.1 (Nat.min_eq_left (by omega)).symm (by omega) hK2 ?_; intro W2 hp2 hf2; have c73 : W2.cell? ⟨w.heap.size, 73, none⟩ = some (.int .i64 (0 : Nat)) := (by rw [cell_of_row _ _ 73 _ _ _ hp2]; exact stc_f (h0_ok _).1 (by simp [z64]; omega)); have f73 : W2.frozen? ⟨w.heap.size, 73, none⟩ = false := frozen_of_row _ _ 73 _ _ hp2; have HE : Hid ((W2.setCell ⟨w.heap.size, 73, none⟩ (.int .i64 64)).heap[w.heap.size]? = some (.cells (stc (h0 K.length) 0 (pad K) 64 0) 140 (0, 0)) ∧ Frm [] w (W2.setCell ⟨w.heap.size, 73, none⟩ (.int .i64 64))) := new_end h2 hp2 HN.out.2 hf2; clear hp2 hf2) | fail)
 exact bodyPost_ret (v := .tuple #[.pointer (some ⟨w.heap.size, 0, none⟩), .nilIface]) (by simp [results, Tryz.results66, go_sem]) rfl ⟨rfl, HE.out.1, HE.out.2⟩
end Go.Proofs.YtoefgfiabfkfaaaGreatDoor
