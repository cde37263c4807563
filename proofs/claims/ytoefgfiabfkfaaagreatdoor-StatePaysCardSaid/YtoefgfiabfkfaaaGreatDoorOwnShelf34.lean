/- The document's BLAKE2s on plain numbers: its words, its begin and its end are the same. -/
import Derived.Test.YtoefgfiabfkfaaaGreatDoorOwnShelf07
import Derived.Test.YtoefgfiabfkfaaaGreatDoorOwnShelf12
import Derived.Test.YtoefgfiabfkfaaaGreatDoorOwnShelf14
import Derived.Test.YtoefgfiabfkfaaaGreatDoorOwnShelf16
import Derived.Test.YtoefgfiabfkfaaaGreatDoorOwnShelf09
import Derived.Test.YtoefgfiabfkfaaaGreatDoorOwnShelf33
namespace Go.Proofs.YtoefgfiabfkfaaaGreatDoor

/-- Word i of a block, as the document has it. -/
def wd (b : List Nat) (i : Nat) : Nat := b.getD (4 * i) 0 + 256 * b.getD (4 * i + 1) 0 + 65536 * b.getD (4 * i + 2) 0 + 16777216 * b.getD (4 * i + 3) 0
def mD (b : List Nat) (k : Nat) : List Nat := (List.range k).map (wd b)
theorem or_low (a x k : Nat) (ha : a < 2 ^ k) : a ||| (x <<< k) = a + 2 ^ k * x := by
 rw [Nat.or_comm, ← Nat.shiftLeft_add_eq_or_of_lt ha, Nat.shiftLeft_eq]
 rw [Nat.mul_comm, Nat.add_comm]
theorem wd_or (x y z u : Nat) (hx : x < 256) (hy : y < 256) (hz : z < 256) : (((0 ||| (x <<< 0)) ||| (y <<< 8)) ||| (z <<< 16)) ||| (u <<< 24) = x + 256 * y + 65536 * z + 16777216 * u := by
 rw [or_low 0 x 0 (by decide), or_low _ y 8 (by omega), or_low _ z 16 (by omega), or_low _ u 24 (by omega)]
 omega
theorem mP_at {b : List Nat} (hb : ∀ i, b.getD i 0 < 256) : ∀ k, k ≤ 16 → ∀ j, (mP b (4 * k)).getD j 0 = if j < k then wd b j else 0
 | 0, _, j => by
  show z16.getD j 0 = _
  rw [if_neg (by omega), z16, List.getD_eq_getElem?_getD, List.getElem?_replicate]
  split <;> rfl
 | k + 1, hk, j => by
  have ih := mP_at hb k (by omega)
  have hl : (mP b (4 * k)).length = 16 := (mP_ok hb _).1
  have e : mP b (4 * (k + 1)) = (mP b (4 * k)).set k (wd b k) := by
   show mP b (4 * k + 1 + 1 + 1 + 1) = _
   simp only [mP]
   rw [show (4 * k) / 4 = k by omega, show (4 * k + 1) / 4 = k by omega, show (4 * k + 1 + 1) / 4 = k by omega, show (4 * k + 1 + 1 + 1) / 4 = k by omega,
    show (4 * k) % 4 = 0 by omega, show (4 * k + 1) % 4 = 1 by omega, show (4 * k + 1 + 1) % 4 = 2 by omega, show (4 * k + 1 + 1 + 1) % 4 = 3 by omega]
   have g : ∀ (l : List Nat) (x : Nat), l.length = 16 → (l.set k x).getD k 0 = x := fun l x h => by simp [List.getD_eq_getElem?_getD, h, show k < 16 by omega]
   have h0 : (mP b (4 * k)).getD k 0 = 0 := by rw [ih k, if_neg (by omega)]
   rw [h0]
   simp only [List.set_set]
   rw [g _ _ hl, g _ _ hl, g _ _ hl]
   congr 1
   rw [wd, ← wd_or _ _ _ _ (hb _) (hb _) (hb _)]
  rw [e, List.getD_eq_getElem?_getD, List.getElem?_set]
  by_cases hj : k = j
  ·subst hj; simp [hl, show k < 16 by omega]
  ·rw [if_neg hj, ← List.getD_eq_getElem?_getD, ih j]
   by_cases h1 : j < k
   ·rw [if_pos h1, if_pos (by omega)]
   ·rw [if_neg h1, if_neg (by omega)]
theorem mP_all {b : List Nat} (hb : ∀ i, b.getD i 0 < 256) : mP b 64 = mD b 16 := by
 apply List.ext_getElem?
 intro j
 have h := mP_at hb 16 (Nat.le_refl _) j
 have hl : (mP b 64).length = 16 := (mP_ok hb 64).1
 by_cases hj : j < 16
 ·rw [if_pos hj, show 4 * 16 = 64 from rfl, List.getD_eq_getElem?_getD, List.getElem?_eq_getElem (by omega)] at h
  rw [List.getElem?_eq_getElem (by omega)]
  simp only [mD, List.getElem?_map, List.getElem?_range hj, Option.map_some]
  simpa using h
 ·rw [List.getElem?_eq_none (by omega), List.getElem?_eq_none (by simp [mD]; omega)]
theorem vP_all {h : List Nat} (hh : h.length = 8) : vP h 8 = h ++ firstL := by
 match h, hh with
 | [a, b, c, d, e, f, g, i], _ => rfl
theorem hP_all {h v : List Nat} (hh : h.length = 8) : hP h v 8 = (List.range 8).map fun i => xorW (xorW (h.getD i 0) (v.getD i 0)) (v.getD (i + 8) 0) := by
 have e : ∀ a b c, xorW a (xorW b c) = xorW (xorW a b) c := fun a b c => (Nat.xor_assoc a b c).symm
 match h, hh with
 | [a, b, c, d, e', f, g, i], _ => simp [hP, e, List.range, List.range.loop]
/-- The places of the eight steps of a round. -/
def plL : List (Nat × Nat × Nat × Nat) := [(0, 4, 8, 12), (1, 5, 9, 13), (2, 6, 10, 14), (3, 7, 11, 15), (0, 5, 10, 15), (1, 6, 11, 12), (2, 7, 8, 13), (3, 4, 9, 14)]
def pl (i : Nat) : Nat × Nat × Nat × Nat := plL.getD i (0, 0, 0, 0)
/-- A round's first i steps. -/
def gP (m s v : List Nat) : Nat → List Nat
 | 0 => v
 | i + 1 => gAt m s (pl i).1 (pl i).2.1 (pl i).2.2.1 (pl i).2.2.2 (2 * i) (2 * i + 1) (gP m s v i)
theorem gP_all (m s v : List Nat) : gP m s v 8 = roundF m s v := rfl
theorem gP_ok {m s v : List Nat} (hv : Wd 16 v) : ∀ i, Wd 16 (gP m s v i)
 | 0 => hv
 | i + 1 => gAt_ok m s _ _ _ _ _ _ (gP_ok hv i)
end Go.Proofs.YtoefgfiabfkfaaaGreatDoor
/- The document's sums lean on what cond's texts hold of rows of bytes. -/
/- Text's signs; two bytes built, bytes appended in a region that draws. -/
namespace Go.Proofs.YtoefgfiabfkfaaaGreatDoor
open Go.RowKit

/-- A digit of base 16, as a byte. -/
def dg (d : Nat) : Nat := if d < 10 then 48 + d else 87 + d
theorem dg_lt {d : Nat} (h : d < 16) : dg d < 256 := by unfold dg; split <;> omega

end Go.Proofs.YtoefgfiabfkfaaaGreatDoor
/- Rows of words of one's own; the document's begin, row and digit. -/
namespace Go.Proofs.YtoefgfiabfkfaaaGreatDoor
open Go.RowKit

theorem infoW : (Tryz.prog.info? 120).map (fun i => (i.zero, i.size, i.bytes)) = some (some (.int .u32 0), 1, 4) := by kernel_rfl
/-- A value that owns words, made since w0; nothing that was there in w0 has changed. -/
structure OwW (w0 w : World) (v : Value) (L : List Nat) : Prop where
 own : w.ownsRow w0.heap.size 120 1 v L.length (wl L)
 below : Below w0.heap.size w0 w
theorem OwW.nil (w : World) : OwW w w (.slice none 0 0) [] := ⟨World.ownsRow_nil _ _ _ _, Below.refl _ _⟩
theorem OwW.alloc {w0 w : World} {v : Value} {L : List Nat} (h : OwW w0 w v L) (o : Obj) : OwW w0 (w.alloc o) v L := ⟨h.own.alloc _, h.below.alloc h.below.size _⟩
theorem OwW.drew {w0 w : World} {v : Value} {L : List Nat} (h : OwW w0 w v L) : OwW w0 w.drew v L := ⟨h.own.drew, h.below.drew⟩
theorem OwW.mono {w w0 w1 : World} {v : Value} {L : List Nat} (h : OwW w0 w1 v L) (hb : Below w.heap.size w w0) : OwW w w1 v L := by
 refine ⟨⟨h.own.1, ?_⟩, hb.trans (h.below.mono hb.size)⟩
 rcases h.own.2 with hn | ⟨g, cap, cur, e, hbs, rest⟩
 ·exact .inl hn
 ·exact .inr ⟨g, cap, cur, e, Nat.le_trans hb.size hbs, rest⟩
/-- What owns words is a slice of them. -/
theorem OwW.form {w0 w : World} {v : Value} {L : List Nat} (h : OwW w0 w v L) (hl : 0 < L.length) : ∃ g cap, v = .slice (some ⟨g, 0, none⟩) L.length cap ∧ VAt w g L ∧ w0.heap.size ≤ g ∧ L.length ≤ cap := by
 rcases h.own.2 with ⟨_, h0⟩ | ⟨g, cap, cur, rfl, hb, hg, hcap, _, hsz, htk⟩
 ·omega
 ·refine ⟨g, cap, rfl, ⟨cur.toList.drop L.length, 120, ?_⟩, hb, hcap⟩
  rw [Nat.mul_one] at htk
  rw [hg, ← htk, List.take_append_drop]
theorem OwW.form0 {w0 w : World} {v : Value} {L : List Nat} (h : OwW w0 w v L) : ∃ ad cap, v = .slice ad L.length cap := by
 rcases h.own.2 with ⟨rfl, h0⟩ | ⟨g, cap, cur, rfl, _⟩
 ·exact ⟨none, 0, by rw [h0]⟩
 ·exact ⟨_, cap, rfl⟩
/-- Words that are appended. -/
def WSrc (w : World) (u : Value) (ys : List Nat) : Prop := ∃ a c, u = .slice (some a) ys.length c ∧ ∀ j v, (wl ys)[j]? = some v → w.cell? (a.add j) = some v
theorem VAt.src {w : World} {g : Nat} {v : List Nat} (h : VAt w g v) (cap : Nat) : WSrc w (.slice (some ⟨g, 0, none⟩) v.length cap) v := by
 refine ⟨_, cap, rfl, fun j u hu => ?_⟩
 have hj : j < v.length := by simpa [wl] using (List.getElem?_eq_some_iff.1 hu).1
 rw [Addr.add_lit, Nat.zero_add, h.cell hj, ← hu]
 simp [wl, List.getElem?_map, List.getElem?_eq_getElem hj, List.getD_eq_getElem?_getD]
theorem run_append_W (w w0 : World) (ty : TypeId) (v u : Value) (L ys : List Nat) (hown : OwW w0 w v L) (hu : WSrc w u ys) (hlen : L.length + ys.length ≤ 1000000) :
  ∃ v' w1, (Builtin.append_ #[118, 118] ty #[v, u]).run Tryz.prog w = .ok v' w1 ∧ OwW w0 w1 v' (L ++ ys) := by
 obtain ⟨i0, hi0, hz0, hz1, hz2⟩ := info_parts infoW
 obtain ⟨a, c, rfl, hc⟩ := hu
 obtain ⟨v', w1, hr, h2, h3, _, h5⟩ := run_append_own_at (P := Tryz.prog) w w0.heap.size 118 ty 120 i0 (.int .u32 0) 1 4 Tryz.underlying118 hi0 hz0 hz1 hz2 rfl (by decide) v L.length (wl L) hown.own a ys.length c (wl ys) (by simp [wl]) hc
  (fun u hu => by obtain ⟨y, _, rfl⟩ := List.mem_map.1 hu; rfl) (by simp only [maxLen]; omega) (by omega) hown.below.size
 refine ⟨v', w1, hr, ⟨by simpa [wl] using h2, hown.below.grown h3 hown.below.size (fun k hk => ?_)⟩⟩
 rcases hown.own.2 with ⟨rfl, _⟩ | ⟨g, cap, cur, rfl, hbs, _⟩
 ·simp [Value.ownBlock] at hk
 ·have : g = k := by simpa [Value.ownBlock] using hk
  omega
section
variable {ops : Array Oper} {rest : List Oper} {o : Oper} {a : Act} {w : World} {Q : Exit → Act → World → Prop} {K : Act → World → Prop}
theorem wp_append_W {s x : Operand} (ho : o.op = .call ⟨.builtin .append, #[s, x], #[118, 118]⟩)
  {w0 : World} {v u : Value} {L ys : List Nat} (hs : a.eval s = v) (hx : a.eval x = u) (hown : OwW w0 w v L) (hu : WSrc w u ys) (hlen : L.length + ys.length ≤ 1000000)
  (h : ∀ v' w1, OwW w0 w1 v' (L ++ ys) → K (a.put o.dst v') w1) : o.wp Tryz.prog a w K Q := by
 obtain ⟨v', w1, hr, h2⟩ := run_append_W w w0 o.type v u L ys hown hu hlen
 unfold Oper.wp execOp
 simp only [ho, resolve, invoke, builtin, Sem.run_bind, Sem.run_pure, Result.andThen_ok, List.map_toArray, List.map_cons, List.map_nil, hs, hx, hr]
 exact h v' w1 h2
theorem wpList_append_W (hgd : o.guard = none) {s x : Operand} (ho : o.op = .call ⟨.builtin .append, #[s, x], #[118, 118]⟩)
  {w0 : World} {v u : Value} {L ys : List Nat} (hs : a.eval s = v) (hx : a.eval x = u) (hown : OwW w0 w v L) (hu : WSrc w u ys) (hlen : L.length + ys.length ≤ 1000000)
  (h : ∀ v' w1, OwW w0 w1 v' (L ++ ys) → wpList Tryz.prog ops Q rest (a.put o.dst v') w1) : wpList Tryz.prog ops Q (o :: rest) a w :=
 wpList_plain hgd fun _ hK => wp_append_W ho hs hx hown hu hlen (fun v' w1 h1 => hK _ _ (h v' w1 h1))
theorem run_build1W (x : Int) (w : World) : (Instr.buildSlice 118 1 #[(0, .int .u32 x)]).run Tryz.prog w = .ok (.slice (some ⟨w.heap.size, 0, none⟩) 1 1) (w.alloc (.cells #[.int .u32 x] 120)) := by kernel_rfl
theorem wp_build1W {x : Operand} {n : Int} (ho : o.op = .buildSlice 118 1 #[(0, x)]) (hx : a.eval x = .int .u32 n)
  (h : K (a.put o.dst (.slice (some ⟨w.heap.size, 0, none⟩) 1 1)) (w.alloc (.cells #[.int .u32 n] 120))) : o.wp Tryz.prog a w K Q := by
 unfold Oper.wp execOp
 simp only [ho, List.map_toArray, List.map_cons, List.map_nil, hx, Sem.run_bind, run_build1W, Result.andThen]
 exact h
end
theorem one_srcW (w : World) (x : Nat) : WSrc (w.alloc (.cells #[.int .u32 (x : Nat)] 120)) (.slice (some ⟨w.heap.size, 0, none⟩) 1 1) [x] :=
 ⟨_, 1, rfl, World.news_of_block (cs := #[.int .u32 (x : Nat)]) (t := 120) (fr := (0, 0)) (heap_alloc_new w _)⟩

theorem begin_any (w : World) : Calls Tryz.prog 69 #[] w fun e w' => e = .returned (.slice (some ⟨w.heap.size, 0, none⟩) 8 8) ∧ w' = w.alloc (.cells (wv firstL) 120) := by
 go_enter Tryz.func69, Tryz.ntmps69
 go_wp2
 go_ret
 exact ⟨rfl, rfl⟩
def rowS (r : Nat) : ByteArray := ⟨((rowL r).map fun d => UInt8.ofNat (dg d)).toArray⟩
theorem ret_int {k : IntKind} {a b : Int} (h : a = b) : Ending.returned (.int k a) = .returned (.int k b) := by rw [h]
theorem digit_any (d : Nat) (hd : d < 16) (w : World) : Calls Tryz.prog 83 #[.int .u8 (dg d : Nat)] w fun e w' => e = .returned (.int .i64 d) ∧ w' = w := by
 by_cases h : d < 10
 ·have e : ((dg d : Nat) : Int) = 48 + d := by unfold dg; rw [if_pos h]; omega
  rw [e]
  clear e
  have h1 : (48 : Int) + d < 97 := by omega
  go_enter Tryz.func83, Tryz.ntmps83
  go_wp2
  go_ret
  exact ⟨ret_int (by omega), rfl⟩
 ·have e : ((dg d : Nat) : Int) = 87 + d := by unfold dg; rw [if_neg h]; omega
  rw [e]
  clear e
  have h1 : (97 : Int) ≤ 87 + d := by omega
  have h2 : (d : Int) < 16 := by omega
  go_enter Tryz.func83, Tryz.ntmps83
  go_wp2
  go_ret
  exact ⟨ret_int (by omega), rfl⟩
theorem rowS_at {r j : Nat} (hr : r < 10) (hj : j < 16) : (rowS r)[j]? = some (UInt8.ofNat (dg ((rowL r).getD j 0))) := by
 have : ∀ (r : Fin 10) (j : Fin 16), (rowS r.val)[j.val]? = some (UInt8.ofNat (dg ((rowL r.val).getD j.val 0))) := by decide
 exact this ⟨r, hr⟩ ⟨j, hj⟩
set_option maxRecDepth 20000 in
theorem row_any (r : Nat) (hr : r < 10) (w : World) : Calls Tryz.prog 81 #[.int .i64 r] w fun e w' => e = .returned (.string (rowS r)) ∧ Below w.heap.size w w' := by
 have hr' : (r : Int) < 10 := by omega
 go_enter Tryz.func81, Tryz.ntmps81
 go_wp2
 go_ret
 refine ⟨?_, (Below.refl _ _).alloc (Nat.le_refl _) _⟩
 have h : r = 0 ∨ r = 1 ∨ r = 2 ∨ r = 3 ∨ r = 4 ∨ r = 5 ∨ r = 6 ∨ r = 7 ∨ r = 8 ∨ r = 9 := by omega
 rcases h with rfl | rfl | rfl | rfl | rfl | rfl | rfl | rfl | rfl | rfl <;> rfl
end Go.Proofs.YtoefgfiabfkfaaaGreatDoor
