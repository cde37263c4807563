/- What is kept outside of some blocks; sums of 32 bytes kept whole; errors by their numbers. (Parts of Kit, Clone and HashKit, without enc.) -/
import Derived.Test.YtanchjfodcjlmaaGreatDoorProg
import Derived.WalkKit
import Derived.WalkSpells
import Derived.WalkLawsBesides
import Derived.Laws.CopyOwn
import Derived.Deep.MidRow
import Derived.Stop.BytesEq
import Derived.Great.Ranges
import Derived.Deep.RegionHeld3
import Derived.Maps.AppendAt
import Derived.Deep.AppendSrc
import Derived.Deep.AppendLies
import Derived.OrdersHeld
import Derived.Deep.RegionLaw
import Derived.Deep.DrawnRows
import Derived.Laws.BitsAllLaws
namespace Go.Proofs.YtanchjfodcjlmaaGreatDoor
open Go.RowKit

def errV (e : Int) : Value := if e = 0 then .nilIface else .iface 81 (.int .i64 e)
theorem errV_ne {e : Int} (h : e ≠ 0) : errV e = .iface 81 (.int .i64 e) := if_neg h
/-- The n bytes z as cells. -/
def bl (z : Nat → Int) (n : Nat) : List Value := (List.range n).map fun j => .int .u8 (z j)
theorem bl_length (z : Nat → Int) (n : Nat) : (bl z n).length = n := by simp [bl]
theorem bl_get {z : Nat → Int} {n j : Nat} {u : Value} (h : (bl z n)[j]? = some u) : j < n ∧ u = .int .u8 (z j) := by
 simp only [bl, List.getElem?_map, Option.map_eq_some_iff] at h
 obtain ⟨a, h1, h2⟩ := h
 have := List.getElem?_eq_some_iff.1 h1
 obtain ⟨h3, h4⟩ := this
 simp at h3 h4
 exact ⟨h3, by rw [← h2, ← h4]⟩
theorem bl_at {z : Nat → Int} {n j : Nat} (h : j < n) : (bl z n)[j]? = some (.int .u8 (z j)) := by
 simp [bl, List.getElem?_map, List.getElem?_range h]
theorem bl_one (z : Nat → Int) (n : Nat) : ∀ u ∈ bl z n, u.oneCell' = true := by
 intro u hu
 simp only [bl, List.mem_map] at hu
 obtain ⟨_, _, rfl⟩ := hu
 rfl
/-- All blocks that were there, but those of S, are as they were; the streams too. -/
structure Frm (S : List Nat) (w w' : World) : Prop where
 os : w'.os = w.os
 tape : w'.tape = w.tape
 output : w'.output = w.output
 size : w.heap.size ≤ w'.heap.size
 block : ∀ k, k < w.heap.size → k ∉ S → w'.heap[k]? = w.heap[k]?

theorem Frm.refl (S : List Nat) (w : World) : Frm S w w := ⟨rfl, rfl, rfl, Nat.le_refl _, fun _ _ _ => rfl⟩
theorem Frm.trans {S : List Nat} {a b c : World} (h : Frm S a b) (k : Frm S b c) : Frm S a c :=
 ⟨k.os.trans h.os, k.tape.trans h.tape, k.output.trans h.output, Nat.le_trans h.size k.size, fun i hi hn => (k.block i (Nat.lt_of_lt_of_le hi h.size) hn).trans (h.block i hi hn)⟩
theorem Frm.mono {S T : List Nat} {a b : World} (h : Frm S a b) (hs : ∀ k, k ∈ S → k ∈ T) : Frm T a b :=
 ⟨h.os, h.tape, h.output, h.size, fun i hi hn => h.block i hi (fun e => hn (hs i e))⟩
/-- Blocks that were not there yet may be left out. -/
theorem Frm.old {S T : List Nat} {a b : World} (h : Frm S a b) (hs : ∀ k, k ∈ S → k < a.heap.size → k ∈ T) : Frm T a b :=
 ⟨h.os, h.tape, h.output, h.size, fun i hi hn => h.block i hi (fun e => hn (hs i e hi))⟩
theorem Frm.drew {S : List Nat} {a b : World} (h : Frm S a b) : Frm S a b.drew := ⟨h.os, h.tape, h.output, h.size, h.block⟩
theorem Frm.alloc {S : List Nat} {a b : World} (h : Frm S a b) (o : Obj) : Frm S a (b.alloc o) :=
 h.trans ⟨rfl, rfl, rfl, by simp, fun k hk _ => Below.heap_alloc _ _ _ hk⟩
theorem Frm.setCell {S : List Nat} {a b : World} (h : Frm S a b) (p : Addr) (u : Value) (hp : p.block ∈ S) : Frm S a (b.setCell p u) :=
 h.trans ⟨rfl, rfl, rfl, by simp [World.setCell], fun k _ hn => Below.heap_setCell _ _ _ _ (fun e => hn (by rw [e]; exact hp))⟩
theorem Frm.grown {S : List Nat} {a b c : World} {row : Option Nat} (h : Frm S a b) (hg : b.grownBy c row) (hr : ∀ k, row = some k → k ∈ S) : Frm S a c :=
 h.trans ⟨hg.os, hg.tape, hg.output, hg.size, fun k hk hn => hg.block k hk (fun e => hn (hr k e.symm))⟩
theorem Frm.below {S : List Nat} {a b : World} {B : Nat} (h : Frm S a b) (hB : B ≤ a.heap.size) (hs : ∀ k, k ∈ S → B ≤ k) : Below B a b :=
 ⟨h.os, h.tape, h.output, h.size, fun k hk => h.block k (by omega) (fun e => by have := hs k e; omega)⟩
theorem Frm.ofBelow {S : List Nat} {a b : World} (h : Below a.heap.size a b) : Frm S a b := ⟨h.os, h.tape, h.output, h.size, fun k hk _ => h.block k hk⟩
theorem Frm.heap {S : List Nat} {a b : World} (h : Frm S a b) {k : Nat} {o : Obj} (hk : a.heap[k]? = some o) (hn : k ∉ S) : b.heap[k]? = some o := by
 rw [h.block k (lt_of_block hk) hn]; exact hk


section
variable {w : World} {b : Nat} {u v x : Value} {t : TypeId}
theorem two_cell0 (h : w.heap[b]? = some (.cells #[u, v] t (0, 0))) : w.cell? ⟨b, 0, none⟩ = some u := by simp [World.cell?, h]
theorem two_cell1 (h : w.heap[b]? = some (.cells #[u, v] t (0, 0))) : w.cell? ⟨b, 1, none⟩ = some v := by simp [World.cell?, h]
end

/-- A sum's 32 cells. -/
def hv (z : Nat → Int) : Array Value := (bl z 32).toArray
theorem hv_list (z : Nat → Int) : (hv z).toList = bl z 32 := by simp [hv]
theorem hsz : (Tryz.prog.info? 43).map (·.size) = some 32 := by kernel_rfl

/-- No byte but 0. -/
def nz : Nat → Int := fun _ => 0

section
variable {ops : Array Oper} {rest : List Oper} {o : Oper} {a : Act} {w : World} {Q : Exit → Act → World → Prop}



theorem setCells_at (g : Nat) : ∀ (vs : List Value) (off : Nat) (w : World) (pre post : List Value) (t : TypeId), w.heap[g]? = some (.cells (pre ++ post).toArray t (0, 0)) → pre.length = off → vs.length ≤ post.length →
  (w.setCells g off vs).heap[g]? = some (.cells (pre ++ vs ++ post.drop vs.length).toArray t (0, 0))
 | [], _, w, pre, post, t, h, _, _ => by simpa [World.setCells] using h
 | v :: r, off, w, pre, p :: post, t, h, hp, hl => by
  rw [World.setCells]
  have h1 : (w.setCell ⟨g, off, none⟩ v).heap[g]? = some (.cells ((pre ++ [v]) ++ post).toArray t (0, 0)) := by
   rw [heap_setCell_same w g off _ t v h]
   congr 2
   apply Array.toList_inj.1
   simp [← hp]
  have := setCells_at g r (off + 1) _ (pre ++ [v]) post t h1 (by simp [hp]) (by simpa using hl)
  simpa using this
 | v :: r, off, w, pre, [], t, h, hp, hl => by simp at hl
theorem setCells_frm (g : Nat) : ∀ (vs : List Value) (off : Nat) (w : World), Frm [g] w (w.setCells g off vs)
 | [], _, w => Frm.refl _ w
 | v :: r, off, w => ((Frm.refl [g] w).setCell ⟨g, off, none⟩ v (by simp)).trans (setCells_frm g r (off + 1) _)

end
def ub (z : Nat → Int) : List UInt8 := (List.range 32).map fun j => UInt8.ofNat (z j).toNat
theorem hv_ub {z : Nat → Int} (hz : ∀ j, j < 32 → 0 ≤ z j ∧ z j ≤ 255) : hv z = ((ub z).map Extern.Stop.cell).toArray := by
 unfold hv bl ub
 congr 1
 rw [List.map_map]
 apply List.map_congr_left
 intro j hj
 have := hz j (by simpa using hj)
 simp [Extern.Stop.cell]
 omega
/-- Whether two sums are the same. -/
def hq (z y : Nat → Int) : Bool := ub z == ub y
theorem hq_same (z : Nat → Int) : hq z z = true := by simp [hq]
theorem hsz1 (w : World) : (sizeOf 5).run Tryz.prog w = .ok 1 w := by kernel_rfl
theorem eql_hv {z y : Nat → Int} (hz : ∀ j, j < 32 → 0 ≤ z j ∧ z j ≤ 255) (hy : ∀ j, j < 32 → 0 ≤ y j ∧ y j ≤ 255) (w : World) :
  (binOp .eql 43 (.agg (hv z)) (.agg (hv y))).run Tryz.prog w = .ok (.bool (hq z y)) w := by
 rw [hv_ub hz, hv_ub hy]
 exact run_eql_bytes w 43 5 32 Tryz.underlying43 Tryz.underlying5 hsz1 (ub z) (ub y) (by simp [ub]) (by simp [ub])

theorem Below.transS {w w1 w2 : World} (h : Below w.heap.size w w1) (k : Below w1.heap.size w1 w2) : Below w.heap.size w w2 := h.trans (k.mono h.size)
theorem range_below {W w : World} {b off : Nat} {vs : List Value} (h : W.rangeAt b off vs) (hb : Below W.heap.size W w) : w.rangeAt b off vs := by
 intro j v hv
 have h1 := h j v hv
 have hlt : b < W.heap.size := World.block_lt_of_cell? W ⟨b, off + j, none⟩ h1
 rw [hb.cell (p := ⟨b, off + j, none⟩) hlt]; exact h1
theorem sqA {α : Type} {i : Nat} {a : α} {xs : List α} : xs.toArray.setIfInBounds i a = (xs.set i a).toArray := List.setIfInBounds_toArray _ _ _
theorem sqB {α : Type} {a b : α} {xs : List α} : (a :: xs).set 0 b = b :: xs := List.set_cons_zero
theorem sqC {α : Type} {a b : α} {n : Nat} {xs : List α} : (a :: xs).set (n + 1) b = a :: xs.set n b := List.set_cons_succ
theorem wpT {P : Program} {md : Region.Mode} {ops : Array Oper} {Q : Exit → Act → World → Prop} {S : World → Prop} {i : Nat} {oi : Oper} {v : Value} {n : Nat} {l : Array Bool} {a : Act} {w : World} (hi : ops[i]? = some oi) (hs : (Region.noSelect ops && Region.free md ops l i && (Region.ready md ops l).contains i) = true) (hQ : ∀ c a w, Q (.panic c) (a.put oi.dst v) w → Q (.panic c) a w) (hy : YieldsIf P ops S oi v a) (hS : S w) (h : wpAnyH P md ops Q S n (l.setIfInBounds i true) (a.put oi.dst v) w) : wpAnyH P md ops Q S (n + 1) l a w := by
 simp only [Bool.and_eq_true] at hs
 exact wpAnyH_take hi hs.1.1 hs.1.2 hs.2 hQ hy hS h
end Go.Proofs.YtanchjfodcjlmaaGreatDoor
/- What several texts share. -/
namespace Go.Proofs.YtanchjfodcjlmaaGreatDoor
open Go.RowKit



/-- What a hold says. -/
structure Hd where
 id : Int
 am : Int
 n : Nat
 z : Nat → Int
/-- Its three cells, the keys at ka. -/
def hdl (x : Hd) (ka : Option Addr) (kc : Nat) : List Value := [.int .i64 x.id, .int .i64 x.am, .slice ka x.n kc]


end Go.Proofs.YtanchjfodcjlmaaGreatDoor

namespace Go.Proofs.YtanchjfodcjlmaaGreatDoor
open Go.RowKit

/-- Parts laid one behind the other. -/
def flatL (f : Nat → List Value) : Nat → List Value
 | 0 => []
 | i + 1 => flatL f i ++ f i
theorem flatL_length {f : Nat → List Value} {k : Nat} : ∀ n, (∀ i, i < n → (f i).length = k) → (flatL f n).length = n * k
 | 0, _ => by simp [flatL]
 | n + 1, h => by
  simp only [flatL, List.length_append, flatL_length n (fun i hi => h i (by omega)), h n (by omega), Nat.add_mul, Nat.one_mul]
theorem flatL_congr {f g : Nat → List Value} : ∀ n, (∀ i, i < n → f i = g i) → flatL f n = flatL g n
 | 0, _ => rfl
 | n + 1, h => by rw [flatL, flatL, flatL_congr n (fun i hi => h i (by omega)), h n (by omega)]
theorem range_append {w : World} {b off : Nat} {l m : List Value} : w.rangeAt b off (l ++ m) ↔ w.rangeAt b off l ∧ w.rangeAt b (off + l.length) m := by
 constructor
 ·intro h
  refine ⟨fun j v hv => h j v (by rw [List.getElem?_append_left (by have := (List.getElem?_eq_some_iff.1 hv).1; exact this)]; exact hv), fun j v hv => ?_⟩
  have := h (l.length + j) v (by rw [List.getElem?_append_right (by omega)]; simpa using hv)
  rwa [← Nat.add_assoc] at this
 ·rintro ⟨h1, h2⟩ j v hv
  by_cases hj : j < l.length
  ·rw [List.getElem?_append_left hj] at hv; exact h1 j v hv
  ·rw [List.getElem?_append_right (by omega)] at hv
   have := h2 (j - l.length) v hv
   rwa [show off + l.length + (j - l.length) = off + j from by omega] at this
theorem flatL_range {w : World} {b off k : Nat} {f : Nat → List Value} : ∀ n, (∀ i, i < n → (f i).length = k) → (w.rangeAt b off (flatL f n) ↔ ∀ i, i < n → w.rangeAt b (off + i * k) (f i))
 | 0, _ => ⟨fun _ i hi => by omega, fun _ j v hv => by simp [flatL] at hv⟩
 | n + 1, h => by
  rw [flatL, range_append, flatL_range n (fun i hi => h i (by omega)), flatL_length n (fun i hi => h i (by omega))]
  constructor
  ·rintro ⟨h1, h2⟩ i hi
   by_cases e : i = n
   ·subst e; exact h2
   ·exact h1 i (by omega)
  ·exact fun h => ⟨fun i hi => h i (by omega), h n (by omega)⟩
/-- What owns a row has its cells there. -/
theorem own_range {w : World} {B T k n : Nat} {ad : Option Addr} {cap : Nat} {xs : List Value} (h : w.ownsRow B T k (.slice ad n cap) n xs) (hn : 0 < n) : ∃ g, ad = some ⟨g, 0, none⟩ ∧ B ≤ g ∧ g < w.heap.size ∧ w.rangeAt g 0 xs := by
 rcases h.2 with ⟨_, e⟩ | ⟨g, c, cur, e, hb, hg, _⟩
 ·omega
 ·cases e
  refine ⟨g, rfl, hb, lt_of_block hg, fun j v hv => ?_⟩
  have := h.cells (g := g) rfl j v hv
  rwa [Addr.add_lit] at this
theorem own_frmV {w : World} {B T k n : Nat} {v : Value} {xs : List Value} (h : w.ownsRow B T k v n xs) : ∃ ad cap, v = .slice ad n cap ∧ n ≤ cap ∧ (ad = none → n = 0 ∧ cap = 0) := by
 rcases h.2 with ⟨rfl, rfl⟩ | ⟨g, cap, cur, rfl, _, _, hc, _⟩
 ·exact ⟨none, 0, rfl, Nat.le_refl _, fun _ => ⟨rfl, rfl⟩⟩
 ·exact ⟨_, cap, rfl, hc, fun e => by cases e⟩
theorem own_keep {w w' : World} {B T k n : Nat} {v : Value} {xs : List Value} (h : w.ownsRow B T k v n xs) (hb : ∀ g, v.ownBlock = some g → w'.heap[g]? = w.heap[g]?) : w'.ownsRow B T k v n xs := by
 refine ⟨h.1, ?_⟩
 rcases h.2 with hn | ⟨g, cap, cur, rfl, hbs, hg, rest⟩
 ·exact .inl hn
 ·exact .inr ⟨g, cap, cur, rfl, hbs, by rw [hb g rfl]; exact hg, rest⟩
theorem own_below {w w' : World} {B T k n : Nat} {v : Value} {xs : List Value} (h : w.ownsRow B T k v n xs) (hb : Below w.heap.size w w') : w'.ownsRow B T k v n xs :=
 own_keep h (fun g e => hb.block g (h.lt g e).2)
theorem own_low {w : World} {B C T k n : Nat} {v : Value} {xs : List Value} (h : w.ownsRow B T k v n xs) (hb : C ≤ B) : w.ownsRow C T k v n xs := by
 refine ⟨h.1, ?_⟩
 rcases h.2 with hn | ⟨g, cap, cur, rfl, hbs, rest⟩
 ·exact .inl hn
 ·exact .inr ⟨g, cap, cur, rfl, Nat.le_trans hb hbs, rest⟩
end Go.Proofs.YtanchjfodcjlmaaGreatDoor

namespace Go.Proofs.YtanchjfodcjlmaaGreatDoor
open Go.RowKit
section
variable {ops : Array Oper} {rest : List Oper} {o : Oper} {a : Act} {w : World} {Q : Exit → Act → World → Prop}
theorem wpList_allocG (T : TypeId) (z : Array Value) (hrun : ∀ w : World, (Instr.alloc T true (.tuple #[])).run Tryz.prog w = .ok (.pointer (some ⟨w.heap.size, 0, none⟩)) (w.alloc (.cells z T))) (hgd : o.guard = none) (ho : o.op = .alloc T)
  (h : wpList Tryz.prog ops Q rest (a.put o.dst (.pointer (some ⟨w.heap.size, 0, none⟩))) (w.alloc (.cells z T))) : wpList Tryz.prog ops Q (o :: rest) a w := by
 refine wpList_plain hgd fun K hK => ?_
 unfold Oper.wp execOp
 simp only [ho, Sem.run_bind, hrun, Result.andThen]
 exact hK _ _ h
theorem wpList_storeG (T : TypeId) {n : Nat} (hT : (Tryz.prog.info? T).map (·.size) = some n) (hgd : o.guard = none) (x y : Operand) (ho : o.op = .store T x y) (g : Nat) (hx : a.eval x = .pointer (some ⟨g, 0, none⟩)) (cs old : Array Value) (hl : cs.size = n) (hu : old.size = n) (h1 : cs.all (·.oneCell') = true) (t : TypeId) (hy : a.eval y = .agg cs) (hg : w.heap[g]? = some (.cells old t (0, 0)))
  (h : ∀ w', w'.heap[g]? = some (.cells cs t (0, 0)) → Frm [g] w w' → wpList Tryz.prog ops Q rest (a.put o.dst undef) w') : wpList Tryz.prog ops Q (o :: rest) a w := by
 refine wpList_store_mid hgd T x y ho g 0 cs hx hy ?_ (by rw [hl]; exact hT) h1 (h _ ?_ (setCells_frm g _ 0 w))
 ·intro j hj
  rw [hl] at hj
  refine ⟨?_, ?_⟩
  ·rw [Nat.zero_add, cell_of_row w g j _ t _ hg]
   simp [hu, hj]
  ·rw [Nat.zero_add]; exact frozen_of_row w g j _ t hg
 ·have := setCells_at g cs.toList 0 w [] old.toList t (by simpa using hg) rfl (by simp [hl, hu])
  rw [this]
  simp [hl, hu, List.drop_eq_nil_of_le]
end
end Go.Proofs.YtanchjfodcjlmaaGreatDoor

namespace Go.Proofs.YtanchjfodcjlmaaGreatDoor
open Go.RowKit

theorem hidV {p : Prop} (h : p) : Hid p := h
end Go.Proofs.YtanchjfodcjlmaaGreatDoor

namespace Go.Proofs.YtanchjfodcjlmaaGreatDoor
open Go.RowKit



def hf (X : Nat → Hd) (A : Nat → Option Addr × Nat) : Nat → List Value := fun i => hdl (X i) (A i).1 (A i).2

section
variable {w : World} {b : Nat} {x y z u : Value} {t : TypeId}
end
section
variable {w : World} {b : Nat} {x0 x1 x2 x3 x4 u u0 u1 u2 u3 u4 : Value} {t : TypeId}
end
end Go.Proofs.YtanchjfodcjlmaaGreatDoor

namespace Go.Proofs.YtanchjfodcjlmaaGreatDoor
open Go.RowKit

/-- A block was made: it holds these cells. -/
structure New (w w1 : World) (cs : Array Value) (t : TypeId) : Prop where
 blk : w1.heap[w.heap.size]? = some (.cells cs t (0, 0))
 size : w1.heap.size = w.heap.size + 1
 below : Below w.heap.size w w1
theorem new_alloc (w : World) (cs : Array Value) (t : TypeId) : New w (w.alloc (.cells cs t)) cs t := ⟨heap_alloc_new w _, by simp, (Below.refl _ _).alloc (Nat.le_refl _) _⟩
theorem heap_below {w w1 : World} (h : Below w.heap.size w w1) {k : Nat} {o : Obj} (hk : w.heap[k]? = some o) : w1.heap[k]? = some o := by rw [h.block _ (lt_of_block hk)]; exact hk
theorem New.old {w w1 : World} {cs : Array Value} {t : TypeId} (h : New w w1 cs t) {k : Nat} {o : Obj} (hk : w.heap[k]? = some o) : w1.heap[k]? = some o := heap_below h.below hk
section
variable {ops : Array Oper} {rest : List Oper} {o : Oper} {a : Act} {w : World} {Q : Exit → Act → World → Prop} {K : Act → World → Prop} {E : Prop}
theorem wpList_boxN (hg : o.guard = none) (t : TypeId) (x : Operand) (ho : o.op = .box t x) (cs : Array Value) (hx : (a.eval x).cells = cs)
  (h : ∀ w1, New w w1 cs t → wpList Tryz.prog ops Q rest (a.put o.dst (.pointer (some ⟨w.heap.size, 0, none⟩))) w1) : wpList Tryz.prog ops Q (o :: rest) a w :=
 Go.Great.wpList_boxTo hg t x ho _ rfl _ rfl cs hx (h _ (new_alloc w cs t))
theorem wpList_allocN (T : TypeId) (z : Array Value) (hrun : ∀ w : World, (Instr.alloc T true (.tuple #[])).run Tryz.prog w = .ok (.pointer (some ⟨w.heap.size, 0, none⟩)) (w.alloc (.cells z T))) (hgd : o.guard = none) (ho : o.op = .alloc T)
  (h : ∀ w1, New w w1 z T → wpList Tryz.prog ops Q rest (a.put o.dst (.pointer (some ⟨w.heap.size, 0, none⟩))) w1) : wpList Tryz.prog ops Q (o :: rest) a w :=
 wpList_allocG T z hrun hgd ho (h _ (new_alloc w z T))
end
end Go.Proofs.YtanchjfodcjlmaaGreatDoor
/- A region that draws its order, walked in the order of its text: what may come up earlier leaves the world alone till one operation (c), which waits for all loads, has come up. -/
namespace Go.Proofs.YtanchjfodcjlmaaGreatDoor
open Go

section
variable {P : Program} {ops : Array Oper} {md : Region.Mode} {Q : Exit → Act → World → Prop} {c : Nat} {w0 : World}

/-- Whatever order is picked from here on; while c has not come up the world is w0. -/
def anyL (P : Program) (md : Region.Mode) (ops : Array Oper) (Q : Exit → Act → World → Prop) (c : Nat) (w0 : World) : Nat → Array Bool → Act → World → Prop
 | 0, l, a, w => Region.ready md ops l = [] ∧ Q .normal a w
 | n + 1, l, a, w => (Region.ready md ops l = [] → Q .normal a w) ∧
  ∀ i ∈ Region.ready md ops l, wpOp P ops Q i (fun a' w' => ((l.setIfInBounds i true).getD c true = false → w' = w0) ∧ anyL P md ops Q c w0 n (l.setIfInBounds i true) a' w') a w

theorem any_of_anyL : ∀ (n : Nat) (l : Array Bool) (a : Act) (w : World), anyL P md ops Q c w0 n l a w → wpAny P md ops Q n l a w
 | 0, _, _, _, h => h
 | n + 1, _, _, _, h => ⟨h.1, fun i hi => wpOp_mono (fun a' w' h' => any_of_anyL n _ a' w' h'.2) (h.2 i hi)⟩

/-- k waits for i, by f edges at most. -/
def waits (md : Region.Mode) (ops : Array Oper) (i : Nat) : Nat → Nat → Bool
 | 0, _ => false
 | f + 1, k => match ops[k]? with
  | none => false
  | some o => o.after.any fun e => Region.binds md e && (e.on == i || waits md ops i f e.on)

/-- Whoever has come up came behind all that it waits for. -/
def Shut2 (md : Region.Mode) (ops : Array Oper) (l : Array Bool) : Prop :=
 ∀ k o, ops[k]? = some o → l.getD k false = true → ∀ e ∈ o.after, Region.binds md e = true → l.getD e.on false = true

theorem waits_edge {i f k : Nat} (h : waits md ops i (f + 1) k = true) : ∃ o, ops[k]? = some o ∧ ∃ e ∈ o.after, Region.binds md e = true ∧ (e.on = i ∨ waits md ops i f e.on = true) := by
 unfold waits at h
 split at h
 ·cases h
 ·rename_i o ho
  refine ⟨o, ho, ?_⟩
  obtain ⟨e, he, hh⟩ := Array.any_eq_true'.1 h
  simp only [Bool.and_eq_true, Bool.or_eq_true, beq_iff_eq] at hh
  exact ⟨e, he, hh.1, hh.2⟩

theorem waits_un {i : Nat} {l : Array Bool} (hs : Shut2 md ops l) (hi : l.getD i false = false) : ∀ (f k : Nat), waits md ops i f k = true → l.getD k false = false
 | 0, _, h => by simp [waits] at h
 | f + 1, k, h => by
  obtain ⟨o, ho, e, he, hb, hor⟩ := waits_edge h
  cases hk : l.getD k false with
  | false => rfl
  | true =>
   have h1 := hs k o ho hk e he hb
   rcases hor with rfl | h2
   ·rw [hi] at h1; cases h1
   ·rw [waits_un hs hi f _ h2] at h1; cases h1

theorem un_false {l : Array Bool} {i : Nat} (h : l.getD i true = false) : l.getD i false = false := by
 rw [Array.getD_eq_getD_getElem?] at h ⊢
 cases he : l[i]? with
 | none => simp [he] at h
 | some b => simp [he] at h ⊢; exact h

theorem waits_not_ready {i f : Nat} {l : Array Bool} (hs : Shut2 md ops l) (hi : l.getD i false = false) (h : waits md ops i f c = true) : c ∉ Region.ready md ops l := by
 intro hr
 obtain ⟨_, o, ho, hall⟩ := mem_ready.1 hr
 cases f with
 | zero => simp [waits] at h
 | succ f =>
  obtain ⟨o', ho', e, he, hb, hor⟩ := waits_edge h
  rw [ho] at ho'
  cases ho'
  have h1 := hall e he hb
  rcases hor with rfl | h2
  ·rw [hi] at h1; cases h1
  ·rw [waits_un hs hi f _ h2] at h1; cases h1

theorem getD_of_set {l : Array Bool} {i k : Nat} (h : (l.setIfInBounds i true).getD k false = true) : k = i ∨ l.getD k false = true := by
 by_cases e : i = k
 ·exact .inl e.symm
 ·rw [getD_set_ne false e] at h; exact .inr h

theorem Shut2.set {l : Array Bool} {i : Nat} (hs : Shut2 md ops l) (hi : i ∈ Region.ready md ops l) : Shut2 md ops (l.setIfInBounds i true) := by
 intro k o ho hk e he hb
 obtain ⟨_, oi, hoi, hall⟩ := mem_ready.1 hi
 rcases getD_of_set hk with rfl | hk
 ·rw [ho] at hoi
  cases hoi
  exact getD_set_true (hall e he hb)
 ·exact getD_set_true (hs k o ho hk e he hb)

/-- What may come up now may be taken first: it yields its value in every world, or in w0, and c waits for it. -/
theorem anyL_first {T : World → Prop} {f i : Nat} {oi : Oper} {v : Value} (hi : ops[i]? = some oi) (hsel : ∀ (j : Nat) (o : Oper) cs b, ops[j]? = some o → o.op ≠ .select cs b)
  (hQ : ∀ ch a w, Q (.panic ch) (a.put oi.dst v) w → Q (.panic ch) a w) (hic : i ≠ c) :
  ∀ (n : Nat) (l : Array Bool) (a : Act) (w : World), ((∀ w, T w) ∨ (T w0 ∧ waits md ops i f c = true ∧ l.getD c true = false)) →
   (∀ j oj, ops[j]? = some oj → j ≠ i → l.getD j true = false → (∀ e ∈ oj.after, Region.binds md e = true → e.on ≠ i) → oi.apart ops oj = true) →
   Shut2 md ops l → i ∈ Region.ready md ops l → YieldsIf P ops T oi v a → (l.getD c true = false → w = w0) →
   anyL P md ops Q c w0 n (l.setIfInBounds i true) (a.put oi.dst v) w → anyL P md ops Q c w0 (n + 1) l a w := by
 have self : ∀ (n : Nat) (l : Array Bool) (a : Act) (w : World), ((∀ w, T w) ∨ (T w0 ∧ waits md ops i f c = true ∧ l.getD c true = false)) → YieldsIf P ops T oi v a → (l.getD c true = false → w = w0) →
   anyL P md ops Q c w0 n (l.setIfInBounds i true) (a.put oi.dst v) w → wpOp P ops Q i (fun a' w' => ((l.setIfInBounds i true).getD c true = false → w' = w0) ∧ anyL P md ops Q c w0 n (l.setIfInBounds i true) a' w') a w := by
  intro n l a w hT hy hw H
  have hTw : T w := by
   rcases hT with h | ⟨h, _, h2⟩
   ·exact h w
   ·rw [hw h2]; exact h
  exact hy.wpOp hi hTw ⟨fun h => hw (by rw [getD_set_ne true hic] at h; exact h), H⟩
 intro n
 induction n with
 | zero =>
  intro l a w hT _ _ hr hy hw H
  refine ⟨fun h => (by rw [h] at hr; cases hr), fun j hj => ?_⟩
  by_cases hji : j = i
  ·subst hji; exact self 0 l a w hT hy hw H
  ·have := ready_mono hj hji
   rw [H.1] at this
   cases this
 | succ n ih =>
  intro l a w hT hfree hs hr hy hw H
  refine ⟨fun h => (by rw [h] at hr; cases hr), fun j hj => ?_⟩
  by_cases hji : j = i
  ·subst hji; exact self (n + 1) l a w hT hy hw H
  ·have h1 := H.2 j (ready_mono hj hji)
   obtain ⟨hjun, oj, hoj, hall⟩ := mem_ready.1 hj
   have hiun := (mem_ready.1 hr).1
   have hnot : ∀ e ∈ oj.after, Region.binds md e = true → e.on ≠ i := fun e he hb heq => by
    have h2 := hall e he hb
    rw [heq, un_false hiun] at h2
    cases h2
   have h2 := wpOp_putIf hoj (hfree j oj hoj hji hjun hnot) (fun cs b => hsel i oi cs b hi) (fun cs b => hsel j oj cs b hoj) hQ hy h1
   have hfree' : ∀ k ok, ops[k]? = some ok → k ≠ i → (l.setIfInBounds j true).getD k true = false →
     (∀ e ∈ ok.after, Region.binds md e = true → e.on ≠ i) → oi.apart ops ok = true := fun k ok hk hki hun hno => by
    refine hfree k ok hk hki ?_ hno
    by_cases hjk : j = k
    ·subst hjk; exact hjun
    ·rw [getD_set_ne true hjk] at hun; exact hun
   refine wpOp_mono (fun a' w' h3 => ?_) h2
   have hw' : (l.setIfInBounds j true).getD c true = false → w' = w0 := fun h => h3.2.1 (by rw [Array.setIfInBounds_comm _ _ (Ne.symm hji), getD_set_ne true hic]; exact h)
   refine ⟨hw', ih (l.setIfInBounds j true) a' w' ?_ hfree' (hs.set hj) (ready_mono hr (Ne.symm hji)) h3.1 hw' ?_⟩
   ·rcases hT with h | ⟨h, hwt, hc⟩
    ·exact .inl h
    ·refine .inr ⟨h, hwt, ?_⟩
     have hjc : j ≠ c := fun e => waits_not_ready hs (un_false hiun) hwt (e ▸ hj)
     rw [getD_set_ne true hjc]; exact hc
   ·rw [Array.setIfInBounds_comm _ _ hji]
    exact h3.2.2

/-- The look at a region: in the order of its rows (a tag and a place) each operation is taken (0: it yields in every world; 1: it yields in this world, and c waits for it) or is the only one that may come up (2). -/
def seqB (md : Region.Mode) (ops : Array Oper) (c f : Nat) : List (Nat × Nat) → Array Bool → Bool
 | [], l => (Region.ready md ops l).isEmpty
 | (t, k) :: ts, l =>
  (match t with
   | 0 => k != c && (Region.ready md ops l).contains k && Region.free md ops l k
   | 1 => k != c && (Region.ready md ops l).contains k && Region.free md ops l k && !l.getD c true && waits md ops k f c
   | _ => Region.ready md ops l == [k] && (k == c || l.getD c false) && decide (k < l.size)) && seqB md ops c f ts (l.setIfInBounds k true)

/-- The walk in that order. -/
def seqL (P : Program) (ops : Array Oper) (Q : Exit → Act → World → Prop) : List (Nat × Nat) → Act → World → Prop
 | [], a, w => Q .normal a w
 | (t, k) :: ts, a, w => match ops[k]? with
  | none => False
  | some o => match t with
   | 0 => ∃ v, YieldsIf P ops (fun _ => True) o v a ∧ seqL P ops Q ts (a.put o.dst v) w
   | 1 => ∃ v, YieldsIf P ops (fun x => x = w) o v a ∧ seqL P ops Q ts (a.put o.dst v) w
   | _ => if Region.wanted o (yielded ops a.tmps) = true then o.wp P a w (seqL P ops Q ts) Q else seqL P ops Q ts (a.put o.dst undef) w

theorem any_of_seq {f : Nat} (hn : Region.noSelect ops = true) (hQ : ∀ ch d v a w, Q (.panic ch) (Act.put a d v) w → Q (.panic ch) a w) :
  ∀ (ts : List (Nat × Nat)) (l : Array Bool) (a : Act) (w : World), seqB md ops c f ts l = true → Shut2 md ops l → (l.getD c true = false → w = w0) →
   seqL P ops Q ts a w → anyL P md ops Q c w0 ts.length l a w := by
 intro ts
 induction ts with
 | nil => intro l a w hB hs hw h; exact ⟨by simpa [seqB] using hB, h⟩
 | cons tk ts ih =>
  obtain ⟨t, k⟩ := tk
  intro l a w hB hs hw h
  unfold seqL at h
  split at h
  ·exact h.elim
  ·rename_i o h0
   match t, hB, h with
   | 0, hB, h =>
    simp only [seqB, Bool.and_eq_true, bne_iff_ne, ne_eq] at hB
    obtain ⟨⟨⟨hkc, hrd⟩, hfr⟩, hB'⟩ := hB
    have hrd' : k ∈ Region.ready md ops l := by simpa using hrd
    obtain ⟨v, hy, hn'⟩ := h
    refine anyL_first (f := f) h0 (Region.noSelect_spec hn) (fun ch a w => hQ ch _ _ a w) hkc ts.length l a w (.inl fun _ => trivial) (Region.free_spec h0 hfr) hs hrd' hy hw ?_
    exact ih _ _ w hB' (hs.set hrd') (fun h => hw (by rw [getD_set_ne true hkc] at h; exact h)) hn'
   | 1, hB, h =>
    simp only [seqB, Bool.and_eq_true, bne_iff_ne, ne_eq, Bool.not_eq_true'] at hB
    obtain ⟨⟨⟨⟨⟨hkc, hrd⟩, hfr⟩, hcl⟩, hwt⟩, hB'⟩ := hB
    have hrd' : k ∈ Region.ready md ops l := by simpa using hrd
    obtain ⟨v, hy, hn'⟩ := h
    have hw1 := hw hcl
    subst hw1
    refine anyL_first (f := f) (T := fun x => x = w) h0 (Region.noSelect_spec hn) (fun ch a w => hQ ch _ _ a w) hkc ts.length l a w (.inr ⟨rfl, hwt, hcl⟩) (Region.free_spec h0 hfr) hs hrd' hy hw ?_
    exact ih _ _ w hB' (hs.set hrd') (fun h => hw (by rw [getD_set_ne true hkc] at h; exact h)) hn'
   | t + 2, hB, h =>
    simp only [seqB, Bool.and_eq_true, beq_iff_eq, Bool.or_eq_true, decide_eq_true_eq] at hB
    obtain ⟨⟨⟨hrd, hkc⟩, hlt⟩, hB'⟩ := hB
    have hrd' : k ∈ Region.ready md ops l := by rw [hrd]; simp
    have hcl : (l.setIfInBounds k true).getD c true = true := by
     rcases hkc with rfl | h1
     ·simp [Array.getD_eq_getD_getElem?, hlt]
     ·have := getD_set_true (i := k) h1
      rw [Array.getD_eq_getD_getElem?] at this ⊢
      cases he : (l.setIfInBounds k true)[c]? with
      | none => simp
      | some b => simp [he] at this ⊢; exact this
    refine ⟨fun h => (by rw [h] at hrd; cases hrd), fun i hi => ?_⟩
    rw [hrd] at hi
    have hik : i = k := by simpa using hi
    subst hik
    have h1 : wpOp P ops Q i (seqL P ops Q ts) a w := by
     unfold wpOp
     simp only [h0]
     have h2 : if Region.wanted o (yielded ops a.tmps) = true then o.wp P a w (seqL P ops Q ts) Q else seqL P ops Q ts (a.put o.dst undef) w := h
     split
     ·rename_i hww; rw [if_pos hww] at h2; exact .inl h2
     ·rename_i hww; rw [if_neg hww] at h2; exact h2
    refine wpOp_mono (fun a' w' h' => ⟨fun h => (by rw [hcl] at h; cases h), ?_⟩) h1
    exact ih _ a' w' hB' (hs.set hrd') (fun h => (by rw [hcl] at h; cases h)) h'

/-- A region that draws its order, in the order of the rows. -/
theorem region_seq {id f : Nat} {c : Nat} {ts : List (Nat × Nat)} {ops : Array Oper} {a : Act} {w : World} (hm : P.follows .mixedOrders = true)
  (hB : (Region.noSelect ops && ts.length == ops.size && seqB .any ops c f ts (Array.replicate ops.size false)) = true) (h : seqL P ops (NoPanic Q) ts a w.drew) : (Code.region id ops true).wp P Q a w := by
 simp only [Bool.and_eq_true, beq_iff_eq] at hB
 obtain ⟨⟨hn, hl⟩, hB⟩ := hB
 refine wp_region_noPanic (wp_region_any hm ?_)
 have := any_of_seq (c := c) (w0 := w.drew) (f := f) (md := .any) (Q := NoPanic Q) (P := P) hn (fun _ _ _ _ _ h => h) ts (Array.replicate ops.size false) a w.drew hB
  (fun k o _ hk => by
   simp only [Array.getD_eq_getD_getElem?, Array.getElem?_replicate] at hk
   split at hk <;> simp at hk) (fun _ => rfl) h
 rw [hl] at this
 exact any_of_anyL _ _ _ _ this
end

section
variable {P : Program} {ops : Array Oper} {Q : Exit → Act → World → Prop} {ts : List (Nat × Nat)} {o : Oper} {k : Nat} {a : Act} {w : World} {v : Value}
theorem wanted_plain (hgd : o.guard = none) (y : Nat → Option Bool) : Region.wanted o y = true := by simp [Region.wanted, hgd]
theorem seq_nil (h : Q .normal a w) : seqL P ops Q [] a w := h
theorem seq_W (ho : ops[k]? = some o) (hgd : o.guard = none) (hr : ∀ w, (execOp a.eval o).run P w = .ok (.value v) w) (h : seqL P ops Q ts (a.put o.dst v) w) : seqL P ops Q ((0, k) :: ts) a w := by
 unfold seqL
 simp only [ho]
 exact ⟨v, .inl ⟨wanted_plain hgd _, fun w _ => hr w⟩, h⟩
theorem seq_R (ho : ops[k]? = some o) (hgd : o.guard = none) (hr : (execOp a.eval o).run P w = .ok (.value v) w) (h : seqL P ops Q ts (a.put o.dst v) w) : seqL P ops Q ((1, k) :: ts) a w := by
 unfold seqL
 simp only [ho]
 exact ⟨v, .inl ⟨wanted_plain hgd _, fun w' e => by subst e; exact hr⟩, h⟩
theorem seq_A (ho : ops[k]? = some o) (hgd : o.guard = none) (h : ∀ K : Act → World → Prop, (∀ a w, seqL P ops Q ts a w → K a w) → o.wp P a w K Q) : seqL P ops Q ((2, k) :: ts) a w := by
 unfold seqL
 simp only [ho]
 rw [if_pos (wanted_plain hgd _)]
 exact h _ (fun _ _ h => h)
end
end Go.Proofs.YtanchjfodcjlmaaGreatDoor
/- BLAKE2s on plain numbers: the step G, a round, a block taken in. -/
namespace Go.Proofs.YtanchjfodcjlmaaGreatDoor

def addW (a b : Nat) : Nat := (a + b) % 4294967296
/-- x turned right by n bits. -/
def ror (n x : Nat) : Nat := (x <<< (32 - n)) % 4294967296 ||| (x >>> n)
def xorW (a b : Nat) : Nat := a ^^^ b
theorem addW_lt (a b : Nat) : addW a b < 4294967296 := Nat.mod_lt _ (by decide)
theorem xorW_lt {a b : Nat} (ha : a < 4294967296) (hb : b < 4294967296) : xorW a b < 4294967296 := Nat.xor_lt_two_pow (n := 32) ha hb
theorem ror_lt {n x : Nat} (hx : x < 4294967296) : ror n x < 4294967296 := by
 refine Nat.or_lt_two_pow (n := 32) (Nat.mod_lt _ (by decide)) ?_
 rw [Nat.shiftRight_eq_div_pow]
 exact Nat.lt_of_le_of_lt (Nat.div_le_self _ _) hx

structure Four where
 a : Nat
 b : Nat
 c : Nat
 d : Nat
/-- The step G: its two halves. -/
def half (r s : Nat) (q : Four) (x : Nat) : Four :=
 ⟨addW q.a (addW q.b x), ror s (xorW q.b (addW q.c (ror r (xorW q.d (addW q.a (addW q.b x)))))), addW q.c (ror r (xorW q.d (addW q.a (addW q.b x)))), ror r (xorW q.d (addW q.a (addW q.b x)))⟩
def gF (q : Four) (x y : Nat) : Four := half 8 7 (half 16 12 q x) y
/-- Four words, each of 32 bits. -/
def Four.Ok (q : Four) : Prop := q.a < 4294967296 ∧ q.b < 4294967296 ∧ q.c < 4294967296 ∧ q.d < 4294967296
theorem half_ok {r s : Nat} {q : Four} {x : Nat} (h : q.Ok) : (half r s q x).Ok := by
 obtain ⟨_, hb, _, hd⟩ := h
 have h1 : ror r (xorW q.d (addW q.a (addW q.b x))) < 4294967296 := ror_lt (xorW_lt hd (addW_lt _ _))
 exact ⟨addW_lt _ _, ror_lt (xorW_lt hb (addW_lt _ _)), addW_lt _ _, h1⟩
theorem gF_ok {q : Four} {x y : Nat} (h : q.Ok) : (gF q x y).Ok := half_ok (half_ok h)

/-- Words, each of 32 bits. -/
def Wd (n : Nat) (v : List Nat) : Prop := v.length = n ∧ ∀ i, v.getD i 0 < 4294967296
def four (v : List Nat) (a b c d : Nat) : Four := ⟨v.getD a 0, v.getD b 0, v.getD c 0, v.getD d 0⟩
def setF (v : List Nat) (a b c d : Nat) (q : Four) : List Nat := (((v.set a q.a).set b q.b).set c q.c).set d q.d
/-- G on four of the words. -/
def gAt (m : List Nat) (s : List Nat) (a b c d i j : Nat) (v : List Nat) : List Nat := setF v a b c d (gF (four v a b c d) (m.getD (s.getD i 0) 0) (m.getD (s.getD j 0) 0))
theorem Wd.set {n : Nat} {v : List Nat} (h : Wd n v) (i : Nat) {x : Nat} (hx : x < 4294967296) : Wd n (v.set i x) := by
 refine ⟨by simp [h.1], fun k => ?_⟩
 have := h.2 k
 rw [List.getD_eq_getElem?_getD] at this ⊢
 rw [List.getElem?_set]
 split
 ·split
  ·simpa using hx
  ·simp
 ·exact this
theorem setF_ok {n : Nat} {v : List Nat} (h : Wd n v) (a b c d : Nat) {q : Four} (hq : q.Ok) : Wd n (setF v a b c d q) :=
 (((h.set a hq.1).set b hq.2.1).set c hq.2.2.1).set d hq.2.2.2
theorem four_ok {n : Nat} {v : List Nat} (h : Wd n v) (a b c d : Nat) : (four v a b c d).Ok := ⟨h.2 a, h.2 b, h.2 c, h.2 d⟩
theorem gAt_ok {n : Nat} {v : List Nat} (m s : List Nat) (a b c d i j : Nat) (h : Wd n v) : Wd n (gAt m s a b c d i j v) := setF_ok h a b c d (gF_ok (four_ok h a b c d))
/-- A round. -/
def roundF (m s v : List Nat) : List Nat :=
 gAt m s 3 4 9 14 14 15 (gAt m s 2 7 8 13 12 13 (gAt m s 1 6 11 12 10 11 (gAt m s 0 5 10 15 8 9 (gAt m s 3 7 11 15 6 7 (gAt m s 2 6 10 14 4 5 (gAt m s 1 5 9 13 2 3 (gAt m s 0 4 8 12 0 1 v)))))))
theorem roundF_ok {n : Nat} {v : List Nat} (m s : List Nat) (h : Wd n v) : Wd n (roundF m s v) := by
 unfold roundF
 exact gAt_ok m s _ _ _ _ _ _ (gAt_ok m s _ _ _ _ _ _ (gAt_ok m s _ _ _ _ _ _ (gAt_ok m s _ _ _ _ _ _ (gAt_ok m s _ _ _ _ _ _ (gAt_ok m s _ _ _ _ _ _ (gAt_ok m s _ _ _ _ _ _ (gAt_ok m s _ _ _ _ _ _ h)))))))

/-- Bytes. -/
def By (n : Nat) (b : List Nat) : Prop := b.length = n ∧ ∀ i, b.getD i 0 < 256
/-- No word but 0; the words of a block's first i bytes, of each the lowest byte first. -/
def z16 : List Nat := List.replicate 16 0
def mP (b : List Nat) : Nat → List Nat
 | 0 => z16
 | i + 1 => (mP b i).set (i / 4) ((mP b i).getD (i / 4) 0 ||| (b.getD i 0 <<< (8 * (i % 4))))
theorem shl_lt {x r : Nat} (hx : x < 256) (hr : r < 4) : x <<< (8 * r) < 4294967296 := by
 rw [Nat.shiftLeft_eq]
 have : 2 ^ (8 * r) ≤ 2 ^ 24 := Nat.pow_le_pow_right (by decide) (by omega)
 have h2 : x * 2 ^ (8 * r) ≤ 255 * 2 ^ 24 := Nat.mul_le_mul (by omega) this
 omega
theorem mP_ok {b : List Nat} (hb : ∀ i, b.getD i 0 < 256) : ∀ i, Wd 16 (mP b i)
 | 0 => ⟨rfl, fun k => by
   have : (List.replicate 16 0).getD k 0 = 0 := by
    rw [List.getD_eq_getElem?_getD, List.getElem?_replicate]; split <;> rfl
   show z16.getD k 0 < _
   unfold z16
   rw [this]; decide⟩
 | i + 1 => (mP_ok hb i).set _ (Nat.or_lt_two_pow (n := 32) ((mP_ok hb i).2 _) (shl_lt (hb i) (Nat.mod_lt _ (by decide))))
end Go.Proofs.YtanchjfodcjlmaaGreatDoor
/- The step G: bits.RotateLeft32 and blake.step. -/
namespace Go.Proofs.YtanchjfodcjlmaaGreatDoor
open Go.RowKit

theorem xor_W (a b : Nat) (ha : a < 4294967296) (hb : b < 4294967296) : bits .xor .u32 (a : Int) (b : Int) = ((xorW a b : Nat) : Int) := u32_xor_nat a b ha hb
theorem add_W (a b : Nat) : ((a : Int) + b) % 4294967296 = ((addW a b : Nat) : Int) := by unfold addW; omega
theorem add_WW (a b x : Nat) : ((a : Int) + ((b : Int) + x) % 4294967296) % 4294967296 = ((addW a (addW b x) : Nat) : Int) := by unfold addW; omega

theorem ror16_or (x : Nat) (hx : x < 4294967296) : bits .or .u32 ((x : Int) * 65536 % 4294967296) ((x : Int) / 65536) = ((ror 16 x : Nat) : Int) := by
 rw [u32_or _ _ (by omega) (by omega) (by omega) (by omega)]
 have e1 : ((x : Int) * 65536 % 4294967296).toNat = x * 65536 % 4294967296 := by omega
 have e2 : ((x : Int) / 65536).toNat = x / 65536 := by omega
 rw [e1, e2]
 unfold ror
 rw [Nat.shiftLeft_eq, Nat.shiftRight_eq_div_pow]
set_option maxHeartbeats 400000 in
theorem rot16 (x : Nat) (hx : x < 4294967296) (w : World) : Calls Tryz.prog 117 #[.int .u32 x, .int .i64 (-16)] w fun e w' => e = .returned (.int .u32 (ror 16 x : Nat)) ∧ w' = w := by
 have hx' : (x : Int) < 4294967296 := by omega
 have hs : bits BinOp.and IntKind.u64 (IntKind.u64.wrap (-16)) 31 = 16 := by kernel_rfl
 have hr := ror16_or x hx
 go_enter Tryz.func117, Tryz.ntmps117
 go_wp2
 go_ret
 exact ⟨rfl, rfl⟩

theorem ror12_or (x : Nat) (hx : x < 4294967296) : bits .or .u32 ((x : Int) * 1048576 % 4294967296) ((x : Int) / 4096) = ((ror 12 x : Nat) : Int) := by
 rw [u32_or _ _ (by omega) (by omega) (by omega) (by omega)]
 have e1 : ((x : Int) * 1048576 % 4294967296).toNat = x * 1048576 % 4294967296 := by omega
 have e2 : ((x : Int) / 4096).toNat = x / 4096 := by omega
 rw [e1, e2]
 unfold ror
 rw [Nat.shiftLeft_eq, Nat.shiftRight_eq_div_pow]
set_option maxHeartbeats 400000 in
theorem rot12 (x : Nat) (hx : x < 4294967296) (w : World) : Calls Tryz.prog 117 #[.int .u32 x, .int .i64 (-12)] w fun e w' => e = .returned (.int .u32 (ror 12 x : Nat)) ∧ w' = w := by
 have hx' : (x : Int) < 4294967296 := by omega
 have hs : bits BinOp.and IntKind.u64 (IntKind.u64.wrap (-12)) 31 = 20 := by kernel_rfl
 have hr := ror12_or x hx
 go_enter Tryz.func117, Tryz.ntmps117
 go_wp2
 go_ret
 exact ⟨rfl, rfl⟩

theorem ror8_or (x : Nat) (hx : x < 4294967296) : bits .or .u32 ((x : Int) * 16777216 % 4294967296) ((x : Int) / 256) = ((ror 8 x : Nat) : Int) := by
 rw [u32_or _ _ (by omega) (by omega) (by omega) (by omega)]
 have e1 : ((x : Int) * 16777216 % 4294967296).toNat = x * 16777216 % 4294967296 := by omega
 have e2 : ((x : Int) / 256).toNat = x / 256 := by omega
 rw [e1, e2]
 unfold ror
 rw [Nat.shiftLeft_eq, Nat.shiftRight_eq_div_pow]
set_option maxHeartbeats 400000 in
theorem rot8 (x : Nat) (hx : x < 4294967296) (w : World) : Calls Tryz.prog 117 #[.int .u32 x, .int .i64 (-8)] w fun e w' => e = .returned (.int .u32 (ror 8 x : Nat)) ∧ w' = w := by
 have hx' : (x : Int) < 4294967296 := by omega
 have hs : bits BinOp.and IntKind.u64 (IntKind.u64.wrap (-8)) 31 = 24 := by kernel_rfl
 have hr := ror8_or x hx
 go_enter Tryz.func117, Tryz.ntmps117
 go_wp2
 go_ret
 exact ⟨rfl, rfl⟩

theorem ror7_or (x : Nat) (hx : x < 4294967296) : bits .or .u32 ((x : Int) * 33554432 % 4294967296) ((x : Int) / 128) = ((ror 7 x : Nat) : Int) := by
 rw [u32_or _ _ (by omega) (by omega) (by omega) (by omega)]
 have e1 : ((x : Int) * 33554432 % 4294967296).toNat = x * 33554432 % 4294967296 := by omega
 have e2 : ((x : Int) / 128).toNat = x / 128 := by omega
 rw [e1, e2]
 unfold ror
 rw [Nat.shiftLeft_eq, Nat.shiftRight_eq_div_pow]
set_option maxHeartbeats 400000 in
theorem rot7 (x : Nat) (hx : x < 4294967296) (w : World) : Calls Tryz.prog 117 #[.int .u32 x, .int .i64 (-7)] w fun e w' => e = .returned (.int .u32 (ror 7 x : Nat)) ∧ w' = w := by
 have hx' : (x : Int) < 4294967296 := by omega
 have hs : bits BinOp.and IntKind.u64 (IntKind.u64.wrap (-7)) 31 = 25 := by kernel_rfl
 have hr := ror7_or x hx
 go_enter Tryz.func117, Tryz.ntmps117
 go_wp2
 go_ret
 exact ⟨rfl, rfl⟩

set_option maxHeartbeats 1600000 in
theorem step_any (a b c d x y : Nat) (hb : b < 4294967296) (hd : d < 4294967296) (w : World) :
  Calls Tryz.prog 116 #[.int .u32 a, .int .u32 b, .int .u32 c, .int .u32 d, .int .u32 x, .int .u32 y] w fun e w' =>
   e = .returned (.tuple #[.int .u32 ((gF ⟨a, b, c, d⟩ x y).a : Nat), .int .u32 ((gF ⟨a, b, c, d⟩ x y).b : Nat), .int .u32 ((gF ⟨a, b, c, d⟩ x y).c : Nat), .int .u32 ((gF ⟨a, b, c, d⟩ x y).d : Nat)]) ∧ w' = w := by
 have E : Hid (∀ a1 x1 d1 c1 x2 b1 a2 x3 d2 c2 x4 b2 : Nat, a1 = addW a (addW b x) → x1 = xorW d a1 → d1 = ror 16 x1 → c1 = addW c d1 → x2 = xorW b c1 → b1 = ror 12 x2 → a2 = addW a1 (addW b1 y) → x3 = xorW d1 a2 → d2 = ror 8 x3 → c2 = addW c1 d2 → x4 = xorW b1 c2 → b2 = ror 7 x4 → gF ⟨a, b, c, d⟩ x y = ⟨a2, b2, c2, d2⟩) := by
  intro a1 x1 d1 c1 x2 b1 a2 x3 d2 c2 x4 b2 h1 h2 h3 h4 h5 h6 h7 h8 h9 h10 h11 h12
  subst h12 h11 h10 h9 h8 h7 h6 h5 h4 h3 h2 h1
  rfl
 have n1 := add_WW a b x
 obtain ⟨a1, ha1⟩ : ∃ n, n = addW a (addW b x) := ⟨_, rfl⟩
 have la1 : a1 < 4294967296 := by rw [ha1]; exact addW_lt _ _
 rw [← ha1] at n1
 have n2 := xor_W d a1 hd la1
 obtain ⟨x1, hx1⟩ : ∃ n, n = xorW d a1 := ⟨_, rfl⟩
 have lx1 : x1 < 4294967296 := by rw [hx1]; exact xorW_lt hd la1
 rw [← hx1] at n2
 obtain ⟨d1, hd1⟩ : ∃ n, n = ror 16 x1 := ⟨_, rfl⟩
 have ld1 : d1 < 4294967296 := by rw [hd1]; exact ror_lt lx1
 have k1 := rot16 x1 lx1 w
 rw [← hd1] at k1
 have n3 := add_W c d1
 obtain ⟨c1, hc1⟩ : ∃ n, n = addW c d1 := ⟨_, rfl⟩
 have lc1 : c1 < 4294967296 := by rw [hc1]; exact addW_lt _ _
 rw [← hc1] at n3
 have n4 := xor_W b c1 hb lc1
 obtain ⟨x2, hx2⟩ : ∃ n, n = xorW b c1 := ⟨_, rfl⟩
 have lx2 : x2 < 4294967296 := by rw [hx2]; exact xorW_lt hb lc1
 rw [← hx2] at n4
 obtain ⟨b1, hb1⟩ : ∃ n, n = ror 12 x2 := ⟨_, rfl⟩
 have lb1 : b1 < 4294967296 := by rw [hb1]; exact ror_lt lx2
 have k2 := rot12 x2 lx2 w
 rw [← hb1] at k2
 have n5 := add_WW a1 b1 y
 obtain ⟨a2, ha2⟩ : ∃ n, n = addW a1 (addW b1 y) := ⟨_, rfl⟩
 have la2 : a2 < 4294967296 := by rw [ha2]; exact addW_lt _ _
 rw [← ha2] at n5
 have n6 := xor_W d1 a2 ld1 la2
 obtain ⟨x3, hx3⟩ : ∃ n, n = xorW d1 a2 := ⟨_, rfl⟩
 have lx3 : x3 < 4294967296 := by rw [hx3]; exact xorW_lt ld1 la2
 rw [← hx3] at n6
 obtain ⟨d2, hd2⟩ : ∃ n, n = ror 8 x3 := ⟨_, rfl⟩
 have ld2 : d2 < 4294967296 := by rw [hd2]; exact ror_lt lx3
 have k3 := rot8 x3 lx3 w
 rw [← hd2] at k3
 have n7 := add_W c1 d2
 obtain ⟨c2, hc2⟩ : ∃ n, n = addW c1 d2 := ⟨_, rfl⟩
 have lc2 : c2 < 4294967296 := by rw [hc2]; exact addW_lt _ _
 rw [← hc2] at n7
 have n8 := xor_W b1 c2 lb1 lc2
 obtain ⟨x4, hx4⟩ : ∃ n, n = xorW b1 c2 := ⟨_, rfl⟩
 have lx4 : x4 < 4294967296 := by rw [hx4]; exact xorW_lt lb1 lc2
 rw [← hx4] at n8
 obtain ⟨b2, hb2⟩ : ∃ n, n = ror 7 x4 := ⟨_, rfl⟩
 have k4 := rot7 x4 lx4 w
 rw [← hb2] at k4
 have EE := E.out a1 x1 d1 c1 x2 b1 a2 x3 d2 c2 x4 b2 ha1 hx1 hd1 hc1 hx2 hb1 ha2 hx3 hd2 hc2 hx4 hb2
 rw [EE]
 clear E EE ha1 hx1 hd1 hc1 hx2 hb1 ha2 hx3 hd2 hc2 hx4 hb2
 have C1 : Hid (Calls Tryz.prog 117 #[.int .u32 x1, .int .i64 (-16)] w fun e w' => e = .returned (.int .u32 (d1 : Nat)) ∧ w' = w) := k1
 have C2 : Hid (Calls Tryz.prog 117 #[.int .u32 x2, .int .i64 (-12)] w fun e w' => e = .returned (.int .u32 (b1 : Nat)) ∧ w' = w) := k2
 have C3 : Hid (Calls Tryz.prog 117 #[.int .u32 x3, .int .i64 (-8)] w fun e w' => e = .returned (.int .u32 (d2 : Nat)) ∧ w' = w) := k3
 have C4 : Hid (Calls Tryz.prog 117 #[.int .u32 x4, .int .i64 (-7)] w fun e w' => e = .returned (.int .u32 (b2 : Nat)) ∧ w' = w) := k4
 clear k1 k2 k3 k4
 go_enter Tryz.func116, Tryz.ntmps116
 go_wp2_with fail
 refine C1.out.mono ?_
 rintro e w' ⟨rfl, rfl⟩
 go_wp2_with fail
 refine C2.out.mono ?_
 rintro e w1 ⟨rfl, rfl⟩
 go_wp2_with fail
 refine C3.out.mono ?_
 rintro e w1 ⟨rfl, rfl⟩
 go_wp2_with fail
 refine C4.out.mono ?_
 rintro e w1 ⟨rfl, rfl⟩
 go_wp2
 exact bodyPost_ret (v := .tuple #[.int .u32 (a2 : Nat), .int .u32 (b2 : Nat), .int .u32 (c2 : Nat), .int .u32 (d2 : Nat)]) (by simp [results, Tryz.results116, go_sem]) rfl ⟨rfl, rfl⟩
end Go.Proofs.YtanchjfodcjlmaaGreatDoor
/- Rows of words; slots of a frame; one cell loaded and stored. -/
namespace Go.Proofs.YtanchjfodcjlmaaGreatDoor
open Go.RowKit

/-- Words, and small numbers, as cells. -/
def wl (v : List Nat) : List Value := v.map fun x => Value.int .u32 (x : Nat)
def wv (v : List Nat) : Array Value := (wl v).toArray
def sl8 (s : List Nat) : List Value := s.map fun x => Value.int .u8 (x : Nat)
def sv (s : List Nat) : Array Value := (sl8 s).toArray
theorem wv_size (v : List Nat) : (wv v).size = v.length := by simp [wv, wl]
theorem wv_at {v : List Nat} {j : Nat} (h : j < v.length) : (wv v)[j]? = some (.int .u32 (v.getD j 0 : Nat)) := by
 simp [wv, wl, List.getElem?_map, List.getElem?_eq_getElem h, List.getD_eq_getElem?_getD]
theorem sv_at {v : List Nat} {j : Nat} (h : j < v.length) : (sv v)[j]? = some (.int .u8 (v.getD j 0 : Nat)) := by
 simp [sv, sl8, List.getElem?_map, List.getElem?_eq_getElem h, List.getD_eq_getElem?_getD]
theorem wv_one (v : List Nat) : (wv v).all (·.oneCell') = true := by
 refine all_oneCell_toArray (fun u hu => ?_)
 obtain ⟨x, _, rfl⟩ := List.mem_map.1 hu
 rfl
theorem wv_set {w : World} {g : Nat} {t : TypeId} {v : List Nat} (h : w.heap[g]? = some (.cells (wv v) t (0, 0))) (j x : Nat) :
  (w.setCell ⟨g, j, none⟩ (.int .u32 (x : Nat))).heap[g]? = some (.cells (wv (v.set j x)) t (0, 0)) := by
 rw [heap_setCell_same w g j _ t _ h]
 simp [wv, wl, List.map_set]

section
variable {a : Act} {d x : Nat} {v : Value} {o : Option Tmp}
theorem ev_same (h : d < a.tmps.size) : (a.put (some d) v).eval (.tmp d) = v := by simp [Act.put, Act.eval, h]
theorem ev_ne (h : d ≠ x) : (a.put (some d) v).eval (.tmp x) = a.eval (.tmp x) := Act.eval_put (fun e he => by cases he; simpa using Ne.symm h)
theorem put_size : (a.put o v).tmps.size = a.tmps.size := by cases o <;> simp [Act.put]
theorem put_defers' : (a.put o v).defers = a.defers := by cases o <;> rfl
end

section
variable {P : Program} {o : Oper} {a : Act} {w : World} {K : Act → World → Prop} {Q : Exit → Act → World → Prop}
theorem ru_move {x : Operand} (ho : o.op = .move x) {v : Value} (hx : a.eval x = v) : (execOp a.eval o).run P w = .ok (.value v) w := by
 unfold execOp; simp [ho, hx]
theorem ru_nil {x : Operand} (ho : o.op = .nilCheck x) {ad : Addr} (hx : a.eval x = .pointer (some ad)) : (execOp a.eval o).run P w = .ok (.value (.pointer (some ad))) w := by
 unfold execOp; simp [ho, hx]
theorem ru_idx {t e : TypeId} {x y : Operand} (ho : o.op = .indexAddr t x y) {g n j : Nat} {k : IntKind} {i : Int} (hu : P.underlying t = some (.array n e)) (hz : ∀ w, (sizeOf e).run P w = .ok 1 w)
  (hx : a.eval x = .pointer (some ⟨g, 0, none⟩)) (hy : a.eval y = .int k i) (hi : i = j) (hj : j < n) : (execOp a.eval o).run P w = .ok (.value (.pointer (some ⟨g, j, none⟩))) w := by
 subst hi
 unfold execOp
 simp [ho, hx, hy, Instr.indexAt, run_underlying hu, Instr.sureAddr, asIntOf, hz, Addr.add, hj]
 by_cases h0 : j = 0
 ·simp [h0]
 ·simp [h0]
theorem ru_ext {x : Operand} {i : Nat} {l : Array Value} {v : Value} (ho : o.op = .extract x i) (hx : a.eval x = .tuple l) (hi : l[i]? = some v) : (execOp a.eval o).run P w = .ok (.value v) w := by
 unfold execOp; simp [ho, hx, Instr.extract, hi]
end
theorem ru_ld32 {o : Oper} {a : Act} {w : World} {x : Operand} (ho : o.op = .load 151 x) {g j : Nat} {u : Value} (hx : a.eval x = .pointer (some ⟨g, j, none⟩)) (hc : w.cell? ⟨g, j, none⟩ = some u) : (execOp a.eval o).run Tryz.prog w = .ok (.value u) w := by
 unfold execOp
 simp only [ho, hx]
 go_simp
theorem ru_ld8 {o : Oper} {a : Act} {w : World} {x : Operand} (ho : o.op = .load 5 x) {g j : Nat} {u : Value} (hx : a.eval x = .pointer (some ⟨g, j, none⟩)) (hc : w.cell? ⟨g, j, none⟩ = some u) : (execOp a.eval o).run Tryz.prog w = .ok (.value u) w := by
 unfold execOp
 simp only [ho, hx]
 go_simp
theorem wp_st32 {o : Oper} {a : Act} {w : World} {K : Act → World → Prop} {Q : Exit → Act → World → Prop} {x y : Operand} (ho : o.op = .store 151 x y) (hd : o.dst = none) {g j : Nat} {u : Value} {n : Int} (hx : a.eval x = .pointer (some ⟨g, j, none⟩)) (hy : a.eval y = .int .u32 n)
  (hc : w.cell? ⟨g, j, none⟩ = some u) (hf : w.frozen? ⟨g, j, none⟩ = false) (h : K a (w.setCell ⟨g, j, none⟩ (.int .u32 n))) : o.wp Tryz.prog a w K Q := by
 unfold Oper.wp execOp
 simp only [ho, hx, hy]
 go_simp
 exact h
theorem hz32 (w : World) : (sizeOf 151).run Tryz.prog w = .ok 1 w := by kernel_rfl
end Go.Proofs.YtanchjfodcjlmaaGreatDoor
