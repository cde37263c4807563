/- num: the number of an error. -/
import Derived.Test.YtbfajoeilpkofaaGreatDoorOwnShelf02
import Derived.Test.YtbfajoeilpkofaaGreatDoorOwnShelf01
import Derived.WalkKit
import Derived.WalkSpells
import Derived.WalkLawsBesides
import Derived.Maps.AppendAt
import Derived.Laws.CopyOwn
import Derived.Deep.MidRow
import Derived.Deep.AppendSrc
import Derived.Deep.AppendLies
import Derived.Deep.DrawnRows
import Derived.Deep.RegionLaw
import Derived.Stop.BytesEq
import Derived.Laws.IdiomStrings
import Derived.Lib.BufferRead
namespace Go.Proofs.YtbfajoeilpkofaaGreatDoor
open Go.RowKit

/-- The library's variable that holds the type error's own handle. -/
def Glob (w : World) : Prop := w.cell? ⟨0, 0, none⟩ = some (.iface 179 (.agg #[.pointer (some ⟨2, 26, none⟩)]))
theorem Glob.below {w w' : World} {B : Nat} (h : Glob w) (hb : Below B w w') (hB : 0 < B) : Glob w' := by
  unfold Glob at *
  rw [hb.cell (p := ⟨0, 0, none⟩) hB]; exact h
theorem Glob.pos {w : World} (h : Glob w) : 0 < w.heap.size := World.block_lt_of_cell? w ⟨0, 0, none⟩ h
theorem Glob.frm {w w' : World} {S : List Nat} (h : Glob w) (hf : Frm S w w') (hS : 0 ∉ S) : Glob w' := by
  unfold Glob at *
  rw [World.cell?_of_block (a := ⟨0, 0, none⟩) (hf.block 0 (World.block_lt_of_cell? w ⟨0, 0, none⟩ h) hS)]; exact h

set_option maxHeartbeats 400000 in
theorem num_nil (w : World) :
    Calls Tryz.prog 12 #[.nilIface] w fun e w' => e = .returned (.int .i64 0) ∧ Below w.heap.size w w' := by
  go_enter Tryz.func12, Tryz.ntmps12
  go_wp2
  go_ret
  exact ⟨rfl, (by repeat (first | exact Below.refl _ _ | refine Below.alloc ?_ (by simp; try omega) _ | refine Below.setCell ?_ (by simp) _ | refine below_drewN ?_ _ | refine Below.drew ?_))⟩

set_option maxHeartbeats 400000 in
theorem num_hit (x : Int) (w : World) (hg : Glob w) :
    Calls Tryz.prog 12 #[.iface 72 (.int .i64 x)] w fun e w' => e = .returned (.int .i64 x) ∧ Below w.heap.size w w' := by
  have hp := hg.pos
  have hg1 : Glob (w.alloc (.cells #[.int .i64 0] 72)) := hg.below ((Below.refl _ w).alloc (Nat.le_refl _) _) hp
  have ht : (w.alloc (.cells #[.int .i64 0] 72)).cell? ⟨w.heap.size, 0, none⟩ = some (.int .i64 0) := by simp
  have hf : (w.alloc (.cells #[.int .i64 0] 72)).frozen? ⟨w.heap.size, 0, none⟩ = false := by simp
  go_enter Tryz.func12, Tryz.ntmps12
  go_wp2_with (go_at_call 37; refine (as_hit x _ _ _ hg1 ht hf).mono ?_; rintro e w' ⟨rfl, rfl⟩)
  go_ret
  exact ⟨rfl, (by repeat (first | exact Below.refl _ _ | refine Below.alloc ?_ (by simp; try omega) _ | refine Below.setCell ?_ (by simp) _ | refine below_drewN ?_ _ | refine Below.drew ?_))⟩

theorem num_any (x : Int) (w : World) (hg : Glob w) :
    Calls Tryz.prog 12 #[errV x] w fun e w' => e = .returned (.int .i64 x) ∧ Below w.heap.size w w' := by
  by_cases h : x = 0
  · subst h; exact num_nil w
  · rw [errV_ne h]; exact num_hit x w hg

end Go.Proofs.YtbfajoeilpkofaaGreatDoor
/- Bytes that lie somewhere; rows of bytes of one's own; bytes as a string. (BOw, for a seat without sums.) -/
namespace Go.Proofs.YtbfajoeilpkofaaGreatDoor
open Go.RowKit
/-- The n bytes z lie at an address. -/
def SlAt (w : World) (ad : Option Addr) (n : Nat) (z : Nat → Int) : Prop :=
  (∀ j, j < n → 0 ≤ z j ∧ z j ≤ 255) ∧ (0 < n → ∃ b off, ad = some ⟨b, off, none⟩ ∧ ∀ j, j < n → w.cell? ⟨b, off + j, none⟩ = some (.int .u8 (z j)))

theorem SlAt.drewN {w : World} {ad : Option Addr} {n : Nat} {z : Nat → Int} (h : SlAt w ad n z) (q : Nat) : SlAt (w.drewN q) ad n z := by
  refine ⟨h.1, fun hn => ?_⟩
  obtain ⟨b, off, e, hc⟩ := h.2 hn
  exact ⟨b, off, e, fun j hj => by simpa using hc j hj⟩

/-- 'b[1:]'. -/
theorem SlAt.tail {w : World} {b off n cap : Nat} {z : Nat → Int} (hz : ∀ j, j < n → 0 ≤ z j ∧ z j ≤ 255) (hc : ∀ j, j < n → w.cell? ⟨b, off + j, none⟩ = some (.int .u8 (z j))) (hlc : n ≤ cap) :
    SlAt w (if cap = 1 then some ⟨b, off, none⟩ else some ⟨b, off + 1, none⟩) (n - 1) (fun j => z (j + 1)) := by
  refine ⟨fun j hj => hz _ (by omega), fun hn => ?_⟩
  rw [if_neg (by omega)]
  exact ⟨b, off + 1, rfl, fun j hj => by rw [show off + 1 + j = off + (j + 1) from by omega]; exact hc (j + 1) (by omega)⟩
theorem SlAt.block {w w' : World} {ad : Option Addr} {n : Nat} {z : Nat → Int} (h : SlAt w ad n z) (hb : ∀ b off, 0 < n → ad = some ⟨b, off, none⟩ → w'.heap[b]? = w.heap[b]?) : SlAt w' ad n z := by
  refine ⟨h.1, fun hn => ?_⟩
  obtain ⟨b, off, e, hc⟩ := h.2 hn
  refine ⟨b, off, e, fun j hj => ?_⟩
  rw [World.cell?_of_block (hb b off hn e)]
  exact hc j hj
theorem SlAt.frm {S : List Nat} {w w' : World} {ad : Option Addr} {n : Nat} {z : Nat → Int} (h : SlAt w ad n z) (hf : Frm S w w') (hs : ∀ b off, 0 < n → ad = some ⟨b, off, none⟩ → b ∉ S) : SlAt w' ad n z := by
  refine ⟨h.1, fun hn => ?_⟩
  obtain ⟨b, off, e, hc⟩ := h.2 hn
  refine ⟨b, off, e, fun j hj => ?_⟩
  have hlt : b < w.heap.size := World.block_lt_of_cell? w ⟨b, off + j, none⟩ (hc j hj)
  rw [World.cell?_of_block (a := ⟨b, off + j, none⟩) (hf.block b hlt (hs b off hn e))]
  exact hc j hj
theorem SlAt.lt {w : World} {ad : Option Addr} {n : Nat} {z : Nat → Int} (h : SlAt w ad n z) {b off : Nat} (hn : 0 < n) (e : ad = some ⟨b, off, none⟩) : b < w.heap.size := by
  obtain ⟨b', off', e', hc⟩ := h.2 hn
  rw [e] at e'; cases e'
  exact World.block_lt_of_cell? w ⟨b, off + 0, none⟩ (hc 0 hn)
/-- 'b[k:]'. -/
theorem SlAt.drop {w : World} {ad : Option Addr} {n k : Nat} {z : Nat → Int} (h : SlAt w ad n z) : SlAt w (Option.map (fun x => x.add k) ad) (n - k) (fun j => z (j + k)) := by
  refine ⟨fun j hj => h.1 _ (by omega), fun hn => ?_⟩
  obtain ⟨b, off, e, hc⟩ := h.2 (by omega)
  refine ⟨b, off + k, by rw [e]; simp [Addr.add_lit], fun j hj => ?_⟩
  rw [show off + k + j = off + (j + k) from by omega]
  exact hc (j + k) (by omega)
theorem SlAt.zero {w : World} (ad : Option Addr) (z : Nat → Int) : SlAt w ad 0 z := ⟨fun j hj => by omega, fun h => by omega⟩
theorem SlAt.congr {w : World} {ad : Option Addr} {n : Nat} {z y : Nat → Int} (h : SlAt w ad n z) (he : ∀ j, j < n → z j = y j) : SlAt w ad n y := by
  refine ⟨fun j hj => by rw [← he j hj]; exact h.1 j hj, fun hn => ?_⟩
  obtain ⟨b, off, e, hc⟩ := h.2 hn
  exact ⟨b, off, e, fun j hj => by rw [← he j hj]; exact hc j hj⟩
theorem Tryz.infoB : (Tryz.prog.info? 5).map (fun i => (i.zero, i.size, i.bytes)) = some (some (.int .u8 0), 1, 1) := by kernel_rfl
theorem bl_cells {w : World} {b off n : Nat} {z : Nat → Int} (hc : ∀ j, j < n → w.cell? ⟨b, off + j, none⟩ = some (.int .u8 (z j))) : ∀ j u, (bl z n)[j]? = some u → w.cell? ((⟨b, off, none⟩ : Addr).add j) = some u := by
  intro j u h
  obtain ⟨hj, rfl⟩ := bl_get h
  rw [Addr.add_lit]
  exact hc j hj

/-- What owns a row of bytes is a slice of them. -/
theorem own_SlAt {w : World} {base : Nat} {v : Value} {n : Nat} {z : Nat → Int} (hz : ∀ j, j < n → 0 ≤ z j ∧ z j ≤ 255) (h : w.ownsRow base 5 1 v n (bl z n)) :
    ∃ ad cap, v = .slice ad n cap ∧ n ≤ cap ∧ SlAt w ad n z ∧ (ad = none → n = 0 ∧ cap = 0) ∧ (∀ a, ad = some a → base ≤ a.block) := by
  rcases h.2 with ⟨rfl, rfl⟩ | ⟨g, cap, cur, rfl, hb, hg, hcap, _, hsz, htk⟩
  · exact ⟨none, 0, rfl, Nat.le_refl _, SlAt.zero _ _, fun _ => ⟨rfl, rfl⟩, fun _ h => by cases h⟩
  · refine ⟨some ⟨g, 0, none⟩, cap, rfl, hcap, ⟨hz, fun _ => ⟨g, 0, rfl, fun j hj => ?_⟩⟩, (fun h => by cases h), (fun a h => by cases h; exact hb)⟩
    have := h.cells (g := g) rfl j _ (bl_at hj)
    rwa [Addr.add_lit] at this

def fn (l : List Int) : Nat → Int := fun j => l.getD j 0
theorem fn_get (l : List Int) (j : Nat) (h : j < l.length) : fn l j = l[j] := by simp [fn, h]
theorem map_bl (l : List Int) : l.map (Value.int .u8) = bl (fn l) l.length := by
  apply List.ext_getElem
  · simp [bl_length]
  · intro j h1 h2
    simp at h1
    simp [bl, fn, h1]

/-- A slice of its own that holds bytes. -/
def Fresh (w w' : World) (ad : Option Addr) (cap : Nat) (l : List Int) : Prop :=
  l.length ≤ cap ∧ SlAt w' ad l.length (fn l) ∧ (ad = none → l.length = 0 ∧ cap = 0) ∧ (∀ a, ad = some a → w.heap.size ≤ a.block) ∧ Below w.heap.size w w'
theorem Fresh.nil {w w' : World} (h : Below w.heap.size w w') : Fresh w w' none 0 [] := ⟨Nat.le_refl _, SlAt.zero _ _, (fun _ => ⟨rfl, rfl⟩), (fun _ h => by cases h), h⟩
def BPost (w : World) (r : List Int × Nat × Int) (e : Ending) (w' : World) : Prop :=
  ∃ ad cap, e = .returned (.tuple #[.slice ad r.1.length cap, .int .i64 r.2.1, errV r.2.2]) ∧ Fresh w w' ad cap r.1
theorem BPost.err {w w' : World} {er : Int} (h : Below w.heap.size w w') : BPost w ([], 0, er) (.returned (.tuple #[.slice none 0 0, .int .i64 0, errV er])) w' := ⟨none, 0, rfl, Fresh.nil h⟩

theorem fn_bd {l : List Int} (h : ∀ x, x ∈ l → 0 ≤ x ∧ x ≤ 255) : ∀ j, j < l.length → 0 ≤ fn l j ∧ fn l j ≤ 255 := fun j hj => by rw [fn_get l j hj]; exact h _ (List.getElem_mem hj)
theorem own_fresh {w w' : World} {ad : Option Addr} {cp : Nat} {l : List Int} (h : w'.ownsRow w.heap.size 5 1 (.slice ad l.length cp) l.length (l.map (Value.int .u8))) (hx : ∀ x, x ∈ l → 0 ≤ x ∧ x ≤ 255) (hb : Below w.heap.size w w') : Fresh w w' ad cp l := by
  rw [map_bl] at h
  obtain ⟨ad', cap', e, h1, h2, h3, h4⟩ := own_SlAt (fn_bd hx) h
  cases e
  exact ⟨h1, h2, h3, h4, hb⟩
theorem own_form {w : World} {B n : Nat} {v : Value} {xs : List Value} (h : w.ownsRow B 5 1 v n xs) : ∃ ad cp, v = .slice ad n cp := by
  rcases h.2 with ⟨rfl, rfl⟩ | ⟨g, cap, cur, rfl, _⟩
  · exact ⟨none, 0, rfl⟩
  · exact ⟨_, cap, rfl⟩
/-- What is appended: bytes that lie somewhere, or nothing. -/
def BSrc (w : World) (u : Value) (ys : List Int) : Prop :=
  ∃ ad c, u = .slice ad ys.length c ∧ ((ad = none ∧ ys = []) ∨ ∃ a, ad = some a ∧ ∀ j v, (ys.map (Value.int .u8))[j]? = some v → w.cell? (a.add j) = some v)
/-- A value that owns bytes, made since w0; nothing that was there in w0 has changed. -/
structure Ow (w0 w : World) (v : Value) (L : List Int) : Prop where
  own : w.ownsRow w0.heap.size 5 1 v L.length (L.map (Value.int .u8))
  below : Below w0.heap.size w0 w
  bd : ∀ x, x ∈ L → 0 ≤ x ∧ x ≤ 255

theorem Ow.nil (w : World) : Ow w w (.slice none 0 0) [] := ⟨World.ownsRow_nil _ _ _ _, Below.refl _ _, fun x h => by cases h⟩
theorem Ow.alloc {w0 w : World} {v : Value} {L : List Int} (h : Ow w0 w v L) (o : Obj) : Ow w0 (w.alloc o) v L := ⟨h.own.alloc _, h.below.alloc h.below.size _, h.bd⟩
theorem Ow.drew {w0 w : World} {v : Value} {L : List Int} (h : Ow w0 w v L) : Ow w0 w.drew v L := ⟨h.own.drew, h.below.drew, h.bd⟩
theorem Ow.le {w0 w : World} {v : Value} {L : List Int} (h : Ow w0 w v L) : w0.heap.size ≤ w.heap.size := h.below.size
theorem Ow.mono {w w0 w1 : World} {v : Value} {L : List Int} (h : Ow w0 w1 v L) (hb : Below w.heap.size w w0) : Ow w w1 v L := by
  refine ⟨⟨h.own.1, ?_⟩, hb.trans (h.below.mono hb.size), h.bd⟩
  rcases h.own.2 with hn | ⟨g, cap, cur, e, hbs, rest⟩
  · exact .inl hn
  · exact .inr ⟨g, cap, cur, e, Nat.le_trans hb.size hbs, rest⟩
theorem Ow.src {w0 w w' : World} {v : Value} {L : List Int} (h : Ow w0 w v L) (hb : Below w.heap.size w w') : BSrc w' v L := by
  have hown := h.own
  rcases h.own.2 with ⟨rfl, hl⟩ | ⟨g, cap, cur, rfl, hbs, hg, rest⟩
  · have : L = [] := List.eq_nil_of_length_eq_zero hl
    subst this
    exact ⟨none, 0, rfl, .inl ⟨rfl, rfl⟩⟩
  · refine ⟨some ⟨g, 0, none⟩, cap, rfl, .inr ⟨_, rfl, fun j u hu => ?_⟩⟩
    have h1 := hown.cells (g := g) rfl j u hu
    rw [Addr.add_lit] at h1 ⊢
    rw [hb.cell (p := ⟨g, 0 + j, none⟩) (World.block_lt_of_cell? w _ h1)]
    exact h1
theorem SlAt.src {w : World} {ad : Option Addr} {l : List Int} {cap : Nat} (h : SlAt w ad l.length (fn l)) (hn : ad = none → l.length = 0 ∧ cap = 0) : BSrc w (.slice ad l.length cap) l := by
  refine ⟨ad, cap, rfl, ?_⟩
  cases ad with
  | none => exact .inl ⟨rfl, List.eq_nil_of_length_eq_zero (hn rfl).1⟩
  | some a =>
    refine .inr ⟨a, rfl, fun j v hv => ?_⟩
    have hj : j < l.length := by simpa using (List.getElem?_eq_some_iff.1 hv).1
    obtain ⟨b, off, e, hc⟩ := h.2 (by omega)
    cases e
    rw [Addr.add_lit, hc j hj, fn_get l j hj]
    simp [hj] at hv
    rw [hv]
theorem one_src (w : World) (x : Int) : BSrc (w.alloc (.cells #[.int .u8 x] 5)) (.slice (some ⟨w.heap.size, 0, none⟩) 1 1) [x] :=
  ⟨_, 1, rfl, .inr ⟨_, rfl, World.news_of_block (cs := #[.int .u8 x]) (t := 5) (fr := (0, 0)) (heap_alloc_new w _)⟩⟩
theorem two_src (w : World) (x y : Int) : BSrc (w.alloc (.cells #[.int .u8 x, .int .u8 y] 5)) (.slice (some ⟨w.heap.size, 0, none⟩) 2 2) [x, y] :=
  ⟨_, 2, rfl, .inr ⟨_, rfl, World.news_of_block (cs := #[.int .u8 x, .int .u8 y]) (t := 5) (fr := (0, 0)) (heap_alloc_new w _)⟩⟩
theorem hash_src {w : World} {g : Nat} {z : Nat → Int} {t : TypeId} {l : List Int} (hl : l.map (Value.int .u8) = bl z 32) (hg : w.heap[g]? = some (.cells (bl z 32).toArray t (0, 0))) : BSrc w (.slice (some ⟨g, 0, none⟩) 32 32) l := by
  have h32 : l.length = 32 := by have := congrArg List.length hl; simpa [bl_length] using this
  refine ⟨_, 32, by rw [h32], .inr ⟨_, rfl, ?_⟩⟩
  rw [hl]
  have := World.news_of_block hg
  simpa using this

theorem run_append_B (w w0 : World) (ty : TypeId) (v u : Value) (L ys : List Int) (hown : Ow w0 w v L) (hu : BSrc w u ys) (hy : ∀ y, y ∈ ys → 0 ≤ y ∧ y ≤ 255) (hlen : L.length + ys.length ≤ 140737488355328) :
    ∃ v' w1, (Builtin.append_ #[29, 29] ty #[v, u]).run Tryz.prog w = .ok v' w1 ∧ Ow w0 w1 v' (L ++ ys) := by
  obtain ⟨i0, hi0, hz0, hz1, hz2⟩ := info_parts Tryz.infoB
  have hbd : ∀ x, x ∈ L ++ ys → 0 ≤ x ∧ x ≤ 255 := fun x hx => by
    rcases List.mem_append.1 hx with h | h
    · exact hown.bd x h
    · exact hy x h
  obtain ⟨ad, c, rfl, ⟨rfl, rfl⟩ | ⟨a, rfl, hc⟩⟩ := hu
  · refine ⟨v, w, ?_, by simpa using hown⟩
    rcases hown.own.2 with ⟨rfl, hl⟩ | ⟨g, cap, cur, rfl, hbs, hg, hcap, _⟩
    · simp [Builtin.append_, run_underlying Tryz.underlying29, sizeOf, typeInfo, hi0, Builtin.lenOf, Builtin.firstCells]
    · have := run_append_room_src (P := Tryz.prog) w 29 29 ty 5 i0 Tryz.underlying29 hi0 g 0 L.length cap (.slice none 0 c) 0 [] (Src.ofNil w Tryz.underlying29 c) (by omega) (fun j hj => by simp at hj) (fun j hj => by simp at hj)
      simpa [World.setCells] using this
  · obtain ⟨v', w1, hr, h2, h3, _, h5⟩ := run_append_own_at (P := Tryz.prog) w w0.heap.size 29 ty 5 i0 (.int .u8 0) 1 1 Tryz.underlying29 hi0 hz0 hz1 hz2 rfl (by decide) v L.length (L.map (Value.int .u8)) hown.own a ys.length c (ys.map (Value.int .u8)) (by simp) hc
      (fun u hu => by obtain ⟨y, _, rfl⟩ := List.mem_map.1 hu; rfl) (by simp only [maxLen]; omega) (by omega) hown.le
    refine ⟨v', w1, hr, ⟨by simpa using h2, hown.below.grown h3 hown.le (fun k hk => ?_), hbd⟩⟩
    rcases hown.own.2 with ⟨rfl, _⟩ | ⟨g, cap, cur, rfl, hbs, _⟩
    · simp [Value.ownBlock] at hk
    · have : g = k := by simpa [Value.ownBlock] using hk
      omega

section
variable {ops : Array Oper} {rest : List Oper} {o : Oper} {a : Act} {w : World} {Q : Exit → Act → World → Prop}
/-- 'append(v, u...)' at the list of a plain region's operations. -/
theorem wpList_append_B (hgd : o.guard = none) (s x : Operand) (ho : o.op = .call { callee := .builtin .append, args := #[s, x], argTypes := #[29, 29] })
    (w0 : World) (v u : Value) (L ys : List Int) (hs : a.eval s = v) (hx : a.eval x = u) (hown : Ow w0 w v L) (hu : BSrc w u ys) (hy : ∀ y, y ∈ ys → 0 ≤ y ∧ y ≤ 255) (hlen : L.length + ys.length ≤ 140737488355328)
    (h : ∀ v' w1, Ow w0 w1 v' (L ++ ys) → wpList Tryz.prog ops Q rest (a.put o.dst v') w1) : wpList Tryz.prog ops Q (o :: rest) a w := by
  obtain ⟨v', w1, hr, h2⟩ := run_append_B w w0 o.type v u L ys hown hu hy hlen
  refine wpList_plain hgd fun K hK => ?_
  unfold Oper.wp execOp
  simp only [ho, resolve, invoke, builtin, Sem.run_bind, Sem.run_pure, Result.andThen_ok, List.map_toArray, List.map_cons, List.map_nil, hs, hx, hr]
  exact hK _ _ (h v' w1 h2)
end
theorem Ow.form {w0 w : World} {v : Value} {L : List Int} (h : Ow w0 w v L) : ∃ ad cp, v = .slice ad L.length cp := own_form h.own
theorem Ow.fresh {w0 w : World} {ad : Option Addr} {cp : Nat} {L : List Int} (h : Ow w0 w (.slice ad L.length cp) L) : Fresh w0 w ad cp L := own_fresh h.own h.bd h.below

/-- n bytes z as a string. -/
def strB (z : Nat → Int) (n : Nat) : ByteArray := ⟨((List.range n).map fun j => UInt8.ofNat (z j).toNat).toArray⟩

theorem conv_any (ad : Option Addr) (n cap : Nat) (z : Nat → Int) (w : World) (hs : SlAt w ad n z) (hnil : ad = none → n = 0 ∧ cap = 0) :
    (convert 29 9 (.slice ad n cap)).run Tryz.prog w = .ok (.string (strB z n)) w := by
  cases ad with
  | none =>
    obtain ⟨rfl, rfl⟩ := hnil rfl
    exact Lib.run_convert_nil_bytes w 29 9 5 0 Tryz.underlying29 Tryz.underlying5 Tryz.underlying9
  | some a =>
    have h := run_convert_bytes_back (P := Tryz.prog) w 29 9 5 a cap ((List.range n).map fun j => UInt8.ofNat (z j).toNat) Tryz.underlying29 Tryz.underlying5 Tryz.underlying9 ?_
    · simpa [strB] using h
    · intro j hj
      simp at hj
      obtain ⟨b, off, e, hc⟩ := hs.2 (by omega)
      cases e
      have hz := hs.1 j hj
      rw [Addr.add_lit, hc j hj]
      simp
      omega
end Go.Proofs.YtbfajoeilpkofaaGreatDoor
