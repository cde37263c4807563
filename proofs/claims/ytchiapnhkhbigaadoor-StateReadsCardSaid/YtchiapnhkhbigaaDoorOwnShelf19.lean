/- Bytes appended to a slice of one's own: one law for every source. -/
import Derived.Test.YtchiapnhkhbigaaDoorOwnShelf12
import Derived.Deep.AppendSrc
namespace Go.Proofs.YtchiapnhkhbigaaDoor
open Go.RowKit

/-- A slice of its own that holds bytes. -/
def Fresh (w w' : World) (ad : Option Addr) (cap : Nat) (l : List Int) : Prop :=
  l.length ≤ cap ∧ SlAt w' ad l.length (fn l) ∧ (ad = none → l.length = 0 ∧ cap = 0) ∧ (∀ a, ad = some a → w.heap.size ≤ a.block) ∧ Below w.heap.size w w'
theorem Fresh.nil {w w' : World} (h : Below w.heap.size w w') : Fresh w w' none 0 [] := ⟨Nat.le_refl _, SlAt.zero _ _, (fun _ => ⟨rfl, rfl⟩), (fun _ h => by cases h), h⟩
def BPost (w : World) (r : List Int × Nat × Int) (e : Ending) (w' : World) : Prop :=
  ∃ ad cap, e = .returned (.tuple #[.slice ad r.1.length cap, .int .i64 r.2.1, errV r.2.2]) ∧ Fresh w w' ad cap r.1
theorem BPost.err {w w' : World} {er : Int} (h : Below w.heap.size w w') : BPost w ([], 0, er) (.returned (.tuple #[.slice none 0 0, .int .i64 0, errV er])) w' := ⟨none, 0, rfl, Fresh.nil h⟩

theorem fn_bd {l : List Int} (h : ∀ x, x ∈ l → 0 ≤ x ∧ x ≤ 255) : ∀ j, j < l.length → 0 ≤ fn l j ∧ fn l j ≤ 255 := fun j hj => by rw [fn_get l j hj]; exact h _ (List.getElem_mem hj)
theorem own_fresh {w w' : World} {ad : Option Addr} {cp : Nat} {l : List Int} (h : w'.ownsRow w.heap.size 5 1 (.slice ad l.length cp) l.length (l.map (Value.int .u8))) (hx : ∀ x, x ∈ l → 0 ≤ x ∧ x ≤ 255) (hb : Below w.heap.size w w') : Fresh w w' ad cp l := by
  rw [map_bl] at h
  obtain ⟨ad', cap', e, h1, h2, h3, h4⟩ := own_SlAt (fn_bd hx) h
  cases e
  exact ⟨h1, h2, h3, h4, hb⟩
theorem own_form {w : World} {B n : Nat} {v : Value} {xs : List Value} (h : w.ownsRow B 5 1 v n xs) : ∃ ad cp, v = .slice ad n cp := by
  rcases h.2 with ⟨rfl, rfl⟩ | ⟨g, cap, cur, rfl, _⟩
  · exact ⟨none, 0, rfl⟩
  · exact ⟨_, cap, rfl⟩
/-- What is appended: bytes that lie somewhere, or nothing. -/
def BSrc (w : World) (u : Value) (ys : List Int) : Prop :=
  ∃ ad c, u = .slice ad ys.length c ∧ ((ad = none ∧ ys = []) ∨ ∃ a, ad = some a ∧ ∀ j v, (ys.map (Value.int .u8))[j]? = some v → w.cell? (a.add j) = some v)
/-- A value that owns bytes, made since w0; nothing that was there in w0 has changed. -/
structure Ow (w0 w : World) (v : Value) (L : List Int) : Prop where
  own : w.ownsRow w0.heap.size 5 1 v L.length (L.map (Value.int .u8))
  below : Below w0.heap.size w0 w
  bd : ∀ x, x ∈ L → 0 ≤ x ∧ x ≤ 255

theorem Ow.nil (w : World) : Ow w w (.slice none 0 0) [] := ⟨World.ownsRow_nil _ _ _ _, Below.refl _ _, fun x h => by cases h⟩
theorem Ow.alloc {w0 w : World} {v : Value} {L : List Int} (h : Ow w0 w v L) (o : Obj) : Ow w0 (w.alloc o) v L := ⟨h.own.alloc _, h.below.alloc h.below.size _, h.bd⟩
theorem Ow.drew {w0 w : World} {v : Value} {L : List Int} (h : Ow w0 w v L) : Ow w0 w.drew v L := ⟨h.own.drew, h.below.drew, h.bd⟩
theorem Ow.le {w0 w : World} {v : Value} {L : List Int} (h : Ow w0 w v L) : w0.heap.size ≤ w.heap.size := h.below.size
theorem Ow.mono {w w0 w1 : World} {v : Value} {L : List Int} (h : Ow w0 w1 v L) (hb : Below w.heap.size w w0) : Ow w w1 v L := by
  refine ⟨⟨h.own.1, ?_⟩, hb.trans (h.below.mono hb.size), h.bd⟩
  rcases h.own.2 with hn | ⟨g, cap, cur, e, hbs, rest⟩
  · exact .inl hn
  · exact .inr ⟨g, cap, cur, e, Nat.le_trans hb.size hbs, rest⟩
theorem Ow.src {w0 w w' : World} {v : Value} {L : List Int} (h : Ow w0 w v L) (hb : Below w.heap.size w w') : BSrc w' v L := by
  have hown := h.own
  rcases h.own.2 with ⟨rfl, hl⟩ | ⟨g, cap, cur, rfl, hbs, hg, rest⟩
  · have : L = [] := List.eq_nil_of_length_eq_zero hl
    subst this
    exact ⟨none, 0, rfl, .inl ⟨rfl, rfl⟩⟩
  · refine ⟨some ⟨g, 0, none⟩, cap, rfl, .inr ⟨_, rfl, fun j u hu => ?_⟩⟩
    have h1 := hown.cells (g := g) rfl j u hu
    rw [Addr.add_lit] at h1 ⊢
    rw [hb.cell (p := ⟨g, 0 + j, none⟩) (World.block_lt_of_cell? w _ h1)]
    exact h1
theorem SlAt.src {w : World} {ad : Option Addr} {l : List Int} {cap : Nat} (h : SlAt w ad l.length (fn l)) (hn : ad = none → l.length = 0 ∧ cap = 0) : BSrc w (.slice ad l.length cap) l := by
  refine ⟨ad, cap, rfl, ?_⟩
  cases ad with
  | none => exact .inl ⟨rfl, List.eq_nil_of_length_eq_zero (hn rfl).1⟩
  | some a =>
    refine .inr ⟨a, rfl, fun j v hv => ?_⟩
    have hj : j < l.length := by simpa using (List.getElem?_eq_some_iff.1 hv).1
    obtain ⟨b, off, e, hc⟩ := h.2 (by omega)
    cases e
    rw [Addr.add_lit, hc j hj, fn_get l j hj]
    simp [hj] at hv
    rw [hv]
theorem one_src (w : World) (x : Int) : BSrc (w.alloc (.cells #[.int .u8 x] 5)) (.slice (some ⟨w.heap.size, 0, none⟩) 1 1) [x] :=
  ⟨_, 1, rfl, .inr ⟨_, rfl, World.news_of_block (cs := #[.int .u8 x]) (t := 5) (fr := (0, 0)) (heap_alloc_new w _)⟩⟩
theorem two_src (w : World) (x y : Int) : BSrc (w.alloc (.cells #[.int .u8 x, .int .u8 y] 5)) (.slice (some ⟨w.heap.size, 0, none⟩) 2 2) [x, y] :=
  ⟨_, 2, rfl, .inr ⟨_, rfl, World.news_of_block (cs := #[.int .u8 x, .int .u8 y]) (t := 5) (fr := (0, 0)) (heap_alloc_new w _)⟩⟩
theorem hash_src {w : World} {g : Nat} {z : Nat → Int} {t : TypeId} {l : List Int} (hl : l.map (Value.int .u8) = bl z 32) (hg : w.heap[g]? = some (.cells (bl z 32).toArray t (0, 0))) : BSrc w (.slice (some ⟨g, 0, none⟩) 32 32) l := by
  have h32 : l.length = 32 := by have := congrArg List.length hl; simpa [bl_length] using this
  refine ⟨_, 32, by rw [h32], .inr ⟨_, rfl, ?_⟩⟩
  rw [hl]
  have := World.news_of_block hg
  simpa using this

theorem run_append_B (w w0 : World) (ty : TypeId) (v u : Value) (L ys : List Int) (hown : Ow w0 w v L) (hu : BSrc w u ys) (hy : ∀ y, y ∈ ys → 0 ≤ y ∧ y ≤ 255) (hlen : L.length + ys.length ≤ 140737488355328) :
    ∃ v' w1, (Builtin.append_ #[47, 47] ty #[v, u]).run Tryd.prog w = .ok v' w1 ∧ Ow w0 w1 v' (L ++ ys) := by
  obtain ⟨i0, hi0, hz0, hz1, hz2⟩ := info_parts Tryd.infoB
  have hbd : ∀ x, x ∈ L ++ ys → 0 ≤ x ∧ x ≤ 255 := fun x hx => by
    rcases List.mem_append.1 hx with h | h
    · exact hown.bd x h
    · exact hy x h
  obtain ⟨ad, c, rfl, ⟨rfl, rfl⟩ | ⟨a, rfl, hc⟩⟩ := hu
  · refine ⟨v, w, ?_, by simpa using hown⟩
    rcases hown.own.2 with ⟨rfl, hl⟩ | ⟨g, cap, cur, rfl, hbs, hg, hcap, _⟩
    · simp [Builtin.append_, run_underlying Tryd.underlying47, sizeOf, typeInfo, hi0, Builtin.lenOf, Builtin.firstCells]
    · have := run_append_room_src (P := Tryd.prog) w 47 47 ty 5 i0 Tryd.underlying47 hi0 g 0 L.length cap (.slice none 0 c) 0 [] (Src.ofNil w Tryd.underlying47 c) (by omega) (fun j hj => by simp at hj) (fun j hj => by simp at hj)
      simpa [World.setCells] using this
  · obtain ⟨v', w1, hr, h2, h3, _, h5⟩ := run_append_own_at (P := Tryd.prog) w w0.heap.size 47 ty 5 i0 (.int .u8 0) 1 1 Tryd.underlying47 hi0 hz0 hz1 hz2 rfl (by decide) v L.length (L.map (Value.int .u8)) hown.own a ys.length c (ys.map (Value.int .u8)) (by simp) hc
      (fun u hu => by obtain ⟨y, _, rfl⟩ := List.mem_map.1 hu; rfl) (by simp only [maxLen]; omega) (by omega) hown.le
    refine ⟨v', w1, hr, ⟨by simpa using h2, hown.below.grown h3 hown.le (fun k hk => ?_), hbd⟩⟩
    rcases hown.own.2 with ⟨rfl, _⟩ | ⟨g, cap, cur, rfl, hbs, _⟩
    · simp [Value.ownBlock] at hk
    · have : g = k := by simpa [Value.ownBlock] using hk
      omega

section
variable {ops : Array Oper} {rest : List Oper} {o : Oper} {a : Act} {w : World} {Q : Exit → Act → World → Prop}
/-- 'append(v, u...)' at the list of a plain region's operations. -/
theorem wpList_append_B (hgd : o.guard = none) (s x : Operand) (ho : o.op = .call { callee := .builtin .append, args := #[s, x], argTypes := #[47, 47] })
    (w0 : World) (v u : Value) (L ys : List Int) (hs : a.eval s = v) (hx : a.eval x = u) (hown : Ow w0 w v L) (hu : BSrc w u ys) (hy : ∀ y, y ∈ ys → 0 ≤ y ∧ y ≤ 255) (hlen : L.length + ys.length ≤ 140737488355328)
    (h : ∀ v' w1, Ow w0 w1 v' (L ++ ys) → wpList Tryd.prog ops Q rest (a.put o.dst v') w1) : wpList Tryd.prog ops Q (o :: rest) a w := by
  obtain ⟨v', w1, hr, h2⟩ := run_append_B w w0 o.type v u L ys hown hu hy hlen
  refine wpList_plain hgd fun K hK => ?_
  unfold Oper.wp execOp
  simp only [ho, resolve, invoke, builtin, Sem.run_bind, Sem.run_pure, Result.andThen_ok, List.map_toArray, List.map_cons, List.map_nil, hs, hx, hr]
  exact hK _ _ (h v' w1 h2)
end
theorem Ow.form {w0 w : World} {v : Value} {L : List Int} (h : Ow w0 w v L) : ∃ ad cp, v = .slice ad L.length cp := own_form h.own
theorem Ow.fresh {w0 w : World} {ad : Option Addr} {cp : Nat} {L : List Int} (h : Ow w0 w (.slice ad L.length cp) L) : Fresh w0 w ad cp L := own_fresh h.own h.bd h.below

set_option maxHeartbeats 400000 in
theorem refOwn_any (ad : Option Addr) (l : List Int) (cap : Nat) (w : World) (hs : SlAt w ad l.length (fn l)) (hnil : ad = none → l.length = 0 ∧ cap = 0) (hn : l.length ≤ 140737488355328) :
    Calls Tryd.prog 72 #[.slice ad l.length cap] w fun e w' => ∃ v, e = .returned v ∧ Ow w w' v l := by
  have HS : Hid (BSrc w (.slice ad l.length cap) l) := SlAt.src hs hnil
  have HB : Hid (∀ x, x ∈ l → 0 ≤ x ∧ x ≤ 255) := fun x hx => by
    obtain ⟨j, hj, rfl⟩ := List.mem_iff_getElem.1 hx
    have := hs.1 j hj
    rwa [fn_get l j hj] at this
  clear hs hnil
  go_enter Tryd.func72, Tryd.ntmps72
  go_wp2_with (at_builtin; refine wpList_append_B rfl _ _ rfl w _ _ [] l rfl rfl (Ow.nil w) HS.out HB.out (by simpa using hn) ?_; intro v w1 hO)
  go_ret
  exact ⟨v, rfl, by simpa using hO⟩
end Go.Proofs.YtchiapnhkhbigaaDoor
