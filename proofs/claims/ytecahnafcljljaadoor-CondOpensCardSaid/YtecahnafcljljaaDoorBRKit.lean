/- Rows of words of one's own; the document's begin, row and digit. -/
import Derived.Test.YtecahnafcljljaaDoorBRStep
import Derived.Test.YtecahnafcljljaaDoorBRMath
import Derived.Test.YtecahnafcljljaaDoorBTextK
namespace Go.Proofs.YtecahnafcljljaaDoor
open Go.RowKit

theorem infoW : (Tryd.prog.info? 91).map (fun i => (i.zero, i.size, i.bytes)) = some (some (.int .u32 0), 1, 4) := by kernel_rfl
/-- A value that owns words, made since w0; nothing that was there in w0 has changed. -/
structure OwW (w0 w : World) (v : Value) (L : List Nat) : Prop where
  own : w.ownsRow w0.heap.size 91 1 v L.length (wl L)
  below : Below w0.heap.size w0 w
theorem OwW.nil (w : World) : OwW w w (.slice none 0 0) [] := ⟨World.ownsRow_nil _ _ _ _, Below.refl _ _⟩
theorem OwW.alloc {w0 w : World} {v : Value} {L : List Nat} (h : OwW w0 w v L) (o : Obj) : OwW w0 (w.alloc o) v L := ⟨h.own.alloc _, h.below.alloc h.below.size _⟩
theorem OwW.drew {w0 w : World} {v : Value} {L : List Nat} (h : OwW w0 w v L) : OwW w0 w.drew v L := ⟨h.own.drew, h.below.drew⟩
theorem OwW.mono {w w0 w1 : World} {v : Value} {L : List Nat} (h : OwW w0 w1 v L) (hb : Below w.heap.size w w0) : OwW w w1 v L := by
  refine ⟨⟨h.own.1, ?_⟩, hb.trans (h.below.mono hb.size)⟩
  rcases h.own.2 with hn | ⟨g, cap, cur, e, hbs, rest⟩
  · exact .inl hn
  · exact .inr ⟨g, cap, cur, e, Nat.le_trans hb.size hbs, rest⟩
/-- What owns words is a slice of them. -/
theorem OwW.form {w0 w : World} {v : Value} {L : List Nat} (h : OwW w0 w v L) (hl : 0 < L.length) : ∃ g cap, v = .slice (some ⟨g, 0, none⟩) L.length cap ∧ VAt w g L ∧ w0.heap.size ≤ g ∧ L.length ≤ cap := by
  rcases h.own.2 with ⟨_, h0⟩ | ⟨g, cap, cur, rfl, hb, hg, hcap, _, hsz, htk⟩
  · omega
  · refine ⟨g, cap, rfl, ⟨cur.toList.drop L.length, 91, ?_⟩, hb, hcap⟩
    rw [Nat.mul_one] at htk
    rw [hg, ← htk, List.take_append_drop]
theorem OwW.form0 {w0 w : World} {v : Value} {L : List Nat} (h : OwW w0 w v L) : ∃ ad cap, v = .slice ad L.length cap := by
  rcases h.own.2 with ⟨rfl, h0⟩ | ⟨g, cap, cur, rfl, _⟩
  · exact ⟨none, 0, by rw [h0]⟩
  · exact ⟨_, cap, rfl⟩
/-- Words that are appended. -/
def WSrc (w : World) (u : Value) (ys : List Nat) : Prop := ∃ a c, u = .slice (some a) ys.length c ∧ ∀ j v, (wl ys)[j]? = some v → w.cell? (a.add j) = some v
theorem VAt.src {w : World} {g : Nat} {v : List Nat} (h : VAt w g v) (cap : Nat) : WSrc w (.slice (some ⟨g, 0, none⟩) v.length cap) v := by
  refine ⟨_, cap, rfl, fun j u hu => ?_⟩
  have hj : j < v.length := by simpa [wl] using (List.getElem?_eq_some_iff.1 hu).1
  rw [Addr.add_lit, Nat.zero_add, h.cell hj, ← hu]
  simp [wl, List.getElem?_map, List.getElem?_eq_getElem hj, List.getD_eq_getElem?_getD]
theorem run_append_W (w w0 : World) (ty : TypeId) (v u : Value) (L ys : List Nat) (hown : OwW w0 w v L) (hu : WSrc w u ys) (hlen : L.length + ys.length ≤ 1000000) :
    ∃ v' w1, (Builtin.append_ #[89, 89] ty #[v, u]).run Tryd.prog w = .ok v' w1 ∧ OwW w0 w1 v' (L ++ ys) := by
  obtain ⟨i0, hi0, hz0, hz1, hz2⟩ := info_parts infoW
  obtain ⟨a, c, rfl, hc⟩ := hu
  obtain ⟨v', w1, hr, h2, h3, _, h5⟩ := run_append_own_at (P := Tryd.prog) w w0.heap.size 89 ty 91 i0 (.int .u32 0) 1 4 Tryd.underlying89 hi0 hz0 hz1 hz2 rfl (by decide) v L.length (wl L) hown.own a ys.length c (wl ys) (by simp [wl]) hc
    (fun u hu => by obtain ⟨y, _, rfl⟩ := List.mem_map.1 hu; rfl) (by simp only [maxLen]; omega) (by omega) hown.below.size
  refine ⟨v', w1, hr, ⟨by simpa [wl] using h2, hown.below.grown h3 hown.below.size (fun k hk => ?_)⟩⟩
  rcases hown.own.2 with ⟨rfl, _⟩ | ⟨g, cap, cur, rfl, hbs, _⟩
  · simp [Value.ownBlock] at hk
  · have : g = k := by simpa [Value.ownBlock] using hk
    omega
section
variable {ops : Array Oper} {rest : List Oper} {o : Oper} {a : Act} {w : World} {Q : Exit → Act → World → Prop} {K : Act → World → Prop}
theorem wp_append_W {s x : Operand} (ho : o.op = .call { callee := .builtin .append, args := #[s, x], argTypes := #[89, 89] })
    {w0 : World} {v u : Value} {L ys : List Nat} (hs : a.eval s = v) (hx : a.eval x = u) (hown : OwW w0 w v L) (hu : WSrc w u ys) (hlen : L.length + ys.length ≤ 1000000)
    (h : ∀ v' w1, OwW w0 w1 v' (L ++ ys) → K (a.put o.dst v') w1) : o.wp Tryd.prog a w K Q := by
  obtain ⟨v', w1, hr, h2⟩ := run_append_W w w0 o.type v u L ys hown hu hlen
  unfold Oper.wp execOp
  simp only [ho, resolve, invoke, builtin, Sem.run_bind, Sem.run_pure, Result.andThen_ok, List.map_toArray, List.map_cons, List.map_nil, hs, hx, hr]
  exact h v' w1 h2
theorem wpList_append_W (hgd : o.guard = none) {s x : Operand} (ho : o.op = .call { callee := .builtin .append, args := #[s, x], argTypes := #[89, 89] })
    {w0 : World} {v u : Value} {L ys : List Nat} (hs : a.eval s = v) (hx : a.eval x = u) (hown : OwW w0 w v L) (hu : WSrc w u ys) (hlen : L.length + ys.length ≤ 1000000)
    (h : ∀ v' w1, OwW w0 w1 v' (L ++ ys) → wpList Tryd.prog ops Q rest (a.put o.dst v') w1) : wpList Tryd.prog ops Q (o :: rest) a w :=
  wpList_plain hgd fun _ hK => wp_append_W ho hs hx hown hu hlen (fun v' w1 h1 => hK _ _ (h v' w1 h1))
theorem run_build1W (x : Int) (w : World) : (Instr.buildSlice 89 1 #[(0, .int .u32 x)]).run Tryd.prog w = .ok (.slice (some ⟨w.heap.size, 0, none⟩) 1 1) (w.alloc (.cells #[.int .u32 x] 91)) := by kernel_rfl
theorem wp_build1W {x : Operand} {n : Int} (ho : o.op = .buildSlice 89 1 #[(0, x)]) (hx : a.eval x = .int .u32 n)
    (h : K (a.put o.dst (.slice (some ⟨w.heap.size, 0, none⟩) 1 1)) (w.alloc (.cells #[.int .u32 n] 91))) : o.wp Tryd.prog a w K Q := by
  unfold Oper.wp execOp
  simp only [ho, List.map_toArray, List.map_cons, List.map_nil, hx, Sem.run_bind, run_build1W, Result.andThen]
  exact h
end
theorem one_srcW (w : World) (x : Nat) : WSrc (w.alloc (.cells #[.int .u32 (x : Nat)] 91)) (.slice (some ⟨w.heap.size, 0, none⟩) 1 1) [x] :=
  ⟨_, 1, rfl, World.news_of_block (cs := #[.int .u32 (x : Nat)]) (t := 91) (fr := (0, 0)) (heap_alloc_new w _)⟩

theorem run_begin (w : World) : (Instr.buildSlice 89 8 #[(0, .int .u32 1779033703), (1, .int .u32 3144134277), (2, .int .u32 1013904242), (3, .int .u32 2773480762), (4, .int .u32 1359893119), (5, .int .u32 2600822924), (6, .int .u32 528734635), (7, .int .u32 1541459225)]).run Tryd.prog w = .ok (.slice (some ⟨w.heap.size, 0, none⟩) 8 8) (w.alloc (.cells (wv firstL) 91)) := by kernel_rfl
theorem begin_any (w : World) : Calls Tryd.prog 43 #[] w fun e w' => e = .returned (.slice (some ⟨w.heap.size, 0, none⟩) 8 8) ∧ w' = w.alloc (.cells (wv firstL) 91) := by
  go_enter Tryd.func43, Tryd.ntmps43
  go_wp2
  go_ret
  exact ⟨rfl, rfl⟩
def rowS (r : Nat) : ByteArray := ⟨((rowL r).map fun d => UInt8.ofNat (dg d)).toArray⟩
theorem ret_int {k : IntKind} {a b : Int} (h : a = b) : Ending.returned (.int k a) = .returned (.int k b) := by rw [h]
theorem digit_any (d : Nat) (hd : d < 16) (w : World) : Calls Tryd.prog 56 #[.int .u8 (dg d : Nat)] w fun e w' => e = .returned (.int .i64 d) ∧ w' = w := by
  by_cases h : d < 10
  · have e : ((dg d : Nat) : Int) = 48 + d := by unfold dg; rw [if_pos h]; omega
    rw [e]
    clear e
    have h1 : (48 : Int) + d < 97 := by omega
    go_enter Tryd.func56, Tryd.ntmps56
    go_wp2
    go_ret
    exact ⟨ret_int (by omega), rfl⟩
  · have e : ((dg d : Nat) : Int) = 87 + d := by unfold dg; rw [if_neg h]; omega
    rw [e]
    clear e
    have h1 : (97 : Int) ≤ 87 + d := by omega
    have h2 : (d : Int) < 16 := by omega
    go_enter Tryd.func56, Tryd.ntmps56
    go_wp2
    go_ret
    exact ⟨ret_int (by omega), rfl⟩
theorem rowS_at {r j : Nat} (hr : r < 10) (hj : j < 16) : (rowS r)[j]? = some (UInt8.ofNat (dg ((rowL r).getD j 0))) := by
  have : ∀ (r : Fin 10) (j : Fin 16), (rowS r.val)[j.val]? = some (UInt8.ofNat (dg ((rowL r.val).getD j.val 0))) := by decide
  exact this ⟨r, hr⟩ ⟨j, hj⟩
set_option maxRecDepth 20000 in
theorem row_any (r : Nat) (hr : r < 10) (w : World) : Calls Tryd.prog 54 #[.int .i64 r] w fun e w' => e = .returned (.string (rowS r)) ∧ Below w.heap.size w w' := by
  have hr' : (r : Int) < 10 := by omega
  go_enter Tryd.func54, Tryd.ntmps54
  go_wp2
  go_ret
  refine ⟨?_, (Below.refl _ _).alloc (Nat.le_refl _) _⟩
  have h : r = 0 ∨ r = 1 ∨ r = 2 ∨ r = 3 ∨ r = 4 ∨ r = 5 ∨ r = 6 ∨ r = 7 ∨ r = 8 ∨ r = 9 := by omega
  rcases h with rfl | rfl | rfl | rfl | rfl | rfl | rfl | rfl | rfl | rfl <;> rfl
end Go.Proofs.YtecahnafcljljaaDoor
