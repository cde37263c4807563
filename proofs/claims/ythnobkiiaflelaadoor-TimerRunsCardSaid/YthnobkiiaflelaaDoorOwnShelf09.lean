/- The document's Pop: those that are due, and those that are not yet. -/
import Derived.Test.YthnobkiiaflelaaDoorOwnShelf08
import Derived.Test.YthnobkiiaflelaaDoorOwnShelf02
namespace Go.Proofs.YthnobkiiaflelaaDoor
open Go.RowKit Go.Maps Go.Sort

theorem szQ : (Tryd.prog.info? 39).map (fun i => i.size) = some 2 := by kernel_rfl
/-- A queue of the document's, as a value. -/
def qV (v : Value) (last : Int) : Value := .agg #[v, .int .i64 last]
/-- While the document's calls walk: the queue that came in its box, the answer in the one behind. -/
structure QB (w wr : World) (v : Value) (last : Int) (y : Value) (m : Int) : Prop where
  box : wr.heap[w.heap.size]? = some (.cells #[v, .int .i64 last] 39 (0, 0))
  res : wr.heap[w.heap.size + 1]? = some (.cells #[y, .int .i64 m] 39 (0, 0))
  below : Below w.heap.size w wr
theorem QB.new (w : World) (v : Value) (last : Int) : QB w ((w.alloc (.cells #[v, .int .i64 last] 39)).alloc (.cells #[.slice none 0 0, .int .i64 0] 39)) v last (.slice none 0 0) 0 := by
  have h1 := heap_alloc_new w (.cells #[v, .int .i64 last] 39)
  refine ⟨?_, ?_, ((Below.refl _ w).alloc (Nat.le_refl _) _).alloc (by simp) _⟩
  · exact (((Below.refl _ _).alloc (Nat.le_refl _) _).block _ (lt_of_block h1)).trans h1
  · have := heap_alloc_new (w.alloc (.cells #[v, .int .i64 last] 39)) (.cells #[.slice none 0 0, .int .i64 0] 39)
    simpa using this
theorem results_Q2 {fn : Func} {p u : Tmp} (h : fn.results = #[.cell p 39, .tmp u]) (tmps : Array Value) (w : World) (g : Nat) (t : TypeId) (v x : Value) (fr : Nat × Nat)
    (hp : tmps.getD p undef = .pointer (some ⟨g, 0, none⟩)) (hg : w.heap[g]? = some (.cells #[v, x] t fr)) :
    (results fn tmps).run Tryd.prog w = .ok (.tuple #[.agg #[v, x], tmps.getD u undef]) w := by
  have hp' : tmps[p]?.getD undef = .pointer (some ⟨g, 0, none⟩) := by simpa using hp
  simp [results, h, hp', asAddr, run_loadVar_row w g t 39 #[v, x] fr _ hg Tryd.underlying39 rfl szQ]
/-- What stands when an answer was laid: the queue's first cell changed, then the answer's two. -/
theorem QB.done {w wr : World} {v y : Value} {last m : Int} (h : QB w wr v last y m) (v' : Value) :
    let W := ((wr.setCell ⟨w.heap.size, 0, none⟩ v').setCell ⟨w.heap.size + 1, 0, none⟩ v').setCell ⟨w.heap.size + 1, 1, none⟩ (.int .i64 last)
    W.heap[w.heap.size + 1]? = some (.cells #[v', .int .i64 last] 39 (0, 0)) ∧ Below w.heap.size w W := by
  refine ⟨?_, h.below.trans ((((Below.refl w.heap.size wr).setCell (Nat.le_refl _) _).setCell (Nat.le_succ _) _).setCell (Nat.le_succ _) _)⟩
  have h1 : (wr.setCell ⟨w.heap.size, 0, none⟩ v').heap[w.heap.size + 1]? = some (.cells #[y, .int .i64 m] 39 (0, 0)) := by
    rw [Below.heap_setCell _ _ _ _ (by simp)]; exact h.res
  have h2 : ((wr.setCell ⟨w.heap.size, 0, none⟩ v').setCell ⟨w.heap.size + 1, 0, none⟩ v').heap[w.heap.size + 1]? = some (.cells #[v', .int .i64 m] 39 (0, 0)) := by
    rw [heap_setCell_same _ _ 0 _ _ _ h1]; rfl
  rw [heap_setCell_same _ _ 1 _ _ _ h2]; rfl
theorem QB.kept {w wr : World} {v y : Value} {last m : Int} (h : QB w wr v last y m) :
    let W := ((wr.setCell ⟨w.heap.size + 1, 0, none⟩ v).setCell ⟨w.heap.size + 1, 1, none⟩ (.int .i64 last))
    W.heap[w.heap.size + 1]? = some (.cells #[v, .int .i64 last] 39 (0, 0)) ∧ Below w.heap.size w W := by
  refine ⟨?_, h.below.trans (((Below.refl w.heap.size wr).setCell (Nat.le_succ _) _).setCell (Nat.le_succ _) _)⟩
  have h2 : (wr.setCell ⟨w.heap.size + 1, 0, none⟩ v).heap[w.heap.size + 1]? = some (.cells #[v, .int .i64 m] 39 (0, 0)) := by
    rw [heap_setCell_same _ _ 0 _ _ _ h.res]; rfl
  rw [heap_setCell_same _ _ 1 _ _ _ h2]; rfl
/-- What Pop answers. -/
structure PopR (w : World) (ad : Option Addr) (L : List Ev) (last now : Int) (e : Ending) (w' : World) : Prop where
  mk :: (out : ∃ ad' cap' cap2, e = .returned (.tuple #[qV (.slice ad' (restE now L).length cap') last, .slice ad (dueE now L).length cap2]) ∧ Below w.heap.size w w' ∧ EvAt w' ad' (restE now L) ∧ EvAt w' ad (dueE now L) ∧ (dueE now L).length ≤ cap2 ∧ (restE now L).length ≤ cap' ∧ (ad' = none → (restE now L).length = 0 ∧ cap' = 0) ∧ (∀ a, ad' = some a → ∃ bb off, a = ⟨bb, off, none⟩) ∧ (∀ a, ad' = some a → ∃ c, ad = some c ∧ c.block = a.block))
set_option maxRecDepth 100000 in
set_option maxHeartbeats 1600000 in
theorem rpop_any (ad : Option Addr) (cap : Nat) (L : List Ev) (last now : Int) (w : World) (h : EvAt w ad L) (hl : L.length ≤ 1000) (hcap : L.length ≤ cap) (hnil : ad = none → L.length = 0 ∧ cap = 0) (hsp : ∀ a, ad = some a → ∃ bb off, a = ⟨bb, off, none⟩) :
    Calls Tryd.prog 15 #[qV (.slice ad L.length cap) last, .int .i64 now] w fun e w' => PopR w ad L last now e w' := by
  unfold qV
  have HL : Hid (EvAt w ad L) := h
  clear h
  have HI0 : Hid (QB w _ (.slice ad L.length cap) last (.slice none 0 0) 0) := QB.new w (.slice ad L.length cap) last
  go_enter Tryd.func15, Tryd.ntmps15
  go_wp2
  go_loopw [6] (fun iv wr => ∃ i : Nat, i ≤ L.length ∧ iv = .int .i64 i ∧ QB w wr (.slice ad L.length cap) last (.slice none 0 0) 0 ∧ ∀ y ∈ L.take i, y.due ≤ now) (fun iv _ => L.length - (intOf iv).toNat)
  case atStart => exact ⟨0, Nat.zero_le _, rfl, HI0.out, fun y hy => by simp at hy⟩
  case round =>
    clear HI0
    obtain ⟨i, hi, rfl, hI, hD⟩ := hrel
    have HI : Hid (QB w wr (.slice ad L.length cap) last (.slice none 0 0) 0) := hI
    have HD : Hid (∀ y ∈ L.take i, y.due ≤ now) := hD
    clear hI hD
    have b0 : wr.cell? ⟨w.heap.size, 0, none⟩ = some (.slice ad L.length cap) := by rw [cell_of_row _ _ 0 _ _ _ HI.out.box]; rfl
    have b1 : wr.cell? ⟨w.heap.size, 1, none⟩ = some (.int .i64 last) := by rw [cell_of_row _ _ 1 _ _ _ HI.out.box]; rfl
    have r0 : wr.cell? ⟨w.heap.size + 1, 0, none⟩ = some (.slice none 0 0) := by rw [cell_of_row _ _ 0 _ _ _ HI.out.res]; rfl
    have r1 : wr.cell? ⟨w.heap.size + 1, 1, none⟩ = some (.int .i64 0) := by rw [cell_of_row _ _ 1 _ _ _ HI.out.res]; rfl
    have f0 : wr.frozen? ⟨w.heap.size, 0, none⟩ = false := frozen_of_row wr _ 0 _ _ HI.out.box
    have f1 : wr.frozen? ⟨w.heap.size + 1, 0, none⟩ = false := frozen_of_row wr _ 0 _ _ HI.out.res
    have f2 : wr.frozen? ⟨w.heap.size + 1, 1, none⟩ = false := frozen_of_row wr _ 1 _ _ HI.out.res
    by_cases hlt : i < L.length
    · have hlt' : (i : Int) < L.length := by omega
      have hx : L[i]? = some L[i] := List.getElem?_eq_getElem hlt
      have htk : L.take (i + 1) = L.take i ++ [L[i]] := (List.take_append_getElem hlt).symm
      obtain ⟨bb, off, rfl, hc⟩ := (HL.out.below HI.out.below) (by omega)
      have c1 := (hc i _ hx).2.1
      clear hc
      by_cases hdu : L[i].due ≤ now
      · have HN : Hid (∀ y ∈ L.take (i + 1), y.due ≤ now) := fun y hy => by
          rw [htk] at hy
          rcases List.mem_append.1 hy with hy | hy
          · exact HD.out y hy
          · rw [List.mem_singleton.1 hy]; exact hdu
        clear hx htk
        generalize L[i].due = du at *
        go_wp2
        exact ⟨⟨i + 1, by omega, by go_num, HI.out, HN.out⟩, by simp [intOf]; omega⟩
      · have HR : Hid (dueE now L = L.take i ∧ restE now L = L.drop i) := dueE_at hi HD.out (fun y hy => by rw [hx] at hy; cases hy; exact hdu)
        clear hx htk
        generalize L[i].due = du at *
        go_wp2
        have HE := HI.out.done (.slice (some ⟨bb, off + i * 3, none⟩) (L.length - i) (cap - i))
        refine bodyPost_ret (results_Q2 Tryd.results15 _ _ (w.heap.size + 1) 39 (.slice (some ⟨bb, off + i * 3, none⟩) (L.length - i) (cap - i)) (.int .i64 last) (0, 0) rfl HE.1) rfl ⟨some ⟨bb, off + i * 3, none⟩, cap - i, cap, by rw [HR.out.1, HR.out.2, List.length_drop, List.length_take, Nat.min_eq_left hi]; rfl, HE.2, by rw [HR.out.2]; exact (HL.out.below HE.2).drop i, by rw [HR.out.1]; exact (HL.out.below HE.2).take i, by rw [HR.out.1, List.length_take]; omega, by rw [HR.out.2, List.length_drop]; omega, (fun e => by cases e), (fun a e => by cases e; exact ⟨_, _, rfl⟩), fun a e => by cases e; exact ⟨_, rfl, rfl⟩⟩
    · obtain rfl : i = L.length := by omega
      have hlt' : ¬ ((L.length : Int) < L.length) := by omega
      have HR : Hid (dueE now L = L.take L.length ∧ restE now L = L.drop L.length) := dueE_at hi HD.out (fun y hy => by rw [List.getElem?_eq_none (Nat.le_refl _)] at hy; cases hy)
      cases ad with
      | none =>
        obtain ⟨hn, rfl⟩ := hnil rfl
        go_wp2
        have HE := HI.out.done (.slice none 0 0)
        refine bodyPost_ret (results_Q2 Tryd.results15 _ _ (w.heap.size + 1) 39 (.slice none 0 0) (.int .i64 last) (0, 0) rfl HE.1) rfl ⟨none, 0, 0, by rw [HR.out.1, HR.out.2, List.length_drop, List.length_take, Nat.min_self, Nat.sub_self, hn]; rfl, HE.2, (fun h0 => by rw [HR.out.2, List.length_drop] at h0; omega), (fun h0 => by rw [HR.out.1, List.length_take] at h0; omega), by rw [HR.out.1, List.length_take]; omega, by rw [HR.out.2, List.length_drop]; omega, (fun _ => ⟨by rw [HR.out.2, List.length_drop]; omega, rfl⟩), (fun a e => by cases e), (fun a e => by cases e)⟩
      | some a =>
        obtain ⟨bb, off, rfl⟩ := hsp a rfl
        go_wp2
        · have HE := HI.out.done (.slice (some ⟨bb, off, none⟩) 0 0)
          refine bodyPost_ret (results_Q2 Tryd.results15 _ _ (w.heap.size + 1) 39 (.slice (some ⟨bb, off, none⟩) 0 0) (.int .i64 last) (0, 0) rfl HE.1) rfl ⟨some ⟨bb, off, none⟩, 0, L.length, by rw [HR.out.1, HR.out.2, List.length_drop, List.length_take, Nat.min_self, Nat.sub_self]; rfl, HE.2, (fun h0 => by rw [HR.out.2, List.length_drop] at h0; omega), by rw [HR.out.1]; exact (HL.out.below HE.2).take _, by rw [HR.out.1, List.length_take]; omega, by rw [HR.out.2, List.length_drop]; omega, (fun e => by cases e), (fun a e => by cases e; exact ⟨_, _, rfl⟩), fun a e => by cases e; exact ⟨_, rfl, rfl⟩⟩
        · have HE := HI.out.done (.slice (some ⟨bb, off + L.length * 3, none⟩) 0 (cap - L.length))
          refine bodyPost_ret (results_Q2 Tryd.results15 _ _ (w.heap.size + 1) 39 (.slice (some ⟨bb, off + L.length * 3, none⟩) 0 (cap - L.length)) (.int .i64 last) (0, 0) rfl HE.1) rfl ⟨some ⟨bb, off + L.length * 3, none⟩, cap - L.length, cap, by rw [HR.out.1, HR.out.2, List.length_drop, List.length_take, Nat.min_self, Nat.sub_self]; rfl, HE.2, (fun h0 => by rw [HR.out.2, List.length_drop] at h0; omega), by rw [HR.out.1]; exact (HL.out.below HE.2).take _, by rw [HR.out.1, List.length_take]; omega, by rw [HR.out.2, List.length_drop]; omega, (fun e => by cases e), (fun a e => by cases e; exact ⟨_, _, rfl⟩), fun a e => by cases e; exact ⟨_, rfl, rfl⟩⟩
end Go.Proofs.YthnobkiiaflelaaDoor
/- The document's Cancel: without a number. -/
namespace Go.Proofs.YthnobkiiaflelaaDoor
open Go.RowKit Go.Maps Go.Sort

theorem QB.keep {w wr w' : World} {v y : Value} {last m : Int} (h : QB w wr v last y m) (hb : Below wr.heap.size wr w') : QB w w' v last y m :=
  ⟨(hb.block _ (lt_of_block h.box)).trans h.box, (hb.block _ (lt_of_block h.res)).trans h.res, Below.transS h.below hb⟩
theorem QB.size {w wr : World} {v y : Value} {last m : Int} (h : QB w wr v last y m) : w.heap.size + 1 < wr.heap.size := lt_of_block h.res
/-- What Cancel answers. -/
structure CanR (w : World) (ad : Option Addr) (cap : Nat) (L : List Ev) (last id : Int) (e : Ending) (w' : World) : Prop where
  below : Below w.heap.size w w'
  out : (cutE id L = L ∧ e = .returned (.tuple #[qV (.slice ad L.length cap) last, .int .i64 8])) ∨ (cutE id L ≠ L ∧ ∃ v, e = .returned (.tuple #[qV v last, .int .i64 0]) ∧ EvOw w w' v (cutE id L))

set_option maxRecDepth 100000 in
set_option maxHeartbeats 1600000 in
theorem rcancel_any (ad : Option Addr) (cap : Nat) (L : List Ev) (last id : Int) (w : World) (h : EvAt w ad L) (hl : L.length ≤ 1000) :
    Calls Tryd.prog 14 #[qV (.slice ad L.length cap) last, .int .i64 id] w fun e w' => CanR w ad cap L last id e w' := by
  unfold qV
  have HL : Hid (EvAt w ad L) := h
  clear h
  obtain ⟨W2, hW2⟩ : ∃ W2, (w.alloc (.cells #[.slice ad L.length cap, .int .i64 last] 39)).alloc (.cells #[.slice none 0 0, .int .i64 0] 39) = W2 := ⟨_, rfl⟩
  have HQ : Hid (QB w W2 (.slice ad L.length cap) last (.slice none 0 0) 0) := by rw [← hW2]; exact QB.new w (.slice ad L.length cap) last
  have HI0 : Hid (EvOw W2 ((w.alloc (.cells #[.slice ad L.length cap, .int .i64 last] 39)).alloc (.cells #[.slice none 0 0, .int .i64 0] 39)) (.slice none 0 0) (cutE id (L.take 0))) := by rw [hW2]; exact EvOw.nil' (Below.refl _ _)
  clear hW2
  go_enter Tryd.func14, Tryd.ntmps14
  go_wp2
  go_loopw [6, 7] (fun ov iv wr => ∃ i : Nat, i ≤ L.length ∧ iv = .int .i64 i ∧ EvOw W2 wr ov (cutE id (L.take i))) (fun _ iv _ => L.length - (intOf iv).toNat)
  case atStart => exact ⟨0, Nat.zero_le _, rfl, HI0.out⟩
  case round =>
    clear HI0
    obtain ⟨i, hi, rfl, hO⟩ := hrel
    have HO : Hid (EvOw W2 wr u6 (cutE id (L.take i))) := hO
    clear hO
    have HI : Hid (QB w wr (.slice ad L.length cap) last (.slice none 0 0) 0) := HQ.out.keep HO.out.below
    have b0 : wr.cell? ⟨w.heap.size, 0, none⟩ = some (.slice ad L.length cap) := by rw [cell_of_row _ _ 0 _ _ _ HI.out.box]; rfl
    have b1 : wr.cell? ⟨w.heap.size, 1, none⟩ = some (.int .i64 last) := by rw [cell_of_row _ _ 1 _ _ _ HI.out.box]; rfl
    have hle : (cutE id (L.take i)).length ≤ 1000 := by
      have h1 := cutE_le id (L.take i)
      have h2 : (L.take i).length ≤ L.length := by rw [List.length_take]; omega
      omega
    by_cases hlt : i < L.length
    · have hlt' : (i : Int) < L.length := by omega
      have hx : L[i]? = some L[i] := List.getElem?_eq_getElem hlt
      have htk : L.take (i + 1) = L.take i ++ [L[i]] := (List.take_append_getElem hlt).symm
      obtain ⟨bb, off, rfl, hc⟩ := (HL.out.below HI.out.below) (by omega)
      have c0 := (hc i _ hx).1
      have c1 := (hc i _ hx).2.1
      have c2 := (hc i _ hx).2.2
      clear hc hx
      generalize L[i] = x at *
      by_cases hk : x.id = id
      · have h0 : cutE id (L.take (i + 1)) = cutE id (L.take i) := by rw [htk]; simp [cutE, hk]
        have HN : Hid (EvOw W2 wr u6 (cutE id (L.take (i + 1)))) := by rw [h0]; exact HO.out
        rw [hk] at c0
        clear h0 htk hk hle
        go_wp2
        exact ⟨⟨i + 1, by omega, by go_num, HN.out⟩, by simp [intOf]; omega⟩
      · have h0 : cutE id (L.take (i + 1)) = cutE id (L.take i) ++ [x] := by rw [htk]; simp [cutE, hk]
        have hkb : (x.id == id) = false := by simpa using hk
        obtain ⟨wa, hwa⟩ : ∃ wa, wr.alloc (.cells #[.int .i64 x.id, .int .i64 x.due, encStr x.nm] 51) = wa := ⟨_, rfl⟩
        have hOw : EvOw W2 wa u6 (cutE id (L.take i)) := by rw [← hwa]; exact HO.out.keep ((Below.refl _ wr).alloc (Nat.le_refl _) _)
        have hone : EvAt wa (some ⟨wr.heap.size, 0, none⟩) [x] := by rw [← hwa]; exact EvAt.one x wr
        have HN : Hid (∀ v' w1, EvOw W2 w1 v' (cutE id (L.take i) ++ [x]) → EvOw W2 w1 v' (cutE id (L.take (i + 1)))) := fun v' w1 h1 => by rw [h0]; exact h1
        have hle1 : (cutE id (L.take i)).length + [x].length ≤ 100000 := by simp; omega
        clear h0 htk hle
        generalize cutE id (L.take i) = D at *
        obtain ⟨xi, hxi⟩ : ∃ xi, x.id = xi := ⟨_, rfl⟩
        obtain ⟨xd, hxd⟩ : ∃ xd, x.due = xd := ⟨_, rfl⟩
        obtain ⟨xn, hxn⟩ : ∃ xn, x.nm = xn := ⟨_, rfl⟩
        rw [hxi] at c0 hkb hwa hk
        rw [hxd] at c1 hwa
        rw [hxn] at c2 hwa
        clear hxi hxd hxn
        go_wp2_with (first | (at_builtin; refine wpList_append_Ev rfl _ _ rfl W2 _ D [x] (some ⟨wr.heap.size, 0, none⟩) 1 rfl rfl hOw hone (fun e => by cases e) hle1 ?_; intro v4 w4 hO4) | fail)
        have HN4 : Hid (EvOw W2 w4 v4 (cutE id (L.take (i + 1)))) := HN.out v4 w4 hO4
        clear hOw hone hle1 hwa hO4
        go_wp2
        exact ⟨⟨i + 1, by omega, by go_num, HN4.out⟩, by simp [intOf]; omega⟩
    · obtain rfl : i = L.length := by omega
      have hlt' : ¬ ((L.length : Int) < L.length) := by omega
      have HE : Hid (EvOw W2 wr u6 (cutE id L)) := by have := HO.out; rw [List.take_length] at this; exact this
      have r0 : wr.cell? ⟨w.heap.size + 1, 0, none⟩ = some (.slice none 0 0) := by rw [cell_of_row _ _ 0 _ _ _ HI.out.res]; rfl
      have r1 : wr.cell? ⟨w.heap.size + 1, 1, none⟩ = some (.int .i64 0) := by rw [cell_of_row _ _ 1 _ _ _ HI.out.res]; rfl
      have f0 : wr.frozen? ⟨w.heap.size, 0, none⟩ = false := frozen_of_row wr _ 0 _ _ HI.out.box
      have f1 : wr.frozen? ⟨w.heap.size + 1, 0, none⟩ = false := frozen_of_row wr _ 0 _ _ HI.out.res
      have f2 : wr.frozen? ⟨w.heap.size + 1, 1, none⟩ = false := frozen_of_row wr _ 1 _ _ HI.out.res
      obtain ⟨ca, cc, hv, hcc, hca, hbk⟩ := HE.out.sl
      subst hv
      by_cases hq : cutE id L = L
      · have hqn : (cutE id L).length = L.length := by rw [hq]
        rw [hqn] at *
        clear hle hcc hca hbk
        go_wp2
        have HF := HI.out.kept
        refine bodyPost_ret (results_Q2 Tryd.results14 _ _ (w.heap.size + 1) 39 (.slice ad L.length cap) (.int .i64 last) (0, 0) rfl HF.1) rfl ⟨HF.2, .inl ⟨hq, rfl⟩⟩
      · have hqn : ((cutE id L).length : Int) ≠ L.length := fun e => hq (cutE_all.1 (by omega))
        have hqb : (((cutE id L).length : Int) == L.length) = false := by simpa using hqn
        have HV : Hid (EvOw W2 wr (.slice ca (cutE id L).length cc) (cutE id L)) := HE.out
        have HQQ : Hid (cutE id L ≠ L) := hq
        clear hle hcc hca hbk HE HO hq
        generalize hM : cutE id L = M at *
        go_wp2
        have HF := HI.out.done (.slice ca M.length cc)
        refine bodyPost_ret (results_Q2 Tryd.results14 _ _ (w.heap.size + 1) 39 (.slice ca M.length cc) (.int .i64 last) (0, 0) rfl HF.1) rfl ⟨HF.2, .inr ⟨by rw [hM]; exact HQQ.out, _, rfl, ?_⟩⟩
        rw [hM]
        refine ⟨?_, HF.2⟩
        have h1 := HV.out.mono HQ.out.below
        refine owns_row_keep h1.own fun k e => ?_
        have hk2 : W2.heap.size ≤ k := HV.out.block k e
        have hs := HQ.out.size
        rw [Below.heap_setCell _ _ _ _ (by simp; omega), Below.heap_setCell _ _ _ _ (by simp; omega), Below.heap_setCell _ _ _ _ (by simp; omega)]
end Go.Proofs.YthnobkiiaflelaaDoor
