/- A queue's remove: the event at a place of the heap goes. -/
import Derived.Test.YthnobkiiaflelaaDoorOwnShelf25
namespace Go.Proofs.YthnobkiiaflelaaDoor
open Go.RowKit Go.Maps Go.Sort Go.ChangeMaps Go.MapKept

attribute [local go_sem ↓] Go.wp_at_zero Go.wp_at_succ

theorem LOk.cut {L : List Ev} {last : Int} (h : LOk L last) (id : Int) : LOk (cutE id L) last :=
  ⟨h.up.filter _, fun x hx => h.id x (List.mem_filter.1 hx).1, fun x hx => h.due x (List.mem_filter.1 hx).1, fun x hx => h.nm x (List.mem_filter.1 hx).1, h.nn, by have := h.le; have := cutE_le id L; omega⟩
theorem mem_cut {L : List Ev} {id : Int} {x : Ev} : x ∈ cutE id L ↔ x ∈ L ∧ x.id ≠ id := by simp [cutE]
theorem MpD.del {D : DataW Unit} {β : Int → Nat} {L : List Ev} (h : MpD D β L) (id : Int) : MpD (D.del (.int .i64 id)) β (cutE id L) := by
  refine ⟨fun j => ?_, fun x hx z => ?_⟩
  · by_cases e : j = id
    · subst e
      rw [Maps.has_del_same]
      refine ⟨fun h => (by cases h), fun ⟨x, hx, e⟩ => absurd e (mem_cut.1 hx).2⟩
    · rw [Maps.has_del_other (by simpa using e), h.has]
      exact ⟨fun ⟨x, hx, hi⟩ => ⟨x, mem_cut.2 ⟨hx, by rw [hi]; exact e⟩, hi⟩, fun ⟨x, hx, hi⟩ => ⟨x, (mem_cut.1 hx).1, hi⟩⟩
  · obtain ⟨h1, h2⟩ := mem_cut.1 hx
    rw [Maps.atKey_del_other (by simpa using h2)]
    exact h.at_ x h1 z
section
variable {w w' : World} {A : Nat → Prop} {p : Nat} {L : List Ev} {last : Int} {m : Nat} {β : Int → Nat} {R : Nat → Prop} {n : Nat} {a : Nat → Ev} {D : DataW Unit}
/-- No two have one number. -/
theorem Wt.ids {K : Ev → Prop} (h : Wt p m last β K R w n a) : (rowA n a).Pairwise fun x y => x.id ≠ y.id := by
  unfold rowA
  rw [List.pairwise_map]
  rw [List.pairwise_iff_getElem]
  intro i j hi hj hij e
  simp only [List.length_range] at hi hj
  simp only [List.getElem_range] at e
  have := h.place hi hj (by rw [e])
  omega
theorem cut_row {x : Ev} {l : List Ev} (h : (x :: l).Pairwise fun x y => x.id ≠ y.id) : cutE x.id (x :: l) = l := by
  rw [List.pairwise_cons] at h
  unfold cutE
  rw [List.filter_cons_of_neg (by simp), List.filter_eq_self]
  intro y hy
  simpa using Ne.symm (h.1 y hy)
/-- The heap behind a Remove. -/
theorem perm_cut {a' : Nat → Ev} {i : Nat} (hids : (rowA (n + 1) a).Pairwise fun x y => x.id ≠ y.id) (hL : (rowA (n + 1) a).Perm L) (h : (a i :: rowA n a').Perm (rowA (n + 1) a)) : (rowA n a').Perm (cutE (a i).id L) := by
  have h1 : (a i :: rowA n a').Pairwise fun x y => x.id ≠ y.id := (h.pairwise_iff (fun {_ _} hne => Ne.symm hne)).2 hids
  have h2 := (h.trans hL).filter (fun x => decide (x.id ≠ (a i).id))
  have h3 := cut_row h1
  unfold cutE at h3 ⊢
  rw [h3] at h2
  exact h2
theorem mem_rowA {n k : Nat} {a : Nat → Ev} (h : k < n) : a k ∈ rowA n a := List.mem_map.2 ⟨k, List.mem_range.2 h, rfl⟩
theorem rowA_mem {n : Nat} {a : Nat → Ev} {x : Ev} (h : x ∈ rowA n a) : ∃ k, k < n ∧ a k = x := by
  obtain ⟨k, hk, e⟩ := List.mem_map.1 h
  exact ⟨k, List.mem_range.1 hk, e⟩
theorem Wt.less_known {K K' : Ev → Prop} (h : Wt p m last β K R w n a) (h1 : ∀ x, K' x → K x) (h2 : ∀ k, k < n → K' (a k)) : Wt p m last β K' R w n a :=
  ⟨h.few, h.q, fun x hx => h.it x (h1 x hx), fun k hk => ⟨h2 k hk, (h.pl k hk).2⟩, h.apart.1, fun x hx => h.apart.2 x (h1 x hx)⟩
end
theorem szE3 : (Tryd.prog.info? 58).map (fun i => i.size) = some 3 := by kernel_rfl
set_option maxRecDepth 100000 in
set_option maxHeartbeats 1600000 in
theorem remove_run {w : World} {A : Nat → Prop} {p : Nat} {L : List Ev} {last : Int} {m : Nat} {β : Int → Nat} {R : Nat → Prop} {n : Nat} {a : Nat → Ev} {D : DataW Unit} (h : QP w A p L last m β R (n + 1) a D) (i : Nat) (hi : i ≤ n) (hl : last ≤ 1000) :
    Calls Tryd.prog 22 #[.pointer (some ⟨p, 0, none⟩), .int .i64 (i : Int)] w fun e w' => e = .returned (.agg #[.int .i64 (a i).id, .int .i64 (a i).due, encStr (a i).nm]) ∧ (∃ a' D', QP w' A p (cutE (a i).id L) last m β R n a' D') ∧ Fr A w w' := by
  have hbW : Below w.heap.size w (w.alloc (.cells #[.int .i64 0, .int .i64 0, .string ⟨#[]⟩] 58)) := (Below.refl _ w).alloc (Nat.le_refl _) _
  have hrm := heapRemove (wtH p m last β (fun x => x ∈ L) R) n i a (w.alloc (.cells #[.int .i64 0, .int .i64 0, .string ⟨#[]⟩] 58)) (h.wt.below hbW) h.heap hi
  have HL : Hid (last ≤ 1000) := hl
  have HH : Hid (QP w A p L last m β R (n + 1) a D) := h
  have hN := h.wt.few
  have hr0 := heap_alloc_new w (.cells #[.int .i64 0, .int .i64 0, .string ⟨#[]⟩] 58)
  obtain ⟨W, hW⟩ : ∃ W, w.alloc (.cells #[.int .i64 0, .int .i64 0, .string ⟨#[]⟩] 58) = W := ⟨_, rfl⟩
  rw [hW] at hrm hbW hr0
  have HB : Hid (Below w.heap.size w W ∧ W.heap[w.heap.size]? = some (.cells #[.int .i64 0, .int .i64 0, .string ⟨#[]⟩] 58 (0, 0))) := ⟨hbW, hr0⟩
  clear h hbW hr0
  go_enter Tryd.func22, Tryd.ntmps22
  go_wp2_with fail
  refine hrm.mono ?_
  rintro e w2 ⟨he, a', hA2, hH2, hP2, hR2⟩
  have he' : e = .returned (.iface 66 (.pointer (some ⟨β (a i).id, 0, none⟩))) := he
  subst he'
  have hA2' : Wt p m last β (fun x => x ∈ L) R w2 n a' := hA2
  have hR2' : Fr (wtM p β (fun x => x ∈ L) R) W w2 := hR2
  have hxL : a i ∈ L := HH.out.perm.mem_iff.1 (mem_rowA (by omega))
  have hA0 : ∀ k, wtM p β (fun x => x ∈ L) R k → A k := fun k hk => HH.out.sub k (.inr hk)
  have hsz : w.heap.size < W.heap.size := lt_of_block HB.out.2
  have hmA : A m := HH.out.sub m (.inl rfl)
  have hml := HH.out.low m hmA
  have hmM : ¬ wtM p β (fun x => x ∈ L) R m := fun hM => by
    rcases hM with h1 | h1 | ⟨x, hx, h1⟩
    · exact HH.out.far.1 h1
    · exact HH.out.far.2.1 h1
    · exact HH.out.far.2.2 x hx h1.symm
  have hm2 : qM w2 m last D := map_keep HH.out.map (by rw [hR2'.block m (by omega) hmM, HB.out.1.block m hml])
  have hr2 : w2.heap[w.heap.size]? = some (.cells #[.int .i64 0, .int .i64 0, .string ⟨#[]⟩] 58 (0, 0)) := by
    rw [hR2'.block _ hsz (fun hM => by have := HH.out.low _ (hA0 _ hM); omega)]
    exact HB.out.2
  have hid := HH.out.ok.id _ hxL
  obtain ⟨v, hq2, ho2, hrr⟩ := hA2'.q
  obtain ⟨pl, hit⟩ := hA2'.it _ hxL
  have hba : β (a i).id ≠ m := HH.out.far.2.2 _ hxL
  have hbr : β (a i).id < w.heap.size := HH.out.low _ (hA0 _ (.inr (.inr ⟨_, hxL, rfl⟩)))
  obtain ⟨w3, hdrop, hm3, ht3⟩ := World.ownsMap.drop (w := w2.drew) hm2 intK Tryd.underlying63 (key_int (x := (a i).id) (by have := HH.out.ok.id _ hxL; have hl := HH.out.ok.le; have h9 := HL.out; omega)) 0
  have hoth : ∀ k, k ≠ m → w3.heap[k]? = w2.heap[k]? := fun k hk => by
    obtain ⟨es, cl, es', cl', hb, rfl⟩ := ht3
    exact heap_setBlock_other hb _ hk
  have hs3 : w3.heap.size = w2.heap.size := by
    obtain ⟨es, cl, es', cl', hb, rfl⟩ := ht3
    simp [setBlock]
  have ho3 : w3.os = w2.os ∧ w3.tape = w2.tape ∧ w3.output = w2.output := by
    obtain ⟨es, cl, es', cl', hb, rfl⟩ := ht3
    exact ⟨rfl, rfl, rfl⟩
  have c2 : w2.cell? ⟨p, 2, none⟩ = some (.map (some m)) := by rw [cell_of_row _ _ 2 _ _ _ hq2]; rfl
  have x0 : w2.cell? ⟨β (a i).id, 0, none⟩ = some (.int .i64 (a i).id) := by rw [cell_of_row _ _ 0 _ _ _ hit]; rfl
  have hit3 := (hoth _ hba).trans hit
  have y0 : w3.cell? ⟨β (a i).id, 0, none⟩ = some (.int .i64 (a i).id) := by rw [cell_of_row _ _ 0 _ _ _ hit3]; rfl
  have y1 : w3.cell? ⟨β (a i).id, 1, none⟩ = some (.int .i64 (a i).due) := by rw [cell_of_row _ _ 1 _ _ _ hit3]; rfl
  have y2 : w3.cell? ⟨β (a i).id, 2, none⟩ = some (encStr (a i).nm) := by rw [cell_of_row _ _ 2 _ _ _ hit3]; rfl
  have hr3 := (hoth w.heap.size (by omega)).trans hr2
  have r0 : w3.cell? ⟨w.heap.size, 0, none⟩ = some (.int .i64 0) := by rw [cell_of_row _ _ 0 _ _ _ hr3]; rfl
  have r1 : w3.cell? ⟨w.heap.size, 1, none⟩ = some (.int .i64 0) := by rw [cell_of_row _ _ 1 _ _ _ hr3]; rfl
  have r2 : w3.cell? ⟨w.heap.size, 2, none⟩ = some (.string ⟨#[]⟩) := by rw [cell_of_row _ _ 2 _ _ _ hr3]; rfl
  have rf : ∀ o, w3.frozen? ⟨w.heap.size, o, none⟩ = false := fun o => by simp [World.frozen?, hr3]
  have HE : Hid (∀ w4 : World, w3.heap.size ≤ w4.heap.size → w4.os = w3.os → w4.tape = w3.tape → w4.output = w3.output → (∀ k, k ≠ w.heap.size → k < w3.heap.size → w4.heap[k]? = w3.heap[k]?) → (∃ a' D', QP w4 A p (cutE (a i).id L) last m β R n a' D') ∧ Fr A w w4) := fun w4 h1 h2 h3 h4 h5 => by
    have hlow : ∀ k, A k → k ≠ w.heap.size ∧ k < w3.heap.size := fun k hk => ⟨by have := HH.out.low k hk; omega, by have := HH.out.low k hk; have := hR2'.size; omega⟩
    have hpm := perm_cut HH.out.wt.ids HH.out.perm hP2
    refine ⟨⟨a', _, ⟨(hA2'.keep fun k hM _ => ?_).less_known (fun x hx => (mem_cut.1 hx).1) (fun k hk => hpm.mem_iff.1 (mem_rowA hk)), hH2, hpm, map_keep hm3 (h5 m (hlow m hmA).1 (hlow m hmA).2), HH.out.mp.del _, HH.out.ok.cut _, fun k hk => HH.out.sub k ?_, fun k hk => by have := (hlow k hk).2; omega, HH.out.far.1, HH.out.far.2.1, fun x hx => HH.out.far.2.2 x (mem_cut.1 hx).1⟩⟩, ?_⟩
    · rw [h5 k (hlow k (hA0 k hM)).1 (hlow k (hA0 k hM)).2, hoth k (fun e => hmM (e ▸ hM))]
    · rcases hk with h | h | h | ⟨x, hx, h⟩
      · exact .inl h
      · exact .inr (.inl h)
      · exact .inr (.inr (.inl h))
      · exact .inr (.inr (.inr ⟨x, (mem_cut.1 hx).1, h⟩))
    · refine ⟨by rw [h2, ho3.1, hR2'.os, HB.out.1.os], by rw [h3, ho3.2.1, hR2'.tape, HB.out.1.tape], by rw [h4, ho3.2.2, hR2'.output, HB.out.1.output], by have := hR2'.size; omega, fun k hk hnA => ?_⟩
      rw [h5 k (by omega) (by have := hR2'.size; omega), hoth k (fun e => hnA (e ▸ hmA)), hR2'.block k (by omega) (fun hM => hnA (hA0 k hM)), HB.out.1.block k hk]
  have HR3 : Hid (w3.heap[w.heap.size]? = some (.cells #[.int .i64 0, .int .i64 0, .string ⟨#[]⟩] 58 (0, 0))) := hr3
  have ha := assert_it (.pointer (some ⟨β (a i).id, 0, none⟩)) w2
  clear hrm he hA2 hR2 hA2' hR2' hm2 hH2 hP2 hit hit3 hr2 hr3 hq2 ho2 hrr hm3 ht3 hoth ho3 hA0 hmM hmA hml
  generalize hxn : (a i).nm = xn at *
  generalize hxd : (a i).due = xd at *
  generalize hxi : (a i).id = xi at *
  generalize β xi = be at *
  have HXI : Hid ((a i).id = xi ∧ (a i).due = xd ∧ (a i).nm = xn) := ⟨hxi, hxd, hxn⟩
  clear hxi hxd hxn
  go_upto_region 2 with fail
  refine region_seq (c := 9) (f := 60) (ts := [(0, 0), (0, 1), (0, 2), (1, 3), (0, 4), (0, 5), (0, 6), (0, 7), (1, 8), (2, 9)]) (by kernel_rfl) (by kernel_rfl) ?_
  refine seq_W (o := { dst := some 13, op := Go.Op.move (Go.Operand.tmp 0), type := 23, pos := "timer.go:108", after := #[], guard := none }) (v := ?_) rfl rfl (fun wz => ?_) ?_
  rotate_left
  · go_simp; (try with_reducible rfl)
  try simp only [Act.put, List.setIfInBounds_toArray, List.set_cons_zero, List.set_cons_succ]
  refine seq_W (o := { dst := some 14, op := Go.Op.nilCheck (Go.Operand.tmp 13), type := 0, pos := "timer.go:108", after := #[{ on := 0, ground := Go.Ground.data }], guard := none }) (v := ?_) rfl rfl (fun wz => ?_) ?_
  rotate_left
  · go_simp; (try with_reducible rfl)
  try simp only [Act.put, List.setIfInBounds_toArray, List.set_cons_zero, List.set_cons_succ]
  refine seq_W (o := { dst := some 15, op := Go.Op.fieldAddr 65 (Go.Operand.tmp 14) 2, type := 0, pos := "timer.go:108", after := #[{ on := 1, ground := Go.Ground.data }], guard := none }) (v := ?_) rfl rfl (fun wz => ?_) ?_
  rotate_left
  · go_simp; (try with_reducible rfl)
  try simp only [Act.put, List.setIfInBounds_toArray, List.set_cons_zero, List.set_cons_succ]
  refine seq_R (o := { dst := some 16, op := Go.Op.load 63 (Go.Operand.tmp 15), type := 63, pos := "timer.go:108", after := #[{ on := 2, ground := Go.Ground.data }], guard := none }) (v := ?_) rfl rfl ?_ ?_
  rotate_left
  · go_simp; (try with_reducible rfl)
  try simp only [Act.put, List.setIfInBounds_toArray, List.set_cons_zero, List.set_cons_succ]
  refine seq_W (o := { dst := some 17, op := Go.Op.move (Go.Operand.tmp 5), type := 66, pos := "timer.go:108", after := #[], guard := none }) (v := ?_) rfl rfl (fun wz => ?_) ?_
  rotate_left
  · go_simp; (try with_reducible rfl)
  try simp only [Act.put, List.setIfInBounds_toArray, List.set_cons_zero, List.set_cons_succ]
  refine seq_W (o := { dst := some 18, op := Go.Op.nilCheck (Go.Operand.tmp 17), type := 0, pos := "timer.go:108", after := #[{ on := 4, ground := Go.Ground.data }], guard := none }) (v := ?_) rfl rfl (fun wz => ?_) ?_
  rotate_left
  · go_simp; (try with_reducible rfl)
  try simp only [Act.put, List.setIfInBounds_toArray, List.set_cons_zero, List.set_cons_succ]
  refine seq_W (o := { dst := some 19, op := Go.Op.fieldAddr 69 (Go.Operand.tmp 18) 0, type := 0, pos := "timer.go:108", after := #[{ on := 5, ground := Go.Ground.data }], guard := none }) (v := ?_) rfl rfl (fun wz => ?_) ?_
  rotate_left
  · go_simp; (try with_reducible rfl)
  try simp only [Act.put, List.setIfInBounds_toArray, List.set_cons_zero, List.set_cons_succ]
  refine seq_W (o := { dst := some 20, op := Go.Op.fieldAddr 58 (Go.Operand.tmp 19) 0, type := 0, pos := "timer.go:108", after := #[{ on := 6, ground := Go.Ground.data }], guard := none }) (v := ?_) rfl rfl (fun wz => ?_) ?_
  rotate_left
  · go_simp; (try with_reducible rfl)
  try simp only [Act.put, List.setIfInBounds_toArray, List.set_cons_zero, List.set_cons_succ]
  refine seq_R (o := { dst := some 21, op := Go.Op.load 3 (Go.Operand.tmp 20), type := 3, pos := "timer.go:108", after := #[{ on := 7, ground := Go.Ground.data }], guard := none }) (v := ?_) rfl rfl ?_ ?_
  rotate_left
  · go_simp; (try with_reducible rfl)
  try simp only [Act.put, List.setIfInBounds_toArray, List.set_cons_zero, List.set_cons_succ]
  refine seq_A (o := { dst := none, op := Go.Op.call { callee := Go.Callee.builtin Go.Builtin.delete, args := #[Go.Operand.tmp 16, Go.Operand.tmp 21], argTypes := #[63, 3] }, type := 0, pos := "timer.go:108", after := #[{ on := 3, ground := Go.Ground.data }, { on := 8, ground := Go.Ground.data }], guard := none }) rfl rfl (fun K hK => ?_)
  go_simp
  refine hK _ _ ?_
  clear hK K
  try simp only [Act.put, List.setIfInBounds_toArray, List.set_cons_zero, List.set_cons_succ]
  refine seq_nil (NoPanic.normal ?_)
  try simp only [Act.put, List.setIfInBounds_toArray, List.set_cons_zero, List.set_cons_succ]
  go_wp2
  have hfin : (((w3.setCell ⟨w.heap.size, 0, none⟩ (.int .i64 xi)).setCell ⟨w.heap.size, 1, none⟩ (.int .i64 xd)).setCell ⟨w.heap.size, 2, none⟩ (encStr xn)).heap[w.heap.size]? = some (.cells #[.int .i64 xi, .int .i64 xd, encStr xn] 58 (0, 0)) := by
    rw [heap_setCell_same _ _ 2 _ _ _ (heap_setCell_same _ _ 1 _ _ _ (heap_setCell_same _ _ 0 _ _ _ HR3.out))]; rfl
  refine bodyPost_ret (results_cell_row Tryd.results22 _ _ w.heap.size 58 #[.int .i64 xi, .int .i64 xd, encStr xn] (0, 0) _ rfl hfin Tryd.underlying58 rfl szE3) rfl ?_
  obtain ⟨e1, e2, e3⟩ := HXI.out
  rw [e1, e2, e3]
  refine ⟨rfl, HE.out _ (by simp [World.setCell]) rfl rfl rfl fun k hk _ => ?_⟩
  rw [setc _ _ _ _ hk, setc _ _ _ _ hk, setc _ _ _ _ hk]
end Go.Proofs.YthnobkiiaflelaaDoor
