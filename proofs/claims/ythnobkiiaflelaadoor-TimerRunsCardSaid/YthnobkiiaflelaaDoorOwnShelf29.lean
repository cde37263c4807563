/- A queue's Add. -/
import Derived.Test.YthnobkiiaflelaaDoorOwnShelf26
import Derived.Test.YthnobkiiaflelaaDoorOwnShelf28
namespace Go.Proofs.YthnobkiiaflelaaDoor
open Go.RowKit Go.Maps Go.Sort Go.ChangeMaps Go.MapKept

attribute [local go_sem ↓] Go.wp_at_zero Go.wp_at_succ

/-- One more item. -/
def putB (β : Int → Nat) (id : Int) (b : Nat) : Int → Nat := fun j => if j = id then b else β j
theorem putB_same (β : Int → Nat) (id : Int) (b : Nat) : putB β id b id = b := by simp [putB]
theorem putB_other (β : Int → Nat) {id j : Int} (b : Nat) (h : j ≠ id) : putB β id b j = β j := by simp [putB, h]
section
variable {w w4 w5 : World} {A : Nat → Prop} {p : Nat} {L : List Ev} {last : Int} {m : Nat} {β : Int → Nat} {R : Nat → Prop} {n : Nat} {a : Nat → Ev} {D : DataW Unit}
theorem QP.Rlow (h : QP w A p L last m β R n a D) {k : Nat} (hk : R k) : A k ∧ k < w.heap.size := ⟨h.sub k (.inr (.inr (.inl hk))), h.low k (h.sub k (.inr (.inr (.inl hk))))⟩
theorem QP.pA (h : QP w A p L last m β R n a D) : A p ∧ p < w.heap.size := ⟨h.sub p (.inr (.inl rfl)), h.low p (h.sub p (.inr (.inl rfl)))⟩
theorem QP.bA (h : QP w A p L last m β R n a D) {x : Ev} (hx : x ∈ L) : A (β x.id) ∧ β x.id < w.heap.size := ⟨h.sub _ (.inr (.inr (.inr ⟨x, hx, rfl⟩))), h.low _ (h.sub _ (.inr (.inr (.inr ⟨x, hx, rfl⟩))))⟩
/-- The heap ahead of Push: one more item has been laid, and stands in the map. -/
theorem QP.wt4 (h : QP w A p L last m β R n a D) (e : Ev) (he : e.id = last + 1) {it : Nat} {v : Value} (hv : w.cell? ⟨p, 1, none⟩ = some v) (hp : w4.heap[p]? = some (.cells #[.int .i64 (last + 1), v, .map (some m)] 65 (0, 0)))
    (hk : ∀ k, k < w.heap.size → k ≠ p → k ≠ m → w4.heap[k]? = w.heap[k]?) (hit : w.heap.size ≤ it) (hi4 : w4.heap[it]? = some (.cells (itC e 0) 69 (0, 0))) :
    Wt p m (last + 1) (putB β (last + 1) it) (fun x => x ∈ e :: L) (fun k => R k ∨ w4.heap.size ≤ k) w4 n a := by
  obtain ⟨u, hq, ho, hr⟩ := h.wt.q
  have e1 : v = u := by
    rw [cell_of_row _ _ 1 _ _ _ hq] at hv
    exact (Option.some.inj hv).symm
  subst e1
  have hid : ∀ x ∈ L, putB β (last + 1) it x.id = β x.id := fun x hx => putB_other _ _ (by have := (h.ok.id x hx).2; omega)
  have haL : ∀ k, k < n → a k ∈ L := fun k hk => (h.wt.pl k hk).1
  have hrk : ∀ k, R k → k ≠ p ∧ k ≠ m := fun k hR => ⟨fun e => h.wt.apart.1 (e ▸ hR), fun e => h.far.2.1 (e ▸ hR)⟩
  have hxk : ∀ x ∈ L, w4.heap[β x.id]? = w.heap[β x.id]? := fun x hx => hk _ (h.bA hx).2 (h.wt.apart.2 x hx).2 (h.far.2.2 x hx)
  have hi5 := lt_of_block hi4
  refine ⟨h.wt.few, ⟨v, hp, ?_, fun r e => .inl (hr r e)⟩, fun x hx => ?_, fun k hkn => ?_, ⟨fun hR => ?_, fun x hx => ?_⟩⟩
  · have : ptL (putB β (last + 1) it) n a = ptL β n a := by
      unfold ptL
      refine List.map_congr_left fun x hx => ?_
      obtain ⟨k, hk, rfl⟩ := rowA_mem hx
      rw [hid _ (haL k hk)]
    rw [this]
    exact owns_row_keep ho fun k e => hk k (ho.lt k e).2 (hrk k (hr k e)).1 (hrk k (hr k e)).2
  · rcases List.mem_cons.1 hx with rfl | hx
    · rw [he, putB_same]; exact ⟨0, hi4⟩
    · rw [hid x hx, hxk x hx]; exact h.wt.it x hx
  · have := haL k hkn
    refine ⟨List.mem_cons_of_mem _ this, ?_⟩
    rw [hid _ this, hxk _ this]; exact (h.wt.pl k hkn).2
  · rcases hR with hR | hR
    · exact h.wt.apart.1 hR
    · have := lt_of_block hp; omega
  · rcases List.mem_cons.1 hx with rfl | hx
    · rw [he, putB_same]
      refine ⟨fun hR => ?_, fun e => ?_⟩
      · rcases hR with hR | hR
        · have := (h.Rlow hR).2; omega
        · omega
      · have := h.pA.2; omega
    · rw [hid x hx]
      refine ⟨fun hR => ?_, (h.wt.apart.2 x hx).2⟩
      rcases hR with hR | hR
      · exact (h.wt.apart.2 x hx).1 hR
      · obtain ⟨pl, hpl⟩ := h.wt.it x hx
        have := lt_of_block ((hxk x hx).trans hpl)
        omega
theorem Wt.tight {K : Ev → Prop} (h : Wt p m last β K R w n a) : ∃ R', Wt p m last β K R' w n a ∧ ∀ k, R' k → R k ∧ k < w.heap.size := by
  obtain ⟨v, hq, ho, hr⟩ := h.q
  exact ⟨fun k => v.ownBlock = some k, ⟨h.few, ⟨v, hq, ho, fun r e => e⟩, h.it, h.pl, fun e => h.apart.1 (hr _ e), fun x hx => ⟨fun e => (h.apart.2 x hx).1 (hr _ e), (h.apart.2 x hx).2⟩⟩, fun k e => ⟨hr k e, (ho.lt k e).2⟩⟩
theorem MpD.put {D : DataW Unit} (h : MpD D β L) (hD : Maps.IsMap D) (e : Ev) (it : Nat) (hL : ∀ x ∈ L, x.id ≠ e.id) : MpD (D.put (.int .i64 e.id) (ptD it)) (putB β e.id it) (insE e L) := by
  have hkl : WideAt.IsKeyLit (.int .i64 e.id) := by simp [WideAt.IsKeyLit]
  refine ⟨fun j => ?_, fun x hx z => ?_⟩
  · by_cases ej : j = e.id
    · subst ej
      rw [Maps.has_put_same hD hkl]
      exact ⟨fun _ => ⟨e, mem_insE.2 (.inl rfl), rfl⟩, fun _ => rfl⟩
    · rw [Maps.has_put_other (by simpa using ej), h.has]
      refine ⟨fun ⟨x, hx, hi⟩ => ⟨x, mem_insE.2 (.inr hx), hi⟩, fun ⟨x, hx, hi⟩ => ?_⟩
      rcases mem_insE.1 hx with rfl | hx
      · exact absurd hi.symm ej
      · exact ⟨x, hx, hi⟩
  · rcases mem_insE.1 hx with rfl | hx
    · rw [Maps.atKey_put_same hD hkl, putB_same]
    · rw [Maps.atKey_put_other (by simpa using hL x hx), putB_other _ _ (hL x hx)]
      exact h.at_ x hx z
theorem LOk.ins {L : List Ev} {last : Int} (h : LOk L last) {e : Ev} (he : e.id = last + 1) (hd : 0 ≤ e.due ∧ e.due ≤ 1099511627776) (hn : e.nm.length ≤ 64) : LOk (insE e L) (last + 1) := by
  refine ⟨insE_up h.up fun x hx => by have := (h.id x hx).2; omega, fun x hx => ?_, fun x hx => ?_, fun x hx => ?_, by have := h.nn; omega, ?_⟩
  · rcases mem_insE.1 hx with rfl | hx
    · have := h.nn; omega
    · have := h.id x hx; omega
  · rcases mem_insE.1 hx with rfl | hx
    · exact hd
    · exact h.due x hx
  · rcases mem_insE.1 hx with rfl | hx
    · exact hn
    · exact h.nm x hx
  · have := (insE_perm e L).length_eq
    have := h.le
    simp only [List.length_cons] at *
    omega
/-- The queue behind Push. -/
theorem QP.add_end (h : QP w A p L last m β R n a D) (e : Ev) (he : e.id = last + 1) (hd : 0 ≤ e.due ∧ e.due ≤ 1099511627776) (hnm : e.nm.length ≤ 64) {it : Nat} (hit : w.heap.size ≤ it) (hit4 : it < w4.heap.size) {a' : Nat → Ev}
    (hm4 : w4.ownsMap Tryd.prog 3 ptR m (last.toNat + 1) (D.put (.int .i64 (last + 1)) (ptD it))) (hk : ∀ k, k < w.heap.size → k ≠ p → k ≠ m → w4.heap[k]? = w.heap[k]?) (ho4 : w4.os = w.os ∧ w4.tape = w.tape ∧ w4.output = w.output)
    (hW : Wt p m (last + 1) (putB β (last + 1) it) (fun x => x ∈ e :: L) (fun k => R k ∨ w4.heap.size ≤ k) w5 (n + 1) a') (hH : HeapN ltE (n + 1) a') (hP : (rowA (n + 1) a').Perm (e :: rowA n a)) (hF : Fr (wtM p (putB β (last + 1) it) (fun x => x ∈ e :: L) (fun k => R k ∨ w4.heap.size ≤ k)) w4 w5) :
    ∃ A', Qr Qs A p (insE e L) (last + 1) w w5 A' := by
  have hid : ∀ x ∈ L, x.id ≠ last + 1 := fun x hx => by have := (h.ok.id x hx).2; omega
  have hidb : ∀ x ∈ L, putB β (last + 1) it x.id = β x.id := fun x hx => putB_other _ _ (hid x hx)
  have hmA : A m := h.sub m (.inl rfl)
  have hml := h.low m hmA
  have hmM : ¬ wtM p (putB β (last + 1) it) (fun x => x ∈ e :: L) (fun k => R k ∨ w4.heap.size ≤ k) m := fun hM => by
    rcases hM with h1 | h1 | ⟨x, hx, h1⟩
    · exact h.far.1 h1
    · rcases h1 with h1 | h1
      · exact h.far.2.1 h1
      · omega
    · rcases List.mem_cons.1 hx with rfl | hx
      · rw [he, putB_same] at h1; omega
      · rw [hidb x hx] at h1; exact h.far.2.2 x hx h1.symm
  have hpm : (rowA (n + 1) a').Perm (insE e L) := (hP.trans (h.perm.cons e)).trans (insE_perm e L).symm
  obtain ⟨R', hW', hR'⟩ := hW.tight
  have hmem : ∀ x, x ∈ insE e L → x ∈ e :: L := fun x hx => by
    rcases mem_insE.1 hx with rfl | hx
    · exact List.mem_cons_self ..
    · exact List.mem_cons_of_mem _ hx
  have hW2 : Wt p m (last + 1) (putB β (last + 1) it) (fun x => x ∈ insE e L) R' w5 (n + 1) a' := hW'.less_known hmem fun k hk => hpm.mem_iff.1 (mem_rowA hk)
  have hs5 : w4.heap.size ≤ w5.heap.size := hF.size
  have hmp : MpD (D.put (.int .i64 (last + 1)) (ptD it)) (putB β (last + 1) it) (insE e L) := by
    rw [← he]; exact h.mp.put h.map.isMap e it (fun x hx => by rw [he]; exact hid x hx)
  have hmap : qM w5 m (last + 1) (D.put (.int .i64 (last + 1)) (ptD it)) := by
    have := map_keep (w' := w5) hm4 (hF.block m (by omega) hmM)
    unfold qM
    rw [show (last + 1).toNat = last.toNat + 1 by have := h.ok.nn; omega]
    exact this
  refine ⟨fun k => k = m ∨ wtM p (putB β (last + 1) it) (fun x => x ∈ insE e L) R' k, ⟨m, putB β (last + 1) it, R', n + 1, a', _, ⟨hW2, hH, hpm, hmap, hmp, h.ok.ins he hd hnm, fun k hk => hk, fun k hk => ?_, h.far.1, fun hR => ?_, fun x hx => ?_⟩⟩, fun k hk => ?_, ?_⟩
  · rcases hk with rfl | rfl | hk | ⟨x, hx, rfl⟩
    · omega
    · have := h.pA.2; omega
    · exact (hR' k hk).2
    · obtain ⟨pl, hpl⟩ := hW2.it x hx
      exact lt_of_block hpl
  · rcases (hR' _ hR).1 with h1 | h1
    · exact h.far.2.1 h1
    · omega
  · rcases mem_insE.1 hx with rfl | hx
    · rw [he, putB_same]; omega
    · rw [hidb x hx]; exact h.far.2.2 x hx
  · rcases hk with rfl | rfl | hk | ⟨x, hx, rfl⟩
    · exact .inl hmA
    · exact .inl h.pA.1
    · rcases (hR' k hk).1 with h1 | h1
      · exact .inl (h.Rlow h1).1
      · right; omega
    · rcases mem_insE.1 hx with rfl | hx
      · rw [he, putB_same]; exact .inr hit
      · rw [hidb x hx]; exact .inl (h.bA hx).1
  · refine ⟨hF.os.trans ho4.1, hF.tape.trans ho4.2.1, hF.output.trans ho4.2.2, by omega, fun k hk' hA => ?_⟩
    rw [hF.block k (by omega) (fun hM => ?_), hk k hk' (fun e => hA (e ▸ h.pA.1)) (fun e => hA (e ▸ hmA))]
    rcases hM with rfl | h1 | ⟨x, hx, rfl⟩
    · exact hA h.pA.1
    · rcases h1 with h1 | h1
      · exact hA (h.Rlow h1).1
      · omega
    · rcases List.mem_cons.1 hx with rfl | hx
      · rw [he, putB_same] at hk'; omega
      · rw [hidb x hx] at hA; exact hA (h.bA hx).1
end
end Go.Proofs.YthnobkiiaflelaaDoor
