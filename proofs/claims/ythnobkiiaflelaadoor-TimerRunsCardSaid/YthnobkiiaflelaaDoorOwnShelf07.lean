/- The numbers of a queue's events, as a set. -/
import Derived.Test.YthnobkiiaflelaaDoorOwnShelf06
import Derived.Test.YthnobkiiaflelaaDoorOwnShelf02
namespace Go.Proofs.YthnobkiiaflelaaDoor
open Go.RowKit Go.Maps Go.Sort

def idS (L : List Ev) : List Int := L.map Ev.id
theorem idS_ins (e : Ev) (L : List Ev) : (idS (insE e L)).Perm (e.id :: idS L) := (insE_perm e L).map _
theorem idS_cut (id : Int) (L : List Ev) : idS (cutE id L) = (idS L).filter fun j => decide (j ≠ id) := by
  unfold idS cutE
  rw [List.filter_map]
  rfl
theorem idS_length (L : List Ev) : (idS L).length = L.length := List.length_map _
/-- No number twice, and just those of P. -/
structure IdI (L : List Ev) (P : Int → Prop) : Prop where
  nd : (idS L).Nodup
  mem : ∀ j, j ∈ idS L ↔ P j
theorem IdI.nil : IdI [] (fun _ => False) := ⟨List.nodup_nil, fun j => by simp [idS]⟩
theorem IdI.of {L : List Ev} {P P' : Int → Prop} (h : IdI L P) (hp : ∀ j, P j ↔ P' j) : IdI L P' := ⟨h.nd, fun j => (h.mem j).trans (hp j)⟩
theorem IdI.ins {L : List Ev} {P : Int → Prop} (h : IdI L P) (e : Ev) (hn : ¬ P e.id) : IdI (insE e L) (fun j => j = e.id ∨ P j) := by
  refine ⟨(idS_ins e L).nodup_iff.2 (List.nodup_cons.2 ⟨fun hm => hn ((h.mem _).1 hm), h.nd⟩), fun j => ?_⟩
  rw [(idS_ins e L).mem_iff, List.mem_cons, h.mem]
theorem IdI.cut {L : List Ev} {P : Int → Prop} (h : IdI L P) (id : Int) : IdI (cutE id L) (fun j => P j ∧ j ≠ id) := by
  refine ⟨by rw [idS_cut]; exact h.nd.sublist List.filter_sublist, fun j => ?_⟩
  rw [idS_cut, List.mem_filter, h.mem]
  simp
theorem cut_one : ∀ (l : List Int) (id : Int), l.Nodup → id ∈ l → (l.filter fun j => decide (j ≠ id)).length + 1 = l.length
  | [], _, _, h => by cases h
  | x :: r, id, hn, hm => by
    rw [List.nodup_cons] at hn
    by_cases hx : x = id
    · subst hx
      have h1 : (r.filter fun j => decide (j ≠ x)) = r := List.filter_eq_self.2 fun j hj => decide_eq_true (fun e => hn.1 (e ▸ hj))
      rw [List.filter_cons_of_neg (by simp), h1]; rfl
    · have hm' : id ∈ r := by
        rcases List.mem_cons.1 hm with e | e
        · exact absurd e.symm hx
        · exact e
      rw [List.filter_cons_of_pos (by simpa using hx), List.length_cons, cut_one r id hn.2 hm', List.length_cons]
theorem IdI.cut_len {L : List Ev} {P : Int → Prop} (h : IdI L P) {id : Int} (hP : P id) : (cutE id L).length + 1 = L.length := by
  have h1 := cut_one (idS L) id h.nd ((h.mem id).2 hP)
  rw [← idS_cut, idS_length, idS_length] at h1
  exact h1
theorem IdI.cut_none {L : List Ev} {P : Int → Prop} (h : IdI L P) {id : Int} (hP : ¬ P id) : cutE id L = L := by
  refine List.filter_eq_self.2 fun x hx => decide_eq_true (fun e => hP ?_)
  exact (h.mem id).1 (List.mem_map.2 ⟨x, hx, e⟩)
theorem canE_hit {L : List Ev} {id : Int} (h : (cutE id L).length + 1 = L.length) : canE id L = 0 := by
  unfold canE
  rw [if_neg (by omega)]
theorem canE_miss {L : List Ev} {id : Int} (h : cutE id L = L) : canE id L = 8 := by
  unfold canE
  rw [if_pos (by rw [h])]
theorem dueE_all {now : Int} {L : List Ev} (h : ∀ x ∈ L, x.due ≤ now) : dueE now L = L ∧ restE now L = [] := by
  have := dueE_at (now := now) (L := L) (i := L.length) (Nat.le_refl _) (fun y hy => h y (List.mem_of_mem_take hy)) (fun y hy => by rw [List.getElem?_eq_none (Nat.le_refl _)] at hy; cases hy)
  rw [List.take_length, List.drop_length] at this
  exact this
theorem rem_ix (br : Int) (n : Nat) (h1 : 1 ≤ n) (h2 : n ≤ 1000000) : ∃ i : Nat, i < n ∧ wrap64 ((IntKind.u64.wrap br).tmod n) = (i : Int) := by
  have h0 : 0 ≤ IntKind.u64.wrap br := by rw [IntKind.wrap_u64]; omega
  have e : (IntKind.u64.wrap br).tmod n = IntKind.u64.wrap br % n := Int.tmod_eq_emod_of_nonneg h0
  have h3 := Int.emod_nonneg (IntKind.u64.wrap br) (b := (n : Int)) (by omega)
  have h4 := Int.emod_lt_of_pos (IntKind.u64.wrap br) (b := (n : Int)) (by omega)
  refine ⟨(IntKind.u64.wrap br % n).toNat, by omega, ?_⟩
  rw [e]
  unfold wrap64
  omega
/-- Numbers that lie somewhere. -/
def IsL (w : World) (ad : Option Addr) (ks : List Int) : Prop := 0 < ks.length → ∃ b off, ad = some ⟨b, off, none⟩ ∧ ∀ j x, ks[j]? = some x → w.cell? ⟨b, off + j, none⟩ = some (.int .i64 x)
theorem IsL.below {w w' : World} {ad : Option Addr} {ks : List Int} (h : IsL w ad ks) (hb : Below w.heap.size w w') : IsL w' ad ks := fun hn => by
  obtain ⟨b, off, rfl, hc⟩ := h hn
  have hlt : b < w.heap.size := World.block_lt_of_cell? w _ (hc 0 _ (List.getElem?_eq_getElem hn))
  exact ⟨b, off, rfl, fun j x hx => by rw [World.cell?_of_block (a := ⟨b, off + j, none⟩) (hb.block b hlt)]; exact hc j x hx⟩
/-- Bools that lie somewhere. -/
def BlL (w : World) (ad : Option Addr) (gs : List Bool) : Prop := 0 < gs.length → ∃ b off, ad = some ⟨b, off, none⟩ ∧ ∀ j x, gs[j]? = some x → w.cell? ⟨b, off + j, none⟩ = some (.bool x)
theorem BlL.below {w w' : World} {ad : Option Addr} {gs : List Bool} (h : BlL w ad gs) (hb : Below w.heap.size w w') : BlL w' ad gs := fun hn => by
  obtain ⟨b, off, rfl, hc⟩ := h hn
  have hlt : b < w.heap.size := World.block_lt_of_cell? w _ (hc 0 _ (List.getElem?_eq_getElem hn))
  exact ⟨b, off, rfl, fun j x hx => by rw [World.cell?_of_block (a := ⟨b, off + j, none⟩) (hb.block b hlt)]; exact hc j x hx⟩
theorem addE_ok {due : Int} {nm : List UInt8} (h1 : 0 ≤ due) (h2 : due ≤ 1099511627776) (h3 : nm.length ≤ 64) : addE due nm = 0 := by
  unfold addE
  rw [if_neg (by omega), if_neg (by omega)]
end Go.Proofs.YthnobkiiaflelaaDoor
