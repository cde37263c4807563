/- The document's queue in its box beside a queue of the program's: what stays, what changes. -/
import Derived.Test.YthnobkiiaflelaaDoorOwnShelf07
import Derived.Test.YthnobkiiaflelaaDoorOwnShelf15
namespace Go.Proofs.YthnobkiiaflelaaDoor
open Go.RowKit Go.Maps Go.Sort

/-- Where a row of one's own lies, in full. -/
theorem EvOw.sl' {w0 w : World} {v : Value} {L : List Ev} (h : EvOw w0 w v L) : ∃ ad cap, v = .slice ad L.length cap ∧ L.length ≤ cap ∧ EvAt w ad L ∧ (∀ a, ad = some a → w0.heap.size ≤ a.block ∧ a.block < w.heap.size) ∧ (ad = none → L.length = 0 ∧ cap = 0) ∧ (∀ a, ad = some a → ∃ bb off, a = ⟨bb, off, none⟩) := by
  obtain ⟨ad, cap, hv, h1, h2, h3⟩ := h.sl
  refine ⟨ad, cap, hv, h1, h2, h3, ?_, ?_⟩
  · rintro rfl
    rcases h.own.2 with ⟨e, e2⟩ | ⟨g, c, cur, e, _⟩
    · rw [hv] at e
      injection e with _ h6 h7
      exact ⟨h6, h7⟩
    · rw [hv] at e; cases e
  · rintro a rfl
    rcases h.own.2 with ⟨e, e2⟩ | ⟨g, c, cur, e, _⟩
    · rw [hv] at e; cases e
    · rw [hv] at e; cases e; exact ⟨_, _, rfl⟩
/-- The document's queue: its value in block R, its events in a row; all apart from A. -/
structure DR (B : Nat) (A : Nat → Prop) (R : Nat) (w : World) (ad : Option Addr) (cap : Nat) (M : List Ev) (lm : Int) : Prop where
  box : w.heap[R]? = some (.cells #[.slice ad M.length cap, .int .i64 lm] 39 (0, 0))
  row : EvAt w ad M
  nR : ¬ A R
  R0 : B ≤ R
  far : ∀ a, ad = some a → ¬ A a.block ∧ B ≤ a.block ∧ a.block < w.heap.size ∧ a.block ≠ R
  capL : M.length ≤ cap
  nil : ad = none → M.length = 0 ∧ cap = 0
  spot : ∀ a, ad = some a → ∃ bb off, a = ⟨bb, off, none⟩
theorem DR.queue {QS : World → (Nat → Prop) → Nat → List Ev → Int → Prop} {B : Nat} {A A' : Nat → Prop} {R p : Nat} {w w' : World} {ad : Option Addr} {cap : Nat} {M L : List Ev} {lm l : Int} (h : DR B A R w ad cap M lm) (hr : Qr QS A p L l w w' A') : DR B A' R w' ad cap M lm := by
  refine ⟨(hr.fr.block R (lt_of_block h.box) h.nR).trans h.box, h.row.keep fun a e _ => hr.fr.block _ (h.far a e).2.2.1 (h.far a e).1, ?_, h.R0, fun a e => ⟨?_, (h.far a e).2.1, Nat.lt_of_lt_of_le (h.far a e).2.2.1 hr.fr.size, (h.far a e).2.2.2⟩, h.capL, h.nil, h.spot⟩
  · intro hA
    rcases hr.sub R hA with h1 | h1
    · exact h.nR h1
    · have := lt_of_block h.box; omega
  · intro hA
    rcases hr.sub _ hA with h1 | h1
    · exact (h.far a e).1 h1
    · have := (h.far a e).2.2.1; omega
theorem DR.below {B : Nat} {A : Nat → Prop} {R : Nat} {w w' : World} {ad : Option Addr} {cap : Nat} {M : List Ev} {lm : Int} (h : DR B A R w ad cap M lm) (hb : Below w.heap.size w w') : DR B A R w' ad cap M lm :=
  ⟨(hb.block R (lt_of_block h.box)).trans h.box, h.row.below hb, h.nR, h.R0, fun a e => ⟨(h.far a e).1, (h.far a e).2.1, Nat.lt_of_lt_of_le (h.far a e).2.2.1 hb.size, (h.far a e).2.2.2⟩, h.capL, h.nil, h.spot⟩
theorem DR.cells {B : Nat} {A : Nat → Prop} {R : Nat} {w : World} {ad : Option Addr} {cap : Nat} {M : List Ev} {lm : Int} (h : DR B A R w ad cap M lm) : w.cell? ⟨R, 0, none⟩ = some (.slice ad M.length cap) ∧ w.cell? ⟨R, 1, none⟩ = some (.int .i64 lm) :=
  ⟨by rw [cell_of_row _ _ 0 _ _ _ h.box]; rfl, by rw [cell_of_row _ _ 1 _ _ _ h.box]; rfl⟩
theorem DR.free {B : Nat} {A : Nat → Prop} {R : Nat} {w : World} {ad : Option Addr} {cap : Nat} {M : List Ev} {lm : Int} (h : DR B A R w ad cap M lm) : w.frozen? ⟨R, 0, none⟩ = false ∧ w.frozen? ⟨R, 1, none⟩ = false :=
  ⟨frozen_of_row w _ 0 _ _ h.box, frozen_of_row w _ 1 _ _ h.box⟩
/-- Another row is told: laid since w1, or the same. -/
def RowV (w1 W : World) (ad : Option Addr) (cap : Nat) (M M' : List Ev) (v : Value) : Prop := Below w1.heap.size w1 W ∧ ((v = .slice ad M.length cap ∧ M' = M) ∨ EvOw w1 W v M')
theorem RowV.keep {w1 W W' : World} {ad : Option Addr} {cap : Nat} {M M' : List Ev} {v : Value} (h : RowV w1 W ad cap M M' v) (hb : Below W.heap.size W W') : RowV w1 W' ad cap M M' v :=
  ⟨Below.transS h.1 hb, h.2.imp id fun h => h.keep hb⟩
theorem RowV.mono {w0 w1 W : World} {ad : Option Addr} {cap : Nat} {M M' : List Ev} {v : Value} (h : RowV w1 W ad cap M M' v) (hb : Below w0.heap.size w0 w1) : RowV w0 W ad cap M M' v :=
  ⟨Below.transS hb h.1, h.2.imp id fun h => h.mono hb⟩
theorem RowV.set {w0 w1 W : World} {ad : Option Addr} {cap : Nat} {M M' : List Ev} {v x y : Value} {T : Nat} (h : RowV w1 W ad cap M M' v) (hb : Below w0.heap.size w0 w1) (h0 : w0.heap.size ≤ T) (hT : T < w1.heap.size) : RowV w0 ((W.setCell ⟨T, 0, none⟩ x).setCell ⟨T, 1, none⟩ y) ad cap M M' v := by
  have hB : Below w0.heap.size w0 ((W.setCell ⟨T, 0, none⟩ x).setCell ⟨T, 1, none⟩ y) := (Below.transS hb h.1).trans (((Below.refl _ W).setCell h0 _).setCell h0 _)
  refine ⟨hB, h.2.imp id fun h => h.far hb (fun k hk => ?_) hB⟩
  rw [Below.heap_setCell _ _ _ _ (by simp; omega), Below.heap_setCell _ _ _ _ (by simp; omega)]
theorem box_set {w : World} {rb : Nat} {x y x' y' : Value} {t : TypeId} (h : w.heap[rb]? = some (.cells #[x, y] t (0, 0))) : ((w.setCell ⟨rb, 0, none⟩ x').setCell ⟨rb, 1, none⟩ y').heap[rb]? = some (.cells #[x', y'] t (0, 0)) := by
  have h1 : (w.setCell ⟨rb, 0, none⟩ x').heap[rb]? = some (.cells #[x', y] t (0, 0)) := by
    rw [heap_setCell_same w rb 0 _ _ _ h]; rfl
  rw [heap_setCell_same _ rb 1 _ _ _ h1]; rfl
/-- What Add answers, in one. -/
theorem AddR.uni {w w' : World} {ad : Option Addr} {cap : Nat} {L : List Ev} {last due : Int} {nm : List UInt8} {e : Ending} (h : AddR w ad cap L last due nm e w') :
    ∃ v, e = .returned (.tuple #[.agg #[v, .int .i64 (addN last due nm)], .int .i64 (addI last due nm), .int .i64 (addE due nm)]) ∧ RowV w w' ad cap L (addL last due nm L) v := by
  rcases h.out with ⟨h1, rfl⟩ | ⟨h1, v, rfl, h2⟩
  · exact ⟨_, by simp [addN, addI, h1, qV], h.below, .inl ⟨rfl, by simp [addL, h1]⟩⟩
  · exact ⟨v, by simp [addN, addI, h1, qV], h.below, .inr (by simpa [addL, h1] using h2)⟩
/-- The box takes what was told: its two cells, from another box T that was made since. -/
theorem DR.put {B : Nat} {A : Nat → Prop} {R : Nat} {w W : World} {ad : Option Addr} {cap : Nat} {M M' : List Ev} {lm lm' : Int} {v : Value} (h : DR B A R w ad cap M lm) (hv : RowV w W ad cap M M' v) (hB : B ≤ w.heap.size) (hA : ∀ k, A k → k < w.heap.size) :
    ∃ ad' cap', v = .slice ad' M'.length cap' ∧ DR B A R ((W.setCell ⟨R, 0, none⟩ v).setCell ⟨R, 1, none⟩ (.int .i64 lm')) ad' cap' M' lm' := by
  have hbx := (hv.1.block R (lt_of_block h.box)).trans h.box
  have hR := lt_of_block h.box
  have hset : ∀ (v' : Value), ((W.setCell ⟨R, 0, none⟩ v').setCell ⟨R, 1, none⟩ (.int .i64 lm')).heap[R]? = some (.cells #[v', .int .i64 lm'] 39 (0, 0)) := fun v' => by
    have h2 : (W.setCell ⟨R, 0, none⟩ v').heap[R]? = some (.cells #[v', .int .i64 lm] 39 (0, 0)) := by
      rw [heap_setCell_same _ _ 0 _ _ _ hbx]; rfl
    rw [heap_setCell_same _ _ 1 _ _ _ h2]; rfl
  have hsz : ∀ (v' : Value), ((W.setCell ⟨R, 0, none⟩ v').setCell ⟨R, 1, none⟩ (.int .i64 lm')).heap.size = W.heap.size := fun v' => by simp
  have hoth : ∀ (v' : Value) k, k ≠ R → ((W.setCell ⟨R, 0, none⟩ v').setCell ⟨R, 1, none⟩ (.int .i64 lm')).heap[k]? = W.heap[k]? := fun v' k hk => by
    rw [Below.heap_setCell _ _ _ _ (by simpa using hk), Below.heap_setCell _ _ _ _ (by simpa using hk)]
  rcases hv.2 with ⟨rfl, rfl⟩ | ho
  · have h1 := h.below hv.1
    exact ⟨ad, cap, rfl, hset _, h1.row.keep fun a e _ => hoth _ _ (h1.far a e).2.2.2, h.nR, h.R0, fun a e => ⟨(h1.far a e).1, (h1.far a e).2.1, by rw [hsz]; exact (h1.far a e).2.2.1, (h1.far a e).2.2.2⟩, h.capL, h.nil, h.spot⟩
  · obtain ⟨ad', cap', rfl, h1, h2, h3, h4, h5⟩ := ho.sl'
    exact ⟨ad', cap', rfl, hset _, h2.keep fun a e _ => hoth _ _ (by have := (h3 a e).1; omega), h.nR, h.R0, fun a e => ⟨fun hAk => by have := hA _ hAk; have := (h3 a e).1; omega, by have := (h3 a e).1; omega, by rw [hsz]; exact (h3 a e).2, by have := (h3 a e).1; omega⟩, h1, h4, h5⟩
/-- The box takes a part of the row that it had. -/
theorem DR.pop {B : Nat} {A : Nat → Prop} {R : Nat} {w W : World} {ad ad' : Option Addr} {cap cap' : Nat} {M M' : List Ev} {lm : Int} (h : DR B A R w ad cap M lm) (hb : Below w.heap.size w W) (hrow : EvAt W ad' M') (hcap : M'.length ≤ cap') (hnil : ad' = none → M'.length = 0 ∧ cap' = 0) (hspot : ∀ a, ad' = some a → ∃ bb off, a = ⟨bb, off, none⟩) (hblk : ∀ a, ad' = some a → ∃ c, ad = some c ∧ c.block = a.block) :
    DR B A R ((W.setCell ⟨R, 0, none⟩ (.slice ad' M'.length cap')).setCell ⟨R, 1, none⟩ (.int .i64 lm)) ad' cap' M' lm := by
  have h1 := h.below hb
  have hf : ∀ a, ad' = some a → ¬ A a.block ∧ B ≤ a.block ∧ a.block < W.heap.size ∧ a.block ≠ R := fun a e => by
    obtain ⟨c, hc, hcb⟩ := hblk a e
    rw [← hcb]; exact h1.far c hc
  refine ⟨box_set h1.box, hrow.keep fun a e _ => ?_, h.nR, h.R0, fun a e => ⟨(hf a e).1, (hf a e).2.1, by simpa using (hf a e).2.2.1, (hf a e).2.2.2⟩, hcap, hnil, hspot⟩
  have hk := (hf a e).2.2.2
  rw [Below.heap_setCell _ _ _ _ (by simpa using hk), Below.heap_setCell _ _ _ _ (by simpa using hk)]
/-- What Cancel answers, in one. -/
theorem CanR.uni {w w' : World} {ad : Option Addr} {cap : Nat} {L : List Ev} {last id : Int} {e : Ending} (h : CanR w ad cap L last id e w') :
    ∃ v, e = .returned (.tuple #[.agg #[v, .int .i64 last], .int .i64 (canE id L)]) ∧ RowV w w' ad cap L (cutE id L) v := by
  rcases h.out with ⟨h1, rfl⟩ | ⟨h1, v, rfl, h2⟩
  · exact ⟨_, by rw [canE_miss h1]; rfl, h.below, .inl ⟨rfl, h1⟩⟩
  · refine ⟨v, ?_, h.below, .inr h2⟩
    have : canE id L = 0 := by
      unfold canE
      rw [if_neg (fun e => h1 (cutE_all.1 e))]
    rw [this]; rfl
/-- A queue stays while others' blocks change. -/
theorem QAt.keep {QS : World → (Nat → Prop) → Nat → List Ev → Int → Prop} (hK : QK QS) {B : Nat} {w w' : World} {A : Nat → Prop} {p : Nat} {L : List Ev} {last : Int} (h : QAt QS B w A p L last) (hs : w.heap.size ≤ w'.heap.size) (hk : ∀ k, A k → w'.heap[k]? = w.heap[k]?) : QAt QS B w' A p L last := ⟨hK.keep h.q hs hk, h.up⟩
end Go.Proofs.YthnobkiiaflelaaDoor
