/- build: how a commitment's outputs and places are laid, one behind the other. -/
import Derived.Test.YtbafipjiaeoinaaGreatDoorOwnShelf15
import Derived.Test.YtbafipjiaeoinaaGreatDoorOwnShelf18
import Derived.Test.YtbafipjiaeoinaaGreatDoorOwnShelf20
import Derived.Test.YtbafipjiaeoinaaGreatDoorOwnShelf19
namespace Go.Proofs.YtbafipjiaeoinaaGreatDoor
open Go.RowKit

/-- The cells of outputs and of places. -/
def oL (os : List To) (A : Nat → Option Addr × Nat) : Nat → List Value := fun j => tol (os.getD j default) (A j).1 (A j).2
def pL (zs : List (Int × Int)) : Nat → List Value := fun j => [.int .i64 (zs.getD j (0, 0)).1, .int .i64 (zs.getD j (0, 0)).2]
theorem oL_push (os : List To) (A : Nat → Option Addr × Nat) (x : To) (ca : Option Addr) (cc : Nat) : flatL (oL (os ++ [x]) (fun j => if j = os.length then (ca, cc) else A j)) (os ++ [x]).length = flatL (oL os A) os.length ++ tol x ca cc := by
  rw [List.length_append, List.length_singleton, flatL, flatL_congr os.length (g := oL os A) (fun j hj => ?_)]
  · congr 1
    simp [oL]
  · simp only [oL, if_neg (show ¬ j = os.length by omega), List.getD_eq_getElem?_getD, List.getElem?_append_left hj]
theorem pL_push (zs : List (Int × Int)) (x : Int × Int) : flatL (pL (zs ++ [x])) (zs ++ [x]).length = flatL (pL zs) zs.length ++ [.int .i64 x.1, .int .i64 x.2] := by
  rw [List.length_append, List.length_singleton, flatL, flatL_congr zs.length (g := pL zs) (fun j hj => ?_)]
  · congr 1
    simp [pL]
  · simp only [pL, List.getD_eq_getElem?_getD, List.getElem?_append_left hj]
/-- What has been laid: the outputs in a row of their own, each one's condition in blocks that nobody else uses; the places in another. -/
structure LayR (w : World) (B bo bp bc : Nat) (c : Cm) (ka : Option Addr) (kc : Nat) (os : List To) (zs : List (Int × Int)) (va : Option Addr) (vc : Nat) (ua : Option Addr) (uc : Nat) (A : Nat → Option Addr × Nat) (I : Nat → Nat × Nat) : Prop where
  fo : w.heap[bo]? = some (.cells #[.slice va os.length vc] 48 (0, 0))
  fp : w.heap[bp]? = some (.cells #[.slice ua zs.length uc] 61 (0, 0))
  fc : w.heap[bc]? = some (.cells (cmv c ka kc) 104 (0, 0))
  lt : bo < B ∧ bp < B ∧ bc < B ∧ bo ≠ bp ∧ bo ≠ bc ∧ bp ≠ bc ∧ B ≤ w.heap.size
  outs : w.ownsRow B 95 2 (.slice va os.length vc) os.length (flatL (oL os A) os.length)
  pls : w.ownsRow B 71 2 (.slice ua zs.length uc) zs.length (flatL (pL zs) zs.length)
  cond : ∀ j, j < os.length → ∀ w' : World, (∀ k, (I j).1 ≤ k → k < (I j).2 → w'.heap[k]? = w.heap[k]?) → Cd.BrAt w' (A j).1 (os.getD j default).cn (os.getD j default).X
  int : ∀ j, j < os.length → B ≤ (I j).1 ∧ (I j).2 ≤ w.heap.size ∧ (A j).1 ≠ none
  apO : ∀ j, j < os.length → ∀ g, (Value.slice va os.length vc).ownBlock = some g → g < (I j).1 ∨ (I j).2 ≤ g
  apP : ∀ j, j < os.length → ∀ g, (Value.slice ua zs.length uc).ownBlock = some g → g < (I j).1 ∨ (I j).2 ≤ g
def LayS (w : World) (B bo bp bc : Nat) (c : Cm) (ka : Option Addr) (kc : Nat) (os : List To) (zs : List (Int × Int)) : Prop := ∃ va vc ua uc A I, LayR w B bo bp bc c ka kc os zs va vc ua uc A I
theorem LayR.below {w w1 : World} {B bo bp bc : Nat} {c : Cm} {ka : Option Addr} {kc : Nat} {os : List To} {zs : List (Int × Int)} {va : Option Addr} {vc : Nat} {ua : Option Addr} {uc : Nat} {A : Nat → Option Addr × Nat} {I : Nat → Nat × Nat} (h : LayR w B bo bp bc c ka kc os zs va vc ua uc A I) (hb : Below w.heap.size w w1) : LayR w1 B bo bp bc c ka kc os zs va vc ua uc A I := by
  have hs := hb.size
  refine ⟨heap_below hb h.fo, heap_below hb h.fp, heap_below hb h.fc, ⟨h.lt.1, h.lt.2.1, h.lt.2.2.1, h.lt.2.2.2.1, h.lt.2.2.2.2.1, h.lt.2.2.2.2.2.1, by have := h.lt.2.2.2.2.2.2; omega⟩, own_below h.outs hb, own_below h.pls hb, fun j hj w' hw => h.cond j hj w' (fun k h1 h2 => ?_), fun j hj => ⟨(h.int j hj).1, by have := (h.int j hj).2.1; omega, (h.int j hj).2.2⟩, h.apO, h.apP⟩
  rw [hw k h1 h2]
  exact hb.block k (by have := (h.int j hj).2.1; omega)
/-- One more output. -/
theorem LayR.pushO {w w1 : World} {B bo bp bc : Nat} {c : Cm} {ka : Option Addr} {kc : Nat} {os : List To} {zs : List (Int × Int)} {va : Option Addr} {vc : Nat} {ua : Option Addr} {uc : Nat} {A : Nat → Option Addr × Nat} {I : Nat → Nat × Nat} (h : LayR w B bo bp bc c ka kc os zs va vc ua uc A I) {x : To} {ca va' : Option Addr} {cc vc' lo hi : Nat}
    (hown : w1.ownsRow B 95 2 (.slice va' (os.length + 1) vc') (os.length + 1) (flatL (oL os A) os.length ++ tol x ca cc)) (hg : w.grownBy w1 (Value.slice va os.length vc).ownBlock) (hloc : (Value.slice va' (os.length + 1) vc').ownBlock = (Value.slice va os.length vc).ownBlock ∨ (Value.slice va' (os.length + 1) vc').ownBlock = some w.heap.size)
    (hc : ∀ w' : World, (∀ k, lo ≤ k → k < hi → w'.heap[k]? = w.heap[k]?) → Cd.BrAt w' ca x.cn x.X) (hlo : B ≤ lo) (hhi : hi ≤ w.heap.size) (hva : ∀ g, (Value.slice va os.length vc).ownBlock = some g → g < lo) (hua : ∀ g, (Value.slice ua zs.length uc).ownBlock = some g → g < lo) (hca : ca ≠ none) :
    LayR (w1.setCell ⟨bo, 0, none⟩ (.slice va' (os.length + 1) vc')) B bo bp bc c ka kc (os ++ [x]) zs va' vc' ua uc (fun j => if j = os.length then (ca, cc) else A j) (fun j => if j = os.length then (lo, hi) else I j) := by
  obtain ⟨l1, l2, l3, l4, l5, l6, l7⟩ := h.lt
  have hlt := h.outs.lt
  have kept : ∀ k, k < w.heap.size → k ≠ bo → (∀ g, (Value.slice va os.length vc).ownBlock = some g → k ≠ g) → (w1.setCell ⟨bo, 0, none⟩ (.slice va' (os.length + 1) vc')).heap[k]? = w.heap[k]? := fun k hk hb ho => by
    rw [Below.heap_setCell _ _ _ _ (show k ≠ (⟨bo, 0, none⟩ : Addr).block from hb)]
    exact hg.block k hk (fun e => ho k e.symm rfl)
  have keptB : ∀ k, k < B → k ≠ bo → (w1.setCell ⟨bo, 0, none⟩ (.slice va' (os.length + 1) vc')).heap[k]? = w.heap[k]? := fun k hk hb => kept k (by omega) hb (fun g e => by have := (hlt g e).1; omega)
  have hsz : (w1.setCell ⟨bo, 0, none⟩ (.slice va' (os.length + 1) vc')).heap.size = w1.heap.size := by simp [World.setCell]
  have hnew : ∀ g, (Value.slice va' (os.length + 1) vc').ownBlock = some g → (Value.slice va os.length vc).ownBlock = some g ∨ g = w.heap.size := fun g e => by
    rcases hloc with h1 | h1
    · exact .inl (h1 ▸ e)
    · rw [h1] at e; exact .inr (by simpa using e.symm)
  have hbo1 : w1.heap[bo]? = some (.cells #[.slice va os.length vc] 48 (0, 0)) := by rw [hg.block bo (by omega) (fun e => by have := (hlt bo e.symm).1; omega)]; exact h.fo
  have hll : (os ++ [x]).length = os.length + 1 := by simp
  refine ⟨?_, by rw [keptB bp l2 (by omega)]; exact h.fp, by rw [keptB bc l3 (by omega)]; exact h.fc, ⟨l1, l2, l3, l4, l5, l6, by rw [hsz]; have := hg.size; omega⟩, ?_, ?_, fun j hj w' hw => ?_, fun j hj => ?_, fun j hj g e => ?_, fun j hj g e => ?_⟩
  · rw [hll]; exact heap_setCell_same w1 bo 0 _ _ _ hbo1
  · rw [oL_push, hll]
    exact own_keep hown (fun g e => Below.heap_setCell _ _ _ _ (by have := (hown.lt g e).1; show g ≠ bo; omega))
  · refine own_keep h.pls (fun g e => kept g (h.pls.lt g e).2 (by have := (h.pls.lt g e).1; omega) (fun g' e' he => ?_))
    subst he
    exact own_apart h.outs h.pls (by decide) g e' e
  · rw [hll] at hj
    by_cases ej : j = os.length
    · subst ej
      simp only [if_true] at hw ⊢
      have : (os ++ [x]).getD os.length default = x := by simp
      rw [this]
      exact hc w' (fun k h1 h2 => by rw [hw k h1 h2]; exact kept k (by omega) (by omega) (fun g e => by have := hva g e; omega))
    · have hj' : j < os.length := by omega
      simp only [if_neg ej] at hw ⊢
      have : (os ++ [x]).getD j default = os.getD j default := by simp only [List.getD_eq_getElem?_getD, List.getElem?_append_left hj']
      rw [this]
      have hI := h.int j hj'
      exact h.cond j hj' w' (fun k h1 h2 => by rw [hw k h1 h2]; exact kept k (by omega) (by omega) (fun g e => by have := h.apO j hj' g e; omega))
  · rw [hll] at hj
    have := hg.size
    by_cases ej : j = os.length
    · simp only [if_pos ej]; exact ⟨hlo, by rw [hsz]; omega, hca⟩
    · simp only [if_neg ej]
      have hI := h.int j (by omega)
      exact ⟨hI.1, by rw [hsz]; omega, hI.2.2⟩
  · rw [hll] at hj e
    by_cases ej : j = os.length
    · simp only [if_pos ej]
      rcases hnew g e with h1 | h1
      · have := hva g h1; omega
      · omega
    · simp only [if_neg ej]
      have hI := h.int j (by omega)
      rcases hnew g e with h1 | h1
      · exact h.apO j (by omega) g h1
      · omega
  · rw [hll] at hj
    by_cases ej : j = os.length
    · simp only [if_pos ej]; have := hua g e; omega
    · simp only [if_neg ej]; exact h.apP j (by omega) g e
/-- One more place. -/
theorem LayR.pushP {w w1 : World} {B bo bp bc : Nat} {c : Cm} {ka : Option Addr} {kc : Nat} {os : List To} {zs : List (Int × Int)} {va : Option Addr} {vc : Nat} {ua : Option Addr} {uc : Nat} {A : Nat → Option Addr × Nat} {I : Nat → Nat × Nat} (h : LayR w B bo bp bc c ka kc os zs va vc ua uc A I) {x : Int × Int} {ua' : Option Addr} {uc' : Nat}
    (hown : w1.ownsRow B 71 2 (.slice ua' (zs.length + 1) uc') (zs.length + 1) (flatL (pL zs) zs.length ++ [.int .i64 x.1, .int .i64 x.2])) (hg : w.grownBy w1 (Value.slice ua zs.length uc).ownBlock) (hloc : (Value.slice ua' (zs.length + 1) uc').ownBlock = (Value.slice ua zs.length uc).ownBlock ∨ (Value.slice ua' (zs.length + 1) uc').ownBlock = some w.heap.size) :
    LayR (w1.setCell ⟨bp, 0, none⟩ (.slice ua' (zs.length + 1) uc')) B bo bp bc c ka kc os (zs ++ [x]) va vc ua' uc' A I := by
  obtain ⟨l1, l2, l3, l4, l5, l6, l7⟩ := h.lt
  have hlt := h.pls.lt
  have kept : ∀ k, k < w.heap.size → k ≠ bp → (∀ g, (Value.slice ua zs.length uc).ownBlock = some g → k ≠ g) → (w1.setCell ⟨bp, 0, none⟩ (.slice ua' (zs.length + 1) uc')).heap[k]? = w.heap[k]? := fun k hk hb ho => by
    rw [Below.heap_setCell _ _ _ _ (show k ≠ (⟨bp, 0, none⟩ : Addr).block from hb)]
    exact hg.block k hk (fun e => ho k e.symm rfl)
  have keptB : ∀ k, k < B → k ≠ bp → (w1.setCell ⟨bp, 0, none⟩ (.slice ua' (zs.length + 1) uc')).heap[k]? = w.heap[k]? := fun k hk hb => kept k (by omega) hb (fun g e => by have := (hlt g e).1; omega)
  have hsz : (w1.setCell ⟨bp, 0, none⟩ (.slice ua' (zs.length + 1) uc')).heap.size = w1.heap.size := by simp [World.setCell]
  have hbp1 : w1.heap[bp]? = some (.cells #[.slice ua zs.length uc] 61 (0, 0)) := by rw [hg.block bp (by omega) (fun e => by have := (hlt bp e.symm).1; omega)]; exact h.fp
  have hll : (zs ++ [x]).length = zs.length + 1 := by simp
  refine ⟨by rw [keptB bo l1 l4]; exact h.fo, ?_, by rw [keptB bc l3 (by omega)]; exact h.fc, ⟨l1, l2, l3, l4, l5, l6, by rw [hsz]; have := hg.size; omega⟩, ?_, ?_, fun j hj w' hw => ?_, fun j hj => ?_, h.apO, fun j hj g e => ?_⟩
  · rw [hll]; exact heap_setCell_same w1 bp 0 _ _ _ hbp1
  · refine own_keep h.outs (fun g e => kept g (h.outs.lt g e).2 (by have := (h.outs.lt g e).1; omega) (fun g' e' he => ?_))
    subst he
    exact own_apart h.outs h.pls (by decide) g e e'
  · rw [pL_push, hll]
    exact own_keep hown (fun g e => Below.heap_setCell _ _ _ _ (by have := (hown.lt g e).1; show g ≠ bp; omega))
  · have hI := h.int j hj
    exact h.cond j hj w' (fun k h1 h2 => by rw [hw k h1 h2]; exact kept k (by omega) (by omega) (fun g e => by have := h.apP j hj g e; omega))
  · have hI := h.int j hj
    exact ⟨hI.1, by rw [hsz]; have := hg.size; omega, hI.2.2⟩
  · rw [hll] at e
    have hI := h.int j hj
    rcases hloc with h1 | h1
    · exact h.apP j hj g (h1 ▸ e)
    · rw [h1] at e
      have : g = w.heap.size := by simpa using e.symm
      omega
/-- All blocks below B but those of S are as they were. -/
structure FrB (B : Nat) (S : List Nat) (w w' : World) : Prop where
  os : w'.os = w.os
  tape : w'.tape = w.tape
  output : w'.output = w.output
  size : w.heap.size ≤ w'.heap.size
  block : ∀ k, k < B → k ∉ S → w'.heap[k]? = w.heap[k]?
theorem FrB.refl (B : Nat) (S : List Nat) (w : World) : FrB B S w w := ⟨rfl, rfl, rfl, Nat.le_refl _, fun _ _ _ => rfl⟩
theorem FrB.trans {B : Nat} {S : List Nat} {a b c : World} (h : FrB B S a b) (k : FrB B S b c) : FrB B S a c := ⟨k.os.trans h.os, k.tape.trans h.tape, k.output.trans h.output, Nat.le_trans h.size k.size, fun i h1 h2 => (k.block i h1 h2).trans (h.block i h1 h2)⟩
theorem FrB.ofBelow {B : Nat} {S : List Nat} {a b : World} (h : Below a.heap.size a b) (hB : B ≤ a.heap.size) : FrB B S a b := ⟨h.os, h.tape, h.output, h.size, fun k hk _ => h.block k (by omega)⟩
theorem FrB.ofFrm {B : Nat} {S T : List Nat} {a b : World} (h : Frm T a b) (hB : B ≤ a.heap.size) (hS : ∀ k, k ∈ T → k ∈ S) : FrB B S a b := ⟨h.os, h.tape, h.output, h.size, fun k hk hn => h.block k (by omega) (fun e => hn (hS k e))⟩
theorem FrB.mono {B : Nat} {S T : List Nat} {a b : World} (h : FrB B S a b) (hS : ∀ k, k ∈ S → k ∈ T) : FrB B T a b := ⟨h.os, h.tape, h.output, h.size, fun k hk hn => h.block k hk (fun e => hn (hS k e))⟩
theorem FrB.below {B C : Nat} {S : List Nat} {a b : World} (h : FrB B S a b) (hC : C ≤ B) (hS : ∀ k, k ∈ S → C ≤ k) : Below C a b := ⟨h.os, h.tape, h.output, h.size, fun k hk => h.block k (by omega) (fun e => by have := hS k e; omega)⟩
theorem FrB.grown {B : Nat} {S : List Nat} {a b : World} {row : Option Nat} (h : a.grownBy b row) (hB : B ≤ a.heap.size) (hr : ∀ g, row = some g → B ≤ g) : FrB B S a b := ⟨h.os, h.tape, h.output, h.size, fun k hk _ => h.block k (by omega) (fun e => by have := hr k e.symm; omega)⟩
theorem FrB.setCell {B : Nat} {S : List Nat} {a b : World} (h : FrB B S a b) (p : Addr) (u : Value) (hp : p.block ∈ S) : FrB B S a (b.setCell p u) := h.trans ⟨rfl, rfl, rfl, by simp [World.setCell], fun k _ hn => Below.heap_setCell _ _ _ _ (fun e => hn (by rw [e]; exact hp))⟩
end Go.Proofs.YtbafipjiaeoinaaGreatDoor
