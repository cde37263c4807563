/- A region that draws its order and whose last operation (c, which waits for all others) writes a cell that the others load: S need not hold behind it. -/
import Derived.OrdersHeld
import Derived.Deep.RegionHeld3
import Derived.Test.YtjnepkggdkccaaaGreatDoorOwnShelf12
import Derived.Test.YtjnepkggdkccaaaGreatDoorOwnShelf15
import Derived.Test.YtjnepkggdkccaaaGreatDoorOwnShelf16
namespace Go.Proofs.YtjnepkggdkccaaaGreatDoor
open Go

section
variable {P : Program} {ops : Array Oper} {md : Region.Mode} {Q : Exit → Act → World → Prop} {S : World → Prop} {c : Nat}

/-- Whatever order is picked from here on; S holds behind every operation but c. -/
def wpAnyK (P : Program) (md : Region.Mode) (ops : Array Oper) (Q : Exit → Act → World → Prop) (S : World → Prop) (c : Nat) : Nat → Array Bool → Act → World → Prop
 | 0, l, a, w => Region.ready md ops l = [] ∧ Q .normal a w
 | n + 1, l, a, w => (Region.ready md ops l = [] → Q .normal a w) ∧
  ∀ i ∈ Region.ready md ops l, wpOp P ops Q i (fun a' w' => (i ≠ c → S w') ∧ wpAnyK P md ops Q S c n (l.setIfInBounds i true) a' w') a w

theorem wpAny_of_K : ∀ (n : Nat) (l : Array Bool) (a : Act) (w : World), wpAnyK P md ops Q S c n l a w → wpAny P md ops Q n l a w
 | 0, _, _, _, h => h
 | n + 1, _, _, _, h => ⟨h.1, fun i hi => wpOp_mono (fun a' w' h' => wpAny_of_K n _ a' w' h'.2) (h.2 i hi)⟩

/-- c waits for i. -/
def waitsK (md : Region.Mode) (ops : Array Oper) (c i : Nat) : Bool := match ops[c]? with
 | some oc => oc.after.any fun e => Region.binds md e && e.on == i
 | none => false

theorem wpAnyK_first {i : Nat} {oi : Oper} {v : Value} (hce : waitsK md ops c i = true) (hi : ops[i]? = some oi) (hsel : ∀ (j : Nat) (o : Oper) cs b, ops[j]? = some o → o.op ≠ .select cs b)
  (hQ : ∀ ch a w, Q (.panic ch) (a.put oi.dst v) w → Q (.panic ch) a w) :
  ∀ (n : Nat) (l : Array Bool) (a : Act) (w : World),
   (∀ j oj, ops[j]? = some oj → j ≠ i → l.getD j true = false → (∀ e ∈ oj.after, Region.binds md e = true → e.on ≠ i) → oi.apart ops oj = true) →
   i ∈ Region.ready md ops l → YieldsIf P ops S oi v a → S w →
   wpAnyK P md ops Q S c n (l.setIfInBounds i true) (a.put oi.dst v) w → wpAnyK P md ops Q S c (n + 1) l a w := by
 intro n
 induction n with
 | zero =>
  intro l a w _ hr hy hS H
  refine ⟨fun h => (by rw [h] at hr; cases hr), fun j hj => ?_⟩
  by_cases hji : j = i
  ·subst hji; exact hy.wpOp hi hS ⟨fun _ => hS, H⟩
  ·have := ready_mono hj hji
   rw [H.1] at this
   cases this
 | succ n ih =>
  intro l a w hfree hr hy hS H
  refine ⟨fun h => (by rw [h] at hr; cases hr), fun j hj => ?_⟩
  by_cases hji : j = i
  ·subst hji; exact hy.wpOp hi hS ⟨fun _ => hS, H⟩
  ·have h1 := H.2 j (ready_mono hj hji)
   obtain ⟨hjun, oj, hoj, hall⟩ := mem_ready.1 hj
   have hnot : ∀ e ∈ oj.after, Region.binds md e = true → e.on ≠ i := fun e he hb heq => by
    have h1 := hall e he hb
    have h0 := (mem_ready.1 hr).1
    rw [heq] at h1
    rcases Nat.lt_or_ge i l.size with h' | h'
    ·simp [h'] at h0 h1; rw [h0] at h1; cases h1
    ·simp [Array.getElem?_eq_none h'] at h1
   have hjc : j ≠ c := fun e => by
    subst e
    unfold waitsK at hce
    rw [hoj] at hce
    obtain ⟨e, he, hh⟩ := Array.any_eq_true'.1 hce
    simp only [Bool.and_eq_true, beq_iff_eq] at hh
    exact hnot e he hh.1 hh.2
   have h2 := wpOp_putIf hoj (hfree j oj hoj hji hjun hnot) (fun cs b => hsel i oi cs b hi) (fun cs b => hsel j oj cs b hoj) hQ hy h1
   have hfree' : ∀ k ok, ops[k]? = some ok → k ≠ i → (l.setIfInBounds j true).getD k true = false →
     (∀ e ∈ ok.after, Region.binds md e = true → e.on ≠ i) → oi.apart ops ok = true := fun k ok hk hki hun hno => by
    refine hfree k ok hk hki ?_ hno
    by_cases hjk : j = k
    ·subst hjk; exact hjun
    ·rw [getD_set_ne true hjk] at hun; exact hun
   refine wpOp_mono (fun a' w' h3 => ⟨h3.2.1, ih (l.setIfInBounds j true) a' w' hfree' (ready_mono hr (Ne.symm hji)) h3.1 (h3.2.1 hjc) ?_⟩) h2
   rw [Array.setIfInBounds_comm _ _ hji]
   exact h3.2.2

theorem wpAnyK_take {i : Nat} {oi : Oper} {v : Value} {n : Nat} {l : Array Bool} {a : Act} {w : World} (hce : waitsK md ops c i = true) (hi : ops[i]? = some oi)
  (hs : Region.noSelect ops = true) (hf : Region.free md ops l i = true) (hr : (Region.ready md ops l).contains i = true)
  (hQ : ∀ ch a w, Q (.panic ch) (a.put oi.dst v) w → Q (.panic ch) a w) (hy : YieldsIf P ops S oi v a) (hS : S w)
  (h : wpAnyK P md ops Q S c n (l.setIfInBounds i true) (a.put oi.dst v) w) : wpAnyK P md ops Q S c (n + 1) l a w :=
 wpAnyK_first hce hi (Region.noSelect_spec hs) hQ n l a w (Region.free_spec hi hf) (by simpa using hr) hy hS h

def AllReadyK (P : Program) (md : Region.Mode) (ops : Array Oper) (Q : Exit → Act → World → Prop) (S : World → Prop) (c n : Nat) (l : Array Bool) (a : Act) (w : World) (rs : List Nat) : Prop :=
 ∀ i ∈ rs, wpOp P ops Q i (fun a' w' => (i ≠ c → S w') ∧ wpAnyK P md ops Q S c n (l.setIfInBounds i true) a' w') a w
theorem AllReadyK.nil {n : Nat} {l : Array Bool} {a : Act} {w : World} : AllReadyK P md ops Q S c n l a w [] := fun _ h => by cases h
theorem AllReadyK.cons {n : Nat} {l : Array Bool} {a : Act} {w : World} {i : Nat} {o : Oper} {rs : List Nat} (ho : ops[i]? = some o)
  (h : ∀ K' : Act → World → Prop, Shut (∀ a w, (i ≠ c → S w) → ((i ≠ c → S w) → wpAnyK P md ops Q S c n (l.setIfInBounds i true) a w) → K' a w) → if Region.wanted o (yielded ops a.tmps) = true then Oper.wp P o a w K' Q else K' (a.put o.dst undef) w)
  (hs : AllReadyK P md ops Q S c n l a w rs) : AllReadyK P md ops Q S c n l a w (i :: rs) := fun j hj => by
 rcases List.mem_cons.1 hj with rfl | hj
 ·exact wpOp_step ho (fun K' hK => h K' (fun a w hS hW => hK a w ⟨hS, hW hS⟩))
 ·exact hs j hj
theorem wpAnyK_ready {rs : List Nat} {n : Nat} {l : Array Bool} {a : Act} {w : World} (hr : Region.ready md ops l = rs) (hne : rs ≠ [])
  (h : AllReadyK P md ops Q S c n l a w rs) : wpAnyK P md ops Q S c (n + 1) l a w := ⟨fun h0 => absurd (hr ▸ h0) hne, hr ▸ h⟩
theorem wpAnyK_done {l : Array Bool} {a : Act} {w : World} (hr : Region.ready md ops l = []) (h : Q .normal a w) : ∀ n, wpAnyK P md ops Q S c n l a w
 | 0 => ⟨hr, h⟩
 | _ + 1 => ⟨fun _ => h, by rw [hr]; simp⟩
theorem wp_region_K {id : Nat} {a : Act} {w : World} (c : Nat) (hm : P.follows .mixedOrders = true) (hS : S w.drew)
  (h : S w.drew → wpAnyK P .any ops Q S c ops.size (Array.replicate ops.size false) a w.drew) : (Code.region id ops true).wp P Q a w :=
 wp_region_any hm (wpAny_of_K _ _ _ _ (h hS))
end
end Go.Proofs.YtjnepkggdkccaaaGreatDoor
/- build: how a commitment's outputs and places are laid, one behind the other. -/
namespace Go.Proofs.YtjnepkggdkccaaaGreatDoor
open Go.RowKit

/-- The cells of outputs and of places. -/
def oL (os : List To) (A : Nat → Option Addr × Nat) : Nat → List Value := fun j => tol (os.getD j default) (A j).1 (A j).2
def pL (zs : List (Int × Int)) : Nat → List Value := fun j => [.int .i64 (zs.getD j (0, 0)).1, .int .i64 (zs.getD j (0, 0)).2]
theorem oL_push (os : List To) (A : Nat → Option Addr × Nat) (x : To) (ca : Option Addr) (cc : Nat) : flatL (oL (os ++ [x]) (fun j => if j = os.length then (ca, cc) else A j)) (os ++ [x]).length = flatL (oL os A) os.length ++ tol x ca cc := by
 rw [List.length_append, List.length_singleton, flatL, flatL_congr os.length (g := oL os A) (fun j hj => ?_)]
 ·congr 1
  simp [oL]
 ·simp only [oL, if_neg (show ¬ j = os.length by omega), List.getD_eq_getElem?_getD, List.getElem?_append_left hj]
theorem pL_push (zs : List (Int × Int)) (x : Int × Int) : flatL (pL (zs ++ [x])) (zs ++ [x]).length = flatL (pL zs) zs.length ++ [.int .i64 x.1, .int .i64 x.2] := by
 rw [List.length_append, List.length_singleton, flatL, flatL_congr zs.length (g := pL zs) (fun j hj => ?_)]
 ·congr 1
  simp [pL]
 ·simp only [pL, List.getD_eq_getElem?_getD, List.getElem?_append_left hj]
/-- What has been laid: the outputs in a row of their own, each one's condition in blocks that nobody else uses; the places in another. -/
structure LayR (w : World) (B bo bp bc : Nat) (c : Cm) (ka : Option Addr) (kc : Nat) (os : List To) (zs : List (Int × Int)) (va : Option Addr) (vc : Nat) (ua : Option Addr) (uc : Nat) (A : Nat → Option Addr × Nat) (I : Nat → Nat × Nat) : Prop where
 fo : w.heap[bo]? = some (.cells #[.slice va os.length vc] 48 (0, 0))
 fp : w.heap[bp]? = some (.cells #[.slice ua zs.length uc] 61 (0, 0))
 fc : w.heap[bc]? = some (.cells (cmv c ka kc) 104 (0, 0))
 lt : bo < B ∧ bp < B ∧ bc < B ∧ bo ≠ bp ∧ bo ≠ bc ∧ bp ≠ bc ∧ B ≤ w.heap.size
 outs : w.ownsRow B 95 2 (.slice va os.length vc) os.length (flatL (oL os A) os.length)
 pls : w.ownsRow B 71 2 (.slice ua zs.length uc) zs.length (flatL (pL zs) zs.length)
 cond : ∀ j, j < os.length → ∀ w' : World, (∀ k, (I j).1 ≤ k → k < (I j).2 → w'.heap[k]? = w.heap[k]?) → Cd.BrAt w' (A j).1 (os.getD j default).cn (os.getD j default).X
 int : ∀ j, j < os.length → B ≤ (I j).1 ∧ (I j).2 ≤ w.heap.size ∧ (A j).1 ≠ none
 apO : ∀ j, j < os.length → ∀ g, (Value.slice va os.length vc).ownBlock = some g → g < (I j).1 ∨ (I j).2 ≤ g
 apP : ∀ j, j < os.length → ∀ g, (Value.slice ua zs.length uc).ownBlock = some g → g < (I j).1 ∨ (I j).2 ≤ g
def LayS (w : World) (B bo bp bc : Nat) (c : Cm) (ka : Option Addr) (kc : Nat) (os : List To) (zs : List (Int × Int)) : Prop := ∃ va vc ua uc A I, LayR w B bo bp bc c ka kc os zs va vc ua uc A I
theorem LayR.below {w w1 : World} {B bo bp bc : Nat} {c : Cm} {ka : Option Addr} {kc : Nat} {os : List To} {zs : List (Int × Int)} {va : Option Addr} {vc : Nat} {ua : Option Addr} {uc : Nat} {A : Nat → Option Addr × Nat} {I : Nat → Nat × Nat} (h : LayR w B bo bp bc c ka kc os zs va vc ua uc A I) (hb : Below w.heap.size w w1) : LayR w1 B bo bp bc c ka kc os zs va vc ua uc A I := by
 have hs := hb.size
 refine ⟨heap_below hb h.fo, heap_below hb h.fp, heap_below hb h.fc, ⟨h.lt.1, h.lt.2.1, h.lt.2.2.1, h.lt.2.2.2.1, h.lt.2.2.2.2.1, h.lt.2.2.2.2.2.1, by have := h.lt.2.2.2.2.2.2; omega⟩, own_below h.outs hb, own_below h.pls hb, fun j hj w' hw => h.cond j hj w' (fun k h1 h2 => ?_), fun j hj => ⟨(h.int j hj).1, by have := (h.int j hj).2.1; omega, (h.int j hj).2.2⟩, h.apO, h.apP⟩
 rw [hw k h1 h2]
 exact hb.block k (by have := (h.int j hj).2.1; omega)
/-- One more output. -/
theorem LayR.pushO {w w1 : World} {B bo bp bc : Nat} {c : Cm} {ka : Option Addr} {kc : Nat} {os : List To} {zs : List (Int × Int)} {va : Option Addr} {vc : Nat} {ua : Option Addr} {uc : Nat} {A : Nat → Option Addr × Nat} {I : Nat → Nat × Nat} (h : LayR w B bo bp bc c ka kc os zs va vc ua uc A I) {x : To} {ca va' : Option Addr} {cc vc' lo hi : Nat}
  (hown : w1.ownsRow B 95 2 (.slice va' (os.length + 1) vc') (os.length + 1) (flatL (oL os A) os.length ++ tol x ca cc)) (hg : w.grownBy w1 (Value.slice va os.length vc).ownBlock) (hloc : (Value.slice va' (os.length + 1) vc').ownBlock = (Value.slice va os.length vc).ownBlock ∨ (Value.slice va' (os.length + 1) vc').ownBlock = some w.heap.size)
  (hc : ∀ w' : World, (∀ k, lo ≤ k → k < hi → w'.heap[k]? = w.heap[k]?) → Cd.BrAt w' ca x.cn x.X) (hlo : B ≤ lo) (hhi : hi ≤ w.heap.size) (hva : ∀ g, (Value.slice va os.length vc).ownBlock = some g → g < lo) (hua : ∀ g, (Value.slice ua zs.length uc).ownBlock = some g → g < lo) (hca : ca ≠ none) :
  LayR (w1.setCell ⟨bo, 0, none⟩ (.slice va' (os.length + 1) vc')) B bo bp bc c ka kc (os ++ [x]) zs va' vc' ua uc (fun j => if j = os.length then (ca, cc) else A j) (fun j => if j = os.length then (lo, hi) else I j) := by
 obtain ⟨l1, l2, l3, l4, l5, l6, l7⟩ := h.lt
 have hlt := h.outs.lt
 have kept : ∀ k, k < w.heap.size → k ≠ bo → (∀ g, (Value.slice va os.length vc).ownBlock = some g → k ≠ g) → (w1.setCell ⟨bo, 0, none⟩ (.slice va' (os.length + 1) vc')).heap[k]? = w.heap[k]? := fun k hk hb ho => by
  rw [Below.heap_setCell _ _ _ _ (show k ≠ (⟨bo, 0, none⟩ : Addr).block from hb)]
  exact hg.block k hk (fun e => ho k e.symm rfl)
 have keptB : ∀ k, k < B → k ≠ bo → (w1.setCell ⟨bo, 0, none⟩ (.slice va' (os.length + 1) vc')).heap[k]? = w.heap[k]? := fun k hk hb => kept k (by omega) hb (fun g e => by have := (hlt g e).1; omega)
 have hsz : (w1.setCell ⟨bo, 0, none⟩ (.slice va' (os.length + 1) vc')).heap.size = w1.heap.size := by simp [World.setCell]
 have hnew : ∀ g, (Value.slice va' (os.length + 1) vc').ownBlock = some g → (Value.slice va os.length vc).ownBlock = some g ∨ g = w.heap.size := fun g e => by
  rcases hloc with h1 | h1
  ·exact .inl (h1 ▸ e)
  ·rw [h1] at e; exact .inr (by simpa using e.symm)
 have hbo1 : w1.heap[bo]? = some (.cells #[.slice va os.length vc] 48 (0, 0)) := by rw [hg.block bo (by omega) (fun e => by have := (hlt bo e.symm).1; omega)]; exact h.fo
 have hll : (os ++ [x]).length = os.length + 1 := by simp
 refine ⟨?_, by rw [keptB bp l2 (by omega)]; exact h.fp, by rw [keptB bc l3 (by omega)]; exact h.fc, ⟨l1, l2, l3, l4, l5, l6, by rw [hsz]; have := hg.size; omega⟩, ?_, ?_, fun j hj w' hw => ?_, fun j hj => ?_, fun j hj g e => ?_, fun j hj g e => ?_⟩
 ·rw [hll]; exact heap_setCell_same w1 bo 0 _ _ _ hbo1
 ·rw [oL_push, hll]
  exact own_keep hown (fun g e => Below.heap_setCell _ _ _ _ (by have := (hown.lt g e).1; show g ≠ bo; omega))
 ·refine own_keep h.pls (fun g e => kept g (h.pls.lt g e).2 (by have := (h.pls.lt g e).1; omega) (fun g' e' he => ?_))
  subst he
  exact own_apart h.outs h.pls (by decide) g e' e
 ·rw [hll] at hj
  by_cases ej : j = os.length
  ·subst ej
   simp only [if_true] at hw ⊢
   have : (os ++ [x]).getD os.length default = x := by simp
   rw [this]
   exact hc w' (fun k h1 h2 => by rw [hw k h1 h2]; exact kept k (by omega) (by omega) (fun g e => by have := hva g e; omega))
  ·have hj' : j < os.length := by omega
   simp only [if_neg ej] at hw ⊢
   have : (os ++ [x]).getD j default = os.getD j default := by simp only [List.getD_eq_getElem?_getD, List.getElem?_append_left hj']
   rw [this]
   have hI := h.int j hj'
   exact h.cond j hj' w' (fun k h1 h2 => by rw [hw k h1 h2]; exact kept k (by omega) (by omega) (fun g e => by have := h.apO j hj' g e; omega))
 ·rw [hll] at hj
  have := hg.size
  by_cases ej : j = os.length
  ·simp only [if_pos ej]; exact ⟨hlo, by rw [hsz]; omega, hca⟩
  ·simp only [if_neg ej]
   have hI := h.int j (by omega)
   exact ⟨hI.1, by rw [hsz]; omega, hI.2.2⟩
 ·rw [hll] at hj e
  by_cases ej : j = os.length
  ·simp only [if_pos ej]
   rcases hnew g e with h1 | h1
   ·have := hva g h1; omega
   ·omega
  ·simp only [if_neg ej]
   have hI := h.int j (by omega)
   rcases hnew g e with h1 | h1
   ·exact h.apO j (by omega) g h1
   ·omega
 ·rw [hll] at hj
  by_cases ej : j = os.length
  ·simp only [if_pos ej]; have := hua g e; omega
  ·simp only [if_neg ej]; exact h.apP j (by omega) g e
/-- One more place. -/
theorem LayR.pushP {w w1 : World} {B bo bp bc : Nat} {c : Cm} {ka : Option Addr} {kc : Nat} {os : List To} {zs : List (Int × Int)} {va : Option Addr} {vc : Nat} {ua : Option Addr} {uc : Nat} {A : Nat → Option Addr × Nat} {I : Nat → Nat × Nat} (h : LayR w B bo bp bc c ka kc os zs va vc ua uc A I) {x : Int × Int} {ua' : Option Addr} {uc' : Nat}
  (hown : w1.ownsRow B 71 2 (.slice ua' (zs.length + 1) uc') (zs.length + 1) (flatL (pL zs) zs.length ++ [.int .i64 x.1, .int .i64 x.2])) (hg : w.grownBy w1 (Value.slice ua zs.length uc).ownBlock) (hloc : (Value.slice ua' (zs.length + 1) uc').ownBlock = (Value.slice ua zs.length uc).ownBlock ∨ (Value.slice ua' (zs.length + 1) uc').ownBlock = some w.heap.size) :
  LayR (w1.setCell ⟨bp, 0, none⟩ (.slice ua' (zs.length + 1) uc')) B bo bp bc c ka kc os (zs ++ [x]) va vc ua' uc' A I := by
 obtain ⟨l1, l2, l3, l4, l5, l6, l7⟩ := h.lt
 have hlt := h.pls.lt
 have kept : ∀ k, k < w.heap.size → k ≠ bp → (∀ g, (Value.slice ua zs.length uc).ownBlock = some g → k ≠ g) → (w1.setCell ⟨bp, 0, none⟩ (.slice ua' (zs.length + 1) uc')).heap[k]? = w.heap[k]? := fun k hk hb ho => by
  rw [Below.heap_setCell _ _ _ _ (show k ≠ (⟨bp, 0, none⟩ : Addr).block from hb)]
  exact hg.block k hk (fun e => ho k e.symm rfl)
 have keptB : ∀ k, k < B → k ≠ bp → (w1.setCell ⟨bp, 0, none⟩ (.slice ua' (zs.length + 1) uc')).heap[k]? = w.heap[k]? := fun k hk hb => kept k (by omega) hb (fun g e => by have := (hlt g e).1; omega)
 have hsz : (w1.setCell ⟨bp, 0, none⟩ (.slice ua' (zs.length + 1) uc')).heap.size = w1.heap.size := by simp [World.setCell]
 have hbp1 : w1.heap[bp]? = some (.cells #[.slice ua zs.length uc] 61 (0, 0)) := by rw [hg.block bp (by omega) (fun e => by have := (hlt bp e.symm).1; omega)]; exact h.fp
 have hll : (zs ++ [x]).length = zs.length + 1 := by simp
 refine ⟨by rw [keptB bo l1 l4]; exact h.fo, ?_, by rw [keptB bc l3 (by omega)]; exact h.fc, ⟨l1, l2, l3, l4, l5, l6, by rw [hsz]; have := hg.size; omega⟩, ?_, ?_, fun j hj w' hw => ?_, fun j hj => ?_, h.apO, fun j hj g e => ?_⟩
 ·rw [hll]; exact heap_setCell_same w1 bp 0 _ _ _ hbp1
 ·refine own_keep h.outs (fun g e => kept g (h.outs.lt g e).2 (by have := (h.outs.lt g e).1; omega) (fun g' e' he => ?_))
  subst he
  exact own_apart h.outs h.pls (by decide) g e e'
 ·rw [pL_push, hll]
  exact own_keep hown (fun g e => Below.heap_setCell _ _ _ _ (by have := (hown.lt g e).1; show g ≠ bp; omega))
 ·have hI := h.int j hj
  exact h.cond j hj w' (fun k h1 h2 => by rw [hw k h1 h2]; exact kept k (by omega) (by omega) (fun g e => by have := h.apP j hj g e; omega))
 ·have hI := h.int j hj
  exact ⟨hI.1, by rw [hsz]; have := hg.size; omega, hI.2.2⟩
 ·rw [hll] at e
  have hI := h.int j hj
  rcases hloc with h1 | h1
  ·exact h.apP j hj g (h1 ▸ e)
  ·rw [h1] at e
   have : g = w.heap.size := by simpa using e.symm
   omega
/-- All blocks below B but those of S are as they were. -/
structure FrB (B : Nat) (S : List Nat) (w w' : World) : Prop where
 os : w'.os = w.os
 tape : w'.tape = w.tape
 output : w'.output = w.output
 size : w.heap.size ≤ w'.heap.size
 block : ∀ k, k < B → k ∉ S → w'.heap[k]? = w.heap[k]?
theorem FrB.refl (B : Nat) (S : List Nat) (w : World) : FrB B S w w := ⟨rfl, rfl, rfl, Nat.le_refl _, fun _ _ _ => rfl⟩
theorem FrB.trans {B : Nat} {S : List Nat} {a b c : World} (h : FrB B S a b) (k : FrB B S b c) : FrB B S a c := ⟨k.os.trans h.os, k.tape.trans h.tape, k.output.trans h.output, Nat.le_trans h.size k.size, fun i h1 h2 => (k.block i h1 h2).trans (h.block i h1 h2)⟩
theorem FrB.ofBelow {B : Nat} {S : List Nat} {a b : World} (h : Below a.heap.size a b) (hB : B ≤ a.heap.size) : FrB B S a b := ⟨h.os, h.tape, h.output, h.size, fun k hk _ => h.block k (by omega)⟩
theorem FrB.ofFrm {B : Nat} {S T : List Nat} {a b : World} (h : Frm T a b) (hB : B ≤ a.heap.size) (hS : ∀ k, k ∈ T → k ∈ S) : FrB B S a b := ⟨h.os, h.tape, h.output, h.size, fun k hk hn => h.block k (by omega) (fun e => hn (hS k e))⟩
theorem FrB.mono {B : Nat} {S T : List Nat} {a b : World} (h : FrB B S a b) (hS : ∀ k, k ∈ S → k ∈ T) : FrB B T a b := ⟨h.os, h.tape, h.output, h.size, fun k hk hn => h.block k hk (fun e => hn (hS k e))⟩
theorem FrB.below {B C : Nat} {S : List Nat} {a b : World} (h : FrB B S a b) (hC : C ≤ B) (hS : ∀ k, k ∈ S → C ≤ k) : Below C a b := ⟨h.os, h.tape, h.output, h.size, fun k hk => h.block k (by omega) (fun e => by have := hS k e; omega)⟩
theorem FrB.grown {B : Nat} {S : List Nat} {a b : World} {row : Option Nat} (h : a.grownBy b row) (hB : B ≤ a.heap.size) (hr : ∀ g, row = some g → B ≤ g) : FrB B S a b := ⟨h.os, h.tape, h.output, h.size, fun k hk _ => h.block k (by omega) (fun e => by have := hr k e.symm; omega)⟩
theorem FrB.setCell {B : Nat} {S : List Nat} {a b : World} (h : FrB B S a b) (p : Addr) (u : Value) (hp : p.block ∈ S) : FrB B S a (b.setCell p u) := h.trans ⟨rfl, rfl, rfl, by simp [World.setCell], fun k _ hn => Below.heap_setCell _ _ _ _ (fun e => hn (by rw [e]; exact hp))⟩
end Go.Proofs.YtjnepkggdkccaaaGreatDoor
/- build: the closure that lays an output. -/
namespace Go.Proofs.YtjnepkggdkccaaaGreatDoor
open Go.RowKit

theorem infoTo : (Tryz.prog.info? 95).map (fun i => (i.zero, i.size, i.bytes)) = some (some (.agg #[.int .i64 0, .slice none 0 0]), 2, 32) := by kernel_rfl
theorem infoPl : (Tryz.prog.info? 71).map (fun i => (i.zero, i.size, i.bytes)) = some (some (.agg #[.int .i64 0, .int .i64 0]), 2, 16) := by kernel_rfl
theorem slice_to (am : Int) (ca : Option Addr) (n cc : Nat) (w : World) : (Instr.buildSlice 48 1 #[(0, .agg #[.int .i64 am, .slice ca n cc])]).run Tryz.prog w = .ok (.slice (some ⟨w.heap.size, 0, none⟩) 1 1) (w.alloc (.cells #[.int .i64 am, .slice ca n cc] 95)) := by kernel_rfl
theorem slice_pl (x y : Int) (w : World) : (Instr.buildSlice 61 1 #[(0, .agg #[.int .i64 x, .int .i64 y])]).run Tryz.prog w = .ok (.slice (some ⟨w.heap.size, 0, none⟩) 1 1) (w.alloc (.cells #[.int .i64 x, .int .i64 y] 71)) := by kernel_rfl
theorem run_append_To (w : World) (B q : Nat) (ty : TypeId) (v : Value) (i : Nat) (xs : List Value) (am : Int) (ca : Option Addr) (n cc : Nat) (hown : w.ownsRow B 95 2 v i xs) (hB : B ≤ w.heap.size) (hq : w.heap[q]? = some (.cells #[.int .i64 am, .slice ca n cc] 95 (0, 0))) (hi : i ≤ 1000000) :
  ∃ va vc w1, (Builtin.append_ #[48, 48] ty #[v, .slice (some ⟨q, 0, none⟩) 1 1]).run Tryz.prog w = .ok (.slice va (i + 1) vc) w1 ∧ w1.ownsRow B 95 2 (.slice va (i + 1) vc) (i + 1) (xs ++ [.int .i64 am, .slice ca n cc]) ∧ w.grownBy w1 v.ownBlock ∧ ((Value.slice va (i + 1) vc).ownBlock = v.ownBlock ∨ (Value.slice va (i + 1) vc).ownBlock = some w.heap.size) := by
 obtain ⟨i0, hi0, hz0, hz1, hz2⟩ := info_parts infoTo
 obtain ⟨v', w1, hr, h2, h3, _, h5⟩ := run_append_own_at (P := Tryz.prog) w B 48 ty 95 i0 (.agg #[.int .i64 0, .slice none 0 0]) 2 32 Tryz.underlying48 hi0 hz0 hz1 hz2 rfl (by omega) v i xs hown ⟨q, 0, none⟩ 1 1 [.int .i64 am, .slice ca n cc] rfl (fun j u hj => by
   rw [Addr.add_lit, Nat.zero_add, cell_of_row _ _ j _ _ _ hq]
   simpa using hj) (fun u hu => by simp at hu; rcases hu with rfl | rfl <;> rfl) (by unfold maxLen; omega) (by omega) hB
 obtain ⟨va, vc, rfl, _, _⟩ := own_frmV h2
 exact ⟨va, vc, w1, hr, h2, h3, h5⟩
theorem run_append_Pl (w : World) (B q : Nat) (ty : TypeId) (v : Value) (i : Nat) (xs : List Value) (x y : Int) (hown : w.ownsRow B 71 2 v i xs) (hB : B ≤ w.heap.size) (hq : w.heap[q]? = some (.cells #[.int .i64 x, .int .i64 y] 71 (0, 0))) (hi : i ≤ 1000000) :
  ∃ va vc w1, (Builtin.append_ #[61, 61] ty #[v, .slice (some ⟨q, 0, none⟩) 1 1]).run Tryz.prog w = .ok (.slice va (i + 1) vc) w1 ∧ w1.ownsRow B 71 2 (.slice va (i + 1) vc) (i + 1) (xs ++ [.int .i64 x, .int .i64 y]) ∧ w.grownBy w1 v.ownBlock ∧ ((Value.slice va (i + 1) vc).ownBlock = v.ownBlock ∨ (Value.slice va (i + 1) vc).ownBlock = some w.heap.size) := by
 obtain ⟨i0, hi0, hz0, hz1, hz2⟩ := info_parts infoPl
 obtain ⟨v', w1, hr, h2, h3, _, h5⟩ := run_append_own_at (P := Tryz.prog) w B 61 ty 71 i0 (.agg #[.int .i64 0, .int .i64 0]) 2 16 Tryz.underlying61 hi0 hz0 hz1 hz2 rfl (by omega) v i xs hown ⟨q, 0, none⟩ 1 1 [.int .i64 x, .int .i64 y] rfl (fun j u hj => by
   rw [Addr.add_lit, Nat.zero_add, cell_of_row _ _ j _ _ _ hq]
   simpa using hj) (fun u hu => by simp at hu; rcases hu with rfl | rfl <;> rfl) (by unfold maxLen; omega) (by omega) hB
 obtain ⟨va, vc, rfl, _, _⟩ := own_frmV h2
 exact ⟨va, vc, w1, hr, h2, h3, h5⟩
section
variable {ops : Array Oper} {rest : List Oper} {o : Oper} {a : Act} {w : World} {Q : Exit → Act → World → Prop} {K : Act → World → Prop} {E : Prop}
theorem step_sliceTo (hgd : o.guard = none) (x : Operand) (ho : o.op = .buildSlice 48 1 #[(0, x)]) (am : Int) (ca : Option Addr) (n cc : Nat) (hx : a.eval x = .agg #[.int .i64 am, .slice ca n cc])
  (h : ∀ q w1, w1.heap[q]? = some (.cells #[.int .i64 am, .slice ca n cc] 95 (0, 0)) → w.heap.size ≤ q → Below w.heap.size w w1 → K (a.put o.dst (.slice (some ⟨q, 0, none⟩) 1 1)) w1) : if Region.wanted o (yielded ops a.tmps) = true then Oper.wp Tryz.prog o a w K Q else E := by
 have hw : Region.wanted o (yielded ops a.tmps) = true := by simp [Region.wanted, hgd]
 rw [if_pos hw]
 unfold Oper.wp execOp
 simp only [ho, List.map_toArray, List.map_cons, List.map_nil, hx, Sem.run_bind, slice_to, Result.andThen]
 exact h _ _ (heap_alloc_new _ _) (Nat.le_refl _) ((Below.refl _ _).alloc (Nat.le_refl _) _)
theorem step_append_To (hgd : o.guard = none) (s x : Operand) (ho : o.op = .call { callee := .builtin .append, args := #[s, x], argTypes := #[48, 48] }) (B q : Nat) (v : Value) (i : Nat) (xs : List Value) (am : Int) (ca : Option Addr) (n cc : Nat) (hs : a.eval s = v) (hx : a.eval x = .slice (some ⟨q, 0, none⟩) 1 1) (hown : w.ownsRow B 95 2 v i xs) (hB : B ≤ w.heap.size) (hq : w.heap[q]? = some (.cells #[.int .i64 am, .slice ca n cc] 95 (0, 0))) (hi : i ≤ 1000000)
  (h : ∀ va vc w1, w1.ownsRow B 95 2 (.slice va (i + 1) vc) (i + 1) (xs ++ [.int .i64 am, .slice ca n cc]) → w.grownBy w1 v.ownBlock → ((Value.slice va (i + 1) vc).ownBlock = v.ownBlock ∨ (Value.slice va (i + 1) vc).ownBlock = some w.heap.size) → K (a.put o.dst (.slice va (i + 1) vc)) w1) : if Region.wanted o (yielded ops a.tmps) = true then Oper.wp Tryz.prog o a w K Q else E := by
 have hw : Region.wanted o (yielded ops a.tmps) = true := by simp [Region.wanted, hgd]
 rw [if_pos hw]
 obtain ⟨va, vc, w1, hr, h1, h2, h3⟩ := run_append_To w B q o.type v i xs am ca n cc hown hB hq hi
 unfold Oper.wp execOp
 simp only [ho, resolve, invoke, builtin, Sem.run_bind, Sem.run_pure, Result.andThen_ok, List.map_toArray, List.map_cons, List.map_nil, hs, hx, hr]
 exact h _ _ _ h1 h2 h3
theorem wpList_slicePl (hgd : o.guard = none) (x : Operand) (ho : o.op = .buildSlice 61 1 #[(0, x)]) (y z : Int) (hx : a.eval x = .agg #[.int .i64 y, .int .i64 z])
  (h : ∀ w1, New w w1 #[.int .i64 y, .int .i64 z] 71 → wpList Tryz.prog ops Q rest (a.put o.dst (.slice (some ⟨w.heap.size, 0, none⟩) 1 1)) w1) : wpList Tryz.prog ops Q (o :: rest) a w := by
 refine wpList_plain hgd fun K hK => ?_
 unfold Oper.wp execOp
 simp only [ho, List.map_toArray, List.map_cons, List.map_nil, hx, Sem.run_bind, slice_pl, Result.andThen]
 exact hK _ _ (h _ (new_alloc w _ _))
theorem wpList_append_Pl (hgd : o.guard = none) (s x : Operand) (ho : o.op = .call { callee := .builtin .append, args := #[s, x], argTypes := #[61, 61] }) (B q : Nat) (v : Value) (i : Nat) (xs : List Value) (y z : Int) (hs : a.eval s = v) (hx : a.eval x = .slice (some ⟨q, 0, none⟩) 1 1) (hown : w.ownsRow B 71 2 v i xs) (hB : B ≤ w.heap.size) (hq : w.heap[q]? = some (.cells #[.int .i64 y, .int .i64 z] 71 (0, 0))) (hi : i ≤ 1000000)
  (h : ∀ va vc w1, w1.ownsRow B 71 2 (.slice va (i + 1) vc) (i + 1) (xs ++ [.int .i64 y, .int .i64 z]) → w.grownBy w1 v.ownBlock → ((Value.slice va (i + 1) vc).ownBlock = v.ownBlock ∨ (Value.slice va (i + 1) vc).ownBlock = some w.heap.size) → wpList Tryz.prog ops Q rest (a.put o.dst (.slice va (i + 1) vc)) w1) : wpList Tryz.prog ops Q (o :: rest) a w := by
 obtain ⟨va, vc, w1, hr, h1, h2, h3⟩ := run_append_Pl w B q o.type v i xs y z hown hB hq hi
 refine wpList_plain hgd fun K hK => ?_
 unfold Oper.wp execOp
 simp only [ho, resolve, invoke, builtin, Sem.run_bind, Sem.run_pure, Result.andThen_ok, List.map_toArray, List.map_cons, List.map_nil, hs, hx, hr]
 exact hK _ _ (h _ _ _ h1 h2 h3)
end
/-- What a method expression that is handed to the closure answers: a condition in blocks of its own. -/
def UndR (n : Nat) (X : Nat → Cd.Bv) (w : World) : Ending → World → Prop := fun e w' => ∃ g, e = .returned (.agg #[.slice (some ⟨g, 0, none⟩) n n]) ∧ Cd.BrIn w' w.heap.size (some ⟨g, 0, none⟩) n X ∧ Below w.heap.size w w'
def LayPost (B bo bp bc : Nat) (c : Cm) (ka : Option Addr) (kc : Nat) (os : List To) (zs : List (Int × Int)) (w : World) : Ending → World → Prop := fun e w' => e = .returned (.tuple #[]) ∧ LayS w' B bo bp bc c ka kc os zs ∧ FrB B [bo, bp] w w'
set_option maxRecDepth 100000 in
set_option maxHeartbeats 1600000 in
theorem lay_no (kf : Nat) (k id am : Int) (B bo bp bc : Nat) (c : Cm) (ka : Option Addr) (kc : Nat) (os : List To) (zs : List (Int × Int)) (w : World) (h : LayS w B bo bp bc c ka kc os zs) (ha : ¬ 10 ≤ am) :
  Calls Tryz.prog 46 #[.int .i64 k, .int .i64 id, .int .i64 am, .func (.func kf) #[] #[], .pointer (some ⟨bo, 0, none⟩), .pointer (some ⟨bc, 0, none⟩), .pointer (some ⟨bp, 0, none⟩)] w (LayPost B bo bp bc c ka kc os zs w) := by
 have HL : Hid (LayS w B bo bp bc c ka kc os zs) := h
 have hd : decide (10 ≤ am) = false := by simpa using ha
 clear h
 go_enter Tryz.func46, Tryz.ntmps46
 go_wp2
 refine bodyPost_ret (results_none rfl _ _ _) rfl ?_
 exact ⟨rfl, HL.out, FrB.refl _ _ _⟩
set_option maxRecDepth 100000 in
set_option maxHeartbeats 3200000 in
theorem lay_yes (kf : Nat) (eg : ∀ args w, (callFunc kf args).run Tryz.prog w = .ok (.enter kf args) w) (k id am : Int) (n : Nat) (X : Nat → Cd.Bv) (B bo bp bc : Nat) (c : Cm) (ka : Option Addr) (kc : Nat) (os : List To) (zs : List (Int × Int)) (w : World) (h : LayS w B bo bp bc c ka kc os zs) (ha : 10 ≤ am)
  (hU : Calls Tryz.prog kf #[.agg (cmv c ka kc)] w.drew (UndR n X w.drew)) (ho : os.length ≤ 1000) (hz : zs.length ≤ 1000) :
  Calls Tryz.prog 46 #[.int .i64 k, .int .i64 id, .int .i64 am, .func (.func kf) #[] #[], .pointer (some ⟨bo, 0, none⟩), .pointer (some ⟨bc, 0, none⟩), .pointer (some ⟨bp, 0, none⟩)] w (LayPost B bo bp bc c ka kc (os ++ [⟨am, n, X⟩]) (zs ++ [(k, id)]) w) := by
 obtain ⟨va, vc, ua, uc, A, I, hL⟩ := h
 have HL : Hid (LayR w.drew B bo bp bc c ka kc os zs va vc ua uc A I) := hL.below (Below.refl _ _).drew
 have HU : Hid (Calls Tryz.prog kf #[.agg (cmv c ka kc)] w.drew (UndR n X w.drew)) := hU
 have HN : Hid (os.length ≤ 1000 ∧ zs.length ≤ 1000) := ⟨ho, hz⟩
 have HS : Hid (∀ w', Below w.drew.heap.size w.drew w' → w'.cell? ⟨bo, 0, none⟩ = some (.slice va os.length vc) ∧ w'.rangeAt bc 0 (cml c ka kc)) := fun w' hb => ⟨by rw [cell_of_row _ _ 0 _ _ _ (heap_below hb HL.out.fo)]; rfl, cml_range (heap_below hb HL.out.fc)⟩
 have HF0 : Hid (FrB B [bo, bp] w w.drew) := FrB.ofBelow (Below.refl _ _).drew hL.lt.2.2.2.2.2.2
 clear hL hU ho hz
 go_enter Tryz.func46, Tryz.ntmps46
 go_upto_region 1 with fail
 refine wp_region_noPanic ?_
 refine wp_region_K (S := fun w' => w'.cell? ⟨bo, 0, none⟩ = some (.slice va os.length vc) ∧ w'.rangeAt bc 0 (cml c ka kc)) 8 (by kernel_rfl) (HS.out w.drew (Below.refl _ _)) (fun hHeld => ?_)
 generalize w.drew = w0 at *
 refine wpAnyK_take (by kernel_rfl) (i := 0) (oi := ⟨some 13, .load 48 (.tmp 4), 48, _, _, none⟩) (v := ?_) rfl (by kernel_rfl) (by kernel_rfl) (by kernel_rfl) (fun _ _ _ h => h) (Or.inl ⟨by rfl, ?_⟩) (by assumption) ?_
 rotate_left
 ·intro wz hSw; (try dsimp only at hSw); go_simp; (try with_reducible rfl)
 try simp only [Act.put, zA, zB, zC]
 refine wpAnyK_take (by kernel_rfl) (i := 1) (oi := ⟨some 14, .move (.tmp 2), 3, _, _, none⟩) (v := ?_) rfl (by kernel_rfl) (by kernel_rfl) (by kernel_rfl) (fun _ _ _ h => h) (Or.inl ⟨by rfl, ?_⟩) (by assumption) ?_
 rotate_left
 ·intro wz hSw; (try dsimp only at hSw); go_simp; (try with_reducible rfl)
 try simp only [Act.put, zA, zB, zC]
 refine wpAnyK_take (by kernel_rfl) (i := 2) (oi := ⟨some 15, .move (.tmp 3), 134, _, _, none⟩) (v := ?_) rfl (by kernel_rfl) (by kernel_rfl) (by kernel_rfl) (fun _ _ _ h => h) (Or.inl ⟨by rfl, ?_⟩) (by assumption) ?_
 rotate_left
 ·intro wz hSw; (try dsimp only at hSw); go_simp; (try with_reducible rfl)
 try simp only [Act.put, zA, zB, zC]
 refine wpAnyK_take (by kernel_rfl) (i := 3) (oi := ⟨some 16, .load 104 (.tmp 5), 104, _, _, none⟩) rfl (by kernel_rfl) (by kernel_rfl) (by kernel_rfl) (fun _ _ _ h => h) (yieldsIf_load_mid (by rfl) _ _ rfl bc 0 rfl (cml c ka kc) _ (fun _ h => h.2) Tryz.underlying104 rfl (szCml _ _ _)) (by assumption) ?_
 try simp only [Act.put, zA, zB, zC]
 refine wpAnyK_ready (rs := [4]) (by kernel_rfl) (by simp) ?_
 refine (AllReadyK.cons (o := ⟨some 17, .call { callee := Go.Callee.value (.tmp 15), args := #[.tmp 16], argTypes := #[104] }, 93, _, _, none⟩) rfl (fun K hK => ?_) AllReadyK.nil)
 go_simp
 refine HU.out.mono ?_
 rintro e w1 ⟨g, rfl, hI, hb1⟩
 have H1 := hidV (And.intro hI hb1)
 clear hI hb1
 refine hK.out _ _ (fun _ => HS.out w1 H1.out.2) (fun hq => ?_)
 have hq := hq (by decide)
 clear hK K
 try simp only [Act.put, zA, zB, zC]
 refine wpAnyK_take (by kernel_rfl) (i := 5) (oi := ⟨some 18, .build 95 #[(0, .tmp 14), (1, .tmp 17)], 95, _, _, none⟩) (v := .agg #[.int .i64 am, .slice (some ⟨g, 0, none⟩) n n]) rfl (by kernel_rfl) (by kernel_rfl) (by kernel_rfl) (fun _ _ _ h => h) (Or.inl ⟨by rfl, ?_⟩) (by assumption) ?_
 ·intro wz hSw; (try dsimp only at hSw); kernel_rfl
 try simp only [Act.put, zA, zB, zC]
 refine wpAnyK_ready (rs := [6]) (by kernel_rfl) (by simp) ?_
 refine (AllReadyK.cons (o := ⟨some 19, .buildSlice 48 1 #[(0, .tmp 18)], 48, _, _, none⟩) rfl (fun K hK => ?_) AllReadyK.nil)
 refine step_sliceTo rfl (.tmp 18) rfl am (some ⟨g, 0, none⟩) n n (by rfl) ?_
 intro q w2 hq hql hb2
 have H2 : Hid (Below w0.heap.size w0 w2 ∧ LayR w2 B bo bp bc c ka kc os zs va vc ua uc A I ∧ Cd.BrIn w2 w0.heap.size (some ⟨g, 0, none⟩) n X ∧ w2.heap[q]? = some (.cells #[.int .i64 am, .slice (some ⟨g, 0, none⟩) n n] 95 (0, 0))) := ⟨Below.transS H1.out.2 hb2, HL.out.below (Below.transS H1.out.2 hb2), brIn_below H1.out.1 hb2, hq⟩
 clear hq hql hb2
 refine hK.out _ _ (fun _ => HS.out w2 H2.out.1) (fun hq => ?_)
 have hq := hq (by decide)
 clear hK K
 try simp only [Act.put, zA, zB, zC]
 refine wpAnyK_ready (rs := [7]) (by kernel_rfl) (by simp) ?_
 refine (AllReadyK.cons (o := ⟨some 20, .call { callee := Go.Callee.builtin Go.Builtin.append, args := #[.tmp 13, .tmp 19], argTypes := #[48, 48] }, 48, _, _, none⟩) rfl (fun K hK => ?_) AllReadyK.nil)
 refine step_append_To rfl (.tmp 13) (.tmp 19) rfl B q (.slice va os.length vc) os.length (flatL (oL os A) os.length) am (some ⟨g, 0, none⟩) n n (by rfl) (by rfl) H2.out.2.1.outs H2.out.2.1.lt.2.2.2.2.2.2 H2.out.2.2.2 (by have := HN.out; omega) ?_
 intro va' vc' w3 hown hgrow hloc
 have HO := H2.out.2.1.outs.lt
 have hfo : w3.heap[bo]? = some (.cells #[.slice va os.length vc] 48 (0, 0)) := by rw [hgrow.block bo (lt_of_block H2.out.2.1.fo) (fun e => by have := (HO bo e.symm).1; have := H2.out.2.1.lt; omega)]; exact H2.out.2.1.fo
 have hfc : w3.heap[bc]? = some (.cells (cmv c ka kc) 104 (0, 0)) := by rw [hgrow.block bc (lt_of_block H2.out.2.1.fc) (fun e => by have := (HO bc e.symm).1; have := H2.out.2.1.lt; omega)]; exact H2.out.2.1.fc
 have s3 : w3.cell? ⟨bo, 0, none⟩ = some (.slice va os.length vc) := by rw [cell_of_row _ _ 0 _ _ _ hfo]; rfl
 have f3 : w3.frozen? ⟨bo, 0, none⟩ = false := frozen_of_row w3 bo 0 _ _ hfo
 have hS3 : w3.cell? ⟨bo, 0, none⟩ = some (.slice va os.length vc) ∧ w3.rangeAt bc 0 (cml c ka kc) := ⟨s3, cml_range hfc⟩
 have HP : Hid (LayR (w3.setCell ⟨bo, 0, none⟩ (.slice va' (os.length + 1) vc')) B bo bp bc c ka kc (os ++ [⟨am, n, X⟩]) zs va' vc' ua uc (fun j => if j = os.length then (some ⟨g, 0, none⟩, n) else A j) (fun j => if j = os.length then (w0.heap.size, w2.heap.size) else I j)) :=
  H2.out.2.1.pushO hown hgrow hloc H2.out.2.2.1 HL.out.lt.2.2.2.2.2.2 (Nat.le_refl _) (fun g e => (HL.out.outs.lt g e).2) (fun g e => (HL.out.pls.lt g e).2) (by simp)
 have HF3 : Hid (FrB B [bo, bp] w (w3.setCell ⟨bo, 0, none⟩ (.slice va' (os.length + 1) vc'))) := ((HF0.out.trans (FrB.ofBelow H2.out.1 HL.out.lt.2.2.2.2.2.2)).trans (FrB.grown hgrow H2.out.2.1.lt.2.2.2.2.2.2 (fun g e => (HO g e).1))).setCell _ _ (by simp)
 clear hown hgrow hloc HO hfo hfc H1 H2 HL HU HS HF0
 refine hK.out _ _ (fun _ => hS3) (fun hq => ?_)
 have hq := hq (by decide)
 clear hK K hS3
 try simp only [Act.put, zA, zB, zC]
 refine wpAnyK_ready (rs := [8]) (by kernel_rfl) (by simp) ?_
 refine (AllReadyK.cons (o := ⟨none, .store 48 (.tmp 4) (.tmp 20), 0, _, _, none⟩) rfl (fun K hK => ?_) AllReadyK.nil)
 go_simp
 refine hK.out _ _ (fun e => absurd rfl e) (fun _ => ?_)
 clear hK K
 try simp only [Act.put]
 refine wpAnyK_done (by kernel_rfl) (NoPanic.normal ?_) _
 try simp only [Act.put, zA, zB, zC]
 clear hHeld s3 f3
 generalize w3.setCell ⟨bo, 0, none⟩ (.slice va' (os.length + 1) vc') = w4 at *
 have s4 : w4.cell? ⟨bp, 0, none⟩ = some (.slice ua zs.length uc) := by rw [cell_of_row _ _ 0 _ _ _ HP.out.fp]; rfl
 have HW4 : Hid (∀ w' : World, w'.heap[bp]? = some (.cells #[.slice ua zs.length uc] 61 (0, 0)) → w'.cell? ⟨bp, 0, none⟩ = some (.slice ua zs.length uc) ∧ w'.frozen? ⟨bp, 0, none⟩ = false) := fun w' h => ⟨by rw [cell_of_row _ _ 0 _ _ _ h]; rfl, frozen_of_row w' bp 0 _ _ h⟩
 go_wp2_with (first | (refine wpList_slicePl rfl _ rfl k id rfl ?_; intro w5 N5; have H5 := hidV (And.intro (HP.out.below N5.below) (And.intro N5.blk N5.below)); clear N5 s4) | (at_builtin; refine wpList_append_Pl rfl _ _ rfl B w4.heap.size (.slice ua zs.length uc) zs.length (flatL (pL zs) zs.length) k id rfl rfl H5.out.1.pls H5.out.1.lt.2.2.2.2.2.2 H5.out.2.1 (by have := HN.out; omega) ?_; intro ua' uc' w6 hown hgrow hloc; have HO := H5.out.1.pls.lt; have hfp : w6.heap[bp]? = some (.cells #[.slice ua zs.length uc] 61 (0, 0)) := (by rw [hgrow.block bp (lt_of_block H5.out.1.fp) (fun e => by have := (HO bp e.symm).1; have := H5.out.1.lt; omega)]; exact H5.out.1.fp); obtain ⟨s6, f6⟩ := HW4.out w6 hfp) | fail)
 refine bodyPost_ret (results_none rfl _ _ _) rfl ?_
 have hR := H5.out.1.pushP (x := (k, id)) hown hgrow hloc
 exact ⟨rfl, ⟨_, _, _, _, _, _, hR⟩, ((HF3.out.trans (FrB.ofBelow H5.out.2.2 HP.out.lt.2.2.2.2.2.2)).trans (FrB.grown hgrow H5.out.1.lt.2.2.2.2.2.2 (fun g e => (HO g e).1))).setCell _ _ (by simp)⟩
end Go.Proofs.YtjnepkggdkccaaaGreatDoor
