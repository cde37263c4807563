/- A write. -/
import Derived.Test.YtidmpblaeohfaaaGreatDoorPClone
namespace Go.Proofs.YtidmpblaeohfaaaGreatDoor
open Go.RowKit

attribute [local go_sem ↓] Go.wp_at_zero Go.wp_at_succ

/-- All blocks that were there, but those of M, are as they were; the streams too. -/
structure Fr (M : Nat → Prop) (w w' : World) : Prop where
  os : w'.os = w.os
  tape : w'.tape = w.tape
  output : w'.output = w.output
  size : w.heap.size ≤ w'.heap.size
  block : ∀ k, k < w.heap.size → ¬ M k → w'.heap[k]? = w.heap[k]?
section
variable {M M' : Nat → Prop} {a b c : World}
theorem Fr.refl (M : Nat → Prop) (w : World) : Fr M w w := ⟨rfl, rfl, rfl, Nat.le_refl _, fun _ _ _ => rfl⟩
theorem Fr.trans (h : Fr M a b) (k : Fr M' b c) (hm : ∀ i, i < a.heap.size → M' i → M i) : Fr M a c :=
  ⟨k.os.trans h.os, k.tape.trans h.tape, k.output.trans h.output, Nat.le_trans h.size k.size, fun i hi hn => (k.block i (Nat.lt_of_lt_of_le hi h.size) (fun e => hn (hm i hi e))).trans (h.block i hi hn)⟩
theorem Fr.mono (h : Fr M a b) (hm : ∀ i, i < a.heap.size → M i → M' i) : Fr M' a b := ⟨h.os, h.tape, h.output, h.size, fun i hi hn => h.block i hi fun e => hn (hm i hi e)⟩
theorem Fr.ofFrm {T : List Nat} (h : Frm T a b) : Fr (· ∈ T) a b := ⟨h.os, h.tape, h.output, h.size, h.block⟩
theorem Fr.ofBelow (h : Below a.heap.size a b) : Fr M a b := ⟨h.os, h.tape, h.output, h.size, fun k hk _ => h.block k hk⟩
theorem Fr.below {B : Nat} (h : Fr M a b) (hB : B ≤ a.heap.size) (hm : ∀ k, M k → B ≤ k) : Below B a b := ⟨h.os, h.tape, h.output, h.size, fun k hk => h.block k (by omega) (fun e => by have := hm k e; omega)⟩
theorem Fr.setCell (h : Fr M a b) (p : Addr) (u : Value) (hp : M p.block) : Fr M a (b.setCell p u) :=
  ⟨h.os, h.tape, h.output, by simpa [World.setCell] using h.size, fun k hk hn => by rw [Below.heap_setCell _ _ _ _ (fun e => hn (by rw [e]; exact hp))]; exact h.block k hk hn⟩
theorem Fr.drew (h : Fr M a b) : Fr M a b.drew := ⟨h.os, h.tape, h.output, h.size, h.block⟩
end

/-- The page is b, loose. -/
def St.put (S : St) (pg : Int) (y : Bs) : St := { S with loose := S.loose ++ [(pg, y)] }
theorem Tryz.infoW : (Tryz.prog.info? 79).map (fun i => (i.zero, i.size, i.bytes)) = some (some (.agg #[.int .i64 0, .slice none 0 0]), 2, 32) := by kernel_rfl
theorem sliceW_one (x y : Value) (w : World) : (Instr.buildSlice 73 1 #[(0, .agg #[x, y])]).run Tryz.prog w = .ok (.slice (some ⟨w.heap.size, 0, none⟩) 1 1) (w.alloc (.cells #[x, y] 79)) := by
  kernel_rfl
section
variable {ops : Array Oper} {o : Oper} {a : Act} {w : World} {K : Act → World → Prop} {Q : Exit → Act → World → Prop} {E : Prop}
theorem step_sliceW (hgd : o.guard = none) (x : Operand) (ho : o.op = .buildSlice 73 1 #[(0, x)]) (u v : Value) (hx : a.eval x = .agg #[u, v])
    (h : K (a.put o.dst (.slice (some ⟨w.heap.size, 0, none⟩) 1 1)) (w.alloc (.cells #[u, v] 79))) : if Region.wanted o (yielded ops a.tmps) = true then Oper.wp Tryz.prog o a w K Q else E := by
  have hw : Region.wanted o (yielded ops a.tmps) = true := by simp [Region.wanted, hgd]
  rw [if_pos hw]
  unfold Oper.wp execOp
  simp only [ho, List.map_toArray, List.map_cons, List.map_nil, hx, Sem.run_bind, sliceW_one u v, Result.andThen]
  exact h
theorem step_append (hgd : o.guard = none) (s x : Operand) (t : TypeId) (ho : o.op = .call { callee := .builtin .append, args := #[s, x], argTypes := #[t, t] }) {v u v' : Value} {w' : World} (hs : a.eval s = v) (hx : a.eval x = u)
    (hr : (Builtin.append_ #[t, t] o.type #[v, u]).run Tryz.prog w = .ok v' w') (h : K (a.put o.dst v') w') : if Region.wanted o (yielded ops a.tmps) = true then Oper.wp Tryz.prog o a w K Q else E := by
  have hw : Region.wanted o (yielded ops a.tmps) = true := by simp [Region.wanted, hgd]
  rw [if_pos hw]
  unfold Oper.wp execOp
  simp only [ho, resolve, invoke, builtin, Sem.run_bind, Sem.run_pure, Result.andThen_ok, List.map_toArray, List.map_cons, List.map_nil, hs, hx, hr]
  exact h
end
theorem Ow.ofDrew {w w1 : World} {v : Value} {l : List Int} (h : Ow w.drew w1 v l) : Ow w w1 v l := ⟨h.own, ⟨h.below.os, h.below.tape, h.below.output, h.below.size, h.below.block⟩, h.bd⟩
/-- One more loose write: what it leaves. -/
theorem put_end {w w1 w3 : World} {p q : Nat} {lo : Value} {F : Nat → Prop} {S : St} {pg : Int} {ad : Option Addr} {cap : Nat} {l : List Int} {v' : Value} {o : Obj} (h : St0 w p q lo F S) (how : Ow w w1 (.slice ad l.length cap) l) (hl : l.length ≤ 4096) (hp : 0 ≤ pg ∧ pg < S.safe.length) (hfew : S.loose.length < 1000000)
    (hown : w3.ownsRow 0 79 2 v' (S.loose.length + 1) (flatW S.loose ++ [.int .i64 pg, .slice ad l.length cap])) (hgrow : (w1.alloc o).grownBy w3 lo.ownBlock) (hloc : v'.ownBlock = lo.ownBlock ∨ v'.ownBlock = some (w1.alloc o).heap.size) :
    ∃ F', St0 (w3.setCell ⟨p, 1, none⟩ v') p q v' F' (S.put pg ⟨ad, cap, l⟩) ∧ Fr (Mine p q lo F) w (w3.setCell ⟨p, 1, none⟩ v') ∧ ∀ k, Mine p q v' F' k → Mine p q lo F k ∨ (w.heap.size ≤ k ∧ k < (w3.setCell ⟨p, 1, none⟩ v').heap.size) := by
  obtain ⟨hb, hin⟩ := ow_bs how hl
  have hB := how.below
  have s1 := hB.size
  have s2 : (w1.alloc o).heap.size = w1.heap.size + 1 := by simp
  have s3 := hgrow.size
  have lp := h.lt (k := p) (.inl rfl)
  have lq := h.lt (k := q) (.inr (.inl rfl))
  have e12 : ∀ k, k < w1.heap.size → (w1.alloc o).heap[k]? = w1.heap[k]? := fun k hk => by rw [Below.heap_alloc _ _ _ (by simpa using hk)]
  have k3 : ∀ k, k < w1.heap.size → lo.ownBlock ≠ some k → w3.heap[k]? = w1.heap[k]? := fun k hk hn => by rw [hgrow.block k (by omega) (fun e => hn e.symm)]; exact e12 k hk
  have nlp : lo.ownBlock ≠ some p := fun e => (h.nlo p e).1 rfl
  have nlq : lo.ownBlock ≠ some q := fun e => (h.nlo q e).2.1 rfl
  have k4 : ∀ k, k < w1.heap.size → lo.ownBlock ≠ some k → k ≠ p → (w3.setCell ⟨p, 1, none⟩ v').heap[k]? = w1.heap[k]? := fun k hk hn hkp => by rw [Below.heap_setCell _ _ _ _ hkp]; exact k3 k hk hn
  have k5 : ∀ k, k < w.heap.size → lo.ownBlock ≠ some k → k ≠ p → (w3.setCell ⟨p, 1, none⟩ v').heap[k]? = w.heap[k]? := fun k hk hn hkp => by rw [k4 k (by omega) hn hkp]; exact hB.block k hk
  have hF : ∀ k, F k → (w3.setCell ⟨p, 1, none⟩ v').heap[k]? = w.heap[k]? := fun k hf => k5 k (h.ltF k hf) (fun e => (h.nlo k e).2.2 hf) (fun e => h.nF.1 (e ▸ hf))
  have sz : (w3.setCell ⟨p, 1, none⟩ v').heap.size = w3.heap.size := by simp [World.setCell]
  have hvb : ∀ k, v'.ownBlock = some k → lo.ownBlock = some k ∨ w1.heap.size + 1 = k := fun k e => by
    rcases hloc with h1 | h1
    · left; rw [← h1]; exact e
    · right; rw [h1, s2] at e; exact Option.some.inj e
  refine ⟨fun k => F k ∨ (w.heap.size ≤ k ∧ k < w1.heap.size), ⟨?_, ?_, ?_, ?_, ?_, h.npq, ⟨fun e => e.elim h.nF.1 (by omega), fun e => e.elim h.nF.2 (by omega)⟩, ?_, ?_, h.small, by simp [St.put]; omega, h.pos⟩, ⟨?_, ?_, ?_, by omega, ?_⟩, ?_⟩
  · have c3 : w3.heap[p]? = some (.cells (stC q lo S) 75 (0, 0)) := by rw [k3 p (by omega) nlp, hB.block p lp]; exact h.cells
    rw [heap_setCell_same w3 p 1 _ _ v' c3]
    rfl
  · show _ = some (Obj.cells (S.safe.map Bs.v).toArray _ _)
    rw [k5 q lq nlq (Ne.symm h.npq)]; exact h.safe
  · have : flatW (S.put pg ⟨ad, cap, l⟩).loose = flatW S.loose ++ [.int .i64 pg, .slice ad l.length cap] := by simp [St.put, flatW_append, flatW, Bs.v]
    rw [this]
    have hlen : (S.put pg ⟨ad, cap, l⟩).loose.length = S.loose.length + 1 := by simp [St.put]
    rw [hlen]
    refine owns_row_keep hown fun k e => Below.heap_setCell _ _ _ _ (fun ek => ?_)
    have ek : k = p := ek
    subst ek
    rcases hvb k e with h1 | h1
    · exact nlp h1
    · omega
  · intro x hx
    exact ⟨(h.ps x hx).1.keep (h.ps x hx).2 hF, fun a e => .inl ((h.ps x hx).2 a e)⟩
  · intro x hx
    have hx : x ∈ S.loose ++ [(pg, ⟨ad, cap, l⟩)] := hx
    rcases List.mem_append.1 hx with hx | hx
    · have := h.ls x hx
      exact ⟨this.1.keep this.2.1 hF, fun a e => .inl (this.2.1 a e), this.2.2⟩
    · have : x = (pg, ⟨ad, cap, l⟩) := by simpa using hx
      subst this
      refine ⟨hb.keep hin fun k hk => ?_, fun a e => .inr (hin a e), hp⟩
      exact k4 k hk.2 (fun e => by have := h.ltlo e; omega) (by omega)
  · intro k e
    rcases hvb k e with h1 | h1
    · exact ⟨(h.nlo k h1).1, (h.nlo k h1).2.1, fun e => e.elim (h.nlo k h1).2.2 (by have := h.ltlo h1; omega)⟩
    · exact ⟨by omega, by omega, fun e => e.elim (fun hf => by have := h.ltF k hf; omega) (by omega)⟩
  · intro k e
    rw [sz]
    rcases e with hf | hk
    · have := h.ltF k hf; omega
    · omega
  · exact hgrow.os.trans hB.os
  · exact hgrow.tape.trans hB.tape
  · exact hgrow.output.trans hB.output
  · exact fun k hk hn => k5 k hk (fun e => hn (.inr (.inr (.inl e)))) (fun e => hn (.inl e))
  · intro k hk
    rw [sz]
    rcases hk with hk | hk | hk | hk | hk
    · exact .inl (.inl hk)
    · exact .inl (.inr (.inl hk))
    · have := (hown.lt k hk).2
      rcases hvb k hk with h1 | h1
      · exact .inl (.inr (.inr (.inl h1)))
      · right; omega
    · exact .inl (.inr (.inr (.inr hk)))
    · right; omega
end Go.Proofs.YtidmpblaeohfaaaGreatDoor
