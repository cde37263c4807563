/- A write. -/
import Derived.Test.YtbfajoeilpkofaaGreatDoorOwnShelf12
import Derived.Lib.SliceRun
namespace Go.Proofs.YtbfajoeilpkofaaGreatDoor
open Go.RowKit

attribute [local go_sem ↓] Go.wp_at_zero Go.wp_at_succ

/-- All blocks that were there, but those of M, are as they were; the streams too. -/
structure Fr (M : Nat → Prop) (w w' : World) : Prop where
  os : w'.os = w.os
  tape : w'.tape = w.tape
  output : w'.output = w.output
  size : w.heap.size ≤ w'.heap.size
  block : ∀ k, k < w.heap.size → ¬ M k → w'.heap[k]? = w.heap[k]?
section
variable {M M' : Nat → Prop} {a b c : World}
theorem Fr.refl (M : Nat → Prop) (w : World) : Fr M w w := ⟨rfl, rfl, rfl, Nat.le_refl _, fun _ _ _ => rfl⟩
theorem Fr.trans (h : Fr M a b) (k : Fr M' b c) (hm : ∀ i, i < a.heap.size → M' i → M i) : Fr M a c :=
  ⟨k.os.trans h.os, k.tape.trans h.tape, k.output.trans h.output, Nat.le_trans h.size k.size, fun i hi hn => (k.block i (Nat.lt_of_lt_of_le hi h.size) (fun e => hn (hm i hi e))).trans (h.block i hi hn)⟩
theorem Fr.mono (h : Fr M a b) (hm : ∀ i, i < a.heap.size → M i → M' i) : Fr M' a b := ⟨h.os, h.tape, h.output, h.size, fun i hi hn => h.block i hi fun e => hn (hm i hi e)⟩
theorem Fr.ofFrm {T : List Nat} (h : Frm T a b) : Fr (· ∈ T) a b := ⟨h.os, h.tape, h.output, h.size, h.block⟩
theorem Fr.ofBelow (h : Below a.heap.size a b) : Fr M a b := ⟨h.os, h.tape, h.output, h.size, fun k hk _ => h.block k hk⟩
theorem Fr.below {B : Nat} (h : Fr M a b) (hB : B ≤ a.heap.size) (hm : ∀ k, M k → B ≤ k) : Below B a b := ⟨h.os, h.tape, h.output, h.size, fun k hk => h.block k (by omega) (fun e => by have := hm k e; omega)⟩
theorem Fr.setCell (h : Fr M a b) (p : Addr) (u : Value) (hp : M p.block) : Fr M a (b.setCell p u) :=
  ⟨h.os, h.tape, h.output, by simpa [World.setCell] using h.size, fun k hk hn => by rw [Below.heap_setCell _ _ _ _ (fun e => hn (by rw [e]; exact hp))]; exact h.block k hk hn⟩
theorem Fr.drew (h : Fr M a b) : Fr M a b.drew := ⟨h.os, h.tape, h.output, h.size, h.block⟩
end

/-- The page is b, loose. -/
def St.put (S : St) (pg : Int) (y : Bs) : St := { S with loose := S.loose ++ [(pg, y)] }
theorem Tryz.infoW : (Tryz.prog.info? 79).map (fun i => (i.zero, i.size, i.bytes)) = some (some (.agg #[.int .i64 0, .slice none 0 0]), 2, 32) := by kernel_rfl
theorem sliceW_one (x y : Value) (w : World) : (Instr.buildSlice 73 1 #[(0, .agg #[x, y])]).run Tryz.prog w = .ok (.slice (some ⟨w.heap.size, 0, none⟩) 1 1) (w.alloc (.cells #[x, y] 79)) := by
  kernel_rfl
section
variable {ops : Array Oper} {o : Oper} {a : Act} {w : World} {K : Act → World → Prop} {Q : Exit → Act → World → Prop} {E : Prop}
theorem step_sliceW (hgd : o.guard = none) (x : Operand) (ho : o.op = .buildSlice 73 1 #[(0, x)]) (u v : Value) (hx : a.eval x = .agg #[u, v])
    (h : K (a.put o.dst (.slice (some ⟨w.heap.size, 0, none⟩) 1 1)) (w.alloc (.cells #[u, v] 79))) : if Region.wanted o (yielded ops a.tmps) = true then Oper.wp Tryz.prog o a w K Q else E := by
  have hw : Region.wanted o (yielded ops a.tmps) = true := by simp [Region.wanted, hgd]
  rw [if_pos hw]
  unfold Oper.wp execOp
  simp only [ho, List.map_toArray, List.map_cons, List.map_nil, hx, Sem.run_bind, sliceW_one u v, Result.andThen]
  exact h
theorem step_append (hgd : o.guard = none) (s x : Operand) (t : TypeId) (ho : o.op = .call { callee := .builtin .append, args := #[s, x], argTypes := #[t, t] }) {v u v' : Value} {w' : World} (hs : a.eval s = v) (hx : a.eval x = u)
    (hr : (Builtin.append_ #[t, t] o.type #[v, u]).run Tryz.prog w = .ok v' w') (h : K (a.put o.dst v') w') : if Region.wanted o (yielded ops a.tmps) = true then Oper.wp Tryz.prog o a w K Q else E := by
  have hw : Region.wanted o (yielded ops a.tmps) = true := by simp [Region.wanted, hgd]
  rw [if_pos hw]
  unfold Oper.wp execOp
  simp only [ho, resolve, invoke, builtin, Sem.run_bind, Sem.run_pure, Result.andThen_ok, List.map_toArray, List.map_cons, List.map_nil, hs, hx, hr]
  exact h
end
theorem Ow.ofDrew {w w1 : World} {v : Value} {l : List Int} (h : Ow w.drew w1 v l) : Ow w w1 v l := ⟨h.own, ⟨h.below.os, h.below.tape, h.below.output, h.below.size, h.below.block⟩, h.bd⟩
/-- One more loose write: what it leaves. -/
theorem put_end {w w1 w3 : World} {p q : Nat} {lo : Value} {F : Nat → Prop} {S : St} {pg : Int} {ad : Option Addr} {cap : Nat} {l : List Int} {v' : Value} {o : Obj} (h : St0 w p q lo F S) (how : Ow w w1 (.slice ad l.length cap) l) (hl : l.length ≤ 4096) (hp : 0 ≤ pg ∧ pg < S.safe.length) (hfew : S.loose.length < 1000000)
    (hown : w3.ownsRow 0 79 2 v' (S.loose.length + 1) (flatW S.loose ++ [.int .i64 pg, .slice ad l.length cap])) (hgrow : (w1.alloc o).grownBy w3 lo.ownBlock) (hloc : v'.ownBlock = lo.ownBlock ∨ v'.ownBlock = some (w1.alloc o).heap.size) :
    ∃ F', St0 (w3.setCell ⟨p, 1, none⟩ v') p q v' F' (S.put pg ⟨ad, cap, l⟩) ∧ Fr (Mine p q lo F) w (w3.setCell ⟨p, 1, none⟩ v') ∧ ∀ k, Mine p q v' F' k → Mine p q lo F k ∨ (w.heap.size ≤ k ∧ k < (w3.setCell ⟨p, 1, none⟩ v').heap.size) := by
  obtain ⟨hb, hin⟩ := ow_bs how hl
  have hB := how.below
  have s1 := hB.size
  have s2 : (w1.alloc o).heap.size = w1.heap.size + 1 := by simp
  have s3 := hgrow.size
  have lp := h.lt (k := p) (.inl rfl)
  have lq := h.lt (k := q) (.inr (.inl rfl))
  have e12 : ∀ k, k < w1.heap.size → (w1.alloc o).heap[k]? = w1.heap[k]? := fun k hk => by rw [Below.heap_alloc _ _ _ (by simpa using hk)]
  have k3 : ∀ k, k < w1.heap.size → lo.ownBlock ≠ some k → w3.heap[k]? = w1.heap[k]? := fun k hk hn => by rw [hgrow.block k (by omega) (fun e => hn e.symm)]; exact e12 k hk
  have nlp : lo.ownBlock ≠ some p := fun e => (h.nlo p e).1 rfl
  have nlq : lo.ownBlock ≠ some q := fun e => (h.nlo q e).2.1 rfl
  have k4 : ∀ k, k < w1.heap.size → lo.ownBlock ≠ some k → k ≠ p → (w3.setCell ⟨p, 1, none⟩ v').heap[k]? = w1.heap[k]? := fun k hk hn hkp => by rw [Below.heap_setCell _ _ _ _ hkp]; exact k3 k hk hn
  have k5 : ∀ k, k < w.heap.size → lo.ownBlock ≠ some k → k ≠ p → (w3.setCell ⟨p, 1, none⟩ v').heap[k]? = w.heap[k]? := fun k hk hn hkp => by rw [k4 k (by omega) hn hkp]; exact hB.block k hk
  have hF : ∀ k, F k → (w3.setCell ⟨p, 1, none⟩ v').heap[k]? = w.heap[k]? := fun k hf => k5 k (h.ltF k hf) (fun e => (h.nlo k e).2.2 hf) (fun e => h.nF.1 (e ▸ hf))
  have sz : (w3.setCell ⟨p, 1, none⟩ v').heap.size = w3.heap.size := by simp [World.setCell]
  have hvb : ∀ k, v'.ownBlock = some k → lo.ownBlock = some k ∨ w1.heap.size + 1 = k := fun k e => by
    rcases hloc with h1 | h1
    · left; rw [← h1]; exact e
    · right; rw [h1, s2] at e; exact Option.some.inj e
  refine ⟨fun k => F k ∨ (w.heap.size ≤ k ∧ k < w1.heap.size), ⟨?_, ?_, ?_, ?_, ?_, h.npq, ⟨fun e => e.elim h.nF.1 (by omega), fun e => e.elim h.nF.2 (by omega)⟩, ?_, ?_, h.small, by simp [St.put]; omega, h.pos⟩, ⟨?_, ?_, ?_, by omega, ?_⟩, ?_⟩
  · have c3 : w3.heap[p]? = some (.cells (stC q lo S) 75 (0, 0)) := by rw [k3 p (by omega) nlp, hB.block p lp]; exact h.cells
    rw [heap_setCell_same w3 p 1 _ _ v' c3]
    rfl
  · show _ = some (Obj.cells (S.safe.map Bs.v).toArray _ _)
    rw [k5 q lq nlq (Ne.symm h.npq)]; exact h.safe
  · have : flatW (S.put pg ⟨ad, cap, l⟩).loose = flatW S.loose ++ [.int .i64 pg, .slice ad l.length cap] := by simp [St.put, flatW_append, flatW, Bs.v]
    rw [this]
    have hlen : (S.put pg ⟨ad, cap, l⟩).loose.length = S.loose.length + 1 := by simp [St.put]
    rw [hlen]
    refine owns_row_keep hown fun k e => Below.heap_setCell _ _ _ _ (fun ek => ?_)
    have ek : k = p := ek
    subst ek
    rcases hvb k e with h1 | h1
    · exact nlp h1
    · omega
  · intro x hx
    exact ⟨(h.ps x hx).1.keep (h.ps x hx).2 hF, fun a e => .inl ((h.ps x hx).2 a e)⟩
  · intro x hx
    have hx : x ∈ S.loose ++ [(pg, ⟨ad, cap, l⟩)] := hx
    rcases List.mem_append.1 hx with hx | hx
    · have := h.ls x hx
      exact ⟨this.1.keep this.2.1 hF, fun a e => .inl (this.2.1 a e), this.2.2⟩
    · have : x = (pg, ⟨ad, cap, l⟩) := by simpa using hx
      subst this
      refine ⟨hb.keep hin fun k hk => ?_, fun a e => .inr (hin a e), hp⟩
      exact k4 k hk.2 (fun e => by have := h.ltlo e; omega) (by omega)
  · intro k e
    rcases hvb k e with h1 | h1
    · exact ⟨(h.nlo k h1).1, (h.nlo k h1).2.1, fun e => e.elim (h.nlo k h1).2.2 (by have := h.ltlo h1; omega)⟩
    · exact ⟨by omega, by omega, fun e => e.elim (fun hf => by have := h.ltF k hf; omega) (by omega)⟩
  · intro k e
    rw [sz]
    rcases e with hf | hk
    · have := h.ltF k hf; omega
    · omega
  · exact hgrow.os.trans hB.os
  · exact hgrow.tape.trans hB.tape
  · exact hgrow.output.trans hB.output
  · exact fun k hk hn => k5 k hk (fun e => hn (.inr (.inr (.inl e)))) (fun e => hn (.inl e))
  · intro k hk
    rw [sz]
    rcases hk with hk | hk | hk | hk | hk
    · exact .inl (.inl hk)
    · exact .inl (.inr (.inl hk))
    · have := (hown.lt k hk).2
      rcases hvb k hk with h1 | h1
      · exact .inl (.inr (.inr (.inl h1)))
      · right; omega
    · exact .inl (.inr (.inr (.inr hk)))
    · right; omega
end Go.Proofs.YtbfajoeilpkofaaGreatDoor
/- The loose writes are done, and forgotten. -/
namespace Go.Proofs.YtbfajoeilpkofaaGreatDoor
open Go.RowKit

attribute [local go_sem ↓] Go.wp_at_zero Go.wp_at_succ

/-- The loose writes of which K tells are done in their order. -/
def setF (K : Nat → Bool) : Nat → List (Int × Bs) → List Bs → List Bs
  | _, [], s => s
  | i, x :: r, s => setF K (i + 1) r (if K i = true then s.set x.1.toNat x.2 else s)
theorem setF_snoc (K : Nat → Bool) (x : Int × Bs) : ∀ (L : List (Int × Bs)) (i : Nat) (s : List Bs), setF K i (L ++ [x]) s = (if K (i + L.length) = true then (setF K i L s).set x.1.toNat x.2 else setF K i L s)
  | [], i, s => by simp [setF]
  | y :: r, i, s => by
    have := setF_snoc K x r (i + 1) (if K i = true then s.set y.1.toNat y.2 else s)
    simp only [List.cons_append, setF, this, List.length_cons]
    rw [show i + 1 + r.length = i + (r.length + 1) from by omega]
theorem setF_length (K : Nat → Bool) : ∀ (L : List (Int × Bs)) (i : Nat) (s : List Bs), (setF K i L s).length = s.length
  | [], _, _ => rfl
  | y :: r, i, s => by
    rw [setF, setF_length K r]
    split <;> simp
theorem setF_mem (K : Nat → Bool) : ∀ (L : List (Int × Bs)) (i : Nat) (s : List Bs) (x : Bs), x ∈ setF K i L s → x ∈ s ∨ ∃ pg, (pg, x) ∈ L
  | [], _, _, _, h => .inl h
  | y :: r, i, s, x, h => by
    rcases setF_mem K r _ _ x h with h1 | ⟨pg, h1⟩
    · split at h1
      · rcases List.mem_or_eq_of_mem_set h1 with h2 | h2
        · exact .inl h2
        · exact .inr ⟨y.1, by rw [h2]; simp⟩
      · exact .inl h1
    · exact .inr ⟨pg, by simp [h1]⟩
def St.settled (S : St) (K : Nat → Bool) : St := { S with safe := setF K 0 S.loose S.safe, loose := [] }
theorem setCells_at (g : Nat) : ∀ (vs : List Value) (off : Nat) (w : World) (pre post : List Value) (t : TypeId), w.heap[g]? = some (.cells (pre ++ post).toArray t (0, 0)) → pre.length = off → vs.length ≤ post.length →
    (w.setCells g off vs).heap[g]? = some (.cells (pre ++ vs ++ post.drop vs.length).toArray t (0, 0))
  | [], _, w, pre, post, t, h, _, _ => by simpa [World.setCells] using h
  | v :: r, off, w, pre, p :: post, t, h, hp, hl => by
    rw [World.setCells]
    have h1 : (w.setCell ⟨g, off, none⟩ v).heap[g]? = some (.cells ((pre ++ [v]) ++ post).toArray t (0, 0)) := by
      rw [heap_setCell_same w g off _ t v h]
      congr 2
      apply Array.toList_inj.1
      simp [← hp]
    have := setCells_at g r (off + 1) _ (pre ++ [v]) post t h1 (by simp [hp]) (by simpa using hl)
    simpa using this
  | v :: r, off, w, pre, [], t, h, hp, hl => by simp at hl
theorem setCells_frm (g : Nat) : ∀ (vs : List Value) (off : Nat) (w : World), Frm [g] w (w.setCells g off vs)
  | [], _, w => Frm.refl _ w
  | v :: r, off, w => ((Frm.refl [g] w).setCell ⟨g, off, none⟩ v (by simp)).trans (setCells_frm g r (off + 1) _)


theorem setCells_size (g : Nat) : ∀ (vs : List Value) (off : Nat) (w : World), (w.setCells g off vs).heap.size = w.heap.size
  | [], _, w => rfl
  | v :: r, off, w => by rw [World.setCells, setCells_size g r]; simp [World.setCell]
theorem zeroCells_size (z : Array Value) (n : Nat) : (Builtin.zeroCells z n).size = n * z.size := by simp [Builtin.zeroCells]
theorem zeroW (w : World) : (zeroValue 79).run Tryz.prog w = .ok (.agg #[.int .i64 0, .slice none 0 0]) w := by kernel_rfl
/-- 'clear' of the loose writes. -/
theorem run_clearW (w : World) (lo : Value) (n : Nat) (xs : List Value) (h : w.ownsRow 0 79 2 lo n xs) (ty : TypeId) :
    ∃ w', (Builtin.clear_ #[73] ty #[lo]).run Tryz.prog w = .ok (.tuple #[]) w' ∧ (∀ k, lo.ownBlock ≠ some k → w'.heap[k]? = w.heap[k]?) ∧ w'.os = w.os ∧ w'.tape = w.tape ∧ w'.output = w.output ∧ w'.heap.size = w.heap.size ∧
      ((lo = .slice none 0 0) ∨ ∃ g cap, lo = .slice (some ⟨g, 0, none⟩) n cap ∧ w'.ownsRow 0 79 2 (.slice (some ⟨g, 0, none⟩) 0 cap) 0 []) := by
  rcases h.2 with ⟨rfl, rfl⟩ | ⟨g, cap, cur, rfl, hb, hg, hcap, hmax, hsz, htk⟩
  · exact ⟨w, by simp [Builtin.clear_, run_underlying Tryz.underlying73], fun _ _ => rfl, rfl, rfl, rfl, rfl, .inl rfl⟩
  · cases n with
    | zero =>
      refine ⟨w, by simp [Builtin.clear_, run_underlying Tryz.underlying73], fun _ _ => rfl, rfl, rfl, rfl, rfl, .inr ⟨g, cap, rfl, rfl, .inr ⟨g, cap, cur, rfl, hb, hg, by omega, hmax, hsz, by simp⟩⟩⟩
    | succ n =>
      have hlen : (Builtin.zeroCells #[.int .i64 0, .slice none 0 0] (n + 1)).toList.length = (n + 1) * 2 := by simp [Builtin.zeroCells]
      have hle : (n + 1) * 2 ≤ cur.size := by rw [hsz]; omega
      have hst := run_storeCells_cells (P := Tryz.prog) g 0 (Builtin.zeroCells #[.int .i64 0, .slice none 0 0] (n + 1)).toList 0 w ?_ ?_ ?_
      · have hF := setCells_frm g (Builtin.zeroCells #[.int .i64 0, .slice none 0 0] (n + 1)).toList 0 w
        have hsame := setCells_size g (Builtin.zeroCells #[.int .i64 0, .slice none 0 0] (n + 1)).toList 0 w
        have hnew := setCells_at g (Builtin.zeroCells #[.int .i64 0, .slice none 0 0] (n + 1)).toList 0 w [] cur.toList 79 (by simpa using hg) rfl (by rw [hlen]; simpa using hle)
        refine ⟨_, ?_, fun k hk => ?_, hF.os, hF.tape, hF.output, hsame, .inr ⟨g, cap, rfl, rfl, .inr ⟨g, cap, _, rfl, hb, hnew, by omega, hmax, ?_, by simp⟩⟩⟩
        · simp only [Nat.add_zero] at hst
          simp [Builtin.clear_, run_underlying Tryz.underlying73, Value.cells, hst]
        · by_cases hlt : k < w.heap.size
          · exact hF.block k hlt (by simp; intro e; exact hk (by rw [e]; rfl))
          · rw [Array.getElem?_eq_none (by omega), Array.getElem?_eq_none (by omega)]
        · simp only [List.nil_append, List.size_toArray, List.length_append, List.length_drop, hlen, Array.length_toList]
          omega
      · intro j hj
        rw [hlen] at hj
        rw [show 0 + 0 + j = j from by omega, cell_of_row w g j _ _ _ hg]
        simp; omega
      · intro j _
        exact frozen_of_row w g _ _ _ hg
      · intro v hv
        simp only [Builtin.zeroCells, Array.toList_map, List.mem_map] at hv
        obtain ⟨a, _, rfl⟩ := hv
        have : a % 2 < 2 := Nat.mod_lt _ (by omega)
        rcases (show a % 2 = 0 ∨ a % 2 = 1 by omega) with e | e <;> simp [e] <;> rfl
/-- The loose writes, forgotten. -/
def cut0 : Value → Value
  | .slice a _ c => .slice a 0 c
  | v => v
/-- What is left when the loose writes were done. -/
def SetR (p q : Nat) (lo : Value) (F : Nat → Prop) (S : St) (K : Nat → Bool) (w : World) (e : Ending) (w' : World) : Prop :=
  e = .returned (.tuple #[]) ∧ St0 w' p q (cut0 lo) F (S.settled K) ∧ Fr (Mine p q lo F) w w'
theorem cut0_own (lo : Value) : (cut0 lo).ownBlock = lo.ownBlock := by
  cases lo with
  | slice a n c => cases a <;> rfl
  | _ => rfl
theorem cut0_mine {p q : Nat} {lo : Value} {F : Nat → Prop} {k : Nat} : Mine p q (cut0 lo) F k ↔ Mine p q lo F k := by unfold Mine; rw [cut0_own]
theorem settle_end {w w1 w2 : World} {p q : Nat} {lo : Value} {F : Nat → Prop} {S : St} {K : Nat → Bool} (h : St0 w p q lo F S) (hq : w1.heap[q]? = some (.cells ((setF K 0 S.loose S.safe).map Bs.v).toArray 29 (0, 0))) (hF : Frm [q] w w1)
    (hk : ∀ k, lo.ownBlock ≠ some k → w2.heap[k]? = w1.heap[k]?) (hos : w2.os = w1.os ∧ w2.tape = w1.tape ∧ w2.output = w1.output ∧ w2.heap.size = w1.heap.size)
    (hcl : (lo = .slice none 0 0) ∨ ∃ g cap, lo = .slice (some ⟨g, 0, none⟩) S.loose.length cap ∧ w2.ownsRow 0 79 2 (.slice (some ⟨g, 0, none⟩) 0 cap) 0 []) : SetR p q lo F S K w (.returned (.tuple #[])) (w2.setCell ⟨p, 1, none⟩ (cut0 lo)) := by
  have lp := h.lt (k := p) (.inl rfl)
  have s1 := hF.size
  have nlp : lo.ownBlock ≠ some p := fun e => (h.nlo p e).1 rfl
  have nlq : lo.ownBlock ≠ some q := fun e => (h.nlo q e).2.1 rfl
  have sz : (w2.setCell ⟨p, 1, none⟩ (cut0 lo)).heap.size = w1.heap.size := by simp [World.setCell, hos.2.2.2]
  have k2 : ∀ k, k < w.heap.size → lo.ownBlock ≠ some k → k ≠ p → k ≠ q → (w2.setCell ⟨p, 1, none⟩ (cut0 lo)).heap[k]? = w.heap[k]? := fun k hlt h1 h2 h3 => by
    rw [Below.heap_setCell _ _ _ _ h2, hk k h1]; exact hF.block k hlt (by simpa using h3)
  have hFk : ∀ k, F k → (w2.setCell ⟨p, 1, none⟩ (cut0 lo)).heap[k]? = w.heap[k]? := fun k hf => k2 k (h.ltF k hf) (fun e => (h.nlo k e).2.2 hf) (fun e => h.nF.1 (e ▸ hf)) (fun e => h.nF.2 (e ▸ hf))
  refine ⟨rfl, ⟨?_, ?_, ?_, ?_, ?_, h.npq, h.nF, fun k e => h.nlo k (by rw [← cut0_own]; exact e), fun k hf => by have := h.ltF k hf; omega, ?_, by simp [St.settled], ?_⟩, ⟨?_, ?_, ?_, by omega, ?_⟩⟩
  · have c2 : w2.heap[p]? = some (.cells (stC q lo S) 75 (0, 0)) := by
      rw [hk p nlp, hF.block p lp (by simpa using h.npq)]; exact h.cells
    rw [heap_setCell_same w2 p 1 _ _ (cut0 lo) c2]
    simp [stC, St.settled, setF_length]
  · rw [Below.heap_setCell _ _ _ _ (Ne.symm h.npq), hk q nlq]; exact hq
  · rcases hcl with rfl | ⟨g, cap, rfl, ho⟩
    · exact World.ownsRow_nil _ _ _ _
    · exact owns_row_keep ho fun k e => Below.heap_setCell _ _ _ _ (fun ek => by
        have ek : k = p := ek
        have : g = k := by rw [cut0_own] at e; simpa [Value.ownBlock] using e
        exact nlp (by rw [← ek, ← this]; rfl))
  · intro x hx
    rcases setF_mem K _ _ _ x hx with h1 | ⟨pg, h1⟩
    · exact ⟨(h.ps x h1).1.keep (h.ps x h1).2 hFk, (h.ps x h1).2⟩
    · exact ⟨(h.ls _ h1).1.keep (h.ls _ h1).2.1 hFk, (h.ls _ h1).2.1⟩
  · intro x hx; cases hx
  · show (setF K 0 S.loose S.safe).length ≤ 4096
    rw [setF_length]; exact h.small
  · show 0 < (setF K 0 S.loose S.safe).length
    rw [setF_length]; exact h.pos
  · exact hos.1.trans hF.os
  · exact hos.2.1.trans hF.tape
  · exact hos.2.2.1.trans hF.output
  · exact fun k hlt hn => k2 k hlt (fun e => hn (.inr (.inr (.inl e)))) (fun e => hn (.inl e)) (fun e => hn (.inr (.inl e)))
end Go.Proofs.YtbfajoeilpkofaaGreatDoor
