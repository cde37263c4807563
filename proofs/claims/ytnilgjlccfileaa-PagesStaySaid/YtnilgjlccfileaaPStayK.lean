/- A store beside rows of one's own and an array of strings. -/
import Derived.Test.YtnilgjlccfileaaPActs
namespace Go.Proofs.Ytnilgjlccfileaa
open Go.RowKit

/-- A store, two rows of one's own and the block c, all apart. -/
structure Fld (w : World) (c p : Nat) (cs : Array Value) (tc : TypeId) (G : Nat → Prop) (S : St) (va vb : Value) (xa xb : List Value) (wr : World) : Prop where
  st : StAt wr G p S
  ra : wr.ownsRow 0 30 1 va xa.length xa
  rb : wr.ownsRow 0 3 1 vb xb.length xb
  gB : ∀ k, G k → w.heap.size ≤ k ∧ k < wr.heap.size ∧ k ≠ c ∧ va.ownBlock ≠ some k ∧ vb.ownBlock ≠ some k
  ba : ∀ k, va.ownBlock = some k → w.heap.size ≤ k ∧ k ≠ c ∧ vb.ownBlock ≠ some k
  bb : ∀ k, vb.ownBlock = some k → w.heap.size ≤ k ∧ k ≠ c
  cc : wr.heap[c]? = some (.cells cs tc (0, 0))
  cB : w.heap.size ≤ c
  bel : Below w.heap.size w wr
section
variable {w wr w1 : World} {c p : Nat} {cs : Array Value} {tc : TypeId} {G G' : Nat → Prop} {S S' : St} {va vb : Value} {xa xb : List Value}
theorem Fld.lta (h : Fld w c p cs tc G S va vb xa xb wr) {k : Nat} (e : va.ownBlock = some k) : k < wr.heap.size := (h.ra.lt k e).2
theorem Fld.ltb (h : Fld w c p cs tc G S va vb xa xb wr) {k : Nat} (e : vb.ownBlock = some k) : k < wr.heap.size := (h.rb.lt k e).2
/-- The store turns. -/
theorem Fld.store (h : Fld w c p cs tc G S va vb xa xb wr) (hs : StAt w1 (Gn G wr w1) p S') (hf : Fr G wr w1) : Fld w c p cs tc (Gn G wr w1) S' va vb xa xb w1 := by
  have hz := hf.size
  have lc := lt_of_block h.cc
  have hB := h.bel.size
  refine ⟨hs, owns_row_keep h.ra fun k e => hf.block k (h.lta e) (fun g => (h.gB k g).2.2.2.1 e), owns_row_keep h.rb fun k e => hf.block k (h.ltb e) (fun g => (h.gB k g).2.2.2.2 e), fun k hk => ?_, h.ba, h.bb, ?_, h.cB, h.bel.trans (hf.below hB fun k g => (h.gB k g).1)⟩
  · rcases hk with g | g
    · have := h.gB k g
      exact ⟨this.1, by omega, this.2.2⟩
    · exact ⟨by omega, g.2, by omega, fun e => by have := h.lta e; omega, fun e => by have := h.ltb e; omega⟩
  · rw [hf.block c lc (fun g => (h.gB c g).2.2.1 rfl)]; exact h.cc
theorem Fld.start (h : Fld w c p cs tc G S va vb xa xb wr) (hs : StAt w1 G p S') (hf : Fr G wr w1) : Fld w c p cs tc G S' va vb xa xb w1 := by
  have hB := h.bel.size
  have hz := hf.size
  have lc := lt_of_block h.cc
  exact ⟨hs, owns_row_keep h.ra fun k e => hf.block k (h.lta e) (fun g => (h.gB k g).2.2.2.1 e), owns_row_keep h.rb fun k e => hf.block k (h.ltb e) (fun g => (h.gB k g).2.2.2.2 e), fun k g => ⟨(h.gB k g).1, Nat.lt_of_lt_of_le (h.gB k g).2.1 hz, (h.gB k g).2.2⟩, h.ba, h.bb, by
    rw [hf.block c lc (fun g => (h.gB c g).2.2.1 rfl)]; exact h.cc, h.cB, h.bel.trans (hf.below hB fun k g => (h.gB k g).1)⟩
theorem Fld.below (h : Fld w c p cs tc G S va vb xa xb wr) (hb : Below wr.heap.size wr w1) : Fld w c p cs tc G S va vb xa xb w1 := h.start (h.st.below hb) (Fr.ofBelow hb)
/-- One more in the first row. -/
theorem Fld.appA (h : Fld w c p cs tc G S va vb xa xb wr) {va' u : Value} {w3 : World} {o : Obj} (hown : w3.ownsRow 0 30 1 va' (xa.length + 1) (xa ++ [u])) (hg : (wr.alloc o).grownBy w3 va.ownBlock) (hl : va'.ownBlock = va.ownBlock ∨ va'.ownBlock = some (wr.alloc o).heap.size) : Fld w c p cs tc G S va' vb (xa ++ [u]) xb w3 := by
  have hz := hg.size
  have s2 : (wr.alloc o).heap.size = wr.heap.size + 1 := by simp
  have lc := lt_of_block h.cc
  have hB := h.bel.size
  have kp : ∀ k, k < wr.heap.size → va.ownBlock ≠ some k → w3.heap[k]? = wr.heap[k]? := fun k hk hn => by rw [hg.block k (by omega) (fun e => hn e.symm), Below.heap_alloc _ _ _ (by omega)]
  have hv : ∀ k, va'.ownBlock = some k → va.ownBlock = some k ∨ wr.heap.size + 1 = k := fun k e => by
    rcases hl with h1 | h1
    · left; rw [← h1]; exact e
    · right; rw [h1, s2] at e; exact Option.some.inj e
  refine ⟨h.st.keep (by omega) fun k hk g => kp k hk (fun e => (h.gB k g).2.2.2.1 e), by simpa using hown, owns_row_keep h.rb fun k e => kp k (h.ltb e) (fun e2 => (h.ba k e2).2.2 e), fun k g => ?_, fun k e => ?_, h.bb, ?_, h.cB, ?_⟩
  · have := h.gB k g
    refine ⟨this.1, by omega, this.2.2.1, fun e => ?_, this.2.2.2.2⟩
    rcases hv k e with e1 | e1
    · exact this.2.2.2.1 e1
    · omega
  · rcases hv k e with e1 | e1
    · exact h.ba k e1
    · exact ⟨by omega, by omega, fun e2 => by have := h.ltb e2; omega⟩
  · rw [kp c lc (fun e => (h.ba c e).2.1 rfl)]; exact h.cc
  · exact h.bel.trans ⟨hg.os, hg.tape, hg.output, by omega, fun k hk => kp k (by omega) (fun e => by have := (h.ba k e).1; omega)⟩
/-- One more in the second row. -/
theorem Fld.appB (h : Fld w c p cs tc G S va vb xa xb wr) {vb' u : Value} {w3 : World} {o : Obj} (hown : w3.ownsRow 0 3 1 vb' (xb.length + 1) (xb ++ [u])) (hg : (wr.alloc o).grownBy w3 vb.ownBlock) (hl : vb'.ownBlock = vb.ownBlock ∨ vb'.ownBlock = some (wr.alloc o).heap.size) : Fld w c p cs tc G S va vb' xa (xb ++ [u]) w3 := by
  have hz := hg.size
  have s2 : (wr.alloc o).heap.size = wr.heap.size + 1 := by simp
  have lc := lt_of_block h.cc
  have hB := h.bel.size
  have kp : ∀ k, k < wr.heap.size → vb.ownBlock ≠ some k → w3.heap[k]? = wr.heap[k]? := fun k hk hn => by rw [hg.block k (by omega) (fun e => hn e.symm), Below.heap_alloc _ _ _ (by omega)]
  have hv : ∀ k, vb'.ownBlock = some k → vb.ownBlock = some k ∨ wr.heap.size + 1 = k := fun k e => by
    rcases hl with h1 | h1
    · left; rw [← h1]; exact e
    · right; rw [h1, s2] at e; exact Option.some.inj e
  refine ⟨h.st.keep (by omega) fun k hk g => kp k hk (fun e => (h.gB k g).2.2.2.2 e), owns_row_keep h.ra fun k e => kp k (h.lta e) (fun e2 => (h.ba k e).2.2 e2), by simpa using hown, fun k g => ?_, fun k e => ?_, fun k e => ?_, ?_, h.cB, ?_⟩
  · have := h.gB k g
    refine ⟨this.1, by omega, this.2.2.1, this.2.2.2.1, fun e => ?_⟩
    rcases hv k e with e1 | e1
    · exact this.2.2.2.2 e1
    · omega
  · refine ⟨(h.ba k e).1, (h.ba k e).2.1, fun e2 => ?_⟩
    rcases hv k e2 with e1 | e1
    · exact (h.ba k e).2.2 e1
    · have := h.lta e; omega
  · rcases hv k e with e1 | e1
    · exact h.bb k e1
    · exact ⟨by omega, by omega⟩
  · rw [kp c lc (fun e => (h.bb c e).2 rfl)]; exact h.cc
  · exact h.bel.trans ⟨hg.os, hg.tape, hg.output, by omega, fun k hk => kp k (by omega) (fun e => by have := (h.bb k e).1; omega)⟩
end
/-- What stands on a page when the writes were done: what stood there, or one that was written there. -/
theorem setF_at (K : Nat → Bool) : ∀ (L : List (Int × Bs)) (i : Nat) (s : List Bs) (j : Nat) (x : Bs), (∀ e ∈ L, 0 ≤ e.1) → (setF K i L s)[j]? = some x → s[j]? = some x ∨ ∃ e ∈ L, e.1 = (j : Int) ∧ e.2 = x
  | [], _, _, _, _, _, h => .inl h
  | y :: r, i, s, j, x, hp, h => by
    rcases setF_at K r _ _ j x (fun e he => hp e (by simp [he])) h with h1 | ⟨e, he, h1⟩
    · split at h1
      · rw [List.getElem?_set] at h1
        split at h1
        · rename_i hj
          split at h1
          · have hy := hp y (by simp)
            exact .inr ⟨y, by simp, by omega, by simpa using h1⟩
          · cases h1
        · exact .inl h1
      · exact .inl h1
    · exact .inr ⟨e, by simp [he], h1⟩
/-- Bytes as a string. -/
def strL (l : List Int) : ByteArray := strB (fn l) l.length
/-- The strings of the pages, of which i are told. -/
def strsA (S : St) (i : Nat) : Array Value := ((List.range 6).map fun j => Value.string (if j < i then strL ((S.safe[j]?).getD nilBs).l else ⟨#[]⟩)).toArray
theorem strsA_set (S : St) (i : Nat) : (strsA S i).setIfInBounds i (.string (strL ((S.safe[i]?).getD nilBs).l)) = strsA S (i + 1) := by
  apply Array.toList_inj.1
  simp only [strsA, List.setIfInBounds_toArray]
  apply List.ext_getElem
  · simp
  · intro j h1 h2
    rw [List.getElem_set]
    by_cases e : i = j
    · subst e; simp
    · have : (j < i + 1) = (j < i) := by apply propext; omega
      simp [e, this]
theorem strsA_at (S : St) {i j : Nat} (h : j < i) (h6 : j < 6) : (strsA S i)[j]? = some (.string (strL ((S.safe[j]?).getD nilBs).l)) := by simp [strsA, h, h6]
theorem strsA_size (S : St) (i : Nat) : (strsA S i).size = 6 := by simp [strsA]
theorem Fld.setC {w wr : World} {c p : Nat} {cs : Array Value} {tc : TypeId} {G : Nat → Prop} {S : St} {va vb : Value} {xa xb : List Value} (h : Fld w c p cs tc G S va vb xa xb wr) (i : Nat) (u : Value) : Fld w c p (cs.setIfInBounds i u) tc G S va vb xa xb (wr.setCell ⟨c, i, none⟩ u) := by
  have kp : ∀ k, k ≠ c → (wr.setCell ⟨c, i, none⟩ u).heap[k]? = wr.heap[k]? := fun k hk => Below.heap_setCell _ _ _ _ hk
  have sz : (wr.setCell ⟨c, i, none⟩ u).heap.size = wr.heap.size := by simp [World.setCell]
  exact ⟨h.st.keep (by omega) fun k _ g => kp k (h.gB k g).2.2.1, owns_row_keep h.ra fun k e => kp k (h.ba k e).2.1, owns_row_keep h.rb fun k e => kp k (h.bb k e).2, fun k g => by rw [sz]; exact h.gB k g, h.ba, h.bb, heap_setCell_same _ c i _ _ u h.cc, h.cB, h.bel.setCell (p := ⟨c, i, none⟩) h.cB _⟩
theorem Fld.drew {w wr : World} {c p : Nat} {cs : Array Value} {tc : TypeId} {G : Nat → Prop} {S : St} {va vb : Value} {xa xb : List Value} (h : Fld w c p cs tc G S va vb xa xb wr) : Fld w c p cs tc G S va vb xa xb wr.drew := h.start (h.st.keep (Nat.le_refl _) (fun _ _ _ => rfl)) (Fr.refl G wr).drew
theorem StAt.bound {w : World} {G : Nat → Prop} {p : Nat} {S : St} (h : StAt w G p S) : StAt w (fun k => G k ∧ k < w.heap.size) p S := by
  obtain ⟨q, lo, F, h0, hG⟩ := h
  exact ⟨q, lo, F, h0, fun k hk => ⟨hG k hk, h0.lt hk⟩⟩
/-- The store alone, and a new block beside it. -/
theorem Fld.new {w w1 : World} {p : Nat} {S : St} (h : StAt w1 (w.heap.size ≤ ·) p S) (hb : Below w.heap.size w w1) (cs : Array Value) (tc : TypeId) : Fld w w1.heap.size p cs tc (fun k => w.heap.size ≤ k ∧ k < w1.heap.size) S (.slice none 0 0) (.slice none 0 0) [] [] (w1.alloc (.cells cs tc)) :=
  ⟨h.bound.below ((Below.refl _ w1).alloc (Nat.le_refl _) _), World.ownsRow_nil _ _ _ _, World.ownsRow_nil _ _ _ _, fun k g => ⟨g.1, by simp; omega, by omega, by simp [Value.ownBlock], by simp [Value.ownBlock]⟩, fun k e => by simp [Value.ownBlock] at e, fun k e => by simp [Value.ownBlock] at e, heap_alloc_new w1 _, hb.size, hb.alloc hb.size _⟩
/-- Whether a page is the one that was safe, or one that was written. -/
def okB (s x : List Int) (i : Int) (L : List (Int × Bs)) (k : Nat) : Bool := ((strL x).toList == (strL s).toList) || (L.take k).any (fun e => e.1 == i && ((strL e.2.l).toList == (strL x).toList))
theorem okB_zero (s x : List Int) (i : Int) (L : List (Int × Bs)) : okB s x i L 0 = ((strL x).toList == (strL s).toList) := by simp [okB]
theorem okB_succ (s x : List Int) (i : Int) (L : List (Int × Bs)) {k : Nat} {e : Int × Bs} (h : L[k]? = some e) : okB s x i L (k + 1) = (okB s x i L k || (e.1 == i && ((strL e.2.l).toList == (strL x).toList))) := by
  simp only [okB, List.take_add_one, h, Option.toList_some, List.any_append, List.any_cons, List.any_nil, Bool.or_false, Bool.or_assoc]
/-- A store that is calm beside two rows: what was written is LS, the rows tell LA and LB. -/
def L3G (w : World) (c p : Nat) (S2 : St) (LA LB LS : List (Int × Bs)) (va vb : Value) (wr : World) : Prop :=
  ∃ G S, Fld w c p (strsA S2 6) 35 G S va vb (LA.map fun e => e.2.v) (LB.map fun e => .int .i64 e.1) wr ∧ Calm S ∧ S.safe = S2.safe ∧ S.loose.map (fun e => e.1) = LS.map (fun e => e.1) ∧ S.loose.map (fun e => e.2.l) = LS.map (fun e => e.2.l)
section
variable {w wr w1 : World} {c p : Nat} {S2 : St} {L LA LB LS : List (Int × Bs)} {va vb : Value}
theorem L3G.bel (h : L3G w c p S2 LA LB LS va vb wr) : Below w.heap.size w wr := by
  obtain ⟨G, S, hF, _⟩ := h
  exact hF.bel
theorem L3G.below (h : L3G w c p S2 LA LB LS va vb wr) (hb : Below wr.heap.size wr w1) : L3G w c p S2 LA LB LS va vb w1 := by
  obtain ⟨G, S, hF, r⟩ := h
  exact ⟨G, S, hF.below hb, r⟩
theorem L3G.drew (h : L3G w c p S2 LA LB LS va vb wr) : L3G w c p S2 LA LB LS va vb wr.drew := by
  obtain ⟨G, S, hF, r⟩ := h
  exact ⟨G, S, hF.drew, r⟩
theorem L3G.forms (h : L3G w c p S2 LA LB LS va vb wr) : (∃ a k, va = .slice a LA.length k) ∧ ∃ a k, vb = .slice a LB.length k := by
  obtain ⟨G, S, hF, _⟩ := h
  refine ⟨?_, ?_⟩
  · rcases hF.ra.2 with ⟨rfl, e⟩ | ⟨g, cap, cur, rfl, _⟩
    · exact ⟨none, 0, by simp at e; simp [e]⟩
    · exact ⟨some ⟨g, 0, none⟩, cap, by simp⟩
  · rcases hF.rb.2 with ⟨rfl, e⟩ | ⟨g, cap, cur, rfl, _⟩
    · exact ⟨none, 0, by simp at e; simp [e]⟩
    · exact ⟨some ⟨g, 0, none⟩, cap, by simp⟩
theorem wrE6 {S : St} (hc : Calm S) (h6 : S.safe.length = 6) (pg : Int) (n : Nat) : wrE S pg n = if ¬ (0 ≤ pg ∧ pg < 6) then 1 else if 4096 < n then 2 else 0 := by
  unfold wrE
  rw [h6, if_neg (show ¬ S.down = true by rw [hc.2.1]; decide)]
  rfl
theorem L3G.write (h : L3G w c p S2 LA LB L va vb wr) (h6 : S2.safe.length = 6) (hL : L.length < 1000) (pg : Int) (x : Bs) (hx : DtAt wr x) :
    Calls Try.prog 6 #[.pointer (some ⟨p, 0, none⟩), .int .i64 pg, .slice x.ad x.l.length x.cap] wr fun e w' =>
      ((0 ≤ pg ∧ pg < 6) ∧ x.l.length ≤ 4096 ∧ e = .returned .nilIface ∧ L3G w c p S2 LA LB (L ++ [(pg, x)]) va vb w') ∨ (¬ ((0 ≤ pg ∧ pg < 6) ∧ x.l.length ≤ 4096) ∧ (∃ v, v ≠ 0 ∧ e = .returned (.iface 44 (.int .i64 v))) ∧ L3G w c p S2 LA LB L va vb w') := by
  obtain ⟨G, S, hF, hc, hs, hl1, hl2⟩ := h
  have e6 := wrE6 hc (by rw [hs]; exact h6) pg x.l.length
  have hlen : S.loose.length = L.length := by have := congrArg List.length hl1; simpa using this
  refine (write_calm G p S pg x wr hF.st hc (by omega) hx).mono ?_
  rintro e w' ⟨rfl, S', hS, hFr, hor⟩
  have hF' := hF.store hS hFr
  rcases hor with ⟨he, y, hy, rfl⟩ | ⟨he, rfl⟩
  · left
    rw [e6] at he
    have h1 : 0 ≤ pg ∧ pg < 6 := by
      split at he
      · cases he
      · rename_i h; exact Classical.not_not.1 h
    have h2 : x.l.length ≤ 4096 := by
      rw [if_neg (by simpa using h1)] at he
      split at he
      · cases he
      · omega
    refine ⟨h1, h2, ?_, _, _, hF', hc, hs, by simp [St.put, hl1], by simp [St.put, hl2, hy]⟩
    rw [e6, if_neg (by simpa using h1), if_neg (by omega)]; rfl
  · right
    refine ⟨?_, ⟨_, he, by rw [errV_ne he]⟩, _, _, hF', hc, hs, hl1, hl2⟩
    rintro ⟨h1, h2⟩
    rw [e6, if_neg (by simpa using h1), if_neg (by omega)] at he
    exact he rfl
theorem L3G.appA (h : L3G w c p S2 L LB LS va vb wr) (hL : L.length < 1000) (pg : Int) (x : Bs) :
    ∃ va' w3, (Builtin.append_ #[38, 38] 38 #[va, .slice (some ⟨wr.heap.size, 0, none⟩) 1 1]).run Try.prog (wr.alloc (.cells #[.slice x.ad x.l.length x.cap] 30)) = .ok va' w3 ∧ L3G w c p S2 (L ++ [(pg, x)]) LB LS va' vb w3 := by
  obtain ⟨G, S, hF, r⟩ := h
  obtain ⟨va', w3, h1, h2, h3, h4⟩ := run_appRB (hF.ra.alloc (.cells #[.slice x.ad x.l.length x.cap] 30)) (heap_alloc_new wr (.cells #[.slice x.ad x.l.length x.cap] 30)) rfl (by simp; omega)
  refine ⟨va', w3, h1, G, S, ?_, r⟩
  have := hF.appA h2 h3 h4
  simpa [Bs.v] using this
theorem L3G.appB (h : L3G w c p S2 LA L LS va vb wr) (hL : L.length < 1000) (pg : Int) (x : Bs) :
    ∃ vb' w3, (Builtin.append_ #[23, 23] 23 #[vb, .slice (some ⟨wr.heap.size, 0, none⟩) 1 1]).run Try.prog (wr.alloc (.cells #[.int .i64 pg] 3)) = .ok vb' w3 ∧ L3G w c p S2 LA (L ++ [(pg, x)]) LS va vb' w3 := by
  obtain ⟨G, S, hF, r⟩ := h
  obtain ⟨vb', w3, h1, h2, h3, h4⟩ := run_appRI (hF.rb.alloc (.cells #[.int .i64 pg] 3)) (heap_alloc_new wr (.cells #[.int .i64 pg] 3)) rfl (by simp; omega)
  refine ⟨vb', w3, h1, G, S, ?_, r⟩
  have := hF.appB h2 h3 h4
  simpa using this
end
theorem StAt.nonneg {w : World} {G : Nat → Prop} {p : Nat} {S : St} (h : StAt w G p S) : ∀ e ∈ S.loose, 0 ≤ e.1 := by
  obtain ⟨q, lo, F, h0, _⟩ := h
  exact fun e he => (h0.ls e he).2.2.1
/-- Every page is one that was written to it, or the one that was safe. -/
theorem ok_end {S S2 : St} {L : List (Int × Bs)} {K : Nat → Bool} (hs : S.safe = S2.safe) (h1 : S.loose.map (fun e => e.1) = L.map (fun e => e.1)) (h2 : S.loose.map (fun e => e.2.l) = L.map (fun e => e.2.l)) (hp : ∀ e ∈ S.loose, 0 ≤ e.1) {j : Nat} (hj : j < S2.safe.length) :
    okB ((S2.safe[j]?).getD nilBs).l (((S.started K).safe[j]?).getD nilBs).l j L L.length = true := by
  have hl : j < (setF K 0 S.loose S.safe).length := by rw [setF_length, hs]; exact hj
  have e0 : (S.started K).safe = setF K 0 S.loose S.safe := rfl
  obtain ⟨x, hx⟩ : ∃ x, (setF K 0 S.loose S.safe)[j]? = some x := ⟨_, List.getElem?_eq_getElem hl⟩
  rw [e0, hx, Option.getD_some]
  rcases setF_at K S.loose 0 S.safe j x hp hx with h | ⟨e, he, h3, h4⟩
  · rw [hs] at h
    rw [h, Option.getD_some]
    simp [okB]
  · obtain ⟨k, hk, hke⟩ := List.getElem_of_mem he
    have hlen : S.loose.length = L.length := by have := congrArg List.length h1; simpa using this
    have hk' : k < L.length := by omega
    have q1 : (S.loose.map (fun e => e.1))[k]? = some e.1 := by rw [List.getElem?_map, List.getElem?_eq_getElem hk, hke]; rfl
    have q2 : (S.loose.map (fun e => e.2.l))[k]? = some e.2.l := by rw [List.getElem?_map, List.getElem?_eq_getElem hk, hke]; rfl
    rw [h1, List.getElem?_map, List.getElem?_eq_getElem hk', Option.map_some, Option.some.injEq] at q1
    rw [h2, List.getElem?_map, List.getElem?_eq_getElem hk', Option.map_some, Option.some.injEq] at q2
    have : L.any (fun e => e.1 == (j : Int) && ((strL e.2.l).toList == (strL x.l).toList)) = true := by
      rw [List.any_eq_true]
      refine ⟨L[k], List.getElem_mem hk', ?_⟩
      rw [q1, q2, h3, h4]
      simp
    simp [okB, this]
end Go.Proofs.Ytnilgjlccfileaa
