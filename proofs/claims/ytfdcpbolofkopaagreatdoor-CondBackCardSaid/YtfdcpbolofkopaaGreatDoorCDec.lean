/- cond.Decode of what Put laid: what is held on the way. -/
import Derived.Test.YtfdcpbolofkopaaGreatDoorCTakeW
namespace Go.Proofs.YtfdcpbolofkopaaGreatDoor
open Go.RowKit

/-- The branches from i on, so many, as they are laid. -/
def laidT (X : Nat → Bv) : Nat → Nat → List Int
  | _, 0 => []
  | i, k + 1 => laidBr (X i) ++ laidT X (i + 1) k
theorem laidT_snoc (X : Nat → Bv) : ∀ k i, laidT X i (k + 1) = laidT X i k ++ laidBr (X (i + k))
  | 0, i => by simp [laidT]
  | k + 1, i => by
    have h := laidT_snoc X k (i + 1)
    rw [laidT, h, laidT, List.append_assoc, show i + 1 + k = i + (k + 1) from by omega]
theorem laidBrs_laidT (X : Nat → Bv) : ∀ n, laidBrs X n = laidT X 0 n
  | 0 => rfl
  | n + 1 => by rw [laidBrs, laidBrs_laidT X n, laidT_snoc, Nat.zero_add]
theorem laidBr_pos (x : Bv) : 1 ≤ (laidBr x).length := by
  have := laidK_ge (fun _ => (x.n : Int)) 1
  simp only [laidBr, List.length_append]
  omega
theorem laidT_ge (X : Nat → Bv) : ∀ k i, k ≤ (laidT X i k).length
  | 0, _ => by simp
  | k + 1, i => by
    have h1 := laidT_ge X k (i + 1)
    have h2 := laidBr_pos (X i)
    simp only [laidT, List.length_append]
    omega
theorem laidC_parts (X : Nat → Bv) (n : Nat) (hn : n ≤ 1000000) : laidC X n = uB (n : Int) ++ laidT X 0 n := by
  have h1 : laidK (fun _ => (n : Int)) 1 = uB (n : Int) := by simp [laidK, u64_nat n (by omega)]
  rw [laidC, h1, laidBrs_laidT]
theorem flatB_congr2 {X Y : Nat → Bv} {A B : Nat → Option Addr × Nat} : ∀ n, (∀ i, i < n → X i = Y i ∧ A i = B i) → flatB X A n = flatB Y B n
  | 0, _ => rfl
  | n + 1, h => by rw [flatB, flatB, flatB_congr2 n (fun i hi => h i (by omega)), (h n (by omega)).1, (h n (by omega)).2]
/-- What Decode has on the way: its result's block (the first new one), the variable's block C, its branches. -/
structure DcR (w wr : World) (C : Nat) (v : Value) (Y : Nat → Bv) (A : Nat → Option Addr × Nat) (i : Nat) : Prop where
  below : Below w.heap.size w wr
  res : wr.heap[w.heap.size]? = some (.cells #[.slice none 0 0] 30 (0, 0))
  box : wr.heap[C]? = some (.cells #[v] 30 (0, 0))
  own : wr.ownsRow (C + 1) 55 35 v i (flatB Y A i)
  keys : ∀ j, j < i → IsAt wr (A j).1 (Y j).n (Y j).z
  apart : ∀ j, j < i → ∀ a, (A j).1 = some a → C < a.block ∧ a.block < wr.heap.size ∧ v.ownBlock ≠ some a.block
  small : ∀ j, j < i → (Y j).n ≤ 16
/-- Where the reader is. -/
def At (X : Nat → Bv) (N m i : Nat) (Y : Nat → Bv) (wr : World) (rb : Nat) : Prop :=
  (m = N ∧ N ≤ 8 ∧ (∀ j, j < i → RdOk (X j) ∧ Alike (Y j) (X j)) ∧ RS wr rb (some (laidT X i (N - i)))) ∨ (¬ COk X N ∧ RS wr rb none)
theorem own_isAt {w : World} {B : Nat} {va : Option Addr} {vc : Nat} {L : List Int} (h : w.ownsRow B 3 1 (.slice va L.length vc) L.length (iC L)) : IsAt w va L.length (fi L) ∧ ∀ a, va = some a → B ≤ a.block ∧ a.block < w.heap.size := by
  rcases h.2 with ⟨e, e2⟩ | ⟨g, cap, cur, e, hbs, hg, _⟩
  · simp only [Value.slice.injEq] at e
    obtain ⟨rfl, _, _⟩ := e
    exact ⟨fun hn => by omega, fun a h => by cases h⟩
  · simp only [Value.slice.injEq] at e
    obtain ⟨rfl, _, rfl⟩ := e
    refine ⟨fun hn => ⟨g, 0, rfl, fun j hj => ?_⟩, fun a h => by cases h; exact ⟨hbs, lt_of_block hg⟩⟩
    have := h.cells (g := g) rfl j (.int .i64 (fi L j)) (by simp [iC, fi, hj])
    rwa [Addr.add_lit] at this
theorem DcR.keep {w wr w' : World} {rb C : Nat} {v : Value} {Y : Nat → Bv} {A : Nat → Option Addr × Nat} {i : Nat} (h : DcR w wr C v Y A i) (hf : Frm [rb] wr w') (hwr : w.heap.size < rb) (hrb : rb < C) : DcR w w' C v Y A i := by
  obtain ⟨h1, h0, h2, h3, h4, h5, h6⟩ := h
  refine ⟨h1.trans (hf.below h1.size (fun k hk => by simp at hk; omega)), hf.heap h0 (by simp; omega), hf.heap h2 (by simp; omega), ⟨h3.1, ?_⟩, fun j hj => isAt_frm (h4 j hj) hf (fun a e => ?_), fun j hj a e => ?_, h6⟩
  · rcases h3.2 with hn | ⟨g, cap, cur, e, hbs, hg, rest⟩
    · exact .inl hn
    · exact .inr ⟨g, cap, cur, e, hbs, hf.heap hg (by simp; omega), rest⟩
  · have := (h5 j hj a e).1
    simp; omega
  · obtain ⟨p, q, r⟩ := h5 j hj a e
    exact ⟨p, Nat.lt_of_lt_of_le q hf.size, r⟩
theorem At.frm {X : Nat → Bv} {N m i : Nat} {Y : Nat → Bv} {S : List Nat} {w w' : World} {rb : Nat} (h : At X N m i Y w rb) (hf : Frm S w w') (hS : ∀ k, k ∈ S → rb < k) : At X N m i Y w' rb := by
  rcases h with ⟨h1, h2, h3, h4⟩ | ⟨h1, h2⟩
  · exact .inl ⟨h1, h2, h3, h4.frm hf hS⟩
  · exact .inr ⟨h1, h2.frm hf hS⟩
/-- One more branch. -/
theorem DcR.push {w ws w6 : World} {rb C : Nat} {v v' : Value} {Y : Nat → Bv} {A : Nat → Option Addr × Nat} {i : Nat} {y : Bv} {ka : Option Addr} {kc : Nat} (h : DcR w ws C v Y A i) (hown : w6.ownsRow (C + 1) 55 35 v' (i + 1) (flatB Y A i ++ brl y ka kc)) (hg : ws.grownBy w6 v.ownBlock) (hloc : v'.ownBlock = v.ownBlock ∨ v'.ownBlock = some ws.heap.size)
    (hI : IsAt ws ka y.n y.z) (hA : ∀ a, ka = some a → C < a.block ∧ a.block < ws.heap.size ∧ v.ownBlock ≠ some a.block) (hy : y.n ≤ 16) (hwr : w.heap.size < rb) (hrb : rb < C) :
    (w6.cell? ⟨C, 0, none⟩ = some v ∧ w6.frozen? ⟨C, 0, none⟩ = false) ∧ DcR w (w6.setCell ⟨C, 0, none⟩ v') C v' (fun j => if j = i then y else Y j) (fun j => if j = i then (ka, kc) else A j) (i + 1) ∧ ∃ S, Frm S ws (w6.setCell ⟨C, 0, none⟩ v') ∧ ∀ k, k ∈ S → rb < k := by
  have hlo : ∀ k, v.ownBlock = some k → C + 1 ≤ k := fun k e => (h.own.lt k e).1
  have hC := lt_of_block h.box
  have hW := lt_of_block h.res
  have b6 : w6.heap[C]? = some (.cells #[v] 30 (0, 0)) := by
    rw [hg.block _ hC (fun e => by have := hlo _ e.symm; omega)]; exact h.box
  have r6 : w6.heap[w.heap.size]? = some (.cells #[.slice none 0 0] 30 (0, 0)) := by
    rw [hg.block _ hW (fun e => by have := hlo _ e.symm; omega)]; exact h.res
  have hF : Frm (C :: v.ownBlock.toList) ws (w6.setCell ⟨C, 0, none⟩ v') := ((Frm.refl _ ws).grown hg (fun k e => by simp [e])).setCell _ _ (by simp)
  have hset : (w6.setCell ⟨C, 0, none⟩ v').heap[C]? = some (.cells #[v'] 30 (0, 0)) := heap_setCell_same w6 C 0 _ _ _ b6
  have hFlo : ∀ k, k ∈ C :: v.ownBlock.toList → rb < k := fun k hk => by
    rcases List.mem_cons.1 hk with rfl | hk
    · omega
    · have : v.ownBlock = some k := by simpa using hk
      have := hlo k this
      omega
  have hap : ∀ j, j < i + 1 → ∀ a, (if j = i then (ka, kc) else A j).1 = some a → C < a.block ∧ a.block < ws.heap.size ∧ v.ownBlock ≠ some a.block := by
    intro j hj a e
    by_cases ej : j = i
    · rw [if_pos ej] at e; exact hA a e
    · rw [if_neg ej] at e; exact h.apart j (by omega) a e
  refine ⟨⟨by rw [cell_of_row w6 C 0 _ _ _ b6]; rfl, frozen_of_row w6 C 0 _ _ b6⟩, ⟨?_, ?_, hset, ?_, fun j hj => ?_, fun j hj a e => ?_, fun j hj => ?_⟩, _, hF, hFlo⟩
  · exact h.below.trans (hF.below h.below.size (fun k hk => by have := hFlo k hk; omega))
  · rw [Below.heap_setCell _ _ _ _ (by show w.heap.size ≠ C; omega)]; exact r6
  · have hfl : flatB (fun j => if j = i then y else Y j) (fun j => if j = i then (ka, kc) else A j) (i + 1) = flatB Y A i ++ brl y ka kc := by
      rw [flatB, flatB_congr2 i (Y := Y) (B := A) (fun j hj => ⟨if_neg (by omega), if_neg (by omega)⟩)]
      simp only [if_true]
    rw [hfl]
    refine ⟨hown.1, ?_⟩
    rcases hown.2 with hn | ⟨g, cap, cur, e, hbs, hgc, rest⟩
    · exact .inl hn
    · exact .inr ⟨g, cap, cur, e, hbs, by rw [Below.heap_setCell _ _ _ _ (by show g ≠ C; omega)]; exact hgc, rest⟩
  · by_cases ej : j = i
    · subst ej
      simp only [if_true]
      exact isAt_frm hI hF (fun a e hm => by
        obtain ⟨p, q, r⟩ := hA a e
        rcases List.mem_cons.1 hm with e2 | e2
        · omega
        · exact r (by simpa using e2))
    · simp only [if_neg ej]
      exact isAt_frm (h.keys j (by omega)) hF (fun a e hm => by
        obtain ⟨p, q, r⟩ := h.apart j (by omega) a e
        rcases List.mem_cons.1 hm with e2 | e2
        · omega
        · exact r (by simpa using e2))
  · obtain ⟨p, q, r⟩ := hap j hj a e
    refine ⟨p, Nat.lt_of_lt_of_le q hF.size, fun e2 => ?_⟩
    rcases hloc with h1 | h1
    · exact r (h1.symm.trans e2)
    · rw [h1] at e2
      have : ws.heap.size = a.block := by simpa using e2
      omega
  · by_cases ej : j = i
    · simp only [if_pos ej]; exact hy
    · simp only [if_neg ej]; exact h.small j (by omega)
/-- What take gives Decode. -/
def DecPost (w : World) (rb C : Nat) (v : Value) (X : Nat → Bv) (N m i : Nat) (Y : Nat → Bv) (A : Nat → Option Addr × Nat) (e : Ending) (w' : World) : Prop :=
  ∃ (y : Bv) (ka : Option Addr) (kc : Nat), e = .returned (.agg (bv y ka kc)) ∧ y.n ≤ 16 ∧ IsAt w' ka y.n y.z ∧ (∀ a, ka = some a → C < a.block ∧ a.block < w'.heap.size ∧ v.ownBlock ≠ some a.block) ∧ DcR w w' C v Y A i ∧ At X N m (i + 1) (fun j => if j = i then y else Y j) w' rb
theorem alike_take {x : Bv} (hx : x.Ok) (h : RdOk x) : Alike ⟨((List.range x.n).map fun i => u64 (x.z i)).length, fi ((List.range x.n).map fun i => u64 (x.z i)), x.lk, u64 x.af, u64 x.ol⟩ x := by
  refine ⟨by simp, fun j hj => ?_, fun j _ => rfl, ?_, ?_⟩
  · have hj' : j < x.n := by simpa using hj
    show fi ((List.range x.n).map fun i => u64 (x.z i)) j = x.z j
    have : fi ((List.range x.n).map fun i => u64 (x.z i)) j = u64 (x.z j) := by simp [fi, hj']
    rw [this]
    exact (u64_small (hx.z j hj') (by have := h.1.2 j hj'; omega)).1
  · exact (u64_small hx.af (by have := h.2.1; omega)).1
  · exact (u64_small hx.ol (by have := h.2.2; omega)).1
theorem dec_take (w ws : World) (rb C : Nat) (v : Value) (X : Nat → Bv) (N m i : Nat) (Y : Nat → Bv) (A : Nat → Option Addr × Nat) (him : i < m) (hX : ∀ j, j < N → (X j).Ok) (hx : ∀ j, j < N → (X j).n ≤ 1000000) (h : DcR w ws C v Y A i) (hA : At X N m i Y ws rb) (hwr : w.heap.size < rb) (hrb : rb < C) :
    Calls Tryz.prog 21 #[.pointer (some ⟨rb, 0, none⟩)] ws (DecPost w rb C v X N m i Y A) := by
  have hC := lt_of_block h.box
  have fin : ∀ (st : Option (Bv × List Int)) (e : Ending) (w' : World), TakePost ws rb st e w' → (∀ L lk af ol, Cur4 st L lk af ol w' rb → At X N m (i + 1) (fun j => if j = i then ⟨L.length, fi L, lk, af, ol⟩ else Y j) w' rb) → DecPost w rb C v X N m i Y A e w' := by
    rintro st e w' ⟨L, lk, af, ol, va, vc, rfl, hL, hown, hF, hC4⟩ hat
    obtain ⟨hI, hlt⟩ := own_isAt hown
    refine ⟨_, va, vc, rfl, hL, hI, fun a e => ?_, h.keep hF hwr hrb, hat _ _ _ _ hC4⟩
    obtain ⟨p, q⟩ := hlt a e
    refine ⟨by omega, q, fun e2 => ?_⟩
    have := (h.own.lt _ e2).2
    omega
  rcases hA with ⟨rfl, h8, hj, hR⟩ | ⟨hno, hR⟩
  · obtain ⟨k, hk⟩ : ∃ k, m - i = k + 1 := ⟨m - i - 1, by omega⟩
    rw [hk, laidT] at hR
    refine (take_any rb (some (X i, laidT X (i + 1) k)) ws (by omega) (fun x l e => by cases e; exact hx i him) hR).mono ?_
    intro e w' hT
    refine fin _ e w' hT (fun L lk af ol hc => ?_)
    rcases hc with ⟨x, l, e1, h1, rfl, rfl, rfl, rfl, h6⟩ | ⟨h1, h2⟩
    · cases e1
      refine .inl ⟨rfl, h8, fun j hji => ?_, ?_⟩
      · by_cases e : j = i
        · subst e
          simp only [if_true]
          exact ⟨h1, alike_take (hX j him) h1⟩
        · simp only [if_neg e]
          exact hj j (by omega)
      · rw [show m - (i + 1) = k from by omega]; exact h6
    · refine .inr ⟨fun hok => ?_, h2⟩
      exact h1 _ _ rfl (hok.2 i him).rd
  · refine (take_any rb none ws (by omega) (fun x l e => by cases e) hR).mono ?_
    intro e w' hT
    refine fin _ e w' hT (fun L lk af ol hc => ?_)
    rcases hc with ⟨x, l, e1, _⟩ | ⟨h1, h2⟩
    · cases e1
    · exact .inr ⟨hno, h2⟩
section
variable {ops : Array Oper} {o : Oper} {a : Act} {w : World} {K : Act → World → Prop} {Q : Exit → Act → World → Prop} {E : Prop}
theorem step_sliceB (hgd : o.guard = none) (x : Operand) (ho : o.op = .buildSlice 28 1 #[(0, x)]) (v : Bv) (ka : Option Addr) (kc : Nat) (hx : a.eval x = .agg (bv v ka kc))
    (h : K (a.put o.dst (.slice (some ⟨w.heap.size, 0, none⟩) 1 1)) (w.alloc (.cells (bv v ka kc) 55))) : if Region.wanted o (yielded ops a.tmps) = true then Oper.wp Tryz.prog o a w K Q else E := by
  have hw : Region.wanted o (yielded ops a.tmps) = true := by simp [Region.wanted, hgd]
  rw [if_pos hw]
  unfold Oper.wp execOp
  simp only [ho, List.map_toArray, List.map_cons, List.map_nil, hx, Sem.run_bind, slice_b, Result.andThen]
  exact h
theorem run_append_Br (w : World) (B q : Nat) (ty : TypeId) (v : Value) (i : Nat) (xs : List Value) (y : Bv) (ka : Option Addr) (kc : Nat) (hown : w.ownsRow B 55 35 v i xs) (hB : B ≤ w.heap.size) (hq : w.heap[q]? = some (.cells (bv y ka kc) 55 (0, 0))) (hi : i ≤ 1000000) :
    ∃ v' w1, (Builtin.append_ #[28, 28] ty #[v, .slice (some ⟨q, 0, none⟩) 1 1]).run Tryz.prog w = .ok v' w1 ∧ w1.ownsRow B 55 35 v' (i + 1) (xs ++ brl y ka kc) ∧ w.grownBy w1 v.ownBlock ∧ (v'.ownBlock = v.ownBlock ∨ v'.ownBlock = some w.heap.size) := by
  obtain ⟨i0, hi0, hz0, hz1, hz2⟩ := info_parts infoB
  obtain ⟨v', w1, hr, h2, h3, _, h5⟩ := run_append_own_at (P := Tryz.prog) w B 28 ty 55 i0 (.agg (bv b0 none 0)) 35 72 Tryz.underlying28 hi0 hz0 hz1 hz2 zero_b (by omega) v i xs hown ⟨q, 0, none⟩ 1 1 (brl y ka kc) (by rw [brl_length]) (fun j u hj => by
      rw [Addr.add_lit, Nat.zero_add, cell_of_row _ _ j _ _ _ hq]
      simpa [bv] using hj) (brl_one _ _ _) (by unfold maxLen; omega) (by omega) hB
  exact ⟨v', w1, hr, h2, h3, h5⟩
theorem step_append_Br (hgd : o.guard = none) (s x : Operand) (ho : o.op = .call { callee := .builtin .append, args := #[s, x], argTypes := #[28, 28] })
    (B q : Nat) (v : Value) (i : Nat) (xs : List Value) (y : Bv) (ka : Option Addr) (kc : Nat) (hs : a.eval s = v) (hx : a.eval x = .slice (some ⟨q, 0, none⟩) 1 1) (hown : w.ownsRow B 55 35 v i xs) (hB : B ≤ w.heap.size) (hq : w.heap[q]? = some (.cells (bv y ka kc) 55 (0, 0))) (hi : i ≤ 1000000)
    (h : ∀ v' w1, w1.ownsRow B 55 35 v' (i + 1) (xs ++ brl y ka kc) → w.grownBy w1 v.ownBlock → (v'.ownBlock = v.ownBlock ∨ v'.ownBlock = some w.heap.size) → K (a.put o.dst v') w1) : if Region.wanted o (yielded ops a.tmps) = true then Oper.wp Tryz.prog o a w K Q else E := by
  have hw : Region.wanted o (yielded ops a.tmps) = true := by simp [Region.wanted, hgd]
  rw [if_pos hw]
  obtain ⟨v', w1, hr, h2, h3, h4⟩ := run_append_Br w B q o.type v i xs y ka kc hown hB hq hi
  unfold Oper.wp execOp
  simp only [ho, resolve, invoke, builtin, Sem.run_bind, Sem.run_pure, Result.andThen_ok, List.map_toArray, List.map_cons, List.map_nil, hs, hx, hr]
  exact h v' w1 h2 h3 h4
end
theorem results_C2 {fn : Func} {p u : Tmp} (h : fn.results = #[.cell p 30, .tmp u]) (tmps : Array Value) (w : World) (g : Nat) (t : TypeId) (v : Value) (fr : Nat × Nat)
    (hp : tmps.getD p undef = .pointer (some ⟨g, 0, none⟩)) (hg : w.heap[g]? = some (.cells #[v] t fr)) :
    (results fn tmps).run Tryz.prog w = .ok (.tuple #[.agg #[v], tmps.getD u undef]) w := by
  have hp' : tmps[p]?.getD undef = .pointer (some ⟨g, 0, none⟩) := by simpa using hp
  simp [results, h, hp', asAddr, run_loadVar_row w g t 30 #[v] fr _ hg Tryz.underlying30 rfl szC]
/-- What is made of the branches that were read. -/
theorem DcR.brAt {w wr w' : World} {C : Nat} {v : Value} {Y : Nat → Bv} {A : Nat → Option Addr × Nat} {i : Nat} (h : DcR w wr C v Y A i) (hok : ∀ j, j < i → (Y j).Ok) (hw : ∀ k, C < k → k < wr.heap.size → w'.heap[k]? = wr.heap[k]?) : ∃ ad cap, v = .slice ad i cap ∧ BrAt w' ad i Y := by
  rcases h.own.2 with ⟨rfl, rfl⟩ | ⟨g, cap, cur, rfl, hg, hgc, _⟩
  · exact ⟨none, 0, rfl, BrAt.nil _ _ _⟩
  · refine ⟨_, cap, rfl, hok, fun hn => ⟨g, 0, rfl, fun j hj => ⟨(A j).1, (A j).2, fun r u hu => ?_, fun hn2 => ?_⟩⟩⟩
    · have hr : r < 35 := by
        have := (List.getElem?_eq_some_iff.1 hu).1
        rwa [brl_length] at this
      have := h.own.cells (g := g) rfl (j * 35 + r) u (by rw [flatB_at Y A i j r hj hr]; exact hu)
      rw [Addr.add_lit] at this
      rw [Nat.add_assoc, World.cell?_of_block (a := ⟨g, 0 + (j * 35 + r), none⟩) (hw g hg (lt_of_block hgc))]
      exact this
    · obtain ⟨b, off, e, hc⟩ := h.keys j hj hn2
      refine ⟨b, off, e, fun q hq => ?_⟩
      rw [World.cell?_of_block (a := ⟨b, off + q, none⟩) (hw b (h.apart j hj _ e).1 (h.apart j hj _ e).2.1)]
      exact hc q hq
end Go.Proofs.YtfdcpbolofkopaaGreatDoor
