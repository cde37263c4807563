/- Rows of changes that came in; two shelves beside the document's rows. -/
import Derived.Test.YtmekplaonlpfkaaGreatDoorOwnShelf44
import Derived.Test.YtmekplaonlpfkaaGreatDoorOwnShelf45
import Derived.Test.YtmekplaonlpfkaaGreatDoorOwnShelf32
namespace Go.Proofs.YtmekplaonlpfkaaGreatDoor
open Go.RowKit Go.Maps Go.Sort

/-- Rows of changes as they came in. -/
structure RwIn (w : World) (ad : Option Addr) (n : Nat) (X : Nat → List Cg) : Prop where
  at_ : 0 < n → ∃ b off, ad = some ⟨b, off, none⟩ ∧ ∀ i, i < n → ∃ a c, w.cell? ⟨b, off + i, none⟩ = some (.slice a (X i).length c) ∧ CgAt w a (X i)
  size : ∀ i, i < n → (X i).length ≤ maxLen ∧ ∀ x ∈ X i, x.k.length ≤ 140737488355328 ∧ x.v.length ≤ 140737488355328
theorem RwIn.get {w W : World} {b off n : Nat} {X : Nat → List Cg} (h : RwIn w (some ⟨b, off, none⟩) n X) (hb : Below w.heap.size w W) {i : Nat} (hi : i < n) : ∃ a c, W.cell? ⟨b, off + i, none⟩ = some (.slice a (X i).length c) ∧ CgAt W a (X i) := by
  obtain ⟨b', off', e, hc⟩ := h.at_ (by omega)
  cases e
  obtain ⟨a, c, h1, h2⟩ := hc i hi
  exact ⟨a, c, (hb.cell (p := ⟨b, off + i, none⟩) (World.block_lt_of_cell? w _ h1)).trans h1, h2.below hb⟩
theorem sameT (A : Nat → Prop) (sh p fr n N : Nat) (L : List Lf) (c : Ct) (B : Nat → Prop) (v : Value) (M : List Lf) (w : World) (h : ShU A w sh p fr n N L c) (hm : LrB B w v M) (hl : M.length ≤ 1000) (hkl : ∀ y ∈ M, y.k.length ≤ 100000) (hk : kvs L = kvs M) : Calls Tryz.prog 14 #[.pointer (some ⟨sh, 0, none⟩), v, .int .i64 (n : Int)] w fun e w' => e = .returned (.bool true) ∧ Below w.heap.size w w' := by
  have := sameA A sh p fr n N L c B v M w h hm hl hkl
  rwa [decide_eq_true hk] at this
theorem COk.of_long {C : List Cg} (h : longB C = false) : COk C ∧ C.length ≤ 100 := by
  obtain ⟨h1, h2⟩ := longB_not h
  exact ⟨⟨by omega, fun x hx => by have := h2 x hx; omega⟩, by omega⟩
/-- Two shelves on one store, and the document's two rows. -/
structure ApI (w wr : World) (A : Nat → Prop) (p s t : Nat) (c : Ct) (Sa Sb Ra Rb : List Lf) (av bv : Value) : Prop where
  tw : TwU A wr s t p 0 10 10 10 20 Sa Sb c
  la : Laid c 0 10 Sa
  lb : Laid c 10 10 Sb
  ra : LrB (fun k => ¬ A k) wr av Ra
  rb : LrB (fun k => ¬ A k) wr bv Rb
  low : LowA A w.heap.size wr
  below : Below w.heap.size w wr
section
variable {w wr w' : World} {A : Nat → Prop} {p s t : Nat} {c c' : Ct} {Sa Sb Ra Rb S1 S2 R : List Lf} {av bv v : Value}
theorem ApI.next (h : ApI w wr A p s t c Sa Sb Ra Rb av bv) (hb : Below wr.heap.size wr w') : ApI w w' A p s t c Sa Sb Ra Rb av bv :=
  ⟨h.tw.below hb, h.la, h.lb, h.ra.below hb, h.rb.below hb, h.low.more hb.size, Below.transS h.below hb⟩
theorem ApI.set (h : ApI w wr A p s t c Sa Sb Ra Rb av bv) (ht : TwU (upA A wr w') w' s t p 0 10 10 10 20 S1 S2 c') (l1 : Laid c' 0 10 S1) (l2 : Laid c' 10 10 S2) (hf : Fr A wr w') : ApI w w' (upA A wr w') p s t c' S1 S2 Ra Rb av bv :=
  ⟨ht, l1, l2, h.ra.fr hf, h.rb.fr hf, h.low.up h.below.size hf.size, h.below.trans (hf.below h.below.size fun k hk => (h.low k hk).1)⟩
theorem ApI.rowA (h : ApI w wr A p s t c Sa Sb Ra Rb av bv) (hb : Below wr.heap.size wr w') (hr : LrB (fun k => (¬ A k) ∨ wr.heap.size ≤ k) w' v R) : ApI w w' A p s t c Sa Sb R Rb v bv := by
  have h1 := h.next hb
  exact ⟨h1.tw, h1.la, h1.lb, hr.mono fun k hk _ => by rcases hk with hk | hk; exact hk; exact fun hA => by have := (h.low k hA).2; omega, h1.rb, h1.low, h1.below⟩
theorem ApI.rowB (h : ApI w wr A p s t c Sa Sb Ra Rb av bv) (hb : Below wr.heap.size wr w') (hr : LrB (fun k => (¬ A k) ∨ wr.heap.size ≤ k) w' v R) : ApI w w' A p s t c Sa Sb Ra R av v := by
  have h1 := h.next hb
  exact ⟨h1.tw, h1.la, h1.lb, h1.ra, hr.mono fun k hk _ => by rcases hk with hk | hk; exact hk; exact fun hA => by have := (h.low k hA).2; omega, h1.low, h1.below⟩
end
/-- A Set by the first shelf, and the document's. -/
theorem ApI.setA {w wr : World} {A : Nat → Prop} {p s t : Nat} {c : Ct} {Sa Sb Ra Rb : List Lf} {av bv : Value} (h : ApI w wr A p s t c Sa Sb Ra Rb av bv) (ad : Option Addr) (cap : Nat) (cs : List Cg) (hc : CgAt wr ad cs) (hok : COk cs) :
    Calls Tryz.prog 16 #[.pointer (some ⟨s, 0, none⟩), .slice ad cs.length cap] wr fun e w' => (∃ x, e = .returned x) ∧ ∃ A' c', ApI w w' A' p s t c' (setD 10 Sa cs).1 Sb Ra Rb av bv := by
  refine (set2 A s t p 0 10 10 10 20 Sa Sb c ad cap cs wr h.tw hc hok).mono ?_
  rintro e w' ⟨rfl, h1, h2⟩
  obtain ⟨oa, hi, hl⟩ := h.tw.first.ok
  obtain ⟨ob, _, _⟩ := h.tw.symm.first.ok
  have e1 := (setD_setI oa 0 c cs).1
  refine ⟨⟨_, rfl⟩, _, _, h.set (by rw [e1]; exact h1) ?_ ?_ h2⟩
  · rw [e1]; exact setI_laid cs hi hl (by omega) oa (by omega) h.la
  · exact setI_apart cs hi (by omega) ob (by omega) (by omega) h.lb
theorem ApI.setB {w wr : World} {A : Nat → Prop} {p s t : Nat} {c : Ct} {Sa Sb Ra Rb : List Lf} {av bv : Value} (h : ApI w wr A p s t c Sa Sb Ra Rb av bv) (ad : Option Addr) (cap : Nat) (cs : List Cg) (hc : CgAt wr ad cs) (hok : COk cs) :
    Calls Tryz.prog 16 #[.pointer (some ⟨t, 0, none⟩), .slice ad cs.length cap] wr fun e w' => (∃ x, e = .returned x) ∧ ∃ A' c', ApI w w' A' p s t c' Sa (setD 10 Sb cs).1 Ra Rb av bv := by
  refine (set2 A t s p 10 10 0 10 20 Sb Sa c ad cap cs wr h.tw.symm hc hok).mono ?_
  rintro e w' ⟨rfl, h1, h2⟩
  obtain ⟨oa, hi, hl⟩ := h.tw.first.ok
  obtain ⟨ob, _, _⟩ := h.tw.symm.first.ok
  have e1 := (setD_setI ob 10 c cs).1
  refine ⟨⟨_, rfl⟩, _, _, h.set (by rw [e1]; exact h1.symm) ?_ ?_ h2⟩
  · exact setI_apart cs hi (by omega) oa (by omega) (by omega) h.la
  · rw [e1]; exact setI_laid cs hi hl (by omega) ob (by omega) h.lb
theorem ApI.docA {w wr : World} {A : Nat → Prop} {p s t : Nat} {c : Ct} {Sa Sb Ra Rb : List Lf} {av bv : Value} (h : ApI w wr A p s t c Sa Sb Ra Rb av bv) (hok : LOk 10 Ra) (ad : Option Addr) (cap : Nat) (cs : List Cg) (hc : CgAt wr ad cs) (hcl : longB cs = false) :
    Calls Tryz.prog 21 #[av, .int .i64 10, .slice ad cs.length cap] wr fun e w' => (∃ v' x y z, e = .returned (.tuple #[v', x, y, z]) ∧ ApI w w' A p s t c Sa Sb (setD 10 Ra cs).1 Rb v' bv) := by
  obtain ⟨h1, h2⟩ := COk.of_long hcl
  refine (docSet_any (fun k => ¬ A k) 10 av Ra ad cap cs wr h.ra hok (by omega) hc h2 h1 (frN_length hok)).mono ?_
  rintro e w' ⟨v', rfl, h3, h4⟩
  exact ⟨v', _, _, _, rfl, h.rowA h4 h3⟩
theorem ApI.docB {w wr : World} {A : Nat → Prop} {p s t : Nat} {c : Ct} {Sa Sb Ra Rb : List Lf} {av bv : Value} (h : ApI w wr A p s t c Sa Sb Ra Rb av bv) (hok : LOk 10 Rb) (ad : Option Addr) (cap : Nat) (cs : List Cg) (hc : CgAt wr ad cs) (hcl : longB cs = false) :
    Calls Tryz.prog 21 #[bv, .int .i64 10, .slice ad cs.length cap] wr fun e w' => (∃ v' x y z, e = .returned (.tuple #[v', x, y, z]) ∧ ApI w w' A p s t c Sa Sb Ra (setD 10 Rb cs).1 av v') := by
  obtain ⟨h1, h2⟩ := COk.of_long hcl
  refine (docSet_any (fun k => ¬ A k) 10 bv Rb ad cap cs wr h.rb hok (by omega) hc h2 h1 (frN_length hok)).mono ?_
  rintro e w' ⟨v', rfl, h3, h4⟩
  exact ⟨v', _, _, _, rfl, h.rowB h4 h3⟩
end Go.Proofs.YtmekplaonlpfkaaGreatDoor
/- Rows of changes that came in: how they lie. -/
namespace Go.Proofs.YtmekplaonlpfkaaGreatDoor
open Go.ChangeShapes Go.WideShapes Go.RowKit Go.ChangeAt

/-- What all weights are at most. -/
def Light {H : Type} (t : TypeId) (d : DataW H) : Prop := ∀ q ∈ d.weights Tryz.prog t, q ≤ 140737488351232
theorem weights_mem_all {H : Type} {P : Program} {e : TypeId} : ∀ {l : List (DataW H)} {d : DataW H}, d ∈ l → ∀ q ∈ d.weights P e, q ∈ DataW.weightsAll P e l
  | d0 :: l, d, hd, q, hq => by
    simp only [DataW.weightsAll, List.mem_append]
    rcases List.mem_cons.1 hd with rfl | h
    · exact Or.inl hq
    · exact Or.inr (weights_mem_all h q hq)
theorem take1 {α : Type} (l : List α) (i : Nat) (h : i < l.length) : (l.drop i).take 1 = [l[i]] := by
  rw [List.drop_eq_getElem_cons h]; rfl
theorem change_in {H : Type} {enc : TypeId × Value → H} {W : World} {base fuel : Nat} {cs : List Value} {x : DataW H × List MemPlace} {spare : Nat → Bool} {held : Bool}
    (hf : DataW.trod enc Tryz.prog W base spare held fuel 114 cs = some x) (hw : Light 114 x.1) :
    ∃ c : Cg, cs = cgL c ∧ c.k.length ≤ 140737488351232 ∧ c.v.length ≤ 140737488351232 := by
  obtain ⟨xs, m, rfl, rfl, hcl, hxl, hfs⟩ := DataW.trod_struct Tryz.underlying114 hf
  have hcl' : cs.length = 3 := by rw [hcl]; kernel_rfl
  have hxl' : xs.length = 3 := hxl
  have g0 : DataW.trod enc Tryz.prog W base spare held m 9 ((cs.drop 0).take (Tryz.prog.cellsOf 9)) = xs[0]? := hfs 0 _ rfl
  have g1 : DataW.trod enc Tryz.prog W base spare held m 9 ((cs.drop 1).take (Tryz.prog.cellsOf 9)) = xs[1]? := hfs 1 _ rfl
  have g2 : DataW.trod enc Tryz.prog W base spare held m 4 ((cs.drop 2).take (Tryz.prog.cellsOf 4)) = xs[2]? := hfs 2 _ rfl
  have c3 : Tryz.prog.cellsOf 9 = 1 := by kernel_rfl
  have cB : Tryz.prog.cellsOf 4 = 1 := by kernel_rfl
  rw [c3] at g0 g1
  rw [cB] at g2
  rw [take1 cs 0 (by omega), List.getElem?_eq_getElem (by omega)] at g0
  rw [take1 cs 1 (by omega), List.getElem?_eq_getElem (by omega)] at g1
  rw [take1 cs 2 (by omega), List.getElem?_eq_getElem (by omega)] at g2
  have w0 : Light 9 (xs[0]'(by omega)).1 := fun q hq => hw q (by
    simp only [DataW.weights, Tryz.underlying114]
    exact DataW.weights_mem_each (j := 0) (t := 9) (d := (xs[0]'(by omega)).1) rfl (by rw [List.getElem?_map, List.getElem?_eq_getElem (by omega)]; rfl) q hq)
  have w1 : Light 9 (xs[1]'(by omega)).1 := fun q hq => hw q (by
    simp only [DataW.weights, Tryz.underlying114]
    exact DataW.weights_mem_each (j := 1) (t := 9) (d := (xs[1]'(by omega)).1) rfl (by rw [List.getElem?_map, List.getElem?_eq_getElem (by omega)]; rfl) q hq)
  obtain ⟨s0, h0, e0, _⟩ := DataW.trod_string Tryz.underlying9 g0
  obtain ⟨s1, h1, e1, _⟩ := DataW.trod_string Tryz.underlying9 g1
  obtain ⟨b2, h2, _⟩ := DataW.trod_bool Tryz.underlying4 g2
  refine ⟨⟨s0.data.toList, s1.data.toList, b2⟩, ?_, ?_, ?_⟩
  · simp at h0 h1 h2
    apply List.ext_getElem
    · rw [hcl']; rfl
    · intro i hi _
      rw [hcl'] at hi
      simp only [cgL, encStr]
      match i, hi with
      | 0, _ => simpa using h0
      | 1, _ => simpa using h1
      | 2, _ => simpa using h2
  · exact w0 _ (by rw [e0]; simp [DataW.weights])
  · exact w1 _ (by rw [e1]; simp [DataW.weights])
/-- Changes that came in. -/
theorem changes_in {H : Type} {enc : TypeId × Value → H} {W : World} {base fuel : Nat} {cs : List Value} {x : DataW H × List MemPlace} {spare : Nat → Bool} {held : Bool} (hsp : ∀ b, spare b = true)
    (hf : DataW.trod enc Tryz.prog W base spare held fuel 51 cs = some x) (hw : Light 51 x.1) :
    ∃ (a : Option Addr) (cap : Nat) (C : List Cg), cs = [.slice a C.length cap] ∧ CgAt W a C ∧ C.length ≤ maxLen ∧ ∀ y ∈ C, y.k.length ≤ 140737488355328 ∧ y.v.length ≤ 140737488355328 := by
  rcases Go.Deep.open_slice Tryz.underlying51 hf with ⟨hcs, hx⟩ | ⟨ad, l, c, m, n, D, Pl, hcs, _, hl, hcm, hm, hx, hcell⟩
  · exact ⟨none, 0, [], hcs, (fun h => by simp at h), by simp, fun y hy => by cases hy⟩
  · rw [hsp, if_pos rfl] at hm
    subst hm
    have cT : Tryz.prog.cellsOf 114 = 3 := by kernel_rfl
    rw [cT] at hcell
    have each : ∀ i, i < l → ∃ t : Cg, W.cells? base (ad.add (i * 3)) 3 = some (cgL t) ∧ t.k.length ≤ 140737488351232 ∧ t.v.length ≤ 140737488351232 := by
      intro i hi
      obtain ⟨cs', h1, h2⟩ := hcell i (by omega)
      have wi : Light 114 (D i) := fun q hq => hw q (by
        rw [hx]
        simp only [DataW.weights, Tryz.underlying51]
        exact List.mem_cons_of_mem _ (List.mem_append_left _ (weights_mem_all (List.mem_map.2 ⟨i, List.mem_range.2 hi, rfl⟩) q hq)))
      obtain ⟨t, rfl, h3⟩ := change_in h2 wi
      exact ⟨t, h1, h3⟩
    obtain ⟨X, hX⟩ := Go.Deep.choose_lt each
    have hlen : ((List.range l).map X).length = l := by simp
    refine ⟨some ad, m, (List.range l).map X, by rw [hlen]; exact hcs, fun hn => ?_, by rw [hlen]; omega, fun y hy => ?_⟩
    · rw [hlen] at hn
      obtain ⟨b, off, spot⟩ := ad
      obtain ⟨_, _, h0⟩ := World.cells?_some (hX 0 (by omega)).1
      have h0' := h0 0 (by omega)
      have hc0 : W.cell? ⟨b, off, spot⟩ = some (encStr (X 0).k) := by simpa [Addr.add, cgL] using h0'
      have hspot : spot = none := World.cell?_spot hc0
      subst hspot
      refine ⟨b, off, rfl, fun j y hj => ?_⟩
      have hjl : j < l := by have := (List.getElem?_eq_some_iff.1 hj).1; rwa [hlen] at this
      have hy : y = X j := by simp [hjl] at hj; exact hj.symm
      subst hy
      obtain ⟨_, _, h1⟩ := World.cells?_some (hX j hjl).1
      have hh : ∀ q v, q < 3 → (cgL (X j))[q]? = some v → W.cell? ⟨b, off + j * 3 + q, none⟩ = some v := fun q v hq hv => by
        have h2 := h1 q hq
        rw [Addr.add_lit, Addr.add_lit, hv] at h2
        exact h2
      exact ⟨hh 0 _ (by omega) rfl, hh 1 _ (by omega) rfl, hh 2 _ (by omega) rfl⟩
    · obtain ⟨j, hj, rfl⟩ := List.mem_map.1 hy
      have := (hX j (List.mem_range.1 hj)).2
      omega
theorem chrows_in {H : Type} {enc : TypeId × Value → H} {W : World} {base fuel : Nat} {a : Option Addr} {len cap : Nat} {x : DataW H × List MemPlace} {spare : Nat → Bool} {held : Bool} (hsp : ∀ b, spare b = true)
    (hf : DataW.trod enc Tryz.prog W base spare held fuel 42 (Value.slice a len cap).cells.toList = some x) (hw : Light 42 x.1) :
    ∃ X : Nat → List Cg, len ≤ maxLen ∧ RwIn W a len X := by
  rcases Go.Deep.open_slice1 Tryz.underlying42 (by kernel_rfl) hf with ⟨hcs, hx⟩ | ⟨ad, l, c, m, n, V, D, Pl, hcs, _, hl, hcm, hm, hx, hcell⟩
  · simp [Value.cells] at hcs
    obtain ⟨rfl, rfl, rfl⟩ := hcs
    exact ⟨fun _ => [], by omega, ⟨fun h => by omega, fun i hi => by omega⟩⟩
  · simp [Value.cells] at hcs
    obtain ⟨rfl, rfl, rfl⟩ := hcs
    rw [hsp, if_pos rfl] at hm
    subst hm
    have each : ∀ i, i < len → ∃ r : Option Addr × Nat × List Cg, W.cell? (ad.add i) = some (.slice r.1 r.2.2.length r.2.1) ∧ CgAt W r.1 r.2.2 ∧ r.2.2.length ≤ maxLen ∧ ∀ y ∈ r.2.2, y.k.length ≤ 140737488355328 ∧ y.v.length ≤ 140737488355328 := by
      intro i hi
      obtain ⟨h1, h2⟩ := hcell i (by omega)
      have wi : Light 51 (D i) := fun q hq => hw q (by
        rw [hx]
        simp only [DataW.weights, Tryz.underlying42]
        exact List.mem_cons_of_mem _ (List.mem_append_left _ (weights_mem_all (List.mem_map.2 ⟨i, List.mem_range.2 hi, rfl⟩) q hq)))
      obtain ⟨a', c', C, h3, h4, h5, h6⟩ := changes_in hsp h2 wi
      simp at h3
      exact ⟨(a', c', C), by rw [h1, h3], h4, h5, h6⟩
    obtain ⟨X, hX⟩ := Go.Deep.choose_lt each
    refine ⟨fun i => (X i).2.2, by omega, ⟨fun hn => ?_, fun i hi => (hX i hi).2.2⟩⟩
    obtain ⟨b, off, spot⟩ := ad
    have h0 := (hX 0 (by omega)).1
    have hspot : spot = none := by simpa [Addr.add] using World.cell?_spot h0
    subst hspot
    refine ⟨b, off, rfl, fun i hi => ⟨(X i).1, (X i).2.1, ?_, (hX i hi).2.1⟩⟩
    have := (hX i hi).1
    rw [Addr.add_lit] at this
    exact this
end Go.Proofs.YtmekplaonlpfkaaGreatDoor
