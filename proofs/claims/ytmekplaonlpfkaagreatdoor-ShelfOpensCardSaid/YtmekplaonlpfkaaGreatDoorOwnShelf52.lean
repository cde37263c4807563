/- Pages that came in; the document's Read: what stands in its loop. -/
import Derived.Test.YtmekplaonlpfkaaGreatDoorOwnShelf43
import Derived.Test.YtmekplaonlpfkaaGreatDoorOwnShelf41
import Derived.Test.YtmekplaonlpfkaaGreatDoorOwnShelf32
import Derived.Deep.CutBlock
import Derived.Deep.DeepCutAuto
namespace Go.Proofs.YtmekplaonlpfkaaGreatDoor
open Go.RowKit Go.Maps Go.Sort

/-- Pages as a slice of slices has them. -/
structure PgIn (w : World) (ad : Option Addr) (P : List Bs) : Prop where
  at_ : 0 < P.length → ∃ b off, ad = some ⟨b, off, none⟩ ∧ ∀ j x, P[j]? = some x → w.cell? ⟨b, off + j, none⟩ = some x.v
  each : ∀ x ∈ P, SlAt w x.ad x.l.length (fn x.l) ∧ (x.ad = none → x.l.length = 0 ∧ x.cap = 0) ∧ (∀ y, y ∈ x.l → 0 ≤ y ∧ y ≤ 255) ∧ x.l.length ≤ x.cap
theorem PgIn.get {w W : World} {b off : Nat} {P : List Bs} (h : PgIn w (some ⟨b, off, none⟩) P) (hb : Below w.heap.size w W) {j : Nat} {x : Bs} (hx : P[j]? = some x) : W.cell? ⟨b, off + j, none⟩ = some (.slice x.ad x.l.length x.cap) ∧ SlAt W x.ad x.l.length (fn x.l) ∧ (x.ad = none → x.l.length = 0 ∧ x.cap = 0) ∧ (∀ y, y ∈ x.l → 0 ≤ y ∧ y ≤ 255) ∧ x.l.length ≤ x.cap := by
  have hn : 0 < P.length := by have := (List.getElem?_eq_some_iff.1 hx).1; omega
  obtain ⟨b', off', e, hc⟩ := h.at_ hn
  cases e
  have h1 := hc j x hx
  obtain ⟨h2, h3, h4, h5⟩ := h.each x (List.mem_of_getElem? hx)
  exact ⟨(hb.cell (p := ⟨b, off + j, none⟩) (World.block_lt_of_cell? w _ h1)).trans h1, h2.keepB hb, h3, h4, h5⟩
/-- What a page holds. -/
def rdB (P : List Bs) (x : Int) : List Int := ((P[x.toNat]?).map Bs.l).getD []
theorem rdB_at {P : List Bs} {j : Nat} {x : Bs} (h : P[j]? = some x) : rdB P (j : Int) = x.l := by unfold rdB; rw [Int.toNat_natCast, h]; rfl
theorem DV.form {w : World} {v : Value} {q : Option (List Int)} (h : DV w v q) : ∃ ad n cap er, v = .agg #[.slice ad n cap, .int .i64 er] := by
  cases q with
  | some l => obtain ⟨ad, cap, h1, _⟩ := h; exact ⟨ad, _, cap, 0, h1⟩
  | none => obtain ⟨ad, n, cap, er, h1, _⟩ := h; exact ⟨ad, n, cap, er, h1⟩
theorem SlAt.ne_rd {w : World} {ad : Option Addr} {n : Nat} {z : Nat → Int} (h : SlAt w ad n z) {rb : Nat} {a' : Option Addr} {n' cap' : Nat} {er : Int} {t : TypeId}
    (hr : w.heap[rb]? = some (.cells #[.slice a' n' cap', .int .i64 er] t (0, 0))) {b off : Nat} (hn : 0 < n) (e : ad = some ⟨b, off, none⟩) : b ≠ rb := by
  intro hbr
  subst hbr
  obtain ⟨b', off', e', hc⟩ := h.2 hn
  rw [e] at e'; cases e'
  have h0 := hc 0 hn
  rw [World.cell?, hr] at h0
  match off, h0 with
  | 0, h0 => simp at h0
  | 1, h0 => simp at h0
  | o + 2, h0 => simp at h0
/-- A reader stays where the box of another one (or its own) is written. -/
theorem DV.frm {w w' : World} {v : Value} {q : Option (List Int)} (h : DV w v q) {rb : Nat} {a' : Option Addr} {n' cap' : Nat} {er : Int} {t : TypeId} (hr : w.heap[rb]? = some (.cells #[.slice a' n' cap', .int .i64 er] t (0, 0))) (hk : ∀ k, k ≠ rb → k < w.heap.size → w'.heap[k]? = w.heap[k]?) : DV w' v q := by
  cases q with
  | some l =>
    obtain ⟨ad, cap, h1, h2, h3, h4⟩ := h
    exact ⟨ad, cap, h1, h2, h3.block fun b _ hn e => hk b (h3.ne_rd hr hn e) (h3.lt hn e), h4⟩
  | none => exact h
/-- While leaves are read. -/
structure RdJ (w wr : World) (rb : Nat) (last : Int) (rd : Int → List Int) (k i : Nat) (R : Option (List Lf)) (lv : Value) (bI : Int) (ra : Option Addr) (rn rc : Nat) (er : Int) (q : Option (List Int)) (M : List Lf) : Prop where
  row : LrB (fun k => k ≠ rb ∧ w.heap.size ≤ k) wr lv M
  box : wr.heap[rb]? = some (.cells #[.slice ra rn rc, .int .i64 er] 89 (0, 0))
  dv : DV wr (.agg #[.slice ra rn rc, .int .i64 er]) q
  qb : QBd q
  rest : readD last rd (k - i) q bI M = R
  lo : 0 ≤ bI ∧ bI ≤ last
  few : M.length ≤ i
  below : Below w.heap.size w wr
  ge : w.heap.size ≤ rb
/-- What Read answers. -/
def RdD (w : World) (r : Option (List Lf)) (e : Ending) (w' : World) : Prop :=
  ((r = none ∧ e = .returned (.tuple #[.slice none 0 0, .int .i64 14])) ∨ ∃ L v, r = some L ∧ e = .returned (.tuple #[v, .int .i64 0]) ∧ LrB (w.heap.size ≤ ·) w' v L) ∧ Below w.heap.size w w'
theorem box2_set {w : World} {rb : Nat} {x y x' y' : Value} {t : TypeId} (h : w.heap[rb]? = some (.cells #[x, y] t (0, 0))) : ((w.setCell ⟨rb, 0, none⟩ x').setCell ⟨rb, 1, none⟩ y').heap[rb]? = some (.cells #[x', y'] t (0, 0)) := by
  have h1 : (w.setCell ⟨rb, 0, none⟩ x').heap[rb]? = some (.cells #[x', y] t (0, 0)) := by
    rw [heap_setCell_same w rb 0 _ _ _ h]
    rfl
  rw [heap_setCell_same _ rb 1 _ _ _ h1]
  rfl
theorem box2_other {w : World} {rb k : Nat} {x' y' : Value} (hk : k ≠ rb) : ((w.setCell ⟨rb, 0, none⟩ x').setCell ⟨rb, 1, none⟩ y').heap[k]? = w.heap[k]? := by
  rw [Below.heap_setCell _ _ _ _ (by simpa using hk), Below.heap_setCell _ _ _ _ (by simpa using hk)]
theorem box2_below {w : World} {B rb : Nat} {x' y' : Value} (hB : B ≤ rb) : Below B w ((w.setCell ⟨rb, 0, none⟩ x').setCell ⟨rb, 1, none⟩ y') := ((Below.refl B w).setCell hB _).setCell hB _
theorem putK_new {x : Lf} {M : List Lf} (h : getK Lf.k x.k M = none) : putK Lf.k x M = insK Lf.k x M := by
  unfold putK
  congr 1
  unfold delK
  rw [List.filter_eq_self]
  intro y hy
  have := (getK_none Lf.k).1 h y hy
  simpa using this
theorem nxt_bd {most : Int} {q : Option (List Int)} (h : QBd q) : QBd (nxt most q) := stN_bd h 1
end Go.Proofs.YtmekplaonlpfkaaGreatDoor
/- Pages that came in: how they lie. -/
namespace Go.Proofs.YtmekplaonlpfkaaGreatDoor
open Go.ChangeShapes Go.WideShapes Go.RowKit Go.ChangeAt

instance : Inhabited Bs := ⟨⟨none, 0, []⟩⟩
/-- Bytes that came in. -/
theorem page_in {H : Type} {enc : TypeId × Value → H} {W : World} {base fuel : Nat} {cs : List Value} {x : DataW H × List MemPlace} {spare : Nat → Bool} {held : Bool} (hsp : ∀ b, spare b = true)
    (hf : DataW.trod enc Tryz.prog W base spare held fuel 29 cs = some x) : ∃ d : Bs, cs = [d.v] ∧ SlAt W d.ad d.l.length (fn d.l) ∧ (d.ad = none → d.l.length = 0 ∧ d.cap = 0) ∧ (∀ y, y ∈ d.l → 0 ≤ y ∧ y ≤ 255) ∧ d.l.length ≤ d.cap := by
  rcases open_ints Tryz.underlying29 Tryz.underlying5 (by kernel_rfl) hf with ⟨hcs, hx⟩ | ⟨ad, l, c, zs, hcs, _, hl, hm, hz, hx, hcell, hwz⟩
  · exact ⟨⟨none, 0, []⟩, hcs, SlAt.zero _ _, (fun _ => ⟨rfl, rfl⟩), (fun y h => by cases h), Nat.le_refl _⟩
  · rw [hsp, if_pos rfl] at hz
    have hlen : (zs.take l).length = l := by simp; omega
    have hbd : ∀ y, y ∈ zs → 0 ≤ y ∧ y ≤ 255 := fun y hy => bounds_u8 (hwz y hy)
    have hbt : ∀ y, y ∈ zs.take l → 0 ≤ y ∧ y ≤ 255 := fun y hy => hbd y (List.mem_of_mem_take hy)
    refine ⟨⟨some ad, c, zs.take l⟩, by simp only [Bs.v, hlen]; exact hcs, ⟨fn_bd hbt, fun hn => ?_⟩, (fun h => by cases h), hbt, by simp only [hlen]; exact hl⟩
    simp only [hlen] at hn ⊢
    obtain ⟨b, off, spot⟩ := ad
    have hc := hcell 0 (by omega)
    have hspot : spot = none := by simpa [Addr.add] using World.cell?_spot hc
    subst hspot
    refine ⟨b, off, rfl, fun j hj => ?_⟩
    have := hcell j (by omega)
    rw [Addr.add_lit] at this
    have hjz : j < zs.length := by omega
    rw [this, fn_get _ j (by rw [hlen]; exact hj)]
    simp [List.getD_eq_getElem?_getD, List.getElem?_eq_getElem hjz]
theorem pages_in {H : Type} {enc : TypeId × Value → H} {W : World} {base fuel : Nat} {a : Option Addr} {len cap : Nat} {x : DataW H × List MemPlace} {spare : Nat → Bool} {held : Bool} (hsp : ∀ b, spare b = true)
    (hf : DataW.trod enc Tryz.prog W base spare held fuel 22 (Value.slice a len cap).cells.toList = some x) :
    ∃ P : List Bs, P.length = len ∧ len ≤ maxLen ∧ len ≤ cap ∧ PgIn W a P := by
  rcases Go.Deep.open_slice1 Tryz.underlying22 (by kernel_rfl) hf with ⟨hcs, hx⟩ | ⟨ad, l, c, m, n, V, D, Pl, hcs, _, hl, hcm, hm, hx, hcell⟩
  · simp [Value.cells] at hcs
    obtain ⟨rfl, rfl, rfl⟩ := hcs
    exact ⟨[], rfl, by omega, Nat.le_refl _, ⟨fun h => by simp at h, fun x hx => by cases hx⟩⟩
  · simp [Value.cells] at hcs
    obtain ⟨rfl, rfl, rfl⟩ := hcs
    rw [hsp, if_pos rfl] at hm
    subst hm
    have each : ∀ i, i < len → ∃ d : Bs, W.cell? (ad.add i) = some d.v ∧ SlAt W d.ad d.l.length (fn d.l) ∧ (d.ad = none → d.l.length = 0 ∧ d.cap = 0) ∧ (∀ y, y ∈ d.l → 0 ≤ y ∧ y ≤ 255) ∧ d.l.length ≤ d.cap := by
      intro i hi
      obtain ⟨h1, h2⟩ := hcell i (by omega)
      obtain ⟨d, h3, h4⟩ := page_in hsp h2
      simp at h3
      exact ⟨d, by rw [h1, h3], h4⟩
    obtain ⟨X, hX⟩ := Go.Deep.choose_lt each
    have hlen : ((List.range len).map X).length = len := by simp
    refine ⟨(List.range len).map X, hlen, by omega, hl, ⟨fun hn => ?_, fun y hy => ?_⟩⟩
    · rw [hlen] at hn
      obtain ⟨b, off, spot⟩ := ad
      have h0 := (hX 0 (by omega)).1
      have hspot : spot = none := by simpa [Addr.add] using World.cell?_spot h0
      subst hspot
      refine ⟨b, off, rfl, fun j y hj => ?_⟩
      have hjl : j < len := by have := (List.getElem?_eq_some_iff.1 hj).1; rwa [hlen] at this
      have hy : y = X j := by simp [hjl] at hj; exact hj.symm
      subst hy
      have := (hX j hjl).1
      rw [Addr.add_lit] at this
      exact this
    · obtain ⟨j, hj, rfl⟩ := List.mem_map.1 hy
      exact (hX j (List.mem_range.1 hj)).2
end Go.Proofs.YtmekplaonlpfkaaGreatDoor
/- The document's Read: the walk. -/
namespace Go.Proofs.YtmekplaonlpfkaaGreatDoor
open Go.RowKit Go.Maps Go.Sort

attribute [local go_sem ↓] Go.wp_at_zero Go.wp_at_succ

set_option maxRecDepth 100000 in
set_option maxHeartbeats 6400000 in
theorem read_doc (ad : Option Addr) (cap : Nat) (P : List Bs) (w : World) (h : PgIn w ad P) (hn : 2 ≤ P.length ∧ P.length ≤ 100) (hl : ∀ x ∈ P, x.l.length ≤ 4096) :
    Calls Tryz.prog 13 #[.slice ad P.length cap] w (RdD w (readR ((P.length - 1 : Nat) : Int) (rdB P))) := by
  have HP : Hid (PgIn w ad P) := h
  have HL : Hid (∀ x ∈ P, x.l.length ≤ 4096) := hl
  obtain ⟨b, off, hab, _⟩ := h.at_ (by omega)
  subst hab
  obtain ⟨x0, hx0⟩ : ∃ x, P[0]? = some x := ⟨_, List.getElem?_eq_getElem (by omega)⟩
  obtain ⟨c0, s0, n0, b0, k0⟩ := h.get (Below.refl _ w) hx0
  have hl0 := hl x0 (List.mem_of_getElem? hx0)
  have hrd0 : rdB P 0 = x0.l := rdB_at (j := 0) hx0
  have HRD : Hid (rdB P 0 = x0.l) := hrd0
  have c0' : w.cell? ⟨b, off, none⟩ = some (.slice x0.ad x0.l.length x0.cap) := c0
  clear h hl hx0 hrd0 c0
  by_cases h0 : x0.l.length = 0
  · have HE : Hid (RdD w (readR ((P.length - 1 : Nat) : Int) (rdB P)) (.returned (.tuple #[.slice none 0 0, .int .i64 0])) w) := by
      refine ⟨.inr ⟨[], _, ?_, rfl, LrB.nil _ _⟩, Below.refl _ _⟩
      unfold readR
      rw [HRD.out, if_pos h0]
    rw [h0] at c0'
    go_enter Tryz.func13, Tryz.ntmps13
    go_wp2
    go_ret2
    exact HE.out
  · have h0' : ¬ ((x0.l.length : Int) = 0) := by omega
    have hR : readR ((P.length - 1 : Nat) : Int) (rdB P) = readD ((P.length - 1 : Nat) : Int) (rdB P) (((countR ((P.length - 1 : Nat) : Int) x0.l).map Prod.fst).getD 0).toNat ((countR ((P.length - 1 : Nat) : Int) x0.l).map Prod.snd) 0 [] := by
      unfold readR
      rw [HRD.out, if_neg h0]
    have hdv0 : DV w (.agg #[.slice x0.ad x0.l.length x0.cap, .int .i64 0]) (some x0.l) := ⟨x0.ad, x0.cap, rfl, k0, s0, by omega⟩
    have hcnt := count_dv _ ((P.length - 1 : Nat) : Int) x0.l w hdv0 (by omega)
    have hsub : (P.length : Int) - 1 = ((P.length - 1 : Nat) : Int) := by omega
    obtain ⟨last, hlast⟩ : ∃ last : Int, ((P.length - 1 : Nat) : Int) = last := ⟨_, rfl⟩
    have hlb : 1 ≤ last ∧ last ≤ 100 := by omega
    rw [hlast] at hcnt hR hsub ⊢
    have HR : Hid (readR last (rdB P) = readD last (rdB P) (((countR last x0.l).map Prod.fst).getD 0).toNat ((countR last x0.l).map Prod.snd) 0 []) := hR
    have hcb : 0 ≤ ((countR last x0.l).map Prod.fst).getD 0 ∧ ((countR last x0.l).map Prod.fst).getD 0 ≤ last ∧ QBd ((countR last x0.l).map Prod.snd) := by
      cases hc : countR last x0.l with
      | none => exact ⟨Int.le_refl 0, (show (0 : Int) ≤ last by omega), fun l e => by cases e⟩
      | some v =>
        have := countR_bd (most := last) (by omega) b0 (r := v.2) (v := v.1) (by rw [hc])
        exact ⟨by simpa using this.1, by simpa using this.2.1, fun l e => by simp at e; subst e; exact this.2.2⟩
    obtain ⟨kc, hkc⟩ : ∃ kc, ((countR last x0.l).map Prod.fst).getD 0 = kc := ⟨_, rfl⟩
    obtain ⟨q0, hq0⟩ : ∃ q0, (countR last x0.l).map Prod.snd = q0 := ⟨_, rfl⟩
    rw [hkc, hq0] at hcnt hcb
    have HR2 : Hid (readR last (rdB P) = readD last (rdB P) kc.toNat q0 0 []) := by rw [← hkc, ← hq0]; exact hR
    clear hR hdv0 hlast hkc hq0
    go_enter Tryz.func13, Tryz.ntmps13
    go_wp2_with fail
    refine hcnt.mono ?_
    rintro e w1 ⟨v1, rfl, hd1, hb1⟩
    obtain ⟨ra, rn, rc, er, hv1⟩ := hd1.form
    subst hv1
    obtain ⟨K, hK⟩ : ∃ K : Nat, kc = (K : Int) := ⟨kc.toNat, by omega⟩
    subst hK
    have hK100 : K ≤ 100 := by omega
    obtain ⟨R, hRR⟩ : ∃ R, readR last (rdB P) = R := ⟨_, rfl⟩
    obtain ⟨wb, hwb⟩ : ∃ wb, w1.alloc (.cells #[.slice ra rn rc, .int .i64 er] 89) = wb := ⟨_, rfl⟩
    have hbb : Below w1.heap.size w1 wb := by rw [← hwb]; exact (Below.refl _ w1).alloc (Nat.le_refl _) _
    have HI0 : Hid (RdJ w wb w1.heap.size last (rdB P) K 0 R (.slice none 0 0) 0 ra rn rc er q0 []) := ⟨LrB.nil _ _, by rw [← hwb]; exact heap_alloc_new w1 _, hd1.below hbb, hcb.2.2, by rw [← hRR, HR2.out]; simp, by omega, Nat.le_refl _, Below.transS hb1 hbb, hb1.size⟩
    have HRR : Hid (readR last (rdB P) = R) := hRR
    clear hcnt hd1 hb1 hcb hbb HR HR2 hRR
    go_wp2_with fail
    obtain ⟨rb, hrb⟩ : ∃ rb, w1.heap.size = rb := ⟨_, rfl⟩
    rw [hrb] at HI0 ⊢
    clear hwb hrb
    go_loopw [4, 7, 8, 9, 10, 11, 12] (fun lv bv iv _ _ _ _ wr => ∃ (i : Nat) (bI : Int) (ra : Option Addr) (rn rc : Nat) (er : Int) (q : Option (List Int)) (M : List Lf), i ≤ K ∧ iv = .int .i64 i ∧ bv = .int .i64 bI ∧ RdJ w wr rb last (rdB P) K i R lv bI ra rn rc er q M) (fun _ _ iv _ _ _ _ _ => K + 1 - (intOf iv).toNat)
    case atStart => exact ⟨0, 0, ra, rn, rc, er, q0, [], Nat.zero_le _, rfl, rfl, HI0.out⟩
    case round =>
      clear HI0
      obtain ⟨i, bI, ra, rn, rc, er, q, M, hi, rfl, rfl, hI⟩ := hrel
      have HI : Hid (RdJ w wr rb last (rdB P) K i R u4 bI ra rn rc er q M) := hI
      have hbI := hI.lo
      have e0 : wr.cell? ⟨rb, 0, none⟩ = some (.slice ra rn rc) := by rw [cell_of_row _ _ 0 _ _ _ hI.box]; rfl
      have e1 : wr.cell? ⟨rb, 1, none⟩ = some (.int .i64 er) := by rw [cell_of_row _ _ 1 _ _ _ hI.box]; rfl
      by_cases hlt : i < K
      · have hlt' : (i : Int) < K := by omega
        have hu := uint_dv _ last q wr hI.dv
        have hvb := vlN_bd (most := last) (by omega) hI.qb 0
        have hvl : ((q.bind (uintR last)).map Prod.fst).getD 0 = vlN last 0 q := rfl
        have hnx : (q.bind (uintR last)).map Prod.snd = nxt last q := rfl
        rw [hvl, hnx] at hu
        have hrest := hI.rest
        have hKi : K - i = (K - (i + 1)) + 1 := by omega
        rw [hKi, readD] at hrest
        obtain ⟨x, hx⟩ : ∃ x, vlN last 0 q = x := ⟨_, rfl⟩
        rw [hx] at hu hvb hrest
        obtain ⟨j, hj⟩ : ∃ j : Nat, x = (j : Int) := ⟨x.toNat, by omega⟩
        subst hj
        have hjl : j < P.length := by omega
        obtain ⟨y, hy⟩ : ∃ y, P[j]? = some y := ⟨_, List.getElem?_eq_getElem hjl⟩
        rw [rdB_at hy, Int.toNat_natCast] at hrest
        have HRS : Hid ((if (j : Int) ≤ bI then none else if leafOk M y.l = true then readD last (rdB P) (K - (i + 1)) (nxt last q) (j : Int) (putK Lf.k ⟨leafK y.l, j, leafV y.l⟩ M) else none) = R) := hrest
        have HY : Hid (P[j]? = some y) := hy
        have hw1 : IntKind.u64.wrap last = last := by rw [IntKind.wrap_u64]; omega
        have hw2 : wrap64 (j : Int) = (j : Int) := by unfold wrap64; omega
        have hsub' : (P.length : Int) - 1 = last := hsub
        clear hI hrest hvl hnx hKi hx hy
        go_wp2_with fail
        refine hu.mono ?_
        rintro e w2 ⟨v2, rfl, hd2, hb2⟩
        obtain ⟨ra2, rn2, rc2, er2, hv2⟩ := hd2.form
        subst hv2
        have hbx2 : w2.heap[rb]? = some (.cells #[.slice ra rn rc, .int .i64 er] 89 (0, 0)) := (hb2.block _ (lt_of_block HI.out.box)).trans HI.out.box
        have g0 : w2.cell? ⟨rb, 0, none⟩ = some (.slice ra rn rc) := by rw [cell_of_row _ _ 0 _ _ _ hbx2]; rfl
        have g1 : w2.cell? ⟨rb, 1, none⟩ = some (.int .i64 er) := by rw [cell_of_row _ _ 1 _ _ _ hbx2]; rfl
        have f0 : w2.frozen? ⟨rb, 0, none⟩ = false := frozen_of_row w2 rb 0 _ _ hbx2
        have f1 : w2.frozen? ⟨rb, 1, none⟩ = false := frozen_of_row w2 rb 1 _ _ hbx2
        obtain ⟨w3, hw3⟩ : ∃ w3, (w2.setCell ⟨rb, 0, none⟩ (.slice ra2 rn2 rc2)).setCell ⟨rb, 1, none⟩ (.int .i64 er2) = w3 := ⟨_, rfl⟩
        have hbx3 : w3.heap[rb]? = some (.cells #[.slice ra2 rn2 rc2, .int .i64 er2] 89 (0, 0)) := by rw [← hw3]; exact box2_set hbx2
        have hoth : ∀ k, k ≠ rb → w3.heap[k]? = w2.heap[k]? := fun k hk => by rw [← hw3]; exact box2_other hk
        have hsz3 : w3.heap.size = w2.heap.size := by rw [← hw3]; simp
        have hd3 : DV w3 (.agg #[.slice ra2 rn2 rc2, .int .i64 er2]) (nxt last q) := hd2.frm hbx2 fun k hk _ => hoth k hk
        have hbw3 : Below w.heap.size w w3 := by
          rw [← hw3]
          exact ((Below.transS HI.out.below hb2).setCell HI.out.ge _).setCell HI.out.ge _
        have hrow3 : LrB (fun k => k ≠ rb ∧ w.heap.size ≤ k) w3 u4 M := HI.out.row.keep (by rw [hsz3]; exact hb2.size) fun k h1 h2 => ⟨h1, (hoth k h1.1).trans (hb2.block k h2)⟩
        have HI3 : Hid (w3.heap[rb]? = some (.cells #[.slice ra2 rn2 rc2, .int .i64 er2] 89 (0, 0)) ∧ DV w3 (.agg #[.slice ra2 rn2 rc2, .int .i64 er2]) (nxt last q) ∧ Below w.heap.size w w3 ∧ LrB (fun k => k ≠ rb ∧ w.heap.size ≤ k) w3 u4 M) := ⟨hbx3, hd3, hbw3, hrow3⟩
        obtain ⟨cy, sy, ny, by_, ky⟩ := HP.out.get hbw3 HY.out
        have hly := HL.out y (List.mem_of_getElem? HY.out)
        have hpg := bytes_dv _ 4096 (some y.l) w3 ⟨y.ad, y.cap, rfl, ky, sy, by omega⟩
        have HQ3 : Hid (QBd (nxt last q)) := nxt_bd HI.out.qb
        have HFW : Hid (M.length ≤ i) := HI.out.few
        have HGE : Hid (w.heap.size ≤ rb) := HI.out.ge
        clear hu hd2 hb2 hbx2 hbx3 hoth hd3 hbw3 hrow3 HI e0 e1 sy ny by_ ky
        by_cases hxb : (j : Int) ≤ bI
        · have HE : Hid (RdD w (readR last (rdB P)) (.returned (.tuple #[.slice none 0 0, .int .i64 14])) w3) := ⟨.inl ⟨by rw [HRR.out, ← HRS.out, if_pos hxb], rfl⟩, HI3.out.2.2.1⟩
          have hdx : decide ((j : Int) ≤ bI) = true := decide_eq_true hxb
          go_wp2
          go_ret2
          exact HE.out
        · have hdx : decide ((j : Int) ≤ bI) = false := decide_eq_false hxb
          have hjp : (j : Int) < P.length := by omega
          have hrs := HRS.out
          rw [if_neg hxb] at hrs
          have HRT : Hid ((if leafOk M y.l = true then readD last (rdB P) (K - (i + 1)) (nxt last q) (j : Int) (putK Lf.k ⟨leafK y.l, j, leafV y.l⟩ M) else none) = R) := hrs
          clear hrs HRS
          obtain ⟨kl, hkl⟩ : ∃ kl, (((some y.l).bind (bytesR 4096)).map Prod.fst).getD [] = kl := ⟨_, rfl⟩
          obtain ⟨q4, hq4⟩ : ∃ q4, ((some y.l).bind (bytesR 4096)).map Prod.snd = q4 := ⟨_, rfl⟩
          have HKL : Hid (leafK y.l = uL kl ∧ leafQ y.l = q4) := ⟨by unfold leafK; rw [hkl], hq4⟩
          have hkll : kl.length ≤ 4096 := by rw [← hkl]; exact readS_le _
          rw [hkl, hq4] at hpg
          clear hkl hq4
          go_wp2_with fail
          clear hw3 g0 g1 f0 f1 cy
          refine hpg.mono ?_
          rintro e w4 ⟨v4, kad, kcap, rfl, hF4, hd4⟩
          obtain ⟨ra4, rn4, rc4, er4, hv4⟩ := hd4.form
          subst hv4
          obtain ⟨w5, hw5⟩ : ∃ w5, w4.alloc (.cells #[.slice ra4 rn4 rc4, .int .i64 er4] 89) = w5 := ⟨_, rfl⟩
          have hb45 : Below w4.heap.size w4 w5 := by rw [← hw5]; exact (Below.refl _ w4).alloc (Nat.le_refl _) _
          have hbx5 : w5.heap[w4.heap.size]? = some (.cells #[.slice ra4 rn4 rc4, .int .i64 er4] 89 (0, 0)) := by rw [← hw5]; exact heap_alloc_new w4 _
          have hb34 : Below w3.heap.size w3 w4 := hF4.2.2.2.2
          have hsk5 : SlAt w5 kad kl.length (fn kl) := hF4.2.1.keepB hb45
          have hkn : kad = none → kl.length = 0 ∧ kcap = 0 := hF4.2.2.1
          have hpg2 := bytes_dv _ 4096 q4 w5 (hd4.below hb45)
          obtain ⟨vl, hvl⟩ : ∃ vl, ((q4.bind (bytesR 4096)).map Prod.fst).getD [] = vl := ⟨_, rfl⟩
          obtain ⟨q6, hq6⟩ : ∃ q6, (q4.bind (bytesR 4096)).map Prod.snd = q6 := ⟨_, rfl⟩
          have HVL : Hid (leafV y.l = uL vl ∧ leafE y.l = q6) := ⟨by unfold leafV; rw [HKL.out.2, hvl], by unfold leafE; rw [HKL.out.2]; exact hq6⟩
          have hvll : vl.length ≤ 4096 := by rw [← hvl]; exact readS_le _
          rw [hvl, hq6] at hpg2
          have h0 : w5.cell? ⟨w4.heap.size, 0, none⟩ = some (.slice ra4 rn4 rc4) := by rw [cell_of_row _ _ 0 _ _ _ hbx5]; rfl
          have h1 : w5.cell? ⟨w4.heap.size, 1, none⟩ = some (.int .i64 er4) := by rw [cell_of_row _ _ 1 _ _ _ hbx5]; rfl
          have HB5 : Hid (Below w3.heap.size w3 w5) := Below.transS hb34 hb45
          have HS5 : Hid (w3.heap.size ≤ w4.heap.size) := hb34.size
          clear hpg hF4 hd4 hb45 hb34 hvl hq6
          go_wp2_with fail
          clear hw5 h0 h1
          obtain ⟨rb2, hrb2⟩ : ∃ rb2, w4.heap.size = rb2 := ⟨_, rfl⟩
          rw [hrb2] at hbx5 HS5 ⊢
          clear hrb2
          refine hpg2.mono ?_
          rintro e w6 ⟨v6, vad, vcap, rfl, hF6, hd6⟩
          obtain ⟨ra6, rn6, rc6, er6, hv6⟩ := hd6.form
          subst hv6
          have hb56 : Below w5.heap.size w5 w6 := hF6.2.2.2.2
          have hbx6 : w6.heap[rb2]? = some (.cells #[.slice ra4 rn4 rc4, .int .i64 er4] 89 (0, 0)) := (hb56.block _ (lt_of_block hbx5)).trans hbx5
          obtain ⟨w7, hw7⟩ : ∃ w7, (w6.setCell ⟨rb2, 0, none⟩ (.slice ra6 rn6 rc6)).setCell ⟨rb2, 1, none⟩ (.int .i64 er6) = w7 := ⟨_, rfl⟩
          have hbx7 : w7.heap[rb2]? = some (.cells #[.slice ra6 rn6 rc6, .int .i64 er6] 89 (0, 0)) := by rw [← hw7]; exact box2_set hbx6
          have hoth : ∀ k, k ≠ rb2 → w7.heap[k]? = w6.heap[k]? := fun k hk => by rw [← hw7]; exact box2_other hk
          have hd7 : DV w7 (.agg #[.slice ra6 rn6 rc6, .int .i64 er6]) q6 := hd6.frm hbx6 fun k hk _ => hoth k hk
          have hsk6 : SlAt w6 kad kl.length (fn kl) := hsk5.keepB hb56
          have hsk7 : SlAt w7 kad kl.length (fn kl) := hsk6.block fun b _ hn e => hoth b (hsk6.ne_rd hbx6 hn e)
          have hsv7 : SlAt w7 vad vl.length (fn vl) := hF6.2.1.block fun b _ hn e => hoth b (hF6.2.1.ne_rd hbx6 hn e)
          have hvn : vad = none → vl.length = 0 ∧ vcap = 0 := hF6.2.2.1
          have HB7 : Hid (Below w3.heap.size w3 w7) := by rw [← hw7]; exact ((Below.transS HB5.out hb56).setCell HS5.out _).setCell HS5.out _
          have h0 : w6.cell? ⟨rb2, 0, none⟩ = some (.slice ra4 rn4 rc4) := by rw [cell_of_row _ _ 0 _ _ _ hbx6]; rfl
          have h1 : w6.cell? ⟨rb2, 1, none⟩ = some (.int .i64 er4) := by rw [cell_of_row _ _ 1 _ _ _ hbx6]; rfl
          have f0 : w6.frozen? ⟨rb2, 0, none⟩ = false := frozen_of_row w6 rb2 0 _ _ hbx6
          have f1 : w6.frozen? ⟨rb2, 1, none⟩ = false := frozen_of_row w6 rb2 1 _ _ hbx6
          have i0 : w7.cell? ⟨rb2, 0, none⟩ = some (.slice ra6 rn6 rc6) := by rw [cell_of_row _ _ 0 _ _ _ hbx7]; rfl
          have i1 : w7.cell? ⟨rb2, 1, none⟩ = some (.int .i64 er6) := by rw [cell_of_row _ _ 1 _ _ _ hbx7]; rfl
          have hdn := done_dv _ q6 w7 hd7
          clear hpg2 hF6 hd6 hb56 hbx6 hbx7 hbx5 hoth hd7 hsk5 hsk6
          go_wp2_with fail
          clear hw7 h0 h1 f0 f1 i0 i1
          refine hdn.mono ?_
          rintro e w8 ⟨⟨dx, rfl, hdx⟩, hb8⟩
          have HB8 : Hid (Below w3.heap.size w3 w8) := HB7.out.trans (hb8.mono HB7.out.size)
          have hsk8 : SlAt w8 kad kl.length (fn kl) := hsk7.keepB hb8
          have hsv8 : SlAt w8 vad vl.length (fn vl) := hsv7.keepB hb8
          clear hdn hsk7 hsv7 hb8
          have HBW8 : Hid (Below w.heap.size w w8) := HI3.out.2.2.1.trans (HB8.out.mono HI3.out.2.2.1.size)
          cases hen : endsR q6 with
          | false =>
            have hd0 : ¬ dx = 0 := fun h => by rw [hdx.2 h] at hen; cases hen
            have hdb : (dx == 0) = false := by simpa using hd0
            have HE : Hid (RdD w (readR last (rdB P)) (.returned (.tuple #[.slice none 0 0, .int .i64 14])) w8) := ⟨.inl ⟨by rw [HRR.out, ← HRT.out, if_neg]; unfold leafOk; rw [HVL.out.2, hen, Bool.and_false]; simp, rfl⟩, HBW8.out⟩
            clear hdx hen
            go_wp2
            go_ret2
            exact HE.out
          | true =>
            have hd0 : dx = 0 := hdx.1 hen
            subst hd0
            have HEN : Hid (endsR q6 = true) := hen
            clear hdx hen
            have hcv1 := own_conv hsk8 hkn
            have hcv2 := own_conv hsv8 hvn
            obtain ⟨la, lc, hu4, hlc, hln, hls, hla⟩ := HI3.out.2.2.2
            have hla8 : LrAt w8 la M := hla.keep fun a e hn => HB8.out.block _ (hls a e).2.2
            have hfw := HFW.out
            have hfind := find_any la lc M (uL kl) w8 hla8 (by omega)
            subst hu4
            have hFC : (findF (uL kl) 0 M = -1 ∧ getK Lf.k (uL kl) M = none) ∨ ∃ (t : Nat) (x : Lf), findF (uL kl) 0 M = (t : Int) ∧ getK Lf.k (uL kl) M = some x := by
              rcases findF_cases (uL kl) M 0 with h | ⟨t, x, h1, h2, h3⟩
              · exact .inl h
              · exact .inr ⟨t, x, by omega, h3⟩
            obtain ⟨fx, hfx⟩ : ∃ fx, findF (uL kl) 0 M = fx := ⟨_, rfl⟩
            rw [hfx] at hfind hFC
            have HFC : Hid ((fx = -1 ∧ getK Lf.k (uL kl) M = none) ∨ ∃ (t : Nat) (x : Lf), fx = (t : Int) ∧ getK Lf.k (uL kl) M = some x) := hFC
            clear hfx hFC
            have HLR : Hid (M.length ≤ lc ∧ (la = none → M.length = 0 ∧ lc = 0) ∧ (∀ a, la = some a → ∃ bb off, a = ⟨bb, off, none⟩) ∧ LrAt w8 la M) := ⟨hlc, hln, fun a e => (hls a e).1, hla8⟩
            clear hlc hln hls hla hla8
            go_wp2_with fail
            refine hfind.mono ?_
            rintro e w9 ⟨rfl, hw9⟩
            rw [hw9]
            clear hfind hw9 w9
            rcases HFC.out with ⟨hf1, hg⟩ | ⟨t, z, hf1, hg⟩
            · subst hf1
              have hok : leafOk M y.l = true := by unfold leafOk; rw [HKL.out.1, HVL.out.2, hg, HEN.out]; rfl
              have hrt := HRT.out
              rw [if_pos hok, putK_new (by rw [HKL.out.1]; exact hg)] at hrt
              rw [HKL.out.1, HVL.out.1] at hrt
              have HRV : Hid (readD last (rdB P) (K - (i + 1)) (nxt last q) (j : Int) (insK Lf.k ⟨uL kl, j, uL vl⟩ M) = R) := hrt
              have hwi := with_any la lc M ⟨uL kl, j, uL vl⟩ w8 HLR.out.2.2.2 (by omega) HLR.out.1 HLR.out.2.1 HLR.out.2.2.1 (fun z hz => (getK_none Lf.k).1 hg z hz)
              clear hok hrt hg
              go_wp2_with fail
              refine hwi.mono ?_
              rintro e w10 ⟨v10, rfl, hO10⟩
              have hsz8 := HB8.out.size
              have hb10 : Below w3.heap.size w3 w10 := HB8.out.trans (hO10.below.mono hsz8)
              have hrl := lt_of_block HI3.out.1
              have HN : Hid (RdJ w w10 rb last (rdB P) K (i + 1) R v10 (j : Int) ra2 rn2 rc2 er2 (nxt last q) (insK Lf.k ⟨uL kl, j, uL vl⟩ M)) := ⟨hO10.ls.mono fun k h _ => ⟨by omega, by have := HBW8.out.size; omega⟩, (hb10.block _ hrl).trans HI3.out.1, HI3.out.2.1.below hb10, HQ3.out, HRV.out, by omega, by rw [insK_length]; omega, Below.transS HBW8.out hO10.below, HGE.out⟩
              clear hwi hO10 hb10 hcv1 hcv2
              go_wp2
              exact ⟨⟨i + 1, (j : Int), ra2, rn2, rc2, er2, nxt last q, _, by omega, by go_num, rfl, HN.out⟩, by simp [intOf]; omega⟩
            · subst hf1
              have HE : Hid (RdD w (readR last (rdB P)) (.returned (.tuple #[.slice none 0 0, .int .i64 14])) w8) := ⟨.inl ⟨by rw [HRR.out, ← HRT.out, if_neg]; unfold leafOk; rw [HKL.out.1, hg]; simp, rfl⟩, HBW8.out⟩
              have ht0 : (0 : Int) ≤ (t : Int) := by omega
              have htd : decide ((0 : Int) ≤ (t : Int)) = true := decide_eq_true ht0
              clear hg hcv1 hcv2
              go_wp2
              go_ret2
              exact HE.out
      · obtain rfl : i = K := by omega
        have hnn : ¬ ((i : Int) < i) := by omega
        have hdn := done_dv _ q wr hI.dv
        have hrest := hI.rest
        rw [Nat.sub_self, readD] at hrest
        have HRS : Hid ((if endsR q = true then some M else none) = R) := hrest
        clear hI hrest
        go_wp2_with fail
        refine hdn.mono ?_
        rintro e w2 ⟨⟨dx, rfl, hdx⟩, hb2⟩
        have HB2 : Hid (Below w.heap.size w w2) := Below.transS HI.out.below hb2
        cases hen : endsR q with
        | false =>
          have hd0 : ¬ dx = 0 := fun h => by rw [hdx.2 h] at hen; cases hen
          have hdb : (dx == 0) = false := by simpa using hd0
          have HE : Hid (RdD w (readR last (rdB P)) (.returned (.tuple #[.slice none 0 0, .int .i64 14])) w2) := ⟨.inl ⟨by rw [HRR.out, ← HRS.out, hen]; rfl, rfl⟩, HB2.out⟩
          clear hdx hen hdn hb2 e0 e1
          go_wp2
          go_ret2
          exact HE.out
        | true =>
          have hd0 : dx = 0 := hdx.1 hen
          subst hd0
          have HE : Hid (RdD w (readR last (rdB P)) (.returned (.tuple #[u4, .int .i64 0])) w2) := ⟨.inr ⟨M, u4, by rw [HRR.out, ← HRS.out, hen]; rfl, rfl, (HI.out.row.below hb2).mono fun k h _ => h.2⟩, HB2.out⟩
          clear hdx hen hdn hb2 e0 e1
          go_wp2
          go_ret2
          exact HE.out
end Go.Proofs.YtmekplaonlpfkaaGreatDoor
