/- sort.reverseRange_func; sort's pivots, whatever the less lays. -/
import Derived.Test.YthnobkiiaflelaaDoorOwnShelf38
namespace Go.Proofs.YthnobkiiaflelaaDoor
open Go.RowKit Go.Maps Go.Sort

attribute [local go_sem ↓] Go.wp_at_zero Go.wp_at_succ

/-- What a function that just moves leaves. -/
structure SpR {g : Nat} {lb : Array Value} {sf : Nat} {sb : Array Value} {n : Nat} (S : SrC g lb sf sb n) (a b : Nat) (d : Nat → Ev) (w : World) (e : Ending) (w' : World) : Prop where
  mk :: (out : e = .returned (.tuple #[]) ∧ ∃ d', S.at_ w' d' ∧ PermR a b d d' ∧ Fr (fun k => k = S.blk) w w')
set_option maxRecDepth 100000 in
set_option maxHeartbeats 3200000 in
theorem reverse_any {g : Nat} {lb : Array Value} {sf : Nat} {sb : Array Value} {n : Nat} (S : SrC g lb sf sb n) (a b : Nat) (d : Nat → Ev) (w : World) (h : S.at_ w d) (hab : a < b) (hb : b ≤ n) :
    Calls Tryd.prog 56 #[lsV g lb sf sb, .int .i64 (a : Int), .int .i64 (b : Int)] w (SpR S a b d w) := by
  have hfew := S.few
  have H0 : Hid (SrI S w (w.alloc (.cells #[.func (.func g) #[] lb, .func (.func sf) #[] sb] 101)) w.heap.size d) := SrI.start h
  clear h
  unfold lsV
  go_enter Tryd.func56, Tryd.ntmps56
  go_wp2_with fail
  go_loopw [6, 7] (fun vi vj wr => ∃ (i j : Nat) (dk : Nat → Ev), vi = .int .i64 i ∧ vj = .int .i64 ((j : Int) - 1) ∧ a ≤ i ∧ i ≤ b ∧ j ≤ b ∧ a ≤ j ∧ SrI S w wr w.heap.size dk ∧ PermR a b d dk) (fun vi _ _ => b + 1 - (intOf vi).toNat)
  case atStart => exact ⟨a, b, d, rfl, rfl, Nat.le_refl _, by omega, Nat.le_refl _, by omega, H0.out, PermR.refl _ _ _⟩
  case round =>
    clear H0
    obtain ⟨i, j, dk, rfl, rfl, h1, h2, h3, h4, hI, hP⟩ := hrel
    by_cases hlt : i + 1 < j
    · obtain ⟨j, rfl⟩ : ∃ j', j = j' + 1 := ⟨j - 1, by omega⟩
      have hjj : (((j + 1 : Nat) : Int)) - 1 = (j : Int) := by omega
      rw [hjj]
      have hlt' : (i : Int) < j := by omega
      have c1 := hI.c1
      obtain ⟨w2, hs, ha2, hf2⟩ := S.swap wr dk i j hI.row (by omega) (by omega)
      have HN : Hid (SrI S w w2 w.heap.size (swapA dk i j) ∧ PermR a b d (swapA dk i j)) := ⟨hI.swap ha2 hf2, hP.trans (PermR.swap dk ⟨by omega, by omega⟩ ⟨by omega, by omega⟩)⟩
      clear hI hP ha2 hf2
      go_wp2
      exact ⟨⟨i + 1, j, _, by go_num, by go_num, by omega, by omega, by omega, by omega, HN.out.1, HN.out.2⟩, by simp [intOf]; omega⟩
    · have hlt' : ¬ ((i : Int) < (j : Int) - 1) := by omega
      have HE : Hid (SpR S a b d w (.returned (.tuple #[])) wr) := ⟨rfl, dk, hI.row, hP, hI.fr⟩
      clear hI hP
      go_wp2
      go_end0
      exact HE.out
/-- A counter's block, apart from the row. -/
structure CtI {g : Nat} {lb : Array Value} {sf : Nat} {sb : Array Value} {n : Nat} (S : SrC g lb sf sb n) (w : World) (ct : Nat) : Prop where
  ex : ∃ c : Int, w.heap[ct]? = some (.cells #[.int .i64 c] 3 (0, 0))
  ne : ct ≠ S.blk ∧ ct ≠ S.bs
/-- All but the counter is kept. -/
structure CtR {g : Nat} {lb : Array Value} {sf : Nat} {sb : Array Value} {n : Nat} (S : SrC g lb sf sb n) (d : Nat → Ev) (ct : Nat) (w w' : World) : Prop where
  row : S.at_ w' d
  cnt : CtI S w' ct
  fr : Fr (fun k => k = ct) w w'
section
variable {g : Nat} {lb : Array Value} {sf : Nat} {sb : Array Value} {n : Nat} {S : SrC g lb sf sb n} {w w1 w2 w' : World} {ct : Nat} {d : Nat → Ev}
theorem CtI.below (h : CtI S w ct) (hb : Below w.heap.size w w') : CtI S w' ct := by
  obtain ⟨c, hc⟩ := h.ex
  exact ⟨⟨c, (hb.block ct (lt_of_block hc)).trans hc⟩, h.ne⟩
theorem CtR.trans (h : CtR S d ct w w1) (k : CtR S d ct w1 w2) : CtR S d ct w w2 := ⟨k.row, k.cnt, h.fr.trans k.fr fun _ _ e => e⟩
theorem CtR.below (h : S.at_ w d) (hc : CtI S w ct) (hb : Below w.heap.size w w') : CtR S d ct w w' := ⟨S.below h hb, hc.below hb, Fr.ofBelow hb⟩
end
set_option maxRecDepth 100000 in
set_option maxHeartbeats 3200000 in
theorem order2_any {g : Nat} {lb : Array Value} {sf : Nat} {sb : Array Value} {n : Nat} (S : SrC g lb sf sb n) (x y ct : Nat) (d : Nat → Ev) (w : World) (h : S.at_ w d) (hc : CtI S w ct) (hx : x < n) (hy : y < n) :
    Calls Tryd.prog 65 #[lsV g lb sf sb, .int .i64 (x : Int), .int .i64 (y : Int), .pointer (some ⟨ct, 0, none⟩)] w fun e w' => ∃ p q : Nat, e = .returned (.tuple #[.int .i64 (p : Int), .int .i64 (q : Int)]) ∧ ((p = x ∧ q = y) ∨ (p = y ∧ q = x)) ∧ CtR S d ct w w' := by
  have hfew := S.few
  have heg := S.eg
  have hI : SrI S w (w.alloc (.cells #[.func (.func g) #[] lb, .func (.func sf) #[] sb] 101)) w.heap.size d := SrI.start h
  have hbW : Below w.heap.size w (w.alloc (.cells #[.func (.func g) #[] lb, .func (.func sf) #[] sb] 101)) := (Below.refl _ w).alloc (Nat.le_refl _) _
  have hl := S.less _ d y x hI.row hy hx
  have HW : Hid (Below w.heap.size w (w.alloc (.cells #[.func (.func g) #[] lb, .func (.func sf) #[] sb] 101)) ∧ S.at_ w d ∧ CtI S w ct) := ⟨hbW, h, hc⟩
  clear hI hbW h hc
  unfold lsV
  go_enter Tryd.func65, Tryd.ntmps65
  go_wp2_with fail
  refine hl.mono ?_
  rintro e w2 ⟨rfl, hb2⟩
  have hB : Below w.heap.size w w2 := Below.transS HW.out.1 hb2
  obtain ⟨c, hcc⟩ := (HW.out.2.2.below hB).ex
  have c0 : w2.cell? ⟨ct, 0, none⟩ = some (.int .i64 c) := by rw [cell_of_row _ _ 0 _ _ _ hcc]; rfl
  have f0 : w2.frozen? ⟨ct, 0, none⟩ = false := by simp [World.frozen?, hcc]
  cases ltE (d y) (d x) with
  | true =>
    have HE : Hid (∀ v : Int, CtR S d ct w (w2.setCell ⟨ct, 0, none⟩ (.int .i64 v))) := fun v => by
      refine ⟨S.keep (S.below HW.out.2.1 hB) (fun k e => setc _ _ _ _ (fun e2 => by rcases e with rfl | rfl; exact HW.out.2.2.ne.1 e2.symm; exact HW.out.2.2.ne.2 e2.symm)), ⟨⟨v, ?_⟩, HW.out.2.2.ne⟩, Fr.set (Fr.ofBelow hB) _ _ rfl⟩
      rw [heap_setCell_same _ _ 0 _ _ _ hcc]; rfl
    clear hl hb2 hB hcc
    go_wp2
    go_ret2
    exact ⟨y, x, rfl, .inr ⟨rfl, rfl⟩, HE.out _⟩
  | false =>
    have HE : Hid (CtR S d ct w w2) := CtR.below HW.out.2.1 HW.out.2.2 hB
    clear hl hb2 hB hcc c0 f0
    go_wp2
    go_ret2
    exact ⟨x, y, rfl, .inl ⟨rfl, rfl⟩, HE.out⟩
set_option maxRecDepth 100000 in
set_option maxHeartbeats 3200000 in
theorem median_any {g : Nat} {lb : Array Value} {sf : Nat} {sb : Array Value} {n : Nat} (S : SrC g lb sf sb n) (x y z ct : Nat) (d : Nat → Ev) (w : World) (h : S.at_ w d) (hc : CtI S w ct) (hx : x < n) (hy : y < n) (hz : z < n) :
    Calls Tryd.prog 64 #[lsV g lb sf sb, .int .i64 (x : Int), .int .i64 (y : Int), .int .i64 (z : Int), .pointer (some ⟨ct, 0, none⟩)] w fun e w' => ∃ p : Nat, e = .returned (.int .i64 (p : Int)) ∧ (p = x ∨ p = y ∨ p = z) ∧ CtR S d ct w w' := by
  have hI : SrI S w (w.alloc (.cells #[.func (.func g) #[] lb, .func (.func sf) #[] sb] 101)) w.heap.size d := SrI.start h
  have hbW : Below w.heap.size w (w.alloc (.cells #[.func (.func g) #[] lb, .func (.func sf) #[] sb] 101)) := (Below.refl _ w).alloc (Nat.le_refl _) _
  have hlt : ct < w.heap.size := by obtain ⟨c, hcc⟩ := hc.ex; exact lt_of_block hcc
  have hR1 := CtR.below h hc hbW
  have b0 := hI.c0
  have b1 := hI.c1
  have h1 := order2_any S x y ct d _ hR1.row hR1.cnt hx hy
  have HB : Hid ((w.alloc (.cells #[.func (.func g) #[] lb, .func (.func sf) #[] sb] 101)).heap[w.heap.size]? = some (.cells #[.func (.func g) #[] lb, .func (.func sf) #[] sb] 101 (0, 0)) ∧ ct < w.heap.size ∧ CtR S d ct w (w.alloc (.cells #[.func (.func g) #[] lb, .func (.func sf) #[] sb] 101))) := ⟨hI.box, hlt, hR1⟩
  unfold lsV at h1 ⊢
  clear hI hbW h hc hR1 hlt
  go_enter Tryd.func64, Tryd.ntmps64
  go_wp2_with fail
  refine h1.mono ?_
  rintro e w2 ⟨p1, q1, rfl, ho1, hR2⟩
  have hbx2 := (hR2.fr.block w.heap.size (lt_of_block HB.out.1) (by have := HB.out.2.1; omega)).trans HB.out.1
  have b0' : w2.cell? ⟨w.heap.size, 0, none⟩ = some (.func (.func g) #[] lb) := by rw [cell_of_row _ _ 0 _ _ _ hbx2]; rfl
  have b1' : w2.cell? ⟨w.heap.size, 1, none⟩ = some (.func (.func sf) #[] sb) := by rw [cell_of_row _ _ 1 _ _ _ hbx2]; rfl
  have h2 := order2_any S q1 z ct d _ hR2.row hR2.cnt (by omega) hz
  have H2 : Hid (CtR S d ct w w2 ∧ w2.heap[w.heap.size]? = some (.cells #[.func (.func g) #[] lb, .func (.func sf) #[] sb] 101 (0, 0))) := ⟨HB.out.2.2.trans hR2, hbx2⟩
  unfold lsV at h2
  clear h1 b0 b1 hR2 hbx2
  go_wp2_with fail
  refine h2.mono ?_
  rintro e w3 ⟨p2, q2, rfl, ho2, hR3⟩
  have hbx3 := (hR3.fr.block w.heap.size (lt_of_block H2.out.2) (by have := HB.out.2.1; omega)).trans H2.out.2
  have b0'' : w3.cell? ⟨w.heap.size, 0, none⟩ = some (.func (.func g) #[] lb) := by rw [cell_of_row _ _ 0 _ _ _ hbx3]; rfl
  have b1'' : w3.cell? ⟨w.heap.size, 1, none⟩ = some (.func (.func sf) #[] sb) := by rw [cell_of_row _ _ 1 _ _ _ hbx3]; rfl
  have h3 := order2_any S p1 p2 ct d _ hR3.row hR3.cnt (by omega) (by omega)
  have H3 : Hid (CtR S d ct w w3) := H2.out.1.trans hR3
  unfold lsV at h3
  clear h2 b0' b1' hR3 hbx3
  go_wp2_with fail
  refine h3.mono ?_
  rintro e w4 ⟨p3, q3, rfl, ho3, hR4⟩
  have HE : Hid (CtR S d ct w w4) := H3.out.trans hR4
  clear h3 hR4 b0'' b1''
  go_wp2
  go_ret
  exact ⟨q3, rfl, by omega, HE.out⟩
set_option maxRecDepth 100000 in
set_option maxHeartbeats 3200000 in
theorem adjacent_any {g : Nat} {lb : Array Value} {sf : Nat} {sb : Array Value} {n : Nat} (S : SrC g lb sf sb n) (x ct : Nat) (d : Nat → Ev) (w : World) (h : S.at_ w d) (hc : CtI S w ct) (hx0 : 0 < x) (hx : x + 1 < n) :
    Calls Tryd.prog 63 #[lsV g lb sf sb, .int .i64 (x : Int), .pointer (some ⟨ct, 0, none⟩)] w fun e w' => ∃ p : Nat, e = .returned (.int .i64 (p : Int)) ∧ (x ≤ p + 1 ∧ p ≤ x + 1) ∧ CtR S d ct w w' := by
  have hfew := S.few
  have hI : SrI S w (w.alloc (.cells #[.func (.func g) #[] lb, .func (.func sf) #[] sb] 101)) w.heap.size d := SrI.start h
  have hbW : Below w.heap.size w (w.alloc (.cells #[.func (.func g) #[] lb, .func (.func sf) #[] sb] 101)) := (Below.refl _ w).alloc (Nat.le_refl _) _
  have hR1 := CtR.below h hc hbW
  have b0 := hI.c0
  have b1 := hI.c1
  have h1 := median_any S (x - 1) x (x + 1) ct d _ hR1.row hR1.cnt (by omega) (by omega) (by omega)
  rw [show (((x - 1 : Nat) : Int)) = (x : Int) - 1 by omega, show (((x + 1 : Nat) : Int)) = (x : Int) + 1 by omega] at h1
  have HB : Hid (CtR S d ct w (w.alloc (.cells #[.func (.func g) #[] lb, .func (.func sf) #[] sb] 101))) := hR1
  unfold lsV at h1 ⊢
  clear hI hbW h hc hR1
  go_enter Tryd.func63, Tryd.ntmps63
  go_wp2_with fail
  refine h1.mono ?_
  rintro e w2 ⟨p1, rfl, ho1, hR2⟩
  have HE : Hid (CtR S d ct w w2) := HB.out.trans hR2
  clear h1 hR2 b0 b1
  go_wp2
  go_ret
  exact ⟨p1, rfl, by omega, HE.out⟩
end Go.Proofs.YthnobkiiaflelaaDoor
