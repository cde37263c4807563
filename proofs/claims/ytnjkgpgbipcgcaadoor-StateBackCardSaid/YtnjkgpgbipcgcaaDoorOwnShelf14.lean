/- state.Encode's closure; a writer with blocks beside it that stay. -/
import Derived.Test.YtnjkgpgbipcgcaaDoorOwnShelf10
import Derived.Test.YtnjkgpgbipcgcaaDoorOwnShelf11
import Derived.Test.YtnjkgpgbipcgcaaDoorOwnShelf13
namespace Go.Proofs.YtnjkgpgbipcgcaaDoor
open Go.RowKit

/-- An int as a number from 0 on. -/
def u64 (n : Int) : Int := IntKind.u64.wrap n
theorem u64_bd (n : Int) : 0 ≤ u64 n ∧ u64 n ≤ 18446744073709551615 := by
  unfold u64
  simp [IntKind.wrap, IntKind.bits, IntKind.signed]
  omega
theorem u64_nat (n : Nat) (h : n ≤ 9223372036854775807) : u64 (n : Int) = n := by
  unfold u64
  simp [IntKind.wrap, IntKind.bits, IntKind.signed]
  omega
/-- Ints as they are laid. -/
def laidK (z : Nat → Int) : Nat → List Int
  | 0 => []
  | j + 1 => laidK z j ++ uB (u64 (z j))
theorem uB_len (n : Int) : (uB n).length ≤ 9 := by
  have := sz_le n
  simp [uB, dgs_length]
  omega
theorem laidK_len (z : Nat → Int) : ∀ j, (laidK z j).length ≤ 9 * j
  | 0 => by simp [laidK]
  | j + 1 => by
    have h1 := laidK_len z j
    have h2 := uB_len (u64 (z j))
    simp only [laidK, List.length_append]
    omega
theorem laidK_congr {z y : Nat → Int} : ∀ n, (∀ j, j < n → z j = y j) → laidK z n = laidK y n
  | 0, _ => rfl
  | n + 1, h => by rw [laidK, laidK, laidK_congr n (fun j hj => h j (by omega)), h n (by omega)]
theorem WrGrown.refl {w : World} {B p : Nat} {g : Option Nat} {l : List Int} (h : WrAt w B p g l) : WrGrown w w B p g l := ⟨g, h, Frm.refl _ _, .inl rfl⟩
theorem WrGrown.next {w w1 w2 : World} {B p : Nat} {g g1 : Option Nat} {l l' : List Int} (h : WrGrown w w1 B p g l) (h1 : WrAt w1 B p g1 l) (h2 : WrGrown w1 w2 B p g1 l') : WrGrown w w2 B p g l' :=
  h.trans fun g' hg' => by rw [hg'.same h1]; exact h2
theorem isAt_frm {S : List Nat} {w w' : World} {ad : Option Addr} {n : Nat} {z : Nat → Int} (h : IsAt w ad n z) (hf : Frm S w w') (ha : ∀ a, ad = some a → a.block ∉ S) : IsAt w' ad n z := by
  intro hn
  obtain ⟨b, off, e, hc⟩ := h hn
  refine ⟨b, off, e, fun j hj => ?_⟩
  have h1 := hc j hj
  rw [World.cell?_of_block (a := ⟨b, off + j, none⟩) (hf.block b (World.block_lt_of_cell? w ⟨b, off + j, none⟩ h1) (ha _ e))]
  exact h1


theorem WrAt.glt {w : World} {B p : Nat} {g : Option Nat} {l : List Int} (h : WrAt w B p g l) : ∀ k, k ∈ p :: g.toList → B ≤ k ∧ k < w.heap.size := by
  obtain ⟨v, hp, hown, hg, hB, _⟩ := h
  intro k hk
  rcases List.mem_cons.1 hk with rfl | hk
  · exact ⟨hB, lt_of_block hp⟩
  · subst hg
    have hk' : v.ownBlock = some k := by simpa using hk
    exact hown.lt k hk'
theorem WrAt.keep {w w' : World} {B p : Nat} {g : Option Nat} {l : List Int} (h : WrAt w B p g l) (hb : Below w.heap.size w w') : WrAt w' B p g l := by
  obtain ⟨v, hp, hown, hg, hB, hx⟩ := h
  refine ⟨v, by rw [hb.block _ (lt_of_block hp)]; exact hp, ⟨hown.1, ?_⟩, hg, hB, hx⟩
  rcases hown.2 with hn | ⟨g', cap, cur, e, hbs, hgc, rest⟩
  · exact .inl hn
  · exact .inr ⟨g', cap, cur, e, hbs, by rw [hb.block _ (lt_of_block hgc)]; exact hgc, rest⟩

/-- A writer made since W0, at its first new block, has laid L; what was there in W0 is as it was; K: blocks beside it that hold something. -/
structure PutL (W0 wr : World) (L : List Int) (K : List (Nat × Obj)) : Prop where
  at_ : ∃ g, WrAt wr W0.heap.size W0.heap.size g L ∧ ∀ x, x ∈ K → wr.heap[x.1]? = some x.2 ∧ x.1 ∉ W0.heap.size :: g.toList
  below : Below W0.heap.size W0 wr
theorem PutL.keep {W0 wr w' : World} {L : List Int} {K : List (Nat × Obj)} (h : PutL W0 wr L K) (hb : Below wr.heap.size wr w') : PutL W0 w' L K := by
  obtain ⟨g, hg, hk⟩ := h.at_
  exact ⟨⟨g, hg.keep hb, fun x e => ⟨by rw [hb.block _ (lt_of_block (hk x e).1)]; exact (hk x e).1, (hk x e).2⟩⟩, h.below.trans (hb.mono h.below.size)⟩
theorem PutL.sub {W0 wr : World} {L : List Int} {K K' : List (Nat × Obj)} (h : PutL W0 wr L K) (hs : ∀ x, x ∈ K' → x ∈ K) : PutL W0 wr L K' := by
  obtain ⟨g, hg, hk⟩ := h.at_
  exact ⟨⟨g, hg, fun x e => hk x (hs x e)⟩, h.below⟩
/-- One more block beside it. -/
theorem PutL.hold {W0 wr w' : World} {L : List Int} {K : List (Nat × Obj)} {o : Obj} (h : PutL W0 wr L K) (hb : Below wr.heap.size wr w') (ho : w'.heap[wr.heap.size]? = some o) : PutL W0 w' L ((wr.heap.size, o) :: K) := by
  obtain ⟨g, hg, hk⟩ := h.at_
  refine ⟨⟨g, hg.keep hb, fun x e => ?_⟩, h.below.trans (hb.mono h.below.size)⟩
  rcases List.mem_cons.1 e with rfl | e
  · exact ⟨ho, fun hk => by have := (hg.glt _ hk).2; simp at this⟩
  · exact ⟨by rw [hb.block _ (lt_of_block (hk x e).1)]; exact (hk x e).1, (hk x e).2⟩
theorem PutL.held {W0 wr : World} {L : List Int} {K : List (Nat × Obj)} (h : PutL W0 wr L K) {k : Nat} {o : Obj} (hm : (k, o) ∈ K) : wr.heap[k]? = some o := by
  obtain ⟨g, _, hk⟩ := h.at_
  exact (hk _ hm).1
theorem PutL.grown {W0 wr w' : World} {L L' : List Int} {g : Option Nat} {K : List (Nat × Obj)} (h : PutL W0 wr L K) (hA : WrAt wr W0.heap.size W0.heap.size g L) (hk : ∀ x, x ∈ K → wr.heap[x.1]? = some x.2 ∧ x.1 ∉ W0.heap.size :: g.toList) (hW : WrGrown wr w' W0.heap.size W0.heap.size g L') : PutL W0 w' L' K := by
  obtain ⟨g', hA', hF, hg'⟩ := hW
  refine ⟨⟨g', hA', fun x e => ?_⟩, h.below.trans (hF.below h.below.size (fun k hk => (hA.glt k hk).1))⟩
  obtain ⟨h1, h2⟩ := hk x e
  have hl := lt_of_block h1
  refine ⟨by rw [hF.block x.1 hl h2]; exact h1, ?_⟩
  rcases hg' with rfl | ⟨b, rfl, hb⟩
  · exact h2
  · intro hm
    rcases List.mem_cons.1 hm with e | hm
    · exact h2 (by simp [e])
    · have : x.1 = b := by simpa using hm
      omega

set_option maxHeartbeats 1600000 in
/-- 'lay(numbers...)', the writer's variable at q. -/
theorem lay_any (p q B : Nat) (g : Option Nat) (l : List Int) (ad : Option Addr) (n cap : Nat) (z : Nat → Int) (w : World) (hw : WrAt w B p g l) (hq : w.heap[q]? = some (.cells #[.pointer (some ⟨p, 0, none⟩)] 81 (0, 0))) (hqn : q ∉ p :: g.toList) (hl : l.length + 9 * n + 16 ≤ 140737488355328) (hI : IsAt w ad n z) (ha : 0 < n → ∀ a, ad = some a → a.block ∉ p :: g.toList) (hn : n ≤ 1000000) :
    Calls Tryd.prog 37 #[.slice ad n cap, .pointer (some ⟨q, 0, none⟩)] w fun e w' => e = .returned (.tuple #[]) ∧ WrGrown w w' B p g (l ++ laidK z n) := by
  have HI : Hid (IsAt w ad n z ∧ (0 < n → ∀ a, ad = some a → a.block ∉ p :: g.toList)) := ⟨hI, ha⟩
  have HQ : Hid (w.heap[q]? = some (.cells #[.pointer (some ⟨p, 0, none⟩)] 81 (0, 0)) ∧ q ∉ p :: g.toList) := ⟨hq, hqn⟩
  have h0 : WrGrown w w B p g (l ++ laidK z 0) := by simpa [laidK] using WrGrown.refl hw
  clear hI ha hw hq hqn
  go_enter Tryd.func37, Tryd.ntmps37
  go_wp2
  go_loopw [4, 7] (fun _ iv wr => ∃ i : Nat, i ≤ n ∧ iv = .int .i64 i ∧ WrGrown w wr B p g (l ++ laidK z i)) (fun _ iv _ => n + 1 - (intOf iv).toNat)
  case atStart => exact ⟨0, by omega, rfl, h0⟩
  case round =>
    clear h0
    obtain ⟨i, hi, rfl, hW⟩ := hrel
    have HW : Hid (WrGrown w wr B p g (l ++ laidK z i)) := hW
    clear hW
    by_cases hlt : i < n
    · have hlt' : (i : Int) < n := by omega
      obtain ⟨g1, hA1, hF1, -⟩ := HW.out
      obtain ⟨b, off, rfl, hc⟩ := (isAt_frm HI.out.1 hF1 (HI.out.2 (by omega))) (by omega)
      have hci := hc i hlt
      have hcq : wr.cell? ⟨q, 0, none⟩ = some (.pointer (some ⟨p, 0, none⟩)) := by
        have := hF1.heap HQ.out.1 HQ.out.2
        rw [cell_of_row _ _ 0 _ _ _ this]; rfl
      have hbd := u64_bd (z i)
      have hll := laidK_len z i
      have hcall := wrUint_any p B g1 (l ++ laidK z i) (u64 (z i)) wr hA1 (by simp; omega) hbd
      have HA : Hid (WrAt wr B p g1 (l ++ laidK z i)) := hA1
      clear hc hF1 hA1
      unfold u64 at hcall
      go_wp2_with (go_at_call 38; refine hcall.mono ?_; rintro e w1 ⟨rfl, hW1⟩)
      have HN : Hid (WrGrown w w1 B p g (l ++ laidK z (i + 1))) := by
        have := HW.out.next HA.out hW1
        rw [List.append_assoc] at this
        exact this
      clear hW1 hcall
      go_roundw
      case rel => exact ⟨i + 1, by omega, by go_num, HN.out⟩
      case measure => simp [intOf]; omega
    · obtain rfl : i = n := by omega
      have hnn : ¬ ((i : Int) < i) := by omega
      have hW := HW.out
      go_wp2
      go_end0
      exact ⟨rfl, hW⟩
/-- The same by PutL; the numbers lie in W0, or in blocks that are new. -/
theorem lay_put (W0 wr : World) (q : Nat) (L : List Int) (K : List (Nat × Obj)) (ad : Option Addr) (n cap : Nat) (z : Nat → Int) (h : PutL W0 wr L K) (hq : (q, .cells #[.pointer (some ⟨W0.heap.size, 0, none⟩)] 81 (0, 0)) ∈ K) (hl : L.length + 9 * n + 16 ≤ 140737488355328) (hI : IsAt W0 ad n z) (hn : n ≤ 1000000) :
    Calls Tryd.prog 37 #[.slice ad n cap, .pointer (some ⟨q, 0, none⟩)] wr fun e w' => e = .returned (.tuple #[]) ∧ PutL W0 w' (L ++ laidK z n) K := by
  obtain ⟨g, hg, hk0⟩ := h.at_
  refine (lay_any _ q _ g L ad n cap z wr hg (hk0 _ hq).1 (hk0 _ hq).2 hl (hI.below h.below) (fun hp a e hk => ?_) hn).mono ?_
  · obtain ⟨b, off, e2, hc⟩ := hI hp
    rw [e2] at e
    cases e
    have h1 := World.block_lt_of_cell? W0 ⟨b, off + 0, none⟩ (hc 0 hp)
    have h2 : W0.heap.size ≤ b := (hg.glt _ hk).1
    have h3 : b < W0.heap.size := h1
    omega
  · rintro e w' ⟨rfl, hW⟩
    exact ⟨rfl, h.grown hg hk0 hW⟩
theorem lay_new (W0 wr w1 : World) (q : Nat) (L : List Int) (K : List (Nat × Obj)) (r n cap : Nat) (z : Nat → Int) (h : PutL W0 wr L K) (hq : (q, .cells #[.pointer (some ⟨W0.heap.size, 0, none⟩)] 81 (0, 0)) ∈ K) (hb : Below wr.heap.size wr w1) (hl : L.length + 9 * n + 16 ≤ 140737488355328) (hI : IsAt w1 (some ⟨r, 0, none⟩) n z) (hr : wr.heap.size ≤ r) (hn : n ≤ 1000000) :
    Calls Tryd.prog 37 #[.slice (some ⟨r, 0, none⟩) n cap, .pointer (some ⟨q, 0, none⟩)] w1 fun e w' => e = .returned (.tuple #[]) ∧ PutL W0 w' (L ++ laidK z n) K := by
  obtain ⟨g, hg, hk0⟩ := h.at_
  have h1 := h.keep hb
  have hk1 : ∀ x, x ∈ K → w1.heap[x.1]? = some x.2 ∧ x.1 ∉ W0.heap.size :: g.toList := fun x e => ⟨by rw [hb.block _ (lt_of_block (hk0 x e).1)]; exact (hk0 x e).1, (hk0 x e).2⟩
  refine (lay_any _ q _ g L (some ⟨r, 0, none⟩) n cap z w1 (hg.keep hb) (hk1 _ hq).1 (hk1 _ hq).2 hl hI (fun _ a e hk => ?_) hn).mono ?_
  · cases e
    have h2 : r < wr.heap.size := (hg.glt _ hk).2
    omega
  · rintro e w' ⟨rfl, hW⟩
    exact ⟨rfl, h1.grown (hg.keep hb) hk1 hW⟩
theorem hash_put (W0 wr : World) (L : List Int) (K : List (Nat × Obj)) (z : Nat → Int) (h : PutL W0 wr L K) (hl : L.length + 32 ≤ 140737488355328) (hz : Zb z) :
    Calls Tryd.prog 39 #[.pointer (some ⟨W0.heap.size, 0, none⟩), .agg (hv z)] wr fun e w' => e = .returned (.pointer (some ⟨W0.heap.size, 0, none⟩)) ∧ PutL W0 w' (L ++ hB z) K := by
  obtain ⟨g, hg, hk0⟩ := h.at_
  refine (wrHash_any _ _ g L z wr hg hl hz).mono ?_
  rintro e w' ⟨rfl, hW⟩
  exact ⟨rfl, h.grown hg hk0 hW⟩
end Go.Proofs.YtnjkgpgbipcgcaaDoor
