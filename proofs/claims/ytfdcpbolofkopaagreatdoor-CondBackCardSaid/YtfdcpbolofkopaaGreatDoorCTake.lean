/- cond.take: a branch taken off. -/
import Derived.Test.YtfdcpbolofkopaaGreatDoorCTakeM
namespace Go.Proofs.YtfdcpbolofkopaaGreatDoor
open Go.RowKit

/-- What take has of a branch on the way: the result's block, the variable's, its keys. -/
structure TkR (w wr : World) (rb : Nat) (va : Option Addr) (vc : Nat) (y : Bv) (L : List Int) : Prop where
  frm : Frm [rb] w wr
  res : wr.heap[w.heap.size]? = some (.cells (bv b0 none 0) 55 (0, 0))
  box : wr.heap[w.heap.size + 1]? = some (.cells (bv y va vc) 55 (0, 0))
  own : wr.ownsRow (w.heap.size + 2) 3 1 (.slice va L.length vc) L.length (iC L)
  n : y.n = L.length
theorem TkR.keep {w wr w' : World} {rb : Nat} {va : Option Addr} {vc : Nat} {y : Bv} {L : List Int} (h : TkR w wr rb va vc y L) (hf : Frm [rb] wr w') (hrb : rb < w.heap.size) : TkR w w' rb va vc y L := by
  obtain ⟨h1, h2, h3, h4, h5⟩ := h
  refine ⟨h1.trans hf, hf.heap h2 (by simp; omega), hf.heap h3 (by simp; omega), ⟨h4.1, ?_⟩, h5⟩
  rcases h4.2 with hn | ⟨g, cap, cur, e, hbs, hg, rest⟩
  · exact .inl hn
  · exact .inr ⟨g, cap, cur, e, hbs, hf.heap hg (by simp; omega), rest⟩
theorem bv_set33 (x : Bv) (ka : Option Addr) (kc : Nat) (a : Int) {w : World} {g : Nat} {t : TypeId} (h : w.heap[g]? = some (.cells (bv x ka kc) t (0, 0))) : (w.setCell ⟨g, 33, none⟩ (.int .i64 a)).heap[g]? = some (.cells (bv { x with af := a } ka kc) t (0, 0)) := by
  rw [heap_setCell_same w g 33 _ t _ h]
  congr 2
theorem bv_set34 (x : Bv) (ka : Option Addr) (kc : Nat) (a : Int) {w : World} {g : Nat} {t : TypeId} (h : w.heap[g]? = some (.cells (bv x ka kc) t (0, 0))) : (w.setCell ⟨g, 34, none⟩ (.int .i64 a)).heap[g]? = some (.cells (bv { x with ol := a } ka kc) t (0, 0)) := by
  rw [heap_setCell_same w g 34 _ t _ h]
  congr 2
theorem bv_setLock (x : Bv) (ka : Option Addr) (kc : Nat) (y : Nat → Int) {w : World} {g : Nat} {t : TypeId} (h : w.heap[g]? = some (.cells (bv x ka kc) t (0, 0))) : (w.setCells g 1 (hv y).toList).heap[g]? = some (.cells (bv { x with lk := y } ka kc) t (0, 0)) := by
  have := setCells_at g (hv y).toList 1 w [.slice ka x.n kc] (bl x.lk 32 ++ [.int .i64 x.af, .int .i64 x.ol]) t (by simpa [bv, brl] using h) rfl (by simp [hv_size, bl_length])
  rw [this, hv_list]
  simp [bv, brl, bl_length]
/-- What is behind the keys. -/
def tl3 (x : Bv) (l : List Int) : List Int := uB (u64 x.af) ++ (uB (u64 x.ol) ++ l)
/-- Where the reader is: stopped, and rightly so. -/
def Bad (st : Option (Bv × List Int)) (wr : World) (rb : Nat) : Prop := (∀ x l, st = some (x, l) → ¬ RdOk x) ∧ RS wr rb none
/-- At the key j of m. -/
def Cur (st : Option (Bv × List Int)) (m j : Nat) (L : List Int) (wr : World) (rb : Nat) : Prop :=
  (∃ x l, st = some (x, l) ∧ m = x.n ∧ (x.n ≤ 16 ∧ ∀ i, i < j → u64 (x.z i) ≤ 16) ∧ L = (List.range j).map (fun i => u64 (x.z i)) ∧ RS wr rb (some (laidR x.z j (x.n - j) ++ (hB x.lk ++ tl3 x l)))) ∨ Bad st wr rb
def Cur2 (st : Option (Bv × List Int)) (L : List Int) (lk : Nat → Int) (wr : World) (rb : Nat) : Prop :=
  (∃ x l, st = some (x, l) ∧ (x.n ≤ 16 ∧ ∀ i, i < x.n → u64 (x.z i) ≤ 16) ∧ L = (List.range x.n).map (fun i => u64 (x.z i)) ∧ lk = x.lk ∧ RS wr rb (some (tl3 x l))) ∨ Bad st wr rb
def Cur3 (st : Option (Bv × List Int)) (L : List Int) (lk : Nat → Int) (af : Int) (wr : World) (rb : Nat) : Prop :=
  (∃ x l, st = some (x, l) ∧ (x.n ≤ 16 ∧ ∀ i, i < x.n → u64 (x.z i) ≤ 16) ∧ L = (List.range x.n).map (fun i => u64 (x.z i)) ∧ lk = x.lk ∧ (u64 x.af ≤ 1099511627776 ∧ af = u64 x.af) ∧ RS wr rb (some (uB (u64 x.ol) ++ l))) ∨ Bad st wr rb
def Cur4 (st : Option (Bv × List Int)) (L : List Int) (lk : Nat → Int) (af ol : Int) (wr : World) (rb : Nat) : Prop :=
  (∃ x l, st = some (x, l) ∧ RdOk x ∧ L = (List.range x.n).map (fun i => u64 (x.z i)) ∧ lk = x.lk ∧ af = u64 x.af ∧ ol = u64 x.ol ∧ RS wr rb (some l)) ∨ Bad st wr rb
theorem Bad.frm {st : Option (Bv × List Int)} {S : List Nat} {w w' : World} {rb : Nat} (h : Bad st w rb) (hf : Frm S w w') (hS : ∀ k, k ∈ S → rb < k) : Bad st w' rb := ⟨h.1, h.2.frm hf hS⟩
theorem Cur.frm {st : Option (Bv × List Int)} {m j : Nat} {L : List Int} {S : List Nat} {w w' : World} {rb : Nat} (h : Cur st m j L w rb) (hf : Frm S w w') (hS : ∀ k, k ∈ S → rb < k) : Cur st m j L w' rb := by
  rcases h with ⟨x, l, h1, h2, h3, h4, h5⟩ | h
  · exact .inl ⟨x, l, h1, h2, h3, h4, h5.frm hf hS⟩
  · exact .inr (h.frm hf hS)
theorem Cur2.frm {st : Option (Bv × List Int)} {L : List Int} {lk : Nat → Int} {S : List Nat} {w w' : World} {rb : Nat} (h : Cur2 st L lk w rb) (hf : Frm S w w') (hS : ∀ k, k ∈ S → rb < k) : Cur2 st L lk w' rb := by
  rcases h with ⟨x, l, h1, h2, h3, h4, h5⟩ | h
  · exact .inl ⟨x, l, h1, h2, h3, h4, h5.frm hf hS⟩
  · exact .inr (h.frm hf hS)
theorem Cur3.frm {st : Option (Bv × List Int)} {L : List Int} {lk : Nat → Int} {af : Int} {S : List Nat} {w w' : World} {rb : Nat} (h : Cur3 st L lk af w rb) (hf : Frm S w w') (hS : ∀ k, k ∈ S → rb < k) : Cur3 st L lk af w' rb := by
  rcases h with ⟨x, l, h1, h2, h3, h4, h5, h6⟩ | h
  · exact .inl ⟨x, l, h1, h2, h3, h4, h5, h6.frm hf hS⟩
  · exact .inr (h.frm hf hS)
theorem Cur4.frm {st : Option (Bv × List Int)} {L : List Int} {lk : Nat → Int} {af ol : Int} {S : List Nat} {w w' : World} {rb : Nat} (h : Cur4 st L lk af ol w rb) (hf : Frm S w w') (hS : ∀ k, k ∈ S → rb < k) : Cur4 st L lk af ol w' rb := by
  rcases h with ⟨x, l, h1, h2, h3, h4, h5, h6, h7⟩ | h
  · exact .inl ⟨x, l, h1, h2, h3, h4, h5, h6, h7.frm hf hS⟩
  · exact .inr (h.frm hf hS)
/-- The state as the reader has it at the begin. -/
def bytesOf (st : Option (Bv × List Int)) : Option (List Int) := st.map fun p => laidBr p.1 ++ p.2
theorem laidBr_parts (x : Bv) (l : List Int) (hn : x.n ≤ 1000000) : laidBr x ++ l = uB (x.n : Int) ++ (laidR x.z 0 x.n ++ (hB x.lk ++ tl3 x l)) := by
  have h1 : laidK (fun _ => (x.n : Int)) 1 = uB (x.n : Int) := by simp [laidK, u64_nat x.n (by omega)]
  have h2 : laidK (fun j => if j = 0 then x.af else x.ol) 2 = uB (u64 x.af) ++ uB (u64 x.ol) := by simp [laidK]
  simp only [laidBr, tl3, h1, h2, laidK_laidR, List.append_assoc]
theorem cur_count (rb : Nat) (st : Option (Bv × List Int)) (w : World) (hn : ∀ x l, st = some (x, l) → x.n ≤ 1000000) (h : RS w rb (bytesOf st)) :
    Calls Tryz.prog 20 #[.pointer (some ⟨rb, 0, none⟩), .int .i64 16] w fun e w' => ∃ m : Nat, e = .returned (.int .i64 m) ∧ m ≤ 16 ∧ Frm [rb] w w' ∧ Cur st m 0 [] w' rb := by
  cases st with
  | none =>
    refine (count_none rb 16 w h).mono ?_
    rintro e w' ⟨rfl, hF, hR⟩
    exact ⟨0, rfl, by omega, hF, .inr ⟨fun x l e => (by cases e), hR⟩⟩
  | some p =>
    obtain ⟨x, l⟩ := p
    have hx := hn x l rfl
    have h' : RS w rb (some (uB (x.n : Int) ++ (laidR x.z 0 x.n ++ (hB x.lk ++ tl3 x l)))) := by rw [← laidBr_parts x l hx]; exact h
    have hge : x.n ≤ (laidR x.z 0 x.n ++ (hB x.lk ++ tl3 x l)).length := by
      have := laidK_ge x.z x.n
      rw [laidK_laidR] at this
      simp only [List.length_append]
      omega
    refine (count_some rb x.n 16 _ w hx (by omega) hge h').mono ?_
    rintro e w' ⟨rfl, hF, hR⟩
    by_cases h16 : x.n ≤ 16
    · rw [if_pos h16] at hR ⊢
      exact ⟨x.n, rfl, h16, hF, .inl ⟨x, l, rfl, rfl, ⟨h16, fun i hi => by omega⟩, by simp, by simpa using hR⟩⟩
    · rw [if_neg h16] at hR ⊢
      exact ⟨0, rfl, by omega, hF, .inr ⟨fun x' l' e hk => by cases e; exact h16 hk.1.1, hR⟩⟩
theorem cur_uint (rb : Nat) (st : Option (Bv × List Int)) (m j : Nat) (L : List Int) (w : World) (hj : j < m) (h : Cur st m j L w rb) :
    Calls Tryz.prog 50 #[.pointer (some ⟨rb, 0, none⟩), .int .u64 16] w fun e w' => ∃ q : Int, e = .returned (.int .u64 q) ∧ (0 ≤ q ∧ q ≤ 16) ∧ Frm [rb] w w' ∧ Cur st m (j + 1) (L ++ [q]) w' rb := by
  rcases h with ⟨x, l, h1, h2, h3, h4, h5⟩ | ⟨h1, h2⟩
  · obtain ⟨k, hk⟩ : ∃ k, x.n - j = k + 1 := ⟨x.n - j - 1, by omega⟩
    rw [hk, laidR, List.append_assoc] at h5
    have hb := u64_bd (x.z j)
    refine (uint_some rb _ 16 _ w hb.1 hb.2 h5).mono ?_
    rintro e w' ⟨rfl, hF, hR⟩
    by_cases hq : u64 (x.z j) ≤ 16
    · rw [if_pos hq] at hR ⊢
      refine ⟨_, rfl, ⟨hb.1, hq⟩, hF, .inl ⟨x, l, h1, h2, ⟨h3.1, fun i hi => ?_⟩, ?_, ?_⟩⟩
      · by_cases e : i = j
        · subst e; exact hq
        · exact h3.2 i (by omega)
      · rw [h4, List.range_succ, List.map_append]; rfl
      · rw [show x.n - (j + 1) = k from by omega]; exact hR
    · rw [if_neg hq] at hR ⊢
      refine ⟨0, rfl, by omega, hF, .inr ⟨fun x' l' e hk' => ?_, hR⟩⟩
      rw [h1] at e
      cases e
      exact hq (hk'.1.2 j (by omega))
  · refine (uint_none rb 16 w h2).mono ?_
    rintro e w' ⟨rfl, hF, hR⟩
    exact ⟨0, rfl, by omega, hF, .inr ⟨h1, hR⟩⟩
theorem cur_hash (rb : Nat) (st : Option (Bv × List Int)) (m : Nat) (L : List Int) (w : World) (h : Cur st m m L w rb) :
    Calls Tryz.prog 51 #[.pointer (some ⟨rb, 0, none⟩)] w fun e w' => ∃ lk, e = .returned (.agg (hv lk)) ∧ Frm [rb] w w' ∧ Cur2 st L lk w' rb := by
  rcases h with ⟨x, l, h1, rfl, h3, h4, h5⟩ | ⟨h1, h2⟩
  · rw [Nat.sub_self, laidR, List.nil_append] at h5
    refine (hash_some rb _ _ w h5).mono ?_
    rintro e w' ⟨rfl, hF, hR⟩
    exact ⟨_, rfl, hF, .inl ⟨x, l, h1, h3, h4, rfl, hR⟩⟩
  · refine (hash_none rb w h2).mono ?_
    rintro e w' ⟨rfl, hF, hR⟩
    exact ⟨nz, rfl, hF, .inr ⟨h1, hR⟩⟩
theorem cur_af (rb : Nat) (st : Option (Bv × List Int)) (L : List Int) (lk : Nat → Int) (w : World) (h : Cur2 st L lk w rb) :
    Calls Tryz.prog 50 #[.pointer (some ⟨rb, 0, none⟩), .int .u64 1099511627776] w fun e w' => ∃ q : Int, e = .returned (.int .u64 q) ∧ (0 ≤ q ∧ q ≤ 1099511627776) ∧ Frm [rb] w w' ∧ Cur3 st L lk q w' rb := by
  rcases h with ⟨x, l, h1, h2, h3, h4, h5⟩ | ⟨h1, h2⟩
  · have hb := u64_bd x.af
    refine (uint_some rb _ 1099511627776 _ w hb.1 hb.2 h5).mono ?_
    rintro e w' ⟨rfl, hF, hR⟩
    by_cases hq : u64 x.af ≤ 1099511627776
    · rw [if_pos hq] at hR ⊢
      exact ⟨_, rfl, ⟨hb.1, hq⟩, hF, .inl ⟨x, l, h1, h2, h3, h4, ⟨hq, rfl⟩, hR⟩⟩
    · rw [if_neg hq] at hR ⊢
      refine ⟨0, rfl, by omega, hF, .inr ⟨fun x' l' e hk' => ?_, hR⟩⟩
      rw [h1] at e
      cases e
      exact hq hk'.2.1
  · refine (uint_none rb _ w h2).mono ?_
    rintro e w' ⟨rfl, hF, hR⟩
    exact ⟨0, rfl, by omega, hF, .inr ⟨h1, hR⟩⟩
theorem cur_ol (rb : Nat) (st : Option (Bv × List Int)) (L : List Int) (lk : Nat → Int) (af : Int) (w : World) (h : Cur3 st L lk af w rb) :
    Calls Tryz.prog 50 #[.pointer (some ⟨rb, 0, none⟩), .int .u64 65536] w fun e w' => ∃ q : Int, e = .returned (.int .u64 q) ∧ (0 ≤ q ∧ q ≤ 65536) ∧ Frm [rb] w w' ∧ Cur4 st L lk af q w' rb := by
  rcases h with ⟨x, l, h1, h2, h3, h4, h5, h6⟩ | ⟨h1, h2⟩
  · have hb := u64_bd x.ol
    refine (uint_some rb _ 65536 _ w hb.1 hb.2 h6).mono ?_
    rintro e w' ⟨rfl, hF, hR⟩
    by_cases hq : u64 x.ol ≤ 65536
    · rw [if_pos hq] at hR ⊢
      exact ⟨_, rfl, ⟨hb.1, hq⟩, hF, .inl ⟨x, l, h1, ⟨h2, h5.1, hq⟩, h3, h4, h5.2, rfl, hR⟩⟩
    · rw [if_neg hq] at hR ⊢
      refine ⟨0, rfl, by omega, hF, .inr ⟨fun x' l' e hk' => ?_, hR⟩⟩
      rw [h1] at e
      cases e
      exact hq hk'.2.2
  · refine (uint_none rb _ w h2).mono ?_
    rintro e w' ⟨rfl, hF, hR⟩
    exact ⟨0, rfl, by omega, hF, .inr ⟨h1, hR⟩⟩
end Go.Proofs.YtfdcpbolofkopaaGreatDoor
