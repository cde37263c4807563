/- Shelves beside the document's rows: what stays. -/
import Derived.Test.YtmekplaonlpfkaaGreatDoorOwnShelf42
import Derived.Test.YtmekplaonlpfkaaGreatDoorOwnShelf43
import Derived.Test.YtmekplaonlpfkaaGreatDoorOwnShelf40
import Derived.Deep.AppendSrc
import Derived.Test.YtmekplaonlpfkaaGreatDoorOwnShelf24
namespace Go.Proofs.YtmekplaonlpfkaaGreatDoor
open Go.RowKit Go.Maps Go.Sort

/-- A, and what was made since. -/
def upA (A : Nat → Prop) (w w' : World) : Nat → Prop := fun k => A k ∨ (w.heap.size ≤ k ∧ k < w'.heap.size)
/-- All of A was made behind B, and is there. -/
def LowA (A : Nat → Prop) (B : Nat) (w : World) : Prop := ∀ k, A k → B ≤ k ∧ k < w.heap.size
theorem LowA.up {A : Nat → Prop} {B : Nat} {w w' : World} (h : LowA A B w) (hB : B ≤ w.heap.size) (hs : w.heap.size ≤ w'.heap.size) : LowA (upA A w w') B w' := fun k hk => by
  rcases hk with hk | hk
  · have := h k hk; omega
  · omega
theorem LowA.more {A : Nat → Prop} {B : Nat} {w w' : World} (h : LowA A B w) (hs : w.heap.size ≤ w'.heap.size) : LowA A B w' := fun k hk => by have := h k hk; omega
/-- The document's rows stay, whatever becomes of A. -/
theorem LrB.fr {A : Nat → Prop} {w w' : World} {v : Value} {L : List Lf} (h : LrB (fun k => ¬ A k) w v L) (hf : Fr A w w') : LrB (fun k => ¬ upA A w w' k) w' v L :=
  h.keep hf.size fun k h1 h2 => ⟨fun h3 => by rcases h3 with h3 | h3; exact h1 h3; omega, hf.block k h2 h1⟩
theorem setA (A : Nat → Prop) (sh p fr n N : Nat) (L : List Lf) (c : Ct) (ad : Option Addr) (cap : Nat) (cs : List Cg) (w : World) (h : ShU A w sh p fr n N L c) (hc : CgAt w ad cs) (hok : COk cs) : Calls Tryz.prog 16 #[.pointer (some ⟨sh, 0, none⟩), .slice ad cs.length cap] w fun e w' => e = .returned (errV (setI fr n L c cs).1) ∧ ShU (upA A w w') w' sh p fr n N (setI fr n L c cs).2.1 (setI fr n L c cs).2.2 ∧ Fr A w w' := by
  refine (setU (fun k => A k ∨ w.heap.size ≤ k) sh p fr n N L c ad cap cs w (h.mono fun k _ hk => .inl hk) (fun k hk => .inr hk) hc hok).mono ?_
  rintro e w' ⟨rfl, h1, h2⟩
  refine ⟨rfl, h1.mono fun k hlt hk => ?_, h2.mono fun k hlt hk => ?_⟩
  · rcases hk with hk | hk
    · exact .inl hk
    · exact .inr ⟨hk, hlt⟩
  · rcases hk with hk | hk
    · exact hk
    · omega
theorem openA (A : Nat → Prop) (p fr n N : Nat) (c : Ct) (L : List Lf) (w : World) (h : StU A w p N c) (hN : fr + n ≤ N) (hn : 2 ≤ n ∧ n ≤ 1024) (hL : openR c fr n = some L) : Calls Tryz.prog 11 #[.pointer (some ⟨p, 0, none⟩), .agg #[.int .i64 (fr : Int), .int .i64 (n : Int)]] w fun e w' => ∃ sh, e = .returned (.tuple #[.pointer (some ⟨sh, 0, none⟩), .nilIface]) ∧ ShU (upA A w w') w' sh p fr n N L c ∧ Below w.heap.size w w' := by
  refine (openU_some (fun k => A k ∨ w.heap.size ≤ k) p fr n N c L w (h.mono fun k _ hk => .inl hk) (fun k hk => .inr hk) hN hn hL).mono ?_
  rintro e w' ⟨sh, rfl, h1, h2⟩
  refine ⟨sh, rfl, h1.mono fun k hlt hk => ?_, h2⟩
  rcases hk with hk | hk
  · exact .inl hk
  · exact .inr ⟨hk, hlt⟩
theorem ShU.ok {A : Nat → Prop} {w : World} {sh p fr n N : Nat} {L : List Lf} {c : Ct} (h : ShU A w sh p fr n N L c) : LOk n L ∧ c.Idle ∧ c.safe.length = N := by
  obtain ⟨G, m, h1, _, _, _, h5⟩ := h
  exact ⟨h1.at_.ok, h5, h1.len⟩
theorem sameA (A : Nat → Prop) (sh p fr n N : Nat) (L : List Lf) (c : Ct) (B : Nat → Prop) (v : Value) (M : List Lf) (w : World) (h : ShU A w sh p fr n N L c) (hm : LrB B w v M) (hl : M.length ≤ 1000) (hkl : ∀ y ∈ M, y.k.length ≤ 100000) : Calls Tryz.prog 14 #[.pointer (some ⟨sh, 0, none⟩), v, .int .i64 (n : Int)] w fun e w' => e = .returned (.bool (decide (kvs L = kvs M))) ∧ Below w.heap.size w w' := by
  obtain ⟨G, m, h1, _⟩ := h
  obtain ⟨ad, cap, rfl, _, _, _, h6⟩ := hm
  exact same_any sh m p fr n L 0 ad cap M w h1.at_ h6 hl (fun y hy => by have := hkl y hy; unfold maxLen; omega)
/-- Two shelves on one idle store. -/
def TwU (A : Nat → Prop) (w : World) (s t p f1 n1 f2 n2 N : Nat) (L M : List Lf) (c : Ct) : Prop := ∃ (G : Nat → Prop) (ms mt : Nat), ShS w G s ms p f1 n1 N L 0 c ∧ ShS w G t mt p f2 n2 N M 0 c ∧ (s ≠ t ∧ s ≠ mt ∧ ms ≠ t ∧ ms ≠ mt) ∧ (∀ k, G k → A k) ∧ (A s ∧ A ms) ∧ (A t ∧ A mt) ∧ c.Idle
section
variable {A A' : Nat → Prop} {w w' : World} {s t p f1 n1 f2 n2 N : Nat} {L M : List Lf} {c : Ct}
theorem TwU.symm (h : TwU A w s t p f1 n1 f2 n2 N L M c) : TwU A w t s p f2 n2 f1 n1 N M L c := by
  obtain ⟨G, ms, mt, h1, h2, ⟨h3, h4, h5, h6⟩, h7, h8, h9, h10⟩ := h
  exact ⟨G, mt, ms, h2, h1, ⟨h3.symm, h5.symm, h4.symm, h6.symm⟩, h7, h9, h8, h10⟩
theorem TwU.first (h : TwU A w s t p f1 n1 f2 n2 N L M c) : ShU A w s p f1 n1 N L c := by
  obtain ⟨G, ms, mt, h1, h2, h3, h7, h8, h9, h10⟩ := h
  exact ⟨G, ms, h1, h7, h8.1, h8.2, h10⟩
theorem TwU.mono (h : TwU A w s t p f1 n1 f2 n2 N L M c) (ha : ∀ k, k < w.heap.size → A k → A' k) : TwU A' w s t p f1 n1 f2 n2 N L M c := by
  obtain ⟨G, ms, mt, h1, h2, h3, h7, h8, h9, h10⟩ := h
  exact ⟨G, ms, mt, h1, h2, h3, fun k hk => ha k (h1.lt k hk) (h7 k hk), ⟨ha _ h1.at_.lt h8.1, ha _ h1.at_.ltm h8.2⟩, ⟨ha _ h2.at_.lt h9.1, ha _ h2.at_.ltm h9.2⟩, h10⟩
theorem ShS.below {G : Nat → Prop} {sh m fr n : Nat} {dead : Int} (h1 : ShS w G sh m p fr n N L dead c) (hb : Below w.heap.size w w') : ShS w' G sh m p fr n N L dead c := ⟨h1.at_.below hb, h1.st.below hb, h1.nsh, h1.nm, fun k hk => Nat.lt_of_lt_of_le (h1.lt k hk) hb.size, h1.len, h1.fit, h1.ne⟩
theorem TwU.below (h : TwU A w s t p f1 n1 f2 n2 N L M c) (hb : Below w.heap.size w w') : TwU A w' s t p f1 n1 f2 n2 N L M c := by
  obtain ⟨G, ms, mt, h1, h2, h3, h7, h8, h9, h10⟩ := h
  exact ⟨G, ms, mt, h1.below hb, h2.below hb, h3, h7, h8, h9, h10⟩
end
theorem open2 (A : Nat → Prop) (s p f1 n1 f2 n2 N : Nat) (c : Ct) (L M : List Lf) (w : World) (h : ShU A w s p f1 n1 N L c) (hN : f2 + n2 ≤ N) (hn : 2 ≤ n2 ∧ n2 ≤ 1024) (hL : openR c f2 n2 = some M) : Calls Tryz.prog 11 #[.pointer (some ⟨p, 0, none⟩), .agg #[.int .i64 (f2 : Int), .int .i64 (n2 : Int)]] w fun e w' => ∃ t, e = .returned (.tuple #[.pointer (some ⟨t, 0, none⟩), .nilIface]) ∧ TwU (upA A w w') w' s t p f1 n1 f2 n2 N L M c ∧ Below w.heap.size w w' := by
  obtain ⟨G, m, h1, h2, h3, h4, h5⟩ := h
  refine (open_any G p f2 n2 N c w h1.st (h5.ok h1.len) hN hn).mono ?_
  rintro e w' ⟨⟨h6, _⟩ | ⟨L', sh, m', h6, rfl, h7, h8, h9⟩, hb⟩
  · rw [hL] at h6; cases h6
  · rw [hL] at h6; cases h6
    have l1 := h1.at_.lt
    have l2 := h1.at_.ltm
    have l3 := h7.lt
    have l4 := h7.ltm
    refine ⟨sh, rfl, ⟨G, m, m', h1.below hb, ⟨h7, h1.st.below hb, fun k => ?_, fun k => ?_, fun k hk => Nat.lt_of_lt_of_le (h1.lt k hk) hb.size, h1.len, hN, fun e => ?_⟩, ⟨by omega, by omega, by omega, by omega⟩, fun k hk => .inl (h2 k hk), ⟨.inl h3, .inl h4⟩, ⟨.inr ⟨h8, l3⟩, .inr ⟨h9, l4⟩⟩, h5⟩, hb⟩
    · have := h1.lt _ k; omega
    · have := h1.lt _ k; omega
    · obtain ⟨es, cl, hb, _⟩ := h7.map
      rw [← e, h7.cells] at hb; cases hb
theorem set2 (A : Nat → Prop) (s t p f1 n1 f2 n2 N : Nat) (L M : List Lf) (c : Ct) (ad : Option Addr) (cap : Nat) (cs : List Cg) (w : World) (h : TwU A w s t p f1 n1 f2 n2 N L M c) (hc : CgAt w ad cs) (hok : COk cs) : Calls Tryz.prog 16 #[.pointer (some ⟨s, 0, none⟩), .slice ad cs.length cap] w fun e w' => e = .returned (errV (setI f1 n1 L c cs).1) ∧ TwU (upA A w w') w' s t p f1 n1 f2 n2 N (setI f1 n1 L c cs).2.1 M (setI f1 n1 L c cs).2.2 ∧ Fr A w w' := by
  obtain ⟨G, ms, mt, h1, h2, ⟨h3, h4, h5, h6⟩, h7, h8, h9, h10⟩ := h
  refine (set_any G s ms p f1 n1 N L 0 c ad cap cs w h1 (fun _ => h10.down) (by rw [h10.steps]; decide) (by rw [h10.loose]; simp) hc hok).mono ?_
  rw [setO_idle h10]
  rintro e w' ⟨rfl, G', m', g1, g2, g3, g4⟩
  have l1 := h2.at_.lt
  have l2 := h2.at_.ltm
  have hG : ∀ k, G k → k < w.heap.size := h1.lt
  have nG : ∀ k, k < w.heap.size → ¬ G k → ¬ G' k := fun k hk hn hg => by
    rcases g2 k hg with h | h
    · exact hn h
    · omega
  have kt : w'.heap[t]? = w.heap[t]? := g4.block t l1 (fun hk => by rcases hk with hk | hk; exact h2.nsh hk; exact h3 hk.symm)
  have km : w'.heap[mt]? = w.heap[mt]? := g4.block mt l2 (fun hk => by rcases hk with hk | hk; exact h2.nm hk; exact h4 hk.symm)
  have hA' : ∀ k, G' k → upA A w w' k := fun k hk => by
    rcases g2 k hk with h | h
    · exact .inl (h7 k h)
    · exact .inr ⟨h, g1.lt k hk⟩
  have hm' : m' ≠ t ∧ m' ≠ mt ∧ upA A w w' m' := by
    rcases g3 with rfl | h
    · exact ⟨h5, h6, .inl h8.2⟩
    · exact ⟨by omega, by omega, .inr ⟨h, g1.at_.ltm⟩⟩
  refine ⟨rfl, ⟨G', m', mt, g1, ⟨h2.at_.keep kt km, g1.st, nG t l1 h2.nsh, nG mt l2 h2.nm, g1.lt, g1.len, h2.fit, h2.ne⟩, ⟨h3, h4, hm'.1, hm'.2.1⟩, hA', ⟨.inl h8.1, hm'.2.2⟩, ⟨.inl h9.1, .inl h9.2⟩, setI_idle h10 _ _ _ _⟩, g4.mono fun k hlt hk => ?_⟩
  rcases hk with hk | hk
  · exact h7 k hk
  · rw [hk]; exact h8.1
/-- A Set touches its own area alone. -/
theorem setI_off {c : Ct} {fr n : Nat} {L : List Lf} (cs : List Cg) (hn : 2 ≤ n) {j : Nat} (hj : j < fr ∨ fr + n ≤ j) : (setI fr n L c cs).2.2.safe[j]? = c.safe[j]? := by
  unfold setI
  cases layL (todoL L cs) with
  | none => rfl
  | some ls =>
    simp only
    split
    · rfl
    · split
      · rfl
      · simp only [Ct.laid]
        refine setP_off _ _ _ fun x hx => ?_
        rcases List.mem_append.1 hx with hx | hx
        · obtain ⟨q, hq, e⟩ := mem_wsOf hx
          have := (mem_frN.1 hq).1
          rw [e, Int.toNat_natCast]; omega
        · rw [List.mem_singleton.1 hx]
          simp only [Int.toNat_natCast]; omega
theorem setI_apart {c : Ct} {fr n f2 n2 : Nat} {L M : List Lf} (cs : List Cg) (hc : c.Idle) (hn : 2 ≤ n) (hM : LOk n2 M) (hn2 : 2 ≤ n2) (hd : f2 + n2 ≤ fr ∨ fr + n ≤ f2) (h : Laid c f2 n2 M) : Laid (setI fr n L c cs).2.2 f2 n2 M := by
  refine h.off hc.loose (setI_idle hc _ _ _ _).loose fun j hj => setI_off cs hn ?_
  rcases hj with rfl | ⟨x, hx, rfl⟩
  · omega
  · have := hM.place x hx
    omega
end Go.Proofs.YtmekplaonlpfkaaGreatDoor
/- What the document lays: numbers, bytes (made by tools/mkwr.py). -/
namespace Go.Proofs.YtmekplaonlpfkaaGreatDoor
open Go.RowKit

set_option maxHeartbeats 400000 in
theorem docOwn_any (ad : Option Addr) (l : List Int) (cap : Nat) (w : World) (hs : SlAt w ad l.length (fn l)) (hnil : ad = none → l.length = 0 ∧ cap = 0) (hn : l.length ≤ 140737488355328) :
    Calls Tryz.prog 90 #[.slice ad l.length cap] w fun e w' => ∃ v, e = .returned v ∧ Ow w w' v l := by
  have HS : Hid (BSrc w (.slice ad l.length cap) l) := SlAt.src hs hnil
  have HB : Hid (∀ x, x ∈ l → 0 ≤ x ∧ x ≤ 255) := fun x hx => by
    obtain ⟨j, hj, rfl⟩ := List.mem_iff_getElem.1 hx
    have := hs.1 j hj
    rwa [fn_get l j hj] at this
  clear hs hnil
  go_enter Tryz.func90, Tryz.ntmps90
  go_wp2_with (at_builtin; refine wpList_append_B rfl _ _ rfl w _ _ [] l rfl rfl (Ow.nil w) HS.out HB.out (by simpa using hn) ?_; intro v w1 hO)
  go_ret
  exact ⟨v, rfl, by simpa using hO⟩
/-- The last q digits of a number, the highest first. -/
def lastD (n : Int) (q : Nat) : List Int := (List.range q).map fun j => n / 256 ^ (q - 1 - j) % 256
theorem lastD_length (n : Int) (q : Nat) : (lastD n q).length = q := by simp [lastD]
theorem lastD_succ (n : Int) (q : Nat) : lastD n (q + 1) = (n / 256 ^ q % 256) :: lastD n q := by
  unfold lastD
  rw [List.range_succ_eq_map, List.map_cons, List.map_map]
  congr 1
  apply List.map_congr_left
  intro j hj
  have : j < q := by simpa using hj
  show n / 256 ^ (q + 1 - 1 - (j + 1)) % 256 = _
  rw [show q + 1 - 1 - (j + 1) = q - 1 - j from by omega]
theorem lastD_bd (n : Int) (q : Nat) : ∀ x, x ∈ lastD n q → 0 ≤ x ∧ x ≤ 255 := by
  intro x hx
  simp only [lastD, List.mem_map] at hx
  obtain ⟨j, _, rfl⟩ := hx
  omega
theorem lastD_dgs (n : Int) : lastD n (sz n) = dgs false n (sz n) (sz n) := by
  unfold lastD dgs
  apply List.map_congr_left
  intro j _
  simp [dgt, trn]
theorem sz_is (n : Int) (q : Nat) (h0 : 0 ≤ n) (h8 : q ≤ 8) (hz : n / 256 ^ q = 0) (hp : q = 0 ∨ 0 < n / 256 ^ (q - 1)) : sz n = q := by
  have hc : q = 0 ∨ q = 1 ∨ q = 2 ∨ q = 3 ∨ q = 4 ∨ q = 5 ∨ q = 6 ∨ q = 7 ∨ q = 8 := by omega
  rcases hc with h | h | h | h | h | h | h | h | h <;> subst h <;> simp only [Nat.reduceSub, Int.reducePow, Nat.reduceEqDiff, false_or, true_or] at hz hp <;> unfold sz <;> repeat' split
  all_goals omega
theorem div_step (n : Int) (q : Nat) : n / 256 ^ q / 256 = n / 256 ^ (q + 1) := by
  rw [Int.pow_succ, Int.ediv_ediv_of_nonneg (Int.le_of_lt (Int.pow_pos (by decide)))]
theorem div_bd (n : Int) (q : Nat) (h0 : 0 ≤ n) (h1 : n ≤ 18446744073709551615) : 0 ≤ n / 256 ^ q ∧ n / 256 ^ q ≤ 18446744073709551615 := by
  have hp : (0 : Int) < 256 ^ q := Int.pow_pos (by decide)
  refine ⟨Int.ediv_nonneg h0 (Int.le_of_lt hp), ?_⟩
  exact Int.le_trans (Int.ediv_le_self _ h0) h1
theorem div_8 (n : Int) (q : Nat) (h0 : 0 ≤ n) (h1 : n ≤ 18446744073709551615) (hq : q ≤ 8) (hp : 0 < n / 256 ^ q) : q < 8 := by
  rcases Nat.lt_or_ge q 8 with h | h
  · exact h
  · have : q = 8 := by omega
    subst this
    simp only [Int.reducePow] at hp
    omega

set_option maxRecDepth 100000 in
set_option maxHeartbeats 1600000 in
theorem docDigits_own (n : Int) (w : World) (h0 : 0 ≤ n) (h1 : n ≤ 18446744073709551615) :
    Calls Tryz.prog 89 #[.int .u64 n] w fun e w' => ∃ v, e = .returned v ∧ Ow w w' v (dgs false n (sz n) (sz n)) := by
  have H0 : Hid (0 ≤ n ∧ n ≤ 18446744073709551615) := ⟨h0, h1⟩
  clear h0 h1
  go_enter Tryz.func89, Tryz.ntmps89
  go_wp2
  go_loopw [0, 3] (fun nv v wr => ∃ (q : Nat) (vo : Value), q ≤ 8 ∧ (q = 0 ∨ 0 < n / 256 ^ (q - 1)) ∧ nv = .int .u64 (n / 256 ^ q) ∧ v = vo ∧ Ow w wr vo (lastD n q)) (fun nv _ _ => (intOf nv).toNat)
  case atStart => exact ⟨0, _, by omega, .inl rfl, by simp, rfl, Ow.nil w⟩
  case round =>
    obtain ⟨q, vo, hq, hp, rfl, hv, hO⟩ := hrel
    have hv' := hv.symm
    subst hv'
    clear hv
    have hb := div_bd n q H0.out.1 H0.out.2
    have hst := div_step n q
    have HP8 := fun h => div_8 n q H0.out.1 H0.out.2 hq h
    generalize hm : n / 256 ^ q = m at *
    have HM : Hid (n / 256 ^ q = m) := hm
    have HP : Hid (q = 0 ∨ 0 < n / 256 ^ (q - 1)) := hp
    have HST : Hid (m / 256 = n / 256 ^ (q + 1)) := hst
    have HO : Hid (Ow w wr vo (lastD n q)) := hO
    have hlen := lastD_length n q
    clear hm hp hst hO
    by_cases hpos : 0 < m
    · have hq8 := HP8 hpos
      have hg : decide (m > 0) = true := by simpa using hpos
      have hr : m.tmod 256 = m % 256 := Int.tmod_eq_emod_of_nonneg hb.1
      have hd : m.tdiv 256 = m / 256 := Int.tdiv_eq_ediv_of_nonneg hb.1
      clear HP8
      go_wp2_with (first
        | (at_builtin; refine wpList_append_B rfl (.tmp 7) (.tmp 11) rfl wr _ _ [] [m % 256] rfl rfl ((Ow.nil wr).alloc _) (one_src wr _) (by intro y hy; rw [List.mem_singleton.1 hy]; omega) (by simp) ?_; intro v1 w1 hO1)
        | (at_builtin; refine wpList_append_B rfl (.tmp 12) (.tmp 13) rfl wr _ _ _ (lastD n q) rfl rfl hO1 (HO.out.src hO1.below) (lastD_bd n q) (by rw [hlen]; simp; omega) ?_; intro v2 w2 hO2)
        | fail)
      go_roundw
      case rel =>
        refine ⟨q + 1, _, by omega, .inr (by rw [Nat.add_sub_cancel, HM.out]; exact hpos), by rw [← HST.out], rfl, ?_⟩
        rw [lastD_succ, HM.out]
        exact hO2.mono HO.out.below
      case measure => simp [intOf]; omega
    · have hg : decide (m > 0) = false := by simpa using hpos
      have hm0 : n / 256 ^ q = 0 := by rw [HM.out]; omega
      have HSZ : Hid (sz n = q) := sz_is n q H0.out.1 hq hm0 HP.out
      clear hm0
      go_wp2
      go_ret
      refine ⟨vo, rfl, ?_⟩
      rw [← lastD_dgs, HSZ.out]
      exact HO.out
theorem docDigits_any (n : Int) (w : World) (h0 : 0 ≤ n) (h1 : n ≤ 18446744073709551615) :
    Calls Tryz.prog 89 #[.int .u64 n] w fun e w' => ∃ da dc, e = .returned (.slice da (sz n) dc) ∧ Ow w w' (.slice da (sz n) dc) (dgs false n (sz n) (sz n)) := by
  refine (docDigits_own n w h0 h1).mono fun e w' ⟨v, h, hO⟩ => ?_
  obtain ⟨da, dc, e1⟩ := hO.form
  rw [dgs_length] at e1
  subst e1
  exact ⟨da, dc, h, hO⟩
theorem dgs_bd (t : Bool) (n : Int) (k q : Nat) : ∀ x, x ∈ dgs t n k q → 0 ≤ x ∧ x ≤ 255 := by
  intro x hx
  simp only [dgs, List.mem_map] at hx
  obtain ⟨j, _, rfl⟩ := hx
  exact dgt_bd t n k j
theorem SlAt.below {w w' : World} {ad : Option Addr} {n : Nat} {z : Nat → Int} (h : SlAt w ad n z) (hb : Below w.heap.size w w') : SlAt w' ad n z := h.frm (S := []) (Frm.ofBelow hb) (by simp)

set_option maxRecDepth 100000 in
set_option maxHeartbeats 1600000 in
theorem docUint_any (ad : Option Addr) (l : List Int) (cap : Nat) (n : Int) (w : World) (hs : SlAt w ad l.length (fn l)) (hnil : ad = none → l.length = 0 ∧ cap = 0) (hn : l.length + 64 ≤ 140737488351232) (h0 : 0 ≤ n) (h1 : n ≤ 18446744073709551615) :
    Calls Tryz.prog 55 #[.slice ad l.length cap, .int .u64 n] w fun e w' => ∃ v, e = .returned v ∧ Ow w w' v (l ++ uB n) := by
  have HS : Hid (SlAt w ad l.length (fn l)) := hs
  have HU : Hid (uB n = (sz n : Int) :: dgs false n (sz n) (sz n)) := rfl
  have hlen := dgs_length false n (sz n) (sz n)
  have hk := sz_le n
  clear hs
  go_enter Tryz.func55, Tryz.ntmps55
  go_wp2_with (first
    | (go_at_call 89; refine (docDigits_any n _ h0 h1).mono ?_; rintro e w1 ⟨da, dc, rfl, hD⟩)
    | (go_at_call 90; refine (docOwn_any ad l cap _ (HS.out.below hD.below) hnil (by omega)).mono ?_; rintro e w2 ⟨vo, rfl, hO⟩)
    | (at_builtin; refine wpList_append_B rfl (.tmp 9) (.tmp 13) rfl w1 _ _ l [(sz n : Int)] rfl rfl (hO.alloc _) (one_src w2 _) (by intro y hy; rw [List.mem_singleton.1 hy]; omega) (by simp; omega) ?_; intro v1 w3 hO1)
    | (at_builtin; refine wpList_append_B rfl (.tmp 14) (.tmp 15) rfl w1 _ _ _ (dgs false n (sz n) (sz n)) rfl rfl hO1 (hD.src hO1.below) (dgs_bd _ _ _ _) (by rw [hlen]; simp; omega) ?_; intro v2 w4 hO2)
    | fail)
  go_ret
  refine ⟨v2, rfl, ?_⟩
  rw [HU.out]
  simpa using hO2.mono hD.below

attribute [local go_sem ↓] Go.wp_at_zero Go.wp_at_succ

/-- 'append(v, u...)' at a step of a region that draws its order. -/
theorem step_append_B {ops : Array Oper} {o : Oper} {a : Act} {w : World} {K : Act → World → Prop} {Q : Exit → Act → World → Prop} {E : Prop} (hgd : o.guard = none) (s x : Operand) (ho : o.op = .call { callee := .builtin .append, args := #[s, x], argTypes := #[29, 29] })
    (w0 : World) (v u : Value) (L ys : List Int) (hs : a.eval s = v) (hx : a.eval x = u) (hown : Ow w0 w v L) (hu : BSrc w u ys) (hy : ∀ y, y ∈ ys → 0 ≤ y ∧ y ≤ 255) (hlen : L.length + ys.length ≤ 140737488355328)
    (h : ∀ v' w1, Ow w0 w1 v' (L ++ ys) → K (a.put o.dst v') w1) : if Region.wanted o (yielded ops a.tmps) = true then Oper.wp Tryz.prog o a w K Q else E := by
  have hw : Region.wanted o (yielded ops a.tmps) = true := by simp [Region.wanted, hgd]
  rw [if_pos hw]
  obtain ⟨v', w1, hr, h2⟩ := run_append_B w w0 o.type v u L ys hown hu hy hlen
  unfold Oper.wp execOp
  simp only [ho, resolve, invoke, builtin, Sem.run_bind, Sem.run_pure, Result.andThen_ok, List.map_toArray, List.map_cons, List.map_nil, hs, hx, hr]
  exact h v' w1 h2
theorem Ow.old {w0 w : World} {v : Value} {L : List Int} (h : Ow w0 w v L) {k : Nat} {ob : Obj} (hk : w0.heap[k]? = some ob) : w.heap[k]? = some ob := by
  rw [h.below.block k (lt_of_block hk)]; exact hk
set_option maxRecDepth 100000 in
set_option maxHeartbeats 1600000 in
theorem docBytes_any (ad : Option Addr) (l : List Int) (cap : Nat) (xa : Option Addr) (n xc : Nat) (z : Nat → Int) (w : World) (hs : SlAt w ad l.length (fn l)) (hnil : ad = none → l.length = 0 ∧ cap = 0) (hn : l.length + 2 * n + 64 ≤ 140737488351232) (hx : SlAt w xa n z) :
    Calls Tryz.prog 56 #[.slice ad l.length cap, .slice xa n xc] w fun e w' => ∃ v, e = .returned v ∧ Ow w w' v (l ++ (escF z n ++ [0, 0])) := by
  have HS : Hid (SlAt w ad l.length (fn l)) := hs
  have HX : Hid (SlAt w xa n z) := hx
  clear hs hx
  go_enter Tryz.func56, Tryz.ntmps56
  go_wp2_with (first
    | (go_at_call 90; refine (docOwn_any ad l cap _ HS.out hnil (by omega)).mono ?_; rintro e w2 ⟨vo, rfl, hO⟩)
    | fail)
  go_loopw [5, 6] (fun v i wr => ∃ (q : Nat) (vx : Value), q ≤ n ∧ i = .int .i64 q ∧ v = vx ∧ Ow w wr vx (l ++ escF z q)) (fun _ i _ => n - (intOf i).toNat)
  case atStart => exact ⟨0, _, by omega, rfl, rfl, by simpa [escF] using hO⟩
  case round =>
    clear hO
    obtain ⟨q, vx, hq, rfl, hv, hO⟩ := hrel
    have hv' := hv.symm
    subst hv'
    clear hv
    have hle := escF_le z q
    have HO : Hid (Ow w wr vx (l ++ escF z q)) := hO
    by_cases hlt : q < n
    · obtain ⟨b, off, rfl, hcz⟩ := HX.out.2 (by omega)
      have hzq := HX.out.1 q hlt
      have hcq : wr.cell? ⟨b, off + q, none⟩ = some (.int .u8 (z q)) := (hO.below.cell (p := ⟨b, off + q, none⟩) (HX.out.lt (by omega) rfl)).trans (hcz q hlt)
      have hblt : b < w.heap.size := HX.out.lt (by omega) rfl
      clear hcz hO
      have hkeep : ∀ {v' w'}, Ow w w' v' (l ++ escF z q ++ [z q]) → w'.cell? ⟨b, off + q, none⟩ = some (.int .u8 (z q)) := fun h => (h.below.cell (p := ⟨b, off + q, none⟩) hblt).trans ((HO.out.below.cell (p := ⟨b, off + q, none⟩) hblt).symm.trans hcq)
      have HK : Hid (∀ {v' w'}, Ow w w' v' (l ++ escF z q ++ [z q]) → w'.cell? ⟨b, off + q, none⟩ = some (.int .u8 (z q))) := hkeep
      clear hkeep
      by_cases h0 : z q = 0
      · have h0' : (z q == 0) = true := by simp [h0]
        have H0 : Hid (z q = 0) := h0
        clear h0
        go_wp2_with (first
          | (at_builtin; refine wpList_append_B rfl (.tmp 15) (.tmp 20) rfl w _ _ _ [z q] rfl rfl (HO.out.alloc _) (one_src wr _) (by intro y hy; rw [List.mem_singleton.1 hy]; exact hzq) (by simp; omega) ?_; intro v2 w4 hO2; have hc2 := HK.out hO2)
          | (at_builtin; refine wpList_append_B rfl (.tmp 27) (.tmp 28) rfl w _ _ _ [255] rfl rfl (hO2.alloc _) (one_src w4 _) (by intro y hy; rw [List.mem_singleton.1 hy]; omega) (by simp; omega) ?_; intro v3 w5 hO3)
          | fail)
        go_roundw
        case rel =>
          refine ⟨q + 1, _, by omega, by go_num, rfl, ?_⟩
          have e : l ++ escF z (q + 1) = l ++ escF z q ++ [z q] ++ [255] := by rw [escF, esc, if_pos H0.out, H0.out]; simp
          rw [e]
          exact hO3
        case measure => simp [intOf]; omega
      · have h0' : (z q == 0) = false := by simp [h0]
        have H0 : Hid (¬ z q = 0) := h0
        clear h0
        go_wp2_with (first
          | (at_builtin; refine wpList_append_B rfl (.tmp 15) (.tmp 20) rfl w _ _ _ [z q] rfl rfl (HO.out.alloc _) (one_src wr _) (by intro y hy; rw [List.mem_singleton.1 hy]; exact hzq) (by simp; omega) ?_; intro v2 w4 hO2; have hc2 := HK.out hO2)
          | fail)
        go_roundw
        case rel =>
          refine ⟨q + 1, _, by omega, by go_num, rfl, ?_⟩
          have e : l ++ escF z (q + 1) = l ++ escF z q ++ [z q] := by rw [escF, esc, if_neg H0.out]; simp
          rw [e]
          exact hO2
        case measure => simp [intOf]; omega
    · obtain rfl : q = n := by omega
      clear hO
      go_wp2_with (first
        | (at_builtin; refine wpList_append_B rfl (.tmp 30) (.tmp 31) rfl w _ _ _ [0, 0] rfl rfl (HO.out.alloc _) (two_src wr _ _) (by intro y hy; simp at hy; omega) (by simp; omega) ?_; intro v3 w5 hO3)
        | fail)
      go_ret
      exact ⟨v3, rfl, by simpa using hO3⟩

end Go.Proofs.YtmekplaonlpfkaaGreatDoor
/- The document's Page: a leaf's bytes. -/
namespace Go.Proofs.YtmekplaonlpfkaaGreatDoor
open Go.RowKit Go.Maps Go.Sort

attribute [local go_sem ↓] Go.wp_at_zero Go.wp_at_succ

theorem wpList_conv {ops : Array Oper} {rest : List Oper} {o : Oper} {a : Act} {w : World} {Q : Exit → Act → World → Prop} (hgd : o.guard = none) (x : Operand) (ho : o.op = .convert 9 29 x) (k : List UInt8) (hx : a.eval x = encStr k)
    (h : ∀ c cap w1, ConvR w w1 c k → wpList Tryz.prog ops Q rest (a.put o.dst (.slice (some ⟨c, 0, none⟩) k.length cap)) w1) : wpList Tryz.prog ops Q (o :: rest) a w := by
  obtain ⟨c, cap, w1, hr, h2⟩ := conv_str k w
  refine wpList_plain hgd fun K hK => ?_
  unfold Oper.wp execOp
  simp only [ho, hx, Sem.run_bind, hr, Result.andThen_ok, Sem.run_pure]
  exact hK _ _ (h c cap w1 h2)
set_option maxRecDepth 100000 in
set_option maxHeartbeats 800000 in
theorem page_any (k v : List UInt8) (w : World) (hk : k.length ≤ 1000000) (hv : v.length ≤ 1000000) :
    Calls Tryz.prog 25 #[encStr k, encStr v] w fun e w' => ∃ x, e = .returned x ∧ Ow w w' x (leafB k v) := by
  have h0 : ∀ W : World, SlAt W none ([] : List Int).length (fn []) := fun W => SlAt.zero _ _
  have e1 : ([] : List Int) ++ (escF (fn (iU k)) k.length ++ [0, 0]) = encB k := rfl
  have e2 : encB k ++ (escF (fn (iU v)) v.length ++ [0, 0]) = leafB k v := rfl
  have hle := encB_le k
  have HC : Hid (∀ c cap W1, ConvR w W1 c k → Calls Tryz.prog 56 #[.slice none 0 0, .slice (some ⟨c, 0, none⟩) k.length cap] W1 fun e w' => ∃ ad cp, e = .returned (.slice ad (encB k).length cp) ∧ Ow W1 w' (.slice ad (encB k).length cp) (encB k)) := fun c cap W1 hC => by
    refine (docBytes_any none [] 0 (some ⟨c, 0, none⟩) k.length cap (fn (iU k)) W1 (h0 W1) (fun _ => ⟨rfl, rfl⟩) (by simp; omega) hC.sl).mono ?_
    rintro e w' ⟨x, rfl, hO⟩
    rw [e1] at hO
    obtain ⟨ad, cp, rfl⟩ := hO.form
    exact ⟨ad, cp, rfl, hO⟩
  have HD : Hid (∀ W ad cp c cap W1, Ow w W (.slice ad (encB k).length cp) (encB k) → ConvR W W1 c v → Calls Tryz.prog 56 #[.slice ad (encB k).length cp, .slice (some ⟨c, 0, none⟩) v.length cap] W1 fun e w' => ∃ x, e = .returned x ∧ Ow w w' x (leafB k v)) := fun W ad cp c cap W1 hO hC => by
    have hF := hO.fresh
    refine (docBytes_any ad (encB k) cp (some ⟨c, 0, none⟩) v.length cap (fn (iU v)) W1 (hF.2.1.keepB hC.below) hF.2.2.1 (by omega) hC.sl).mono ?_
    rintro e w' ⟨x, rfl, hO2⟩
    rw [e2] at hO2
    exact ⟨x, rfl, hO2.mono (Below.transS hO.below hC.below)⟩
  clear h0 e1 e2 hle
  go_enter Tryz.func25, Tryz.ntmps25
  go_wp2_with (first | (refine wpList_conv rfl _ rfl k rfl ?_; intro c1 cap1 w1 hC1) | fail)
  have hb := HC.out c1 cap1 w1 hC1
  have HB1 : Hid (Below w.heap.size w w1) := hC1.below
  clear hC1
  generalize (encB k).length = el at *
  refine hb.mono ?_
  rintro e w2 ⟨ad2, cp2, rfl, hO2⟩
  have HO2 : Hid (Ow w w2 (.slice ad2 el cp2) (encB k)) := hO2.mono HB1.out
  clear hb hO2
  go_wp2_with (first | (refine wpList_conv rfl _ rfl v rfl ?_; intro c3 cap3 w3 hC3) | fail)
  have hd := HD.out w2 ad2 cp2 c3 cap3 w3 HO2.out hC3
  clear hC3
  refine hd.mono ?_
  rintro e w4 ⟨x4, rfl, hO4⟩
  have HE : Hid (Ow w w4 x4 (leafB k v)) := hO4
  clear hd hO4
  go_wp2
  go_ret
  exact ⟨_, rfl, HE.out⟩
end Go.Proofs.YtmekplaonlpfkaaGreatDoor
