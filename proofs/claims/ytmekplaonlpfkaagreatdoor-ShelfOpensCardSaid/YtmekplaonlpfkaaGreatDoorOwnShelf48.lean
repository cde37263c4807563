/- A shelf on a store that may crash, beside the document's rows. -/
import Derived.Test.YtmekplaonlpfkaaGreatDoorOwnShelf46
namespace Go.Proofs.YtmekplaonlpfkaaGreatDoor
open Go.RowKit Go.Maps Go.Sort

attribute [local go_sem ↓] Go.wp_at_zero Go.wp_at_succ

theorem Tryz.infoRI : (Tryz.prog.info? 3).map (fun i => (i.zero, i.size, i.bytes)) = some (some (.int .i64 0), 1, 8) := by kernel_rfl
theorem rem_ix (br : Int) (n : Nat) (h1 : 1 ≤ n) (h2 : n ≤ 1000000) : ∃ i : Nat, i < n ∧ wrap64 ((IntKind.u64.wrap br).tmod n) = (i : Int) := by
  have h0 : 0 ≤ IntKind.u64.wrap br := by rw [IntKind.wrap_u64]; omega
  have e : (IntKind.u64.wrap br).tmod n = IntKind.u64.wrap br % n := Int.tmod_eq_emod_of_nonneg h0
  have h3 := Int.emod_nonneg (IntKind.u64.wrap br) (b := (n : Int)) (by omega)
  have h4 := Int.emod_lt_of_pos (IntKind.u64.wrap br) (b := (n : Int)) (by omega)
  refine ⟨(IntKind.u64.wrap br % n).toNat, by omega, ?_⟩
  rw [e]
  unfold wrap64
  omega
/-- Numbers of one's own. -/
def OwnR (w : World) (ks : List Int) (e : Ending) (w' : World) : Prop := ∃ ad cap, e = .returned (.slice ad ks.length cap) ∧ IsL w' ad ks ∧ Below w.heap.size w w'
set_option maxRecDepth 100000 in
set_option maxHeartbeats 800000 in
theorem ownI_any (ad : Option Addr) (cap : Nat) (ks : List Int) (w : World) (h : IsL w ad ks) (hn : ad = none → ks.length = 0 ∧ cap = 0) (hl : ks.length * 8 ≤ 140737488355328) :
    Calls Tryz.prog 29 #[.slice ad ks.length cap] w (OwnR w ks) := by
  obtain ⟨i0, hi0, hz0, hz1, hz2⟩ := info_parts Tryz.infoRI
  have key : ∃ v' w', (Builtin.append_ #[63, 63] 63 #[.slice none 0 0, .slice ad ks.length cap]).run Tryz.prog w = .ok v' w' ∧ OwnR w ks (.returned v') w' := by
    cases ad with
    | none =>
      obtain ⟨e, rfl⟩ := hn rfl
      have : ks = [] := List.eq_nil_of_length_eq_zero e
      subst this
      refine ⟨.slice none 0 0, w, ?_, none, 0, rfl, fun h => by simp at h, Below.refl _ _⟩
      simp [Builtin.append_, run_underlying Tryz.underlying63, sizeOf, typeInfo, hi0, Builtin.lenOf, Builtin.firstCells]
    | some a =>
      obtain ⟨v', w4, h1, h2, h3, _, h5⟩ := run_append_own_at (P := Tryz.prog) w w.heap.size 63 63 3 i0 (.int .i64 0) 1 8 Tryz.underlying63 hi0 hz0 hz1 hz2 rfl (by decide) (.slice none 0 0) 0 [] (World.ownsRow_nil _ _ _ _) a ks.length cap (ks.map (Value.int .i64)) (by simp)
        (fun j y hj => by
          have hjl : j < ks.length := by simpa using (List.getElem?_eq_some_iff.1 hj).1
          obtain ⟨b, off, e, hc⟩ := h (by omega)
          cases e
          rw [Addr.add_lit, hc j ks[j] (List.getElem?_eq_getElem hjl)]
          simpa [hjl] using hj)
        (fun u hu => by obtain ⟨y, _, rfl⟩ := List.mem_map.1 hu; rfl) (by unfold maxLen; omega) (by omega) (by omega)
      rw [Nat.zero_add, List.nil_append] at h2
      refine ⟨v', w4, h1, ?_⟩
      have hb : Below w.heap.size w w4 := (Below.refl _ w).grown h3 (Nat.le_refl _) (fun k hk => by simp [Value.ownBlock] at hk)
      rcases h2.2 with ⟨rfl, e⟩ | ⟨g, c, cur, rfl, _⟩
      · exact ⟨none, 0, by rw [e], fun hn => by omega, hb⟩
      · refine ⟨some ⟨g, 0, none⟩, c, rfl, fun _ => ⟨g, 0, rfl, fun j x hx => ?_⟩, hb⟩
        have := h2.cells (g := g) rfl j (.int .i64 x) (by rw [List.getElem?_map, hx]; rfl)
        rwa [Addr.add_lit] at this
  obtain ⟨v', w', hrun, hR⟩ := key
  have HR : Hid (OwnR w ks (.returned v') w') := hR
  clear hR h hn
  go_enter Tryz.func29, Tryz.ntmps29
  go_wp2_with (first | (at_builtin; refine wpList_append_run rfl _ _ _ rfl rfl rfl hrun ?_) | fail)
  go_ret
  exact HR.out

theorem IsL.below {w w' : World} {ad : Option Addr} {ks : List Int} (h : IsL w ad ks) (hb : Below w.heap.size w w') : IsL w' ad ks := h.keep fun _ e hn => hb.block _ (h.lt e hn)
/-- A shelf of 12 pages and its store, all of whose blocks are of A. -/
def ShX (A : Nat → Prop) (w : World) (s p : Nat) (S : List Lf) (dead : Int) (c : Ct) : Prop := ∃ (G : Nat → Prop) (m : Nat), ShS w G s m p 0 12 12 S dead c ∧ (∀ k, G k → A k) ∧ A s ∧ A m
theorem ShX.below {A : Nat → Prop} {w w' : World} {s p : Nat} {S : List Lf} {dead : Int} {c : Ct} (h : ShX A w s p S dead c) (hb : Below w.heap.size w w') : ShX A w' s p S dead c := by
  obtain ⟨G, m, h1, h2⟩ := h
  exact ⟨G, m, h1.below hb, h2⟩
theorem ShX.ok {A : Nat → Prop} {w : World} {s p : Nat} {S : List Lf} {dead : Int} {c : Ct} (h : ShX A w s p S dead c) : LOk 12 S := by
  obtain ⟨G, m, h1, h2⟩ := h
  exact h1.at_.ok
theorem setX (A : Nat → Prop) (s p : Nat) (S : List Lf) (c : Ct) (ad : Option Addr) (cap : Nat) (cs : List Cg) (w : World) (h : ShX A w s p S 0 c) (hr : c.Rest 12) (hc : CgAt w ad cs) (hok : COk cs) : Calls Tryz.prog 16 #[.pointer (some ⟨s, 0, none⟩), .slice ad cs.length cap] w fun e w' => e = .returned (errV (setO 0 12 S 0 c cs).1) ∧ ShX (upA A w w') w' s p (setO 0 12 S 0 c cs).2.1 (setO 0 12 S 0 c cs).2.2.1 (setO 0 12 S 0 c cs).2.2.2 ∧ Fr A w w' := by
  obtain ⟨G, m, h1, h2, h3, h4⟩ := h
  refine (set_any G s m p 0 12 12 S 0 c ad cap cs w h1 (fun _ => hr.down) hr.steps (by rw [hr.loose]; simp) hc hok).mono ?_
  rintro e w' ⟨rfl, G', m', g1, g2, g3, g4⟩
  refine ⟨rfl, ⟨G', m', g1, fun k hk => ?_, .inl h3, ?_⟩, g4.mono fun k hlt hk => ?_⟩
  · rcases g2 k hk with h | h
    · exact .inl (h2 k h)
    · exact .inr ⟨h, g1.lt k hk⟩
  · rcases g3 with rfl | h
    · exact .inl h4
    · exact .inr ⟨h, g1.at_.ltm⟩
  · rcases hk with hk | hk
    · exact h2 k hk
    · rw [hk]; exact h3
theorem deadX (A : Nat → Prop) (s p : Nat) (S : List Lf) (dead : Int) (c : Ct) (v : Value) (w : World) (h : ShX A w s p S dead c) (hd : dead ≠ 0) : Calls Tryz.prog 16 #[.pointer (some ⟨s, 0, none⟩), v] w fun e w' => e = .returned (errV dead) ∧ ShX (upA A w w') w' s p S dead c ∧ Fr A w w' := by
  obtain ⟨G, m, h1, h2, h3, h4⟩ := h
  refine (set_dead G s m p 0 12 12 S dead c v [] w h1 hd).mono ?_
  unfold setO
  rw [if_neg hd]
  rintro e w' ⟨rfl, G', m', g1, g2, g3, g4⟩
  refine ⟨rfl, ⟨G', m', g1, fun k hk => ?_, .inl h3, ?_⟩, g4.mono fun k hlt hk => ?_⟩
  · rcases g2 k hk with h | h
    · exact .inl (h2 k h)
    · exact .inr ⟨h, g1.lt k hk⟩
  · rcases g3 with rfl | h
    · exact .inl h4
    · exact .inr ⟨h, g1.at_.ltm⟩
  · rcases hk with hk | hk
    · exact h2 k hk
    · rw [hk]; exact h3
def Ct.arm (c : Ct) (n : Int) : Ct := { c with armed := true, steps := n }
theorem armX (A : Nat → Prop) (s p : Nat) (S : List Lf) (dead : Int) (c : Ct) (n : Int) (w : World) (h : ShX A w s p S dead c) (hn : 0 ≤ n) : Calls Tryz.prog 26 #[.pointer (some ⟨p, 0, none⟩), .int .i64 n] w fun e w' => e = .returned .nilIface ∧ ShX A w' s p S dead (c.arm n) ∧ Fr A w w' := by
  obtain ⟨G, m, h1, h2, h3, h4⟩ := h
  obtain ⟨T, hT, rfl⟩ := h1.st
  refine (arm_st G p T n w hT hn).mono ?_
  rintro e w' ⟨rfl, g1, g2⟩
  have l1 := h1.at_.lt
  have l2 := h1.at_.ltm
  refine ⟨rfl, ⟨G, m, ⟨h1.at_.keep (g2.block s l1 h1.nsh) (g2.block m l2 h1.nm), ⟨_, g1, rfl⟩, h1.nsh, h1.nm, fun k hk => Nat.lt_of_lt_of_le (h1.lt k hk) g2.size, h1.len, h1.fit, h1.ne⟩, h2, h3, h4⟩, g2.mono fun k _ hk => h2 k hk⟩
theorem downX (A : Nat → Prop) (s p : Nat) (S : List Lf) (dead : Int) (c : Ct) (w : World) (h : ShX A w s p S dead c) : Calls Tryz.prog 27 #[.pointer (some ⟨p, 0, none⟩)] w fun e w' => e = .returned (.bool c.down) ∧ w' = w := by
  obtain ⟨G, m, h1, h2, h3, h4⟩ := h
  obtain ⟨T, hT, rfl⟩ := h1.st
  exact down_st G p T w hT
theorem startX (A : Nat → Prop) (s p : Nat) (S : List Lf) (dead : Int) (c : Ct) (ad : Option Addr) (cap : Nat) (ks : List Int) (w : World) (h : ShX A w s p S dead c) (hk : IsL w ad ks) (hks : ks.length ≤ 140737488355328) : Calls Tryz.prog 28 #[.pointer (some ⟨p, 0, none⟩), .slice ad ks.length cap] w fun e w' => e = .returned (.tuple #[]) ∧ ShX A w' s p S dead (c.started (toldK ks)) ∧ Fr A w w' := by
  obtain ⟨G, m, h1, h2, h3, h4⟩ := h
  obtain ⟨T, hT, rfl⟩ := h1.st
  refine (start_st G p T ad cap ks w hT hk hks).mono ?_
  rintro e w' ⟨rfl, g1, g2⟩
  have l1 := h1.at_.lt
  have l2 := h1.at_.ltm
  refine ⟨rfl, ⟨G, m, ⟨h1.at_.keep (g2.block s l1 h1.nsh) (g2.block m l2 h1.nm), ⟨_, g1, ct_started T _⟩, h1.nsh, h1.nm, fun k hk => Nat.lt_of_lt_of_le (h1.lt k hk) g2.size, ?_, h1.fit, h1.ne⟩, h2, h3, h4⟩, g2.mono fun k _ hk => h2 k hk⟩
  have := h1.len
  simp only [Ct.started, Ct.settled, setC_length]
  exact this
theorem openX (A : Nat → Prop) (s p : Nat) (S : List Lf) (dead : Int) (c : Ct) (L : List Lf) (w : World) (h : ShX A w s p S dead c) (hr : c.Rest 12) (hL : openR c 0 12 = some L) : Calls Tryz.prog 11 #[.pointer (some ⟨p, 0, none⟩), .agg #[.int .i64 0, .int .i64 12]] w fun e w' => ∃ t, e = .returned (.tuple #[.pointer (some ⟨t, 0, none⟩), .nilIface]) ∧ ShX (upA A w w') w' t p L 0 c ∧ Below w.heap.size w w' := by
  obtain ⟨G, m, h1, h2, h3, h4⟩ := h
  refine (open_any G p 0 12 12 c w h1.st hr.ok (by omega) (by omega)).mono ?_
  rintro e w' ⟨⟨h6, _⟩ | ⟨L', sh, m', h6, rfl, h7, h8, h9⟩, hb⟩
  · rw [hL] at h6; cases h6
  · rw [hL] at h6; cases h6
    have l3 := h7.lt
    have l4 := h7.ltm
    refine ⟨sh, rfl, ⟨G, m', ⟨h7, h1.st.below hb, fun k => ?_, fun k => ?_, fun k hk => Nat.lt_of_lt_of_le (h1.lt k hk) hb.size, h1.len, by omega, fun e => ?_⟩, fun k hk => .inl (h2 k hk), .inr ⟨h8, l3⟩, .inr ⟨h9, l4⟩⟩, hb⟩
    · have := h1.lt _ k; omega
    · have := h1.lt _ k; omega
    · obtain ⟨es, cl, hb, _⟩ := h7.map
      rw [← e, h7.cells] at hb; cases hb
theorem sameX (A : Nat → Prop) (s p : Nat) (S : List Lf) (dead : Int) (c : Ct) (B : Nat → Prop) (v : Value) (M : List Lf) (w : World) (h : ShX A w s p S dead c) (hm : LrB B w v M) (hok : LOk 12 M) : Calls Tryz.prog 14 #[.pointer (some ⟨s, 0, none⟩), v, .int .i64 12] w fun e w' => e = .returned (.bool (decide (kvs S = kvs M))) ∧ Below w.heap.size w w' := by
  obtain ⟨G, m, h1, _⟩ := h
  obtain ⟨ad, cap, rfl, _, _, _, h6⟩ := hm
  exact same_any s m p 0 12 S dead ad cap M w h1.at_ h6 (by have := frN_length hok; omega) (fun y hy => by have := hok.len y hy; unfold maxLen; omega)
/-- The document's two rows, the area's box: all but A. -/
structure SfW (w wr : World) (A : Nat → Prop) (ab : Nat) (R : List Lf) (v : Value) (M : List Lf) (mv : Value) : Prop where
  row : LrB (fun k => ¬ A k) wr v R
  row2 : LrB (fun k => ¬ A k) wr mv M
  box : wr.heap[ab]? = some (.cells #[.int .i64 0, .int .i64 12] 35 (0, 0))
  nab : ¬ A ab
  low : LowA A w.heap.size wr
  below : Below w.heap.size w wr
section
variable {w wr w' : World} {A : Nat → Prop} {ab : Nat} {R M M' : List Lf} {v mv mv' : Value}
theorem SfW.next (h : SfW w wr A ab R v M mv) (hb : Below wr.heap.size wr w') : SfW w w' A ab R v M mv :=
  ⟨h.row.below hb, h.row2.below hb, (hb.block _ (lt_of_block h.box)).trans h.box, h.nab, h.low.more hb.size, Below.transS h.below hb⟩
theorem SfW.more (h : SfW w wr A ab R v M mv) (hb : Below wr.heap.size wr w') : SfW w w' (upA A wr w') ab R v M mv := by
  have hl := lt_of_block h.box
  have nu : ∀ k, ¬ A k → k < wr.heap.size → ¬ upA A wr w' k := fun k h1 h2 h3 => by rcases h3 with h3 | h3; exact h1 h3; omega
  exact ⟨h.row.keep hb.size fun k h1 h2 => ⟨nu k h1 h2, hb.block k h2⟩, h.row2.keep hb.size fun k h1 h2 => ⟨nu k h1 h2, hb.block k h2⟩, (hb.block _ hl).trans h.box, nu ab h.nab hl, h.low.up h.below.size hb.size, Below.transS h.below hb⟩
theorem SfW.fr (h : SfW w wr A ab R v M mv) (hf : Fr A wr w') : SfW w w' (upA A wr w') ab R v M mv :=
  ⟨h.row.fr hf, h.row2.fr hf, (hf.block _ (lt_of_block h.box) h.nab).trans h.box, fun h3 => by have := lt_of_block h.box; rcases h3 with h3 | h3; exact h.nab h3; omega, h.low.up h.below.size hf.size, h.below.trans (hf.below h.below.size fun k hk => (h.low k hk).1)⟩
theorem SfW.fr' (h : SfW w wr A ab R v M mv) (hf : Fr A wr w') : SfW w w' A ab R v M mv :=
  ⟨h.row.keep hf.size fun k h1 h2 => ⟨h1, hf.block k h2 h1⟩, h.row2.keep hf.size fun k h1 h2 => ⟨h1, hf.block k h2 h1⟩, (hf.block _ (lt_of_block h.box) h.nab).trans h.box, h.nab, h.low.more hf.size, h.below.trans (hf.below h.below.size fun k hk => (h.low k hk).1)⟩
theorem SfW.rowM (h : SfW w wr A ab R v M mv) (hb : Below wr.heap.size wr w') (hr : LrB (fun k => (¬ A k) ∨ wr.heap.size ≤ k) w' mv' M') : SfW w w' A ab R v M' mv' := by
  have h1 := h.next hb
  exact ⟨h1.row, hr.mono fun k hk _ => by rcases hk with hk | hk; exact hk; exact fun hA => by have := (h.low k hA).2; omega, h1.box, h1.nab, h1.low, h1.below⟩
theorem SfW.turn (h : SfW w wr A ab R v M mv) : SfW w wr A ab M mv M mv := ⟨h.row2, h.row2, h.box, h.nab, h.low, h.below⟩
theorem SfW.back (h : SfW w wr A ab R v M mv) : SfW w wr A ab R v R v := ⟨h.row, h.row, h.box, h.nab, h.low, h.below⟩
end
theorem docX {w wr : World} {A : Nat → Prop} {ab : Nat} {R M : List Lf} {v mv : Value} (h : SfW w wr A ab R v M mv) (hok : LOk 12 R) (ad : Option Addr) (cap : Nat) (cs : List Cg) (hc : CgAt wr ad cs) (hcl : longB cs = false) :
    Calls Tryz.prog 21 #[v, .int .i64 12, .slice ad cs.length cap] wr fun e w' => ∃ v' x y, e = .returned (.tuple #[v', x, y, .int .i64 (setD 12 R cs).2.2.2]) ∧ SfW w w' A ab R v (setD 12 R cs).1 v' ∧ Below wr.heap.size wr w' := by
  obtain ⟨h1, h2⟩ := COk.of_long hcl
  refine (docSet_any (fun k => ¬ A k) 12 v R ad cap cs wr h.row hok (by omega) hc h2 h1 (frN_length hok)).mono ?_
  rintro e w' ⟨v', rfl, h3, h4⟩
  exact ⟨v', _, _, rfl, h.rowM h4 h3, h4⟩
end Go.Proofs.YtmekplaonlpfkaaGreatDoor
/- Numbers that came in: how they lie. -/
namespace Go.Proofs.YtmekplaonlpfkaaGreatDoor
open Go.ChangeShapes Go.WideShapes Go.RowKit Go.ChangeAt

theorem bytesI : Tryz.prog.bytesOf 3 = 8 := by kernel_rfl
/-- Ints that came in: how they lie. -/
theorem ints_in {H : Type} {enc : TypeId × Value → H} {W : World} {base fuel : Nat} {cs : List Value} {x : DataW H × List MemPlace} {spare : Nat → Bool} {held : Bool} (hsp : ∀ b, spare b = true)
    (hf : DataW.trod enc Tryz.prog W base spare held fuel 63 cs = some x) (hw : Light 63 x.1) :
    ∃ (a : Option Addr) (cap : Nat) (ks : List Int), cs = [.slice a ks.length cap] ∧ ks.length * 8 ≤ 140737488355328 ∧ IsL W a ks ∧ (a = none → ks.length = 0 ∧ cap = 0) := by
  rcases open_ints Tryz.underlying63 Tryz.underlying3 (by kernel_rfl) hf with ⟨hcs, hx⟩ | ⟨ad, l, c, zs, hcs, _, hl, hm, hz, hx, hcell, hwz⟩
  · exact ⟨none, 0, [], hcs, by simp, fun h => by simp at h, fun _ => ⟨rfl, rfl⟩⟩
  · rw [hsp, if_pos rfl] at hz
    have hlen : (zs.take l).length = l := by simp; omega
    refine ⟨some ad, c, zs.take l, by rw [hlen]; exact hcs, ?_, fun hn => ?_, (fun h => by cases h)⟩
    · have h1 := hw _ (by rw [hx]; simp only [DataW.weights, Tryz.underlying63]; exact List.mem_cons_self)
      rw [bytesI] at h1
      simp [lits] at h1
      rw [hlen]; omega
    · rw [hlen] at hn
      obtain ⟨b, off, spot⟩ := ad
      have hc := hcell 0 (by omega)
      have hspot : spot = none := by simpa [Addr.add] using World.cell?_spot hc
      subst hspot
      refine ⟨b, off, rfl, fun j x hx => ?_⟩
      have hj : j < l := by have := (List.getElem?_eq_some_iff.1 hx).1; omega
      have := hcell j (by omega)
      rw [Addr.add_lit] at this
      rw [this]
      rw [List.getElem?_take, if_pos hj] at hx
      have hjz : j < zs.length := by omega
      rw [List.getElem?_eq_getElem hjz] at hx
      simp [List.getD_eq_getElem?_getD, List.getElem?_eq_getElem hjz] at hx ⊢
      exact hx
end Go.Proofs.YtmekplaonlpfkaaGreatDoor
