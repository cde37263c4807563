/- The root page: the walk. -/
import Derived.Test.YtbfajoeilpkofaaGreatDoorOwnShelf27
import Derived.Test.YtbfajoeilpkofaaGreatDoorOwnShelf26
namespace Go.Proofs.YtbfajoeilpkofaaGreatDoor
open Go.RowKit Go.Shelf Go.Maps Go.Sort

attribute [local go_sem ↓] Go.wp_at_zero Go.wp_at_succ

set_option maxRecDepth 100000 in
set_option maxHeartbeats 3200000 in
theorem rootPage_any (m : Nat) (L : List Lf) (w : World) (hm : lfM w m L) (hr : Rise Lf.k L) (hl : L.length ≤ 2000) (hp : ∀ x ∈ L, x.p ≤ 2000) :
    Calls Tryz.prog 49 #[.map (some m)] w fun e w' => ∃ ad cap, e = .returned (.slice ad (rootB L).length cap) ∧ OwnB w w' ad cap (rootB L) := by
  have hown : w.ownsMap Tryz.prog 9 lfR m L.length (dOf Lf.k Lf.en L) := hm
  have hsz : Maps.size (dOf Lf.k Lf.en L) = L.length := dOf_size _ _ _
  obtain ⟨v0, w1, hmk, hI1, hs1, gv, cv, rfl⟩ := make_ints L.length (by omega) w
  have hown1 : w1.ownsMap Tryz.prog 9 lfR m L.length (dOf Lf.k Lf.en L) := owns_keepB hm (hI1.below.block m hown.lt)
  have lm := hown.lt
  have HI1 : Hid (IOw w w1 (.slice (some ⟨gv, 0, none⟩) 0 cv) []) := hI1
  have HP : Hid (Rise Lf.k L ∧ ∀ x ∈ L, x.p ≤ 2000) := ⟨hr, hp⟩
  have hlen : ∀ ty, (Builtin.len_ #[81] ty #[.map (some m)]).run Tryz.prog w = .ok (.int .i64 (L.length : Int)) w := fun ty => by
    have := hown.len Tryz.underlying81 ty
    rwa [hsz] at this
  clear hm hI1 hr hp
  go_enter Tryz.func49, Tryz.ntmps49
  go_wp2_with (first | (at_range; refine wpList_range_own _ rfl _ 81 rfl 9 101 strK Tryz.underlying81 _ m L.length _ rfl hown1 ?_; intro w2 hrg0 hg0 hs0) | fail)
  go_frame
  rw [hsz] at hrg0
  have hJ0 : RtI w w2 (.slice (some ⟨gv, 0, none⟩) 0 cv) L (Maps.has (dOf Lf.k Lf.en L)) L.length :=
    ⟨⟨[], CameF.start L, HI1.out.keep ⟨hg0.os, hg0.tape, hg0.output, hg0.size, fun k hk => hg0.block k hk (by simp)⟩, by simp, gv, _, cv, rfl⟩⟩
  have hbr : w.heap.size ≤ w1.heap.size := by omega
  generalize w1.heap.size = rr at *
  clear hown hown1 hmk hlen HI1 hg0 hs1 hs0
  go_loopw [3] (fun v wr => ∃ (left : Lit → Bool) (cnt : Nat), wr.ranges Tryz.prog 9 lfR m rr L.length (dOf Lf.k Lf.en L) left cnt ∧ RtI w wr v L left cnt) (fun _ wr => wr.rangeLeft m rr)
  case atStart => exact ⟨_, _, hrg0, hJ0⟩
  case round =>
    clear hrg0 hJ0
    obtain ⟨left, cnt, hrg, ⟨xs, hC, hO, hxl, g3, n3, c3, rfl⟩⟩ := hrel
    obtain ⟨hn3, hg3, hge3, hcells⟩ := iow_cells hO
    have HN3 : Hid (n3 = (xs.map fun x => (x.p : Int)).length) := hn3
    clear hn3
    have HO : Hid (IOw w wr (.slice (some ⟨g3, 0, none⟩) n3 c3) (xs.map fun x => (x.p : Int))) := hO
    have HCm : Hid (CameF L left xs) := hC
    have HCl : Hid (∀ j x, (xs.map fun x => (x.p : Int))[j]? = some x → wr.cell? ⟨g3, 0 + j, none⟩ = some (.int .i64 x) ∧ wr.frozen? ⟨g3, 0 + j, none⟩ = false) := hcells
    clear hO hC hcells
    go_wp2_with (first | (at_next; refine wpList_next_ranges _ rfl _ rfl 9 strK lfR encStr (fun c : Nat × List UInt8 => Value.agg #[.int .i64 (c.1 : Int), encStr c.2]) (fun key kl hk => key_inv hk) (fun v y hv => lfR_val hv) m rr L.length _ left cnt rfl hrg ?_ ?_) | fail)
    · intro hc0 hl0
      have hperm := HCm.out.perm HP.out.1 hl0
      have hsrt : srtI (xs.map fun x => (x.p : Int)) = plI L := srtI_perm (hperm.map _)
      have hso := sortI_any g3 c3 (xs.map fun x => (x.p : Int)) wr HCl.out hg3 (by simp; omega) w.heap.size hge3
      rw [hsrt, ← HN3.out] at hso
      have hn3 : n3 = L.length := by have := HN3.out; simp at this; have := hperm.length_eq; omega
      have HBw : Hid (Below w.heap.size w wr) := HO.out.below
      have HPl : Hid (∀ (j : Nat) (x : Int), (plI L)[j]? = some x → 0 ≤ x ∧ x ≤ 2000) := fun j x hx => by
        obtain ⟨y, hy, rfl⟩ := plI_mem (List.mem_of_getElem? hx)
        have := HP.out.2 y hy
        omega
      have hpln := plI_length L
      have hRB : uB (L.length : Int) ++ uBs ((plI L).take (plI L).length) = rootB L := by rw [List.take_length]; rfl
      have HRB : Hid (uB (L.length : Int) ++ uBs ((plI L).take (plI L).length) = rootB L) := hRB
      have hru := uB_le (L.length : Int)
      subst hn3
      clear HCm HCl HO HN3 hrg hperm hsrt hRB HP
      have hul : IntKind.u64.wrap (L.length : Int) = (L.length : Int) := by simp [IntKind.wrap, IntKind.bits, IntKind.signed]; omega
      generalize hPl : plI L = Pl at *
      clear hPl
      go_wp2_with fail
      refine hso.mono ?_
      rintro e w4 ⟨rfl, hP4, hb4⟩
      have HB4 : Hid (Below w.heap.size w w4) := HBw.out.trans hb4
      have HP4 : Hid (IsL w4 (some ⟨g3, 0, none⟩) Pl ∧ g3 < w4.heap.size) := ⟨hP4, Nat.lt_of_lt_of_le hg3 hb4.size⟩
      clear hso hP4 hb4 HBw
      go_wp2_with fail
      refine (newW_any w4).mono ?_
      rintro e w5 ⟨p5, rfl, hW5, hb5⟩
      go_wp2_with fail
      refine (uintW_any w4 w5 p5 none [] (L.length : Int) hW5 hb5 (by simp) (by omega)).mono ?_
      rintro e w6 ⟨rfl, g6, hW6, hb6⟩
      rw [List.nil_append] at hW6
      clear hW5 hb5
      go_wp2
      go_loopw [32] (fun iv wq => ∃ (i : Nat) (gq : Option Nat), i ≤ L.length ∧ iv = .int .i64 i ∧ WrAt wq w4.heap.size p5 gq (uB (L.length : Int) ++ uBs (Pl.take i)) ∧ Below w4.heap.size w4 wq) (fun iv _ => L.length - (intOf iv).toNat)
      case atStart => exact ⟨0, g6, Nat.zero_le _, rfl, by simpa [uBs] using hW6, hb6⟩
      case round =>
        clear hW6 hb6
        obtain ⟨i, gq, hi, rfl, hWq, hbq⟩ := hrel
        have hbd := uBs_le (Pl.take i)
        have hll : (uB (L.length : Int) ++ uBs (Pl.take i)).length ≤ 1000000 := by simp at hbd ⊢; omega
        by_cases hlt : i < L.length
        · have hlt' : (i : Int) < L.length := by omega
          have hlp : i < Pl.length := by omega
          have hx : Pl[i]? = some Pl[i] := List.getElem?_eq_getElem hlp
          have hxb := HPl.out i _ hx
          have htk : Pl.take (i + 1) = Pl.take i ++ [Pl[i]] := (List.take_append_getElem hlp).symm
          obtain ⟨b', off', e', hcz⟩ := HP4.out.1 (by omega)
          cases e'
          have hcx : wr.cell? ⟨g3, 0 + i, none⟩ = some (.int .i64 Pl[i]) := (hbq.cell (p := ⟨g3, 0 + i, none⟩) HP4.out.2).trans (hcz i _ hx)
          rw [Nat.zero_add] at hcx
          have htk2 : uB (L.length : Int) ++ uBs (Pl.take (i + 1)) = (uB (L.length : Int) ++ uBs (Pl.take i)) ++ uB Pl[i] := by rw [htk, uBs_snoc, List.append_assoc]
          have HT2 : Hid (uB (L.length : Int) ++ uBs (Pl.take (i + 1)) = (uB (L.length : Int) ++ uBs (Pl.take i)) ++ uB Pl[i]) := htk2
          clear htk htk2 hx hcz
          generalize Pl[i] = y at *
          have huy : IntKind.u64.wrap y = y := by simp [IntKind.wrap, IntKind.bits, IntKind.signed]; omega
          have hu := uintW_any w4 wr p5 gq _ y hWq hbq hll (by omega)
          clear hWq
          go_wp2_with fail
          refine hu.mono ?_
          rintro e w7 ⟨rfl, g7, hW7, hb7⟩
          go_wp2
          refine ⟨⟨i + 1, g7, by omega, by go_num, by rw [HT2.out]; exact hW7, hb7⟩, by simp [intOf]; omega⟩
        · obtain rfl : i = L.length := by omega
          have hlt' : ¬ ((L.length : Int) < L.length) := by omega
          have hWr : WrAt wr w4.heap.size p5 gq (rootB L) := by rw [← HRB.out, hpln]; exact hWq
          have hll2 : (rootB L).length ≤ 1000000 := by rw [← HRB.out, hpln]; exact hll
          have hbd2 : ∀ y, y ∈ rootB L → 0 ≤ y ∧ y ≤ 255 := by obtain ⟨_, _, _, _, _, hx⟩ := hWr; exact hx
          have HBD : Hid (∀ y, y ∈ rootB L → 0 ≤ y ∧ y ≤ 255) := hbd2
          have hdn := wrDone_any p5 w4.heap.size gq (rootB L) wr hWr (by omega)
          have HBq : Hid (Below w.heap.size w wr) := Below.transS HB4.out hbq
          clear hWq hWr hbd2 hll hbd
          go_wp2_with fail
          refine hdn.mono ?_
          rintro e w8 ⟨ad8, cap8, rfl, _, k2, k3, k4, hb8⟩
          have HE : Hid (OwnB w w8 ad8 cap8 (rootB L)) := ⟨k2, k3, (fun a e => Nat.le_trans HBq.out.size (k4 a e)), Below.transS HBq.out hb8, HBD.out⟩
          clear k2 k3 k4 hb8
          go_wp2
          go_ret
          exact ⟨ad8, cap8, rfl, HE.out⟩
    · intro x cp cv' kl yd yp w3 cnt3 hkey hlk hv hat hrg3 hlt hgr3 hs3 hen
      obtain ⟨rfl, f, hgf, hfp, hfv⟩ := lf_came (c := (cp, cv')) (y := (yd, yp)) hkey hv hat
      simp only at hfp hfv
      subst hfp
      have hC2 := HCm.out.step HP.out.1 hgf hlk
      obtain ⟨hO3, hne3⟩ := iow_walk HO.out hgr3 hrg.iter_walk hbr
      have hml3 := hrg3.owns.lt
      have hrl3 := hrg3.lt
      have hmg : g3 ≠ m := by omega
      have hrgn : g3 ≠ rr := fun e => hne3 (by rw [e]; rfl)
      have hms : cnt3 < wr.rangeLeft m rr := by rw [hrg.left_eq]; exact hlt
      have HO4 : Hid (IOw w ((w3.alloc (.cells #[.int .i64 (f.p : Int), encStr cv'] 101)).alloc (.cells #[.int .i64 (f.p : Int)] 3)) (.slice (some ⟨g3, 0, none⟩) n3 c3) (xs.map fun x => (x.p : Int))) := (hO3.alloc _).alloc _
      have HN : Hid (∀ v4 w4, IOw w w4 v4 ((xs.map fun x => (x.p : Int)) ++ [(f.p : Int)]) → (∀ k, k < ((w3.alloc (.cells #[.int .i64 (f.p : Int), encStr cv'] 101)).alloc (.cells #[.int .i64 (f.p : Int)] 3)).heap.size → (Value.slice (some ⟨g3, 0, none⟩) n3 c3).ownBlock ≠ some k → w4.heap[k]? = ((w3.alloc (.cells #[.int .i64 (f.p : Int), encStr cv'] 101)).alloc (.cells #[.int .i64 (f.p : Int)] 3)).heap[k]?) →
          w4.ranges Tryz.prog 9 lfR m rr L.length (dOf Lf.k Lf.en L) (fun z => left z && !z.sameKey (.string x)) cnt3 ∧ RtI w w4 v4 L (fun z => left z && !z.sameKey (.string x)) cnt3) := fun v4 w4 h1 h2 => by
        have e1 : ∀ k, k < w3.heap.size → g3 ≠ k → w4.heap[k]? = w3.heap[k]? := fun k hk hne => by
          rw [h2 k (by simp; omega) (fun e => hne (Option.some.inj e)), Below.heap_alloc _ _ _ (by simp; omega), Below.heap_alloc _ _ _ hk]
        refine ⟨ranges_keepB hrg3 (e1 m hml3 hmg) (e1 rr hrl3 hrgn), ⟨xs ++ [f], hC2, by simpa using h1, by simp; omega, iow_some h1⟩⟩
      have hxl' : (xs.map fun x => (x.p : Int)).length ≤ 2000 := by simp; omega
      clear hs3 hrg hrg3 hgr3 hO3 hat hv hkey hgf hlk HO HCm HCl hC2
      generalize (xs.map fun x => (x.p : Int)) = ps at *
      generalize f.p = fp at *
      have hnew : ((w3.alloc (.cells #[.int .i64 (fp : Int), encStr cv'] 101)).alloc (.cells #[.int .i64 (fp : Int)] 3)).heap[w3.heap.size + 1]? = some (.cells #[.int .i64 (fp : Int)] 3 (0, 0)) := by
        have := heap_alloc_new (w3.alloc (.cells #[.int .i64 (fp : Int), encStr cv'] 101)) (.cells #[.int .i64 (fp : Int)] 3)
        rwa [World.size_alloc] at this
      have HNew : Hid (ISrc ((w3.alloc (.cells #[.int .i64 (fp : Int), encStr cv'] 101)).alloc (.cells #[.int .i64 (fp : Int)] 3)) (.slice (some ⟨w3.heap.size + 1, 0, none⟩) 1 1) [(fp : Int)]) := one_isrc hnew
      clear hnew
      go_wp2_with (first | (at_builtin; (refine wpList_append_I2 rfl _ _ rfl w _ _ ps [(fp : Int)] rfl rfl HO4.out HNew.out (by simp; omega) ?_; intro v4 w4 hO5 hk5)) | fail)
      have hE := HN.out v4 w4 hO5 hk5
      refine ⟨⟨_, _, hE.1, hE.2⟩, ?_⟩
      rw [hE.1.left_eq]
      exact hms
end Go.Proofs.YtbfajoeilpkofaaGreatDoor
/- What a Set leaves: places, lengths, the root page's length. -/
namespace Go.Proofs.YtbfajoeilpkofaaGreatDoor
open Go.RowKit Go.Maps Go.Sort

theorem insK_perm {α : Type} (key : α → List UInt8) (x : α) : ∀ l : List α, (insK key x l).Perm (x :: l)
  | [] => List.Perm.refl _
  | y :: r => by
    unfold insK
    split
    · exact List.Perm.refl _
    · exact ((insK_perm key x r).cons y).trans (List.Perm.swap x y r)
theorem putK_perm {α : Type} (key : α → List UInt8) (x : α) (l : List α) : (putK key x l).Perm (x :: delK key (key x) l) := insK_perm key x _
/-- The free places. -/
def frN (L : List Lf) (n : Nat) : List Nat := (List.range' 1 (n - 1)).filter fun i => !heldB L i
theorem frL_frN (L : List Lf) (n : Nat) : frL L n = (frN L n).map fun x : Nat => (x : Int) := rfl
/-- While leaves are laid anew. -/
structure BOk (n : Nat) (f : List Nat) (M : List Lf) : Prop where
  ok : LOk n M
  nod : f.Nodup
  apart : ∀ x ∈ M, x.p ∉ f
  place : ∀ y ∈ f, 1 ≤ y ∧ y < n
theorem BOk.start {n : Nat} {L : List Lf} (h : LOk n L) : BOk n (frN L n) L := by
  refine ⟨h, (List.nodup_range' (step := 1)).filter _, fun x hx hm => ?_, fun y hy => ?_⟩
  · have := (List.mem_filter.1 hm).2
    simp [heldB] at this
    exact this x hx rfl
  · have := (List.mem_filter.1 hy).1
    simp [List.mem_range'_1] at this
    omega
theorem LOk.del {n : Nat} {M : List Lf} (h : LOk n M) (k : List UInt8) : LOk n (delK Lf.k k M) := by
  refine ⟨h.rise.del Lf.k k, ?_, fun x hx => h.place x ((mem_delK Lf.k).1 hx).1, fun x hx => h.len x ((mem_delK Lf.k).1 hx).1⟩
  exact (List.filter_sublist.map Lf.p).nodup h.apart
theorem BOk.del {n : Nat} {f : List Nat} {M : List Lf} (h : BOk n f M) (k : List UInt8) : BOk n f (delK Lf.k k M) :=
  ⟨h.ok.del k, h.nod, fun x hx => h.apart x ((mem_delK Lf.k).1 hx).1, h.place⟩
theorem BOk.put {n y : Nat} {f : List Nat} {M : List Lf} (h : BOk n (y :: f) M) {k v : List UInt8} (hk : k.length ≤ 4096) (hv : v.length ≤ 4096) : BOk n f (putK Lf.k ⟨k, y, v⟩ M) := by
  obtain ⟨n1, n2⟩ := List.nodup_cons.1 h.nod
  have hm : ∀ x ∈ putK Lf.k ⟨k, y, v⟩ M, x = ⟨k, y, v⟩ ∨ x ∈ M := fun x hx => ((mem_putK Lf.k).1 hx).imp id And.left
  refine ⟨⟨h.ok.rise.put Lf.k, ?_, fun x hx => ?_, fun x hx => ?_⟩, n2, fun x hx hf => ?_, fun z hz => h.place z (List.mem_cons_of_mem _ hz)⟩
  · have hp := (putK_perm Lf.k ⟨k, y, v⟩ M).map Lf.p
    rw [hp.nodup_iff, List.map_cons, List.nodup_cons]
    refine ⟨fun hy => ?_, (h.ok.del k).apart⟩
    obtain ⟨x, hx, e⟩ := List.mem_map.1 hy
    exact h.apart x ((mem_delK Lf.k).1 hx).1 (by rw [e]; exact List.mem_cons_self ..)
  · rcases hm x hx with rfl | hx
    · exact h.place y (List.mem_cons_self ..)
    · exact h.ok.place x hx
  · rcases hm x hx with rfl | hx
    · exact ⟨hk, hv⟩
    · exact h.ok.len x hx
  · rcases hm x hx with rfl | hx
    · exact n1 hf
    · exact h.apart x hx (List.mem_cons_of_mem _ hf)
theorem behL_ok {n : Nat} : ∀ (C : List Cg) (f : List Nat) (M : List Lf), BOk n f M → nlay C ≤ f.length → (∀ c ∈ C, c.g = false → c.k.length ≤ 4096 ∧ c.v.length ≤ 4096) → LOk n (behL C f M)
  | [], f, M, h, _, _ => h.ok
  | c :: r, f, M, h, hn, hl => by
    rw [nlay_cons] at hn
    unfold behL
    cases hg : c.g with
    | true =>
      rw [hg] at hn
      simp only [if_true] at hn ⊢
      exact behL_ok r f _ (h.del c.k) (by omega) fun d hd => hl d (List.mem_cons_of_mem _ hd)
    | false =>
      rw [hg] at hn
      have hl1 := hl c (List.mem_cons_self ..) hg
      cases f with
      | nil => simp at hn
      | cons y fs =>
        simp only [Bool.false_eq_true, if_false, List.tail_cons, List.headD_cons]
        exact behL_ok r fs _ ((h.del c.k).put hl1.1 hl1.2) (by simp at hn; omega) fun d hd => hl d (List.mem_cons_of_mem _ hd)
theorem esc_ge (z : Nat → Int) (k : Nat) : k ≤ (escF z k).length := by
  induction k with
  | zero => simp
  | succ k ih => have := esc_len (z k); simp only [escF, List.length_append]; omega
theorem encB_ge (u : List UInt8) : u.length ≤ (encB u).length := by
  have := esc_ge (fn (iU u)) u.length
  simp only [encB, List.length_append, List.length_cons, List.length_nil]
  omega
theorem layL_len : ∀ {C : List Cg} {ls : List (List Int)}, layL C = some ls → ∀ c ∈ C, c.g = false → c.k.length ≤ 4096 ∧ c.v.length ≤ 4096
  | [], _, _, c, hc, _ => by cases hc
  | d :: r, ls, h, c, hc, hg => by
    unfold layL at h
    cases hd : d.g with
    | true =>
      rw [hd] at h
      simp only [if_true] at h
      rcases List.mem_cons.1 hc with rfl | hc
      · rw [hd] at hg; cases hg
      · exact layL_len h c hc hg
    | false =>
      rw [hd] at h
      simp only [Bool.false_eq_true, if_false] at h
      split at h
      · cases h
      · rename_i hlg
        cases hr : layL r with
        | none => rw [hr] at h; cases h
        | some l2 =>
          rcases List.mem_cons.1 hc with rfl | hc
          · have h1 := encB_ge c.k
            have h2 := encB_ge c.v
            simp only [leafB, List.length_append] at hlg
            omega
          · exact layL_len hr c hc hg
theorem layL_n : ∀ {C : List Cg} {ls : List (List Int)}, layL C = some ls → ls.length = nlay C
  | [], _, h => by cases h; rfl
  | d :: r, ls, h => by
    unfold layL at h
    rw [nlay_cons]
    cases hd : d.g with
    | true =>
      rw [hd] at h
      simp only [if_true] at h ⊢
      rw [layL_n h]; omega
    | false =>
      rw [hd] at h
      simp only [Bool.false_eq_true, if_false] at h ⊢
      split at h
      · cases h
      · cases hr : layL r with
        | none => rw [hr] at h; cases h
        | some l2 =>
          rw [hr] at h
          cases h
          simp [layL_n hr]; omega
theorem LOk.few {n : Nat} {L : List Lf} (h : LOk n L) (hn : 2 ≤ n) : L.length < n := by
  have h2 : ∀ x ∈ L.map Lf.p, x ∈ List.range' 1 (n - 1) := fun x hx => by
    obtain ⟨y, hy, rfl⟩ := List.mem_map.1 hx
    have := h.place y hy
    simp [List.mem_range'_1]; omega
  have h3 := List.Nodup.length_le_of_subset h.apart h2
  simp at h3
  omega
theorem uB_small (x : Int) (h1 : x < 65536) : (uB x).length ≤ 3 := by
  have h : sz x ≤ 2 := by
    unfold sz
    by_cases a : x < 1
    · simp [a]
    · by_cases b : x < 256
      · simp [a, b]
      · simp [a, b, h1]
  simp [uB, dgs_length]; omega
theorem uBs_small : ∀ l : List Int, (∀ x ∈ l, 0 ≤ x ∧ x < 65536) → (uBs l).length ≤ 3 * l.length
  | [], _ => by simp [uBs]
  | x :: r, h => by
    have h1 := uB_small x (h x (List.mem_cons_self ..)).2
    have h2 := uBs_small r fun y hy => h y (List.mem_cons_of_mem _ hy)
    unfold uBs at h2 ⊢
    simp only [List.flatMap_cons, List.length_append, List.length_cons]
    omega
theorem rootB_le {n : Nat} {L : List Lf} (h : LOk n L) (hn : 2 ≤ n ∧ n ≤ 1024) : (rootB L).length ≤ 4096 := by
  have h1 := h.few hn.1
  have h2 := uB_small (L.length : Int) (by omega)
  have h3 := uBs_small (plI L) fun y hy => by
    obtain ⟨x, hx, rfl⟩ := plI_mem hy
    have := h.place x hx
    omega
  rw [plI_length] at h3
  simp only [rootB, List.length_append]
  omega
end Go.Proofs.YtbfajoeilpkofaaGreatDoor
