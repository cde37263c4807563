/- The document's ReadBytes. -/
import Derived.Test.YtmekplaonlpfkaaGreatDoorOwnShelf10
import Derived.Test.YtmekplaonlpfkaaGreatDoorOwnShelf38
namespace Go.Proofs.YtmekplaonlpfkaaGreatDoor
open Go.RowKit

/-- What the document's ReadBytes answers: the reader behind, the bytes. -/
def RBPost (w : World) (n : Nat) (z : Nat → Int) (r : List Int × Nat × Int) (e : Ending) (w' : World) : Prop :=
  ∃ ad cap ad1 cap1, e = .returned (.tuple #[.agg #[.slice ad (n - r.2.1) cap, .int .i64 r.2.2], .slice ad1 r.1.length cap1]) ∧ n - r.2.1 ≤ cap ∧ SlAt w ad (n - r.2.1) (fun j => z (j + r.2.1)) ∧ Fresh w w' ad1 cap1 r.1
theorem RBPost.err {w w' : World} {ad : Option Addr} {n cap : Nat} {z : Nat → Int} {er : Int} (hlc : n ≤ cap) (hs : SlAt w ad n z) (hb : Below w.heap.size w w') :
    RBPost w n z ([], 0, er) (.returned (.tuple #[.agg #[.slice ad n cap, .int .i64 er], .slice none 0 0])) w' := ⟨ad, cap, none, 0, rfl, hlc, hs, Fresh.nil hb⟩

theorem fail_b (a : Option Addr) (n c : Nat) (e : Int) (w : World) :
    Calls Tryz.prog 69 #[.agg #[.slice a n c, .int .i64 0], .int .i64 e] w fun ev w' => ev = .returned (.agg #[.slice a n c, .int .i64 e]) ∧ Below w.heap.size w w' :=
  (fail_0 a n c e w).mono fun ev w' ⟨h1, h2⟩ => ⟨h1, by rw [h2]; exact ((Below.refl _ w).alloc (Nat.le_refl _) _).alloc (by simp) _⟩
theorem two_allocs_0 (w : World) (o o' : Obj) : ((w.alloc o).alloc o').heap[w.heap.size]? = some o := by
  rw [Below.heap_alloc _ _ _ (by simp)]; exact heap_alloc_new w o
theorem two_allocs_1 (w : World) (o o' : Obj) : ((w.alloc o).alloc o').heap[w.heap.size + 1]? = some o' := by
  have := heap_alloc_new (w.alloc o) o'
  simpa using this

theorem fresh_two {w wr w2 : World} {ad : Option Addr} {cp : Nat} {l : List Int} (h : wr.ownsRow (w.heap.size + 2) 5 1 (.slice ad l.length cp) l.length (l.map (Value.int .u8))) (hx : ∀ x, x ∈ l → 0 ≤ x ∧ x ≤ 255) (hb : Below w.heap.size w wr)
    (hF : Frm [w.heap.size, w.heap.size + 1] wr w2) : Fresh w w2 ad cp l := by
  rw [map_bl] at h
  obtain ⟨ad', cap', e, h1, h2, h3, h4⟩ := own_SlAt (fn_bd hx) h
  cases e
  refine ⟨h1, h2.frm hF (fun b off _ e hm => ?_), h3, (fun a e => by have := h4 a e; omega), hb.trans (hF.below hb.size (fun k hk => by simp at hk; omega))⟩
  have := h4 _ e
  simp at this hm
  omega

set_option maxRecDepth 100000 in
set_option maxHeartbeats 400000 in
theorem refBytes_neg (a0 : Option Addr) (n cap : Nat) (most : Int) (w : World) (h : most < 0) :
    Calls Tryz.prog 40 #[.agg #[.slice a0 n cap, .int .i64 0], .int .i64 most] w fun e w' =>
      e = .returned (.tuple #[.agg #[.slice a0 n cap, .int .i64 1], .slice none 0 0]) ∧ Below w.heap.size w w' := by
  go_enter Tryz.func40, Tryz.ntmps40
  go_wp2_with (go_at_call 69; refine (fail_0 _ _ _ _ _).mono ?_; rintro e wf ⟨rfl, rfl⟩)
  exact bodyPost_ret (v := .tuple #[.agg #[.slice a0 n cap, .int .i64 1], .slice none 0 0]) (by simp [results, Tryz.results40, go_sem]) rfl ⟨rfl, (by repeat (first | exact Below.refl _ _ | refine Below.alloc ?_ (by simp; try omega) _ | refine Below.setCell ?_ (by simp) _))⟩

set_option maxRecDepth 100000 in
set_option maxHeartbeats 1600000 in
theorem refBytes_loop (a0 : Option Addr) (n cap : Nat) (z : Nat → Int) (most : Int) (w : World) (h0 : 0 ≤ most) (_hlc : n ≤ cap) (hn : n ≤ 140737488351232) (hs : SlAt w a0 n z) :
    Calls Tryz.prog 40 #[.agg #[.slice a0 n cap, .int .i64 0], .int .i64 most] w fun e w' => RBPost w n z (sc n z most (n + 1) 0 []) e w' := by
  obtain ⟨i0, hi0, hz0, hz1, hz2⟩ := info_parts Tryz.infoB
  have H : Hid (Tryz.prog.info? 5 = some i0 ∧ i0.zero = some (.int .u8 0) ∧ i0.size = 1 ∧ i0.bytes = 1) := ⟨hi0, hz0, hz1, hz2⟩
  clear hi0 hz0 hz1 hz2
  have HS : Hid (SlAt w a0 n z) := hs
  clear hs
  generalize hR : sc n z most (n + 1) 0 [] = R
  have HR : Hid (sc n z most (n + 1) 0 [] = R) := hR
  clear hR
  go_enter Tryz.func40, Tryz.ntmps40
  go_wp2
  go_loopw [6, 7] (fun v i wr => ∃ (q f : Nat) (l : List Int), q ≤ n ∧ i = .int .i64 q ∧ n + 1 ≤ f + q ∧ l.length ≤ q ∧ (l.length : Int) ≤ most ∧ (∀ x, x ∈ l → 0 ≤ x ∧ x ≤ 255) ∧ sc n z most f q l = R ∧ wr.ownsRow (w.heap.size + 2) 5 1 v l.length (l.map (Value.int .u8)) ∧ Below w.heap.size w wr ∧
      wr.heap[w.heap.size]? = some (.cells #[.slice a0 n cap, .int .i64 0] 89 (0, 0)) ∧ wr.heap[w.heap.size + 1]? = some (.cells #[.slice none 0 0, .int .i64 0] 89 (0, 0))) (fun _ i _ => n + 1 - (intOf i).toNat)
  case atStart => exact ⟨0, n + 1, [], Nat.zero_le _, rfl, by omega, by simp, by simpa using h0, by simp, HR.out, World.ownsRow_nil _ _ _ _, ((Below.refl _ w).alloc (Nat.le_refl _) _).alloc (by simp) _, two_allocs_0 w _ _, two_allocs_1 w _ _⟩
  case round =>
    obtain ⟨q, f, l, hq, rfl, hf, hlq, hlm, hx, hsc, hown, hb, hr0, hr1⟩ := hrel
    obtain ⟨ad, cp, rfl⟩ := own_form hown
    have HO : Hid (wr.ownsRow (w.heap.size + 2) 5 1 (.slice ad l.length cp) l.length (l.map (Value.int .u8))) := hown
    have HB : Hid (Below w.heap.size w wr) := hb
    have HX : Hid (∀ x, x ∈ l → 0 ≤ x ∧ x ≤ 255) := hx
    have HR0 : Hid (wr.heap[w.heap.size]? = some (.cells #[.slice a0 n cap, .int .i64 0] 89 (0, 0))) := hr0
    have HR1 : Hid (wr.heap[w.heap.size + 1]? = some (.cells #[.slice none 0 0, .int .i64 0] 89 (0, 0))) := hr1
    have hd0 := two_cell0 hr1
    have hd1 := two_cell1 hr1
    have hdf := two_free hr1
    have hc0 := two_cell0 hr0
    have hc1 := two_cell1 hr0
    have hcf := two_free hr0
    have hdz : w.heap.size + 1 < wr.heap.size := lt_of_block hr1
    clear hr0 hr1
    obtain ⟨f, rfl⟩ : ∃ f', f = f' + 1 := ⟨f - 1, by omega⟩
    rw [sc] at hsc
    clear hown hb hx
    by_cases hlt : q < n
    · obtain ⟨b, off, e0, hcz⟩ := HS.out.2 (by omega)
      have hblt : b < w.heap.size := HS.out.lt (by omega) e0
      have hcw : ∀ j, j < n → wr.cell? ⟨b, off + j, none⟩ = some (.int .u8 (z j)) := fun j hj => by rw [HB.out.cell (p := ⟨b, off + j, none⟩) hblt]; exact hcz j hj
      subst e0
      have hcq := hcw q hlt
      have hzq := HS.out.1 q hlt
      rw [if_pos hlt] at hsc
      by_cases hz0 : z q = 0
      · rw [if_pos hz0] at hsc
        have hz0' : (z q == 0) = true := by simp [hz0]
        have HZ : Hid (z q = 0) := hz0
        clear hz0
        by_cases hend : q + 1 = n
        · rw [if_pos hend] at hsc
          have he' : (((q : Int) + 1) == (n : Int)) = true := by simp; omega
          subst hsc
          clear hcw hcz HR
          go_wp2_with (go_at_call 69; refine (fail_b _ _ _ _ _).mono ?_; rintro e wf ⟨rfl, hbf⟩; have hf0 := (hbf.cell (p := ⟨w.heap.size + 1, 0, none⟩) hdz).trans hd0; have hf1 := (hbf.cell (p := ⟨w.heap.size + 1, 1, none⟩) hdz).trans hd1; have hff := fun o => (hbf.frozen (p := ⟨w.heap.size + 1, o, none⟩) hdz).trans (hdf o))
          exact bodyPost_ret (v := .tuple #[.agg #[.slice (some ⟨b, off, none⟩) n cap, .int .i64 12], .slice none 0 0]) (by simp [results, Tryz.results40, go_sem, hf0, hf1]) rfl (RBPost.err _hlc HS.out (((HB.out.trans (hbf.mono (by omega))).setCell (by simp) _).setCell (by simp) _))
        · rw [if_neg hend] at hsc
          have he' : (((q : Int) + 1) == (n : Int)) = false := by simp; omega
          have hcq1 := hcw (q + 1) (by omega)
          have hzq1 := HS.out.1 (q + 1) (by omega)
          by_cases h10 : z (q + 1) = 0
          · rw [if_pos h10] at hsc
            have h10' : (z (q + 1) == 0) = true := by simp [h10]
            subst hsc
            clear hcw hcz HR h10
            have hk1 : ((q : Int) + 2) ≤ (n : Int) := by omega
            have hk2 : (0 : Int) ≤ (q : Int) + 2 := by omega
            have hk3 : (n : Int) ≤ (cap : Int) := by omega
            go_wp2
            · refine bodyPost_ret (v := .tuple #[.agg #[.slice (some ⟨b, off, none⟩) (n - (q + 2)) 0, .int .i64 0], .slice ad l.length cp]) (by simp [results, Tryz.results40, go_sem, hd0, hd1]) rfl ?_
              exact ⟨_, _, ad, cp, rfl, by simp; omega, (by show SlAt w _ (n - (q + 2)) _; rw [show n - (q + 2) = 0 from by omega]; exact SlAt.zero _ _), fresh_two HO.out HX.out HB.out ((((Frm.refl [w.heap.size, w.heap.size + 1] wr).setCell _ _ (by simp)).setCell _ _ (by simp)).setCell _ _ (by simp))⟩
            · refine bodyPost_ret (v := .tuple #[.agg #[.slice (some ⟨b, off + (q + 2), none⟩) (n - (q + 2)) (cap - (q + 2)), .int .i64 0], .slice ad l.length cp]) (by simp [results, Tryz.results40, go_sem, hd0, hd1]) rfl ?_
              exact ⟨_, _, ad, cp, rfl, by simp; omega, (by have := HS.out.drop (k := q + 2); simpa [Addr.add_lit] using this), fresh_two HO.out HX.out HB.out ((((Frm.refl [w.heap.size, w.heap.size + 1] wr).setCell _ _ (by simp)).setCell _ _ (by simp)).setCell _ _ (by simp))⟩
          · rw [if_neg h10] at hsc
            have h10' : (z (q + 1) == 0) = false := by simp [h10]
            by_cases h1f : z (q + 1) = 255
            · rw [if_pos h1f] at hsc
              have h1f' : (z (q + 1) != 255) = false := by simp [h1f]
              by_cases hm : most ≤ l.length
              · rw [if_pos hm] at hsc
                subst hsc
                clear hcw hcz HR h10 h1f
                go_wp2_with (go_at_call 69; refine (fail_b _ _ _ _ _).mono ?_; rintro e wf ⟨rfl, hbf⟩; have hf0 := (hbf.cell (p := ⟨w.heap.size + 1, 0, none⟩) hdz).trans hd0; have hf1 := (hbf.cell (p := ⟨w.heap.size + 1, 1, none⟩) hdz).trans hd1; have hff := fun o => (hbf.frozen (p := ⟨w.heap.size + 1, o, none⟩) hdz).trans (hdf o))
                exact bodyPost_ret (v := .tuple #[.agg #[.slice (some ⟨b, off, none⟩) n cap, .int .i64 2], .slice none 0 0]) (by simp [results, Tryz.results40, go_sem, hf0, hf1]) rfl (RBPost.err _hlc HS.out (((HB.out.trans (hbf.mono (by omega))).setCell (by simp) _).setCell (by simp) _))
              · rw [if_neg hm] at hsc
                have HSC : Hid (sc n z most f (q + 2) (l ++ [z q]) = R) := hsc
                clear hcw hcz HR h10 h1f hsc
                go_wp2_with (at_builtin; refine wpList_append_lies _ rfl _ _ 29 rfl (w.heap.size + 2) 5 i0 _ 1 1 Tryz.underlying29 H.out.1 H.out.2.1 H.out.2.2.1 H.out.2.2.2 rfl (by omega) (.slice ad l.length cp) l.length (l.map (Value.int .u8)) rfl (HO.out.alloc _) ⟨wr.heap.size, 0, none⟩ 1 1 [.int .u8 (z q)] rfl rfl (World.news_of_block (cs := #[.int .u8 (z q)]) (t := 5) (fr := (0, 0)) (heap_alloc_new wr _)) (by simp [Value.oneCell']) (by omega) (by simp [maxLen]; omega) (by simp; omega) (by simp; omega) (wr.heap.size + 1) (by simp) ?_; intro gg cap1 w1 hown1 hgrow hat hlt1)
                have hb1 : Below w.heap.size w w1 := (HB.out.alloc HB.out.size _).grown hgrow (by have := HB.out.size; simp; omega) (fun k hk => by have := (HO.out.lt k hk).1; omega)
                have hk1 := grown_keep ((Frm.refl [] wr).alloc _) hgrow HR0.out (fun e => by have := (HO.out.lt _ e.symm).1; omega)
                have hk2 := grown_keep ((Frm.refl [] wr).alloc _) hgrow HR1.out (fun e => by have := (HO.out.lt _ e.symm).1; omega)
                refine ⟨⟨q + 2, f, l ++ [z q], by omega, by go_num, by omega, by simp; omega, by simp; omega, ?_, HSC.out, by simpa using hown1, hb1, hk1, hk2⟩, by simp [intOf]; omega⟩
                intro x hx
                rcases List.mem_append.1 hx with h | h
                · exact HX.out x h
                · rw [List.mem_singleton.1 h]; exact hzq
            · rw [if_neg h1f] at hsc
              have h1f' : (z (q + 1) != 255) = true := by simp [h1f]
              subst hsc
              clear hcw hcz HR h10 h1f
              go_wp2_with (go_at_call 69; refine (fail_b _ _ _ _ _).mono ?_; rintro e wf ⟨rfl, hbf⟩; have hf0 := (hbf.cell (p := ⟨w.heap.size + 1, 0, none⟩) hdz).trans hd0; have hf1 := (hbf.cell (p := ⟨w.heap.size + 1, 1, none⟩) hdz).trans hd1; have hff := fun o => (hbf.frozen (p := ⟨w.heap.size + 1, o, none⟩) hdz).trans (hdf o))
              exact bodyPost_ret (v := .tuple #[.agg #[.slice (some ⟨b, off, none⟩) n cap, .int .i64 3], .slice none 0 0]) (by simp [results, Tryz.results40, go_sem, hf0, hf1]) rfl (RBPost.err _hlc HS.out (((HB.out.trans (hbf.mono (by omega))).setCell (by simp) _).setCell (by simp) _))
      · rw [if_neg hz0] at hsc
        have hz0' : (z q == 0) = false := by simp [hz0]
        by_cases hm : most ≤ l.length
        · rw [if_pos hm] at hsc
          subst hsc
          clear hcw hcz HR hz0
          go_wp2_with (go_at_call 69; refine (fail_b _ _ _ _ _).mono ?_; rintro e wf ⟨rfl, hbf⟩; have hf0 := (hbf.cell (p := ⟨w.heap.size + 1, 0, none⟩) hdz).trans hd0; have hf1 := (hbf.cell (p := ⟨w.heap.size + 1, 1, none⟩) hdz).trans hd1; have hff := fun o => (hbf.frozen (p := ⟨w.heap.size + 1, o, none⟩) hdz).trans (hdf o))
          exact bodyPost_ret (v := .tuple #[.agg #[.slice (some ⟨b, off, none⟩) n cap, .int .i64 2], .slice none 0 0]) (by simp [results, Tryz.results40, go_sem, hf0, hf1]) rfl (RBPost.err _hlc HS.out (((HB.out.trans (hbf.mono (by omega))).setCell (by simp) _).setCell (by simp) _))
        · rw [if_neg hm] at hsc
          have HSC : Hid (sc n z most f (q + 1) (l ++ [z q]) = R) := hsc
          clear hcw hcz HR hz0 hsc
          go_wp2_with (at_builtin; refine wpList_append_lies _ rfl _ _ 29 rfl (w.heap.size + 2) 5 i0 _ 1 1 Tryz.underlying29 H.out.1 H.out.2.1 H.out.2.2.1 H.out.2.2.2 rfl (by omega) (.slice ad l.length cp) l.length (l.map (Value.int .u8)) rfl (HO.out.alloc _) ⟨wr.heap.size, 0, none⟩ 1 1 [.int .u8 (z q)] rfl rfl (World.news_of_block (cs := #[.int .u8 (z q)]) (t := 5) (fr := (0, 0)) (heap_alloc_new wr _)) (by simp [Value.oneCell']) (by omega) (by simp [maxLen]; omega) (by simp; omega) (by simp; omega) (wr.heap.size + 1) (by simp) ?_; intro gg cap1 w1 hown1 hgrow hat hlt1)
          have hb1 : Below w.heap.size w w1 := (HB.out.alloc HB.out.size _).grown hgrow (by have := HB.out.size; simp; omega) (fun k hk => by have := (HO.out.lt k hk).1; omega)
          have hk1 := grown_keep ((Frm.refl [] wr).alloc _) hgrow HR0.out (fun e => by have := (HO.out.lt _ e.symm).1; omega)
          have hk2 := grown_keep ((Frm.refl [] wr).alloc _) hgrow HR1.out (fun e => by have := (HO.out.lt _ e.symm).1; omega)
          refine ⟨⟨q + 1, f, l ++ [z q], by omega, by go_num, by omega, by simp; omega, by simp; omega, ?_, HSC.out, by simpa using hown1, hb1, hk1, hk2⟩, by simp [intOf]; omega⟩
          intro x hx
          rcases List.mem_append.1 hx with h | h
          · exact HX.out x h
          · rw [List.mem_singleton.1 h]; exact hzq
    · rw [if_neg hlt] at hsc
      subst hsc
      clear HR
      go_wp2_with (go_at_call 69; refine (fail_b _ _ _ _ _).mono ?_; rintro e wf ⟨rfl, hbf⟩; have hf0 := (hbf.cell (p := ⟨w.heap.size + 1, 0, none⟩) hdz).trans hd0; have hf1 := (hbf.cell (p := ⟨w.heap.size + 1, 1, none⟩) hdz).trans hd1; have hff := fun o => (hbf.frozen (p := ⟨w.heap.size + 1, o, none⟩) hdz).trans (hdf o))
      exact bodyPost_ret (v := .tuple #[.agg #[.slice a0 n cap, .int .i64 12], .slice none 0 0]) (by simp [results, Tryz.results40, go_sem, hf0, hf1]) rfl (RBPost.err _hlc HS.out (((HB.out.trans (hbf.mono (by omega))).setCell (by simp) _).setCell (by simp) _))

theorem refBytes_any (a0 : Option Addr) (n cap : Nat) (z : Nat → Int) (most : Int) (w : World) (hlc : n ≤ cap) (hn : n ≤ 140737488351232) (hs : SlAt w a0 n z) :
    Calls Tryz.prog 40 #[.agg #[.slice a0 n cap, .int .i64 0], .int .i64 most] w fun e w' => RBPost w n z (bR n z most) e w' := by
  unfold bR
  split
  · exact (refBytes_neg a0 n cap most w ‹_›).mono fun e w' ⟨h1, h2⟩ => by rw [h1]; exact RBPost.err hlc hs h2
  · exact refBytes_loop a0 n cap z most w (by omega) hlc hn hs
end Go.Proofs.YtmekplaonlpfkaaGreatDoor
