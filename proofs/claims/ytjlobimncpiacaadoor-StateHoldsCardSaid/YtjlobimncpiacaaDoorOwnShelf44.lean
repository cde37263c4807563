/- state.Free. -/
import Derived.Test.YtjlobimncpiacaaDoorOwnShelf36
namespace Go.Proofs.YtjlobimncpiacaaDoor
open Go.RowKit

/-- A hold given to both sides. -/
def freS (s : Sv) (i : Nat) (n : Int) : Sv := { freeY (nxt s) i with a := s.a + n, b := s.b + ((s.H i).am - n) }
/-- What Free answers. -/
def FreR (s : Sv) (id n : Int) (w : World) (e : Ending) (w' : World) : Prop := ∃ (i : Nat) (b : Bool), FndR (fun j => (s.H j).id) s.hn id i b ∧ ((b = false ∧ e = .returned (.tuple #[.agg #[.int .i64 0, .int .i64 0, .int .i64 0, .slice none 0 0, .slice none 0 0], .iface 71 (.int .i64 8)])) ∨ (b = true ∧ ¬ (0 ≤ n ∧ n ≤ (s.H i).am) ∧ e = .returned (.tuple #[.agg #[.int .i64 0, .int .i64 0, .int .i64 0, .slice none 0 0, .slice none 0 0], .iface 71 (.int .i64 20)])) ∨ (b = true ∧ (0 ≤ n ∧ n ≤ (s.H i).am) ∧ ∃ p' A, e = .returned (.tuple #[.agg (svv (freS s i n) p'), .nilIface]) ∧ SvOw w.heap.size w' (freS s i n) p' A))
set_option maxRecDepth 100000 in
set_option maxHeartbeats 1600000 in
theorem free_1 (s : Sv) (p : Pl) (id n : Int) (w : World) (h : SvAt w s p) (hs : s.Small) (hr : ¬ Rgt s) :
    Calls Tryd.prog 10 #[.agg (svv s p), .int .i64 id, .int .i64 n] w fun e w' => e = .returned (.tuple #[.agg #[.int .i64 0, .int .i64 0, .int .i64 0, .slice none 0 0, .slice none 0 0], errV 1]) ∧ Below w.heap.size w w' := by
  obtain ⟨hn0, hn1, hsz, hb0⟩ := two_new w s p 35 35
  have hc := next_bad s p _ (h.below hb0) hs hr
  clear h hs
  unfold svv sv0 pl0 at hn0 hn1 hsz hb0 hc
  unfold svv
  simp only at hn0 hn1 hsz hb0 hc
  go_enter Tryd.func10, Tryd.ntmps10
  go_wp2_with fail
  generalize ((w.alloc (.cells #[.int .i64 s.nu, .int .i64 s.a, .int .i64 s.b, .slice p.pa s.pn p.pc, .slice p.ha s.hn p.hc] 35)).alloc (.cells #[.int .i64 0, .int .i64 0, .int .i64 0, .slice none 0 0, .slice none 0 0] 35)) = W0 at *
  refine hc.mono ?_
  rintro e w1 ⟨rfl, hb1⟩
  have HB : Hid (Below w.heap.size w w1) := hb0.trans (hb1.mono (by omega))
  have k1 := hb1.block _ (show w.heap.size + 1 < W0.heap.size by omega)
  rw [hn1] at k1
  have hl1 : w.heap.size + 1 < w1.heap.size := by have := hb1.size; omega
  clear hc hb0 hb1 hn0 hn1 hsz
  obtain ⟨d0, d1, d2, d3, d4, df⟩ := five_of k1
  have HK : Hid (w1.heap[w.heap.size + 1]? = some (.cells #[.int .i64 0, .int .i64 0, .int .i64 0, .slice none 0 0, .slice none 0 0] 35 (0, 0))) := k1
  clear k1
  have e1 : errV 1 = .iface 71 (.int .i64 1) := rfl
  rw [e1]
  go_wp2
  exact bodyPost_ret (results_S2 Tryd.results10 _ _ (w.heap.size + 1) 35 _ _ _ _ _ (0, 0) rfl (five_alloc _ HK.out)) rfl ⟨rfl, five_ab _ HB.out (by omega) HB.out.size⟩
set_option maxRecDepth 100000 in
set_option maxHeartbeats 6400000 in
theorem free_any (s : Sv) (p : Pl) (id n : Int) (w : World) (h : SvAt w s p) (hs : s.Small) (hr : Rgt s) :
    Calls Tryd.prog 10 #[.agg (svv s p), .int .i64 id, .int .i64 n] w fun e w' => FreR s id n w e w' ∧ Below w.heap.size w w' := by
  have hhn8 : s.hn ≤ 8 := by have := hr.1.2.1.1; omega
  obtain ⟨hn0, hn1, hsz, hb0⟩ := two_new w s p 35 35
  have hc := next_ok s p _ (h.below hb0) hs hr
  clear h hs
  unfold svv sv0 pl0 at hn0 hn1 hsz hb0 hc
  unfold svv
  simp only at hn0 hn1 hsz hb0 hc
  go_enter Tryd.func10, Tryd.ntmps10
  go_wp2_with fail
  generalize ((w.alloc (.cells #[.int .i64 s.nu, .int .i64 s.a, .int .i64 s.b, .slice p.pa s.pn p.pc, .slice p.ha s.hn p.hc] 35)).alloc (.cells #[.int .i64 0, .int .i64 0, .int .i64 0, .slice none 0 0, .slice none 0 0] 35)) = W0 at *
  refine hc.mono ?_
  rintro e w1 ⟨⟨p', A, rfl, hO⟩, hb1⟩
  have HB : Hid (Below w.heap.size w w1) := hb0.trans (hb1.mono (by omega))
  have k1 := hb1.block _ (show w.heap.size + 1 < W0.heap.size by omega)
  rw [hn1] at k1
  have hl1 : w.heap.size + 1 < w1.heap.size := by have := hb1.size; omega
  have HO : Hid (SvOw (w.heap.size + 2) w1 (nxt s) p' A) := hO.low (by omega)
  clear hO
  clear hc hb0 hb1 hn0 hn1 hsz
  unfold nxt
  dsimp only
  obtain ⟨d0, d1, d2, d3, d4, df⟩ := five_of k1
  have HK : Hid (w1.heap[w.heap.size + 1]? = some (.cells #[.int .i64 0, .int .i64 0, .int .i64 0, .slice none 0 0, .slice none 0 0] 35 (0, 0))) := k1
  clear k1
  have hbA : Below w1.heap.size w1 (w1.alloc (.cells #[.int .i64 (s.nu + 1), .int .i64 s.a, .int .i64 s.b, .slice p'.pa s.pn p'.pc, .slice p'.ha s.hn p'.hc] 35)) := (Below.refl _ w1).alloc (Nat.le_refl _) _
  have hnA := heap_alloc_new w1 (.cells #[.int .i64 (s.nu + 1), .int .i64 s.a, .int .i64 s.b, .slice p'.pa s.pn p'.pc, .slice p'.ha s.hn p'.hc] 35)
  have hka := hbA.block _ hl1
  rw [HK.out] at hka
  have HOA : Hid (SvOw (w.heap.size + 2) (w1.alloc (.cells #[.int .i64 (s.nu + 1), .int .i64 s.a, .int .i64 s.b, .slice p'.pa s.pn p'.pc, .slice p'.ha s.hn p'.hc] 35)) (nxt s) p' A) := HO.out.below hbA
  have hfi := findH_any p'.ha s.hn p'.hc s.H id (w1.alloc (.cells #[.int .i64 (s.nu + 1), .int .i64 s.a, .int .i64 s.b, .slice p'.pa s.pn p'.pc, .slice p'.ha s.hn p'.hc] 35)) HOA.out.at.hd (by omega)
  have k3 : (w1.alloc (.cells #[.int .i64 (s.nu + 1), .int .i64 s.a, .int .i64 s.b, .slice p'.pa s.pn p'.pc, .slice p'.ha s.hn p'.hc] 35)).cell? ⟨w1.heap.size, 4, none⟩ = some (.slice p'.ha s.hn p'.hc) := by rw [cell_of_row _ _ 4 _ _ _ hnA]; rfl
  have HB1 : Hid (Below w.heap.size w (w1.alloc (.cells #[.int .i64 (s.nu + 1), .int .i64 s.a, .int .i64 s.b, .slice p'.pa s.pn p'.pc, .slice p'.ha s.hn p'.hc] 35))) := HB.out.alloc HB.out.size _
  have HKA : Hid ((w1.alloc (.cells #[.int .i64 (s.nu + 1), .int .i64 s.a, .int .i64 s.b, .slice p'.pa s.pn p'.pc, .slice p'.ha s.hn p'.hc] 35)).heap[w.heap.size + 1]? = some (.cells #[.int .i64 0, .int .i64 0, .int .i64 0, .slice none 0 0, .slice none 0 0] 35 (0, 0)) ∧ (w1.alloc (.cells #[.int .i64 (s.nu + 1), .int .i64 s.a, .int .i64 s.b, .slice p'.pa s.pn p'.pc, .slice p'.ha s.hn p'.hc] 35)).heap[w1.heap.size]? = some (.cells #[.int .i64 (s.nu + 1), .int .i64 s.a, .int .i64 s.b, .slice p'.pa s.pn p'.pc, .slice p'.ha s.hn p'.hc] 35 (0, 0))) := ⟨hka, hnA⟩
  clear hbA hnA hka HO HB HK
  go_wp2_with fail
  generalize w1.alloc (.cells #[.int .i64 (s.nu + 1), .int .i64 s.a, .int .i64 s.b, .slice p'.pa s.pn p'.pc, .slice p'.ha s.hn p'.hc] 35) = Wn at *
  obtain ⟨bn, hbn⟩ : ∃ bn, w1.heap.size = bn := ⟨_, rfl⟩
  rw [hbn] at HKA k3 hl1 ⊢
  clear hbn
  refine hfi.mono ?_
  rintro e w2 ⟨⟨i, b, rfl, hF⟩, hb2⟩
  have HF : Hid (FndR (fun j => (s.H j).id) s.hn id i b) := hF
  have HB2 : Hid (Below w.heap.size w w2) := HB1.out.trans (hb2.mono HB1.out.size)
  have HK2 : Hid (w2.heap[w.heap.size + 1]? = some (.cells #[.int .i64 0, .int .i64 0, .int .i64 0, .slice none 0 0, .slice none 0 0] 35 (0, 0)) ∧ w2.heap[bn]? = some (.cells #[.int .i64 (s.nu + 1), .int .i64 s.a, .int .i64 s.b, .slice p'.pa s.pn p'.pc, .slice p'.ha s.hn p'.hc] 35 (0, 0))) := ⟨by rw [hb2.block _ (lt_of_block HKA.out.1)]; exact HKA.out.1, by rw [hb2.block _ (lt_of_block HKA.out.2)]; exact HKA.out.2⟩
  have HO2 : Hid (SvOw (w.heap.size + 2) w2 (nxt s) p' A) := HOA.out.below hb2
  clear hfi hF hb2 HKA HOA k3 HB1 d0 d1 d2 d3 d4 df
  have k1 := HK2.out.1
  obtain ⟨d0, d1, d2, d3, d4, df⟩ := five_of k1
  have k3 := HK2.out.2
  obtain ⟨c0, c1, c2, c3, c4, cf⟩ := five_of k3
  clear k1 k3
  cases b with
  | false =>
    clear c0 c1 c2 c3 c4 cf hr
    go_wp2
    exact bodyPost_ret (results_S2 Tryd.results10 _ _ (w.heap.size + 1) 35 _ _ _ _ _ (0, 0) rfl (five_all HK2.out.1)) rfl ⟨⟨i, false, HF.out, .inl ⟨rfl, rfl⟩⟩, five_below HB2.out (by omega)⟩
  | true =>
    have hhit : i < s.hn ∧ (s.H i).id = id := of_decide_eq_true HF.out.hit.symm
    have hi := hhit.1
    have hi' : (i : Int) < s.hn := by omega
    have ham := (hr.1.2.1.2.2 i hi).2.2.1
    have ba := hr.1.1.2.1
    have bb := hr.1.1.2.2
    obtain ⟨g, ega, hgB, hgl, hgr⟩ := own_range HO2.out.hd (by show 0 < s.hn; omega)
    have hri : w2.rangeAt g (i * 3) (hdl (s.H i) (A i).1 (A i).2) := by
      have := (flatL_range s.hn (hf_len s.H A s.hn)).1 hgr i hi
      rwa [Nat.zero_add] at this
    obtain ⟨_, x1, _⟩ := hd_cells hri
    obtain ⟨pa, pc, ha, hc⟩ := p'
    dsimp only at ega
    subst ega
    clear hhit hgr hri hr
    dsimp only at *
    have hwi := within_any n 0 (s.H i).am
    go_wp2_with fail
    refine (hwi _).mono ?_
    rintro e w3 ⟨rfl, rfl⟩
    clear hwi
    by_cases hok : 0 ≤ n ∧ n ≤ (s.H i).am
    · have hdk : decide (0 ≤ n ∧ n ≤ (s.H i).am) = true := decide_eq_true hok
      rw [hdk]
      have ea : wrap64 (s.a + n) = s.a + n := by simp [wrap64]; omega
      have ed : wrap64 ((s.H i).am - n) = (s.H i).am - n := by simp [wrap64]; omega
      have eb : wrap64 (s.b + ((s.H i).am - n)) = s.b + ((s.H i).am - n) := by simp [wrap64]; omega
      have ei : wrap64 ((i : Int) + 1) = (i : Int) + 1 := by simp [wrap64]; omega
      have hdel := delH_any (w.heap.size + 2) (some ⟨g, 0, none⟩) s.hn hc i (hf s.H A) w3 HO2.out.hd hi (hf_len _ _ _) (hf_one _ _ _) (by omega)
      go_wp2_with fail
      refine hdel.mono ?_
      rintro e w4 ⟨rfl, hrow, hgrow⟩
      have g1 : w4.heap[w.heap.size + 1]? = some (.cells #[.int .i64 0, .int .i64 0, .int .i64 0, .slice none 0 0, .slice none 0 0] 35 (0, 0)) := by
        rw [hgrow.block _ (lt_of_block HK2.out.1) (fun e => own_neS HO2.out.hd HK2.out.1 (by decide) e.symm)]; exact HK2.out.1
      have g3 : w4.heap[bn]? = some (.cells #[.int .i64 (s.nu + 1), .int .i64 s.a, .int .i64 s.b, .slice pa s.pn pc, .slice (some ⟨g, 0, none⟩) s.hn hc] 35 (0, 0)) := by
        rw [hgrow.block _ (lt_of_block HK2.out.2) (fun e => own_neS HO2.out.hd HK2.out.2 (by decide) e.symm)]; exact HK2.out.2
      have HO4 : Hid (SvOw (w.heap.size + 2) w4 (freeY (nxt s) i) ⟨pa, pc, some ⟨g, 0, none⟩, hc⟩ (delG A i)) := HO2.out.cutH (i := i) hi hrow hgrow
      have HB4 : Hid (Below w.heap.size w w4) := grown_below HO2.out.hd hgrow HB2.out (by omega)
      have HG4 : Hid (w4.heap[bn]? = some (.cells #[.int .i64 (s.nu + 1), .int .i64 s.a, .int .i64 s.b, .slice pa s.pn pc, .slice (some ⟨g, 0, none⟩) s.hn hc] 35 (0, 0)) ∧ w4.heap[w.heap.size + 1]? = some (.cells #[.int .i64 0, .int .i64 0, .int .i64 0, .slice none 0 0, .slice none 0 0] 35 (0, 0))) := ⟨g3, g1⟩
      clear c0 c1 c2 c3 c4 cf d0 d1 d2 d3 d4 df hdel hrow hgrow x1 HK2 HB2 HO2
      obtain ⟨c0, c1, c2, c3, c4, cf⟩ := five_of g3
      obtain ⟨d0, d1, d2, d3, d4, df⟩ := five_of g1
      clear g1 g3
      have hnb : w.heap.size + 1 < bn := hl1
      go_wp2
      have hot : ∀ k, k ≠ bn → (((w4.setCell ⟨bn, 4, none⟩ (.slice (some ⟨g, 0, none⟩) (s.hn - 1) hc)).setCell ⟨bn, 1, none⟩ (.int .i64 (s.a + n))).setCell ⟨bn, 2, none⟩ (.int .i64 (s.b + ((s.H i).am - n)))).heap[k]? = w4.heap[k]? := fun k hk => by
        rw [Below.heap_setCell _ _ _ _ (by exact hk), Below.heap_setCell _ _ _ _ (by exact hk), Below.heap_setCell _ _ _ _ (by exact hk)]
      have q2 : (((w4.setCell ⟨bn, 4, none⟩ (.slice (some ⟨g, 0, none⟩) (s.hn - 1) hc)).setCell ⟨bn, 1, none⟩ (.int .i64 (s.a + n))).setCell ⟨bn, 2, none⟩ (.int .i64 (s.b + ((s.H i).am - n)))).heap[w.heap.size + 1]? = some (.cells #[.int .i64 0, .int .i64 0, .int .i64 0, .slice none 0 0, .slice none 0 0] 35 (0, 0)) := by rw [hot _ (by omega)]; exact HG4.out.2
      have HB5 : Below w.heap.size w (((w4.setCell ⟨bn, 4, none⟩ (.slice (some ⟨g, 0, none⟩) (s.hn - 1) hc)).setCell ⟨bn, 1, none⟩ (.int .i64 (s.a + n))).setCell ⟨bn, 2, none⟩ (.int .i64 (s.b + ((s.H i).am - n)))) := ((HB4.out.setCell (by show w.heap.size ≤ bn; omega) _).setCell (by show w.heap.size ≤ bn; omega) _).setCell (by show w.heap.size ≤ bn; omega) _
      refine bodyPost_ret (results_S2 Tryd.results10 _ _ (w.heap.size + 1) 35 _ _ _ _ _ (0, 0) rfl (five_all q2)) rfl ⟨⟨i, true, HF.out, .inr (.inr ⟨rfl, hok, ⟨pa, pc, some ⟨g, 0, none⟩, hc⟩, delG A i, rfl, ?_⟩)⟩, five_below HB5 (by omega)⟩
      exact (((HO4.out.off HG4.out.1 hot).off q2 (fun k hk => five_other hk)).low (by omega)).alike rfl rfl rfl rfl
    · have hdk : decide (0 ≤ n ∧ n ≤ (s.H i).am) = false := decide_eq_false hok
      rw [hdk]
      clear c0 c1 c2 c3 c4 cf
      go_wp2
      exact bodyPost_ret (results_S2 Tryd.results10 _ _ (w.heap.size + 1) 35 _ _ _ _ _ (0, 0) rfl (five_all HK2.out.1)) rfl ⟨⟨i, true, HF.out, .inr (.inl ⟨rfl, hok, rfl⟩)⟩, five_below HB2.out (by omega)⟩
end Go.Proofs.YtjlobimncpiacaaDoor
