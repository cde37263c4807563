/- The document's answer: Sync. -/
import Derived.Test.YtnilgjlccfileaaDoorPRef5
namespace Go.Proofs.YtnilgjlccfileaaDoor
open Go.RowKit

attribute [local go_sem ↓] Go.wp_at_zero Go.wp_at_succ

theorem setF_congr {K K' : Nat → Bool} : ∀ (L : List (Int × Bs)) (i : Nat) (s : List Bs), (∀ j, i ≤ j → j < i + L.length → K j = K' j) → setF K i L s = setF K' i L s
  | [], _, _, _ => rfl
  | x :: r, i, s, h => by
    have h0 := h i (Nat.le_refl _) (by simp)
    rw [setF, setF, h0]
    exact setF_congr r (i + 1) _ (fun j h1 h2 => h j (by omega) (by simp; omega))
/-- The numbers below n. -/
def numsL (n : Nat) : List Int := (List.range n).map fun j : Nat => (j : Int)
theorem numsL_length (n : Nat) : (numsL n).length = n := by simp [numsL]
theorem numsL_told {n i : Nat} (h : i < n) : toldK (numsL n) i = true := by
  simp only [toldK, numsL, List.contains_iff_mem, List.mem_map, List.mem_range]
  exact ⟨i, h, rfl⟩
theorem run_appRIb {w : World} {B : Nat} {v : Value} {n r : Nat} {x : Int} (hown : w.ownsRow B 3 1 v n ((numsL n).map (Value.int .i64))) (hr : w.heap[r]? = some (.cells #[.int .i64 x] 3 (0, 0))) (hn : n ≤ 1000000) (hB : B ≤ w.heap.size) :
    ∃ v' w1, (Builtin.append_ #[44, 44] 44 #[v, .slice (some ⟨r, 0, none⟩) 1 1]).run Tryd.prog w = .ok v' w1 ∧ w1.ownsRow B 3 1 v' (n + 1) ((numsL n).map (Value.int .i64) ++ [.int .i64 x]) ∧ w.grownBy w1 v.ownBlock := by
  obtain ⟨i0, hi0, hz0, hz1, hz2⟩ := info_parts Tryd.infoRI
  obtain ⟨v', w4, h1, h2, h3, _, h5⟩ := run_append_own_at (P := Tryd.prog) w B 44 44 3 i0 (.int .i64 0) 1 8 Tryd.underlying44 hi0 hz0 hz1 hz2 rfl (by decide) v n _ hown ⟨r, 0, none⟩ 1 1 [.int .i64 x] (by simp)
    (fun j y hj => by
      rw [Addr.add_lit, Nat.zero_add, cell_of_row _ _ j _ _ _ hr]
      simpa using hj)
    (by simp [Value.oneCell']) (by unfold maxLen; omega) (by omega) hB
  exact ⟨v', w4, h1, h2, h3⟩
def RSyR (pa : Option Addr) (pc : Nat) (p : List Bs) (la : Option Addr) (lc : Nat) (L : List (Int × Bs)) (st : Int) (w : World) (e : Ending) (w' : World) : Prop :=
  Below w.heap.size w w' ∧ ((rstE st ≠ 0 ∧ e = .returned (.tuple #[.agg #[.slice pa p.length pc, .slice la L.length lc, .int .i64 (rstS st), .bool (rstD st false)], .int .i64 (rstE st)])) ∨
    (rstE st = 0 ∧ ∃ g cap, e = .returned (.tuple #[.agg #[.slice (some ⟨g, 0, none⟩) p.length cap, .slice none 0 0, .int .i64 (rstS st), .bool (rstD st false)], .int .i64 0]) ∧ RowC w' (some ⟨g, 0, none⟩) p.length ((setF allK 0 L p).map Bs.v) ∧ w.heap.size ≤ g))
set_option maxHeartbeats 800000 in
theorem rsync_down (pa : Option Addr) (pn pc : Nat) (la : Option Addr) (ln lc : Nat) (st : Int) (w : World) :
    Calls Tryd.prog 17 #[.agg #[.slice pa pn pc, .slice la ln lc, .int .i64 st, .bool true]] w fun e w' => e = .returned (.tuple #[.agg #[.slice pa pn pc, .slice la ln lc, .int .i64 st, .bool true], .int .i64 13]) ∧ Below w.heap.size w w' := by
  go_enter Tryd.func17, Tryd.ntmps17
  go_wp2
  exact bodyPost_ret (results_R2 Tryd.results17 _ _ (w.heap.size + 1) 41 _ _ _ _ (0, 0) rfl (new2 _ _ _)) rfl ⟨rfl, below2 _ _ _⟩
set_option maxRecDepth 100000 in
set_option maxHeartbeats 3200000 in
theorem rsync_any (pa : Option Addr) (pc : Nat) (p : List Bs) (la : Option Addr) (lc : Nat) (L : List (Int × Bs)) (st : Int) (w : World) (hp1 : 1 ≤ p.length) (hp2 : p.length ≤ 4096) (hP : RowC w pa p.length (p.map Bs.v)) (hL : RowC w la L.length (flatW L)) (hl : L.length ≤ 1000)
    (hpg : ∀ e ∈ L, 0 ≤ e.1 ∧ e.1 < p.length) (hst : -1 ≤ st ∧ st ≤ 9223372036854775807) :
    Calls Tryd.prog 17 #[.agg #[.slice pa p.length pc, .slice la L.length lc, .int .i64 st, .bool false]] w (RSyR pa pc p la lc L st w) := by
  obtain ⟨W2, hW2⟩ : ∃ W2, (w.alloc (.cells #[.slice pa p.length pc, .slice la L.length lc, .int .i64 st, .bool false] 41)).alloc (.cells #[.slice none 0 0, .slice none 0 0, .int .i64 0, .bool false] 41) = W2 := ⟨_, rfl⟩
  have hb2 : Below w.heap.size w W2 := by rw [← hW2]; exact below2 _ _ _
  have hz2 : W2.heap.size = w.heap.size + 2 := by rw [← hW2]; simp
  have n1 : W2.heap[w.heap.size]? = some (.cells #[.slice pa p.length pc, .slice la L.length lc, .int .i64 st, .bool false] 41 (0, 0)) := by rw [← hW2]; exact new1 _ _ _
  have n2 : W2.heap[w.heap.size + 1]? = some (.cells #[.slice none 0 0, .slice none 0 0, .int .i64 0, .bool false] 41 (0, 0)) := by rw [← hW2]; exact new2 _ _ _
  have hstp := rstep_any pa p.length pc la L.length lc st false W2 hst
  have F1 := four_of n1
  have q0 := F1.c0
  have q1 := F1.c1
  have q2 := F1.c2
  have q3 := F1.c3
  have HPL : Hid (RowC w pa p.length (p.map Bs.v) ∧ RowC w la L.length (flatW L) ∧ (∀ e ∈ L, 0 ≤ e.1 ∧ e.1 < p.length) ∧ 1 ≤ p.length ∧ p.length ≤ 4096) := ⟨hP, hL, hpg, hp1, hp2⟩
  clear F1 hP hL hpg hp1 hp2
  go_enter Tryd.func17, Tryd.ntmps17
  go_wp2_with fail
  refine hstp.mono ?_
  rintro e w3 ⟨rfl, hb3⟩
  have hz3 := hb3.size
  have m1 : w3.heap[w.heap.size]? = some (.cells #[.slice pa p.length pc, .slice la L.length lc, .int .i64 st, .bool false] 41 (0, 0)) := (hb3.block _ (by omega)).trans n1
  have m2 : w3.heap[w.heap.size + 1]? = some (.cells #[.slice none 0 0, .slice none 0 0, .int .i64 0, .bool false] 41 (0, 0)) := (hb3.block _ (by omega)).trans n2
  obtain ⟨WA, hWA⟩ : ∃ WA, (((w3.setCell ⟨w.heap.size, 0, none⟩ (.slice pa p.length pc)).setCell ⟨w.heap.size, 1, none⟩ (.slice la L.length lc)).setCell ⟨w.heap.size, 2, none⟩ (.int .i64 (rstS st))).setCell ⟨w.heap.size, 3, none⟩ (.bool (rstD st false)) = WA := ⟨_, rfl⟩
  have s1 : WA.heap[w.heap.size]? = some (.cells #[.slice pa p.length pc, .slice la L.length lc, .int .i64 (rstS st), .bool (rstD st false)] 41 (0, 0)) := by rw [← hWA]; exact set4 m1 _ _ _ _
  have hfA : Frm [w.heap.size] w3 WA := by rw [← hWA]; exact set4_frm _ _ _ _
  have s2 := four_keep m2 hfA (by simp)
  have hzA := hfA.size
  have hb0A : Below w.heap.size w WA := (hb2.trans (hb3.mono (by omega))).trans (hfA.below (by omega) (by simp))
  have F1 := four_of m1
  have p0 := F1.c0
  have p1 := F1.c1
  have p2 := F1.c2
  have p3 := F1.c3
  have f0 := F1.f0
  have f1 := F1.f1
  have f2 := F1.f2
  have f3 := F1.f3
  have HS : Hid (WA.heap[w.heap.size]? = some (.cells #[.slice pa p.length pc, .slice la L.length lc, .int .i64 (rstS st), .bool (rstD st false)] 41 (0, 0)) ∧ WA.heap[w.heap.size + 1]? = some (.cells #[.slice none 0 0, .slice none 0 0, .int .i64 0, .bool false] 41 (0, 0)) ∧ Below w.heap.size w WA ∧ w.heap.size + 2 ≤ WA.heap.size) := ⟨s1, s2, hb0A, by omega⟩
  clear hW2 hb2 n1 n2 hstp q0 q1 q2 q3 m1 m2 s1 s2 hfA hzA hb0A F1 hb3 hz3 hz2 W2
  by_cases he : rstE st = 0
  · obtain ⟨s1, s2, hb0A, hzA⟩ := HS.out
    rw [he]
    have HI0 : WA.ownsRow WA.heap.size 3 1 (.slice none 0 0) 0 ((numsL 0).map (Value.int .i64)) ∧ Below WA.heap.size WA WA := ⟨World.ownsRow_nil _ _ _ _, Below.refl _ _⟩
    have G1 := four_of s1
    have kv1 : ∀ wr, Below WA.heap.size WA wr → wr.heap[w.heap.size]? = some (.cells #[.slice pa p.length pc, .slice la L.length lc, .int .i64 (rstS st), .bool (rstD st false)] 41 (0, 0)) := fun wr hb => (hb.block _ (by omega)).trans s1
    have KV : Hid (∀ wr, Below WA.heap.size WA wr → wr.heap[w.heap.size]? = some (.cells #[.slice pa p.length pc, .slice la L.length lc, .int .i64 (rstS st), .bool (rstD st false)] 41 (0, 0))) := kv1
    clear s1 s2 hb0A G1 kv1
    go_wp2
    go_loopw [5, 6] (fun kv iv wr => ∃ i : Nat, i ≤ L.length ∧ iv = .int .i64 i ∧ wr.ownsRow WA.heap.size 3 1 kv i ((numsL i).map (Value.int .i64)) ∧ Below WA.heap.size WA wr) (fun _ iv _ => L.length + 1 - (intOf iv).toNat)
    case atStart => exact ⟨0, by omega, rfl, HI0.1, HI0.2⟩
    case round =>
      clear HI0 p0 p1 p2 p3 f0 f1 f2 f3 hWA
      obtain ⟨i, hi, rfl, hrow, hbr⟩ := hrel
      have hbx := KV.out wr hbr
      have F1 := four_of hbx
      obtain ⟨ka, kc, rfl⟩ : ∃ a c, u5 = .slice a i c := by
        rcases hrow.2 with ⟨rfl, e⟩ | ⟨g, c, cur, e, _⟩
        · exact ⟨none, 0, by rw [e]⟩
        · exact ⟨_, c, e⟩
      by_cases hlt : i < L.length
      · have hltI : (i : Int) < L.length := by omega
        have q1 := F1.c1
        obtain ⟨v', w5, hrun, hrow5, hgr⟩ := run_appRIb (hrow.alloc (.cells #[.int .i64 (i : Int)] 3)) (heap_alloc_new wr (.cells #[.int .i64 (i : Int)] 3)) (by omega) (by have := hbr.size; simp; omega)
        have hb5 : Below WA.heap.size WA w5 := (hbr.alloc hbr.size _).grown hgr (by have := hbr.size; simp; omega) (fun k hk => (hrow.lt k hk).1)
        have HN : Hid (w5.ownsRow WA.heap.size 3 1 v' (i + 1) ((numsL (i + 1)).map (Value.int .i64)) ∧ Below WA.heap.size WA w5) := by
          refine ⟨?_, hb5⟩
          have e : (numsL (i + 1)).map (Value.int .i64) = (numsL i).map (Value.int .i64) ++ [.int .i64 (i : Int)] := by simp [numsL, List.range_succ]
          rw [e]; exact hrow5
        clear hrow hbr hbx F1 hrow5 hgr hb5
        go_wp2_with (first | (at_builtin; refine wpList_append_run rfl _ _ _ rfl rfl rfl hrun ?_) | fail)
        go_roundw
        case rel => exact ⟨i + 1, by omega, by go_num, HN.out.1, HN.out.2⟩
        case measure => simp [intOf]; omega
      · obtain rfl : i = L.length := by omega
        have hnn : ¬ ((L.length : Int) < L.length) := by omega
        have q0 := F1.c0
        have q1 := F1.c1
        have q2 := F1.c2
        have q3 := F1.c3
        obtain ⟨s1, s2, hb0A, hzA⟩ := HS.out
        have hb0r : Below w.heap.size w wr := hb0A.trans (hbr.mono hb0A.size)
        have hIs : IsL wr ka (numsL L.length) := fun hn => by
          rcases hrow.2 with ⟨_, e⟩ | ⟨g, c, cur, e, _⟩
          · rw [numsL_length, e] at hn; omega
          · cases e
            refine ⟨g, 0, rfl, fun j x hx => ?_⟩
            have := hrow.cells (g := g) rfl j (.int .i64 x) (by rw [List.getElem?_map, hx]; rfl)
            rwa [Addr.add_lit] at this
        obtain ⟨hP, hL, hpg, hp1, hp2⟩ := HPL.out
        have hdone := rdone_any pa pc p la lc L (rstS st) (rstD st false) ka kc (numsL L.length) wr hp1 hp2 (hP.below hb0r) (hL.below hb0r) hl hpg hIs (by rw [numsL_length]; omega)
        rw [numsL_length] at hdone
        have eSet : setF (toldK (numsL L.length)) 0 L p = setF allK 0 L p := setF_congr L 0 p (fun j _ h => numsL_told (by omega))
        have r2 : wr.heap[w.heap.size + 1]? = some (.cells #[.slice none 0 0, .slice none 0 0, .int .i64 0, .bool false] 41 (0, 0)) := (hbr.block _ (by omega)).trans s2
        have HR2 : Hid (wr.heap[w.heap.size + 1]? = some (.cells #[.slice none 0 0, .slice none 0 0, .int .i64 0, .bool false] 41 (0, 0)) ∧ Below w.heap.size w wr ∧ w.heap.size + 2 ≤ wr.heap.size) := ⟨r2, hb0r, by have := hbr.size; omega⟩
        clear hrow hbr hbx F1 s1 s2 hb0A hzA hb0r hIs hP hL hpg hp1 hp2 r2 KV HS HPL
        go_wp2_with fail
        refine hdone.mono ?_
        rintro e w6 ⟨g, cap, rfl, hR, hg, hb6⟩
        obtain ⟨r2, hb0r, hzr⟩ := HR2.out
        have m2 : w6.heap[w.heap.size + 1]? = some (.cells #[.slice none 0 0, .slice none 0 0, .int .i64 0, .bool false] 41 (0, 0)) := (hb6.block _ (by omega)).trans r2
        have hz6 := hb6.size
        have hsetB := set4 m2 (.slice (some ⟨g, 0, none⟩) p.length cap) (.slice none 0 0) (.int .i64 (rstS st)) (.bool (rstD st false))
        have hfB := set4_frm (w := w6) (g := w.heap.size + 1) (.slice (some ⟨g, 0, none⟩) p.length cap) (.slice none 0 0) (.int .i64 (rstS st)) (.bool (rstD st false))
        have HE : Hid (((((w6.setCell ⟨w.heap.size + 1, 0, none⟩ (.slice (some ⟨g, 0, none⟩) p.length cap)).setCell ⟨w.heap.size + 1, 1, none⟩ (.slice none 0 0)).setCell ⟨w.heap.size + 1, 2, none⟩ (.int .i64 (rstS st))).setCell ⟨w.heap.size + 1, 3, none⟩ (.bool (rstD st false))).heap[w.heap.size + 1]? = some (.cells #[.slice (some ⟨g, 0, none⟩) p.length cap, .slice none 0 0, .int .i64 (rstS st), .bool (rstD st false)] 41 (0, 0)) ∧
            RSyR pa pc p la lc L st w (.returned (.tuple #[.agg #[.slice (some ⟨g, 0, none⟩) p.length cap, .slice none 0 0, .int .i64 (rstS st), .bool (rstD st false)], .int .i64 0])) ((((w6.setCell ⟨w.heap.size + 1, 0, none⟩ (.slice (some ⟨g, 0, none⟩) p.length cap)).setCell ⟨w.heap.size + 1, 1, none⟩ (.slice none 0 0)).setCell ⟨w.heap.size + 1, 2, none⟩ (.int .i64 (rstS st))).setCell ⟨w.heap.size + 1, 3, none⟩ (.bool (rstD st false)))) := by
          refine ⟨hsetB, (hb0r.trans (hb6.mono hb0r.size)).trans (hfB.below (by omega) (by simp)), .inr ⟨he, g, cap, rfl, ?_, by have := hb0r.size; omega⟩⟩
          rw [← eSet]
          refine hR.keep hfB.size (fun a e hlt => ?_)
          cases e
          have hlt : g < w6.heap.size := hlt
          exact hfB.block g hlt (by simp; omega)
        have G2 := four_of m2
        have r0 := G2.c0
        have r1 := G2.c1
        have r2 := G2.c2
        have r3 := G2.c3
        have y0 := G2.f0
        have y1 := G2.f1
        have y2 := G2.f2
        have y3 := G2.f3
        clear HR2 hb0r hzr m2 hz6 hsetB hfB G2 hR hg hb6 hdone eSet q0 q1 q2 q3
        go_wp2
        exact bodyPost_ret (results_R2 Tryd.results17 _ _ (w.heap.size + 1) 41 _ _ _ _ (0, 0) rfl HE.out.1) rfl HE.out.2
  · have he' : rstE st = 13 := by unfold rstE at he ⊢; split <;> simp_all
    obtain ⟨s1, s2, hb0A, hzA⟩ := HS.out
    have hsetB := set4 s2 (.slice pa p.length pc) (.slice la L.length lc) (.int .i64 (rstS st)) (.bool (rstD st false))
    have hfB := set4_frm (w := WA) (g := w.heap.size + 1) (.slice pa p.length pc) (.slice la L.length lc) (.int .i64 (rstS st)) (.bool (rstD st false))
    have HE : Hid (((((WA.setCell ⟨w.heap.size + 1, 0, none⟩ (.slice pa p.length pc)).setCell ⟨w.heap.size + 1, 1, none⟩ (.slice la L.length lc)).setCell ⟨w.heap.size + 1, 2, none⟩ (.int .i64 (rstS st))).setCell ⟨w.heap.size + 1, 3, none⟩ (.bool (rstD st false))).heap[w.heap.size + 1]? = some (.cells #[.slice pa p.length pc, .slice la L.length lc, .int .i64 (rstS st), .bool (rstD st false)] 41 (0, 0)) ∧
        RSyR pa pc p la lc L st w (.returned (.tuple #[.agg #[.slice pa p.length pc, .slice la L.length lc, .int .i64 (rstS st), .bool (rstD st false)], .int .i64 13])) ((((WA.setCell ⟨w.heap.size + 1, 0, none⟩ (.slice pa p.length pc)).setCell ⟨w.heap.size + 1, 1, none⟩ (.slice la L.length lc)).setCell ⟨w.heap.size + 1, 2, none⟩ (.int .i64 (rstS st))).setCell ⟨w.heap.size + 1, 3, none⟩ (.bool (rstD st false)))) :=
      ⟨hsetB, hb0A.trans (hfB.below (by omega) (by simp)), .inl ⟨he, by rw [he']⟩⟩
    have G1 := four_of s1
    have v0 := G1.c0
    have v1 := G1.c1
    have v2 := G1.c2
    have v3 := G1.c3
    have G2 := four_of s2
    have r0 := G2.c0
    have r1 := G2.c1
    have r2 := G2.c2
    have r3 := G2.c3
    have y0 := G2.f0
    have y1 := G2.f1
    have y2 := G2.f2
    have y3 := G2.f3
    rw [he']
    clear HS s1 s2 hsetB hfB hb0A hzA G1 G2 he he' HPL
    go_wp2
    exact bodyPost_ret (results_R2 Tryd.results17 _ _ (w.heap.size + 1) 41 _ _ _ _ (0, 0) rfl HE.out.1) rfl HE.out.2
end Go.Proofs.YtnilgjlccfileaaDoor
