/- The document's right, with and Move. -/
import Derived.Test.YtchiapnhkhbigaaDoorOwnShelf46
import Derived.Test.YtchiapnhkhbigaaDoorOwnShelf29
namespace Go.Proofs.YtchiapnhkhbigaaDoor
open Go.RowKit

theorem results_R2 {fn : Func} {p u : Tmp} (h : fn.results = #[.cell p 26, .tmp u]) (tmps : Array Value) (w : World) (g : Nat) (t : TypeId) (c0 c1 c2 c3 c4 : Value) (fr : Nat × Nat)
    (hp : tmps.getD p undef = .pointer (some ⟨g, 0, none⟩)) (hg : w.heap[g]? = some (.cells #[c0, c1, c2, c3, c4] t fr)) :
    (results fn tmps).run Tryd.prog w = .ok (.tuple #[.agg #[c0, c1, c2, c3, c4], tmps.getD u undef]) w := by
  have hp' : tmps[p]?.getD undef = .pointer (some ⟨g, 0, none⟩) := by simpa using hp
  simp [results, h, hp', asAddr, run_loadVar_row w g t 26 #[c0, c1, c2, c3, c4] fr _ hg Tryd.underlying26 rfl szSr]
set_option maxRecDepth 100000 in
set_option maxHeartbeats 1600000 in
theorem right_any (s : Sv) (p : Pl) (w : World) (h : SvAt w s p) (hs : s.Small) :
    Calls Tryd.prog 25 #[.agg (svv s p)] w fun e w' => e = .returned (.bool (decide (Rgt s))) ∧ Below w.heap.size w w' := by
  have hb0 : Below w.heap.size w (w.alloc (.cells (svv s p) 26)) := (Below.refl _ w).alloc (Nat.le_refl _) _
  have hr0 := heap_alloc_new w (.cells (svv s p) 26)
  have hc := rcheck_any s p _ (h.below hb0) hs
  clear h hs
  by_cases hk : SOk s
  · have e0 : chkE s = 0 := if_pos hk
    have HE : Hid (decide (Rgt s) = decide (s.nu < 1099511627776)) := decide_eq_decide.2 ⟨fun h => h.2, fun h => ⟨hk, h⟩⟩
    rw [e0] at hc
    rw [HE.out]
    clear hk e0
    unfold svv at hb0 hr0 hc ⊢
    go_enter Tryd.func25, Tryd.ntmps25
    go_wp2_with fail
    generalize w.alloc (.cells #[.int .i64 s.nu, .int .i64 s.a, .int .i64 s.b, .slice p.pa s.pn p.pc, .slice p.ha s.hn p.hc] 26) = W0 at *
    refine hc.mono ?_
    rintro e w1 ⟨rfl, hb1⟩
    have k0 := hb1.block _ (lt_of_block hr0)
    rw [hr0] at k0
    obtain ⟨c0, c1, c2, c3, c4, cf⟩ := five_of k0
    have HB : Hid (Below w.heap.size w w1) := hb0.trans (hb1.mono hb0.size)
    clear hc hb0 hb1 hr0 k0
    go_wp2
    go_ret
    exact ⟨rfl, HB.out⟩
  · have e0 : chkE s = 1 := if_neg hk
    have HE : Hid (decide (Rgt s) = false) := decide_eq_false (fun h => hk h.1)
    rw [e0] at hc
    rw [HE.out]
    clear hk e0
    unfold svv at hb0 hr0 hc ⊢
    go_enter Tryd.func25, Tryd.ntmps25
    go_wp2_with fail
    generalize w.alloc (.cells #[.int .i64 s.nu, .int .i64 s.a, .int .i64 s.b, .slice p.pa s.pn p.pc, .slice p.ha s.hn p.hc] 26) = W0 at *
    refine hc.mono ?_
    rintro e w1 ⟨rfl, hb1⟩
    have k0 := hb1.block _ (lt_of_block hr0)
    rw [hr0] at k0
    obtain ⟨c0, c1, c2, c3, c4, cf⟩ := five_of k0
    have HB : Hid (Below w.heap.size w w1) := hb0.trans (hb1.mono hb0.size)
    clear hc hb0 hb1 hr0 k0
    go_wp2
    go_ret
    exact ⟨rfl, HB.out⟩
set_option maxRecDepth 100000 in
set_option maxHeartbeats 1600000 in
theorem rwith_any (s : Sv) (p : Pl) (x y : Int) (pa : Option Addr) (pn pc : Nat) (ha : Option Addr) (hn hc : Nat) (w : World) (e1 : wrap64 (s.nu + 1) = s.nu + 1) (e2 : wrap64 (s.a + x) = s.a + x) (e3 : wrap64 (s.b + y) = s.b + y) :
    Calls Tryd.prog 29 #[.agg (#[.int .i64 s.nu, .int .i64 s.a, .int .i64 s.b, .slice p.pa s.pn p.pc, .slice p.ha s.hn p.hc]), .int .i64 x, .int .i64 y, .slice pa pn pc, .slice ha hn hc] w fun e w' => e = .returned (.agg #[.int .i64 (s.nu + 1), .int .i64 (s.a + x), .int .i64 (s.b + y), .slice pa pn pc, .slice ha hn hc]) ∧ Below w.heap.size w w' := by
  have hE := heap_alloc_new (w.alloc (.cells #[.int .i64 s.nu, .int .i64 s.a, .int .i64 s.b, .slice p.pa s.pn p.pc, .slice p.ha s.hn p.hc] 26)) (.cells #[.int .i64 (s.nu + 1), .int .i64 (s.a + x), .int .i64 (s.b + y), .slice pa pn pc, .slice ha hn hc] 26)
  have e0 : (w.alloc (.cells #[.int .i64 s.nu, .int .i64 s.a, .int .i64 s.b, .slice p.pa s.pn p.pc, .slice p.ha s.hn p.hc] 26)).heap.size = w.heap.size + 1 := by simp
  rw [e0] at hE
  have HE : Hid _ := hE
  clear hE e0
  go_enter Tryd.func29, Tryd.ntmps29
  go_wp2
  exact bodyPost_ret (results_cell_row Tryd.results29 _ _ (w.heap.size + 1) 26 _ (0, 0) _ rfl HE.out Tryd.underlying26 rfl szSr) rfl ⟨rfl, ((Below.refl _ w).alloc (Nat.le_refl _) _).alloc (by simp) _⟩
theorem SvAt.alike {w : World} {s s' : Sv} {p : Pl} (h : SvAt w s p) (h1 : s'.pn = s.pn) (h2 : s'.P = s.P) (h3 : s'.hn = s.hn) (h4 : s'.H = s.H) : SvAt w s' p := by
  obtain ⟨nu, a, b, pn, P, hn, H⟩ := s
  obtain ⟨nu', a', b', pn', P', hn', H'⟩ := s'
  simp only at h1 h2 h3 h4
  subst h1 h2 h3 h4
  exact ⟨h.py, h.hd, h.pcap, h.hcap, h.pnil, h.hnil⟩
theorem giv_small {s : Sv} (h : s.Small) (x y : Int) : (giv s x y).Small := ⟨h.n, h.k⟩
end Go.Proofs.YtchiapnhkhbigaaDoor
/- Resize and Total, the program's and the document's. -/
namespace Go.Proofs.YtchiapnhkhbigaaDoor
open Go.RowKit

theorem nxt_num {s : Sv} (h : Rgt s) : SNum (nxt s) := ⟨⟨by have := h.1.1.1; show 0 ≤ s.nu + 1; omega, by have := h.2; show s.nu + 1 ≤ _; omega⟩, h.1.1.2⟩
theorem nxt_tot (s : Sv) : tot (nxt s) = tot s := rfl
/-- Resize, as a function. -/
def sizeF (s : Sv) (f n : Int) : Sv × Int :=
  if ¬ Rgt s then (sv0, 1) else if ¬ Side f then (sv0, 33) else if n < -(has s f) then (sv0, 20) else if 1125899906842624 - tot s < n then (sv0, 5)
  else (if f = 0 then giv s n 0 else giv s 0 n, 0)
theorem tot_bd {s : Sv} (h : SOk s) : 0 ≤ tot s ∧ tot s ≤ 1125899906842624 ∧ s.a ≤ tot s ∧ s.b ≤ tot s := by
  have h1 := h.1.2
  have h2 := (sumP_bd s.P s.pn h.2.1.2.1).1
  have h3 := (sumH_bd s.H s.hn h.2.1.2.2).1
  have h4 := h.2.2
  unfold tot at *
  omega
set_option maxRecDepth 100000 in
set_option maxHeartbeats 1600000 in
theorem size_1 (s : Sv) (p : Pl) (f n : Int) (w : World) (h : SvAt w s p) (hs : s.Small) (hr : ¬ Rgt s) :
    Calls Tryd.prog 12 #[.agg (svv s p), .int .i64 f, .int .i64 n] w fun e w' => e = .returned (.tuple #[.agg #[.int .i64 0, .int .i64 0, .int .i64 0, .slice none 0 0, .slice none 0 0], errV 1]) ∧ Below w.heap.size w w' := by
  obtain ⟨hn0, hn1, hsz, hb0⟩ := two_new w s p 35 35
  have hc := next_bad s p _ (h.below hb0) hs hr
  clear h hs
  unfold svv sv0 pl0 at hn0 hn1 hsz hb0 hc
  unfold svv
  simp only at hn0 hn1 hsz hb0 hc
  go_enter Tryd.func12, Tryd.ntmps12
  go_wp2_with fail
  generalize ((w.alloc (.cells #[.int .i64 s.nu, .int .i64 s.a, .int .i64 s.b, .slice p.pa s.pn p.pc, .slice p.ha s.hn p.hc] 35)).alloc (.cells #[.int .i64 0, .int .i64 0, .int .i64 0, .slice none 0 0, .slice none 0 0] 35)) = W0 at *
  refine hc.mono ?_
  rintro e w1 ⟨rfl, hb1⟩
  have HB : Hid (Below w.heap.size w w1) := hb0.trans (hb1.mono (by omega))
  have k1 := hb1.block _ (show w.heap.size + 1 < W0.heap.size by omega)
  rw [hn1] at k1
  have hl1 : w.heap.size + 1 < w1.heap.size := by have := hb1.size; omega
  clear hc hb0 hb1 hn0 hn1 hsz
  obtain ⟨d0, d1, d2, d3, d4, df⟩ := five_of k1
  have HK : Hid (w1.heap[w.heap.size + 1]? = some (.cells #[.int .i64 0, .int .i64 0, .int .i64 0, .slice none 0 0, .slice none 0 0] 35 (0, 0))) := k1
  clear k1
  have e1 : errV 1 = .iface 71 (.int .i64 1) := rfl
  rw [e1]
  go_wp2
  exact bodyPost_ret (results_S2 Tryd.results12 _ _ (w.heap.size + 1) 35 _ _ _ _ _ (0, 0) rfl (five_alloc _ HK.out)) rfl ⟨rfl, five_ab _ HB.out (by omega) HB.out.size⟩
set_option maxRecDepth 100000 in
set_option maxHeartbeats 1600000 in
theorem size_33 (s : Sv) (p : Pl) (f n : Int) (w : World) (h : SvAt w s p) (hs : s.Small) (hr : Rgt s) (hf : ¬ Side f) :
    Calls Tryd.prog 12 #[.agg (svv s p), .int .i64 f, .int .i64 n] w fun e w' => e = .returned (.tuple #[.agg #[.int .i64 0, .int .i64 0, .int .i64 0, .slice none 0 0, .slice none 0 0], errV 33]) ∧ Below w.heap.size w w' := by
  obtain ⟨hn0, hn1, hsz, hb0⟩ := two_new w s p 35 35
  have hc := next_ok s p _ (h.below hb0) hs hr
  have hsd := isSide_any f
  rw [decide_eq_false (show ¬ (f = 0 ∨ f = 1) from hf)] at hsd
  clear h hs
  unfold svv sv0 pl0 at hn0 hn1 hsz hb0 hc
  unfold svv
  simp only at hn0 hn1 hsz hb0 hc
  go_enter Tryd.func12, Tryd.ntmps12
  go_wp2_with fail
  generalize ((w.alloc (.cells #[.int .i64 s.nu, .int .i64 s.a, .int .i64 s.b, .slice p.pa s.pn p.pc, .slice p.ha s.hn p.hc] 35)).alloc (.cells #[.int .i64 0, .int .i64 0, .int .i64 0, .slice none 0 0, .slice none 0 0] 35)) = W0 at *
  refine hc.mono ?_
  rintro e w1 ⟨⟨p', A, rfl, hO⟩, hb1⟩
  have HB : Hid (Below w.heap.size w w1) := hb0.trans (hb1.mono (by omega))
  have k1 := hb1.block _ (show w.heap.size + 1 < W0.heap.size by omega)
  rw [hn1] at k1
  have hl1 : w.heap.size + 1 < w1.heap.size := by have := hb1.size; omega
  have HO : Hid (SvOw (w.heap.size + 2) w1 (nxt s) p' A) := hO.low (by omega)
  clear hO
  clear hc hb0 hb1 hn0 hn1 hsz
  unfold nxt
  dsimp only
  obtain ⟨d0, d1, d2, d3, d4, df⟩ := five_of k1
  have HK : Hid (w1.heap[w.heap.size + 1]? = some (.cells #[.int .i64 0, .int .i64 0, .int .i64 0, .slice none 0 0, .slice none 0 0] 35 (0, 0))) := k1
  clear k1
  go_wp2_with fail
  refine (hsd _).mono ?_
  rintro e w2 ⟨rfl, rfl⟩
  clear hsd
  go_wp2
  exact bodyPost_ret (results_S2 Tryd.results12 _ _ (w.heap.size + 1) 35 _ _ _ _ _ (0, 0) rfl (five_alloc _ HK.out)) rfl ⟨rfl, five_ab _ HB.out (by omega) HB.out.size⟩
set_option maxRecDepth 100000 in
set_option maxHeartbeats 1600000 in
theorem size_20_0 (s : Sv) (p : Pl) (n : Int) (w : World) (h : SvAt w s p) (hs : s.Small) (hr : Rgt s) (hh : n < -s.a) :
    Calls Tryd.prog 12 #[.agg (svv s p), .int .i64 0, .int .i64 n] w fun e w' => e = .returned (.tuple #[.agg #[.int .i64 0, .int .i64 0, .int .i64 0, .slice none 0 0, .slice none 0 0], errV 20]) ∧ Below w.heap.size w w' := by
  have b1 := hr.1.1.2.1
  have b2 := hr.1.1.2.2
  have bt := tot_bd hr.1
  have en : wrap64 (-s.a) = -s.a := by simp [wrap64]; omega
  have en0 : wrap64 (0 - s.a) = -s.a := by simp [wrap64]; omega
  have et : wrap64 (1125899906842624 - tot s) = 1125899906842624 - tot s := by simp [wrap64]; omega
  obtain ⟨hn0, hn1, hsz, hb0⟩ := two_new w s p 35 35
  have hc := next_ok s p _ (h.below hb0) hs hr
  have hsd := isSide_any 0
  rw [decide_eq_true (by decide)] at hsd
  clear h hs
  unfold svv sv0 pl0 at hn0 hn1 hsz hb0 hc
  unfold svv
  simp only at hn0 hn1 hsz hb0 hc
  go_enter Tryd.func12, Tryd.ntmps12
  go_wp2_with fail
  generalize ((w.alloc (.cells #[.int .i64 s.nu, .int .i64 s.a, .int .i64 s.b, .slice p.pa s.pn p.pc, .slice p.ha s.hn p.hc] 35)).alloc (.cells #[.int .i64 0, .int .i64 0, .int .i64 0, .slice none 0 0, .slice none 0 0] 35)) = W0 at *
  refine hc.mono ?_
  rintro e w1 ⟨⟨p', A, rfl, hO⟩, hb1⟩
  have HB : Hid (Below w.heap.size w w1) := hb0.trans (hb1.mono (by omega))
  have k1 := hb1.block _ (show w.heap.size + 1 < W0.heap.size by omega)
  rw [hn1] at k1
  have hl1 : w.heap.size + 1 < w1.heap.size := by have := hb1.size; omega
  have HO : Hid (SvOw (w.heap.size + 2) w1 (nxt s) p' A) := hO.low (by omega)
  clear hO
  clear hc hb0 hb1 hn0 hn1 hsz
  unfold nxt
  dsimp only
  obtain ⟨d0, d1, d2, d3, d4, df⟩ := five_of k1
  have HK : Hid (w1.heap[w.heap.size + 1]? = some (.cells #[.int .i64 0, .int .i64 0, .int .i64 0, .slice none 0 0, .slice none 0 0] 35 (0, 0))) := k1
  clear k1
  go_wp2_with fail
  refine (hsd _).mono ?_
  rintro e w2 ⟨rfl, rfl⟩
  clear hsd
  clear HO bt et en0
  go_wp2
  exact bodyPost_ret (results_S2 Tryd.results12 _ _ (w.heap.size + 1) 35 _ _ _ _ _ (0, 0) rfl (five_alloc _ HK.out)) rfl ⟨rfl, five_ab _ HB.out (by omega) HB.out.size⟩
set_option maxRecDepth 100000 in
set_option maxHeartbeats 1600000 in
theorem size_5_0 (s : Sv) (p : Pl) (n : Int) (w : World) (h : SvAt w s p) (hs : s.Small) (hr : Rgt s) (hh : ¬ n < -s.a) (ho : 1125899906842624 - tot s < n) :
    Calls Tryd.prog 12 #[.agg (svv s p), .int .i64 0, .int .i64 n] w fun e w' => e = .returned (.tuple #[.agg #[.int .i64 0, .int .i64 0, .int .i64 0, .slice none 0 0, .slice none 0 0], errV 5]) ∧ Below w.heap.size w w' := by
  have b1 := hr.1.1.2.1
  have b2 := hr.1.1.2.2
  have bt := tot_bd hr.1
  have en : wrap64 (-s.a) = -s.a := by simp [wrap64]; omega
  have en0 : wrap64 (0 - s.a) = -s.a := by simp [wrap64]; omega
  have et : wrap64 (1125899906842624 - tot s) = 1125899906842624 - tot s := by simp [wrap64]; omega
  obtain ⟨hn0, hn1, hsz, hb0⟩ := two_new w s p 35 35
  have hc := next_ok s p _ (h.below hb0) hs hr
  have hsd := isSide_any 0
  rw [decide_eq_true (by decide)] at hsd
  clear h hs
  unfold svv sv0 pl0 at hn0 hn1 hsz hb0 hc
  unfold svv
  simp only at hn0 hn1 hsz hb0 hc
  go_enter Tryd.func12, Tryd.ntmps12
  go_wp2_with fail
  generalize ((w.alloc (.cells #[.int .i64 s.nu, .int .i64 s.a, .int .i64 s.b, .slice p.pa s.pn p.pc, .slice p.ha s.hn p.hc] 35)).alloc (.cells #[.int .i64 0, .int .i64 0, .int .i64 0, .slice none 0 0, .slice none 0 0] 35)) = W0 at *
  refine hc.mono ?_
  rintro e w1 ⟨⟨p', A, rfl, hO⟩, hb1⟩
  have HB : Hid (Below w.heap.size w w1) := hb0.trans (hb1.mono (by omega))
  have k1 := hb1.block _ (show w.heap.size + 1 < W0.heap.size by omega)
  rw [hn1] at k1
  have hl1 : w.heap.size + 1 < w1.heap.size := by have := hb1.size; omega
  have HO : Hid (SvOw (w.heap.size + 2) w1 (nxt s) p' A) := hO.low (by omega)
  clear hO
  clear hc hb0 hb1 hn0 hn1 hsz
  unfold nxt
  dsimp only
  obtain ⟨d0, d1, d2, d3, d4, df⟩ := five_of k1
  have HK : Hid (w1.heap[w.heap.size + 1]? = some (.cells #[.int .i64 0, .int .i64 0, .int .i64 0, .slice none 0 0, .slice none 0 0] 35 (0, 0))) := k1
  clear k1
  go_wp2_with fail
  refine (hsd _).mono ?_
  rintro e w2 ⟨rfl, rfl⟩
  clear hsd
  have hbA : Below w1.heap.size w1 (w1.alloc (.cells #[.int .i64 (s.nu + 1), .int .i64 s.a, .int .i64 s.b, .slice p'.pa s.pn p'.pc, .slice p'.ha s.hn p'.hc] 35)) := (Below.refl _ w1).alloc (Nat.le_refl _) _
  have hnA := heap_alloc_new w1 (.cells #[.int .i64 (s.nu + 1), .int .i64 s.a, .int .i64 s.b, .slice p'.pa s.pn p'.pc, .slice p'.ha s.hn p'.hc] 35)
  have hka := hbA.block _ hl1
  rw [HK.out] at hka
  have htg := together_any (nxt s) p' (w1.alloc (.cells #[.int .i64 (s.nu + 1), .int .i64 s.a, .int .i64 s.b, .slice p'.pa s.pn p'.pc, .slice p'.ha s.hn p'.hc] 35)) ((HO.out.below hbA).at) (nxt_num hr) hr.1.2.1
  rw [nxt_tot] at htg
  unfold svv nxt at htg
  dsimp only at htg
  go_wp2_with fail
  generalize w1.alloc (.cells #[.int .i64 (s.nu + 1), .int .i64 s.a, .int .i64 s.b, .slice p'.pa s.pn p'.pc, .slice p'.ha s.hn p'.hc] 35) = WA at *
  refine htg.mono ?_
  rintro e w3 ⟨rfl, hb3⟩
  have HO3 : Hid (SvOw (w.heap.size + 2) w1 (nxt s) p' A) := HO.out
  have HF : Hid (∀ k, k < w1.heap.size → w3.heap[k]? = w1.heap[k]?) := fun k hk => (hb3.block k (by have := hbA.size; omega)).trans (hbA.block k hk)
  have HB3 : Hid (Below w.heap.size w w3) := (HB.out.trans (hbA.mono HB.out.size)).trans (hb3.mono (by have := HB.out.size; have := hbA.size; omega))
  have k3 := hb3.block _ (lt_of_block hnA)
  rw [hnA] at k3
  have r3 := hb3.block _ (lt_of_block hka)
  rw [hka] at r3
  clear d0 d1 d2 d3 d4 df HO HB HK hbA hnA hka htg hb3
  obtain ⟨c0, c1, c2, c3, c4, cf⟩ := five_of k3
  obtain ⟨d0, d1, d2, d3, d4, df⟩ := five_of r3
  have HK : Hid (w3.heap[w.heap.size + 1]? = some (.cells #[.int .i64 0, .int .i64 0, .int .i64 0, .slice none 0 0, .slice none 0 0] 35 (0, 0)) ∧ w3.heap[w1.heap.size]? = some (.cells #[.int .i64 (s.nu + 1), .int .i64 s.a, .int .i64 s.b, .slice p'.pa s.pn p'.pc, .slice p'.ha s.hn p'.hc] 35 (0, 0))) := ⟨r3, k3⟩
  clear r3 k3
  clear HO3 bt HF
  generalize tot s = tt at *
  go_wp2
  exact bodyPost_ret (results_S2 Tryd.results12 _ _ (w.heap.size + 1) 35 _ _ _ _ _ (0, 0) rfl (five_all HK.out.1)) rfl ⟨rfl, five_below HB3.out (by omega)⟩
set_option maxRecDepth 100000 in
set_option maxHeartbeats 1600000 in
theorem size_ok_0 (s : Sv) (p : Pl) (n : Int) (w : World) (h : SvAt w s p) (hs : s.Small) (hr : Rgt s) (hh : ¬ n < -s.a) (ho : ¬ 1125899906842624 - tot s < n) :
    Calls Tryd.prog 12 #[.agg (svv s p), .int .i64 0, .int .i64 n] w fun e w' => (∃ p' A, e = .returned (.tuple #[.agg #[.int .i64 (s.nu + 1), .int .i64 (s.a + n), .int .i64 s.b, .slice p'.pa s.pn p'.pc, .slice p'.ha s.hn p'.hc], .nilIface]) ∧ SvOw w.heap.size w' (nxt s) p' A) ∧ Below w.heap.size w w' := by
  have b1 := hr.1.1.2.1
  have b2 := hr.1.1.2.2
  have bt := tot_bd hr.1
  have en : wrap64 (-s.a) = -s.a := by simp [wrap64]; omega
  have en0 : wrap64 (0 - s.a) = -s.a := by simp [wrap64]; omega
  have et : wrap64 (1125899906842624 - tot s) = 1125899906842624 - tot s := by simp [wrap64]; omega
  have ea : wrap64 (s.a + n) = s.a + n := by simp [wrap64]; omega
  obtain ⟨hn0, hn1, hsz, hb0⟩ := two_new w s p 35 35
  have hc := next_ok s p _ (h.below hb0) hs hr
  have hsd := isSide_any 0
  rw [decide_eq_true (by decide)] at hsd
  clear h hs
  unfold svv sv0 pl0 at hn0 hn1 hsz hb0 hc
  unfold svv
  simp only at hn0 hn1 hsz hb0 hc
  go_enter Tryd.func12, Tryd.ntmps12
  go_wp2_with fail
  generalize ((w.alloc (.cells #[.int .i64 s.nu, .int .i64 s.a, .int .i64 s.b, .slice p.pa s.pn p.pc, .slice p.ha s.hn p.hc] 35)).alloc (.cells #[.int .i64 0, .int .i64 0, .int .i64 0, .slice none 0 0, .slice none 0 0] 35)) = W0 at *
  refine hc.mono ?_
  rintro e w1 ⟨⟨p', A, rfl, hO⟩, hb1⟩
  have HB : Hid (Below w.heap.size w w1) := hb0.trans (hb1.mono (by omega))
  have k1 := hb1.block _ (show w.heap.size + 1 < W0.heap.size by omega)
  rw [hn1] at k1
  have hl1 : w.heap.size + 1 < w1.heap.size := by have := hb1.size; omega
  have HO : Hid (SvOw (w.heap.size + 2) w1 (nxt s) p' A) := hO.low (by omega)
  clear hO
  clear hc hb0 hb1 hn0 hn1 hsz
  unfold nxt
  dsimp only
  obtain ⟨d0, d1, d2, d3, d4, df⟩ := five_of k1
  have HK : Hid (w1.heap[w.heap.size + 1]? = some (.cells #[.int .i64 0, .int .i64 0, .int .i64 0, .slice none 0 0, .slice none 0 0] 35 (0, 0))) := k1
  clear k1
  go_wp2_with fail
  refine (hsd _).mono ?_
  rintro e w2 ⟨rfl, rfl⟩
  clear hsd
  have hbA : Below w1.heap.size w1 (w1.alloc (.cells #[.int .i64 (s.nu + 1), .int .i64 s.a, .int .i64 s.b, .slice p'.pa s.pn p'.pc, .slice p'.ha s.hn p'.hc] 35)) := (Below.refl _ w1).alloc (Nat.le_refl _) _
  have hnA := heap_alloc_new w1 (.cells #[.int .i64 (s.nu + 1), .int .i64 s.a, .int .i64 s.b, .slice p'.pa s.pn p'.pc, .slice p'.ha s.hn p'.hc] 35)
  have hka := hbA.block _ hl1
  rw [HK.out] at hka
  have htg := together_any (nxt s) p' (w1.alloc (.cells #[.int .i64 (s.nu + 1), .int .i64 s.a, .int .i64 s.b, .slice p'.pa s.pn p'.pc, .slice p'.ha s.hn p'.hc] 35)) ((HO.out.below hbA).at) (nxt_num hr) hr.1.2.1
  rw [nxt_tot] at htg
  unfold svv nxt at htg
  dsimp only at htg
  go_wp2_with fail
  generalize w1.alloc (.cells #[.int .i64 (s.nu + 1), .int .i64 s.a, .int .i64 s.b, .slice p'.pa s.pn p'.pc, .slice p'.ha s.hn p'.hc] 35) = WA at *
  refine htg.mono ?_
  rintro e w3 ⟨rfl, hb3⟩
  have HO3 : Hid (SvOw (w.heap.size + 2) w1 (nxt s) p' A) := HO.out
  have HF : Hid (∀ k, k < w1.heap.size → w3.heap[k]? = w1.heap[k]?) := fun k hk => (hb3.block k (by have := hbA.size; omega)).trans (hbA.block k hk)
  have HB3 : Hid (Below w.heap.size w w3) := (HB.out.trans (hbA.mono HB.out.size)).trans (hb3.mono (by have := HB.out.size; have := hbA.size; omega))
  have k3 := hb3.block _ (lt_of_block hnA)
  rw [hnA] at k3
  have r3 := hb3.block _ (lt_of_block hka)
  rw [hka] at r3
  clear d0 d1 d2 d3 d4 df HO HB HK hbA hnA hka htg hb3
  obtain ⟨c0, c1, c2, c3, c4, cf⟩ := five_of k3
  obtain ⟨d0, d1, d2, d3, d4, df⟩ := five_of r3
  have HK : Hid (w3.heap[w.heap.size + 1]? = some (.cells #[.int .i64 0, .int .i64 0, .int .i64 0, .slice none 0 0, .slice none 0 0] 35 (0, 0)) ∧ w3.heap[w1.heap.size]? = some (.cells #[.int .i64 (s.nu + 1), .int .i64 s.a, .int .i64 s.b, .slice p'.pa s.pn p'.pc, .slice p'.ha s.hn p'.hc] 35 (0, 0))) := ⟨r3, k3⟩
  clear r3 k3
  clear bt
  generalize tot s = tt at *
  have hne : w.heap.size + 1 ≠ w1.heap.size := by omega
  have HN : Hid (w.heap.size + 1 ≠ w1.heap.size ∧ w.heap.size + 2 ≤ w1.heap.size) := ⟨hne, hl1⟩
  clear hne
  go_wp2
  refine bodyPost_ret (results_S2 Tryd.results12 _ _ (w.heap.size + 1) 35 _ _ _ _ _ (0, 0) rfl (five_all (by rw [Below.heap_setCell _ _ _ _ (by exact HN.out.1)]; exact HK.out.1))) rfl ⟨⟨p', A, rfl, (HO3.out.frm fun k h1 h2 => ?_).low (by omega)⟩, five_below (HB3.out.setCell (by have := HN.out.2; show w.heap.size ≤ w1.heap.size; omega) _) (by omega)⟩
  rw [five_other (by omega), Below.heap_setCell _ _ _ _ (by show k ≠ w1.heap.size; omega)]
  exact HF.out k h1
set_option maxRecDepth 100000 in
set_option maxHeartbeats 1600000 in
theorem size_20_1 (s : Sv) (p : Pl) (n : Int) (w : World) (h : SvAt w s p) (hs : s.Small) (hr : Rgt s) (hh : n < -s.b) :
    Calls Tryd.prog 12 #[.agg (svv s p), .int .i64 1, .int .i64 n] w fun e w' => e = .returned (.tuple #[.agg #[.int .i64 0, .int .i64 0, .int .i64 0, .slice none 0 0, .slice none 0 0], errV 20]) ∧ Below w.heap.size w w' := by
  have b1 := hr.1.1.2.1
  have b2 := hr.1.1.2.2
  have bt := tot_bd hr.1
  have en : wrap64 (-s.b) = -s.b := by simp [wrap64]; omega
  have en0 : wrap64 (0 - s.b) = -s.b := by simp [wrap64]; omega
  have et : wrap64 (1125899906842624 - tot s) = 1125899906842624 - tot s := by simp [wrap64]; omega
  obtain ⟨hn0, hn1, hsz, hb0⟩ := two_new w s p 35 35
  have hc := next_ok s p _ (h.below hb0) hs hr
  have hsd := isSide_any 1
  rw [decide_eq_true (by decide)] at hsd
  clear h hs
  unfold svv sv0 pl0 at hn0 hn1 hsz hb0 hc
  unfold svv
  simp only at hn0 hn1 hsz hb0 hc
  go_enter Tryd.func12, Tryd.ntmps12
  go_wp2_with fail
  generalize ((w.alloc (.cells #[.int .i64 s.nu, .int .i64 s.a, .int .i64 s.b, .slice p.pa s.pn p.pc, .slice p.ha s.hn p.hc] 35)).alloc (.cells #[.int .i64 0, .int .i64 0, .int .i64 0, .slice none 0 0, .slice none 0 0] 35)) = W0 at *
  refine hc.mono ?_
  rintro e w1 ⟨⟨p', A, rfl, hO⟩, hb1⟩
  have HB : Hid (Below w.heap.size w w1) := hb0.trans (hb1.mono (by omega))
  have k1 := hb1.block _ (show w.heap.size + 1 < W0.heap.size by omega)
  rw [hn1] at k1
  have hl1 : w.heap.size + 1 < w1.heap.size := by have := hb1.size; omega
  have HO : Hid (SvOw (w.heap.size + 2) w1 (nxt s) p' A) := hO.low (by omega)
  clear hO
  clear hc hb0 hb1 hn0 hn1 hsz
  unfold nxt
  dsimp only
  obtain ⟨d0, d1, d2, d3, d4, df⟩ := five_of k1
  have HK : Hid (w1.heap[w.heap.size + 1]? = some (.cells #[.int .i64 0, .int .i64 0, .int .i64 0, .slice none 0 0, .slice none 0 0] 35 (0, 0))) := k1
  clear k1
  go_wp2_with fail
  refine (hsd _).mono ?_
  rintro e w2 ⟨rfl, rfl⟩
  clear hsd
  clear HO bt et en0
  go_wp2
  exact bodyPost_ret (results_S2 Tryd.results12 _ _ (w.heap.size + 1) 35 _ _ _ _ _ (0, 0) rfl (five_alloc _ HK.out)) rfl ⟨rfl, five_ab _ HB.out (by omega) HB.out.size⟩
set_option maxRecDepth 100000 in
set_option maxHeartbeats 1600000 in
theorem size_5_1 (s : Sv) (p : Pl) (n : Int) (w : World) (h : SvAt w s p) (hs : s.Small) (hr : Rgt s) (hh : ¬ n < -s.b) (ho : 1125899906842624 - tot s < n) :
    Calls Tryd.prog 12 #[.agg (svv s p), .int .i64 1, .int .i64 n] w fun e w' => e = .returned (.tuple #[.agg #[.int .i64 0, .int .i64 0, .int .i64 0, .slice none 0 0, .slice none 0 0], errV 5]) ∧ Below w.heap.size w w' := by
  have b1 := hr.1.1.2.1
  have b2 := hr.1.1.2.2
  have bt := tot_bd hr.1
  have en : wrap64 (-s.b) = -s.b := by simp [wrap64]; omega
  have en0 : wrap64 (0 - s.b) = -s.b := by simp [wrap64]; omega
  have et : wrap64 (1125899906842624 - tot s) = 1125899906842624 - tot s := by simp [wrap64]; omega
  obtain ⟨hn0, hn1, hsz, hb0⟩ := two_new w s p 35 35
  have hc := next_ok s p _ (h.below hb0) hs hr
  have hsd := isSide_any 1
  rw [decide_eq_true (by decide)] at hsd
  clear h hs
  unfold svv sv0 pl0 at hn0 hn1 hsz hb0 hc
  unfold svv
  simp only at hn0 hn1 hsz hb0 hc
  go_enter Tryd.func12, Tryd.ntmps12
  go_wp2_with fail
  generalize ((w.alloc (.cells #[.int .i64 s.nu, .int .i64 s.a, .int .i64 s.b, .slice p.pa s.pn p.pc, .slice p.ha s.hn p.hc] 35)).alloc (.cells #[.int .i64 0, .int .i64 0, .int .i64 0, .slice none 0 0, .slice none 0 0] 35)) = W0 at *
  refine hc.mono ?_
  rintro e w1 ⟨⟨p', A, rfl, hO⟩, hb1⟩
  have HB : Hid (Below w.heap.size w w1) := hb0.trans (hb1.mono (by omega))
  have k1 := hb1.block _ (show w.heap.size + 1 < W0.heap.size by omega)
  rw [hn1] at k1
  have hl1 : w.heap.size + 1 < w1.heap.size := by have := hb1.size; omega
  have HO : Hid (SvOw (w.heap.size + 2) w1 (nxt s) p' A) := hO.low (by omega)
  clear hO
  clear hc hb0 hb1 hn0 hn1 hsz
  unfold nxt
  dsimp only
  obtain ⟨d0, d1, d2, d3, d4, df⟩ := five_of k1
  have HK : Hid (w1.heap[w.heap.size + 1]? = some (.cells #[.int .i64 0, .int .i64 0, .int .i64 0, .slice none 0 0, .slice none 0 0] 35 (0, 0))) := k1
  clear k1
  go_wp2_with fail
  refine (hsd _).mono ?_
  rintro e w2 ⟨rfl, rfl⟩
  clear hsd
  have hbA : Below w1.heap.size w1 (w1.alloc (.cells #[.int .i64 (s.nu + 1), .int .i64 s.a, .int .i64 s.b, .slice p'.pa s.pn p'.pc, .slice p'.ha s.hn p'.hc] 35)) := (Below.refl _ w1).alloc (Nat.le_refl _) _
  have hnA := heap_alloc_new w1 (.cells #[.int .i64 (s.nu + 1), .int .i64 s.a, .int .i64 s.b, .slice p'.pa s.pn p'.pc, .slice p'.ha s.hn p'.hc] 35)
  have hka := hbA.block _ hl1
  rw [HK.out] at hka
  have htg := together_any (nxt s) p' (w1.alloc (.cells #[.int .i64 (s.nu + 1), .int .i64 s.a, .int .i64 s.b, .slice p'.pa s.pn p'.pc, .slice p'.ha s.hn p'.hc] 35)) ((HO.out.below hbA).at) (nxt_num hr) hr.1.2.1
  rw [nxt_tot] at htg
  unfold svv nxt at htg
  dsimp only at htg
  go_wp2_with fail
  generalize w1.alloc (.cells #[.int .i64 (s.nu + 1), .int .i64 s.a, .int .i64 s.b, .slice p'.pa s.pn p'.pc, .slice p'.ha s.hn p'.hc] 35) = WA at *
  refine htg.mono ?_
  rintro e w3 ⟨rfl, hb3⟩
  have HO3 : Hid (SvOw (w.heap.size + 2) w1 (nxt s) p' A) := HO.out
  have HF : Hid (∀ k, k < w1.heap.size → w3.heap[k]? = w1.heap[k]?) := fun k hk => (hb3.block k (by have := hbA.size; omega)).trans (hbA.block k hk)
  have HB3 : Hid (Below w.heap.size w w3) := (HB.out.trans (hbA.mono HB.out.size)).trans (hb3.mono (by have := HB.out.size; have := hbA.size; omega))
  have k3 := hb3.block _ (lt_of_block hnA)
  rw [hnA] at k3
  have r3 := hb3.block _ (lt_of_block hka)
  rw [hka] at r3
  clear d0 d1 d2 d3 d4 df HO HB HK hbA hnA hka htg hb3
  obtain ⟨c0, c1, c2, c3, c4, cf⟩ := five_of k3
  obtain ⟨d0, d1, d2, d3, d4, df⟩ := five_of r3
  have HK : Hid (w3.heap[w.heap.size + 1]? = some (.cells #[.int .i64 0, .int .i64 0, .int .i64 0, .slice none 0 0, .slice none 0 0] 35 (0, 0)) ∧ w3.heap[w1.heap.size]? = some (.cells #[.int .i64 (s.nu + 1), .int .i64 s.a, .int .i64 s.b, .slice p'.pa s.pn p'.pc, .slice p'.ha s.hn p'.hc] 35 (0, 0))) := ⟨r3, k3⟩
  clear r3 k3
  clear HO3 bt HF
  generalize tot s = tt at *
  go_wp2
  exact bodyPost_ret (results_S2 Tryd.results12 _ _ (w.heap.size + 1) 35 _ _ _ _ _ (0, 0) rfl (five_all HK.out.1)) rfl ⟨rfl, five_below HB3.out (by omega)⟩
set_option maxRecDepth 100000 in
set_option maxHeartbeats 1600000 in
theorem size_ok_1 (s : Sv) (p : Pl) (n : Int) (w : World) (h : SvAt w s p) (hs : s.Small) (hr : Rgt s) (hh : ¬ n < -s.b) (ho : ¬ 1125899906842624 - tot s < n) :
    Calls Tryd.prog 12 #[.agg (svv s p), .int .i64 1, .int .i64 n] w fun e w' => (∃ p' A, e = .returned (.tuple #[.agg #[.int .i64 (s.nu + 1), .int .i64 s.a, .int .i64 (s.b + n), .slice p'.pa s.pn p'.pc, .slice p'.ha s.hn p'.hc], .nilIface]) ∧ SvOw w.heap.size w' (nxt s) p' A) ∧ Below w.heap.size w w' := by
  have b1 := hr.1.1.2.1
  have b2 := hr.1.1.2.2
  have bt := tot_bd hr.1
  have en : wrap64 (-s.b) = -s.b := by simp [wrap64]; omega
  have en0 : wrap64 (0 - s.b) = -s.b := by simp [wrap64]; omega
  have et : wrap64 (1125899906842624 - tot s) = 1125899906842624 - tot s := by simp [wrap64]; omega
  have ea : wrap64 (s.b + n) = s.b + n := by simp [wrap64]; omega
  obtain ⟨hn0, hn1, hsz, hb0⟩ := two_new w s p 35 35
  have hc := next_ok s p _ (h.below hb0) hs hr
  have hsd := isSide_any 1
  rw [decide_eq_true (by decide)] at hsd
  clear h hs
  unfold svv sv0 pl0 at hn0 hn1 hsz hb0 hc
  unfold svv
  simp only at hn0 hn1 hsz hb0 hc
  go_enter Tryd.func12, Tryd.ntmps12
  go_wp2_with fail
  generalize ((w.alloc (.cells #[.int .i64 s.nu, .int .i64 s.a, .int .i64 s.b, .slice p.pa s.pn p.pc, .slice p.ha s.hn p.hc] 35)).alloc (.cells #[.int .i64 0, .int .i64 0, .int .i64 0, .slice none 0 0, .slice none 0 0] 35)) = W0 at *
  refine hc.mono ?_
  rintro e w1 ⟨⟨p', A, rfl, hO⟩, hb1⟩
  have HB : Hid (Below w.heap.size w w1) := hb0.trans (hb1.mono (by omega))
  have k1 := hb1.block _ (show w.heap.size + 1 < W0.heap.size by omega)
  rw [hn1] at k1
  have hl1 : w.heap.size + 1 < w1.heap.size := by have := hb1.size; omega
  have HO : Hid (SvOw (w.heap.size + 2) w1 (nxt s) p' A) := hO.low (by omega)
  clear hO
  clear hc hb0 hb1 hn0 hn1 hsz
  unfold nxt
  dsimp only
  obtain ⟨d0, d1, d2, d3, d4, df⟩ := five_of k1
  have HK : Hid (w1.heap[w.heap.size + 1]? = some (.cells #[.int .i64 0, .int .i64 0, .int .i64 0, .slice none 0 0, .slice none 0 0] 35 (0, 0))) := k1
  clear k1
  go_wp2_with fail
  refine (hsd _).mono ?_
  rintro e w2 ⟨rfl, rfl⟩
  clear hsd
  have hbA : Below w1.heap.size w1 (w1.alloc (.cells #[.int .i64 (s.nu + 1), .int .i64 s.a, .int .i64 s.b, .slice p'.pa s.pn p'.pc, .slice p'.ha s.hn p'.hc] 35)) := (Below.refl _ w1).alloc (Nat.le_refl _) _
  have hnA := heap_alloc_new w1 (.cells #[.int .i64 (s.nu + 1), .int .i64 s.a, .int .i64 s.b, .slice p'.pa s.pn p'.pc, .slice p'.ha s.hn p'.hc] 35)
  have hka := hbA.block _ hl1
  rw [HK.out] at hka
  have htg := together_any (nxt s) p' (w1.alloc (.cells #[.int .i64 (s.nu + 1), .int .i64 s.a, .int .i64 s.b, .slice p'.pa s.pn p'.pc, .slice p'.ha s.hn p'.hc] 35)) ((HO.out.below hbA).at) (nxt_num hr) hr.1.2.1
  rw [nxt_tot] at htg
  unfold svv nxt at htg
  dsimp only at htg
  go_wp2_with fail
  generalize w1.alloc (.cells #[.int .i64 (s.nu + 1), .int .i64 s.a, .int .i64 s.b, .slice p'.pa s.pn p'.pc, .slice p'.ha s.hn p'.hc] 35) = WA at *
  refine htg.mono ?_
  rintro e w3 ⟨rfl, hb3⟩
  have HO3 : Hid (SvOw (w.heap.size + 2) w1 (nxt s) p' A) := HO.out
  have HF : Hid (∀ k, k < w1.heap.size → w3.heap[k]? = w1.heap[k]?) := fun k hk => (hb3.block k (by have := hbA.size; omega)).trans (hbA.block k hk)
  have HB3 : Hid (Below w.heap.size w w3) := (HB.out.trans (hbA.mono HB.out.size)).trans (hb3.mono (by have := HB.out.size; have := hbA.size; omega))
  have k3 := hb3.block _ (lt_of_block hnA)
  rw [hnA] at k3
  have r3 := hb3.block _ (lt_of_block hka)
  rw [hka] at r3
  clear d0 d1 d2 d3 d4 df HO HB HK hbA hnA hka htg hb3
  obtain ⟨c0, c1, c2, c3, c4, cf⟩ := five_of k3
  obtain ⟨d0, d1, d2, d3, d4, df⟩ := five_of r3
  have HK : Hid (w3.heap[w.heap.size + 1]? = some (.cells #[.int .i64 0, .int .i64 0, .int .i64 0, .slice none 0 0, .slice none 0 0] 35 (0, 0)) ∧ w3.heap[w1.heap.size]? = some (.cells #[.int .i64 (s.nu + 1), .int .i64 s.a, .int .i64 s.b, .slice p'.pa s.pn p'.pc, .slice p'.ha s.hn p'.hc] 35 (0, 0))) := ⟨r3, k3⟩
  clear r3 k3
  clear bt
  generalize tot s = tt at *
  have hne : w.heap.size + 1 ≠ w1.heap.size := by omega
  have HN : Hid (w.heap.size + 1 ≠ w1.heap.size ∧ w.heap.size + 2 ≤ w1.heap.size) := ⟨hne, hl1⟩
  clear hne
  go_wp2
  refine bodyPost_ret (results_S2 Tryd.results12 _ _ (w.heap.size + 1) 35 _ _ _ _ _ (0, 0) rfl (five_all (by rw [Below.heap_setCell _ _ _ _ (by exact HN.out.1)]; exact HK.out.1))) rfl ⟨⟨p', A, rfl, (HO3.out.frm fun k h1 h2 => ?_).low (by omega)⟩, five_below (HB3.out.setCell (by have := HN.out.2; show w.heap.size ≤ w1.heap.size; omega) _) (by omega)⟩
  rw [five_other (by omega), Below.heap_setCell _ _ _ _ (by show k ≠ w1.heap.size; omega)]
  exact HF.out k h1
set_option maxRecDepth 100000 in
theorem to_0 (n : Int) (w : World) : Calls Tryd.prog 28 #[.int .i64 0, .int .i64 n] w fun e w' => e = .returned (.tuple #[.int .i64 n, .int .i64 0]) ∧ w' = w := by
  go_enter Tryd.func28, Tryd.ntmps28
  go_wp2
  go_ret2
  exact ⟨rfl, rfl⟩
set_option maxRecDepth 100000 in
theorem to_1 (n : Int) (w : World) : Calls Tryd.prog 28 #[.int .i64 1, .int .i64 n] w fun e w' => e = .returned (.tuple #[.int .i64 0, .int .i64 n]) ∧ w' = w := by
  go_enter Tryd.func28, Tryd.ntmps28
  go_wp2
  go_ret2
  exact ⟨rfl, rfl⟩
set_option maxRecDepth 100000 in
set_option maxHeartbeats 1600000 in
theorem rsize_1 (s : Sv) (p : Pl) (f n : Int) (w : World) (h : SvAt w s p) (hs : s.Small) (hr : ¬ Rgt s) :
    Calls Tryd.prog 13 #[.agg (svv s p), .int .i64 f, .int .i64 n] w fun e w' => e = .returned (.tuple #[.agg #[.int .i64 0, .int .i64 0, .int .i64 0, .slice none 0 0, .slice none 0 0], .int .i64 1]) ∧ Below w.heap.size w w' := by
  obtain ⟨hn0, hn1, hsz, hb0⟩ := two_new w s p 26 26
  have hc := right_any s p _ (h.below hb0) hs
  rw [decide_eq_false hr] at hc
  clear h hs
  unfold svv sv0 pl0 at hn0 hn1 hsz hb0 hc
  unfold svv
  simp only at hn0 hn1 hsz hb0 hc
  go_enter Tryd.func13, Tryd.ntmps13
  go_wp2_with fail
  generalize ((w.alloc (.cells #[.int .i64 s.nu, .int .i64 s.a, .int .i64 s.b, .slice p.pa s.pn p.pc, .slice p.ha s.hn p.hc] 26)).alloc (.cells #[.int .i64 0, .int .i64 0, .int .i64 0, .slice none 0 0, .slice none 0 0] 26)) = W0 at *
  refine hc.mono ?_
  rintro e w1 ⟨rfl, hb1⟩
  have HB : Hid (Below w.heap.size w w1) := hb0.trans (hb1.mono (by omega))
  have k0 := hb1.block _ (show w.heap.size < W0.heap.size by omega)
  rw [hn0] at k0
  have k1 := hb1.block _ (show w.heap.size + 1 < W0.heap.size by omega)
  rw [hn1] at k1
  have hl1 : w.heap.size + 1 < w1.heap.size := by have := hb1.size; omega
  clear hc hb0 hb1 hn0 hn1 hsz
  obtain ⟨c0, c1, c2, c3, c4, cf⟩ := five_of k0
  obtain ⟨d0, d1, d2, d3, d4, df⟩ := five_of k1
  have HK : Hid (w1.heap[w.heap.size + 1]? = some (.cells #[.int .i64 0, .int .i64 0, .int .i64 0, .slice none 0 0, .slice none 0 0] 26 (0, 0))) := k1
  clear k0 k1
  go_wp2
  exact bodyPost_ret (results_R2 Tryd.results13 _ _ (w.heap.size + 1) 26 _ _ _ _ _ (0, 0) rfl (five_all HK.out)) rfl ⟨rfl, five_below HB.out (by omega)⟩
set_option maxRecDepth 100000 in
set_option maxHeartbeats 1600000 in
theorem rsize_33 (s : Sv) (p : Pl) (f n : Int) (w : World) (h : SvAt w s p) (hs : s.Small) (hr : Rgt s) (hf : ¬ Side f) :
    Calls Tryd.prog 13 #[.agg (svv s p), .int .i64 f, .int .i64 n] w fun e w' => e = .returned (.tuple #[.agg #[.int .i64 0, .int .i64 0, .int .i64 0, .slice none 0 0, .slice none 0 0], .int .i64 33]) ∧ Below w.heap.size w w' := by
  obtain ⟨hn0, hn1, hsz, hb0⟩ := two_new w s p 26 26
  have hc := right_any s p _ (h.below hb0) hs
  rw [decide_eq_true hr] at hc
  clear h hs
  unfold svv sv0 pl0 at hn0 hn1 hsz hb0 hc
  unfold svv
  simp only at hn0 hn1 hsz hb0 hc
  go_enter Tryd.func13, Tryd.ntmps13
  go_wp2_with fail
  generalize ((w.alloc (.cells #[.int .i64 s.nu, .int .i64 s.a, .int .i64 s.b, .slice p.pa s.pn p.pc, .slice p.ha s.hn p.hc] 26)).alloc (.cells #[.int .i64 0, .int .i64 0, .int .i64 0, .slice none 0 0, .slice none 0 0] 26)) = W0 at *
  refine hc.mono ?_
  rintro e w1 ⟨rfl, hb1⟩
  have HB : Hid (Below w.heap.size w w1) := hb0.trans (hb1.mono (by omega))
  have k0 := hb1.block _ (show w.heap.size < W0.heap.size by omega)
  rw [hn0] at k0
  have k1 := hb1.block _ (show w.heap.size + 1 < W0.heap.size by omega)
  rw [hn1] at k1
  have hl1 : w.heap.size + 1 < w1.heap.size := by have := hb1.size; omega
  clear hc hb0 hb1 hn0 hn1 hsz
  obtain ⟨c0, c1, c2, c3, c4, cf⟩ := five_of k0
  obtain ⟨d0, d1, d2, d3, d4, df⟩ := five_of k1
  have HK : Hid (w1.heap[w.heap.size + 1]? = some (.cells #[.int .i64 0, .int .i64 0, .int .i64 0, .slice none 0 0, .slice none 0 0] 26 (0, 0))) := k1
  clear k0 k1
  have g0 : ¬ f = 0 := fun h => hf (.inl h)
  have g1 : ¬ f = 1 := fun h => hf (.inr h)
  have f0 : (f != 0) = true := by simpa using g0
  have f1 : (f != 1) = true := by simpa using g1
  clear g0 g1
  go_wp2
  exact bodyPost_ret (results_R2 Tryd.results13 _ _ (w.heap.size + 1) 26 _ _ _ _ _ (0, 0) rfl (five_all HK.out)) rfl ⟨rfl, five_below HB.out (by omega)⟩
set_option maxRecDepth 100000 in
set_option maxHeartbeats 1600000 in
theorem rsize_20_0 (s : Sv) (p : Pl) (n : Int) (w : World) (h : SvAt w s p) (hs : s.Small) (hr : Rgt s) (hh : n < -s.a) :
    Calls Tryd.prog 13 #[.agg (svv s p), .int .i64 0, .int .i64 n] w fun e w' => e = .returned (.tuple #[.agg #[.int .i64 0, .int .i64 0, .int .i64 0, .slice none 0 0, .slice none 0 0], .int .i64 20]) ∧ Below w.heap.size w w' := by
  have b1 := hr.1.1.2.1
  have b2 := hr.1.1.2.2
  have bt := tot_bd hr.1
  have en : wrap64 (-s.a) = -s.a := by simp [wrap64]; omega
  have en0 : wrap64 (0 - s.a) = -s.a := by simp [wrap64]; omega
  have et : wrap64 (1125899906842624 - tot s) = 1125899906842624 - tot s := by simp [wrap64]; omega
  obtain ⟨hn0, hn1, hsz, hb0⟩ := two_new w s p 26 26
  have hc := right_any s p _ (h.below hb0) hs
  rw [decide_eq_true hr] at hc
  clear h hs
  unfold svv sv0 pl0 at hn0 hn1 hsz hb0 hc
  unfold svv
  simp only at hn0 hn1 hsz hb0 hc
  go_enter Tryd.func13, Tryd.ntmps13
  go_wp2_with fail
  generalize ((w.alloc (.cells #[.int .i64 s.nu, .int .i64 s.a, .int .i64 s.b, .slice p.pa s.pn p.pc, .slice p.ha s.hn p.hc] 26)).alloc (.cells #[.int .i64 0, .int .i64 0, .int .i64 0, .slice none 0 0, .slice none 0 0] 26)) = W0 at *
  refine hc.mono ?_
  rintro e w1 ⟨rfl, hb1⟩
  have HB : Hid (Below w.heap.size w w1) := hb0.trans (hb1.mono (by omega))
  have k0 := hb1.block _ (show w.heap.size < W0.heap.size by omega)
  rw [hn0] at k0
  have k1 := hb1.block _ (show w.heap.size + 1 < W0.heap.size by omega)
  rw [hn1] at k1
  have hl1 : w.heap.size + 1 < w1.heap.size := by have := hb1.size; omega
  clear hc hb0 hb1 hn0 hn1 hsz
  obtain ⟨c0, c1, c2, c3, c4, cf⟩ := five_of k0
  obtain ⟨d0, d1, d2, d3, d4, df⟩ := five_of k1
  have HK : Hid (w1.heap[w.heap.size + 1]? = some (.cells #[.int .i64 0, .int .i64 0, .int .i64 0, .slice none 0 0, .slice none 0 0] 26 (0, 0))) := k1
  clear k0 k1
  clear bt et en
  go_wp2
  exact bodyPost_ret (results_R2 Tryd.results13 _ _ (w.heap.size + 1) 26 _ _ _ _ _ (0, 0) rfl (five_all HK.out)) rfl ⟨rfl, five_below HB.out (by omega)⟩
set_option maxRecDepth 100000 in
set_option maxHeartbeats 1600000 in
theorem rsize_5_0 (s : Sv) (p : Pl) (n : Int) (w : World) (h : SvAt w s p) (hs : s.Small) (hr : Rgt s) (hh : ¬ n < -s.a) (ho : 1125899906842624 - tot s < n) :
    Calls Tryd.prog 13 #[.agg (svv s p), .int .i64 0, .int .i64 n] w fun e w' => e = .returned (.tuple #[.agg #[.int .i64 0, .int .i64 0, .int .i64 0, .slice none 0 0, .slice none 0 0], .int .i64 5]) ∧ Below w.heap.size w w' := by
  have b1 := hr.1.1.2.1
  have b2 := hr.1.1.2.2
  have bt := tot_bd hr.1
  have en : wrap64 (-s.a) = -s.a := by simp [wrap64]; omega
  have en0 : wrap64 (0 - s.a) = -s.a := by simp [wrap64]; omega
  have et : wrap64 (1125899906842624 - tot s) = 1125899906842624 - tot s := by simp [wrap64]; omega
  have hrs : ∀ w1 : World, Below w.heap.size w w1 → Calls Tryd.prog 35 #[.agg (svv s p)] w1 fun e w' => e = .returned (.int .i64 (tot s)) ∧ Below w1.heap.size w1 w' := fun w1 hb => rsum_any s p w1 (h.below hb) hr.1.1 hr.1.2.1
  unfold svv at hrs
  obtain ⟨hn0, hn1, hsz, hb0⟩ := two_new w s p 26 26
  have hc := right_any s p _ (h.below hb0) hs
  rw [decide_eq_true hr] at hc
  clear h hs
  unfold svv sv0 pl0 at hn0 hn1 hsz hb0 hc
  unfold svv
  simp only at hn0 hn1 hsz hb0 hc
  go_enter Tryd.func13, Tryd.ntmps13
  go_wp2_with fail
  generalize ((w.alloc (.cells #[.int .i64 s.nu, .int .i64 s.a, .int .i64 s.b, .slice p.pa s.pn p.pc, .slice p.ha s.hn p.hc] 26)).alloc (.cells #[.int .i64 0, .int .i64 0, .int .i64 0, .slice none 0 0, .slice none 0 0] 26)) = W0 at *
  refine hc.mono ?_
  rintro e w1 ⟨rfl, hb1⟩
  have HB : Hid (Below w.heap.size w w1) := hb0.trans (hb1.mono (by omega))
  have k0 := hb1.block _ (show w.heap.size < W0.heap.size by omega)
  rw [hn0] at k0
  have k1 := hb1.block _ (show w.heap.size + 1 < W0.heap.size by omega)
  rw [hn1] at k1
  have hl1 : w.heap.size + 1 < w1.heap.size := by have := hb1.size; omega
  clear hc hb0 hb1 hn0 hn1 hsz
  obtain ⟨c0, c1, c2, c3, c4, cf⟩ := five_of k0
  obtain ⟨d0, d1, d2, d3, d4, df⟩ := five_of k1
  have HK : Hid (w1.heap[w.heap.size + 1]? = some (.cells #[.int .i64 0, .int .i64 0, .int .i64 0, .slice none 0 0, .slice none 0 0] 26 (0, 0))) := k1
  have HKI : Hid (w1.heap[w.heap.size]? = some (.cells #[.int .i64 s.nu, .int .i64 s.a, .int .i64 s.b, .slice p.pa s.pn p.pc, .slice p.ha s.hn p.hc] 26 (0, 0))) := k0
  clear k0 k1
  go_wp2_with fail
  refine (hrs w1 HB.out).mono ?_
  rintro e w3 ⟨rfl, hb3⟩
  have HB3 : Hid (Below w.heap.size w w3) := HB.out.trans (hb3.mono HB.out.size)
  have k3 := hb3.block _ (lt_of_block HKI.out)
  rw [HKI.out] at k3
  have r3 := hb3.block _ (lt_of_block HK.out)
  rw [HK.out] at r3
  have hl3 : w.heap.size + 1 < w3.heap.size := lt_of_block r3
  clear d0 d1 d2 d3 d4 df c0 c1 c2 c3 c4 cf HB HK HKI hrs hb3
  obtain ⟨c0, c1, c2, c3, c4, cf⟩ := five_of k3
  obtain ⟨d0, d1, d2, d3, d4, df⟩ := five_of r3
  have HB : Hid (Below w.heap.size w w3) := HB3.out
  have HK : Hid (w3.heap[w.heap.size + 1]? = some (.cells #[.int .i64 0, .int .i64 0, .int .i64 0, .slice none 0 0, .slice none 0 0] 26 (0, 0))) := r3
  clear r3 k3 bt HB3
  generalize tot s = tt at *
  go_wp2
  exact bodyPost_ret (results_R2 Tryd.results13 _ _ (w.heap.size + 1) 26 _ _ _ _ _ (0, 0) rfl (five_all HK.out)) rfl ⟨rfl, five_below HB.out (by omega)⟩
set_option maxRecDepth 100000 in
set_option maxHeartbeats 1600000 in
theorem rsize_ok_0 (s : Sv) (p : Pl) (n : Int) (w : World) (h : SvAt w s p) (hs : s.Small) (hr : Rgt s) (hh : ¬ n < -s.a) (ho : ¬ 1125899906842624 - tot s < n) :
    Calls Tryd.prog 13 #[.agg (svv s p), .int .i64 0, .int .i64 n] w fun e w' => e = .returned (.tuple #[.agg #[.int .i64 (s.nu + 1), .int .i64 (s.a + n), .int .i64 s.b, .slice p.pa s.pn p.pc, .slice p.ha s.hn p.hc], .int .i64 0]) ∧ Below w.heap.size w w' := by
  have b0 := hr.1.1.1
  have b1 := hr.1.1.2.1
  have b2 := hr.1.1.2.2
  have bt := tot_bd hr.1
  have en : wrap64 (-s.a) = -s.a := by simp [wrap64]; omega
  have en0 : wrap64 (0 - s.a) = -s.a := by simp [wrap64]; omega
  have et : wrap64 (1125899906842624 - tot s) = 1125899906842624 - tot s := by simp [wrap64]; omega
  have hrs : ∀ w1 : World, Below w.heap.size w w1 → Calls Tryd.prog 35 #[.agg (svv s p)] w1 fun e w' => e = .returned (.int .i64 (tot s)) ∧ Below w1.heap.size w1 w' := fun w1 hb => rsum_any s p w1 (h.below hb) hr.1.1 hr.1.2.1
  unfold svv at hrs
  have e1 : wrap64 (s.nu + 1) = s.nu + 1 := by simp [wrap64]; omega
  have e2 : wrap64 (s.a + n) = (s.a + n) := by simp [wrap64]; omega
  have e3 : wrap64 (s.b + 0) = (s.b + 0) := by simp [wrap64]; omega
  obtain ⟨hn0, hn1, hsz, hb0⟩ := two_new w s p 26 26
  have hc := right_any s p _ (h.below hb0) hs
  rw [decide_eq_true hr] at hc
  clear h hs
  unfold svv sv0 pl0 at hn0 hn1 hsz hb0 hc
  unfold svv
  simp only at hn0 hn1 hsz hb0 hc
  go_enter Tryd.func13, Tryd.ntmps13
  go_wp2_with fail
  generalize ((w.alloc (.cells #[.int .i64 s.nu, .int .i64 s.a, .int .i64 s.b, .slice p.pa s.pn p.pc, .slice p.ha s.hn p.hc] 26)).alloc (.cells #[.int .i64 0, .int .i64 0, .int .i64 0, .slice none 0 0, .slice none 0 0] 26)) = W0 at *
  refine hc.mono ?_
  rintro e w1 ⟨rfl, hb1⟩
  have HB : Hid (Below w.heap.size w w1) := hb0.trans (hb1.mono (by omega))
  have k0 := hb1.block _ (show w.heap.size < W0.heap.size by omega)
  rw [hn0] at k0
  have k1 := hb1.block _ (show w.heap.size + 1 < W0.heap.size by omega)
  rw [hn1] at k1
  have hl1 : w.heap.size + 1 < w1.heap.size := by have := hb1.size; omega
  clear hc hb0 hb1 hn0 hn1 hsz
  obtain ⟨c0, c1, c2, c3, c4, cf⟩ := five_of k0
  obtain ⟨d0, d1, d2, d3, d4, df⟩ := five_of k1
  have HK : Hid (w1.heap[w.heap.size + 1]? = some (.cells #[.int .i64 0, .int .i64 0, .int .i64 0, .slice none 0 0, .slice none 0 0] 26 (0, 0))) := k1
  have HKI : Hid (w1.heap[w.heap.size]? = some (.cells #[.int .i64 s.nu, .int .i64 s.a, .int .i64 s.b, .slice p.pa s.pn p.pc, .slice p.ha s.hn p.hc] 26 (0, 0))) := k0
  clear k0 k1
  go_wp2_with fail
  refine (hrs w1 HB.out).mono ?_
  rintro e w3 ⟨rfl, hb3⟩
  have HB3 : Hid (Below w.heap.size w w3) := HB.out.trans (hb3.mono HB.out.size)
  have k3 := hb3.block _ (lt_of_block HKI.out)
  rw [HKI.out] at k3
  have r3 := hb3.block _ (lt_of_block HK.out)
  rw [HK.out] at r3
  have hl3 : w.heap.size + 1 < w3.heap.size := lt_of_block r3
  clear d0 d1 d2 d3 d4 df c0 c1 c2 c3 c4 cf HB HK HKI hrs hb3
  obtain ⟨c0, c1, c2, c3, c4, cf⟩ := five_of k3
  obtain ⟨d0, d1, d2, d3, d4, df⟩ := five_of r3
  have HB : Hid (Below w.heap.size w w3) := HB3.out
  have HK : Hid (w3.heap[w.heap.size + 1]? = some (.cells #[.int .i64 0, .int .i64 0, .int .i64 0, .slice none 0 0, .slice none 0 0] 26 (0, 0))) := r3
  clear r3 k3 bt HB3
  generalize tot s = tt at *
  go_wp2_with fail
  refine (to_0 n w3).mono ?_
  rintro e wz ⟨rfl, hwz⟩
  rw [hwz]
  clear hwz
  go_wp2_with fail
  refine (rwith_any s p n 0 p.pa s.pn p.pc p.ha s.hn p.hc w3 e1 e2 e3).mono ?_
  rintro e w2 ⟨rfl, hb2⟩
  have HB2 : Hid (Below w.heap.size w w2) := HB.out.trans (hb2.mono HB.out.size)
  have k1 := hb2.block _ hl3
  rw [HK.out] at k1
  clear HB HK c0 c1 c2 c3 c4 cf d0 d1 d2 d3 d4 df hb2
  obtain ⟨d0, d1, d2, d3, d4, df⟩ := five_of k1
  have HK : Hid (w2.heap[w.heap.size + 1]? = some (.cells #[.int .i64 0, .int .i64 0, .int .i64 0, .slice none 0 0, .slice none 0 0] 26 (0, 0))) := k1
  clear k1
  go_wp2
  exact bodyPost_ret (results_R2 Tryd.results13 _ _ (w.heap.size + 1) 26 _ _ _ _ _ (0, 0) rfl (five_all HK.out)) rfl ⟨rfl, five_below HB2.out (by omega)⟩
set_option maxRecDepth 100000 in
set_option maxHeartbeats 1600000 in
theorem rsize_20_1 (s : Sv) (p : Pl) (n : Int) (w : World) (h : SvAt w s p) (hs : s.Small) (hr : Rgt s) (hh : n < -s.b) :
    Calls Tryd.prog 13 #[.agg (svv s p), .int .i64 1, .int .i64 n] w fun e w' => e = .returned (.tuple #[.agg #[.int .i64 0, .int .i64 0, .int .i64 0, .slice none 0 0, .slice none 0 0], .int .i64 20]) ∧ Below w.heap.size w w' := by
  have b1 := hr.1.1.2.1
  have b2 := hr.1.1.2.2
  have bt := tot_bd hr.1
  have en : wrap64 (-s.b) = -s.b := by simp [wrap64]; omega
  have en0 : wrap64 (0 - s.b) = -s.b := by simp [wrap64]; omega
  have et : wrap64 (1125899906842624 - tot s) = 1125899906842624 - tot s := by simp [wrap64]; omega
  obtain ⟨hn0, hn1, hsz, hb0⟩ := two_new w s p 26 26
  have hc := right_any s p _ (h.below hb0) hs
  rw [decide_eq_true hr] at hc
  clear h hs
  unfold svv sv0 pl0 at hn0 hn1 hsz hb0 hc
  unfold svv
  simp only at hn0 hn1 hsz hb0 hc
  go_enter Tryd.func13, Tryd.ntmps13
  go_wp2_with fail
  generalize ((w.alloc (.cells #[.int .i64 s.nu, .int .i64 s.a, .int .i64 s.b, .slice p.pa s.pn p.pc, .slice p.ha s.hn p.hc] 26)).alloc (.cells #[.int .i64 0, .int .i64 0, .int .i64 0, .slice none 0 0, .slice none 0 0] 26)) = W0 at *
  refine hc.mono ?_
  rintro e w1 ⟨rfl, hb1⟩
  have HB : Hid (Below w.heap.size w w1) := hb0.trans (hb1.mono (by omega))
  have k0 := hb1.block _ (show w.heap.size < W0.heap.size by omega)
  rw [hn0] at k0
  have k1 := hb1.block _ (show w.heap.size + 1 < W0.heap.size by omega)
  rw [hn1] at k1
  have hl1 : w.heap.size + 1 < w1.heap.size := by have := hb1.size; omega
  clear hc hb0 hb1 hn0 hn1 hsz
  obtain ⟨c0, c1, c2, c3, c4, cf⟩ := five_of k0
  obtain ⟨d0, d1, d2, d3, d4, df⟩ := five_of k1
  have HK : Hid (w1.heap[w.heap.size + 1]? = some (.cells #[.int .i64 0, .int .i64 0, .int .i64 0, .slice none 0 0, .slice none 0 0] 26 (0, 0))) := k1
  clear k0 k1
  clear bt et en
  go_wp2
  exact bodyPost_ret (results_R2 Tryd.results13 _ _ (w.heap.size + 1) 26 _ _ _ _ _ (0, 0) rfl (five_all HK.out)) rfl ⟨rfl, five_below HB.out (by omega)⟩
set_option maxRecDepth 100000 in
set_option maxHeartbeats 1600000 in
theorem rsize_5_1 (s : Sv) (p : Pl) (n : Int) (w : World) (h : SvAt w s p) (hs : s.Small) (hr : Rgt s) (hh : ¬ n < -s.b) (ho : 1125899906842624 - tot s < n) :
    Calls Tryd.prog 13 #[.agg (svv s p), .int .i64 1, .int .i64 n] w fun e w' => e = .returned (.tuple #[.agg #[.int .i64 0, .int .i64 0, .int .i64 0, .slice none 0 0, .slice none 0 0], .int .i64 5]) ∧ Below w.heap.size w w' := by
  have b1 := hr.1.1.2.1
  have b2 := hr.1.1.2.2
  have bt := tot_bd hr.1
  have en : wrap64 (-s.b) = -s.b := by simp [wrap64]; omega
  have en0 : wrap64 (0 - s.b) = -s.b := by simp [wrap64]; omega
  have et : wrap64 (1125899906842624 - tot s) = 1125899906842624 - tot s := by simp [wrap64]; omega
  have hrs : ∀ w1 : World, Below w.heap.size w w1 → Calls Tryd.prog 35 #[.agg (svv s p)] w1 fun e w' => e = .returned (.int .i64 (tot s)) ∧ Below w1.heap.size w1 w' := fun w1 hb => rsum_any s p w1 (h.below hb) hr.1.1 hr.1.2.1
  unfold svv at hrs
  obtain ⟨hn0, hn1, hsz, hb0⟩ := two_new w s p 26 26
  have hc := right_any s p _ (h.below hb0) hs
  rw [decide_eq_true hr] at hc
  clear h hs
  unfold svv sv0 pl0 at hn0 hn1 hsz hb0 hc
  unfold svv
  simp only at hn0 hn1 hsz hb0 hc
  go_enter Tryd.func13, Tryd.ntmps13
  go_wp2_with fail
  generalize ((w.alloc (.cells #[.int .i64 s.nu, .int .i64 s.a, .int .i64 s.b, .slice p.pa s.pn p.pc, .slice p.ha s.hn p.hc] 26)).alloc (.cells #[.int .i64 0, .int .i64 0, .int .i64 0, .slice none 0 0, .slice none 0 0] 26)) = W0 at *
  refine hc.mono ?_
  rintro e w1 ⟨rfl, hb1⟩
  have HB : Hid (Below w.heap.size w w1) := hb0.trans (hb1.mono (by omega))
  have k0 := hb1.block _ (show w.heap.size < W0.heap.size by omega)
  rw [hn0] at k0
  have k1 := hb1.block _ (show w.heap.size + 1 < W0.heap.size by omega)
  rw [hn1] at k1
  have hl1 : w.heap.size + 1 < w1.heap.size := by have := hb1.size; omega
  clear hc hb0 hb1 hn0 hn1 hsz
  obtain ⟨c0, c1, c2, c3, c4, cf⟩ := five_of k0
  obtain ⟨d0, d1, d2, d3, d4, df⟩ := five_of k1
  have HK : Hid (w1.heap[w.heap.size + 1]? = some (.cells #[.int .i64 0, .int .i64 0, .int .i64 0, .slice none 0 0, .slice none 0 0] 26 (0, 0))) := k1
  have HKI : Hid (w1.heap[w.heap.size]? = some (.cells #[.int .i64 s.nu, .int .i64 s.a, .int .i64 s.b, .slice p.pa s.pn p.pc, .slice p.ha s.hn p.hc] 26 (0, 0))) := k0
  clear k0 k1
  go_wp2_with fail
  refine (hrs w1 HB.out).mono ?_
  rintro e w3 ⟨rfl, hb3⟩
  have HB3 : Hid (Below w.heap.size w w3) := HB.out.trans (hb3.mono HB.out.size)
  have k3 := hb3.block _ (lt_of_block HKI.out)
  rw [HKI.out] at k3
  have r3 := hb3.block _ (lt_of_block HK.out)
  rw [HK.out] at r3
  have hl3 : w.heap.size + 1 < w3.heap.size := lt_of_block r3
  clear d0 d1 d2 d3 d4 df c0 c1 c2 c3 c4 cf HB HK HKI hrs hb3
  obtain ⟨c0, c1, c2, c3, c4, cf⟩ := five_of k3
  obtain ⟨d0, d1, d2, d3, d4, df⟩ := five_of r3
  have HB : Hid (Below w.heap.size w w3) := HB3.out
  have HK : Hid (w3.heap[w.heap.size + 1]? = some (.cells #[.int .i64 0, .int .i64 0, .int .i64 0, .slice none 0 0, .slice none 0 0] 26 (0, 0))) := r3
  clear r3 k3 bt HB3
  generalize tot s = tt at *
  go_wp2
  exact bodyPost_ret (results_R2 Tryd.results13 _ _ (w.heap.size + 1) 26 _ _ _ _ _ (0, 0) rfl (five_all HK.out)) rfl ⟨rfl, five_below HB.out (by omega)⟩
set_option maxRecDepth 100000 in
set_option maxHeartbeats 1600000 in
theorem rsize_ok_1 (s : Sv) (p : Pl) (n : Int) (w : World) (h : SvAt w s p) (hs : s.Small) (hr : Rgt s) (hh : ¬ n < -s.b) (ho : ¬ 1125899906842624 - tot s < n) :
    Calls Tryd.prog 13 #[.agg (svv s p), .int .i64 1, .int .i64 n] w fun e w' => e = .returned (.tuple #[.agg #[.int .i64 (s.nu + 1), .int .i64 s.a, .int .i64 (s.b + n), .slice p.pa s.pn p.pc, .slice p.ha s.hn p.hc], .int .i64 0]) ∧ Below w.heap.size w w' := by
  have b0 := hr.1.1.1
  have b1 := hr.1.1.2.1
  have b2 := hr.1.1.2.2
  have bt := tot_bd hr.1
  have en : wrap64 (-s.b) = -s.b := by simp [wrap64]; omega
  have en0 : wrap64 (0 - s.b) = -s.b := by simp [wrap64]; omega
  have et : wrap64 (1125899906842624 - tot s) = 1125899906842624 - tot s := by simp [wrap64]; omega
  have hrs : ∀ w1 : World, Below w.heap.size w w1 → Calls Tryd.prog 35 #[.agg (svv s p)] w1 fun e w' => e = .returned (.int .i64 (tot s)) ∧ Below w1.heap.size w1 w' := fun w1 hb => rsum_any s p w1 (h.below hb) hr.1.1 hr.1.2.1
  unfold svv at hrs
  have e1 : wrap64 (s.nu + 1) = s.nu + 1 := by simp [wrap64]; omega
  have e2 : wrap64 (s.a + 0) = (s.a + 0) := by simp [wrap64]; omega
  have e3 : wrap64 (s.b + n) = (s.b + n) := by simp [wrap64]; omega
  obtain ⟨hn0, hn1, hsz, hb0⟩ := two_new w s p 26 26
  have hc := right_any s p _ (h.below hb0) hs
  rw [decide_eq_true hr] at hc
  clear h hs
  unfold svv sv0 pl0 at hn0 hn1 hsz hb0 hc
  unfold svv
  simp only at hn0 hn1 hsz hb0 hc
  go_enter Tryd.func13, Tryd.ntmps13
  go_wp2_with fail
  generalize ((w.alloc (.cells #[.int .i64 s.nu, .int .i64 s.a, .int .i64 s.b, .slice p.pa s.pn p.pc, .slice p.ha s.hn p.hc] 26)).alloc (.cells #[.int .i64 0, .int .i64 0, .int .i64 0, .slice none 0 0, .slice none 0 0] 26)) = W0 at *
  refine hc.mono ?_
  rintro e w1 ⟨rfl, hb1⟩
  have HB : Hid (Below w.heap.size w w1) := hb0.trans (hb1.mono (by omega))
  have k0 := hb1.block _ (show w.heap.size < W0.heap.size by omega)
  rw [hn0] at k0
  have k1 := hb1.block _ (show w.heap.size + 1 < W0.heap.size by omega)
  rw [hn1] at k1
  have hl1 : w.heap.size + 1 < w1.heap.size := by have := hb1.size; omega
  clear hc hb0 hb1 hn0 hn1 hsz
  obtain ⟨c0, c1, c2, c3, c4, cf⟩ := five_of k0
  obtain ⟨d0, d1, d2, d3, d4, df⟩ := five_of k1
  have HK : Hid (w1.heap[w.heap.size + 1]? = some (.cells #[.int .i64 0, .int .i64 0, .int .i64 0, .slice none 0 0, .slice none 0 0] 26 (0, 0))) := k1
  have HKI : Hid (w1.heap[w.heap.size]? = some (.cells #[.int .i64 s.nu, .int .i64 s.a, .int .i64 s.b, .slice p.pa s.pn p.pc, .slice p.ha s.hn p.hc] 26 (0, 0))) := k0
  clear k0 k1
  go_wp2_with fail
  refine (hrs w1 HB.out).mono ?_
  rintro e w3 ⟨rfl, hb3⟩
  have HB3 : Hid (Below w.heap.size w w3) := HB.out.trans (hb3.mono HB.out.size)
  have k3 := hb3.block _ (lt_of_block HKI.out)
  rw [HKI.out] at k3
  have r3 := hb3.block _ (lt_of_block HK.out)
  rw [HK.out] at r3
  have hl3 : w.heap.size + 1 < w3.heap.size := lt_of_block r3
  clear d0 d1 d2 d3 d4 df c0 c1 c2 c3 c4 cf HB HK HKI hrs hb3
  obtain ⟨c0, c1, c2, c3, c4, cf⟩ := five_of k3
  obtain ⟨d0, d1, d2, d3, d4, df⟩ := five_of r3
  have HB : Hid (Below w.heap.size w w3) := HB3.out
  have HK : Hid (w3.heap[w.heap.size + 1]? = some (.cells #[.int .i64 0, .int .i64 0, .int .i64 0, .slice none 0 0, .slice none 0 0] 26 (0, 0))) := r3
  clear r3 k3 bt HB3
  generalize tot s = tt at *
  go_wp2_with fail
  refine (to_1 n w3).mono ?_
  rintro e wz ⟨rfl, hwz⟩
  rw [hwz]
  clear hwz
  go_wp2_with fail
  refine (rwith_any s p 0 n p.pa s.pn p.pc p.ha s.hn p.hc w3 e1 e2 e3).mono ?_
  rintro e w2 ⟨rfl, hb2⟩
  have HB2 : Hid (Below w.heap.size w w2) := HB.out.trans (hb2.mono HB.out.size)
  have k1 := hb2.block _ hl3
  rw [HK.out] at k1
  clear HB HK c0 c1 c2 c3 c4 cf d0 d1 d2 d3 d4 df hb2
  obtain ⟨d0, d1, d2, d3, d4, df⟩ := five_of k1
  have HK : Hid (w2.heap[w.heap.size + 1]? = some (.cells #[.int .i64 0, .int .i64 0, .int .i64 0, .slice none 0 0, .slice none 0 0] 26 (0, 0))) := k1
  clear k1
  go_wp2
  exact bodyPost_ret (results_R2 Tryd.results13 _ _ (w.heap.size + 1) 26 _ _ _ _ _ (0, 0) rfl (five_all HK.out)) rfl ⟨rfl, five_below HB2.out (by omega)⟩
theorem psize_any (s : Sv) (p : Pl) (f n : Int) (w : World) (h : SvAt w s p) (hs : s.Small) :
    Calls Tryd.prog 12 #[.agg (svv s p), .int .i64 f, .int .i64 n] w fun e w' => ∃ p', e = .returned (.tuple #[.agg (svv (sizeF s f n).1 p'), errV (sizeF s f n).2]) ∧ SvAt w' (sizeF s f n).1 p' ∧ Below w.heap.size w w' := by
  by_cases hr : Rgt s
  · by_cases hf : Side f
    · rcases hf with rfl | rfl
      · by_cases hh : n < -s.a
        · have e : sizeF s 0 n = (sv0, 20) := by simp [sizeF, hr, Side, has, hh]
          rw [e]
          exact (size_20_0 s p n w h hs hr hh).mono fun e w' ⟨h1, h2⟩ => ⟨pl0, h1, sv0_at _, h2⟩
        · by_cases ho : 1125899906842624 - tot s < n
          · have e : sizeF s 0 n = (sv0, 5) := by simp [sizeF, hr, Side, has, hh, ho]
            rw [e]
            exact (size_5_0 s p n w h hs hr hh ho).mono fun e w' ⟨h1, h2⟩ => ⟨pl0, h1, sv0_at _, h2⟩
          · have e : sizeF s 0 n = (giv s n 0, 0) := by simp [sizeF, hr, Side, has, hh, ho]
            rw [e]
            refine (size_ok_0 s p n w h hs hr hh ho).mono fun e w' ⟨⟨p', A, h1, h2⟩, h3⟩ => ⟨p', ?_, (h2.alike (s' := giv s n 0) rfl rfl rfl rfl).at, h3⟩
            rw [h1]; simp [svv, giv, nxt, errV]
      · by_cases hh : n < -s.b
        · have e : sizeF s 1 n = (sv0, 20) := by simp [sizeF, hr, Side, has, hh]
          rw [e]
          exact (size_20_1 s p n w h hs hr hh).mono fun e w' ⟨h1, h2⟩ => ⟨pl0, h1, sv0_at _, h2⟩
        · by_cases ho : 1125899906842624 - tot s < n
          · have e : sizeF s 1 n = (sv0, 5) := by simp [sizeF, hr, Side, has, hh, ho]
            rw [e]
            exact (size_5_1 s p n w h hs hr hh ho).mono fun e w' ⟨h1, h2⟩ => ⟨pl0, h1, sv0_at _, h2⟩
          · have e : sizeF s 1 n = (giv s 0 n, 0) := by simp [sizeF, hr, Side, has, hh, ho]
            rw [e]
            refine (size_ok_1 s p n w h hs hr hh ho).mono fun e w' ⟨⟨p', A, h1, h2⟩, h3⟩ => ⟨p', ?_, (h2.alike (s' := giv s 0 n) rfl rfl rfl rfl).at, h3⟩
            rw [h1]; simp [svv, giv, nxt, errV]
    · have e : sizeF s f n = (sv0, 33) := by simp [sizeF, hr, hf]
      rw [e]
      exact (size_33 s p f n w h hs hr hf).mono fun e w' ⟨h1, h2⟩ => ⟨pl0, h1, sv0_at _, h2⟩
  · have e : sizeF s f n = (sv0, 1) := by simp [sizeF, hr]
    rw [e]
    exact (size_1 s p f n w h hs hr).mono fun e w' ⟨h1, h2⟩ => ⟨pl0, h1, sv0_at _, h2⟩
theorem rsize_any (s : Sv) (p : Pl) (f n : Int) (w : World) (h : SvAt w s p) (hs : s.Small) :
    Calls Tryd.prog 13 #[.agg (svv s p), .int .i64 f, .int .i64 n] w fun e w' => ∃ p', e = .returned (.tuple #[.agg (svv (sizeF s f n).1 p'), .int .i64 (sizeF s f n).2]) ∧ SvAt w' (sizeF s f n).1 p' ∧ Below w.heap.size w w' := by
  by_cases hr : Rgt s
  · by_cases hf : Side f
    · rcases hf with rfl | rfl
      · by_cases hh : n < -s.a
        · have e : sizeF s 0 n = (sv0, 20) := by simp [sizeF, hr, Side, has, hh]
          rw [e]
          exact (rsize_20_0 s p n w h hs hr hh).mono fun e w' ⟨h1, h2⟩ => ⟨pl0, h1, sv0_at _, h2⟩
        · by_cases ho : 1125899906842624 - tot s < n
          · have e : sizeF s 0 n = (sv0, 5) := by simp [sizeF, hr, Side, has, hh, ho]
            rw [e]
            exact (rsize_5_0 s p n w h hs hr hh ho).mono fun e w' ⟨h1, h2⟩ => ⟨pl0, h1, sv0_at _, h2⟩
          · have e : sizeF s 0 n = (giv s n 0, 0) := by simp [sizeF, hr, Side, has, hh, ho]
            rw [e]
            refine (rsize_ok_0 s p n w h hs hr hh ho).mono fun e w' ⟨h1, h3⟩ => ⟨p, ?_, (h.below h3).alike (s' := giv s n 0) rfl rfl rfl rfl, h3⟩
            rw [h1]; simp [svv, giv, nxt]
      · by_cases hh : n < -s.b
        · have e : sizeF s 1 n = (sv0, 20) := by simp [sizeF, hr, Side, has, hh]
          rw [e]
          exact (rsize_20_1 s p n w h hs hr hh).mono fun e w' ⟨h1, h2⟩ => ⟨pl0, h1, sv0_at _, h2⟩
        · by_cases ho : 1125899906842624 - tot s < n
          · have e : sizeF s 1 n = (sv0, 5) := by simp [sizeF, hr, Side, has, hh, ho]
            rw [e]
            exact (rsize_5_1 s p n w h hs hr hh ho).mono fun e w' ⟨h1, h2⟩ => ⟨pl0, h1, sv0_at _, h2⟩
          · have e : sizeF s 1 n = (giv s 0 n, 0) := by simp [sizeF, hr, Side, has, hh, ho]
            rw [e]
            refine (rsize_ok_1 s p n w h hs hr hh ho).mono fun e w' ⟨h1, h3⟩ => ⟨p, ?_, (h.below h3).alike (s' := giv s 0 n) rfl rfl rfl rfl, h3⟩
            rw [h1]; simp [svv, giv, nxt]
    · have e : sizeF s f n = (sv0, 33) := by simp [sizeF, hr, hf]
      rw [e]
      exact (rsize_33 s p f n w h hs hr hf).mono fun e w' ⟨h1, h2⟩ => ⟨pl0, h1, sv0_at _, h2⟩
  · have e : sizeF s f n = (sv0, 1) := by simp [sizeF, hr]
    rw [e]
    exact (rsize_1 s p f n w h hs hr).mono fun e w' ⟨h1, h2⟩ => ⟨pl0, h1, sv0_at _, h2⟩
theorem sizeF_cases (s : Sv) (f n : Int) : ((sizeF s f n).1 = sv0 ∧ (sizeF s f n).2 ≠ 0) ∨ (Rgt s ∧ (sizeF s f n).2 = 0 ∧ ∃ x y, (sizeF s f n).1 = giv s x y ∧ x + y = n ∧ 0 ≤ s.a + x ∧ 0 ≤ s.b + y ∧ tot s + n ≤ 1125899906842624) := by
  by_cases hr : Rgt s
  · have hb := hr.1.1.2
    by_cases hf : Side f
    · by_cases hh : n < -(has s f)
      · exact .inl (by simp [sizeF, hr, hf, hh])
      · by_cases ho : 1125899906842624 - tot s < n
        · exact .inl (by simp [sizeF, hr, hf, hh, ho])
        · refine .inr ⟨hr, by simp [sizeF, hr, hf, hh, ho], ?_⟩
          have e : (sizeF s f n).1 = if f = 0 then giv s n 0 else giv s 0 n := by simp [sizeF, hr, hf, hh, ho]
          rw [e]
          unfold has at hh
          rcases hf with rfl | rfl
          · simp only [if_true] at hh ⊢
            exact ⟨n, 0, rfl, by omega, by omega, by omega, by omega⟩
          · simp only [show ¬ ((1 : Int) = 0) by omega, if_false] at hh ⊢
            exact ⟨0, n, rfl, by omega, by omega, by omega, by omega⟩
    · exact .inl (by simp [sizeF, hr, hf])
  · exact .inl (by simp [sizeF, hr])
theorem sizeF_small {s : Sv} (h : s.Small) (f n : Int) : (sizeF s f n).1.Small := by
  rcases sizeF_cases s f n with ⟨e, _⟩ | ⟨_, _, x, y, e, _⟩
  · rw [e]; exact sv0_small
  · rw [e]; exact giv_small h _ _
/-- What a state has behind it. -/
theorem giv_ok {s : Sv} (h : Rgt s) {x y : Int} (hx : 0 ≤ s.a + x) (hy : 0 ≤ s.b + y) (ht : tot s + (x + y) ≤ 1125899906842624) : SOk (giv s x y) ∧ tot (giv s x y) = tot s + (x + y) := by
  have e : tot (giv s x y) = tot s + (x + y) := by unfold tot giv nxt; dsimp only; omega
  have h2 := (sumP_bd s.P s.pn h.1.2.1.2.1).1
  have h3 := (sumH_bd s.H s.hn h.1.2.1.2.2).1
  have hu := (nxt_num h).1
  refine ⟨⟨⟨hu, ?_, ?_⟩, h.1.2.1, by rw [e]; omega⟩, e⟩
  · show 0 ≤ s.a + x ∧ s.a + x ≤ _
    unfold tot at ht
    omega
  · show 0 ≤ s.b + y ∧ s.b + y ≤ _
    unfold tot at ht
    omega
end Go.Proofs.YtchiapnhkhbigaaDoor
