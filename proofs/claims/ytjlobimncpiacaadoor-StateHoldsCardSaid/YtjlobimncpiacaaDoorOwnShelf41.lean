/- The document's right, with and Move. -/
import Derived.Test.YtjlobimncpiacaaDoorOwnShelf40
import Derived.Test.YtjlobimncpiacaaDoorOwnShelf28
namespace Go.Proofs.YtjlobimncpiacaaDoor
open Go.RowKit

theorem results_R2 {fn : Func} {p u : Tmp} (h : fn.results = #[.cell p 26, .tmp u]) (tmps : Array Value) (w : World) (g : Nat) (t : TypeId) (c0 c1 c2 c3 c4 : Value) (fr : Nat × Nat)
    (hp : tmps.getD p undef = .pointer (some ⟨g, 0, none⟩)) (hg : w.heap[g]? = some (.cells #[c0, c1, c2, c3, c4] t fr)) :
    (results fn tmps).run Tryd.prog w = .ok (.tuple #[.agg #[c0, c1, c2, c3, c4], tmps.getD u undef]) w := by
  have hp' : tmps[p]?.getD undef = .pointer (some ⟨g, 0, none⟩) := by simpa using hp
  simp [results, h, hp', asAddr, run_loadVar_row w g t 26 #[c0, c1, c2, c3, c4] fr _ hg Tryd.underlying26 rfl szSr]
set_option maxRecDepth 100000 in
set_option maxHeartbeats 1600000 in
theorem right_any (s : Sv) (p : Pl) (w : World) (h : SvAt w s p) (hs : s.Small) :
    Calls Tryd.prog 25 #[.agg (svv s p)] w fun e w' => e = .returned (.bool (decide (Rgt s))) ∧ Below w.heap.size w w' := by
  have hb0 : Below w.heap.size w (w.alloc (.cells (svv s p) 26)) := (Below.refl _ w).alloc (Nat.le_refl _) _
  have hr0 := heap_alloc_new w (.cells (svv s p) 26)
  have hc := rcheck_any s p _ (h.below hb0) hs
  clear h hs
  by_cases hk : SOk s
  · have e0 : chkE s = 0 := if_pos hk
    have HE : Hid (decide (Rgt s) = decide (s.nu < 1099511627776)) := decide_eq_decide.2 ⟨fun h => h.2, fun h => ⟨hk, h⟩⟩
    rw [e0] at hc
    rw [HE.out]
    clear hk e0
    unfold svv at hb0 hr0 hc ⊢
    go_enter Tryd.func25, Tryd.ntmps25
    go_wp2_with fail
    generalize w.alloc (.cells #[.int .i64 s.nu, .int .i64 s.a, .int .i64 s.b, .slice p.pa s.pn p.pc, .slice p.ha s.hn p.hc] 26) = W0 at *
    refine hc.mono ?_
    rintro e w1 ⟨rfl, hb1⟩
    have k0 := hb1.block _ (lt_of_block hr0)
    rw [hr0] at k0
    obtain ⟨c0, c1, c2, c3, c4, cf⟩ := five_of k0
    have HB : Hid (Below w.heap.size w w1) := hb0.trans (hb1.mono hb0.size)
    clear hc hb0 hb1 hr0 k0
    go_wp2
    go_ret
    exact ⟨rfl, HB.out⟩
  · have e0 : chkE s = 1 := if_neg hk
    have HE : Hid (decide (Rgt s) = false) := decide_eq_false (fun h => hk h.1)
    rw [e0] at hc
    rw [HE.out]
    clear hk e0
    unfold svv at hb0 hr0 hc ⊢
    go_enter Tryd.func25, Tryd.ntmps25
    go_wp2_with fail
    generalize w.alloc (.cells #[.int .i64 s.nu, .int .i64 s.a, .int .i64 s.b, .slice p.pa s.pn p.pc, .slice p.ha s.hn p.hc] 26) = W0 at *
    refine hc.mono ?_
    rintro e w1 ⟨rfl, hb1⟩
    have k0 := hb1.block _ (lt_of_block hr0)
    rw [hr0] at k0
    obtain ⟨c0, c1, c2, c3, c4, cf⟩ := five_of k0
    have HB : Hid (Below w.heap.size w w1) := hb0.trans (hb1.mono hb0.size)
    clear hc hb0 hb1 hr0 k0
    go_wp2
    go_ret
    exact ⟨rfl, HB.out⟩
set_option maxRecDepth 100000 in
set_option maxHeartbeats 1600000 in
theorem rwith_any (s : Sv) (p : Pl) (x y : Int) (pa : Option Addr) (pn pc : Nat) (ha : Option Addr) (hn hc : Nat) (w : World) (e1 : wrap64 (s.nu + 1) = s.nu + 1) (e2 : wrap64 (s.a + x) = s.a + x) (e3 : wrap64 (s.b + y) = s.b + y) :
    Calls Tryd.prog 29 #[.agg (#[.int .i64 s.nu, .int .i64 s.a, .int .i64 s.b, .slice p.pa s.pn p.pc, .slice p.ha s.hn p.hc]), .int .i64 x, .int .i64 y, .slice pa pn pc, .slice ha hn hc] w fun e w' => e = .returned (.agg #[.int .i64 (s.nu + 1), .int .i64 (s.a + x), .int .i64 (s.b + y), .slice pa pn pc, .slice ha hn hc]) ∧ Below w.heap.size w w' := by
  have hE := heap_alloc_new (w.alloc (.cells #[.int .i64 s.nu, .int .i64 s.a, .int .i64 s.b, .slice p.pa s.pn p.pc, .slice p.ha s.hn p.hc] 26)) (.cells #[.int .i64 (s.nu + 1), .int .i64 (s.a + x), .int .i64 (s.b + y), .slice pa pn pc, .slice ha hn hc] 26)
  have e0 : (w.alloc (.cells #[.int .i64 s.nu, .int .i64 s.a, .int .i64 s.b, .slice p.pa s.pn p.pc, .slice p.ha s.hn p.hc] 26)).heap.size = w.heap.size + 1 := by simp
  rw [e0] at hE
  have HE : Hid _ := hE
  clear hE e0
  go_enter Tryd.func29, Tryd.ntmps29
  go_wp2
  exact bodyPost_ret (results_cell_row Tryd.results29 _ _ (w.heap.size + 1) 26 _ (0, 0) _ rfl HE.out Tryd.underlying26 rfl szSr) rfl ⟨rfl, ((Below.refl _ w).alloc (Nat.le_refl _) _).alloc (by simp) _⟩
theorem SvAt.alike {w : World} {s s' : Sv} {p : Pl} (h : SvAt w s p) (h1 : s'.pn = s.pn) (h2 : s'.P = s.P) (h3 : s'.hn = s.hn) (h4 : s'.H = s.H) : SvAt w s' p := by
  obtain ⟨nu, a, b, pn, P, hn, H⟩ := s
  obtain ⟨nu', a', b', pn', P', hn', H'⟩ := s'
  simp only at h1 h2 h3 h4
  subst h1 h2 h3 h4
  exact ⟨h.py, h.hd, h.pcap, h.hcap, h.pnil, h.hnil⟩
theorem giv_small {s : Sv} (h : s.Small) (x y : Int) : (giv s x y).Small := ⟨h.n, h.k⟩
end Go.Proofs.YtjlobimncpiacaaDoor
