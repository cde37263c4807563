/- state.next of a state that can be changed. -/
import Derived.Test.YtoefgfiabfkfaaaGreatDoorOwnShelf19
namespace Go.Proofs.YtoefgfiabfkfaaaGreatDoor
open Go.RowKit
attribute [local go_sem ↓] Go.wp_at_zero Go.wp_at_succ

/-- On the way: the rows cloned, the keys of the first i holds too. -/
structure NxI (w wr : World) (s : Sv) (p : Pl) (A : Nat → Option Addr × Nat) (i : Nat) : Prop where
 box : wr.heap[w.heap.size]? = some (.cells #[.int .i64 (s.nu + 1), .int .i64 s.a, .int .i64 s.b, .slice p.pa s.pn p.pc, .slice p.ha s.hn p.hc] 37 (0, 0))
 res : wr.heap[w.heap.size + 1]? = some (.cells #[.int .i64 0, .int .i64 0, .int .i64 0, .slice none 0 0, .slice none 0 0] 37 (0, 0))
 py : wr.ownsRow (w.heap.size + 2) 43 36 (.slice p.pa s.pn p.pc) s.pn (flatL (pf s.P) s.pn)
 hd : wr.ownsRow (w.heap.size + 2) 58 3 (.slice p.ha s.hn p.hc) s.hn (flatL (hf s.H A) s.hn)
 ks : ∀ j, j < i → wr.ownsRow (w.heap.size + 2) 3 1 (.slice (A j).1 (s.H j).n (A j).2) (s.H j).n (kL (s.H j))
 old : ∀ j, i ≤ j → j < s.hn → IsAt w (A j).1 (s.H j).n (s.H j).z ∧ ((A j).1 = none → (s.H j).n = 0 ∧ (A j).2 = 0)
 below : Below w.heap.size w wr
theorem NxI.keep {w wr w' : World} {s : Sv} {p : Pl} {A : Nat → Option Addr × Nat} {i : Nat} (h : NxI w wr s p A i) (hb : Below wr.heap.size wr w') : NxI w w' s p A i :=
 ⟨by rw [hb.block _ (lt_of_block h.box)]; exact h.box, by rw [hb.block _ (lt_of_block h.res)]; exact h.res, own_below h.py hb, own_below h.hd hb, fun j hj => own_below (h.ks j hj) hb, h.old, h.below.trans (hb.mono h.below.size)⟩
theorem setCells_other (g k : Nat) (h : k ≠ g) : ∀ (vs : List Value) (off : Nat) (w : World), (w.setCells g off vs).heap[k]? = w.heap[k]?
 | [], _, _ => rfl
 | v :: r, off, w => by rw [World.setCells, setCells_other g k h r, Below.heap_setCell _ _ _ _ (by exact h)]
theorem setCells_below {B g : Nat} (hB : B ≤ g) : ∀ (vs : List Value) (off : Nat) (w w' : World), Below B w w' → Below B w (w'.setCells g off vs)
 | [], _, _, _, h => h
 | v :: r, off, w, w', h => by rw [World.setCells]; exact setCells_below hB r _ w _ (h.setCell hB _)
theorem own_other {w : World} {B T U k n g m l C : Nat} {v u : Value} {xs ys cs : List Value} {off : Nat} (h : w.ownsRow B T k v n xs) (h' : w.ownsRow C U m u l ys) (hT : T ≠ U) (hg : u.ownBlock = some g) : (w.setCells g off cs).ownsRow B T k v n xs :=
 own_keep h fun q e => setCells_other g q (fun e2 => own_apart h h' hT q e (by rw [hg, e2])) cs off w
/-- One hold more with keys of its own. -/
theorem NxI.next {w wr : World} {s : Sv} {p : Pl} {A : Nat → Option Addr × Nat} {i g : Nat} {ka : Option Addr} {kc : Nat} (h : NxI w wr s p A i) (hi : i < s.hn) (hg : p.ha = some ⟨g, 0, none⟩)
  (hk : wr.ownsRow (w.heap.size + 2) 3 1 (.slice ka (s.H i).n kc) (s.H i).n (kL (s.H i))) : NxI w (wr.setCells g (i * 3) (hdl (s.H i) ka kc)) s p (fun j => if j = i then (ka, kc) else A j) (i + 1) := by
 have hgb : (Value.slice p.ha s.hn p.hc).ownBlock = some g := by rw [hg]; rfl
 have hlt := h.hd.lt g hgb
 have hd' := h.hd
 rw [hg] at hd'
 refine ⟨?_, ?_, own_other h.py h.hd (by decide) hgb, ?_, fun j hj => ?_, fun j h1 h2 => ?_, ?_⟩
 ·rw [setCells_other g _ (by omega)]; exact h.box
 ·rw [setCells_other g _ (by omega)]; exact h.res
 ·have := own_set (cs := hdl (s.H i) ka kc) hd' (hf_len _ _ _) hi rfl
  rw [hg]
  rw [flatL_congr s.hn (g := fun j => if j = i then hdl (s.H i) ka kc else hf s.H A j) (fun j _ => by
   by_cases e : j = i
   ·subst e; simp [hf]
   ·simp [hf, e])]
  exact this
 ·by_cases e : j = i
  ·subst e
   simp only [if_true]
   exact own_other hk h.hd (by decide) hgb
  ·simp only [if_neg e]
   exact own_other (h.ks j (by omega)) h.hd (by decide) hgb
 ·simp only [if_neg (show ¬ j = i by omega)]
  exact h.old j (by omega) h2
 ·exact setCells_below (by omega) _ _ _ _ h.below

set_option maxRecDepth 100000 in
set_option maxHeartbeats 3200000 in
theorem next_ok (s : Sv) (p : Pl) (w : World) (h : SvAt w s p) (hs : s.Small) (hr : Rgt s) :
  Calls Tryz.prog 38 #[.agg (svv s p)] w fun e w' => (∃ p' A, e = .returned (.tuple #[.agg (svv (nxt s) p'), .nilIface]) ∧ SvOw w.heap.size w' (nxt s) p' A) ∧ Below w.heap.size w w' := by
 obtain ⟨hn0, hn1, hsz, hb0⟩ := two_new w s p 37 37
 have hc := check_any s p _ (h.below hb0) hs
 rw [chk_ok hr.1] at hc
 have hq : (s.nu == 1099511627776) = false := by have := hr.2; simp; omega
 have hw1 : wrap64 (s.nu + 1) = s.nu + 1 := by have := hr.1.1.1; have := hr.2; simp [wrap64]; omega
 have H : Hid (SvAt w s p) := h
 have HS : Hid s.Small := hs
 have hsn := hs.n
 clear hr h hs
 unfold svv sv0 pl0 at hn0 hn1 hsz hb0 hc
 unfold svv
 simp only at hn0 hn1 hsz hb0 hc
 go_enter Tryz.func38, Tryz.ntmps38
 go_wp2_with fail
 generalize ((w.alloc (.cells #[.int .i64 s.nu, .int .i64 s.a, .int .i64 s.b, .slice p.pa s.pn p.pc, .slice p.ha s.hn p.hc] 37)).alloc (.cells #[.int .i64 0, .int .i64 0, .int .i64 0, .slice none 0 0, .slice none 0 0] 37)) = W0 at *
 refine hc.mono ?_
 rintro e w1 ⟨rfl, hb1⟩
 have k0 := hb1.block _ (show w.heap.size < W0.heap.size by omega)
 have k1 := hb1.block _ (show w.heap.size + 1 < W0.heap.size by omega)
 rw [hn0] at k0
 rw [hn1] at k1
 have HB : Hid (Below w.heap.size w w1) := hb0.trans (hb1.mono (by omega))
 have hs1 : w.heap.size + 2 ≤ w1.heap.size := by have := hb1.size; omega
 obtain ⟨c0, c1, c2, c3, c4, cf⟩ := five_of k0
 have HK : Hid (w1.heap[w.heap.size]? = some (.cells #[.int .i64 s.nu, .int .i64 s.a, .int .i64 s.b, .slice p.pa s.pn p.pc, .slice p.ha s.hn p.hc] 37 (0, 0)) ∧ w1.heap[w.heap.size + 1]? = some (.cells #[.int .i64 0, .int .i64 0, .int .i64 0, .slice none 0 0, .slice none 0 0] 37 (0, 0))) := ⟨k0, k1⟩
 clear hc hb0 hb1 hn0 hn1 hsz k0 k1
 -- the number
 have hbA : Below w.heap.size w (w1.setCell ⟨w.heap.size, 0, none⟩ (.int .i64 (s.nu + 1))) := HB.out.setCell (Nat.le_refl _) _
 have hcP := cloneP_any p.pa s.pn p.pc (flatL (pf s.P) s.pn) (w1.setCell ⟨w.heap.size, 0, none⟩ (.int .i64 (s.nu + 1))) ((H.out.py.below hbA).src H.out.pnil) (flatL_length _ (pf_len _ _)) (pf_one _ _) (by omega)
 go_wp2_with fail
 refine hcP.mono ?_
 rintro e w2 ⟨v, rfl, hO, hb2⟩
 obtain ⟨pa', pc', rfl, _, _⟩ := own_frmV hO
 have hsA : (w1.setCell ⟨w.heap.size, 0, none⟩ (.int .i64 (s.nu + 1))).heap.size = w1.heap.size := by simp [World.setCell]
 have k0 : w2.heap[w.heap.size]? = some (.cells #[.int .i64 (s.nu + 1), .int .i64 s.a, .int .i64 s.b, .slice p.pa s.pn p.pc, .slice p.ha s.hn p.hc] 37 (0, 0)) := by
  rw [hb2.block _ (by omega)]; exact five_set0 HK.out.1
 have k1 : w2.heap[w.heap.size + 1]? = some (.cells #[.int .i64 0, .int .i64 0, .int .i64 0, .slice none 0 0, .slice none 0 0] 37 (0, 0)) := by
  rw [hb2.block _ (by omega), Below.heap_setCell _ _ _ _ (by show w.heap.size + 1 ≠ w.heap.size; omega)]; exact HK.out.2
 have HB2 : Hid (Below w.heap.size w w2) := hbA.trans (hb2.mono (by omega))
 have HO2 : Hid (w2.ownsRow (w.heap.size + 2) 43 36 (.slice pa' s.pn pc') s.pn (flatL (pf s.P) s.pn)) := own_low hO (by omega)
 have hs2 : w.heap.size + 2 ≤ w2.heap.size := by have := hb2.size; omega
 clear hcP hO hb2 hbA HB HK hsA hs1 c0 c1 c2 c3 c4 cf
 obtain ⟨c0, c1, c2, c3, c4, cf⟩ := five_of k0
 have HK : Hid (w2.heap[w.heap.size]? = some (.cells #[.int .i64 (s.nu + 1), .int .i64 s.a, .int .i64 s.b, .slice p.pa s.pn p.pc, .slice p.ha s.hn p.hc] 37 (0, 0)) ∧ w2.heap[w.heap.size + 1]? = some (.cells #[.int .i64 0, .int .i64 0, .int .i64 0, .slice none 0 0, .slice none 0 0] 37 (0, 0))) := ⟨k0, k1⟩
 clear k0 k1
 have hbA : Below w.heap.size w (w2.setCell ⟨w.heap.size, 3, none⟩ (.slice pa' s.pn pc')) := HB2.out.setCell (Nat.le_refl _) _
 obtain ⟨A0, hsrc, hkeys⟩ := H.out.hd.src (cap := p.hc) H.out.hnil
 have HKY : Hid (∀ i, i < s.hn → IsAt w (A0 i).1 (s.H i).n (s.H i).z ∧ ((A0 i).1 = none → (s.H i).n = 0 ∧ (A0 i).2 = 0)) := hkeys
 have hsrc' : Src (w2.setCell ⟨w.heap.size, 3, none⟩ (.slice pa' s.pn pc')) p.ha s.hn p.hc (flatL (hf s.H A0) s.hn) := by
  refine ⟨fun h0 => ?_, hsrc.2⟩
  obtain ⟨b, off, e, hr⟩ := hsrc.1 h0
  exact ⟨b, off, e, range_below hr hbA⟩
 have hcH := cloneH_any p.ha s.hn p.hc (flatL (hf s.H A0) s.hn) (w2.setCell ⟨w.heap.size, 3, none⟩ (.slice pa' s.pn pc')) hsrc' (flatL_length _ (hf_len _ _ _)) (hf_one _ _ _) (by omega)
 clear hsrc hsrc' hkeys
 go_wp2_with fail
 refine hcH.mono ?_
 rintro e w3 ⟨v, rfl, hO, hb3⟩
 obtain ⟨ha', hc', rfl, _, _⟩ := own_frmV hO
 have hsA : (w2.setCell ⟨w.heap.size, 3, none⟩ (.slice pa' s.pn pc')).heap.size = w2.heap.size := by simp [World.setCell]
 have k0 : w3.heap[w.heap.size]? = some (.cells #[.int .i64 (s.nu + 1), .int .i64 s.a, .int .i64 s.b, .slice pa' s.pn pc', .slice p.ha s.hn p.hc] 37 (0, 0)) := by
  rw [hb3.block _ (by omega)]; exact five_set3 HK.out.1
 have k1 : w3.heap[w.heap.size + 1]? = some (.cells #[.int .i64 0, .int .i64 0, .int .i64 0, .slice none 0 0, .slice none 0 0] 37 (0, 0)) := by
  rw [hb3.block _ (by omega), Below.heap_setCell _ _ _ _ (by show w.heap.size + 1 ≠ w.heap.size; omega)]; exact HK.out.2
 have hN : NxI w (w3.setCell ⟨w.heap.size, 4, none⟩ (.slice ha' s.hn hc')) s ⟨pa', pc', ha', hc'⟩ A0 0 := by
  have hO2 : w3.ownsRow (w.heap.size + 2) 43 36 (.slice pa' s.pn pc') s.pn (flatL (pf s.P) s.pn) := by
   refine own_below (own_keep HO2.out fun g e => ?_) hb3
   have := (HO2.out.lt g e).1
   exact Below.heap_setCell _ _ _ _ (by show g ≠ w.heap.size; omega)
  refine ⟨five_set4 k0, ?_, ?_, ?_, fun j hj => by omega, fun j _ hj => HKY.out j hj, ?_⟩
  ·rw [Below.heap_setCell _ _ _ _ (by show w.heap.size + 1 ≠ w.heap.size; omega)]; exact k1
  ·refine own_keep hO2 fun g e => ?_
   have := (hO2.lt g e).1
   exact Below.heap_setCell _ _ _ _ (by show g ≠ w.heap.size; omega)
  ·refine own_keep (own_low hO (by omega)) fun g e => ?_
   have := (hO.lt g e).1
   exact Below.heap_setCell _ _ _ _ (by show g ≠ w.heap.size; omega)
  ·exact (hbA.trans (hb3.mono (by omega))).setCell (Nat.le_refl _) _
 obtain ⟨d0, d1, d2, d3, d4, df⟩ := five_of k0
 clear hcH hO hb3 hbA HB2 HK hsA hs2 HO2 c0 c1 c2 c3 c4 cf k0 k1 HKY
 go_wp2_with fail
 clear d0 d1 d2 d3 d4 df
 have HKN : Hid (∀ i, i < s.hn → (s.H i).n ≤ 300) := HS.out.k
 go_loopw [4, 5, 31] (fun _ _ iv wr => ∃ (i : Nat) (A : Nat → Option Addr × Nat), i ≤ s.hn ∧ iv = .int .i64 i ∧ NxI w wr s ⟨pa', pc', ha', hc'⟩ A i) (fun _ _ iv _ => s.hn + 1 - (intOf iv).toNat)
 case atStart => exact ⟨0, A0, by omega, rfl, hN⟩
 case round =>
  clear hN
  obtain ⟨i, A, hi, rfl, hN⟩ := hrel
  have HN : Hid (NxI w wr s ⟨pa', pc', ha', hc'⟩ A i) := hN
  clear hN
  by_cases hlt : i < s.hn
  ·have hlt' : (i : Int) < s.hn := by omega
   obtain ⟨g, e, hg1, hg2, hrg⟩ := own_range HN.out.hd (by omega)
   simp only at e
   subst e
   obtain ⟨r0, r1, r2⟩ := hd_cells ((flatL_range _ (hf_len s.H A s.hn)).1 hrg i hlt)
   rw [Nat.zero_add] at r0 r1 r2
   have hkn := HKN.out i hlt
   obtain ⟨hI0, hI1⟩ := HN.out.old i (Nat.le_refl _) hlt
   have hb4 : Below wr.heap.size wr ((wr.alloc (.cells (hdv (s.H i) (A i).1 (A i).2) 58)).drew) := ((Below.refl _ wr).alloc (Nat.le_refl _) _).drew
   have hcl := hclone_any (s.H i) (A i).1 (A i).2 ((wr.alloc (.cells (hdv (s.H i) (A i).1 (A i).2) 58)).drew) ((hI0.below HN.out.below).below hb4) hI1 (by omega)
   have HN4 : Hid (NxI w ((wr.alloc (.cells (hdv (s.H i) (A i).1 (A i).2) 58)).drew) s ⟨pa', pc', some ⟨g, 0, none⟩, hc'⟩ A i) := HN.out.keep hb4
   have c4 := (five_of HN.out.box).c4
   have hwl := lt_of_block HN.out.box
   clear hI0 hI1 hrg hb4
   unfold hdv at hcl HN4
   go_wp2_with fail
   have S0 : ((wr.alloc (.cells #[.int .i64 (s.H i).id, .int .i64 (s.H i).am, .slice (A i).1 (s.H i).n (A i).2] 58)).drew).cell? ⟨w.heap.size, 4, none⟩ = some (.slice (some ⟨g, 0, none⟩) s.hn hc') ∧ ((wr.alloc (.cells #[.int .i64 (s.H i).id, .int .i64 (s.H i).am, .slice (A i).1 (s.H i).n (A i).2] 58)).drew).rangeAt wr.heap.size 0 (hdl (s.H i) (A i).1 (A i).2) := by
    refine ⟨(five_of HN4.out.box).c4, fun j v hv => ?_⟩
    have := cell_of_row _ _ (0 + j) _ _ _ (heap_alloc_new wr (.cells #[.int .i64 (s.H i).id, .int .i64 (s.H i).am, .slice (A i).1 (s.H i).n (A i).2] 58))
    rw [Nat.zero_add] at this ⊢
    show (wr.alloc _).cell? _ = _
    rw [this]
    simpa [hdl] using hv
   have hlN := hg2
   generalize hx : s.H i = x at *
   refine wp_region_noPanic ?_
   refine wp_region_held_drew (S := fun w' => w'.cell? ⟨w.heap.size, 4, none⟩ = some (.slice (some ⟨g, 0, none⟩) s.hn hc') ∧ w'.rangeAt wr.heap.size 0 (hdl x (A i).1 (A i).2)) (by kernel_rfl) S0 (fun hHeld => ?_)
   clear r0 r1 r2 c4
   refine wpV 0 ⟨some 36, .fieldAddr 37 (.tmp 1) 3, 0, _, _, none⟩ rfl ?_
   try simp only [Act.put, sqA, sqB, sqC]
   refine wpU 1 ⟨some 37, .load 35 (.tmp 36), 35, _, _, none⟩ (v := .slice (some ⟨g, 0, none⟩) s.hn hc') rfl ?_ ?_
   ·intro wz hSw; (try dsimp only at hSw); (have h1 := hSw.1; go_simp)
   try simp only [Act.put, sqA, sqB, sqC]
   refine wpV 2 ⟨some 38, .move (.tmp 4), 3, _, _, none⟩ rfl ?_
   try simp only [Act.put, sqA, sqB, sqC]
   refine wpAnyH_take (i := 3) (oi := ⟨some 39, .load 58 (.tmp 5), 58, _, _, none⟩) rfl (by kernel_rfl) (by kernel_rfl) (by kernel_rfl) (fun _ _ _ h => h) (yieldsIf_load_mid (by rfl) _ _ rfl wr.heap.size 0 rfl (hdl x (A i).1 (A i).2) _ (fun _ h => h.2) Tryz.underlying58 rfl szH) (by assumption) ?_
   try simp only [Act.put, sqA, sqB, sqC]
   refine wpAnyH_ready (rs := [4]) (by kernel_rfl) (by simp) ?_
   refine (AllReadyH.cons (o := ⟨some 40, .call ⟨.value (.func 61), #[.tmp 39], #[58]⟩, 58, _, _, none⟩) rfl (fun K hK => ?_) AllReadyH.nil)
   go_simp
   refine hcl.mono ?_
   rintro e w5 ⟨ka, kc, rfl, hO5, hb5⟩
   have hN5 := HN4.out.keep hb5
   have S5 : w5.cell? ⟨w.heap.size, 4, none⟩ = some (.slice (some ⟨g, 0, none⟩) s.hn hc') ∧ w5.rangeAt wr.heap.size 0 (hdl x (A i).1 (A i).2) := ⟨(five_of hN5.box).c4, range_below S0.2 hb5⟩
   have hl5 : wr.heap.size < w5.heap.size := World.block_lt_of_cell? w5 _ (S5.2 0 _ rfl)
   have hO5' : w5.ownsRow (w.heap.size + 2) 3 1 (.slice ka x.n kc) x.n (kL x) := own_low hO5 (by simp; omega)
   have HN5 : Hid (NxI w (w5.setCells g (i * 3) (hdl x ka kc)) s ⟨pa', pc', some ⟨g, 0, none⟩, hc'⟩ (fun j => if j = i then (ka, kc) else A j) (i + 1)) := by
    have := hN5.next (ka := ka) (kc := kc) (g := g) hlt rfl (by rw [hx]; exact hO5')
    rw [hx] at this
    exact this
   obtain ⟨g', e', _, _, hrg⟩ := own_range hN5.hd (by omega)
   obtain rfl : g = g' := by simpa using e'
   obtain ⟨r0, r1, r2⟩ := hd_cells ((flatL_range _ (hf_len s.H A s.hn)).1 hrg i hlt)
   rw [Nat.zero_add] at r0 r1 r2
   have fr : ∀ o, w5.frozen? ⟨g, o, none⟩ = false := fun o => by
    rcases hN5.hd.2 with ⟨e, _⟩ | ⟨g2, cap2, cur2, e, _, hg2, _⟩
    ·cases e
    ·cases e; exact frozen_of_row _ _ o _ _ hg2
   have S6 : (w5.setCells g (i * 3) (hdl x ka kc)).cell? ⟨w.heap.size, 4, none⟩ = some (.slice (some ⟨g, 0, none⟩) s.hn hc') ∧ (w5.setCells g (i * 3) (hdl x ka kc)).rangeAt wr.heap.size 0 (hdl x (A i).1 (A i).2) := by
    refine ⟨(five_of HN5.out.box).c4, fun j v hv => ?_⟩
    rw [World.cell?_of_block (a := ⟨wr.heap.size, 0 + j, none⟩) (setCells_other g _ (by show wr.heap.size ≠ g; omega) _ _ _)]
    exact S5.2 j v hv
   clear hN5 hO5 hO5' hb5 hcl HN4 hrg e' S0
   refine hK.out _ _ S5 (fun _ => ?_)
   clear hK K
   refine wpV 5 ⟨some 41, .indexAddr 35 (.tmp 37) (.tmp 38), 0, _, _, none⟩ rfl ?_
   try simp only [Act.put, sqA, sqB, sqC]
   refine wpAnyH_ready (rs := [6]) (by kernel_rfl) (by simp) ?_
   refine (AllReadyH.cons (o := ⟨none, .store 58 (.tmp 41) (.tmp 40), 0, _, _, none⟩) rfl (fun K hK => ?_) AllReadyH.nil)
   go_simp
   refine hK.out _ _ S6 (fun _ => ?_)
   clear hK K
   refine wpAnyH_done (by kernel_rfl) (NoPanic.normal ?_) _
   try simp only [Act.put, sqA, sqB, sqC]
   clear hHeld S5 S6 r0 r1 r2 fr HN
   go_wp2
   go_roundw
   case rel => exact ⟨i + 1, _, by omega, by go_num, HN5.out⟩
   case measure => simp [intOf]; omega
  ·obtain rfl : i = s.hn := by omega
   have hnn : ¬ ((s.hn : Int) < s.hn) := by omega
   obtain ⟨c0, c1, c2, c3, c4, cf⟩ := five_of HN.out.box
   obtain ⟨d0, d1, d2, d3, d4, df⟩ := five_of HN.out.res
   have hO : SvOw w.heap.size (((((wr.setCell ⟨w.heap.size + 1, 0, none⟩ (.int .i64 (s.nu + 1))).setCell ⟨w.heap.size + 1, 1, none⟩ (.int .i64 s.a)).setCell ⟨w.heap.size + 1, 2, none⟩ (.int .i64 s.b)).setCell ⟨w.heap.size + 1, 3, none⟩ (.slice pa' s.pn pc')).setCell ⟨w.heap.size + 1, 4, none⟩ (.slice ha' s.hn hc')) (nxt s) ⟨pa', pc', ha', hc'⟩ A := by
    refine ⟨H.out.py.lk, ?_, ?_, fun j hj => ?_⟩
    ·refine own_low (own_keep HN.out.py fun q e => ?_) (by omega)
     have := (HN.out.py.lt q e).1
     exact five_other (by omega)
    ·refine own_low (own_keep HN.out.hd fun q e => ?_) (by omega)
     have := (HN.out.hd.lt q e).1
     exact five_other (by omega)
    ·refine own_low (own_keep (HN.out.ks j hj) fun q e => ?_) (by omega)
     have := ((HN.out.ks j hj).lt q e).1
     exact five_other (by omega)
   have HE : Hid (SvOw w.heap.size (((((wr.setCell ⟨w.heap.size + 1, 0, none⟩ (.int .i64 (s.nu + 1))).setCell ⟨w.heap.size + 1, 1, none⟩ (.int .i64 s.a)).setCell ⟨w.heap.size + 1, 2, none⟩ (.int .i64 s.b)).setCell ⟨w.heap.size + 1, 3, none⟩ (.slice pa' s.pn pc')).setCell ⟨w.heap.size + 1, 4, none⟩ (.slice ha' s.hn hc')) (nxt s) ⟨pa', pc', ha', hc'⟩ A) := hO
   clear hO
   go_wp2
   exact bodyPost_ret (results_S2 Tryz.results38 _ _ (w.heap.size + 1) 37 _ _ _ _ _ (0, 0) rfl (five_all HN.out.res)) rfl ⟨⟨⟨pa', pc', ha', hc'⟩, rfl, A, HE.out⟩, five_below HN.out.below (by omega)⟩
end Go.Proofs.YtoefgfiabfkfaaaGreatDoor
/- state.Move. -/
namespace Go.Proofs.YtoefgfiabfkfaaaGreatDoor
open Go.RowKit

theorem five_alloc {w1 : World} {b : Nat} {x0 x1 x2 x3 x4 u0 u1 u2 u3 u4 : Value} {t : TypeId} (o : Obj) (h : w1.heap[b]? = some (.cells #[x0, x1, x2, x3, x4] t (0, 0))) :
  ((((((w1.setCell ⟨b, 0, none⟩ u0).setCell ⟨b, 1, none⟩ u1).setCell ⟨b, 2, none⟩ u2).setCell ⟨b, 3, none⟩ u3).setCell ⟨b, 4, none⟩ u4).alloc o).heap[b]? = some (.cells #[u0, u1, u2, u3, u4] t (0, 0)) := by
 rw [Below.heap_alloc _ _ _ (by simpa [World.setCell] using lt_of_block h)]
 exact five_all h
theorem five_ab {B b : Nat} {w w1 : World} {u0 u1 u2 u3 u4 : Value} (o : Obj) (h : Below B w w1) (hB : B ≤ b) (hs : B ≤ w1.heap.size) :
  Below B w ((((((w1.setCell ⟨b, 0, none⟩ u0).setCell ⟨b, 1, none⟩ u1).setCell ⟨b, 2, none⟩ u2).setCell ⟨b, 3, none⟩ u3).setCell ⟨b, 4, none⟩ u4).alloc o) :=
 (five_below h hB).alloc (by simpa [World.setCell] using hs) _
theorem five_ao {k b : Nat} {w : World} {u0 u1 u2 u3 u4 : Value} (o : Obj) (h : k ≠ b) (hk : k < w.heap.size) : ((((((w.setCell ⟨b, 0, none⟩ u0).setCell ⟨b, 1, none⟩ u1).setCell ⟨b, 2, none⟩ u2).setCell ⟨b, 3, none⟩ u3).setCell ⟨b, 4, none⟩ u4).alloc o).heap[k]? = w.heap[k]? := by
 rw [Below.heap_alloc _ _ _ (by simpa [World.setCell] using hk)]
 exact five_other h
def Side (n : Int) : Prop := n = 0 ∨ n = 1
instance (n : Int) : Decidable (Side n) := inferInstanceAs (Decidable (_ ∨ _))
/-- What a side has. -/
def has (s : Sv) (side : Int) : Int := if side = 0 then s.a else s.b
/-- A state with the next number in which the sides have so much more. -/
def giv (s : Sv) (x y : Int) : Sv := { nxt s with a := s.a + x, b := s.b + y }
/-- Move, as a function. -/
def moveF (s : Sv) (f n : Int) : Sv × Int :=
 if ¬ Rgt s then (sv0, 1) else if ¬ Side f then (sv0, 33) else if n < 1 then (sv0, 27) else if has s f < n then (sv0, 20)
 else (if f = 0 then giv s (-n) n else giv s n (-n), 0)
theorem SvOw.alike {w : World} {B : Nat} {s s' : Sv} {p : Pl} {A : Nat → Option Addr × Nat} (h : SvOw B w s p A) (h1 : s'.pn = s.pn) (h2 : s'.P = s.P) (h3 : s'.hn = s.hn) (h4 : s'.H = s.H) : SvOw B w s' p A := by
 obtain ⟨nu, a, b, pn, P, hn, H⟩ := s
 obtain ⟨nu', a', b', pn', P', hn', H'⟩ := s'
 simp only at h1 h2 h3 h4
 subst h1 h2 h3 h4
 exact ⟨h.lk, h.py, h.hd, h.ks⟩
/-- Behind a block of one's own that is written: the rows stay. -/
theorem SvOw.frm {w w' : World} {B : Nat} {s : Sv} {p : Pl} {A : Nat → Option Addr × Nat} (h : SvOw B w s p A) (hk : ∀ k, k < w.heap.size → B ≤ k → w'.heap[k]? = w.heap[k]?) : SvOw B w' s p A :=
 ⟨h.lk, own_keep h.py (fun g e => hk g (h.py.lt g e).2 (h.py.lt g e).1), own_keep h.hd (fun g e => hk g (h.hd.lt g e).2 (h.hd.lt g e).1), fun i hi => own_keep (h.ks i hi) (fun g e => hk g ((h.ks i hi).lt g e).2 ((h.ks i hi).lt g e).1)⟩
set_option maxRecDepth 100000 in
set_option maxHeartbeats 1600000 in
theorem move_1 (s : Sv) (p : Pl) (f n : Int) (w : World) (h : SvAt w s p) (hs : s.Small) (hr : ¬ Rgt s) :
  Calls Tryz.prog 16 #[.agg (svv s p), .int .i64 f, .int .i64 n] w fun e w' => e = .returned (.tuple #[.agg #[.int .i64 0, .int .i64 0, .int .i64 0, .slice none 0 0, .slice none 0 0], errV 1]) ∧ Below w.heap.size w w' := by
 obtain ⟨hn0, hn1, hsz, hb0⟩ := two_new w s p 37 37
 have hc := next_bad s p _ (h.below hb0) hs hr
 clear h hs
 unfold svv sv0 pl0 at hn0 hn1 hsz hb0 hc
 unfold svv
 simp only at hn0 hn1 hsz hb0 hc
 go_enter Tryz.func16, Tryz.ntmps16
 go_wp2_with fail
 generalize ((w.alloc (.cells #[.int .i64 s.nu, .int .i64 s.a, .int .i64 s.b, .slice p.pa s.pn p.pc, .slice p.ha s.hn p.hc] 37)).alloc (.cells #[.int .i64 0, .int .i64 0, .int .i64 0, .slice none 0 0, .slice none 0 0] 37)) = W0 at *
 refine hc.mono ?_
 rintro e w1 ⟨rfl, hb1⟩
 have HB : Hid (Below w.heap.size w w1) := hb0.trans (hb1.mono (by omega))
 have k1 := hb1.block _ (show w.heap.size + 1 < W0.heap.size by omega)
 rw [hn1] at k1
 have hl1 : w.heap.size + 1 < w1.heap.size := by have := hb1.size; omega
 clear hc hb0 hb1 hn0 hn1 hsz
 obtain ⟨d0, d1, d2, d3, d4, df⟩ := five_of k1
 have HK : Hid (w1.heap[w.heap.size + 1]? = some (.cells #[.int .i64 0, .int .i64 0, .int .i64 0, .slice none 0 0, .slice none 0 0] 37 (0, 0))) := k1
 clear k1
 have e1 : errV 1 = .iface 72 (.int .i64 1) := rfl
 rw [e1]
 go_wp2
 exact bodyPost_ret (results_S2 Tryz.results16 _ _ (w.heap.size + 1) 37 _ _ _ _ _ (0, 0) rfl (five_alloc _ HK.out)) rfl ⟨rfl, five_ab _ HB.out (by omega) HB.out.size⟩
set_option maxRecDepth 100000 in
set_option maxHeartbeats 1600000 in
theorem move_33 (s : Sv) (p : Pl) (f n : Int) (w : World) (h : SvAt w s p) (hs : s.Small) (hr : Rgt s) (hf : ¬ Side f) :
  Calls Tryz.prog 16 #[.agg (svv s p), .int .i64 f, .int .i64 n] w fun e w' => e = .returned (.tuple #[.agg #[.int .i64 0, .int .i64 0, .int .i64 0, .slice none 0 0, .slice none 0 0], errV 33]) ∧ Below w.heap.size w w' := by
 obtain ⟨hn0, hn1, hsz, hb0⟩ := two_new w s p 37 37
 have hc := next_ok s p _ (h.below hb0) hs hr
 have hsd := isSide_any f
 rw [decide_eq_false (show ¬ (f = 0 ∨ f = 1) from hf)] at hsd
 clear h hs
 unfold svv sv0 pl0 at hn0 hn1 hsz hb0 hc
 unfold svv
 simp only at hn0 hn1 hsz hb0 hc
 go_enter Tryz.func16, Tryz.ntmps16
 go_wp2_with fail
 generalize ((w.alloc (.cells #[.int .i64 s.nu, .int .i64 s.a, .int .i64 s.b, .slice p.pa s.pn p.pc, .slice p.ha s.hn p.hc] 37)).alloc (.cells #[.int .i64 0, .int .i64 0, .int .i64 0, .slice none 0 0, .slice none 0 0] 37)) = W0 at *
 refine hc.mono ?_
 rintro e w1 ⟨⟨p', A, rfl, hO⟩, hb1⟩
 have HB : Hid (Below w.heap.size w w1) := hb0.trans (hb1.mono (by omega))
 have k1 := hb1.block _ (show w.heap.size + 1 < W0.heap.size by omega)
 rw [hn1] at k1
 have hl1 : w.heap.size + 1 < w1.heap.size := by have := hb1.size; omega
 have HO : Hid (SvOw (w.heap.size + 2) w1 (nxt s) p' A) := hO.low (by omega)
 clear hc hb0 hb1 hn0 hn1 hO hsz
 unfold nxt at HO ⊢
 dsimp only
 obtain ⟨d0, d1, d2, d3, d4, df⟩ := five_of k1
 have HK : Hid (w1.heap[w.heap.size + 1]? = some (.cells #[.int .i64 0, .int .i64 0, .int .i64 0, .slice none 0 0, .slice none 0 0] 37 (0, 0))) := k1
 clear k1
 go_wp2_with fail
 refine (hsd _).mono ?_
 rintro e w2 ⟨rfl, rfl⟩
 clear hsd
 go_wp2
 exact bodyPost_ret (results_S2 Tryz.results16 _ _ (w.heap.size + 1) 37 _ _ _ _ _ (0, 0) rfl (five_alloc _ HK.out)) rfl ⟨rfl, five_ab _ HB.out (by omega) HB.out.size⟩
set_option maxRecDepth 100000 in
set_option maxHeartbeats 1600000 in
theorem move_27 (s : Sv) (p : Pl) (f n : Int) (w : World) (h : SvAt w s p) (hs : s.Small) (hr : Rgt s) (hf : Side f) (hn : n < 1) :
  Calls Tryz.prog 16 #[.agg (svv s p), .int .i64 f, .int .i64 n] w fun e w' => e = .returned (.tuple #[.agg #[.int .i64 0, .int .i64 0, .int .i64 0, .slice none 0 0, .slice none 0 0], errV 27]) ∧ Below w.heap.size w w' := by
 obtain ⟨hn0, hn1, hsz, hb0⟩ := two_new w s p 37 37
 have hc := next_ok s p _ (h.below hb0) hs hr
 have hsd := isSide_any f
 rw [decide_eq_true (show (f = 0 ∨ f = 1) from hf)] at hsd
 clear h hs
 unfold svv sv0 pl0 at hn0 hn1 hsz hb0 hc
 unfold svv
 simp only at hn0 hn1 hsz hb0 hc
 go_enter Tryz.func16, Tryz.ntmps16
 go_wp2_with fail
 generalize ((w.alloc (.cells #[.int .i64 s.nu, .int .i64 s.a, .int .i64 s.b, .slice p.pa s.pn p.pc, .slice p.ha s.hn p.hc] 37)).alloc (.cells #[.int .i64 0, .int .i64 0, .int .i64 0, .slice none 0 0, .slice none 0 0] 37)) = W0 at *
 refine hc.mono ?_
 rintro e w1 ⟨⟨p', A, rfl, hO⟩, hb1⟩
 have HB : Hid (Below w.heap.size w w1) := hb0.trans (hb1.mono (by omega))
 have k1 := hb1.block _ (show w.heap.size + 1 < W0.heap.size by omega)
 rw [hn1] at k1
 have hl1 : w.heap.size + 1 < w1.heap.size := by have := hb1.size; omega
 have HO : Hid (SvOw (w.heap.size + 2) w1 (nxt s) p' A) := hO.low (by omega)
 clear hc hb0 hb1 hn0 hn1 hO hsz
 unfold nxt at HO ⊢
 dsimp only
 obtain ⟨d0, d1, d2, d3, d4, df⟩ := five_of k1
 have HK : Hid (w1.heap[w.heap.size + 1]? = some (.cells #[.int .i64 0, .int .i64 0, .int .i64 0, .slice none 0 0, .slice none 0 0] 37 (0, 0))) := k1
 clear k1
 go_wp2_with fail
 refine (hsd _).mono ?_
 rintro e w2 ⟨rfl, rfl⟩
 clear hsd
 go_wp2
 exact bodyPost_ret (results_S2 Tryz.results16 _ _ (w.heap.size + 1) 37 _ _ _ _ _ (0, 0) rfl (five_alloc _ HK.out)) rfl ⟨rfl, five_ab _ HB.out (by omega) HB.out.size⟩
set_option maxRecDepth 100000 in
set_option maxHeartbeats 1600000 in
theorem move_20_0 (s : Sv) (p : Pl) (n : Int) (w : World) (h : SvAt w s p) (hs : s.Small) (hr : Rgt s) (hn : ¬ n < 1) (hh : s.a < n) :
  Calls Tryz.prog 16 #[.agg (svv s p), .int .i64 0, .int .i64 n] w fun e w' => e = .returned (.tuple #[.agg #[.int .i64 0, .int .i64 0, .int .i64 0, .slice none 0 0, .slice none 0 0], errV 20]) ∧ Below w.heap.size w w' := by
 obtain ⟨hn0, hn1, hsz, hb0⟩ := two_new w s p 37 37
 have hc := next_ok s p _ (h.below hb0) hs hr
 have hsd := isSide_any 0
 rw [decide_eq_true (by decide)] at hsd
 clear h hs
 unfold svv sv0 pl0 at hn0 hn1 hsz hb0 hc
 unfold svv
 simp only at hn0 hn1 hsz hb0 hc
 go_enter Tryz.func16, Tryz.ntmps16
 go_wp2_with fail
 generalize ((w.alloc (.cells #[.int .i64 s.nu, .int .i64 s.a, .int .i64 s.b, .slice p.pa s.pn p.pc, .slice p.ha s.hn p.hc] 37)).alloc (.cells #[.int .i64 0, .int .i64 0, .int .i64 0, .slice none 0 0, .slice none 0 0] 37)) = W0 at *
 refine hc.mono ?_
 rintro e w1 ⟨⟨p', A, rfl, hO⟩, hb1⟩
 have HB : Hid (Below w.heap.size w w1) := hb0.trans (hb1.mono (by omega))
 have k1 := hb1.block _ (show w.heap.size + 1 < W0.heap.size by omega)
 rw [hn1] at k1
 have hl1 : w.heap.size + 1 < w1.heap.size := by have := hb1.size; omega
 have HO : Hid (SvOw (w.heap.size + 2) w1 (nxt s) p' A) := hO.low (by omega)
 clear hc hb0 hb1 hn0 hn1 hO hsz
 unfold nxt at HO ⊢
 dsimp only
 obtain ⟨d0, d1, d2, d3, d4, df⟩ := five_of k1
 have HK : Hid (w1.heap[w.heap.size + 1]? = some (.cells #[.int .i64 0, .int .i64 0, .int .i64 0, .slice none 0 0, .slice none 0 0] 37 (0, 0))) := k1
 clear k1
 go_wp2_with fail
 refine (hsd _).mono ?_
 rintro e w2 ⟨rfl, rfl⟩
 clear hsd
 go_wp2
 exact bodyPost_ret (results_S2 Tryz.results16 _ _ (w.heap.size + 1) 37 _ _ _ _ _ (0, 0) rfl (five_alloc _ HK.out)) rfl ⟨rfl, five_ab _ HB.out (by omega) HB.out.size⟩
set_option maxRecDepth 100000 in
set_option maxHeartbeats 1600000 in
theorem move_ok_0 (s : Sv) (p : Pl) (n : Int) (w : World) (h : SvAt w s p) (hs : s.Small) (hr : Rgt s) (hn : ¬ n < 1) (hh : ¬ s.a < n) :
  Calls Tryz.prog 16 #[.agg (svv s p), .int .i64 0, .int .i64 n] w fun e w' => (∃ p' A, e = .returned (.tuple #[.agg #[.int .i64 (s.nu + 1), .int .i64 (s.a - n), .int .i64 (s.b + n), .slice p'.pa s.pn p'.pc, .slice p'.ha s.hn p'.hc], .nilIface]) ∧ SvOw w.heap.size w' (nxt s) p' A) ∧ Below w.heap.size w w' := by
 have b1 := hr.1.1.2.1
 have b2 := hr.1.1.2.2
 have x1 : wrap64 (s.a - n) = s.a - n := by simp [wrap64]; omega
 have x2 : wrap64 (s.b + n) = s.b + n := by simp [wrap64]; omega
 obtain ⟨hn0, hn1, hsz, hb0⟩ := two_new w s p 37 37
 have hc := next_ok s p _ (h.below hb0) hs hr
 have hsd := isSide_any 0
 rw [decide_eq_true (by decide)] at hsd
 clear h hs
 unfold svv sv0 pl0 at hn0 hn1 hsz hb0 hc
 unfold svv
 simp only at hn0 hn1 hsz hb0 hc
 go_enter Tryz.func16, Tryz.ntmps16
 go_wp2_with fail
 generalize ((w.alloc (.cells #[.int .i64 s.nu, .int .i64 s.a, .int .i64 s.b, .slice p.pa s.pn p.pc, .slice p.ha s.hn p.hc] 37)).alloc (.cells #[.int .i64 0, .int .i64 0, .int .i64 0, .slice none 0 0, .slice none 0 0] 37)) = W0 at *
 refine hc.mono ?_
 rintro e w1 ⟨⟨p', A, rfl, hO⟩, hb1⟩
 have HB : Hid (Below w.heap.size w w1) := hb0.trans (hb1.mono (by omega))
 have k1 := hb1.block _ (show w.heap.size + 1 < W0.heap.size by omega)
 rw [hn1] at k1
 have hl1 : w.heap.size + 1 < w1.heap.size := by have := hb1.size; omega
 have HO : Hid (SvOw (w.heap.size + 2) w1 (nxt s) p' A) := hO.low (by omega)
 clear hc hb0 hb1 hn0 hn1 hO hsz
 unfold nxt at HO ⊢
 dsimp only
 obtain ⟨d0, d1, d2, d3, d4, df⟩ := five_of k1
 have HK : Hid (w1.heap[w.heap.size + 1]? = some (.cells #[.int .i64 0, .int .i64 0, .int .i64 0, .slice none 0 0, .slice none 0 0] 37 (0, 0))) := k1
 clear k1
 go_wp2_with fail
 refine (hsd _).mono ?_
 rintro e w2 ⟨rfl, rfl⟩
 clear hsd
 go_wp2
 exact bodyPost_ret (results_S2 Tryz.results16 _ _ (w.heap.size + 1) 37 _ _ _ _ _ (0, 0) rfl (five_alloc _ HK.out)) rfl ⟨⟨p', A, rfl, (HO.out.frm fun k h1 h2 => five_ao _ (by omega) h1).low (by omega)⟩, five_ab _ HB.out (by omega) HB.out.size⟩
set_option maxRecDepth 100000 in
set_option maxHeartbeats 1600000 in
theorem move_20_1 (s : Sv) (p : Pl) (n : Int) (w : World) (h : SvAt w s p) (hs : s.Small) (hr : Rgt s) (hn : ¬ n < 1) (hh : s.b < n) :
  Calls Tryz.prog 16 #[.agg (svv s p), .int .i64 1, .int .i64 n] w fun e w' => e = .returned (.tuple #[.agg #[.int .i64 0, .int .i64 0, .int .i64 0, .slice none 0 0, .slice none 0 0], errV 20]) ∧ Below w.heap.size w w' := by
 obtain ⟨hn0, hn1, hsz, hb0⟩ := two_new w s p 37 37
 have hc := next_ok s p _ (h.below hb0) hs hr
 have hsd := isSide_any 1
 rw [decide_eq_true (by decide)] at hsd
 clear h hs
 unfold svv sv0 pl0 at hn0 hn1 hsz hb0 hc
 unfold svv
 simp only at hn0 hn1 hsz hb0 hc
 go_enter Tryz.func16, Tryz.ntmps16
 go_wp2_with fail
 generalize ((w.alloc (.cells #[.int .i64 s.nu, .int .i64 s.a, .int .i64 s.b, .slice p.pa s.pn p.pc, .slice p.ha s.hn p.hc] 37)).alloc (.cells #[.int .i64 0, .int .i64 0, .int .i64 0, .slice none 0 0, .slice none 0 0] 37)) = W0 at *
 refine hc.mono ?_
 rintro e w1 ⟨⟨p', A, rfl, hO⟩, hb1⟩
 have HB : Hid (Below w.heap.size w w1) := hb0.trans (hb1.mono (by omega))
 have k1 := hb1.block _ (show w.heap.size + 1 < W0.heap.size by omega)
 rw [hn1] at k1
 have hl1 : w.heap.size + 1 < w1.heap.size := by have := hb1.size; omega
 have HO : Hid (SvOw (w.heap.size + 2) w1 (nxt s) p' A) := hO.low (by omega)
 clear hc hb0 hb1 hn0 hn1 hO hsz
 unfold nxt at HO ⊢
 dsimp only
 obtain ⟨d0, d1, d2, d3, d4, df⟩ := five_of k1
 have HK : Hid (w1.heap[w.heap.size + 1]? = some (.cells #[.int .i64 0, .int .i64 0, .int .i64 0, .slice none 0 0, .slice none 0 0] 37 (0, 0))) := k1
 clear k1
 go_wp2_with fail
 refine (hsd _).mono ?_
 rintro e w2 ⟨rfl, rfl⟩
 clear hsd
 go_wp2
 exact bodyPost_ret (results_S2 Tryz.results16 _ _ (w.heap.size + 1) 37 _ _ _ _ _ (0, 0) rfl (five_alloc _ HK.out)) rfl ⟨rfl, five_ab _ HB.out (by omega) HB.out.size⟩
set_option maxRecDepth 100000 in
set_option maxHeartbeats 1600000 in
theorem move_ok_1 (s : Sv) (p : Pl) (n : Int) (w : World) (h : SvAt w s p) (hs : s.Small) (hr : Rgt s) (hn : ¬ n < 1) (hh : ¬ s.b < n) :
  Calls Tryz.prog 16 #[.agg (svv s p), .int .i64 1, .int .i64 n] w fun e w' => (∃ p' A, e = .returned (.tuple #[.agg #[.int .i64 (s.nu + 1), .int .i64 (s.a + n), .int .i64 (s.b - n), .slice p'.pa s.pn p'.pc, .slice p'.ha s.hn p'.hc], .nilIface]) ∧ SvOw w.heap.size w' (nxt s) p' A) ∧ Below w.heap.size w w' := by
 have b1 := hr.1.1.2.1
 have b2 := hr.1.1.2.2
 have x1 : wrap64 (s.a + n) = s.a + n := by simp [wrap64]; omega
 have x2 : wrap64 (s.b - n) = s.b - n := by simp [wrap64]; omega
 obtain ⟨hn0, hn1, hsz, hb0⟩ := two_new w s p 37 37
 have hc := next_ok s p _ (h.below hb0) hs hr
 have hsd := isSide_any 1
 rw [decide_eq_true (by decide)] at hsd
 clear h hs
 unfold svv sv0 pl0 at hn0 hn1 hsz hb0 hc
 unfold svv
 simp only at hn0 hn1 hsz hb0 hc
 go_enter Tryz.func16, Tryz.ntmps16
 go_wp2_with fail
 generalize ((w.alloc (.cells #[.int .i64 s.nu, .int .i64 s.a, .int .i64 s.b, .slice p.pa s.pn p.pc, .slice p.ha s.hn p.hc] 37)).alloc (.cells #[.int .i64 0, .int .i64 0, .int .i64 0, .slice none 0 0, .slice none 0 0] 37)) = W0 at *
 refine hc.mono ?_
 rintro e w1 ⟨⟨p', A, rfl, hO⟩, hb1⟩
 have HB : Hid (Below w.heap.size w w1) := hb0.trans (hb1.mono (by omega))
 have k1 := hb1.block _ (show w.heap.size + 1 < W0.heap.size by omega)
 rw [hn1] at k1
 have hl1 : w.heap.size + 1 < w1.heap.size := by have := hb1.size; omega
 have HO : Hid (SvOw (w.heap.size + 2) w1 (nxt s) p' A) := hO.low (by omega)
 clear hc hb0 hb1 hn0 hn1 hO hsz
 unfold nxt at HO ⊢
 dsimp only
 obtain ⟨d0, d1, d2, d3, d4, df⟩ := five_of k1
 have HK : Hid (w1.heap[w.heap.size + 1]? = some (.cells #[.int .i64 0, .int .i64 0, .int .i64 0, .slice none 0 0, .slice none 0 0] 37 (0, 0))) := k1
 clear k1
 go_wp2_with fail
 refine (hsd _).mono ?_
 rintro e w2 ⟨rfl, rfl⟩
 clear hsd
 go_wp2
 exact bodyPost_ret (results_S2 Tryz.results16 _ _ (w.heap.size + 1) 37 _ _ _ _ _ (0, 0) rfl (five_alloc _ HK.out)) rfl ⟨⟨p', A, rfl, (HO.out.frm fun k h1 h2 => five_ao _ (by omega) h1).low (by omega)⟩, five_ab _ HB.out (by omega) HB.out.size⟩

theorem move_any (s : Sv) (p : Pl) (f n : Int) (w : World) (h : SvAt w s p) (hs : s.Small) :
  Calls Tryz.prog 16 #[.agg (svv s p), .int .i64 f, .int .i64 n] w fun e w' => ∃ p', e = .returned (.tuple #[.agg (svv (moveF s f n).1 p'), errV (moveF s f n).2]) ∧ SvAt w' (moveF s f n).1 p' ∧ Below w.heap.size w w' := by
 by_cases hr : Rgt s
 ·by_cases hf : Side f
  ·by_cases hn : n < 1
   ·have e : moveF s f n = (sv0, 27) := by simp [moveF, hr, hf, hn]
    rw [e]
    exact (move_27 s p f n w h hs hr hf hn).mono fun e w' ⟨h1, h2⟩ => ⟨pl0, h1, sv0_at _, h2⟩
   ·rcases hf with rfl | rfl
    ·by_cases hh : s.a < n
     ·have e : moveF s 0 n = (sv0, 20) := by simp [moveF, hr, Side, hn, has, hh]
      rw [e]
      exact (move_20_0 s p n w h hs hr hn hh).mono fun e w' ⟨h1, h2⟩ => ⟨pl0, h1, sv0_at _, h2⟩
     ·have e : moveF s 0 n = (giv s (-n) n, 0) := by simp [moveF, hr, Side, hn, has, hh]
      rw [e]
      refine (move_ok_0 s p n w h hs hr hn hh).mono fun e w' ⟨⟨p', A, h1, h2⟩, h3⟩ => ⟨p', ?_, (h2.alike (s' := giv s (-n) n) rfl rfl rfl rfl).at, h3⟩
      rw [h1]; rfl
    ·by_cases hh : s.b < n
     ·have e : moveF s 1 n = (sv0, 20) := by simp [moveF, hr, Side, hn, has, hh]
      rw [e]
      exact (move_20_1 s p n w h hs hr hn hh).mono fun e w' ⟨h1, h2⟩ => ⟨pl0, h1, sv0_at _, h2⟩
     ·have e : moveF s 1 n = (giv s n (-n), 0) := by simp [moveF, hr, Side, hn, has, hh]
      rw [e]
      refine (move_ok_1 s p n w h hs hr hn hh).mono fun e w' ⟨⟨p', A, h1, h2⟩, h3⟩ => ⟨p', ?_, (h2.alike (s' := giv s n (-n)) rfl rfl rfl rfl).at, h3⟩
      rw [h1]; rfl
  ·have e : moveF s f n = (sv0, 33) := by simp [moveF, hr, hf]
   rw [e]
   exact (move_33 s p f n w h hs hr hf).mono fun e w' ⟨h1, h2⟩ => ⟨pl0, h1, sv0_at _, h2⟩
 ·have e : moveF s f n = (sv0, 1) := by simp [moveF, hr]
  rw [e]
  exact (move_1 s p f n w h hs hr).mono fun e w' ⟨h1, h2⟩ => ⟨pl0, h1, sv0_at _, h2⟩
end Go.Proofs.YtoefgfiabfkfaaaGreatDoor
/- sure: what must come whatever the input is. -/
namespace Go.Proofs.YtoefgfiabfkfaaaGreatDoor
open Go.RowKit

def s5 : Sv := { sv0 with a := 50, b := 50 }
theorem rgt5 : Rgt s5 := by decide
theorem move5 : moveF s5 0 20 = ({ sv0 with nu := 1, a := 30, b := 70 }, 0) := by
 have h := rgt5
 unfold moveF
 rw [if_neg (by simp [h]), if_neg (by simp [Side]), if_neg (by decide), if_neg (by simp [has, s5])]
 simp [giv, nxt, s5, sv0]
set_option maxRecDepth 100000 in
set_option maxHeartbeats 1600000 in
theorem sure_any (w : World) :
  Calls Tryz.prog 5 #[] w fun e w' => e = .returned (.bool true) ∧ Below w.heap.size w w' := by
 have h5 : SvAt w s5 pl0 := ⟨PyAt.nil _ _ _, HdAt.nil _ _ _, Nat.le_refl _, Nat.le_refl _, fun _ => ⟨rfl, rfl⟩, fun _ => ⟨rfl, rfl⟩⟩
 have hs5 : s5.Small := ⟨by simp [s5, sv0], fun i hi => by simp [s5, sv0] at hi⟩
 have hm := move_any s5 pl0 0 20 w h5 hs5
 rw [move5] at hm
 clear h5 hs5
 unfold svv s5 sv0 pl0 at hm
 simp only at hm
 go_enter Tryz.func5, Tryz.ntmps5
 go_wp2_with fail
 refine hm.mono ?_
 rintro e w1 ⟨q, rfl, _, hb1⟩
 have e0 : errV 0 = .nilIface := rfl
 rw [e0]
 clear hm
 have hbe : Below w.heap.size w (w1.alloc (.cells #[.int .i64 1, .int .i64 30, .int .i64 70, .slice q.pa 0 q.pc, .slice q.ha 0 q.hc] 37)) := hb1.alloc hb1.size _
 have heq : ∀ w : World, (binOp .eql 22 (.agg #[.int .i64 30, .int .i64 70]) (.agg #[.int .i64 30, .int .i64 70])).run Tryz.prog w = .ok (.bool true) w := fun w => by kernel_rfl
 go_wp2
 go_ret
 exact ⟨rfl, hbe⟩
end Go.Proofs.YtoefgfiabfkfaaaGreatDoor
