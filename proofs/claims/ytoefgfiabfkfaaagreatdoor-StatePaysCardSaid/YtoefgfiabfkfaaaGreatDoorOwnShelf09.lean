/- A sum's end: the State's Sum, walked. -/
import Derived.Test.YtoefgfiabfkfaaaGreatDoorOwnShelf08
namespace Go.Proofs.YtoefgfiabfkfaaaGreatDoor
open Go.RowKit


set_option maxRecDepth 20000 in
set_option maxHeartbeats 8000000 in
theorem sumSt_any (p : Nat) (s : Sm) (wn : Int) (w : World) (hst : StAt w p s wn) (hs : s.Ok) (hT : Tab w) (hg : 3 ≤ p) (ht : s.t + s.b.length < 18446744073709551616) :
  Calls Tryz.prog 68 #[.pointer (some ⟨p, 0, none⟩)] w fun e w' => e = .returned (.agg (sv (sumS s))) ∧ Below w.heap.size w w' := by
 obtain ⟨blk, fl, hp, hby, hfl, htk⟩ := hst
 have hbl : s.b.length = fl := by rw [← htk]; have := hby.1; simp; omega
 have hpl := lt_of_block hp
 have hgl : 3 ≤ w.heap.size := by omega
 have hn0 : (w.alloc (.cells (sv z32) 28)).heap[w.heap.size]? = some (.cells (sv z32) 28 (0, 0)) := heap_alloc_new w _
 have hp0 : (w.alloc (.cells (sv z32) 28)).heap[p]? = some (.cells (stc s.h s.t blk fl wn) 140 (0, 0)) := by rw [Below.heap_alloc _ _ _ hpl]; exact hp
 have hb0 : Below w.heap.size w (w.alloc (.cells (sv z32) 28)) := (Below.refl _ w).alloc (Nat.le_refl _) _
 have hl0 : (w.alloc (.cells (sv z32) 28)).heap.size = w.heap.size + 1 := by simp
 have hT0 : Tab (w.alloc (.cells (sv z32) 28)) := hT.frm ((Frm.refl [] w).alloc _) (by simp)
 have hn1 : ((w.alloc (.cells (sv z32) 28)).alloc (.cells (stc z8 0 z64 0 0) 140)).heap[w.heap.size + 1]? = some (.cells (stc z8 0 z64 0 0) 140 (0, 0)) := by
  have := heap_alloc_new (w.alloc (.cells (sv z32) 28)) (.cells (stc z8 0 z64 0 0) 140)
  simpa using this
 have sz75 := stc_size (h := s.h) (b := blk) (tk := s.t) (fl := fl) (wr := wn) hs.h.1 hby.1
 have HB : Hid (blk.take fl = s.b ∧ s.b.length = fl) := ⟨htk, hbl⟩
 have hfi : (fl : Int) ≤ 64 := by omega
 clear htk hbl
 go_enter Tryz.func68, Tryz.ntmps68
 go_wp2_with (first | (refine wpList_allocHs rfl rfl ?_) | (refine wpList_loadSt rfl _ rfl p rfl _ sz75 _ _ hp0 ?_) | (refine wpList_allocSt rfl rfl ?_) | (refine wpList_storeRow 140 szSt rfl _ _ rfl _ rfl (stc s.h s.t blk fl wn) (stc z8 0 z64 0 0) sz75 (stc_size rfl z64_by.1) (stc_one _ _ _ _ _) 140 rfl (heap_alloc_new (w.alloc (.cells (sv z32) 28)) _) ?_; intro W2 hp2 hf2; rw [hl0] at hp2 hf2; have c73 : W2.cell? ⟨w.heap.size + 1, 73, none⟩ = some (.int .i64 (fl : Nat)) := (by rw [cell_of_row W2 _ 73 _ _ _ hp2]; exact stc_f hs.h.1 hby.1); have HP2 : Hid (W2.heap[w.heap.size + 1]? = some (.cells (stc s.h s.t blk fl wn) 140 (0, 0)) ∧ Frm [w.heap.size + 1] ((w.alloc (.cells (sv z32) 28)).alloc (.cells (stc z8 0 z64 0 0) 140)) W2) := ⟨hp2, hf2⟩; clear hp2 hf2) | (refine wpList_clearS rfl _ rfl (p := w.heap.size + 1) (fl := fl) rfl (fun hlt => by simp; omega) HP2.out.1 hs.h.1 hby.1 hfl ?_; intro W3 hp3 hf3; have HP3 : Hid (W3.heap[w.heap.size + 1]? = some (.cells (stc s.h s.t (blk.take fl ++ List.replicate (64 - fl) 0) fl wn) 140 (0, 0)) ∧ Frm [w.heap.size + 1] W2 W3) := ⟨hp3, hf3⟩; clear hp3 hf3) | fail)
 all_goals
  obtain ⟨hp3, hf3⟩ := HP3.out
  have hpad : blk.take fl ++ List.replicate (64 - fl) 0 = pad s.b := by rw [HB.out.1, pad, HB.out.2]
  rw [hpad] at hp3
  have hf2 := HP2.out.2
  have hF3 : Frm [] w W3 := by
   have h1 : Frm [w.heap.size + 1] w W3 := (((((Frm.refl [w.heap.size + 1] w).alloc _).alloc _).trans hf2).trans hf3)
   exact h1.old (fun k hk hlt => by simp at hk; omega)
  have hr3 : W3.heap[w.heap.size]? = some (.cells (sv z32) 28 (0, 0)) := by
   refine hf3.heap (hf2.heap ?_ (by simp)) (by simp)
   rw [Below.heap_alloc _ _ _ (by simp)]; exact hn0
  have hT3 : Tab W3 := hT.frm hF3 (by simp)
  have hby3 := pad_by (b := s.b) hs.l hs.b
  have hcall := takeIn_any true (w.heap.size + 1) s.h s.t (pad s.b) fl wn W3 hp3 hT3 (by omega) hs.h hby3 hfl (by have := HB.out.2; omega)
  clear HP3 HP2 hp3 hf3 hf2 hpad c73 hT3 hp0 hn1 hn0 hb0 hT0 hl0 sz75 hp
  refine hcall.mono ?_
  rintro e W4 ⟨rfl, hp4, hf4⟩
  have oH := cF_ok (b := pad s.b) hs.h (s.t + fl) true
  have HS : Hid (sumS s = endL (cF s.h (pad s.b) (s.t + fl) true)) := by show _ = _; rw [sumS, HB.out.2]
  obtain ⟨H, hH⟩ : ∃ H, H = cF s.h (pad s.b) (s.t + fl) true := ⟨_, rfl⟩
  rw [← hH] at hp4 oH HS
  clear hH hcall
  have hF4 : Frm [] w W4 := by
   have h1 : Frm [w.heap.size + 1] w W4 := (hF3.mono (by simp)).trans hf4
   exact h1.old (fun k hk hlt => by simp at hk; omega)
  have hr4 : W4.heap[w.heap.size]? = some (.cells (sv z32) 28 (0, 0)) := hf4.heap hr3 (by simp)
  have hl4 := lt_of_block hr4
  have hrg : (W4.alloc (.cells (sv z32) 28)).rangeAt (w.heap.size + 1) 0 (wl H) := stc_wl (by rw [Below.heap_alloc _ _ _ (lt_of_block hp4)]; exact hp4)
  have HN4 : Hid ((W4.alloc (.cells (sv z32) 28)).heap[W4.heap.size]? = some (.cells (sv (eP H 0)) 28 (0, 0))) := by show _ = _; rw [eP_zero]; exact heap_alloc_new W4 _
  have HR4 : Hid ((W4.alloc (.cells (sv z32) 28)).heap[w.heap.size]? = some (.cells (sv z32) 28 (0, 0))) := by show _ = _; rw [Below.heap_alloc _ _ _ hl4]; exact hr4
  have HF4 : Hid (Frm [] w (W4.alloc (.cells (sv z32) 28)) ∧ w.heap.size < W4.heap.size) := ⟨hF4.alloc _, hl4⟩
  clear hp4 hf4 hF3 hF4 hr3 hr4 HB
  go_wp2_with (first | (refine wpList_allocHs rfl rfl ?_) | (refine wpList_loadW rfl _ rfl (w.heap.size + 1) rfl H oH.1 hrg ?_) | fail)
  clear hrg
  generalize W4.alloc (.cells (sv z32) 28) = W5 at *
  generalize W4.heap.size = ph at *
  go_loopw [21] (fun iv (w' : World) => ∃ k : Nat, k ≤ 8 ∧ iv = .int .i64 k ∧ w'.heap[ph]? = some (.cells (sv (eP H (4 * k))) 28 (0, 0)) ∧ Frm [ph] W5 w') (fun iv _ => 8 - (intOf iv).toNat)
  case atStart => exact ⟨0, by omega, rfl, HN4.out, Frm.refl _ _⟩
  case round =>
   obtain ⟨k, hk, rfl, hv, hF⟩ := hrel
   by_cases hlt : k < 8
   ·have hk' : (k : Int) < 8 := by omega
    obtain ⟨x, hx⟩ : ∃ x, x = H.getD k 0 := ⟨_, rfl⟩
    have lx : x < 4294967296 := by rw [hx]; exact oH.2 k
    have lxi : (x : Int) < 4294967296 := by omega
    have hix : (wv H)[k]? = some (.int .u32 (x : Nat)) := by rw [hx]; exact wv_at (by rw [oH.1]; exact hlt)
    have hrun : ∀ wx, (Instr.index 137 (.agg (wv H)) (.int .i64 (k : Int))).run Tryz.prog wx = .ok (.int .u32 (x : Nat)) wx := fun wx => run_idx Tryz.underlying137 hz32 ag32 hlt hix wx
    have HX : Hid (x = H.getD k 0) := hx
    have HV : Hid (wr.heap[ph]? = some (.cells (sv (eP H (4 * k))) 28 (0, 0)) ∧ Frm [ph] W5 wr) := ⟨hv, hF⟩
    clear hx hix hv hF
    go_wp2_with fail
    clear hrun
    generalize wr = W6 at *
    go_loopw [25] (fun jv (w' : World) => ∃ m : Nat, m ≤ 4 ∧ jv = .int .i64 m ∧ w'.heap[ph]? = some (.cells (sv (eP H (4 * k + m))) 28 (0, 0)) ∧ Frm [ph] W5 w') (fun jv _ => 4 - (intOf jv).toNat)
    case atStart => exact ⟨0, by omega, rfl, HV.out.1, HV.out.2⟩
    case round =>
     obtain ⟨m, hm, rfl, hv, hF⟩ := hrel
     by_cases hlm : m < 4
     ·have hm' : (m : Int) < 4 := by omega
      have c1 : wr.cell? ⟨ph, 4 * k + m, none⟩ = some (.int .u8 ((eP H (4 * k + m)).getD (4 * k + m) 0 : Nat)) := by rw [cell_of_row wr ph _ _ _ _ hv]; exact sv_at (by rw [eP_len]; omega)
      have f1 : wr.frozen? ⟨ph, 4 * k + m, none⟩ = false := frozen_of_row wr ph _ _ _ hv
      have HN : Hid (∀ z : Nat, z = (x >>> (8 * m)) % 256 → (wr.setCell ⟨ph, 4 * k + m, none⟩ (.int .u8 (z : Nat))).heap[ph]? = some (.cells (sv (eP H (4 * k + (m + 1)))) 28 (0, 0)) ∧ Frm [ph] W5 (wr.setCell ⟨ph, 4 * k + m, none⟩ (.int .u8 (z : Nat)))) := by
       intro z hz
       refine ⟨?_, hF.setCell _ _ (by simp)⟩
       have := sv_set hv (4 * k + m) z
       rw [this, hz, ← Nat.add_assoc, ← eP_set H (show 4 * k + m < 32 by omega)]
       have e : (x >>> (8 * m)) % 256 = leP H (4 * k + m) := by
        rw [leP, show (4 * k + m) / 4 = k by omega, show (4 * k + m) % 4 = m by omega, HX.out]
       rw [e]
      have ei : (4 * (k : Int) + m).toNat = 4 * k + m := by omega
      have hrc : m = 0 ∨ m = 1 ∨ m = 2 ∨ m = 3 := by omega
      clear hv hF HV hm'
      rcases hrc with rfl | rfl | rfl | rfl
      ·have hz : Hid _ := HN.out ((x >>> (8 * 0)) % 256) rfl
       have HSH : Hid ((x : Int) % (256 : Int) = (((x >>> (8 * 0)) % 256 : Nat) : Int)) := by show _ = _; rw [Nat.shiftRight_eq_div_pow]; omega
       obtain ⟨z, hze⟩ : ∃ z, z = (x >>> (8 * 0)) % 256 := ⟨_, rfl⟩
       rw [← hze] at hz HSH
       clear HN hze ei hm hlm
       simp only [Nat.add_zero] at c1 f1 hz
       have ei : (4 * (k : Int)).toNat = 4 * k := by omega
       go_wp2
       rw [HSH.out]
       exact ⟨⟨0 + 1, by omega, by rfl, hz.out.1, hz.out.2⟩, by simp [intOf]⟩
      ·have hz : Hid _ := HN.out ((x >>> (8 * 1)) % 256) rfl
       have HSH : Hid ((x : Int) / (256 : Int) % (256 : Int) = (((x >>> (8 * 1)) % 256 : Nat) : Int)) := by show _ = _; rw [Nat.shiftRight_eq_div_pow]; omega
       obtain ⟨z, hze⟩ : ∃ z, z = (x >>> (8 * 1)) % 256 := ⟨_, rfl⟩
       rw [← hze] at hz HSH
       clear HN hze
       go_wp2
       rw [HSH.out]
       exact ⟨⟨1 + 1, by omega, by rfl, hz.out.1, hz.out.2⟩, by simp [intOf]⟩
      ·have hz : Hid _ := HN.out ((x >>> (8 * 2)) % 256) rfl
       have HSH : Hid ((x : Int) / (65536 : Int) % (256 : Int) = (((x >>> (8 * 2)) % 256 : Nat) : Int)) := by show _ = _; rw [Nat.shiftRight_eq_div_pow]; omega
       obtain ⟨z, hze⟩ : ∃ z, z = (x >>> (8 * 2)) % 256 := ⟨_, rfl⟩
       rw [← hze] at hz HSH
       clear HN hze
       go_wp2
       rw [HSH.out]
       exact ⟨⟨2 + 1, by omega, by rfl, hz.out.1, hz.out.2⟩, by simp [intOf]⟩
      ·have hz : Hid _ := HN.out ((x >>> (8 * 3)) % 256) rfl
       have HSH : Hid ((x : Int) / (16777216 : Int) = (((x >>> (8 * 3)) % 256 : Nat) : Int)) := by show _ = _; rw [Nat.shiftRight_eq_div_pow]; omega
       obtain ⟨z, hze⟩ : ∃ z, z = (x >>> (8 * 3)) % 256 := ⟨_, rfl⟩
       rw [← hze] at hz HSH
       clear HN hze
       go_wp2
       rw [HSH.out]
       exact ⟨⟨3 + 1, by omega, by rfl, hz.out.1, hz.out.2⟩, by simp [intOf]⟩
     ·obtain rfl : m = 4 := by omega
      have HE : Hid (wr.heap[ph]? = some (.cells (sv (eP H (4 * (k + 1)))) 28 (0, 0)) ∧ Frm [ph] W5 wr) := ⟨hv, hF⟩
      clear hv hF HV
      go_wp2
      refine ⟨⟨k + 1, by omega, by go_num, HE.out.1, HE.out.2⟩, ?_⟩
      simp [intOf]
      omega
   ·obtain rfl : k = 8 := by omega
    have hv' : wr.heap[ph]? = some (.cells (sv (endL H)) 28 (0, 0)) := by rw [hv, ← eP_end]
    have hr5 : wr.heap[w.heap.size]? = some (.cells (sv z32) 28 (0, 0)) := hF.heap HR4.out (by have := HF4.out.2; simp; omega)
    have HE : Hid (Frm [] w wr) := by
     have h1 : Frm [ph] w wr := (HF4.out.1.mono (by simp)).trans hF
     exact h1.old (fun k hk hlt => by have := HF4.out.2; simp at hk; omega)
    clear hv hF
    go_wp2_with (first | (refine wpList_loadHs rfl _ rfl ph rfl (endL H) (endL_len H) _ _ hv' ?_) | (refine wpList_storeRow 28 hsz rfl _ _ rfl w.heap.size rfl (sv (endL H)) (sv z32) (by rw [sv_size, endL_len]) (by simp [sv_size, z32]) (sv_one _) 28 rfl hr5 ?_; intro w2 hg2 hf2) | fail)
    refine bodyPost_ret (results_cell_row Tryz.results68 _ w2 w.heap.size 28 (sv (endL H)) (0, 0) _ rfl hg2 Tryz.underlying28 rfl (by rw [sv_size, endL_len]; exact hsz)) rfl ⟨by rw [HS.out], ?_⟩
    have h1 : Frm [w.heap.size] w w2 := (HE.out.mono (by simp)).trans hf2
    exact h1.below (Nat.le_refl _) (by simp)
end Go.Proofs.YtoefgfiabfkfaaaGreatDoor
/- blake.Keyed and blake.Sum. -/
namespace Go.Proofs.YtoefgfiabfkfaaaGreatDoor
open Go.RowKit

theorem newS_any (ad : Option Addr) (cap : Nat) (K : List Nat) (w : World) (hT : Tab w) (hK : SlB w ad K) (h2 : K.length ≤ 32) (hb : ∀ i, K.getD i 0 < 256) :
  Calls Tryz.prog 66 #[.slice ad K.length cap] w fun e w' => e = .returned (.tuple #[.pointer (some ⟨w.heap.size, 0, none⟩), .nilIface]) ∧ StAt w' w.heap.size (new0 K) 0 ∧ Frm [] w w' := by
 by_cases h0 : K.length = 0
 ·have e : K = [] := List.eq_nil_of_length_eq_zero h0
  subst e
  refine (new_none ad cap w hT).mono ?_
  rintro e w' ⟨rfl, hp, hf⟩
  exact ⟨rfl, ⟨z64, 0, hp, z64_by, by omega, rfl⟩, hf⟩
 ·refine (new_key w ad cap K hK (by omega) h2 hT).mono ?_
  rintro e w' ⟨rfl, hp, hf⟩
  have e : new0 K = ⟨Go.Proofs.YtoefgfiabfkfaaaGreatDoor.h0 K.length, 0, pad K⟩ := if_neg h0
  rw [e]
  exact ⟨rfl, ⟨pad K, 64, hp, pad_by (by omega) hb, by omega, by rw [List.take_of_length_le (by rw [pad_len (by omega)]; omega)]⟩, hf⟩
theorem SlB.below {w w' : World} {ad : Option Addr} {b : List Nat} (h : SlB w ad b) (hf : Frm [] w w') : SlB w' ad b := h.keep hf (fun _ _ _ _ => by simp)
theorem new0_t (K : List Nat) (h2 : K.length ≤ 32) : (new0 K).t + (new0 K).b.length ≤ 64 := by
 unfold new0
 split
 ·simp
 ·simp [pad_len (show K.length ≤ 64 by omega)]
theorem SlB.lt {w : World} {ad : Option Addr} {b : List Nat} (h : SlB w ad b) {g o : Nat} (e : ad = some ⟨g, o, none⟩) (hl : 0 < b.length) : g < w.heap.size := by
 obtain ⟨g', o', e', hr⟩ := h hl
 rw [e] at e'
 cases e'
 have h1 : (sl8 b)[0]? = some (.int .u8 (b.getD 0 0 : Nat)) := by
  simp [sl8, List.getElem?_eq_getElem hl, List.getD_eq_getElem?_getD]
 exact World.block_lt_of_cell? w _ (hr 0 _ h1)

theorem results_H2 {fn : Func} {p u : Tmp} (h : fn.results = #[.cell p 28, .tmp u]) (tmps : Array Value) (w : World) (g : Nat) (t : TypeId) (z : List Nat) (fr : Nat × Nat) (hz : z.length = 32)
  (hp : tmps.getD p undef = .pointer (some ⟨g, 0, none⟩)) (hg : w.heap[g]? = some (.cells (sv z) t fr)) :
  (results fn tmps).run Tryz.prog w = .ok (.tuple #[.agg (sv z), tmps.getD u undef]) w := by
 have hp' : tmps[p]?.getD undef = .pointer (some ⟨g, 0, none⟩) := by simpa using hp
 simp [results, h, hp', asAddr, run_loadVar_row w g t 28 (sv z) fr _ hg Tryz.underlying28 rfl (by rw [sv_size, hz]; exact hsz)]

set_option maxRecDepth 20000 in
set_option maxHeartbeats 4000000 in
theorem keyed_any (kd ad : Option Addr) (kc cap : Nat) (K b : List Nat) (w : World) (hT : Tab w) (hgl : 3 ≤ w.heap.size) (hK : SlB w kd K) (hkb : ∀ i, K.getD i 0 < 256) (h2 : K.length ≤ 32) (hB : SlB w ad b) (hb : ∀ i, b.getD i 0 < 256) (hcap : b.length ≤ cap) (hl : b.length ≤ 140737488355328) :
  Calls Tryz.prog 50 #[.slice kd K.length kc, .slice ad b.length cap] w fun e w' => e = .returned (.tuple #[.agg (sv (keyedF K b)), .nilIface]) ∧ Below w.heap.size w w' := by
 have hn0 : (w.alloc (.cells (sv z32) 28)).heap[w.heap.size]? = some (.cells (sv z32) 28 (0, 0)) := heap_alloc_new w _
 have hF0 : Frm [] w (w.alloc (.cells (sv z32) 28)) := (Frm.refl [] w).alloc _
 have hl0 : (w.alloc (.cells (sv z32) 28)).heap.size = w.heap.size + 1 := by simp
 have hcall := newS_any kd kc K (w.alloc (.cells (sv z32) 28)) (hT.frm hF0 (by simp)) (hK.below hF0) h2 hkb
 rw [hl0] at hcall
 go_enter Tryz.func50, Tryz.ntmps50
 go_wp2_with (first | (refine wpList_allocHs rfl rfl ?_) | fail)
 refine hcall.mono ?_
 rintro e W1 ⟨rfl, hst1, hf1⟩
 clear hcall
 have hF1 : Frm [] w W1 := hF0.trans hf1
 have hr1 : W1.heap[w.heap.size]? = some (.cells (sv z32) 28 (0, 0)) := hf1.heap hn0 (by simp)
 have hok := new0_ok h2 hkb
 have hnt := new0_t K h2
 have hB1 := hB.below hF1
 have hcall := write_any (w.heap.size + 1) (new0 K) 0 ad cap b W1 hst1 hok (hT.frm hF1 (by simp)) (by omega) hB1 hcap hb (fun g o e hlb => by have := hB.lt e hlb; omega) (by omega) (by omega) (by omega)
 clear hn0 hF0 hl0 hf1 hst1
 go_wp2_with fail
 refine hcall.mono ?_
 rintro e W2 ⟨rfl, hst2, hf2⟩
 clear hcall
 have hF2 : Frm [] w W2 := ((hF1.mono (T := [w.heap.size + 1]) (by simp)).trans hf2).old (fun k hk hlt => by simp at hk; omega)
 have hr2 : W2.heap[w.heap.size]? = some (.cells (sv z32) 28 (0, 0)) := hf2.heap hr1 (by simp)
 have hcall := sumSt_any (w.heap.size + 1) (feed (new0 K) b) _ W2 hst2 (feed_ok b _ hok hb) (hT.frm hF2 (by simp)) (by omega) (by rw [feed_t]; omega)
 clear hr1 hF1 hst2 hf2 hB1
 go_wp2_with fail
 refine hcall.mono ?_
 rintro e W3 ⟨rfl, hb3⟩
 clear hcall
 have hF3 : Frm [] w W3 := hF2.trans (Frm.ofBelow hb3)
 have hr3 : W3.heap[w.heap.size]? = some (.cells (sv z32) 28 (0, 0)) := by rw [hb3.block _ (lt_of_block hr2)]; exact hr2
 obtain ⟨R, hR⟩ : ∃ R, R = sumS (feed (new0 K) b) := ⟨_, rfl⟩
 have hRl : R.length = 32 := by rw [hR]; exact endL_len _
 rw [← hR]
 have HR : Hid (R = keyedF K b) := hR
 clear hR hb3 hr2 hF2
 go_wp2_with (first | (refine wpList_storeRow 28 hsz rfl _ _ rfl w.heap.size rfl (sv R) (sv z32) (by rw [sv_size, hRl]) (by simp [sv_size, z32]) (sv_one _) 28 rfl hr3 ?_; intro w2 hg2 hf2) | fail)
 have h1 : Frm [w.heap.size] w w2 := (hF3.mono (by simp)).trans hf2
 exact bodyPost_ret (results_H2 Tryz.results50 _ w2 w.heap.size 28 R (0, 0) hRl rfl hg2) rfl ⟨by rw [← HR.out]; rfl, h1.below (Nat.le_refl _) (by simp)⟩


set_option maxRecDepth 20000 in
theorem sum_any (ad : Option Addr) (cap : Nat) (b : List Nat) (w : World) (hT : Tab w) (hgl : 3 ≤ w.heap.size) (hB : SlB w ad b) (hb : ∀ i, b.getD i 0 < 256) (hcap : b.length ≤ cap) (hl : b.length ≤ 140737488355328) :
  Calls Tryz.prog 27 #[.slice ad b.length cap] w fun e w' => e = .returned (.agg (sv (sumF b))) ∧ Below w.heap.size w w' := by
 have hn0 : (w.alloc (.cells (sv z32) 28)).heap[w.heap.size]? = some (.cells (sv z32) 28 (0, 0)) := heap_alloc_new w _
 have hF0 : Frm [] w (w.alloc (.cells (sv z32) 28)) := (Frm.refl [] w).alloc _
 have hl0 : w.heap.size < (w.alloc (.cells (sv z32) 28)).heap.size := by simp
 have hcall := keyed_any none ad 0 cap [] b (w.alloc (.cells (sv z32) 28)) (hT.frm hF0 (by simp)) (by omega) (SlB.nil _ _) (by simp) (by simp) (hB.below hF0) hb hcap hl
 have hRl : (sumF b).length = 32 := endL_len _
 obtain ⟨R, hR⟩ : ∃ R, R = keyedF [] b := ⟨_, rfl⟩
 rw [← hR] at hcall
 rw [show sumF b = R from hR.symm] at hRl ⊢
 clear hR
 go_enter Tryz.func27, Tryz.ntmps27
 go_wp2_with (first | (refine wpList_allocHs rfl rfl ?_) | fail)
 refine hcall.mono ?_
 rintro e W1 ⟨rfl, hb1⟩
 clear hcall
 have hr1 : W1.heap[w.heap.size]? = some (.cells (sv z32) 28 (0, 0)) := by rw [hb1.block _ hl0]; exact hn0
 have hF1 : Frm [] w W1 := hF0.trans (Frm.ofBelow hb1)
 have hl1 := lt_of_block hr1
 have hn1 := heap_alloc_new W1 (.cells (sv z32) 28)
 have hr2 : (W1.alloc (.cells (sv z32) 28)).heap[w.heap.size]? = some (.cells (sv z32) 28 (0, 0)) := by rw [Below.heap_alloc _ _ _ hl1]; exact hr1
 have HF2 : Hid (Frm [] w (W1.alloc (.cells (sv z32) 28))) := hF1.alloc _
 clear hb1 hn0 hF0 hl0 hr1 hF1
 go_wp2_with (first | (refine wpList_allocHs rfl rfl ?_) | (refine wpList_storeRow 28 hsz rfl _ _ rfl W1.heap.size rfl (sv R) (sv z32) (by rw [sv_size, hRl]) (by simp [sv_size, z32]) (sv_one _) 28 rfl hn1 ?_; intro W2 hg2 hf2; have hr3 : W2.heap[w.heap.size]? = some (.cells (sv z32) 28 (0, 0)) := hf2.heap hr2 (by simp; omega); have HF3 : Hid (Frm [W1.heap.size] (W1.alloc (.cells (sv z32) 28)) W2) := hf2; clear hf2) | (refine wpList_loadHs rfl _ rfl W1.heap.size rfl R hRl _ _ hg2 ?_) | (refine wpList_storeRow 28 hsz rfl _ _ rfl w.heap.size rfl (sv R) (sv z32) (by rw [sv_size, hRl]) (by simp [sv_size, z32]) (sv_one _) 28 rfl hr3 ?_; intro W3 hg3 hf3) | fail)
 have h1 : Frm [W1.heap.size, w.heap.size] w W3 := ((HF2.out.mono (by simp)).trans (HF3.out.mono (by simp))).trans (hf3.mono (by simp))
 exact bodyPost_ret (results_cell_row Tryz.results27 _ W3 w.heap.size 28 (sv R) (0, 0) _ rfl hg3 Tryz.underlying28 rfl (by rw [sv_size, hRl]; exact hsz)) rfl ⟨rfl, h1.below (Nat.le_refl _) (by simp; omega)⟩
end Go.Proofs.YtoefgfiabfkfaaaGreatDoor
