/- A sum's end: the State's Sum, walked. -/
import Derived.Test.YtanchjfodcjlmaaGreatDoorOwnShelf05
import Derived.Test.YtanchjfodcjlmaaGreatDoorOwnShelf01
import Derived.Great.Ranges
import Derived.Deep.MidRow
import Derived.Shelf.Abstract
import Derived.LaidEql
import Derived.Laws.Externs
import Derived.RowKitTokens
namespace Go.Proofs.YtanchjfodcjlmaaGreatDoor
open Go.RowKit


set_option maxRecDepth 20000 in
set_option maxHeartbeats 8000000 in
theorem sumSt_any (p : Nat) (s : Sm) (wn : Int) (w : World) (hst : StAt w p s wn) (hs : s.Ok) (hT : Tab w) (hg : 4 ≤ p) (ht : s.t + s.b.length < 18446744073709551616) :
  Calls Tryz.prog 79 #[.pointer (some ⟨p, 0, none⟩)] w fun e w' => e = .returned (.agg (sv (sumS s))) ∧ Below w.heap.size w w' := by
 obtain ⟨blk, fl, hp, hby, hfl, htk⟩ := hst
 have hbl : s.b.length = fl := by rw [← htk]; have := hby.1; simp; omega
 have hpl := lt_of_block hp
 have hgl : 4 ≤ w.heap.size := by omega
 have hn0 : (w.alloc (.cells (sv z32) 43)).heap[w.heap.size]? = some (.cells (sv z32) 43 (0, 0)) := heap_alloc_new w _
 have hp0 : (w.alloc (.cells (sv z32) 43)).heap[p]? = some (.cells (stc s.h s.t blk fl wn) 184 (0, 0)) := by rw [Below.heap_alloc _ _ _ hpl]; exact hp
 have hb0 : Below w.heap.size w (w.alloc (.cells (sv z32) 43)) := (Below.refl _ w).alloc (Nat.le_refl _) _
 have hl0 : (w.alloc (.cells (sv z32) 43)).heap.size = w.heap.size + 1 := by simp
 have hT0 : Tab (w.alloc (.cells (sv z32) 43)) := hT.frm ((Frm.refl [] w).alloc _) (by simp)
 have hn1 : ((w.alloc (.cells (sv z32) 43)).alloc (.cells (stc z8 0 z64 0 0) 184)).heap[w.heap.size + 1]? = some (.cells (stc z8 0 z64 0 0) 184 (0, 0)) := by
  have := heap_alloc_new (w.alloc (.cells (sv z32) 43)) (.cells (stc z8 0 z64 0 0) 184)
  simpa using this
 have sz75 := stc_size (h := s.h) (b := blk) (tk := s.t) (fl := fl) (wr := wn) hs.h.1 hby.1
 have HB : Hid (blk.take fl = s.b ∧ s.b.length = fl) := ⟨htk, hbl⟩
 have hfi : (fl : Int) ≤ 64 := by omega
 clear htk hbl
 go_enter Tryz.func79, Tryz.ntmps79
 go_wp2_with (first | (refine wpList_allocHs rfl rfl ?_) | (refine wpList_loadSt rfl _ rfl p rfl _ sz75 _ _ hp0 ?_) | (refine wpList_allocSt rfl rfl ?_) | (refine wpList_storeRow 184 szSt rfl _ _ rfl _ rfl (stc s.h s.t blk fl wn) (stc z8 0 z64 0 0) sz75 (stc_size rfl z64_by.1) (stc_one _ _ _ _ _) 184 rfl (heap_alloc_new (w.alloc (.cells (sv z32) 43)) _) ?_; intro W2 hp2 hf2; rw [hl0] at hp2 hf2; have c73 : W2.cell? ⟨w.heap.size + 1, 73, none⟩ = some (.int .i64 (fl : Nat)) := (by rw [cell_of_row W2 _ 73 _ _ _ hp2]; exact stc_f hs.h.1 hby.1); have HP2 : Hid (W2.heap[w.heap.size + 1]? = some (.cells (stc s.h s.t blk fl wn) 184 (0, 0)) ∧ Frm [w.heap.size + 1] ((w.alloc (.cells (sv z32) 43)).alloc (.cells (stc z8 0 z64 0 0) 184)) W2) := ⟨hp2, hf2⟩; clear hp2 hf2) | (refine wpList_clearS rfl _ rfl (p := w.heap.size + 1) (fl := fl) rfl (fun hlt => by simp; omega) HP2.out.1 hs.h.1 hby.1 hfl ?_; intro W3 hp3 hf3; have HP3 : Hid (W3.heap[w.heap.size + 1]? = some (.cells (stc s.h s.t (blk.take fl ++ List.replicate (64 - fl) 0) fl wn) 184 (0, 0)) ∧ Frm [w.heap.size + 1] W2 W3) := ⟨hp3, hf3⟩; clear hp3 hf3) | fail)
 all_goals
  obtain ⟨hp3, hf3⟩ := HP3.out
  have hpad : blk.take fl ++ List.replicate (64 - fl) 0 = pad s.b := by rw [HB.out.1, pad, HB.out.2]
  rw [hpad] at hp3
  have hf2 := HP2.out.2
  have hF3 : Frm [] w W3 := by
   have h1 : Frm [w.heap.size + 1] w W3 := (((((Frm.refl [w.heap.size + 1] w).alloc _).alloc _).trans hf2).trans hf3)
   exact h1.old (fun k hk hlt => by simp at hk; omega)
  have hr3 : W3.heap[w.heap.size]? = some (.cells (sv z32) 43 (0, 0)) := by
   refine hf3.heap (hf2.heap ?_ (by simp)) (by simp)
   rw [Below.heap_alloc _ _ _ (by simp)]; exact hn0
  have hT3 : Tab W3 := hT.frm hF3 (by simp)
  have hby3 := pad_by (b := s.b) hs.l hs.b
  have hcall := takeIn_any true (w.heap.size + 1) s.h s.t (pad s.b) fl wn W3 hp3 hT3 (by omega) hs.h hby3 hfl (by have := HB.out.2; omega)
  clear HP3 HP2 hp3 hf3 hf2 hpad c73 hT3 hp0 hn1 hn0 hb0 hT0 hl0 sz75 hp
  refine hcall.mono ?_
  rintro e W4 ⟨rfl, hp4, hf4⟩
  have oH := cF_ok (b := pad s.b) hs.h (s.t + fl) true
  have HS : Hid (sumS s = endL (cF s.h (pad s.b) (s.t + fl) true)) := by show _ = _; rw [sumS, HB.out.2]
  obtain ⟨H, hH⟩ : ∃ H, H = cF s.h (pad s.b) (s.t + fl) true := ⟨_, rfl⟩
  rw [← hH] at hp4 oH HS
  clear hH hcall
  have hF4 : Frm [] w W4 := by
   have h1 : Frm [w.heap.size + 1] w W4 := (hF3.mono (by simp)).trans hf4
   exact h1.old (fun k hk hlt => by simp at hk; omega)
  have hr4 : W4.heap[w.heap.size]? = some (.cells (sv z32) 43 (0, 0)) := hf4.heap hr3 (by simp)
  have hl4 := lt_of_block hr4
  have hrg : (W4.alloc (.cells (sv z32) 43)).rangeAt (w.heap.size + 1) 0 (wl H) := stc_wl (by rw [Below.heap_alloc _ _ _ (lt_of_block hp4)]; exact hp4)
  have HN4 : Hid ((W4.alloc (.cells (sv z32) 43)).heap[W4.heap.size]? = some (.cells (sv (eP H 0)) 43 (0, 0))) := by show _ = _; rw [eP_zero]; exact heap_alloc_new W4 _
  have HR4 : Hid ((W4.alloc (.cells (sv z32) 43)).heap[w.heap.size]? = some (.cells (sv z32) 43 (0, 0))) := by show _ = _; rw [Below.heap_alloc _ _ _ hl4]; exact hr4
  have HF4 : Hid (Frm [] w (W4.alloc (.cells (sv z32) 43)) ∧ w.heap.size < W4.heap.size) := ⟨hF4.alloc _, hl4⟩
  clear hp4 hf4 hF3 hF4 hr3 hr4 HB
  go_wp2_with (first | (refine wpList_allocHs rfl rfl ?_) | (refine wpList_loadW rfl _ rfl (w.heap.size + 1) rfl H oH.1 hrg ?_) | fail)
  clear hrg
  generalize W4.alloc (.cells (sv z32) 43) = W5 at *
  generalize W4.heap.size = ph at *
  go_loopw [21] (fun iv (w' : World) => ∃ k : Nat, k ≤ 8 ∧ iv = .int .i64 k ∧ w'.heap[ph]? = some (.cells (sv (eP H (4 * k))) 43 (0, 0)) ∧ Frm [ph] W5 w') (fun iv _ => 8 - (intOf iv).toNat)
  case atStart => exact ⟨0, by omega, rfl, HN4.out, Frm.refl _ _⟩
  case round =>
   obtain ⟨k, hk, rfl, hv, hF⟩ := hrel
   by_cases hlt : k < 8
   ·have hk' : (k : Int) < 8 := by omega
    obtain ⟨x, hx⟩ : ∃ x, x = H.getD k 0 := ⟨_, rfl⟩
    have lx : x < 4294967296 := by rw [hx]; exact oH.2 k
    have lxi : (x : Int) < 4294967296 := by omega
    have hix : (wv H)[k]? = some (.int .u32 (x : Nat)) := by rw [hx]; exact wv_at (by rw [oH.1]; exact hlt)
    have hrun : ∀ wx, (Instr.index 181 (.agg (wv H)) (.int .i64 (k : Int))).run Tryz.prog wx = .ok (.int .u32 (x : Nat)) wx := fun wx => run_idx Tryz.underlying181 hz32 ag32 hlt hix wx
    have HX : Hid (x = H.getD k 0) := hx
    have HV : Hid (wr.heap[ph]? = some (.cells (sv (eP H (4 * k))) 43 (0, 0)) ∧ Frm [ph] W5 wr) := ⟨hv, hF⟩
    clear hx hix hv hF
    go_wp2_with fail
    clear hrun
    generalize wr = W6 at *
    go_loopw [25] (fun jv (w' : World) => ∃ m : Nat, m ≤ 4 ∧ jv = .int .i64 m ∧ w'.heap[ph]? = some (.cells (sv (eP H (4 * k + m))) 43 (0, 0)) ∧ Frm [ph] W5 w') (fun jv _ => 4 - (intOf jv).toNat)
    case atStart => exact ⟨0, by omega, rfl, HV.out.1, HV.out.2⟩
    case round =>
     obtain ⟨m, hm, rfl, hv, hF⟩ := hrel
     by_cases hlm : m < 4
     ·have hm' : (m : Int) < 4 := by omega
      have c1 : wr.cell? ⟨ph, 4 * k + m, none⟩ = some (.int .u8 ((eP H (4 * k + m)).getD (4 * k + m) 0 : Nat)) := by rw [cell_of_row wr ph _ _ _ _ hv]; exact sv_at (by rw [eP_len]; omega)
      have f1 : wr.frozen? ⟨ph, 4 * k + m, none⟩ = false := frozen_of_row wr ph _ _ _ hv
      have HN : Hid (∀ z : Nat, z = (x >>> (8 * m)) % 256 → (wr.setCell ⟨ph, 4 * k + m, none⟩ (.int .u8 (z : Nat))).heap[ph]? = some (.cells (sv (eP H (4 * k + (m + 1)))) 43 (0, 0)) ∧ Frm [ph] W5 (wr.setCell ⟨ph, 4 * k + m, none⟩ (.int .u8 (z : Nat)))) := by
       intro z hz
       refine ⟨?_, hF.setCell _ _ (by simp)⟩
       have := sv_set hv (4 * k + m) z
       rw [this, hz, ← Nat.add_assoc, ← eP_set H (show 4 * k + m < 32 by omega)]
       have e : (x >>> (8 * m)) % 256 = leP H (4 * k + m) := by
        rw [leP, show (4 * k + m) / 4 = k by omega, show (4 * k + m) % 4 = m by omega, HX.out]
       rw [e]
      have ei : (4 * (k : Int) + m).toNat = 4 * k + m := by omega
      have hrc : m = 0 ∨ m = 1 ∨ m = 2 ∨ m = 3 := by omega
      clear hv hF HV hm'
      rcases hrc with rfl | rfl | rfl | rfl
      ·have hz : Hid _ := HN.out ((x >>> (8 * 0)) % 256) rfl
       have HSH : Hid ((x : Int) % (256 : Int) = (((x >>> (8 * 0)) % 256 : Nat) : Int)) := by show _ = _; rw [Nat.shiftRight_eq_div_pow]; omega
       obtain ⟨z, hze⟩ : ∃ z, z = (x >>> (8 * 0)) % 256 := ⟨_, rfl⟩
       rw [← hze] at hz HSH
       clear HN hze ei hm hlm
       simp only [Nat.add_zero] at c1 f1 hz
       have ei : (4 * (k : Int)).toNat = 4 * k := by omega
       go_wp2
       rw [HSH.out]
       exact ⟨⟨0 + 1, by omega, by rfl, hz.out.1, hz.out.2⟩, by simp [intOf]⟩
      ·have hz : Hid _ := HN.out ((x >>> (8 * 1)) % 256) rfl
       have HSH : Hid ((x : Int) / (256 : Int) % (256 : Int) = (((x >>> (8 * 1)) % 256 : Nat) : Int)) := by show _ = _; rw [Nat.shiftRight_eq_div_pow]; omega
       obtain ⟨z, hze⟩ : ∃ z, z = (x >>> (8 * 1)) % 256 := ⟨_, rfl⟩
       rw [← hze] at hz HSH
       clear HN hze
       go_wp2
       rw [HSH.out]
       exact ⟨⟨1 + 1, by omega, by rfl, hz.out.1, hz.out.2⟩, by simp [intOf]⟩
      ·have hz : Hid _ := HN.out ((x >>> (8 * 2)) % 256) rfl
       have HSH : Hid ((x : Int) / (65536 : Int) % (256 : Int) = (((x >>> (8 * 2)) % 256 : Nat) : Int)) := by show _ = _; rw [Nat.shiftRight_eq_div_pow]; omega
       obtain ⟨z, hze⟩ : ∃ z, z = (x >>> (8 * 2)) % 256 := ⟨_, rfl⟩
       rw [← hze] at hz HSH
       clear HN hze
       go_wp2
       rw [HSH.out]
       exact ⟨⟨2 + 1, by omega, by rfl, hz.out.1, hz.out.2⟩, by simp [intOf]⟩
      ·have hz : Hid _ := HN.out ((x >>> (8 * 3)) % 256) rfl
       have HSH : Hid ((x : Int) / (16777216 : Int) = (((x >>> (8 * 3)) % 256 : Nat) : Int)) := by show _ = _; rw [Nat.shiftRight_eq_div_pow]; omega
       obtain ⟨z, hze⟩ : ∃ z, z = (x >>> (8 * 3)) % 256 := ⟨_, rfl⟩
       rw [← hze] at hz HSH
       clear HN hze
       go_wp2
       rw [HSH.out]
       exact ⟨⟨3 + 1, by omega, by rfl, hz.out.1, hz.out.2⟩, by simp [intOf]⟩
     ·obtain rfl : m = 4 := by omega
      have HE : Hid (wr.heap[ph]? = some (.cells (sv (eP H (4 * (k + 1)))) 43 (0, 0)) ∧ Frm [ph] W5 wr) := ⟨hv, hF⟩
      clear hv hF HV
      go_wp2
      refine ⟨⟨k + 1, by omega, by go_num, HE.out.1, HE.out.2⟩, ?_⟩
      simp [intOf]
      omega
   ·obtain rfl : k = 8 := by omega
    have hv' : wr.heap[ph]? = some (.cells (sv (endL H)) 43 (0, 0)) := by rw [hv, ← eP_end]
    have hr5 : wr.heap[w.heap.size]? = some (.cells (sv z32) 43 (0, 0)) := hF.heap HR4.out (by have := HF4.out.2; simp; omega)
    have HE : Hid (Frm [] w wr) := by
     have h1 : Frm [ph] w wr := (HF4.out.1.mono (by simp)).trans hF
     exact h1.old (fun k hk hlt => by have := HF4.out.2; simp at hk; omega)
    clear hv hF
    go_wp2_with (first | (refine wpList_loadHs rfl _ rfl ph rfl (endL H) (endL_len H) _ _ hv' ?_) | (refine wpList_storeRow 43 hsz rfl _ _ rfl w.heap.size rfl (sv (endL H)) (sv z32) (by rw [sv_size, endL_len]) (by simp [sv_size, z32]) (sv_one _) 43 rfl hr5 ?_; intro w2 hg2 hf2) | fail)
    refine bodyPost_ret (results_cell_row Tryz.results79 _ w2 w.heap.size 43 (sv (endL H)) (0, 0) _ rfl hg2 Tryz.underlying43 rfl (by rw [sv_size, endL_len]; exact hsz)) rfl ⟨by rw [HS.out], ?_⟩
    have h1 : Frm [w.heap.size] w w2 := (HE.out.mono (by simp)).trans hf2
    exact h1.below (Nat.le_refl _) (by simp)
end Go.Proofs.YtanchjfodcjlmaaGreatDoor
/- blake.Keyed and blake.Sum. -/
namespace Go.Proofs.YtanchjfodcjlmaaGreatDoor
open Go.RowKit

theorem newS_any (ad : Option Addr) (cap : Nat) (K : List Nat) (w : World) (hT : Tab w) (hK : SlB w ad K) (h2 : K.length ≤ 32) (hb : ∀ i, K.getD i 0 < 256) :
  Calls Tryz.prog 77 #[.slice ad K.length cap] w fun e w' => e = .returned (.tuple #[.pointer (some ⟨w.heap.size, 0, none⟩), .nilIface]) ∧ StAt w' w.heap.size (new0 K) 0 ∧ Frm [] w w' := by
 by_cases h0 : K.length = 0
 ·have e : K = [] := List.eq_nil_of_length_eq_zero h0
  subst e
  refine (new_none ad cap w hT).mono ?_
  rintro e w' ⟨rfl, hp, hf⟩
  exact ⟨rfl, ⟨z64, 0, hp, z64_by, by omega, rfl⟩, hf⟩
 ·refine (new_key w ad cap K hK (by omega) h2 hT).mono ?_
  rintro e w' ⟨rfl, hp, hf⟩
  have e : new0 K = ⟨Go.Proofs.YtanchjfodcjlmaaGreatDoor.h0 K.length, 0, pad K⟩ := if_neg h0
  rw [e]
  exact ⟨rfl, ⟨pad K, 64, hp, pad_by (by omega) hb, by omega, by rw [List.take_of_length_le (by rw [pad_len (by omega)]; omega)]⟩, hf⟩
theorem SlB.below {w w' : World} {ad : Option Addr} {b : List Nat} (h : SlB w ad b) (hf : Frm [] w w') : SlB w' ad b := h.keep hf (fun _ _ _ _ => by simp)
theorem new0_t (K : List Nat) (h2 : K.length ≤ 32) : (new0 K).t + (new0 K).b.length ≤ 64 := by
 unfold new0
 split
 ·simp
 ·simp [pad_len (show K.length ≤ 64 by omega)]
theorem SlB.lt {w : World} {ad : Option Addr} {b : List Nat} (h : SlB w ad b) {g o : Nat} (e : ad = some ⟨g, o, none⟩) (hl : 0 < b.length) : g < w.heap.size := by
 obtain ⟨g', o', e', hr⟩ := h hl
 rw [e] at e'
 cases e'
 have h1 : (sl8 b)[0]? = some (.int .u8 (b.getD 0 0 : Nat)) := by
  simp [sl8, List.getElem?_eq_getElem hl, List.getD_eq_getElem?_getD]
 exact World.block_lt_of_cell? w _ (hr 0 _ h1)

theorem results_H2 {fn : Func} {p u : Tmp} (h : fn.results = #[.cell p 43, .tmp u]) (tmps : Array Value) (w : World) (g : Nat) (t : TypeId) (z : List Nat) (fr : Nat × Nat) (hz : z.length = 32)
  (hp : tmps.getD p undef = .pointer (some ⟨g, 0, none⟩)) (hg : w.heap[g]? = some (.cells (sv z) t fr)) :
  (results fn tmps).run Tryz.prog w = .ok (.tuple #[.agg (sv z), tmps.getD u undef]) w := by
 have hp' : tmps[p]?.getD undef = .pointer (some ⟨g, 0, none⟩) := by simpa using hp
 simp [results, h, hp', asAddr, run_loadVar_row w g t 43 (sv z) fr _ hg Tryz.underlying43 rfl (by rw [sv_size, hz]; exact hsz)]

set_option maxRecDepth 20000 in
set_option maxHeartbeats 4000000 in
theorem keyed_any (kd ad : Option Addr) (kc cap : Nat) (K b : List Nat) (w : World) (hT : Tab w) (hgl : 4 ≤ w.heap.size) (hK : SlB w kd K) (hkb : ∀ i, K.getD i 0 < 256) (h2 : K.length ≤ 32) (hB : SlB w ad b) (hb : ∀ i, b.getD i 0 < 256) (hcap : b.length ≤ cap) (hl : b.length ≤ 140737488355328) :
  Calls Tryz.prog 58 #[.slice kd K.length kc, .slice ad b.length cap] w fun e w' => e = .returned (.tuple #[.agg (sv (keyedF K b)), .nilIface]) ∧ Below w.heap.size w w' := by
 have hn0 : (w.alloc (.cells (sv z32) 43)).heap[w.heap.size]? = some (.cells (sv z32) 43 (0, 0)) := heap_alloc_new w _
 have hF0 : Frm [] w (w.alloc (.cells (sv z32) 43)) := (Frm.refl [] w).alloc _
 have hl0 : (w.alloc (.cells (sv z32) 43)).heap.size = w.heap.size + 1 := by simp
 have hcall := newS_any kd kc K (w.alloc (.cells (sv z32) 43)) (hT.frm hF0 (by simp)) (hK.below hF0) h2 hkb
 rw [hl0] at hcall
 go_enter Tryz.func58, Tryz.ntmps58
 go_wp2_with (first | (refine wpList_allocHs rfl rfl ?_) | fail)
 refine hcall.mono ?_
 rintro e W1 ⟨rfl, hst1, hf1⟩
 clear hcall
 have hF1 : Frm [] w W1 := hF0.trans hf1
 have hr1 : W1.heap[w.heap.size]? = some (.cells (sv z32) 43 (0, 0)) := hf1.heap hn0 (by simp)
 have hok := new0_ok h2 hkb
 have hnt := new0_t K h2
 have hB1 := hB.below hF1
 have hcall := write_any (w.heap.size + 1) (new0 K) 0 ad cap b W1 hst1 hok (hT.frm hF1 (by simp)) (by omega) hB1 hcap hb (fun g o e hlb => by have := hB.lt e hlb; omega) (by omega) (by omega) (by omega)
 clear hn0 hF0 hl0 hf1 hst1
 go_wp2_with fail
 refine hcall.mono ?_
 rintro e W2 ⟨rfl, hst2, hf2⟩
 clear hcall
 have hF2 : Frm [] w W2 := ((hF1.mono (T := [w.heap.size + 1]) (by simp)).trans hf2).old (fun k hk hlt => by simp at hk; omega)
 have hr2 : W2.heap[w.heap.size]? = some (.cells (sv z32) 43 (0, 0)) := hf2.heap hr1 (by simp)
 have hcall := sumSt_any (w.heap.size + 1) (feed (new0 K) b) _ W2 hst2 (feed_ok b _ hok hb) (hT.frm hF2 (by simp)) (by omega) (by rw [feed_t]; omega)
 clear hr1 hF1 hst2 hf2 hB1
 go_wp2_with fail
 refine hcall.mono ?_
 rintro e W3 ⟨rfl, hb3⟩
 clear hcall
 have hF3 : Frm [] w W3 := hF2.trans (Frm.ofBelow hb3)
 have hr3 : W3.heap[w.heap.size]? = some (.cells (sv z32) 43 (0, 0)) := by rw [hb3.block _ (lt_of_block hr2)]; exact hr2
 obtain ⟨R, hR⟩ : ∃ R, R = sumS (feed (new0 K) b) := ⟨_, rfl⟩
 have hRl : R.length = 32 := by rw [hR]; exact endL_len _
 rw [← hR]
 have HR : Hid (R = keyedF K b) := hR
 clear hR hb3 hr2 hF2
 go_wp2_with (first | (refine wpList_storeRow 43 hsz rfl _ _ rfl w.heap.size rfl (sv R) (sv z32) (by rw [sv_size, hRl]) (by simp [sv_size, z32]) (sv_one _) 43 rfl hr3 ?_; intro w2 hg2 hf2) | fail)
 have h1 : Frm [w.heap.size] w w2 := (hF3.mono (by simp)).trans hf2
 exact bodyPost_ret (results_H2 Tryz.results58 _ w2 w.heap.size 43 R (0, 0) hRl rfl hg2) rfl ⟨by rw [← HR.out]; rfl, h1.below (Nat.le_refl _) (by simp)⟩


set_option maxRecDepth 20000 in
theorem sum_any (ad : Option Addr) (cap : Nat) (b : List Nat) (w : World) (hT : Tab w) (hgl : 4 ≤ w.heap.size) (hB : SlB w ad b) (hb : ∀ i, b.getD i 0 < 256) (hcap : b.length ≤ cap) (hl : b.length ≤ 140737488355328) :
  Calls Tryz.prog 39 #[.slice ad b.length cap] w fun e w' => e = .returned (.agg (sv (sumF b))) ∧ Below w.heap.size w w' := by
 have hn0 : (w.alloc (.cells (sv z32) 43)).heap[w.heap.size]? = some (.cells (sv z32) 43 (0, 0)) := heap_alloc_new w _
 have hF0 : Frm [] w (w.alloc (.cells (sv z32) 43)) := (Frm.refl [] w).alloc _
 have hl0 : w.heap.size < (w.alloc (.cells (sv z32) 43)).heap.size := by simp
 have hcall := keyed_any none ad 0 cap [] b (w.alloc (.cells (sv z32) 43)) (hT.frm hF0 (by simp)) (by omega) (SlB.nil _ _) (by simp) (by simp) (hB.below hF0) hb hcap hl
 have hRl : (sumF b).length = 32 := endL_len _
 obtain ⟨R, hR⟩ : ∃ R, R = keyedF [] b := ⟨_, rfl⟩
 rw [← hR] at hcall
 rw [show sumF b = R from hR.symm] at hRl ⊢
 clear hR
 go_enter Tryz.func39, Tryz.ntmps39
 go_wp2_with (first | (refine wpList_allocHs rfl rfl ?_) | fail)
 refine hcall.mono ?_
 rintro e W1 ⟨rfl, hb1⟩
 clear hcall
 have hr1 : W1.heap[w.heap.size]? = some (.cells (sv z32) 43 (0, 0)) := by rw [hb1.block _ hl0]; exact hn0
 have hF1 : Frm [] w W1 := hF0.trans (Frm.ofBelow hb1)
 have hl1 := lt_of_block hr1
 have hn1 := heap_alloc_new W1 (.cells (sv z32) 43)
 have hr2 : (W1.alloc (.cells (sv z32) 43)).heap[w.heap.size]? = some (.cells (sv z32) 43 (0, 0)) := by rw [Below.heap_alloc _ _ _ hl1]; exact hr1
 have HF2 : Hid (Frm [] w (W1.alloc (.cells (sv z32) 43))) := hF1.alloc _
 clear hb1 hn0 hF0 hl0 hr1 hF1
 go_wp2_with (first | (refine wpList_allocHs rfl rfl ?_) | (refine wpList_storeRow 43 hsz rfl _ _ rfl W1.heap.size rfl (sv R) (sv z32) (by rw [sv_size, hRl]) (by simp [sv_size, z32]) (sv_one _) 43 rfl hn1 ?_; intro W2 hg2 hf2; have hr3 : W2.heap[w.heap.size]? = some (.cells (sv z32) 43 (0, 0)) := hf2.heap hr2 (by simp; omega); have HF3 : Hid (Frm [W1.heap.size] (W1.alloc (.cells (sv z32) 43)) W2) := hf2; clear hf2) | (refine wpList_loadHs rfl _ rfl W1.heap.size rfl R hRl _ _ hg2 ?_) | (refine wpList_storeRow 43 hsz rfl _ _ rfl w.heap.size rfl (sv R) (sv z32) (by rw [sv_size, hRl]) (by simp [sv_size, z32]) (sv_one _) 43 rfl hr3 ?_; intro W3 hg3 hf3) | fail)
 have h1 : Frm [W1.heap.size, w.heap.size] w W3 := ((HF2.out.mono (by simp)).trans (HF3.out.mono (by simp))).trans (hf3.mono (by simp))
 exact bodyPost_ret (results_cell_row Tryz.results39 _ W3 w.heap.size 43 (sv R) (0, 0) _ rfl hg3 Tryz.underlying43 rfl (by rw [sv_size, hRl]; exact hsz)) rfl ⟨rfl, h1.below (Nat.le_refl _) (by simp; omega)⟩
end Go.Proofs.YtanchjfodcjlmaaGreatDoor
/- Transactions: how they lie; what may be an input. -/
namespace Go.Proofs.YtanchjfodcjlmaaGreatDoor
open Go.RowKit

/-- Bytes of a sum. -/
def Hb (z : Nat → Int) : Prop := ∀ j, j < 32 → 0 ≤ z j ∧ z j ≤ 255
/-- What an input says: its point, its branch, how long its secret is. -/
structure Ti where
 pt : Nat → Int
 n : Int
 br : Int
 sn : Nat
instance : Inhabited Ti := ⟨⟨fun _ => 0, 0, 0, 0⟩⟩
/-- A point's 33 cells; an input's 35. -/
def ptl (z : Nat → Int) (n : Int) : List Value := bl z 32 ++ [.int .i64 n]
theorem ptl_length (z : Nat → Int) (n : Int) : (ptl z n).length = 33 := by simp [ptl, bl_length]
def til (x : Ti) (sa : Option Addr) (sc : Nat) : List Value := bl x.pt 32 ++ [.int .i64 x.n, .int .i64 x.br, .slice sa x.sn sc]
theorem til_length (x : Ti) (sa : Option Addr) (sc : Nat) : (til x sa sc).length = 35 := by simp [til, bl_length]
def tiv (x : Ti) (sa : Option Addr) (sc : Nat) : Array Value := (til x sa sc).toArray
theorem tiv_size (x : Ti) (sa : Option Addr) (sc : Nat) : (tiv x sa sc).size = 35 := by simp [tiv, til_length]
theorem til_one (x : Ti) (sa : Option Addr) (sc : Nat) : ∀ u ∈ til x sa sc, u.oneCell' = true := by
 intro u hu
 simp only [til, List.mem_append] at hu
 rcases hu with hu | hu
 ·exact bl_one _ _ _ hu
 ·simp at hu
  rcases hu with rfl | rfl | rfl <;> rfl
theorem til_32 (x : Ti) (sa : Option Addr) (sc : Nat) : (til x sa sc)[32]? = some (.int .i64 x.n) := by
 rw [til, List.getElem?_append_right (by rw [bl_length]; exact Nat.le_refl _), bl_length]; rfl
theorem til_33 (x : Ti) (sa : Option Addr) (sc : Nat) : (til x sa sc)[33]? = some (.int .i64 x.br) := by
 rw [til, List.getElem?_append_right (by rw [bl_length]; decide), bl_length]; rfl
theorem til_34 (x : Ti) (sa : Option Addr) (sc : Nat) : (til x sa sc)[34]? = some (.slice sa x.sn sc) := by
 rw [til, List.getElem?_append_right (by rw [bl_length]; decide), bl_length]; rfl
/-- An input that may be. -/
def InOk (x : Ti) : Prop := (0 ≤ x.n ∧ x.n ≤ 63) ∧ (0 ≤ x.br ∧ x.br ≤ 7) ∧ x.sn ≤ 64
instance (x : Ti) : Decidable (InOk x) := inferInstanceAs (Decidable (_ ∧ _))
theorem kwithin_any (n l m : Int) (w : World) :
  Calls Tryz.prog 25 #[.int .i64 n, .int .i64 l, .int .i64 m] w fun e w' => e = .returned (.bool (decide (l ≤ n ∧ n ≤ m))) ∧ w' = w := by
 by_cases h : l ≤ n
 ·go_enter Tryz.func25, Tryz.ntmps25
  go_wp2
  go_ret
  simp [h]
 ·have e : decide (l ≤ n ∧ n ≤ m) = false := by simp; omega
  rw [e]
  go_enter Tryz.func25, Tryz.ntmps25
  go_wp2
  go_ret
  simp
theorem cell_list {w : World} {g k : Nat} {l : List Value} {t : TypeId} {fr : Nat × Nat} {v : Value} (h : w.heap[g]? = some (.cells l.toArray t fr)) (hk : l[k]? = some v) : w.cell? ⟨g, k, none⟩ = some v := by
 rw [cell_of_row _ _ k _ _ _ h]
 simpa using hk
set_option maxRecDepth 100000 in
set_option maxHeartbeats 1600000 in
theorem kmayBe_any (x : Ti) (sa : Option Addr) (sc : Nat) (w : World) :
  Calls Tryz.prog 29 #[.agg (tiv x sa sc)] w fun e w' => e = .returned (.bool (decide (InOk x))) ∧ Below w.heap.size w w' := by
 have hb0 : Below w.heap.size w (w.alloc (.cells (tiv x sa sc) 59)) := (Below.refl _ w).alloc (Nat.le_refl _) _
 have hr0 := heap_alloc_new w (.cells (tiv x sa sc) 59)
 have c32 := cell_list hr0 (til_32 x sa sc)
 have c33 := cell_list hr0 (til_33 x sa sc)
 have c34 := cell_list hr0 (til_34 x sa sc)
 have HB : Hid (Below w.heap.size w (w.alloc (.cells (tiv x sa sc) 59))) := hb0
 clear hr0 hb0
 go_enter Tryz.func29, Tryz.ntmps29
 go_wp2_with (first | (refine Go.Great.wpList_boxTo rfl _ _ rfl _ rfl _ rfl (tiv x sa sc) rfl ?_) | fail)
 refine (kwithin_any x.n 0 63 _).mono ?_
 rintro e w1 ⟨rfl, hW⟩
 rw [hW]
 clear hW
 by_cases h1 : 0 ≤ x.n ∧ x.n ≤ 63
 ·have d1 : decide (0 ≤ x.n ∧ x.n ≤ 63) = true := by simpa using h1
  rw [d1]
  go_wp2_with fail
  refine (kwithin_any x.br 0 7 _).mono ?_
  rintro e w1 ⟨rfl, hW⟩
  rw [hW]
  clear hW
  by_cases h2 : 0 ≤ x.br ∧ x.br ≤ 7
  ·have d2 : decide (0 ≤ x.br ∧ x.br ≤ 7) = true := by simpa using h2
   have D3 : Hid (decide (InOk x) = decide ((x.sn : Int) ≤ 64)) := decide_eq_decide.2 ⟨fun h => by have := h.2.2; omega, fun h => ⟨h1, h2, by omega⟩⟩
   rw [d2]
   clear d1 d2 h1 h2
   go_wp2
   go_ret
   exact ⟨by rw [D3.out]; rfl, HB.out⟩
  ·have d2 : decide (0 ≤ x.br ∧ x.br ≤ 7) = false := by simpa using h2
   have D3 : Hid (decide (InOk x) = false) := decide_eq_false fun h => h2 h.2.1
   rw [d2]
   clear d1 d2 h1 h2
   go_wp2
   go_ret
   exact ⟨by rw [D3.out]; rfl, HB.out⟩
 ·have d1 : decide (0 ≤ x.n ∧ x.n ≤ 63) = false := by simpa using h1
  have D3 : Hid (decide (InOk x) = false) := decide_eq_false fun h => h1 h.1
  rw [d1]
  clear d1 h1
  go_wp2
  go_ret
  exact ⟨by rw [D3.out]; rfl, HB.out⟩
theorem szTi : (Tryz.prog.info? 59).map (·.size) = some 35 := by kernel_rfl
theorem szTil (x : Ti) (sa : Option Addr) (sc : Nat) : (Tryz.prog.info? 59).map (·.size) = some (til x sa sc).length := by rw [til_length]; exact szTi
theorem til_range {w : World} {g : Nat} {x : Ti} {sa : Option Addr} {sc : Nat} {t : TypeId} {fr : Nat × Nat} (h : w.heap[g]? = some (.cells (tiv x sa sc) t fr)) : w.rangeAt g 0 (til x sa sc) := fun j v hv => by
 rw [Nat.zero_add, cell_of_row _ _ j _ _ _ h]
 simpa [tiv] using hv
/-- The closure that Check hands on. -/
theorem kbad_any (x : Ti) (sa : Option Addr) (sc : Nat) (w : World) :
  Calls Tryz.prog 28 #[.agg (tiv x sa sc)] w fun e w' => e = .returned (.bool (!decide (InOk x))) ∧ Below w.heap.size w w' := by
 have hb0 : Below w.heap.size w (w.alloc (.cells (tiv x sa sc) 59)) := (Below.refl _ w).alloc (Nat.le_refl _) _
 have HR : Hid ((w.alloc (.cells (tiv x sa sc) 59)).rangeAt w.heap.size 0 (til x sa sc)) := til_range (heap_alloc_new w (.cells (tiv x sa sc) 59))
 have hc := kmayBe_any x sa sc (w.alloc (.cells (tiv x sa sc) 59))
 unfold tiv at hc
 go_enter Tryz.func28, Tryz.ntmps28
 go_wp2_with (first | (refine Go.Great.wpList_boxTo rfl _ _ rfl _ rfl _ rfl (tiv x sa sc) rfl ?_) | (refine wpList_load_mid rfl 59 _ rfl w.heap.size 0 rfl (til x sa sc) _ HR.out Tryz.underlying59 rfl (szTil _ _ _) ?_) | fail)
 refine hc.mono ?_
 rintro e w1 ⟨rfl, hb1⟩
 have HB : Hid (Below w.heap.size w w1) := hb0.trans (hb1.mono hb0.size)
 clear hb0 hb1 hc
 go_wp2
 go_ret
 exact ⟨rfl, HB.out⟩
end Go.Proofs.YtanchjfodcjlmaaGreatDoor
/- Inputs of a transaction: whether one of them may not be. -/
namespace Go.Proofs.YtanchjfodcjlmaaGreatDoor
open Go.RowKit

/-- n inputs lie at an address; their secrets at S. -/
structure TiAt (w : World) (ad : Option Addr) (n : Nat) (X : Nat → Ti) (S : Nat → Option Addr × Nat) : Prop where
 pt : ∀ i, i < n → Hb (X i).pt
 at_ : 0 < n → ∃ b off, ad = some ⟨b, off, none⟩ ∧ ∀ i, i < n → w.rangeAt b (off + i * 35) (til (X i) (S i).1 (S i).2)
theorem TiAt.nil (w : World) (ad : Option Addr) (X : Nat → Ti) (S : Nat → Option Addr × Nat) : TiAt w ad 0 X S := ⟨fun _ h => by omega, fun h => by omega⟩
theorem TiAt.below {w w' : World} {ad : Option Addr} {n : Nat} {X : Nat → Ti} {S : Nat → Option Addr × Nat} (h : TiAt w ad n X S) (hb : Below w.heap.size w w') : TiAt w' ad n X S := by
 refine ⟨h.pt, fun hn => ?_⟩
 obtain ⟨b, off, e, hr⟩ := h.at_ hn
 exact ⟨b, off, e, fun i hi => range_below (hr i hi) hb⟩
/-- All inputs may be. -/
def InsOk (X : Nat → Ti) (n : Nat) : Prop := ∀ i, i < n → InOk (X i)
instance (X : Nat → Ti) (n : Nat) : Decidable (InsOk X n) := inferInstanceAs (Decidable (∀ i, i < n → _))
set_option maxRecDepth 100000 in
set_option maxHeartbeats 1600000 in
theorem kindex_any (ad : Option Addr) (n cap : Nat) (X : Nat → Ti) (S : Nat → Option Addr × Nat) (w : World) (h : TiAt w ad n X S) (hn : n ≤ 1000000) :
  Calls Tryz.prog 50 #[.slice ad n cap, .func (.func 28) #[] #[]] w fun e w' => (∃ q : Int, e = .returned (.int .i64 q) ∧ decide (q ≥ 0) = !decide (InsOk X n)) ∧ Below w.heap.size w w' := by
 have HB : Hid (TiAt w ad n X S) := h
 have hb0 := Below.refl w.heap.size w
 have eg : ∀ args w, (callFunc 28 args).run Tryz.prog w = .ok (.enter 28 args) w := enters_of Tryz.func28 (by kernel_rfl) rfl
 clear h
 go_enter Tryz.func50, Tryz.ntmps50
 go_wp2
 go_loopw [5, 8] (fun _ iv wr => ∃ i : Nat, i ≤ n ∧ iv = .int .i64 i ∧ InsOk X i ∧ Below w.heap.size w wr) (fun _ iv _ => n + 1 - (intOf iv).toNat)
 case atStart => exact ⟨0, by omega, rfl, fun j hj => by omega, hb0⟩
 case round =>
  clear hb0
  obtain ⟨i, hi, rfl, hk, hb⟩ := hrel
  have HK : Hid (InsOk X i) := hk
  clear hk
  by_cases hlt : i < n
  ·have hlt' : (i : Int) < n := by omega
   obtain ⟨b, off, rfl, hc⟩ := HB.out.at_ (by omega)
   have HR : Hid (wr.rangeAt b (off + i * 35) (til (X i) (S i).1 (S i).2)) := range_below (hc i hlt) hb
   have hcall := kbad_any (X i) (S i).1 (S i).2 wr
   unfold tiv at hcall
   clear hc
   by_cases hq : InOk (X i)
   ·have e1 : decide (InOk (X i)) = true := by simp [hq]
    rw [e1] at hcall
    have HN : Hid (InsOk X (i + 1)) := fun j hj => by
     by_cases e : j = i
     ·subst e; exact hq
     ·exact HK.out j (by omega)
    clear e1 hq
    go_wp2_with (first | (refine wpList_load_mid rfl 59 _ rfl b (off + i * 35) rfl (til (X i) (S i).1 (S i).2) _ HR.out Tryz.underlying59 rfl (szTil _ _ _) ?_) | (go_at_fn 28; refine hcall.mono ?_; rintro e w1 ⟨rfl, hb1⟩) | fail)
    go_roundw
    case rel => exact ⟨i + 1, by omega, by go_num, HN.out, hb.trans (hb1.mono hb.size)⟩
    case measure => simp [intOf]; omega
   ·have e1 : decide (InOk (X i)) = false := by simpa using hq
    rw [e1] at hcall
    have HN : Hid (¬ InsOk X n) := fun h => hq (h i hlt)
    clear e1 hq
    go_wp2_with (first | (refine wpList_load_mid rfl 59 _ rfl b (off + i * 35) rfl (til (X i) (S i).1 (S i).2) _ HR.out Tryz.underlying59 rfl (szTil _ _ _) ?_) | (go_at_fn 28; refine hcall.mono ?_; rintro e w1 ⟨rfl, hb1⟩) | fail)
    go_ret
    refine ⟨⟨_, rfl, ?_⟩, hb.trans (hb1.mono hb.size)⟩
    have := HN.out
    simp [this]
  ·obtain rfl : i = n := by omega
   have hnn : ¬ ((i : Int) < i) := by omega
   have hk := HK.out
   go_wp2
   go_ret
   refine ⟨⟨_, rfl, ?_⟩, hb⟩
   simp
set_option maxHeartbeats 800000 in
theorem kcontains_any (ad : Option Addr) (n cap : Nat) (X : Nat → Ti) (S : Nat → Option Addr × Nat) (w : World) (h : TiAt w ad n X S) (hn : n ≤ 1000000) :
  Calls Tryz.prog 30 #[.slice ad n cap, .func (.func 28) #[] #[]] w fun e w' => e = .returned (.bool (!decide (InsOk X n))) ∧ Below w.heap.size w w' := by
 have hi := kindex_any ad n cap X S w h hn
 clear h
 generalize (!decide (InsOk X n)) = r at *
 go_enter Tryz.func30, Tryz.ntmps30
 go_wp2_with (go_at_call 50; refine hi.mono ?_; rintro e w1 ⟨⟨q, rfl, hq⟩, hb1⟩)
 all_goals (go_ret; exact ⟨by simp_all, hb1⟩)
end Go.Proofs.YtanchjfodcjlmaaGreatDoor
/- errors.As at a target of type *api.Errno: of nil false; of an api.Errno true, and the target is set. -/
namespace Go.Proofs.YtanchjfodcjlmaaGreatDoor
open Go.RowKit Go.Extern.Stop Go.Stop Go.Extern


theorem as_valueOfP (t : Addr) (w : World) : (ReflectliteValue.unpack (.iface 84 (.pointer (some t)))).run Tryz.prog w
  = .ok (.agg #[.pointer (some ⟨4, 84, none⟩), .pointer (some ⟨w.heap.size, 0, none⟩), .int .u64 150]) (w.alloc (.cells #[.pointer (some t)] 84)) := by kernel_rfl
theorem as_typeP (a : Addr) (w : World) : (ReflectliteValue.methodAny (ReflectliteValue.valueError "reflectlite.Value.Type" 0) (fun t _ _ _ => ReflectliteType.toType t) #[.agg #[.pointer (some ⟨4, 84, none⟩), .pointer (some a), .int .u64 150]]).run Tryz.prog w
  = .ok (.iface 134 (.agg #[.pointer (some ⟨4, 84, none⟩)])) w := by kernel_rfl
theorem as_methodKind (h : Value) (w : World) : (Go.method 339 134 (.agg #[h]) "Kind").run Tryz.prog w = .ok (132, h) w := by kernel_rfl
theorem as_kindP (w : World) : ((ReflectliteType.abiMethod fun t => (fun a : Nat => Value.int IntKind.u8 (a : Int)) <$> Rtype.kind t) #[.pointer (some ⟨4, 84, none⟩)]).run Tryz.prog w = .ok (.int .u8 22) w := by kernel_rfl
theorem as_kindE (w : World) : ((ReflectliteType.abiMethod fun t => (fun a : Nat => Value.int IntKind.u8 (a : Int)) <$> Rtype.kind t) #[.pointer (some ⟨4, 81, none⟩)]).run Tryz.prog w = .ok (.int .u8 2) w := by kernel_rfl
theorem as_partsP (a : Addr) (w : World) : (ReflectliteValue.parts (.agg #[.pointer (some ⟨4, 84, none⟩), .pointer (some a), .int .u64 150])).run Tryz.prog w = .ok (some (84, a, 150)) w := by kernel_rfl
theorem as_isNilP (a p : Addr) (W : World) (ha : W.cell? a = some (.pointer (some p))) :
  (ReflectliteValue.method (ReflectliteValue.valueError "reflectlite.Value.IsNil" 0) ReflectliteValue.isNil #[.agg #[.pointer (some ⟨4, 84, none⟩), .pointer (some a), .int .u64 150]]).run Tryz.prog W = .ok (.bool false) W := by
 delta ReflectliteValue.method
 delta ReflectliteValue.method.match_2
 dsimp [Array.getLit]
 simp only [Sem.run_bind, as_partsP, Result.andThen]
 simp [ReflectliteValue.isNil, loadVar, isAgg, underlying, Tryz.underlying84, ha, Result.andThen]
theorem as_methodElem (h : Value) (w : World) : (Go.method 339 134 (.agg #[h]) "Elem").run Tryz.prog w = .ok (142, .agg #[h]) w := by kernel_rfl
theorem as_methodImplements (h : Value) (w : World) : (Go.method 339 134 (.agg #[h]) "Implements").run Tryz.prog w = .ok (143, .agg #[h]) w := by kernel_rfl
theorem as_methodAssignableTo (h : Value) (w : World) : (Go.method 339 134 (.agg #[h]) "AssignableTo").run Tryz.prog w = .ok (140, .agg #[h]) w := by kernel_rfl
theorem as_elemP (w : World) : (ReflectliteType.method ReflectliteType.elem #[.agg #[.pointer (some ⟨4, 84, none⟩)]]).run Tryz.prog w = .ok (.iface 134 (.agg #[.pointer (some ⟨4, 81, none⟩)])) w := by kernel_rfl
theorem as_implementsE (w : World) : (ReflectliteType.relation "Implements" ReflectliteType.implements_ #[.agg #[.pointer (some ⟨4, 81, none⟩)], .iface 134 (.agg #[.pointer (some ⟨4, 29, none⟩)])]).run Tryz.prog w = .ok (.bool true) w := by kernel_rfl
theorem as_typeOfE (v : Value) (w : World) : (ReflectliteType.typeOf #[.iface 81 v]).run Tryz.prog w = .ok (.iface 134 (.agg #[.pointer (some ⟨4, 81, none⟩)])) w := by kernel_rfl
theorem as_assignableE (w : World) : (ReflectliteType.relation "AssignableTo" ReflectliteType.assignableTo #[.agg #[.pointer (some ⟨4, 81, none⟩)], .iface 134 (.agg #[.pointer (some ⟨4, 81, none⟩)])]).run Tryz.prog w = .ok (.bool true) w := by kernel_rfl
theorem as_valueOfE (x : Int) (w : World) : (ReflectliteValue.unpack (.iface 81 (.int .i64 x))).run Tryz.prog w
  = .ok (.agg #[.pointer (some ⟨4, 81, none⟩), .pointer (some ⟨w.heap.size, 0, none⟩), .int .u64 130]) (w.alloc (.cells #[.int .i64 x] 81)) := by kernel_rfl
theorem as_elemOfP (w : World) : (Rtype.elem? 84).run Tryz.prog w = .ok (some 81) w := by kernel_rfl
theorem as_mkE (p : Addr) (w : World) : (ReflectliteValue.mk 81 p ReflectliteValue.flagAddr).run Tryz.prog w = .ok (.agg #[.pointer (some ⟨4, 81, none⟩), .pointer (some p), .int .u64 386]) w := by kernel_rfl
theorem as_elemVP (a p : Addr) (W : World) (ha : W.cell? a = some (.pointer (some p))) :
  (ReflectliteValue.method (ReflectliteValue.valueError "reflectlite.Value.Elem" 0) ReflectliteValue.elem #[.agg #[.pointer (some ⟨4, 84, none⟩), .pointer (some a), .int .u64 150]]).run Tryz.prog W
   = .ok (.agg #[.pointer (some ⟨4, 81, none⟩), .pointer (some p), .int .u64 386]) W := by
 delta ReflectliteValue.method
 delta ReflectliteValue.method.match_2
 dsimp [Array.getLit]
 simp only [Sem.run_bind, as_partsP, Result.andThen]
 simp [ReflectliteValue.elem, loadVar, isAgg, underlying, Tryz.underlying84, ha, Result.andThen, as_elemOfP, as_mkE]
theorem as_partsEa (a : Addr) (w : World) : (ReflectliteValue.parts (.agg #[.pointer (some ⟨4, 81, none⟩), .pointer (some a), .int .u64 386])).run Tryz.prog w = .ok (some (81, a, 386)) w := by kernel_rfl
theorem as_partsE (a : Addr) (w : World) : (ReflectliteValue.parts (.agg #[.pointer (some ⟨4, 81, none⟩), .pointer (some a), .int .u64 130])).run Tryz.prog w = .ok (some (81, a, 130)) w := by kernel_rfl
theorem as_directE (w : World) : (Rtype.directlyAssignable 81 81).run Tryz.prog w = .ok true w := by kernel_rfl
theorem as_setE (ta b : Addr) (x : Int) (old : Value) (W : World) (hb : W.cell? b = some (.int .i64 x)) (ht : W.cell? ta = some old) (hf : W.frozen? ta = false) :
  (ReflectliteValue.set #[.agg #[.pointer (some ⟨4, 81, none⟩), .pointer (some ta), .int .u64 386], .agg #[.pointer (some ⟨4, 81, none⟩), .pointer (some b), .int .u64 130]]).run Tryz.prog W
   = .ok (.tuple #[]) (W.setCell ta (.int .i64 x)) := by
 delta ReflectliteValue.set
 delta ReflectliteValue.set.match_3
 dsimp [Array.getLit]
 simp only [Sem.run_bind, as_partsEa, as_partsE, Result.andThen]
 simp [ReflectliteValue.flagAddr, loadVar, isAgg, underlying, Tryz.underlying81, hb, Result.andThen, as_directE, storeVar, Value.cells, storeCells, Addr.add]
 rw [run_store Tryz.prog W ta _ _ (by rfl)]
 simp [ht, hf]

set_option maxHeartbeats 4000000 in
theorem as_hit (x : Int) (t : Addr) (old : Value) (w : World) (hg : w.cell? ⟨0, 0, none⟩ = some (.iface 134 (.agg #[.pointer (some ⟨4, 29, none⟩)]))) (ht0 : w.cell? t = some old) (hf0 : w.frozen? t = false) :
  Calls Tryz.prog 27 #[.iface 81 (.int .i64 x), .iface 84 (.pointer (some t))] w fun ev w' => ev = .returned (.bool true) ∧ w' = ((((w.alloc (.cells #[.pointer (some t)] 84)).alloc (.cells #[.pointer (some ⟨4, 84, none⟩), .pointer (some ⟨w.heap.size, 0, none⟩), .int .u64 150] 105)).alloc (.cells #[.pointer (some ⟨4, 84, none⟩), .pointer (some ⟨w.heap.size, 0, none⟩), .int .u64 150] 105)).alloc (.cells #[.int .i64 x] 81)).setCell t (.int .i64 x) := by
 have h6 := @run_callFunc_extern Tryz.prog 46 _ (fun args => ReflectliteValue.unpack (args.getD 0 (.tuple #[]))) Tryz.func46 (by kernel_rfl) (by kernel_rfl) (by kernel_rfl) (by kernel_rfl)
 have h7 := @run_callFunc_extern Tryz.prog 47 _ (ReflectliteValue.methodAny (ReflectliteValue.valueError "reflectlite.Value.Type" 0) (fun t _ _ _ => ReflectliteType.toType t)) Tryz.func47 (by kernel_rfl) (by kernel_rfl) (by kernel_rfl) (by kernel_rfl)
 have h8 := @run_callFunc_extern Tryz.prog 48 _ (ReflectliteValue.method (ReflectliteValue.valueError "reflectlite.Value.IsNil" 0) ReflectliteValue.isNil) Tryz.func48 (by kernel_rfl) (by kernel_rfl) (by kernel_rfl) (by kernel_rfl)
 have h27 := @run_callFunc_extern Tryz.prog 132 _ (ReflectliteType.abiMethod fun t => do pure (.int .u8 (← Rtype.kind t))) Tryz.func132 (by kernel_rfl) (by kernel_rfl) (by kernel_rfl) (by kernel_rfl)
 have h37 := @run_callFunc_extern Tryz.prog 142 _ (ReflectliteType.method ReflectliteType.elem) Tryz.func142 (by kernel_rfl) (by kernel_rfl) (by kernel_rfl) (by kernel_rfl)
 have h38 := @run_callFunc_extern Tryz.prog 143 _ (ReflectliteType.relation "Implements" ReflectliteType.implements_) Tryz.func143 (by kernel_rfl) (by kernel_rfl) (by kernel_rfl) (by kernel_rfl)
 have h10 := @run_callFunc_extern Tryz.prog 67 _ (ReflectliteType.typeOf) Tryz.func67 (by kernel_rfl) (by kernel_rfl) (by kernel_rfl) (by kernel_rfl)
 have h35 := @run_callFunc_extern Tryz.prog 140 _ (ReflectliteType.relation "AssignableTo" ReflectliteType.assignableTo) Tryz.func140 (by kernel_rfl) (by kernel_rfl) (by kernel_rfl) (by kernel_rfl)
 have h11 := @run_callFunc_extern Tryz.prog 68 _ (ReflectliteValue.method (ReflectliteValue.valueError "reflectlite.Value.Elem" 0) ReflectliteValue.elem) Tryz.func68 (by kernel_rfl) (by kernel_rfl) (by kernel_rfl) (by kernel_rfl)
 have h12 := @run_callFunc_extern Tryz.prog 69 _ (ReflectliteValue.set) Tryz.func69 (by kernel_rfl) (by kernel_rfl) (by kernel_rfl) (by kernel_rfl)
 have k_typeOfE := as_typeOfE
 have k_methodAssignableTo := as_methodAssignableTo
 have k_assignableE := as_assignableE
 have k_valueOfE := as_valueOfE
 have k_valueOfP := as_valueOfP
 have k_typeP := as_typeP
 have k_methodKind := as_methodKind
 have k_methodElem := as_methodElem
 have k_methodImplements := as_methodImplements
 have k_kindP := as_kindP
 have k_kindE := as_kindE
 have k_elemP := as_elemP
 have k_implementsE := as_implementsE
 have n8 := as_isNilP ⟨w.heap.size, 0, none⟩ t ((w.alloc (.cells #[.pointer (some t)] 84)).alloc (.cells #[.pointer (some ⟨4, 84, none⟩), .pointer (some ⟨w.heap.size, 0, none⟩), .int .u64 150] 105)) (by simp)
 have hlt : 0 < w.heap.size := by
  rcases Nat.eq_zero_or_pos w.heap.size with h0 | h
  ·simp [World.cell?, h0] at hg
  ·exact h
 have hg2 : ((w.alloc (.cells #[.pointer (some t)] 84)).alloc (.cells #[.pointer (some ⟨4, 84, none⟩), .pointer (some ⟨w.heap.size, 0, none⟩), .int .u64 150] 105)).cell? ⟨0, 0, none⟩ = some (.iface 134 (.agg #[.pointer (some ⟨4, 29, none⟩)])) := by
  rw [World.cell?_alloc_lt _ _ ⟨0, 0, none⟩ (by simp), World.cell?_alloc_lt _ _ ⟨0, 0, none⟩ hlt]; exact hg
 have htl : t.block < w.heap.size := by
  rcases Nat.lt_or_ge t.block w.heap.size with h | h
  ·exact h
  ·simp [World.cell?, Array.getElem?_eq_none h] at ht0
 have el := as_elemVP ⟨w.heap.size, 0, none⟩ t (((w.alloc (.cells #[.pointer (some t)] 84)).alloc (.cells #[.pointer (some ⟨4, 84, none⟩), .pointer (some ⟨w.heap.size, 0, none⟩), .int .u64 150] 105)).alloc (.cells #[.pointer (some ⟨4, 84, none⟩), .pointer (some ⟨w.heap.size, 0, none⟩), .int .u64 150] 105)) (by rw [World.cell?_alloc_lt _ _ ⟨w.heap.size, 0, none⟩ (by simp; omega)]; simp)
 have st := as_setE t ⟨w.heap.size + 1 + 1 + 1, 0, none⟩ x old ((((w.alloc (.cells #[.pointer (some t)] 84)).alloc (.cells #[.pointer (some ⟨4, 84, none⟩), .pointer (some ⟨w.heap.size, 0, none⟩), .int .u64 150] 105)).alloc (.cells #[.pointer (some ⟨4, 84, none⟩), .pointer (some ⟨w.heap.size, 0, none⟩), .int .u64 150] 105)).alloc (.cells #[.int .i64 x] 81))
  (by rw [World.cell?_alloc_at _ _ _ _ (by simp)]; rfl)
  (by rw [World.cell?_alloc_lt _ _ t (by simp; omega), World.cell?_alloc_lt _ _ t (by simp; omega), World.cell?_alloc_lt _ _ t (by simp; omega), World.cell?_alloc_lt _ _ t htl]; exact ht0)
  (by rw [World.frozen?_alloc_old _ _ t (by simp; omega), World.frozen?_alloc_old _ _ t (by simp; omega), World.frozen?_alloc_old _ _ t (by simp; omega), World.frozen?_alloc_old _ _ t (Nat.ne_of_lt htl)]; exact hf0)
 go_enter Tryz.func27, Tryz.ntmps27
 go_wp2
 refine wp_loop_rounds 1 ?_
 rw [rounds_succ]
 go_wp2
 go_ret
 exact ⟨rfl, rfl⟩
end Go.Proofs.YtanchjfodcjlmaaGreatDoor
/- num: the number of an error. -/
namespace Go.Proofs.YtanchjfodcjlmaaGreatDoor.Cd
open Go.RowKit

/-- The library's variable that holds the type error's own handle. -/
def Glob (w : World) : Prop := w.cell? ⟨0, 0, none⟩ = some (.iface 134 (.agg #[.pointer (some ⟨4, 29, none⟩)]))
theorem Glob.below {w w' : World} {B : Nat} (h : Glob w) (hb : Below B w w') (hB : 0 < B) : Glob w' := by
 unfold Glob at *
 rw [hb.cell (p := ⟨0, 0, none⟩) hB]; exact h
theorem Glob.pos {w : World} (h : Glob w) : 0 < w.heap.size := World.block_lt_of_cell? w ⟨0, 0, none⟩ h
theorem Glob.frm {w w' : World} {S : List Nat} (h : Glob w) (hf : Frm S w w') (hS : 0 ∉ S) : Glob w' := by
 unfold Glob at *
 rw [World.cell?_of_block (a := ⟨0, 0, none⟩) (hf.block 0 (World.block_lt_of_cell? w ⟨0, 0, none⟩ h) hS)]; exact h

set_option maxHeartbeats 400000 in
theorem num_nil (w : World) :
  Calls Tryz.prog 11 #[.nilIface] w fun e w' => e = .returned (.int .i64 0) ∧ Below w.heap.size w w' := by
 go_enter Tryz.func11, Tryz.ntmps11
 go_wp2
 go_ret
 exact ⟨rfl, (by repeat (first | exact Below.refl _ _ | refine Below.alloc ?_ (by simp; try omega) _ | refine Below.setCell ?_ (by simp) _ | refine below_drewN ?_ _ | refine Below.drew ?_))⟩

set_option maxHeartbeats 400000 in
theorem num_hit (x : Int) (w : World) (hg : Glob w) :
  Calls Tryz.prog 11 #[.iface 81 (.int .i64 x)] w fun e w' => e = .returned (.int .i64 x) ∧ Below w.heap.size w w' := by
 have hp := hg.pos
 have hg1 : Glob (w.alloc (.cells #[.int .i64 0] 81)) := hg.below ((Below.refl _ w).alloc (Nat.le_refl _) _) hp
 have ht : (w.alloc (.cells #[.int .i64 0] 81)).cell? ⟨w.heap.size, 0, none⟩ = some (.int .i64 0) := by simp
 have hf : (w.alloc (.cells #[.int .i64 0] 81)).frozen? ⟨w.heap.size, 0, none⟩ = false := by simp
 go_enter Tryz.func11, Tryz.ntmps11
 go_wp2_with (go_at_call 27; refine (as_hit x _ _ _ hg1 ht hf).mono ?_; rintro e w' ⟨rfl, rfl⟩)
 go_ret
 exact ⟨rfl, (by repeat (first | exact Below.refl _ _ | refine Below.alloc ?_ (by simp; try omega) _ | refine Below.setCell ?_ (by simp) _ | refine below_drewN ?_ _ | refine Below.drew ?_))⟩

theorem num_any (x : Int) (w : World) (hg : Glob w) :
  Calls Tryz.prog 11 #[errV x] w fun e w' => e = .returned (.int .i64 x) ∧ Below w.heap.size w w' := by
 by_cases h : x = 0
 ·subst h; exact num_nil w
 ·rw [errV_ne h]; exact num_hit x w hg

end Go.Proofs.YtanchjfodcjlmaaGreatDoor.Cd
/- Ints that lie somewhere; branches of a condition: their 35 cells, and how they lie. -/
namespace Go.Proofs.YtanchjfodcjlmaaGreatDoor.Cd
open Go.RowKit

def Zb (z : Nat → Int) : Prop := ∀ j, j < 32 → 0 ≤ z j ∧ z j ≤ 255
def Ib (n : Int) : Prop := -9223372036854775808 ≤ n ∧ n ≤ 9223372036854775807
theorem tsize : Tryz.prog.types.size = 239 := by kernel_rfl
theorem cellsH : Tryz.prog.cellsOf 43 = 32 := by kernel_rfl
theorem cellsI : Tryz.prog.cellsOf 3 = 1 := by kernel_rfl
theorem cellsB : Tryz.prog.cellsOf 5 = 1 := by kernel_rfl
theorem cellsS : Tryz.prog.cellsOf 71 = 1 := by kernel_rfl
theorem infoI : (Tryz.prog.info? 3).map (fun i => (i.zero, i.size, i.bytes)) = some (some (.int .i64 0), 1, 8) := by kernel_rfl
/-- Ints that lie at an address. -/
def IsAt (w : World) (ad : Option Addr) (n : Nat) (z : Nat → Int) : Prop := 0 < n → ∃ b off, ad = some ⟨b, off, none⟩ ∧ ∀ j, j < n → w.cell? ⟨b, off + j, none⟩ = some (.int .i64 (z j))
theorem IsAt.below {w w' : World} {ad : Option Addr} {n : Nat} {z : Nat → Int} (h : IsAt w ad n z) (hb : Below w.heap.size w w') : IsAt w' ad n z := by
 intro hn
 obtain ⟨b, off, e, hc⟩ := h hn
 refine ⟨b, off, e, fun j hj => ?_⟩
 have := hc j hj
 have hl : b < w.heap.size := World.block_lt_of_cell? w ⟨b, off + j, none⟩ this
 rw [hb.cell (p := ⟨b, off + j, none⟩) hl]; exact this

/-- What a branch says: its keys, its lock, its two bounds. -/
structure Bv where
 n : Nat
 z : Nat → Int
 lk : Nat → Int
 af : Int
 ol : Int
instance : Inhabited Bv := ⟨⟨0, fun _ => 0, fun _ => 0, 0, 0⟩⟩
structure Bv.Ok (x : Bv) : Prop where
 z : ∀ j, j < x.n → Ib (x.z j)
 lk : Zb x.lk
 af : Ib x.af
 ol : Ib x.ol
/-- Its 35 cells, the keys at ka. -/
def brl (x : Bv) (ka : Option Addr) (kc : Nat) : List Value := .slice ka x.n kc :: (bl x.lk 32 ++ [.int .i64 x.af, .int .i64 x.ol])
theorem brl_length (x : Bv) (ka : Option Addr) (kc : Nat) : (brl x ka kc).length = 35 := by simp [brl, bl_length]
def bv (x : Bv) (ka : Option Addr) (kc : Nat) : Array Value := (brl x ka kc).toArray
theorem bv_size (x : Bv) (ka : Option Addr) (kc : Nat) : (bv x ka kc).size = 35 := by simp [bv, brl_length]
theorem brl_one (x : Bv) (ka : Option Addr) (kc : Nat) : ∀ u ∈ brl x ka kc, u.oneCell' = true := by
 intro u hu
 simp only [brl, List.mem_cons, List.mem_append, List.not_mem_nil, or_false] at hu
 rcases hu with rfl | hu | rfl | rfl
 ·rfl
 ·exact bl_one _ _ u hu
 ·rfl
 ·rfl
theorem bv_one (x : Bv) (ka : Option Addr) (kc : Nat) : (bv x ka kc).all (·.oneCell') = true := by
 have : (bv x ka kc) = (brl x ka kc).toArray := rfl
 rw [this]
 exact all_oneCell_toArray (brl_one x ka kc)
theorem brl_0 (x : Bv) (ka : Option Addr) (kc : Nat) : (brl x ka kc)[0]? = some (.slice ka x.n kc) := rfl
theorem brl_33 (x : Bv) (ka : Option Addr) (kc : Nat) : (brl x ka kc)[33]? = some (.int .i64 x.af) := by
 simp only [brl, List.getElem?_cons_succ]
 rw [List.getElem?_append_right (by simp [bl_length])]
 simp [bl_length]
theorem brl_34 (x : Bv) (ka : Option Addr) (kc : Nat) : (brl x ka kc)[34]? = some (.int .i64 x.ol) := by
 simp only [brl, List.getElem?_cons_succ]
 rw [List.getElem?_append_right (by simp [bl_length])]
 simp [bl_length]
theorem szB : (Tryz.prog.info? 101).map (·.size) = some 35 := by kernel_rfl
theorem szR : (Tryz.prog.info? 73).map (·.size) = some 35 := by kernel_rfl
theorem szBv (x : Bv) (ka : Option Addr) (kc : Nat) : (Tryz.prog.info? 101).map (·.size) = some (bv x ka kc).size := by rw [bv_size]; exact szB
theorem szBl (x : Bv) (ka : Option Addr) (kc : Nat) : (Tryz.prog.info? 101).map (·.size) = some (brl x ka kc).length := by rw [brl_length]; exact szB
theorem szRl (x : Bv) (ka : Option Addr) (kc : Nat) : (Tryz.prog.info? 73).map (·.size) = some (brl x ka kc).length := by rw [brl_length]; exact szR

/-- What a block that holds a branch gives a walk. -/
structure BBox (w : World) (g : Nat) (x : Bv) (ka : Option Addr) (kc : Nat) : Prop where
 c0 : w.cell? ⟨g, 0, none⟩ = some (.slice ka x.n kc)
 c33 : w.cell? ⟨g, 33, none⟩ = some (.int .i64 x.af)
 c34 : w.cell? ⟨g, 34, none⟩ = some (.int .i64 x.ol)
theorem bbox_of {w : World} {g : Nat} {x : Bv} {ka : Option Addr} {kc : Nat} {t : TypeId} {fr : Nat × Nat} (h : w.heap[g]? = some (.cells (bv x ka kc) t fr)) : BBox w g x ka kc := by
 refine ⟨?_, ?_, ?_⟩
 ·rw [cell_of_row w g 0 _ _ _ h]; simp [bv, brl_0]
 ·rw [cell_of_row w g 33 _ _ _ h]; simp [bv, brl_33]
 ·rw [cell_of_row w g 34 _ _ _ h]; simp [bv, brl_34]

/-- n branches lie at an address. -/
structure BrAt (w : World) (ad : Option Addr) (n : Nat) (X : Nat → Bv) : Prop where
 ok : ∀ i, i < n → (X i).Ok
 at_ : 0 < n → ∃ b off, ad = some ⟨b, off, none⟩ ∧ ∀ i, i < n → ∃ ka kc, w.rangeAt b (off + i * 35) (brl (X i) ka kc) ∧ IsAt w ka (X i).n (X i).z
theorem BrAt.nil (w : World) (ad : Option Addr) (X : Nat → Bv) : BrAt w ad 0 X := ⟨fun _ h => by omega, fun h => by omega⟩
theorem BrAt.below {w w' : World} {ad : Option Addr} {n : Nat} {X : Nat → Bv} (h : BrAt w ad n X) (hb : Below w.heap.size w w') : BrAt w' ad n X := by
 refine ⟨h.ok, fun hn => ?_⟩
 obtain ⟨b, off, e, hr⟩ := h.at_ hn
 refine ⟨b, off, e, fun i hi => ?_⟩
 obtain ⟨ka, kc, h1, h2⟩ := hr i hi
 exact ⟨ka, kc, range_below h1 hb, h2.below hb⟩

/-- The key ahead of the key j. -/
def lastK (z : Nat → Int) (j : Nat) : Int := if j = 0 then -1 else z (j - 1)
theorem lastK_succ (z : Nat → Int) (j : Nat) : lastK z (j + 1) = z j := by simp [lastK]
/-- Keys that are parties, ascending. -/
def KOk (z : Nat → Int) (n : Nat) : Prop := ∀ j, j < n → lastK z j < z j ∧ z j < 16
instance (z : Nat → Int) (n : Nat) : Decidable (KOk z n) := inferInstanceAs (Decidable (∀ j, j < n → _))
/-- A branch that may be. -/
def BOk (x : Bv) : Prop := (KOk x.z x.n ∧ 0 < x.n) ∧ (0 ≤ x.af ∧ x.af ≤ 1099511627776) ∧ (0 ≤ x.ol ∧ x.ol ≤ 65536)
instance (x : Bv) : Decidable (BOk x) := inferInstanceAs (Decidable (_ ∧ _))
def AllOk (X : Nat → Bv) (n : Nat) : Prop := ∀ i, i < n → BOk (X i)
instance (X : Nat → Bv) (n : Nat) : Decidable (AllOk X n) := inferInstanceAs (Decidable (∀ i, i < n → _))
/-- A condition that may be. -/
def COk (X : Nat → Bv) (n : Nat) : Prop := (1 ≤ n ∧ n ≤ 8) ∧ AllOk X n
instance (X : Nat → Bv) (n : Nat) : Decidable (COk X n) := inferInstanceAs (Decidable (_ ∧ _))
def chkE (X : Nat → Bv) (n : Nat) : Int := if COk X n then 0 else 1
end Go.Proofs.YtanchjfodcjlmaaGreatDoor.Cd
