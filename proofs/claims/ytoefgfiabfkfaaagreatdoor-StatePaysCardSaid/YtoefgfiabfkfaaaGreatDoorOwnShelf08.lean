/- Bytes laid behind: the State's Write. -/
import Derived.Test.YtoefgfiabfkfaaaGreatDoorOwnShelf07
import Derived.Lib.SliceRun
namespace Go.Proofs.YtoefgfiabfkfaaaGreatDoor
open Go.RowKit

/-- At block p lies a sum under way. -/
def StAt (w : World) (p : Nat) (s : Sm) (wn : Int) : Prop := ∃ blk fl, w.heap[p]? = some (.cells (stc s.h s.t blk fl wn) 140 (0, 0)) ∧ By 64 blk ∧ fl ≤ 64 ∧ blk.take fl = s.b
theorem StAt.keep {w w' : World} {p : Nat} {s : Sm} {wn : Int} {S : List Nat} (h : StAt w p s wn) (hf : Frm S w w') (hp : p ∉ S) : StAt w' p s wn := by
 obtain ⟨blk, fl, h1, h2, h3, h4⟩ := h
 exact ⟨blk, fl, hf.heap h1 hp, h2, h3, h4⟩
def slLen : Value → Nat
 | .slice _ n _ => n
 | _ => 0
theorem getD_drop (l : List Nat) (n i : Nat) : (l.drop n).getD i 0 = l.getD (n + i) 0 := by simp [List.getD_eq_getElem?_getD]
theorem getD_take_lt {l : List Nat} (h : ∀ i, l.getD i 0 < 256) (n i : Nat) : (l.take n).getD i 0 < 256 := by
 rw [List.getD_eq_getElem?_getD, List.getElem?_take]
 split
 ·simpa [List.getD_eq_getElem?_getD] using h i
 ·simp
theorem range_take {w : World} {g o n : Nat} {l : List Nat} (h : w.rangeAt g o (sl8 l)) : w.rangeAt g o (sl8 (l.take n)) := by
 intro j u hu
 refine h j u ?_
 rw [← hu]
 simp only [sl8, List.getElem?_map, List.getElem?_take] at hu ⊢
 split at hu
 ·simp [*]
 ·simp at hu
theorem range_drop {w : World} {g o n : Nat} {l : List Nat} (h : w.rangeAt g o (sl8 l)) : w.rangeAt g (o + n) (sl8 (l.drop n)) := by
 intro j u hu
 have := h (n + j) u (by rw [← hu]; simp [sl8])
 rw [← this, Nat.add_assoc]
theorem blk_by {blk c : List Nat} {f : Nat} (hb : By 64 blk) (hc : ∀ i, c.getD i 0 < 256) (hf : f + c.length ≤ 64) : By 64 (blk.take f ++ (c ++ blk.drop (f + c.length))) := by
 refine ⟨by have := hb.1; simp; omega, fun i => getD_append_lt (getD_take_lt hb.2 f) (fun j => getD_append_lt hc (fun k => ?_))⟩
 rw [getD_drop]; exact hb.2 _
theorem blk_take {blk c : List Nat} {f : Nat} (hb : blk.length = 64) (hf : f + c.length ≤ 64) : (blk.take f ++ (c ++ blk.drop (f + c.length))).take (f + c.length) = blk.take f ++ c := by
 have : (blk.take f).length = f := by simp; omega
 rw [List.take_append, this, List.take_of_length_le (by omega), show f + c.length - f = c.length by omega, List.take_append]
 simp


set_option maxRecDepth 20000 in
set_option maxHeartbeats 8000000 in
theorem write_any (p : Nat) (s : Sm) (wn : Int) (ad : Option Addr) (cap : Nat) (b : List Nat) (w : World) (hst : StAt w p s wn) (hs : s.Ok) (hT : Tab w) (hg : 3 ≤ p) (hsl : SlB w ad b) (hcap : b.length ≤ cap) (hb : ∀ i, b.getD i 0 < 256)
  (hap : ∀ g o, ad = some ⟨g, o, none⟩ → 0 < b.length → g ≠ p) (hw0 : 0 ≤ wn) (hw1 : wn + b.length < 9223372036854775808) (ht : s.t + s.b.length + b.length + 64 < 18446744073709551616) :
  Calls Tryz.prog 67 #[.pointer (some ⟨p, 0, none⟩), .slice ad b.length cap] w fun e w' => e = .returned (.tuple #[]) ∧ StAt w' p (feed s b) (wn + b.length) ∧ Frm [p] w w' := by
 obtain ⟨W0, hW0⟩ : ∃ W0, W0 = w.setCell ⟨p, 74, none⟩ (.int .i64 (wn + b.length)) := ⟨_, rfl⟩
 have HS0 : Hid (StAt W0 p s (wn + b.length) ∧ Frm [p] w W0 ∧ Tab W0 ∧ SlB W0 ad b) := by
  obtain ⟨blk, fl, h1, h2, h3, h4⟩ := hst
  have hf : Frm [p] w W0 := by rw [hW0]; exact (Frm.refl _ w).setCell _ _ (by simp)
  refine ⟨⟨blk, fl, ?_, h2, h3, h4⟩, hf, hT.frm hf (by simpa using hg), hsl.keep hf (fun g o e hl => by simpa using hap g o e hl)⟩
  have := heap_set_row (j := 74) (u := .int .i64 (wn + b.length)) h1
  rw [stc_set_r hs.h.1 h2.1] at this
  rw [hW0]; exact this
 have c74 : w.cell? ⟨p, 74, none⟩ = some (.int .i64 wn) := by
  obtain ⟨blk, fl, h1, h2, h3, h4⟩ := hst
  rw [cell_of_row w p 74 _ _ _ h1]; exact stc_r hs.h.1 h2.1
 have f74 : w.frozen? ⟨p, 74, none⟩ = false := by
  obtain ⟨blk, fl, h1, h2, h3, h4⟩ := hst
  exact frozen_of_row w p 74 _ _ h1
 have hbl : (b.length : Int) < 9223372036854775808 := by omega
 have hsum : wn + (b.length : Int) < 9223372036854775808 := hw1
 go_enter Tryz.func67, Tryz.ntmps67
 go_wp2_with fail
 rw [← hW0]
 clear c74 f74 hst
 go_loopw [1] (fun bv (w' : World) => ∃ pre r ad' cp, b = pre ++ r ∧ bv = .slice ad' r.length cp ∧ r.length ≤ cp ∧ SlB w' ad' r ∧ (∀ g o, ad' = some ⟨g, o, none⟩ → 0 < r.length → g ≠ p) ∧ StAt w' p (feed s pre) (wn + b.length) ∧ Frm [p] w w') (fun bv _ => slLen bv)
 case atStart => exact ⟨[], b, ad, cap, rfl, rfl, hcap, HS0.out.2.2.2, hap, HS0.out.1, HS0.out.2.1⟩
 case round =>
  obtain ⟨pre, r, ad', cp, hpr, rfl, hcp, hsr, har, hst, hF⟩ := hrel
  by_cases hr : 0 < r.length
  ·have hr' : (0 : Int) < r.length := by omega
   obtain ⟨g, o, rfl, hrg⟩ := hsr hr
   have hgp : g ≠ p := har g o rfl hr
   have hok : (feed s pre).Ok := feed_ok pre s hs (fun i => by
    have := hb i
    rw [hpr, List.getD_eq_getElem?_getD, List.getElem?_append] at this
    rw [List.getD_eq_getElem?_getD]
    split at this
    ·exact this
    ·rename_i h; rw [List.getElem?_eq_none (by omega)]; decide)
   have hrb : ∀ i, r.getD i 0 < 256 := fun i => by
    have := hb (pre.length + i)
    rw [hpr, List.getD_eq_getElem?_getD, List.getElem?_append_right (by omega)] at this
    simpa [List.getD_eq_getElem?_getD] using this
   have hlen : b.length = pre.length + r.length := by rw [hpr]; simp
   have htt := feed_t pre s
   have HL : Hid (b.length = pre.length + r.length) := hlen
   obtain ⟨q, hq⟩ : ∃ q, q = feed s pre := ⟨_, rfl⟩
   rw [← hq] at hst hok htt
   obtain ⟨blk, fl, hp, hby, hfl, htk⟩ := hst
   have hqb : q.b.length = fl := by rw [← htk]; have := hby.1; simp; omega
   have HQ : Hid (q = feed s pre ∧ b = pre ++ r ∧ blk.take fl = q.b) := ⟨hq, hpr, htk⟩
   have hTr : Tab wr := hT.frm hF (by simpa using hg)
   have HF : Hid (Frm [p] w wr) := hF
   have c73 : wr.cell? ⟨p, 73, none⟩ = some (.int .i64 (fl : Nat)) := by rw [cell_of_row wr p 73 _ _ _ hp]; exact stc_f hok.h.1 hby.1
   have htq : q.t + 128 < 18446744073709551616 + 64 := by omega
   clear hq hpr htk hF hsr hlen htt
   by_cases h64 : fl = 64
   ·subst h64
    have hcall := takeIn_any false p q.h q.t blk 64 (wn + b.length) wr hp hTr hg hok.h hby (by omega) (by omega)
    go_wp2_with fail
    refine hcall.mono ?_
    rintro e W1 ⟨rfl, hp1, hF1⟩
    have hF1' : Frm [p] w W1 := HF.out.trans hF1
    have hrg1 := range_keep hrg hF1 (by simpa using hgp)
    have cc : W1.cell? ⟨p, 73, none⟩ = some (.int .i64 (64 : Nat)) := by rw [cell_of_row W1 p 73 _ _ _ hp1]; exact stc_f (cF_ok hok.h _ _).1 hby.1
    have ff : W1.frozen? ⟨p, 73, none⟩ = false := frozen_of_row W1 p 73 _ _ hp1
    have hp2 : (W1.setCell ⟨p, 73, none⟩ (.int .i64 0)).heap[p]? = some (.cells (stc (cF q.h blk (q.t + 64) false) (q.t + 64) blk 0 (wn + b.length)) 140 (0, 0)) := by
     have := heap_set_row (j := 73) (u := .int .i64 ((0 : Nat) : Int)) hp1
     rw [stc_set_f (cF_ok hok.h _ _).1 hby.1] at this; exact this
    have hF2 : Frm [p] w (W1.setCell ⟨p, 73, none⟩ (.int .i64 0)) := hF1'.setCell _ _ (by simp)
    have hrg2 := range_keep hrg1 ((Frm.refl [p] W1).setCell ⟨p, 73, none⟩ (.int .i64 0) (by simp)) (by simpa using hgp)
    have HFD : Hid (∀ c : List Nat, 0 < c.length → c.length ≤ 64 → feed q c = ⟨cF q.h blk (q.t + 64) false, q.t + 64, c⟩) := by
     intro c h1 h2
     have e : q = ⟨q.h, q.t, blk⟩ := by
      have := HQ.out.2.2
      rw [List.take_of_length_le (by rw [hby.1]; omega)] at this
      rw [this]
     rw [e]; exact feed_full q.h q.t blk c hby.1 h1 h2
    have o1 := cF_ok (b := blk) hok.h (q.t + 64) false
    obtain ⟨h1, hh1⟩ : ∃ h1, h1 = cF q.h blk (q.t + 64) false := ⟨_, rfl⟩
    obtain ⟨t1, ht1⟩ : ∃ t1, t1 = q.t + 64 := ⟨_, rfl⟩
    rw [← hh1, ← ht1] at hp2 HFD
    rw [← hh1] at o1
    clear hcall hp1 hF1 hF1' hrg1 hrg hp hh1 ht1 hTr c73
    go_wp2_with fail
    generalize W1.setCell ⟨p, 73, none⟩ (.int .i64 0) = W2 at *
    obtain ⟨f, hf⟩ : ∃ f : Nat, f = 0 := ⟨_, rfl⟩
    have hp2' : W2.heap[p]? = some (.cells (stc h1 t1 blk f (wn + b.length)) 140 (0, 0)) := by rw [hf]; exact hp2
    have HFD' : Hid (∀ c : List Nat, 0 < c.length → f + c.length ≤ 64 → feed q c = ⟨h1, t1, blk.take f ++ c⟩) := fun c h1 h2 => by
     rw [HFD.out c h1 (by omega), hf]; simp
    have hf64 : f < 64 := by omega
    clear hf hp2 HFD
    have HFD := HFD'
    clear HFD'
    have hp2 := hp2'
    clear hp2'
    have hfi : (f : Int) < 64 := by omega
    have hfe : (f : Int) ≤ 64 := by omega
    have hfn : ¬ (64 = f) := by omega
    obtain ⟨c, hc⟩ : ∃ c, c = r.take (64 - f) := ⟨_, rfl⟩
    have hcl : Hid (c.length = Nat.min r.length (64 - f)) := by show _ = _; rw [hc, List.length_take, Nat.min_comm]
    have hcm : c.length ≤ r.length ∧ c.length ≤ 64 - f ∧ 0 < c.length := by rw [hc, List.length_take]; omega
    have hcb : ∀ i, c.getD i 0 < 256 := by rw [hc]; exact getD_take_lt hrb _
    have hrc : Hid (r = c ++ r.drop c.length) := by
     show _ = _
     have h0 := (List.take_append_drop (64 - f) r).symm
     have h1 : r.drop c.length = r.drop (64 - f) := by
      rw [hc, List.length_take]
      by_cases hh : 64 - f ≤ r.length
      ·rw [Nat.min_eq_left hh]
      ·rw [List.drop_of_length_le (by omega), List.drop_of_length_le (by omega)]
     rw [h1, hc]; exact h0
    have hsrc : W2.drew.rangeAt g o (sl8 c) := by rw [hc]; exact range_take (w := W2.drew) hrg2
    clear hc
    have d73 : W2.drew.cell? ⟨p, 73, none⟩ = some (.int .i64 (f : Nat)) := by rw [cell_of_row W2.drew p 73 _ _ _ hp2]; exact stc_f o1.1 hby.1
    refine region_seq (c := 9) (f := 60) (ts := [(0, 0), (0, 1), (0, 2), (0, 3), (0, 4), (0, 5), (1, 6), (0, 7), (0, 8), (2, 9), (0, 10)]) (by kernel_rfl) (by kernel_rfl) ?_
    refine seq_W (o := ⟨some 29, .move (.tmp 0), 113, _, _, none⟩) (v := ?_) rfl rfl (fun wz => ?_) ?_
    rotate_left
    ·go_simp; (try with_reducible rfl)
    try simp only [Act.put, sqA, sqB, sqC]
    refine seq_W (o := ⟨some 30, .nilCheck (.tmp 29), 0, _, _, none⟩) (v := ?_) rfl rfl (fun wz => ?_) ?_
    rotate_left
    ·go_simp; (try with_reducible rfl)
    try simp only [Act.put, sqA, sqB, sqC]
    refine seq_W (o := ⟨some 31, .fieldAddr 140 (.tmp 30) 2, 0, _, _, none⟩) (v := ?_) rfl rfl (fun wz => ?_) ?_
    rotate_left
    ·go_simp; (try with_reducible rfl)
    try simp only [Act.put, sqA, sqB, sqC]
    refine seq_W (o := ⟨some 32, .move (.tmp 0), 113, _, _, none⟩) (v := ?_) rfl rfl (fun wz => ?_) ?_
    rotate_left
    ·go_simp; (try with_reducible rfl)
    try simp only [Act.put, sqA, sqB, sqC]
    refine seq_W (o := ⟨some 33, .nilCheck (.tmp 32), 0, _, _, none⟩) (v := ?_) rfl rfl (fun wz => ?_) ?_
    rotate_left
    ·go_simp; (try with_reducible rfl)
    try simp only [Act.put, sqA, sqB, sqC]
    refine seq_W (o := ⟨some 34, .fieldAddr 140 (.tmp 33) 3, 0, _, _, none⟩) (v := ?_) rfl rfl (fun wz => ?_) ?_
    rotate_left
    ·go_simp; (try with_reducible rfl)
    try simp only [Act.put, sqA, sqB, sqC]
    refine seq_R (o := ⟨some 35, .load 3 (.tmp 34), 3, _, _, none⟩) (v := ?_) rfl rfl ?_ ?_
    rotate_left
    ·go_simp; (try with_reducible rfl)
    try simp only [Act.put, sqA, sqB, sqC]
    refine seq_W (o := ⟨some 36, .slice 138 (.tmp 31) (some (.tmp 35)) none none, 31, _, _, none⟩) (v := ?_) rfl rfl (fun wz => ?_) ?_
    rotate_left
    ·go_simp; (try with_reducible rfl)
    try simp only [Act.put, sqA, sqB, sqC]
    refine seq_W (o := ⟨some 37, .move (.tmp 1), 31, _, _, none⟩) (v := ?_) rfl rfl (fun wz => ?_) ?_
    rotate_left
    ·go_simp; (try with_reducible rfl)
    try simp only [Act.put, sqA, sqB, sqC]
    refine seq_A (o := ⟨some 38, .call ⟨.builtin .copy, #[.tmp 36, .tmp 37], #[31, 31]⟩, 3, _, _, none⟩) rfl rfl (fun K hK => ?_)
    refine wp_copyS _ _ rfl (w := W2.drew) (f := f) (dLen := 64 - f) (c := c) rfl rfl hp2 o1.1 hby.1 hcl.out (by omega) hsrc ?_
    intro W3 hp3 hF3
    refine hK _ _ ?_
    clear hK K
    try simp only [Act.put, sqA, sqB, sqC]
    refine seq_W (o := ⟨some 4, .assign (.tmp 38), 3, _, _, none⟩) (v := ?_) rfl rfl (fun wz => ?_) ?_
    rotate_left
    ·go_simp; (try with_reducible rfl)
    try simp only [Act.put, sqA, sqB, sqC]
    refine seq_nil (NoPanic.normal ?_)
    try simp only [Act.put, sqA, sqB, sqC]
    have hby3 := blk_by (f := f) hby hcb (by omega)
    have k73 : W3.cell? ⟨p, 73, none⟩ = some (.int .i64 (f : Nat)) := by rw [cell_of_row W3 p 73 _ _ _ hp3]; exact stc_f o1.1 hby3.1
    have j73 : W3.frozen? ⟨p, 73, none⟩ = false := frozen_of_row W3 p 73 _ _ hp3
    have hF3' : Frm [p] W2 W3 := (Frm.refl [p] W2).drew.trans hF3
    have HE : Hid (∀ x : Int, x = (f : Int) + c.length → SlB (W3.setCell ⟨p, 73, none⟩ (.int .i64 x)) (some ⟨g, o + c.length, none⟩) (r.drop c.length) ∧ StAt (W3.setCell ⟨p, 73, none⟩ (.int .i64 x)) p (feed s (pre ++ c)) (wn + b.length) ∧ Frm [p] w (W3.setCell ⟨p, 73, none⟩ (.int .i64 x))) := by
     intro x hx
     have hF4 : Frm [p] W2 (W3.setCell ⟨p, 73, none⟩ (.int .i64 x)) := hF3'.setCell _ _ (by simp)
     refine ⟨fun _ => ⟨g, _, rfl, range_drop (range_keep hrg2 hF4 (by simpa using hgp))⟩, ⟨_, f + c.length, ?_, hby3, by omega, ?_⟩, hF2.trans hF4⟩
     ·have := heap_set_row (j := 73) (u := .int .i64 ((f + c.length : Nat) : Int)) hp3
      rw [stc_set_f o1.1 hby3.1] at this
      rw [feed_append, ← HQ.out.1, HFD.out c hcm.2.2 (by omega), hx]
      simpa using this
     ·rw [blk_take hby.1 (by omega), feed_append, ← HQ.out.1, HFD.out c hcm.2.2 (by omega)]
    have HR : Hid (b = (pre ++ c) ++ r.drop c.length ∧ (r.drop c.length).length = r.length - c.length) := by
     refine ⟨?_, by simp⟩
     rw [List.append_assoc, ← hrc.out]; exact HQ.out.2.1
    have hc1 : (c.length : Int) ≤ r.length := by omega
    have hc2 : (f : Int) + c.length ≤ 64 := by omega
    have hc3 : (c.length : Int) ≤ cp := by omega
    have hrp : (r.length : Int) ≤ cp := by omega
    clear hp3 hF3 hF3' hby3 hrc hcl hsrc d73
    go_wp2
    obtain ⟨hsl', hst', hfr'⟩ := HE.out _ rfl
    refine ⟨⟨pre ++ c, r.drop c.length, _, cp - c.length, HR.out.1, by rw [HR.out.2], by rw [HR.out.2]; omega, ?_, ?_, hst', hfr'⟩, by simp [slLen]; omega⟩
    ·intro hl
     rw [HR.out.2] at hl
     rw [if_neg (by omega)]
     exact hsl' (by rw [HR.out.2]; exact hl)
    ·intro g' o' e hl
     rw [HR.out.2] at hl
     rw [if_neg (by omega)] at e
     cases e
     exact hgp
   ·have hflt : fl < 64 := by omega
    have hfli : (fl : Int) ≠ 64 := by omega
    have HFD : Hid (∀ c : List Nat, 0 < c.length → fl + c.length ≤ 64 → feed q c = ⟨q.h, q.t, blk.take fl ++ c⟩) := by
     intro c h1 h2
     have e : q = ⟨q.h, q.t, blk.take fl⟩ := by rw [HQ.out.2.2]
     have := feed_room q.h q.t c (blk.take fl) (by rw [HQ.out.2.2, hqb]; omega)
     rw [← e] at this; exact this
    have o1 := hok.h
    have hd1 : ((fl : Int) == 64) = false := by simp; omega
    have hd2 : decide ((fl : Int) = 64) = false := by simp; omega
    have hd3 : decide (fl = 64) = false := by simp; omega
    clear h64 hfli hqb
    go_wp2_with fail
    clear hd1 hd2 hd3
    obtain ⟨h1, hh1⟩ : ∃ h1, h1 = q.h := ⟨_, rfl⟩
    obtain ⟨t1, ht1⟩ : ∃ t1, t1 = q.t := ⟨_, rfl⟩
    rw [← hh1, ← ht1] at hp HFD
    rw [← hh1] at o1
    have hp2 := hp
    have hrg2 := hrg
    have hF2 := HF.out
    clear hp hrg HF hh1 ht1 hTr c73 hok
    generalize wr = W2 at *
    obtain ⟨f, hf⟩ : ∃ f : Nat, f = fl := ⟨_, rfl⟩
    rw [← hf] at hp2 HFD
    have hf64 : f < 64 := by omega
    clear hf
    have hfi : (f : Int) < 64 := by omega
    have hfe : (f : Int) ≤ 64 := by omega
    have hfn : ¬ (64 = f) := by omega
    obtain ⟨c, hc⟩ : ∃ c, c = r.take (64 - f) := ⟨_, rfl⟩
    have hcl : Hid (c.length = Nat.min r.length (64 - f)) := by show _ = _; rw [hc, List.length_take, Nat.min_comm]
    have hcm : c.length ≤ r.length ∧ c.length ≤ 64 - f ∧ 0 < c.length := by rw [hc, List.length_take]; omega
    have hcb : ∀ i, c.getD i 0 < 256 := by rw [hc]; exact getD_take_lt hrb _
    have hrc : Hid (r = c ++ r.drop c.length) := by
     show _ = _
     have h0 := (List.take_append_drop (64 - f) r).symm
     have h1 : r.drop c.length = r.drop (64 - f) := by
      rw [hc, List.length_take]
      by_cases hh : 64 - f ≤ r.length
      ·rw [Nat.min_eq_left hh]
      ·rw [List.drop_of_length_le (by omega), List.drop_of_length_le (by omega)]
     rw [h1, hc]; exact h0
    have hsrc : W2.drew.rangeAt g o (sl8 c) := by rw [hc]; exact range_take (w := W2.drew) hrg2
    clear hc
    have d73 : W2.drew.cell? ⟨p, 73, none⟩ = some (.int .i64 (f : Nat)) := by rw [cell_of_row W2.drew p 73 _ _ _ hp2]; exact stc_f o1.1 hby.1
    refine region_seq (c := 9) (f := 60) (ts := [(0, 0), (0, 1), (0, 2), (0, 3), (0, 4), (0, 5), (1, 6), (0, 7), (0, 8), (2, 9), (0, 10)]) (by kernel_rfl) (by kernel_rfl) ?_
    refine seq_W (o := ⟨some 29, .move (.tmp 0), 113, _, _, none⟩) (v := ?_) rfl rfl (fun wz => ?_) ?_
    rotate_left
    ·go_simp; (try with_reducible rfl)
    try simp only [Act.put, sqA, sqB, sqC]
    refine seq_W (o := ⟨some 30, .nilCheck (.tmp 29), 0, _, _, none⟩) (v := ?_) rfl rfl (fun wz => ?_) ?_
    rotate_left
    ·go_simp; (try with_reducible rfl)
    try simp only [Act.put, sqA, sqB, sqC]
    refine seq_W (o := ⟨some 31, .fieldAddr 140 (.tmp 30) 2, 0, _, _, none⟩) (v := ?_) rfl rfl (fun wz => ?_) ?_
    rotate_left
    ·go_simp; (try with_reducible rfl)
    try simp only [Act.put, sqA, sqB, sqC]
    refine seq_W (o := ⟨some 32, .move (.tmp 0), 113, _, _, none⟩) (v := ?_) rfl rfl (fun wz => ?_) ?_
    rotate_left
    ·go_simp; (try with_reducible rfl)
    try simp only [Act.put, sqA, sqB, sqC]
    refine seq_W (o := ⟨some 33, .nilCheck (.tmp 32), 0, _, _, none⟩) (v := ?_) rfl rfl (fun wz => ?_) ?_
    rotate_left
    ·go_simp; (try with_reducible rfl)
    try simp only [Act.put, sqA, sqB, sqC]
    refine seq_W (o := ⟨some 34, .fieldAddr 140 (.tmp 33) 3, 0, _, _, none⟩) (v := ?_) rfl rfl (fun wz => ?_) ?_
    rotate_left
    ·go_simp; (try with_reducible rfl)
    try simp only [Act.put, sqA, sqB, sqC]
    refine seq_R (o := ⟨some 35, .load 3 (.tmp 34), 3, _, _, none⟩) (v := ?_) rfl rfl ?_ ?_
    rotate_left
    ·go_simp; (try with_reducible rfl)
    try simp only [Act.put, sqA, sqB, sqC]
    refine seq_W (o := ⟨some 36, .slice 138 (.tmp 31) (some (.tmp 35)) none none, 31, _, _, none⟩) (v := ?_) rfl rfl (fun wz => ?_) ?_
    rotate_left
    ·go_simp; (try with_reducible rfl)
    try simp only [Act.put, sqA, sqB, sqC]
    refine seq_W (o := ⟨some 37, .move (.tmp 1), 31, _, _, none⟩) (v := ?_) rfl rfl (fun wz => ?_) ?_
    rotate_left
    ·go_simp; (try with_reducible rfl)
    try simp only [Act.put, sqA, sqB, sqC]
    refine seq_A (o := ⟨some 38, .call ⟨.builtin .copy, #[.tmp 36, .tmp 37], #[31, 31]⟩, 3, _, _, none⟩) rfl rfl (fun K hK => ?_)
    refine wp_copyS _ _ rfl (w := W2.drew) (f := f) (dLen := 64 - f) (c := c) rfl rfl hp2 o1.1 hby.1 hcl.out (by omega) hsrc ?_
    intro W3 hp3 hF3
    refine hK _ _ ?_
    clear hK K
    try simp only [Act.put, sqA, sqB, sqC]
    refine seq_W (o := ⟨some 4, .assign (.tmp 38), 3, _, _, none⟩) (v := ?_) rfl rfl (fun wz => ?_) ?_
    rotate_left
    ·go_simp; (try with_reducible rfl)
    try simp only [Act.put, sqA, sqB, sqC]
    refine seq_nil (NoPanic.normal ?_)
    try simp only [Act.put, sqA, sqB, sqC]
    have hby3 := blk_by (f := f) hby hcb (by omega)
    have k73 : W3.cell? ⟨p, 73, none⟩ = some (.int .i64 (f : Nat)) := by rw [cell_of_row W3 p 73 _ _ _ hp3]; exact stc_f o1.1 hby3.1
    have j73 : W3.frozen? ⟨p, 73, none⟩ = false := frozen_of_row W3 p 73 _ _ hp3
    have hF3' : Frm [p] W2 W3 := (Frm.refl [p] W2).drew.trans hF3
    have HE : Hid (∀ x : Int, x = (f : Int) + c.length → SlB (W3.setCell ⟨p, 73, none⟩ (.int .i64 x)) (some ⟨g, o + c.length, none⟩) (r.drop c.length) ∧ StAt (W3.setCell ⟨p, 73, none⟩ (.int .i64 x)) p (feed s (pre ++ c)) (wn + b.length) ∧ Frm [p] w (W3.setCell ⟨p, 73, none⟩ (.int .i64 x))) := by
     intro x hx
     have hF4 : Frm [p] W2 (W3.setCell ⟨p, 73, none⟩ (.int .i64 x)) := hF3'.setCell _ _ (by simp)
     refine ⟨fun _ => ⟨g, _, rfl, range_drop (range_keep hrg2 hF4 (by simpa using hgp))⟩, ⟨_, f + c.length, ?_, hby3, by omega, ?_⟩, hF2.trans hF4⟩
     ·have := heap_set_row (j := 73) (u := .int .i64 ((f + c.length : Nat) : Int)) hp3
      rw [stc_set_f o1.1 hby3.1] at this
      rw [feed_append, ← HQ.out.1, HFD.out c hcm.2.2 (by omega), hx]
      simpa using this
     ·rw [blk_take hby.1 (by omega), feed_append, ← HQ.out.1, HFD.out c hcm.2.2 (by omega)]
    have HR : Hid (b = (pre ++ c) ++ r.drop c.length ∧ (r.drop c.length).length = r.length - c.length) := by
     refine ⟨?_, by simp⟩
     rw [List.append_assoc, ← hrc.out]; exact HQ.out.2.1
    have hc1 : (c.length : Int) ≤ r.length := by omega
    have hc2 : (f : Int) + c.length ≤ 64 := by omega
    have hc3 : (c.length : Int) ≤ cp := by omega
    have hrp : (r.length : Int) ≤ cp := by omega
    clear hp3 hF3 hF3' hby3 hrc hcl hsrc d73
    go_wp2
    obtain ⟨hsl', hst', hfr'⟩ := HE.out _ rfl
    refine ⟨⟨pre ++ c, r.drop c.length, _, cp - c.length, HR.out.1, by rw [HR.out.2], by rw [HR.out.2]; omega, ?_, ?_, hst', hfr'⟩, by simp [slLen]; omega⟩
    ·intro hl
     rw [HR.out.2] at hl
     rw [if_neg (by omega)]
     exact hsl' (by rw [HR.out.2]; exact hl)
    ·intro g' o' e hl
     rw [HR.out.2] at hl
     rw [if_neg (by omega)] at e
     cases e
     exact hgp
  ·have hr0 : r = [] := List.eq_nil_of_length_eq_zero (by omega)
   subst hr0
   rw [List.append_nil] at hpr
   rw [← hpr] at hst
   have hend := hst
   have hfend := hF
   clear hst hF hsr har hpr
   go_wp2
   exact bodyPost_end (v := .tuple #[]) (by simp [results, Tryz.results67, go_sem]) rfl ⟨rfl, hend, hfend⟩
end Go.Proofs.YtoefgfiabfkfaaaGreatDoor
/- A sum's end: the State's Sum. -/
namespace Go.Proofs.YtoefgfiabfkfaaaGreatDoor
open Go.RowKit

def z8 : List Nat := List.replicate 8 0
/-- The sum's first n bytes. -/
def eP (h : List Nat) (n : Nat) : List Nat := (List.range 32).map fun j => if j < n then leP h j else 0
theorem eP_len (h : List Nat) (n : Nat) : (eP h n).length = 32 := by simp [eP]
theorem eP_set (h : List Nat) {n : Nat} (hn : n < 32) : (eP h n).set n (leP h n) = eP h (n + 1) := by
 apply List.ext_getElem?
 intro j
 rw [List.getElem?_set]
 simp only [eP, List.length_map, List.length_range, List.getElem?_map]
 by_cases hj : j < 32
 ·rw [List.getElem?_range hj]
  by_cases e : n = j
  ·subst e; simp [hn]
  ·simp only [e, if_false, Option.map_some]
   by_cases h1 : j < n
   ·simp [h1, show j < n + 1 by omega]
   ·simp [h1, show ¬ j < n + 1 by omega]
 ·rw [List.getElem?_eq_none (l := List.range 32) (by simp; omega)]
  have : ¬ n = j := by omega
  simp [this]
theorem eP_end (h : List Nat) : eP h 32 = endL h := by
 unfold eP endL
 apply List.map_congr_left
 intro j hj
 rw [if_pos (by simpa using hj)]
theorem sv_one (s : List Nat) : (sv s).all (·.oneCell') = true := all_oneCell_toArray (sl8_one s)
theorem sv_set {w : World} {g : Nat} {t : TypeId} {v : List Nat} (h : w.heap[g]? = some (.cells (sv v) t (0, 0))) (j x : Nat) :
  (w.setCell ⟨g, j, none⟩ (.int .u8 (x : Nat))).heap[g]? = some (.cells (sv (v.set j x)) t (0, 0)) := by
 rw [heap_setCell_same w g j _ t _ h]
 simp [sv, sl8, List.map_set]
theorem stc_one (h : List Nat) (tk : Nat) (b : List Nat) (fl : Nat) (wn : Int) : (stc h tk b fl wn).all (·.oneCell') = true := by
 refine all_oneCell_toArray (fun u hu => ?_)
 simp only [stl, wl, sl8, List.mem_append, List.mem_map, List.mem_cons, List.not_mem_nil, or_false] at hu
 rcases hu with ⟨_, _, rfl⟩ | rfl | ⟨_, _, rfl⟩ | rfl | rfl <;> rfl
theorem run_allocSt (w : World) : (Instr.alloc 140 true (.tuple #[])).run Tryz.prog w = .ok (.pointer (some ⟨w.heap.size, 0, none⟩)) (w.alloc (.cells (stc z8 0 z64 0 0) 140)) := by kernel_rfl
def z32 : List Nat := List.replicate 32 0
theorem eP_zero (h : List Nat) : eP h 0 = z32 := by
 unfold eP z32
 apply List.ext_getElem?
 intro j
 rw [List.getElem?_map, List.getElem?_replicate]
 by_cases hj : j < 32
 ·rw [List.getElem?_range hj]; simp [hj]
 ·rw [List.getElem?_eq_none (l := List.range 32) (by simp; omega)]; simp [hj]
theorem run_allocHs (w : World) : (Instr.alloc 28 true (.tuple #[])).run Tryz.prog w = .ok (.pointer (some ⟨w.heap.size, 0, none⟩)) (w.alloc (.cells (sv z32) 28)) := by kernel_rfl
section
variable {ops : Array Oper} {rest : List Oper} {o : Oper} {a : Act} {w : World} {Q : Exit → Act → World → Prop}
theorem wpList_allocHs (hgd : o.guard = none) (ho : o.op = .alloc 28)
  (h : wpList Tryz.prog ops Q rest (a.put o.dst (.pointer (some ⟨w.heap.size, 0, none⟩))) (w.alloc (.cells (sv z32) 28))) : wpList Tryz.prog ops Q (o :: rest) a w := by
 refine wpList_plain hgd fun K hK => ?_
 unfold Oper.wp execOp
 simp only [ho, Sem.run_bind, run_allocHs, Result.andThen]
 exact hK _ _ h
theorem wpList_allocSt (hgd : o.guard = none) (ho : o.op = .alloc 140)
  (h : wpList Tryz.prog ops Q rest (a.put o.dst (.pointer (some ⟨w.heap.size, 0, none⟩))) (w.alloc (.cells (stc z8 0 z64 0 0) 140))) : wpList Tryz.prog ops Q (o :: rest) a w := by
 refine wpList_plain hgd fun K hK => ?_
 unfold Oper.wp execOp
 simp only [ho, Sem.run_bind, run_allocSt, Result.andThen]
 exact hK _ _ h
theorem wpList_loadSt (hgd : o.guard = none) (x : Operand) (ho : o.op = .load 140 x) (g : Nat) (hx : a.eval x = .pointer (some ⟨g, 0, none⟩)) (cs : Array Value) (hl : cs.size = 75) (t : TypeId) (fr : Nat × Nat) (hg : w.heap[g]? = some (.cells cs t fr))
  (h : wpList Tryz.prog ops Q rest (a.put o.dst (.agg cs)) w) : wpList Tryz.prog ops Q (o :: rest) a w :=
 wpList_load_row hgd 140 x ho g hx t cs fr _ hg Tryz.underlying140 rfl (by rw [hl]; exact szSt) h
theorem wpList_loadHs (hgd : o.guard = none) (x : Operand) (ho : o.op = .load 28 x) (g : Nat) (hx : a.eval x = .pointer (some ⟨g, 0, none⟩)) (z : List Nat) (hl : z.length = 32) (t : TypeId) (fr : Nat × Nat) (hg : w.heap[g]? = some (.cells (sv z) t fr))
  (h : wpList Tryz.prog ops Q rest (a.put o.dst (.agg (sv z))) w) : wpList Tryz.prog ops Q (o :: rest) a w :=
 wpList_load_row hgd 28 x ho g hx t (sv z) fr _ hg Tryz.underlying28 rfl (by rw [sv_size, hl]; exact hsz) h
theorem wpList_loadW (hgd : o.guard = none) (x : Operand) (ho : o.op = .load 137 x) (g : Nat) (hx : a.eval x = .pointer (some ⟨g, 0, none⟩)) (v : List Nat) (hl : v.length = 8) (hr : w.rangeAt g 0 (wl v))
  (h : wpList Tryz.prog ops Q rest (a.put o.dst (.agg (wv v))) w) : wpList Tryz.prog ops Q (o :: rest) a w :=
 wpList_load_mid hgd 137 x ho g 0 hx (wl v) _ hr Tryz.underlying137 rfl (by rw [wl_len, hl]; exact sz8) h
/-- A whole row stored into a variable of its own. -/
theorem wpList_storeRow (T : TypeId) {n : Nat} (hT : (Tryz.prog.info? T).map (·.size) = some n) (hgd : o.guard = none) (x y : Operand) (ho : o.op = .store T x y) (g : Nat) (hx : a.eval x = .pointer (some ⟨g, 0, none⟩)) (cs old : Array Value) (hl : cs.size = n) (hu : old.size = n) (h1 : cs.all (·.oneCell') = true) (t : TypeId) (hy : a.eval y = .agg cs) (hg : w.heap[g]? = some (.cells old t (0, 0)))
  (h : ∀ w', w'.heap[g]? = some (.cells cs t (0, 0)) → Frm [g] w w' → wpList Tryz.prog ops Q rest (a.put o.dst undef) w') : wpList Tryz.prog ops Q (o :: rest) a w := by
 refine wpList_store_mid hgd T x y ho g 0 cs hx hy ?_ (by rw [hl]; exact hT) h1 (h _ ?_ (setCells_frm g _ 0 w))
 ·intro j hj
  rw [hl] at hj
  refine ⟨?_, ?_⟩
  ·rw [Nat.zero_add, cell_of_row w g j _ t _ hg]
   simp [hu, hj]
  ·rw [Nat.zero_add]; exact frozen_of_row w g j _ t hg
 ·have := setCells_at g cs.toList 0 w [] old.toList t (by simpa using hg) rfl (by simp [hl, hu])
  rw [this]
  simp [hl, hu, List.drop_eq_nil_of_le]
theorem stc_wl {w : World} {p : Nat} {t : TypeId} {fr : Nat × Nat} {h b : List Nat} {tk fl : Nat} {wn : Int} (hp : w.heap[p]? = some (.cells (stc h tk b fl wn) t fr)) : w.rangeAt p 0 (wl h) := by
 intro j u hu
 rw [Nat.zero_add, cell_of_row w p j _ _ _ hp, ← hu]
 simp only [stc, stl, List.getElem?_toArray]
 rw [List.getElem?_append_left (List.getElem?_eq_some_iff.1 hu).1]
/-- 'clear(end.block[end.filled:])'. -/
theorem wpList_clearS (hgd : o.guard = none) (d : Operand) (ho : o.op = .call ⟨.builtin .clear, #[d], #[31]⟩) {p fl c : Nat} {A : Option Addr} {h b : List Nat} {tk : Nat} {wn : Int} (hd : a.eval d = .slice A (64 - fl) c) (hA : fl < 64 → A = some ⟨p, 9 + fl, none⟩)
  (hp : w.heap[p]? = some (.cells (stc h tk b fl wn) 140 (0, 0))) (hh : h.length = 8) (hb : b.length = 64) (hf : fl ≤ 64)
  (hK : ∀ w', w'.heap[p]? = some (.cells (stc h tk (b.take fl ++ List.replicate (64 - fl) 0) fl wn) 140 (0, 0)) → Frm [p] w w' → wpList Tryz.prog ops Q rest (a.put o.dst (.tuple #[])) w') : wpList Tryz.prog ops Q (o :: rest) a w := by
 refine wpList_plain hgd fun K hKK => ?_
 by_cases h64 : fl = 64
 ·subst h64
  have e : b.take 64 ++ List.replicate (64 - 64) 0 = b := by rw [List.take_of_length_le (by omega)]; simp
  rw [e] at hK
  have hrun : ∀ ty, (Builtin.clear_ #[31] ty #[.slice A 0 c]).run Tryz.prog w = .ok (.tuple #[]) w := fun ty => by
   cases A <;> simp [Builtin.clear_, run_underlying Tryz.underlying31]
  unfold Oper.wp
  simp [execOp, ho, resolve, invoke, builtin, hd, hrun, Result.andThen]
  exact hKK _ _ (hK w hp (Frm.refl _ w))
 ·have hA' := hA (by omega)
  subst hA'
  have hsz0 : ∀ w, (zeroValue 5).run Tryz.prog w = .ok (.int .u8 0) w := fun w => by kernel_rfl
  have hrun : ∀ ty, (Builtin.clear_ #[31] ty #[.slice (some ⟨p, 9 + fl, none⟩) (64 - fl) c]).run Tryz.prog w = .ok (.tuple #[]) (w.setCells p (9 + fl) (List.replicate (64 - fl) (.int .u8 0))) := fun ty =>
   Lib.run_clear_slice w 31 5 ty (.int .u8 0) Tryz.underlying31 hsz0 rfl rfl p (9 + fl) (64 - fl) c (by omega)
    (fun j hj => by rw [cell_of_row w p _ _ _ _ hp]; have := stc_size (tk := tk) (fl := fl) (wr := wn) hh hb; simp [this]; omega)
    (fun j hj => frozen_of_row w p _ _ _ hp)
  have e0 : List.replicate (64 - fl) (Value.int .u8 0) = sl8 (List.replicate (64 - fl) 0) := by simp [sl8]
  have e1 := stc_copy (h := h) (b := b) (c := List.replicate (64 - fl) 0) (tk := tk) (fl := fl) (wr := wn) hh hb (o := fl) (by simp; omega)
  have h1 := setCells_at p (sl8 (List.replicate (64 - fl) 0)) (9 + fl) w ((stc h tk b fl wn).toList.take (9 + fl)) ((stc h tk b fl wn).toList.drop (9 + fl)) 140 (by rw [List.take_append_drop]; simpa using hp)
   (by have := stc_size (tk := tk) (fl := fl) (wr := wn) hh hb; simp [this]; omega) (by have := stc_size (tk := tk) (fl := fl) (wr := wn) hh hb; simp [this, sl8_len]; omega)
  rw [List.drop_drop, List.append_assoc, e1, List.drop_of_length_le (by simp; omega), List.append_nil] at h1
  have h2 := hK _ h1 (setCells_frm p _ _ w)
  unfold Oper.wp
  simp [execOp, ho, resolve, invoke, builtin, hd, hrun, Result.andThen, e0]
  exact hKK _ _ h2
end
end Go.Proofs.YtoefgfiabfkfaaaGreatDoor
