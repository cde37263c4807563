/- The document's Set: the walk. -/
import Derived.Test.YtmekplaonlpfkaaGreatDoorOwnShelf43
import Derived.Test.YtmekplaonlpfkaaGreatDoorOwnShelf44
import Derived.Deep.QuietTactic
import Derived.BigQuiet
import Derived.Deep.CutBlock
import Derived.Deep.DeepCutAuto
namespace Go.Proofs.YtmekplaonlpfkaaGreatDoor
open Go.RowKit Go.Maps Go.Sort

attribute [local go_sem ↓] Go.wp_at_zero Go.wp_at_succ

/-- What the document's Set answers. -/
def DSetR (B : Nat → Prop) (w : World) (n : Nat) (L : List Lf) (cs : List Cg) (e : Ending) (w' : World) : Prop :=
  ∃ v', e = .returned (.tuple #[v', .int .i64 ((setD n L cs).2.1 : Int), .bool (setD n L cs).2.2.1, .int .i64 (setD n L cs).2.2.2]) ∧ LrB (fun k => B k ∨ w.heap.size ≤ k) w' v' (setD n L cs).1 ∧ Below w.heap.size w w'
set_option maxRecDepth 100000 in
set_option maxHeartbeats 6400000 in
theorem docSet_any (B : Nat → Prop) (n : Nat) (v : Value) (L : List Lf) (ad : Option Addr) (cap : Nat) (cs : List Cg) (w : World) (hL : LrB B w v L) (hok : LOk n L) (hn : 2 ≤ n ∧ n ≤ 100) (hc : CgAt w ad cs) (hcl : cs.length ≤ 100) (hcb : COk cs) (hfl : (frN L n).length + L.length = n - 1) :
    Calls Tryz.prog 21 #[v, .int .i64 (n : Int), .slice ad cs.length cap] w (DSetR B w n L cs) := by
  have HLB : Hid (LrB B w v L) := hL
  obtain ⟨la, lc, rfl, hlc, hln, hsp, hla⟩ := hL
  have hLn : L.length ≤ 100 := by omega
  have HLA : Hid (LrAt w la L) := hla
  have HC : Hid (CgAt w ad cs) := hc
  have HOK : Hid (LOk n L) := hok
  have HCB : Hid (COk cs) := hcb
  have HS0 : Hid (S1 w w L cs (.slice none 0 0) 0 []) := S1.start w w L cs (Below.refl _ _)
  clear hla hc hok hcb
  go_enter Tryz.func21, Tryz.ntmps21
  go_upto_block 0 with fail
  go_cut [10] (fun sv wc => ChOw w wc sv (todoL L cs))
  case first =>
    go_wp2_with fail
    go_loopw [10, 11, 12, 13, 14, 15, 16, 17] (fun sv iv _ _ _ _ _ _ wr => ∃ (i : Nat) (acc : List Cg), i ≤ cs.length ∧ iv = .int .i64 i ∧ S1 w wr L cs sv i acc) (fun _ iv _ _ _ _ _ _ _ => cs.length + 1 - (intOf iv).toNat)
    case atStart => exact ⟨0, [], Nat.zero_le _, rfl, HS0.out⟩
    case round =>
      clear HS0
      obtain ⟨i, acc, hi, rfl, hS⟩ := hrel
      have HS : Hid (S1 w wr L cs u10 i acc) := hS
      clear hS
      by_cases hlt : i < cs.length
      · have hlt' : (i : Int) < cs.length := by omega
        obtain ⟨c, hx⟩ : ∃ c, cs[i]? = some c := ⟨_, List.getElem?_eq_getElem hlt⟩
        have HX : Hid (cs[i]? = some c) := hx
        obtain ⟨cb, coff, rfl, hcc⟩ := HC.out (by omega)
        have HCC : Hid (∀ W : World, Below w.heap.size w W → ∀ j d, cs[j]? = some d → W.cell? ⟨cb, coff + j * 3, none⟩ = some (encStr d.k) ∧ W.cell? ⟨cb, coff + j * 3 + 1, none⟩ = some (encStr d.v) ∧ W.cell? ⟨cb, coff + j * 3 + 2, none⟩ = some (.bool d.g)) := fun W hb j d hd => by
          obtain ⟨h1, h2, h3⟩ := hcc j d hd
          have hlt := World.block_lt_of_cell? w _ h1
          exact ⟨(hb.cell (p := ⟨cb, coff + j * 3, none⟩) hlt).trans h1, (hb.cell (p := ⟨cb, coff + j * 3 + 1, none⟩) hlt).trans h2, (hb.cell (p := ⟨cb, coff + j * 3 + 2, none⟩) hlt).trans h3⟩
        clear hcc hx
        have HBW : Hid (Below w.heap.size w wr) := HS.out.own.below
        go_upto_block 2 with fail
        go_cut [12] (fun v wd => v = .bool (lastB' c (cs.drop (i + 1))) ∧ Below wr.heap.size wr wd)
        case first =>
          generalize hwo : wr = wo at *
          clear hwo wr
          go_wp2_with fail
          go_loopw [12, 13] (fun bv kv wr => ∃ k : Nat, i + 1 ≤ k ∧ k ≤ cs.length ∧ kv = .int .i64 k ∧ bv = .bool (lastB' c ((cs.drop (i + 1)).take (k - (i + 1)))) ∧ Below wo.heap.size wo wr) (fun _ kv _ => cs.length + 1 - (intOf kv).toNat)
          case atStart => exact ⟨i + 1, Nat.le_refl _, by omega, by go_num, by simp [lastB'], Below.refl _ _⟩
          case round =>
            obtain ⟨k, hk1, hk2, rfl, rfl, hbk⟩ := hrel
            have HBK : Hid (Below wo.heap.size wo wr) := hbk
            clear hbk
            by_cases hkl : k < cs.length
            · have hkl' : (k : Int) < cs.length := by omega
              obtain ⟨d, hd⟩ : ∃ d, cs[k]? = some d := ⟨_, List.getElem?_eq_getElem hkl⟩
              have d0 := (HCC.out wr (Below.transS HBW.out HBK.out) k d hd).1
              have c0 := (HCC.out wr (Below.transS HBW.out HBK.out) i c HX.out).1
              have hst := lastB'_step (c := c) hk1 hd
              generalize lastB' c ((cs.drop (i + 1)).take (k - (i + 1))) = tv at *
              obtain ⟨dk, hdk⟩ : ∃ dk, d.k = dk := ⟨_, rfl⟩
              obtain ⟨ck, hck⟩ : ∃ ck, c.k = ck := ⟨_, rfl⟩
              rw [hdk] at d0 hst
              rw [hck] at c0 hst
              have HST : Hid (lastB' c ((cs.drop (i + 1)).take (k + 1 - (i + 1))) = (tv && !(dk == ck))) := hst
              clear hst hd hdk hck
              cases tv with
              | false =>
                go_upto_region 9 with fail
                go_quiet (fail)
                go_wp2
                exact ⟨⟨k + 1, by omega, by omega, by go_num, by rw [HST.out]; rfl, below_drewN HBK.out _⟩, by simp [intOf]; omega⟩
              | true =>
                by_cases e : dk = ck
                · subst e
                  have hne := neq_str_eq dk wr
                  go_upto_region 9 with fail
                  go_quiet (fail)
                  go_wp2
                  exact ⟨⟨k + 1, by omega, by omega, by go_num, by rw [HST.out]; simp, below_drewN HBK.out _⟩, by simp [intOf]; omega⟩
                · have hkb : (dk == ck) = false := by simpa using e
                  go_upto_region 9 with fail
                  go_quiet (fail)
                  go_wp2
                  exact ⟨⟨k + 1, by omega, by omega, by go_num, by rw [HST.out, hkb]; rfl, below_drewN HBK.out _⟩, by simp [intOf]; omega⟩
            · obtain rfl : k = cs.length := by omega
              have hnn : ¬ ((cs.length : Int) < cs.length) := by omega
              rw [lastB'_all]
              go_wp2_with fail
              go_meet
              exact ⟨rfl, HBK.out⟩
        case rest =>
        obtain ⟨rfl, hbc⟩ := hcut
        have HBC : Hid (Below wr.heap.size wr wc) := hbc
        have HBX : Hid (Below w.heap.size w wc) := Below.transS HBW.out hbc
        clear hbc
        have hck := (HCC.out wc HBX.out i c HX.out).1
        have hcv := (HCC.out wc HBX.out i c HX.out).2.1
        have hcg := (HCC.out wc HBX.out i c HX.out).2.2
        have hfind := find_any la lc L c.k wc (HLA.out.below HBX.out) (by omega)
        have hFC : (findF c.k 0 L = -1 ∧ getK Lf.k c.k L = none) ∨ ∃ (j : Nat) (x : Lf), findF c.k 0 L = (j : Int) ∧ L[j]? = some x ∧ getK Lf.k c.k L = some x := by
          rcases findF_cases c.k L 0 with h | ⟨j, x, h1, h2, h3⟩
          · exact .inl h
          · exact .inr ⟨j, x, by omega, h2, h3⟩
        obtain ⟨at_, hat⟩ : ∃ at_, findF c.k 0 L = at_ := ⟨_, rfl⟩
        rw [hat] at hfind hFC
        have HFC : Hid ((at_ = -1 ∧ getK Lf.k c.k L = none) ∨ ∃ (j : Nat) (x : Lf), at_ = (j : Int) ∧ L[j]? = some x ∧ getK Lf.k c.k L = some x) := hFC
        obtain ⟨ck, hck'⟩ : ∃ ck, c.k = ck := ⟨_, rfl⟩
        obtain ⟨cv, hcv'⟩ : ∃ cv, c.v = cv := ⟨_, rfl⟩
        obtain ⟨cg, hcg'⟩ : ∃ cg, c.g = cg := ⟨_, rfl⟩
        have HCE : Hid (c.k = ck ∧ c.v = cv ∧ c.g = cg) := ⟨hck', hcv', hcg'⟩
        rw [hck'] at hck hfind
        rw [hcv'] at hcv
        rw [hcg'] at hcg
        obtain ⟨lb, hlb⟩ : ∃ lb, lastB' c (cs.drop (i + 1)) = lb := ⟨_, rfl⟩
        have HLB' : Hid (lastB' c (cs.drop (i + 1)) = lb) := hlb
        rw [hlb]
        clear hFC hat hck' hcv' hcg' hlb
        go_wp2_with fail
        refine hfind.mono ?_
        rintro e wf ⟨rfl, hwf⟩
        subst hwf
        clear hfind
        go_upto_region 11 with fail
        go_cut [15] (fun v wd => v = .bool (sameC L c) ∧ Below wf.heap.size wf wd)
        case first =>
          rcases HFC.out with ⟨rfl, hg⟩ | ⟨j, x, rfl, hx, hg⟩
          · have hsm : sameC L c = cg := by unfold sameC; rw [hg, HCE.out.2.2]
            have HSM : Hid (sameC L c = cg) := hsm
            clear hg hsm
            cases cg with
            | true =>
              go_quiet (fail)
              go_wp2_with fail
              go_meet
              exact ⟨by rw [HSM.out], below_drewN (Below.refl _ _) _⟩
            | false =>
              go_quiet (fail)
              go_wp2_with fail
              go_meet
              exact ⟨by rw [HSM.out], below_drewN (Below.refl _ _) _⟩
          · have hsm : sameC L c = (!cg && x.v == cv) := by unfold sameC; rw [hg, HCE.out.2.2, HCE.out.2.1]
            have HSM : Hid (sameC L c = (!cg && x.v == cv)) := hsm
            have hjl : j < L.length := (List.getElem?_eq_some_iff.1 hx).1
            obtain ⟨lb2, lo2, rfl, hlc2⟩ := (HLA.out.below HBX.out) (by omega)
            have hxv := (hlc2 j x hx).2.1
            have hj1 : (j : Int) < L.length := by omega
            have hj2 : ¬ ((j : Int) < 0) := by omega
            have hj3 : (0 : Int) ≤ j := by omega
            clear hg hsm hlc2 hx
            generalize x.v = xv at *
            cases cg with
            | true =>
              go_quiet (fail)
              go_wp2_with fail
              go_meet
              exact ⟨by rw [HSM.out]; rfl, below_drewN (Below.refl _ _) _⟩
            | false =>
              by_cases e : xv = cv
              · subst e
                have heq := eq_str_eq xv wf
                go_quiet (fail)
                go_wp2_with fail
                go_meet
                exact ⟨by rw [HSM.out]; simp, below_drewN (Below.refl _ _) _⟩
              · have hkb : (xv == cv) = false := by simpa using e
                go_quiet (fail)
                go_wp2_with fail
                go_meet
                exact ⟨by rw [HSM.out, hkb]; rfl, below_drewN (Below.refl _ _) _⟩
        case rest =>
        obtain ⟨rfl, hbd⟩ := hcut
        have HBD : Hid (Below w.heap.size w wc) := Below.transS HBX.out hbd
        have HBE : Hid (Below wr.heap.size wr wc) := Below.transS HBC.out hbd
        clear hbd hck hcv hcg
        obtain ⟨sm, hsm⟩ : ∃ sm, sameC L c = sm := ⟨_, rfl⟩
        have HSM : Hid (sameC L c = sm) := hsm
        rw [hsm]
        clear hsm
        cases lb with
        | false =>
          have HN : Hid (S1 w wc L cs u10 (i + 1) acc) := HS.out.skip HX.out (fun h => by rw [HLB'.out] at h; exact absurd h.1 (by decide)) HBE.out
          go_wp2
          go_roundw
          case rel => exact ⟨i + 1, acc, by omega, by go_num, HN.out⟩
          case measure => simp [intOf]; omega
        | true =>
        cases sm with
        | true =>
          have HN : Hid (S1 w wc L cs u10 (i + 1) acc) := HS.out.skip HX.out (fun h => by rw [HSM.out] at h; exact absurd h.2 (by decide)) HBE.out
          go_wp2
          go_roundw
          case rel => exact ⟨i + 1, acc, by omega, by go_num, HN.out⟩
          case measure => simp [intOf]; omega
        | false =>
        have HYES : Hid (lastB' c (cs.drop (i + 1)) = true ∧ sameC L c = false) := ⟨HLB'.out, HSM.out⟩
        have HNE : Hid (∀ y ∈ acc, y.k ≠ c.k) := HS.out.ne HX.out
        have hal : acc.length ≤ 100 := by have := HS.out.few; omega
        have HCL : Hid (cb < w.heap.size) := World.block_lt_of_cell? w _ (HCC.out w (Below.refl _ _) i c HX.out).1
        obtain ⟨ga, gcap, hu10, hgc, hga, hgb⟩ := HS.out.own.sl
        have HGA : Hid (∀ W, Below wc.heap.size wc W → CgAt W ga acc) := fun W hb => (hga.below HBE.out).below hb
        have HG0 : Hid ((ga = none ∧ acc = [] ∧ gcap = 0) ∨ ∃ g, ga = some ⟨g, 0, none⟩) := by
          have ho := HS.out.own.own.2
          rw [hu10] at ho
          rcases ho with ⟨e, e2⟩ | ⟨g, cap2, cur, e, _⟩
          · simp at e; exact .inl ⟨e.1, List.eq_nil_of_length_eq_zero e2, e.2.2⟩
          · simp at e; exact .inr ⟨g, e.1⟩
        clear hga hgb
        subst hu10
        generalize hwm : wc = wm at *
        clear hwm wc
        go_upto_block 4 with fail
        go_cut [16] (fun v wd => ∃ q : Nat, q ≤ acc.length ∧ v = .int .i64 q ∧ (∀ y ∈ acc.take q, bytesBefore y.k c.k = true) ∧ (∀ y, acc[q]? = some y → bytesBefore y.k c.k = false) ∧ Below wm.heap.size wm wd)
        case first =>
          generalize hwo : wm = wo at *
          clear hwo wm
          go_wp2_with fail
          go_loopw [16] (fun kv wr => ∃ k : Nat, k ≤ acc.length ∧ kv = .int .i64 k ∧ (∀ y ∈ acc.take k, bytesBefore y.k c.k = true) ∧ Below wo.heap.size wo wr) (fun kv _ => acc.length + 1 - (intOf kv).toNat)
          case atStart => exact ⟨0, Nat.zero_le _, rfl, (fun y hy => by simp at hy), Below.refl _ _⟩
          case round =>
            obtain ⟨k, hk1, rfl, hah, hbk⟩ := hrel
            have HAH : Hid (∀ y ∈ acc.take k, bytesBefore y.k c.k = true) := hah
            have HBK : Hid (Below wo.heap.size wo wr) := hbk
            clear hah hbk
            have c0 := (HCC.out wr (Below.transS HBD.out HBK.out) i c HX.out).1
            rw [HCE.out.1] at c0
            by_cases hkl : k < acc.length
            · have hkl' : (k : Int) < acc.length := by omega
              obtain ⟨y, hy⟩ : ∃ y, acc[k]? = some y := ⟨_, List.getElem?_eq_getElem hkl⟩
              obtain ⟨gb, go_, rfl, hgcell⟩ := HGA.out wr HBK.out (by omega)
              have y0 := (hgcell k y hy).1
              have HY : Hid (acc[k]? = some y) := hy
              have htk : acc.take (k + 1) = acc.take k ++ [y] := by rw [List.take_add_one, hy]; rfl
              have HTK : Hid (acc.take (k + 1) = acc.take k ++ [y]) := htk
              clear hgcell hy htk
              cases hbf : bytesBefore y.k c.k with
              | true =>
                have HN : Hid (∀ z ∈ acc.take (k + 1), bytesBefore z.k c.k = true) := fun z hz => by
                  rw [HTK.out] at hz
                  rcases List.mem_append.1 hz with hz | hz
                  · exact HAH.out z hz
                  · rw [List.mem_singleton.1 hz]; exact hbf
                have hls : Op.bytesLess y.k ck = true := by rw [less_before, ← HCE.out.1]; exact hbf
                clear hbf
                generalize y.k = yk at *
                go_upto_region 14 with fail
                go_quiet (fail)
                go_wp2
                exact ⟨⟨k + 1, by omega, by go_num, HN.out, below_drewN HBK.out _⟩, by simp [intOf]; omega⟩
              | false =>
                have hls : Op.bytesLess y.k ck = false := by rw [less_before, ← HCE.out.1]; exact hbf
                have HN : Hid (∀ z, acc[k]? = some z → bytesBefore z.k c.k = false) := fun z hz => by rw [HY.out] at hz; cases hz; exact hbf
                clear hbf
                generalize y.k = yk at *
                go_upto_region 14 with fail
                go_quiet (fail)
                go_wp2_with fail
                go_meet
                exact ⟨k, hk1, rfl, HAH.out, HN.out, below_drewN HBK.out _⟩
            · obtain rfl : k = acc.length := by omega
              have hnn : ¬ ((acc.length : Int) < acc.length) := by omega
              have HN : Hid (∀ z, acc[acc.length]? = some z → bytesBefore z.k c.k = false) := fun z hz => by rw [List.getElem?_eq_none (Nat.le_refl _)] at hz; cases hz
              go_upto_region 14 with fail
              go_quiet (fail)
              go_wp2_with fail
              go_meet
              exact ⟨acc.length, hk1, rfl, HAH.out, HN.out, below_drewN HBK.out _⟩
        case rest =>
        obtain ⟨q, hq, rfl, hq1, hq2, hbq⟩ := hcut
        generalize hwd : wc = wd at *
        clear hwd wc
        have HB2 : Hid (Below w.heap.size w wd) := Below.transS HBD.out hbq
        have HGB : Hid (∀ W, Below wd.heap.size wd W → CgAt W ga acc) := fun W hb => HGA.out W (Below.transS hbq hb)
        have HIN : Hid (insK Cg.k c acc = acc.take q ++ c :: acc.drop q) := insC_at hq hq1 hq2 HNE.out
        clear HGA hq1 hq2 hbq
        rcases HG0.out with ⟨rfl, rfl, rfl⟩ | ⟨g, rfl⟩
        · obtain rfl : q = 0 := by simpa using hq
          have x0 : wd.drew.cell? ⟨cb, coff + i * 3, none⟩ = some (encStr ck) := by rw [← HCE.out.1]; exact (HCC.out wd.drew HB2.out.drew i c HX.out).1
          have x1 : wd.drew.cell? ⟨cb, coff + i * 3 + 1, none⟩ = some (encStr cv) := by rw [← HCE.out.2.1]; exact (HCC.out wd.drew HB2.out.drew i c HX.out).2.1
          have x2 : wd.drew.cell? ⟨cb, coff + i * 3 + 2, none⟩ = some (.bool cg) := by rw [← HCE.out.2.2]; exact (HCC.out wd.drew HB2.out.drew i c HX.out).2.2
          have HCBL : Hid (cb < w.heap.size) := HCL.out
          have hT : (([] : List Cg).take 0).length = 0 := by simp
          have hD : (([] : List Cg).drop 0).length = 0 := by simp 
          have HO0 : Hid (ChOw wd.drew wd.drew (.slice none 0 0) []) := ChOw.nil' (Below.refl _ _)
          have HLQ : Hid (CgAt wd.drew none ([] : List Cg)) := HGB.out wd.drew (Below.refl _ wd).drew
          have HDR : Hid (∀ W : World, CgAt W none ([] : List Cg) → CgAt W none (([] : List Cg).drop 0)) := fun W h => by intro hn; simp at hn
          have HSK : Hid (∀ W W' : World, (∀ k, k < W.heap.size → k < wd.heap.size → W'.heap[k]? = W.heap[k]?) → wd.heap.size ≤ W.heap.size → (W.cell? ⟨cb, coff + i * 3, none⟩ = some (encStr ck) ∧ W.cell? ⟨cb, coff + i * 3 + 1, none⟩ = some (encStr cv) ∧ W.cell? ⟨cb, coff + i * 3 + 2, none⟩ = some (.bool cg)) → (W'.cell? ⟨cb, coff + i * 3, none⟩ = some (encStr ck) ∧ W'.cell? ⟨cb, coff + i * 3 + 1, none⟩ = some (encStr cv) ∧ W'.cell? ⟨cb, coff + i * 3 + 2, none⟩ = some (.bool cg))) := fun W W' hk hs hc => by
            have h0 := HB2.out.size
            have h2 := HCBL.out
            have h1 := hk cb (by omega) (by omega)
            exact ⟨by rw [World.cell?_of_block (a := ⟨cb, coff + i * 3, none⟩) h1]; exact hc.1, by rw [World.cell?_of_block (a := ⟨cb, coff + i * 3 + 1, none⟩) h1]; exact hc.2.1, by rw [World.cell?_of_block (a := ⟨cb, coff + i * 3 + 2, none⟩) h1]; exact hc.2.2⟩
          have HONE : Hid (∀ W : World, CgAt (W.alloc (.cells #[encStr ck, encStr cv, .bool cg] 114)) (some ⟨W.heap.size, 0, none⟩) [c]) := fun W => by
            have := CgAt.one c W
            rwa [HCE.out.1, HCE.out.2.1, HCE.out.2.2] at this
          have hszd : wd.heap.size ≤ wd.drew.heap.size := Nat.le_refl _
          go_upto_region 17 with fail
          refine wp_region_noPanic ?_
          refine wp_region_held_drew (S := fun w' => w'.cell? ⟨cb, coff + i * 3, none⟩ = some (encStr ck) ∧ w'.cell? ⟨cb, coff + i * 3 + 1, none⟩ = some (encStr cv) ∧ w'.cell? ⟨cb, coff + i * 3 + 2, none⟩ = some (.bool cg)) (by kernel_rfl) ⟨x0, x1, x2⟩ (fun hHeld => ?_)
          refine wpAnyH_take (i := 0) (oi := { dst := some 116, op := Go.Op.move (Go.Operand.tmp 17), type := 51, pos := "ref.go:118", after := #[], guard := none }) (v := ?_) rfl (by kernel_rfl) (by kernel_rfl) (by kernel_rfl) (fun _ _ _ h => h) (Or.inl ⟨by rfl, ?_⟩) (by assumption) ?_
          rotate_left
          · intro wz hSw; (try dsimp only at hSw); go_simp; (try with_reducible rfl)
          try simp only [Act.put, List.setIfInBounds_toArray, List.set_cons_zero, List.set_cons_succ]
          refine wpAnyH_take (i := 1) (oi := { dst := some 117, op := Go.Op.move (Go.Operand.tmp 10), type := 51, pos := "ref.go:118", after := #[], guard := none }) (v := ?_) rfl (by kernel_rfl) (by kernel_rfl) (by kernel_rfl) (fun _ _ _ h => h) (Or.inl ⟨by rfl, ?_⟩) (by assumption) ?_
          rotate_left
          · intro wz hSw; (try dsimp only at hSw); go_simp; (try with_reducible rfl)
          try simp only [Act.put, List.setIfInBounds_toArray, List.set_cons_zero, List.set_cons_succ]
          refine wpAnyH_take (i := 2) (oi := { dst := some 118, op := Go.Op.move (Go.Operand.tmp 16), type := 3, pos := "ref.go:118", after := #[], guard := none }) (v := ?_) rfl (by kernel_rfl) (by kernel_rfl) (by kernel_rfl) (fun _ _ _ h => h) (Or.inl ⟨by rfl, ?_⟩) (by assumption) ?_
          rotate_left
          · intro wz hSw; (try dsimp only at hSw); go_simp; (try with_reducible rfl)
          try simp only [Act.put, List.setIfInBounds_toArray, List.set_cons_zero, List.set_cons_succ]
          refine wpAnyH_take (i := 3) (oi := { dst := some 119, op := Go.Op.slice 51 (Go.Operand.tmp 117) none (some (Go.Operand.tmp 118)) none, type := 51, pos := "ref.go:118", after := #[{ on := 1, ground := Go.Ground.data }, { on := 2, ground := Go.Ground.data }], guard := none }) (v := .slice none 0 0) rfl (by kernel_rfl) (by kernel_rfl) (by kernel_rfl) (fun _ _ _ h => h) (Or.inl ⟨by rfl, ?_⟩) (by assumption) ?_
          · intro wz hSw; (try dsimp only at hSw); go_simp; try (intro hbad; omega)
          try simp only [Act.put, List.setIfInBounds_toArray, List.set_cons_zero, List.set_cons_succ]
          refine wpAnyH_take (i := 5) (oi := { dst := some 121, op := Go.Op.move (Go.Operand.tmp 2), type := 51, pos := "ref.go:118", after := #[], guard := none }) (v := ?_) rfl (by kernel_rfl) (by kernel_rfl) (by kernel_rfl) (fun _ _ _ h => h) (Or.inl ⟨by rfl, ?_⟩) (by assumption) ?_
          rotate_left
          · intro wz hSw; (try dsimp only at hSw); go_simp; (try with_reducible rfl)
          try simp only [Act.put, List.setIfInBounds_toArray, List.set_cons_zero, List.set_cons_succ]
          refine wpAnyH_take (i := 6) (oi := { dst := some 122, op := Go.Op.move (Go.Operand.tmp 11), type := 3, pos := "ref.go:118", after := #[], guard := none }) (v := ?_) rfl (by kernel_rfl) (by kernel_rfl) (by kernel_rfl) (fun _ _ _ h => h) (Or.inl ⟨by rfl, ?_⟩) (by assumption) ?_
          rotate_left
          · intro wz hSw; (try dsimp only at hSw); go_simp; (try with_reducible rfl)
          try simp only [Act.put, List.setIfInBounds_toArray, List.set_cons_zero, List.set_cons_succ]
          refine wpAnyH_take (i := 7) (oi := { dst := some 123, op := Go.Op.indexAddr 51 (Go.Operand.tmp 121) (Go.Operand.tmp 122), type := 0, pos := "ref.go:118", after := #[{ on := 5, ground := Go.Ground.data }, { on := 6, ground := Go.Ground.data }], guard := none }) (v := ?_) rfl (by kernel_rfl) (by kernel_rfl) (by kernel_rfl) (fun _ _ _ h => h) (Or.inl ⟨by rfl, ?_⟩) (by assumption) ?_
          rotate_left
          · intro wz hSw; (try dsimp only at hSw); go_simp; (try with_reducible rfl)
          try simp only [Act.put, List.setIfInBounds_toArray, List.set_cons_zero, List.set_cons_succ]
          refine wpAnyH_take (i := 8) (oi := { dst := some 124, op := Go.Op.load 114 (Go.Operand.tmp 123), type := 114, pos := "ref.go:118", after := #[{ on := 7, ground := Go.Ground.data }], guard := none }) (v := .agg #[encStr ck, encStr cv, .bool cg]) rfl (by kernel_rfl) (by kernel_rfl) (by kernel_rfl) (fun _ _ _ h => h) (Or.inl ⟨by rfl, ?_⟩) (by assumption) ?_
          · intro wz hSw; (try dsimp only at hSw); have h1 := hSw.1; have h2 := hSw.2.1; have h3 := hSw.2.2; go_simp; try rfl
          try simp only [Act.put, List.setIfInBounds_toArray, List.set_cons_zero, List.set_cons_succ]
          refine wpAnyH_take (i := 11) (oi := { dst := some 127, op := Go.Op.move (Go.Operand.tmp 10), type := 51, pos := "ref.go:118", after := #[], guard := none }) (v := ?_) rfl (by kernel_rfl) (by kernel_rfl) (by kernel_rfl) (fun _ _ _ h => h) (Or.inl ⟨by rfl, ?_⟩) (by assumption) ?_
          rotate_left
          · intro wz hSw; (try dsimp only at hSw); go_simp; (try with_reducible rfl)
          try simp only [Act.put, List.setIfInBounds_toArray, List.set_cons_zero, List.set_cons_succ]
          refine wpAnyH_take (i := 12) (oi := { dst := some 128, op := Go.Op.move (Go.Operand.tmp 16), type := 3, pos := "ref.go:118", after := #[], guard := none }) (v := ?_) rfl (by kernel_rfl) (by kernel_rfl) (by kernel_rfl) (fun _ _ _ h => h) (Or.inl ⟨by rfl, ?_⟩) (by assumption) ?_
          rotate_left
          · intro wz hSw; (try dsimp only at hSw); go_simp; (try with_reducible rfl)
          try simp only [Act.put, List.setIfInBounds_toArray, List.set_cons_zero, List.set_cons_succ]
          refine wpAnyH_take (i := 13) (oi := { dst := some 129, op := Go.Op.slice 51 (Go.Operand.tmp 127) (some (Go.Operand.tmp 128)) none none, type := 51, pos := "ref.go:118", after := #[{ on := 11, ground := Go.Ground.data }, { on := 12, ground := Go.Ground.data }], guard := none }) (v := .slice none 0 0) rfl (by kernel_rfl) (by kernel_rfl) (by kernel_rfl) (fun _ _ _ h => h) (Or.inl ⟨by rfl, ?_⟩) (by assumption) ?_
          · intro wz hSw; (try dsimp only at hSw); go_simp; try (intro hbad; omega)
          try simp only [Act.put, List.setIfInBounds_toArray, List.set_cons_zero, List.set_cons_succ]
          refine wpAnyH_ready (rs := [4, 9]) (by kernel_rfl) (by simp) ?_
          refine (AllReadyH.cons (o := { dst := some 120, op := Go.Op.call { callee := Go.Callee.builtin Go.Builtin.append, args := #[Go.Operand.tmp 116, Go.Operand.tmp 119], argTypes := #[51, 51] }, type := 51, pos := "ref.go:118", after := #[{ on := 0, ground := Go.Ground.data }, { on := 3, ground := Go.Ground.data }], guard := none }) rfl (fun K hK => ?_) (AllReadyH.cons (o := { dst := some 125, op := Go.Op.buildSlice 51 1 #[(0, Go.Operand.tmp 124)], type := 51, pos := "ref.go:118", after := #[{ on := 8, ground := Go.Ground.data }], guard := none }) rfl (fun K hK => ?_) AllReadyH.nil))
          · refine step_append_Ch rfl (.tmp 116) (.tmp 119) rfl wd.drew (.slice none 0 0) [] (([] : List Cg).take 0) none 0 (by rfl) (by rw [hT]; rfl) HO0.out (HLQ.out.take 0) (fun _ => by simp) (by simp <;> omega) ?_
            intro v1 w1 hO1 hk1
            have hz1 := hO1.below.size
            have hS1 := HSK.out wd.drew w1 (fun k h1 _ => hk1 k h1 (by simp [Value.ownBlock])) hszd ⟨x0, x1, x2⟩
            refine hK.out _ _ hS1 (fun _ => ?_)
            clear hK K
            try simp only [Act.put, List.setIfInBounds_toArray, List.set_cons_zero, List.set_cons_succ]
            refine wpAnyH_ready (rs := [9]) (by kernel_rfl) (by simp) ?_
            refine (AllReadyH.cons (o := { dst := some 125, op := Go.Op.buildSlice 51 1 #[(0, Go.Operand.tmp 124)], type := 51, pos := "ref.go:118", after := #[{ on := 8, ground := Go.Ground.data }], guard := none }) rfl (fun K hK => ?_) AllReadyH.nil)
            refine step_sliceCh rfl (.tmp 124) rfl ck cv cg (by rfl) ?_
            have hb2 : Below w1.heap.size w1 (w1.alloc (.cells #[encStr ck, encStr cv, .bool cg] 114)) := (Below.refl _ w1).alloc (Nat.le_refl _) _
            have hz2 := hb2.size
            have hS2 := HSK.out w1 (w1.alloc (.cells #[encStr ck, encStr cv, .bool cg] 114)) (fun k h1 _ => hb2.block k h1) (by simp at hz1; omega) hS1
            refine hK.out _ _ hS2 (fun _ => ?_)
            clear hK K
            try simp only [Act.put, List.setIfInBounds_toArray, List.set_cons_zero, List.set_cons_succ]
            refine wpAnyH_ready (rs := [10]) (by kernel_rfl) (by simp) ?_
            refine (AllReadyH.cons (o := { dst := some 126, op := Go.Op.call { callee := Go.Callee.builtin Go.Builtin.append, args := #[Go.Operand.tmp 120, Go.Operand.tmp 125], argTypes := #[51, 51] }, type := 51, pos := "ref.go:118", after := #[{ on := 4, ground := Go.Ground.data }, { on := 9, ground := Go.Ground.data }, { on := 4, ground := Go.Ground.chain }], guard := none }) rfl (fun K hK => ?_) AllReadyH.nil)
            refine step_append_Ch rfl (.tmp 120) (.tmp 125) rfl wd.drew v1 ([] ++ ([] : List Cg).take 0) [c] (some ⟨w1.heap.size, 0, none⟩) 1 (by rfl) (by rfl) (hO1.keep hb2) (HONE.out w1) (fun e => by cases e) (by simp <;> omega) ?_
            intro v3 w3 hO3 hk3
            have hz3 := hO3.below.size
            have hS3 := HSK.out _ w3 (fun k h1 h2 => hk3 k h1 (fun e => by have := hO1.block k e; simp at this; omega)) (by simp at hz1 hz2; simp; omega) hS2
            refine hK.out _ _ hS3 (fun _ => ?_)
            clear hK K
            try simp only [Act.put, List.setIfInBounds_toArray, List.set_cons_zero, List.set_cons_succ]
            refine wpAnyH_ready (rs := [14]) (by kernel_rfl) (by simp) ?_
            refine (AllReadyH.cons (o := { dst := some 130, op := Go.Op.call { callee := Go.Callee.builtin Go.Builtin.append, args := #[Go.Operand.tmp 126, Go.Operand.tmp 129], argTypes := #[51, 51] }, type := 51, pos := "ref.go:118", after := #[{ on := 10, ground := Go.Ground.data }, { on := 13, ground := Go.Ground.data }, { on := 10, ground := Go.Ground.chain }], guard := none }) rfl (fun K hK => ?_) AllReadyH.nil)
            refine step_append_Ch rfl (.tmp 126) (.tmp 129) rfl wd.drew v3 ([] ++ ([] : List Cg).take 0 ++ [c]) (([] : List Cg).drop 0) none (0 - 0) (by rfl) (by rw [hD]; rfl) hO3 (HDR.out w3 (HLQ.out.below hO3.below)) (fun _ => by simp) (by simp <;> omega) ?_
            intro v4 w4 hO4 hk4
            have hS4 := HSK.out _ w4 (fun k h1 h2 => hk4 k h1 (fun e => by have := hO3.block k e; simp at this; omega)) (by simp at hz3; omega) hS3
            refine hK.out _ _ hS4 (fun _ => ?_)
            clear hK K
            try simp only [Act.put, List.setIfInBounds_toArray, List.set_cons_zero, List.set_cons_succ]
            refine wpAnyH_take (i := 15) (oi := { dst := some 10, op := Go.Op.assign (Go.Operand.tmp 130), type := 51, pos := "ref.go:118", after := #[{ on := 14, ground := Go.Ground.data }, { on := 14, ground := Go.Ground.chain }, { on := 0, ground := Go.Ground.phase }, { on := 1, ground := Go.Ground.phase }, { on := 2, ground := Go.Ground.phase }, { on := 3, ground := Go.Ground.phase }, { on := 4, ground := Go.Ground.phase }, { on := 5, ground := Go.Ground.phase }, { on := 6, ground := Go.Ground.phase }, { on := 7, ground := Go.Ground.phase }, { on := 8, ground := Go.Ground.phase }, { on := 9, ground := Go.Ground.phase }, { on := 10, ground := Go.Ground.phase }, { on := 11, ground := Go.Ground.phase }, { on := 12, ground := Go.Ground.phase }, { on := 13, ground := Go.Ground.phase }, { on := 14, ground := Go.Ground.phase }], guard := none }) (v := ?_) rfl (by kernel_rfl) (by kernel_rfl) (by kernel_rfl) (fun _ _ _ h => h) (Or.inl ⟨by rfl, ?_⟩) (by assumption) ?_
            rotate_left
            · intro wz hSw; (try dsimp only at hSw); go_simp; (try with_reducible rfl)
            try simp only [Act.put, List.setIfInBounds_toArray, List.set_cons_zero, List.set_cons_succ]
            refine wpAnyH_done (by kernel_rfl) (NoPanic.normal ?_) _
            try simp only [Act.put, List.setIfInBounds_toArray, List.set_cons_zero, List.set_cons_succ]
            have HN : Hid (S1 w w4 L cs v4 (i + 1) (insK Cg.k c ([] : List Cg))) := HS.out.ins HX.out HYES.out (by
              have h1 := hO4.mono HB2.out.drew
              rw [HIN.out]
              simpa using h1)
            clear hO1 hO3 hO4 hk1 hk3 hk4 hS1 hS2 hS3 hS4 hz1 hz2 hz3 hb2 x0 x1 x2 hT hD hszd hHeld
            go_wp2
            go_roundw
            case rel => exact ⟨i + 1, _, by omega, by go_num, HN.out⟩
            case measure => simp [intOf]; omega
          · refine step_sliceCh rfl (.tmp 124) rfl ck cv cg (by rfl) ?_
            have hb1 : Below wd.drew.heap.size wd.drew (wd.drew.alloc (.cells #[encStr ck, encStr cv, .bool cg] 114)) := (Below.refl _ wd.drew).alloc (Nat.le_refl _) _
            have hz1 := hb1.size
            have hS1 := HSK.out wd.drew (wd.drew.alloc (.cells #[encStr ck, encStr cv, .bool cg] 114)) (fun k h1 _ => hb1.block k h1) hszd ⟨x0, x1, x2⟩
            have hlt1 : wd.drew.heap.size < (wd.drew.alloc (.cells #[encStr ck, encStr cv, .bool cg] 114)).heap.size := by simp
            refine hK.out _ _ hS1 (fun _ => ?_)
            clear hK K
            try simp only [Act.put, List.setIfInBounds_toArray, List.set_cons_zero, List.set_cons_succ]
            refine wpAnyH_ready (rs := [4]) (by kernel_rfl) (by simp) ?_
            refine (AllReadyH.cons (o := { dst := some 120, op := Go.Op.call { callee := Go.Callee.builtin Go.Builtin.append, args := #[Go.Operand.tmp 116, Go.Operand.tmp 119], argTypes := #[51, 51] }, type := 51, pos := "ref.go:118", after := #[{ on := 0, ground := Go.Ground.data }, { on := 3, ground := Go.Ground.data }], guard := none }) rfl (fun K hK => ?_) AllReadyH.nil)
            refine step_append_Ch rfl (.tmp 116) (.tmp 119) rfl wd.drew (.slice none 0 0) [] (([] : List Cg).take 0) none 0 (by rfl) (by rw [hT]; rfl) (HO0.out.keep hb1) ((HLQ.out.below hb1).take 0) (fun _ => by simp) (by simp <;> omega) ?_
            intro v1 w2 hO1 hk1
            have hz2 := hO1.below.size
            have hS2 := HSK.out (wd.drew.alloc (.cells #[encStr ck, encStr cv, .bool cg] 114)) w2 (fun k h1 _ => hk1 k h1 (by simp [Value.ownBlock])) (by simp <;> omega) hS1
            have hone : CgAt w2 (some ⟨wd.drew.heap.size, 0, none⟩) [c] := (HONE.out wd.drew).keep (fun a e _ => by cases e; exact hk1 _ hlt1 (by simp [Value.ownBlock]))
            refine hK.out _ _ hS2 (fun _ => ?_)
            clear hK K
            try simp only [Act.put, List.setIfInBounds_toArray, List.set_cons_zero, List.set_cons_succ]
            refine wpAnyH_ready (rs := [10]) (by kernel_rfl) (by simp) ?_
            refine (AllReadyH.cons (o := { dst := some 126, op := Go.Op.call { callee := Go.Callee.builtin Go.Builtin.append, args := #[Go.Operand.tmp 120, Go.Operand.tmp 125], argTypes := #[51, 51] }, type := 51, pos := "ref.go:118", after := #[{ on := 4, ground := Go.Ground.data }, { on := 9, ground := Go.Ground.data }, { on := 4, ground := Go.Ground.chain }], guard := none }) rfl (fun K hK => ?_) AllReadyH.nil)
            refine step_append_Ch rfl (.tmp 120) (.tmp 125) rfl wd.drew v1 ([] ++ ([] : List Cg).take 0) [c] (some ⟨wd.drew.heap.size, 0, none⟩) 1 (by rfl) (by rfl) hO1 hone (fun e => by cases e) (by simp <;> omega) ?_
            intro v3 w3 hO3 hk3
            have hz3 := hO3.below.size
            have hS3 := HSK.out _ w3 (fun k h1 h2 => hk3 k h1 (fun e => by have := hO1.block k e; simp at this; omega)) (by simp at hz2; omega) hS2
            refine hK.out _ _ hS3 (fun _ => ?_)
            clear hK K
            try simp only [Act.put, List.setIfInBounds_toArray, List.set_cons_zero, List.set_cons_succ]
            refine wpAnyH_ready (rs := [14]) (by kernel_rfl) (by simp) ?_
            refine (AllReadyH.cons (o := { dst := some 130, op := Go.Op.call { callee := Go.Callee.builtin Go.Builtin.append, args := #[Go.Operand.tmp 126, Go.Operand.tmp 129], argTypes := #[51, 51] }, type := 51, pos := "ref.go:118", after := #[{ on := 10, ground := Go.Ground.data }, { on := 13, ground := Go.Ground.data }, { on := 10, ground := Go.Ground.chain }], guard := none }) rfl (fun K hK => ?_) AllReadyH.nil)
            refine step_append_Ch rfl (.tmp 126) (.tmp 129) rfl wd.drew v3 ([] ++ ([] : List Cg).take 0 ++ [c]) (([] : List Cg).drop 0) none (0 - 0) (by rfl) (by rw [hD]; rfl) hO3 (HDR.out w3 (HLQ.out.below hO3.below)) (fun _ => by simp) (by simp <;> omega) ?_
            intro v4 w4 hO4 hk4
            have hS4 := HSK.out _ w4 (fun k h1 h2 => hk4 k h1 (fun e => by have := hO3.block k e; simp at this; omega)) (by simp at hz3; omega) hS3
            refine hK.out _ _ hS4 (fun _ => ?_)
            clear hK K
            try simp only [Act.put, List.setIfInBounds_toArray, List.set_cons_zero, List.set_cons_succ]
            refine wpAnyH_take (i := 15) (oi := { dst := some 10, op := Go.Op.assign (Go.Operand.tmp 130), type := 51, pos := "ref.go:118", after := #[{ on := 14, ground := Go.Ground.data }, { on := 14, ground := Go.Ground.chain }, { on := 0, ground := Go.Ground.phase }, { on := 1, ground := Go.Ground.phase }, { on := 2, ground := Go.Ground.phase }, { on := 3, ground := Go.Ground.phase }, { on := 4, ground := Go.Ground.phase }, { on := 5, ground := Go.Ground.phase }, { on := 6, ground := Go.Ground.phase }, { on := 7, ground := Go.Ground.phase }, { on := 8, ground := Go.Ground.phase }, { on := 9, ground := Go.Ground.phase }, { on := 10, ground := Go.Ground.phase }, { on := 11, ground := Go.Ground.phase }, { on := 12, ground := Go.Ground.phase }, { on := 13, ground := Go.Ground.phase }, { on := 14, ground := Go.Ground.phase }], guard := none }) (v := ?_) rfl (by kernel_rfl) (by kernel_rfl) (by kernel_rfl) (fun _ _ _ h => h) (Or.inl ⟨by rfl, ?_⟩) (by assumption) ?_
            rotate_left
            · intro wz hSw; (try dsimp only at hSw); go_simp; (try with_reducible rfl)
            try simp only [Act.put, List.setIfInBounds_toArray, List.set_cons_zero, List.set_cons_succ]
            refine wpAnyH_done (by kernel_rfl) (NoPanic.normal ?_) _
            try simp only [Act.put, List.setIfInBounds_toArray, List.set_cons_zero, List.set_cons_succ]
            have HN : Hid (S1 w w4 L cs v4 (i + 1) (insK Cg.k c ([] : List Cg))) := HS.out.ins HX.out HYES.out (by
              have h1 := hO4.mono HB2.out.drew
              rw [HIN.out]
              simpa using h1)
            clear hO1 hO3 hO4 hk1 hk3 hk4 hS1 hS2 hS3 hS4 hz1 hz2 hz3 hb1 hone hlt1 x0 x1 x2 hT hD hszd hHeld
            go_wp2
            go_roundw
            case rel => exact ⟨i + 1, _, by omega, by go_num, HN.out⟩
            case measure => simp [intOf]; omega
        · clear HG0
          have x0 : wd.drew.cell? ⟨cb, coff + i * 3, none⟩ = some (encStr ck) := by rw [← HCE.out.1]; exact (HCC.out wd.drew HB2.out.drew i c HX.out).1
          have x1 : wd.drew.cell? ⟨cb, coff + i * 3 + 1, none⟩ = some (encStr cv) := by rw [← HCE.out.2.1]; exact (HCC.out wd.drew HB2.out.drew i c HX.out).2.1
          have x2 : wd.drew.cell? ⟨cb, coff + i * 3 + 2, none⟩ = some (.bool cg) := by rw [← HCE.out.2.2]; exact (HCC.out wd.drew HB2.out.drew i c HX.out).2.2
          have HCBL : Hid (cb < w.heap.size) := HCL.out
          have hT : (acc.take q).length = q := by rw [List.length_take]; omega
          have hD : (acc.drop q).length = acc.length - q := by simp 
          have HO0 : Hid (ChOw wd.drew wd.drew (.slice none 0 0) []) := ChOw.nil' (Below.refl _ _)
          have HLQ : Hid (CgAt wd.drew (some ⟨g, 0, none⟩) acc) := HGB.out wd.drew (Below.refl _ wd).drew
          have HDR : Hid (∀ W : World, CgAt W (some ⟨g, 0, none⟩) acc → CgAt W (if gcap = q then some ⟨g, 0, none⟩ else some ⟨g, 0 + q * 3, none⟩) (acc.drop q)) := fun W h => by
              split
              · intro hn; rw [List.length_drop] at hn; omega
              · exact h.drop q
          have HSK : Hid (∀ W W' : World, (∀ k, k < W.heap.size → k < wd.heap.size → W'.heap[k]? = W.heap[k]?) → wd.heap.size ≤ W.heap.size → (W.cell? ⟨cb, coff + i * 3, none⟩ = some (encStr ck) ∧ W.cell? ⟨cb, coff + i * 3 + 1, none⟩ = some (encStr cv) ∧ W.cell? ⟨cb, coff + i * 3 + 2, none⟩ = some (.bool cg)) → (W'.cell? ⟨cb, coff + i * 3, none⟩ = some (encStr ck) ∧ W'.cell? ⟨cb, coff + i * 3 + 1, none⟩ = some (encStr cv) ∧ W'.cell? ⟨cb, coff + i * 3 + 2, none⟩ = some (.bool cg))) := fun W W' hk hs hc => by
            have h0 := HB2.out.size
            have h2 := HCBL.out
            have h1 := hk cb (by omega) (by omega)
            exact ⟨by rw [World.cell?_of_block (a := ⟨cb, coff + i * 3, none⟩) h1]; exact hc.1, by rw [World.cell?_of_block (a := ⟨cb, coff + i * 3 + 1, none⟩) h1]; exact hc.2.1, by rw [World.cell?_of_block (a := ⟨cb, coff + i * 3 + 2, none⟩) h1]; exact hc.2.2⟩
          have HONE : Hid (∀ W : World, CgAt (W.alloc (.cells #[encStr ck, encStr cv, .bool cg] 114)) (some ⟨W.heap.size, 0, none⟩) [c]) := fun W => by
            have := CgAt.one c W
            rwa [HCE.out.1, HCE.out.2.1, HCE.out.2.2] at this
          have hszd : wd.heap.size ≤ wd.drew.heap.size := Nat.le_refl _
          go_upto_region 17 with fail
          refine wp_region_noPanic ?_
          refine wp_region_held_drew (S := fun w' => w'.cell? ⟨cb, coff + i * 3, none⟩ = some (encStr ck) ∧ w'.cell? ⟨cb, coff + i * 3 + 1, none⟩ = some (encStr cv) ∧ w'.cell? ⟨cb, coff + i * 3 + 2, none⟩ = some (.bool cg)) (by kernel_rfl) ⟨x0, x1, x2⟩ (fun hHeld => ?_)
          refine wpAnyH_take (i := 0) (oi := { dst := some 116, op := Go.Op.move (Go.Operand.tmp 17), type := 51, pos := "ref.go:118", after := #[], guard := none }) (v := ?_) rfl (by kernel_rfl) (by kernel_rfl) (by kernel_rfl) (fun _ _ _ h => h) (Or.inl ⟨by rfl, ?_⟩) (by assumption) ?_
          rotate_left
          · intro wz hSw; (try dsimp only at hSw); go_simp; (try with_reducible rfl)
          try simp only [Act.put, List.setIfInBounds_toArray, List.set_cons_zero, List.set_cons_succ]
          refine wpAnyH_take (i := 1) (oi := { dst := some 117, op := Go.Op.move (Go.Operand.tmp 10), type := 51, pos := "ref.go:118", after := #[], guard := none }) (v := ?_) rfl (by kernel_rfl) (by kernel_rfl) (by kernel_rfl) (fun _ _ _ h => h) (Or.inl ⟨by rfl, ?_⟩) (by assumption) ?_
          rotate_left
          · intro wz hSw; (try dsimp only at hSw); go_simp; (try with_reducible rfl)
          try simp only [Act.put, List.setIfInBounds_toArray, List.set_cons_zero, List.set_cons_succ]
          refine wpAnyH_take (i := 2) (oi := { dst := some 118, op := Go.Op.move (Go.Operand.tmp 16), type := 3, pos := "ref.go:118", after := #[], guard := none }) (v := ?_) rfl (by kernel_rfl) (by kernel_rfl) (by kernel_rfl) (fun _ _ _ h => h) (Or.inl ⟨by rfl, ?_⟩) (by assumption) ?_
          rotate_left
          · intro wz hSw; (try dsimp only at hSw); go_simp; (try with_reducible rfl)
          try simp only [Act.put, List.setIfInBounds_toArray, List.set_cons_zero, List.set_cons_succ]
          refine wpAnyH_take (i := 3) (oi := { dst := some 119, op := Go.Op.slice 51 (Go.Operand.tmp 117) none (some (Go.Operand.tmp 118)) none, type := 51, pos := "ref.go:118", after := #[{ on := 1, ground := Go.Ground.data }, { on := 2, ground := Go.Ground.data }], guard := none }) (v := .slice (some ⟨g, 0, none⟩) q gcap) rfl (by kernel_rfl) (by kernel_rfl) (by kernel_rfl) (fun _ _ _ h => h) (Or.inl ⟨by rfl, ?_⟩) (by assumption) ?_
          · intro wz hSw; (try dsimp only at hSw); go_simp; try (intro hbad; omega)
          try simp only [Act.put, List.setIfInBounds_toArray, List.set_cons_zero, List.set_cons_succ]
          refine wpAnyH_take (i := 5) (oi := { dst := some 121, op := Go.Op.move (Go.Operand.tmp 2), type := 51, pos := "ref.go:118", after := #[], guard := none }) (v := ?_) rfl (by kernel_rfl) (by kernel_rfl) (by kernel_rfl) (fun _ _ _ h => h) (Or.inl ⟨by rfl, ?_⟩) (by assumption) ?_
          rotate_left
          · intro wz hSw; (try dsimp only at hSw); go_simp; (try with_reducible rfl)
          try simp only [Act.put, List.setIfInBounds_toArray, List.set_cons_zero, List.set_cons_succ]
          refine wpAnyH_take (i := 6) (oi := { dst := some 122, op := Go.Op.move (Go.Operand.tmp 11), type := 3, pos := "ref.go:118", after := #[], guard := none }) (v := ?_) rfl (by kernel_rfl) (by kernel_rfl) (by kernel_rfl) (fun _ _ _ h => h) (Or.inl ⟨by rfl, ?_⟩) (by assumption) ?_
          rotate_left
          · intro wz hSw; (try dsimp only at hSw); go_simp; (try with_reducible rfl)
          try simp only [Act.put, List.setIfInBounds_toArray, List.set_cons_zero, List.set_cons_succ]
          refine wpAnyH_take (i := 7) (oi := { dst := some 123, op := Go.Op.indexAddr 51 (Go.Operand.tmp 121) (Go.Operand.tmp 122), type := 0, pos := "ref.go:118", after := #[{ on := 5, ground := Go.Ground.data }, { on := 6, ground := Go.Ground.data }], guard := none }) (v := ?_) rfl (by kernel_rfl) (by kernel_rfl) (by kernel_rfl) (fun _ _ _ h => h) (Or.inl ⟨by rfl, ?_⟩) (by assumption) ?_
          rotate_left
          · intro wz hSw; (try dsimp only at hSw); go_simp; (try with_reducible rfl)
          try simp only [Act.put, List.setIfInBounds_toArray, List.set_cons_zero, List.set_cons_succ]
          refine wpAnyH_take (i := 8) (oi := { dst := some 124, op := Go.Op.load 114 (Go.Operand.tmp 123), type := 114, pos := "ref.go:118", after := #[{ on := 7, ground := Go.Ground.data }], guard := none }) (v := .agg #[encStr ck, encStr cv, .bool cg]) rfl (by kernel_rfl) (by kernel_rfl) (by kernel_rfl) (fun _ _ _ h => h) (Or.inl ⟨by rfl, ?_⟩) (by assumption) ?_
          · intro wz hSw; (try dsimp only at hSw); have h1 := hSw.1; have h2 := hSw.2.1; have h3 := hSw.2.2; go_simp; try rfl
          try simp only [Act.put, List.setIfInBounds_toArray, List.set_cons_zero, List.set_cons_succ]
          refine wpAnyH_take (i := 11) (oi := { dst := some 127, op := Go.Op.move (Go.Operand.tmp 10), type := 51, pos := "ref.go:118", after := #[], guard := none }) (v := ?_) rfl (by kernel_rfl) (by kernel_rfl) (by kernel_rfl) (fun _ _ _ h => h) (Or.inl ⟨by rfl, ?_⟩) (by assumption) ?_
          rotate_left
          · intro wz hSw; (try dsimp only at hSw); go_simp; (try with_reducible rfl)
          try simp only [Act.put, List.setIfInBounds_toArray, List.set_cons_zero, List.set_cons_succ]
          refine wpAnyH_take (i := 12) (oi := { dst := some 128, op := Go.Op.move (Go.Operand.tmp 16), type := 3, pos := "ref.go:118", after := #[], guard := none }) (v := ?_) rfl (by kernel_rfl) (by kernel_rfl) (by kernel_rfl) (fun _ _ _ h => h) (Or.inl ⟨by rfl, ?_⟩) (by assumption) ?_
          rotate_left
          · intro wz hSw; (try dsimp only at hSw); go_simp; (try with_reducible rfl)
          try simp only [Act.put, List.setIfInBounds_toArray, List.set_cons_zero, List.set_cons_succ]
          refine wpAnyH_take (i := 13) (oi := { dst := some 129, op := Go.Op.slice 51 (Go.Operand.tmp 127) (some (Go.Operand.tmp 128)) none none, type := 51, pos := "ref.go:118", after := #[{ on := 11, ground := Go.Ground.data }, { on := 12, ground := Go.Ground.data }], guard := none }) (v := .slice (if gcap = q then some ⟨g, 0, none⟩ else some ⟨g, 0 + q * 3, none⟩) (acc.length - q) (gcap - q)) rfl (by kernel_rfl) (by kernel_rfl) (by kernel_rfl) (fun _ _ _ h => h) (Or.inl ⟨by rfl, ?_⟩) (by assumption) ?_
          · intro wz hSw; (try dsimp only at hSw); go_simp; try (intro hbad; omega)
          try simp only [Act.put, List.setIfInBounds_toArray, List.set_cons_zero, List.set_cons_succ]
          refine wpAnyH_ready (rs := [4, 9]) (by kernel_rfl) (by simp) ?_
          refine (AllReadyH.cons (o := { dst := some 120, op := Go.Op.call { callee := Go.Callee.builtin Go.Builtin.append, args := #[Go.Operand.tmp 116, Go.Operand.tmp 119], argTypes := #[51, 51] }, type := 51, pos := "ref.go:118", after := #[{ on := 0, ground := Go.Ground.data }, { on := 3, ground := Go.Ground.data }], guard := none }) rfl (fun K hK => ?_) (AllReadyH.cons (o := { dst := some 125, op := Go.Op.buildSlice 51 1 #[(0, Go.Operand.tmp 124)], type := 51, pos := "ref.go:118", after := #[{ on := 8, ground := Go.Ground.data }], guard := none }) rfl (fun K hK => ?_) AllReadyH.nil))
          · refine step_append_Ch rfl (.tmp 116) (.tmp 119) rfl wd.drew (.slice none 0 0) [] (acc.take q) (some ⟨g, 0, none⟩) gcap (by rfl) (by rw [hT]; rfl) HO0.out (HLQ.out.take q) (fun e => by cases e) (by simp <;> omega) ?_
            intro v1 w1 hO1 hk1
            have hz1 := hO1.below.size
            have hS1 := HSK.out wd.drew w1 (fun k h1 _ => hk1 k h1 (by simp [Value.ownBlock])) hszd ⟨x0, x1, x2⟩
            refine hK.out _ _ hS1 (fun _ => ?_)
            clear hK K
            try simp only [Act.put, List.setIfInBounds_toArray, List.set_cons_zero, List.set_cons_succ]
            refine wpAnyH_ready (rs := [9]) (by kernel_rfl) (by simp) ?_
            refine (AllReadyH.cons (o := { dst := some 125, op := Go.Op.buildSlice 51 1 #[(0, Go.Operand.tmp 124)], type := 51, pos := "ref.go:118", after := #[{ on := 8, ground := Go.Ground.data }], guard := none }) rfl (fun K hK => ?_) AllReadyH.nil)
            refine step_sliceCh rfl (.tmp 124) rfl ck cv cg (by rfl) ?_
            have hb2 : Below w1.heap.size w1 (w1.alloc (.cells #[encStr ck, encStr cv, .bool cg] 114)) := (Below.refl _ w1).alloc (Nat.le_refl _) _
            have hz2 := hb2.size
            have hS2 := HSK.out w1 (w1.alloc (.cells #[encStr ck, encStr cv, .bool cg] 114)) (fun k h1 _ => hb2.block k h1) (by simp at hz1; omega) hS1
            refine hK.out _ _ hS2 (fun _ => ?_)
            clear hK K
            try simp only [Act.put, List.setIfInBounds_toArray, List.set_cons_zero, List.set_cons_succ]
            refine wpAnyH_ready (rs := [10]) (by kernel_rfl) (by simp) ?_
            refine (AllReadyH.cons (o := { dst := some 126, op := Go.Op.call { callee := Go.Callee.builtin Go.Builtin.append, args := #[Go.Operand.tmp 120, Go.Operand.tmp 125], argTypes := #[51, 51] }, type := 51, pos := "ref.go:118", after := #[{ on := 4, ground := Go.Ground.data }, { on := 9, ground := Go.Ground.data }, { on := 4, ground := Go.Ground.chain }], guard := none }) rfl (fun K hK => ?_) AllReadyH.nil)
            refine step_append_Ch rfl (.tmp 120) (.tmp 125) rfl wd.drew v1 ([] ++ acc.take q) [c] (some ⟨w1.heap.size, 0, none⟩) 1 (by rfl) (by rfl) (hO1.keep hb2) (HONE.out w1) (fun e => by cases e) (by simp <;> omega) ?_
            intro v3 w3 hO3 hk3
            have hz3 := hO3.below.size
            have hS3 := HSK.out _ w3 (fun k h1 h2 => hk3 k h1 (fun e => by have := hO1.block k e; simp at this; omega)) (by simp at hz1 hz2; simp; omega) hS2
            refine hK.out _ _ hS3 (fun _ => ?_)
            clear hK K
            try simp only [Act.put, List.setIfInBounds_toArray, List.set_cons_zero, List.set_cons_succ]
            refine wpAnyH_ready (rs := [14]) (by kernel_rfl) (by simp) ?_
            refine (AllReadyH.cons (o := { dst := some 130, op := Go.Op.call { callee := Go.Callee.builtin Go.Builtin.append, args := #[Go.Operand.tmp 126, Go.Operand.tmp 129], argTypes := #[51, 51] }, type := 51, pos := "ref.go:118", after := #[{ on := 10, ground := Go.Ground.data }, { on := 13, ground := Go.Ground.data }, { on := 10, ground := Go.Ground.chain }], guard := none }) rfl (fun K hK => ?_) AllReadyH.nil)
            refine step_append_Ch rfl (.tmp 126) (.tmp 129) rfl wd.drew v3 ([] ++ acc.take q ++ [c]) (acc.drop q) (if gcap = q then some ⟨g, 0, none⟩ else some ⟨g, 0 + q * 3, none⟩) (gcap - q) (by rfl) (by rw [hD]; rfl) hO3 (HDR.out w3 (HLQ.out.below hO3.below)) (fun e => by split at e <;> cases e) (by simp <;> omega) ?_
            intro v4 w4 hO4 hk4
            have hS4 := HSK.out _ w4 (fun k h1 h2 => hk4 k h1 (fun e => by have := hO3.block k e; simp at this; omega)) (by simp at hz3; omega) hS3
            refine hK.out _ _ hS4 (fun _ => ?_)
            clear hK K
            try simp only [Act.put, List.setIfInBounds_toArray, List.set_cons_zero, List.set_cons_succ]
            refine wpAnyH_take (i := 15) (oi := { dst := some 10, op := Go.Op.assign (Go.Operand.tmp 130), type := 51, pos := "ref.go:118", after := #[{ on := 14, ground := Go.Ground.data }, { on := 14, ground := Go.Ground.chain }, { on := 0, ground := Go.Ground.phase }, { on := 1, ground := Go.Ground.phase }, { on := 2, ground := Go.Ground.phase }, { on := 3, ground := Go.Ground.phase }, { on := 4, ground := Go.Ground.phase }, { on := 5, ground := Go.Ground.phase }, { on := 6, ground := Go.Ground.phase }, { on := 7, ground := Go.Ground.phase }, { on := 8, ground := Go.Ground.phase }, { on := 9, ground := Go.Ground.phase }, { on := 10, ground := Go.Ground.phase }, { on := 11, ground := Go.Ground.phase }, { on := 12, ground := Go.Ground.phase }, { on := 13, ground := Go.Ground.phase }, { on := 14, ground := Go.Ground.phase }], guard := none }) (v := ?_) rfl (by kernel_rfl) (by kernel_rfl) (by kernel_rfl) (fun _ _ _ h => h) (Or.inl ⟨by rfl, ?_⟩) (by assumption) ?_
            rotate_left
            · intro wz hSw; (try dsimp only at hSw); go_simp; (try with_reducible rfl)
            try simp only [Act.put, List.setIfInBounds_toArray, List.set_cons_zero, List.set_cons_succ]
            refine wpAnyH_done (by kernel_rfl) (NoPanic.normal ?_) _
            try simp only [Act.put, List.setIfInBounds_toArray, List.set_cons_zero, List.set_cons_succ]
            have HN : Hid (S1 w w4 L cs v4 (i + 1) (insK Cg.k c acc)) := HS.out.ins HX.out HYES.out (by
              have h1 := hO4.mono HB2.out.drew
              rw [HIN.out]
              simpa using h1)
            clear hO1 hO3 hO4 hk1 hk3 hk4 hS1 hS2 hS3 hS4 hz1 hz2 hz3 hb2 x0 x1 x2 hT hD hszd hHeld
            go_wp2
            go_roundw
            case rel => exact ⟨i + 1, _, by omega, by go_num, HN.out⟩
            case measure => simp [intOf]; omega
          · refine step_sliceCh rfl (.tmp 124) rfl ck cv cg (by rfl) ?_
            have hb1 : Below wd.drew.heap.size wd.drew (wd.drew.alloc (.cells #[encStr ck, encStr cv, .bool cg] 114)) := (Below.refl _ wd.drew).alloc (Nat.le_refl _) _
            have hz1 := hb1.size
            have hS1 := HSK.out wd.drew (wd.drew.alloc (.cells #[encStr ck, encStr cv, .bool cg] 114)) (fun k h1 _ => hb1.block k h1) hszd ⟨x0, x1, x2⟩
            have hlt1 : wd.drew.heap.size < (wd.drew.alloc (.cells #[encStr ck, encStr cv, .bool cg] 114)).heap.size := by simp
            refine hK.out _ _ hS1 (fun _ => ?_)
            clear hK K
            try simp only [Act.put, List.setIfInBounds_toArray, List.set_cons_zero, List.set_cons_succ]
            refine wpAnyH_ready (rs := [4]) (by kernel_rfl) (by simp) ?_
            refine (AllReadyH.cons (o := { dst := some 120, op := Go.Op.call { callee := Go.Callee.builtin Go.Builtin.append, args := #[Go.Operand.tmp 116, Go.Operand.tmp 119], argTypes := #[51, 51] }, type := 51, pos := "ref.go:118", after := #[{ on := 0, ground := Go.Ground.data }, { on := 3, ground := Go.Ground.data }], guard := none }) rfl (fun K hK => ?_) AllReadyH.nil)
            refine step_append_Ch rfl (.tmp 116) (.tmp 119) rfl wd.drew (.slice none 0 0) [] (acc.take q) (some ⟨g, 0, none⟩) gcap (by rfl) (by rw [hT]; rfl) (HO0.out.keep hb1) ((HLQ.out.below hb1).take q) (fun e => by cases e) (by simp <;> omega) ?_
            intro v1 w2 hO1 hk1
            have hz2 := hO1.below.size
            have hS2 := HSK.out (wd.drew.alloc (.cells #[encStr ck, encStr cv, .bool cg] 114)) w2 (fun k h1 _ => hk1 k h1 (by simp [Value.ownBlock])) (by simp <;> omega) hS1
            have hone : CgAt w2 (some ⟨wd.drew.heap.size, 0, none⟩) [c] := (HONE.out wd.drew).keep (fun a e _ => by cases e; exact hk1 _ hlt1 (by simp [Value.ownBlock]))
            refine hK.out _ _ hS2 (fun _ => ?_)
            clear hK K
            try simp only [Act.put, List.setIfInBounds_toArray, List.set_cons_zero, List.set_cons_succ]
            refine wpAnyH_ready (rs := [10]) (by kernel_rfl) (by simp) ?_
            refine (AllReadyH.cons (o := { dst := some 126, op := Go.Op.call { callee := Go.Callee.builtin Go.Builtin.append, args := #[Go.Operand.tmp 120, Go.Operand.tmp 125], argTypes := #[51, 51] }, type := 51, pos := "ref.go:118", after := #[{ on := 4, ground := Go.Ground.data }, { on := 9, ground := Go.Ground.data }, { on := 4, ground := Go.Ground.chain }], guard := none }) rfl (fun K hK => ?_) AllReadyH.nil)
            refine step_append_Ch rfl (.tmp 120) (.tmp 125) rfl wd.drew v1 ([] ++ acc.take q) [c] (some ⟨wd.drew.heap.size, 0, none⟩) 1 (by rfl) (by rfl) hO1 hone (fun e => by cases e) (by simp <;> omega) ?_
            intro v3 w3 hO3 hk3
            have hz3 := hO3.below.size
            have hS3 := HSK.out _ w3 (fun k h1 h2 => hk3 k h1 (fun e => by have := hO1.block k e; simp at this; omega)) (by simp at hz2; omega) hS2
            refine hK.out _ _ hS3 (fun _ => ?_)
            clear hK K
            try simp only [Act.put, List.setIfInBounds_toArray, List.set_cons_zero, List.set_cons_succ]
            refine wpAnyH_ready (rs := [14]) (by kernel_rfl) (by simp) ?_
            refine (AllReadyH.cons (o := { dst := some 130, op := Go.Op.call { callee := Go.Callee.builtin Go.Builtin.append, args := #[Go.Operand.tmp 126, Go.Operand.tmp 129], argTypes := #[51, 51] }, type := 51, pos := "ref.go:118", after := #[{ on := 10, ground := Go.Ground.data }, { on := 13, ground := Go.Ground.data }, { on := 10, ground := Go.Ground.chain }], guard := none }) rfl (fun K hK => ?_) AllReadyH.nil)
            refine step_append_Ch rfl (.tmp 126) (.tmp 129) rfl wd.drew v3 ([] ++ acc.take q ++ [c]) (acc.drop q) (if gcap = q then some ⟨g, 0, none⟩ else some ⟨g, 0 + q * 3, none⟩) (gcap - q) (by rfl) (by rw [hD]; rfl) hO3 (HDR.out w3 (HLQ.out.below hO3.below)) (fun e => by split at e <;> cases e) (by simp <;> omega) ?_
            intro v4 w4 hO4 hk4
            have hS4 := HSK.out _ w4 (fun k h1 h2 => hk4 k h1 (fun e => by have := hO3.block k e; simp at this; omega)) (by simp at hz3; omega) hS3
            refine hK.out _ _ hS4 (fun _ => ?_)
            clear hK K
            try simp only [Act.put, List.setIfInBounds_toArray, List.set_cons_zero, List.set_cons_succ]
            refine wpAnyH_take (i := 15) (oi := { dst := some 10, op := Go.Op.assign (Go.Operand.tmp 130), type := 51, pos := "ref.go:118", after := #[{ on := 14, ground := Go.Ground.data }, { on := 14, ground := Go.Ground.chain }, { on := 0, ground := Go.Ground.phase }, { on := 1, ground := Go.Ground.phase }, { on := 2, ground := Go.Ground.phase }, { on := 3, ground := Go.Ground.phase }, { on := 4, ground := Go.Ground.phase }, { on := 5, ground := Go.Ground.phase }, { on := 6, ground := Go.Ground.phase }, { on := 7, ground := Go.Ground.phase }, { on := 8, ground := Go.Ground.phase }, { on := 9, ground := Go.Ground.phase }, { on := 10, ground := Go.Ground.phase }, { on := 11, ground := Go.Ground.phase }, { on := 12, ground := Go.Ground.phase }, { on := 13, ground := Go.Ground.phase }, { on := 14, ground := Go.Ground.phase }], guard := none }) (v := ?_) rfl (by kernel_rfl) (by kernel_rfl) (by kernel_rfl) (fun _ _ _ h => h) (Or.inl ⟨by rfl, ?_⟩) (by assumption) ?_
            rotate_left
            · intro wz hSw; (try dsimp only at hSw); go_simp; (try with_reducible rfl)
            try simp only [Act.put, List.setIfInBounds_toArray, List.set_cons_zero, List.set_cons_succ]
            refine wpAnyH_done (by kernel_rfl) (NoPanic.normal ?_) _
            try simp only [Act.put, List.setIfInBounds_toArray, List.set_cons_zero, List.set_cons_succ]
            have HN : Hid (S1 w w4 L cs v4 (i + 1) (insK Cg.k c acc)) := HS.out.ins HX.out HYES.out (by
              have h1 := hO4.mono HB2.out.drew
              rw [HIN.out]
              simpa using h1)
            clear hO1 hO3 hO4 hk1 hk3 hk4 hS1 hS2 hS3 hS4 hz1 hz2 hz3 hb1 hone hlt1 x0 x1 x2 hT hD hszd hHeld
            go_wp2
            go_roundw
            case rel => exact ⟨i + 1, _, by omega, by go_num, HN.out⟩
            case measure => simp [intOf]; omega
      · obtain rfl : i = cs.length := by omega
        have hnn : ¬ ((cs.length : Int) < cs.length) := by omega
        have HE : Hid (ChOw w wr u10 (todoL L cs)) := HS.out.done
        go_wp2_with fail
        go_meet
        exact HE.out
  case rest =>
  clear HS0 HC
  have HSD : Hid (setD n L cs = match layL (todoL L cs) with
    | none => (L, 0, false, 2)
    | some ls => if n - 1 - L.length < ls.length then (L, 0, false, 10) else (behL (todoL L cs) (frN L n) L, ls.length, decide (0 < (todoL L cs).length), 0)) := rfl
  have hCl : (todoL L cs).length ≤ 100 := by have := todoL_le L cs; omega
  have HCO : Hid (COk (todoL L cs)) := ⟨by omega, fun x hx => HCB.out.2 x (todoL_mem hx)⟩
  obtain ⟨C, hC⟩ : ∃ C, todoL L cs = C := ⟨_, rfl⟩
  rw [hC] at hcut hCl HCO HSD
  clear hC
  obtain ⟨ta, tcap, hu10, htc, hta, htb⟩ := hcut.sl
  have HB0 : Hid (Below w.heap.size w wc) := hcut.below
  have HTA : Hid (∀ W, Below wc.heap.size wc W → CgAt W ta C) := fun W hb => hta.below hb
  clear hcut hta htb
  subst hu10
  generalize hwm : wc = wm at *
  clear hwm wc
  go_wp2_with fail
  go_loopw [18, 19] (fun lv iv wr => ∃ (i : Nat) (ls : List (List Int)), i ≤ C.length ∧ iv = .int .i64 i ∧ layL (C.take i) = some ls ∧ ls.length ≤ i ∧ lv = .int .i64 (ls.length : Int) ∧ Below wm.heap.size wm wr) (fun _ iv _ => C.length + 1 - (intOf iv).toNat)
  case atStart => exact ⟨0, [], Nat.zero_le _, rfl, rfl, Nat.le_refl _, rfl, Below.refl _ _⟩
  case round =>
    obtain ⟨i, ls, hi, rfl, hly, hls, rfl, hbw⟩ := hrel
    have HBW : Hid (Below wm.heap.size wm wr) := hbw
    have HBV : Hid (Below w.heap.size w wr) := Below.transS HB0.out hbw
    clear hbw
    by_cases hlt : i < C.length
    · have hlt' : (i : Int) < C.length := by omega
      obtain ⟨x, hx⟩ : ∃ x, C[i]? = some x := ⟨_, List.getElem?_eq_getElem hlt⟩
      have hlt3 := layL_take hx hly
      have hxo := HCO.out.2 x (List.mem_of_getElem? hx)
      obtain ⟨tb, to_, rfl, hcc⟩ := HTA.out wr HBW.out (by omega)
      obtain ⟨d0, d1, d2⟩ := hcc i x hx
      have HL3 : Hid ((x.g = true → layL (C.take (i + 1)) = some ls) ∧ (x.g = false → 4096 < (leafB x.k x.v).length → layL C = none) ∧ (x.g = false → ¬ 4096 < (leafB x.k x.v).length → layL (C.take (i + 1)) = some (ls ++ [leafB x.k x.v]))) := hlt3
      have HX : Hid (C[i]? = some x) := hx
      clear hlt3 hly hcc hx
      cases hg : x.g with
      | true =>
        have HN : Hid (layL (C.take (i + 1)) = some ls) := HL3.out.1 hg
        rw [hg] at d2
        clear hg HL3
        go_wp2
        exact ⟨⟨i + 1, ls, by omega, by go_num, HN.out, by omega, rfl, HBW.out⟩, by simp [intOf]; omega⟩
      | false =>
        rw [hg] at d2
        have HG : Hid (x.g = false) := hg
        clear hg
        have hpg := page_any x.k x.v wr.drew (by omega) (by omega)
        obtain ⟨ll, hll⟩ : ∃ ll, (leafB x.k x.v).length = ll := ⟨_, rfl⟩
        have hlb : ll ≤ 1000000 := by
          have h1 := encB_le x.k
          have h2 := encB_le x.v
          have h3 : (leafB x.k x.v).length = (encB x.k).length + (encB x.v).length := by unfold leafB; rw [List.length_append]
          omega
        have HLL : Hid ((leafB x.k x.v).length = ll) := hll
        clear hll
        obtain ⟨xk, hxk⟩ : ∃ xk, x.k = xk := ⟨_, rfl⟩
        obtain ⟨xv, hxv⟩ : ∃ xv, x.v = xv := ⟨_, rfl⟩
        have HXE : Hid (x.k = xk ∧ x.v = xv) := ⟨hxk, hxv⟩
        rw [hxk] at d0 hpg
        rw [hxv] at d1 hpg
        have HLQ : Hid ((leafB xk xv).length = ll) := by rw [← hxk, ← hxv]; exact HLL.out
        clear hxk hxv
        have e0 : wr.drew.cell? ⟨tb, to_ + i * 3, none⟩ = some (encStr xk) := d0
        have e1 : wr.drew.cell? ⟨tb, to_ + i * 3 + 1, none⟩ = some (encStr xv) := d1
        go_upto_region 24 with fail
        refine wp_region_noPanic ?_
        refine wp_region_held_drew (S := fun w' => w'.cell? ⟨tb, to_ + i * 3, none⟩ = some (encStr xk) ∧ w'.cell? ⟨tb, to_ + i * 3 + 1, none⟩ = some (encStr xv)) (by kernel_rfl) ⟨e0, e1⟩ (fun hHeld => ?_)
        refine wpAnyH_take (i := 0) (oi := { dst := some 145, op := Go.Op.move (Go.Operand.tmp 10), type := 51, pos := "ref.go:124", after := #[], guard := none }) (v := ?_) rfl (by kernel_rfl) (by kernel_rfl) (by kernel_rfl) (fun _ _ _ h => h) (Or.inl ⟨by rfl, ?_⟩) (by assumption) ?_
        rotate_left
        · intro wz hSw; (try dsimp only at hSw); go_simp; (try with_reducible rfl)
        try simp only [Act.put, List.setIfInBounds_toArray, List.set_cons_zero, List.set_cons_succ]
        refine wpAnyH_take (i := 1) (oi := { dst := some 146, op := Go.Op.move (Go.Operand.tmp 19), type := 3, pos := "ref.go:124", after := #[], guard := none }) (v := ?_) rfl (by kernel_rfl) (by kernel_rfl) (by kernel_rfl) (fun _ _ _ h => h) (Or.inl ⟨by rfl, ?_⟩) (by assumption) ?_
        rotate_left
        · intro wz hSw; (try dsimp only at hSw); go_simp; (try with_reducible rfl)
        try simp only [Act.put, List.setIfInBounds_toArray, List.set_cons_zero, List.set_cons_succ]
        refine wpAnyH_take (i := 2) (oi := { dst := some 147, op := Go.Op.indexAddr 51 (Go.Operand.tmp 145) (Go.Operand.tmp 146), type := 0, pos := "ref.go:124", after := #[{ on := 0, ground := Go.Ground.data }, { on := 1, ground := Go.Ground.data }], guard := none }) (v := ?_) rfl (by kernel_rfl) (by kernel_rfl) (by kernel_rfl) (fun _ _ _ h => h) (Or.inl ⟨by rfl, ?_⟩) (by assumption) ?_
        rotate_left
        · intro wz hSw; (try dsimp only at hSw); go_simp; (try with_reducible rfl)
        try simp only [Act.put, List.setIfInBounds_toArray, List.set_cons_zero, List.set_cons_succ]
        refine wpAnyH_take (i := 3) (oi := { dst := some 148, op := Go.Op.fieldAddr 114 (Go.Operand.tmp 147) 0, type := 0, pos := "ref.go:124", after := #[{ on := 2, ground := Go.Ground.data }], guard := none }) (v := ?_) rfl (by kernel_rfl) (by kernel_rfl) (by kernel_rfl) (fun _ _ _ h => h) (Or.inl ⟨by rfl, ?_⟩) (by assumption) ?_
        rotate_left
        · intro wz hSw; (try dsimp only at hSw); go_simp; (try with_reducible rfl)
        try simp only [Act.put, List.setIfInBounds_toArray, List.set_cons_zero, List.set_cons_succ]
        refine wpAnyH_take (i := 4) (oi := { dst := some 149, op := Go.Op.load 9 (Go.Operand.tmp 148), type := 9, pos := "ref.go:124", after := #[{ on := 3, ground := Go.Ground.data }], guard := none }) (v := encStr xk) rfl (by kernel_rfl) (by kernel_rfl) (by kernel_rfl) (fun _ _ _ h => h) (Or.inl ⟨by rfl, ?_⟩) (by assumption) ?_
        · intro wz hSw; (try dsimp only at hSw); have h1 := hSw.1; go_simp; try rfl
        try simp only [Act.put, List.setIfInBounds_toArray, List.set_cons_zero, List.set_cons_succ]
        refine wpAnyH_take (i := 5) (oi := { dst := some 150, op := Go.Op.move (Go.Operand.tmp 10), type := 51, pos := "ref.go:124", after := #[], guard := none }) (v := ?_) rfl (by kernel_rfl) (by kernel_rfl) (by kernel_rfl) (fun _ _ _ h => h) (Or.inl ⟨by rfl, ?_⟩) (by assumption) ?_
        rotate_left
        · intro wz hSw; (try dsimp only at hSw); go_simp; (try with_reducible rfl)
        try simp only [Act.put, List.setIfInBounds_toArray, List.set_cons_zero, List.set_cons_succ]
        refine wpAnyH_take (i := 6) (oi := { dst := some 151, op := Go.Op.move (Go.Operand.tmp 19), type := 3, pos := "ref.go:124", after := #[], guard := none }) (v := ?_) rfl (by kernel_rfl) (by kernel_rfl) (by kernel_rfl) (fun _ _ _ h => h) (Or.inl ⟨by rfl, ?_⟩) (by assumption) ?_
        rotate_left
        · intro wz hSw; (try dsimp only at hSw); go_simp; (try with_reducible rfl)
        try simp only [Act.put, List.setIfInBounds_toArray, List.set_cons_zero, List.set_cons_succ]
        refine wpAnyH_take (i := 7) (oi := { dst := some 152, op := Go.Op.indexAddr 51 (Go.Operand.tmp 150) (Go.Operand.tmp 151), type := 0, pos := "ref.go:124", after := #[{ on := 5, ground := Go.Ground.data }, { on := 6, ground := Go.Ground.data }], guard := none }) (v := ?_) rfl (by kernel_rfl) (by kernel_rfl) (by kernel_rfl) (fun _ _ _ h => h) (Or.inl ⟨by rfl, ?_⟩) (by assumption) ?_
        rotate_left
        · intro wz hSw; (try dsimp only at hSw); go_simp; (try with_reducible rfl)
        try simp only [Act.put, List.setIfInBounds_toArray, List.set_cons_zero, List.set_cons_succ]
        refine wpAnyH_take (i := 8) (oi := { dst := some 153, op := Go.Op.fieldAddr 114 (Go.Operand.tmp 152) 1, type := 0, pos := "ref.go:124", after := #[{ on := 7, ground := Go.Ground.data }], guard := none }) (v := ?_) rfl (by kernel_rfl) (by kernel_rfl) (by kernel_rfl) (fun _ _ _ h => h) (Or.inl ⟨by rfl, ?_⟩) (by assumption) ?_
        rotate_left
        · intro wz hSw; (try dsimp only at hSw); go_simp; (try with_reducible rfl)
        try simp only [Act.put, List.setIfInBounds_toArray, List.set_cons_zero, List.set_cons_succ]
        refine wpAnyH_take (i := 9) (oi := { dst := some 154, op := Go.Op.load 9 (Go.Operand.tmp 153), type := 9, pos := "ref.go:124", after := #[{ on := 8, ground := Go.Ground.data }], guard := none }) (v := encStr xv) rfl (by kernel_rfl) (by kernel_rfl) (by kernel_rfl) (fun _ _ _ h => h) (Or.inl ⟨by rfl, ?_⟩) (by assumption) ?_
        · intro wz hSw; (try dsimp only at hSw); have h1 := hSw.2; go_simp; try rfl
        try simp only [Act.put, List.setIfInBounds_toArray, List.set_cons_zero, List.set_cons_succ]
        refine wpAnyH_ready (rs := [10]) (by kernel_rfl) (by simp) ?_
        refine (AllReadyH.cons (o := { dst := some 155, op := Go.Op.call { callee := Go.Callee.value (Go.Operand.func 25), args := #[Go.Operand.tmp 149, Go.Operand.tmp 154], argTypes := #[9, 9] }, type := 29, pos := "ref.go:124", after := #[{ on := 4, ground := Go.Ground.data }, { on := 9, ground := Go.Ground.data }], guard := none }) rfl (fun K hK => ?_) AllReadyH.nil)
        go_simp
        refine hpg.mono ?_
        rintro e w2 ⟨pv, rfl, hO2⟩
        obtain ⟨pa, pc, hpv⟩ := hO2.form
        rw [HLQ.out] at hpv
        subst hpv
        have HB2 : Hid (Below wm.heap.size wm w2) := Below.transS HBW.out.drew hO2.below
        have f0 : w2.cell? ⟨tb, to_ + i * 3, none⟩ = some (encStr xk) := by rw [hO2.below.cell (p := ⟨tb, to_ + i * 3, none⟩) (World.block_lt_of_cell? _ _ e0)]; exact e0
        have f1 : w2.cell? ⟨tb, to_ + i * 3 + 1, none⟩ = some (encStr xv) := by rw [hO2.below.cell (p := ⟨tb, to_ + i * 3 + 1, none⟩) (World.block_lt_of_cell? _ _ e1)]; exact e1
        refine hK.out _ _ ⟨f0, f1⟩ (fun _ => ?_)
        clear hK K
        try simp only [Act.put, List.setIfInBounds_toArray, List.set_cons_zero, List.set_cons_succ]
        refine wpAnyH_take (i := 11) (oi := { dst := some 156, op := Go.Op.call { callee := Go.Callee.builtin Go.Builtin.len, args := #[Go.Operand.tmp 155], argTypes := #[29] }, type := 3, pos := "ref.go:124", after := #[{ on := 10, ground := Go.Ground.data }], guard := none }) (v := ?_) rfl (by kernel_rfl) (by kernel_rfl) (by kernel_rfl) (fun _ _ _ h => h) (Or.inl ⟨by rfl, ?_⟩) (by assumption) ?_
        rotate_left
        · intro wz hSw; (try dsimp only at hSw); go_simp; (try with_reducible rfl)
        try simp only [Act.put, List.setIfInBounds_toArray, List.set_cons_zero, List.set_cons_succ]
        refine wpAnyH_take (i := 12) (oi := { dst := some 157, op := Go.Op.binOp Go.BinOp.gtr 3 (Go.Operand.tmp 156) (Go.Operand.const (Go.Value.int Go.IntKind.i64 4096)) 3, type := 4, pos := "ref.go:124", after := #[{ on := 11, ground := Go.Ground.data }], guard := none }) (v := ?_) rfl (by kernel_rfl) (by kernel_rfl) (by kernel_rfl) (fun _ _ _ h => h) (Or.inl ⟨by rfl, ?_⟩) (by assumption) ?_
        rotate_left
        · intro wz hSw; (try dsimp only at hSw); go_simp; (try with_reducible rfl)
        try simp only [Act.put, List.setIfInBounds_toArray, List.set_cons_zero, List.set_cons_succ]
        refine wpAnyH_done (by kernel_rfl) (NoPanic.normal ?_) _
        try simp only [Act.put, List.setIfInBounds_toArray, List.set_cons_zero, List.set_cons_succ]
        clear hHeld hpg hO2 e0 e1 f0 f1 d0 d1 d2
        by_cases hbig : 4096 < ll
        · have hbig' : (4096 : Int) < ll := by omega
          have HE : Hid (DSetR B w n L cs (.returned (.tuple #[.slice la L.length lc, .int .i64 0, .bool false, .int .i64 2])) w2) := by
            have h1 := HL3.out.2.1 HG.out (by rw [HLL.out]; exact hbig)
            have h2 := HSD.out
            rw [h1] at h2
            refine ⟨.slice la L.length lc, by rw [h2]; rfl, ?_, Below.transS HB0.out HB2.out⟩
            rw [h2]
            exact (HLB.out.below (Below.transS HB0.out HB2.out)).mono fun k h _ => .inl h
          go_wp2
          exact bodyPost_ret (v := .tuple #[.slice la L.length lc, .int .i64 0, .bool false, .int .i64 2]) (by simp [results, Tryz.results21, go_sem]) rfl HE.out
        · have hbig' : ¬ ((4096 : Int) < ll) := by omega
          have HN : Hid (layL (C.take (i + 1)) = some (ls ++ [leafB x.k x.v])) := HL3.out.2.2 HG.out (by rw [HLL.out]; exact hbig)
          go_wp2
          exact ⟨⟨i + 1, _, by omega, by go_num, HN.out, by simp; omega, by simp, HB2.out⟩, by simp [intOf]; omega⟩
    · obtain rfl : i = C.length := by omega
      have hnn : ¬ ((C.length : Int) < C.length) := by omega
      rw [List.take_length] at hly
      have h2 := HSD.out
      rw [hly] at h2
      have hnl := layL_n hly
      by_cases hfull : n - 1 - L.length < ls.length
      · have hfull' : (n : Int) - 1 - (L.length : Int) < (ls.length : Int) := by omega
        have HE : Hid (DSetR B w n L cs (.returned (.tuple #[.slice la L.length lc, .int .i64 0, .bool false, .int .i64 10])) wr) := by
          simp only [if_pos hfull] at h2
          refine ⟨.slice la L.length lc, by rw [h2]; rfl, ?_, HBV.out⟩
          rw [h2]
          exact (HLB.out.below HBV.out).mono fun k h _ => .inl h
        clear h2
        go_wp2
        exact bodyPost_ret (v := .tuple #[.slice la L.length lc, .int .i64 0, .bool false, .int .i64 10]) (by simp [results, Tryz.results21, go_sem]) rfl HE.out
      · have hfull' : ¬ ((n : Int) - 1 - (L.length : Int) < (ls.length : Int)) := by omega
        simp only [if_neg hfull] at h2
        have HSE : Hid (setD n L cs = (behL C (frN L n) L, ls.length, decide (0 < C.length), 0)) := h2
        have HS3 : Hid (S3 B w wr L n C (behL C (frN L n) L) (.slice la L.length lc) 1 0 L) := ⟨(HLB.out.below HBV.out).mono fun k h _ => .inl h, HBV.out, rfl, by rw [frF_one, List.drop_zero]; omega, by omega⟩
        clear h2 hly
        generalize hwn : wr = wn at *
        clear hwn wr
        go_wp2_with fail
        go_loopw [20, 21, 22] (fun nv qv iv wr => ∃ (i q : Nat) (M : List Lf), i ≤ C.length ∧ q ≤ n ∧ iv = .int .i64 i ∧ qv = .int .i64 q ∧ S3 B w wr L n C (behL C (frN L n) L) nv q i M ∧ Below wn.heap.size wn wr) (fun _ _ iv _ => C.length + 1 - (intOf iv).toNat)
        case atStart => exact ⟨0, 1, L, Nat.zero_le _, by omega, rfl, rfl, HS3.out, Below.refl _ _⟩
        case round =>
          clear HS3
          obtain ⟨i, q, M, hi, hqn, rfl, rfl, hS, hbn⟩ := hrel
          have HS : Hid (S3 B w wr L n C (behL C (frN L n) L) u20 q i M) := hS
          have HBN : Hid (Below wn.heap.size wn wr) := hbn
          have HBM : Hid (Below wm.heap.size wm wr) := Below.transS HBW.out hbn
          clear hS hbn
          by_cases hlt : i < C.length
          · have hlt' : (i : Int) < C.length := by omega
            obtain ⟨x, hx⟩ : ∃ x, C[i]? = some x := ⟨_, List.getElem?_eq_getElem hlt⟩
            have HX : Hid (C[i]? = some x) := hx
            obtain ⟨tb, to_, rfl, hcc⟩ := HTA.out wr HBM.out (by omega)
            obtain ⟨d0, d1, d2⟩ := hcc i x hx
            obtain ⟨ma, mc, hu20, hmc, hmn, hms, hma⟩ := HS.out.sl
            have hml : M.length ≤ 200 := by have := HS.out.few; omega
            have hwo := without_any ma mc M x.k wr hma (by omega)
            subst hu20
            obtain ⟨xk, hxk⟩ : ∃ xk, x.k = xk := ⟨_, rfl⟩
            obtain ⟨xv, hxv⟩ : ∃ xv, x.v = xv := ⟨_, rfl⟩
            have HXE : Hid (x.k = xk ∧ x.v = xv) := ⟨hxk, hxv⟩
            rw [hxk] at d0 hwo
            rw [hxv] at d1
            have hdl : (delK Lf.k xk M).length ≤ M.length := List.length_filter_le _ _
            clear hcc hx hxk hxv hma hms hmn hmc
            go_wp2_with fail
            refine hwo.mono ?_
            rintro e w1 ⟨v1, rfl, hO1⟩
            have HO1 : Hid (LrOw wr w1 v1 (delK Lf.k xk M)) := hO1
            have HB1 : Hid (Below wr.heap.size wr w1) := hO1.below
            have e0 : w1.cell? ⟨tb, to_ + i * 3, none⟩ = some (encStr xk) := (hO1.below.cell (p := ⟨tb, to_ + i * 3, none⟩) (World.block_lt_of_cell? _ _ d0)).trans d0
            have e1 : w1.cell? ⟨tb, to_ + i * 3 + 1, none⟩ = some (encStr xv) := (hO1.below.cell (p := ⟨tb, to_ + i * 3 + 1, none⟩) (World.block_lt_of_cell? _ _ d1)).trans d1
            have e2 : w1.cell? ⟨tb, to_ + i * 3 + 2, none⟩ = some (.bool x.g) := (hO1.below.cell (p := ⟨tb, to_ + i * 3 + 2, none⟩) (World.block_lt_of_cell? _ _ d2)).trans d2
            have HSZ : Hid (w.heap.size ≤ wr.heap.size) := HS.out.below.size
            clear hwo hO1 d0 d1 d2
            cases hg : x.g with
            | true =>
              have HN : Hid (S3 B w w1 L n C (behL C (frN L n) L) v1 q (i + 1) (delK Lf.k xk M)) := by
                have h := HS.out.gone (v' := v1) (w' := w1) HX.out hg (by rw [HXE.out.1]; exact HO1.out.ls.mono fun k h _ => .inr (Nat.le_trans HSZ.out h)) (Below.transS HS.out.below HB1.out)
                rw [HXE.out.1] at h
                exact h
              rw [hg] at e2
              clear hg
              go_wp2
              exact ⟨⟨i + 1, q, _, by omega, hqn, by go_num, rfl, HN.out, Below.transS HBN.out HB1.out⟩, by simp [intOf]; omega⟩
            | false =>
              have HG : Hid (x.g = false) := hg
              have HRM : Hid (0 < (frF L n q).length) := HS.out.room1 HX.out hg
              rw [hg] at e2
              clear hg
              have HBL : Hid (Below w.heap.size w w1) := Below.transS HS.out.below HB1.out
              go_upto_block 10 with fail
              go_cut [21] (fun v wd => ∃ q' : Nat, v = .int .i64 q' ∧ frF L n q = q' :: frF L n (q' + 1) ∧ q' < n ∧ wd = w1)
              case first =>
                go_wp2_with fail
                go_loopw [21] (fun kv wr => ∃ q' : Nat, q' ≤ n ∧ kv = .int .i64 q' ∧ frF L n q' = frF L n q ∧ wr = w1) (fun kv _ => n + 1 - (intOf kv).toNat)
                case atStart => exact ⟨q, hqn, rfl, rfl, rfl⟩
                case round =>
                  obtain ⟨q', hq', rfl, hfq, hwq⟩ := hrel
                  subst hwq
                  have hq2 : q' < n := by
                    by_cases h : q' < n
                    · exact h
                    · have h1 := frF_out (L := L) (n := n) (q := q') (by omega)
                      rw [hfq] at h1
                      have h2 := HRM.out
                      rw [h1] at h2
                      simp at h2
                  have HFQ : Hid (frF L n q' = frF L n q) := hfq
                  have hus := used_any la lc L q' wr (HLA.out.below HBL.out) (by omega)
                  clear hfq
                  go_wp2_with fail
                  refine hus.mono ?_
                  rintro e w3 ⟨rfl, hw3⟩
                  subst hw3
                  clear hus
                  cases hh : heldB L q' with
                  | true =>
                    have HN : Hid (frF L n (q' + 1) = frF L n q) := by rw [← frF_held hh]; exact HFQ.out
                    clear hh
                    go_wp2
                    go_roundw
                    case rel => exact ⟨q' + 1, by omega, by go_num, HN.out, trivial⟩
                    case measure => simp [intOf]; omega
                  | false =>
                    have HN : Hid (frF L n q = q' :: frF L n (q' + 1)) := by rw [← frF_free hh hq2]; exact HFQ.out.symm
                    clear hh
                    go_wp2_with fail
                    go_meet
                    exact ⟨q', rfl, HN.out, hq2, rfl⟩
              case rest =>
              obtain ⟨q', rfl, hfq, hq2, hwc⟩ := hcut
              subst hwc
              have HFQ : Hid (frF L n q = q' :: frF L n (q' + 1)) := hfq
              clear hfq
              obtain ⟨da, dc, hv1, hdc, hdn, hds, hda⟩ := HO1.out.ls
              have hwi := with_any da dc (delK Lf.k xk M) ⟨xk, q', xv⟩ wc.drew (hda.below (Below.refl _ wc).drew) (by omega) hdc hdn (fun a e => (hds a e).1) (fun y hy => ((mem_delK Lf.k).1 hy).2)
              subst hv1
              clear hdc hdn hds hda
              have f0 : wc.drew.cell? ⟨tb, to_ + i * 3, none⟩ = some (encStr xk) := e0
              have f1 : wc.drew.cell? ⟨tb, to_ + i * 3 + 1, none⟩ = some (encStr xv) := e1
              go_upto_region 36 with fail
              refine wp_region_noPanic ?_
              refine wp_region_held_drew (S := fun w' => w'.cell? ⟨tb, to_ + i * 3, none⟩ = some (encStr xk) ∧ w'.cell? ⟨tb, to_ + i * 3 + 1, none⟩ = some (encStr xv)) (by kernel_rfl) ⟨f0, f1⟩ (fun hHeld => ?_)
              refine wpAnyH_take (i := 0) (oi := { dst := some 191, op := Go.Op.move (Go.Operand.tmp 20), type := 37, pos := "ref.go:141", after := #[], guard := none }) (v := ?_) rfl (by kernel_rfl) (by kernel_rfl) (by kernel_rfl) (fun _ _ _ h => h) (Or.inl ⟨by rfl, ?_⟩) (by assumption) ?_
              rotate_left
              · intro wz hSw; (try dsimp only at hSw); go_simp; (try with_reducible rfl)
              try simp only [Act.put, List.setIfInBounds_toArray, List.set_cons_zero, List.set_cons_succ]
              refine wpAnyH_take (i := 1) (oi := { dst := some 192, op := Go.Op.move (Go.Operand.tmp 10), type := 51, pos := "ref.go:141", after := #[], guard := none }) (v := ?_) rfl (by kernel_rfl) (by kernel_rfl) (by kernel_rfl) (fun _ _ _ h => h) (Or.inl ⟨by rfl, ?_⟩) (by assumption) ?_
              rotate_left
              · intro wz hSw; (try dsimp only at hSw); go_simp; (try with_reducible rfl)
              try simp only [Act.put, List.setIfInBounds_toArray, List.set_cons_zero, List.set_cons_succ]
              refine wpAnyH_take (i := 2) (oi := { dst := some 193, op := Go.Op.move (Go.Operand.tmp 22), type := 3, pos := "ref.go:141", after := #[], guard := none }) (v := ?_) rfl (by kernel_rfl) (by kernel_rfl) (by kernel_rfl) (fun _ _ _ h => h) (Or.inl ⟨by rfl, ?_⟩) (by assumption) ?_
              rotate_left
              · intro wz hSw; (try dsimp only at hSw); go_simp; (try with_reducible rfl)
              try simp only [Act.put, List.setIfInBounds_toArray, List.set_cons_zero, List.set_cons_succ]
              refine wpAnyH_take (i := 3) (oi := { dst := some 194, op := Go.Op.indexAddr 51 (Go.Operand.tmp 192) (Go.Operand.tmp 193), type := 0, pos := "ref.go:141", after := #[{ on := 1, ground := Go.Ground.data }, { on := 2, ground := Go.Ground.data }], guard := none }) (v := ?_) rfl (by kernel_rfl) (by kernel_rfl) (by kernel_rfl) (fun _ _ _ h => h) (Or.inl ⟨by rfl, ?_⟩) (by assumption) ?_
              rotate_left
              · intro wz hSw; (try dsimp only at hSw); go_simp; (try with_reducible rfl)
              try simp only [Act.put, List.setIfInBounds_toArray, List.set_cons_zero, List.set_cons_succ]
              refine wpAnyH_take (i := 4) (oi := { dst := some 195, op := Go.Op.fieldAddr 114 (Go.Operand.tmp 194) 0, type := 0, pos := "ref.go:141", after := #[{ on := 3, ground := Go.Ground.data }], guard := none }) (v := ?_) rfl (by kernel_rfl) (by kernel_rfl) (by kernel_rfl) (fun _ _ _ h => h) (Or.inl ⟨by rfl, ?_⟩) (by assumption) ?_
              rotate_left
              · intro wz hSw; (try dsimp only at hSw); go_simp; (try with_reducible rfl)
              try simp only [Act.put, List.setIfInBounds_toArray, List.set_cons_zero, List.set_cons_succ]
              refine wpAnyH_take (i := 5) (oi := { dst := some 196, op := Go.Op.load 9 (Go.Operand.tmp 195), type := 9, pos := "ref.go:141", after := #[{ on := 4, ground := Go.Ground.data }], guard := none }) (v := encStr xk) rfl (by kernel_rfl) (by kernel_rfl) (by kernel_rfl) (fun _ _ _ h => h) (Or.inl ⟨by rfl, ?_⟩) (by assumption) ?_
              · intro wz hSw; (try dsimp only at hSw); have h1 := hSw.1; go_simp; try rfl
              try simp only [Act.put, List.setIfInBounds_toArray, List.set_cons_zero, List.set_cons_succ]
              refine wpAnyH_take (i := 6) (oi := { dst := some 197, op := Go.Op.move (Go.Operand.tmp 10), type := 51, pos := "ref.go:141", after := #[], guard := none }) (v := ?_) rfl (by kernel_rfl) (by kernel_rfl) (by kernel_rfl) (fun _ _ _ h => h) (Or.inl ⟨by rfl, ?_⟩) (by assumption) ?_
              rotate_left
              · intro wz hSw; (try dsimp only at hSw); go_simp; (try with_reducible rfl)
              try simp only [Act.put, List.setIfInBounds_toArray, List.set_cons_zero, List.set_cons_succ]
              refine wpAnyH_take (i := 7) (oi := { dst := some 198, op := Go.Op.move (Go.Operand.tmp 22), type := 3, pos := "ref.go:141", after := #[], guard := none }) (v := ?_) rfl (by kernel_rfl) (by kernel_rfl) (by kernel_rfl) (fun _ _ _ h => h) (Or.inl ⟨by rfl, ?_⟩) (by assumption) ?_
              rotate_left
              · intro wz hSw; (try dsimp only at hSw); go_simp; (try with_reducible rfl)
              try simp only [Act.put, List.setIfInBounds_toArray, List.set_cons_zero, List.set_cons_succ]
              refine wpAnyH_take (i := 8) (oi := { dst := some 199, op := Go.Op.indexAddr 51 (Go.Operand.tmp 197) (Go.Operand.tmp 198), type := 0, pos := "ref.go:141", after := #[{ on := 6, ground := Go.Ground.data }, { on := 7, ground := Go.Ground.data }], guard := none }) (v := ?_) rfl (by kernel_rfl) (by kernel_rfl) (by kernel_rfl) (fun _ _ _ h => h) (Or.inl ⟨by rfl, ?_⟩) (by assumption) ?_
              rotate_left
              · intro wz hSw; (try dsimp only at hSw); go_simp; (try with_reducible rfl)
              try simp only [Act.put, List.setIfInBounds_toArray, List.set_cons_zero, List.set_cons_succ]
              refine wpAnyH_take (i := 9) (oi := { dst := some 200, op := Go.Op.fieldAddr 114 (Go.Operand.tmp 199) 1, type := 0, pos := "ref.go:141", after := #[{ on := 8, ground := Go.Ground.data }], guard := none }) (v := ?_) rfl (by kernel_rfl) (by kernel_rfl) (by kernel_rfl) (fun _ _ _ h => h) (Or.inl ⟨by rfl, ?_⟩) (by assumption) ?_
              rotate_left
              · intro wz hSw; (try dsimp only at hSw); go_simp; (try with_reducible rfl)
              try simp only [Act.put, List.setIfInBounds_toArray, List.set_cons_zero, List.set_cons_succ]
              refine wpAnyH_take (i := 10) (oi := { dst := some 201, op := Go.Op.load 9 (Go.Operand.tmp 200), type := 9, pos := "ref.go:141", after := #[{ on := 9, ground := Go.Ground.data }], guard := none }) (v := encStr xv) rfl (by kernel_rfl) (by kernel_rfl) (by kernel_rfl) (fun _ _ _ h => h) (Or.inl ⟨by rfl, ?_⟩) (by assumption) ?_
              · intro wz hSw; (try dsimp only at hSw); have h1 := hSw.2; go_simp; try rfl
              try simp only [Act.put, List.setIfInBounds_toArray, List.set_cons_zero, List.set_cons_succ]
              refine wpAnyH_take (i := 11) (oi := { dst := some 202, op := Go.Op.move (Go.Operand.tmp 21), type := 3, pos := "ref.go:141", after := #[], guard := none }) (v := ?_) rfl (by kernel_rfl) (by kernel_rfl) (by kernel_rfl) (fun _ _ _ h => h) (Or.inl ⟨by rfl, ?_⟩) (by assumption) ?_
              rotate_left
              · intro wz hSw; (try dsimp only at hSw); go_simp; (try with_reducible rfl)
              try simp only [Act.put, List.setIfInBounds_toArray, List.set_cons_zero, List.set_cons_succ]
              refine wpAnyH_take (i := 12) (oi := { dst := some 203, op := Go.Op.build 60 #[(0, Go.Operand.tmp 196), (1, Go.Operand.tmp 201), (2, Go.Operand.tmp 202)], type := 60, pos := "ref.go:141", after := #[{ on := 5, ground := Go.Ground.data }, { on := 10, ground := Go.Ground.data }, { on := 11, ground := Go.Ground.data }], guard := none }) (v := .agg #[encStr xk, encStr xv, .int .i64 (q' : Int)]) rfl (by kernel_rfl) (by kernel_rfl) (by kernel_rfl) (fun _ _ _ h => h) (Or.inl ⟨by rfl, ?_⟩) (by assumption) ?_
              · intro wz hSw; (try dsimp only at hSw); kernel_rfl
              try simp only [Act.put, List.setIfInBounds_toArray, List.set_cons_zero, List.set_cons_succ]
              refine wpAnyH_ready (rs := [13]) (by kernel_rfl) (by simp) ?_
              refine (AllReadyH.cons (o := { dst := some 204, op := Go.Op.call { callee := Go.Callee.value (Go.Operand.func 43), args := #[Go.Operand.tmp 191, Go.Operand.tmp 203], argTypes := #[37, 60] }, type := 37, pos := "ref.go:141", after := #[{ on := 0, ground := Go.Ground.data }, { on := 12, ground := Go.Ground.data }], guard := none }) rfl (fun K hK => ?_) AllReadyH.nil)
              go_simp
              refine hwi.mono ?_
              rintro e w4 ⟨v4, rfl, hO4⟩
              have HO4 : Hid (LrOw wc.drew w4 v4 (insK Lf.k ⟨xk, q', xv⟩ (delK Lf.k xk M))) := hO4
              have HB4 : Hid (Below wc.heap.size wc w4) := Below.transS (Below.refl _ wc).drew hO4.below
              have g0 : w4.cell? ⟨tb, to_ + i * 3, none⟩ = some (encStr xk) := by rw [hO4.below.cell (p := ⟨tb, to_ + i * 3, none⟩) (World.block_lt_of_cell? _ _ f0)]; exact f0
              have g1 : w4.cell? ⟨tb, to_ + i * 3 + 1, none⟩ = some (encStr xv) := by rw [hO4.below.cell (p := ⟨tb, to_ + i * 3 + 1, none⟩) (World.block_lt_of_cell? _ _ f1)]; exact f1
              refine hK.out _ _ ⟨g0, g1⟩ (fun _ => ?_)
              clear hK K
              try simp only [Act.put, List.setIfInBounds_toArray, List.set_cons_zero, List.set_cons_succ]
              refine wpAnyH_take (i := 14) (oi := { dst := some 20, op := Go.Op.assign (Go.Operand.tmp 204), type := 37, pos := "ref.go:141", after := #[{ on := 13, ground := Go.Ground.data }, { on := 13, ground := Go.Ground.chain }, { on := 0, ground := Go.Ground.phase }, { on := 1, ground := Go.Ground.phase }, { on := 2, ground := Go.Ground.phase }, { on := 3, ground := Go.Ground.phase }, { on := 4, ground := Go.Ground.phase }, { on := 5, ground := Go.Ground.phase }, { on := 6, ground := Go.Ground.phase }, { on := 7, ground := Go.Ground.phase }, { on := 8, ground := Go.Ground.phase }, { on := 9, ground := Go.Ground.phase }, { on := 10, ground := Go.Ground.phase }, { on := 11, ground := Go.Ground.phase }, { on := 12, ground := Go.Ground.phase }, { on := 13, ground := Go.Ground.phase }], guard := none }) (v := ?_) rfl (by kernel_rfl) (by kernel_rfl) (by kernel_rfl) (fun _ _ _ h => h) (Or.inl ⟨by rfl, ?_⟩) (by assumption) ?_
              rotate_left
              · intro wz hSw; (try dsimp only at hSw); go_simp; (try with_reducible rfl)
              try simp only [Act.put, List.setIfInBounds_toArray, List.set_cons_zero, List.set_cons_succ]
              refine wpAnyH_done (by kernel_rfl) (NoPanic.normal ?_) _
              try simp only [Act.put, List.setIfInBounds_toArray, List.set_cons_zero, List.set_cons_succ]
              have HN : Hid (S3 B w w4 L n C (behL C (frN L n) L) v4 (q' + 1) (i + 1) (insK Lf.k ⟨xk, q', xv⟩ (delK Lf.k xk M))) := by
                have hsz := HBL.out.size
                have h := HS.out.put (v' := v4) (w' := w4) HX.out HG.out HFQ.out (by rw [HXE.out.1, HXE.out.2]; exact HO4.out.ls.mono fun k h _ => .inr (Nat.le_trans hsz h)) (Below.transS HBL.out HB4.out)
                rw [HXE.out.1, HXE.out.2] at h
                exact h
              have HBQ : Hid (Below wn.heap.size wn w4) := Below.transS HBN.out (Below.transS HB1.out HB4.out)
              clear hHeld hwi hO4 g0 g1 f0 f1 e0 e1 e2
              go_wp2
              go_roundw
              case rel => exact ⟨i + 1, q' + 1, _, by omega, by omega, by go_num, by go_num, HN.out, HBQ.out⟩
              case measure => simp [intOf]; omega
          · obtain rfl : i = C.length := by omega
            have hnn : ¬ ((C.length : Int) < C.length) := by omega
            have HE : Hid (DSetR B w n L cs (.returned (.tuple #[u20, .int .i64 ((nlay C : Nat) : Int), .bool (decide (0 < C.length)), .int .i64 0])) wr) := by
              refine ⟨u20, by rw [HSE.out, ← hnl], ?_, HS.out.below⟩
              rw [HSE.out]
              exact HS.out.done
            go_wp2
            exact bodyPost_ret (v := .tuple #[u20, .int .i64 ((nlay C : Nat) : Int), .bool (decide (0 < C.length)), .int .i64 0]) (by simp [results, Tryz.results21, go_sem]) rfl HE.out
end Go.Proofs.YtmekplaonlpfkaaGreatDoor
