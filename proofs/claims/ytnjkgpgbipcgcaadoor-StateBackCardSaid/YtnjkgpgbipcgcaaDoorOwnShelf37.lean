/- What (*enc.Reader).Hash does. -/
import Derived.Test.YtnjkgpgbipcgcaaDoorOwnShelf35
import Derived.Test.YtnjkgpgbipcgcaaDoorOwnShelf36
namespace Go.Proofs.YtnjkgpgbipcgcaaDoor
open Go.RowKit

/-- Behind frontHash: what is kept of the two variables and the reader, a third variable laid and filled. -/
theorem takeH_mid {w w3 w4 : World} {rb : Nat} {ob : Obj} {h : Nat → Int} (hr : w.heap[rb]? = some ob)
    (hb3 : Below ((w.alloc (.cells (hv nz) 31)).alloc (.cells (hv nz) 31)).heap.size ((w.alloc (.cells (hv nz) 31)).alloc (.cells (hv nz) 31)) w3) (hF4 : Frm [w3.heap.size] (w3.alloc (.cells (hv nz) 31)) w4) (_hg4 : w4.heap[w3.heap.size]? = some (.cells (hv h) 31 (0, 0))) :
    w4.heap[rb]? = some ob ∧ w4.heap[w.heap.size]? = some (.cells (hv nz) 31 (0, 0)) ∧ w4.heap[w.heap.size + 1]? = some (.cells (hv nz) 31 (0, 0)) ∧ Below w.heap.size w w4 := by
  have hrlt : rb < w.heap.size := lt_of_block hr
  have hz3 : w.heap.size + 2 ≤ w3.heap.size := by have := hb3.size; simpa using this
  have k : ∀ j o, j < w.heap.size + 2 → ((w.alloc (.cells (hv nz) 31)).alloc (.cells (hv nz) 31)).heap[j]? = some o → w4.heap[j]? = some o := by
    intro j o hj h
    rw [hF4.block j (by simp; omega) (by simp; omega), Below.heap_alloc _ _ _ (by omega), hb3.block j (by simp; omega)]
    exact h
  refine ⟨k rb ob (by omega) ?_, k _ _ (by omega) (two_allocs_a w _ _), k _ _ (by omega) ?_, ?_⟩
  · rw [Below.heap_alloc _ _ _ (by simp; omega), Below.heap_alloc _ _ _ hrlt]; exact hr
  · have := heap_alloc_new (w.alloc (.cells (hv nz) 31)) (.cells (hv nz) 31)
    simpa using this
  · have h1 : Below w.heap.size w w3 := (((Below.refl _ w).alloc (Nat.le_refl _) _).alloc (by simp) _).trans (hb3.mono (by simp; omega))
    exact (h1.alloc h1.size _).trans (hF4.below (by simp; omega) (by simp; omega))

theorem takeH_frm {w w4 w6 : World} {rb o : Nat} {v : Value} (_hrlt : rb < w.heap.size) (hb : Below w.heap.size w w4) (hF6 : Frm [w.heap.size] (w4.setCell ⟨rb, o, none⟩ v) w6) : Frm [rb] w w6 := by
  have h1 : Frm [rb, w.heap.size] w (w4.setCell ⟨rb, o, none⟩ v) := (Frm.ofBelow hb).setCell _ _ (by simp)
  have h2 : Frm [rb, w.heap.size] w w6 := h1.trans (hF6.mono (by simp))
  exact h2.old (fun k hk hlt => by simp at hk ⊢; omega)

set_option maxRecDepth 100000 in
set_option maxHeartbeats 400000 in
theorem takeH_err (rb n cap : Nat) (ad : Option Addr) (w : World) (hr : w.heap[rb]? = some (.cells #[.slice ad n cap, errV 0] 119 (0, 0))) (hn : n < 32) :
    Calls Tryd.prog 85 #[.pointer (some ⟨rb, 0, none⟩), .func (.func 86) #[] #[]] w fun e w' => e = .returned (.agg (hv nz)) ∧ w'.heap[rb]? = some (.cells #[.slice ad n cap, errV 12] 119 (0, 0)) ∧ Frm [rb] w w' := by
  have hrlt : rb < w.heap.size := lt_of_block hr
  have hr0 : ((w.alloc (.cells (hv nz) 31)).alloc (.cells (hv nz) 31)).heap[rb]? = some (.cells #[.slice ad n cap, errV 0] 119 (0, 0)) := by rw [Below.heap_alloc _ _ _ (by simp; omega), Below.heap_alloc _ _ _ hrlt]; exact hr
  have hc0 := two_cell0 hr0
  have hc1 := two_cell1 hr0
  have HR0 : Hid (((w.alloc (.cells (hv nz) 31)).alloc (.cells (hv nz) 31)).heap[rb]? = some (.cells #[.slice ad n cap, errV 0] 119 (0, 0))) := hr0
  have he0 := errV_0
  clear hr0
  have HR : Hid (w.heap[rb]? = some (.cells #[.slice ad n cap, errV 0] 119 (0, 0))) := hr
  clear hr
  go_enter Tryd.func85, Tryd.ntmps85
  go_wp2_with (first | (refine wpList_allocH rfl rfl ?_) | (go_at_call 86; refine (frontHash_short _ _ _ _ hn).mono ?_; rintro e w3 ⟨rfl, hb3⟩) | (refine wpList_storeH rfl _ _ rfl w3.heap.size rfl nz nz 31 rfl (heap_alloc_new w3 _) ?_; intro w4 hg4 hF4; have HM := takeH_mid HR.out hb3 hF4 hg4; have hf4 := two_free HM.1 1; have hd4 := two_cell1 HM.1; have HM4 := HM; clear HM hc0 hc1 hb3 hF4 hg4) | (refine wpList_loadH rfl _ rfl (w.heap.size + 1) rfl nz 31 (0, 0) ((Below.heap_setCell _ _ _ _ (by simp; omega)).trans HM4.2.2.1) ?_) | (refine wpList_storeH rfl _ _ rfl w.heap.size rfl nz nz 31 rfl ((Below.heap_setCell _ _ _ _ (by simp; omega)).trans HM4.2.1) ?_; intro w6 hg6 hF6))
  refine bodyPost_ret (results_H1 Tryd.results85 _ _ w.heap.size 31 nz (0, 0) rfl hg6) rfl ⟨rfl, hF6.heap (two_set1 HM4.1) (by simp; omega), ?_⟩
  exact takeH_frm hrlt HM4.2.2.2 hF6

/-- What a reader of 32 bytes at least has behind Hash. -/
def TookH (w : World) (rb n cap : Nat) (ad : Option Addr) (w' : World) : Prop :=
  ∃ ad', (ad' = ad ∧ cap = 32 ∨ ad' = Option.map (fun x => x.add 32) ad) ∧ w'.heap[rb]? = some (.cells #[.slice ad' (n - 32) (cap - 32), errV 0] 119 (0, 0)) ∧ Frm [rb] w w'

set_option maxRecDepth 100000 in
set_option maxHeartbeats 400000 in
theorem takeH_ok (rb n cap b off : Nat) (z : Nat → Int) (w : World) (hr : w.heap[rb]? = some (.cells #[.slice (some ⟨b, off, none⟩) n cap, errV 0] 119 (0, 0))) (hn : 32 ≤ n) (hlc : n ≤ cap) (hc : ∀ j, j < n → w.cell? ⟨b, off + j, none⟩ = some (.int .u8 (z j))) :
    Calls Tryd.prog 85 #[.pointer (some ⟨rb, 0, none⟩), .func (.func 86) #[] #[]] w fun e w' => e = .returned (.agg (hv z)) ∧ TookH w rb n cap (some ⟨b, off, none⟩) w' := by
  have hblt : b < w.heap.size := World.block_lt_of_cell? w ⟨b, off + 0, none⟩ (hc 0 (by omega))
  have hc2 : ∀ j, j < n → ((w.alloc (.cells (hv nz) 31)).alloc (.cells (hv nz) 31)).cell? ⟨b, off + j, none⟩ = some (.int .u8 (z j)) := fun j hj => by
    rw [World.cell?_alloc_lt _ _ _ (by simp; omega), World.cell?_alloc_lt _ _ _ (by simpa using hblt)]; exact hc j hj
  have HC : Hid (∀ j, j < n → ((w.alloc (.cells (hv nz) 31)).alloc (.cells (hv nz) 31)).cell? ⟨b, off + j, none⟩ = some (.int .u8 (z j))) := hc2
  clear hc hc2
  have h32 : (32 : Int) ≤ (n : Int) := by omega
  have hlc1 : (n : Int) ≤ (cap : Int) := by omega
  have hrlt : rb < w.heap.size := lt_of_block hr
  have hr0 : ((w.alloc (.cells (hv nz) 31)).alloc (.cells (hv nz) 31)).heap[rb]? = some (.cells #[.slice (some ⟨b, off, none⟩) n cap, errV 0] 119 (0, 0)) := by rw [Below.heap_alloc _ _ _ (by simp; omega), Below.heap_alloc _ _ _ hrlt]; exact hr
  have hc0 := two_cell0 hr0
  have hc1 := two_cell1 hr0
  have HR0 : Hid (((w.alloc (.cells (hv nz) 31)).alloc (.cells (hv nz) 31)).heap[rb]? = some (.cells #[.slice (some ⟨b, off, none⟩) n cap, errV 0] 119 (0, 0))) := hr0
  have he0 := errV_0
  clear hr0
  have HR : Hid (w.heap[rb]? = some (.cells #[.slice (some ⟨b, off, none⟩) n cap, errV 0] 119 (0, 0))) := hr
  clear hr
  go_enter Tryd.func85, Tryd.ntmps85
  go_wp2_with (first | (refine wpList_allocH rfl rfl ?_) | (go_at_call 86; refine (frontHash_long b off n cap z _ hn HC.out).mono ?_; rintro e w3 ⟨rfl, hb3⟩) | (refine wpList_storeH rfl _ _ rfl w3.heap.size rfl z nz 31 rfl (heap_alloc_new w3 _) ?_; intro w4 hg4 hF4; have hz3 := hb3.size; have HM4 := takeH_mid HR.out hb3 hF4 hg4; have hf4 := two_free HM4.1 0; have hd4 := two_cell0 HM4.1; have HG4 := hg4; clear hc0 hc1 hb3 hF4 hg4) | (refine wpList_loadH rfl _ rfl w3.heap.size rfl z 31 (0, 0) ((Below.heap_setCell _ _ _ _ (by simp at hz3 ⊢; omega)).trans HG4) ?_) | (refine wpList_storeH rfl _ _ rfl w.heap.size rfl z nz 31 rfl ((Below.heap_setCell _ _ _ _ (by simp; omega)).trans HM4.2.1) ?_; intro w6 hg6 hF6))
  · subst h
    exact bodyPost_ret (results_H1 Tryd.results85 _ _ w.heap.size 31 z (0, 0) rfl hg6) rfl ⟨rfl, _, .inl ⟨rfl, rfl⟩, hF6.heap (two_set0 HM4.1) (by simp; omega), takeH_frm hrlt HM4.2.2.2 hF6⟩
  · exact bodyPost_ret (results_H1 Tryd.results85 _ _ w.heap.size 31 z (0, 0) rfl hg6) rfl ⟨rfl, _, .inr rfl, by simpa [Addr.add_lit, h] using hF6.heap (two_set0 HM4.1) (by simp; omega), takeH_frm hrlt HM4.2.2.2 hF6⟩

/-- The sum that n bytes begin with, the error, how many bytes it stands on. -/
def hZ (n : Nat) (z : Nat → Int) : Nat → Int := if n < 32 then nz else z
def hE (n : Nat) : Int := if n < 32 then 12 else 0
def hN (n : Nat) : Nat := if n < 32 then 0 else 32

theorem takeH_any (rb n cap : Nat) (ad : Option Addr) (z : Nat → Int) (w : World) (hr : w.heap[rb]? = some (.cells #[.slice ad n cap, errV 0] 119 (0, 0))) (hlc : n ≤ cap) (hs : SlAt w ad n z) :
    Calls Tryd.prog 85 #[.pointer (some ⟨rb, 0, none⟩), .func (.func 86) #[] #[]] w fun e w' => e = .returned (.agg (hv (hZ n z))) ∧ Frm [rb] w w' ∧
      ∃ ad' cap', w'.heap[rb]? = some (.cells #[.slice ad' (n - hN n) cap', errV (hE n)] 119 (0, 0)) ∧ n - hN n ≤ cap' ∧ (∀ wo, SlAt wo ad n z → SlAt wo ad' (n - hN n) (fun j => z (j + hN n))) ∧ ∀ b off, 0 < n - hN n → ad' = some ⟨b, off, none⟩ → ∃ off0, ad = some ⟨b, off0, none⟩ := by
  by_cases hn : n < 32
  · rw [hZ, hN, hE, if_pos hn, if_pos hn, if_pos hn]
    refine (takeH_err rb n cap ad w hr hn).mono ?_
    rintro e w' ⟨rfl, h1, hF⟩
    exact ⟨rfl, hF, ad, cap, h1, hlc, fun _ h => h, fun b off _ e => ⟨off, e⟩⟩
  · rw [hZ, hN, hE, if_neg hn, if_neg hn, if_neg hn]
    obtain ⟨b, off, rfl, hc⟩ := hs.2 (by omega)
    refine (takeH_ok rb n cap b off z w hr (by omega) hlc hc).mono ?_
    rintro e w' ⟨rfl, ad', ha, h1, hF⟩
    refine ⟨rfl, hF, ad', cap - 32, h1, by omega, fun wo hwo => ?_, fun b2 off2 hn2 e => ?_⟩
    · rcases ha with ⟨rfl, hc⟩ | rfl
      · rw [show n - 32 = 0 from by omega]; exact SlAt.zero _ _
      · exact hwo.drop
    · rcases ha with ⟨rfl, hc⟩ | rfl
      · omega
      · have hbk : ((⟨b, off, none⟩ : Addr).add 32).block = b := by rw [Addr.add_lit]
        simp only [Option.map_some, Option.some.injEq] at e
        have : b2 = b := by rw [← hbk, e]
        exact ⟨off, by rw [this]⟩

set_option maxRecDepth 100000 in
set_option maxHeartbeats 400000 in
theorem rdHash_any (rb n : Nat) (z : Nat → Int) (w : World) (h : RdAt w rb n z 0) :
    Calls Tryd.prog 70 #[.pointer (some ⟨rb, 0, none⟩)] w fun e w' => e = .returned (.agg (hv (hZ n z))) ∧ Frm [rb] w w' ∧ RdAt w' rb (n - hN n) (fun j => z (j + hN n)) (hE n) := by
  obtain ⟨ad, cap, hr, hlc, hs, hlb⟩ := h
  have hrlt : rb < w.heap.size := lt_of_block hr
  have hfa : Frm [] w (w.alloc (.cells (hv nz) 31)) := (Frm.refl [] w).alloc _
  have hr1 := hfa.heap hr (by simp)
  have hs1 := hs.frm hfa (by simp)
  have HR : Hid (w.heap[rb]? = some (.cells #[.slice ad n cap, errV 0] 119 (0, 0))) := hr
  have HR1 : Hid ((w.alloc (.cells (hv nz) 31)).heap[rb]? = some (.cells #[.slice ad n cap, errV 0] 119 (0, 0))) := hr1
  clear hr hr1
  go_enter Tryd.func70, Tryd.ntmps70
  go_wp2_with (first | (refine wpList_allocH rfl rfl ?_) | (go_at_call 85; refine (takeH_any rb n cap ad z _ HR1.out hlc hs1).mono ?_; rintro e w1 ⟨rfl, hF1, hx1⟩) | (refine wpList_storeH rfl _ _ rfl w.heap.size rfl (hZ n z) nz 31 rfl (hF1.heap (heap_alloc_new w _) (by simp; omega)) ?_; intro w2 hg2 hF2))
  have hFa : Frm [rb, w.heap.size] w w2 := (((Frm.refl [rb, w.heap.size] w).alloc (.cells (hv nz) 31)).trans (hF1.mono (by simp))).trans (hF2.mono (by simp))
  refine bodyPost_ret (results_H1 Tryd.results70 _ _ w.heap.size 31 (hZ n z) (0, 0) rfl hg2) rfl ⟨rfl, hFa.old (fun k hk hlt => by simp at hk ⊢; omega), ?_⟩
  obtain ⟨ad', cap', hr', hlc', hwo, hab⟩ := hx1
  have hs' := hwo w hs
  refine ⟨ad', cap', hF2.heap hr' (by simp; omega), hlc', hs'.frm hFa (fun b off hn e hb => ?_), fun b off hn e => (by obtain ⟨o0, e0⟩ := hab b off hn e; exact hlb b o0 (by omega) e0)⟩
  have h1 := hs'.ne_two HR.out hn e
  have h2 := hs'.lt hn e
  simp at hb
  omega
end Go.Proofs.YtnjkgpgbipcgcaaDoor
/- What (*enc.Reader).Count does. -/
namespace Go.Proofs.YtnjkgpgbipcgcaaDoor
open Go.RowKit

/-- The error of the count that n bytes z begin with, up to a bound; its value; how many bytes it stands on. -/
def cE (n : Nat) (z : Nat → Int) (most : Int) : Int := if uE n z (max most 0) = 0 then (if ((n - uN n z (max most 0) : Nat) : Int) < uV n z (max most 0) then 2 else 0) else uE n z (max most 0)
def cV (n : Nat) (z : Nat → Int) (most : Int) : Int := if cE n z most = 0 then uV n z (max most 0) else 0
def cN (n : Nat) (z : Nat → Int) (most : Int) : Nat := if cE n z most = 0 then uN n z (max most 0) else 0
theorem cE_u {n : Nat} {z : Nat → Int} {most : Int} (h : cE n z most = 0) : uE n z (max most 0) = 0 := by
  unfold cE at h
  split at h
  · assumption
  · exact h
theorem cN_le {n : Nat} {z : Nat → Int} {most : Int} (h : cE n z most = 0) : cN n z most ≤ n := by
  rw [cN, if_pos h]; exact uN_le (cE_u h)
theorem uV_bd {n : Nat} {z : Nat → Int} (most : Int) (hz : ∀ j, j < n → 0 ≤ z j ∧ z j ≤ 255) : 0 ≤ uV n z most ∧ uV n z most ≤ 18446744073709551615 := by
  unfold uV
  split
  · rename_i h
    by_cases hn : n = 0
    · subst hn; simp [uE] at h
    · have h0 := hz 0 (by omega)
      have h8 : z 0 ≤ 8 := by
        unfold uE at h
        rw [if_neg hn] at h
        split at h
        · simp at h
        · omega
      exact numV_bd (by omega) (fun j hj => by unfold behind; exact trn_bd (hz _ (by omega)))
  · simp

set_option maxHeartbeats 400000 in
theorem frontCount_nerr (ad : Option Addr) (n cap : Nat) (most : Int) (z : Nat → Int) (w : World) (hlc : n ≤ cap) (hs : SlAt w ad n z) (hm0 : most < 0)
    (er : Int) (hE : errV (uE n z 0) = .iface 72 (.int .i64 er)) :
    Calls Tryd.prog 69 #[.slice ad n cap, .int .i64 most] w fun e w' => e = .returned (.tuple #[.int .i64 0, .int .i64 0, .iface 72 (.int .i64 er)]) ∧ ∃ q, w' = w.drewN q := by
  have hmx : max most 0 = 0 := by omega
  go_enter Tryd.func69, Tryd.ntmps69
  go_wp2_with (go_at_call 84; refine (frontUint_any _ _ _ _ z _ hlc hs).mono ?_; rintro e w1 ⟨rfl, q, rfl⟩)
  go_ret3
  exact ⟨rfl, _, rfl⟩

set_option maxHeartbeats 400000 in
theorem frontCount_nlong (ad : Option Addr) (n cap : Nat) (most : Int) (z : Nat → Int) (w : World) (hlc : n ≤ cap) (hs : SlAt w ad n z) (hm0 : most < 0)
    (hE : errV (uE n z 0) = .nilIface) (hk : uN n z 0 ≤ n) (hn : n ≤ 140737488351232) (hl : ((n : Int) - (uN n z 0 : Int)) < uV n z 0) :
    Calls Tryd.prog 69 #[.slice ad n cap, .int .i64 most] w fun e w' => e = .returned (.tuple #[.int .i64 0, .int .i64 0, .iface 72 (.int .i64 2)]) ∧ ∃ q, w' = w.drewN q := by
  have hmx : max most 0 = 0 := by omega
  go_enter Tryd.func69, Tryd.ntmps69
  go_wp2_with (go_at_call 84; refine (frontUint_any _ _ _ _ z _ hlc hs).mono ?_; rintro e w1 ⟨rfl, q, rfl⟩)
  go_ret3
  exact ⟨rfl, _, rfl⟩

set_option maxHeartbeats 400000 in
theorem frontCount_nok (ad : Option Addr) (n cap : Nat) (most : Int) (z : Nat → Int) (w : World) (hlc : n ≤ cap) (hs : SlAt w ad n z) (hm0 : most < 0)
    (hE : errV (uE n z 0) = .nilIface) (hk : uN n z 0 ≤ n) (hn : n ≤ 140737488351232) (hv : 0 ≤ uV n z 0) (hl : ¬ ((n : Int) - (uN n z 0 : Int)) < uV n z 0) :
    Calls Tryd.prog 69 #[.slice ad n cap, .int .i64 most] w fun e w' => e = .returned (.tuple #[.int .i64 (uV n z 0), .int .i64 (uN n z 0), .nilIface]) ∧ ∃ q, w' = w.drewN q := by
  have hmx : max most 0 = 0 := by omega
  go_enter Tryd.func69, Tryd.ntmps69
  go_wp2_with (go_at_call 84; refine (frontUint_any _ _ _ _ z _ hlc hs).mono ?_; rintro e w1 ⟨rfl, q, rfl⟩)
  go_ret3
  exact ⟨rfl, _, rfl⟩

set_option maxHeartbeats 400000 in
theorem frontCount_perr (ad : Option Addr) (n cap : Nat) (most : Int) (z : Nat → Int) (w : World) (hlc : n ≤ cap) (hs : SlAt w ad n z) (hm0 : 0 ≤ most) (_hm1 : most ≤ 9223372036854775807)
    (er : Int) (hE : errV (uE n z most) = .iface 72 (.int .i64 er)) :
    Calls Tryd.prog 69 #[.slice ad n cap, .int .i64 most] w fun e w' => e = .returned (.tuple #[.int .i64 0, .int .i64 0, .iface 72 (.int .i64 er)]) ∧ ∃ q, w' = w.drewN q := by
  have hmx : max most 0 = most := by omega
  go_enter Tryd.func69, Tryd.ntmps69
  go_wp2_with (go_at_call 84; refine (frontUint_any _ _ _ _ z _ hlc hs).mono ?_; rintro e w1 ⟨rfl, q, rfl⟩)
  go_ret3
  exact ⟨rfl, _, rfl⟩

set_option maxHeartbeats 400000 in
theorem frontCount_plong (ad : Option Addr) (n cap : Nat) (most : Int) (z : Nat → Int) (w : World) (hlc : n ≤ cap) (hs : SlAt w ad n z) (hm0 : 0 ≤ most) (_hm1 : most ≤ 9223372036854775807)
    (hE : errV (uE n z most) = .nilIface) (hk : uN n z most ≤ n) (hn : n ≤ 140737488351232) (hl : ((n : Int) - (uN n z most : Int)) < uV n z most) :
    Calls Tryd.prog 69 #[.slice ad n cap, .int .i64 most] w fun e w' => e = .returned (.tuple #[.int .i64 0, .int .i64 0, .iface 72 (.int .i64 2)]) ∧ ∃ q, w' = w.drewN q := by
  have hmx : max most 0 = most := by omega
  go_enter Tryd.func69, Tryd.ntmps69
  go_wp2_with (go_at_call 84; refine (frontUint_any _ _ _ _ z _ hlc hs).mono ?_; rintro e w1 ⟨rfl, q, rfl⟩)
  go_ret3
  exact ⟨rfl, _, rfl⟩

set_option maxHeartbeats 400000 in
theorem frontCount_pok (ad : Option Addr) (n cap : Nat) (most : Int) (z : Nat → Int) (w : World) (hlc : n ≤ cap) (hs : SlAt w ad n z) (hm0 : 0 ≤ most) (_hm1 : most ≤ 9223372036854775807)
    (hE : errV (uE n z most) = .nilIface) (hk : uN n z most ≤ n) (hn : n ≤ 140737488351232) (hv : 0 ≤ uV n z most) (hl : ¬ ((n : Int) - (uN n z most : Int)) < uV n z most) :
    Calls Tryd.prog 69 #[.slice ad n cap, .int .i64 most] w fun e w' => e = .returned (.tuple #[.int .i64 (uV n z most), .int .i64 (uN n z most), .nilIface]) ∧ ∃ q, w' = w.drewN q := by
  have hmx : max most 0 = most := by omega
  go_enter Tryd.func69, Tryd.ntmps69
  go_wp2_with (go_at_call 84; refine (frontUint_any _ _ _ _ z _ hlc hs).mono ?_; rintro e w1 ⟨rfl, q, rfl⟩)
  go_ret3
  exact ⟨rfl, _, rfl⟩


theorem errV_2c : errV 2 = .iface 72 (.int .i64 2) := rfl

theorem frontCount_any (ad : Option Addr) (n cap : Nat) (most : Int) (z : Nat → Int) (w : World) (hlc : n ≤ cap) (hn : n ≤ 140737488351232) (hs : SlAt w ad n z) (hm : most ≤ 9223372036854775807) :
    Calls Tryd.prog 69 #[.slice ad n cap, .int .i64 most] w fun e w' => e = .returned (.tuple #[.int .i64 (cV n z most), .int .i64 (cN n z most), errV (cE n z most)]) ∧ ∃ q, w' = w.drewN q := by
  have hv := uV_bd (n := n) (z := z) (max most 0) hs.1
  by_cases hE : uE n z (max most 0) = 0
  · have hk := uN_le hE
    by_cases hl : ((n - uN n z (max most 0) : Nat) : Int) < uV n z (max most 0)
    · have e : cE n z most = 2 := by rw [cE, if_pos hE, if_pos hl]
      rw [cV, cN, e, if_neg (by decide), if_neg (by decide), errV_2c]
      by_cases h0 : most < 0
      · rw [show max most 0 = 0 from by omega] at *
        exact frontCount_nlong ad n cap most z w hlc hs h0 (by rw [hE, errV_0]) hk hn (by omega)
      · rw [show max most 0 = most from by omega] at *
        exact frontCount_plong ad n cap most z w hlc hs (by omega) hm (by rw [hE, errV_0]) hk hn (by omega)
    · have e : cE n z most = 0 := by rw [cE, if_pos hE, if_neg hl]
      rw [cV, cN, e, if_pos rfl, if_pos rfl, errV_0]
      by_cases h0 : most < 0
      · rw [show max most 0 = 0 from by omega] at *
        exact frontCount_nok ad n cap most z w hlc hs h0 (by rw [hE, errV_0]) hk hn hv.1 (by omega)
      · rw [show max most 0 = most from by omega] at *
        exact frontCount_pok ad n cap most z w hlc hs (by omega) hm (by rw [hE, errV_0]) hk hn hv.1 (by omega)
  · have e : cE n z most = uE n z (max most 0) := by rw [cE, if_neg hE]
    rw [cV, cN, e, if_neg hE, if_neg hE]
    by_cases h0 : most < 0
    · rw [show max most 0 = 0 from by omega] at *
      rw [errV_ne hE]
      exact frontCount_nerr ad n cap most z w hlc hs h0 _ (errV_ne hE)
    · rw [show max most 0 = most from by omega] at *
      rw [errV_ne hE]
      exact frontCount_perr ad n cap most z w hlc hs (by omega) hm _ (errV_ne hE)

set_option maxHeartbeats 400000 in
theorem rdCount_err (rb n cap : Nat) (ad : Option Addr) (z : Nat → Int) (er most : Int) (w : World) (h0 : w.cell? ⟨rb, 0, none⟩ = some (.slice ad n cap)) (h1 : w.cell? ⟨rb, 1, none⟩ = some .nilIface) (hf : w.frozen? ⟨rb, 1, none⟩ = false)
    (hlc : n ≤ cap) (hn : n ≤ 140737488351232) (hm : most ≤ 9223372036854775807) (hs : SlAt w ad n z) (hE : errV (cE n z most) = .iface 72 (.int .i64 er)) :
    Calls Tryd.prog 43 #[.pointer (some ⟨rb, 0, none⟩), .int .i64 most] w fun e w' =>
      e = .returned (.int .i64 0) ∧ ∃ q, w' = ((w.alloc (.cells #[.int .i64 most] 3)).drewN q).setCell ⟨rb, 1, none⟩ (.iface 72 (.int .i64 er)) := by
  have hs1 : SlAt (w.alloc (.cells #[.int .i64 most] 3)) ad n z := hs.frm ((Frm.refl [] w).alloc _) (by simp)
  have hlt : rb < w.heap.size := World.block_lt_of_cell? w ⟨rb, 0, none⟩ h0
  have HM : Hid (most ≤ 9223372036854775807) := hm
  clear hm
  go_enter Tryd.func43, Tryd.ntmps43
  go_wp2_with (first | (go_at_call 69; refine (frontCount_any _ _ _ most z _ hlc hn hs1 HM.out).mono ?_; rintro e w' ⟨rfl, q, rfl⟩) | go_in)
  go_ret3
  go_wp2
  go_ret
  exact ⟨rfl, q, rfl⟩

set_option maxHeartbeats 400000 in
theorem rdCount_ok (rb n cap k : Nat) (ad : Option Addr) (z : Nat → Int) (most : Int) (w : World) (h0 : w.cell? ⟨rb, 0, none⟩ = some (.slice ad n cap)) (h1 : w.cell? ⟨rb, 1, none⟩ = some .nilIface) (hf : w.frozen? ⟨rb, 0, none⟩ = false)
    (hlc : n ≤ cap) (hn : n ≤ 140737488351232) (hm : most ≤ 9223372036854775807) (hs : SlAt w ad n z) (hE : errV (cE n z most) = .nilIface) (hk : cN n z most = k) (hkn : k ≤ n) :
    Calls Tryd.prog 43 #[.pointer (some ⟨rb, 0, none⟩), .int .i64 most] w fun e w' =>
      e = .returned (.int .i64 (cV n z most)) ∧ Took (w.alloc (.cells #[.int .i64 most] 3)) w' rb n cap k ad := by
  have hs1 : SlAt (w.alloc (.cells #[.int .i64 most] 3)) ad n z := hs.frm ((Frm.refl [] w).alloc _) (by simp)
  have hlt : rb < w.heap.size := World.block_lt_of_cell? w ⟨rb, 0, none⟩ h0
  have hkn1 : (k : Int) ≤ (n : Int) := by omega
  have hlc1 : (n : Int) ≤ (cap : Int) := by omega
  have hk0 : (0 : Int) ≤ (k : Int) := by omega
  have HM : Hid (most ≤ 9223372036854775807) := hm
  clear hm
  go_enter Tryd.func43, Tryd.ntmps43
  go_wp2_with (first | (go_at_call 69; refine (frontCount_any _ _ _ most z _ hlc hn hs1 HM.out).mono ?_; rintro e w' ⟨rfl, q, rfl⟩) | go_in)
  go_ret3
  go_wp2
  · subst h
    go_ret
    exact ⟨rfl, Took.all _ _ _ _ _ _⟩
  · go_ret
    exact ⟨rfl, Took.some _ _ _ _ _ _ _⟩

theorem rdCount_any (rb n : Nat) (z : Nat → Int) (most : Int) (w : World) (hn : n ≤ 140737488351232) (hm : most ≤ 9223372036854775807) (h : RdAt w rb n z 0) :
    Calls Tryd.prog 43 #[.pointer (some ⟨rb, 0, none⟩), .int .i64 most] w fun e w' =>
      e = .returned (.int .i64 (cV n z most)) ∧ Frm [rb] w w' ∧ RdAt w' rb (n - cN n z most) (fun j => z (j + cN n z most)) (cE n z most) := by
  obtain ⟨ad, cap, hr, hlc, hs, hlb⟩ := h
  by_cases hE : cE n z most = 0
  · have hk : cN n z most ≤ n := cN_le hE
    refine (rdCount_ok rb n cap (cN n z most) ad z most w (two_cell0 hr) (two_cell1 hr) (two_free hr 0) hlc hn hm hs (by rw [hE]; rfl) rfl hk).mono ?_
    rintro e w' ⟨rfl, ht⟩
    rw [hE]
    have := ht.rd hr hlc hs hlb hk ((Frm.refl [] w).alloc _)
    exact ⟨rfl, this.2, this.1⟩
  · have hN : cN n z most = 0 := by simp [cN, hE]
    have hV : cV n z most = 0 := by simp [cV, hE]
    refine (rdCount_err rb n cap ad z (cE n z most) most w (two_cell0 hr) (two_cell1 hr) (two_free hr 1) hlc hn hm hs (errV_ne hE)).mono ?_
    rintro e w' ⟨rfl, q, rfl⟩
    rw [hN, hV, ← errV_ne hE]
    have := RdAt.fail (er := cE n z most) hr hlc hs hlb (((Frm.refl [] w).alloc (.cells #[.int .i64 most] 3)).drewN q)
    exact ⟨rfl, this.2, this.1⟩
end Go.Proofs.YtnjkgpgbipcgcaaDoor
