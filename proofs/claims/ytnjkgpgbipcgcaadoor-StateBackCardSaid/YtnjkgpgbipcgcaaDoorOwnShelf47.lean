/- state.Decode: what it has on the way. -/
import Derived.Test.YtnjkgpgbipcgcaaDoorOwnShelf46
import Derived.Test.YtnjkgpgbipcgcaaDoorOwnShelf33
namespace Go.Proofs.YtnjkgpgbipcgcaaDoor
open Go.RowKit

/-- What is left behind i payments; behind j holds. -/
def stP (q : Option (List Int)) : Nat → Option (List Int)
  | 0 => q
  | i + 1 => (pyS (stP q i)).2
def stH (q : Option (List Int)) : Nat → Option (List Int)
  | 0 => q
  | i + 1 => (hdS (stH q i)).2
/-- The state that bytes tell, whether it may be or not, and what is left of them. -/
def dS (x1 x2 x3 x4 : Int × Option (List Int)) (x5 : Int × Option (List Int)) : Sv :=
  ⟨x1.1, x2.1, x3.1, x4.1.toNat, fun i => (pyS (stP x4.2 i)).1, x5.1.toNat, fun j => (hdS (stH x5.2 j)).1⟩
def d1 (l : List Int) := numS (some l)
def d2 (l : List Int) := numS (d1 l).2
def d3 (l : List Int) := numS (d2 l).2
def d4 (l : List Int) := cntS 8 (d3 l).2
def d5 (l : List Int) := cntS 8 (stP (d4 l).2 (d4 l).1.toNat)
def decS (l : List Int) : Sv := dS (d1 l) (d2 l) (d3 l) (d4 l) (d5 l)
def decQ (l : List Int) : Option (List Int) := stH (d5 l).2 (d5 l).1.toNat
def decOk (l : List Int) : Prop := decQ l = some [] ∧ SOk (decS l)
instance (l : List Int) : Decidable (decOk l) := inferInstanceAs (Decidable (_ ∧ _))
def decT (l : List Int) : Sv := if decOk l then decS l else sv0
def decE (l : List Int) : Int := if decOk l then 0 else 3
/-- A state on the way: i payments and j holds of s are there; block g is the variable, rb the reader. -/
structure DcS (w wr : World) (rb g : Nat) (s : Sv) (p : Pl) (A : Nat → Option Addr × Nat) (i j : Nat) (q : Option (List Int)) : Prop where
  below : Below w.heap.size w wr
  l1 : w.heap.size < rb
  l2 : rb < g
  res : wr.heap[w.heap.size]? = some (.cells #[.int .i64 0, .int .i64 0, .int .i64 0, .slice none 0 0, .slice none 0 0] 28 (0, 0))
  box : wr.heap[g]? = some (.cells #[.int .i64 s.nu, .int .i64 s.a, .int .i64 s.b, .slice p.pa i p.pc, .slice p.ha j p.hc] 28 (0, 0))
  py : wr.ownsRow (g + 1) 44 36 (.slice p.pa i p.pc) i (flatL (pf s.P) i)
  hd : wr.ownsRow (g + 1) 48 3 (.slice p.ha j p.hc) j (flatL (hf s.H A) j)
  ks : ∀ k, k < j → wr.ownsRow (g + 1) 3 1 (.slice (A k).1 (s.H k).n (A k).2) (s.H k).n (kL (s.H k))
  lk : ∀ k, k < i → Zb (s.P k).lk
  rs : RS wr rb q
theorem DcS.big {w wr : World} {rb g : Nat} {s : Sv} {p : Pl} {A : Nat → Option Addr × Nat} {i j : Nat} {q : Option (List Int)} (h : DcS w wr rb g s p A i j q) : g + 1 ≤ wr.heap.size := lt_of_block h.box
theorem DcS.frm {w wr w' : World} {rb g : Nat} {s : Sv} {p : Pl} {A : Nat → Option Addr × Nat} {i j : Nat} {q q' : Option (List Int)} (h : DcS w wr rb g s p A i j q) (hf : Frm [rb] wr w') (hr : RS w' rb q') : DcS w w' rb g s p A i j q' := by
  have l1 := h.l1
  have l2 := h.l2
  refine ⟨h.below.trans (hf.below (by have := h.below.size; omega) (by simp; omega)), h.l1, h.l2, hf.heap h.res (by simp; omega), hf.heap h.box (by simp; omega), own_frm h.py hf (fun k hk => by simp at hk; omega), own_frm h.hd hf (fun k hk => by simp at hk; omega), fun k hk => own_frm (h.ks k hk) hf (fun k hk => by simp at hk; omega), h.lk, hr⟩
theorem DcS.keep {w wr w' : World} {rb g : Nat} {s : Sv} {p : Pl} {A : Nat → Option Addr × Nat} {i j : Nat} {q : Option (List Int)} (h : DcS w wr rb g s p A i j q) (hb : Below wr.heap.size wr w') : DcS w w' rb g s p A i j q := h.frm (Frm.ofBelow hb) (h.rs.keep hb)
theorem DcS.pushP {w w1 w2 : World} {rb g : Nat} {s : Sv} {p : Pl} {A : Nat → Option Addr × Nat} {i j : Nat} {q : Option (List Int)} {va : Option Addr} {vc : Nat} (h : DcS w w1 rb g s p A i j q) (hz : Zb (s.P i).lk) (hown : w2.ownsRow (g + 1) 44 36 (.slice va (i + 1) vc) (i + 1) (flatL (pf s.P) i ++ pyl (s.P i))) (hg : w1.grownBy w2 (Value.slice p.pa i p.pc).ownBlock) :
    DcS w (w2.setCell ⟨g, 3, none⟩ (.slice va (i + 1) vc)) rb g s ⟨va, vc, p.ha, p.hc⟩ A (i + 1) j q := by
  have l1 := h.l1
  have l2 := h.l2
  have hl := grown_low h.py hg h.big
  have hs : ∀ k, k ≠ g → (w2.setCell ⟨g, 3, none⟩ (.slice va (i + 1) vc)).heap[k]? = w2.heap[k]? := fun k hk => Below.heap_setCell _ _ _ _ (by exact hk)
  refine ⟨?_, l1, l2, ?_, ?_, ?_, ?_, fun k hk => ?_, fun k hk => ?_, ?_⟩
  · exact (grown_below h.py hg h.below (by omega)).setCell (by show w.heap.size ≤ g; omega) _
  · rw [hs _ (by omega), hl _ (by omega)]; exact h.res
  · exact five_set3 (by rw [hl _ (by omega)]; exact h.box)
  · exact own_keep hown fun g' e => hs g' (by have := (hown.lt g' e).1; omega)
  · have := grown_keepV h.py h.hd (by decide) hg
    exact own_keep this fun g' e => hs g' (by have := (this.lt g' e).1; omega)
  · have := grown_keepV h.py (h.ks k hk) (by decide) hg
    exact own_keep this fun g' e => hs g' (by have := (this.lt g' e).1; omega)
  · by_cases e : k = i
    · rw [e]; exact hz
    · exact h.lk k (by omega)
  · exact h.rs.upto (fun k hk => by rw [hs _ (by omega), hl _ (by omega)])
theorem DcS.pushH {w w1 w2 : World} {rb g : Nat} {s : Sv} {p : Pl} {A : Nat → Option Addr × Nat} {i j : Nat} {q : Option (List Int)} {va ka : Option Addr} {vc kc : Nat} (h : DcS w w1 rb g s p A i j q) (hk : w1.ownsRow (g + 1) 3 1 (.slice ka (s.H j).n kc) (s.H j).n (kL (s.H j))) (hown : w2.ownsRow (g + 1) 48 3 (.slice va (j + 1) vc) (j + 1) (flatL (hf s.H A) j ++ hdl (s.H j) ka kc)) (hg : w1.grownBy w2 (Value.slice p.ha j p.hc).ownBlock) :
    DcS w (w2.setCell ⟨g, 4, none⟩ (.slice va (j + 1) vc)) rb g s ⟨p.pa, p.pc, va, vc⟩ (fun k => if k = j then (ka, kc) else A k) i (j + 1) q := by
  have l1 := h.l1
  have l2 := h.l2
  have hl := grown_low h.hd hg h.big
  have hs : ∀ k, k ≠ g → (w2.setCell ⟨g, 4, none⟩ (.slice va (j + 1) vc)).heap[k]? = w2.heap[k]? := fun k hk => Below.heap_setCell _ _ _ _ (by exact hk)
  refine ⟨?_, l1, l2, ?_, ?_, ?_, ?_, fun k hkj => ?_, h.lk, ?_⟩
  · exact (grown_below h.hd hg h.below (by omega)).setCell (by show w.heap.size ≤ g; omega) _
  · rw [hs _ (by omega), hl _ (by omega)]; exact h.res
  · exact five_set4 (by rw [hl _ (by omega)]; exact h.box)
  · have := grown_keepV h.hd h.py (by decide) hg
    exact own_keep this fun g' e => hs g' (by have := (this.lt g' e).1; omega)
  · rw [flatL, flatL_congr j (g := hf s.H A) (fun k hk => by simp [hf, show ¬ k = j by omega])]
    have e : hf s.H (fun k => if k = j then (ka, kc) else A k) j = hdl (s.H j) ka kc := by simp [hf]
    rw [e]
    exact own_keep hown fun g' e => hs g' (by have := (hown.lt g' e).1; omega)
  · by_cases e : k = j
    · subst e
      simp only [if_true]
      have := grown_keepV h.hd hk (by decide) hg
      exact own_keep this fun g' e => hs g' (by have := (this.lt g' e).1; omega)
    · simp only [if_neg e]
      have := grown_keepV h.hd (h.ks k (by omega)) (by decide) hg
      exact own_keep this fun g' e => hs g' (by have := (this.lt g' e).1; omega)
  · exact h.rs.upto (fun k hk => by rw [hs _ (by omega), hl _ (by omega)])
theorem uintR_le {most v : Int} {l r : List Int} (h : uintR most l = some (v, r)) : v ≤ most := by
  unfold uintR at h
  split at h
  · rename_i hE
    cases h
    unfold uV
    rw [if_pos hE]
    unfold uE at hE
    split at hE
    · simp at hE
    · split at hE
      · simp at hE
      · split at hE
        · split at hE
          · simp at hE
          · omega
        · rename_i h2
          exact absurd hE h2
  · cases h
theorem cntS_le (q : Option (List Int)) {most : Int} (hm : 0 ≤ most) : (cntS most q).1 ≤ most := by
  unfold cntS tk
  cases q with
  | none => exact hm
  | some l =>
    dsimp only [countR]
    by_cases hE : cE l.length (fn l) most = 0
    · rw [if_pos hE]
      dsimp only
      have hu := cE_u hE
      have hmx : max most 0 = most := by omega
      rw [hmx] at hu
      have : uintR most l = some (uV l.length (fn l) most, l.drop (uN l.length (fn l) most)) := by unfold uintR; rw [if_pos hu]
      rw [cV, if_pos hE, hmx]
      exact uintR_le this
    · rw [if_neg hE]; exact hm
theorem hdS_n (q : Option (List Int)) : (hdS q).1.n ≤ 16 := by
  show (cntS 16 (numS (numS q).2).2).1.toNat ≤ 16
  have := cntS_le (numS (numS q).2).2 (most := 16) (by decide)
  omega
theorem decS_pn (l : List Int) : (decS l).pn ≤ 8 := by
  show (d4 l).1.toNat ≤ 8
  have : (d4 l).1 ≤ 8 := cntS_le _ (by decide)
  omega
theorem decS_hn (l : List Int) : (decS l).hn ≤ 8 := by
  show (d5 l).1.toNat ≤ 8
  have : (d5 l).1 ≤ 8 := cntS_le _ (by decide)
  omega
theorem decS_small (l : List Int) : (decS l).Small :=
  ⟨by have := decS_pn l; have := decS_hn l; omega, fun j _ => by have : ((decS l).H j).n ≤ 16 := hdS_n _; omega⟩
theorem decT_small (l : List Int) : (decT l).Small := by
  unfold decT
  split
  · exact decS_small l
  · exact sv0_small
end Go.Proofs.YtnjkgpgbipcgcaaDoor
/- state.Decode: the walk. -/
namespace Go.Proofs.YtnjkgpgbipcgcaaDoor
open Go.RowKit

set_option maxRecDepth 100000 in
set_option maxHeartbeats 6400000 in
theorem decode_any (ad : Option Addr) (cap : Nat) (l : List Int) (w : World) (hs : SlAt w ad l.length (fn l)) (hnil : ad = none → l.length = 0 ∧ cap = 0) (hn : l.length ≤ 140737488351232) :
    Calls Tryd.prog 17 #[.slice ad l.length cap] w fun e w' => ∃ p, e = .returned (.tuple #[.agg (svv (decT l) p), errV (decE l)]) ∧ SvAt w' (decT l) p ∧ Below w.heap.size w w' := by
  have hb0 : Below w.heap.size w (w.alloc (.cells #[.int .i64 0, .int .i64 0, .int .i64 0, .slice none 0 0, .slice none 0 0] 28)) := (Below.refl _ w).alloc (Nat.le_refl _) _
  have hp0 : (w.alloc (.cells #[.int .i64 0, .int .i64 0, .int .i64 0, .slice none 0 0, .slice none 0 0] 28)).heap[w.heap.size]? = some (.cells #[.int .i64 0, .int .i64 0, .int .i64 0, .slice none 0 0, .slice none 0 0] 28 (0, 0)) := heap_alloc_new w _
  have hs0 : (w.alloc (.cells #[.int .i64 0, .int .i64 0, .int .i64 0, .slice none 0 0, .slice none 0 0] 28)).heap.size = w.heap.size + 1 := by simp
  have hsm := decS_small l
  have hpn := decS_pn l
  have hhn := decS_hn l
  obtain ⟨s, he⟩ : ∃ s, decS l = s := ⟨_, rfl⟩
  have ENu : Hid ((d1 l).1 = s.nu ∧ (d2 l).1 = s.a ∧ (d3 l).1 = s.b ∧ (∀ i, (pyS (stP (d4 l).2 i)).1 = s.P i) ∧ ∀ j, (hdS (stH (d5 l).2 j)).1 = s.H j) := by subst he; exact ⟨rfl, rfl, rfl, fun _ => rfl, fun _ => rfl⟩
  have EN : Hid ((d4 l).1.toNat = s.pn ∧ (d5 l).1.toNat = s.hn) := by subst he; exact ⟨rfl, rfl⟩
  have HE : Hid (decS l = s) := he
  have HSM : Hid s.Small := by rw [← he]; exact hsm
  rw [he] at hpn hhn
  clear he hsm
  have hrd := read_rs ad cap l _ (hs.frm (S := []) (Frm.ofBelow hb0) (by simp)) hnil hn
  clear hs hnil hn
  go_enter Tryd.func17, Tryd.ntmps17
  go_wp2_with fail
  generalize w.alloc (.cells #[.int .i64 0, .int .i64 0, .int .i64 0, .slice none 0 0, .slice none 0 0] 28) = W0 at *
  refine hrd.mono ?_
  rintro e w1 ⟨rb, rfl, h1, hrb, hb1⟩
  clear hrd
  go_wp2_with fail
  have k1 := snum_any rb (some l) w1 h1
  change Calls _ _ _ _ (fun e w' => e = .returned (.int .i64 (d1 l).1) ∧ Frm [rb] w1 w' ∧ RS w' rb (d1 l).2) at k1
  rw [ENu.out.1] at k1
  refine k1.mono ?_
  rintro e w2 ⟨rfl, hF2, h2⟩
  clear k1
  go_wp2_with fail
  have k2 := snum_any rb (d1 l).2 w2 h2
  change Calls _ _ _ _ (fun e w' => e = .returned (.int .i64 (d2 l).1) ∧ Frm [rb] w2 w' ∧ RS w' rb (d2 l).2) at k2
  rw [ENu.out.2.1] at k2
  refine k2.mono ?_
  rintro e w3 ⟨rfl, hF3, h3⟩
  clear k2
  go_wp2_with fail
  have k3 := snum_any rb (d2 l).2 w3 h3
  change Calls _ _ _ _ (fun e w' => e = .returned (.int .i64 (d3 l).1) ∧ Frm [rb] w3 w' ∧ RS w' rb (d3 l).2) at k3
  rw [ENu.out.2.2.1] at k3
  refine k3.mono ?_
  rintro e w4 ⟨rfl, hF4, h4⟩
  clear k3
  have hb4 : Below w.heap.size w w4 := (hb0.trans (hb1.mono (by omega))).trans (((hF2.trans hF3).trans hF4).below (by have := hb1.size; omega) (by simp; omega))
  have hp4 : w4.heap[w.heap.size]? = some (.cells #[.int .i64 0, .int .i64 0, .int .i64 0, .slice none 0 0, .slice none 0 0] 28 (0, 0)) := ((hF2.trans hF3).trans hF4).heap (by rw [hb1.block _ (by omega)]; exact hp0) (by simp; omega)
  have HH : Hid (Below w.heap.size w w4 ∧ w4.heap[w.heap.size]? = some (.cells #[.int .i64 0, .int .i64 0, .int .i64 0, .slice none 0 0, .slice none 0 0] 28 (0, 0)) ∧ RS w4 rb (d3 l).2) := ⟨hb4, hp4, h4⟩
  have hrb1 : w.heap.size < rb := by omega
  clear hb0 hp0 hs0 h1 hrb hb1 hF2 h2 hF3 h3 hF4 h4 hb4 hp4
  go_wp2_with fail
  have hb5 : Below w4.heap.size w4 (w4.alloc (.cells #[.int .i64 s.nu, .int .i64 s.a, .int .i64 s.b, .slice none 0 0, .slice none 0 0] 28)) := (Below.refl _ _).alloc (Nat.le_refl _) _
  have hx5 : (w4.alloc (.cells #[.int .i64 s.nu, .int .i64 s.a, .int .i64 s.b, .slice none 0 0, .slice none 0 0] 28)).heap[w4.heap.size]? = some (.cells #[.int .i64 s.nu, .int .i64 s.a, .int .i64 s.b, .slice none 0 0, .slice none 0 0] 28 (0, 0)) := heap_alloc_new _ _
  have hD0 : DcS w (w4.alloc (.cells #[.int .i64 s.nu, .int .i64 s.a, .int .i64 s.b, .slice none 0 0, .slice none 0 0] 28)) rb w4.heap.size s pl0 (fun _ => (none, 0)) 0 0 (d3 l).2 :=
    ⟨HH.out.1.trans (hb5.mono HH.out.1.size), hrb1, HH.out.2.2.lt, by rw [hb5.block _ (lt_of_block HH.out.2.1)]; exact HH.out.2.1, hx5, World.ownsRow_nil _ _ _ _, World.ownsRow_nil _ _ _ _, fun k hk => by omega, fun k hk => by omega, HH.out.2.2.keep hb5⟩
  have k5 := count_rs rb 8 (d3 l).2 _ hD0.rs (by decide)
  change Calls _ _ _ _ (fun e w' => e = .returned (.int .i64 (d4 l).1) ∧ Frm [rb] _ w' ∧ RS w' rb (d4 l).2) at k5
  have h40 : 0 ≤ (d4 l).1 := (cntS_bd (most := 8) hD0.rs.by (by decide)).1
  rw [show (d4 l).1 = (s.pn : Int) by have := EN.out.1; omega] at k5
  generalize w4.alloc (.cells #[.int .i64 s.nu, .int .i64 s.a, .int .i64 s.b, .slice none 0 0, .slice none 0 0] 28) = W5 at *
  generalize w4.heap.size = g at *
  refine k5.mono ?_
  rintro e w6 ⟨rfl, hF6, h6⟩
  have hD6 := hD0.frm hF6 h6
  clear k5 hD0 hF6 h6 HH hb5 hx5 h40
  go_wp2_with fail
  go_loopw [18] (fun iv wr => ∃ (i : Nat) (p : Pl), i ≤ s.pn ∧ iv = .int .i64 i ∧ DcS w wr rb g s p (fun _ => (none, 0)) i 0 (stP (d4 l).2 i)) (fun iv _ => s.pn + 1 - (intOf iv).toNat)
  case atStart => exact ⟨0, pl0, by omega, rfl, hD6⟩
  case round =>
    clear hD6
    obtain ⟨i, p, hi, rfl, hG⟩ := hrel
    have HG : Hid (DcS w wr rb g s p (fun _ => (none, 0)) i 0 (stP (d4 l).2 i)) := hG
    have hbig := hG.big
    have l1 := hG.l1
    have l2 := hG.l2
    clear hG
    by_cases hlt : i < s.pn
    · have hlt' : (i : Int) < s.pn := by omega
      have hGd : DcS w wr.drew rb g s p (fun _ => (none, 0)) i 0 (stP (d4 l).2 i) := HG.out.keep ((Below.refl _ wr).drew)
      have HGd : Hid (DcS w wr.drew rb g s p (fun _ => (none, 0)) i 0 (stP (d4 l).2 i)) := hGd
      obtain ⟨_, _, _, S0, _, _⟩ := five_of hGd.box
      obtain ⟨_, _, _, c3, _, _⟩ := five_of HG.out.box
      clear hGd
      go_wp2_with fail
      refine wp_region_noPanic ?_
      refine wp_region_K (S := fun w' => w'.cell? ⟨g, 3, none⟩ = some (.slice p.pa i p.pc)) 7 (by kernel_rfl) S0 (fun hHeld => ?_)
      clear HG c3
      generalize wr.drew = Wd at *
      refine wpAnyK_take (by kernel_rfl) (i := 0) (oi := { dst := some 20, op := Go.Op.fieldAddr 28 (Go.Operand.tmp 5) 2, type := 0, pos := "state.go:183", after := #[], guard := none }) (v := ?_) rfl (by kernel_rfl) (by kernel_rfl) (by kernel_rfl) (fun _ _ _ h => h) (Or.inl ⟨by rfl, ?_⟩) (by assumption) ?_
      rotate_left
      · intro wz hSw; (try dsimp only at hSw); go_simp; (try with_reducible rfl)
      try simp only [Act.put, List.setIfInBounds_toArray, List.set_cons_zero, List.set_cons_succ]
      refine wpAnyK_take (by kernel_rfl) (i := 1) (oi := { dst := some 21, op := Go.Op.load 25 (Go.Operand.tmp 20), type := 25, pos := "state.go:183", after := #[{ on := 0, ground := Go.Ground.data }], guard := none }) (v := ?_) rfl (by kernel_rfl) (by kernel_rfl) (by kernel_rfl) (fun _ _ _ h => h) (Or.inl ⟨by rfl, ?_⟩) (by assumption) ?_
      rotate_left
      · intro wz hSw; (try dsimp only at hSw); go_simp; (try with_reducible rfl)
      try simp only [Act.put, List.setIfInBounds_toArray, List.set_cons_zero, List.set_cons_succ]
      refine wpAnyK_take (by kernel_rfl) (i := 2) (oi := { dst := some 22, op := Go.Op.move (Go.Operand.tmp 4), type := 88, pos := "state.go:183", after := #[], guard := none }) (v := ?_) rfl (by kernel_rfl) (by kernel_rfl) (by kernel_rfl) (fun _ _ _ h => h) (Or.inl ⟨by rfl, ?_⟩) (by assumption) ?_
      rotate_left
      · intro wz hSw; (try dsimp only at hSw); go_simp; (try with_reducible rfl)
      try simp only [Act.put, List.setIfInBounds_toArray, List.set_cons_zero, List.set_cons_succ]
      refine wpAnyK_ready (rs := [3]) (by kernel_rfl) (by simp) ?_
      refine (AllReadyK.cons (o := { dst := some 23, op := Go.Op.call { callee := Go.Callee.value (Go.Operand.func 44), args := #[Go.Operand.tmp 22], argTypes := #[88] }, type := 44, pos := "state.go:183", after := #[{ on := 2, ground := Go.Ground.data }], guard := none }) rfl (fun K hK => ?_) AllReadyK.nil)
      go_simp
      have kp := rdPay_any rb (stP (d4 l).2 i) Wd HGd.out.rs
      rw [ENu.out.2.2.2.1 i] at kp
      refine kp.mono ?_
      rintro e w7 ⟨rfl, hF7, h7, hz7⟩
      clear kp
      have HG7 : Hid (DcS w w7 rb g s p (fun _ => (none, 0)) i 0 (stP (d4 l).2 (i + 1)) ∧ Zb (s.P i).lk) := ⟨HGd.out.frm hF7 h7, hz7⟩
      clear hF7 h7 hz7 HGd
      have S7 : w7.cell? ⟨g, 3, none⟩ = some (.slice p.pa i p.pc) := (five_of HG7.out.1.box).c3
      refine hK.out _ _ (fun _ => S7) (fun _ => ?_)
      clear hK K
      try simp only [Act.put, List.setIfInBounds_toArray, List.set_cons_zero, List.set_cons_succ]
      refine wpAnyK_ready (rs := [4]) (by kernel_rfl) (by simp) ?_
      refine (AllReadyK.cons (o := { dst := some 24, op := Go.Op.buildSlice 25 1 #[(0, Go.Operand.tmp 23)], type := 25, pos := "state.go:183", after := #[{ on := 3, ground := Go.Ground.data }], guard := none }) rfl (fun K hK => ?_) AllReadyK.nil)
      refine step_sliceP rfl (.tmp 23) rfl (s.P i) (by rfl) ?_
      have hb8 : Below w7.heap.size w7 (w7.alloc (.cells (pyv (s.P i)) 44)) := (Below.refl _ _).alloc (Nat.le_refl _) _
      have hq8 : (w7.alloc (.cells (pyv (s.P i)) 44)).heap[w7.heap.size]? = some (.cells (pyv (s.P i)) 44 (0, 0)) := heap_alloc_new w7 _
      generalize w7.alloc (.cells (pyv (s.P i)) 44) = w8 at *
      have HG8 : Hid (DcS w w8 rb g s p (fun _ => (none, 0)) i 0 (stP (d4 l).2 (i + 1)) ∧ Zb (s.P i).lk) := ⟨HG7.out.1.keep hb8, HG7.out.2⟩
      clear hb8 HG7
      have S8 : w8.cell? ⟨g, 3, none⟩ = some (.slice p.pa i p.pc) := (five_of HG8.out.1.box).c3
      refine hK.out _ _ (fun _ => S8) (fun _ => ?_)
      clear hK K
      try simp only [Act.put, List.setIfInBounds_toArray, List.set_cons_zero, List.set_cons_succ]
      refine wpAnyK_ready (rs := [5]) (by kernel_rfl) (by simp) ?_
      refine (AllReadyK.cons (o := { dst := some 25, op := Go.Op.call { callee := Go.Callee.builtin Go.Builtin.append, args := #[Go.Operand.tmp 21, Go.Operand.tmp 24], argTypes := #[25, 25] }, type := 25, pos := "state.go:183", after := #[{ on := 1, ground := Go.Ground.data }, { on := 4, ground := Go.Ground.data }, { on := 3, ground := Go.Ground.chain }], guard := none }) rfl (fun K hK => ?_) AllReadyK.nil)
      refine step_append_P rfl (.tmp 21) (.tmp 24) rfl (g + 1) w7.heap.size (.slice p.pa i p.pc) i (flatL (pf s.P) i) (s.P i) (by rfl) (by rfl) HG8.out.1.py HG8.out.1.big hq8 (by omega) ?_
      intro va vc w9 hown hgrow
      have hlo := grown_low HG8.out.1.py hgrow HG8.out.1.big
      have hx9 : w9.heap[g]? = some (.cells #[.int .i64 s.nu, .int .i64 s.a, .int .i64 s.b, .slice p.pa i p.pc, .slice p.ha 0 p.hc] 28 (0, 0)) := by rw [hlo _ (by omega)]; exact HG8.out.1.box
      have S9 : w9.cell? ⟨g, 3, none⟩ = some (.slice p.pa i p.pc) := (five_of hx9).c3
      have f9 : ∀ o, w9.frozen? ⟨g, o, none⟩ = false := fun o => frozen_of_row _ _ o _ _ hx9
      have HN : Hid (DcS w (w9.setCell ⟨g, 3, none⟩ (.slice va (i + 1) vc)) rb g s ⟨va, vc, p.ha, p.hc⟩ (fun _ => (none, 0)) (i + 1) 0 (stP (d4 l).2 (i + 1))) := HG8.out.1.pushP HG8.out.2 hown hgrow
      refine hK.out _ _ (fun _ => S9) (fun _ => ?_)
      clear hK K hown hgrow hlo hx9 hq8 HG8 S7 S8 S0
      try simp only [Act.put, List.setIfInBounds_toArray, List.set_cons_zero, List.set_cons_succ]
      refine wpAnyK_take (by kernel_rfl) (i := 6) (oi := { dst := some 26, op := Go.Op.fieldAddr 28 (Go.Operand.tmp 5) 2, type := 0, pos := "state.go:183", after := #[{ on := 0, ground := Go.Ground.phase }, { on := 1, ground := Go.Ground.phase }, { on := 2, ground := Go.Ground.phase }, { on := 3, ground := Go.Ground.phase }, { on := 4, ground := Go.Ground.phase }, { on := 5, ground := Go.Ground.phase }], guard := none }) (v := ?_) rfl (by kernel_rfl) (by kernel_rfl) (by kernel_rfl) (fun _ _ _ h => h) (Or.inl ⟨by rfl, ?_⟩) (by assumption) ?_
      rotate_left
      · intro wz hSw; (try dsimp only at hSw); go_simp; (try with_reducible rfl)
      try simp only [Act.put, List.setIfInBounds_toArray, List.set_cons_zero, List.set_cons_succ]
      refine wpAnyK_ready (rs := [7]) (by kernel_rfl) (by simp) ?_
      refine (AllReadyK.cons (o := { dst := none, op := Go.Op.store 25 (Go.Operand.tmp 26) (Go.Operand.tmp 25), type := 0, pos := "state.go:183", after := #[{ on := 6, ground := Go.Ground.data }, { on := 5, ground := Go.Ground.data }, { on := 5, ground := Go.Ground.chain }, { on := 0, ground := Go.Ground.phase }, { on := 1, ground := Go.Ground.phase }, { on := 2, ground := Go.Ground.phase }, { on := 3, ground := Go.Ground.phase }, { on := 4, ground := Go.Ground.phase }, { on := 5, ground := Go.Ground.phase }], guard := none }) rfl (fun K hK => ?_) AllReadyK.nil)
      go_simp
      refine hK.out _ _ (fun h => absurd rfl h) (fun _ => ?_)
      clear hK K
      refine wpAnyK_done (by kernel_rfl) (NoPanic.normal ?_) _
      try simp only [Act.put, List.setIfInBounds_toArray, List.set_cons_zero, List.set_cons_succ]
      clear hHeld S9 f9
      go_wp2
      go_roundw
      case rel => exact ⟨i + 1, _, by omega, by go_num, HN.out⟩
      case measure => simp [intOf]; omega
    · have hin : i = s.pn := by omega
      have hnn : ¬ ((i : Int) < s.pn) := by omega
      have HG2 : Hid (DcS w wr rb g s p (fun _ => (none, 0)) s.pn 0 (stP (d4 l).2 s.pn)) := by rw [← hin]; exact HG.out
      clear HG hin
      generalize wr = wo at *
      go_wp2_with fail
      have k6 := count_rs rb 8 (stP (d4 l).2 s.pn) wo HG2.out.rs (by decide)
      have e5 : cntS 8 (stP (d4 l).2 s.pn) = d5 l := by rw [← EN.out.1]; rfl
      have h50 := (cntS_bd (most := 8) HG2.out.rs.by (by decide)).1
      rw [e5] at k6 h50
      rw [show (d5 l).1 = (s.hn : Int) by have := EN.out.2; omega] at k6
      refine k6.mono ?_
      rintro e w10 ⟨rfl, hF10, h10⟩
      have h20 : DcS w w10 rb g s p (fun _ => (none, 0)) s.pn 0 (d5 l).2 := HG2.out.frm hF10 h10
      clear k6 e5 h50 HG2 hF10 h10
      go_wp2_with fail
      go_loopw [30] (fun iv wr => ∃ (j : Nat) (p : Pl) (A : Nat → Option Addr × Nat), j ≤ s.hn ∧ iv = .int .i64 j ∧ DcS w wr rb g s p A s.pn j (stH (d5 l).2 j)) (fun iv _ => s.hn + 1 - (intOf iv).toNat)
      case atStart => exact ⟨0, p, _, by omega, rfl, h20⟩
      case round =>
        clear h20
        obtain ⟨j, p', A, hj, rfl, hG⟩ := hrel
        have HG : Hid (DcS w wr rb g s p' A s.pn j (stH (d5 l).2 j)) := hG
        have hbig' := hG.big
        clear hG
        by_cases hlt : j < s.hn
        · have hlt' : (j : Int) < s.hn := by omega
          have hGd : DcS w wr.drew rb g s p' A s.pn j (stH (d5 l).2 j) := HG.out.keep ((Below.refl _ wr).drew)
          have HGd : Hid (DcS w wr.drew rb g s p' A s.pn j (stH (d5 l).2 j)) := hGd
          obtain ⟨_, _, _, _, S0, _⟩ := five_of hGd.box
          obtain ⟨_, _, _, _, c4, _⟩ := five_of HG.out.box
          clear hGd
          go_wp2_with fail
          refine wp_region_noPanic ?_
          refine wp_region_K (S := fun w' => w'.cell? ⟨g, 4, none⟩ = some (.slice p'.ha j p'.hc)) 7 (by kernel_rfl) S0 (fun hHeld => ?_)
          clear HG c4
          generalize wr.drew = Wd at *
          refine wpAnyK_take (by kernel_rfl) (i := 0) (oi := { dst := some 32, op := Go.Op.fieldAddr 28 (Go.Operand.tmp 5) 3, type := 0, pos := "state.go:186", after := #[], guard := none }) (v := ?_) rfl (by kernel_rfl) (by kernel_rfl) (by kernel_rfl) (fun _ _ _ h => h) (Or.inl ⟨by rfl, ?_⟩) (by assumption) ?_
          rotate_left
          · intro wz hSw; (try dsimp only at hSw); go_simp; (try with_reducible rfl)
          try simp only [Act.put, List.setIfInBounds_toArray, List.set_cons_zero, List.set_cons_succ]
          refine wpAnyK_take (by kernel_rfl) (i := 1) (oi := { dst := some 33, op := Go.Op.load 26 (Go.Operand.tmp 32), type := 26, pos := "state.go:186", after := #[{ on := 0, ground := Go.Ground.data }], guard := none }) (v := ?_) rfl (by kernel_rfl) (by kernel_rfl) (by kernel_rfl) (fun _ _ _ h => h) (Or.inl ⟨by rfl, ?_⟩) (by assumption) ?_
          rotate_left
          · intro wz hSw; (try dsimp only at hSw); go_simp; (try with_reducible rfl)
          try simp only [Act.put, List.setIfInBounds_toArray, List.set_cons_zero, List.set_cons_succ]
          refine wpAnyK_take (by kernel_rfl) (i := 2) (oi := { dst := some 34, op := Go.Op.move (Go.Operand.tmp 4), type := 88, pos := "state.go:186", after := #[], guard := none }) (v := ?_) rfl (by kernel_rfl) (by kernel_rfl) (by kernel_rfl) (fun _ _ _ h => h) (Or.inl ⟨by rfl, ?_⟩) (by assumption) ?_
          rotate_left
          · intro wz hSw; (try dsimp only at hSw); go_simp; (try with_reducible rfl)
          try simp only [Act.put, List.setIfInBounds_toArray, List.set_cons_zero, List.set_cons_succ]
          refine wpAnyK_ready (rs := [3]) (by kernel_rfl) (by simp) ?_
          refine (AllReadyK.cons (o := { dst := some 35, op := Go.Op.call { callee := Go.Callee.value (Go.Operand.func 45), args := #[Go.Operand.tmp 34], argTypes := #[88] }, type := 48, pos := "state.go:186", after := #[{ on := 2, ground := Go.Ground.data }], guard := none }) rfl (fun K hK => ?_) AllReadyK.nil)
          go_simp
          have kp := rdHold_any rb (stH (d5 l).2 j) Wd HGd.out.rs
          rw [ENu.out.2.2.2.2 j] at kp
          refine kp.mono ?_
          rintro e w7 ⟨ka, kc, rfl, hF7, h7, ho7⟩
          clear kp
          have HG7 : Hid (DcS w w7 rb g s p' A s.pn j (stH (d5 l).2 (j + 1)) ∧ w7.ownsRow (g + 1) 3 1 (.slice ka (s.H j).n kc) (s.H j).n (kL (s.H j))) := ⟨HGd.out.frm hF7 h7, own_low ho7 HGd.out.big⟩
          clear hF7 h7 ho7 HGd
          have S7 : w7.cell? ⟨g, 4, none⟩ = some (.slice p'.ha j p'.hc) := (five_of HG7.out.1.box).c4
          refine hK.out _ _ (fun _ => S7) (fun _ => ?_)
          clear hK K
          try simp only [Act.put, List.setIfInBounds_toArray, List.set_cons_zero, List.set_cons_succ]
          refine wpAnyK_ready (rs := [4]) (by kernel_rfl) (by simp) ?_
          refine (AllReadyK.cons (o := { dst := some 36, op := Go.Op.buildSlice 26 1 #[(0, Go.Operand.tmp 35)], type := 26, pos := "state.go:186", after := #[{ on := 3, ground := Go.Ground.data }], guard := none }) rfl (fun K hK => ?_) AllReadyK.nil)
          refine step_sliceH rfl (.tmp 35) rfl (s.H j) ka kc (by rfl) ?_
          have hb8 : Below w7.heap.size w7 (w7.alloc (.cells (hdv (s.H j) ka kc) 48)) := (Below.refl _ _).alloc (Nat.le_refl _) _
          have hq8 : (w7.alloc (.cells (hdv (s.H j) ka kc) 48)).heap[w7.heap.size]? = some (.cells (hdv (s.H j) ka kc) 48 (0, 0)) := heap_alloc_new w7 _
          generalize w7.alloc (.cells (hdv (s.H j) ka kc) 48) = w8 at *
          have HG8 : Hid (DcS w w8 rb g s p' A s.pn j (stH (d5 l).2 (j + 1)) ∧ w8.ownsRow (g + 1) 3 1 (.slice ka (s.H j).n kc) (s.H j).n (kL (s.H j))) := ⟨HG7.out.1.keep hb8, own_below HG7.out.2 hb8⟩
          clear hb8 HG7
          have S8 : w8.cell? ⟨g, 4, none⟩ = some (.slice p'.ha j p'.hc) := (five_of HG8.out.1.box).c4
          refine hK.out _ _ (fun _ => S8) (fun _ => ?_)
          clear hK K
          try simp only [Act.put, List.setIfInBounds_toArray, List.set_cons_zero, List.set_cons_succ]
          refine wpAnyK_ready (rs := [5]) (by kernel_rfl) (by simp) ?_
          refine (AllReadyK.cons (o := { dst := some 37, op := Go.Op.call { callee := Go.Callee.builtin Go.Builtin.append, args := #[Go.Operand.tmp 33, Go.Operand.tmp 36], argTypes := #[26, 26] }, type := 26, pos := "state.go:186", after := #[{ on := 1, ground := Go.Ground.data }, { on := 4, ground := Go.Ground.data }, { on := 3, ground := Go.Ground.chain }], guard := none }) rfl (fun K hK => ?_) AllReadyK.nil)
          refine step_append_H rfl (.tmp 33) (.tmp 36) rfl (g + 1) w7.heap.size (.slice p'.ha j p'.hc) j (flatL (hf s.H A) j) (s.H j) ka kc (by rfl) (by rfl) HG8.out.1.hd HG8.out.1.big hq8 (by omega) ?_
          intro va vc w9 hown hgrow
          have hlo := grown_low HG8.out.1.hd hgrow HG8.out.1.big
          have hx9 : w9.heap[g]? = some (.cells #[.int .i64 s.nu, .int .i64 s.a, .int .i64 s.b, .slice p'.pa s.pn p'.pc, .slice p'.ha j p'.hc] 28 (0, 0)) := by rw [hlo _ (by omega)]; exact HG8.out.1.box
          have S9 : w9.cell? ⟨g, 4, none⟩ = some (.slice p'.ha j p'.hc) := (five_of hx9).c4
          have f9 : ∀ o, w9.frozen? ⟨g, o, none⟩ = false := fun o => frozen_of_row _ _ o _ _ hx9
          have HN : Hid (DcS w (w9.setCell ⟨g, 4, none⟩ (.slice va (j + 1) vc)) rb g s ⟨p'.pa, p'.pc, va, vc⟩ (fun k => if k = j then (ka, kc) else A k) s.pn (j + 1) (stH (d5 l).2 (j + 1))) := HG8.out.1.pushH HG8.out.2 hown hgrow
          refine hK.out _ _ (fun _ => S9) (fun _ => ?_)
          clear hK K hown hgrow hlo hx9 hq8 HG8 S7 S8 S0
          try simp only [Act.put, List.setIfInBounds_toArray, List.set_cons_zero, List.set_cons_succ]
          refine wpAnyK_take (by kernel_rfl) (i := 6) (oi := { dst := some 38, op := Go.Op.fieldAddr 28 (Go.Operand.tmp 5) 3, type := 0, pos := "state.go:186", after := #[{ on := 0, ground := Go.Ground.phase }, { on := 1, ground := Go.Ground.phase }, { on := 2, ground := Go.Ground.phase }, { on := 3, ground := Go.Ground.phase }, { on := 4, ground := Go.Ground.phase }, { on := 5, ground := Go.Ground.phase }], guard := none }) (v := ?_) rfl (by kernel_rfl) (by kernel_rfl) (by kernel_rfl) (fun _ _ _ h => h) (Or.inl ⟨by rfl, ?_⟩) (by assumption) ?_
          rotate_left
          · intro wz hSw; (try dsimp only at hSw); go_simp; (try with_reducible rfl)
          try simp only [Act.put, List.setIfInBounds_toArray, List.set_cons_zero, List.set_cons_succ]
          refine wpAnyK_ready (rs := [7]) (by kernel_rfl) (by simp) ?_
          refine (AllReadyK.cons (o := { dst := none, op := Go.Op.store 26 (Go.Operand.tmp 38) (Go.Operand.tmp 37), type := 0, pos := "state.go:186", after := #[{ on := 6, ground := Go.Ground.data }, { on := 5, ground := Go.Ground.data }, { on := 5, ground := Go.Ground.chain }, { on := 0, ground := Go.Ground.phase }, { on := 1, ground := Go.Ground.phase }, { on := 2, ground := Go.Ground.phase }, { on := 3, ground := Go.Ground.phase }, { on := 4, ground := Go.Ground.phase }, { on := 5, ground := Go.Ground.phase }], guard := none }) rfl (fun K hK => ?_) AllReadyK.nil)
          go_simp
          refine hK.out _ _ (fun h => absurd rfl h) (fun _ => ?_)
          clear hK K
          refine wpAnyK_done (by kernel_rfl) (NoPanic.normal ?_) _
          try simp only [Act.put, List.setIfInBounds_toArray, List.set_cons_zero, List.set_cons_succ]
          clear hHeld S9 f9
          go_wp2
          go_roundw
          case rel => exact ⟨j + 1, _, _, by omega, by go_num, HN.out⟩
          case measure => simp [intOf]; omega
        · have hin : j = s.hn := by omega
          have hnn' : ¬ ((j : Int) < s.hn) := by omega
          have hqe : stH (d5 l).2 s.hn = decQ l := by rw [← EN.out.2]; rfl
          have HG2 : Hid (DcS w wr rb g s p' A s.pn s.hn (decQ l)) := by rw [← hqe, ← hin]; exact HG.out
          clear HG hin hqe
          go_wp2_with fail
          refine (done_rs rb (decQ l) wr HG2.out.rs).mono ?_
          rintro e w11 ⟨⟨x, rfl, hx⟩, hW⟩
          rw [hW]
          clear hW
          obtain ⟨y0, y1, y2, y3, y4, yf⟩ := five_of HG2.out.res
          obtain ⟨x0, x1, x2, x3, x4, xf⟩ := five_of HG2.out.box
          have HSA : Hid (SvAt wr s p') := SvOw.at (B := g + 1) (A := A) ⟨HG2.out.lk, HG2.out.py, HG2.out.hd, HG2.out.ks⟩
          have HRS : Hid (wr.heap[w.heap.size]? = some (.cells #[.int .i64 0, .int .i64 0, .int .i64 0, .slice none 0 0, .slice none 0 0] 28 (0, 0)) ∧ Below w.heap.size w wr ∧ wr.heap[g]? = some (.cells #[.int .i64 s.nu, .int .i64 s.a, .int .i64 s.b, .slice p'.pa s.pn p'.pc, .slice p'.ha s.hn p'.hc] 28 (0, 0))) := ⟨HG2.out.res, HG2.out.below, HG2.out.box⟩
          by_cases hq : decQ l = some []
          · have hx0 : x = 0 := hx.1 hq
            subst hx0
            have he0 := errV_0
            clear hx
            go_wp2_with fail
            have kc := check_any s p' wr HSA.out HSM.out
            unfold svv at kc
            by_cases hok : SOk s
            · have hc0 : chkE s = 0 := if_pos hok
              rw [hc0, errV_0] at kc
              have HT : Hid (decT l = s ∧ decE l = 0) := by
                have hd : decOk l := ⟨hq, by rw [HE.out]; exact hok⟩
                exact ⟨by rw [decT, if_pos hd, HE.out], by rw [decE, if_pos hd]⟩
              refine kc.mono ?_
              rintro e w12 ⟨rfl, hb12⟩
              have hr12 : w12.heap[w.heap.size]? = some (.cells #[.int .i64 0, .int .i64 0, .int .i64 0, .slice none 0 0, .slice none 0 0] 28 (0, 0)) := by rw [hb12.block _ (lt_of_block HRS.out.1)]; exact HRS.out.1
              have hg12 : w12.heap[g]? = some (.cells #[.int .i64 s.nu, .int .i64 s.a, .int .i64 s.b, .slice p'.pa s.pn p'.pc, .slice p'.ha s.hn p'.hc] 28 (0, 0)) := by rw [hb12.block _ (lt_of_block HRS.out.2.2)]; exact HRS.out.2.2
              have HRZ : Hid (w12.heap[w.heap.size]? = some (.cells #[.int .i64 0, .int .i64 0, .int .i64 0, .slice none 0 0, .slice none 0 0] 28 (0, 0)) ∧ Below w.heap.size w w12 ∧ SvOw (g + 1) w12 s p' A) := ⟨hr12, HRS.out.2.1.trans (hb12.mono HRS.out.2.1.size), (⟨HG2.out.lk, HG2.out.py, HG2.out.hd, HG2.out.ks⟩ : SvOw (g + 1) wr s p' A).below hb12⟩
              clear y0 y1 y2 y3 y4 yf x0 x1 x2 x3 x4 xf kc hc0 hb12 HRS HSA hq hok he0
              obtain ⟨y0, y1, y2, y3, y4, yf⟩ := five_of hr12
              obtain ⟨x0, x1, x2, x3, x4, xf⟩ := five_of hg12
              clear hr12 hg12
              go_wp2
              have hw2 := HRZ.out.1
              refine bodyPost_ret (results_S2 Tryd.results17 _ _ w.heap.size 28 _ _ _ _ _ (0, 0) rfl (five_all hw2)) rfl ⟨p', ?_, ?_, five_below HRZ.out.2.1 (Nat.le_refl _)⟩
              · rw [HT.out.1, HT.out.2]; rfl
              · rw [HT.out.1]
                exact (HRZ.out.2.2.frm fun k h1 h2 => five_other (by omega)).at
            · have hc1 : chkE s = 1 := if_neg hok
              rw [hc1] at kc
              have he1 : errV 1 = .iface 72 (.int .i64 1) := rfl
              have HT : Hid (decT l = sv0 ∧ decE l = 3) := by
                have hd : ¬ decOk l := fun h => hok (by rw [← HE.out]; exact h.2)
                exact ⟨by rw [decT, if_neg hd], by rw [decE, if_neg hd]⟩
              rw [he1] at kc
              refine kc.mono ?_
              rintro e w12 ⟨rfl, hb12⟩
              have hr12 : w12.heap[w.heap.size]? = some (.cells #[.int .i64 0, .int .i64 0, .int .i64 0, .slice none 0 0, .slice none 0 0] 28 (0, 0)) := by rw [hb12.block _ (lt_of_block HRS.out.1)]; exact HRS.out.1
              have HRZ : Hid (w12.heap[w.heap.size]? = some (.cells #[.int .i64 0, .int .i64 0, .int .i64 0, .slice none 0 0, .slice none 0 0] 28 (0, 0)) ∧ Below w.heap.size w w12) := ⟨hr12, HRS.out.2.1.trans (hb12.mono HRS.out.2.1.size)⟩
              clear y0 y1 y2 y3 y4 yf x0 x1 x2 x3 x4 xf kc hc1 hb12 HRS HSA hq hok he0 he1
              obtain ⟨y0, y1, y2, y3, y4, yf⟩ := five_of hr12
              clear hr12
              go_wp2
              have hw2 := HRZ.out.1
              refine bodyPost_ret (results_S2 Tryd.results17 _ _ w.heap.size 28 _ _ _ _ _ (0, 0) rfl (five_all hw2)) rfl ⟨pl0, ?_, ?_, five_below HRZ.out.2 (Nat.le_refl _)⟩
              · rw [HT.out.1, HT.out.2]; rfl
              · rw [HT.out.1]; exact sv0_at _
          · have hx1 : x ≠ 0 := fun h => hq (hx.2 h)
            rw [errV_ne hx1]
            have HT : Hid (decT l = sv0 ∧ decE l = 3) := by
              have hd : ¬ decOk l := fun h => hq h.1
              exact ⟨by rw [decT, if_neg hd], by rw [decE, if_neg hd]⟩
            have HRZ : Hid (wr.heap[w.heap.size]? = some (.cells #[.int .i64 0, .int .i64 0, .int .i64 0, .slice none 0 0, .slice none 0 0] 28 (0, 0)) ∧ Below w.heap.size w wr) := ⟨HRS.out.1, HRS.out.2.1⟩
            clear hx hq hx1 HRS HSA x0 x1 x2 x3 x4 xf
            go_wp2
            have hw2 := HRZ.out.1
            refine bodyPost_ret (results_S2 Tryd.results17 _ _ w.heap.size 28 _ _ _ _ _ (0, 0) rfl (five_all hw2)) rfl ⟨pl0, ?_, ?_, five_below HRZ.out.2 (Nat.le_refl _)⟩
            · rw [HT.out.1, HT.out.2]; rfl
            · rw [HT.out.1]; exact sv0_at _
end Go.Proofs.YtnjkgpgbipcgcaaDoor
