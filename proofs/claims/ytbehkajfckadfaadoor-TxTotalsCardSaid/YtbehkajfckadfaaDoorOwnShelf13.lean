/- tx.Check. -/
import Derived.Test.YtbehkajfckadfaaDoorOwnShelf12
import Derived.Test.YtbehkajfckadfaaDoorOwnShelf11
import Derived.Maps.AppendAt
namespace Go.Proofs.YtbehkajfckadfaaDoor
open Go.RowKit

theorem kerrV_0 : errV 0 = .nilIface := rfl
theorem kerrV_ne {x : Int} (h : x ≠ 0) : errV x = .iface 62 (.int .i64 x) := if_neg h
/-- The first output's error that is none. -/
def outsE (O : Nat → To) : Nat → Int
  | 0 => 0
  | i + 1 => if outsE O i = 0 then outE (O i) else outsE O i
theorem outsE_stop {O : Nat → To} {i : Nat} (h : outsE O i ≠ 0) : ∀ n, i ≤ n → outsE O n = outsE O i
  | 0, hn => by obtain rfl : i = 0 := (by omega); rfl
  | n + 1, hn => by
    by_cases e : i = n + 1
    · subst e; rfl
    · have ih := outsE_stop h n (by omega)
      rw [outsE, ih, if_neg h]
/-- The numbers that a transaction's counts may be. -/
def NumOk (lk : Int) (n m : Nat) : Prop := (0 ≤ lk ∧ lk ≤ 1099511627776) ∧ (1 ≤ n ∧ n ≤ 64) ∧ (1 ≤ m ∧ m ≤ 64)
instance (lk : Int) (n m : Nat) : Decidable (NumOk lk n m) := inferInstanceAs (Decidable (_ ∧ _))
/-- A transaction's error. -/
def txE (lk : Int) (n : Nat) (X : Nat → Ti) (m : Nat) (O : Nat → To) : Int :=
  if ¬ NumOk lk n m then 4 else if ¬ InsOk X n then 4 else if ¬ Apart X n then 9 else if outsE O m ≠ 0 then outsE O m else totE O m
def txl (lk : Int) (ia : Option Addr) (n ic : Nat) (oa : Option Addr) (m oc : Nat) : List Value := [.int .i64 lk, .slice ia n ic, .slice oa m oc]
theorem txl_range {w : World} {g : Nat} {lk : Int} {ia : Option Addr} {n ic : Nat} {oa : Option Addr} {m oc : Nat} {t : TypeId} {fr : Nat × Nat} (h : w.heap[g]? = some (.cells #[.int .i64 lk, .slice ia n ic, .slice oa m oc] t fr)) : w.rangeAt g 0 (txl lk ia n ic oa m oc) := fun j v hv => by
  rw [Nat.zero_add, cell_of_row _ _ j _ _ _ h]
  simpa [txl] using hv
theorem szTx : (Tryd.prog.info? 27).map (·.size) = some 3 := by kernel_rfl
set_option maxRecDepth 100000 in
set_option maxHeartbeats 3200000 in
theorem kcheck_any (lk : Int) (ia : Option Addr) (n ic : Nat) (oa : Option Addr) (m oc : Nat) (X : Nat → Ti) (S : Nat → Option Addr × Nat) (O : Nat → To) (w : World) (h : TiAt w ia n X S) (ho : ToAt w oa m O) (hs : ∀ i, i < m → (O i).Small) (hn : n ≤ 1000000) (hm : m ≤ 1000000) :
    Calls Tryd.prog 9 #[.agg (txv lk ia n ic oa m oc)] w fun e w' => e = .returned (errV (txE lk n X m O)) ∧ Below w.heap.size w w' := by
  have hb0 : Below w.heap.size w (w.alloc (.cells #[.int .i64 lk, .slice ia n ic, .slice oa m oc] 27)) := (Below.refl _ w).alloc (Nat.le_refl _) _
  have hr0 := heap_alloc_new w (.cells #[.int .i64 lk, .slice ia n ic, .slice oa m oc] 27)
  have HH : Hid (TiAt w ia n X S ∧ ToAt w oa m O ∧ ∀ i, i < m → (O i).Small) := ⟨h, ho, hs⟩
  clear h ho hs
  unfold txv
  by_cases hN : NumOk lk n m
  · obtain ⟨hl, hnn, hmm⟩ := hN
    have HN : Hid (NumOk lk n m) := ⟨hl, hnn, hmm⟩
    have d1 : decide (0 ≤ lk ∧ lk ≤ 1099511627776) = true := by simpa using hl
    have d2 : decide ((1 : Int) ≤ (n : Int) ∧ (n : Int) ≤ 64) = true := by simp; omega
    have d3 : decide ((1 : Int) ≤ (m : Int) ∧ (m : Int) ≤ 64) = true := by simp; omega
    go_enter Tryd.func9, Tryd.ntmps9
    go_wp2_with fail
    generalize w.alloc (.cells #[.int .i64 lk, .slice ia n ic, .slice oa m oc] 27) = W0 at *
    have c1 : W0.cell? ⟨w.heap.size, 1, none⟩ = some (.slice ia n ic) := by rw [cell_of_row _ _ 1 _ _ _ hr0]; rfl
    have c2 : W0.cell? ⟨w.heap.size, 2, none⟩ = some (.slice oa m oc) := by rw [cell_of_row _ _ 2 _ _ _ hr0]; rfl
    refine (kwithin_any lk 0 1099511627776 _).mono ?_
    rintro e w1 ⟨rfl, hW⟩
    rw [hW, d1]
    clear hW
    go_wp2_with fail
    refine (kwithin_any n 1 64 _).mono ?_
    rintro e w1 ⟨rfl, hW⟩
    rw [hW, d2]
    clear hW
    go_wp2_with fail
    refine (kwithin_any m 1 64 _).mono ?_
    rintro e w1 ⟨rfl, hW⟩
    rw [hW, d3]
    clear hW d1 d2 d3 hl hnn hmm
    go_wp2_with fail
    refine (kcontains_any ia n ic X S W0 (HH.out.1.below hb0) hn).mono ?_
    rintro e w2 ⟨rfl, hb2⟩
    by_cases hI : InsOk X n
    · have d4 : (!decide (InsOk X n)) = false := by simpa using hI
      rw [d4]
      clear d4
      have HI : Hid (InsOk X n) := hI
      clear hI
      have HB2 : Hid (Below w.heap.size w w2) := hb0.trans (hb2.mono hb0.size)
      have hr2 : w2.heap[w.heap.size]? = some (.cells #[.int .i64 lk, .slice ia n ic, .slice oa m oc] 27 (0, 0)) := by rw [hb2.block _ (lt_of_block hr0)]; exact hr0
      have HR2 : Hid (∀ w', Below w2.heap.size w2 w' → w'.heap[w.heap.size]? = some (.cells #[.int .i64 lk, .slice ia n ic, .slice oa m oc] 27 (0, 0))) := fun w' hb => by rw [hb.block _ (lt_of_block hr2)]; exact hr2
      clear hb2 hr2 hr0 hb0 c1 c2
      go_wp2_with fail
      have HS : Hid (∀ w', Below w2.heap.size w2 w' → w'.rangeAt w.heap.size 0 (txl lk ia n ic oa m oc) ∧ w'.cell? ⟨w.heap.size, 1, none⟩ = some (.slice ia n ic)) := fun w' hb => ⟨txl_range (HR2.out w' hb), by rw [cell_of_row _ _ 1 _ _ _ (HR2.out w' hb)]; rfl⟩
      have S0 := HS.out w2.drew (Below.refl _ w2).drew
      refine wp_region_noPanic ?_
      refine wp_region_held_drew (S := fun w' => w'.rangeAt w.heap.size 0 (txl lk ia n ic oa m oc) ∧ w'.cell? ⟨w.heap.size, 1, none⟩ = some (.slice ia n ic)) (by kernel_rfl) S0 (fun hHeld => ?_)
      refine wpAnyH_take (i := 0) (oi := { dst := some 32, op := Go.Op.load 27 (Go.Operand.tmp 1), type := 27, pos := "tx.go:54", after := #[], guard := none }) rfl (by kernel_rfl) (by kernel_rfl) (by kernel_rfl) (fun _ _ _ h => h) (yieldsIf_load_mid (by rfl) _ _ rfl w.heap.size 0 rfl (txl lk ia n ic oa m oc) _ (fun _ h => h.1) Tryd.underlying27 rfl szTx) (by assumption) ?_
      try simp only [Act.put, List.setIfInBounds_toArray, List.set_cons_zero, List.set_cons_succ]
      refine wpAnyH_take (i := 3) (oi := { dst := some 35, op := Go.Op.fieldAddr 27 (Go.Operand.tmp 1) 1, type := 0, pos := "tx.go:54", after := #[], guard := none }) (v := ?_) rfl (by kernel_rfl) (by kernel_rfl) (by kernel_rfl) (fun _ _ _ h => h) (Or.inl ⟨by rfl, ?_⟩) (by assumption) ?_
      rotate_left
      · intro wz hSw; (try dsimp only at hSw); go_simp; (try with_reducible rfl)
      try simp only [Act.put, List.setIfInBounds_toArray, List.set_cons_zero, List.set_cons_succ]
      refine wpAnyH_take (i := 4) (oi := { dst := some 36, op := Go.Op.load 24 (Go.Operand.tmp 35), type := 24, pos := "tx.go:54", after := #[{ on := 3, ground := Go.Ground.data }], guard := none }) (v := ?_) rfl (by kernel_rfl) (by kernel_rfl) (by kernel_rfl) (fun _ _ _ h => h) (Or.inl ⟨by rfl, ?_⟩) (by assumption) ?_
      rotate_left
      · intro wz hSw; (try dsimp only at hSw); go_simp; (try with_reducible rfl)
      try simp only [Act.put, List.setIfInBounds_toArray, List.set_cons_zero, List.set_cons_succ]
      refine wpAnyH_take (i := 5) (oi := { dst := some 37, op := Go.Op.call { callee := Go.Callee.builtin Go.Builtin.len, args := #[Go.Operand.tmp 36], argTypes := #[24] }, type := 3, pos := "tx.go:54", after := #[{ on := 4, ground := Go.Ground.data }], guard := none }) (v := ?_) rfl (by kernel_rfl) (by kernel_rfl) (by kernel_rfl) (fun _ _ _ h => h) (Or.inl ⟨by rfl, ?_⟩) (by assumption) ?_
      rotate_left
      · intro wz hSw; (try dsimp only at hSw); go_simp; (try with_reducible rfl)
      try simp only [Act.put, List.setIfInBounds_toArray, List.set_cons_zero, List.set_cons_succ]
      refine wpAnyH_ready (rs := [1]) (by kernel_rfl) (by simp) ?_
      refine (AllReadyH.cons (o := { dst := some 33, op := Go.Op.call { callee := Go.Callee.value (Go.Operand.func 20), args := #[Go.Operand.tmp 32], argTypes := #[27] }, type := 71, pos := "tx.go:54", after := #[{ on := 0, ground := Go.Ground.data }], guard := none }) rfl (fun K hK => ?_) AllReadyH.nil)
      go_simp
      refine (points_any lk ia n ic oa m oc X S w2.drew (HH.out.1.below HB2.out.drew) (fun i hi => by have := (HI.out i hi).1; exact ⟨by omega, by omega⟩) hn).mono ?_
      rintro e w3 ⟨⟨pb, rfl, hpm⟩, hb3⟩
      have HB3 : Hid (Below w2.heap.size w2 w3) := (Below.refl _ w2).drew.trans hb3
      clear hb3
      obtain ⟨D, kk, hD, hDs⟩ := hpm
      have hlen : ∀ ty, (Builtin.len_ #[71] ty #[.map (some pb)]).run Tryd.prog w3 = .ok (.int .i64 ((ptsL X n).length : Nat)) w3 := fun ty => by rw [← hDs]; exact hD.len (t := 71) (e := 93) Tryd.underlying71 ty
      clear hD hDs
      refine hK.out _ _ (HS.out w3 HB3.out) (fun _ => ?_)
      clear hK K
      refine wpAnyH_ready (rs := [2]) (by kernel_rfl) (by simp) ?_
      refine (AllReadyH.cons (o := { dst := some 34, op := Go.Op.call { callee := Go.Callee.builtin Go.Builtin.len, args := #[Go.Operand.tmp 33], argTypes := #[71] }, type := 3, pos := "tx.go:54", after := #[{ on := 1, ground := Go.Ground.data }, { on := 1, ground := Go.Ground.chain }], guard := none }) rfl (fun K hK => ?_) AllReadyH.nil)
      go_simp
      refine hK.out _ _ (HS.out w3 HB3.out) (fun _ => ?_)
      clear hK K hlen
      try simp only [Act.put, List.setIfInBounds_toArray, List.set_cons_zero, List.set_cons_succ]
      refine wpAnyH_take (i := 6) (oi := { dst := some 38, op := Go.Op.binOp Go.BinOp.lss 3 (Go.Operand.tmp 34) (Go.Operand.tmp 37) 3, type := 4, pos := "tx.go:54", after := #[{ on := 2, ground := Go.Ground.data }, { on := 5, ground := Go.Ground.data }], guard := none }) (v := ?_) rfl (by kernel_rfl) (by kernel_rfl) (by kernel_rfl) (fun _ _ _ h => h) (Or.inl ⟨by rfl, ?_⟩) (by assumption) ?_
      rotate_left
      · intro wz hSw; (try dsimp only at hSw); go_simp; (try with_reducible rfl)
      try simp only [Act.put, List.setIfInBounds_toArray, List.set_cons_zero, List.set_cons_succ]
      refine wpAnyH_take (i := 7) (oi := { dst := some 31, op := Go.Op.assign (Go.Operand.tmp 38), type := 4, pos := "tx.go:54", after := #[{ on := 6, ground := Go.Ground.data }, { on := 2, ground := Go.Ground.chain }], guard := none }) (v := ?_) rfl (by kernel_rfl) (by kernel_rfl) (by kernel_rfl) (fun _ _ _ h => h) (Or.inl ⟨by rfl, ?_⟩) (by assumption) ?_
      rotate_left
      · intro wz hSw; (try dsimp only at hSw); go_simp; (try with_reducible rfl)
      try simp only [Act.put, List.setIfInBounds_toArray, List.set_cons_zero, List.set_cons_succ]
      refine wpAnyH_done (by kernel_rfl) (NoPanic.normal ?_) _
      try simp only [Act.put, List.setIfInBounds_toArray, List.set_cons_zero, List.set_cons_succ]
      clear hHeld S0
      by_cases hA : Apart X n
      · have hl : (ptsL X n).length = n := (ptsL_full X n).2 hA
        have hl' : decide ((ptsL X n).length < n) = false := by simp; omega
        rw [hl']
        clear hl'
        have HE : Hid (txE lk n X m O = if outsE O m ≠ 0 then outsE O m else totE O m) := by unfold txE; rw [if_neg (by simpa using HN.out), if_neg (by simpa using HI.out), if_neg (by simpa using hA)]; exact rfl
        have hb3 : Below w.heap.size w w3 := HB2.out.trans (HB3.out.mono HB2.out.size)
        have hr3 := HR2.out w3 HB3.out
        have c2 : w3.cell? ⟨w.heap.size, 2, none⟩ = some (.slice oa m oc) := by rw [cell_of_row _ _ 2 _ _ _ hr3]; rfl
        clear hA hl HS HB3 HB2 HR2 HI HN
        go_wp2
        clear c2
        go_loopw [2, 5, 6, 43] (fun _ _ _ iv wr => ∃ i : Nat, i ≤ m ∧ iv = .int .i64 i ∧ outsE O i = 0 ∧ Below w.heap.size w wr ∧ wr.heap[w.heap.size]? = some (.cells #[.int .i64 lk, .slice ia n ic, .slice oa m oc] 27 (0, 0))) (fun _ _ _ iv _ => m + 1 - (intOf iv).toNat)
        case atStart => exact ⟨0, by omega, rfl, rfl, hb3, hr3⟩
        case round =>
          clear hb3 hr3
          obtain ⟨i, hi, rfl, hz, hb, hr⟩ := hrel
          have HZ : Hid (outsE O i = 0) := hz
          clear hz
          by_cases hlt : i < m
          · have hlt' : (i : Int) < m := by omega
            obtain ⟨b, off, rfl, hc⟩ := HH.out.2.1.at_ (by omega)
            obtain ⟨ca, cc, hr0, hbr, _⟩ := hc i hlt
            have hr1 := range_below hr0 hb
            have c0 : wr.cell? ⟨b, off + i * 2, none⟩ = some (.int .i64 (O i).am) := by simpa using hr1 0 _ rfl
            have c1 : wr.cell? ⟨b, off + i * 2 + 1, none⟩ = some (.slice ca (O i).cn cc) := hr1 1 _ rfl
            have hb1 : Below w.heap.size w (wr.alloc (.cells #[.int .i64 (O i).am, .slice ca (O i).cn cc] 36)) := hb.alloc hb.size _
            have hk := checkOut_any (O i) ca cc (wr.alloc (.cells #[.int .i64 (O i).am, .slice ca (O i).cn cc] 36)) (hbr.below hb1) (HH.out.2.2 i hlt)
            have hrA : (wr.alloc (.cells #[.int .i64 (O i).am, .slice ca (O i).cn cc] 36)).heap[w.heap.size]? = some (.cells #[.int .i64 lk, .slice ia n ic, .slice (some ⟨b, off, none⟩) m oc] 27 (0, 0)) := by rw [Below.heap_alloc _ _ _ (lt_of_block hr)]; exact hr
            unfold tov at hk
            clear hc hr0 hbr hr1
            by_cases hq : outE (O i) = 0
            · rw [hq, kerrV_0] at hk
              have HN : Hid (outsE O (i + 1) = 0) := by rw [outsE, if_pos HZ.out]; exact hq
              clear hq
              go_wp2_with fail
              generalize wr.alloc (.cells #[.int .i64 (O i).am, .slice ca (O i).cn cc] 36) = q1 at *
              refine hk.mono ?_
              rintro e q2 ⟨rfl, hb2⟩
              have hrB : q2.heap[w.heap.size]? = some (.cells #[.int .i64 lk, .slice ia n ic, .slice (some ⟨b, off, none⟩) m oc] 27 (0, 0)) := by rw [hb2.block _ (lt_of_block hrA)]; exact hrA
              have hbB : Below w.heap.size w q2 := hb1.trans (hb2.mono hb1.size)
              clear hk hrA hb1 hb2 c0 c1 hr hb
              go_wp2
              go_roundw
              case rel => exact ⟨i + 1, by omega, by go_num, HN.out, hbB, hrB⟩
              case measure => simp [intOf]; omega
            · rw [kerrV_ne hq] at hk
              have HE2 : Hid (errV (txE lk n X m O) = .iface 62 (.int .i64 (outE (O i)))) := by
                have e1 : outsE O (i + 1) = outE (O i) := by rw [outsE, if_pos HZ.out]
                have e2 : outsE O m = outE (O i) := by rw [← e1]; exact outsE_stop (by rw [e1]; exact hq) m (by omega)
                rw [HE.out, e2, if_pos hq, kerrV_ne hq]; exact rfl
              clear hq
              go_wp2_with fail
              generalize wr.alloc (.cells #[.int .i64 (O i).am, .slice ca (O i).cn cc] 36) = q1 at *
              refine hk.mono ?_
              rintro e q2 ⟨rfl, hb2⟩
              have hbB : Below w.heap.size w q2 := hb1.trans (hb2.mono hb1.size)
              clear hk hrA hb1 hb2 c0 c1 hr hb
              go_wp2
              go_ret
              exact ⟨by rw [HE2.out]; rfl, hbB⟩
          · obtain rfl : i = m := by omega
            have hnn : ¬ ((i : Int) < i) := by omega
            have HE3 : Hid (txE lk n X i O = totE O i) := by rw [HE.out, if_neg (by simpa using HZ.out)]; exact rfl
            have hk := ktotal_any lk ia n ic oa i oc O wr (HH.out.2.1.below hb) hm
            unfold txv at hk
            obtain ⟨c0, c1, c2⟩ : wr.cell? ⟨w.heap.size, 0, none⟩ = some (.int .i64 lk) ∧ wr.cell? ⟨w.heap.size, 1, none⟩ = some (.slice ia n ic) ∧ wr.cell? ⟨w.heap.size, 2, none⟩ = some (.slice oa i oc) := ⟨by rw [cell_of_row _ _ 0 _ _ _ hr]; rfl, by rw [cell_of_row _ _ 1 _ _ _ hr]; rfl, by rw [cell_of_row _ _ 2 _ _ _ hr]; rfl⟩
            go_wp2_with fail
            refine hk.mono ?_
            rintro e q2 ⟨rfl, hb2⟩
            have hbB : Below w.heap.size w q2 := hb.trans (hb2.mono hb.size)
            clear hk c0 c1 c2 hr hb hb2
            go_wp2
            go_ret
            exact ⟨by rw [HE3.out]; rfl, hbB⟩
      · have hl' : ((ptsL X n).length : Int) < (n : Int) := by have h1 := ptsL_le X n; have h2 : (ptsL X n).length ≠ n := fun h => hA ((ptsL_full X n).1 h); omega
        have HE : Hid (txE lk n X m O = 9) := by unfold txE; rw [if_neg (by simpa using HN.out), if_neg (by simpa using HI.out), if_pos hA]; exact rfl
        have HBE : Hid (Below w.heap.size w w3) := HB2.out.trans (HB3.out.mono HB2.out.size)
        clear hA
        go_wp2
        go_ret
        exact ⟨by rw [HE.out]; rfl, HBE.out⟩
    · have d4 : (!decide (InsOk X n)) = true := by simpa using hI
      rw [d4]
      have HE : Hid (txE lk n X m O = 4) := by unfold txE; rw [if_neg (by simpa using HN.out), if_pos hI]; exact rfl
      have HBE : Hid (Below w.heap.size w w2) := hb0.trans (hb2.mono hb0.size)
      clear d4 hI hr0 hb2 c1 c2 hb0
      go_wp2
      go_ret
      exact ⟨by rw [HE.out]; rfl, HBE.out⟩
  · have HE : Hid (txE lk n X m O = 4) := if_pos hN
    by_cases h1 : 0 ≤ lk ∧ lk ≤ 1099511627776
    · have d1 : decide (0 ≤ lk ∧ lk ≤ 1099511627776) = true := by simpa using h1
      by_cases h2 : 1 ≤ n ∧ n ≤ 64
      · have d2 : decide ((1 : Int) ≤ (n : Int) ∧ (n : Int) ≤ 64) = true := by simp; omega
        have d3 : decide ((1 : Int) ≤ (m : Int) ∧ (m : Int) ≤ 64) = false := by
          have : ¬ (1 ≤ m ∧ m ≤ 64) := fun h => hN ⟨h1, h2, h⟩
          rw [decide_eq_false_iff_not]; omega
        clear hN h1 h2
        go_enter Tryd.func9, Tryd.ntmps9
        go_wp2_with fail
        generalize w.alloc (.cells #[.int .i64 lk, .slice ia n ic, .slice oa m oc] 27) = W0 at *
        have c1 : W0.cell? ⟨w.heap.size, 1, none⟩ = some (.slice ia n ic) := by rw [cell_of_row _ _ 1 _ _ _ hr0]; rfl
        have c2 : W0.cell? ⟨w.heap.size, 2, none⟩ = some (.slice oa m oc) := by rw [cell_of_row _ _ 2 _ _ _ hr0]; rfl
        refine (kwithin_any lk 0 1099511627776 _).mono ?_
        rintro e w1 ⟨rfl, hW⟩
        rw [hW, d1]
        clear hW
        go_wp2_with fail
        refine (kwithin_any n 1 64 _).mono ?_
        rintro e w1 ⟨rfl, hW⟩
        rw [hW, d2]
        clear hW
        go_wp2_with fail
        refine (kwithin_any m 1 64 _).mono ?_
        rintro e w1 ⟨rfl, hW⟩
        rw [hW, d3]
        clear hW
        go_wp2
        go_ret
        exact ⟨by rw [HE.out]; rfl, hb0⟩
      · have d2 : decide ((1 : Int) ≤ (n : Int) ∧ (n : Int) ≤ 64) = false := by rw [decide_eq_false_iff_not]; omega
        clear hN h1 h2
        go_enter Tryd.func9, Tryd.ntmps9
        go_wp2_with fail
        generalize w.alloc (.cells #[.int .i64 lk, .slice ia n ic, .slice oa m oc] 27) = W0 at *
        have c1 : W0.cell? ⟨w.heap.size, 1, none⟩ = some (.slice ia n ic) := by rw [cell_of_row _ _ 1 _ _ _ hr0]; rfl
        refine (kwithin_any lk 0 1099511627776 _).mono ?_
        rintro e w1 ⟨rfl, hW⟩
        rw [hW, d1]
        clear hW
        go_wp2_with fail
        refine (kwithin_any n 1 64 _).mono ?_
        rintro e w1 ⟨rfl, hW⟩
        rw [hW, d2]
        clear hW
        go_wp2
        go_ret
        exact ⟨by rw [HE.out]; rfl, hb0⟩
    · have d1 : decide (0 ≤ lk ∧ lk ≤ 1099511627776) = false := by simpa using h1
      clear hN h1
      go_enter Tryd.func9, Tryd.ntmps9
      go_wp2_with fail
      refine (kwithin_any lk 0 1099511627776 _).mono ?_
      rintro e w1 ⟨rfl, hW⟩
      rw [hW, d1]
      clear hW
      go_wp2
      go_ret
      exact ⟨by rw [HE.out]; rfl, hb0⟩
end Go.Proofs.YtbehkajfckadfaaDoor
/- The document's Check. -/
namespace Go.Proofs.YtbehkajfckadfaaDoor.Cd
open Go.RowKit

/-- A branch of noughts. -/
def b0 : Bv := ⟨0, fun _ => 0, fun _ => 0, 0, 0⟩
theorem run_allocR (w : World) : (Instr.alloc 190 true (.tuple #[])).run Tryd.prog w = .ok (.pointer (some ⟨w.heap.size, 0, none⟩)) (w.alloc (.cells (bv b0 none 0) 190)) := by kernel_rfl
section
variable {ops : Array Oper} {rest : List Oper} {o : Oper} {a : Act} {w : World} {Q : Exit → Act → World → Prop}
theorem wpList_allocR (hgd : o.guard = none) (ho : o.op = .alloc 190)
    (h : wpList Tryd.prog ops Q rest (a.put o.dst (.pointer (some ⟨w.heap.size, 0, none⟩))) (w.alloc (.cells (bv b0 none 0) 190))) : wpList Tryd.prog ops Q (o :: rest) a w := by
  refine wpList_plain hgd fun K hK => ?_
  unfold Oper.wp execOp
  simp only [ho, Sem.run_bind, run_allocR, Result.andThen]
  exact hK _ _ h
/-- A whole branch stored into a variable of its own. -/
theorem wpList_storeR (T : TypeId) (hT : (Tryd.prog.info? T).map (·.size) = some 35) (hgd : o.guard = none) (x y : Operand) (ho : o.op = .store T x y) (g : Nat) (hx : a.eval x = .pointer (some ⟨g, 0, none⟩)) (v u : Bv) (ka ua : Option Addr) (kc uc : Nat) (t : TypeId) (hy : a.eval y = .agg (bv v ka kc)) (hg : w.heap[g]? = some (.cells (bv u ua uc) t (0, 0)))
    (h : ∀ w', w'.heap[g]? = some (.cells (bv v ka kc) t (0, 0)) → Frm [g] w w' → wpList Tryd.prog ops Q rest (a.put o.dst undef) w') : wpList Tryd.prog ops Q (o :: rest) a w := by
  refine wpList_store_mid hgd T x y ho g 0 (bv v ka kc) hx hy ?_ (by rw [bv_size]; exact hT) (bv_one v ka kc) (h _ ?_ (setCells_frm g _ 0 w))
  · intro j hj
    rw [bv_size] at hj
    refine ⟨?_, ?_⟩
    · rw [Nat.zero_add, cell_of_row w g j _ t _ hg]
      simp [bv_size, hj]
    · rw [Nat.zero_add]; exact frozen_of_row w g j _ t hg
  · have := setCells_at g (bv v ka kc).toList 0 w [] (bv u ua uc).toList t (by simpa using hg) rfl (by simp [bv_size])
    rw [this]
    simp [bv_size, List.drop_eq_nil_of_le]
end
theorem BBox.below {w w' : World} {g : Nat} {x : Bv} {ka : Option Addr} {kc : Nat} (h : BBox w g x ka kc) (hb : Below w.heap.size w w') : BBox w' g x ka kc := by
  have hl : g < w.heap.size := World.block_lt_of_cell? w ⟨g, 0, none⟩ h.c0
  exact ⟨by rw [hb.cell (p := ⟨g, 0, none⟩) hl]; exact h.c0, by rw [hb.cell (p := ⟨g, 33, none⟩) hl]; exact h.c33, by rw [hb.cell (p := ⟨g, 34, none⟩) hl]; exact h.c34⟩

end Go.Proofs.YtbehkajfckadfaaDoor.Cd
/- give: a condition as the program's. -/
namespace Go.Proofs.YtbehkajfckadfaaDoor.Cd
open Go.RowKit

/-- Ints appended to nothing. -/
theorem append_keys (w : World) (ty : TypeId) (ka : Option Addr) (n kc : Nat) (z : Nat → Int) (h : IsAt w ka n z) (hn : n ≤ 1000000) :
    ∃ ka' kc' w1, (Builtin.append_ #[22, 22] ty #[.slice none 0 0, .slice ka n kc]).run Tryd.prog w = .ok (.slice ka' n kc') w1 ∧ IsAt w1 ka' n z ∧ Below w.heap.size w w1 ∧ (∀ a, ka' = some a → w.heap.size ≤ a.block ∧ a.block < w1.heap.size) := by
  obtain ⟨i0, hi0, hz0, hz1, hz2⟩ := info_parts infoI
  have own (a : Addr) (hc : ∀ j u, ((List.range n).map fun j => Value.int .i64 (z j))[j]? = some u → w.cell? (a.add j) = some u) := run_append_own_at (P := Tryd.prog) w w.heap.size 22 ty 3 i0 (.int .i64 0) 1 8 Tryd.underlying22 hi0 hz0 hz1 hz2 rfl (by decide) (.slice none 0 0) 0 [] (World.ownsRow_nil _ _ _ _) a n kc ((List.range n).map fun j => Value.int .i64 (z j)) (by simp) hc
      (fun u hu => by obtain ⟨y, _, rfl⟩ := List.mem_map.1 hu; rfl) (by simp only [maxLen]; omega) (by omega) (Nat.le_refl _)
  rcases Nat.eq_zero_or_pos n with h0 | hpos
  · subst h0
    cases ka with
    | none =>
      refine ⟨none, 0, w, ?_, fun h => by omega, Below.refl _ _, fun a h => by cases h⟩
      simp [Builtin.append_, run_underlying Tryd.underlying22, sizeOf, typeInfo, hi0, Builtin.lenOf, Builtin.firstCells]
    | some a =>
      obtain ⟨v', w1, hr, h2, h3, h4, _⟩ := own a (fun j u hu => by simp at hu)
      obtain rfl := h4.2 ⟨rfl, rfl⟩
      exact ⟨none, 0, w1, hr, fun h => by omega, ⟨h3.os, h3.tape, h3.output, h3.size, fun k hk => h3.block k hk (by simp [Value.ownBlock])⟩, fun a h => by cases h⟩
  · obtain ⟨b, off, rfl, hc⟩ := h hpos
    obtain ⟨v', w1, hr, h2, h3, h4, _⟩ := own ⟨b, off, none⟩ (fun j u hu => by
      simp only [List.getElem?_map, Option.map_eq_some_iff] at hu
      obtain ⟨q, h1, rfl⟩ := hu
      obtain ⟨h3, h4⟩ := List.getElem?_eq_some_iff.1 h1
      simp at h3 h4
      subst h4
      rw [Addr.add_lit]; exact hc _ h3)
    have hb : Below w.heap.size w w1 := ⟨h3.os, h3.tape, h3.output, h3.size, fun k hk => h3.block k hk (by simp [Value.ownBlock])⟩
    have hown := h2
    rw [Nat.zero_add, List.nil_append] at hown
    rcases hown.2 with ⟨rfl, e⟩ | ⟨g, cap, cur, rfl, hg, hgc, hcap, _, hcs, htk⟩
    · omega
    · refine ⟨_, cap, w1, hr, fun _ => ⟨g, 0, rfl, fun j hj => ?_⟩, hb, fun a e => ?_⟩
      · have := hown.cells (g := g) rfl j (.int .i64 (z j)) (by simp [hj])
        rwa [Addr.add_lit] at this
      · cases e; exact ⟨hg, lt_of_block hgc⟩

theorem run_allocB (w : World) : (Instr.alloc 68 true (.tuple #[])).run Tryd.prog w = .ok (.pointer (some ⟨w.heap.size, 0, none⟩)) (w.alloc (.cells (bv b0 none 0) 68)) := by kernel_rfl
theorem slice_b (x : Bv) (ka : Option Addr) (kc : Nat) (w : World) : (Instr.buildSlice 32 1 #[(0, .agg (bv x ka kc))]).run Tryd.prog w = .ok (.slice (some ⟨w.heap.size, 0, none⟩) 1 1) (w.alloc (.cells (bv x ka kc) 68)) := by kernel_rfl
theorem infoB : (Tryd.prog.info? 68).map (fun i => (i.zero, i.size, i.bytes)) = some (some (.agg (bv b0 none 0)), 35, 72) := by kernel_rfl
section
variable {ops : Array Oper} {rest : List Oper} {o : Oper} {a : Act} {w : World} {Q : Exit → Act → World → Prop}
theorem wpList_allocB (hgd : o.guard = none) (ho : o.op = .alloc 68)
    (h : wpList Tryd.prog ops Q rest (a.put o.dst (.pointer (some ⟨w.heap.size, 0, none⟩))) (w.alloc (.cells (bv b0 none 0) 68))) : wpList Tryd.prog ops Q (o :: rest) a w := by
  refine wpList_plain hgd fun K hK => ?_
  unfold Oper.wp execOp
  simp only [ho, Sem.run_bind, run_allocB, Result.andThen]
  exact hK _ _ h
theorem wpList_sliceB (hgd : o.guard = none) (x : Operand) (ho : o.op = .buildSlice 32 1 #[(0, x)]) (v : Bv) (ka : Option Addr) (kc : Nat) (hx : a.eval x = .agg (bv v ka kc))
    (h : wpList Tryd.prog ops Q rest (a.put o.dst (.slice (some ⟨w.heap.size, 0, none⟩) 1 1)) (w.alloc (.cells (bv v ka kc) 68))) : wpList Tryd.prog ops Q (o :: rest) a w := by
  refine wpList_plain hgd fun K hK => ?_
  unfold Oper.wp execOp
  simp only [ho, List.map_toArray, List.map_cons, List.map_nil, hx, Sem.run_bind, slice_b, Result.andThen]
  exact hK _ _ h
theorem wpList_appendK (hgd : o.guard = none) (s x : Operand) (ho : o.op = .call { callee := .builtin .append, args := #[s, x], argTypes := #[22, 22] })
    (ka : Option Addr) (n kc : Nat) (z : Nat → Int) (hs : a.eval s = .slice none 0 0) (hx : a.eval x = .slice ka n kc) (hI : IsAt w ka n z) (hn : n ≤ 1000000)
    (h : ∀ ka' kc' w1, IsAt w1 ka' n z → Below w.heap.size w w1 → (∀ a, ka' = some a → w.heap.size ≤ a.block ∧ a.block < w1.heap.size) → wpList Tryd.prog ops Q rest (a.put o.dst (.slice ka' n kc')) w1) : wpList Tryd.prog ops Q (o :: rest) a w := by
  obtain ⟨ka', kc', w1, hr, h2, h3, h4⟩ := append_keys w o.type ka n kc z hI hn
  refine wpList_plain hgd fun K hK => ?_
  unfold Oper.wp execOp
  simp only [ho, resolve, invoke, builtin, Sem.run_bind, Sem.run_pure, Result.andThen_ok, List.map_toArray, List.map_cons, List.map_nil, hs, hx, hr]
  exact hK _ _ (h ka' kc' w1 h2 h3 h4)
end

/-- The cells of n branches, one behind the other; the keys of the branch i at A i. -/
def flatB (X : Nat → Bv) (A : Nat → Option Addr × Nat) : Nat → List Value
  | 0 => []
  | n + 1 => flatB X A n ++ brl (X n) (A n).1 (A n).2
theorem flatB_length (X : Nat → Bv) (A : Nat → Option Addr × Nat) : ∀ n, (flatB X A n).length = n * 35
  | 0 => rfl
  | n + 1 => by rw [flatB, List.length_append, flatB_length X A n, brl_length]; omega
theorem flatB_congr {X : Nat → Bv} {A B : Nat → Option Addr × Nat} : ∀ n, (∀ i, i < n → A i = B i) → flatB X A n = flatB X B n
  | 0, _ => rfl
  | n + 1, h => by rw [flatB, flatB, flatB_congr n (fun i hi => h i (by omega)), h n (by omega)]
theorem flatB_at (X : Nat → Bv) (A : Nat → Option Addr × Nat) : ∀ n i r, i < n → r < 35 → (flatB X A n)[i * 35 + r]? = (brl (X i) (A i).1 (A i).2)[r]?
  | 0, _, _, h, _ => by omega
  | n + 1, i, r, h, hr => by
    rw [flatB]
    by_cases e : i = n
    · subst e
      rw [List.getElem?_append_right (by rw [flatB_length]; omega), flatB_length, Nat.add_sub_cancel_left]
    · rw [List.getElem?_append_left (by rw [flatB_length]; omega)]
      exact flatB_at X A n i r (by omega) hr
/-- What has been given of a condition: the first i branches. -/
structure GivR (w wr : World) (v : Value) (X : Nat → Bv) (A : Nat → Option Addr × Nat) (i : Nat) : Prop where
  below : Below w.heap.size w wr
  own : wr.ownsRow w.heap.size 68 35 v i (flatB X A i)
  keys : ∀ j, j < i → IsAt wr (A j).1 (X j).n (X j).z
  apart : ∀ j, j < i → ∀ a, (A j).1 = some a → w.heap.size ≤ a.block ∧ a.block < wr.heap.size ∧ v.ownBlock ≠ some a.block
/-- A condition whose branches and keys lie in blocks from B on: it stays whatever becomes of the others. -/
def BrIn (wr : World) (B : Nat) (ad : Option Addr) (n : Nat) (X : Nat → Bv) : Prop := ∀ w' : World, (∀ k, B ≤ k → k < wr.heap.size → w'.heap[k]? = wr.heap[k]?) → BrAt w' ad n X
theorem BrIn.brAt {wr : World} {B : Nat} {ad : Option Addr} {n : Nat} {X : Nat → Bv} (h : BrIn wr B ad n X) : BrAt wr ad n X := h wr (fun _ _ _ => rfl)
theorem BrIn.mono {wr : World} {B B' : Nat} {ad : Option Addr} {n : Nat} {X : Nat → Bv} (h : BrIn wr B ad n X) (hB : B' ≤ B) : BrIn wr B' ad n X := fun w' hw => h w' (fun k h1 h2 => hw k (by omega) h2)
theorem GivR.brIn {w wr : World} {v : Value} {X : Nat → Bv} {A : Nat → Option Addr × Nat} {i : Nat} (h : GivR w wr v X A i) (hok : ∀ j, j < i → (X j).Ok) : ∃ ad cap, v = .slice ad i cap ∧ BrIn wr w.heap.size ad i X := by
  rcases h.own.2 with ⟨rfl, rfl⟩ | ⟨g, cap, cur, rfl, hg, hgc, _⟩
  · exact ⟨none, 0, rfl, fun w' _ => BrAt.nil _ _ _⟩
  · refine ⟨_, cap, rfl, fun w' hw => ⟨hok, fun hn => ⟨g, 0, rfl, fun j hj => ⟨(A j).1, (A j).2, fun r u hu => ?_, fun hn2 => ?_⟩⟩⟩⟩
    · have hr : r < 35 := by
        have := (List.getElem?_eq_some_iff.1 hu).1
        rwa [brl_length] at this
      have := h.own.cells (g := g) rfl (j * 35 + r) u (by rw [flatB_at X A i j r hj hr]; exact hu)
      rw [Addr.add_lit] at this
      rw [Nat.add_assoc, World.cell?_of_block (a := ⟨g, 0 + (j * 35 + r), none⟩) (hw g hg (lt_of_block hgc))]
      exact this
    · obtain ⟨b, off, e, hc⟩ := h.keys j hj hn2
      refine ⟨b, off, e, fun q hq => ?_⟩
      rw [World.cell?_of_block (a := ⟨b, off + q, none⟩) (hw b (h.apart j hj _ e).1 (h.apart j hj _ e).2.1)]
      exact hc q hq
theorem GivR.brAt {w wr w' : World} {v : Value} {X : Nat → Bv} {A : Nat → Option Addr × Nat} {i : Nat} (h : GivR w wr v X A i) (hok : ∀ j, j < i → (X j).Ok) (hw : ∀ k, w.heap.size ≤ k → w'.heap[k]? = wr.heap[k]?) : ∃ ad cap, v = .slice ad i cap ∧ BrAt w' ad i X := by
  rcases h.own.2 with ⟨rfl, rfl⟩ | ⟨g, cap, cur, rfl, hg, _⟩
  · exact ⟨none, 0, rfl, BrAt.nil _ _ _⟩
  · refine ⟨_, cap, rfl, hok, fun hn => ⟨g, 0, rfl, fun j hj => ⟨(A j).1, (A j).2, fun r u hu => ?_, fun hn2 => ?_⟩⟩⟩
    · have hr : r < 35 := by
        have := (List.getElem?_eq_some_iff.1 hu).1
        rwa [brl_length] at this
      have := h.own.cells (g := g) rfl (j * 35 + r) u (by rw [flatB_at X A i j r hj hr]; exact hu)
      rw [Addr.add_lit] at this
      rw [Nat.add_assoc, World.cell?_of_block (a := ⟨g, 0 + (j * 35 + r), none⟩) (hw g hg)]
      exact this
    · obtain ⟨b, off, e, hc⟩ := h.keys j hj hn2
      refine ⟨b, off, e, fun q hq => ?_⟩
      rw [World.cell?_of_block (a := ⟨b, off + q, none⟩) (hw b (h.apart j hj _ e).1)]
      exact hc q hq
theorem GivR.keep {w wr w' : World} {v : Value} {X : Nat → Bv} {A : Nat → Option Addr × Nat} {i : Nat} (h : GivR w wr v X A i) (hb : Below wr.heap.size wr w') : GivR w w' v X A i := by
  obtain ⟨h1, h2, h3, h4⟩ := h
  refine ⟨Below.transS h1 hb, ⟨h2.1, ?_⟩, fun j hj => (h3 j hj).below hb, fun j hj a e => ?_⟩
  · rcases h2.2 with hn | ⟨g, cap, cur, e, hbs, hg, rest⟩
    · exact .inl hn
    · exact .inr ⟨g, cap, cur, e, hbs, by rw [hb.block _ (lt_of_block hg)]; exact hg, rest⟩
  · obtain ⟨p, q, r⟩ := h4 j hj a e
    exact ⟨p, Nat.lt_of_lt_of_le q hb.size, r⟩
theorem isAt_grown {w w' : World} {row : Option Nat} {ka : Option Addr} {n : Nat} {z : Nat → Int} (h : IsAt w ka n z) (hg : w.grownBy w' row) (ha : ∀ a, ka = some a → row ≠ some a.block) : IsAt w' ka n z := by
  intro hn
  obtain ⟨b, off, e, hc⟩ := h hn
  refine ⟨b, off, e, fun j hj => ?_⟩
  have h1 := hc j hj
  have hl : b < w.heap.size := World.block_lt_of_cell? w ⟨b, off + j, none⟩ h1
  rw [World.cell?_of_block (a := ⟨b, off + j, none⟩) (hg.block b hl (fun e2 => ha _ e e2.symm))]
  exact h1
theorem isAt_set {w : World} {g o : Nat} {u : Value} {ka : Option Addr} {n : Nat} {z : Nat → Int} (h : IsAt w ka n z) (ha : ∀ a, ka = some a → a.block ≠ g) : IsAt (w.setCell ⟨g, o, none⟩ u) ka n z := by
  intro hn
  obtain ⟨b, off, e, hc⟩ := h hn
  refine ⟨b, off, e, fun j hj => ?_⟩
  rw [World.cell?_of_block (a := ⟨b, off + j, none⟩) (Below.heap_setCell _ _ _ _ (ha _ e))]
  exact hc j hj
theorem GivR.next {w w4 w5 : World} {v v' : Value} {X : Nat → Bv} {A : Nat → Option Addr × Nat} {i : Nat} {ka : Option Addr} {kc : Nat} (h : GivR w w4 v X A i) (hown : w5.ownsRow w.heap.size 68 35 v' (i + 1) (flatB X A i ++ brl (X i) ka kc)) (hg : w4.grownBy w5 v.ownBlock)
    (hloc : v'.ownBlock = v.ownBlock ∨ v'.ownBlock = some w4.heap.size) (hI : IsAt w4 ka (X i).n (X i).z) (hA : ∀ a, ka = some a → w.heap.size ≤ a.block ∧ a.block < w4.heap.size ∧ v.ownBlock ≠ some a.block) :
    GivR w w5 v' X (fun j => if j = i then (ka, kc) else A j) (i + 1) := by
  have hlt := h.own.lt
  have hap : ∀ j, j < i + 1 → ∀ a, (if j = i then (ka, kc) else A j).1 = some a → w.heap.size ≤ a.block ∧ a.block < w4.heap.size ∧ v.ownBlock ≠ some a.block := by
    intro j hj a e
    by_cases ej : j = i
    · rw [if_pos ej] at e; exact hA a e
    · rw [if_neg ej] at e; exact h.apart j (by omega) a e
  refine ⟨?_, ?_, fun j hj => ?_, fun j hj a e => ?_⟩
  · exact h.below.trans ⟨hg.os, hg.tape, hg.output, hg.size, fun k hk => hg.block k (by have := h.below.size; omega) (fun e => by have := (hlt k e.symm).1; omega)⟩
  · rw [flatB, flatB_congr i (B := A) (fun j hj => if_neg (by omega))]
    simp only [if_true]
    exact hown
  · by_cases ej : j = i
    · subst ej
      simp only [if_true]
      exact isAt_grown hI hg (fun a e => (hA a e).2.2)
    · simp only [if_neg ej]
      exact isAt_grown (h.keys j (by omega)) hg (fun a e => (h.apart j (by omega) a e).2.2)
  · obtain ⟨p, q, r⟩ := hap j hj a e
    refine ⟨p, Nat.lt_of_lt_of_le q hg.size, fun e2 => ?_⟩
    rcases hloc with h1 | h1
    · exact r (h1.symm.trans e2)
    · rw [h1] at e2
      have : w4.heap.size = a.block := by simpa using e2
      omega

theorem bv_set0 (x : Bv) (ka ka' : Option Addr) (kc kc' : Nat) {w : World} {g : Nat} {t : TypeId} (h : w.heap[g]? = some (.cells (bv x ka kc) t (0, 0))) : (w.setCell ⟨g, 0, none⟩ (.slice ka' x.n kc')).heap[g]? = some (.cells (bv x ka' kc') t (0, 0)) := by
  rw [heap_setCell_same w g 0 _ t _ h]
  congr 2

theorem news_b (x : Bv) (ka : Option Addr) (kc : Nat) (w : World) (q : Nat) (hq : w.heap.size = q) : ∀ j u, (brl x ka kc)[j]? = some u → (w.alloc (.cells (bv x ka kc) 68)).cell? ((⟨q, 0, none⟩ : Addr).add j) = some u := by
  subst hq
  intro j u hj
  rw [Addr.add_lit, Nat.zero_add, cell_of_row _ _ j _ _ _ (heap_alloc_new w _)]
  simpa [bv] using hj

theorem new_b (x : Bv) (ka : Option Addr) (kc : Nat) (w : World) (q : Nat) (hq : w.heap.size = q) : (w.alloc (.cells (bv x ka kc) 68)).heap[q]? = some (.cells (bv x ka kc) 68 (0, 0)) := by
  subst hq
  exact heap_alloc_new w _
theorem zero_b : (Value.agg (bv b0 none 0)).cells.size = 35 := by simp [Value.cells, bv_size]
theorem wpList_appendB {ops : Array Oper} {rest : List Oper} {o : Oper} {a : Act} {w : World} {Q : Exit → Act → World → Prop} (hgd : o.guard = none) (s x : Operand) (ho : o.op = .call { callee := .builtin .append, args := #[s, x], argTypes := #[32, 32] })
    (W0 : World) (v : Value) (X : Nat → Bv) (A : Nat → Option Addr × Nat) (i : Nat) (ka : Option Addr) (kc q : Nat) (hs : a.eval s = v) (hx : a.eval x = .slice (some ⟨q, 0, none⟩) 1 1) (hR : GivR W0 w v X A i) (hq : w.heap[q]? = some (.cells (bv (X i) ka kc) 68 (0, 0))) (hi : i ≤ 1000000)
    (h : ∀ v' w', w'.ownsRow W0.heap.size 68 35 v' (i + 1) (flatB X A i ++ brl (X i) ka kc) → w.grownBy w' v.ownBlock → (v'.ownBlock = v.ownBlock ∨ v'.ownBlock = some w.heap.size) → wpList Tryd.prog ops Q rest (a.put o.dst v') w') : wpList Tryd.prog ops Q (o :: rest) a w := by
  obtain ⟨i0, hi0, hz0, hz1, hz2⟩ := info_parts infoB
  refine wpList_append_own_at _ hgd s x 32 ho W0.heap.size 68 i0 (.agg (bv b0 none 0)) 35 72 Tryd.underlying32 hi0 hz0 hz1 hz2 zero_b (by omega) v i (flatB X A i) hs hR.own ⟨q, 0, none⟩ 1 1 (brl (X i) ka kc) hx (by rw [brl_length]) (fun j u hj => ?_) (brl_one _ _ _) (by unfold maxLen; omega) (by omega) hR.below.size (fun v' w' h1 h2 _ h4 => h v' w' h1 h2 h4)
  rw [Addr.add_lit, Nat.zero_add, cell_of_row _ _ j _ _ _ hq]
  simpa [bv] using hj

theorem szC : (Tryd.prog.info? 34).map (·.size) = some 1 := by kernel_rfl

end Go.Proofs.YtbehkajfckadfaaDoor.Cd
