/- tx.Check. -/
import Derived.Test.YtanchjfodcjlmaaGreatDoorOwnShelf12
import Derived.Test.YtanchjfodcjlmaaGreatDoorOwnShelf11
namespace Go.Proofs.YtanchjfodcjlmaaGreatDoor
open Go.RowKit

theorem kerrV_0 : errV 0 = .nilIface := rfl
theorem kerrV_ne {x : Int} (h : x ≠ 0) : errV x = .iface 81 (.int .i64 x) := if_neg h
/-- The first output's error that is none. -/
def outsE (O : Nat → To) : Nat → Int
  | 0 => 0
  | i + 1 => if outsE O i = 0 then outE (O i) else outsE O i
theorem outsE_stop {O : Nat → To} {i : Nat} (h : outsE O i ≠ 0) : ∀ n, i ≤ n → outsE O n = outsE O i
  | 0, hn => by obtain rfl : i = 0 := (by omega); rfl
  | n + 1, hn => by
    by_cases e : i = n + 1
    · subst e; rfl
    · have ih := outsE_stop h n (by omega)
      rw [outsE, ih, if_neg h]
/-- The numbers that a transaction's counts may be. -/
def NumOk (lk : Int) (n m : Nat) : Prop := (0 ≤ lk ∧ lk ≤ 1099511627776) ∧ (1 ≤ n ∧ n ≤ 64) ∧ (1 ≤ m ∧ m ≤ 64)
instance (lk : Int) (n m : Nat) : Decidable (NumOk lk n m) := inferInstanceAs (Decidable (_ ∧ _))
/-- A transaction's error. -/
def txE (lk : Int) (n : Nat) (X : Nat → Ti) (m : Nat) (O : Nat → To) : Int :=
  if ¬ NumOk lk n m then 4 else if ¬ InsOk X n then 4 else if ¬ Apart X n then 9 else if outsE O m ≠ 0 then outsE O m else totE O m
def txl (lk : Int) (ia : Option Addr) (n ic : Nat) (oa : Option Addr) (m oc : Nat) : List Value := [.int .i64 lk, .slice ia n ic, .slice oa m oc]
theorem txl_range {w : World} {g : Nat} {lk : Int} {ia : Option Addr} {n ic : Nat} {oa : Option Addr} {m oc : Nat} {t : TypeId} {fr : Nat × Nat} (h : w.heap[g]? = some (.cells #[.int .i64 lk, .slice ia n ic, .slice oa m oc] t fr)) : w.rangeAt g 0 (txl lk ia n ic oa m oc) := fun j v hv => by
  rw [Nat.zero_add, cell_of_row _ _ j _ _ _ h]
  simpa [txl] using hv
theorem szTx : (Tryz.prog.info? 35).map (·.size) = some 3 := by kernel_rfl
set_option maxRecDepth 100000 in
set_option maxHeartbeats 3200000 in
theorem kcheck_any (lk : Int) (ia : Option Addr) (n ic : Nat) (oa : Option Addr) (m oc : Nat) (X : Nat → Ti) (S : Nat → Option Addr × Nat) (O : Nat → To) (w : World) (h : TiAt w ia n X S) (ho : ToAt w oa m O) (hs : ∀ i, i < m → (O i).Small) (hn : n ≤ 1000000) (hm : m ≤ 1000000) :
    Calls Tryz.prog 12 #[.agg (txv lk ia n ic oa m oc)] w fun e w' => e = .returned (errV (txE lk n X m O)) ∧ Below w.heap.size w w' := by
  have hb0 : Below w.heap.size w (w.alloc (.cells #[.int .i64 lk, .slice ia n ic, .slice oa m oc] 35)) := (Below.refl _ w).alloc (Nat.le_refl _) _
  have hr0 := heap_alloc_new w (.cells #[.int .i64 lk, .slice ia n ic, .slice oa m oc] 35)
  have HH : Hid (TiAt w ia n X S ∧ ToAt w oa m O ∧ ∀ i, i < m → (O i).Small) := ⟨h, ho, hs⟩
  clear h ho hs
  unfold txv
  by_cases hN : NumOk lk n m
  · obtain ⟨hl, hnn, hmm⟩ := hN
    have HN : Hid (NumOk lk n m) := ⟨hl, hnn, hmm⟩
    have d1 : decide (0 ≤ lk ∧ lk ≤ 1099511627776) = true := by simpa using hl
    have d2 : decide ((1 : Int) ≤ (n : Int) ∧ (n : Int) ≤ 64) = true := by simp; omega
    have d3 : decide ((1 : Int) ≤ (m : Int) ∧ (m : Int) ≤ 64) = true := by simp; omega
    go_enter Tryz.func12, Tryz.ntmps12
    go_wp2_with fail
    generalize w.alloc (.cells #[.int .i64 lk, .slice ia n ic, .slice oa m oc] 35) = W0 at *
    have c1 : W0.cell? ⟨w.heap.size, 1, none⟩ = some (.slice ia n ic) := by rw [cell_of_row _ _ 1 _ _ _ hr0]; rfl
    have c2 : W0.cell? ⟨w.heap.size, 2, none⟩ = some (.slice oa m oc) := by rw [cell_of_row _ _ 2 _ _ _ hr0]; rfl
    refine (kwithin_any lk 0 1099511627776 _).mono ?_
    rintro e w1 ⟨rfl, hW⟩
    rw [hW, d1]
    clear hW
    go_wp2_with fail
    refine (kwithin_any n 1 64 _).mono ?_
    rintro e w1 ⟨rfl, hW⟩
    rw [hW, d2]
    clear hW
    go_wp2_with fail
    refine (kwithin_any m 1 64 _).mono ?_
    rintro e w1 ⟨rfl, hW⟩
    rw [hW, d3]
    clear hW d1 d2 d3 hl hnn hmm
    go_wp2_with fail
    refine (kcontains_any ia n ic X S W0 (HH.out.1.below hb0) hn).mono ?_
    rintro e w2 ⟨rfl, hb2⟩
    by_cases hI : InsOk X n
    · have d4 : (!decide (InsOk X n)) = false := by simpa using hI
      rw [d4]
      clear d4
      have HI : Hid (InsOk X n) := hI
      clear hI
      have HB2 : Hid (Below w.heap.size w w2) := hb0.trans (hb2.mono hb0.size)
      have hr2 : w2.heap[w.heap.size]? = some (.cells #[.int .i64 lk, .slice ia n ic, .slice oa m oc] 35 (0, 0)) := by rw [hb2.block _ (lt_of_block hr0)]; exact hr0
      have HR2 : Hid (∀ w', Below w2.heap.size w2 w' → w'.heap[w.heap.size]? = some (.cells #[.int .i64 lk, .slice ia n ic, .slice oa m oc] 35 (0, 0))) := fun w' hb => by rw [hb.block _ (lt_of_block hr2)]; exact hr2
      clear hb2 hr2 hr0 hb0 c1 c2
      go_wp2_with fail
      have HS : Hid (∀ w', Below w2.heap.size w2 w' → w'.rangeAt w.heap.size 0 (txl lk ia n ic oa m oc) ∧ w'.cell? ⟨w.heap.size, 1, none⟩ = some (.slice ia n ic)) := fun w' hb => ⟨txl_range (HR2.out w' hb), by rw [cell_of_row _ _ 1 _ _ _ (HR2.out w' hb)]; rfl⟩
      have S0 := HS.out w2.drew (Below.refl _ w2).drew
      refine wp_region_noPanic ?_
      refine wp_region_held_drew (S := fun w' => w'.rangeAt w.heap.size 0 (txl lk ia n ic oa m oc) ∧ w'.cell? ⟨w.heap.size, 1, none⟩ = some (.slice ia n ic)) (by kernel_rfl) S0 (fun hHeld => ?_)
      refine wpAnyH_take (i := 0) (oi := { dst := some 32, op := Go.Op.load 35 (Go.Operand.tmp 1), type := 35, pos := "tx.go:54", after := #[], guard := none }) rfl (by kernel_rfl) (by kernel_rfl) (by kernel_rfl) (fun _ _ _ h => h) (yieldsIf_load_mid (by rfl) _ _ rfl w.heap.size 0 rfl (txl lk ia n ic oa m oc) _ (fun _ h => h.1) Tryz.underlying35 rfl szTx) (by assumption) ?_
      try simp only [Act.put, List.setIfInBounds_toArray, List.set_cons_zero, List.set_cons_succ]
      refine wpAnyH_take (i := 3) (oi := { dst := some 35, op := Go.Op.fieldAddr 35 (Go.Operand.tmp 1) 1, type := 0, pos := "tx.go:54", after := #[], guard := none }) (v := ?_) rfl (by kernel_rfl) (by kernel_rfl) (by kernel_rfl) (fun _ _ _ h => h) (Or.inl ⟨by rfl, ?_⟩) (by assumption) ?_
      rotate_left
      · intro wz hSw; (try dsimp only at hSw); go_simp; (try with_reducible rfl)
      try simp only [Act.put, List.setIfInBounds_toArray, List.set_cons_zero, List.set_cons_succ]
      refine wpAnyH_take (i := 4) (oi := { dst := some 36, op := Go.Op.load 32 (Go.Operand.tmp 35), type := 32, pos := "tx.go:54", after := #[{ on := 3, ground := Go.Ground.data }], guard := none }) (v := ?_) rfl (by kernel_rfl) (by kernel_rfl) (by kernel_rfl) (fun _ _ _ h => h) (Or.inl ⟨by rfl, ?_⟩) (by assumption) ?_
      rotate_left
      · intro wz hSw; (try dsimp only at hSw); go_simp; (try with_reducible rfl)
      try simp only [Act.put, List.setIfInBounds_toArray, List.set_cons_zero, List.set_cons_succ]
      refine wpAnyH_take (i := 5) (oi := { dst := some 37, op := Go.Op.call { callee := Go.Callee.builtin Go.Builtin.len, args := #[Go.Operand.tmp 36], argTypes := #[32] }, type := 3, pos := "tx.go:54", after := #[{ on := 4, ground := Go.Ground.data }], guard := none }) (v := ?_) rfl (by kernel_rfl) (by kernel_rfl) (by kernel_rfl) (fun _ _ _ h => h) (Or.inl ⟨by rfl, ?_⟩) (by assumption) ?_
      rotate_left
      · intro wz hSw; (try dsimp only at hSw); go_simp; (try with_reducible rfl)
      try simp only [Act.put, List.setIfInBounds_toArray, List.set_cons_zero, List.set_cons_succ]
      refine wpAnyH_ready (rs := [1]) (by kernel_rfl) (by simp) ?_
      refine (AllReadyH.cons (o := { dst := some 33, op := Go.Op.call { callee := Go.Callee.value (Go.Operand.func 31), args := #[Go.Operand.tmp 32], argTypes := #[35] }, type := 87, pos := "tx.go:54", after := #[{ on := 0, ground := Go.Ground.data }], guard := none }) rfl (fun K hK => ?_) AllReadyH.nil)
      go_simp
      refine (points_any lk ia n ic oa m oc X S w2.drew (HH.out.1.below HB2.out.drew) (fun i hi => by have := (HI.out i hi).1; exact ⟨by omega, by omega⟩) hn).mono ?_
      rintro e w3 ⟨⟨pb, rfl, hpm⟩, hb3⟩
      have HB3 : Hid (Below w2.heap.size w2 w3) := (Below.refl _ w2).drew.trans hb3
      clear hb3
      obtain ⟨D, kk, hD, hDs⟩ := hpm
      have hlen : ∀ ty, (Builtin.len_ #[87] ty #[.map (some pb)]).run Tryz.prog w3 = .ok (.int .i64 ((ptsL X n).length : Nat)) w3 := fun ty => by rw [← hDs]; exact hD.len (t := 87) (e := 91) Tryz.underlying87 ty
      clear hD hDs
      refine hK.out _ _ (HS.out w3 HB3.out) (fun _ => ?_)
      clear hK K
      refine wpAnyH_ready (rs := [2]) (by kernel_rfl) (by simp) ?_
      refine (AllReadyH.cons (o := { dst := some 34, op := Go.Op.call { callee := Go.Callee.builtin Go.Builtin.len, args := #[Go.Operand.tmp 33], argTypes := #[87] }, type := 3, pos := "tx.go:54", after := #[{ on := 1, ground := Go.Ground.data }, { on := 1, ground := Go.Ground.chain }], guard := none }) rfl (fun K hK => ?_) AllReadyH.nil)
      go_simp
      refine hK.out _ _ (HS.out w3 HB3.out) (fun _ => ?_)
      clear hK K hlen
      try simp only [Act.put, List.setIfInBounds_toArray, List.set_cons_zero, List.set_cons_succ]
      refine wpAnyH_take (i := 6) (oi := { dst := some 38, op := Go.Op.binOp Go.BinOp.lss 3 (Go.Operand.tmp 34) (Go.Operand.tmp 37) 3, type := 4, pos := "tx.go:54", after := #[{ on := 2, ground := Go.Ground.data }, { on := 5, ground := Go.Ground.data }], guard := none }) (v := ?_) rfl (by kernel_rfl) (by kernel_rfl) (by kernel_rfl) (fun _ _ _ h => h) (Or.inl ⟨by rfl, ?_⟩) (by assumption) ?_
      rotate_left
      · intro wz hSw; (try dsimp only at hSw); go_simp; (try with_reducible rfl)
      try simp only [Act.put, List.setIfInBounds_toArray, List.set_cons_zero, List.set_cons_succ]
      refine wpAnyH_take (i := 7) (oi := { dst := some 31, op := Go.Op.assign (Go.Operand.tmp 38), type := 4, pos := "tx.go:54", after := #[{ on := 6, ground := Go.Ground.data }, { on := 2, ground := Go.Ground.chain }], guard := none }) (v := ?_) rfl (by kernel_rfl) (by kernel_rfl) (by kernel_rfl) (fun _ _ _ h => h) (Or.inl ⟨by rfl, ?_⟩) (by assumption) ?_
      rotate_left
      · intro wz hSw; (try dsimp only at hSw); go_simp; (try with_reducible rfl)
      try simp only [Act.put, List.setIfInBounds_toArray, List.set_cons_zero, List.set_cons_succ]
      refine wpAnyH_done (by kernel_rfl) (NoPanic.normal ?_) _
      try simp only [Act.put, List.setIfInBounds_toArray, List.set_cons_zero, List.set_cons_succ]
      clear hHeld S0
      by_cases hA : Apart X n
      · have hl : (ptsL X n).length = n := (ptsL_full X n).2 hA
        have hl' : decide ((ptsL X n).length < n) = false := by simp; omega
        rw [hl']
        clear hl'
        have HE : Hid (txE lk n X m O = if outsE O m ≠ 0 then outsE O m else totE O m) := by unfold txE; rw [if_neg (by simpa using HN.out), if_neg (by simpa using HI.out), if_neg (by simpa using hA)]; exact rfl
        have hb3 : Below w.heap.size w w3 := HB2.out.trans (HB3.out.mono HB2.out.size)
        have hr3 := HR2.out w3 HB3.out
        have c2 : w3.cell? ⟨w.heap.size, 2, none⟩ = some (.slice oa m oc) := by rw [cell_of_row _ _ 2 _ _ _ hr3]; rfl
        clear hA hl HS HB3 HB2 HR2 HI HN
        go_wp2
        clear c2
        go_loopw [2, 5, 6, 43] (fun _ _ _ iv wr => ∃ i : Nat, i ≤ m ∧ iv = .int .i64 i ∧ outsE O i = 0 ∧ Below w.heap.size w wr ∧ wr.heap[w.heap.size]? = some (.cells #[.int .i64 lk, .slice ia n ic, .slice oa m oc] 35 (0, 0))) (fun _ _ _ iv _ => m + 1 - (intOf iv).toNat)
        case atStart => exact ⟨0, by omega, rfl, rfl, hb3, hr3⟩
        case round =>
          clear hb3 hr3
          obtain ⟨i, hi, rfl, hz, hb, hr⟩ := hrel
          have HZ : Hid (outsE O i = 0) := hz
          clear hz
          by_cases hlt : i < m
          · have hlt' : (i : Int) < m := by omega
            obtain ⟨b, off, rfl, hc⟩ := HH.out.2.1.at_ (by omega)
            obtain ⟨ca, cc, hr0, hbr, _⟩ := hc i hlt
            have hr1 := range_below hr0 hb
            have c0 : wr.cell? ⟨b, off + i * 2, none⟩ = some (.int .i64 (O i).am) := by simpa using hr1 0 _ rfl
            have c1 : wr.cell? ⟨b, off + i * 2 + 1, none⟩ = some (.slice ca (O i).cn cc) := hr1 1 _ rfl
            have hb1 : Below w.heap.size w (wr.alloc (.cells #[.int .i64 (O i).am, .slice ca (O i).cn cc] 79)) := hb.alloc hb.size _
            have hk := checkOut_any (O i) ca cc (wr.alloc (.cells #[.int .i64 (O i).am, .slice ca (O i).cn cc] 79)) (hbr.below hb1) (HH.out.2.2 i hlt)
            have hrA : (wr.alloc (.cells #[.int .i64 (O i).am, .slice ca (O i).cn cc] 79)).heap[w.heap.size]? = some (.cells #[.int .i64 lk, .slice ia n ic, .slice (some ⟨b, off, none⟩) m oc] 35 (0, 0)) := by rw [Below.heap_alloc _ _ _ (lt_of_block hr)]; exact hr
            unfold tov at hk
            clear hc hr0 hbr hr1
            by_cases hq : outE (O i) = 0
            · rw [hq, kerrV_0] at hk
              have HN : Hid (outsE O (i + 1) = 0) := by rw [outsE, if_pos HZ.out]; exact hq
              clear hq
              go_wp2_with fail
              generalize wr.alloc (.cells #[.int .i64 (O i).am, .slice ca (O i).cn cc] 79) = q1 at *
              refine hk.mono ?_
              rintro e q2 ⟨rfl, hb2⟩
              have hrB : q2.heap[w.heap.size]? = some (.cells #[.int .i64 lk, .slice ia n ic, .slice (some ⟨b, off, none⟩) m oc] 35 (0, 0)) := by rw [hb2.block _ (lt_of_block hrA)]; exact hrA
              have hbB : Below w.heap.size w q2 := hb1.trans (hb2.mono hb1.size)
              clear hk hrA hb1 hb2 c0 c1 hr hb
              go_wp2
              go_roundw
              case rel => exact ⟨i + 1, by omega, by go_num, HN.out, hbB, hrB⟩
              case measure => simp [intOf]; omega
            · rw [kerrV_ne hq] at hk
              have HE2 : Hid (errV (txE lk n X m O) = .iface 81 (.int .i64 (outE (O i)))) := by
                have e1 : outsE O (i + 1) = outE (O i) := by rw [outsE, if_pos HZ.out]
                have e2 : outsE O m = outE (O i) := by rw [← e1]; exact outsE_stop (by rw [e1]; exact hq) m (by omega)
                rw [HE.out, e2, if_pos hq, kerrV_ne hq]; exact rfl
              clear hq
              go_wp2_with fail
              generalize wr.alloc (.cells #[.int .i64 (O i).am, .slice ca (O i).cn cc] 79) = q1 at *
              refine hk.mono ?_
              rintro e q2 ⟨rfl, hb2⟩
              have hbB : Below w.heap.size w q2 := hb1.trans (hb2.mono hb1.size)
              clear hk hrA hb1 hb2 c0 c1 hr hb
              go_wp2
              go_ret
              exact ⟨by rw [HE2.out]; rfl, hbB⟩
          · obtain rfl : i = m := by omega
            have hnn : ¬ ((i : Int) < i) := by omega
            have HE3 : Hid (txE lk n X i O = totE O i) := by rw [HE.out, if_neg (by simpa using HZ.out)]; exact rfl
            have hk := ktotal_any lk ia n ic oa i oc O wr (HH.out.2.1.below hb) hm
            unfold txv at hk
            obtain ⟨c0, c1, c2⟩ : wr.cell? ⟨w.heap.size, 0, none⟩ = some (.int .i64 lk) ∧ wr.cell? ⟨w.heap.size, 1, none⟩ = some (.slice ia n ic) ∧ wr.cell? ⟨w.heap.size, 2, none⟩ = some (.slice oa i oc) := ⟨by rw [cell_of_row _ _ 0 _ _ _ hr]; rfl, by rw [cell_of_row _ _ 1 _ _ _ hr]; rfl, by rw [cell_of_row _ _ 2 _ _ _ hr]; rfl⟩
            go_wp2_with fail
            refine hk.mono ?_
            rintro e q2 ⟨rfl, hb2⟩
            have hbB : Below w.heap.size w q2 := hb.trans (hb2.mono hb.size)
            clear hk c0 c1 c2 hr hb hb2
            go_wp2
            go_ret
            exact ⟨by rw [HE3.out]; rfl, hbB⟩
      · have hl' : ((ptsL X n).length : Int) < (n : Int) := by have h1 := ptsL_le X n; have h2 : (ptsL X n).length ≠ n := fun h => hA ((ptsL_full X n).1 h); omega
        have HE : Hid (txE lk n X m O = 9) := by unfold txE; rw [if_neg (by simpa using HN.out), if_neg (by simpa using HI.out), if_pos hA]; exact rfl
        have HBE : Hid (Below w.heap.size w w3) := HB2.out.trans (HB3.out.mono HB2.out.size)
        clear hA
        go_wp2
        go_ret
        exact ⟨by rw [HE.out]; rfl, HBE.out⟩
    · have d4 : (!decide (InsOk X n)) = true := by simpa using hI
      rw [d4]
      have HE : Hid (txE lk n X m O = 4) := by unfold txE; rw [if_neg (by simpa using HN.out), if_pos hI]; exact rfl
      have HBE : Hid (Below w.heap.size w w2) := hb0.trans (hb2.mono hb0.size)
      clear d4 hI hr0 hb2 c1 c2 hb0
      go_wp2
      go_ret
      exact ⟨by rw [HE.out]; rfl, HBE.out⟩
  · have HE : Hid (txE lk n X m O = 4) := if_pos hN
    by_cases h1 : 0 ≤ lk ∧ lk ≤ 1099511627776
    · have d1 : decide (0 ≤ lk ∧ lk ≤ 1099511627776) = true := by simpa using h1
      by_cases h2 : 1 ≤ n ∧ n ≤ 64
      · have d2 : decide ((1 : Int) ≤ (n : Int) ∧ (n : Int) ≤ 64) = true := by simp; omega
        have d3 : decide ((1 : Int) ≤ (m : Int) ∧ (m : Int) ≤ 64) = false := by
          have : ¬ (1 ≤ m ∧ m ≤ 64) := fun h => hN ⟨h1, h2, h⟩
          rw [decide_eq_false_iff_not]; omega
        clear hN h1 h2
        go_enter Tryz.func12, Tryz.ntmps12
        go_wp2_with fail
        generalize w.alloc (.cells #[.int .i64 lk, .slice ia n ic, .slice oa m oc] 35) = W0 at *
        have c1 : W0.cell? ⟨w.heap.size, 1, none⟩ = some (.slice ia n ic) := by rw [cell_of_row _ _ 1 _ _ _ hr0]; rfl
        have c2 : W0.cell? ⟨w.heap.size, 2, none⟩ = some (.slice oa m oc) := by rw [cell_of_row _ _ 2 _ _ _ hr0]; rfl
        refine (kwithin_any lk 0 1099511627776 _).mono ?_
        rintro e w1 ⟨rfl, hW⟩
        rw [hW, d1]
        clear hW
        go_wp2_with fail
        refine (kwithin_any n 1 64 _).mono ?_
        rintro e w1 ⟨rfl, hW⟩
        rw [hW, d2]
        clear hW
        go_wp2_with fail
        refine (kwithin_any m 1 64 _).mono ?_
        rintro e w1 ⟨rfl, hW⟩
        rw [hW, d3]
        clear hW
        go_wp2
        go_ret
        exact ⟨by rw [HE.out]; rfl, hb0⟩
      · have d2 : decide ((1 : Int) ≤ (n : Int) ∧ (n : Int) ≤ 64) = false := by rw [decide_eq_false_iff_not]; omega
        clear hN h1 h2
        go_enter Tryz.func12, Tryz.ntmps12
        go_wp2_with fail
        generalize w.alloc (.cells #[.int .i64 lk, .slice ia n ic, .slice oa m oc] 35) = W0 at *
        have c1 : W0.cell? ⟨w.heap.size, 1, none⟩ = some (.slice ia n ic) := by rw [cell_of_row _ _ 1 _ _ _ hr0]; rfl
        refine (kwithin_any lk 0 1099511627776 _).mono ?_
        rintro e w1 ⟨rfl, hW⟩
        rw [hW, d1]
        clear hW
        go_wp2_with fail
        refine (kwithin_any n 1 64 _).mono ?_
        rintro e w1 ⟨rfl, hW⟩
        rw [hW, d2]
        clear hW
        go_wp2
        go_ret
        exact ⟨by rw [HE.out]; rfl, hb0⟩
    · have d1 : decide (0 ≤ lk ∧ lk ≤ 1099511627776) = false := by simpa using h1
      clear hN h1
      go_enter Tryz.func12, Tryz.ntmps12
      go_wp2_with fail
      refine (kwithin_any lk 0 1099511627776 _).mono ?_
      rintro e w1 ⟨rfl, hW⟩
      rw [hW, d1]
      clear hW
      go_wp2
      go_ret
      exact ⟨by rw [HE.out]; rfl, hb0⟩
end Go.Proofs.YtanchjfodcjlmaaGreatDoor
/- The document's Check. -/
namespace Go.Proofs.YtanchjfodcjlmaaGreatDoor.Cd
open Go.RowKit

/-- A branch of noughts. -/
def b0 : Bv := ⟨0, fun _ => 0, fun _ => 0, 0, 0⟩
theorem run_allocR (w : World) : (Instr.alloc 73 true (.tuple #[])).run Tryz.prog w = .ok (.pointer (some ⟨w.heap.size, 0, none⟩)) (w.alloc (.cells (bv b0 none 0) 73)) := by kernel_rfl
section
variable {ops : Array Oper} {rest : List Oper} {o : Oper} {a : Act} {w : World} {Q : Exit → Act → World → Prop}
theorem wpList_allocR (hgd : o.guard = none) (ho : o.op = .alloc 73)
    (h : wpList Tryz.prog ops Q rest (a.put o.dst (.pointer (some ⟨w.heap.size, 0, none⟩))) (w.alloc (.cells (bv b0 none 0) 73))) : wpList Tryz.prog ops Q (o :: rest) a w := by
  refine wpList_plain hgd fun K hK => ?_
  unfold Oper.wp execOp
  simp only [ho, Sem.run_bind, run_allocR, Result.andThen]
  exact hK _ _ h
/-- A whole branch stored into a variable of its own. -/
theorem wpList_storeR (T : TypeId) (hT : (Tryz.prog.info? T).map (·.size) = some 35) (hgd : o.guard = none) (x y : Operand) (ho : o.op = .store T x y) (g : Nat) (hx : a.eval x = .pointer (some ⟨g, 0, none⟩)) (v u : Bv) (ka ua : Option Addr) (kc uc : Nat) (t : TypeId) (hy : a.eval y = .agg (bv v ka kc)) (hg : w.heap[g]? = some (.cells (bv u ua uc) t (0, 0)))
    (h : ∀ w', w'.heap[g]? = some (.cells (bv v ka kc) t (0, 0)) → Frm [g] w w' → wpList Tryz.prog ops Q rest (a.put o.dst undef) w') : wpList Tryz.prog ops Q (o :: rest) a w := by
  refine wpList_store_mid hgd T x y ho g 0 (bv v ka kc) hx hy ?_ (by rw [bv_size]; exact hT) (bv_one v ka kc) (h _ ?_ (setCells_frm g _ 0 w))
  · intro j hj
    rw [bv_size] at hj
    refine ⟨?_, ?_⟩
    · rw [Nat.zero_add, cell_of_row w g j _ t _ hg]
      simp [bv_size, hj]
    · rw [Nat.zero_add]; exact frozen_of_row w g j _ t hg
  · have := setCells_at g (bv v ka kc).toList 0 w [] (bv u ua uc).toList t (by simpa using hg) rfl (by simp [bv_size])
    rw [this]
    simp [bv_size, List.drop_eq_nil_of_le]
end
theorem BBox.below {w w' : World} {g : Nat} {x : Bv} {ka : Option Addr} {kc : Nat} (h : BBox w g x ka kc) (hb : Below w.heap.size w w') : BBox w' g x ka kc := by
  have hl : g < w.heap.size := World.block_lt_of_cell? w ⟨g, 0, none⟩ h.c0
  exact ⟨by rw [hb.cell (p := ⟨g, 0, none⟩) hl]; exact h.c0, by rw [hb.cell (p := ⟨g, 33, none⟩) hl]; exact h.c33, by rw [hb.cell (p := ⟨g, 34, none⟩) hl]; exact h.c34⟩

set_option maxRecDepth 100000 in
set_option maxHeartbeats 3200000 in
theorem rcheck_any (ad : Option Addr) (n cap : Nat) (X : Nat → Bv) (w : World) (h : BrAt w ad n X) (hn : n ≤ 1000000) (hx : ∀ i, i < n → (X i).n ≤ 1000000) :
    Calls Tryz.prog 33 #[.agg #[.slice ad n cap]] w fun e w' => e = .returned (.int .i64 (chkE X n)) ∧ Below w.heap.size w w' := by
  have HB : Hid (BrAt w ad n X) := h
  have hb0 : Below w.heap.size w (w.alloc (.cells #[.slice ad n cap] 68)) := (Below.refl _ w).alloc (Nat.le_refl _) _
  have hc0 : (w.alloc (.cells #[.slice ad n cap] 68)).cell? ⟨w.heap.size, 0, none⟩ = some (.slice ad n cap) := by simp
  clear h
  by_cases h1 : n < 1
  · have h1' : (n : Int) < 1 := by omega
    have HE : Hid (chkE X n = 1) := if_neg (fun h => by have := h.1; omega)
    go_enter Tryz.func33, Tryz.ntmps33
    go_wp2
    go_ret
    exact ⟨by rw [HE.out]; rfl, hb0⟩
  have h1' : ¬ (n : Int) < 1 := by omega
  by_cases h2 : 8 < n
  · have h2' : (8 : Int) < n := by omega
    have HE : Hid (chkE X n = 1) := if_neg (fun h => by have := h.1; omega)
    go_enter Tryz.func33, Tryz.ntmps33
    go_wp2
    go_ret
    exact ⟨by rw [HE.out]; rfl, hb0⟩
  have h2' : ¬ (8 : Int) < n := by omega
  go_enter Tryz.func33, Tryz.ntmps33
  go_wp2
  generalize w.alloc (.cells #[.slice ad n cap] 68) = W0 at *
  go_loopw [3, 4, 5, 6] (fun iv _ _ _ wr => ∃ i : Nat, i ≤ n ∧ iv = .int .i64 i ∧ AllOk X i ∧ Below w.heap.size w wr ∧ wr.cell? ⟨w.heap.size, 0, none⟩ = some (.slice ad n cap)) (fun iv _ _ _ _ => n + 1 - (intOf iv).toNat)
  case atStart => exact ⟨0, by omega, rfl, fun j hj => by omega, hb0, hc0⟩
  case round =>
    clear hb0 hc0
    obtain ⟨i, hi, rfl, hk, hb, hc0⟩ := hrel
    have HK : Hid (AllOk X i) := hk
    clear hk
    by_cases hlt : i < n
    · have hlt' : (i : Int) < n := by omega
      obtain ⟨b, off, rfl, hc⟩ := HB.out.at_ (by omega)
      obtain ⟨ka, kc, hr0, hI0⟩ := hc i hlt
      have HR : Hid (wr.rangeAt b (off + i * 35) (brl (X i) ka kc)) := range_below hr0 hb
      have HI : Hid (IsAt w ka (X i).n (X i).z) := hI0
      have hxi := hx i hlt
      have hsz := World.block_lt_of_cell? wr ⟨w.heap.size, 0, none⟩ hc0
      clear hc hr0 hI0
      have HB1 : Hid (∀ w' : World, w'.heap[wr.heap.size]? = some (.cells (bv (X i) ka kc) 73 (0, 0)) → Frm [wr.heap.size] (wr.alloc (.cells (bv b0 none 0) 73)) w' → Below w.heap.size w w' ∧ w'.cell? ⟨w.heap.size, 0, none⟩ = some (.slice (some ⟨b, off, none⟩) n cap) ∧ BBox w' wr.heap.size (X i) ka kc ∧ w.heap.size < w'.heap.size) := by
        intro w' h1 h2
        have h3 : Below wr.heap.size (wr.alloc (.cells (bv b0 none 0) 73)) w' := h2.below (by simp) (by simp)
        have h4 : Below wr.heap.size wr w' := ((Below.refl _ wr).alloc (Nat.le_refl _) _).trans h3
        refine ⟨hb.trans (h4.mono hb.size), ?_, bbox_of h1, Nat.lt_of_lt_of_le hsz h4.size⟩
        rw [h4.cell (p := ⟨w.heap.size, 0, none⟩) hsz]; exact hc0
      by_cases g0 : ((X i).n : Int) < 1
      · have HE : Hid (chkE X n = 1) := if_neg (fun hh => by have h := hh.2 i hlt; have := h.1.2; omega)
        go_wp2_with (first | (refine wpList_load_mid rfl 73 _ rfl b (off + i * 35) rfl (brl (X i) ka kc) _ HR.out Tryz.underlying73 rfl (szRl _ _ _) ?_) | (refine wpList_allocR rfl rfl ?_) | (refine wpList_storeR _ szR rfl _ _ rfl wr.heap.size rfl (X i) b0 ka none kc 0 73 rfl (heap_alloc_new wr _) ?_; intro w1 hg1 hf1; obtain ⟨hb1, c10, ⟨c0, c33, c34⟩, hs1⟩ := HB1.out w1 hg1 hf1; clear hg1 hf1) | fail)
        go_ret
        exact ⟨by rw [HE.out]; rfl, hb1⟩
      by_cases g1 : (X i).af < 0
      · have HE : Hid (chkE X n = 1) := if_neg (fun hh => by have h := hh.2 i hlt; have := h.2.1; omega)
        go_wp2_with (first | (refine wpList_load_mid rfl 73 _ rfl b (off + i * 35) rfl (brl (X i) ka kc) _ HR.out Tryz.underlying73 rfl (szRl _ _ _) ?_) | (refine wpList_allocR rfl rfl ?_) | (refine wpList_storeR _ szR rfl _ _ rfl wr.heap.size rfl (X i) b0 ka none kc 0 73 rfl (heap_alloc_new wr _) ?_; intro w1 hg1 hf1; obtain ⟨hb1, c10, ⟨c0, c33, c34⟩, hs1⟩ := HB1.out w1 hg1 hf1; clear hg1 hf1) | fail)
        go_ret
        exact ⟨by rw [HE.out]; rfl, hb1⟩
      by_cases g2 : 1099511627776 < (X i).af
      · have HE : Hid (chkE X n = 1) := if_neg (fun hh => by have h := hh.2 i hlt; have := h.2.1; omega)
        go_wp2_with (first | (refine wpList_load_mid rfl 73 _ rfl b (off + i * 35) rfl (brl (X i) ka kc) _ HR.out Tryz.underlying73 rfl (szRl _ _ _) ?_) | (refine wpList_allocR rfl rfl ?_) | (refine wpList_storeR _ szR rfl _ _ rfl wr.heap.size rfl (X i) b0 ka none kc 0 73 rfl (heap_alloc_new wr _) ?_; intro w1 hg1 hf1; obtain ⟨hb1, c10, ⟨c0, c33, c34⟩, hs1⟩ := HB1.out w1 hg1 hf1; clear hg1 hf1) | fail)
        go_ret
        exact ⟨by rw [HE.out]; rfl, hb1⟩
      by_cases g3 : (X i).ol < 0
      · have HE : Hid (chkE X n = 1) := if_neg (fun hh => by have h := hh.2 i hlt; have := h.2.2; omega)
        go_wp2_with (first | (refine wpList_load_mid rfl 73 _ rfl b (off + i * 35) rfl (brl (X i) ka kc) _ HR.out Tryz.underlying73 rfl (szRl _ _ _) ?_) | (refine wpList_allocR rfl rfl ?_) | (refine wpList_storeR _ szR rfl _ _ rfl wr.heap.size rfl (X i) b0 ka none kc 0 73 rfl (heap_alloc_new wr _) ?_; intro w1 hg1 hf1; obtain ⟨hb1, c10, ⟨c0, c33, c34⟩, hs1⟩ := HB1.out w1 hg1 hf1; clear hg1 hf1) | fail)
        go_ret
        exact ⟨by rw [HE.out]; rfl, hb1⟩
      by_cases g4 : 65536 < (X i).ol
      · have HE : Hid (chkE X n = 1) := if_neg (fun hh => by have h := hh.2 i hlt; have := h.2.2; omega)
        go_wp2_with (first | (refine wpList_load_mid rfl 73 _ rfl b (off + i * 35) rfl (brl (X i) ka kc) _ HR.out Tryz.underlying73 rfl (szRl _ _ _) ?_) | (refine wpList_allocR rfl rfl ?_) | (refine wpList_storeR _ szR rfl _ _ rfl wr.heap.size rfl (X i) b0 ka none kc 0 73 rfl (heap_alloc_new wr _) ?_; intro w1 hg1 hf1; obtain ⟨hb1, c10, ⟨c0, c33, c34⟩, hs1⟩ := HB1.out w1 hg1 hf1; clear hg1 hf1) | fail)
        go_ret
        exact ⟨by rw [HE.out]; rfl, hb1⟩
      go_wp2_with (first | (refine wpList_load_mid rfl 73 _ rfl b (off + i * 35) rfl (brl (X i) ka kc) _ HR.out Tryz.underlying73 rfl (szRl _ _ _) ?_) | (refine wpList_allocR rfl rfl ?_) | (refine wpList_storeR _ szR rfl _ _ rfl wr.heap.size rfl (X i) b0 ka none kc 0 73 rfl (heap_alloc_new wr _) ?_; intro w1 hg1 hf1; obtain ⟨hb1, c10, ⟨c0, c33, c34⟩, hs1⟩ := HB1.out w1 hg1 hf1; clear hg1 hf1) | fail)
      have HW : Hid (Below w.heap.size w w1 ∧ w1.cell? ⟨w.heap.size, 0, none⟩ = some (.slice (some ⟨b, off, none⟩) n cap) ∧ w.heap.size < w1.heap.size) := ⟨hb1, c10, hs1⟩
      have hI1 : IsAt w1 ka (X i).n (X i).z := HI.out.below hb1
      have HI1 : Hid (IsAt w1 ka (X i).n (X i).z) := hI1
      have HC0 : Hid (w1.cell? ⟨wr.heap.size, 0, none⟩ = some (.slice ka (X i).n kc)) := c0
      have hl0 : wr.heap.size < w1.heap.size := World.block_lt_of_cell? w1 ⟨wr.heap.size, 0, none⟩ c0
      have HO : Hid (BOk (X i) ↔ KOk (X i).z (X i).n) := ⟨fun h => h.1.1, fun h => ⟨⟨h, by omega⟩, ⟨g1, by omega⟩, ⟨g3, by omega⟩⟩⟩
      clear HB1 hb1 c10 c0 c33 c34 hs1 HR hI1 HI hc0 g1 g2 g3 g4
      have hb2 := Below.refl w1.heap.size w1
      go_loopw [5, 6] (fun lv kv wq => ∃ k : Nat, k ≤ (X i).n ∧ lv = .int .i64 (lastK (X i).z k) ∧ kv = .int .i64 k ∧ KOk (X i).z k ∧ Below w1.heap.size w1 wq) (fun _ kv _ => (X i).n + 1 - (intOf kv).toNat)
      case atStart => exact ⟨0, by omega, rfl, rfl, fun j hj => by omega, hb2⟩
      case round =>
        clear hb2
        rename World => wq
        obtain ⟨k, hk, rfl, rfl, hK, hbq⟩ := hrel
        have HKK : Hid (KOk (X i).z k) := hK
        clear hK
        have cq : wq.cell? ⟨wr.heap.size, 0, none⟩ = some (.slice ka (X i).n kc) := by rw [hbq.cell (p := ⟨wr.heap.size, 0, none⟩) hl0]; exact HC0.out
        by_cases hkl : k < (X i).n
        · have hkl' : (k : Int) < (X i).n := by omega
          obtain ⟨b2, off2, rfl, hc2⟩ := HI1.out (by omega)
          have hck : wq.cell? ⟨b2, off2 + k, none⟩ = some (.int .i64 ((X i).z k)) := by
            have := hc2 k hkl
            rw [hbq.cell (p := ⟨b2, off2 + k, none⟩) (World.block_lt_of_cell? w1 ⟨b2, off2 + k, none⟩ this)]; exact this
          clear hc2
          by_cases p1 : lastK (X i).z k < (X i).z k
          · have p1' : ¬ (X i).z k ≤ lastK (X i).z k := by omega
            by_cases p2 : (X i).z k < 16
            · have p2' : ¬ 15 < (X i).z k := by omega
              have HN : Hid (KOk (X i).z (k + 1)) := fun j hj => by
                by_cases e : j = k
                · subst e; exact ⟨p1, p2⟩
                · exact HKK.out j (by omega)
              have e1 := lastK_succ (X i).z k
              generalize lastK (X i).z k = q at *
              go_wp2
              go_roundw
              case rel => exact ⟨k + 1, by omega, by rw [e1], by go_num, HN.out, hbq⟩
              case measure => simp [intOf]; omega
            · have p2' : 15 < (X i).z k := by omega
              have HE : Hid (chkE X n = 1) := if_neg (fun hh => by have h := (HO.out.1 (hh.2 i hlt)) k hkl; omega)
              generalize lastK (X i).z k = q at *
              go_wp2
              go_ret
              exact ⟨by rw [HE.out]; rfl, HW.out.1.trans (hbq.mono HW.out.1.size)⟩
          · have p1' : (X i).z k ≤ lastK (X i).z k := by omega
            have HE : Hid (chkE X n = 1) := if_neg (fun hh => by have h := (HO.out.1 (hh.2 i hlt)) k hkl; omega)
            generalize lastK (X i).z k = q at *
            go_wp2
            go_ret
            exact ⟨by rw [HE.out]; rfl, HW.out.1.trans (hbq.mono HW.out.1.size)⟩
        · obtain rfl : k = (X i).n := by omega
          have hnn : ¬ (((X i).n : Int) < (X i).n) := by omega
          have HN : Hid (AllOk X (i + 1)) := fun j hj => by
            by_cases e : j = i
            · subst e; exact HO.out.2 HKK.out
            · exact HK.out j (by omega)
          go_wp2
          go_roundw
          case rel => exact ⟨i + 1, by omega, by go_num, HN.out, HW.out.1.trans (hbq.mono HW.out.1.size), by rw [hbq.cell (p := ⟨w.heap.size, 0, none⟩) HW.out.2.2]; exact HW.out.2.1⟩
          case measure => simp [intOf]; omega
    · obtain rfl : i = n := by omega
      have hnn : ¬ ((i : Int) < i) := by omega
      have HE : Hid (chkE X i = 0) := if_pos ⟨by omega, HK.out⟩
      go_wp2
      go_ret
      exact ⟨by rw [HE.out]; rfl, hb⟩
end Go.Proofs.YtanchjfodcjlmaaGreatDoor.Cd
