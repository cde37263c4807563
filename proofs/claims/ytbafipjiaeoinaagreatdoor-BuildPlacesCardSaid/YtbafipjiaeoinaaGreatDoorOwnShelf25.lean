/- tx.Check. -/
import Derived.Test.YtbafipjiaeoinaaGreatDoorOwnShelf20
import Derived.Test.YtbafipjiaeoinaaGreatDoorProg
import Derived.Ground.Names8Prog
import Derived.Shelf.Spec.SlicesGrow
namespace Go.Proofs.YtbafipjiaeoinaaGreatDoor
open Go.RowKit

theorem kerrV_0 : errV 0 = .nilIface := rfl
theorem kerrV_ne {x : Int} (h : x ≠ 0) : errV x = .iface 101 (.int .i64 x) := if_neg h
/-- The first output's error that is none. -/
def outsE (O : Nat → To) : Nat → Int
  | 0 => 0
  | i + 1 => if outsE O i = 0 then outE (O i) else outsE O i
theorem outsE_stop {O : Nat → To} {i : Nat} (h : outsE O i ≠ 0) : ∀ n, i ≤ n → outsE O n = outsE O i
  | 0, hn => by obtain rfl : i = 0 := (by omega); rfl
  | n + 1, hn => by
    by_cases e : i = n + 1
    · subst e; rfl
    · have ih := outsE_stop h n (by omega)
      rw [outsE, ih, if_neg h]
/-- The numbers that a transaction's counts may be. -/
def NumOk (lk : Int) (n m : Nat) : Prop := (0 ≤ lk ∧ lk ≤ 1099511627776) ∧ (1 ≤ n ∧ n ≤ 64) ∧ (1 ≤ m ∧ m ≤ 64)
instance (lk : Int) (n m : Nat) : Decidable (NumOk lk n m) := inferInstanceAs (Decidable (_ ∧ _))
/-- A transaction's error. -/
def txE (lk : Int) (n : Nat) (X : Nat → Ti) (m : Nat) (O : Nat → To) : Int :=
  if ¬ NumOk lk n m then 4 else if ¬ InsOk X n then 4 else if ¬ Apart X n then 9 else if outsE O m ≠ 0 then outsE O m else totE O m
def txl (lk : Int) (ia : Option Addr) (n ic : Nat) (oa : Option Addr) (m oc : Nat) : List Value := [.int .i64 lk, .slice ia n ic, .slice oa m oc]
theorem txl_range {w : World} {g : Nat} {lk : Int} {ia : Option Addr} {n ic : Nat} {oa : Option Addr} {m oc : Nat} {t : TypeId} {fr : Nat × Nat} (h : w.heap[g]? = some (.cells #[.int .i64 lk, .slice ia n ic, .slice oa m oc] t fr)) : w.rangeAt g 0 (txl lk ia n ic oa m oc) := fun j v hv => by
  rw [Nat.zero_add, cell_of_row _ _ j _ _ _ h]
  simpa [txl] using hv
theorem szTx : (Tryz.prog.info? 50).map (·.size) = some 3 := by kernel_rfl
set_option maxRecDepth 100000 in
set_option maxHeartbeats 3200000 in
theorem kcheck_any (lk : Int) (ia : Option Addr) (n ic : Nat) (oa : Option Addr) (m oc : Nat) (X : Nat → Ti) (S : Nat → Option Addr × Nat) (O : Nat → To) (w : World) (h : TiAt w ia n X S) (ho : ToAt w oa m O) (hs : ∀ i, i < m → (O i).Small) (hn : n ≤ 1000000) (hm : m ≤ 1000000) :
    Calls Tryz.prog 51 #[.agg (txv lk ia n ic oa m oc)] w fun e w' => e = .returned (errV (txE lk n X m O)) ∧ Below w.heap.size w w' := by
  have hb0 : Below w.heap.size w (w.alloc (.cells #[.int .i64 lk, .slice ia n ic, .slice oa m oc] 50)) := (Below.refl _ w).alloc (Nat.le_refl _) _
  have hr0 := heap_alloc_new w (.cells #[.int .i64 lk, .slice ia n ic, .slice oa m oc] 50)
  have HH : Hid (TiAt w ia n X S ∧ ToAt w oa m O ∧ ∀ i, i < m → (O i).Small) := ⟨h, ho, hs⟩
  clear h ho hs
  unfold txv
  by_cases hN : NumOk lk n m
  · obtain ⟨hl, hnn, hmm⟩ := hN
    have HN : Hid (NumOk lk n m) := ⟨hl, hnn, hmm⟩
    have d1 : decide (0 ≤ lk ∧ lk ≤ 1099511627776) = true := by simpa using hl
    have d2 : decide ((1 : Int) ≤ (n : Int) ∧ (n : Int) ≤ 64) = true := by simp; omega
    have d3 : decide ((1 : Int) ≤ (m : Int) ∧ (m : Int) ≤ 64) = true := by simp; omega
    go_enter Tryz.func51, Tryz.ntmps51
    go_wp2_with fail
    generalize w.alloc (.cells #[.int .i64 lk, .slice ia n ic, .slice oa m oc] 50) = W0 at *
    have c1 : W0.cell? ⟨w.heap.size, 1, none⟩ = some (.slice ia n ic) := by rw [cell_of_row _ _ 1 _ _ _ hr0]; rfl
    have c2 : W0.cell? ⟨w.heap.size, 2, none⟩ = some (.slice oa m oc) := by rw [cell_of_row _ _ 2 _ _ _ hr0]; rfl
    refine (kwithin_any lk 0 1099511627776 _).mono ?_
    rintro e w1 ⟨rfl, hW⟩
    rw [hW, d1]
    clear hW
    go_wp2_with fail
    refine (kwithin_any n 1 64 _).mono ?_
    rintro e w1 ⟨rfl, hW⟩
    rw [hW, d2]
    clear hW
    go_wp2_with fail
    refine (kwithin_any m 1 64 _).mono ?_
    rintro e w1 ⟨rfl, hW⟩
    rw [hW, d3]
    clear hW d1 d2 d3 hl hnn hmm
    go_wp2_with fail
    refine (kcontains_any ia n ic X S W0 (HH.out.1.below hb0) hn).mono ?_
    rintro e w2 ⟨rfl, hb2⟩
    by_cases hI : InsOk X n
    · have d4 : (!decide (InsOk X n)) = false := by simpa using hI
      rw [d4]
      clear d4
      have HI : Hid (InsOk X n) := hI
      clear hI
      have HB2 : Hid (Below w.heap.size w w2) := hb0.trans (hb2.mono hb0.size)
      have hr2 : w2.heap[w.heap.size]? = some (.cells #[.int .i64 lk, .slice ia n ic, .slice oa m oc] 50 (0, 0)) := by rw [hb2.block _ (lt_of_block hr0)]; exact hr0
      have HR2 : Hid (∀ w', Below w2.heap.size w2 w' → w'.heap[w.heap.size]? = some (.cells #[.int .i64 lk, .slice ia n ic, .slice oa m oc] 50 (0, 0))) := fun w' hb => by rw [hb.block _ (lt_of_block hr2)]; exact hr2
      clear hb2 hr2 hr0 hb0 c1 c2
      go_wp2_with fail
      have HS : Hid (∀ w', Below w2.heap.size w2 w' → w'.rangeAt w.heap.size 0 (txl lk ia n ic oa m oc) ∧ w'.cell? ⟨w.heap.size, 1, none⟩ = some (.slice ia n ic)) := fun w' hb => ⟨txl_range (HR2.out w' hb), by rw [cell_of_row _ _ 1 _ _ _ (HR2.out w' hb)]; rfl⟩
      have S0 := HS.out w2.drew (Below.refl _ w2).drew
      refine wp_region_noPanic ?_
      refine wp_region_held_drew (S := fun w' => w'.rangeAt w.heap.size 0 (txl lk ia n ic oa m oc) ∧ w'.cell? ⟨w.heap.size, 1, none⟩ = some (.slice ia n ic)) (by kernel_rfl) S0 (fun hHeld => ?_)
      refine wpAnyH_take (i := 0) (oi := { dst := some 32, op := Go.Op.load 50 (Go.Operand.tmp 1), type := 50, pos := "tx.go:54", after := #[], guard := none }) rfl (by kernel_rfl) (by kernel_rfl) (by kernel_rfl) (fun _ _ _ h => h) (yieldsIf_load_mid (by rfl) _ _ rfl w.heap.size 0 rfl (txl lk ia n ic oa m oc) _ (fun _ h => h.1) Tryz.underlying50 rfl szTx) (by assumption) ?_
      try simp only [Act.put, List.setIfInBounds_toArray, List.set_cons_zero, List.set_cons_succ]
      refine wpAnyH_take (i := 3) (oi := { dst := some 35, op := Go.Op.fieldAddr 50 (Go.Operand.tmp 1) 1, type := 0, pos := "tx.go:54", after := #[], guard := none }) (v := ?_) rfl (by kernel_rfl) (by kernel_rfl) (by kernel_rfl) (fun _ _ _ h => h) (Or.inl ⟨by rfl, ?_⟩) (by assumption) ?_
      rotate_left
      · intro wz hSw; (try dsimp only at hSw); go_simp; (try with_reducible rfl)
      try simp only [Act.put, List.setIfInBounds_toArray, List.set_cons_zero, List.set_cons_succ]
      refine wpAnyH_take (i := 4) (oi := { dst := some 36, op := Go.Op.load 47 (Go.Operand.tmp 35), type := 47, pos := "tx.go:54", after := #[{ on := 3, ground := Go.Ground.data }], guard := none }) (v := ?_) rfl (by kernel_rfl) (by kernel_rfl) (by kernel_rfl) (fun _ _ _ h => h) (Or.inl ⟨by rfl, ?_⟩) (by assumption) ?_
      rotate_left
      · intro wz hSw; (try dsimp only at hSw); go_simp; (try with_reducible rfl)
      try simp only [Act.put, List.setIfInBounds_toArray, List.set_cons_zero, List.set_cons_succ]
      refine wpAnyH_take (i := 5) (oi := { dst := some 37, op := Go.Op.call { callee := Go.Callee.builtin Go.Builtin.len, args := #[Go.Operand.tmp 36], argTypes := #[47] }, type := 3, pos := "tx.go:54", after := #[{ on := 4, ground := Go.Ground.data }], guard := none }) (v := ?_) rfl (by kernel_rfl) (by kernel_rfl) (by kernel_rfl) (fun _ _ _ h => h) (Or.inl ⟨by rfl, ?_⟩) (by assumption) ?_
      rotate_left
      · intro wz hSw; (try dsimp only at hSw); go_simp; (try with_reducible rfl)
      try simp only [Act.put, List.setIfInBounds_toArray, List.set_cons_zero, List.set_cons_succ]
      refine wpAnyH_ready (rs := [1]) (by kernel_rfl) (by simp) ?_
      refine (AllReadyH.cons (o := { dst := some 33, op := Go.Op.call { callee := Go.Callee.value (Go.Operand.func 82), args := #[Go.Operand.tmp 32], argTypes := #[50] }, type := 172, pos := "tx.go:54", after := #[{ on := 0, ground := Go.Ground.data }], guard := none }) rfl (fun K hK => ?_) AllReadyH.nil)
      go_simp
      refine (points_any lk ia n ic oa m oc X S w2.drew (HH.out.1.below HB2.out.drew) (fun i hi => by have := (HI.out i hi).1; exact ⟨by omega, by omega⟩) hn).mono ?_
      rintro e w3 ⟨⟨pb, rfl, hpm⟩, hb3⟩
      have HB3 : Hid (Below w2.heap.size w2 w3) := (Below.refl _ w2).drew.trans hb3
      clear hb3
      obtain ⟨D, kk, hD, hDs⟩ := hpm
      have hlen : ∀ ty, (Builtin.len_ #[172] ty #[.map (some pb)]).run Tryz.prog w3 = .ok (.int .i64 ((ptsL X n).length : Nat)) w3 := fun ty => by rw [← hDs]; exact hD.len (t := 172) (e := 211) Tryz.underlying172 ty
      clear hD hDs
      refine hK.out _ _ (HS.out w3 HB3.out) (fun _ => ?_)
      clear hK K
      refine wpAnyH_ready (rs := [2]) (by kernel_rfl) (by simp) ?_
      refine (AllReadyH.cons (o := { dst := some 34, op := Go.Op.call { callee := Go.Callee.builtin Go.Builtin.len, args := #[Go.Operand.tmp 33], argTypes := #[172] }, type := 3, pos := "tx.go:54", after := #[{ on := 1, ground := Go.Ground.data }, { on := 1, ground := Go.Ground.chain }], guard := none }) rfl (fun K hK => ?_) AllReadyH.nil)
      go_simp
      refine hK.out _ _ (HS.out w3 HB3.out) (fun _ => ?_)
      clear hK K hlen
      try simp only [Act.put, List.setIfInBounds_toArray, List.set_cons_zero, List.set_cons_succ]
      refine wpAnyH_take (i := 6) (oi := { dst := some 38, op := Go.Op.binOp Go.BinOp.lss 3 (Go.Operand.tmp 34) (Go.Operand.tmp 37) 3, type := 4, pos := "tx.go:54", after := #[{ on := 2, ground := Go.Ground.data }, { on := 5, ground := Go.Ground.data }], guard := none }) (v := ?_) rfl (by kernel_rfl) (by kernel_rfl) (by kernel_rfl) (fun _ _ _ h => h) (Or.inl ⟨by rfl, ?_⟩) (by assumption) ?_
      rotate_left
      · intro wz hSw; (try dsimp only at hSw); go_simp; (try with_reducible rfl)
      try simp only [Act.put, List.setIfInBounds_toArray, List.set_cons_zero, List.set_cons_succ]
      refine wpAnyH_take (i := 7) (oi := { dst := some 31, op := Go.Op.assign (Go.Operand.tmp 38), type := 4, pos := "tx.go:54", after := #[{ on := 6, ground := Go.Ground.data }, { on := 2, ground := Go.Ground.chain }], guard := none }) (v := ?_) rfl (by kernel_rfl) (by kernel_rfl) (by kernel_rfl) (fun _ _ _ h => h) (Or.inl ⟨by rfl, ?_⟩) (by assumption) ?_
      rotate_left
      · intro wz hSw; (try dsimp only at hSw); go_simp; (try with_reducible rfl)
      try simp only [Act.put, List.setIfInBounds_toArray, List.set_cons_zero, List.set_cons_succ]
      refine wpAnyH_done (by kernel_rfl) (NoPanic.normal ?_) _
      try simp only [Act.put, List.setIfInBounds_toArray, List.set_cons_zero, List.set_cons_succ]
      clear hHeld S0
      by_cases hA : Apart X n
      · have hl : (ptsL X n).length = n := (ptsL_full X n).2 hA
        have hl' : decide ((ptsL X n).length < n) = false := by simp; omega
        rw [hl']
        clear hl'
        have HE : Hid (txE lk n X m O = if outsE O m ≠ 0 then outsE O m else totE O m) := by unfold txE; rw [if_neg (by simpa using HN.out), if_neg (by simpa using HI.out), if_neg (by simpa using hA)]; exact rfl
        have hb3 : Below w.heap.size w w3 := HB2.out.trans (HB3.out.mono HB2.out.size)
        have hr3 := HR2.out w3 HB3.out
        have c2 : w3.cell? ⟨w.heap.size, 2, none⟩ = some (.slice oa m oc) := by rw [cell_of_row _ _ 2 _ _ _ hr3]; rfl
        clear hA hl HS HB3 HB2 HR2 HI HN
        go_wp2
        clear c2
        go_loopw [2, 5, 6, 43] (fun _ _ _ iv wr => ∃ i : Nat, i ≤ m ∧ iv = .int .i64 i ∧ outsE O i = 0 ∧ Below w.heap.size w wr ∧ wr.heap[w.heap.size]? = some (.cells #[.int .i64 lk, .slice ia n ic, .slice oa m oc] 50 (0, 0))) (fun _ _ _ iv _ => m + 1 - (intOf iv).toNat)
        case atStart => exact ⟨0, by omega, rfl, rfl, hb3, hr3⟩
        case round =>
          clear hb3 hr3
          obtain ⟨i, hi, rfl, hz, hb, hr⟩ := hrel
          have HZ : Hid (outsE O i = 0) := hz
          clear hz
          by_cases hlt : i < m
          · have hlt' : (i : Int) < m := by omega
            obtain ⟨b, off, rfl, hc⟩ := HH.out.2.1.at_ (by omega)
            obtain ⟨ca, cc, hr0, hbr, _⟩ := hc i hlt
            have hr1 := range_below hr0 hb
            have c0 : wr.cell? ⟨b, off + i * 2, none⟩ = some (.int .i64 (O i).am) := by simpa using hr1 0 _ rfl
            have c1 : wr.cell? ⟨b, off + i * 2 + 1, none⟩ = some (.slice ca (O i).cn cc) := hr1 1 _ rfl
            have hb1 : Below w.heap.size w (wr.alloc (.cells #[.int .i64 (O i).am, .slice ca (O i).cn cc] 95)) := hb.alloc hb.size _
            have hk := checkOut_any (O i) ca cc (wr.alloc (.cells #[.int .i64 (O i).am, .slice ca (O i).cn cc] 95)) (hbr.below hb1) (HH.out.2.2 i hlt)
            have hrA : (wr.alloc (.cells #[.int .i64 (O i).am, .slice ca (O i).cn cc] 95)).heap[w.heap.size]? = some (.cells #[.int .i64 lk, .slice ia n ic, .slice (some ⟨b, off, none⟩) m oc] 50 (0, 0)) := by rw [Below.heap_alloc _ _ _ (lt_of_block hr)]; exact hr
            unfold tov at hk
            clear hc hr0 hbr hr1
            by_cases hq : outE (O i) = 0
            · rw [hq, kerrV_0] at hk
              have HN : Hid (outsE O (i + 1) = 0) := by rw [outsE, if_pos HZ.out]; exact hq
              clear hq
              go_wp2_with fail
              generalize wr.alloc (.cells #[.int .i64 (O i).am, .slice ca (O i).cn cc] 95) = q1 at *
              refine hk.mono ?_
              rintro e q2 ⟨rfl, hb2⟩
              have hrB : q2.heap[w.heap.size]? = some (.cells #[.int .i64 lk, .slice ia n ic, .slice (some ⟨b, off, none⟩) m oc] 50 (0, 0)) := by rw [hb2.block _ (lt_of_block hrA)]; exact hrA
              have hbB : Below w.heap.size w q2 := hb1.trans (hb2.mono hb1.size)
              clear hk hrA hb1 hb2 c0 c1 hr hb
              go_wp2
              go_roundw
              case rel => exact ⟨i + 1, by omega, by go_num, HN.out, hbB, hrB⟩
              case measure => simp [intOf]; omega
            · rw [kerrV_ne hq] at hk
              have HE2 : Hid (errV (txE lk n X m O) = .iface 101 (.int .i64 (outE (O i)))) := by
                have e1 : outsE O (i + 1) = outE (O i) := by rw [outsE, if_pos HZ.out]
                have e2 : outsE O m = outE (O i) := by rw [← e1]; exact outsE_stop (by rw [e1]; exact hq) m (by omega)
                rw [HE.out, e2, if_pos hq, kerrV_ne hq]; exact rfl
              clear hq
              go_wp2_with fail
              generalize wr.alloc (.cells #[.int .i64 (O i).am, .slice ca (O i).cn cc] 95) = q1 at *
              refine hk.mono ?_
              rintro e q2 ⟨rfl, hb2⟩
              have hbB : Below w.heap.size w q2 := hb1.trans (hb2.mono hb1.size)
              clear hk hrA hb1 hb2 c0 c1 hr hb
              go_wp2
              go_ret
              exact ⟨by rw [HE2.out]; rfl, hbB⟩
          · obtain rfl : i = m := by omega
            have hnn : ¬ ((i : Int) < i) := by omega
            have HE3 : Hid (txE lk n X i O = totE O i) := by rw [HE.out, if_neg (by simpa using HZ.out)]; exact rfl
            have hk := ktotal_any lk ia n ic oa i oc O wr (HH.out.2.1.below hb) hm
            unfold txv at hk
            obtain ⟨c0, c1, c2⟩ : wr.cell? ⟨w.heap.size, 0, none⟩ = some (.int .i64 lk) ∧ wr.cell? ⟨w.heap.size, 1, none⟩ = some (.slice ia n ic) ∧ wr.cell? ⟨w.heap.size, 2, none⟩ = some (.slice oa i oc) := ⟨by rw [cell_of_row _ _ 0 _ _ _ hr]; rfl, by rw [cell_of_row _ _ 1 _ _ _ hr]; rfl, by rw [cell_of_row _ _ 2 _ _ _ hr]; rfl⟩
            go_wp2_with fail
            refine hk.mono ?_
            rintro e q2 ⟨rfl, hb2⟩
            have hbB : Below w.heap.size w q2 := hb.trans (hb2.mono hb.size)
            clear hk c0 c1 c2 hr hb hb2
            go_wp2
            go_ret
            exact ⟨by rw [HE3.out]; rfl, hbB⟩
      · have hl' : ((ptsL X n).length : Int) < (n : Int) := by have h1 := ptsL_le X n; have h2 : (ptsL X n).length ≠ n := fun h => hA ((ptsL_full X n).1 h); omega
        have HE : Hid (txE lk n X m O = 9) := by unfold txE; rw [if_neg (by simpa using HN.out), if_neg (by simpa using HI.out), if_pos hA]; exact rfl
        have HBE : Hid (Below w.heap.size w w3) := HB2.out.trans (HB3.out.mono HB2.out.size)
        clear hA
        go_wp2
        go_ret
        exact ⟨by rw [HE.out]; rfl, HBE.out⟩
    · have d4 : (!decide (InsOk X n)) = true := by simpa using hI
      rw [d4]
      have HE : Hid (txE lk n X m O = 4) := by unfold txE; rw [if_neg (by simpa using HN.out), if_pos hI]; exact rfl
      have HBE : Hid (Below w.heap.size w w2) := hb0.trans (hb2.mono hb0.size)
      clear d4 hI hr0 hb2 c1 c2 hb0
      go_wp2
      go_ret
      exact ⟨by rw [HE.out]; rfl, HBE.out⟩
  · have HE : Hid (txE lk n X m O = 4) := if_pos hN
    by_cases h1 : 0 ≤ lk ∧ lk ≤ 1099511627776
    · have d1 : decide (0 ≤ lk ∧ lk ≤ 1099511627776) = true := by simpa using h1
      by_cases h2 : 1 ≤ n ∧ n ≤ 64
      · have d2 : decide ((1 : Int) ≤ (n : Int) ∧ (n : Int) ≤ 64) = true := by simp; omega
        have d3 : decide ((1 : Int) ≤ (m : Int) ∧ (m : Int) ≤ 64) = false := by
          have : ¬ (1 ≤ m ∧ m ≤ 64) := fun h => hN ⟨h1, h2, h⟩
          rw [decide_eq_false_iff_not]; omega
        clear hN h1 h2
        go_enter Tryz.func51, Tryz.ntmps51
        go_wp2_with fail
        generalize w.alloc (.cells #[.int .i64 lk, .slice ia n ic, .slice oa m oc] 50) = W0 at *
        have c1 : W0.cell? ⟨w.heap.size, 1, none⟩ = some (.slice ia n ic) := by rw [cell_of_row _ _ 1 _ _ _ hr0]; rfl
        have c2 : W0.cell? ⟨w.heap.size, 2, none⟩ = some (.slice oa m oc) := by rw [cell_of_row _ _ 2 _ _ _ hr0]; rfl
        refine (kwithin_any lk 0 1099511627776 _).mono ?_
        rintro e w1 ⟨rfl, hW⟩
        rw [hW, d1]
        clear hW
        go_wp2_with fail
        refine (kwithin_any n 1 64 _).mono ?_
        rintro e w1 ⟨rfl, hW⟩
        rw [hW, d2]
        clear hW
        go_wp2_with fail
        refine (kwithin_any m 1 64 _).mono ?_
        rintro e w1 ⟨rfl, hW⟩
        rw [hW, d3]
        clear hW
        go_wp2
        go_ret
        exact ⟨by rw [HE.out]; rfl, hb0⟩
      · have d2 : decide ((1 : Int) ≤ (n : Int) ∧ (n : Int) ≤ 64) = false := by rw [decide_eq_false_iff_not]; omega
        clear hN h1 h2
        go_enter Tryz.func51, Tryz.ntmps51
        go_wp2_with fail
        generalize w.alloc (.cells #[.int .i64 lk, .slice ia n ic, .slice oa m oc] 50) = W0 at *
        have c1 : W0.cell? ⟨w.heap.size, 1, none⟩ = some (.slice ia n ic) := by rw [cell_of_row _ _ 1 _ _ _ hr0]; rfl
        refine (kwithin_any lk 0 1099511627776 _).mono ?_
        rintro e w1 ⟨rfl, hW⟩
        rw [hW, d1]
        clear hW
        go_wp2_with fail
        refine (kwithin_any n 1 64 _).mono ?_
        rintro e w1 ⟨rfl, hW⟩
        rw [hW, d2]
        clear hW
        go_wp2
        go_ret
        exact ⟨by rw [HE.out]; rfl, hb0⟩
    · have d1 : decide (0 ≤ lk ∧ lk ≤ 1099511627776) = false := by simpa using h1
      clear hN h1
      go_enter Tryz.func51, Tryz.ntmps51
      go_wp2_with fail
      refine (kwithin_any lk 0 1099511627776 _).mono ?_
      rintro e w1 ⟨rfl, hW⟩
      rw [hW, d1]
      clear hW
      go_wp2
      go_ret
      exact ⟨by rw [HE.out]; rfl, hb0⟩
end Go.Proofs.YtbafipjiaeoinaaGreatDoor
/- The library's contracts laid at this program: which of its functions and types they speak of. -/
namespace Go.Proofs
open Go.Shelf
def Tryz.lGrowB_ren : Go.Shelf.Ren := ⟨fun | 4 => 107 | n => n, fun | 22 => 91 | 25 => 164 | 3 => 3 | 4 => 4 | 9 => 9 | 20 => 20 | 0 => 0 | n => n, fun | n => n⟩
theorem Tryz.lGrowB : Go.Proofs.Lays8.n4 Tryz.prog Tryz.lGrowB_ren := {
  mixed := by kernel_rfl
  f4 := ⟨Tryz.f107.name, by decide, Tryz.func107.trans (congrArg some (by kernel_rfl))⟩
  t0 := Tryz.underlying0
  a0 := Tryz.isAgg0
  z0 := Tryz.sizeOf0
  v0 := Tryz.zeroValue0
  t3 := Tryz.underlying3
  a3 := Tryz.isAgg3
  z3 := Tryz.sizeOf3
  v3 := Tryz.zeroValue3
  t4 := Tryz.underlying4
  a4 := Tryz.isAgg4
  z4 := Tryz.sizeOf4
  v4 := Tryz.zeroValue4
  t9 := Tryz.underlying9
  a9 := Tryz.isAgg9
  z9 := Tryz.sizeOf9
  v9 := Tryz.zeroValue9
  t20 := Tryz.underlying20
  a20 := Tryz.isAgg20
  z20 := Tryz.sizeOf20
  v20 := Tryz.zeroValue20
  t22 := Tryz.underlying91
  a22 := Tryz.isAgg91
  z22 := Tryz.sizeOf91
  v22 := Tryz.zeroValue91 }
end Go.Proofs
