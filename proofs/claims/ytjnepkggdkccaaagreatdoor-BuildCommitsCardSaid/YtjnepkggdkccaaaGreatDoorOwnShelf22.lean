/- tx.Check. -/
import Derived.Test.YtjnepkggdkccaaaGreatDoorOwnShelf18
import Derived.Test.YtjnepkggdkccaaaGreatDoorProg
import Derived.Ground.Names8Prog
import Derived.Shelf.Spec.SlicesGrow
import Derived.Test.YtjnepkggdkccaaaGreatDoorOwnShelf15
import Derived.Test.YtjnepkggdkccaaaGreatDoorOwnShelf11
import Derived.Deep.AppendSrc
import Derived.Maps.AppendAt
import Derived.Deep.Slices
namespace Go.Proofs.YtjnepkggdkccaaaGreatDoor
open Go.RowKit

theorem kerrV_0 : errV 0 = .nilIface := rfl
theorem kerrV_ne {x : Int} (h : x ≠ 0) : errV x = .iface 101 (.int .i64 x) := if_neg h
/-- The first output's error that is none. -/
def outsE (O : Nat → To) : Nat → Int
  | 0 => 0
  | i + 1 => if outsE O i = 0 then outE (O i) else outsE O i
theorem outsE_stop {O : Nat → To} {i : Nat} (h : outsE O i ≠ 0) : ∀ n, i ≤ n → outsE O n = outsE O i
  | 0, hn => by obtain rfl : i = 0 := (by omega); rfl
  | n + 1, hn => by
    by_cases e : i = n + 1
    · subst e; rfl
    · have ih := outsE_stop h n (by omega)
      rw [outsE, ih, if_neg h]
/-- The numbers that a transaction's counts may be. -/
def NumOk (lk : Int) (n m : Nat) : Prop := (0 ≤ lk ∧ lk ≤ 1099511627776) ∧ (1 ≤ n ∧ n ≤ 64) ∧ (1 ≤ m ∧ m ≤ 64)
instance (lk : Int) (n m : Nat) : Decidable (NumOk lk n m) := inferInstanceAs (Decidable (_ ∧ _))
/-- A transaction's error. -/
def txE (lk : Int) (n : Nat) (X : Nat → Ti) (m : Nat) (O : Nat → To) : Int :=
  if ¬ NumOk lk n m then 4 else if ¬ InsOk X n then 4 else if ¬ Apart X n then 9 else if outsE O m ≠ 0 then outsE O m else totE O m
def txl (lk : Int) (ia : Option Addr) (n ic : Nat) (oa : Option Addr) (m oc : Nat) : List Value := [.int .i64 lk, .slice ia n ic, .slice oa m oc]
theorem txl_range {w : World} {g : Nat} {lk : Int} {ia : Option Addr} {n ic : Nat} {oa : Option Addr} {m oc : Nat} {t : TypeId} {fr : Nat × Nat} (h : w.heap[g]? = some (.cells #[.int .i64 lk, .slice ia n ic, .slice oa m oc] t fr)) : w.rangeAt g 0 (txl lk ia n ic oa m oc) := fun j v hv => by
  rw [Nat.zero_add, cell_of_row _ _ j _ _ _ h]
  simpa [txl] using hv
theorem szTx : (Tryz.prog.info? 50).map (·.size) = some 3 := by kernel_rfl
set_option maxRecDepth 100000 in
set_option maxHeartbeats 3200000 in
theorem kcheck_any (lk : Int) (ia : Option Addr) (n ic : Nat) (oa : Option Addr) (m oc : Nat) (X : Nat → Ti) (S : Nat → Option Addr × Nat) (O : Nat → To) (w : World) (h : TiAt w ia n X S) (ho : ToAt w oa m O) (hs : ∀ i, i < m → (O i).Small) (hn : n ≤ 1000000) (hm : m ≤ 1000000) :
    Calls Tryz.prog 51 #[.agg (txv lk ia n ic oa m oc)] w fun e w' => e = .returned (errV (txE lk n X m O)) ∧ Below w.heap.size w w' := by
  have hb0 : Below w.heap.size w (w.alloc (.cells #[.int .i64 lk, .slice ia n ic, .slice oa m oc] 50)) := (Below.refl _ w).alloc (Nat.le_refl _) _
  have hr0 := heap_alloc_new w (.cells #[.int .i64 lk, .slice ia n ic, .slice oa m oc] 50)
  have HH : Hid (TiAt w ia n X S ∧ ToAt w oa m O ∧ ∀ i, i < m → (O i).Small) := ⟨h, ho, hs⟩
  clear h ho hs
  unfold txv
  by_cases hN : NumOk lk n m
  · obtain ⟨hl, hnn, hmm⟩ := hN
    have HN : Hid (NumOk lk n m) := ⟨hl, hnn, hmm⟩
    have d1 : decide (0 ≤ lk ∧ lk ≤ 1099511627776) = true := by simpa using hl
    have d2 : decide ((1 : Int) ≤ (n : Int) ∧ (n : Int) ≤ 64) = true := by simp; omega
    have d3 : decide ((1 : Int) ≤ (m : Int) ∧ (m : Int) ≤ 64) = true := by simp; omega
    go_enter Tryz.func51, Tryz.ntmps51
    go_wp2_with fail
    generalize w.alloc (.cells #[.int .i64 lk, .slice ia n ic, .slice oa m oc] 50) = W0 at *
    have c1 : W0.cell? ⟨w.heap.size, 1, none⟩ = some (.slice ia n ic) := by rw [cell_of_row _ _ 1 _ _ _ hr0]; rfl
    have c2 : W0.cell? ⟨w.heap.size, 2, none⟩ = some (.slice oa m oc) := by rw [cell_of_row _ _ 2 _ _ _ hr0]; rfl
    refine (kwithin_any lk 0 1099511627776 _).mono ?_
    rintro e w1 ⟨rfl, hW⟩
    rw [hW, d1]
    clear hW
    go_wp2_with fail
    refine (kwithin_any n 1 64 _).mono ?_
    rintro e w1 ⟨rfl, hW⟩
    rw [hW, d2]
    clear hW
    go_wp2_with fail
    refine (kwithin_any m 1 64 _).mono ?_
    rintro e w1 ⟨rfl, hW⟩
    rw [hW, d3]
    clear hW d1 d2 d3 hl hnn hmm
    go_wp2_with fail
    refine (kcontains_any ia n ic X S W0 (HH.out.1.below hb0) hn).mono ?_
    rintro e w2 ⟨rfl, hb2⟩
    by_cases hI : InsOk X n
    · have d4 : (!decide (InsOk X n)) = false := by simpa using hI
      rw [d4]
      clear d4
      have HI : Hid (InsOk X n) := hI
      clear hI
      have HB2 : Hid (Below w.heap.size w w2) := hb0.trans (hb2.mono hb0.size)
      have hr2 : w2.heap[w.heap.size]? = some (.cells #[.int .i64 lk, .slice ia n ic, .slice oa m oc] 50 (0, 0)) := by rw [hb2.block _ (lt_of_block hr0)]; exact hr0
      have HR2 : Hid (∀ w', Below w2.heap.size w2 w' → w'.heap[w.heap.size]? = some (.cells #[.int .i64 lk, .slice ia n ic, .slice oa m oc] 50 (0, 0))) := fun w' hb => by rw [hb.block _ (lt_of_block hr2)]; exact hr2
      clear hb2 hr2 hr0 hb0 c1 c2
      go_wp2_with fail
      have HS : Hid (∀ w', Below w2.heap.size w2 w' → w'.rangeAt w.heap.size 0 (txl lk ia n ic oa m oc) ∧ w'.cell? ⟨w.heap.size, 1, none⟩ = some (.slice ia n ic)) := fun w' hb => ⟨txl_range (HR2.out w' hb), by rw [cell_of_row _ _ 1 _ _ _ (HR2.out w' hb)]; rfl⟩
      have S0 := HS.out w2.drew (Below.refl _ w2).drew
      refine wp_region_noPanic ?_
      refine wp_region_held_drew (S := fun w' => w'.rangeAt w.heap.size 0 (txl lk ia n ic oa m oc) ∧ w'.cell? ⟨w.heap.size, 1, none⟩ = some (.slice ia n ic)) (by kernel_rfl) S0 (fun hHeld => ?_)
      refine wpAnyH_take (i := 0) (oi := { dst := some 32, op := Go.Op.load 50 (Go.Operand.tmp 1), type := 50, pos := "tx.go:54", after := #[], guard := none }) rfl (by kernel_rfl) (by kernel_rfl) (by kernel_rfl) (fun _ _ _ h => h) (yieldsIf_load_mid (by rfl) _ _ rfl w.heap.size 0 rfl (txl lk ia n ic oa m oc) _ (fun _ h => h.1) Tryz.underlying50 rfl szTx) (by assumption) ?_
      try simp only [Act.put, List.setIfInBounds_toArray, List.set_cons_zero, List.set_cons_succ]
      refine wpAnyH_take (i := 3) (oi := { dst := some 35, op := Go.Op.fieldAddr 50 (Go.Operand.tmp 1) 1, type := 0, pos := "tx.go:54", after := #[], guard := none }) (v := ?_) rfl (by kernel_rfl) (by kernel_rfl) (by kernel_rfl) (fun _ _ _ h => h) (Or.inl ⟨by rfl, ?_⟩) (by assumption) ?_
      rotate_left
      · intro wz hSw; (try dsimp only at hSw); go_simp; (try with_reducible rfl)
      try simp only [Act.put, List.setIfInBounds_toArray, List.set_cons_zero, List.set_cons_succ]
      refine wpAnyH_take (i := 4) (oi := { dst := some 36, op := Go.Op.load 47 (Go.Operand.tmp 35), type := 47, pos := "tx.go:54", after := #[{ on := 3, ground := Go.Ground.data }], guard := none }) (v := ?_) rfl (by kernel_rfl) (by kernel_rfl) (by kernel_rfl) (fun _ _ _ h => h) (Or.inl ⟨by rfl, ?_⟩) (by assumption) ?_
      rotate_left
      · intro wz hSw; (try dsimp only at hSw); go_simp; (try with_reducible rfl)
      try simp only [Act.put, List.setIfInBounds_toArray, List.set_cons_zero, List.set_cons_succ]
      refine wpAnyH_take (i := 5) (oi := { dst := some 37, op := Go.Op.call { callee := Go.Callee.builtin Go.Builtin.len, args := #[Go.Operand.tmp 36], argTypes := #[47] }, type := 3, pos := "tx.go:54", after := #[{ on := 4, ground := Go.Ground.data }], guard := none }) (v := ?_) rfl (by kernel_rfl) (by kernel_rfl) (by kernel_rfl) (fun _ _ _ h => h) (Or.inl ⟨by rfl, ?_⟩) (by assumption) ?_
      rotate_left
      · intro wz hSw; (try dsimp only at hSw); go_simp; (try with_reducible rfl)
      try simp only [Act.put, List.setIfInBounds_toArray, List.set_cons_zero, List.set_cons_succ]
      refine wpAnyH_ready (rs := [1]) (by kernel_rfl) (by simp) ?_
      refine (AllReadyH.cons (o := { dst := some 33, op := Go.Op.call { callee := Go.Callee.value (Go.Operand.func 82), args := #[Go.Operand.tmp 32], argTypes := #[50] }, type := 172, pos := "tx.go:54", after := #[{ on := 0, ground := Go.Ground.data }], guard := none }) rfl (fun K hK => ?_) AllReadyH.nil)
      go_simp
      refine (points_any lk ia n ic oa m oc X S w2.drew (HH.out.1.below HB2.out.drew) (fun i hi => by have := (HI.out i hi).1; exact ⟨by omega, by omega⟩) hn).mono ?_
      rintro e w3 ⟨⟨pb, rfl, hpm⟩, hb3⟩
      have HB3 : Hid (Below w2.heap.size w2 w3) := (Below.refl _ w2).drew.trans hb3
      clear hb3
      obtain ⟨D, kk, hD, hDs⟩ := hpm
      have hlen : ∀ ty, (Builtin.len_ #[172] ty #[.map (some pb)]).run Tryz.prog w3 = .ok (.int .i64 ((ptsL X n).length : Nat)) w3 := fun ty => by rw [← hDs]; exact hD.len (t := 172) (e := 211) Tryz.underlying172 ty
      clear hD hDs
      refine hK.out _ _ (HS.out w3 HB3.out) (fun _ => ?_)
      clear hK K
      refine wpAnyH_ready (rs := [2]) (by kernel_rfl) (by simp) ?_
      refine (AllReadyH.cons (o := { dst := some 34, op := Go.Op.call { callee := Go.Callee.builtin Go.Builtin.len, args := #[Go.Operand.tmp 33], argTypes := #[172] }, type := 3, pos := "tx.go:54", after := #[{ on := 1, ground := Go.Ground.data }, { on := 1, ground := Go.Ground.chain }], guard := none }) rfl (fun K hK => ?_) AllReadyH.nil)
      go_simp
      refine hK.out _ _ (HS.out w3 HB3.out) (fun _ => ?_)
      clear hK K hlen
      try simp only [Act.put, List.setIfInBounds_toArray, List.set_cons_zero, List.set_cons_succ]
      refine wpAnyH_take (i := 6) (oi := { dst := some 38, op := Go.Op.binOp Go.BinOp.lss 3 (Go.Operand.tmp 34) (Go.Operand.tmp 37) 3, type := 4, pos := "tx.go:54", after := #[{ on := 2, ground := Go.Ground.data }, { on := 5, ground := Go.Ground.data }], guard := none }) (v := ?_) rfl (by kernel_rfl) (by kernel_rfl) (by kernel_rfl) (fun _ _ _ h => h) (Or.inl ⟨by rfl, ?_⟩) (by assumption) ?_
      rotate_left
      · intro wz hSw; (try dsimp only at hSw); go_simp; (try with_reducible rfl)
      try simp only [Act.put, List.setIfInBounds_toArray, List.set_cons_zero, List.set_cons_succ]
      refine wpAnyH_take (i := 7) (oi := { dst := some 31, op := Go.Op.assign (Go.Operand.tmp 38), type := 4, pos := "tx.go:54", after := #[{ on := 6, ground := Go.Ground.data }, { on := 2, ground := Go.Ground.chain }], guard := none }) (v := ?_) rfl (by kernel_rfl) (by kernel_rfl) (by kernel_rfl) (fun _ _ _ h => h) (Or.inl ⟨by rfl, ?_⟩) (by assumption) ?_
      rotate_left
      · intro wz hSw; (try dsimp only at hSw); go_simp; (try with_reducible rfl)
      try simp only [Act.put, List.setIfInBounds_toArray, List.set_cons_zero, List.set_cons_succ]
      refine wpAnyH_done (by kernel_rfl) (NoPanic.normal ?_) _
      try simp only [Act.put, List.setIfInBounds_toArray, List.set_cons_zero, List.set_cons_succ]
      clear hHeld S0
      by_cases hA : Apart X n
      · have hl : (ptsL X n).length = n := (ptsL_full X n).2 hA
        have hl' : decide ((ptsL X n).length < n) = false := by simp; omega
        rw [hl']
        clear hl'
        have HE : Hid (txE lk n X m O = if outsE O m ≠ 0 then outsE O m else totE O m) := by unfold txE; rw [if_neg (by simpa using HN.out), if_neg (by simpa using HI.out), if_neg (by simpa using hA)]; exact rfl
        have hb3 : Below w.heap.size w w3 := HB2.out.trans (HB3.out.mono HB2.out.size)
        have hr3 := HR2.out w3 HB3.out
        have c2 : w3.cell? ⟨w.heap.size, 2, none⟩ = some (.slice oa m oc) := by rw [cell_of_row _ _ 2 _ _ _ hr3]; rfl
        clear hA hl HS HB3 HB2 HR2 HI HN
        go_wp2
        clear c2
        go_loopw [2, 5, 6, 43] (fun _ _ _ iv wr => ∃ i : Nat, i ≤ m ∧ iv = .int .i64 i ∧ outsE O i = 0 ∧ Below w.heap.size w wr ∧ wr.heap[w.heap.size]? = some (.cells #[.int .i64 lk, .slice ia n ic, .slice oa m oc] 50 (0, 0))) (fun _ _ _ iv _ => m + 1 - (intOf iv).toNat)
        case atStart => exact ⟨0, by omega, rfl, rfl, hb3, hr3⟩
        case round =>
          clear hb3 hr3
          obtain ⟨i, hi, rfl, hz, hb, hr⟩ := hrel
          have HZ : Hid (outsE O i = 0) := hz
          clear hz
          by_cases hlt : i < m
          · have hlt' : (i : Int) < m := by omega
            obtain ⟨b, off, rfl, hc⟩ := HH.out.2.1.at_ (by omega)
            obtain ⟨ca, cc, hr0, hbr, _⟩ := hc i hlt
            have hr1 := range_below hr0 hb
            have c0 : wr.cell? ⟨b, off + i * 2, none⟩ = some (.int .i64 (O i).am) := by simpa using hr1 0 _ rfl
            have c1 : wr.cell? ⟨b, off + i * 2 + 1, none⟩ = some (.slice ca (O i).cn cc) := hr1 1 _ rfl
            have hb1 : Below w.heap.size w (wr.alloc (.cells #[.int .i64 (O i).am, .slice ca (O i).cn cc] 95)) := hb.alloc hb.size _
            have hk := checkOut_any (O i) ca cc (wr.alloc (.cells #[.int .i64 (O i).am, .slice ca (O i).cn cc] 95)) (hbr.below hb1) (HH.out.2.2 i hlt)
            have hrA : (wr.alloc (.cells #[.int .i64 (O i).am, .slice ca (O i).cn cc] 95)).heap[w.heap.size]? = some (.cells #[.int .i64 lk, .slice ia n ic, .slice (some ⟨b, off, none⟩) m oc] 50 (0, 0)) := by rw [Below.heap_alloc _ _ _ (lt_of_block hr)]; exact hr
            unfold tov at hk
            clear hc hr0 hbr hr1
            by_cases hq : outE (O i) = 0
            · rw [hq, kerrV_0] at hk
              have HN : Hid (outsE O (i + 1) = 0) := by rw [outsE, if_pos HZ.out]; exact hq
              clear hq
              go_wp2_with fail
              generalize wr.alloc (.cells #[.int .i64 (O i).am, .slice ca (O i).cn cc] 95) = q1 at *
              refine hk.mono ?_
              rintro e q2 ⟨rfl, hb2⟩
              have hrB : q2.heap[w.heap.size]? = some (.cells #[.int .i64 lk, .slice ia n ic, .slice (some ⟨b, off, none⟩) m oc] 50 (0, 0)) := by rw [hb2.block _ (lt_of_block hrA)]; exact hrA
              have hbB : Below w.heap.size w q2 := hb1.trans (hb2.mono hb1.size)
              clear hk hrA hb1 hb2 c0 c1 hr hb
              go_wp2
              go_roundw
              case rel => exact ⟨i + 1, by omega, by go_num, HN.out, hbB, hrB⟩
              case measure => simp [intOf]; omega
            · rw [kerrV_ne hq] at hk
              have HE2 : Hid (errV (txE lk n X m O) = .iface 101 (.int .i64 (outE (O i)))) := by
                have e1 : outsE O (i + 1) = outE (O i) := by rw [outsE, if_pos HZ.out]
                have e2 : outsE O m = outE (O i) := by rw [← e1]; exact outsE_stop (by rw [e1]; exact hq) m (by omega)
                rw [HE.out, e2, if_pos hq, kerrV_ne hq]; exact rfl
              clear hq
              go_wp2_with fail
              generalize wr.alloc (.cells #[.int .i64 (O i).am, .slice ca (O i).cn cc] 95) = q1 at *
              refine hk.mono ?_
              rintro e q2 ⟨rfl, hb2⟩
              have hbB : Below w.heap.size w q2 := hb1.trans (hb2.mono hb1.size)
              clear hk hrA hb1 hb2 c0 c1 hr hb
              go_wp2
              go_ret
              exact ⟨by rw [HE2.out]; rfl, hbB⟩
          · obtain rfl : i = m := by omega
            have hnn : ¬ ((i : Int) < i) := by omega
            have HE3 : Hid (txE lk n X i O = totE O i) := by rw [HE.out, if_neg (by simpa using HZ.out)]; exact rfl
            have hk := ktotal_any lk ia n ic oa i oc O wr (HH.out.2.1.below hb) hm
            unfold txv at hk
            obtain ⟨c0, c1, c2⟩ : wr.cell? ⟨w.heap.size, 0, none⟩ = some (.int .i64 lk) ∧ wr.cell? ⟨w.heap.size, 1, none⟩ = some (.slice ia n ic) ∧ wr.cell? ⟨w.heap.size, 2, none⟩ = some (.slice oa i oc) := ⟨by rw [cell_of_row _ _ 0 _ _ _ hr]; rfl, by rw [cell_of_row _ _ 1 _ _ _ hr]; rfl, by rw [cell_of_row _ _ 2 _ _ _ hr]; rfl⟩
            go_wp2_with fail
            refine hk.mono ?_
            rintro e q2 ⟨rfl, hb2⟩
            have hbB : Below w.heap.size w q2 := hb.trans (hb2.mono hb.size)
            clear hk c0 c1 c2 hr hb hb2
            go_wp2
            go_ret
            exact ⟨by rw [HE3.out]; rfl, hbB⟩
      · have hl' : ((ptsL X n).length : Int) < (n : Int) := by have h1 := ptsL_le X n; have h2 : (ptsL X n).length ≠ n := fun h => hA ((ptsL_full X n).1 h); omega
        have HE : Hid (txE lk n X m O = 9) := by unfold txE; rw [if_neg (by simpa using HN.out), if_neg (by simpa using HI.out), if_pos hA]; exact rfl
        have HBE : Hid (Below w.heap.size w w3) := HB2.out.trans (HB3.out.mono HB2.out.size)
        clear hA
        go_wp2
        go_ret
        exact ⟨by rw [HE.out]; rfl, HBE.out⟩
    · have d4 : (!decide (InsOk X n)) = true := by simpa using hI
      rw [d4]
      have HE : Hid (txE lk n X m O = 4) := by unfold txE; rw [if_neg (by simpa using HN.out), if_pos hI]; exact rfl
      have HBE : Hid (Below w.heap.size w w2) := hb0.trans (hb2.mono hb0.size)
      clear d4 hI hr0 hb2 c1 c2 hb0
      go_wp2
      go_ret
      exact ⟨by rw [HE.out]; rfl, HBE.out⟩
  · have HE : Hid (txE lk n X m O = 4) := if_pos hN
    by_cases h1 : 0 ≤ lk ∧ lk ≤ 1099511627776
    · have d1 : decide (0 ≤ lk ∧ lk ≤ 1099511627776) = true := by simpa using h1
      by_cases h2 : 1 ≤ n ∧ n ≤ 64
      · have d2 : decide ((1 : Int) ≤ (n : Int) ∧ (n : Int) ≤ 64) = true := by simp; omega
        have d3 : decide ((1 : Int) ≤ (m : Int) ∧ (m : Int) ≤ 64) = false := by
          have : ¬ (1 ≤ m ∧ m ≤ 64) := fun h => hN ⟨h1, h2, h⟩
          rw [decide_eq_false_iff_not]; omega
        clear hN h1 h2
        go_enter Tryz.func51, Tryz.ntmps51
        go_wp2_with fail
        generalize w.alloc (.cells #[.int .i64 lk, .slice ia n ic, .slice oa m oc] 50) = W0 at *
        have c1 : W0.cell? ⟨w.heap.size, 1, none⟩ = some (.slice ia n ic) := by rw [cell_of_row _ _ 1 _ _ _ hr0]; rfl
        have c2 : W0.cell? ⟨w.heap.size, 2, none⟩ = some (.slice oa m oc) := by rw [cell_of_row _ _ 2 _ _ _ hr0]; rfl
        refine (kwithin_any lk 0 1099511627776 _).mono ?_
        rintro e w1 ⟨rfl, hW⟩
        rw [hW, d1]
        clear hW
        go_wp2_with fail
        refine (kwithin_any n 1 64 _).mono ?_
        rintro e w1 ⟨rfl, hW⟩
        rw [hW, d2]
        clear hW
        go_wp2_with fail
        refine (kwithin_any m 1 64 _).mono ?_
        rintro e w1 ⟨rfl, hW⟩
        rw [hW, d3]
        clear hW
        go_wp2
        go_ret
        exact ⟨by rw [HE.out]; rfl, hb0⟩
      · have d2 : decide ((1 : Int) ≤ (n : Int) ∧ (n : Int) ≤ 64) = false := by rw [decide_eq_false_iff_not]; omega
        clear hN h1 h2
        go_enter Tryz.func51, Tryz.ntmps51
        go_wp2_with fail
        generalize w.alloc (.cells #[.int .i64 lk, .slice ia n ic, .slice oa m oc] 50) = W0 at *
        have c1 : W0.cell? ⟨w.heap.size, 1, none⟩ = some (.slice ia n ic) := by rw [cell_of_row _ _ 1 _ _ _ hr0]; rfl
        refine (kwithin_any lk 0 1099511627776 _).mono ?_
        rintro e w1 ⟨rfl, hW⟩
        rw [hW, d1]
        clear hW
        go_wp2_with fail
        refine (kwithin_any n 1 64 _).mono ?_
        rintro e w1 ⟨rfl, hW⟩
        rw [hW, d2]
        clear hW
        go_wp2
        go_ret
        exact ⟨by rw [HE.out]; rfl, hb0⟩
    · have d1 : decide (0 ≤ lk ∧ lk ≤ 1099511627776) = false := by simpa using h1
      clear hN h1
      go_enter Tryz.func51, Tryz.ntmps51
      go_wp2_with fail
      refine (kwithin_any lk 0 1099511627776 _).mono ?_
      rintro e w1 ⟨rfl, hW⟩
      rw [hW, d1]
      clear hW
      go_wp2
      go_ret
      exact ⟨by rw [HE.out]; rfl, hb0⟩
end Go.Proofs.YtjnepkggdkccaaaGreatDoor
/- The library's contracts laid at this program: which of its functions and types they speak of. -/
namespace Go.Proofs
open Go.Shelf
def Tryz.lGrowB_ren : Go.Shelf.Ren := ⟨fun | 4 => 107 | n => n, fun | 22 => 91 | 25 => 164 | 3 => 3 | 4 => 4 | 9 => 9 | 20 => 20 | 0 => 0 | n => n, fun | n => n⟩
theorem Tryz.lGrowB : Go.Proofs.Lays8.n4 Tryz.prog Tryz.lGrowB_ren := {
  mixed := by kernel_rfl
  f4 := ⟨Tryz.f107.name, by decide, Tryz.func107.trans (congrArg some (by kernel_rfl))⟩
  t0 := Tryz.underlying0
  a0 := Tryz.isAgg0
  z0 := Tryz.sizeOf0
  v0 := Tryz.zeroValue0
  t3 := Tryz.underlying3
  a3 := Tryz.isAgg3
  z3 := Tryz.sizeOf3
  v3 := Tryz.zeroValue3
  t4 := Tryz.underlying4
  a4 := Tryz.isAgg4
  z4 := Tryz.sizeOf4
  v4 := Tryz.zeroValue4
  t9 := Tryz.underlying9
  a9 := Tryz.isAgg9
  z9 := Tryz.sizeOf9
  v9 := Tryz.zeroValue9
  t20 := Tryz.underlying20
  a20 := Tryz.isAgg20
  z20 := Tryz.sizeOf20
  v20 := Tryz.zeroValue20
  t22 := Tryz.underlying91
  a22 := Tryz.isAgg91
  z22 := Tryz.sizeOf91
  v22 := Tryz.zeroValue91 }
end Go.Proofs
/- Rows of branches of one's own; slices.Concat of two; ints cloned. -/
namespace Go.Proofs.YtjnepkggdkccaaaGreatDoor.Cd
open Go.RowKit Go.Shelf Go.Sort

/-- Ints cloned, whatever they are. -/
theorem clone_keys (ka : Option Addr) (n kc : Nat) (z : Nat → Int) (w : World) (h : IsAt w ka n z) (hn : n ≤ 1000000) :
    Calls Tryz.prog 71 #[.slice ka n kc] w fun e w' => ∃ ka' kc', e = .returned (.slice ka' n kc') ∧ IsAt w' ka' n z ∧ Below w.heap.size w w' ∧ (∀ a, ka' = some a → w.heap.size ≤ a.block ∧ a.block < w'.heap.size) := by
  rcases Nat.eq_zero_or_pos n with h0 | hp
  · subst h0
    cases ka with
    | none =>
      have hcon := Any.slices_Clone_int_nil Tryz.lClone 0 kc w
      change Calls Tryz.prog 71 _ _ _ at hcon
      refine hcon.mono ?_
      rintro e w' ⟨rfl, rfl⟩
      exact ⟨none, 0, rfl, fun h => by omega, Below.refl _ _, fun a h => by cases h⟩
    | some a =>
      have hcon := Any.slices_Clone_int_zero Tryz.lClone a kc w
      change Calls Tryz.prog 71 _ _ _ at hcon
      refine hcon.mono ?_
      rintro e w' ⟨v', rfl, hown, hne, hb⟩
      rcases hown.2 with ⟨e, _⟩ | ⟨g, cap', cur, rfl, hg, hgc, _⟩
      · exact absurd e hne
      · exact ⟨_, cap', rfl, fun h => by omega, hb, fun a h => by cases h; exact ⟨hg, lt_of_block hgc⟩⟩
  · obtain ⟨b, off, rfl, hc⟩ := h hp
    refine (clone_pos b off n kc z w hc hn).mono ?_
    rintro e w' ⟨g, cap', rfl, _, hH, hg, hgl, hb⟩
    refine ⟨_, cap', rfl, fun _ => ⟨g, 0, rfl, fun j hj => ?_⟩, hb, fun a h => by cases h; exact ⟨hg, hgl⟩⟩
    have h1 := (hH j (by simp [keysL_length]; exact hj)).1
    rw [h1]
    simp [keysL, hj]
/-- A row of branches of one's own, made since w0. -/
structure BrO (w0 w : World) (v : Value) (n : Nat) (cs : List Value) : Prop where
  own : w.ownsRow w0.heap.size 164 35 v n cs
  below : Below w0.heap.size w0 w
theorem BrO.nil (w : World) : BrO w w (.slice none 0 0) 0 [] := ⟨World.ownsRow_nil _ _ _ _, Below.refl _ _⟩
/-- Branches that lie somewhere, or nothing: their cells. -/
def BrSrc (w : World) (u : Value) (n : Nat) (cs : List Value) : Prop :=
  ∃ ad c, u = .slice ad n c ∧ cs.length = n * 35 ∧ (∀ x ∈ cs, x.oneCell' = true) ∧ ((ad = none ∧ n = 0) ∨ ∃ a, ad = some a ∧ ∀ j v, cs[j]? = some v → w.cell? (a.add j) = some v)
theorem BrSrc.below {w w' : World} {u : Value} {n : Nat} {cs : List Value} (h : BrSrc w u n cs) (hb : Below w.heap.size w w') : BrSrc w' u n cs := by
  obtain ⟨ad, c, rfl, h1, h2, h⟩ := h
  refine ⟨ad, c, rfl, h1, h2, ?_⟩
  rcases h with h | ⟨a, rfl, hc⟩
  · exact .inl h
  · refine .inr ⟨a, rfl, fun j v hv => ?_⟩
    have h1 := hc j v hv
    rw [hb.cell (p := a.add j) (World.block_lt_of_cell? w _ h1)]
    exact h1
theorem run_append_Br (w w0 : World) (ty : TypeId) (v u : Value) (n m : Nat) (xs ys : List Value) (hown : BrO w0 w v n xs) (hu : BrSrc w u m ys) (hlen : n + m ≤ 1000000) :
    ∃ v' w1, (Builtin.append_ #[91, 91] ty #[v, u]).run Tryz.prog w = .ok v' w1 ∧ BrO w0 w1 v' (n + m) (xs ++ ys) := by
  obtain ⟨i0, hi0, hz0, hz1, hz2⟩ := info_parts infoB
  obtain ⟨ad, c, rfl, hyl, hy1, ⟨rfl, rfl⟩ | ⟨a, rfl, hc⟩⟩ := hu
  · obtain rfl : ys = [] := List.eq_nil_of_length_eq_zero (by omega)
    refine ⟨v, w, ?_, by simpa using hown⟩
    rcases hown.own.2 with ⟨rfl, hl⟩ | ⟨g, cap, cur, rfl, hbs, hg, hcap, _⟩
    · simp [Builtin.append_, run_underlying Tryz.underlying91, sizeOf, typeInfo, hi0, Builtin.lenOf, Builtin.firstCells]
    · have := run_append_room_src (P := Tryz.prog) w 91 91 ty 164 i0 Tryz.underlying91 hi0 g 0 n cap (.slice none 0 c) 0 [] (Src.ofNil w Tryz.underlying91 c) (by omega) (fun j hj => by simp at hj) (fun j hj => by simp at hj)
      simpa [World.setCells] using this
  · obtain ⟨v', w1, hr, h2, h3, _, h5⟩ := run_append_own_at (P := Tryz.prog) w w0.heap.size 91 ty 164 i0 (.agg (bv b0 none 0)) 35 72 Tryz.underlying91 hi0 hz0 hz1 hz2 zero_b (by decide) v n xs hown.own a m c ys hyl hc
      hy1 (by simp only [maxLen]; omega) (by omega) hown.below.size
    refine ⟨v', w1, hr, h2, hown.below.trans ⟨h3.os, h3.tape, h3.output, h3.size, fun k hk => h3.block k (by have := hown.below.size; omega) (fun e => ?_)⟩⟩
    have := (hown.own.lt k e.symm).1
    omega
section
variable {ops : Array Oper} {rest : List Oper} {o : Oper} {a : Act} {w : World} {Q : Exit → Act → World → Prop}
theorem wpList_append_Br (hgd : o.guard = none) (s x : Operand) (ho : o.op = .call { callee := .builtin .append, args := #[s, x], argTypes := #[91, 91] })
    (w0 : World) (v u : Value) (n m : Nat) (xs ys : List Value) (hs : a.eval s = v) (hx : a.eval x = u) (hown : BrO w0 w v n xs) (hu : BrSrc w u m ys) (hlen : n + m ≤ 1000000)
    (h : ∀ v' w1, BrO w0 w1 v' (n + m) (xs ++ ys) → wpList Tryz.prog ops Q rest (a.put o.dst v') w1) : wpList Tryz.prog ops Q (o :: rest) a w := by
  obtain ⟨v', w1, hr, h2⟩ := run_append_Br w w0 o.type v u n m xs ys hown hu hlen
  refine wpList_plain hgd fun K hK => ?_
  unfold Oper.wp execOp
  simp only [ho, resolve, invoke, builtin, Sem.run_bind, Sem.run_pure, Result.andThen_ok, List.map_toArray, List.map_cons, List.map_nil, hs, hx, hr]
  exact hK _ _ (h v' w1 h2)
end
/-- Room made for n branches behind nothing. -/
theorem growB_nil (n : Nat) (w : World) (hn : n ≤ 1000000) :
    Calls Tryz.prog 107 #[.slice none 0 0, .int .i64 n] w fun e w' => ∃ v, e = .returned v ∧ BrO w w' v 0 [] := by
  rcases Nat.eq_zero_or_pos n with h0 | hp
  · subst h0
    have hcon := Any8.slices_Grow_room Tryz.lGrowB none 0 0 0 w (Nat.le_refl _) (by omega) (by omega) (by omega)
    change Calls Tryz.prog 107 _ _ _ at hcon
    refine hcon.mono ?_
    rintro e w' ⟨rfl, rfl⟩
    exact ⟨_, rfl, BrO.nil _⟩
  · obtain ⟨i0, hi0, hz0, hz1, hz2⟩ := info_parts infoB
    have hcon := Any8.slices_Grow_grow Tryz.lGrowB i0 (.agg (bv b0 none 0)) hi0 hz0 (by omega) none 0 0 n [] w (Nat.le_refl _) (by omega) (by rw [hz2]; omega) (by omega) (by simp) (fun _ => rfl) (fun a h => by cases h)
    change Calls Tryz.prog 107 _ _ _ at hcon
    refine hcon.mono ?_
    rintro e w' ⟨rfl, rfl⟩
    refine ⟨_, rfl, ⟨⟨by simp, .inr ⟨w.heap.size, _, _, rfl, Nat.le_refl _, heap_alloc_new w.drew _, Nat.zero_le _, ?_, ?_, by simp⟩⟩, ((Below.refl _ w).drew).alloc (Nat.le_refl _) _⟩⟩
    · exact grownCap_le_maxLen _ _ _ _ (by unfold maxLen; omega)
    · have := grownCap_ge w n 0 (Tryz.lGrowB_ren.t 25)
      simp [size_zeroCells, zero_b]
      omega

set_option maxRecDepth 100000 in
set_option maxHeartbeats 3200000 in
theorem concatB (q : Nat) (ad1 : Option Addr) (n1 c1 : Nat) (xs : List Value) (ad2 : Option Addr) (n2 c2 : Nat) (ys : List Value) (w : World) (h0 : w.cell? ⟨q, 0, none⟩ = some (.slice ad1 n1 c1)) (h1 : w.cell? ⟨q, 1, none⟩ = some (.slice ad2 n2 c2)) (hs1 : BrSrc w (.slice ad1 n1 c1) n1 xs) (hs2 : BrSrc w (.slice ad2 n2 c2) n2 ys) (hl : n1 + n2 ≤ 1000000) :
    Calls Tryz.prog 85 #[.slice (some ⟨q, 0, none⟩) 2 2] w fun e w' => ∃ v, e = .returned v ∧ BrO w w' v (n1 + n2) (xs ++ ys) := by
  have HS : Hid (BrSrc w (.slice ad1 n1 c1) n1 xs ∧ BrSrc w (.slice ad2 n2 c2) n2 ys) := ⟨hs1, hs2⟩
  clear hs1 hs2
  have hb0 := Below.refl w.heap.size w
  have hq := World.block_lt_of_cell? w ⟨q, 0, none⟩ h0
  have e1 : wrap64 ((n1 : Int) + n2) = ((n1 + n2 : Nat) : Int) := by unfold wrap64; omega
  have e2 : ¬ (n1 : Int) < 0 := by omega
  go_enter Tryz.func85, Tryz.ntmps85
  go_wp2
  refine wp_loop_rounds 3 ?_
  rw [rounds_succ]
  go_wp2
  rw [rounds_succ]
  go_wp2
  rw [rounds_succ]
  go_wp2_with fail
  have hgr := growB_nil (n1 + n2) w hl
  rw [Int.natCast_add] at hgr
  refine hgr.mono ?_
  rintro e w1 ⟨v, rfl, hO1⟩
  have d0 : w1.cell? ⟨q, 0, none⟩ = some (.slice ad1 n1 c1) := by rw [hO1.below.cell (p := ⟨q, 0, none⟩) hq]; exact h0
  have HO1 : Hid (BrO w w1 v 0 [] ∧ BrSrc w1 (.slice ad1 n1 c1) n1 xs) := ⟨hO1, HS.out.1.below hO1.below⟩
  have HD : Hid (∀ w' v' n L, BrO w w' v' n L → w'.cell? ⟨q, 1, none⟩ = some (.slice ad2 n2 c2) ∧ BrSrc w' (.slice ad2 n2 c2) n2 ys) := fun w' v' n L h => ⟨by rw [h.below.cell (p := ⟨q, 1, none⟩) hq]; exact h1, HS.out.2.below h.below⟩
  clear hgr hO1 h0 h1 hb0
  go_wp2
  refine wp_loop_rounds 3 ?_
  rw [rounds_succ]
  go_wp2_with (at_builtin; refine wpList_append_Br rfl _ _ rfl w _ _ 0 n1 [] xs rfl rfl HO1.out.1 HO1.out.2 (by omega) ?_; intro v2 w2 hO2; obtain ⟨d1, hs2⟩ := HD.out w2 v2 _ _ hO2; have HO2 : Hid (BrO w w2 v2 n1 xs ∧ BrSrc w2 (.slice ad2 n2 c2) n2 ys) := ⟨by simpa using hO2, hs2⟩; clear hO2 hs2)
  rw [rounds_succ]
  go_wp2_with (at_builtin; refine wpList_append_Br rfl _ _ rfl w _ _ n1 n2 xs ys rfl rfl HO2.out.1 HO2.out.2 (by omega) ?_; intro v3 w3 hO3)
  rw [rounds_succ]
  go_wp2
  go_ret
  exact ⟨_, rfl, hO3⟩

/-- Branches of two, one behind the other. -/
def joinB (X : Nat → Bv) (n : Nat) (Y : Nat → Bv) : Nat → Bv := fun i => if i < n then X i else Y (i - n)
def joinA (A : Nat → Option Addr × Nat) (n : Nat) (B : Nat → Option Addr × Nat) : Nat → Option Addr × Nat := fun i => if i < n then A i else B (i - n)
theorem joinB_l {X : Nat → Bv} {n : Nat} {Y : Nat → Bv} {i : Nat} (h : i < n) : joinB X n Y i = X i := if_pos h
theorem joinB_r (X : Nat → Bv) (n : Nat) (Y : Nat → Bv) (i : Nat) : joinB X n Y (n + i) = Y i := by unfold joinB; rw [if_neg (by omega), Nat.add_sub_cancel_left]
theorem flatB_congrX {X Y : Nat → Bv} {A B : Nat → Option Addr × Nat} : ∀ n, (∀ i, i < n → X i = Y i ∧ A i = B i) → flatB X A n = flatB Y B n
  | 0, _ => rfl
  | n + 1, h => by rw [flatB, flatB, flatB_congrX n (fun i hi => h i (by omega)), (h n (by omega)).1, (h n (by omega)).2]
theorem flatB_join (X Y : Nat → Bv) (A B : Nat → Option Addr × Nat) (n : Nat) : ∀ m, flatB (joinB X n Y) (joinA A n B) (n + m) = flatB X A n ++ flatB Y B m
  | 0 => by
    rw [Nat.add_zero, flatB_congrX (X := joinB X n Y) (A := joinA A n B) n (Y := X) (B := A) (fun i hi => ⟨if_pos hi, if_pos hi⟩)]
    simp [flatB]
  | m + 1 => by
    rw [← Nat.add_assoc, flatB, flatB_join X Y A B n m, flatB, List.append_assoc]
    congr 2
    · rw [joinB_r]; unfold joinA; rw [if_neg (by omega), Nat.add_sub_cancel_left]
theorem flatB_one (X : Nat → Bv) (A : Nat → Option Addr × Nat) : ∀ n, ∀ u ∈ flatB X A n, u.oneCell' = true
  | 0, u, h => by cases h
  | n + 1, u, h => by
    rw [flatB, List.mem_append] at h
    rcases h with h | h
    · exact flatB_one X A n u h
    · exact brl_one _ _ _ u h
theorem flatB_set (X : Nat → Bv) (A : Nat → Option Addr × Nat) (i : Nat) (ka : Option Addr) (kc : Nat) : ∀ n, i < n → (flatB X A n).set (i * 35) (.slice ka (X i).n kc) = flatB X (fun j => if j = i then (ka, kc) else A j) n
  | 0, h => by omega
  | n + 1, h => by
    rw [flatB, flatB]
    by_cases e : i = n
    · subst e
      rw [List.set_append_right _ _ (by rw [flatB_length]; omega), flatB_length, Nat.sub_self, flatB_congr i (B := A) (fun j hj => if_neg (by omega))]
      simp only [if_true]
      rfl
    · rw [List.set_append_left _ _ (by rw [flatB_length]; omega), flatB_set X A i ka kc n (by omega), if_neg (fun e2 => e e2.symm)]
/-- A cell of a row of one's own, set. -/
theorem owns_set {w : World} {B : Nat} {t : TypeId} {size n cap g : Nat} {xs : List Value} (h : w.ownsRow B t size (.slice (some ⟨g, 0, none⟩) n cap) n xs) (k : Nat) (u : Value) : (w.setCell ⟨g, k, none⟩ u).ownsRow B t size (.slice (some ⟨g, 0, none⟩) n cap) n (xs.set k u) := by
  refine ⟨by rw [List.length_set]; exact h.1, ?_⟩
  rcases h.2 with ⟨e, _⟩ | ⟨g', cap', cur, e, hbs, hg, h1, h2, h3, h4⟩
  · cases e
  · cases e
    refine .inr ⟨g, cap, _, rfl, hbs, heap_setCell_same w g k _ t _ hg, h1, h2, by simpa using h3, ?_⟩
    rw [← h4]
    simp [List.take_set]
/-- The sources of a condition's branches. -/
theorem BrAt.src {w : World} {ad : Option Addr} {n : Nat} {X : Nat → Bv} (h : BrAt w ad n X) (c : Nat) : ∃ A : Nat → Option Addr × Nat, BrSrc w (.slice ad n c) n (flatB X A n) ∧ ∀ j, j < n → IsAt w (A j).1 (X j).n (X j).z := by
  rcases Nat.eq_zero_or_pos n with h0 | hp
  · subst h0
    refine ⟨fun _ => (none, 0), ⟨ad, c, rfl, rfl, (fun x hx => absurd hx (by simp [flatB])), ?_⟩, fun j hj => by omega⟩
    cases ad with
    | none => exact .inl ⟨rfl, rfl⟩
    | some a => exact .inr ⟨a, rfl, fun j v hj => by cases hj⟩
  · obtain ⟨b, off, rfl, hrow⟩ := h.at_ hp
    have each : ∀ i, i < n → ∃ t : Option Addr × Nat, w.rangeAt b (off + i * 35) (brl (X i) t.1 t.2) ∧ IsAt w t.1 (X i).n (X i).z := fun i hi => by
      obtain ⟨ka, kc, h1, h2⟩ := hrow i hi
      exact ⟨(ka, kc), h1, h2⟩
    obtain ⟨A, hA⟩ := Go.Deep.choose_lt each
    refine ⟨A, ⟨_, c, rfl, flatB_length X A n, flatB_one X A n, .inr ⟨_, rfl, fun j v hj => ?_⟩⟩, fun j hj => (hA j hj).2⟩
    have hl := (List.getElem?_eq_some_iff.1 hj).1
    rw [flatB_length] at hl
    have e : j = j / 35 * 35 + j % 35 := by omega
    rw [e, flatB_at X A n _ _ (by omega) (Nat.mod_lt _ (by decide))] at hj
    have := (hA (j / 35) (by omega)).1 _ _ hj
    rw [Addr.add_lit]
    rw [show off + j = off + j / 35 * 35 + j % 35 by omega]
    exact this
end Go.Proofs.YtjnepkggdkccaaaGreatDoor.Cd
