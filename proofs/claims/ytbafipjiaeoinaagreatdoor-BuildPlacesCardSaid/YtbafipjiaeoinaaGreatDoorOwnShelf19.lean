/- The points of a transaction's inputs in a map. -/
import Derived.Test.YtbafipjiaeoinaaGreatDoorOwnShelf18
import Derived.Maps.OwnSet
import Derived.DeepKeys4
import Derived.Test.YtbafipjiaeoinaaGreatDoorOwnShelf09
namespace Go.Proofs.YtbafipjiaeoinaaGreatDoor
open Go.RowKit
namespace Kp

def Ib (n : Int) : Prop := -9223372036854775808 ≤ n ∧ n ≤ 9223372036854775807
/-- A point's 33 cells. -/
def kv (n : Int) (z : Nat → Int) : Array Value := (bl z 32 ++ [Value.int .i64 n]).toArray
theorem laidOut : laidOutB Tryz.prog = true := by kernel_rfl
theorem tsize : Tryz.prog.types.size = 277 := by kernel_rfl
theorem rowS : (38 : TypeId) < Tryz.prog.types.size := of_decide_eq_true (by kernel_rfl)
theorem wideS : (match Tryz.prog.underlying 38 with | some (.array _ _) | some (.struct _) => true | _ => false) = true := by kernel_rfl
set_option maxRecDepth 20000 in
theorem lawS : Maps.Keyed Tryz.prog 38 := Maps.Keyed.of_law (deep_law_laid laidOut (m := 4) (by omega) rowS (by kernel_rfl) wideS)
theorem ktS : Tryz.prog.keyType 38 = true := by kernel_rfl
theorem cellsS : Tryz.prog.cellsOf 38 = 33 := by kernel_rfl
theorem cellsH : Tryz.prog.cellsOf 23 = 32 := by kernel_rfl
theorem cellsI : Tryz.prog.cellsOf 3 = 1 := by kernel_rfl
theorem cellsB : Tryz.prog.cellsOf 5 = 1 := by kernel_rfl

theorem mapM_opt {α β : Type} {f : α → Option β} {g : α → β} : ∀ (l : List α), (∀ x, x ∈ l → f x = some (g x)) → l.mapM f = some (l.map g)
  | [], _ => rfl
  | x :: l, h => by
    rw [List.mapM_cons, h x (List.mem_cons_self ..), mapM_opt l (fun y hy => h y (List.mem_cons_of_mem _ hy))]
    rfl
theorem flat_one {α β : Type} (f : α → β) : ∀ l : List α, (l.map fun x => [f x]).flatten = l.map f
  | [] => rfl
  | x :: l => by rw [List.map_cons, List.flatten_cons, flat_one f l]; rfl
theorem lits_byte (d : Nat) {x : Int} (h : 0 ≤ x ∧ x ≤ 255) : Tryz.prog.keyLits (d + 1) 5 [.int .u8 x] = some [.int .u8 x] := by
  have hw : (Lit.int .u8 x).wf = true := by simp [Lit.wf, IntKind.min, IntKind.max, IntKind.signed, IntKind.bits]; omega
  unfold Program.keyLits
  rw [Tryz.underlying5]
  simp [hw]
theorem lits_int (d : Nat) {x : Int} (h : Ib x) : Tryz.prog.keyLits (d + 1) 3 [.int .i64 x] = some [.int .i64 x] := by
  have hw : (Lit.int .i64 x).wf = true := by unfold Ib at h; simp [Lit.wf, IntKind.min, IntKind.max, IntKind.signed, IntKind.bits]; omega
  unfold Program.keyLits
  rw [Tryz.underlying3]
  simp [hw]
theorem lits_hash (d : Nat) {z : Nat → Int} (h : Hb z) : Tryz.prog.keyLits (d + 2) 23 (bl z 32) = some ((List.range 32).map fun j => Lit.int .u8 (z j)) := by
  unfold Program.keyLits
  rw [Tryz.underlying23]
  simp only [bl_length, cellsH, cellsB, if_true]
  rw [mapM_opt (g := fun j => [Lit.int .u8 (z j)])]
  · rw [Option.map_some, flat_one]
  · intro j hj
    have hj' : j < 32 := List.mem_range.1 hj
    have e : ((bl z 32).drop (j * 1)).take 1 = [.int .u8 (z j)] := by
      rw [Nat.mul_one, List.take_one, List.head?_drop, bl_at hj']
      rfl
    rw [e]
    exact lits_byte d (h j hj')
theorem lits_sig (d : Nat) {n : Int} {z : Nat → Int} (hn : Ib n) (h : Hb z) : Tryz.prog.keyLits (d + 3) 38 (kv n z).toList = some (((List.range 32).map fun j => Lit.int .u8 (z j)) ++ [Lit.int .i64 n]) := by
  have hl : (kv n z).toList = bl z 32 ++ [.int .i64 n] := by simp [kv]
  rw [hl]
  unfold Program.keyLits
  rw [Tryz.underlying38]
  simp only [List.length_append, List.length_cons, List.length_nil, bl_length, cellsS]
  have e1 : List.take 32 (bl z 32 ++ [Value.int .i64 n]) = bl z 32 := by rw [← bl_length z 32]; exact List.take_left
  have e2 : List.drop 32 (bl z 32 ++ [Value.int .i64 n]) = [.int .i64 n] := by rw [← bl_length z 32]; exact List.drop_left
  simp [cellsI, cellsH, e1, e2, lits_int (d + 1) hn, lits_hash d h]

/-- What a point's key reads as. -/
def kl (n : Int) (z : Nat → Int) : Lit := .string (keyBytes (((List.range 32).map fun j => Lit.int .u8 (z j)) ++ [Lit.int .i64 n]))
theorem keyOfS {n : Int} {z : Nat → Int} (hn : Ib n) (h : Hb z) : keyOf Tryz.prog 38 (.agg (kv n z)) = some (kl n z) := by
  have hf : (Value.agg (kv n z)).formed Tryz.prog 38 = true := by
    simp only [Value.formed, Tryz.underlying38, cellsS]
    simp [kv, bl_length]
  have hl := lits_sig (277 - 2) hn h
  unfold keyOf
  rw [Tryz.underlying38]
  simp only [ktS, hf, Bool.and_self, if_true, tsize]
  have : (Value.agg (kv n z)).cells = kv n z := rfl
  rw [this]
  simp only [Nat.reduceAdd, Nat.reduceSub] at hl ⊢
  rw [hl]
  rfl
theorem kl_inj {n m : Int} {z y : Nat → Int} (hn : Ib n) (hz : Hb z) (hm : Ib m) (hy : Hb y) (h : kl n z = kl m y) : n = m ∧ ub z = ub y := by
  have h1 := keyOfS hn hz
  rw [h] at h1
  have := lawS.inj h1 (keyOfS hm hy)
  simp only [Value.agg.injEq] at this
  have h2 : (bl z 32 ++ [Value.int .i64 n]) = (bl y 32 ++ [.int .i64 m]) := by simpa [kv] using congrArg Array.toList this
  obtain ⟨h4, h5⟩ := List.append_inj h2 (by rw [bl_length, bl_length])
  refine ⟨by simpa using h5, ?_⟩
  have h3 : (bl z 32).map (fun v => match v with | .int _ x => UInt8.ofNat x.toNat | _ => 0) = (bl y 32).map (fun v => match v with | .int _ x => UInt8.ofNat x.toNat | _ => 0) := by rw [h4]
  simpa [bl, ub] using h3
theorem kl_key (n : Int) (z : Nat → Int) : WideAt.IsKeyLit (kl n z) := trivial

/-- The map D holds just the points S. -/
structure BkD (D : DataW Unit) (S : List (Int × List UInt8)) : Prop where
  has : ∀ n z, Ib n → Hb z → Maps.has D (kl n z) = S.contains (n, ub z)
  size : Maps.size D = S.length
theorem BkD.nil : BkD (.map []) [] := ⟨fun _ _ _ _ => rfl, rfl⟩
theorem BkD.put {D : DataW Unit} {S : List (Int × List UInt8)} (h : BkD D S) (ht : Maps.Tidy D) {n : Int} {z : Nat → Int} (hn : Ib n) (hz : Hb z) (hc : S.contains (n, ub z) = false) (u : DataW Unit) : BkD (D.put (kl n z) u) (S ++ [(n, ub z)]) := by
  refine ⟨fun m y hm hy => ?_, ?_⟩
  · by_cases e : kl m y = kl n z
    · have := kl_inj hm hy hn hz e
      rw [e, Maps.has_put_same ht.isMap (kl_key n z)]
      simp [this.1, this.2]
    · rw [Maps.has_put_other e, h.has m y hm hy]
      have : ¬ ((m, ub y) = (n, ub z)) := by
        intro e2
        simp only [Prod.mk.injEq] at e2
        apply e
        have h1 := keyOfS hm hy
        have h2 := keyOfS hn hz
        have e3 : kv m y = kv n z := by
          have a1 : hv y = hv z := by rw [hv_ub hy, hv_ub hz, e2.2]
          have a2 : bl y 32 = bl z 32 := by rw [← hv_list, ← hv_list, a1]
          unfold kv
          rw [a2, e2.1]
        rw [e3, h2] at h1
        exact (Option.some.inj h1).symm
      simp [this]
  · rw [Maps.size_put ht, h.has n z hn hz, hc]
    simp [h.size]
end Kp
end Go.Proofs.YtbafipjiaeoinaaGreatDoor
/- cond.Check. -/
namespace Go.Proofs.YtbafipjiaeoinaaGreatDoor.Cd
open Go.RowKit

theorem within_any (n m : Int) (w : World) :
    Calls Tryz.prog 137 #[.int .i64 n, .int .i64 m] w fun e w' => e = .returned (.bool (decide (0 ≤ n ∧ n ≤ m))) ∧ w' = w := by
  by_cases h : 0 ≤ n
  · go_enter Tryz.func137, Tryz.ntmps137
    go_wp2
    go_ret
    simp [h]
  · have e : decide (0 ≤ n ∧ n ≤ m) = false := by simp; omega
    rw [e]
    go_enter Tryz.func137, Tryz.ntmps137
    go_wp2
    go_ret
    simp

set_option maxHeartbeats 800000 in
theorem keys_any (ka : Option Addr) (n kc : Nat) (z : Nat → Int) (w : World) (h : IsAt w ka n z) (hn : n ≤ 1000000) :
    Calls Tryz.prog 136 #[.slice ka n kc] w fun e w' => e = .returned (.bool (decide (KOk z n ∧ 0 < n))) ∧ Below w.heap.size w w' := by
  have HI : Hid (IsAt w ka n z) := h
  have hb0 := Below.refl w.heap.size w
  clear h
  go_enter Tryz.func136, Tryz.ntmps136
  go_wp2
  go_loopw [3, 5, 8] (fun lv kv iv wr => ∃ i : Nat, i ≤ n ∧ lv = .int .i64 (lastK z i) ∧ iv = .int .i64 i ∧ KOk z i ∧ Below w.heap.size w wr) (fun _ _ iv _ => n + 1 - (intOf iv).toNat)
  case atStart => exact ⟨0, by omega, rfl, rfl, fun j hj => by omega, hb0⟩
  case round =>
    clear hb0
    obtain ⟨i, hi, rfl, rfl, hk, hb⟩ := hrel
    have HK : Hid (KOk z i) := hk
    clear hk
    by_cases hlt : i < n
    · have hlt' : (i : Int) < n := by omega
      obtain ⟨b, off, rfl, hc⟩ := HI.out (by omega)
      have hci : wr.cell? ⟨b, off + i, none⟩ = some (.int .i64 (z i)) := by
        have := hc i hlt
        rw [hb.cell (p := ⟨b, off + i, none⟩) (World.block_lt_of_cell? w ⟨b, off + i, none⟩ this)]; exact this
      clear hc
      by_cases h1 : lastK z i < z i
      · have h1' : ¬ z i ≤ lastK z i := by omega
        by_cases h2 : z i < 16
        · have h2' : ¬ 16 ≤ z i := by omega
          have HN : Hid (KOk z (i + 1)) := fun j hj => by
            by_cases e : j = i
            · subst e; exact ⟨h1, h2⟩
            · exact HK.out j (by omega)
          have e1 := lastK_succ z i
          generalize lastK z i = q at *
          go_wp2
          go_roundw
          case rel => exact ⟨i + 1, by omega, by rw [e1], by go_num, HN.out, hb⟩
          case measure => simp [intOf]; omega
        · have h2' : 16 ≤ z i := by omega
          have HN : Hid (¬ KOk z n) := fun hk => h2 (hk i hlt).2
          generalize lastK z i = q at *
          go_wp2
          go_ret
          exact ⟨by simp [HN.out], hb⟩
      · have h1' : z i ≤ lastK z i := by omega
        have HN : Hid (¬ KOk z n) := fun hk => h1 (hk i hlt).1
        generalize lastK z i = q at *
        go_wp2
        go_ret
        exact ⟨by simp [HN.out], hb⟩
    · obtain rfl : i = n := by omega
      have hnn : ¬ ((i : Int) < i) := by omega
      have hk := HK.out
      go_wp2
      go_ret
      exact ⟨by simp, hb⟩

set_option maxHeartbeats 800000 in
theorem mayBe_any (x : Bv) (ka : Option Addr) (kc : Nat) (w : World) (h : IsAt w ka x.n x.z) (hn : x.n ≤ 1000000) :
    Calls Tryz.prog 124 #[.agg (bv x ka kc)] w fun e w' => e = .returned (.bool (decide (BOk x))) ∧ Below w.heap.size w w' := by
  have HI : Hid (IsAt (w.alloc (.cells (bv x ka kc) 164)) ka x.n x.z) := h.below ((Below.refl _ w).alloc (Nat.le_refl _) _)
  have hb0 : Below w.heap.size w (w.alloc (.cells (bv x ka kc) 164)) := (Below.refl _ w).alloc (Nat.le_refl _) _
  have hs0 : w.heap.size + 1 = (w.alloc (.cells (bv x ka kc) 164)).heap.size := by simp
  obtain ⟨c0, c33, c34⟩ := bbox_of (heap_alloc_new w (.cells (bv x ka kc) 164))
  have hk := keys_any ka x.n kc x.z _ HI.out hn
  clear h
  go_enter Tryz.func124, Tryz.ntmps124
  go_wp2_with (first | (refine Go.Great.wpList_boxTo rfl _ _ rfl _ rfl _ rfl (bv x ka kc) rfl ?_) | fail)
  generalize w.alloc (.cells (bv x ka kc) 164) = W0 at *
  have W0lt : w.heap.size < W0.heap.size := by omega
  have kc33 : ∀ w1, Below W0.heap.size W0 w1 → w1.cell? ⟨w.heap.size, 33, none⟩ = some (.int .i64 x.af) := fun w1 hb => by rw [hb.cell (p := ⟨w.heap.size, 33, none⟩) W0lt]; exact c33
  have kc34 : ∀ w1, Below W0.heap.size W0 w1 → w1.cell? ⟨w.heap.size, 34, none⟩ = some (.int .i64 x.ol) := fun w1 hb => by rw [hb.cell (p := ⟨w.heap.size, 34, none⟩) W0lt]; exact c34
  clear c33 c34 HI
  by_cases h1 : KOk x.z x.n ∧ 0 < x.n
  · have e1 : decide (KOk x.z x.n ∧ 0 < x.n) = true := by simp [h1]
    rw [e1] at hk
    by_cases h2 : 0 ≤ x.af ∧ x.af ≤ 1099511627776
    · have e2 : decide (0 ≤ x.af ∧ x.af ≤ 1099511627776) = true := by simp [h2]
      have HE : Hid (decide (BOk x) = decide (0 ≤ x.ol ∧ x.ol ≤ 65536)) := by show _ = _; simp [BOk, h1, h2]
      have hw1 := within_any x.af 1099511627776
      rw [e2] at hw1
      have hw2 := within_any x.ol 65536
      generalize decide (0 ≤ x.ol ∧ x.ol ≤ 65536) = r at *
      clear e1 e2 h1 h2
      go_wp2_with fail
      refine hk.mono ?_
      rintro e w1 ⟨rfl, hb1⟩
      have d33 := kc33 w1 hb1
      have d34 := kc34 w1 hb1
      clear kc33 kc34 hk
      go_wp2_with fail
      refine (hw1 w1).mono ?_
      rintro e w2 ⟨rfl, rfl⟩
      go_wp2_with fail
      refine (hw2 _).mono ?_
      rintro e w3 ⟨rfl, rfl⟩
      go_wp2
      go_ret
      exact ⟨by rw [HE.out]; rfl, Below.trans hb0 (hb1.mono (by omega))⟩
    · have e2 : decide (0 ≤ x.af ∧ x.af ≤ 1099511627776) = false := by simp only [decide_eq_false_iff_not]; exact h2
      have HE : Hid (decide (BOk x) = false) := by show _ = _; simp only [decide_eq_false_iff_not]; exact fun h => h2 h.2.1
      have hw1 := within_any x.af 1099511627776
      rw [e2] at hw1
      clear e1 e2 h1 h2
      go_wp2_with fail
      refine hk.mono ?_
      rintro e w1 ⟨rfl, hb1⟩
      have d33 := kc33 w1 hb1
      clear kc33 kc34 hk
      go_wp2_with fail
      refine (hw1 w1).mono ?_
      rintro e w2 ⟨rfl, rfl⟩
      go_wp2
      go_ret
      exact ⟨by rw [HE.out]; rfl, Below.trans hb0 (hb1.mono (by omega))⟩
  · have e1 : decide (KOk x.z x.n ∧ 0 < x.n) = false := by simp only [decide_eq_false_iff_not]; exact h1
    rw [e1] at hk
    have HE : Hid (decide (BOk x) = false) := by show _ = _; simp only [decide_eq_false_iff_not]; exact fun h => h1 h.1
    clear e1 h1 kc33 kc34
    go_wp2_with fail
    refine hk.mono ?_
    rintro e w1 ⟨rfl, hb1⟩
    clear hk
    go_wp2
    go_ret
    exact ⟨by rw [HE.out]; rfl, Below.trans hb0 (hb1.mono (by omega))⟩

set_option maxHeartbeats 800000 in
theorem bad_any (x : Bv) (ka : Option Addr) (kc : Nat) (w : World) (h : IsAt w ka x.n x.z) (hn : x.n ≤ 1000000) :
    Calls Tryz.prog 123 #[.agg (bv x ka kc)] w fun e w' => e = .returned (.bool (!decide (BOk x))) ∧ Below w.heap.size w w' := by
  have hI := h.below ((Below.refl _ w).alloc (Nat.le_refl _) (.cells (bv x ka kc) 164))
  have hb0 : Below w.heap.size w (w.alloc (.cells (bv x ka kc) 164)) := (Below.refl _ w).alloc (Nat.le_refl _) _
  have hbx := heap_alloc_new w (.cells (bv x ka kc) 164)
  have hm := mayBe_any x ka kc _ hI hn
  clear h hI
  generalize decide (BOk x) = r at *
  go_enter Tryz.func123, Tryz.ntmps123
  go_wp2_with (first | (refine Go.Great.wpList_boxTo rfl _ _ rfl _ rfl _ rfl (bv x ka kc) rfl ?_) | (refine wpList_load_row rfl 164 _ rfl w.heap.size rfl _ (bv x ka kc) _ _ hbx Tryz.underlying164 rfl (szBv x ka kc) ?_) | (go_at_call 124; refine hm.mono ?_; rintro e w1 ⟨rfl, hb1⟩) | fail)
  go_ret
  exact ⟨rfl, Below.trans hb0 (hb1.mono hb0.size)⟩

set_option maxHeartbeats 1600000 in
theorem index_any (ad : Option Addr) (n cap : Nat) (X : Nat → Bv) (w : World) (h : BrAt w ad n X) (hn : n ≤ 1000000) (hx : ∀ i, i < n → (X i).n ≤ 1000000) :
    Calls Tryz.prog 138 #[.slice ad n cap, .func (.func 123) #[] #[]] w fun e w' => (∃ q : Int, e = .returned (.int .i64 q) ∧ decide (q ≥ 0) = !decide (AllOk X n)) ∧ Below w.heap.size w w' := by
  have HB : Hid (BrAt w ad n X) := h
  have hb0 := Below.refl w.heap.size w
  have eg : ∀ args w, (callFunc 123 args).run Tryz.prog w = .ok (.enter 123 args) w := enters_of Tryz.func123 (by kernel_rfl) rfl
  clear h
  go_enter Tryz.func138, Tryz.ntmps138
  go_wp2
  go_loopw [5, 8] (fun _ iv wr => ∃ i : Nat, i ≤ n ∧ iv = .int .i64 i ∧ AllOk X i ∧ Below w.heap.size w wr) (fun _ iv _ => n + 1 - (intOf iv).toNat)
  case atStart => exact ⟨0, by omega, rfl, fun j hj => by omega, hb0⟩
  case round =>
    clear hb0
    obtain ⟨i, hi, rfl, hk, hb⟩ := hrel
    have HK : Hid (AllOk X i) := hk
    clear hk
    by_cases hlt : i < n
    · have hlt' : (i : Int) < n := by omega
      obtain ⟨b, off, rfl, hc⟩ := HB.out.at_ (by omega)
      obtain ⟨ka, kc, hr0, hI0⟩ := hc i hlt
      have HR : Hid (wr.rangeAt b (off + i * 35) (brl (X i) ka kc)) := range_below hr0 hb
      have hcall := bad_any (X i) ka kc wr (hI0.below hb) (hx i hlt)
      clear hc hr0 hI0
      by_cases hq : BOk (X i)
      · have e1 : decide (BOk (X i)) = true := by simp [hq]
        rw [e1] at hcall
        have HN : Hid (AllOk X (i + 1)) := fun j hj => by
          by_cases e : j = i
          · subst e; exact hq
          · exact HK.out j (by omega)
        clear e1 hq
        go_wp2_with (first | (refine wpList_load_mid rfl 164 _ rfl b (off + i * 35) rfl (brl (X i) ka kc) _ HR.out Tryz.underlying164 rfl (szBl _ _ _) ?_) | (go_at_fn 123; refine hcall.mono ?_; rintro e w1 ⟨rfl, hb1⟩) | fail)
        go_roundw
        case rel => exact ⟨i + 1, by omega, by go_num, HN.out, hb.trans (hb1.mono hb.size)⟩
        case measure => simp [intOf]; omega
      · have e1 : decide (BOk (X i)) = false := by simpa using hq
        rw [e1] at hcall
        have HN : Hid (¬ AllOk X n) := fun h => hq (h i hlt)
        clear e1 hq
        go_wp2_with (first | (refine wpList_load_mid rfl 164 _ rfl b (off + i * 35) rfl (brl (X i) ka kc) _ HR.out Tryz.underlying164 rfl (szBl _ _ _) ?_) | (go_at_fn 123; refine hcall.mono ?_; rintro e w1 ⟨rfl, hb1⟩) | fail)
        go_ret
        refine ⟨⟨_, rfl, ?_⟩, hb.trans (hb1.mono hb.size)⟩
        have := HN.out
        simp [this]
    · obtain rfl : i = n := by omega
      have hnn : ¬ ((i : Int) < i) := by omega
      have hk := HK.out
      go_wp2
      go_ret
      refine ⟨⟨_, rfl, ?_⟩, hb⟩
      simp

set_option maxHeartbeats 800000 in
theorem contains_any (ad : Option Addr) (n cap : Nat) (X : Nat → Bv) (w : World) (h : BrAt w ad n X) (hn : n ≤ 1000000) (hx : ∀ i, i < n → (X i).n ≤ 1000000) :
    Calls Tryz.prog 125 #[.slice ad n cap, .func (.func 123) #[] #[]] w fun e w' => e = .returned (.bool (!decide (AllOk X n))) ∧ Below w.heap.size w w' := by
  have hi := index_any ad n cap X w h hn hx
  clear h
  generalize (!decide (AllOk X n)) = r at *
  go_enter Tryz.func125, Tryz.ntmps125
  go_wp2_with (go_at_call 138; refine hi.mono ?_; rintro e w1 ⟨⟨q, rfl, hq⟩, hb1⟩)
  all_goals (go_ret; exact ⟨by simp_all, hb1⟩)

set_option maxHeartbeats 1600000 in
theorem check_any (ad : Option Addr) (n cap : Nat) (X : Nat → Bv) (w : World) (h : BrAt w ad n X) (hn : n ≤ 1000000) (hx : ∀ i, i < n → (X i).n ≤ 1000000) :
    Calls Tryz.prog 106 #[.agg #[.slice ad n cap]] w fun e w' => e = .returned (errV (chkE X n)) ∧ Below w.heap.size w w' := by
  have hI := h.below ((Below.refl _ w).alloc (Nat.le_refl _) (.cells #[.slice ad n cap] 93))
  have hb0 : Below w.heap.size w (w.alloc (.cells #[.slice ad n cap] 93)) := (Below.refl _ w).alloc (Nat.le_refl _) _
  have hm := contains_any ad n cap X _ hI hn hx
  clear h hI
  by_cases h1 : n < 1
  · have h1' : (n : Int) < 1 := by omega
    have HE : Hid (chkE X n = 1) := if_neg (fun h => by have := h.1; omega)
    clear hm
    go_enter Tryz.func106, Tryz.ntmps106
    go_wp2
    go_ret
    exact ⟨by rw [HE.out]; rfl, hb0⟩
  · have h1' : ¬ (n : Int) < 1 := by omega
    by_cases h2 : 8 < n
    · have h2' : (8 : Int) < n := by omega
      have HE : Hid (chkE X n = 1) := if_neg (fun h => by have := h.1; omega)
      clear hm
      go_enter Tryz.func106, Tryz.ntmps106
      go_wp2
      go_ret
      exact ⟨by rw [HE.out]; rfl, hb0⟩
    · have h2' : ¬ (8 : Int) < n := by omega
      by_cases h3 : AllOk X n
      · have e1 : decide (AllOk X n) = true := by simp [h3]
        rw [e1] at hm
        have HE : Hid (chkE X n = 0) := if_pos ⟨by omega, h3⟩
        clear e1 h3
        go_enter Tryz.func106, Tryz.ntmps106
        go_wp2_with (go_at_call 125; refine hm.mono ?_; rintro e w1 ⟨rfl, hb1⟩)
        go_ret
        exact ⟨by rw [HE.out]; rfl, hb0.trans (hb1.mono hb0.size)⟩
      · have e1 : decide (AllOk X n) = false := by simpa using h3
        rw [e1] at hm
        have HE : Hid (chkE X n = 1) := if_neg (fun h => h3 h.2)
        clear e1 h3
        go_enter Tryz.func106, Tryz.ntmps106
        go_wp2_with (go_at_call 125; refine hm.mono ?_; rintro e w1 ⟨rfl, hb1⟩)
        go_ret
        exact ⟨by rw [HE.out]; rfl, hb0.trans (hb1.mono hb0.size)⟩
end Go.Proofs.YtbafipjiaeoinaaGreatDoor.Cd
/- Outputs of a transaction: whether one may be, and what they have together. -/
namespace Go.Proofs.YtbafipjiaeoinaaGreatDoor
open Go.RowKit

/-- What an output says. -/
structure To where
  am : Int
  cn : Nat
  X : Nat → Cd.Bv
instance : Inhabited To := ⟨⟨0, 0, fun _ => default⟩⟩
def tol (x : To) (ca : Option Addr) (cc : Nat) : List Value := [.int .i64 x.am, .slice ca x.cn cc]
def tov (x : To) (ca : Option Addr) (cc : Nat) : Array Value := #[.int .i64 x.am, .slice ca x.cn cc]
theorem szTo : (Tryz.prog.info? 95).map (·.size) = some 2 := by kernel_rfl
/-- Its branches are few, and so are their keys. -/
def To.Small (x : To) : Prop := x.cn ≤ 1000000 ∧ ∀ i, i < x.cn → (x.X i).n ≤ 1000000
/-- m outputs lie at an address. -/
structure ToAt (w : World) (ad : Option Addr) (m : Nat) (O : Nat → To) : Prop where
  at_ : 0 < m → ∃ b off, ad = some ⟨b, off, none⟩ ∧ ∀ i, i < m → ∃ ca cc, w.rangeAt b (off + i * 2) (tol (O i) ca cc) ∧ Cd.BrAt w ca (O i).cn (O i).X ∧ (ca = none → (O i).cn = 0 ∧ cc = 0)
theorem ToAt.nil (w : World) (ad : Option Addr) (O : Nat → To) : ToAt w ad 0 O := ⟨fun h => by omega⟩
theorem ToAt.below {w w' : World} {ad : Option Addr} {m : Nat} {O : Nat → To} (h : ToAt w ad m O) (hb : Below w.heap.size w w') : ToAt w' ad m O := by
  refine ⟨fun hn => ?_⟩
  obtain ⟨b, off, e, hr⟩ := h.at_ hn
  refine ⟨b, off, e, fun i hi => ?_⟩
  obtain ⟨ca, cc, h1, h2, h3⟩ := hr i hi
  exact ⟨ca, cc, range_below h1 hb, h2.below hb, h3⟩
/-- An output's error. -/
def outE (x : To) : Int := if x.am < 10 then 27 else if 1125899906842624 < x.am then 5 else Cd.chkE x.X x.cn
set_option maxHeartbeats 1600000 in
theorem checkOut_any (x : To) (ca : Option Addr) (cc : Nat) (w : World) (h : Cd.BrAt w ca x.cn x.X) (hs : x.Small) :
    Calls Tryz.prog 83 #[.agg (tov x ca cc)] w fun e w' => e = .returned (errV (outE x)) ∧ Below w.heap.size w w' := by
  have hb0 : Below w.heap.size w (w.alloc (.cells #[.int .i64 x.am, .slice ca x.cn cc] 95)) := (Below.refl _ w).alloc (Nat.le_refl _) _
  have hc := Cd.check_any ca x.cn cc x.X _ (h.below hb0) hs.1 hs.2
  clear h
  unfold tov
  by_cases h1 : x.am < 10
  · have HE : Hid (outE x = 27) := if_pos h1
    clear hc
    go_enter Tryz.func83, Tryz.ntmps83
    go_wp2
    go_ret
    exact ⟨by rw [HE.out]; rfl, hb0⟩
  · by_cases h2 : 1125899906842624 < x.am
    · have HE : Hid (outE x = 5) := by unfold outE; rw [if_neg h1, if_pos h2]; exact rfl
      clear hc
      go_enter Tryz.func83, Tryz.ntmps83
      go_wp2
      go_ret
      exact ⟨by rw [HE.out]; rfl, hb0⟩
    · have HE : Hid (outE x = Cd.chkE x.X x.cn) := by unfold outE; rw [if_neg h1, if_neg h2]; exact rfl
      go_enter Tryz.func83, Tryz.ntmps83
      go_wp2_with fail
      refine hc.mono ?_
      rintro e w1 ⟨rfl, hb1⟩
      have HB : Hid (Below w.heap.size w w1) := hb0.trans (hb1.mono hb0.size)
      clear hb0 hb1 hc
      go_wp2
      go_ret
      exact ⟨by rw [HE.out]; rfl, HB.out⟩
/-- What outputs have together, if it is no more than there may be. -/
def totO (O : Nat → To) : Nat → Option Int
  | 0 => some 0
  | i + 1 => match totO O i with | none => none | some s => if 0 ≤ (O i).am ∧ (O i).am ≤ 1125899906842624 - s then some (s + (O i).am) else none
theorem totO_bd {O : Nat → To} : ∀ {i : Nat} {s : Int}, totO O i = some s → 0 ≤ s ∧ s ≤ 1125899906842624
  | 0, s, h => by cases h; omega
  | i + 1, s, h => by
    unfold totO at h
    split at h
    · cases h
    · rename_i t e
      have := totO_bd e
      split at h
      · cases h; omega
      · cases h
theorem totO_stop {O : Nat → To} {i : Nat} (h : totO O i = none) : ∀ n, i ≤ n → totO O n = none
  | 0, hn => by obtain rfl : i = 0 := (by omega); exact h
  | n + 1, hn => by
    by_cases e : i = n + 1
    · subst e; exact h
    · rw [totO, totO_stop h n (by omega)]
def totV (O : Nat → To) (m : Nat) : Int := (totO O m).getD 0
def totE (O : Nat → To) (m : Nat) : Int := if totO O m = none then 5 else 0
/-- A transaction's three cells. -/
def txv (lk : Int) (ia : Option Addr) (n ic : Nat) (oa : Option Addr) (m oc : Nat) : Array Value := #[.int .i64 lk, .slice ia n ic, .slice oa m oc]
set_option maxHeartbeats 1600000 in
theorem ktotal_any (lk : Int) (ia : Option Addr) (n ic : Nat) (oa : Option Addr) (m oc : Nat) (O : Nat → To) (w : World) (h : ToAt w oa m O) (hm : m ≤ 1000000) :
    Calls Tryz.prog 84 #[.agg (txv lk ia n ic oa m oc)] w fun e w' => e = .returned (.tuple #[.int .i64 (totV O m), errV (totE O m)]) ∧ Below w.heap.size w w' := by
  have hb0 : Below w.heap.size w (w.alloc (.cells #[.int .i64 lk, .slice ia n ic, .slice oa m oc] 50)) := (Below.refl _ w).alloc (Nat.le_refl _) _
  have HT : Hid (ToAt w oa m O) := h
  clear h
  unfold txv
  go_enter Tryz.func84, Tryz.ntmps84
  go_wp2
  generalize w.alloc (.cells #[.int .i64 lk, .slice ia n ic, .slice oa m oc] 50) = W0 at *
  go_loopw [4, 6, 10] (fun sv _ iv wr => ∃ (i : Nat) (s : Int), i ≤ m ∧ iv = .int .i64 i ∧ sv = .int .i64 s ∧ totO O i = some s ∧ Below w.heap.size w wr) (fun _ _ iv _ => m + 1 - (intOf iv).toNat)
  case atStart => exact ⟨0, 0, by omega, rfl, rfl, rfl, hb0⟩
  case round =>
    clear hb0
    obtain ⟨i, s, hi, rfl, rfl, hs, hb⟩ := hrel
    have hbd := totO_bd hs
    have HS : Hid (totO O i = some s) := hs
    clear hs
    by_cases hlt : i < m
    · have hlt' : (i : Int) < m := by omega
      obtain ⟨b, off, rfl, hc⟩ := HT.out.at_ (by omega)
      obtain ⟨ca, cc, hr0, _⟩ := hc i hlt
      have HR : Hid (wr.rangeAt b (off + i * 2) (tol (O i) ca cc)) := range_below hr0 hb
      clear hc hr0
      have c0 : wr.cell? ⟨b, off + i * 2, none⟩ = some (.int .i64 (O i).am) := by simpa using HR.out 0 _ rfl
      have c1 : wr.cell? ⟨b, off + i * 2 + 1, none⟩ = some (.slice ca (O i).cn cc) := HR.out 1 _ rfl
      have hb1 : Below w.heap.size w (wr.alloc (.cells #[.int .i64 (O i).am, .slice ca (O i).cn cc] 95)) := hb.alloc hb.size _
      by_cases hq : 0 ≤ (O i).am ∧ (O i).am ≤ 1125899906842624 - s
      · have HN : Hid (totO O (i + 1) = some (s + (O i).am)) := by rw [totO, HS.out]; exact if_pos hq
        have d1 : decide (0 ≤ (O i).am ∧ (O i).am ≤ 1125899906842624 - s) = true := by simpa using hq
        go_wp2_with fail
        refine (kwithin_any (O i).am 0 (1125899906842624 - s) _).mono ?_
        rintro e w1 ⟨rfl, hW⟩
        rw [hW, d1]
        clear hW d1
        go_wp2
        go_roundw
        case rel => exact ⟨i + 1, s + (O i).am, by omega, by go_num, rfl, HN.out, hb1⟩
        case measure => simp [intOf]; omega
      · have HN : Hid (totO O m = none) := totO_stop (i := i + 1) (by rw [totO, HS.out]; exact if_neg hq) m (by omega)
        have d1 : decide (0 ≤ (O i).am ∧ (O i).am ≤ 1125899906842624 - s) = false := by simpa using hq
        go_wp2_with fail
        refine (kwithin_any (O i).am 0 (1125899906842624 - s) _).mono ?_
        rintro e w1 ⟨rfl, hW⟩
        rw [hW, d1]
        clear hW d1
        go_wp2
        go_ret2
        exact ⟨by simp [totV, totE, HN.out]; rfl, hb1⟩
    · obtain rfl : i = m := by omega
      have hnn : ¬ ((i : Int) < i) := by omega
      go_wp2
      go_ret2
      exact ⟨by simp [totV, totE, HS.out]; rfl, hb⟩
end Go.Proofs.YtbafipjiaeoinaaGreatDoor
