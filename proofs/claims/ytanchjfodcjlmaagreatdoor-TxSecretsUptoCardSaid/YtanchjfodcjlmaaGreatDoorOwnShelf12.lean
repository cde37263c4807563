/- Outputs of a transaction: whether one may be, and what they have together. -/
import Derived.Test.YtanchjfodcjlmaaGreatDoorOwnShelf10
import Derived.Test.YtanchjfodcjlmaaGreatDoorOwnShelf11
import Derived.Maps.OwnSet
import Derived.DeepKeys4
import Derived.Test.YtanchjfodcjlmaaGreatDoorOwnShelf01
namespace Go.Proofs.YtanchjfodcjlmaaGreatDoor
open Go.RowKit

/-- What an output says. -/
structure To where
  am : Int
  cn : Nat
  X : Nat → Cd.Bv
instance : Inhabited To := ⟨⟨0, 0, fun _ => default⟩⟩
def tol (x : To) (ca : Option Addr) (cc : Nat) : List Value := [.int .i64 x.am, .slice ca x.cn cc]
def tov (x : To) (ca : Option Addr) (cc : Nat) : Array Value := #[.int .i64 x.am, .slice ca x.cn cc]
theorem szTo : (Tryz.prog.info? 79).map (·.size) = some 2 := by kernel_rfl
/-- Its branches are few, and so are their keys. -/
def To.Small (x : To) : Prop := x.cn ≤ 1000000 ∧ ∀ i, i < x.cn → (x.X i).n ≤ 1000000
/-- m outputs lie at an address. -/
structure ToAt (w : World) (ad : Option Addr) (m : Nat) (O : Nat → To) : Prop where
  at_ : 0 < m → ∃ b off, ad = some ⟨b, off, none⟩ ∧ ∀ i, i < m → ∃ ca cc, w.rangeAt b (off + i * 2) (tol (O i) ca cc) ∧ Cd.BrAt w ca (O i).cn (O i).X ∧ (ca = none → (O i).cn = 0 ∧ cc = 0)
theorem ToAt.nil (w : World) (ad : Option Addr) (O : Nat → To) : ToAt w ad 0 O := ⟨fun h => by omega⟩
theorem ToAt.below {w w' : World} {ad : Option Addr} {m : Nat} {O : Nat → To} (h : ToAt w ad m O) (hb : Below w.heap.size w w') : ToAt w' ad m O := by
  refine ⟨fun hn => ?_⟩
  obtain ⟨b, off, e, hr⟩ := h.at_ hn
  refine ⟨b, off, e, fun i hi => ?_⟩
  obtain ⟨ca, cc, h1, h2, h3⟩ := hr i hi
  exact ⟨ca, cc, range_below h1 hb, h2.below hb, h3⟩
/-- An output's error. -/
def outE (x : To) : Int := if x.am < 10 then 27 else if 1125899906842624 < x.am then 5 else Cd.chkE x.X x.cn
set_option maxHeartbeats 1600000 in
theorem checkOut_any (x : To) (ca : Option Addr) (cc : Nat) (w : World) (h : Cd.BrAt w ca x.cn x.X) (hs : x.Small) :
    Calls Tryz.prog 32 #[.agg (tov x ca cc)] w fun e w' => e = .returned (errV (outE x)) ∧ Below w.heap.size w w' := by
  have hb0 : Below w.heap.size w (w.alloc (.cells #[.int .i64 x.am, .slice ca x.cn cc] 79)) := (Below.refl _ w).alloc (Nat.le_refl _) _
  have hc := Cd.check_any ca x.cn cc x.X _ (h.below hb0) hs.1 hs.2
  clear h
  unfold tov
  by_cases h1 : x.am < 10
  · have HE : Hid (outE x = 27) := if_pos h1
    clear hc
    go_enter Tryz.func32, Tryz.ntmps32
    go_wp2
    go_ret
    exact ⟨by rw [HE.out]; rfl, hb0⟩
  · by_cases h2 : 1125899906842624 < x.am
    · have HE : Hid (outE x = 5) := by unfold outE; rw [if_neg h1, if_pos h2]; exact rfl
      clear hc
      go_enter Tryz.func32, Tryz.ntmps32
      go_wp2
      go_ret
      exact ⟨by rw [HE.out]; rfl, hb0⟩
    · have HE : Hid (outE x = Cd.chkE x.X x.cn) := by unfold outE; rw [if_neg h1, if_neg h2]; exact rfl
      go_enter Tryz.func32, Tryz.ntmps32
      go_wp2_with fail
      refine hc.mono ?_
      rintro e w1 ⟨rfl, hb1⟩
      have HB : Hid (Below w.heap.size w w1) := hb0.trans (hb1.mono hb0.size)
      clear hb0 hb1 hc
      go_wp2
      go_ret
      exact ⟨by rw [HE.out]; rfl, HB.out⟩
/-- What outputs have together, if it is no more than there may be. -/
def totO (O : Nat → To) : Nat → Option Int
  | 0 => some 0
  | i + 1 => match totO O i with | none => none | some s => if 0 ≤ (O i).am ∧ (O i).am ≤ 1125899906842624 - s then some (s + (O i).am) else none
theorem totO_bd {O : Nat → To} : ∀ {i : Nat} {s : Int}, totO O i = some s → 0 ≤ s ∧ s ≤ 1125899906842624
  | 0, s, h => by cases h; omega
  | i + 1, s, h => by
    unfold totO at h
    split at h
    · cases h
    · rename_i t e
      have := totO_bd e
      split at h
      · cases h; omega
      · cases h
theorem totO_stop {O : Nat → To} {i : Nat} (h : totO O i = none) : ∀ n, i ≤ n → totO O n = none
  | 0, hn => by obtain rfl : i = 0 := (by omega); exact h
  | n + 1, hn => by
    by_cases e : i = n + 1
    · subst e; exact h
    · rw [totO, totO_stop h n (by omega)]
def totV (O : Nat → To) (m : Nat) : Int := (totO O m).getD 0
def totE (O : Nat → To) (m : Nat) : Int := if totO O m = none then 5 else 0
/-- A transaction's three cells. -/
def txv (lk : Int) (ia : Option Addr) (n ic : Nat) (oa : Option Addr) (m oc : Nat) : Array Value := #[.int .i64 lk, .slice ia n ic, .slice oa m oc]
set_option maxHeartbeats 1600000 in
theorem ktotal_any (lk : Int) (ia : Option Addr) (n ic : Nat) (oa : Option Addr) (m oc : Nat) (O : Nat → To) (w : World) (h : ToAt w oa m O) (hm : m ≤ 1000000) :
    Calls Tryz.prog 8 #[.agg (txv lk ia n ic oa m oc)] w fun e w' => e = .returned (.tuple #[.int .i64 (totV O m), errV (totE O m)]) ∧ Below w.heap.size w w' := by
  have hb0 : Below w.heap.size w (w.alloc (.cells #[.int .i64 lk, .slice ia n ic, .slice oa m oc] 35)) := (Below.refl _ w).alloc (Nat.le_refl _) _
  have HT : Hid (ToAt w oa m O) := h
  clear h
  unfold txv
  go_enter Tryz.func8, Tryz.ntmps8
  go_wp2
  generalize w.alloc (.cells #[.int .i64 lk, .slice ia n ic, .slice oa m oc] 35) = W0 at *
  go_loopw [4, 6, 10] (fun sv _ iv wr => ∃ (i : Nat) (s : Int), i ≤ m ∧ iv = .int .i64 i ∧ sv = .int .i64 s ∧ totO O i = some s ∧ Below w.heap.size w wr) (fun _ _ iv _ => m + 1 - (intOf iv).toNat)
  case atStart => exact ⟨0, 0, by omega, rfl, rfl, rfl, hb0⟩
  case round =>
    clear hb0
    obtain ⟨i, s, hi, rfl, rfl, hs, hb⟩ := hrel
    have hbd := totO_bd hs
    have HS : Hid (totO O i = some s) := hs
    clear hs
    by_cases hlt : i < m
    · have hlt' : (i : Int) < m := by omega
      obtain ⟨b, off, rfl, hc⟩ := HT.out.at_ (by omega)
      obtain ⟨ca, cc, hr0, _⟩ := hc i hlt
      have HR : Hid (wr.rangeAt b (off + i * 2) (tol (O i) ca cc)) := range_below hr0 hb
      clear hc hr0
      have c0 : wr.cell? ⟨b, off + i * 2, none⟩ = some (.int .i64 (O i).am) := by simpa using HR.out 0 _ rfl
      have c1 : wr.cell? ⟨b, off + i * 2 + 1, none⟩ = some (.slice ca (O i).cn cc) := HR.out 1 _ rfl
      have hb1 : Below w.heap.size w (wr.alloc (.cells #[.int .i64 (O i).am, .slice ca (O i).cn cc] 79)) := hb.alloc hb.size _
      by_cases hq : 0 ≤ (O i).am ∧ (O i).am ≤ 1125899906842624 - s
      · have HN : Hid (totO O (i + 1) = some (s + (O i).am)) := by rw [totO, HS.out]; exact if_pos hq
        have d1 : decide (0 ≤ (O i).am ∧ (O i).am ≤ 1125899906842624 - s) = true := by simpa using hq
        go_wp2_with fail
        refine (kwithin_any (O i).am 0 (1125899906842624 - s) _).mono ?_
        rintro e w1 ⟨rfl, hW⟩
        rw [hW, d1]
        clear hW d1
        go_wp2
        go_roundw
        case rel => exact ⟨i + 1, s + (O i).am, by omega, by go_num, rfl, HN.out, hb1⟩
        case measure => simp [intOf]; omega
      · have HN : Hid (totO O m = none) := totO_stop (i := i + 1) (by rw [totO, HS.out]; exact if_neg hq) m (by omega)
        have d1 : decide (0 ≤ (O i).am ∧ (O i).am ≤ 1125899906842624 - s) = false := by simpa using hq
        go_wp2_with fail
        refine (kwithin_any (O i).am 0 (1125899906842624 - s) _).mono ?_
        rintro e w1 ⟨rfl, hW⟩
        rw [hW, d1]
        clear hW d1
        go_wp2
        go_ret2
        exact ⟨by simp [totV, totE, HN.out]; rfl, hb1⟩
    · obtain rfl : i = m := by omega
      have hnn : ¬ ((i : Int) < i) := by omega
      go_wp2
      go_ret2
      exact ⟨by simp [totV, totE, HS.out]; rfl, hb⟩
end Go.Proofs.YtanchjfodcjlmaaGreatDoor
/- The points of a transaction's inputs in a map. -/
namespace Go.Proofs.YtanchjfodcjlmaaGreatDoor
open Go.RowKit
namespace Kp

def Ib (n : Int) : Prop := -9223372036854775808 ≤ n ∧ n ≤ 9223372036854775807
/-- A point's 33 cells. -/
def kv (n : Int) (z : Nat → Int) : Array Value := (bl z 32 ++ [Value.int .i64 n]).toArray
theorem laidOut : laidOutB Tryz.prog = true := by kernel_rfl
theorem tsize : Tryz.prog.types.size = 239 := by kernel_rfl
theorem rowS : (47 : TypeId) < Tryz.prog.types.size := of_decide_eq_true (by kernel_rfl)
theorem wideS : (match Tryz.prog.underlying 47 with | some (.array _ _) | some (.struct _) => true | _ => false) = true := by kernel_rfl
set_option maxRecDepth 20000 in
theorem lawS : Maps.Keyed Tryz.prog 47 := Maps.Keyed.of_law (deep_law_laid laidOut (m := 4) (by omega) rowS (by kernel_rfl) wideS)
theorem ktS : Tryz.prog.keyType 47 = true := by kernel_rfl
theorem cellsS : Tryz.prog.cellsOf 47 = 33 := by kernel_rfl
theorem cellsH : Tryz.prog.cellsOf 43 = 32 := by kernel_rfl
theorem cellsI : Tryz.prog.cellsOf 3 = 1 := by kernel_rfl
theorem cellsB : Tryz.prog.cellsOf 5 = 1 := by kernel_rfl

theorem mapM_opt {α β : Type} {f : α → Option β} {g : α → β} : ∀ (l : List α), (∀ x, x ∈ l → f x = some (g x)) → l.mapM f = some (l.map g)
  | [], _ => rfl
  | x :: l, h => by
    rw [List.mapM_cons, h x (List.mem_cons_self ..), mapM_opt l (fun y hy => h y (List.mem_cons_of_mem _ hy))]
    rfl
theorem flat_one {α β : Type} (f : α → β) : ∀ l : List α, (l.map fun x => [f x]).flatten = l.map f
  | [] => rfl
  | x :: l => by rw [List.map_cons, List.flatten_cons, flat_one f l]; rfl
theorem lits_byte (d : Nat) {x : Int} (h : 0 ≤ x ∧ x ≤ 255) : Tryz.prog.keyLits (d + 1) 5 [.int .u8 x] = some [.int .u8 x] := by
  have hw : (Lit.int .u8 x).wf = true := by simp [Lit.wf, IntKind.min, IntKind.max, IntKind.signed, IntKind.bits]; omega
  unfold Program.keyLits
  rw [Tryz.underlying5]
  simp [hw]
theorem lits_int (d : Nat) {x : Int} (h : Ib x) : Tryz.prog.keyLits (d + 1) 3 [.int .i64 x] = some [.int .i64 x] := by
  have hw : (Lit.int .i64 x).wf = true := by unfold Ib at h; simp [Lit.wf, IntKind.min, IntKind.max, IntKind.signed, IntKind.bits]; omega
  unfold Program.keyLits
  rw [Tryz.underlying3]
  simp [hw]
theorem lits_hash (d : Nat) {z : Nat → Int} (h : Hb z) : Tryz.prog.keyLits (d + 2) 43 (bl z 32) = some ((List.range 32).map fun j => Lit.int .u8 (z j)) := by
  unfold Program.keyLits
  rw [Tryz.underlying43]
  simp only [bl_length, cellsH, cellsB, if_true]
  rw [mapM_opt (g := fun j => [Lit.int .u8 (z j)])]
  · rw [Option.map_some, flat_one]
  · intro j hj
    have hj' : j < 32 := List.mem_range.1 hj
    have e : ((bl z 32).drop (j * 1)).take 1 = [.int .u8 (z j)] := by
      rw [Nat.mul_one, List.take_one, List.head?_drop, bl_at hj']
      rfl
    rw [e]
    exact lits_byte d (h j hj')
theorem lits_sig (d : Nat) {n : Int} {z : Nat → Int} (hn : Ib n) (h : Hb z) : Tryz.prog.keyLits (d + 3) 47 (kv n z).toList = some (((List.range 32).map fun j => Lit.int .u8 (z j)) ++ [Lit.int .i64 n]) := by
  have hl : (kv n z).toList = bl z 32 ++ [.int .i64 n] := by simp [kv]
  rw [hl]
  unfold Program.keyLits
  rw [Tryz.underlying47]
  simp only [List.length_append, List.length_cons, List.length_nil, bl_length, cellsS]
  have e1 : List.take 32 (bl z 32 ++ [Value.int .i64 n]) = bl z 32 := by rw [← bl_length z 32]; exact List.take_left
  have e2 : List.drop 32 (bl z 32 ++ [Value.int .i64 n]) = [.int .i64 n] := by rw [← bl_length z 32]; exact List.drop_left
  simp [cellsI, cellsH, e1, e2, lits_int (d + 1) hn, lits_hash d h]

/-- What a point's key reads as. -/
def kl (n : Int) (z : Nat → Int) : Lit := .string (keyBytes (((List.range 32).map fun j => Lit.int .u8 (z j)) ++ [Lit.int .i64 n]))
theorem keyOfS {n : Int} {z : Nat → Int} (hn : Ib n) (h : Hb z) : keyOf Tryz.prog 47 (.agg (kv n z)) = some (kl n z) := by
  have hf : (Value.agg (kv n z)).formed Tryz.prog 47 = true := by
    simp only [Value.formed, Tryz.underlying47, cellsS]
    simp [kv, bl_length]
  have hl := lits_sig (239 - 2) hn h
  unfold keyOf
  rw [Tryz.underlying47]
  simp only [ktS, hf, Bool.and_self, if_true, tsize]
  have : (Value.agg (kv n z)).cells = kv n z := rfl
  rw [this]
  simp only [Nat.reduceAdd, Nat.reduceSub] at hl ⊢
  rw [hl]
  rfl
theorem kl_inj {n m : Int} {z y : Nat → Int} (hn : Ib n) (hz : Hb z) (hm : Ib m) (hy : Hb y) (h : kl n z = kl m y) : n = m ∧ ub z = ub y := by
  have h1 := keyOfS hn hz
  rw [h] at h1
  have := lawS.inj h1 (keyOfS hm hy)
  simp only [Value.agg.injEq] at this
  have h2 : (bl z 32 ++ [Value.int .i64 n]) = (bl y 32 ++ [.int .i64 m]) := by simpa [kv] using congrArg Array.toList this
  obtain ⟨h4, h5⟩ := List.append_inj h2 (by rw [bl_length, bl_length])
  refine ⟨by simpa using h5, ?_⟩
  have h3 : (bl z 32).map (fun v => match v with | .int _ x => UInt8.ofNat x.toNat | _ => 0) = (bl y 32).map (fun v => match v with | .int _ x => UInt8.ofNat x.toNat | _ => 0) := by rw [h4]
  simpa [bl, ub] using h3
theorem kl_key (n : Int) (z : Nat → Int) : WideAt.IsKeyLit (kl n z) := trivial

/-- The map D holds just the points S. -/
structure BkD (D : DataW Unit) (S : List (Int × List UInt8)) : Prop where
  has : ∀ n z, Ib n → Hb z → Maps.has D (kl n z) = S.contains (n, ub z)
  size : Maps.size D = S.length
theorem BkD.nil : BkD (.map []) [] := ⟨fun _ _ _ _ => rfl, rfl⟩
theorem BkD.put {D : DataW Unit} {S : List (Int × List UInt8)} (h : BkD D S) (ht : Maps.Tidy D) {n : Int} {z : Nat → Int} (hn : Ib n) (hz : Hb z) (hc : S.contains (n, ub z) = false) (u : DataW Unit) : BkD (D.put (kl n z) u) (S ++ [(n, ub z)]) := by
  refine ⟨fun m y hm hy => ?_, ?_⟩
  · by_cases e : kl m y = kl n z
    · have := kl_inj hm hy hn hz e
      rw [e, Maps.has_put_same ht.isMap (kl_key n z)]
      simp [this.1, this.2]
    · rw [Maps.has_put_other e, h.has m y hm hy]
      have : ¬ ((m, ub y) = (n, ub z)) := by
        intro e2
        simp only [Prod.mk.injEq] at e2
        apply e
        have h1 := keyOfS hm hy
        have h2 := keyOfS hn hz
        have e3 : kv m y = kv n z := by
          have a1 : hv y = hv z := by rw [hv_ub hy, hv_ub hz, e2.2]
          have a2 : bl y 32 = bl z 32 := by rw [← hv_list, ← hv_list, a1]
          unfold kv
          rw [a2, e2.1]
        rw [e3, h2] at h1
        exact (Option.some.inj h1).symm
      simp [this]
  · rw [Maps.size_put ht, h.has n z hn hz, hc]
    simp [h.size]
end Kp
end Go.Proofs.YtanchjfodcjlmaaGreatDoor
/- The points that a transaction spends, as a map. -/
namespace Go.Proofs.YtanchjfodcjlmaaGreatDoor
open Go.RowKit

theorem kfrm_new {w w' : World} {o : Obj} (h : Frm [w.heap.size] (w.alloc o) w') : Below w.heap.size w w' :=
  ((Below.refl _ w).alloc (Nat.le_refl _) o).trans (h.below (by simp) (by simp))
def ti0 : Ti := ⟨nz, 0, 0, 0⟩
theorem run_allocTi (w : World) : (Instr.alloc 59 true (.tuple #[])).run Tryz.prog w = .ok (.pointer (some ⟨w.heap.size, 0, none⟩)) (w.alloc (.cells (tiv ti0 none 0) 59)) := by kernel_rfl
theorem szPt : (Tryz.prog.info? 47).map (·.size) = some 33 := by kernel_rfl
theorem szPtl (z : Nat → Int) (n : Int) : (Tryz.prog.info? 47).map (·.size) = some (ptl z n).length := by rw [ptl_length]; exact szPt
theorem build_unit (w : World) : (Instr.build 91 #[]).run Tryz.prog w = .ok (.agg #[]) w := by kernel_rfl
theorem tiv_one (x : Ti) (sa : Option Addr) (sc : Nat) : (tiv x sa sc).all (·.oneCell') = true := all_oneCell_toArray (til_one x sa sc)
theorem pt_range {w : World} {g off : Nat} {x : Ti} {sa : Option Addr} {sc : Nat} (h : w.rangeAt g off (til x sa sc)) : w.rangeAt g off (ptl x.pt x.n) := fun j v hv => by
  refine h j v ?_
  have e : til x sa sc = ptl x.pt x.n ++ [.int .i64 x.br, .slice sa x.sn sc] := by simp [til, ptl]
  rw [e, List.getElem?_append_left (List.getElem?_eq_some_iff.1 hv).1]
  exact hv
/-- The points of n inputs, each once. -/
def keyT (x : Ti) : Int × List UInt8 := (x.n, ub x.pt)
def ptsL (X : Nat → Ti) : Nat → List (Int × List UInt8)
  | 0 => []
  | n + 1 => if (ptsL X n).contains (keyT (X n)) then ptsL X n else ptsL X n ++ [keyT (X n)]
theorem ptsL_le (X : Nat → Ti) : ∀ n, (ptsL X n).length ≤ n
  | 0 => by simp [ptsL]
  | n + 1 => by have := ptsL_le X n; rw [ptsL]; split <;> simp <;> omega
theorem ptsL_mem (X : Nat → Ti) (k : Int × List UInt8) : ∀ n, (ptsL X n).contains k = true ↔ ∃ i, i < n ∧ keyT (X i) = k
  | 0 => by simp [ptsL]
  | n + 1 => by
    have ih := ptsL_mem X k n
    rw [ptsL]
    split
    · rename_i hc
      rw [ih]
      constructor
      · rintro ⟨i, hi, e⟩; exact ⟨i, by omega, e⟩
      · rintro ⟨i, hi, e⟩
        by_cases h : i = n
        · subst h; rw [e] at hc; exact ih.1 hc
        · exact ⟨i, by omega, e⟩
    · rw [List.contains_iff_mem, List.mem_append, ← List.contains_iff_mem, ih]
      constructor
      · rintro (⟨i, hi, e⟩ | h)
        · exact ⟨i, by omega, e⟩
        · exact ⟨n, by omega, (List.mem_singleton.1 h).symm⟩
      · rintro ⟨i, hi, e⟩
        by_cases h : i = n
        · subst h; exact .inr (by rw [e]; exact List.mem_singleton.2 rfl)
        · exact .inl ⟨i, by omega, e⟩
/-- No two inputs spend the same. -/
def Apart (X : Nat → Ti) (n : Nat) : Prop := ∀ i, i < n → ∀ k, k < i → keyT (X i) ≠ keyT (X k)
instance (X : Nat → Ti) (n : Nat) : Decidable (Apart X n) := inferInstanceAs (Decidable (∀ i, i < n → ∀ k, k < i → _))
theorem ptsL_full (X : Nat → Ti) : ∀ n, (ptsL X n).length = n ↔ Apart X n
  | 0 => by simp [ptsL, Apart]
  | n + 1 => by
    have ih := ptsL_full X n
    have hle := ptsL_le X n
    rw [ptsL]
    split
    · rename_i hc
      obtain ⟨i, hi, e⟩ := (ptsL_mem X _ n).1 hc
      constructor
      · intro h; omega
      · intro h; exact absurd e.symm (h n (by omega) i hi)
    · rename_i hc
      rw [List.length_append, List.length_singleton]
      constructor
      · intro h i hi k hk
        by_cases e : i = n
        · subst e
          exact fun he => hc ((ptsL_mem X _ i).2 ⟨k, hk, he.symm⟩)
        · exact (ih.1 (by omega)) i (by omega) k hk
      · intro h
        have := ih.2 (fun i hi k hk => h i (by omega) k hk)
        omega
theorem BkD_again {D : DataW Unit} {S : List (Int × List UInt8)} (h : Kp.BkD D S) (ht : Maps.Tidy D) {n : Int} {z : Nat → Int} (hn : Kp.Ib n) (hz : Hb z) (hc : S.contains (n, ub z) = true) (u : DataW Unit) : Kp.BkD (D.put (Kp.kl n z) u) S := by
  refine ⟨fun m y hm hy => ?_, ?_⟩
  · by_cases e : Kp.kl m y = Kp.kl n z
    · have := Kp.kl_inj hm hy hn hz e
      rw [e, Maps.has_put_same ht.isMap (Kp.kl_key n z), this.1, this.2, hc]
    · rw [Maps.has_put_other e, h.has m y hm hy]
  · rw [Maps.size_put ht, h.has n z hn hz, hc]
    simp [h.size]
theorem BkD_pts {D : DataW Unit} {X : Nat → Ti} {i : Nat} (h : Kp.BkD D (ptsL X i)) (ht : Maps.Tidy D) (hn : Kp.Ib (X i).n) (hz : Hb (X i).pt) (u : DataW Unit) : Kp.BkD (D.put (Kp.kl (X i).n (X i).pt) u) (ptsL X (i + 1)) := by
  rw [ptsL]
  split
  · rename_i hc; exact BkD_again h ht hn hz hc u
  · rename_i hc; exact h.put ht hn hz (by simpa [keyT] using hc) u
/-- A map of points of so many. -/
def PtM (w : World) (b N : Nat) : Prop := ∃ (D : DataW Unit) (k : Nat), w.ownsMap Tryz.prog 47 (unitElem (H := Unit)) b k D ∧ Maps.size D = N
theorem kowns_keep {w w' : World} {m n : Nat} {D : DataW Unit} (h : w.ownsMap Tryz.prog 47 (unitElem (H := Unit)) m n D) (hk : w'.heap[m]? = w.heap[m]?) : w'.ownsMap Tryz.prog 47 (unitElem (H := Unit)) m n D := by
  obtain ⟨es, clock, hb, r⟩ := h
  exact ⟨es, clock, by rw [hk]; exact hb, r⟩
set_option maxRecDepth 100000 in
set_option maxHeartbeats 3200000 in
theorem points_any (lk : Int) (ia : Option Addr) (n ic : Nat) (oa : Option Addr) (m oc : Nat) (X : Nat → Ti) (S : Nat → Option Addr × Nat) (w : World) (h : TiAt w ia n X S) (hI : ∀ i, i < n → Kp.Ib (X i).n) (hn : n ≤ 1000000) :
    Calls Tryz.prog 31 #[.agg (txv lk ia n ic oa m oc)] w fun e w' => (∃ b, e = .returned (.map (some b)) ∧ PtM w' b (ptsL X n).length) ∧ Below w.heap.size w w' := by
  have hb0 : Below w.heap.size w ((w.alloc (.cells #[.int .i64 lk, .slice ia n ic, .slice oa m oc] 35)).alloc (.map #[] 0)) := ((Below.refl _ w).alloc (Nat.le_refl _) _).alloc (by simp) _
  have hM0 : ((w.alloc (.cells #[.int .i64 lk, .slice ia n ic, .slice oa m oc] 35)).alloc (.map #[] 0)).ownsMap Tryz.prog 47 (unitElem (H := Unit)) (w.heap.size + 1) 0 (.map []) := by
    have := World.ownsMap_made (w.alloc (.cells #[.int .i64 lk, .slice ia n ic, .slice oa m oc] 35)) Tryz.prog 47 (unitElem (H := Unit))
    simpa using this
  have k1 := run_makeMap (P := Tryz.prog) 87
  have HT : Hid (TiAt w ia n X S) := h
  clear h
  unfold txv
  go_enter Tryz.func31, Tryz.ntmps31
  go_wp2
  generalize (w.alloc (.cells #[.int .i64 lk, .slice ia n ic, .slice oa m oc] 35)).alloc (.map #[] 0) = W0 at *
  go_loopw [5, 10] (fun _ iv wr => ∃ (i : Nat) (D : DataW Unit), i ≤ n ∧ iv = .int .i64 i ∧ wr.ownsMap Tryz.prog 47 (unitElem (H := Unit)) (w.heap.size + 1) i D ∧ Kp.BkD D (ptsL X i) ∧ Below w.heap.size w wr) (fun _ iv _ => n + 1 - (intOf iv).toNat)
  case atStart => exact ⟨0, _, by omega, rfl, hM0, Kp.BkD.nil, hb0⟩
  case round =>
    clear hb0 hM0 k1
    obtain ⟨i, D, hi, rfl, hM, hD, hb⟩ := hrel
    have HD : Hid (Kp.BkD D (ptsL X i)) := hD
    have HM : Hid (wr.ownsMap Tryz.prog 47 (unitElem (H := Unit)) (w.heap.size + 1) i D) := hM
    clear hD hM
    by_cases hlt : i < n
    · have hlt' : (i : Int) < n := by omega
      obtain ⟨b, off, rfl, hc⟩ := HT.out.at_ (by omega)
      have HR : Hid (wr.rangeAt b (off + i * 35) (til (X i) (S i).1 (S i).2)) := range_below (hc i hlt) hb
      have HZ : Hid (Hb (X i).pt ∧ Kp.Ib (X i).n) := ⟨HT.out.pt i hlt, hI i hlt⟩
      have k2 := build_unit
      clear hc
      go_wp2_with (first | (refine wpList_load_mid rfl 59 _ rfl b (off + i * 35) rfl (til (X i) (S i).1 (S i).2) _ HR.out Tryz.underlying59 rfl (szTil _ _ _) ?_) | (refine wpList_allocG 59 (tiv ti0 none 0) run_allocTi rfl rfl ?_) | (refine wpList_storeG 59 szTi rfl _ _ rfl wr.heap.size rfl (tiv (X i) (S i).1 (S i).2) (tiv ti0 none 0) (tiv_size _ _ _) (tiv_size _ _ _) (tiv_one _ _ _) 59 rfl (heap_alloc_new wr _) ?_; intro u5 hg5 hf5; have hb5 := kfrm_new hf5; have HP : Hid (u5.rangeAt wr.heap.size 0 (ptl (X i).pt (X i).n)) := pt_range (til_range hg5); have HM5 : Hid (u5.ownsMap Tryz.prog 47 (unitElem (H := Unit)) (w.heap.size + 1) i D) := kowns_keep HM.out (hb5.block _ HM.out.lt); clear hg5 hf5) | (refine wpList_load_mid rfl 47 _ rfl wr.heap.size 0 rfl (ptl (X i).pt (X i).n) _ HP.out Tryz.underlying47 rfl (szPtl _ _) ?_) | (at_mapUpdate; refine wpList_mapUpdate_own u5 rfl _ _ _ 87 rfl 47 91 Kp.lawS Tryz.underlying87 (unitElem (H := Unit)) (w.heap.size + 1) i D rfl HM5.out (by simp [maxLen]; omega) (.agg (Kp.kv (X i).n (X i).pt)) (.agg #[]) (Kp.kl (X i).n (X i).pt) rfl rfl (Kp.keyOfS HZ.out.2 HZ.out.1) (.agg []) [] unitElem_mk ?_; intro u6 hm6 hg6) | fail)
      have HD6 : Hid (Kp.BkD (D.put (Kp.kl (X i).n (X i).pt) (.agg [])) (ptsL X (i + 1))) := BkD_pts HD.out (HM.out.tidy Kp.lawS) HZ.out.2 HZ.out.1 _
      have hb6 : Below w.heap.size w u6 := (hb.trans (hb5.mono hb.size)).grown hg6 (by have := hb.size; have := hb5.size; omega) (fun j hj => by cases hj; omega)
      go_roundw
      case rel => exact ⟨i + 1, _, by omega, by go_num, hm6, HD6.out, hb6⟩
      case measure => simp [intOf]; omega
    · obtain rfl : i = n := by omega
      have hnn : ¬ ((i : Int) < i) := by omega
      go_wp2
      go_ret
      exact ⟨⟨_, rfl, D, _, HM.out, HD.out.size⟩, hb⟩
end Go.Proofs.YtanchjfodcjlmaaGreatDoor
