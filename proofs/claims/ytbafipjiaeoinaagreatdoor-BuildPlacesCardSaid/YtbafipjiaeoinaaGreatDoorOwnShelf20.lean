/- The points that a transaction spends, as a map. -/
import Derived.Test.YtbafipjiaeoinaaGreatDoorOwnShelf19
import Derived.Test.YtbafipjiaeoinaaGreatDoorOwnShelf07
import Derived.Test.YtbafipjiaeoinaaGreatDoorOwnShelf06
import Derived.OrdersHeld
import Derived.Deep.RegionHeld3
namespace Go.Proofs.YtbafipjiaeoinaaGreatDoor
open Go.RowKit

theorem kfrm_new {w w' : World} {o : Obj} (h : Frm [w.heap.size] (w.alloc o) w') : Below w.heap.size w w' :=
  ((Below.refl _ w).alloc (Nat.le_refl _) o).trans (h.below (by simp) (by simp))
def ti0 : Ti := ⟨nz, 0, 0, 0⟩
theorem run_allocTi (w : World) : (Instr.alloc 130 true (.tuple #[])).run Tryz.prog w = .ok (.pointer (some ⟨w.heap.size, 0, none⟩)) (w.alloc (.cells (tiv ti0 none 0) 130)) := by kernel_rfl
theorem szPt : (Tryz.prog.info? 38).map (·.size) = some 33 := by kernel_rfl
theorem szPtl (z : Nat → Int) (n : Int) : (Tryz.prog.info? 38).map (·.size) = some (ptl z n).length := by rw [ptl_length]; exact szPt
theorem build_unit (w : World) : (Instr.build 211 #[]).run Tryz.prog w = .ok (.agg #[]) w := by kernel_rfl
theorem tiv_one (x : Ti) (sa : Option Addr) (sc : Nat) : (tiv x sa sc).all (·.oneCell') = true := all_oneCell_toArray (til_one x sa sc)
theorem pt_range {w : World} {g off : Nat} {x : Ti} {sa : Option Addr} {sc : Nat} (h : w.rangeAt g off (til x sa sc)) : w.rangeAt g off (ptl x.pt x.n) := fun j v hv => by
  refine h j v ?_
  have e : til x sa sc = ptl x.pt x.n ++ [.int .i64 x.br, .slice sa x.sn sc] := by simp [til, ptl]
  rw [e, List.getElem?_append_left (List.getElem?_eq_some_iff.1 hv).1]
  exact hv
/-- The points of n inputs, each once. -/
def keyT (x : Ti) : Int × List UInt8 := (x.n, ub x.pt)
def ptsL (X : Nat → Ti) : Nat → List (Int × List UInt8)
  | 0 => []
  | n + 1 => if (ptsL X n).contains (keyT (X n)) then ptsL X n else ptsL X n ++ [keyT (X n)]
theorem ptsL_le (X : Nat → Ti) : ∀ n, (ptsL X n).length ≤ n
  | 0 => by simp [ptsL]
  | n + 1 => by have := ptsL_le X n; rw [ptsL]; split <;> simp <;> omega
theorem ptsL_mem (X : Nat → Ti) (k : Int × List UInt8) : ∀ n, (ptsL X n).contains k = true ↔ ∃ i, i < n ∧ keyT (X i) = k
  | 0 => by simp [ptsL]
  | n + 1 => by
    have ih := ptsL_mem X k n
    rw [ptsL]
    split
    · rename_i hc
      rw [ih]
      constructor
      · rintro ⟨i, hi, e⟩; exact ⟨i, by omega, e⟩
      · rintro ⟨i, hi, e⟩
        by_cases h : i = n
        · subst h; rw [e] at hc; exact ih.1 hc
        · exact ⟨i, by omega, e⟩
    · rw [List.contains_iff_mem, List.mem_append, ← List.contains_iff_mem, ih]
      constructor
      · rintro (⟨i, hi, e⟩ | h)
        · exact ⟨i, by omega, e⟩
        · exact ⟨n, by omega, (List.mem_singleton.1 h).symm⟩
      · rintro ⟨i, hi, e⟩
        by_cases h : i = n
        · subst h; exact .inr (by rw [e]; exact List.mem_singleton.2 rfl)
        · exact .inl ⟨i, by omega, e⟩
/-- No two inputs spend the same. -/
def Apart (X : Nat → Ti) (n : Nat) : Prop := ∀ i, i < n → ∀ k, k < i → keyT (X i) ≠ keyT (X k)
instance (X : Nat → Ti) (n : Nat) : Decidable (Apart X n) := inferInstanceAs (Decidable (∀ i, i < n → ∀ k, k < i → _))
theorem ptsL_full (X : Nat → Ti) : ∀ n, (ptsL X n).length = n ↔ Apart X n
  | 0 => by simp [ptsL, Apart]
  | n + 1 => by
    have ih := ptsL_full X n
    have hle := ptsL_le X n
    rw [ptsL]
    split
    · rename_i hc
      obtain ⟨i, hi, e⟩ := (ptsL_mem X _ n).1 hc
      constructor
      · intro h; omega
      · intro h; exact absurd e.symm (h n (by omega) i hi)
    · rename_i hc
      rw [List.length_append, List.length_singleton]
      constructor
      · intro h i hi k hk
        by_cases e : i = n
        · subst e
          exact fun he => hc ((ptsL_mem X _ i).2 ⟨k, hk, he.symm⟩)
        · exact (ih.1 (by omega)) i (by omega) k hk
      · intro h
        have := ih.2 (fun i hi k hk => h i (by omega) k hk)
        omega
theorem BkD_again {D : DataW Unit} {S : List (Int × List UInt8)} (h : Kp.BkD D S) (ht : Maps.Tidy D) {n : Int} {z : Nat → Int} (hn : Kp.Ib n) (hz : Hb z) (hc : S.contains (n, ub z) = true) (u : DataW Unit) : Kp.BkD (D.put (Kp.kl n z) u) S := by
  refine ⟨fun m y hm hy => ?_, ?_⟩
  · by_cases e : Kp.kl m y = Kp.kl n z
    · have := Kp.kl_inj hm hy hn hz e
      rw [e, Maps.has_put_same ht.isMap (Kp.kl_key n z), this.1, this.2, hc]
    · rw [Maps.has_put_other e, h.has m y hm hy]
  · rw [Maps.size_put ht, h.has n z hn hz, hc]
    simp [h.size]
theorem BkD_pts {D : DataW Unit} {X : Nat → Ti} {i : Nat} (h : Kp.BkD D (ptsL X i)) (ht : Maps.Tidy D) (hn : Kp.Ib (X i).n) (hz : Hb (X i).pt) (u : DataW Unit) : Kp.BkD (D.put (Kp.kl (X i).n (X i).pt) u) (ptsL X (i + 1)) := by
  rw [ptsL]
  split
  · rename_i hc; exact BkD_again h ht hn hz hc u
  · rename_i hc; exact h.put ht hn hz (by simpa [keyT] using hc) u
/-- A map of points of so many. -/
def PtM (w : World) (b N : Nat) : Prop := ∃ (D : DataW Unit) (k : Nat), w.ownsMap Tryz.prog 38 (unitElem (H := Unit)) b k D ∧ Maps.size D = N
theorem kowns_keep {w w' : World} {m n : Nat} {D : DataW Unit} (h : w.ownsMap Tryz.prog 38 (unitElem (H := Unit)) m n D) (hk : w'.heap[m]? = w.heap[m]?) : w'.ownsMap Tryz.prog 38 (unitElem (H := Unit)) m n D := by
  obtain ⟨es, clock, hb, r⟩ := h
  exact ⟨es, clock, by rw [hk]; exact hb, r⟩
set_option maxRecDepth 100000 in
set_option maxHeartbeats 3200000 in
theorem points_any (lk : Int) (ia : Option Addr) (n ic : Nat) (oa : Option Addr) (m oc : Nat) (X : Nat → Ti) (S : Nat → Option Addr × Nat) (w : World) (h : TiAt w ia n X S) (hI : ∀ i, i < n → Kp.Ib (X i).n) (hn : n ≤ 1000000) :
    Calls Tryz.prog 82 #[.agg (txv lk ia n ic oa m oc)] w fun e w' => (∃ b, e = .returned (.map (some b)) ∧ PtM w' b (ptsL X n).length) ∧ Below w.heap.size w w' := by
  have hb0 : Below w.heap.size w ((w.alloc (.cells #[.int .i64 lk, .slice ia n ic, .slice oa m oc] 50)).alloc (.map #[] 0)) := ((Below.refl _ w).alloc (Nat.le_refl _) _).alloc (by simp) _
  have hM0 : ((w.alloc (.cells #[.int .i64 lk, .slice ia n ic, .slice oa m oc] 50)).alloc (.map #[] 0)).ownsMap Tryz.prog 38 (unitElem (H := Unit)) (w.heap.size + 1) 0 (.map []) := by
    have := World.ownsMap_made (w.alloc (.cells #[.int .i64 lk, .slice ia n ic, .slice oa m oc] 50)) Tryz.prog 38 (unitElem (H := Unit))
    simpa using this
  have k1 := run_makeMap (P := Tryz.prog) 172
  have HT : Hid (TiAt w ia n X S) := h
  clear h
  unfold txv
  go_enter Tryz.func82, Tryz.ntmps82
  go_wp2
  generalize (w.alloc (.cells #[.int .i64 lk, .slice ia n ic, .slice oa m oc] 50)).alloc (.map #[] 0) = W0 at *
  go_loopw [5, 10] (fun _ iv wr => ∃ (i : Nat) (D : DataW Unit), i ≤ n ∧ iv = .int .i64 i ∧ wr.ownsMap Tryz.prog 38 (unitElem (H := Unit)) (w.heap.size + 1) i D ∧ Kp.BkD D (ptsL X i) ∧ Below w.heap.size w wr) (fun _ iv _ => n + 1 - (intOf iv).toNat)
  case atStart => exact ⟨0, _, by omega, rfl, hM0, Kp.BkD.nil, hb0⟩
  case round =>
    clear hb0 hM0 k1
    obtain ⟨i, D, hi, rfl, hM, hD, hb⟩ := hrel
    have HD : Hid (Kp.BkD D (ptsL X i)) := hD
    have HM : Hid (wr.ownsMap Tryz.prog 38 (unitElem (H := Unit)) (w.heap.size + 1) i D) := hM
    clear hD hM
    by_cases hlt : i < n
    · have hlt' : (i : Int) < n := by omega
      obtain ⟨b, off, rfl, hc⟩ := HT.out.at_ (by omega)
      have HR : Hid (wr.rangeAt b (off + i * 35) (til (X i) (S i).1 (S i).2)) := range_below (hc i hlt) hb
      have HZ : Hid (Hb (X i).pt ∧ Kp.Ib (X i).n) := ⟨HT.out.pt i hlt, hI i hlt⟩
      have k2 := build_unit
      clear hc
      go_wp2_with (first | (refine wpList_load_mid rfl 130 _ rfl b (off + i * 35) rfl (til (X i) (S i).1 (S i).2) _ HR.out Tryz.underlying130 rfl (szTil _ _ _) ?_) | (refine wpList_allocG 130 (tiv ti0 none 0) run_allocTi rfl rfl ?_) | (refine wpList_storeG 130 szTi rfl _ _ rfl wr.heap.size rfl (tiv (X i) (S i).1 (S i).2) (tiv ti0 none 0) (tiv_size _ _ _) (tiv_size _ _ _) (tiv_one _ _ _) 130 rfl (heap_alloc_new wr _) ?_; intro u5 hg5 hf5; have hb5 := kfrm_new hf5; have HP : Hid (u5.rangeAt wr.heap.size 0 (ptl (X i).pt (X i).n)) := pt_range (til_range hg5); have HM5 : Hid (u5.ownsMap Tryz.prog 38 (unitElem (H := Unit)) (w.heap.size + 1) i D) := kowns_keep HM.out (hb5.block _ HM.out.lt); clear hg5 hf5) | (refine wpList_load_mid rfl 38 _ rfl wr.heap.size 0 rfl (ptl (X i).pt (X i).n) _ HP.out Tryz.underlying38 rfl (szPtl _ _) ?_) | (at_mapUpdate; refine wpList_mapUpdate_own u5 rfl _ _ _ 172 rfl 38 211 Kp.lawS Tryz.underlying172 (unitElem (H := Unit)) (w.heap.size + 1) i D rfl HM5.out (by simp [maxLen]; omega) (.agg (Kp.kv (X i).n (X i).pt)) (.agg #[]) (Kp.kl (X i).n (X i).pt) rfl rfl (Kp.keyOfS HZ.out.2 HZ.out.1) (.agg []) [] unitElem_mk ?_; intro u6 hm6 hg6) | fail)
      have HD6 : Hid (Kp.BkD (D.put (Kp.kl (X i).n (X i).pt) (.agg [])) (ptsL X (i + 1))) := BkD_pts HD.out (HM.out.tidy Kp.lawS) HZ.out.2 HZ.out.1 _
      have hb6 : Below w.heap.size w u6 := (hb.trans (hb5.mono hb.size)).grown hg6 (by have := hb.size; have := hb5.size; omega) (fun j hj => by cases hj; omega)
      go_roundw
      case rel => exact ⟨i + 1, _, by omega, by go_num, hm6, HD6.out, hb6⟩
      case measure => simp [intOf]; omega
    · obtain rfl : i = n := by omega
      have hnn : ¬ ((i : Int) < i) := by omega
      go_wp2
      go_ret
      exact ⟨⟨_, rfl, D, _, HM.out, HD.out.size⟩, hb⟩
end Go.Proofs.YtbafipjiaeoinaaGreatDoor
/- build.spend: inputs that spend points. -/
namespace Go.Proofs.YtbafipjiaeoinaaGreatDoor
open Go.RowKit

/-- n points lie at an address. -/
structure PtAt (w : World) (ad : Option Addr) (n : Nat) (Z : Nat → (Nat → Int) × Int) : Prop where
  at_ : 0 < n → ∃ b off, ad = some ⟨b, off, none⟩ ∧ ∀ i, i < n → w.rangeAt b (off + i * 33) (ptl (Z i).1 (Z i).2)
theorem PtAt.below {w w' : World} {ad : Option Addr} {n : Nat} {Z : Nat → (Nat → Int) × Int} (h : PtAt w ad n Z) (hb : Below w.heap.size w w') : PtAt w' ad n Z := by
  refine ⟨fun hn => ?_⟩
  obtain ⟨b, off, e, hr⟩ := h.at_ hn
  exact ⟨b, off, e, fun i hi => range_below (hr i hi) hb⟩
def tiOf (z : (Nat → Int) × Int) : Ti := ⟨z.1, z.2, 0, 0⟩
def ptv (z : (Nat → Int) × Int) : Array Value := (ptl z.1 z.2).toArray
theorem ptv_size (z : (Nat → Int) × Int) : (ptv z).size = 33 := by simp [ptv, ptl_length]
theorem ptl_one (z : Nat → Int) (n : Int) : ∀ u ∈ ptl z n, u.oneCell' = true := by
  intro u hu
  simp only [ptl, List.mem_append, List.mem_singleton] at hu
  rcases hu with hu | rfl
  · exact bl_one _ _ _ hu
  · rfl
theorem ptv_one (z : (Nat → Int) × Int) : (ptv z).all (·.oneCell') = true := all_oneCell_toArray (ptl_one _ _)
theorem run_allocPt (w : World) : (Instr.alloc 38 true (.tuple #[])).run Tryz.prog w = .ok (.pointer (some ⟨w.heap.size, 0, none⟩)) (w.alloc (.cells (ptv (nz, 0)) 38)) := by kernel_rfl
theorem build_ti (z : (Nat → Int) × Int) (w : World) : (Instr.build 130 #[(0, .agg (ptl z.1 z.2).toArray)]).run Tryz.prog w = .ok (.agg (tiv (tiOf z) none 0)) w := by kernel_rfl
theorem slice_ti (x : Ti) (sa : Option Addr) (sc : Nat) (w : World) : (Instr.buildSlice 47 1 #[(0, .agg (tiv x sa sc))]).run Tryz.prog w = .ok (.slice (some ⟨w.heap.size, 0, none⟩) 1 1) (w.alloc (.cells (tiv x sa sc) 130)) := by kernel_rfl
theorem infoTi : (Tryz.prog.info? 130).map (fun i => (i.zero, i.size, i.bytes)) = some (some (.agg (tiv ti0 none 0)), 35, 72) := by kernel_rfl
def tiR (Z : Nat → (Nat → Int) × Int) : Nat → List Value := fun i => til (tiOf (Z i)) none 0
theorem run_append_Ti (w : World) (B q : Nat) (ty : TypeId) (v : Value) (i : Nat) (xs : List Value) (x : Ti) (sa : Option Addr) (sc : Nat) (hown : w.ownsRow B 130 35 v i xs) (hB : B ≤ w.heap.size) (hq : w.heap[q]? = some (.cells (tiv x sa sc) 130 (0, 0))) (hi : i ≤ 1000000) :
    ∃ va vc w1, (Builtin.append_ #[47, 47] ty #[v, .slice (some ⟨q, 0, none⟩) 1 1]).run Tryz.prog w = .ok (.slice va (i + 1) vc) w1 ∧ w1.ownsRow B 130 35 (.slice va (i + 1) vc) (i + 1) (xs ++ til x sa sc) ∧ w.grownBy w1 v.ownBlock := by
  obtain ⟨i0, hi0, hz0, hz1, hz2⟩ := info_parts infoTi
  obtain ⟨v', w1, hr, h2, h3, _, h5⟩ := run_append_own_at (P := Tryz.prog) w B 47 ty 130 i0 (.agg (tiv ti0 none 0)) 35 72 Tryz.underlying47 hi0 hz0 hz1 hz2 (by simp [Value.cells, tiv_size]) (by omega) v i xs hown ⟨q, 0, none⟩ 1 1 (til x sa sc) (by rw [til_length]) (fun j u hj => by
      rw [Addr.add_lit, Nat.zero_add, cell_of_row _ _ j _ _ _ hq]
      simpa [tiv] using hj) (til_one _ _ _) (by unfold maxLen; omega) (by omega) hB
  obtain ⟨va, vc, rfl, _, _⟩ := own_frmV h2
  exact ⟨va, vc, w1, hr, h2, h3⟩
section
variable {ops : Array Oper} {rest : List Oper} {o : Oper} {a : Act} {w : World} {Q : Exit → Act → World → Prop}
theorem wpList_buildTi (z : (Nat → Int) × Int) (hgd : o.guard = none) (x : Operand) (ho : o.op = .build 130 #[(0, x)]) (hx : a.eval x = .agg (ptl z.1 z.2).toArray)
    (h : wpList Tryz.prog ops Q rest (a.put o.dst (.agg (tiv (tiOf z) none 0))) w) : wpList Tryz.prog ops Q (o :: rest) a w := by
  refine wpList_plain hgd fun K hK => ?_
  unfold Oper.wp execOp
  simp only [ho, List.map_toArray, List.map_cons, List.map_nil, hx, Sem.run_bind, build_ti, Result.andThen]
  exact hK _ _ h
theorem wpList_sliceTi (y : Ti) (sa : Option Addr) (sc : Nat) (hgd : o.guard = none) (x : Operand) (ho : o.op = .buildSlice 47 1 #[(0, x)]) (hx : a.eval x = .agg (tiv y sa sc))
    (h : wpList Tryz.prog ops Q rest (a.put o.dst (.slice (some ⟨w.heap.size, 0, none⟩) 1 1)) (w.alloc (.cells (tiv y sa sc) 130))) : wpList Tryz.prog ops Q (o :: rest) a w := by
  refine wpList_plain hgd fun K hK => ?_
  unfold Oper.wp execOp
  simp only [ho, List.map_toArray, List.map_cons, List.map_nil, hx, Sem.run_bind, slice_ti, Result.andThen]
  exact hK _ _ h
theorem wpList_kapp1 (hgd : o.guard = none) (s x : Operand) (t : TypeId) (ho : o.op = .call { callee := .builtin .append, args := #[s, x], argTypes := #[t, t] }) (v u : Value) (hs : a.eval s = v) (hx : a.eval x = u) (R : Value → World → Prop)
    (hr : ∀ ty, ∃ v' w1, (Builtin.append_ #[t, t] ty #[v, u]).run Tryz.prog w = .ok v' w1 ∧ R v' w1) (h : ∀ v' w1, R v' w1 → wpList Tryz.prog ops Q rest (a.put o.dst v') w1) : wpList Tryz.prog ops Q (o :: rest) a w := by
  obtain ⟨v', w1, hr1, h1⟩ := hr o.type
  refine wpList_plain hgd fun K hK => ?_
  unfold Oper.wp execOp
  simp only [ho, resolve, invoke, builtin, Sem.run_bind, Sem.run_pure, Result.andThen_ok, List.map_toArray, List.map_cons, List.map_nil, hs, hx, hr1]
  exact hK _ _ (h v' w1 h1)
end
set_option maxRecDepth 100000 in
set_option maxHeartbeats 3200000 in
theorem spend_any (ad : Option Addr) (n cap : Nat) (Z : Nat → (Nat → Int) × Int) (w : World) (h : PtAt w ad n Z) (hn : n ≤ 1000000) :
    Calls Tryz.prog 28 #[.slice ad n cap] w fun e w' => (∃ va vc, e = .returned (.slice va n vc) ∧ w'.ownsRow w.heap.size 130 35 (.slice va n vc) n (flatL (tiR Z) n)) ∧ Below w.heap.size w w' := by
  have HT : Hid (PtAt w ad n Z) := h
  have hb0 := Below.refl w.heap.size w
  have ho0 : w.ownsRow w.heap.size 130 35 (.slice none 0 0) 0 (flatL (tiR Z) 0) := World.ownsRow_nil _ _ _ _
  clear h
  go_enter Tryz.func28, Tryz.ntmps28
  go_wp2
  go_loopw [3, 5, 8] (fun sv _ iv wr => ∃ (i : Nat) (va : Option Addr) (vc : Nat), i ≤ n ∧ iv = .int .i64 i ∧ sv = .slice va i vc ∧ wr.ownsRow w.heap.size 130 35 (.slice va i vc) i (flatL (tiR Z) i) ∧ Below w.heap.size w wr) (fun _ _ iv _ => n + 1 - (intOf iv).toNat)
  case atStart => exact ⟨0, none, 0, by omega, rfl, rfl, ho0, hb0⟩
  case round =>
    clear hb0 ho0
    obtain ⟨i, va, vc, hi, rfl, rfl, ho, hb⟩ := hrel
    have HO : Hid (wr.ownsRow w.heap.size 130 35 (.slice va i vc) i (flatL (tiR Z) i)) := ho
    clear ho
    by_cases hlt : i < n
    · have hlt' : (i : Int) < n := by omega
      obtain ⟨b, off, rfl, hc⟩ := HT.out.at_ (by omega)
      have HR : Hid (wr.rangeAt b (off + i * 33) (ptl (Z i).1 (Z i).2)) := range_below (hc i hlt) hb
      clear hc
      have hbs := hb.size
      go_wp2_with (first | (refine wpList_load_mid rfl 38 _ rfl b (off + i * 33) rfl (ptl (Z i).1 (Z i).2) _ HR.out Tryz.underlying38 rfl (szPtl _ _) ?_) | (refine wpList_allocG 38 (ptv (nz, 0)) run_allocPt rfl rfl ?_) | (refine wpList_storeG 38 szPt rfl _ _ rfl wr.heap.size rfl (ptv (Z i)) (ptv (nz, 0)) (ptv_size _) (ptv_size _) (ptv_one _) 38 rfl (heap_alloc_new wr _) ?_; intro z5 hg5 hf5; have hb5 := kfrm_new hf5; have HP : Hid (z5.rangeAt wr.heap.size 0 (ptl (Z i).1 (Z i).2)) := (fun j v hv => by rw [Nat.zero_add, cell_of_row _ _ j _ _ _ hg5]; simpa [ptv] using hv); have HO5 : Hid (z5.ownsRow w.heap.size 130 35 (.slice va i vc) i (flatL (tiR Z) i)) := own_below HO.out hb5; clear hg5 hf5) | (refine wpList_load_mid rfl 38 _ rfl wr.heap.size 0 rfl (ptl (Z i).1 (Z i).2) _ HP.out Tryz.underlying38 rfl (szPtl _ _) ?_) | (refine wpList_buildTi (Z i) rfl _ rfl rfl ?_) | (refine wpList_sliceTi (tiOf (Z i)) none 0 rfl _ rfl rfl ?_; have hb6 : Below z5.heap.size z5 (z5.alloc (.cells (tiv (tiOf (Z i)) none 0) 130)) := (Below.refl _ _).alloc (Nat.le_refl _) _; have hq6 := heap_alloc_new z5 (.cells (tiv (tiOf (Z i)) none 0) 130); have HO6 := (own_below HO5.out hb6); generalize z5.alloc (.cells (tiv (tiOf (Z i)) none 0) 130) = z6 at *) | (at_builtin; refine wpList_kapp1 rfl _ _ 47 rfl (.slice va i vc) (.slice (some ⟨z5.heap.size, 0, none⟩) 1 1) rfl rfl (fun v' w1 => ∃ ua uc, v' = .slice ua (i + 1) uc ∧ w1.ownsRow w.heap.size 130 35 (.slice ua (i + 1) uc) (i + 1) (flatL (tiR Z) i ++ til (tiOf (Z i)) none 0) ∧ z6.grownBy w1 (Value.slice va i vc).ownBlock) (fun ty => by obtain ⟨ua, uc, w1, h1, h2, h3⟩ := run_append_Ti z6 w.heap.size z5.heap.size ty (.slice va i vc) i (flatL (tiR Z) i) (tiOf (Z i)) none 0 HO6 (by have := hb6.size; have := hb5.size; omega) hq6 (by omega); exact ⟨_, w1, h1, ua, uc, rfl, h2, h3⟩) ?_; rintro v' z7 ⟨ua, uc, rfl, hown, hgrow⟩) | fail)
      have hb7 : Below w.heap.size w z7 := ((hb.trans (hb5.mono hb.size)).trans (hb6.mono (by have := hb5.size; omega))).grown hgrow (by have := hb6.size; have := hb5.size; omega) (fun k hk => (HO6.lt k hk).1)
      go_roundw
      case rel => exact ⟨i + 1, _, _, by omega, by go_num, rfl, hown, hb7⟩
      case measure => simp [intOf]; omega
    · obtain rfl : i = n := by omega
      have hnn : ¬ ((i : Int) < i) := by omega
      go_wp2
      go_ret
      exact ⟨⟨va, vc, rfl, HO.out⟩, hb⟩
end Go.Proofs.YtbafipjiaeoinaaGreatDoor
/- A region that draws its order and whose last operation (c, which waits for all others) writes a cell that the others load: S need not hold behind it. -/
namespace Go.Proofs.YtbafipjiaeoinaaGreatDoor
open Go

section
variable {P : Program} {ops : Array Oper} {md : Region.Mode} {Q : Exit → Act → World → Prop} {S : World → Prop} {c : Nat}

/-- Whatever order is picked from here on; S holds behind every operation but c. -/
def wpAnyK (P : Program) (md : Region.Mode) (ops : Array Oper) (Q : Exit → Act → World → Prop) (S : World → Prop) (c : Nat) : Nat → Array Bool → Act → World → Prop
  | 0, l, a, w => Region.ready md ops l = [] ∧ Q .normal a w
  | n + 1, l, a, w => (Region.ready md ops l = [] → Q .normal a w) ∧
    ∀ i ∈ Region.ready md ops l, wpOp P ops Q i (fun a' w' => (i ≠ c → S w') ∧ wpAnyK P md ops Q S c n (l.setIfInBounds i true) a' w') a w

theorem wpAny_of_K : ∀ (n : Nat) (l : Array Bool) (a : Act) (w : World), wpAnyK P md ops Q S c n l a w → wpAny P md ops Q n l a w
  | 0, _, _, _, h => h
  | n + 1, _, _, _, h => ⟨h.1, fun i hi => wpOp_mono (fun a' w' h' => wpAny_of_K n _ a' w' h'.2) (h.2 i hi)⟩

/-- c waits for i. -/
def waitsK (md : Region.Mode) (ops : Array Oper) (c i : Nat) : Bool := match ops[c]? with
  | some oc => oc.after.any fun e => Region.binds md e && e.on == i
  | none => false

theorem wpAnyK_first {i : Nat} {oi : Oper} {v : Value} (hce : waitsK md ops c i = true) (hi : ops[i]? = some oi) (hsel : ∀ (j : Nat) (o : Oper) cs b, ops[j]? = some o → o.op ≠ .select cs b)
    (hQ : ∀ ch a w, Q (.panic ch) (a.put oi.dst v) w → Q (.panic ch) a w) :
    ∀ (n : Nat) (l : Array Bool) (a : Act) (w : World),
      (∀ j oj, ops[j]? = some oj → j ≠ i → l.getD j true = false → (∀ e ∈ oj.after, Region.binds md e = true → e.on ≠ i) → oi.apart ops oj = true) →
      i ∈ Region.ready md ops l → YieldsIf P ops S oi v a → S w →
      wpAnyK P md ops Q S c n (l.setIfInBounds i true) (a.put oi.dst v) w → wpAnyK P md ops Q S c (n + 1) l a w := by
  intro n
  induction n with
  | zero =>
    intro l a w _ hr hy hS H
    refine ⟨fun h => (by rw [h] at hr; cases hr), fun j hj => ?_⟩
    by_cases hji : j = i
    · subst hji; exact hy.wpOp hi hS ⟨fun _ => hS, H⟩
    · have := ready_mono hj hji
      rw [H.1] at this
      cases this
  | succ n ih =>
    intro l a w hfree hr hy hS H
    refine ⟨fun h => (by rw [h] at hr; cases hr), fun j hj => ?_⟩
    by_cases hji : j = i
    · subst hji; exact hy.wpOp hi hS ⟨fun _ => hS, H⟩
    · have h1 := H.2 j (ready_mono hj hji)
      obtain ⟨hjun, oj, hoj, hall⟩ := mem_ready.1 hj
      have hnot : ∀ e ∈ oj.after, Region.binds md e = true → e.on ≠ i := fun e he hb heq => by
        have h1 := hall e he hb
        have h0 := (mem_ready.1 hr).1
        rw [heq] at h1
        rcases Nat.lt_or_ge i l.size with h' | h'
        · simp [h'] at h0 h1; rw [h0] at h1; cases h1
        · simp [Array.getElem?_eq_none h'] at h1
      have hjc : j ≠ c := fun e => by
        subst e
        unfold waitsK at hce
        rw [hoj] at hce
        obtain ⟨e, he, hh⟩ := Array.any_eq_true'.1 hce
        simp only [Bool.and_eq_true, beq_iff_eq] at hh
        exact hnot e he hh.1 hh.2
      have h2 := wpOp_putIf hoj (hfree j oj hoj hji hjun hnot) (fun cs b => hsel i oi cs b hi) (fun cs b => hsel j oj cs b hoj) hQ hy h1
      have hfree' : ∀ k ok, ops[k]? = some ok → k ≠ i → (l.setIfInBounds j true).getD k true = false →
          (∀ e ∈ ok.after, Region.binds md e = true → e.on ≠ i) → oi.apart ops ok = true := fun k ok hk hki hun hno => by
        refine hfree k ok hk hki ?_ hno
        by_cases hjk : j = k
        · subst hjk; exact hjun
        · rw [getD_set_ne true hjk] at hun; exact hun
      refine wpOp_mono (fun a' w' h3 => ⟨h3.2.1, ih (l.setIfInBounds j true) a' w' hfree' (ready_mono hr (Ne.symm hji)) h3.1 (h3.2.1 hjc) ?_⟩) h2
      rw [Array.setIfInBounds_comm _ _ hji]
      exact h3.2.2

theorem wpAnyK_take {i : Nat} {oi : Oper} {v : Value} {n : Nat} {l : Array Bool} {a : Act} {w : World} (hce : waitsK md ops c i = true) (hi : ops[i]? = some oi)
    (hs : Region.noSelect ops = true) (hf : Region.free md ops l i = true) (hr : (Region.ready md ops l).contains i = true)
    (hQ : ∀ ch a w, Q (.panic ch) (a.put oi.dst v) w → Q (.panic ch) a w) (hy : YieldsIf P ops S oi v a) (hS : S w)
    (h : wpAnyK P md ops Q S c n (l.setIfInBounds i true) (a.put oi.dst v) w) : wpAnyK P md ops Q S c (n + 1) l a w :=
  wpAnyK_first hce hi (Region.noSelect_spec hs) hQ n l a w (Region.free_spec hi hf) (by simpa using hr) hy hS h

def AllReadyK (P : Program) (md : Region.Mode) (ops : Array Oper) (Q : Exit → Act → World → Prop) (S : World → Prop) (c n : Nat) (l : Array Bool) (a : Act) (w : World) (rs : List Nat) : Prop :=
  ∀ i ∈ rs, wpOp P ops Q i (fun a' w' => (i ≠ c → S w') ∧ wpAnyK P md ops Q S c n (l.setIfInBounds i true) a' w') a w
theorem AllReadyK.nil {n : Nat} {l : Array Bool} {a : Act} {w : World} : AllReadyK P md ops Q S c n l a w [] := fun _ h => by cases h
theorem AllReadyK.cons {n : Nat} {l : Array Bool} {a : Act} {w : World} {i : Nat} {o : Oper} {rs : List Nat} (ho : ops[i]? = some o)
    (h : ∀ K' : Act → World → Prop, Shut (∀ a w, (i ≠ c → S w) → ((i ≠ c → S w) → wpAnyK P md ops Q S c n (l.setIfInBounds i true) a w) → K' a w) → if Region.wanted o (yielded ops a.tmps) = true then Oper.wp P o a w K' Q else K' (a.put o.dst undef) w)
    (hs : AllReadyK P md ops Q S c n l a w rs) : AllReadyK P md ops Q S c n l a w (i :: rs) := fun j hj => by
  rcases List.mem_cons.1 hj with rfl | hj
  · exact wpOp_step ho (fun K' hK => h K' (fun a w hS hW => hK a w ⟨hS, hW hS⟩))
  · exact hs j hj
theorem wpAnyK_ready {rs : List Nat} {n : Nat} {l : Array Bool} {a : Act} {w : World} (hr : Region.ready md ops l = rs) (hne : rs ≠ [])
    (h : AllReadyK P md ops Q S c n l a w rs) : wpAnyK P md ops Q S c (n + 1) l a w := ⟨fun h0 => absurd (hr ▸ h0) hne, hr ▸ h⟩
theorem wpAnyK_done {l : Array Bool} {a : Act} {w : World} (hr : Region.ready md ops l = []) (h : Q .normal a w) : ∀ n, wpAnyK P md ops Q S c n l a w
  | 0 => ⟨hr, h⟩
  | _ + 1 => ⟨fun _ => h, by rw [hr]; simp⟩
theorem wp_region_K {id : Nat} {a : Act} {w : World} (c : Nat) (hm : P.follows .mixedOrders = true) (hS : S w.drew)
    (h : S w.drew → wpAnyK P .any ops Q S c ops.size (Array.replicate ops.size false) a w.drew) : (Code.region id ops true).wp P Q a w :=
  wp_region_any hm (wpAny_of_K _ _ _ _ (h hS))
end
end Go.Proofs.YtbafipjiaeoinaaGreatDoor
