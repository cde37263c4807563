/- The document's rows of payments: appended, built; payAt, drop. -/
import Derived.Test.YtoefgfiabfkfaaaGreatDoorOwnShelf30
import Derived.Test.YtoefgfiabfkfaaaGreatDoorOwnShelf26
import Derived.Test.YtoefgfiabfkfaaaGreatDoorOwnShelf15
import Derived.Test.YtoefgfiabfkfaaaGreatDoorOwnShelf09
import Derived.Test.YtoefgfiabfkfaaaGreatDoorOwnShelf19
namespace Go.Proofs.YtoefgfiabfkfaaaGreatDoor
open Go.RowKit

theorem infoPr2 : (Tryz.prog.info? 30).map (fun i => (i.zero, i.size, i.bytes)) = some (some (.agg (pyv p0)), 36, 64) := by kernel_rfl
theorem run_append_RP (w : World) (B : Nat) (ty : TypeId) (v : Value) (i : Nat) (xs : List Value) (ad : Option Addr) (m c : Nat) (cs : List Value) (hown : w.ownsRow B 30 36 v i xs) (hB : B ≤ w.heap.size) (hs : Src w ad m c cs) (hl : cs.length = m * 36) (h1 : ∀ u ∈ cs, u.oneCell' = true) (hi : i + m ≤ 1000000) :
  ∃ va vc w1, (Builtin.append_ #[23, 23] ty #[v, .slice ad m c]).run Tryz.prog w = .ok (.slice va (i + m) vc) w1 ∧ w1.ownsRow B 30 36 (.slice va (i + m) vc) (i + m) (xs ++ cs) ∧ w.grownBy w1 v.ownBlock := by
 obtain ⟨i0, hi0, hz0, hz1, hz2⟩ := info_parts infoPr2
 cases ad with
 | none =>
  obtain ⟨rfl, rfl⟩ := hs.2 rfl
  obtain rfl : cs = [] := List.eq_nil_of_length_eq_zero (by omega)
  obtain ⟨va, vc, e, _, _⟩ := own_frmV hown
  refine ⟨va, vc, w, ?_, by rw [List.append_nil, Nat.add_zero, ← e]; exact hown, ⟨rfl, rfl, rfl, Nat.le_refl _, fun _ _ _ => rfl⟩⟩
  rw [Nat.add_zero, ← e]
  rcases hown.2 with ⟨rfl, hl⟩ | ⟨g, cap, cur, rfl, hbs, hg, hcap, _⟩
  ·simp [Builtin.append_, run_underlying Tryz.underlying23, sizeOf, typeInfo, hi0, Builtin.lenOf, Builtin.firstCells]
  ·have := run_append_room_src (P := Tryz.prog) w 23 23 ty 30 i0 Tryz.underlying23 hi0 g 0 i cap (.slice none 0 0) 0 [] (Go.Src.ofNil w Tryz.underlying23 0) (by omega) (fun j hj => by simp at hj) (fun j hj => by simp at hj)
   simpa [World.setCells] using this
 | some a =>
  obtain ⟨v', w1, hr, h2, h3, _, _⟩ := run_append_own_at (P := Tryz.prog) w B 23 ty 30 i0 (.agg (pyv p0)) 36 64 Tryz.underlying23 hi0 hz0 hz1 hz2 zero_p (by omega) v i xs hown a m c cs hl (fun j u hj => by
   have hjl := (List.getElem?_eq_some_iff.1 hj).1
   obtain ⟨b, off, e, hr⟩ := hs.1 (by omega)
   cases e
   rw [Addr.add_lit]
   exact hr j u hj) h1 (by unfold maxLen; omega) (by omega) hB
  obtain ⟨va, vc, rfl, _, _⟩ := own_frmV h2
  exact ⟨va, vc, w1, hr, h2, h3⟩
theorem slice_rp (x : Py) (w : World) : (Instr.buildSlice 23 1 #[(0, .agg (pyv x))]).run Tryz.prog w = .ok (.slice (some ⟨w.heap.size, 0, none⟩) 1 1) (w.alloc (.cells (pyv x) 30)) := by kernel_rfl
section
variable {ops : Array Oper} {o : Oper} {a : Act} {w : World} {K : Act → World → Prop} {Q : Exit → Act → World → Prop} {E : Prop}
theorem step_append_RP (hgd : o.guard = none) (s x : Operand) (ho : o.op = .call ⟨.builtin .append, #[s, x], #[23, 23]⟩)
  (B : Nat) (v : Value) (i : Nat) (xs : List Value) (ad : Option Addr) (m c : Nat) (cs : List Value) (hs : a.eval s = v) (hx : a.eval x = .slice ad m c) (hown : w.ownsRow B 30 36 v i xs) (hB : B ≤ w.heap.size) (hsr : Src w ad m c cs) (hl : cs.length = m * 36) (h1 : ∀ u ∈ cs, u.oneCell' = true) (hi : i + m ≤ 1000000)
  (h : ∀ va vc w1, w1.ownsRow B 30 36 (.slice va (i + m) vc) (i + m) (xs ++ cs) → w.grownBy w1 v.ownBlock → K (a.put o.dst (.slice va (i + m) vc)) w1) : if Region.wanted o (yielded ops a.tmps) = true then Oper.wp Tryz.prog o a w K Q else E := by
 have hw : Region.wanted o (yielded ops a.tmps) = true := by simp [Region.wanted, hgd]
 rw [if_pos hw]
 obtain ⟨va, vc, w1, hr, h2, h3⟩ := run_append_RP w B o.type v i xs ad m c cs hown hB hsr hl h1 hi
 unfold Oper.wp execOp
 simp only [ho, resolve, invoke, builtin, Sem.run_bind, Sem.run_pure, Result.andThen_ok, List.map_toArray, List.map_cons, List.map_nil, hs, hx, hr]
 exact h va vc w1 h2 h3
theorem step_sliceRP (hgd : o.guard = none) (x : Operand) (ho : o.op = .buildSlice 23 1 #[(0, x)]) (v : Py) (hx : a.eval x = .agg (pyv v))
  (h : ∀ q w', w'.heap[q]? = some (.cells (pyv v) 30 (0, 0)) → w.heap.size ≤ q → Below w.heap.size w w' → K (a.put o.dst (.slice (some ⟨q, 0, none⟩) 1 1)) w') : if Region.wanted o (yielded ops a.tmps) = true then Oper.wp Tryz.prog o a w K Q else E := by
 have hw : Region.wanted o (yielded ops a.tmps) = true := by simp [Region.wanted, hgd]
 rw [if_pos hw]
 unfold Oper.wp execOp
 simp only [ho, List.map_toArray, List.map_cons, List.map_nil, hx, Sem.run_bind, slice_rp, Result.andThen]
 exact h _ _ (heap_alloc_new w _) (Nat.le_refl _) ((Below.refl _ w).alloc (Nat.le_refl _) _)
end
/-- A row of one's own holds what its cells say. -/
theorem py_of_row {w : World} {B m vc : Nat} {va : Option Addr} {X : Nat → Py} (h : w.ownsRow B 30 36 (.slice va m vc) m (flatL (pf X) m)) (hl : ∀ i, i < m → Zb (X i).lk) : PyAt w va m X := by
 refine ⟨hl, fun h0 => ?_⟩
 obtain ⟨g, e, _, _, hr⟩ := own_range h h0
 exact ⟨g, 0, e, fun i hi => (flatL_range m (pf_len X m)).1 hr i hi⟩
/-- The first of some payments, and what is behind. -/
theorem SrcY.take {w : World} {ad : Option Addr} {n cap i : Nat} {f : Nat → List Value} (h : Src w ad n cap (flatL f n)) (hf : ∀ j, j < n → (f j).length = 36) (hi : i ≤ n) (h0 : ad ≠ none) : Src w ad i cap (flatL f i) := by
 refine ⟨fun hi0 => ?_, fun e => absurd e h0⟩
 obtain ⟨b, off, e, hr⟩ := h.1 (by omega)
 exact ⟨b, off, e, (flatL_range i (fun j hj => hf j (by omega))).2 fun j hj => (flatL_range n hf).1 hr j (by omega)⟩
theorem SrcY.drop {w : World} {b off n cap i : Nat} {f : Nat → List Value} (h : Src w (some ⟨b, off, none⟩) n cap (flatL f n)) (hf : ∀ j, j < n → (f j).length = 36) (hi : i ≤ n) (hc : n ≤ cap) : Src w (if cap = i then some ⟨b, off, none⟩ else some ⟨b, off + i * 36, none⟩) (n - i) (cap - i) (flatL (fun j => f (i + j)) (n - i)) := by
 refine ⟨fun hi0 => ?_, fun e => by split at e <;> cases e⟩
 rw [if_neg (by omega)]
 obtain ⟨b', off', e, hr⟩ := h.1 (by omega)
 cases e
 refine ⟨b, off + i * 36, rfl, (flatL_range (n - i) (fun j hj => hf _ (by omega))).2 fun j hj => ?_⟩
 have := (flatL_range n hf).1 hr (i + j) (by omega)
 rwa [Nat.add_mul, ← Nat.add_assoc] at this
set_option maxRecDepth 100000 in
set_option maxHeartbeats 1600000 in
theorem payAt_any (ad : Option Addr) (n cap : Nat) (X : Nat → Py) (id : Int) (w : World) (h : PyAt w ad n X) (hn : n ≤ 1000000) :
  Calls Tryz.prog 23 #[.slice ad n cap, .int .i64 id] w fun e w' => ∃ k, HatR (fun j => (X j).id) n id k ∧ e = .returned (.int .i64 k) ∧ w' = w := by
 have HB : Hid (PyAt w ad n X) := h
 clear h
 go_enter Tryz.func23, Tryz.ntmps23
 go_wp2
 go_loopw [5] (fun iv wr => ∃ i : Nat, i ≤ n ∧ iv = .int .i64 i ∧ (∀ j, j < i → (X j).id ≠ id) ∧ wr = w) (fun iv _ => n + 1 - (intOf iv).toNat)
 case atStart => exact ⟨0, Nat.zero_le _, rfl, fun j hj => by omega, rfl⟩
 case round =>
  obtain ⟨i, hi, rfl, hk, rfl⟩ := hrel
  have HK : Hid (∀ j, j < i → (X j).id ≠ id) := hk
  clear hk
  by_cases hlt : i < n
  ·have hlt' : (i : Int) < n := by omega
   obtain ⟨b, off, rfl, hc⟩ := HB.out.at_ (by omega)
   have hr := hc i hlt
   have d0 := (py_cells hr).1
   clear hc hr
   by_cases he : (X i).id = id
   ·have he' : ((X i).id == id) = true := by simp [he]
    go_wp2
    go_ret
    exact ⟨_, .inr ⟨i, rfl, hlt, he, HK.out⟩, rfl, rfl⟩
   ·have he' : ((X i).id == id) = false := by simp [he]
    have HN : Hid (∀ j, j < i + 1 → (X j).id ≠ id) := fun j hj => by
     by_cases e : j = i
     ·subst e; exact he
     ·exact HK.out j (by omega)
    go_wp2
    go_roundw
    case rel => exact ⟨i + 1, by omega, by go_num, HN.out, trivial⟩
    case measure => simp [intOf]; omega
  ·have hin : i = n := by omega
   have hnn : ¬ ((i : Int) < n) := by omega
   go_wp2
   go_ret
   exact ⟨_, .inl ⟨rfl, fun j hj => HK.out j (by omega)⟩, rfl, rfl⟩
set_option maxRecDepth 100000 in
set_option maxHeartbeats 3200000 in
theorem rdrop_any (b off n cap : Nat) (X : Nat → Py) (i : Nat) (w : World) (h : Src w (some ⟨b, off, none⟩) n cap (flatL (pf X) n)) (hi : i < n) (hcap : n ≤ cap) (hn : n ≤ 1000000) :
  Calls Tryz.prog 29 #[.slice (some ⟨b, off, none⟩) n cap, .int .i64 (i : Int)] w fun e w' => (∃ vb vd, e = .returned (.slice vb (n - 1) vd) ∧ w'.ownsRow w.heap.size 30 36 (.slice vb (n - 1) vd) (n - 1) (flatL (delF (pf X) i) (n - 1))) ∧ Below w.heap.size w w' := by
 have EII : Hid (IntKind.i64.wrap ((i : Int) + 1) = ((i + 1 : Nat) : Int)) := by show IntKind.i64.wrap ((i : Int) + 1) = _; rw [IntKind.wrap_i64]; omega
 have HSR : Hid (Src w.drew (some ⟨b, off, none⟩) n cap (flatL (pf X) n)) := h.below (Below.refl _ w).drew
 have HB : Hid (Below w.heap.size w w.drew) := (Below.refl _ w).drew
 clear h
 go_enter Tryz.func29, Tryz.ntmps29
 go_wp2_with fail
 refine wp_region_noPanic ?_
 refine wp_region_held_drew (S := fun _ => True) (by kernel_rfl) trivial (fun hHeld => ?_)
 generalize w.drew = Wd at *
 obtain ⟨ax, hax⟩ : ∃ ax : Option Addr, (if cap = i + 1 then some (⟨b, off, none⟩ : Addr) else some ⟨b, off + (i + 1) * 36, none⟩) = ax := ⟨_, rfl⟩
 have HAX : Hid ((if cap = i + 1 then some (⟨b, off, none⟩ : Addr) else some ⟨b, off + (i + 1) * 36, none⟩) = ax) := hax
 clear hax
 have hi' : (i : Int) < n := by omega
 refine wpV 0 ⟨some 6, .move (.tmp 5), 23, _, _, none⟩ rfl ?_
 try simp only [Act.put, sqA, sqB, sqC]
 refine wpV 1 ⟨some 7, .move (.tmp 0), 23, _, _, none⟩ rfl ?_
 try simp only [Act.put, sqA, sqB, sqC]
 refine wpV 2 ⟨some 8, .move (.tmp 1), 3, _, _, none⟩ rfl ?_
 try simp only [Act.put, sqA, sqB, sqC]
 refine wpU 3 ⟨some 9, .slice 23 (.tmp 7) none (some (.tmp 8)) none, 23, _, _, none⟩ (v := .slice (some ⟨b, off, none⟩) i cap) rfl ?_ ?_
 ·intro wz hSw; (try dsimp only at hSw); go_simp; try (intro hbad; omega)
 try simp only [Act.put, sqA, sqB, sqC]
 refine wpV 5 ⟨some 11, .move (.tmp 0), 23, _, _, none⟩ rfl ?_
 try simp only [Act.put, sqA, sqB, sqC]
 refine wpV 6 ⟨some 12, .move (.tmp 1), 3, _, _, none⟩ rfl ?_
 try simp only [Act.put, sqA, sqB, sqC]
 refine wpU 7 ⟨some 13, .binOp .add 3 (.tmp 12) (.const (.int .i64 1)) 3, 3, _, _, none⟩ (v := .int .i64 ((i + 1 : Nat) : Int)) rfl ?_ ?_
 ·intro wz hSw; (try dsimp only at hSw); go_simp; try (rw [EII.out]); try rfl
 try simp only [Act.put, sqA, sqB, sqC]
 refine wpU 8 ⟨some 14, .slice 23 (.tmp 11) (some (.tmp 13)) none none, 23, _, _, none⟩ (v := .slice ax (n - (i + 1)) (cap - (i + 1))) rfl ?_ ?_
 ·intro wz hSw; (try dsimp only at hSw); rw [← HAX.out]; go_simp; try (intro hbad; omega)
 try simp only [Act.put, sqA, sqB, sqC]
 refine wpAnyH_ready (rs := [4]) (by kernel_rfl) (by simp) ?_
 refine (AllReadyH.cons (o := ⟨some 10, .call ⟨.builtin .append, #[.tmp 6, .tmp 9], #[23, 23]⟩, 23, _, _, none⟩) rfl (fun K hK => ?_) AllReadyH.nil)
 refine step_append_RP rfl (.tmp 6) (.tmp 9) rfl w.heap.size (.slice none 0 0) 0 [] (some ⟨b, off, none⟩) i cap (flatL (pf X) i) (by rfl) (by rfl) (World.ownsRow_nil _ _ _ _) HB.out.size (SrcY.take HSR.out (pf_len _ _) (by omega) (by simp)) (flatL_length i (pf_len _ _)) (pf_one _ _) (by omega) ?_
 intro va vc V1 hown hgr
 rw [Nat.zero_add, List.nil_append] at hown
 have hb1 : Below Wd.heap.size Wd V1 := ⟨hgr.os, hgr.tape, hgr.output, hgr.size, fun k hk => hgr.block k hk (by simp [Value.ownBlock])⟩
 have HO1 : Hid (V1.ownsRow w.heap.size 30 36 (.slice va i vc) i (flatL (pf X) i) ∧ Below Wd.heap.size Wd V1) := ⟨hown, hb1⟩
 refine hK.out _ _ trivial (fun _ => ?_)
 clear hK K hown hgr hb1
 try simp only [Act.put, sqA, sqB, sqC]
 (try rw [Nat.zero_add])
 refine wpAnyH_ready (rs := [9]) (by kernel_rfl) (by simp) ?_
 refine (AllReadyH.cons (o := ⟨some 15, .call ⟨.builtin .append, #[.tmp 10, .tmp 14], #[23, 23]⟩, 23, _, _, none⟩) rfl (fun K hK => ?_) AllReadyH.nil)
 refine step_append_RP rfl (.tmp 10) (.tmp 14) rfl w.heap.size (.slice va i vc) i (flatL (pf X) i) ax (n - (i + 1)) (cap - (i + 1)) (flatL (fun j => pf X (i + 1 + j)) (n - (i + 1))) (by rfl) (by rfl) HO1.out.1 (Nat.le_trans HB.out.size HO1.out.2.size) (by rw [← HAX.out]; exact SrcY.drop (HSR.out.below HO1.out.2) (pf_len _ _) (by omega) hcap) (flatL_length _ (fun j hj => pyl_length _)) (fun u hu => by
  obtain ⟨j, _, hj⟩ := flatL_mem _ hu
  exact pyl_one _ u hj) (by omega) ?_
 intro vb vd V2 hown hgr
 have em : i + (n - (i + 1)) = n - 1 := by omega
 rw [em] at hown
 have HO2 : Hid (V2.ownsRow w.heap.size 30 36 (.slice vb (n - 1) vd) (n - 1) (flatL (delF (pf X) i) (n - 1)) ∧ Below w.heap.size w V2) := ⟨by
  have e0 := delF_mid (pf X) i (n - (i + 1))
  rw [em] at e0
  rw [e0]
  exact hown, grown_below HO1.out.1 hgr (HB.out.trans (HO1.out.2.mono HB.out.size)) (Nat.le_refl _)⟩
 refine hK.out _ _ trivial (fun _ => ?_)
 clear hK K hown hgr
 try simp only [Act.put, sqA, sqB, sqC]
 rw [em]
 refine wpV 10 ⟨some 4, .assign (.tmp 15), 23, _, _, none⟩ rfl ?_
 try simp only [Act.put, sqA, sqB, sqC]
 refine wpAnyH_done (by kernel_rfl) (NoPanic.normal ?_) _
 try simp only [Act.put, sqA, sqB, sqC]
 clear hHeld HO1 em
 go_wp2
 go_ret
 exact ⟨⟨vb, vd, rfl, HO2.out.1⟩, HO2.out.2⟩
end Go.Proofs.YtoefgfiabfkfaaaGreatDoor
/- state.Sum. -/
namespace Go.Proofs.YtoefgfiabfkfaaaGreatDoor
open Go.RowKit

/-- Bytes as numbers. -/
def nb (L : List Int) : List Nat := L.map Int.toNat
theorem nb_length (L : List Int) : (nb L).length = L.length := by simp [nb]
theorem nb_lt {L : List Int} (h : ∀ j, j < L.length → 0 ≤ fn L j ∧ fn L j ≤ 255) (i : Nat) : (nb L).getD i 0 < 256 := by
 by_cases hi : i < L.length
 ·have := h i hi
  rw [fn_get L i hi] at this
  simp only [nb, List.getD_eq_getElem?_getD, List.getElem?_map, List.getElem?_eq_getElem hi, Option.map_some, Option.getD_some]
  omega
 ·simp [nb, List.getD_eq_getElem?_getD, List.getElem?_eq_none (Nat.le_of_not_lt hi)]
theorem slB_of {w : World} {ad : Option Addr} {L : List Int} (h : SlAt w ad L.length (fn L)) : SlB w ad (nb L) := by
 intro hn
 rw [nb_length] at hn
 obtain ⟨b, off, e, hc⟩ := h.2 hn
 refine ⟨b, off, e, fun j v hv => ?_⟩
 simp only [sl8, nb, List.map_map, List.getElem?_map] at hv
 obtain ⟨x, hx, rfl⟩ := Option.map_eq_some_iff.1 hv
 obtain ⟨hj, rfl⟩ := List.getElem?_eq_some_iff.1 hx
 rw [hc j hj, fn_get L j hj]
 have := h.1 j hj
 rw [fn_get L j hj] at this
 simp only [Function.comp]
 congr 2
 omega
/-- A sum's bytes as ints. -/
def sZ (R : List Nat) : Nat → Int := fun j => (R.getD j 0 : Nat)
theorem sv_sZ {R : List Nat} (h : R.length = 32) : sv R = hv (sZ R) := by
 unfold sv sl8 hv bl sZ
 congr 1
 apply List.ext_getElem?
 intro j
 by_cases hj : j < 32
 ·simp [List.getElem?_map, List.getElem?_range hj, List.getElem?_eq_getElem (show j < R.length by omega), List.getD_eq_getElem?_getD]
 ·rw [List.getElem?_eq_none (by simp; omega), List.getElem?_eq_none (by simp; omega)]
theorem sZ_bd (b : List Nat) : ∀ j, j < 32 → 0 ≤ sZ (sumF b) j ∧ sZ (sumF b) j ≤ 255 := fun j _ => by have h2 : (sumF b).getD j 0 < 256 := endL_lt _ j; unfold sZ; omega
end Go.Proofs.YtoefgfiabfkfaaaGreatDoor
