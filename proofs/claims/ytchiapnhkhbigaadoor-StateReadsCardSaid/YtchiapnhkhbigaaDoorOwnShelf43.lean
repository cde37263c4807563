/- findHold: where an ID is among them. -/
import Derived.Test.YtchiapnhkhbigaaDoorOwnShelf16
import Derived.Shelf.Abstract
import Derived.Deep.LoopGhost
import Derived.Test.YtchiapnhkhbigaaDoorOwnShelf24
import Derived.Laws.IdiomCopy
import Derived.Lib.AppendZerosOnto
import Derived.Lib.Overlaps
import Derived.Laws.NewBlocks
import Derived.Lib.Walk
import Derived.Lib.SliceRun
import Derived.Deep.RegionLaw
import Derived.Deep.DrawnRows
import Derived.Shelf.Spec.SlicesInsert
import Derived.Deep.AppendSrc
namespace Go.Proofs.YtchiapnhkhbigaaDoor
open Go.RowKit

def cmpI (x y : Int) : Int := if x < y then -1 else if y < x then 1 else 0
theorem cmpI_neg {x y : Int} : cmpI x y < 0 ↔ x < y := by
  unfold cmpI
  by_cases h : x < y
  · simp [h]
  · by_cases h2 : y < x <;> simp [h, h2]
theorem cmpI_zero {x y : Int} : cmpI x y = 0 ↔ x = y := by
  unfold cmpI
  by_cases h : x < y
  · simp [h]; omega
  · by_cases h2 : y < x
    · simp [h, h2]; omega
    · simp [h, h2]; omega
theorem isNaN_any (x : Int) (w : World) : Calls Tryd.prog 82 #[.int .i64 x] w fun e w' => e = .returned (.bool false) ∧ w' = w := by
  have hx : (x != x) = false := by simp
  go_enter Tryd.func82, Tryd.ntmps82
  go_wp2
  go_ret
  exact ⟨rfl, rfl⟩
set_option maxHeartbeats 800000 in
theorem compare_any (x y : Int) (w : World) : Calls Tryd.prog 58 #[.int .i64 x, .int .i64 y] w fun e w' => e = .returned (.int .i64 (cmpI x y)) ∧ w' = w := by
  have h1 := isNaN_any x
  have h2 := isNaN_any y
  by_cases h : x < y
  · have e : cmpI x y = -1 := by simp [cmpI, h]
    rw [e]
    go_enter Tryd.func58, Tryd.ntmps58
    go_wp2_with fail
    refine (h1 _).mono ?_
    rintro e w1 ⟨rfl, hw⟩
    rw [hw]
    go_wp2_with fail
    refine (h2 _).mono ?_
    rintro e w2 ⟨rfl, hw2⟩
    rw [hw2]
    clear h1 h2 hw hw2
    go_wp2
    go_ret
    exact ⟨rfl, rfl⟩
  · by_cases h' : y < x
    · have e : cmpI x y = 1 := by simp [cmpI, h, h']
      rw [e]
      go_enter Tryd.func58, Tryd.ntmps58
      go_wp2_with fail
      refine (h1 _).mono ?_
      rintro e w1 ⟨rfl, hw⟩
      rw [hw]
      go_wp2_with fail
      refine (h2 _).mono ?_
      rintro e w2 ⟨rfl, hw2⟩
      rw [hw2]
      clear h1 h2 hw hw2
      go_wp2
      go_ret
      exact ⟨rfl, rfl⟩
    · have e : cmpI x y = 0 := by simp [cmpI, h, h']
      rw [e]
      go_enter Tryd.func58, Tryd.ntmps58
      go_wp2_with fail
      refine (h1 _).mono ?_
      rintro e w1 ⟨rfl, hw⟩
      rw [hw]
      go_wp2_with fail
      refine (h2 _).mono ?_
      rintro e w2 ⟨rfl, hw2⟩
      rw [hw2]
      clear h1 h2 hw hw2
      go_wp2
      go_ret
      exact ⟨rfl, rfl⟩
/-- Numbers that rise. -/
def Srt (f : Nat → Int) (n : Nat) : Prop := ∀ a b, a < b → b < n → f a < f b
/-- Where a number is found. -/
structure FndR (f : Nat → Int) (n : Nat) (x : Int) (i : Nat) (b : Bool) : Prop where
  le : i ≤ n
  hit : b = decide (i < n ∧ f i = x)
  lo : Srt f n → ∀ j, j < i → f j < x
  hi : Srt f n → ∀ j, i ≤ j → j < n → x ≤ f j
def FndO (f : Nat → Int) (n : Nat) (x : Int) (e : Ending) : Prop := ∃ (i : Nat) (b : Bool), e = .returned (.tuple #[.int .i64 (i : Int), .bool b]) ∧ FndR f n x i b

set_option maxRecDepth 100000 in
set_option maxHeartbeats 800000 in
theorem cmpH_any (x : Hd) (ka : Option Addr) (kc : Nat) (id : Int) (w : World) : Calls Tryd.prog 57 #[.agg (hdv x ka kc), .int .i64 id] w fun e w' => e = .returned (.int .i64 (cmpI x.id id)) ∧ Below w.heap.size w w' := by
  have hc := compare_any x.id id
  have hb0 : Below w.heap.size w (w.alloc (.cells (hdv x ka kc) 37)) := (Below.refl _ w).alloc (Nat.le_refl _) _
  have c0 : (w.alloc (.cells (hdv x ka kc) 37)).cell? ⟨w.heap.size, 0, none⟩ = some (.int .i64 x.id) := by rw [cell_of_row _ _ 0 _ _ _ (heap_alloc_new w _)]; rfl
  unfold hdv at hb0 c0 ⊢
  go_enter Tryd.func57, Tryd.ntmps57
  go_wp2_with fail
  generalize w.alloc (.cells #[.int .i64 x.id, .int .i64 x.am, .slice ka x.n kc] 37) = W0 at *
  refine (hc _).mono ?_
  rintro e w1 ⟨rfl, hw⟩
  rw [hw]
  clear hc hw
  go_wp2
  go_ret
  exact ⟨rfl, hb0⟩
set_option maxRecDepth 100000 in
set_option maxHeartbeats 3200000 in
theorem bsH_any (ad : Option Addr) (n cap : Nat) (X : Nat → Hd) (id : Int) (w : World) (h : HdAt w ad n X) (hn : n ≤ 1000000) :
    Calls Tryd.prog 56 #[.slice ad n cap, .int .i64 id, .func (.func 57) #[] #[]] w fun e w' => FndO (fun j => (X j).id) n id e ∧ Below w.heap.size w w' := by
  have HB : Hid (HdAt w ad n X) := h
  have eg : ∀ args w, (callFunc 57 args).run Tryd.prog w = .ok (.enter 57 args) w := enters_of Tryd.func57 (by kernel_rfl) rfl
  have hb0 := Below.refl w.heap.size w
  clear h
  go_enter Tryd.func56, Tryd.ntmps56
  go_wp2
  go_loopw [9, 10, 11] (fun lv hv _ wr => ∃ lo hi : Nat, lv = .int .i64 lo ∧ hv = .int .i64 hi ∧ lo ≤ hi ∧ hi ≤ n ∧ (Srt (fun j => (X j).id) n → ∀ j, j < lo → (X j).id < id) ∧ (Srt (fun j => (X j).id) n → ∀ j, hi ≤ j → j < n → id ≤ (X j).id) ∧ Below w.heap.size w wr) (fun lv hv _ _ => (intOf hv).toNat - (intOf lv).toNat)
  case atStart => exact ⟨0, n, rfl, rfl, by omega, by omega, fun _ j hj => by omega, fun _ j h1 h2 => by omega, hb0⟩
  case round =>
    clear hb0
    obtain ⟨lo, hi, rfl, rfl, hlh, hin, hA, hZ, hb⟩ := hrel
    have HA : Hid ((Srt (fun j => (X j).id) n → ∀ j, j < lo → (X j).id < id) ∧ (Srt (fun j => (X j).id) n → ∀ j, hi ≤ j → j < n → id ≤ (X j).id)) := ⟨hA, hZ⟩
    clear hA hZ
    by_cases hlt : lo < hi
    · have hlt' : (lo : Int) < hi := by omega
      obtain ⟨m, hm⟩ : ∃ m : Nat, m = (lo + hi) / 2 := ⟨_, rfl⟩
      have hmi : ((lo : Int) + hi) / 2 = m := by omega
      have hm1 : lo ≤ m ∧ m < hi := by omega
      have hmn : m < n := by omega
      have hmn' : (m : Int) < n := by omega
      obtain ⟨b, off, rfl, hc⟩ := HB.out.at_ (by omega)
      obtain ⟨ka, kc, hr0, _, _⟩ := hc m hmn
      obtain ⟨d0, d1, d2⟩ := hd_cells (range_below hr0 hb)
      have hcall := cmpH_any (X m) ka kc id wr
      unfold hdv at hcall
      clear hr0
      clear hc hm
      by_cases hq : (X m).id < id
      · have hq' : cmpI (X m).id id < 0 := cmpI_neg.2 hq
        have HN : Hid ((Srt (fun j => (X j).id) n → ∀ j, j < m + 1 → (X j).id < id) ∧ (Srt (fun j => (X j).id) n → ∀ j, hi ≤ j → j < n → id ≤ (X j).id)) := ⟨fun hs j hj => by
          by_cases e : j = m
          · rw [e]; exact hq
          · have := hs j m (by omega) hmn
            dsimp only at this
            omega, HA.out.2⟩
        clear HA hq
        generalize cmpI (X m).id id = cq at *
        go_wp2_with (first | fail | (go_at_fn 57; refine hcall.mono ?_; rintro e w1 ⟨rfl, hb1⟩) | fail)
        go_roundw
        case rel => exact ⟨m + 1, hi, by go_num, rfl, by omega, by omega, HN.out.1, HN.out.2, hb.trans (hb1.mono hb.size)⟩
        case measure => simp [intOf]; omega
      · have hq' : ¬ cmpI (X m).id id < 0 := fun h => hq (cmpI_neg.1 h)
        have HN : Hid ((Srt (fun j => (X j).id) n → ∀ j, j < lo → (X j).id < id) ∧ (Srt (fun j => (X j).id) n → ∀ j, m ≤ j → j < n → id ≤ (X j).id)) := ⟨HA.out.1, fun hs j h1 h2 => by
          by_cases e : j = m
          · rw [e]; omega
          · have := hs m j (by omega) h2
            dsimp only at this
            omega⟩
        clear HA hq
        generalize cmpI (X m).id id = cq at *
        go_wp2_with (first | fail | (go_at_fn 57; refine hcall.mono ?_; rintro e w1 ⟨rfl, hb1⟩) | fail)
        go_roundw
        case rel => exact ⟨lo, m, rfl, rfl, by omega, by omega, HN.out.1, HN.out.2, hb.trans (hb1.mono hb.size)⟩
        case measure => simp [intOf]; omega
    · have hnl : ¬ ((lo : Int) < hi) := by omega
      obtain rfl : lo = hi := by omega
      by_cases hmn : lo < n
      · have hmn' : (lo : Int) < n := by omega
        have hm1 : (0 : Int) ≤ lo := by omega
        obtain ⟨b, off, rfl, hc⟩ := HB.out.at_ (by omega)
        obtain ⟨m, hm⟩ : ∃ m : Nat, m = lo := ⟨_, rfl⟩
        subst hm
        obtain ⟨ka, kc, hr0, _, _⟩ := hc m hmn
        obtain ⟨d0, d1, d2⟩ := hd_cells (range_below hr0 hb)
        have hcall := cmpH_any (X m) ka kc id wr
        unfold hdv at hcall
        clear hr0
        clear hc
        by_cases hq : (X m).id = id
        · have hq' : cmpI (X m).id id = 0 := cmpI_zero.2 hq
          have HN : Hid (FndR (fun j => (X j).id) n id m true) := ⟨hin, by simp [hmn, hq], HA.out.1, HA.out.2⟩
          clear HA hq
          generalize cmpI (X m).id id = cq at *
          go_wp2_with (first | fail | (go_at_fn 57; refine hcall.mono ?_; rintro e w1 ⟨rfl, hb1⟩) | fail)
          go_ret2
          exact ⟨⟨m, true, rfl, HN.out⟩, hb.trans (hb1.mono hb.size)⟩
        · have hq' : ¬ cmpI (X m).id id = 0 := fun h => hq (cmpI_zero.1 h)
          have hqb : (cmpI (X m).id id == 0) = false := by simpa using hq'
          have HN : Hid (FndR (fun j => (X j).id) n id m false) := ⟨hin, by simp [hq], HA.out.1, HA.out.2⟩
          clear HA hq hq'
          generalize cmpI (X m).id id = cq at *
          go_wp2_with (first | fail | (go_at_fn 57; refine hcall.mono ?_; rintro e w1 ⟨rfl, hb1⟩) | fail)
          go_ret2
          exact ⟨⟨m, false, rfl, HN.out⟩, hb.trans (hb1.mono hb.size)⟩
      · have hmn' : ¬ (lo : Int) < n := by omega
        have HN : Hid (FndR (fun j => (X j).id) n id lo false) := ⟨hin, by simp [hmn], HA.out.1, HA.out.2⟩
        clear HA
        go_wp2
        go_ret2
        exact ⟨⟨lo, false, rfl, HN.out⟩, hb⟩
theorem findH_any (ad : Option Addr) (n cap : Nat) (X : Nat → Hd) (id : Int) (w : World) (h : HdAt w ad n X) (hn : n ≤ 1000000) :
    Calls Tryd.prog 20 #[.slice ad n cap, .int .i64 id] w fun e w' => FndO (fun j => (X j).id) n id e ∧ Below w.heap.size w w' := by
  have hc := bsH_any ad n cap X id w h hn
  clear h
  go_enter Tryd.func20, Tryd.ntmps20
  go_wp2_with fail
  refine hc.mono ?_
  rintro e w1 ⟨⟨i, b, rfl, hf⟩, hb⟩
  have HF : Hid (FndR (fun j => (X j).id) n id i b) := hf
  clear hc hf
  go_wp2
  go_ret2
  exact ⟨⟨i, b, rfl, HF.out⟩, hb⟩
end Go.Proofs.YtchiapnhkhbigaaDoor
/- slices.Insert of one element at []state.Hold, into a row of one's own. -/
namespace Go.Proofs.YtchiapnhkhbigaaDoor
open Go.RowKit Go.Lib

/-- 'copy' of rows of k cells each. -/
theorem run_copy_cellsK {P : Program} (k : Nat) (w : World) (dT sT ty elem : TypeId) (b o dLen dCap : Nat) (a : Addr) (sLen sCap m : Nat) (cs : List Value)
    (hu : P.underlying dT = some (.slice elem)) (hs : (P.info? elem).map (·.size) = some k) (hm : Nat.min sLen dLen = m) (hn : cs.length = m * k)
    (hsrc : ∀ j v, cs[j]? = some v → w.cell? (a.add j) = some v) (hc : ∀ j, j < cs.length → (w.cell? ⟨b, o + j, none⟩).isSome = true) (hf : ∀ j, j < cs.length → w.frozen? ⟨b, o + j, none⟩ = false) (h1 : ∀ v ∈ cs, v.oneCell' = true) :
    (Builtin.copy_ #[dT, sT] ty #[.slice (some ⟨b, o, none⟩) dLen dCap, .slice (some a) sLen sCap]).run P w = .ok (goInt m) (w.setCells b o cs) := by
  have hl := run_loadCells_list (P := P) w a cs hsrc
  have hst := run_storeCells_cells (P := P) b o cs 0 w (by simpa using hc) (by simpa using hf) h1
  rw [hn] at hl
  cases hq : P.info? elem with
  | none => simp [hq] at hs
  | some i =>
    have hi : i.size = k := by simpa [hq] using hs
    simp [Builtin.copy_, run_underlying hu, Builtin.lenOf, Builtin.firstCells, sizeOf, typeInfo, hq, hi, hm, hl, hst]
/-- One part more at the place i. -/
def insF (f : Nat → List Value) (i : Nat) (cs : List Value) : Nat → List Value := fun j => if j < i then f j else if j = i then cs else f (j - 1)
theorem insF_end (f : Nat → List Value) (n : Nat) (cs : List Value) : flatL (insF f n cs) (n + 1) = flatL f n ++ cs := by
  rw [flatL, flatL_congr n (g := f) (fun j hj => by simp [insF, hj])]
  simp [insF]
theorem insF_mid (f : Nat → List Value) (i m : Nat) (cs : List Value) : flatL (insF f i cs) (i + m + 1) = flatL f i ++ (cs ++ flatL (fun j => f (i + j)) m) := by
  rw [show i + m + 1 = i + (1 + m) by omega, flatL_add, flatL_add]
  congr 1
  · exact flatL_congr i (fun j hj => by simp [insF, hj])
  · congr 1
    · simp [flatL, insF]
    · exact flatL_congr m (fun j _ => by simp [insF]; rw [show i + (1 + j) - 1 = i + j by omega, if_neg (by omega)])
theorem zeroCells_size (c : Array Value) (n : Nat) : (Builtin.zeroCells c n).size = n * c.size := by
  simp [Builtin.zeroCells]
theorem own_cap (ad : Option Addr) (n c c' : Nat) : (Value.slice ad n c).ownBlock = (Value.slice ad n c').ownBlock := by cases ad <;> rfl
/-- What an Insert answers: a row of one's own, in the old block or a new one. -/
def InsR (B T k : Nat) (w : World) (ad : Option Addr) (n cap : Nat) (xs : List Value) (e : Ending) (w' : World) : Prop :=
  ∃ va vc, e = .returned (.slice va (n + 1) vc) ∧ w'.ownsRow B T k (.slice va (n + 1) vc) (n + 1) xs ∧ w.grownBy w' (Value.slice ad n cap).ownBlock

set_option maxHeartbeats 1600000 in
set_option maxRecDepth 100000 in
/-- At the end. -/
theorem insH_end (B : Nat) (ad : Option Addr) (n cap q : Nat) (f : Nat → List Value) (cs : List Value) (w : World) (hown : w.ownsRow B 37 3 (.slice ad n cap) n (flatL f n)) (hB : B ≤ w.heap.size) (hq : w.heap[q]? = some (.cells cs.toArray 37 (0, 0))) (hl : cs.length = 3) (h1 : ∀ u ∈ cs, u.oneCell' = true) (hn : n ≤ 1000000) :
    Calls Tryd.prog 23 #[.slice ad n cap, .int .i64 n, .slice (some ⟨q, 0, none⟩) 1 1] w fun e w' => InsR B 37 3 w ad n cap (flatL (insF f n cs) (n + 1)) e w' := by
  obtain ⟨i0, hi0, hz0, hz1, hz2⟩ := info_parts infoH
  have HI : Hid (Tryd.prog.info? 37 = some i0 ∧ i0.zero = some (.agg #[.int .i64 0, .int .i64 0, .slice none 0 0]) ∧ i0.size = 3 ∧ i0.bytes = 40) := ⟨hi0, hz0, hz1, hz2⟩
  have HO : Hid (w.ownsRow B 37 3 (.slice ad n cap) n (flatL f n)) := hown
  have HQ : Hid (∀ j u, cs[j]? = some u → w.cell? ((⟨q, 0, none⟩ : Addr).add j) = some u) := fun j u hj => by
    rw [Addr.add_lit, Nat.zero_add, cell_of_row _ _ j _ _ _ hq]
    simpa using hj
  have HC : Hid (cs.length = 3 ∧ ∀ u ∈ cs, u.oneCell' = true) := ⟨hl, h1⟩
  clear hi0 hz0 hz1 hz2 hown hq hl h1
  go_enter Tryd.func23, Tryd.ntmps23
  go_wp2_with (at_builtin; refine wpList_append_own_at _ rfl _ _ 33 rfl B 37 i0 (.agg #[.int .i64 0, .int .i64 0, .slice none 0 0]) 3 40 Tryd.underlying33 HI.out.1 HI.out.2.1 HI.out.2.2.1 HI.out.2.2.2 rfl (by omega) _ n (flatL f n) rfl HO.out ⟨q, 0, none⟩ 1 1 cs rfl HC.out.1 HQ.out HC.out.2 (by unfold maxLen; omega) (by omega) hB ?_; intro v' w1 h2 h3 _ _; have H3 : Hid (w.grownBy w1 (Value.slice ad n cap).ownBlock) := h3; clear h3)
  all_goals
    go_ret
    obtain ⟨va, vc, rfl, _, _⟩ := own_frmV h2
    refine ⟨va, vc, rfl, ?_, by rw [own_cap ad n _ cap]; exact H3.out⟩
    rw [insF_end]
    exact h2
set_option maxHeartbeats 4000000 in
set_option maxRecDepth 100000 in
/-- There is room. -/
theorem insH_shift (g n cap i q : Nat) (cur : Array Value) (f : Nat → List Value) (cs : List Value) (w : World) (hg : w.heap[g]? = some (.cells cur 37 (0, 0))) (hcs : cur.size = cap * 3) (htk : cur.toList.take (n * 3) = flatL f n) (hmx : cap ≤ maxLen) (hf : ∀ j, j < n → (f j).length = 3) (hf1 : ∀ u ∈ flatL f n, u.oneCell' = true) (hi : i < n) (hroom : n + 1 ≤ cap) (hq : w.heap[q]? = some (.cells cs.toArray 37 (0, 0))) (hqg : q ≠ g) (hl : cs.length = 3) (h1 : ∀ u ∈ cs, u.oneCell' = true) (hn : n ≤ 1000000) :
    Calls Tryd.prog 23 #[.slice (some ⟨g, 0, none⟩) n cap, .int .i64 i, .slice (some ⟨q, 0, none⟩) 1 1] w fun e w' => e = .returned (.slice (some ⟨g, 0, none⟩) (n + 1) cap) ∧ w' = (w.drew.setCells g ((i + 1) * 3) ((flatL f n).drop (i * 3))).setCells g (i * 3) cs := by
  obtain ⟨i0, hi0, hz0, hz1, hz2⟩ := info_parts infoH
  have hz : ∀ w, (Go.sizeOf 37).run Tryd.prog w = .ok 3 w := fun w => by simp [Go.sizeOf, typeInfo, hi0, hz1]
  have hsz : (Tryd.prog.info? 37).map (·.size) = some 3 := by rw [hi0]; simp [hz1]
  have hov : ∀ lb cb, (callFunc 61 #[.slice (some ⟨q, 0, none⟩) 1 1, .slice (some ⟨g, (i + 1) * 3, none⟩) lb cb]).run Tryd.prog w = .ok (.value (.bool false)) w := fun lb cb => by
    rw [run_callFunc_extern Tryd.func61 (by kernel_rfl) (by kernel_rfl) (by kernel_rfl) (e := Extern.SlicesOverlaps.overlaps #[33, 33] #[4]) (by kernel_rfl),
      Lib.run_overlaps_apart w 33 4 37 Tryd.underlying33 3 hz ⟨q, 0, none⟩ ⟨g, (i + 1) * 3, none⟩ 1 1 lb cb hqg 37 37 3 cur.size (by simp [World.shape?, hq, hl]) (by simp [World.shape?, hg]) (by rw [hcs]; omega) (frozen_of_row _ _ _ _ _ hq) (frozen_of_row _ _ _ _ _ hq)]
    rfl
  have hll : (flatL f n).length = n * 3 := flatL_length n hf
  have hdl : ((flatL f n).drop (i * 3)).length = (n - i) * 3 := by rw [List.length_drop, hll, Nat.sub_mul]
  have hcell : ∀ j, j < cap * 3 → (w.cell? ⟨g, j, none⟩).isSome = true := fun j hj => by
    rw [cell_of_row _ _ _ _ _ _ hg, Array.getElem?_eq_getElem (by omega)]; rfl
  have hfz : ∀ j, w.frozen? ⟨g, j, none⟩ = false := fun j => frozen_of_row _ _ _ _ _ hg
  have hrow : ∀ j v, (flatL f n)[j]? = some v → w.cell? ⟨g, j, none⟩ = some v := fun j v hv => by
    have hj := (List.getElem?_eq_some_iff.1 hv).1
    rw [← htk, List.getElem?_take, if_pos (by omega), Array.getElem?_toList] at hv
    rw [cell_of_row _ _ _ _ _ _ hg]; exact hv
  have hcp1 : ∀ ty dc sc, (Builtin.copy_ #[33, 33] ty #[.slice (some ⟨g, (i + 1) * 3, none⟩) (n - i) dc, .slice (some ⟨g, i * 3, none⟩) (n + 1 - i) sc]).run Tryd.prog w.drew = .ok (goInt ((n - i : Nat) : Int)) (w.drew.setCells g ((i + 1) * 3) ((flatL f n).drop (i * 3))) := fun ty dc sc =>
    run_copy_cellsK 3 w.drew _ _ ty 37 g ((i + 1) * 3) (n - i) dc ⟨g, i * 3, none⟩ (n + 1 - i) sc (n - i) _ Tryd.underlying33 hsz (by simp only [Nat.min_def]; split <;> omega) hdl
      (fun j v hj => by rw [Addr.add_lit]; exact hrow _ v (by rwa [List.getElem?_drop] at hj))
      (fun j hj => hcell _ (by rw [hdl] at hj; omega)) (fun j hj => hfz _) (fun v hv => hf1 v (List.mem_of_mem_drop hv))
  obtain ⟨W1, hW1⟩ : ∃ W1, W1 = w.drew.setCells g ((i + 1) * 3) ((flatL f n).drop (i * 3)) := ⟨_, rfl⟩
  have hsp1 : ∀ k, k < cap * 3 → (W1.cell? ⟨g, k, none⟩).isSome = true := fun k hk => by
    rw [hW1]
    exact isSome_setCells g _ ((i + 1) * 3) w.drew (fun j hj => hcell _ (by rw [hdl] at hj; omega)) _ (hcell k hk)
  have hcp2 : ∀ (W : World), (∀ x, W.cell? x = W1.cell? x) → (∀ x, W.frozen? x = W1.frozen? x) → ∀ ty dc, (Builtin.copy_ #[33, 33] ty #[.slice (some ⟨g, i * 3, none⟩) (n + 1 - i) dc, .slice (some ⟨q, 0, none⟩) 1 1]).run Tryd.prog W = .ok (goInt 1) (W.setCells g (i * 3) cs) := fun W hWc hWf ty dc =>
    run_copy_cellsK 3 W _ _ ty 37 g (i * 3) (n + 1 - i) dc ⟨q, 0, none⟩ 1 1 1 cs Tryd.underlying33 hsz (by simp only [Nat.min_def]; split <;> omega) (by omega)
      (fun j v hj => by
        rw [Addr.add_lit, hWc, hW1, World.cell?_setCells_out g _ _ _ _ (fun h _ => absurd h hqg), Nat.zero_add]
        show w.cell? ⟨q, j, none⟩ = some v
        rw [cell_of_row _ _ j _ _ _ hq]
        simpa using hj)
      (fun j hj => by rw [hWc]; exact hsp1 _ (by omega)) (fun j hj => by rw [hWf, hW1, World.frozen?_setCells]; exact hfz _) h1
  rw [← hW1] at hcp1
  have mixed : Tryd.prog.follows .mixedOrders = true := by kernel_rfl
  have hz2' : ¬ ((i : Int) = (n : Int)) := by omega
  have hz2b : ((i : Int) == (n : Int)) = false := by simpa using hz2'
  have hw1 : IntKind.i64.wrap ((i : Int) + 1) = (i : Int) + 1 := by rw [IntKind.wrap_i64]; omega
  have hb1 : (0 : Int) ≤ (i : Int) + 1 := by omega
  have hin : i ≤ n := by omega
  have htn : ((i : Int) + 1).toNat = i + 1 := by omega
  have hb2 : ¬ (cap = i + 1) := by omega
  have hb3 : (i : Int) ≤ (n : Int) + 1 := by omega
  have hb4 : ¬ (cap = i) := by omega
  have hcap63 : cap ≤ 9223372036854775807 := by unfold maxLen at hmx; omega
  have HW1 : Hid (W1 = w.drew.setCells g ((i + 1) * 3) ((flatL f n).drop (i * 3))) := hW1
  clear hi0 hz0 hz1 hz2 hz hsz hll hdl hcell hfz hrow hsp1 hf hf1 hg hcs htk hq hl h1 hW1
  go_enter Tryd.func23, Tryd.ntmps23
  go_wp2_with (simp only [hov])
  go_region_law_o (refine step_copy_runI rfl _ _ 33 33 rfl _ _ (by simp [Act.eval, Act.put]) (by simp [Act.eval, Act.put]) (hcp1 _ _ _) ?_)
  go_wp2_with (at_builtin; refine wpList_copy_runI _ rfl _ _ 33 33 rfl _ _ rfl rfl (hcp2 _ (fun _ => rfl) (fun _ => rfl) _ _) ?_)
  go_ret
  first | exact ⟨rfl, rfl⟩ | exact ⟨rfl, by rw [HW1.out]⟩
set_option maxHeartbeats 4000000 in
set_option maxRecDepth 100000 in
/-- There is no room. -/
theorem insH_grow (g n cap i q : Nat) (f : Nat → List Value) (cs : List Value) (w : World) (hrow : ∀ j v, (flatL f n)[j]? = some v → w.cell? ⟨g, j, none⟩ = some v) (hf : ∀ j, j < n → (f j).length = 3) (hf1 : ∀ u ∈ flatL f n, u.oneCell' = true) (hi : i < n) (hnc : n ≤ cap) (hroom : cap < n + 1) (hq : w.heap[q]? = some (.cells cs.toArray 37 (0, 0))) (hl : cs.length = 3) (h1 : ∀ u ∈ cs, u.oneCell' = true) (hn : n ≤ 1000000) :
    Calls Tryd.prog 23 #[.slice (some ⟨g, 0, none⟩) n cap, .int .i64 i, .slice (some ⟨q, 0, none⟩) 1 1] w fun e w' => ∃ (G : Nat) (R : List Value), n + 1 ≤ G ∧ G ≤ maxLen ∧ R.length = (G - i) * 3 ∧ e = .returned (.slice (some ⟨w.heap.size, 0, none⟩) (n + 1) G) ∧ w' = (((w.alloc (.cells ((flatL f n).take (i * 3) ++ R).toArray 37)).drew.setCells w.heap.size (i * 3) cs).drew).setCells w.heap.size ((i + 1) * 3) ((flatL f n).drop (i * 3)) := by
  obtain ⟨i0, hi0, hz0, hz1, hz2⟩ := info_parts infoH
  have hsz : (Tryd.prog.info? 37).map (·.size) = some 3 := by rw [hi0]; simp [hz1]
  have hll : (flatL f n).length = n * 3 := flatL_length n hf
  have hbw : g < w.heap.size := World.block_lt_of_cell? w ⟨g, 0, none⟩ (hrow 0 _ (List.getElem?_eq_getElem (by omega)))
  have hvw : q < w.heap.size := lt_of_block hq
  have hkk : (n : Int) + 1 - (i : Int) = ((n + 1 - i : Nat) : Int) := by omega
  have hik : i + (n + 1 - i) = n + 1 := by omega
  have htl : ((flatL f n).take (i * 3)).length = i * 3 := by rw [List.length_take, hll]; omega
  have hold : (Builtin.firstCells i0.size i (.slice (some ⟨g, 0, none⟩) i cap)).run Tryd.prog w.drew = .ok ((flatL f n).take (i * 3)).toArray w.drew := by
    rw [hz1]
    exact run_firstCells_some w.drew 3 i ⟨g, 0, none⟩ i cap ((flatL f n).take (i * 3)) htl (fun j v hj => by
      rw [Addr.add_lit, Nat.zero_add]
      rw [List.getElem?_take] at hj
      split at hj
      · exact hrow j v hj
      · cases hj)
  have hrz : ∀ ty, (Builtin.append_ #[33, 3] ty #[.slice (some ⟨g, 0, none⟩) i cap, .int .i64 ((n : Int) + 1 - (i : Int))]).run Tryd.prog w =
      .ok (.slice (some ⟨w.heap.size, 0, none⟩) (n + 1) (grownCap w (n + 1) cap 37)) (w.drew.alloc (.cells (((flatL f n).take (i * 3)).toArray ++ Builtin.zeroCells (Value.cells (.agg #[.int .i64 0, .int .i64 0, .slice none 0 0])) (n + 1 - i) ++ Builtin.zeroCells (Value.cells (.agg #[.int .i64 0, .int .i64 0, .slice none 0 0])) (grownCap w (n + 1) cap 37 - (n + 1))) 37)) := fun ty => by
    have h := Lib.run_append_grow_zeros w 33 3 ty 37 i0 _ .i64 .i64 Tryd.underlying33 Tryd.underlying3 hi0 hz0 (some ⟨g, 0, none⟩) i cap ((flatL f n).take (i * 3)) hold (n + 1 - i) (by omega) (by omega) (by omega) (by omega) (by rw [hz2]; omega) (by rw [hz2, hik]; exact growslice_fits hroom (by omega))
    rw [hik] at h
    rw [hkk]
    exact h
  obtain ⟨G, hG⟩ : ∃ G, G = grownCap w (n + 1) cap 37 := ⟨_, rfl⟩
  have hGn : n + 1 ≤ G := by rw [hG]; exact grownCap_ge w _ _ _
  have hGm : G ≤ maxLen := by rw [hG]; exact grownCap_le_maxLen w _ _ _ (by unfold maxLen; omega)
  obtain ⟨R, hR⟩ : ∃ R : List Value, R = (Builtin.zeroCells (Value.cells (.agg #[.int .i64 0, .int .i64 0, .slice none 0 0])) (n + 1 - i) ++ Builtin.zeroCells (Value.cells (.agg #[.int .i64 0, .int .i64 0, .slice none 0 0])) (G - (n + 1))).toList := ⟨_, rfl⟩
  have hRl : R.length = (G - i) * 3 := by
    have hzc : (Value.cells (.agg #[.int .i64 0, .int .i64 0, .slice none 0 0])).size = 3 := rfl
    rw [hR]
    rw [Array.length_toList, Array.size_append, zeroCells_size, zeroCells_size, hzc]
    omega
  have hROW : ((flatL f n).take (i * 3)).toArray ++ Builtin.zeroCells (Value.cells (.agg #[.int .i64 0, .int .i64 0, .slice none 0 0])) (n + 1 - i) ++ Builtin.zeroCells (Value.cells (.agg #[.int .i64 0, .int .i64 0, .slice none 0 0])) (G - (n + 1)) = ((flatL f n).take (i * 3) ++ R).toArray := by
    rw [hR]; simp [Array.append_assoc]
  rw [← hG] at hrz
  rw [hROW] at hrz
  obtain ⟨ROW, hRW⟩ : ∃ ROW : Array Value, ROW = ((flatL f n).take (i * 3) ++ R).toArray := ⟨_, rfl⟩
  have hRs : ROW.size = G * 3 := by rw [hRW]; simp only [List.size_toArray, List.length_append, htl, hRl]; omega
  rw [← hRW] at hrz
  obtain ⟨W1, hW1⟩ : ∃ W1, W1 = w.drew.alloc (.cells ROW 37) := ⟨_, rfl⟩
  rw [← hW1] at hrz
  have hN : ∀ j, j < G * 3 → (W1.cell? ⟨w.heap.size, j, none⟩).isSome = true := fun j hj => by
    rw [hW1, World.cell?_alloc_at (w := w.drew) ROW _ w.heap.size j rfl, Array.getElem?_eq_getElem (by omega)]; rfl
  have hNf : ∀ j, W1.frozen? ⟨w.heap.size, j, none⟩ = false := fun j => by rw [hW1]; exact World.frozen?_alloc_at (w := w.drew) ROW _ w.heap.size j rfl
  have hOb : ∀ j v, w.cell? ⟨g, j, none⟩ = some v → W1.cell? ⟨g, j, none⟩ = some v := fun j v h => by rw [hW1, World.cell?_alloc_past (w := w.drew) _ g j hbw]; exact h
  have hOv : ∀ j v, w.cell? ⟨q, j, none⟩ = some v → W1.cell? ⟨q, j, none⟩ = some v := fun j v h => by rw [hW1, World.cell?_alloc_past (w := w.drew) _ q j hvw]; exact h
  have hvs : ∀ j v, cs[j]? = some v → w.cell? ⟨q, j, none⟩ = some v := fun j v hj => by
    rw [cell_of_row _ _ j _ _ _ hq]
    simpa using hj
  have hcpA : ∀ (W : World), (∀ x, W.cell? x = W1.cell? x) → (∀ x, W.frozen? x = W1.frozen? x) → ∀ ty dc, (Builtin.copy_ #[33, 33] ty #[.slice (some ⟨w.heap.size, i * 3, none⟩) (n + 1 - i) dc, .slice (some ⟨q, 0, none⟩) 1 1]).run Tryd.prog W = .ok (goInt 1) (W.setCells w.heap.size (i * 3) cs) := fun W hWc hWf ty dc =>
    run_copy_cellsK 3 W _ _ ty 37 w.heap.size (i * 3) (n + 1 - i) dc ⟨q, 0, none⟩ 1 1 1 cs Tryd.underlying33 hsz (by simp only [Nat.min_def]; split <;> omega) (by omega)
      (fun j v hj => by rw [Addr.add_lit, hWc, Nat.zero_add]; exact hOv _ v (hvs j v hj))
      (fun j hj => by rw [hWc]; exact hN _ (by omega)) (fun j hj => by rw [hWf]; exact hNf _) h1
  have hbN : g ≠ w.heap.size := by omega
  have hdl : ((flatL f n).drop (i * 3)).length = (n - i) * 3 := by rw [List.length_drop, hll, Nat.sub_mul]
  have hcpB : ∀ (W : World), (∀ x, W.cell? x = (W1.setCells w.heap.size (i * 3) cs).cell? x) → (∀ x, W.frozen? x = (W1.setCells w.heap.size (i * 3) cs).frozen? x) → ∀ ty dc sc, (Builtin.copy_ #[33, 33] ty #[.slice (some ⟨w.heap.size, (i + 1) * 3, none⟩) (n - i) dc, .slice (some ⟨g, i * 3, none⟩) (n - i) sc]).run Tryd.prog W = .ok (goInt ((n - i : Nat) : Int)) (W.setCells w.heap.size ((i + 1) * 3) ((flatL f n).drop (i * 3))) := fun W hWc hWf ty dc sc =>
    run_copy_cellsK 3 W _ _ ty 37 w.heap.size ((i + 1) * 3) (n - i) dc ⟨g, i * 3, none⟩ (n - i) sc (n - i) _ Tryd.underlying33 hsz (by simp only [Nat.min_def]; split <;> omega) hdl
      (fun j v hj => by
        rw [Addr.add_lit, hWc, World.cell?_setCells_out _ _ _ _ _ (fun h _ => absurd h hbN)]
        exact hOb _ v (hrow _ v (by rwa [List.getElem?_drop] at hj)))
      (fun j hj => by rw [hWc]; exact isSome_setCells _ _ (i * 3) _ (fun t ht => hN _ (by omega)) _ (hN _ (by rw [hdl] at hj; omega)))
      (fun j hj => by rw [hWf, World.frozen?_setCells]; exact hNf _) (fun v hv => hf1 v (List.mem_of_mem_drop hv))
  subst hW1
  have hE1 : ∀ x, ((w.alloc (.cells ROW 37)).drew).cell? x = (w.drew.alloc (.cells ROW 37)).cell? x := fun x => rfl
  have hE2 : ∀ x, ((w.alloc (.cells ROW 37)).drew).frozen? x = (w.drew.alloc (.cells ROW 37)).frozen? x := fun x => rfl
  have hF1 : ∀ x, (((w.alloc (.cells ROW 37)).drew.setCells w.heap.size (i * 3) cs).drew).cell? x = ((w.drew.alloc (.cells ROW 37)).setCells w.heap.size (i * 3) cs).cell? x := fun x => rfl
  have hF2 : ∀ x, (((w.alloc (.cells ROW 37)).drew.setCells w.heap.size (i * 3) cs).drew).frozen? x = ((w.drew.alloc (.cells ROW 37)).setCells w.heap.size (i * 3) cs).frozen? x := fun x => rfl
  have hw1 : IntKind.i64.wrap ((i : Int) + 1) = (i : Int) + 1 := by rw [IntKind.wrap_i64]; omega
  have hb1 : (0 : Int) ≤ (i : Int) + 1 := by omega
  have hin : i ≤ n := by omega
  have htn : ((i : Int) + 1).toNat = i + 1 := by omega
  have hb3 : (i : Int) ≤ (n : Int) := by omega
  have mixed : Tryd.prog.follows .mixedOrders = true := by kernel_rfl
  have hz2' : ¬ ((i : Int) = (n : Int)) := by omega
  have hz2b : ((i : Int) == (n : Int)) = false := by simpa using hz2'
  have hz3 : (cap : Int) < (n : Int) + 1 := by omega
  have hGi : ¬ (G = i) := by omega
  have hGim : ¬ (G = i + 1) := by omega
  have hci : ¬ (cap = i) := by omega
  have hG63 : G ≤ 9223372036854775807 := by unfold maxLen at hGm; omega
  have HP : Hid (n + 1 ≤ G ∧ G ≤ maxLen ∧ R.length = (G - i) * 3 ∧ ROW = ((flatL f n).take (i * 3) ++ R).toArray) := ⟨hGn, hGm, hRl, hRW⟩
  clear hkk hik hold hROW hG hRl hRW hR hi0 hz0 hz1 hz2 hsz hll htl hRs hN hNf hOb hOv hvs hrow hf hf1 hq hl h1 hdl
  go_enter Tryd.func23, Tryd.ntmps23
  go_wp2_with (first
    | (at_builtin; refine Lib.wpList_append_run _ rfl _ _ _ _ rfl _ _ rfl rfl _ _ (hrz _) ?_)
    | (at_builtin; refine wpList_copy_runI _ rfl _ _ 33 33 rfl _ _ rfl rfl (hcpA _ hE1 hE2 _ _) ?_)
    | (at_builtin; refine wpList_copy_runI _ rfl _ _ 33 33 rfl _ _ rfl rfl (hcpB _ (fun _ => rfl) (fun _ => rfl) _ _ _) ?_))
  go_region_law_o (refine step_copy_runI rfl _ _ 33 33 rfl (.slice (some ⟨w.heap.size, (i + 1) * 3, none⟩) (n - i) (G - (i + 1))) (.slice (some ⟨g, i * 3, none⟩) (n - i) (cap - i)) (by simp [Act.eval, Act.put]) (by simp [Act.eval, Act.put]) (hcpB _ hF1 hF2 37 (G - (i + 1)) (cap - i)) ?_)
  go_wp2
  go_ret
  refine ⟨G, R, HP.out.1, HP.out.2.1, HP.out.2.2.1, rfl, ?_⟩
  rw [← HP.out.2.2.2]
theorem insH_any (B : Nat) (ad : Option Addr) (n cap i q : Nat) (f : Nat → List Value) (cs : List Value) (w : World) (hown : w.ownsRow B 37 3 (.slice ad n cap) n (flatL f n)) (hB : B ≤ w.heap.size) (hi : i ≤ n) (hf : ∀ j, j < n → (f j).length = 3) (hf1 : ∀ u ∈ flatL f n, u.oneCell' = true) (hq : w.heap[q]? = some (.cells cs.toArray 37 (0, 0))) (hqg : (Value.slice ad n cap).ownBlock ≠ some q) (hl : cs.length = 3) (h1 : ∀ u ∈ cs, u.oneCell' = true) (hn : n ≤ 1000000) :
    Calls Tryd.prog 23 #[.slice ad n cap, .int .i64 i, .slice (some ⟨q, 0, none⟩) 1 1] w fun e w' => InsR B 37 3 w ad n cap (flatL (insF f i cs) (n + 1)) e w' := by
  by_cases e : i = n
  · subst e
    exact insH_end B ad i cap q f cs w hown hB hq hl h1 hn
  · obtain ⟨m, rfl⟩ : ∃ m, n = i + m := ⟨n - i, by omega⟩
    have hlt : i < i + m := by omega
    have lX : (flatL f i).length = i * 3 := flatL_length i (fun j hj => hf j (by omega))
    have lY : (flatL (fun j => f (i + j)) m).length = m * 3 := flatL_length m (fun j hj => hf _ (by omega))
    have eXY := flatL_add f i m
    have eT : (flatL f (i + m)).take (i * 3) = flatL f i := by rw [eXY, List.take_append_of_le_length (by omega), List.take_of_length_le (by omega)]
    have eD : (flatL f (i + m)).drop (i * 3) = flatL (fun j => f (i + j)) m := by rw [eXY, List.drop_append_of_le_length (by omega), List.drop_of_length_le (by omega), List.nil_append]
    rcases hown.2 with ⟨_, h0⟩ | ⟨g, cap', cur, e1, hBg, hg, hnc, hmx, hcs, htk⟩
    · omega
    · cases e1
      by_cases hroom : i + m + 1 ≤ cap
      · refine (insH_shift g (i + m) cap i q cur f cs w hg hcs htk hmx hf hf1 hlt hroom hq (fun e => hqg (by rw [e]; rfl)) hl h1 hn).mono ?_
        rintro e w' ⟨rfl, rfl⟩
        rw [eD]
        have ec : cur.toList = flatL f i ++ (flatL (fun j => f (i + j)) m ++ cur.toList.drop ((i + m) * 3)) := by
          have := List.take_append_drop ((i + m) * 3) cur.toList
          rw [htk, eXY] at this
          simpa using this.symm
        have lZ : (cur.toList.drop ((i + m) * 3)).length = (cap - (i + m)) * 3 := by rw [List.length_drop, Array.length_toList, hcs, Nat.sub_mul]
        obtain ⟨Z, hZ⟩ : ∃ Z, cur.toList.drop ((i + m) * 3) = Z := ⟨_, rfl⟩
        rw [hZ] at ec lZ
        have hg0 : w.drew.heap[g]? = some (.cells ((flatL f i ++ (flatL (fun j => f (i + j)) m ++ Z).take 3) ++ (flatL (fun j => f (i + j)) m ++ Z).drop 3).toArray 37 (0, 0)) := by
          rw [List.append_assoc, List.take_append_drop, ← ec]
          show w.heap[g]? = _
          simpa using hg
        have s1 := setCells_at g (flatL (fun j => f (i + j)) m) ((i + 1) * 3) w.drew _ _ 37 hg0 (by simp only [List.length_append, List.length_take, lX, lY, lZ]; omega) (by simp only [List.length_drop, List.length_append, lY, lZ]; omega)
        rw [List.append_assoc, List.append_assoc] at s1
        have s2 := setCells_at g cs (i * 3) _ _ _ 37 s1 lX (by simp only [List.length_append, List.length_take, lY, lZ, hl]; omega)
        refine ⟨_, _, rfl, ⟨?_, .inr ⟨g, cap, _, rfl, hBg, s2, hroom, hmx, ?_, ?_⟩⟩, ?_⟩
        · rw [insF_mid]
          simp only [List.length_append, lX, lY, hl]
          omega
        · simp only [List.size_toArray, List.length_append, List.length_drop, List.length_take, lX, lY, lZ, hl]
          omega
        · rw [insF_mid]
          have ed : ((flatL (fun j => f (i + j)) m ++ Z).take 3 ++ (flatL (fun j => f (i + j)) m ++ ((flatL (fun j => f (i + j)) m ++ Z).drop 3).drop (flatL (fun j => f (i + j)) m).length)).drop cs.length = flatL (fun j => f (i + j)) m ++ ((flatL (fun j => f (i + j)) m ++ Z).drop 3).drop (flatL (fun j => f (i + j)) m).length := by
            rw [List.drop_append_of_le_length (by simp only [List.length_take, List.length_append, lY, lZ, hl]; omega), List.drop_of_length_le (by simp only [List.length_take, hl]; omega), List.nil_append]
          simp only [ed]
          have e3 : flatL f i ++ cs ++ (flatL (fun j => f (i + j)) m ++ ((flatL (fun j => f (i + j)) m ++ Z).drop 3).drop (flatL (fun j => f (i + j)) m).length) = (flatL f i ++ (cs ++ flatL (fun j => f (i + j)) m)) ++ ((flatL (fun j => f (i + j)) m ++ Z).drop 3).drop (flatL (fun j => f (i + j)) m).length := by simp
          rw [e3, List.take_append_of_le_length (by simp only [List.length_append, lX, lY, hl]; omega), List.take_of_length_le (by simp only [List.length_append, lX, lY, hl]; omega)]
        · have f1 := setCells_frm g (flatL (fun j => f (i + j)) m) ((i + 1) * 3) w.drew
          have f2 := setCells_frm g cs (i * 3) (w.drew.setCells g ((i + 1) * 3) (flatL (fun j => f (i + j)) m))
          have f3 := f1.trans f2
          exact ⟨f3.os, f3.tape, f3.output, f3.size, fun k hk hne => f3.block k hk (fun h => hne (by rw [List.mem_singleton.1 h]; rfl))⟩
      · refine (insH_grow g (i + m) cap i q f cs w (fun j v hv => ?_) hf hf1 hlt hnc (by omega) hq hl h1 hn).mono ?_
        · have hj := (List.getElem?_eq_some_iff.1 hv).1
          rw [hown.1] at hj
          rw [← htk, List.getElem?_take, if_pos (by omega), Array.getElem?_toList] at hv
          rw [cell_of_row _ _ _ _ _ _ hg]; exact hv
        · rintro e w' ⟨G, R, hGn, hGm, hRl, rfl, rfl⟩
          rw [eT, eD]
          have hg0 : ((w.alloc (.cells (flatL f i ++ R).toArray 37)).drew).heap[w.heap.size]? = some (.cells (flatL f i ++ R).toArray 37 (0, 0)) := heap_alloc_new w _
          have s1 := setCells_at w.heap.size cs (i * 3) _ _ _ 37 hg0 lX (by rw [hRl, hl]; omega)
          have s1' : ((((w.alloc (.cells (flatL f i ++ R).toArray 37)).drew).setCells w.heap.size (i * 3) cs).drew).heap[w.heap.size]? = some (.cells ((flatL f i ++ cs) ++ R.drop cs.length).toArray 37 (0, 0)) := s1
          have s2 := setCells_at w.heap.size (flatL (fun j => f (i + j)) m) ((i + 1) * 3) _ _ _ 37 s1' (by simp only [List.length_append, lX, hl]; omega) (by rw [List.length_drop, hRl, lY, hl]; omega)
          refine ⟨_, _, rfl, ⟨?_, .inr ⟨w.heap.size, G, _, rfl, hB, s2, hGn, hGm, ?_, ?_⟩⟩, ?_⟩
          · rw [insF_mid]
            simp only [List.length_append, lX, lY, hl]
            omega
          · simp only [List.size_toArray, List.length_append, List.length_drop, lX, lY, hl, hRl]
            omega
          · rw [insF_mid]
            dsimp only
            rw [List.take_append_of_le_length (by simp only [List.length_append, lX, lY, hl]; omega), List.take_of_length_le (by simp only [List.length_append, lX, lY, hl]; omega), List.append_assoc]
          · have f1 := setCells_frm w.heap.size cs (i * 3) (w.alloc (.cells (flatL f i ++ R).toArray 37)).drew
            have f2 := setCells_frm w.heap.size (flatL (fun j => f (i + j)) m) ((i + 1) * 3) ((((w.alloc (.cells (flatL f i ++ R).toArray 37)).drew).setCells w.heap.size (i * 3) cs).drew)
            have f3 := (f1.drew).trans f2
            have fA : Below w.heap.size w (w.alloc (.cells (flatL f i ++ R).toArray 37)).drew := ((Below.refl _ w).alloc (Nat.le_refl _) _).drew
            refine ⟨f3.os.trans fA.os, f3.tape.trans fA.tape, f3.output.trans fA.output, Nat.le_trans fA.size f3.size, fun k hk _ => ?_⟩
            rw [f3.block k (by have := fA.size; omega) (by simp; omega)]
            exact fA.block k hk
end Go.Proofs.YtchiapnhkhbigaaDoor
/- slices.Delete of one element at []state.Hold, out of a row of one's own. -/
namespace Go.Proofs.YtchiapnhkhbigaaDoor
open Go.RowKit Go.Lib

/-- Without the part at the place i. -/
def delF (f : Nat → List Value) (i : Nat) : Nat → List Value := fun j => if j < i then f j else f (j + 1)
theorem delF_mid (f : Nat → List Value) (i m : Nat) : flatL (delF f i) (i + m) = flatL f i ++ flatL (fun j => f (i + 1 + j)) m := by
  rw [flatL_add]
  congr 1
  · exact flatL_congr i (fun j hj => by simp [delF, hj])
  · exact flatL_congr m (fun j _ => by simp [delF]; rw [show i + j + 1 = i + 1 + j by omega, if_neg (by omega)])
theorem zero_one (c : Array Value) (n : Nat) (hc : 0 < c.size) (h : ∀ u ∈ c, u.oneCell' = true) : ∀ u ∈ (Builtin.zeroCells c n).toList, u.oneCell' = true := by
  intro u hu
  simp only [Builtin.zeroCells, Array.toList_map, List.mem_map] at hu
  obtain ⟨a, _, rfl⟩ := hu
  rw [getElem!_pos c _ (Nat.mod_lt _ hc)]
  exact h _ (Array.getElem_mem _)
theorem wpList_clear_run (w : World) {P : Program} {ops : Array Oper} {rest : List Oper} {o : Oper} {a : Act} {Q : Exit → Act → World → Prop} (hgd : o.guard = none) (x : Operand) (t : TypeId)
    (ho : o.op = .call { callee := .builtin .clear, args := #[x], argTypes := #[t] }) (u : Value) (hx : a.eval x = u) {v' : Value} {w' : World}
    (hr : (Builtin.clear_ #[t] o.type #[u]).run P w = .ok v' w') (h : wpList P ops Q rest (a.put o.dst v') w') : wpList P ops Q (o :: rest) a w :=
  wpList_plain hgd fun _ hK => by
    unfold Oper.wp execOp
    simp only [ho, resolve, invoke, builtin, Sem.run_bind, Sem.run_pure, Result.andThen_ok, List.map_toArray, List.map_cons, List.map_nil, hx, hr]
    exact hK _ _ h
theorem step_append_run {P : Program} {ops : Array Oper} {o : Oper} {a : Act} {w : World} {K : Act → World → Prop} {Q : Exit → Act → World → Prop} {E : Prop}
    (hg : o.guard = none) (d x : Operand) (dT sT : TypeId) (hop : o.op = Op.call { callee := Callee.builtin Builtin.append, args := #[d, x], argTypes := #[dT, sT] })
    (v u : Value) (hd : a.eval d = v) (hx : a.eval x = u) {v' : Value} {w' : World} (hr : (Builtin.append_ #[dT, sT] o.type #[v, u]).run P w = .ok v' w') (hK : K (a.put o.dst v') w') :
    if Region.wanted o (yielded ops a.tmps) = true then Oper.wp P o a w K Q else E := by
  have hw : Region.wanted o (yielded ops a.tmps) = true := by simp [Region.wanted, hg]
  rw [if_pos hw]
  unfold Oper.wp
  simp [execOp, hop, resolve, invoke, builtin, hd, hx, hr, Result.andThen]
  exact hK
theorem pyv_one' (x : Py) : ∀ u ∈ pyv x, u.oneCell' = true := fun u hu => pyl_one x u (by simpa [pyv] using hu)

set_option maxHeartbeats 4000000 in
set_option maxRecDepth 100000 in
theorem delH_run (g n cap i : Nat) (cur : Array Value) (f : Nat → List Value) (w : World) (hg : w.heap[g]? = some (.cells cur 37 (0, 0))) (hcs : cur.size = cap * 3) (htk : cur.toList.take (n * 3) = flatL f n) (hmx : cap ≤ maxLen) (hf : ∀ j, j < n → (f j).length = 3) (hf1 : ∀ u ∈ flatL f n, u.oneCell' = true) (hi : i < n) (hnc : n ≤ cap) (hn : n ≤ 1000000) :
    Calls Tryd.prog 32 #[.slice (some ⟨g, 0, none⟩) n cap, .int .i64 i, .int .i64 ((i : Int) + 1)] w fun e w' => e = .returned (.slice (some ⟨g, 0, none⟩) (n - 1) cap) ∧ w' = (w.drew.setCells g (i * 3) ((flatL f n).drop ((i + 1) * 3))).setCells g ((n - 1) * 3) (Builtin.zeroCells (Value.cells (.agg #[.int .i64 0, .int .i64 0, .slice none 0 0])) 1).toList := by
  obtain ⟨i0, hi0, hz0, hz1, hz2⟩ := info_parts infoH
  have hll : (flatL f n).length = n * 3 := flatL_length n hf
  have hdl : ((flatL f n).drop ((i + 1) * 3)).length = (n - (i + 1)) * 3 := by rw [List.length_drop, hll, Nat.sub_mul]
  have hcell : ∀ j, j < cap * 3 → (w.cell? ⟨g, j, none⟩).isSome = true := fun j hj => by
    rw [cell_of_row _ _ _ _ _ _ hg, Array.getElem?_eq_getElem (by omega)]; rfl
  have hfz : ∀ j, w.frozen? ⟨g, j, none⟩ = false := fun j => frozen_of_row _ _ _ _ _ hg
  have hrow : ∀ j v, (flatL f n)[j]? = some v → w.cell? ⟨g, j, none⟩ = some v := fun j v hv => by
    have hj := (List.getElem?_eq_some_iff.1 hv).1
    rw [← htk, List.getElem?_take, if_pos (by omega), Array.getElem?_toList] at hv
    rw [cell_of_row _ _ _ _ _ _ hg]; exact hv
  obtain ⟨A, hA, hsrc⟩ : ∃ A : Addr, (if cap = i + 1 then some (⟨g, 0, none⟩ : Addr) else some ⟨g, (i + 1) * 3, none⟩) = some A ∧ Hid (∀ t u, ((flatL f n).drop ((i + 1) * 3))[t]? = some u → w.drew.cell? (A.add t) = some u) := by
    by_cases h : cap = i + 1
    · refine ⟨⟨g, 0, none⟩, by simp [h], fun t u hu => ?_⟩
      have h0 : ((flatL f n).drop ((i + 1) * 3)).length = 0 := by rw [hdl]; omega
      rw [List.length_eq_zero_iff.1 h0] at hu
      simp at hu
    · refine ⟨⟨g, (i + 1) * 3, none⟩, by simp [h], fun t u hu => ?_⟩
      rw [Addr.add_lit]
      exact hrow _ u (by rwa [List.getElem?_drop] at hu)
  have hap : ∀ ty sc, (Builtin.append_ #[33, 33] ty #[.slice (some ⟨g, 0, none⟩) i cap, .slice (some A) (n - (i + 1)) sc]).run Tryd.prog w.drew = .ok (.slice (some ⟨g, 0, none⟩) (n - 1) cap) (w.drew.setCells g (i * 3) ((flatL f n).drop ((i + 1) * 3))) := fun ty sc => by
    have h := run_append_room_src (P := Tryd.prog) w.drew 33 33 ty 37 i0 Tryd.underlying33 hi0 g 0 i cap (.slice (some A) (n - (i + 1)) sc) (n - (i + 1)) ((flatL f n).drop ((i + 1) * 3))
      (Src.ofSlice w.drew Tryd.underlying33 A (n - (i + 1)) sc _ (by rw [hz1]; exact hdl) hsrc.out (fun v hv => hf1 v (List.mem_of_mem_drop hv))) (by omega)
      (fun j hj => by rw [hz1, Nat.zero_add]; exact hcell _ (by rw [hdl] at hj; omega)) (fun j hj => hfz _)
    rw [hz1, Nat.zero_add, show i + (n - (i + 1)) = n - 1 by omega] at h
    exact h
  obtain ⟨W1, hW1⟩ : ∃ W1, W1 = w.drew.setCells g (i * 3) ((flatL f n).drop ((i + 1) * 3)) := ⟨_, rfl⟩
  have hsp1 : ∀ k, k < cap * 3 → (W1.cell? ⟨g, k, none⟩).isSome = true := fun k hk => by
    rw [hW1]
    exact isSome_setCells g _ (i * 3) w.drew (fun j hj => hcell _ (by rw [hdl] at hj; omega)) _ (hcell k hk)
  have hzl : (Builtin.zeroCells (Value.cells (.agg #[.int .i64 0, .int .i64 0, .slice none 0 0])) 1).toList.length = 3 := by rw [Array.length_toList, zeroCells_size]; exact (Nat.one_mul _).trans rfl
  have hcl : ∀ ty sc, (Builtin.clear_ #[33] ty #[.slice (some ⟨g, (n - 1) * 3, none⟩) 1 sc]).run Tryd.prog W1 = .ok (.tuple #[]) (W1.setCells g ((n - 1) * 3) (Builtin.zeroCells (Value.cells (.agg #[.int .i64 0, .int .i64 0, .slice none 0 0])) 1).toList) := fun ty sc => by
    have hst := run_storeCells_cells (P := Tryd.prog) g ((n - 1) * 3) (Builtin.zeroCells (Value.cells (.agg #[.int .i64 0, .int .i64 0, .slice none 0 0])) 1).toList 0 W1 (fun j hj => by rw [hzl] at hj; exact hsp1 _ (by omega)) (fun j _ => by rw [hW1, World.frozen?_setCells]; exact hfz _) (zero_one _ 1 (by rw [show (Value.cells (.agg #[.int .i64 0, .int .i64 0, .slice none 0 0])).size = 3 from rfl]; omega) (by decide))
    rw [Nat.add_zero] at hst
    simp [Builtin.clear_, run_underlying Tryd.underlying33, zeroValue, typeInfo, hi0, hz0, hst]
  rw [← hW1] at hap
  have mixed : Tryd.prog.follows .mixedOrders = true := by kernel_rfl
  have hii : ((i : Int) == (i : Int) + 1) = false := by simp; omega
  have hii2 : ¬ ((i : Int) = (i : Int) + 1) := by omega
  have htn : ((i : Int) + 1).toNat = i + 1 := by omega
  have hb1 : (i : Int) + 1 ≤ (n : Int) := by omega
  have hb2 : (i : Int) ≤ (cap : Int) := by omega
  have hb3 : (i : Int) + 1 ≤ (cap : Int) := by omega
  have hb0 : (0 : Int) ≤ (i : Int) + 1 := by omega
  have hnc' : (n : Int) ≤ (cap : Int) := by omega
  have hn1 : ((n - 1 : Nat) : Int) ≤ (n : Int) := by omega
  have hn2 : ¬ (cap = n - 1) := by omega
  have hn3 : n - (n - 1) = 1 := by omega
  have hc63 : cap ≤ 9223372036854775807 := by unfold maxLen at hmx; omega
  have HW1 : Hid (W1 = w.drew.setCells g (i * 3) ((flatL f n).drop ((i + 1) * 3))) := hW1
  clear hi0 hz0 hz1 hz2 hll hdl hcell hfz hrow hsp1 hf hf1 hg hcs htk hzl hW1 hsrc
  go_enter Tryd.func32, Tryd.ntmps32
  go_wp2_with fail
  refine wp_region_noPanic ?_
  refine wp_region_held_drew (S := fun _ => True) (by kernel_rfl) trivial (fun hHeld => ?_)
  refine wpAnyH_take (i := 0) (oi := { dst := some 20, op := Go.Op.move (Go.Operand.tmp 0), type := 33, pos := "slices.go:232", after := #[], guard := none }) (v := ?_) rfl (by kernel_rfl) (by kernel_rfl) (by kernel_rfl) (fun _ _ _ h => h) (Or.inl ⟨by rfl, ?_⟩) (by assumption) ?_
  rotate_left
  · intro wz hSw; (try dsimp only at hSw); go_simp; (try with_reducible rfl)
  try simp only [Act.put, List.setIfInBounds_toArray, List.set_cons_zero, List.set_cons_succ]
  refine wpAnyH_take (i := 1) (oi := { dst := some 21, op := Go.Op.move (Go.Operand.tmp 1), type := 3, pos := "slices.go:232", after := #[], guard := none }) (v := ?_) rfl (by kernel_rfl) (by kernel_rfl) (by kernel_rfl) (fun _ _ _ h => h) (Or.inl ⟨by rfl, ?_⟩) (by assumption) ?_
  rotate_left
  · intro wz hSw; (try dsimp only at hSw); go_simp; (try with_reducible rfl)
  try simp only [Act.put, List.setIfInBounds_toArray, List.set_cons_zero, List.set_cons_succ]
  refine wpAnyH_take (i := 2) (oi := { dst := some 22, op := Go.Op.slice 33 (Go.Operand.tmp 20) none (some (Go.Operand.tmp 21)) none, type := 33, pos := "slices.go:232", after := #[{ on := 0, ground := Go.Ground.data }, { on := 1, ground := Go.Ground.data }], guard := none }) (v := ?_) rfl (by kernel_rfl) (by kernel_rfl) (by kernel_rfl) (fun _ _ _ h => h) (Or.inl ⟨by rfl, ?_⟩) (by assumption) ?_
  rotate_left
  · intro wz hSw; (try dsimp only at hSw); go_simp; (try with_reducible rfl)
  try simp only [Act.put, List.setIfInBounds_toArray, List.set_cons_zero, List.set_cons_succ]
  refine wpAnyH_take (i := 3) (oi := { dst := some 23, op := Go.Op.move (Go.Operand.tmp 0), type := 33, pos := "slices.go:232", after := #[], guard := none }) (v := ?_) rfl (by kernel_rfl) (by kernel_rfl) (by kernel_rfl) (fun _ _ _ h => h) (Or.inl ⟨by rfl, ?_⟩) (by assumption) ?_
  rotate_left
  · intro wz hSw; (try dsimp only at hSw); go_simp; (try with_reducible rfl)
  try simp only [Act.put, List.setIfInBounds_toArray, List.set_cons_zero, List.set_cons_succ]
  refine wpAnyH_take (i := 4) (oi := { dst := some 24, op := Go.Op.move (Go.Operand.tmp 2), type := 3, pos := "slices.go:232", after := #[], guard := none }) (v := ?_) rfl (by kernel_rfl) (by kernel_rfl) (by kernel_rfl) (fun _ _ _ h => h) (Or.inl ⟨by rfl, ?_⟩) (by assumption) ?_
  rotate_left
  · intro wz hSw; (try dsimp only at hSw); go_simp; (try with_reducible rfl)
  try simp only [Act.put, List.setIfInBounds_toArray, List.set_cons_zero, List.set_cons_succ]
  refine wpAnyH_take (i := 5) (oi := { dst := some 25, op := Go.Op.slice 33 (Go.Operand.tmp 23) (some (Go.Operand.tmp 24)) none none, type := 33, pos := "slices.go:232", after := #[{ on := 3, ground := Go.Ground.data }, { on := 4, ground := Go.Ground.data }], guard := none }) (v := .slice (some A) (n - (i + 1)) (cap - (i + 1))) rfl (by kernel_rfl) (by kernel_rfl) (by kernel_rfl) (fun _ _ _ h => h) (Or.inl ⟨by rfl, ?_⟩) (by assumption) ?_
  · intro wz hSw; (try dsimp only at hSw); go_simp; try (rw [hA]); try rfl
  try simp only [Act.put, List.setIfInBounds_toArray, List.set_cons_zero, List.set_cons_succ]
  refine wpAnyH_ready (rs := [6]) (by kernel_rfl) (by simp) ?_
  refine (AllReadyH.cons (o := { dst := some 26, op := Go.Op.call { callee := Go.Callee.builtin Go.Builtin.append, args := #[Go.Operand.tmp 22, Go.Operand.tmp 25], argTypes := #[33, 33] }, type := 33, pos := "slices.go:232", after := #[{ on := 2, ground := Go.Ground.data }, { on := 5, ground := Go.Ground.data }], guard := none }) rfl (fun K hK => ?_) AllReadyH.nil)
  refine step_append_run rfl (.tmp 22) (.tmp 25) 33 33 rfl (.slice (some ⟨g, 0, none⟩) i cap) (.slice (some A) (n - (i + 1)) (cap - (i + 1))) (by rfl) (by rfl) (hap _ _) ?_
  refine hK.out _ _ trivial (fun _ => ?_)
  clear hK K
  refine wpAnyH_take (i := 7) (oi := { dst := some 0, op := Go.Op.assign (Go.Operand.tmp 26), type := 33, pos := "slices.go:232", after := #[{ on := 6, ground := Go.Ground.data }, { on := 6, ground := Go.Ground.chain }, { on := 0, ground := Go.Ground.phase }, { on := 1, ground := Go.Ground.phase }, { on := 2, ground := Go.Ground.phase }, { on := 3, ground := Go.Ground.phase }, { on := 4, ground := Go.Ground.phase }, { on := 5, ground := Go.Ground.phase }, { on := 6, ground := Go.Ground.phase }], guard := none }) (v := ?_) rfl (by kernel_rfl) (by kernel_rfl) (by kernel_rfl) (fun _ _ _ h => h) (Or.inl ⟨by rfl, ?_⟩) (by assumption) ?_
  rotate_left
  · intro wz hSw; (try dsimp only at hSw); go_simp; (try with_reducible rfl)
  try simp only [Act.put, List.setIfInBounds_toArray, List.set_cons_zero, List.set_cons_succ]
  refine wpAnyH_done (by kernel_rfl) (NoPanic.normal ?_) _
  try simp only [Act.put, List.setIfInBounds_toArray, List.set_cons_zero, List.set_cons_succ]
  clear hHeld hap hA
  go_wp2_with (first | (at_builtin; refine wpList_clear_run _ rfl _ 33 rfl _ rfl (hcl _ _) ?_) | fail)
  go_ret
  exact ⟨rfl, by rw [HW1.out]; rfl⟩
/-- What a Delete answers. -/
theorem delH_any (B : Nat) (ad : Option Addr) (n cap i : Nat) (f : Nat → List Value) (w : World) (hown : w.ownsRow B 37 3 (.slice ad n cap) n (flatL f n)) (hi : i < n) (hf : ∀ j, j < n → (f j).length = 3) (hf1 : ∀ u ∈ flatL f n, u.oneCell' = true) (hn : n ≤ 1000000) :
    Calls Tryd.prog 32 #[.slice ad n cap, .int .i64 i, .int .i64 ((i : Int) + 1)] w fun e w' => e = .returned (.slice ad (n - 1) cap) ∧ w'.ownsRow B 37 3 (.slice ad (n - 1) cap) (n - 1) (flatL (delF f i) (n - 1)) ∧ w.grownBy w' (Value.slice ad n cap).ownBlock := by
  obtain ⟨m, rfl⟩ : ∃ m, n = i + 1 + m := ⟨n - i - 1, by omega⟩
  have lX : (flatL f i).length = i * 3 := flatL_length i (fun j hj => hf j (by omega))
  have lM : (f i).length = 3 := hf i hi
  have lY : (flatL (fun j => f (i + 1 + j)) m).length = m * 3 := flatL_length m (fun j hj => hf _ (by omega))
  have eXY : flatL f (i + 1 + m) = flatL f i ++ (f i ++ flatL (fun j => f (i + 1 + j)) m) := by
    rw [flatL_add, flatL, List.append_assoc]
  have eD : (flatL f (i + 1 + m)).drop ((i + 1) * 3) = flatL (fun j => f (i + 1 + j)) m := by
    rw [eXY, ← List.append_assoc, List.drop_append_of_le_length (by simp only [List.length_append, lX, lM]; omega), List.drop_of_length_le (by simp only [List.length_append, lX, lM]; omega), List.nil_append]
  rcases hown.2 with ⟨_, h0⟩ | ⟨g, cap', cur, e1, hBg, hg, hnc, hmx, hcs, htk⟩
  · omega
  · cases e1
    refine (delH_run g (i + 1 + m) cap i cur f w hg hcs htk hmx hf hf1 hi hnc hn).mono ?_
    rintro e w' ⟨rfl, rfl⟩
    rw [eD]
    have e2 : i + 1 + m - 1 = i + m := by omega
    rw [e2]
    have ec : cur.toList = flatL f i ++ (f i ++ (flatL (fun j => f (i + 1 + j)) m ++ cur.toList.drop ((i + 1 + m) * 3))) := by
      have := List.take_append_drop ((i + 1 + m) * 3) cur.toList
      rw [htk, eXY] at this
      simpa using this.symm
    have lZ : (cur.toList.drop ((i + 1 + m) * 3)).length = (cap - (i + 1 + m)) * 3 := by rw [List.length_drop, Array.length_toList, hcs, Nat.sub_mul]
    obtain ⟨Z, hZ⟩ : ∃ Z, cur.toList.drop ((i + 1 + m) * 3) = Z := ⟨_, rfl⟩
    rw [hZ] at ec lZ
    have hzl : (Builtin.zeroCells (Value.cells (.agg #[.int .i64 0, .int .i64 0, .slice none 0 0])) 1).toList.length = 3 := by rw [Array.length_toList, zeroCells_size]; exact (Nat.one_mul _).trans rfl
    obtain ⟨Q, hQ⟩ : ∃ Q, (Builtin.zeroCells (Value.cells (.agg #[.int .i64 0, .int .i64 0, .slice none 0 0])) 1).toList = Q := ⟨_, rfl⟩
    rw [hQ] at hzl ⊢
    have hg0 : w.drew.heap[g]? = some (.cells (flatL f i ++ (f i ++ (flatL (fun j => f (i + 1 + j)) m ++ Z))).toArray 37 (0, 0)) := by
      rw [← ec]
      show w.heap[g]? = _
      simpa using hg
    have s1 := setCells_at g (flatL (fun j => f (i + 1 + j)) m) (i * 3) w.drew _ _ 37 hg0 lX (by simp only [List.length_append, lM, lY, lZ]; omega)
    have s2 := setCells_at g Q ((i + m) * 3) _ _ _ 37 s1 (by simp only [List.length_append, lX, lY]; omega) (by simp only [List.length_drop, List.length_append, lM, lY, lZ, hzl]; omega)
    refine ⟨rfl, ⟨?_, .inr ⟨g, cap, _, rfl, hBg, s2, by omega, hmx, ?_, ?_⟩⟩, ?_⟩
    · rw [delF_mid]
      simp only [List.length_append, lX, lY]
      omega
    · simp only [List.size_toArray, List.length_append, List.length_drop, lX, lM, lY, lZ, hzl]
      omega
    · rw [delF_mid]
      dsimp only
      rw [List.append_assoc, List.take_append_of_le_length (by simp only [List.length_append, lX, lY]; omega), List.take_of_length_le (by simp only [List.length_append, lX, lY]; omega)]
    · have f1 := setCells_frm g (flatL (fun j => f (i + 1 + j)) m) (i * 3) w.drew
      have f2 := setCells_frm g Q ((i + m) * 3) (w.drew.setCells g (i * 3) (flatL (fun j => f (i + 1 + j)) m))
      have f3 := f1.trans f2
      exact ⟨f3.os, f3.tape, f3.output, f3.size, fun k hk hne => f3.block k hk (fun h => hne (by rw [List.mem_singleton.1 h]; rfl))⟩
end Go.Proofs.YtchiapnhkhbigaaDoor
