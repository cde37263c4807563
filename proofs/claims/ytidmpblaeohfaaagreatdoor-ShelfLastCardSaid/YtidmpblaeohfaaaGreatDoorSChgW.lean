/- The changes of a list that change something. -/
import Derived.Test.YtidmpblaeohfaaaGreatDoorSChg
import Derived.Test.YtidmpblaeohfaaaGreatDoorSFree
namespace Go.Proofs.YtidmpblaeohfaaaGreatDoor
open Go.RowKit Go.Shelf Go.Maps Go.Sort Go.Lib

attribute [local go_sem ↓] Go.wp_at_zero Go.wp_at_succ

/-- The last change of each key. -/
def lastL (cs : List Cg) : List Cg := cs.foldl (fun m c => putK Cg.k c m) []
theorem lastL_snoc (cs : List Cg) (c : Cg) : lastL (cs ++ [c]) = putK Cg.k c (lastL cs) := by simp [lastL]
theorem lastL_rise (cs : List Cg) : Rise Cg.k (lastL cs) := by
  suffices h : ∀ (cs m : List Cg), Rise Cg.k m → Rise Cg.k (cs.foldl (fun m c => putK Cg.k c m) m) from h cs [] List.Pairwise.nil
  intro cs
  induction cs with
  | nil => intro m h; exact h
  | cons c r ih => intro m h; exact ih _ (h.put Cg.k)
theorem putK_le {α : Type} (key : α → List UInt8) (x : α) (l : List α) : (putK key x l).length ≤ l.length + 1 := by
  rw [putK, insK_length]
  have : (delK key (key x) l).length ≤ l.length := List.length_filter_le _ _
  omega
theorem lastL_le (cs : List Cg) : (lastL cs).length ≤ cs.length := by
  suffices h : ∀ (cs m : List Cg), (cs.foldl (fun m c => putK Cg.k c m) m).length ≤ m.length + cs.length from by simpa [lastL] using h cs []
  intro cs
  induction cs with
  | nil => intro m; simp
  | cons c r ih =>
    intro m
    have h1 := ih (putK Cg.k c m)
    have h2 := putK_le Cg.k c m
    simp only [List.foldl_cons, List.length_cons]
    omega
theorem lastL_mem {cs : List Cg} {c : Cg} (h : c ∈ lastL cs) : c ∈ cs := by
  suffices H : ∀ (cs m : List Cg), c ∈ cs.foldl (fun m c => putK Cg.k c m) m → c ∈ m ∨ c ∈ cs from (H cs [] h).resolve_left (by simp)
  intro cs
  induction cs with
  | nil => intro m h; exact .inl h
  | cons d r ih =>
    intro m h
    rcases ih _ h with h | h
    · rcases (mem_putK Cg.k).1 h with rfl | h
      · exact .inr (List.mem_cons_self ..)
      · exact .inl h.1
    · exact .inr (List.mem_cons_of_mem _ h)
def todoL (L : List Lf) (cs : List Cg) : List Cg := (lastL cs).filter fun c => !sameC L c
theorem todoL_rise (L : List Lf) (cs : List Cg) : Rise Cg.k (todoL L cs) := (lastL_rise cs).filter Cg.k _
theorem todoL_mem {L : List Lf} {cs : List Cg} {c : Cg} (h : c ∈ todoL L cs) : c ∈ cs := lastL_mem (List.mem_filter.1 h).1
theorem todoL_le (L : List Lf) (cs : List Cg) : (todoL L cs).length ≤ cs.length := Nat.le_trans (List.length_filter_le _ _) (lastL_le cs)
/-- What a list of changes may be. -/
def COk (cs : List Cg) : Prop := cs.length ≤ 1000 ∧ ∀ x ∈ cs, x.k.length ≤ 100000 ∧ x.v.length ≤ 100000
/-- Behind i changes. -/
structure LsI (w wr : World) (sh i : Nat) (cs : List Cg) : Prop where
  map : cgM wr (w.heap.size + 1) (lastL (cs.take i))
  box : wr.heap[w.heap.size]? = some (.cells #[.pointer (some ⟨sh, 0, none⟩)] 31 (0, 0))
  below : Below w.heap.size w wr
set_option maxRecDepth 100000 in
set_option maxHeartbeats 1600000 in
theorem changes_any (sh m p fr n : Nat) (L : List Lf) (dead : Int) (ad : Option Addr) (cap : Nat) (cs : List Cg) (w : World) (h : ShAt w sh m p fr n L dead) (hc : CgAt w ad cs) (hok : COk cs) :
    Calls Tryz.prog 44 #[.pointer (some ⟨sh, 0, none⟩), .slice ad cs.length cap] w (CgR w (todoL L cs)) := by
  have HH : Hid (ShAt w sh m p fr n L dead) := h
  have HC : Hid (CgAt w ad cs) := hc
  have HO : Hid (COk cs) := hok
  have hl0 := hok.1
  have hmk := @run_makeMap Tryz.prog
  clear h hc hok
  have hI0 : LsI w ((w.alloc (.cells #[.pointer (some ⟨sh, 0, none⟩)] 31)).alloc (.map #[] 0)) sh 0 cs := by
    refine ⟨?_, (Below.heap_alloc _ _ _ (by simp)).trans (heap_alloc_new w _), ((Below.refl _ w).alloc (Nat.le_refl _) _).alloc (by simp) _⟩
    have := World.ownsMap_made (w.alloc (.cells #[.pointer (some ⟨sh, 0, none⟩)] 31)) Tryz.prog 9 cgR
    rw [World.size_alloc] at this
    exact cgM.of this
  go_enter Tryz.func44, Tryz.ntmps44
  go_wp2
  go_loopw [11] (fun iv wr => ∃ i : Nat, i ≤ cs.length ∧ iv = .int .i64 i ∧ LsI w wr sh i cs) (fun iv _ => cs.length - (intOf iv).toNat)
  case atStart => exact ⟨0, Nat.zero_le _, rfl, hI0⟩
  case round =>
    clear hI0 hmk
    obtain ⟨i, hi, rfl, hI⟩ := hrel
    have HI : Hid (LsI w wr sh i cs) := hI
    clear hI
    by_cases hlt : i < cs.length
    · have hlt' : (i : Int) < cs.length := by omega
      have hx : cs[i]? = some cs[i] := List.getElem?_eq_getElem hlt
      have hxm : cs[i] ∈ cs := List.getElem_mem hlt
      have htk : cs.take (i + 1) = cs.take i ++ [cs[i]] := (List.take_append_getElem hlt).symm
      obtain ⟨b, off, rfl, hcz⟩ := HC.out (by omega)
      have hcx := hcz i _ hx
      have hxk := (HO.out.2 _ hxm).1
      generalize cs[i] = x at *
      have hb : b < w.heap.size := World.block_lt_of_cell? w _ hcx.1
      have d0 : wr.cell? ⟨b, off + i * 3, none⟩ = some (encStr x.k) := (HI.out.below.cell (p := ⟨b, off + i * 3, none⟩) hb).trans hcx.1
      have d1 : wr.cell? ⟨b, off + i * 3 + 1, none⟩ = some (encStr x.v) := (HI.out.below.cell (p := ⟨b, off + i * 3 + 1, none⟩) hb).trans hcx.2.1
      have d2 : wr.cell? ⟨b, off + i * 3 + 2, none⟩ = some (.bool x.g) := (HI.out.below.cell (p := ⟨b, off + i * 3 + 2, none⟩) hb).trans hcx.2.2
      have hle := lastL_le (cs.take i)
      have hown : (wr.alloc (.cells #[encStr x.k, encStr x.v, .bool x.g] 70)).ownsMap Tryz.prog 9 cgR (w.heap.size + 1) (lastL (cs.take i)).length (dOf Cg.k Cg.en (lastL (cs.take i))) := World.ownsMap.alloc HI.out.map _
      have hkey := key_str (k := x.k) (by unfold maxLen; omega)
      have hval : cgR (.agg #[encStr x.k, encStr x.v, .bool x.g]) = some (x.en, []) := cgR_mk x
      have hrm : (lastL (cs.take i)).length < maxLen := by simp at hle; unfold maxLen; omega
      have HN : Hid (∀ w1, w1.ownsMap Tryz.prog 9 cgR (w.heap.size + 1) ((lastL (cs.take i)).length + 1) ((dOf Cg.k Cg.en (lastL (cs.take i))).put (.string x.k) x.en) → (wr.alloc (.cells #[encStr x.k, encStr x.v, .bool x.g] 70)).grownBy w1 (some (w.heap.size + 1)) → LsI w w1 sh (i + 1) cs) := fun w1 h1 h2 => by
        have hs := lt_of_block HI.out.box
        have hgr : wr.grownBy w1 (some (w.heap.size + 1)) := (World.grownBy_alloc wr _ (some (w.heap.size + 1))).andThen h2 (fun j e => .inr e)
        refine ⟨?_, by rw [hgr.block _ hs (by simp)]; exact HI.out.box, HI.out.below.grown hgr HI.out.below.size (fun k e => by cases e; omega)⟩
        rw [htk, lastL_snoc]
        rw [dOf_put Cg.k Cg.en x] at h1
        exact cgM.of h1
      clear hcz hcx hx hxm htk
      generalize lastL (cs.take i) = M at *
      generalize x.en = D at *
      generalize x.k = ck at *
      generalize x.v = cv at *
      generalize x.g = cg at *
      go_wp2_with (first | (at_mapUpdate; refine wpList_mapUpdate_own _ rfl _ _ _ 142 rfl 9 70 strK Tryz.underlying142 _ (w.heap.size + 1) _ _ rfl hown hrm _ _ (.string ck) rfl rfl hkey D [] hval ?_; intro w1 hown1 hgrow1) | fail)
      refine ⟨⟨i + 1, by omega, by go_num, HN.out w1 hown1 hgrow1⟩, by simp [intOf]; omega⟩
    · obtain rfl : i = cs.length := by omega
      have hlt' : ¬ ((cs.length : Int) < cs.length) := by omega
      have hmap := HI.out.map
      rw [List.take_length] at hmap
      have hbx := HI.out.box
      have hbl := HI.out.below
      have lsh := HH.out.lt
      have lm := HH.out.ltm
      have hdl := delFunc_any (sameC L) (w.heap.size + 1) (.pointer (some ⟨w.heap.size, 0, none⟩)) (lastL cs) wr hmap (fun W x hx hg => by
        have e0 : ∀ k, k < w.heap.size → W.heap[k]? = w.heap[k]? := fun k hk => by
          rw [hg.block k (Nat.lt_of_lt_of_le hk hbl.size) (by simp; omega)]
          exact hbl.block k hk
        refine (chg1_any sh m p fr n w.heap.size L dead x W (HH.out.keep (e0 sh lsh) (e0 m lm)) ?_ ?_).mono ?_
        · have := (HO.out.2 x (lastL_mem hx)).1; unfold maxLen; omega
        · have hb' : W.heap[w.heap.size]? = some (.cells #[.pointer (some ⟨sh, 0, none⟩)] 31 (0, 0)) := by rw [hg.block _ (lt_of_block hbx) (by simp)]; exact hbx
          rw [cell_of_row W _ 0 _ _ _ hb']; rfl
        · rintro e w' ⟨rfl, hb⟩
          exact ⟨rfl, below_grown hb⟩)
      have HB : Hid (Below w.heap.size w wr) := hbl
      have htl : (todoL L cs).length ≤ 1000000 := by have := todoL_le L cs; omega
      clear HI hmap hbx hbl HC HO
      go_wp2_with fail
      refine hdl.mono ?_
      rintro e w1 ⟨rfl, hm1, hg1⟩
      have hb1 : Below w.heap.size w w1 := HB.out.grown hg1 HB.out.size (fun k e => by cases e; omega)
      have HB1 : Hid (Below w.heap.size w w1) := hb1
      have hv := vals_any (some (w.heap.size + 1)) w1
      have hbA : Below w1.heap.size w1 (w1.alloc (.cells #[.map (some (w.heap.size + 1))] 142)) := (Below.refl _ w1).alloc (Nat.le_refl _) _
      have hs := sortedF_any w1.heap.size (w.heap.size + 1) (todoL L cs) (todoL_rise L cs) htl (w1.alloc (.cells #[.map (some (w.heap.size + 1))] 142)) (by simp) (owns_keepB hm1 (hbA.block _ (World.ownsMap.lt hm1)))
      have HA : Hid (Below w1.heap.size w1 (w1.alloc (.cells #[.map (some (w.heap.size + 1))] 142))) := hbA
      clear hdl hm1 hg1 hb1 hbA
      go_wp2_with fail
      refine hv.mono ?_
      rintro e w2 ⟨rfl, rfl⟩
      go_wp2_with fail
      refine hs.mono ?_
      rintro e w2 ⟨ad2, cap2, rfl, hat, hge, hb2⟩
      go_wp2
      go_ret
      have hb12 := Below.transS HB1.out (Below.transS HA.out hb2)
      exact ⟨ad2, cap2, rfl, hat, (fun a e => by have := hge a e; have := HB1.out.size; simp at *; omega), hb12⟩
end Go.Proofs.YtidmpblaeohfaaaGreatDoor
