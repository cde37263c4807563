/- The changes of a list that change something. -/
import Derived.Test.YtbfajoeilpkofaaGreatDoorOwnShelf21
import Derived.Deep.RegionHeld
import Derived.Deep.CutBlock
import Derived.Deep.DeepCutAuto
namespace Go.Proofs.YtbfajoeilpkofaaGreatDoor
open Go.RowKit Go.Shelf Go.Maps Go.Sort Go.Lib

attribute [local go_sem ↓] Go.wp_at_zero Go.wp_at_succ

/-- The last change of each key. -/
def lastL (cs : List Cg) : List Cg := cs.foldl (fun m c => putK Cg.k c m) []
theorem lastL_snoc (cs : List Cg) (c : Cg) : lastL (cs ++ [c]) = putK Cg.k c (lastL cs) := by simp [lastL]
theorem lastL_rise (cs : List Cg) : Rise Cg.k (lastL cs) := by
  suffices h : ∀ (cs m : List Cg), Rise Cg.k m → Rise Cg.k (cs.foldl (fun m c => putK Cg.k c m) m) from h cs [] List.Pairwise.nil
  intro cs
  induction cs with
  | nil => intro m h; exact h
  | cons c r ih => intro m h; exact ih _ (h.put Cg.k)
theorem putK_le {α : Type} (key : α → List UInt8) (x : α) (l : List α) : (putK key x l).length ≤ l.length + 1 := by
  rw [putK, insK_length]
  have : (delK key (key x) l).length ≤ l.length := List.length_filter_le _ _
  omega
theorem lastL_le (cs : List Cg) : (lastL cs).length ≤ cs.length := by
  suffices h : ∀ (cs m : List Cg), (cs.foldl (fun m c => putK Cg.k c m) m).length ≤ m.length + cs.length from by simpa [lastL] using h cs []
  intro cs
  induction cs with
  | nil => intro m; simp
  | cons c r ih =>
    intro m
    have h1 := ih (putK Cg.k c m)
    have h2 := putK_le Cg.k c m
    simp only [List.foldl_cons, List.length_cons]
    omega
theorem lastL_mem {cs : List Cg} {c : Cg} (h : c ∈ lastL cs) : c ∈ cs := by
  suffices H : ∀ (cs m : List Cg), c ∈ cs.foldl (fun m c => putK Cg.k c m) m → c ∈ m ∨ c ∈ cs from (H cs [] h).resolve_left (by simp)
  intro cs
  induction cs with
  | nil => intro m h; exact .inl h
  | cons d r ih =>
    intro m h
    rcases ih _ h with h | h
    · rcases (mem_putK Cg.k).1 h with rfl | h
      · exact .inr (List.mem_cons_self ..)
      · exact .inl h.1
    · exact .inr (List.mem_cons_of_mem _ h)
def todoL (L : List Lf) (cs : List Cg) : List Cg := (lastL cs).filter fun c => !sameC L c
theorem todoL_rise (L : List Lf) (cs : List Cg) : Rise Cg.k (todoL L cs) := (lastL_rise cs).filter Cg.k _
theorem todoL_mem {L : List Lf} {cs : List Cg} {c : Cg} (h : c ∈ todoL L cs) : c ∈ cs := lastL_mem (List.mem_filter.1 h).1
theorem todoL_le (L : List Lf) (cs : List Cg) : (todoL L cs).length ≤ cs.length := Nat.le_trans (List.length_filter_le _ _) (lastL_le cs)
/-- What a list of changes may be. -/
def COk (cs : List Cg) : Prop := cs.length ≤ 1000 ∧ ∀ x ∈ cs, x.k.length ≤ 100000 ∧ x.v.length ≤ 100000
/-- Behind i changes. -/
structure LsI (w wr : World) (sh i : Nat) (cs : List Cg) : Prop where
  map : cgM wr (w.heap.size + 1) (lastL (cs.take i))
  box : wr.heap[w.heap.size]? = some (.cells #[.pointer (some ⟨sh, 0, none⟩)] 31 (0, 0))
  below : Below w.heap.size w wr
set_option maxRecDepth 100000 in
set_option maxHeartbeats 1600000 in
theorem changes_any (sh m p fr n : Nat) (L : List Lf) (dead : Int) (ad : Option Addr) (cap : Nat) (cs : List Cg) (w : World) (h : ShAt w sh m p fr n L dead) (hc : CgAt w ad cs) (hok : COk cs) :
    Calls Tryz.prog 44 #[.pointer (some ⟨sh, 0, none⟩), .slice ad cs.length cap] w (CgR w (todoL L cs)) := by
  have HH : Hid (ShAt w sh m p fr n L dead) := h
  have HC : Hid (CgAt w ad cs) := hc
  have HO : Hid (COk cs) := hok
  have hl0 := hok.1
  have hmk := @run_makeMap Tryz.prog
  clear h hc hok
  have hI0 : LsI w ((w.alloc (.cells #[.pointer (some ⟨sh, 0, none⟩)] 31)).alloc (.map #[] 0)) sh 0 cs := by
    refine ⟨?_, (Below.heap_alloc _ _ _ (by simp)).trans (heap_alloc_new w _), ((Below.refl _ w).alloc (Nat.le_refl _) _).alloc (by simp) _⟩
    have := World.ownsMap_made (w.alloc (.cells #[.pointer (some ⟨sh, 0, none⟩)] 31)) Tryz.prog 9 cgR
    rw [World.size_alloc] at this
    exact cgM.of this
  go_enter Tryz.func44, Tryz.ntmps44
  go_wp2
  go_loopw [11] (fun iv wr => ∃ i : Nat, i ≤ cs.length ∧ iv = .int .i64 i ∧ LsI w wr sh i cs) (fun iv _ => cs.length - (intOf iv).toNat)
  case atStart => exact ⟨0, Nat.zero_le _, rfl, hI0⟩
  case round =>
    clear hI0 hmk
    obtain ⟨i, hi, rfl, hI⟩ := hrel
    have HI : Hid (LsI w wr sh i cs) := hI
    clear hI
    by_cases hlt : i < cs.length
    · have hlt' : (i : Int) < cs.length := by omega
      have hx : cs[i]? = some cs[i] := List.getElem?_eq_getElem hlt
      have hxm : cs[i] ∈ cs := List.getElem_mem hlt
      have htk : cs.take (i + 1) = cs.take i ++ [cs[i]] := (List.take_append_getElem hlt).symm
      obtain ⟨b, off, rfl, hcz⟩ := HC.out (by omega)
      have hcx := hcz i _ hx
      have hxk := (HO.out.2 _ hxm).1
      generalize cs[i] = x at *
      have hb : b < w.heap.size := World.block_lt_of_cell? w _ hcx.1
      have d0 : wr.cell? ⟨b, off + i * 3, none⟩ = some (encStr x.k) := (HI.out.below.cell (p := ⟨b, off + i * 3, none⟩) hb).trans hcx.1
      have d1 : wr.cell? ⟨b, off + i * 3 + 1, none⟩ = some (encStr x.v) := (HI.out.below.cell (p := ⟨b, off + i * 3 + 1, none⟩) hb).trans hcx.2.1
      have d2 : wr.cell? ⟨b, off + i * 3 + 2, none⟩ = some (.bool x.g) := (HI.out.below.cell (p := ⟨b, off + i * 3 + 2, none⟩) hb).trans hcx.2.2
      have hle := lastL_le (cs.take i)
      have hown : (wr.alloc (.cells #[encStr x.k, encStr x.v, .bool x.g] 70)).ownsMap Tryz.prog 9 cgR (w.heap.size + 1) (lastL (cs.take i)).length (dOf Cg.k Cg.en (lastL (cs.take i))) := World.ownsMap.alloc HI.out.map _
      have hkey := key_str (k := x.k) (by unfold maxLen; omega)
      have hval : cgR (.agg #[encStr x.k, encStr x.v, .bool x.g]) = some (x.en, []) := cgR_mk x
      have hrm : (lastL (cs.take i)).length < maxLen := by simp at hle; unfold maxLen; omega
      have HN : Hid (∀ w1, w1.ownsMap Tryz.prog 9 cgR (w.heap.size + 1) ((lastL (cs.take i)).length + 1) ((dOf Cg.k Cg.en (lastL (cs.take i))).put (.string x.k) x.en) → (wr.alloc (.cells #[encStr x.k, encStr x.v, .bool x.g] 70)).grownBy w1 (some (w.heap.size + 1)) → LsI w w1 sh (i + 1) cs) := fun w1 h1 h2 => by
        have hs := lt_of_block HI.out.box
        have hgr : wr.grownBy w1 (some (w.heap.size + 1)) := (World.grownBy_alloc wr _ (some (w.heap.size + 1))).andThen h2 (fun j e => .inr e)
        refine ⟨?_, by rw [hgr.block _ hs (by simp)]; exact HI.out.box, HI.out.below.grown hgr HI.out.below.size (fun k e => by cases e; omega)⟩
        rw [htk, lastL_snoc]
        rw [dOf_put Cg.k Cg.en x] at h1
        exact cgM.of h1
      clear hcz hcx hx hxm htk
      generalize lastL (cs.take i) = M at *
      generalize x.en = D at *
      generalize x.k = ck at *
      generalize x.v = cv at *
      generalize x.g = cg at *
      go_wp2_with (first | (at_mapUpdate; refine wpList_mapUpdate_own _ rfl _ _ _ 142 rfl 9 70 strK Tryz.underlying142 _ (w.heap.size + 1) _ _ rfl hown hrm _ _ (.string ck) rfl rfl hkey D [] hval ?_; intro w1 hown1 hgrow1) | fail)
      refine ⟨⟨i + 1, by omega, by go_num, HN.out w1 hown1 hgrow1⟩, by simp [intOf]; omega⟩
    · obtain rfl : i = cs.length := by omega
      have hlt' : ¬ ((cs.length : Int) < cs.length) := by omega
      have hmap := HI.out.map
      rw [List.take_length] at hmap
      have hbx := HI.out.box
      have hbl := HI.out.below
      have lsh := HH.out.lt
      have lm := HH.out.ltm
      have hdl := delFunc_any (sameC L) (w.heap.size + 1) (.pointer (some ⟨w.heap.size, 0, none⟩)) (lastL cs) wr hmap (fun W x hx hg => by
        have e0 : ∀ k, k < w.heap.size → W.heap[k]? = w.heap[k]? := fun k hk => by
          rw [hg.block k (Nat.lt_of_lt_of_le hk hbl.size) (by simp; omega)]
          exact hbl.block k hk
        refine (chg1_any sh m p fr n w.heap.size L dead x W (HH.out.keep (e0 sh lsh) (e0 m lm)) ?_ ?_).mono ?_
        · have := (HO.out.2 x (lastL_mem hx)).1; unfold maxLen; omega
        · have hb' : W.heap[w.heap.size]? = some (.cells #[.pointer (some ⟨sh, 0, none⟩)] 31 (0, 0)) := by rw [hg.block _ (lt_of_block hbx) (by simp)]; exact hbx
          rw [cell_of_row W _ 0 _ _ _ hb']; rfl
        · rintro e w' ⟨rfl, hb⟩
          exact ⟨rfl, below_grown hb⟩)
      have HB : Hid (Below w.heap.size w wr) := hbl
      have htl : (todoL L cs).length ≤ 1000000 := by have := todoL_le L cs; omega
      clear HI hmap hbx hbl HC HO
      go_wp2_with fail
      refine hdl.mono ?_
      rintro e w1 ⟨rfl, hm1, hg1⟩
      have hb1 : Below w.heap.size w w1 := HB.out.grown hg1 HB.out.size (fun k e => by cases e; omega)
      have HB1 : Hid (Below w.heap.size w w1) := hb1
      have hv := vals_any (some (w.heap.size + 1)) w1
      have hbA : Below w1.heap.size w1 (w1.alloc (.cells #[.map (some (w.heap.size + 1))] 142)) := (Below.refl _ w1).alloc (Nat.le_refl _) _
      have hs := sortedF_any w1.heap.size (w.heap.size + 1) (todoL L cs) (todoL_rise L cs) htl (w1.alloc (.cells #[.map (some (w.heap.size + 1))] 142)) (by simp) (owns_keepB hm1 (hbA.block _ (World.ownsMap.lt hm1)))
      have HA : Hid (Below w1.heap.size w1 (w1.alloc (.cells #[.map (some (w.heap.size + 1))] 142))) := hbA
      clear hdl hm1 hg1 hb1 hbA
      go_wp2_with fail
      refine hv.mono ?_
      rintro e w2 ⟨rfl, rfl⟩
      go_wp2_with fail
      refine hs.mono ?_
      rintro e w2 ⟨ad2, cap2, rfl, hat, hge, hb2⟩
      go_wp2
      go_ret
      have hb12 := Below.transS HB1.out (Below.transS HA.out hb2)
      exact ⟨ad2, cap2, rfl, hat, (fun a e => by have := hge a e; have := HB1.out.size; simp at *; omega), hb12⟩
end Go.Proofs.YtbfajoeilpkofaaGreatDoor
/- The leaves behind some changes. -/
namespace Go.Proofs.YtbfajoeilpkofaaGreatDoor
open Go.RowKit Go.Shelf Go.Maps Go.Sort

attribute [local go_sem ↓] Go.wp_at_zero Go.wp_at_succ

def behL : List Cg → List Nat → List Lf → List Lf
  | [], _, L => L
  | c :: r, f, L => if c.g then behL r f (delK Lf.k c.k L) else behL r f.tail (putK Lf.k ⟨c.k, f.headD 0, c.v⟩ (delK Lf.k c.k L))
/-- How many get a value. -/
def nlay (C : List Cg) : Nat := (C.filter fun c => !c.g).length
theorem nlay_cons (c : Cg) (C : List Cg) : nlay (c :: C) = (if c.g then 0 else 1) + nlay C := by
  unfold nlay
  cases h : c.g <;> simp [h]
  omega
set_option maxHeartbeats 400000 in
theorem cloneS_any (k : List UInt8) (w : World) (hk : k.length ≤ 100000) : Calls Tryz.prog 81 #[encStr k] w fun e w' => e = .returned (encStr k) ∧ Below w.heap.size w w' := by
  have hcon := Any.stringslite_Clone Tryz.lCloneS ⟨k.toArray⟩ w (by simp [ByteArray.size]; omega)
  change Calls Tryz.prog 108 #[encStr k] w fun e w' => e = .returned (encStr k) ∧ Below w.heap.size w w' at hcon
  generalize encStr k = v at *
  go_enter Tryz.func81, Tryz.ntmps81
  go_wp2_with fail
  refine hcon.mono ?_
  rintro e w' ⟨rfl, hb⟩
  go_wp2
  go_ret
  exact ⟨rfl, hb⟩
/-- Places that lie somewhere. -/
def NsAt (w : World) (ad : Option Addr) (f : List Nat) : Prop := IsL w ad (f.map fun x : Nat => (x : Int))
theorem NsAt.keep {w w' : World} {ad : Option Addr} {f : List Nat} (h : NsAt w ad f) {B : Nat} (hb : Below B w w') (hB : ∀ a, ad = some a → a.block < B) : NsAt w' ad f := IsL.keep h fun a e _ => hb.block _ (hB a e)
theorem NsAt.tail {w : World} {g off : Nat} {f : List Nat} (h : NsAt w (some ⟨g, off, none⟩) f) : NsAt w (some ⟨g, off + 1, none⟩) f.tail := fun hn => by
  cases f with
  | nil => simp at hn
  | cons x r =>
    obtain ⟨b, o, e, hc⟩ := h (by simp)
    cases e
    refine ⟨g, off + 1, rfl, fun j y hy => ?_⟩
    have := hc (j + 1) y (by simpa using hy)
    rwa [show off + 1 + j = off + (j + 1) from by omega]
theorem box3 {w : World} {b : Nat} {x y z : Value} {t : TypeId} (h : w.heap[b]? = some (.cells #[x, y, z] t (0, 0))) : w.cell? ⟨b, 0, none⟩ = some x ∧ w.cell? ⟨b, 1, none⟩ = some y ∧ w.cell? ⟨b, 2, none⟩ = some z :=
  ⟨by rw [cell_of_row _ _ 0 _ _ _ h]; rfl, by rw [cell_of_row _ _ 1 _ _ _ h]; rfl, by rw [cell_of_row _ _ 2 _ _ _ h]; rfl⟩
/-- While some changes are left. -/
structure BeI (w wr : World) (mc : Nat) (C : List Cg) (i : Nat) (fv : Value) (R : List Lf) (N : Nat) : Prop where
  ex : ∃ (f : List Nat) (M : List Lf) (ad : Option Addr) (cap : Nat), behL (C.drop i) f M = R ∧ lfM wr mc M ∧ fv = .slice ad f.length cap ∧ f.length ≤ cap ∧ NsAt wr ad f ∧ (∀ a, ad = some a → a.block < w.heap.size ∧ ∃ o, a = ⟨a.block, o, none⟩) ∧ nlay (C.drop i) ≤ f.length ∧ M.length ≤ N + i
  below : Below w.heap.size w wr
  ge : w.heap.size ≤ mc
theorem insMap {w1 : World} {m n : Nat} {M : List Lf} {x : Lf} (h : w1.ownsMap Tryz.prog 9 lfR m n ((dOf Lf.k Lf.en M).put (.string x.k) (lfD x.p x.v))) : lfM w1 m (putK Lf.k x M) := by
  have e : (dOf Lf.k Lf.en M).put (.string x.k) (lfD x.p x.v) = dOf Lf.k Lf.en (putK Lf.k x M) := dOf_put Lf.k Lf.en x M
  rw [e] at h
  exact lfM.of h
section
variable {ops : Array Oper} {o : Oper} {a : Act} {w : World} {K : Act → World → Prop} {Q : Exit → Act → World → Prop} {E : Prop}
theorem step_put (hgd : o.guard = none) (m x v : Operand) (ho : o.op = .mapUpdate 81 m x v) (b n : Nat) (M : List Lf) (k u : List UInt8) (p : Nat) (hm : a.eval m = .map (some b)) (hx : a.eval x = encStr k) (hv : a.eval v = .agg #[.int .i64 (p : Int), encStr u])
    (hown : w.ownsMap Tryz.prog 9 lfR b n (dOf Lf.k Lf.en M)) (hn : n < maxLen) (hk : k.length ≤ maxLen)
    (h : ∀ w1, lfM w1 b (putK Lf.k ⟨k, p, u⟩ M) → w.grownBy w1 (some b) → K (a.put o.dst undef) w1) : if Region.wanted o (yielded ops a.tmps) = true then Oper.wp Tryz.prog o a w K Q else E := by
  have hw : Region.wanted o (yielded ops a.tmps) = true := by simp [Region.wanted, hgd]
  rw [if_pos hw]
  obtain ⟨w1, hr, h2, h3⟩ := hown.update strK Tryz.underlying81 hn (key_str hk) (lfR_mk p u)
  unfold Oper.wp execOp
  have hr' : (Instr.mapUpdate 81 (.map (some b)) (encStr k) (.agg #[.int .i64 (p : Int), encStr u])).run Tryz.prog w = .ok () w1 := hr
  simp only [ho, hm, hx, hv, Sem.run_bind, hr', Result.andThen_ok, Sem.run_pure]
  exact h w1 (insMap (x := ⟨k, p, u⟩) h2) h3
end
set_option maxRecDepth 100000 in
set_option maxHeartbeats 3200000 in
theorem behind_any (sh m p fr n : Nat) (L : List Lf) (dead : Int) (ad : Option Addr) (cap : Nat) (C : List Cg) (fa : Option Addr) (fc : Nat) (f : List Nat) (w : World) (h : ShAt w sh m p fr n L dead) (hc : CgAt w ad C) (hok : COk C)
    (hf : NsAt w fa f) (hfb : ∀ a, fa = some a → a.block < w.heap.size ∧ ∃ o, a = ⟨a.block, o, none⟩) (hfc : f.length ≤ fc) (hn : nlay C ≤ f.length) :
    Calls Tryz.prog 47 #[.pointer (some ⟨sh, 0, none⟩), .slice ad C.length cap, .slice fa f.length fc] w fun e w' => ∃ mc, e = .returned (.map (some mc)) ∧ lfM w' mc (behL C f L) ∧ w.heap.size ≤ mc ∧ Below w.heap.size w w' := by
  have c3 := h.c3
  have hLl : L.length ≤ 1024 := by have := h.few; have := h.count; omega
  have hcl := AnyW.maps_Clone_owns Tryz.lCloneM 9 lfR m L.length (dOf Lf.k Lf.en L) w h.map
  change Calls Tryz.prog 80 _ _ _ at hcl
  have HC : Hid (CgAt w ad C) := hc
  have HO : Hid (COk C) := hok
  have hl0 := hok.1
  have HF : Hid (NsAt w fa f ∧ (∀ a, fa = some a → a.block < w.heap.size ∧ ∃ o, a = ⟨a.block, o, none⟩)) := ⟨hf, hfb⟩
  clear h hc hok hf hfb
  go_enter Tryz.func47, Tryz.ntmps47
  go_wp2_with fail
  refine hcl.mono ?_
  rintro e w1 ⟨rfl, hm1, -, hb1⟩
  have hI0 : BeI w w1 w.heap.size C 0 (.slice fa f.length fc) (behL C f L) L.length :=
    ⟨⟨f, L, fa, fc, rfl, hm1, rfl, hfc, HF.out.1.keep hb1 (fun a e => (HF.out.2 a e).1), HF.out.2, hn, Nat.le_refl _⟩, hb1, Nat.le_refl _⟩
  obtain ⟨R, hReq⟩ : ∃ R, behL C f L = R := ⟨_, rfl⟩
  rw [hReq] at hI0
  have HReq : Hid (behL C f L = R) := hReq
  clear hReq
  generalize w.heap.size = mc at hI0 ⊢
  clear hcl hm1 hb1
  go_wp2
  go_loopw [2, 17] (fun fv iv wr => ∃ i : Nat, i ≤ C.length ∧ iv = .int .i64 i ∧ BeI w wr mc C i fv R L.length) (fun _ iv _ => C.length - (intOf iv).toNat)
  case atStart => exact ⟨0, Nat.zero_le _, rfl, hI0⟩
  case round =>
    clear hI0 HF
    obtain ⟨i, hi, rfl, ⟨f1, M, fa1, fc1, hR, hM, rfl, hfc1, hf1, hfb1, hn1, hMl⟩, hbw, hge⟩ := hrel
    by_cases hlt : i < C.length
    · have hlt' : (i : Int) < C.length := by omega
      have hx : C[i]? = some C[i] := List.getElem?_eq_getElem hlt
      have hxm : C[i] ∈ C := List.getElem_mem hlt
      have hdr : C.drop i = C[i] :: C.drop (i + 1) := List.drop_eq_getElem_cons hlt
      obtain ⟨b, off, rfl, hcz⟩ := HC.out (by omega)
      have hcx := hcz i _ hx
      have hx6 := HO.out.2 _ hxm
      rw [hdr] at hR hn1
      rw [nlay_cons] at hn1
      unfold behL at hR
      generalize C[i] = x at *
      have hb : b < w.heap.size := World.block_lt_of_cell? w _ hcx.1
      have d0 : wr.cell? ⟨b, off + i * 3, none⟩ = some (encStr x.k) := (hbw.cell (p := ⟨b, off + i * 3, none⟩) hb).trans hcx.1
      have d1 : wr.cell? ⟨b, off + i * 3 + 1, none⟩ = some (encStr x.v) := (hbw.cell (p := ⟨b, off + i * 3 + 1, none⟩) hb).trans hcx.2.1
      have d2 : wr.cell? ⟨b, off + i * 3 + 2, none⟩ = some (.bool x.g) := (hbw.cell (p := ⟨b, off + i * 3 + 2, none⟩) hb).trans hcx.2.2
      have hmlt : mc < wr.heap.size := World.ownsMap.lt hM
      have hkey := key_str (k := x.k) (by unfold maxLen; omega)
      have hown : (wr.alloc (.cells #[encStr x.k, encStr x.v, .bool x.g] 70)).ownsMap Tryz.prog 9 lfR mc M.length (dOf Lf.k Lf.en M) := World.ownsMap.alloc hM _
      have hdl : (delK Lf.k x.k M).length ≤ M.length := List.length_filter_le _ _
      have HD : Hid (∀ w3, w3.ownsMap Tryz.prog 9 lfR mc M.length ((dOf Lf.k Lf.en M).del (.string x.k)) → (wr.alloc (.cells #[encStr x.k, encStr x.v, .bool x.g] 70)).mapTurned w3 mc →
          lfM w3 mc (delK Lf.k x.k M) ∧ Below w.heap.size w w3 ∧ NsAt w3 fa1 f1 ∧ w3.heap[wr.heap.size]? = some (.cells #[encStr x.k, encStr x.v, .bool x.g] 70 (0, 0))) := fun w3 h1 h2 => by
        have hgr := h2.grown
        rw [dOf_del] at h1
        have hb3 : Below w.heap.size w w3 := (hbw.alloc hbw.size _).grown hgr (by have := hbw.size; simp; omega) (fun k e => by cases e; exact hge)
        refine ⟨lfM.of h1, hb3, ?_, ?_⟩
        · refine IsL.keep hf1 fun a e _ => ?_
          have h5 := (hfb1 a e).1
          rw [hb3.block _ h5, hbw.block _ h5]
        · rw [hgr.block _ (by simp) (by simp; omega)]
          exact heap_alloc_new wr _
      have HR : Hid ((if x.g = true then behL (C.drop (i + 1)) f1 (delK Lf.k x.k M) else behL (C.drop (i + 1)) f1.tail (putK Lf.k ⟨x.k, f1.headD 0, x.v⟩ (delK Lf.k x.k M))) = R) := hR
      clear hcz hcx hx hxm hdr hM hf1 hbw hR
      cases hg : x.g with
      | true =>
        rw [hg] at HR HD hown d2 hn1
        have HR1 : Hid (behL (C.drop (i + 1)) f1 (delK Lf.k x.k M) = R) := HR.out
        clear HR
        go_wp2_with (first | (at_delete; refine wpList_delete_own _ rfl _ _ 81 9 rfl 101 strK Tryz.underlying81 _ mc M.length _ rfl hown _ _ rfl hkey ?_; intro w3 hown3 hturn3; have hD := HD.out w3 hown3 hturn3; have e2 := (box3 hD.2.2.2).2.2; clear hown3 hturn3) | fail)
        refine ⟨⟨i + 1, by omega, by go_num, ⟨f1, _, fa1, fc1, HR1.out, hD.1, rfl, hfc1, hD.2.2.1, hfb1, by simpa using hn1, by omega⟩, hD.2.1, hge⟩, by simp [intOf]; omega⟩
      | false =>
        rw [hg] at HR HD hown d2 hn1
        have HR1 : Hid (behL (C.drop (i + 1)) f1.tail (putK Lf.k ⟨x.k, f1.headD 0, x.v⟩ (delK Lf.k x.k M)) = R) := HR.out
        clear HR
        cases f1 with
        | nil => simp at hn1
        | cons f0 fs =>
        simp only [List.headD_cons, List.tail_cons] at HR1
        have hk6 : x.k.length ≤ 100000 := hx6.1
        have hv6 : x.v.length ≤ 100000 := hx6.2
        clear hx6 hg
        generalize x.k = ck at *
        generalize x.v = cv at *
        generalize hM1 : delK Lf.k ck M = M1 at *
        go_upto_region 7 with (first | (at_delete; refine wpList_delete_own _ rfl _ _ 81 9 rfl 101 strK Tryz.underlying81 _ mc M.length _ rfl hown _ _ rfl hkey ?_; intro w3 hown3 hturn3; have hD := HD.out w3 hown3 hturn3; have e2 := (box3 hD.2.2.2).2.2; clear hown3 hturn3) | fail)
        obtain ⟨g, o, rfl, hcg⟩ := hD.2.2.1 (by simp)
        have hg0 : w3.cell? ⟨g, o, none⟩ = some (.int .i64 (f0 : Int)) := by have := hcg 0 (f0 : Int) (by simp); rwa [Nat.add_zero] at this
        have hgl : g < w.heap.size := (hfb1 _ rfl).1
        have lbx : wr.heap.size < w3.heap.size := lt_of_block hD.2.2.2
        have lg3 : g < w3.heap.size := Nat.lt_of_lt_of_le hgl hD.2.1.size
        have hu3 : w3.drew.heap.size = w3.heap.size := rfl
        have HS : Hid (∀ w' : World, (∀ k, k < w3.heap.size → k ≠ mc → w'.heap[k]? = w3.heap[k]?) → w'.cell? ⟨wr.heap.size, 0, none⟩ = some (encStr ck) ∧ w'.cell? ⟨wr.heap.size, 1, none⟩ = some (encStr cv) ∧ w'.cell? ⟨g, o, none⟩ = some (.int .i64 (f0 : Int))) := fun w' hb => by
          have hbx := (hb _ lbx (by omega)).trans hD.2.2.2
          refine ⟨(box3 hbx).1, (box3 hbx).2.1, ?_⟩
          rw [World.cell?_of_block (a := ⟨g, o, none⟩) (hb g lg3 (by omega))]; exact hg0
        have HM : Hid (∀ w', Below w3.drew.heap.size w3.drew w' → lfM w' mc M1 ∧ Below w.heap.size w w') := fun w' hb => by
          have hb' : Below w3.heap.size w3 w' := Below.transS (Below.refl _ _).drew hb
          exact ⟨owns_keepB hD.1 (hb'.block _ (World.ownsMap.lt hD.1)), Below.transS hD.2.1 (hb'.mono (Nat.le_refl _))⟩
        have HNs : Hid (∀ w' : World, (∀ k, k < w3.heap.size → k ≠ mc → w'.heap[k]? = w3.heap[k]?) → NsAt w' (some ⟨g, o + 1, none⟩) fs) := fun w' hb => by
          have h5 := NsAt.tail hD.2.2.1
          refine IsL.keep h5 fun a e _ => ?_
          cases e
          exact hb g lg3 (by omega)
        have HU : Hid (∀ w', Below w3.drew.heap.size w3.drew w' → ∀ k, k < w3.heap.size → w'.heap[k]? = w3.heap[k]?) := fun w' hb k hk => hb.block k hk
        have hml : M1.length < maxLen := by unfold maxLen; omega
        have hkm : ck.length ≤ maxLen := by unfold maxLen; omega
        refine wp_region_noPanic ?_
        refine wp_region_held_drew (S := fun w' => w'.cell? ⟨wr.heap.size, 0, none⟩ = some (encStr ck) ∧ w'.cell? ⟨wr.heap.size, 1, none⟩ = some (encStr cv) ∧ w'.cell? ⟨g, o, none⟩ = some (.int .i64 (f0 : Int))) (by kernel_rfl) (HS.out _ (fun _ _ _ => rfl)) (fun hHeld => ?_)
        clear hD e2 hg0 hcg HD hown d0 d1 d2 hkey HC HO
        generalize w3.drew = u0 at *
        refine wpAnyH_take (i := 0) (oi := { dst := some 27, op := Go.Op.move (Go.Operand.tmp 7), type := 81, pos := "shelf.go:218", after := #[], guard := none }) (v := ?_) rfl (by kernel_rfl) (by kernel_rfl) (by kernel_rfl) (fun _ _ _ h => h) (Or.inl ⟨by rfl, ?_⟩) (by assumption) ?_
        rotate_left
        · intro wz hSw; (try dsimp only at hSw); go_simp; (try with_reducible rfl)
        try simp only [Act.put, List.setIfInBounds_toArray, List.set_cons_zero, List.set_cons_succ]
        refine wpAnyH_take (i := 1) (oi := { dst := some 28, op := Go.Op.fieldAddr 70 (Go.Operand.tmp 9) 0, type := 0, pos := "shelf.go:218", after := #[], guard := none }) (v := ?_) rfl (by kernel_rfl) (by kernel_rfl) (by kernel_rfl) (fun _ _ _ h => h) (Or.inl ⟨by rfl, ?_⟩) (by assumption) ?_
        rotate_left
        · intro wz hSw; (try dsimp only at hSw); go_simp; (try with_reducible rfl)
        try simp only [Act.put, List.setIfInBounds_toArray, List.set_cons_zero, List.set_cons_succ]
        refine wpAnyH_take (i := 2) (oi := { dst := some 29, op := Go.Op.load 9 (Go.Operand.tmp 28), type := 9, pos := "shelf.go:218", after := #[{ on := 1, ground := Go.Ground.data }], guard := none }) (v := encStr ck) rfl (by kernel_rfl) (by kernel_rfl) (by kernel_rfl) (fun _ _ _ h => h) (Or.inl ⟨by rfl, ?_⟩) (by assumption) ?_
        · intro wz hSw; (try dsimp only at hSw); have h1 := hSw.1; go_simp; try rfl
        try simp only [Act.put, List.setIfInBounds_toArray, List.set_cons_zero, List.set_cons_succ]
        refine wpAnyH_take (i := 4) (oi := { dst := some 31, op := Go.Op.move (Go.Operand.tmp 2), type := 63, pos := "shelf.go:218", after := #[], guard := none }) (v := ?_) rfl (by kernel_rfl) (by kernel_rfl) (by kernel_rfl) (fun _ _ _ h => h) (Or.inl ⟨by rfl, ?_⟩) (by assumption) ?_
        rotate_left
        · intro wz hSw; (try dsimp only at hSw); go_simp; (try with_reducible rfl)
        try simp only [Act.put, List.setIfInBounds_toArray, List.set_cons_zero, List.set_cons_succ]
        refine wpAnyH_take (i := 5) (oi := { dst := some 32, op := Go.Op.indexAddr 63 (Go.Operand.tmp 31) (Go.Operand.const (Go.Value.int Go.IntKind.i64 0)), type := 0, pos := "shelf.go:218", after := #[{ on := 4, ground := Go.Ground.data }], guard := none }) (v := ?_) rfl (by kernel_rfl) (by kernel_rfl) (by kernel_rfl) (fun _ _ _ h => h) (Or.inl ⟨by rfl, ?_⟩) (by assumption) ?_
        rotate_left
        · intro wz hSw; (try dsimp only at hSw); go_simp; (try with_reducible rfl)
        try simp only [Act.put, List.setIfInBounds_toArray, List.set_cons_zero, List.set_cons_succ]
        refine wpAnyH_take (i := 6) (oi := { dst := some 33, op := Go.Op.load 3 (Go.Operand.tmp 32), type := 3, pos := "shelf.go:218", after := #[{ on := 5, ground := Go.Ground.data }], guard := none }) (v := .int .i64 (f0 : Int)) rfl (by kernel_rfl) (by kernel_rfl) (by kernel_rfl) (fun _ _ _ h => h) (Or.inl ⟨by rfl, ?_⟩) (by assumption) ?_
        · intro wz hSw; (try dsimp only at hSw); have h1 := hSw.2.2; go_simp; try rfl
        try simp only [Act.put, List.setIfInBounds_toArray, List.set_cons_zero, List.set_cons_succ]
        refine wpAnyH_take (i := 7) (oi := { dst := some 34, op := Go.Op.fieldAddr 70 (Go.Operand.tmp 9) 1, type := 0, pos := "shelf.go:218", after := #[], guard := none }) (v := ?_) rfl (by kernel_rfl) (by kernel_rfl) (by kernel_rfl) (fun _ _ _ h => h) (Or.inl ⟨by rfl, ?_⟩) (by assumption) ?_
        rotate_left
        · intro wz hSw; (try dsimp only at hSw); go_simp; (try with_reducible rfl)
        try simp only [Act.put, List.setIfInBounds_toArray, List.set_cons_zero, List.set_cons_succ]
        refine wpAnyH_take (i := 8) (oi := { dst := some 35, op := Go.Op.load 9 (Go.Operand.tmp 34), type := 9, pos := "shelf.go:218", after := #[{ on := 7, ground := Go.Ground.data }], guard := none }) (v := encStr cv) rfl (by kernel_rfl) (by kernel_rfl) (by kernel_rfl) (fun _ _ _ h => h) (Or.inl ⟨by rfl, ?_⟩) (by assumption) ?_
        · intro wz hSw; (try dsimp only at hSw); have h1 := hSw.2.1; go_simp; try rfl
        try simp only [Act.put, List.setIfInBounds_toArray, List.set_cons_zero, List.set_cons_succ]
        refine wpAnyH_ready (rs := [3]) (by kernel_rfl) (by simp) ?_
        refine (AllReadyH.cons (o := { dst := some 30, op := Go.Op.call { callee := Go.Callee.value (Go.Operand.func 81), args := #[Go.Operand.tmp 29], argTypes := #[9] }, type := 9, pos := "shelf.go:218", after := #[{ on := 2, ground := Go.Ground.data }], guard := none }) rfl (fun K hK => ?_) AllReadyH.nil)
        go_simp
        refine (cloneS_any ck u0 hk6).mono ?_
        rintro e u1 ⟨rfl, hb1⟩
        refine hK.out _ _ (HS.out u1 (fun k hk _ => HU.out u1 hb1 k hk)) (fun _ => ?_)
        clear hK K
        try simp only [Act.put, List.setIfInBounds_toArray, List.set_cons_zero, List.set_cons_succ]
        refine wpAnyH_ready (rs := [9]) (by kernel_rfl) (by simp) ?_
        refine (AllReadyH.cons (o := { dst := some 36, op := Go.Op.call { callee := Go.Callee.value (Go.Operand.func 81), args := #[Go.Operand.tmp 35], argTypes := #[9] }, type := 9, pos := "shelf.go:218", after := #[{ on := 8, ground := Go.Ground.data }, { on := 3, ground := Go.Ground.chain }], guard := none }) rfl (fun K hK => ?_) AllReadyH.nil)
        go_simp
        refine (cloneS_any cv u1 hv6).mono ?_
        rintro e u2 ⟨rfl, hb2'⟩
        have hb2 := Below.transS hb1 hb2'
        refine hK.out _ _ (HS.out u2 (fun k hk _ => HU.out u2 hb2 k hk)) (fun _ => ?_)
        clear hK K
        try simp only [Act.put, List.setIfInBounds_toArray, List.set_cons_zero, List.set_cons_succ]
        refine wpAnyH_take (i := 10) (oi := { dst := some 37, op := Go.Op.build 101 #[(0, Go.Operand.tmp 33), (1, Go.Operand.tmp 36)], type := 101, pos := "shelf.go:218", after := #[{ on := 6, ground := Go.Ground.data }, { on := 9, ground := Go.Ground.data }], guard := none }) (v := .agg #[.int .i64 (f0 : Int), encStr cv]) rfl (by kernel_rfl) (by kernel_rfl) (by kernel_rfl) (fun _ _ _ h => h) (Or.inl ⟨by rfl, ?_⟩) (by assumption) ?_
        · intro wz hSw; (try dsimp only at hSw); kernel_rfl
        try simp only [Act.put, List.setIfInBounds_toArray, List.set_cons_zero, List.set_cons_succ]
        refine wpAnyH_ready (rs := [11]) (by kernel_rfl) (by simp) ?_
        refine (AllReadyH.cons (o := { dst := none, op := Go.Op.mapUpdate 81 (Go.Operand.tmp 27) (Go.Operand.tmp 30) (Go.Operand.tmp 37), type := 0, pos := "shelf.go:218", after := #[{ on := 0, ground := Go.Ground.data }, { on := 3, ground := Go.Ground.data }, { on := 10, ground := Go.Ground.data }, { on := 9, ground := Go.Ground.chain }, { on := 0, ground := Go.Ground.phase }, { on := 1, ground := Go.Ground.phase }, { on := 2, ground := Go.Ground.phase }, { on := 3, ground := Go.Ground.phase }, { on := 4, ground := Go.Ground.phase }, { on := 5, ground := Go.Ground.phase }, { on := 6, ground := Go.Ground.phase }, { on := 7, ground := Go.Ground.phase }, { on := 8, ground := Go.Ground.phase }, { on := 9, ground := Go.Ground.phase }, { on := 10, ground := Go.Ground.phase }], guard := none }) rfl (fun K hK => ?_) AllReadyH.nil)
        refine step_put rfl _ _ _ rfl mc M1.length M1 ck cv f0 rfl rfl rfl (HM.out u2 hb2).1 hml hkm ?_
        intro w5 hm5 hg5
        have hk5 : ∀ k, k < w3.heap.size → k ≠ mc → w5.heap[k]? = w3.heap[k]? := fun k hk hne => by
          have h1 := HU.out u2 hb2 k hk
          have h2 : k < u2.heap.size := by have := hb2.size; omega
          rw [hg5.block k h2 (by simpa using hne)]; exact h1
        have HB5 : Hid (Below w.heap.size w w5) := (HM.out u2 hb2).2.grown hg5 (HM.out u2 hb2).2.size (fun k e => by cases e; exact hge)
        have HN5 : Hid (NsAt w5 (some ⟨g, o + 1, none⟩) fs) := HNs.out w5 hk5
        have HM5 : Hid (lfM w5 mc (putK Lf.k ⟨ck, f0, cv⟩ M1)) := hm5
        have hpl := putK_le Lf.k ⟨ck, f0, cv⟩ M1
        refine hK.out _ _ (HS.out w5 hk5) (fun _ => ?_)
        clear hK K hm5 hg5 hk5 HS HM HNs HU hb1 hb2 hb2'
        try simp only [Act.put]
        refine wpAnyH_done (by kernel_rfl) (NoPanic.normal ?_) _
        try simp only [Act.put, List.setIfInBounds_toArray, List.set_cons_zero, List.set_cons_succ]
        have hle1 : (1 : Int) ≤ (fs.length : Int) + 1 := by omega
        have hle2 : (fs.length : Int) + 1 ≤ fc1 := by simp at hfc1; omega
        go_wp2
        refine ⟨⟨i + 1, by omega, by go_num, ⟨fs, _, _, fc1 - 1, HR1.out, HM5.out, rfl, by simp at hfc1; omega, ?_, ?_, ?_, by omega⟩, HB5.out, hge⟩, by simp [intOf]; omega⟩
        · split
          · rename_i h1
            have : fs = [] := List.eq_nil_of_length_eq_zero (by simp at hfc1; omega)
            subst this
            intro hh; simp at hh
          · exact HN5.out
        · intro a e
          split at e
          · cases e; exact ⟨hgl, o, rfl⟩
          · cases e; exact ⟨hgl, o + 1, rfl⟩
        · simp at hn1 ⊢; omega
    · obtain rfl : i = C.length := by omega
      have hlt' : ¬ ((C.length : Int) < C.length) := by omega
      rw [List.drop_length] at hR
      have HE : Hid (lfM wr mc R ∧ w.heap.size ≤ mc ∧ Below w.heap.size w wr) := ⟨by rw [← hR]; exact hM, hge, hbw⟩
      clear hR hM hf1 hfb1 hn1
      go_wp2
      go_ret
      exact ⟨mc, rfl, by rw [HReq.out]; exact HE.out.1, HE.out.2⟩
end Go.Proofs.YtbfajoeilpkofaaGreatDoor
