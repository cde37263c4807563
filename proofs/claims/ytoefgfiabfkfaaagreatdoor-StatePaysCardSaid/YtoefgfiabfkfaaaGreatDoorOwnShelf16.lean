/- Bytes appended to a slice of one's own: one law for every source. -/
import Derived.Test.YtoefgfiabfkfaaaGreatDoorOwnShelf14
import Derived.Deep.AppendSrc
import Derived.Deep.RegionWith
import Derived.Deep.RegionLaw
import Derived.Deep.DrawnRows
namespace Go.Proofs.YtoefgfiabfkfaaaGreatDoor
open Go.RowKit

/-- A slice of its own that holds bytes. -/
def Fresh (w w' : World) (ad : Option Addr) (cap : Nat) (l : List Int) : Prop :=
 l.length ≤ cap ∧ SlAt w' ad l.length (fn l) ∧ (ad = none → l.length = 0 ∧ cap = 0) ∧ (∀ a, ad = some a → w.heap.size ≤ a.block) ∧ Below w.heap.size w w'
theorem Fresh.nil {w w' : World} (h : Below w.heap.size w w') : Fresh w w' none 0 [] := ⟨Nat.le_refl _, SlAt.zero _ _, (fun _ => ⟨rfl, rfl⟩), (fun _ h => by cases h), h⟩

theorem fn_bd {l : List Int} (h : ∀ x, x ∈ l → 0 ≤ x ∧ x ≤ 255) : ∀ j, j < l.length → 0 ≤ fn l j ∧ fn l j ≤ 255 := fun j hj => by rw [fn_get l j hj]; exact h _ (List.getElem_mem hj)
theorem own_fresh {w w' : World} {ad : Option Addr} {cp : Nat} {l : List Int} (h : w'.ownsRow w.heap.size 5 1 (.slice ad l.length cp) l.length (l.map (Value.int .u8))) (hx : ∀ x, x ∈ l → 0 ≤ x ∧ x ≤ 255) (hb : Below w.heap.size w w') : Fresh w w' ad cp l := by
 rw [map_bl] at h
 obtain ⟨ad', cap', e, h1, h2, h3, h4⟩ := own_SlAt (fn_bd hx) h
 cases e
 exact ⟨h1, h2, h3, h4, hb⟩
theorem own_form {w : World} {B n : Nat} {v : Value} {xs : List Value} (h : w.ownsRow B 5 1 v n xs) : ∃ ad cp, v = .slice ad n cp := by
 rcases h.2 with ⟨rfl, rfl⟩ | ⟨g, cap, cur, rfl, _⟩
 ·exact ⟨none, 0, rfl⟩
 ·exact ⟨_, cap, rfl⟩
/-- What is appended: bytes that lie somewhere, or nothing. -/
def BSrc (w : World) (u : Value) (ys : List Int) : Prop :=
 ∃ ad c, u = .slice ad ys.length c ∧ ((ad = none ∧ ys = []) ∨ ∃ a, ad = some a ∧ ∀ j v, (ys.map (Value.int .u8))[j]? = some v → w.cell? (a.add j) = some v)
/-- A value that owns bytes, made since w0; nothing that was there in w0 has changed. -/
structure Ow (w0 w : World) (v : Value) (L : List Int) : Prop where
 own : w.ownsRow w0.heap.size 5 1 v L.length (L.map (Value.int .u8))
 below : Below w0.heap.size w0 w
 bd : ∀ x, x ∈ L → 0 ≤ x ∧ x ≤ 255

theorem Ow.nil (w : World) : Ow w w (.slice none 0 0) [] := ⟨World.ownsRow_nil _ _ _ _, Below.refl _ _, fun x h => by cases h⟩
theorem Ow.alloc {w0 w : World} {v : Value} {L : List Int} (h : Ow w0 w v L) (o : Obj) : Ow w0 (w.alloc o) v L := ⟨h.own.alloc _, h.below.alloc h.below.size _, h.bd⟩
theorem Ow.drew {w0 w : World} {v : Value} {L : List Int} (h : Ow w0 w v L) : Ow w0 w.drew v L := ⟨h.own.drew, h.below.drew, h.bd⟩
theorem Ow.le {w0 w : World} {v : Value} {L : List Int} (h : Ow w0 w v L) : w0.heap.size ≤ w.heap.size := h.below.size
theorem Ow.mono {w w0 w1 : World} {v : Value} {L : List Int} (h : Ow w0 w1 v L) (hb : Below w.heap.size w w0) : Ow w w1 v L := by
 refine ⟨⟨h.own.1, ?_⟩, hb.trans (h.below.mono hb.size), h.bd⟩
 rcases h.own.2 with hn | ⟨g, cap, cur, e, hbs, rest⟩
 ·exact .inl hn
 ·exact .inr ⟨g, cap, cur, e, Nat.le_trans hb.size hbs, rest⟩
theorem Ow.src {w0 w w' : World} {v : Value} {L : List Int} (h : Ow w0 w v L) (hb : Below w.heap.size w w') : BSrc w' v L := by
 have hown := h.own
 rcases h.own.2 with ⟨rfl, hl⟩ | ⟨g, cap, cur, rfl, hbs, hg, rest⟩
 ·have : L = [] := List.eq_nil_of_length_eq_zero hl
  subst this
  exact ⟨none, 0, rfl, .inl ⟨rfl, rfl⟩⟩
 ·refine ⟨some ⟨g, 0, none⟩, cap, rfl, .inr ⟨_, rfl, fun j u hu => ?_⟩⟩
  have h1 := hown.cells (g := g) rfl j u hu
  rw [Addr.add_lit] at h1 ⊢
  rw [hb.cell (p := ⟨g, 0 + j, none⟩) (World.block_lt_of_cell? w _ h1)]
  exact h1
theorem SlAt.src {w : World} {ad : Option Addr} {l : List Int} {cap : Nat} (h : SlAt w ad l.length (fn l)) (hn : ad = none → l.length = 0 ∧ cap = 0) : BSrc w (.slice ad l.length cap) l := by
 refine ⟨ad, cap, rfl, ?_⟩
 cases ad with
 | none => exact .inl ⟨rfl, List.eq_nil_of_length_eq_zero (hn rfl).1⟩
 | some a =>
  refine .inr ⟨a, rfl, fun j v hv => ?_⟩
  have hj : j < l.length := by simpa using (List.getElem?_eq_some_iff.1 hv).1
  obtain ⟨b, off, e, hc⟩ := h.2 (by omega)
  cases e
  rw [Addr.add_lit, hc j hj, fn_get l j hj]
  simp [hj] at hv
  rw [hv]
theorem one_src (w : World) (x : Int) : BSrc (w.alloc (.cells #[.int .u8 x] 5)) (.slice (some ⟨w.heap.size, 0, none⟩) 1 1) [x] :=
 ⟨_, 1, rfl, .inr ⟨_, rfl, World.news_of_block (cs := #[.int .u8 x]) (t := 5) (fr := (0, 0)) (heap_alloc_new w _)⟩⟩
theorem hash_src {w : World} {g : Nat} {z : Nat → Int} {t : TypeId} {l : List Int} (hl : l.map (Value.int .u8) = bl z 32) (hg : w.heap[g]? = some (.cells (bl z 32).toArray t (0, 0))) : BSrc w (.slice (some ⟨g, 0, none⟩) 32 32) l := by
 have h32 : l.length = 32 := by have := congrArg List.length hl; simpa [bl_length] using this
 refine ⟨_, 32, by rw [h32], .inr ⟨_, rfl, ?_⟩⟩
 rw [hl]
 have := World.news_of_block hg
 simpa using this

theorem run_append_B (w w0 : World) (ty : TypeId) (v u : Value) (L ys : List Int) (hown : Ow w0 w v L) (hu : BSrc w u ys) (hy : ∀ y, y ∈ ys → 0 ≤ y ∧ y ≤ 255) (hlen : L.length + ys.length ≤ 140737488355328) :
  ∃ v' w1, (Builtin.append_ #[31, 31] ty #[v, u]).run Tryz.prog w = .ok v' w1 ∧ Ow w0 w1 v' (L ++ ys) := by
 obtain ⟨i0, hi0, hz0, hz1, hz2⟩ := info_parts Tryz.infoB
 have hbd : ∀ x, x ∈ L ++ ys → 0 ≤ x ∧ x ≤ 255 := fun x hx => by
  rcases List.mem_append.1 hx with h | h
  ·exact hown.bd x h
  ·exact hy x h
 obtain ⟨ad, c, rfl, ⟨rfl, rfl⟩ | ⟨a, rfl, hc⟩⟩ := hu
 ·refine ⟨v, w, ?_, by simpa using hown⟩
  rcases hown.own.2 with ⟨rfl, hl⟩ | ⟨g, cap, cur, rfl, hbs, hg, hcap, _⟩
  ·simp [Builtin.append_, run_underlying Tryz.underlying31, sizeOf, typeInfo, hi0, Builtin.lenOf, Builtin.firstCells]
  ·have := run_append_room_src (P := Tryz.prog) w 31 31 ty 5 i0 Tryz.underlying31 hi0 g 0 L.length cap (.slice none 0 c) 0 [] (Src.ofNil w Tryz.underlying31 c) (by omega) (fun j hj => by simp at hj) (fun j hj => by simp at hj)
   simpa [World.setCells] using this
 ·obtain ⟨v', w1, hr, h2, h3, _, h5⟩ := run_append_own_at (P := Tryz.prog) w w0.heap.size 31 ty 5 i0 (.int .u8 0) 1 1 Tryz.underlying31 hi0 hz0 hz1 hz2 rfl (by decide) v L.length (L.map (Value.int .u8)) hown.own a ys.length c (ys.map (Value.int .u8)) (by simp) hc
   (fun u hu => by obtain ⟨y, _, rfl⟩ := List.mem_map.1 hu; rfl) (by simp only [maxLen]; omega) (by omega) hown.le
  refine ⟨v', w1, hr, ⟨by simpa using h2, hown.below.grown h3 hown.le (fun k hk => ?_), hbd⟩⟩
  rcases hown.own.2 with ⟨rfl, _⟩ | ⟨g, cap, cur, rfl, hbs, _⟩
  ·simp [Value.ownBlock] at hk
  ·have : g = k := by simpa [Value.ownBlock] using hk
   omega

section
variable {ops : Array Oper} {rest : List Oper} {o : Oper} {a : Act} {w : World} {Q : Exit → Act → World → Prop}
/-- 'append(v, u...)' at the list of a plain region's operations. -/
theorem wpList_append_B (hgd : o.guard = none) (s x : Operand) (ho : o.op = .call ⟨.builtin .append, #[s, x], #[31, 31]⟩)
  (w0 : World) (v u : Value) (L ys : List Int) (hs : a.eval s = v) (hx : a.eval x = u) (hown : Ow w0 w v L) (hu : BSrc w u ys) (hy : ∀ y, y ∈ ys → 0 ≤ y ∧ y ≤ 255) (hlen : L.length + ys.length ≤ 140737488355328)
  (h : ∀ v' w1, Ow w0 w1 v' (L ++ ys) → wpList Tryz.prog ops Q rest (a.put o.dst v') w1) : wpList Tryz.prog ops Q (o :: rest) a w := by
 obtain ⟨v', w1, hr, h2⟩ := run_append_B w w0 o.type v u L ys hown hu hy hlen
 refine wpList_plain hgd fun K hK => ?_
 unfold Oper.wp execOp
 simp only [ho, resolve, invoke, builtin, Sem.run_bind, Sem.run_pure, Result.andThen_ok, List.map_toArray, List.map_cons, List.map_nil, hs, hx, hr]
 exact hK _ _ (h v' w1 h2)
end
theorem Ow.form {w0 w : World} {v : Value} {L : List Int} (h : Ow w0 w v L) : ∃ ad cp, v = .slice ad L.length cp := own_form h.own
theorem Ow.fresh {w0 w : World} {ad : Option Addr} {cp : Nat} {L : List Int} (h : Ow w0 w (.slice ad L.length cp) L) : Fresh w0 w ad cp L := own_fresh h.own h.bd h.below

set_option maxHeartbeats 400000 in
theorem refOwn_any (ad : Option Addr) (l : List Int) (cap : Nat) (w : World) (hs : SlAt w ad l.length (fn l)) (hnil : ad = none → l.length = 0 ∧ cap = 0) (hn : l.length ≤ 140737488355328) :
  Calls Tryz.prog 57 #[.slice ad l.length cap] w fun e w' => ∃ v, e = .returned v ∧ Ow w w' v l := by
 have HS : Hid (BSrc w (.slice ad l.length cap) l) := SlAt.src hs hnil
 have HB : Hid (∀ x, x ∈ l → 0 ≤ x ∧ x ≤ 255) := fun x hx => by
  obtain ⟨j, hj, rfl⟩ := List.mem_iff_getElem.1 hx
  have := hs.1 j hj
  rwa [fn_get l j hj] at this
 clear hs hnil
 go_enter Tryz.func57, Tryz.ntmps57
 go_wp2_with (at_builtin; refine wpList_append_B rfl _ _ rfl w _ _ [] l rfl rfl (Ow.nil w) HS.out HB.out (by simpa using hn) ?_; intro v w1 hO)
 go_ret
 exact ⟨v, rfl, by simpa using hO⟩
end Go.Proofs.YtoefgfiabfkfaaaGreatDoor
/- What the document lays: numbers' digits, numbers, ints, bytes, sums. -/
namespace Go.Proofs.YtoefgfiabfkfaaaGreatDoor
open Go.RowKit

/-- The last q digits of a number, the highest first. -/
def lastD (n : Int) (q : Nat) : List Int := (List.range q).map fun j => n / 256 ^ (q - 1 - j) % 256
theorem lastD_length (n : Int) (q : Nat) : (lastD n q).length = q := by simp [lastD]
theorem lastD_succ (n : Int) (q : Nat) : lastD n (q + 1) = (n / 256 ^ q % 256) :: lastD n q := by
 unfold lastD
 rw [List.range_succ_eq_map, List.map_cons, List.map_map]
 congr 1
 apply List.map_congr_left
 intro j hj
 have : j < q := by simpa using hj
 show n / 256 ^ (q + 1 - 1 - (j + 1)) % 256 = _
 rw [show q + 1 - 1 - (j + 1) = q - 1 - j from by omega]
theorem lastD_bd (n : Int) (q : Nat) : ∀ x, x ∈ lastD n q → 0 ≤ x ∧ x ≤ 255 := by
 intro x hx
 simp only [lastD, List.mem_map] at hx
 obtain ⟨j, _, rfl⟩ := hx
 omega
theorem lastD_dgs (n : Int) : lastD n (sz n) = dgs false n (sz n) (sz n) := by
 unfold lastD dgs
 apply List.map_congr_left
 intro j _
 simp [dgt, trn]
theorem sz_is (n : Int) (q : Nat) (h0 : 0 ≤ n) (h8 : q ≤ 8) (hz : n / 256 ^ q = 0) (hp : q = 0 ∨ 0 < n / 256 ^ (q - 1)) : sz n = q := by
 have hc : q = 0 ∨ q = 1 ∨ q = 2 ∨ q = 3 ∨ q = 4 ∨ q = 5 ∨ q = 6 ∨ q = 7 ∨ q = 8 := by omega
 rcases hc with h | h | h | h | h | h | h | h | h <;> subst h <;> simp only [Nat.reduceSub, Int.reducePow, Nat.reduceEqDiff, false_or, true_or] at hz hp <;> unfold sz <;> repeat' split
 all_goals omega
theorem div_step (n : Int) (q : Nat) : n / 256 ^ q / 256 = n / 256 ^ (q + 1) := by
 rw [Int.pow_succ, Int.ediv_ediv_of_nonneg (Int.le_of_lt (Int.pow_pos (by decide)))]
theorem div_bd (n : Int) (q : Nat) (h0 : 0 ≤ n) (h1 : n ≤ 18446744073709551615) : 0 ≤ n / 256 ^ q ∧ n / 256 ^ q ≤ 18446744073709551615 := by
 have hp : (0 : Int) < 256 ^ q := Int.pow_pos (by decide)
 refine ⟨Int.ediv_nonneg h0 (Int.le_of_lt hp), ?_⟩
 exact Int.le_trans (Int.ediv_le_self _ h0) h1
theorem div_8 (n : Int) (q : Nat) (h0 : 0 ≤ n) (h1 : n ≤ 18446744073709551615) (hq : q ≤ 8) (hp : 0 < n / 256 ^ q) : q < 8 := by
 rcases Nat.lt_or_ge q 8 with h | h
 ·exact h
 ·have : q = 8 := by omega
  subst this
  simp only [Int.reducePow] at hp
  omega

set_option maxRecDepth 100000 in
set_option maxHeartbeats 1600000 in
theorem refDigits_own (n : Int) (w : World) (h0 : 0 ≤ n) (h1 : n ≤ 18446744073709551615) :
  Calls Tryz.prog 56 #[.int .u64 n] w fun e w' => ∃ v, e = .returned v ∧ Ow w w' v (dgs false n (sz n) (sz n)) := by
 have H0 : Hid (0 ≤ n ∧ n ≤ 18446744073709551615) := ⟨h0, h1⟩
 clear h0 h1
 go_enter Tryz.func56, Tryz.ntmps56
 go_wp2
 go_loopw [0, 3] (fun nv v wr => ∃ (q : Nat) (vo : Value), q ≤ 8 ∧ (q = 0 ∨ 0 < n / 256 ^ (q - 1)) ∧ nv = .int .u64 (n / 256 ^ q) ∧ v = vo ∧ Ow w wr vo (lastD n q)) (fun nv _ _ => (intOf nv).toNat)
 case atStart => exact ⟨0, _, by omega, .inl rfl, by simp, rfl, Ow.nil w⟩
 case round =>
  obtain ⟨q, vo, hq, hp, rfl, hv, hO⟩ := hrel
  have hv' := hv.symm
  subst hv'
  clear hv
  have hb := div_bd n q H0.out.1 H0.out.2
  have hst := div_step n q
  have HP8 := fun h => div_8 n q H0.out.1 H0.out.2 hq h
  generalize hm : n / 256 ^ q = m at *
  have HM : Hid (n / 256 ^ q = m) := hm
  have HP : Hid (q = 0 ∨ 0 < n / 256 ^ (q - 1)) := hp
  have HST : Hid (m / 256 = n / 256 ^ (q + 1)) := hst
  have HO : Hid (Ow w wr vo (lastD n q)) := hO
  have hlen := lastD_length n q
  clear hm hp hst hO
  by_cases hpos : 0 < m
  ·have hq8 := HP8 hpos
   have hg : decide (m > 0) = true := by simpa using hpos
   have hr : m.tmod 256 = m % 256 := Int.tmod_eq_emod_of_nonneg hb.1
   have hd : m.tdiv 256 = m / 256 := Int.tdiv_eq_ediv_of_nonneg hb.1
   clear HP8
   go_wp2_with (first
    | (at_builtin; refine wpList_append_B rfl (.tmp 7) (.tmp 11) rfl wr _ _ [] [m % 256] rfl rfl ((Ow.nil wr).alloc _) (one_src wr _) (by intro y hy; rw [List.mem_singleton.1 hy]; omega) (by simp) ?_; intro v1 w1 hO1)
    | (at_builtin; refine wpList_append_B rfl (.tmp 12) (.tmp 13) rfl wr _ _ _ (lastD n q) rfl rfl hO1 (HO.out.src hO1.below) (lastD_bd n q) (by rw [hlen]; simp; omega) ?_; intro v2 w2 hO2)
    | fail)
   go_roundw
   case rel =>
    refine ⟨q + 1, _, by omega, .inr (by rw [Nat.add_sub_cancel, HM.out]; exact hpos), by rw [← HST.out], rfl, ?_⟩
    rw [lastD_succ, HM.out]
    exact hO2.mono HO.out.below
   case measure => simp [intOf]; omega
  ·have hg : decide (m > 0) = false := by simpa using hpos
   have hm0 : n / 256 ^ q = 0 := by rw [HM.out]; omega
   have HSZ : Hid (sz n = q) := sz_is n q H0.out.1 hq hm0 HP.out
   clear hm0
   go_wp2
   go_ret
   refine ⟨vo, rfl, ?_⟩
   rw [← lastD_dgs, HSZ.out]
   exact HO.out
theorem refDigits_any (n : Int) (w : World) (h0 : 0 ≤ n) (h1 : n ≤ 18446744073709551615) :
  Calls Tryz.prog 56 #[.int .u64 n] w fun e w' => ∃ da dc, e = .returned (.slice da (sz n) dc) ∧ Ow w w' (.slice da (sz n) dc) (dgs false n (sz n) (sz n)) := by
 refine (refDigits_own n w h0 h1).mono fun e w' ⟨v, h, hO⟩ => ?_
 obtain ⟨da, dc, e1⟩ := hO.form
 rw [dgs_length] at e1
 subst e1
 exact ⟨da, dc, h, hO⟩
theorem dgs_bd (t : Bool) (n : Int) (k q : Nat) : ∀ x, x ∈ dgs t n k q → 0 ≤ x ∧ x ≤ 255 := by
 intro x hx
 simp only [dgs, List.mem_map] at hx
 obtain ⟨j, _, rfl⟩ := hx
 exact dgt_bd t n k j
theorem SlAt.below {w w' : World} {ad : Option Addr} {n : Nat} {z : Nat → Int} (h : SlAt w ad n z) (hb : Below w.heap.size w w') : SlAt w' ad n z := h.frm (S := []) (Frm.ofBelow hb) (by simp)

set_option maxRecDepth 100000 in
set_option maxHeartbeats 1600000 in
theorem refUint_any (ad : Option Addr) (l : List Int) (cap : Nat) (n : Int) (w : World) (hs : SlAt w ad l.length (fn l)) (hnil : ad = none → l.length = 0 ∧ cap = 0) (hn : l.length + 64 ≤ 140737488351232) (h0 : 0 ≤ n) (h1 : n ≤ 18446744073709551615) :
  Calls Tryz.prog 36 #[.slice ad l.length cap, .int .u64 n] w fun e w' => ∃ v, e = .returned v ∧ Ow w w' v (l ++ uB n) := by
 have HS : Hid (SlAt w ad l.length (fn l)) := hs
 have HU : Hid (uB n = (sz n : Int) :: dgs false n (sz n) (sz n)) := rfl
 have hlen := dgs_length false n (sz n) (sz n)
 have hk := sz_le n
 clear hs
 go_enter Tryz.func36, Tryz.ntmps36
 go_wp2_with (first
  | (go_at_call 56; refine (refDigits_any n _ h0 h1).mono ?_; rintro e w1 ⟨da, dc, rfl, hD⟩)
  | (go_at_call 57; refine (refOwn_any ad l cap _ (HS.out.below hD.below) hnil (by omega)).mono ?_; rintro e w2 ⟨vo, rfl, hO⟩)
  | (at_builtin; refine wpList_append_B rfl (.tmp 9) (.tmp 13) rfl w1 _ _ l [(sz n : Int)] rfl rfl (hO.alloc _) (one_src w2 _) (by intro y hy; rw [List.mem_singleton.1 hy]; omega) (by simp; omega) ?_; intro v1 w3 hO1)
  | (at_builtin; refine wpList_append_B rfl (.tmp 14) (.tmp 15) rfl w1 _ _ _ (dgs false n (sz n) (sz n)) rfl rfl hO1 (hD.src hO1.below) (dgs_bd _ _ _ _) (by rw [hlen]; simp; omega) ?_; intro v2 w4 hO2)
  | fail)
 go_ret
 refine ⟨v2, rfl, ?_⟩
 rw [HU.out]
 simpa using hO2.mono hD.below

end Go.Proofs.YtoefgfiabfkfaaaGreatDoor
/- The document's Hash. -/
namespace Go.Proofs.YtoefgfiabfkfaaaGreatDoor
open Go.RowKit
attribute [local go_sem ↓] Go.wp_at_zero Go.wp_at_succ
theorem step_append_B {ops : Array Oper} {o : Oper} {a : Act} {w : World} {K : Act → World → Prop} {Q : Exit → Act → World → Prop} {E : Prop} (hgd : o.guard = none) (s x : Operand) (ho : o.op = .call ⟨.builtin .append, #[s, x], #[31, 31]⟩)
  (w0 : World) (v u : Value) (L ys : List Int) (hs : a.eval s = v) (hx : a.eval x = u) (hown : Ow w0 w v L) (hu : BSrc w u ys) (hy : ∀ y, y ∈ ys → 0 ≤ y ∧ y ≤ 255) (hlen : L.length + ys.length ≤ 140737488355328)
  (h : ∀ v' w1, Ow w0 w1 v' (L ++ ys) → K (a.put o.dst v') w1) : if Region.wanted o (yielded ops a.tmps) = true then Oper.wp Tryz.prog o a w K Q else E := by
 have hw : Region.wanted o (yielded ops a.tmps) = true := by simp [Region.wanted, hgd]
 rw [if_pos hw]
 obtain ⟨v', w1, hr, h2⟩ := run_append_B w w0 o.type v u L ys hown hu hy hlen
 unfold Oper.wp execOp
 simp only [ho, resolve, invoke, builtin, Sem.run_bind, Sem.run_pure, Result.andThen_ok, List.map_toArray, List.map_cons, List.map_nil, hs, hx, hr]
 exact h v' w1 h2
theorem Ow.old {w0 w : World} {v : Value} {L : List Int} (h : Ow w0 w v L) {k : Nat} {ob : Obj} (hk : w0.heap[k]? = some ob) : w.heap[k]? = some ob := by
 rw [h.below.block k (lt_of_block hk)]; exact hk
set_option maxRecDepth 100000 in
set_option maxHeartbeats 1600000 in
theorem refHash_any (ad : Option Addr) (l : List Int) (cap : Nat) (z : Nat → Int) (w : World) (hs : SlAt w ad l.length (fn l)) (hnil : ad = none → l.length = 0 ∧ cap = 0) (hn : l.length + 64 ≤ 140737488351232) (hz : ∀ j, j < 32 → 0 ≤ z j ∧ z j ≤ 255) :
  Calls Tryz.prog 37 #[.slice ad l.length cap, .agg (hv z)] w fun e w' => ∃ v, e = .returned v ∧ Ow w w' v (l ++ hB z) := by
 have HS : Hid (SlAt w ad l.length (fn l)) := hs
 have HN : Hid ((w.alloc (.cells (hv z) 28)).heap[w.heap.size]? = some (.cells (hv z) 28 (0, 0))) := heap_alloc_new w (.cells (hv z) 28)
 have HZ : Hid (∀ y, y ∈ hB z → 0 ≤ y ∧ y ≤ 255) := by
  intro y hy
  simp [hB] at hy
  obtain ⟨j, hj, rfl⟩ := hy
  exact hz j hj
 have hbl : Below w.heap.size w (w.alloc (.cells (hv z) 28)) := (Below.refl _ w).alloc (Nat.le_refl _) _
 clear hs hz
 go_enter Tryz.func37, Tryz.ntmps37
 go_wp2_with (first | (refine Go.Great.wpList_boxTo rfl _ _ rfl _ rfl _ rfl (hv z) rfl ?_) | fail)
 go_region_law (first
  | (refine step_append_B rfl (.tmp 6) (.tmp 7) rfl (w.alloc (.cells (hv z) 28)).drew _ _ l (hB z) (by rfl) (by rfl) hO (hash_src (hB_bl z) (hO.old HN.out)) HZ.out (by rw [hB_length]; omega) ?_; intro v2 w3 hO2)
  | (go_simp; go_at_call 57; refine (refOwn_any ad l cap _ ((HS.out.below hbl).below (Below.refl _ _).drew) hnil (by omega)).mono ?_; rintro e w2 ⟨vo, rfl, hO⟩))
 all_goals
  have hR := (hO2.mono (Below.refl _ _).drew).mono hbl
  clear hO hO2
  go_wp2
  go_ret
  exact ⟨v2, rfl, hR⟩
end Go.Proofs.YtoefgfiabfkfaaaGreatDoor
