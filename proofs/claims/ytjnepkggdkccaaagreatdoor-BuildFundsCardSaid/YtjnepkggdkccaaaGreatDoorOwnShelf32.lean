/- The document's Bytes, behind bytes of one's own. -/
import Derived.Test.YtjnepkggdkccaaaGreatDoorOwnShelf29
import Derived.Test.YtjnepkggdkccaaaGreatDoorOwnShelf31
import Derived.Test.YtjnepkggdkccaaaGreatDoorOwnShelf16
import Derived.Test.YtjnepkggdkccaaaGreatDoorOwnShelf19
import Derived.Test.YtjnepkggdkccaaaGreatDoorOwnShelf11
import Derived.Test.YtjnepkggdkccaaaGreatDoorOwnShelf15
import Derived.Test.YtjnepkggdkccaaaGreatDoorOwnShelf01
namespace Go.Proofs.YtjnepkggdkccaaaGreatDoor
open Go.RowKit

theorem src_new {w : World} {g : Nat} {l : List Int} {c : Nat} {t : TypeId} {fr : Nat × Nat} (h : w.heap[g]? = some (.cells (l.map (Value.int .u8)).toArray t fr)) : BSrc w (.slice (some ⟨g, 0, none⟩) l.length c) l := by
 refine ⟨_, c, rfl, .inr ⟨_, rfl, ?_⟩⟩
 have := World.news_of_block h
 simpa using this
theorem src_one (w : World) (x : Int) : BSrc (w.alloc (.cells #[.int .u8 x] 5)) (.slice (some ⟨w.heap.size, 0, none⟩) 1 1) [x] := src_new (l := [x]) (heap_alloc_new w _)
theorem src_two (w : World) (x y : Int) : BSrc (w.alloc (.cells #[.int .u8 x, .int .u8 y] 5)) (.slice (some ⟨w.heap.size, 0, none⟩) 2 2) [x, y] := src_new (l := [x, y]) (heap_alloc_new w _)
set_option maxRecDepth 100000 in
set_option maxHeartbeats 1600000 in
theorem refBytes_ow (W0 w : World) (v : Value) (L : List Int) (ad : Option Addr) (n cap : Nat) (z : Nat → Int) (h : Ow W0 w v L) (hs : SlAt w ad n z) (hl : L.length + 2 * n + 64 ≤ 140737488351232) :
  Calls Tryz.prog 101 #[v, .slice ad n cap] w fun e w' => ∃ v', e = .returned v' ∧ Ow W0 w' v' (L ++ (escF z n ++ [0, 0])) ∧ Below w.heap.size w w' := by
 obtain ⟨a0, c0, rfl⟩ := h.form
 obtain ⟨_, hs0, hn0, _, _⟩ := h.fresh
 have hcall := refOwn_any a0 L c0 w hs0 hn0 (by omega)
 have HS : Hid (SlAt w ad n z) := hs
 have HW : Hid (Below W0.heap.size W0 w) := h.below
 clear hs0 hn0 hs h
 go_enter Tryz.func101, Tryz.ntmps101
 go_wp2_with (go_at_call 111; refine hcall.mono ?_; rintro e w1 ⟨vo, rfl, hO⟩)
 clear hcall
 have hO1 : Ow w w1 vo (L ++ escF z 0) := by simpa [escF] using hO
 go_loopw [5, 6] (fun ov iv wr => ∃ (q : Nat) (x : Value), q ≤ n ∧ x = ov ∧ iv = .int .i64 q ∧ Ow w wr x (L ++ escF z q)) (fun _ iv _ => n + 1 - (intOf iv).toNat)
 case atStart => exact ⟨0, _, by omega, rfl, rfl, hO1⟩
 case round =>
  clear hO hO1
  obtain ⟨q, x, hq, rfl, rfl, hO⟩ := hrel
  have HO : Hid (Ow w wr x (L ++ escF z q)) := hO
  clear hO
  have hle := escF_le z q
  have hll : (L ++ escF z q).length + 2 * (n - q) + 64 ≤ 140737488351232 := by rw [List.length_append]; omega
  by_cases hlt : q < n
  ·have hlt' : (q : Int) < n := by omega
   obtain ⟨b, off, rfl, hcz⟩ := HS.out.2 (by omega)
   have hzq := HS.out.1 q hlt
   have HC : Hid (∀ w', Below w.heap.size w w' → w'.cell? ⟨b, off + q, none⟩ = some (.int .u8 (z q))) := fun w' hb => by
    rw [hb.cell (p := ⟨b, off + q, none⟩) (HS.out.lt (by omega) rfl)]
    exact hcz q hlt
   have hc0 := HC.out wr HO.out.below
   have HE : Hid (L ++ escF z (q + 1) = (L ++ escF z q) ++ esc (z q)) := by show _ = _; rw [escF, List.append_assoc]
   obtain ⟨M, hM⟩ : ∃ M, L ++ escF z q = M := ⟨_, rfl⟩
   rw [hM] at HO HE hll
   clear hcz hM hle
   by_cases h0 : z q = 0
   ·have h0' : (z q == 0) = true := by simp [h0]
    have HN : Hid (L ++ escF z (q + 1) = (M ++ [z q]) ++ [255]) := by show _ = _; rw [HE.out, esc, if_pos h0, h0]; simp
    clear h0 HE
    go_wp2_with (first | (at_builtin; refine wpList_append_B rfl (.tmp 15) (.tmp 20) rfl w _ _ M [z q] rfl rfl (HO.out.alloc _) (src_one wr (z q)) (by intro y hy; rw [List.mem_singleton.1 hy]; exact hzq) (by simp; omega) ?_; intro v1 w1 hO1; have hc1 := HC.out w1 hO1.below) | (at_builtin; refine wpList_append_B rfl (.tmp 27) (.tmp 28) rfl w _ _ (M ++ [z q]) [255] rfl rfl (hO1.alloc _) (src_one w1 255) (by intro y hy; rw [List.mem_singleton.1 hy]; omega) (by simp; omega) ?_; intro v2 w2 hO2))
    have HR : Hid (Ow w w2 v2 (L ++ escF z (q + 1))) := by show Ow _ _ _ _; rw [HN.out]; exact hO2
    go_roundw
    case rel => exact ⟨q + 1, v2, by omega, rfl, by go_num, HR.out⟩
    case measure => simp [intOf]; omega
   ·have h0' : (z q == 0) = false := by simp [h0]
    have HN : Hid (L ++ escF z (q + 1) = M ++ [z q]) := by show _ = _; rw [HE.out, esc, if_neg h0]
    clear h0 HE
    go_wp2_with (at_builtin; refine wpList_append_B rfl (.tmp 15) (.tmp 20) rfl w _ _ M [z q] rfl rfl (HO.out.alloc _) (src_one wr (z q)) (by intro y hy; rw [List.mem_singleton.1 hy]; exact hzq) (by simp; omega) ?_; intro v1 w1 hO1; have hc1 := HC.out w1 hO1.below)
    have HR : Hid (Ow w w1 v1 (L ++ escF z (q + 1))) := by show Ow _ _ _ _; rw [HN.out]; exact hO1
    go_roundw
    case rel => exact ⟨q + 1, v1, by omega, rfl, by go_num, HR.out⟩
    case measure => simp [intOf]; omega
  ·obtain rfl : q = n := by omega
   have hnn : ¬ ((q : Int) < q) := by omega
   go_wp2_with (at_builtin; refine wpList_append_B rfl _ _ rfl w _ _ (L ++ escF z q) [0, 0] rfl rfl (HO.out.alloc _) (src_two wr 0 0) (by intro y hy; simp at hy; omega) (by simp only [List.length_cons, List.length_nil]; omega) ?_; intro v1 w1 hO1)
   have HR : Hid (Ow W0 w1 v1 (L ++ (escF z q ++ [0, 0])) ∧ Below w.heap.size w w1) := ⟨by rw [← List.append_assoc]; exact hO1.mono HW.out, hO1.below⟩
   go_ret
   exact ⟨_, rfl, HR.out⟩
end Go.Proofs.YtjnepkggdkccaaaGreatDoor
/- tx.number and tx.layOut: a number, and an output, as bytes. -/
namespace Go.Proofs.YtjnepkggdkccaaaGreatDoor
open Go.RowKit

set_option maxHeartbeats 800000 in
theorem number_any (p B : Nat) (g : Option Nat) (l : List Int) (x : Int) (w : World) (hw : WrAt w B p g l) (hl : l.length + 16 ≤ 140737488355328) :
  Calls Tryz.prog 94 #[.pointer (some ⟨p, 0, none⟩), .int .i64 x] w fun e w' => e = .returned (.tuple #[]) ∧ WrGrown w w' B p g (l ++ uB (Cd.u64 x)) := by
 have hc := wrUint_any p B g l (Cd.u64 x) w hw hl (Cd.u64_bd x)
 unfold Cd.u64 at hc
 go_enter Tryz.func94, Tryz.ntmps94
 go_wp2_with fail
 refine hc.mono ?_
 rintro e w1 ⟨rfl, hW⟩
 clear hc hw
 have HW : Hid (WrGrown w w1 B p g (l ++ uB (Cd.u64 x))) := hW
 clear hW
 go_wp2
 go_end0
 exact ⟨rfl, HW.out⟩
end Go.Proofs.YtjnepkggdkccaaaGreatDoor
/- tx.layOut: an output as bytes. -/
namespace Go.Proofs.YtjnepkggdkccaaaGreatDoor
open Go.RowKit

/-- An output as it is laid. -/
def laidO (x : To) : List Int := uB (Cd.u64 x.am) ++ Cd.laidC x.X x.cn
theorem WrGrown.belowN {w w' : World} {p : Nat} {l : List Int} (h : WrGrown w w' p p none l) (hp : p + 1 = w.heap.size) : Below p w w' ∧ ∃ g, WrAt w' p p g l := by
 obtain ⟨g', hA', hF, _⟩ := h
 exact ⟨hF.below (by omega) (fun k hk => by simp at hk; omega), g', hA'⟩
set_option maxRecDepth 100000 in
set_option maxHeartbeats 3200000 in
theorem layOut_any (x : To) (ca : Option Addr) (cc : Nat) (w : World) (h : Cd.BrAt w ca x.cn x.X) (hn : x.cn ≤ 1000) (hx : ∀ i, i < x.cn → (x.X i).n ≤ 1000000) :
  Calls Tryz.prog 98 #[.agg (tov x ca cc)] w fun e w' => ∃ v, e = .returned v ∧ Ow w w' v (laidO x) := by
 have hb0 : Below w.heap.size w (w.alloc (.cells (tov x ca cc) 95)) := (Below.refl _ w).alloc (Nat.le_refl _) _
 have hr0 := heap_alloc_new w (.cells (tov x ca cc) 95)
 have HH : Hid (Cd.BrAt w ca x.cn x.X ∧ x.cn ≤ 1000 ∧ ∀ i, i < x.cn → (x.X i).n ≤ 1000000) := ⟨h, hn, hx⟩
 clear h hn hx
 unfold tov at *
 go_enter Tryz.func98, Tryz.ntmps98
 go_wp2_with fail
 generalize w.alloc (.cells #[.int .i64 x.am, .slice ca x.cn cc] 95) = W0 at *
 have HC : Hid (∀ w', Below W0.heap.size W0 w' → w'.cell? ⟨w.heap.size, 0, none⟩ = some (.int .i64 x.am) ∧ w'.cell? ⟨w.heap.size, 1, none⟩ = some (.slice ca x.cn cc)) := fun w' hb => by
  have := hb.block _ (lt_of_block hr0)
  rw [hr0] at this
  exact ⟨by rw [cell_of_row _ _ 0 _ _ _ this]; rfl, by rw [cell_of_row _ _ 1 _ _ _ this]; rfl⟩
 have HB0 : Hid (Below w.heap.size w W0) := hb0
 clear hr0 hb0
 refine (new_any W0).mono ?_
 rintro e w1 ⟨rfl, hw1⟩
 have hW1 : WrAt w1 W0.heap.size W0.heap.size none [] := by rw [hw1]; exact new_wr W0
 have hb1 : Below W0.heap.size W0 w1 := by rw [hw1]; exact (Below.refl _ _).alloc (Nat.le_refl _) _
 have hs1 : W0.heap.size + 1 = w1.heap.size := by rw [hw1]; simp
 have HB1 : Hid (Below W0.heap.size W0 w1) := hb1
 obtain ⟨c0, c1⟩ := HC.out w1 hb1
 clear hw1 hb1
 have hcall := number_any _ _ none [] x.am w1 hW1 (by simp)
 go_wp2_with fail
 refine hcall.mono ?_
 rintro e w2 ⟨rfl, hW2⟩
 rw [List.nil_append] at hW2
 obtain ⟨hb2, g, hA2⟩ := hW2.belowN hs1
 have HB2 : Hid (Below W0.heap.size W0 w2) := HB1.out.trans hb2
 have HW2 : Hid (WrAt w2 W0.heap.size W0.heap.size g (uB (Cd.u64 x.am))) := hA2
 clear hcall hW1 hW2 hb2 hA2 c0 c1 HB1 hs1
 have hle := Cd.uB_len (Cd.u64 x.am)
 obtain ⟨L, hL⟩ : ∃ L, uB (Cd.u64 x.am) = L := ⟨_, rfl⟩
 have HL : Hid (laidO x = L ++ Cd.laidC x.X x.cn) := by show _ = _; rw [← hL]; exact rfl
 rw [hL] at HW2 hle
 clear hL
 go_upto_region 3 with fail
 refine wp_region_noPanic ?_
 refine wp_region_held_drew (S := fun w' => w'.cell? ⟨w.heap.size, 1, none⟩ = some (.slice ca x.cn cc)) (by kernel_rfl) (HC.out w2.drew HB2.out.drew).2 (fun hHeld => ?_)
 have HB3 : Hid (Below W0.heap.size W0 w2.drew ∧ WrAt w2.drew W0.heap.size W0.heap.size g L) := ⟨HB2.out.drew, HW2.out.keep (Below.refl _ _).drew⟩
 generalize w2.drew = w3 at *
 refine wpT (i := 0) (oi := ⟨some 9, .move (.tmp 3), 196, _, _, none⟩) (v := ?_) rfl (by kernel_rfl) (fun _ _ _ h => h) (Or.inl ⟨by rfl, ?_⟩) (by assumption) ?_
 rotate_left
 ·intro wz hSw; (try dsimp only at hSw); go_simp; (try with_reducible rfl)
 try simp only [Act.put, zA, zB, zC]
 refine wpT (i := 2) (oi := ⟨some 11, .fieldAddr 95 (.tmp 1) 1, 0, _, _, none⟩) (v := ?_) rfl (by kernel_rfl) (fun _ _ _ h => h) (Or.inl ⟨by rfl, ?_⟩) (by assumption) ?_
 rotate_left
 ·intro wz hSw; (try dsimp only at hSw); go_simp; (try with_reducible rfl)
 try simp only [Act.put, zA, zB, zC]
 refine wpT (i := 3) (oi := ⟨some 12, .load 93 (.tmp 11), 93, _, _, none⟩) (v := ?_) rfl (by kernel_rfl) (fun _ _ _ h => h) (Or.inl ⟨by rfl, ?_⟩) (by assumption) ?_
 rotate_left
 ·intro wz hSw; (try dsimp only at hSw); go_simp; (try with_reducible rfl)
 try simp only [Act.put, zA, zB, zC]
 refine wpAnyH_ready (rs := [1]) (by kernel_rfl) (by simp) ?_
 refine (AllReadyH.cons (o := ⟨some 10, .call { callee := Go.Callee.value (.func 97), args := #[.tmp 9], argTypes := #[196] }, 33, _, _, none⟩) rfl (fun K hK => ?_) AllReadyH.nil)
 go_simp
 refine (wrDone_any _ _ g L w3 HB3.out.2 (by omega)).mono ?_
 rintro e w4 ⟨ad, cap, rfl, hcap, hs4, hn4, -, hb4⟩
 have HB4 : Hid (Below W0.heap.size W0 w4) := HB3.out.1.trans (hb4.mono HB3.out.1.size)
 have HS4 : Hid (SlAt w4 ad L.length (fn L) ∧ (ad = none → L.length = 0 ∧ cap = 0)) := ⟨hs4, hn4⟩
 clear hs4 hn4 hb4 hcap
 refine hK.out _ _ (HC.out w4 HB4.out).2 (fun _ => ?_)
 clear hK K
 try simp only [Act.put, zA, zB, zC]
 refine wpAnyH_ready (rs := [4]) (by kernel_rfl) (by simp) ?_
 refine (AllReadyH.cons (o := ⟨some 13, .call { callee := Go.Callee.value (.func 109), args := #[.tmp 10, .tmp 12], argTypes := #[33, 93] }, 33, _, _, none⟩) rfl (fun K hK => ?_) AllReadyH.nil)
 go_simp
 refine (Cd.put_any ad L cap ca x.cn cc x.X w4 HS4.out.1 HS4.out.2 ((HH.out.1.below HB0.out).below HB4.out) HH.out.2.1 HH.out.2.2 (by omega)).mono ?_
 rintro e w5 ⟨v, rfl, hO⟩
 have HO : Hid (Ow w w5 v (laidO x) ∧ Below W0.heap.size W0 w5) := ⟨by rw [HL.out]; exact hO.mono (HB0.out.trans (HB4.out.mono HB0.out.size)), HB4.out.trans (hO.below.mono HB4.out.size)⟩
 clear hO
 refine hK.out _ _ (HC.out w5 HO.out.2).2 (fun _ => ?_)
 clear hK K
 try simp only [Act.put, zA, zB, zC]
 refine wpT (i := 5) (oi := ⟨some 2, .assign (.tmp 13), 33, _, _, none⟩) (v := ?_) rfl (by kernel_rfl) (fun _ _ _ h => h) (Or.inl ⟨by rfl, ?_⟩) (by assumption) ?_
 rotate_left
 ·intro wz hSw; (try dsimp only at hSw); go_simp; (try with_reducible rfl)
 try simp only [Act.put, zA, zB, zC]
 refine wpAnyH_done (by kernel_rfl) (NoPanic.normal ?_) _
 try simp only [Act.put, zA, zB, zC]
 clear hHeld
 go_wp2
 go_ret
 exact ⟨_, rfl, HO.out.1⟩
end Go.Proofs.YtjnepkggdkccaaaGreatDoor
/- The writer's Done, as a row of its own. -/
namespace Go.Proofs.YtjnepkggdkccaaaGreatDoor
open Go.RowKit

theorem clone_own (ad : Option Addr) (l : List Int) (cap : Nat) (w : World) (hs : SlAt w ad l.length (fn l)) (hnil : ad = none → l.length = 0 ∧ cap = 0) (hn : l.length ≤ 140737488351232) :
  Calls Tryz.prog 52 #[.slice ad l.length cap] w fun e w' => ∃ v, e = .returned v ∧ Ow w w' v l := by
 cases ad with
 | none =>
  obtain ⟨h0, rfl⟩ := hnil rfl
  obtain rfl := List.length_eq_zero_iff.1 h0
  refine (clone_nil w).mono ?_
  rintro e w' ⟨rfl, rfl⟩
  exact ⟨_, rfl, Ow.nil _⟩
 | some a =>
  refine (clone_some a l.length cap (fn l) w ?_ hn ?_).mono ?_
  ·intro j u h
   have hj := (bl_get h).1
   obtain ⟨b, off, e, hc⟩ := hs.2 (by omega)
   cases e
   exact bl_cells hc j u h
  ·intro h0
   obtain ⟨b, off, e, hc⟩ := hs.2 h0
   cases e
   exact World.block_lt_of_cell? w ⟨b, off + 0, none⟩ (hc 0 h0)
  ·rintro e w' ⟨v, rfl, hown, hbel⟩
   exact ⟨v, rfl, ⟨by rw [map_bl]; exact hown, hbel, Cd.bd_of hs⟩⟩
set_option maxHeartbeats 400000 in
theorem wrDoneO_any (p B : Nat) (g : Option Nat) (l : List Int) (w : World) (hw : WrAt w B p g l) (hl : l.length ≤ 140737488351232) :
  Calls Tryz.prog 97 #[.pointer (some ⟨p, 0, none⟩)] w fun e w' => ∃ v, e = .returned v ∧ Ow w w' v l := by
 obtain ⟨v, hp, hown, hg, hB, hx⟩ := hw
 rw [map_bl] at hown
 obtain ⟨ad, cap, rfl, h1, h2, h3, h4⟩ := own_SlAt (fun j hj => by rw [fn_get l j hj]; exact hx _ (List.getElem_mem hj)) hown
 have hc := cell_of_one hp
 clear hown hp
 go_enter Tryz.func97, Tryz.ntmps97
 go_wp2_with fail
 refine (clone_own ad l cap w h2 h3 hl).mono ?_
 rintro e w1 ⟨v, rfl, hO⟩
 go_wp2
 go_ret
 exact ⟨_, rfl, hO⟩
set_option maxRecDepth 100000 in
set_option maxHeartbeats 1600000 in
/-- What an input shows. -/
theorem kshown_any (x : Ti) (sa : Option Addr) (sc : Nat) (w : World) :
  Calls Tryz.prog 69 #[.agg (tiv x sa sc)] w fun e w' => e = .returned (.slice sa x.sn sc) ∧ Below w.heap.size w w' := by
 have hb0 : Below w.heap.size w (w.alloc (.cells (tiv x sa sc) 130)) := (Below.refl _ w).alloc (Nat.le_refl _) _
 have hr0 := heap_alloc_new w (.cells (tiv x sa sc) 130)
 have c34 := cell_list hr0 (til_34 x sa sc)
 have HB : Hid (Below w.heap.size w (w.alloc (.cells (tiv x sa sc) 130))) := hb0
 clear hr0 hb0
 go_enter Tryz.func69, Tryz.ntmps69
 go_wp2_with (first | (refine Go.Great.wpList_boxTo rfl _ _ rfl _ rfl _ rfl (tiv x sa sc) rfl ?_) | fail)
 go_ret
 exact ⟨rfl, HB.out⟩
/-- Inputs, and a transaction, as they are laid; Z: the bytes of their secrets. -/
def laidIn (x : Ti) (z : Nat → Int) : List Int := hB x.pt ++ (uB (Cd.u64 x.n) ++ (uB (Cd.u64 x.br) ++ (escF z x.sn ++ [0, 0])))
def laidIns (X : Nat → Ti) (Z : Nat → Nat → Int) : Nat → List Int
 | 0 => []
 | i + 1 => laidIns X Z i ++ laidIn (X i) (Z i)
def laidOuts (O : Nat → To) : Nat → List Int
 | 0 => []
 | i + 1 => laidOuts O i ++ laidO (O i)
def laidTx0 (lk : Int) (n : Nat) (X : Nat → Ti) (Z : Nat → Nat → Int) (m : Nat) : List Int := uB (Cd.u64 lk) ++ (uB (Cd.u64 (n : Int)) ++ (laidIns X Z n ++ uB (Cd.u64 (m : Int))))
def laidT (lk : Int) (n : Nat) (X : Nat → Ti) (Z : Nat → Nat → Int) (m : Nat) (O : Nat → To) : List Int := laidTx0 lk n X Z m ++ laidOuts O m
theorem laidIn_len (x : Ti) (z : Nat → Int) (h : x.sn ≤ 1000000) : (laidIn x z).length ≤ 2000052 := by
 have h1 := Cd.uB_len (Cd.u64 x.n)
 have h2 := Cd.uB_len (Cd.u64 x.br)
 have h3 := escF_le z x.sn
 have h4 := hB_length x.pt
 simp only [laidIn, List.length_append, List.length_cons, List.length_nil]
 omega
theorem laidIns_len (X : Nat → Ti) (Z : Nat → Nat → Int) : ∀ i, (∀ j, j < i → (X j).sn ≤ 1000000) → (laidIns X Z i).length ≤ 2000052 * i
 | 0, _ => by simp [laidIns]
 | i + 1, h => by
  have h1 := laidIns_len X Z i (fun j hj => h j (by omega))
  have h2 := laidIn_len (X i) (Z i) (h i (by omega))
  simp only [laidIns, List.length_append]
  omega
theorem laidO_len (x : To) (h : x.cn ≤ 1000 ∧ ∀ j, j < x.cn → (x.X j).n ≤ 1000) : (laidO x).length ≤ 9010100 * 1000 := by
 have h1 := Cd.uB_len (Cd.u64 x.am)
 have h2 := Cd.laidBrs_len x.X x.cn (fun j hj => by have := h.2 j hj; omega)
 have h3 := Cd.laidK_len (fun _ => (x.cn : Int)) 1
 have h4 := h.1
 simp only [laidO, Cd.laidC, List.length_append]
 omega
theorem laidOuts_len (O : Nat → To) : ∀ i, (∀ j, j < i → (O j).cn ≤ 1000 ∧ ∀ k, k < (O j).cn → ((O j).X k).n ≤ 1000) → (laidOuts O i).length ≤ 9010100 * 1000 * i
 | 0, _ => by simp [laidOuts]
 | i + 1, h => by
  have h1 := laidOuts_len O i (fun j hj => h j (by omega))
  have h2 := laidO_len (O i) (h i (by omega))
  simp only [laidOuts, List.length_append]
  omega
end Go.Proofs.YtjnepkggdkccaaaGreatDoor
/- tx.Encode: a transaction as bytes. -/
namespace Go.Proofs.YtjnepkggdkccaaaGreatDoor
open Go.RowKit

theorem Ow.keepB {w0 w w' : World} {v : Value} {L : List Int} (h : Ow w0 w v L) (hb : Below w.heap.size w w') : Ow w0 w' v L := by
 refine ⟨⟨h.own.1, ?_⟩, h.below.trans (hb.mono h.below.size), h.bd⟩
 rcases h.own.2 with hn | ⟨g', cap, cur, e, hbs, hgc, rest⟩
 ·exact .inl hn
 ·exact .inr ⟨g', cap, cur, e, hbs, by rw [hb.block _ (lt_of_block hgc)]; exact hgc, rest⟩
theorem Ow.form3 {w0 w : World} {v : Value} {L : List Int} (h : Ow w0 w v L) : ∃ ad k cp, v = .slice ad k cp := by
 obtain ⟨ad, cp, e⟩ := h.form
 exact ⟨ad, _, cp, e⟩
theorem yhid {p : Prop} (h : p) : Hid p := h
theorem number_put (W0 wr : World) (L : List Int) (K : Option (Nat × Obj)) (x : Int) (h : Cd.PutR W0 wr L K) (hl : L.length + 16 ≤ 140737488355328) :
  Calls Tryz.prog 94 #[.pointer (some ⟨W0.heap.size, 0, none⟩), .int .i64 x] wr fun e w' => e = .returned (.tuple #[]) ∧ Cd.PutR W0 w' (L ++ uB (Cd.u64 x)) K := by
 obtain ⟨g, hg, hk0⟩ := h.at_
 refine (number_any _ _ g L x wr hg hl).mono ?_
 rintro e w' ⟨rfl, hW⟩
 exact ⟨rfl, h.grown hg hk0 hW⟩
theorem bytes_put (W0 wr : World) (L : List Int) (K : Option (Nat × Obj)) (ad : Option Addr) (n cap : Nat) (z : Nat → Int) (h : Cd.PutR W0 wr L K) (hl : L.length + 2 * n + 2 ≤ 140737488355328) (hs : SlAt W0 ad n z) :
  Calls Tryz.prog 96 #[.pointer (some ⟨W0.heap.size, 0, none⟩), .slice ad n cap] wr fun e w' => e = .returned (.pointer (some ⟨W0.heap.size, 0, none⟩)) ∧ Cd.PutR W0 w' (L ++ (escF z n ++ [0, 0])) K := by
 obtain ⟨g, hg, hk0⟩ := h.at_
 refine (wrBytes_any _ _ g L ad n cap z wr hg hl (hs.below h.below) (fun b off hn e hk => ?_)).mono ?_
 ·have h1 := hs.lt hn e
  have h2 : W0.heap.size ≤ b := (hg.glt b (by rw [← hk]; simp)).1
  omega
 ·rintro e w' ⟨rfl, hW⟩
  exact ⟨rfl, h.grown hg hk0 hW⟩
theorem til_pt {w : World} {g : Nat} {x : Ti} {sa : Option Addr} {sc : Nat} {t : TypeId} {fr : Nat × Nat} (h : w.heap[g]? = some (.cells (tiv x sa sc) t fr)) : w.rangeAt g 0 (bl x.pt 32) := by
 intro j u hu
 have hj : j < 32 := (bl_get hu).1
 rw [Nat.zero_add, cell_of_row _ _ j _ _ _ h]
 simp only [tiv, List.getElem?_toArray, til]
 rw [List.getElem?_append_left (by simpa [bl_length] using hj)]
 exact hu
set_option maxRecDepth 100000 in
set_option maxHeartbeats 6400000 in
theorem klay_any (lk : Int) (ia : Option Addr) (n ic : Nat) (oa : Option Addr) (m oc : Nat) (X : Nat → Ti) (S : Nat → Option Addr × Nat) (Z : Nat → Nat → Int) (O : Nat → To) (w : World) (h : TiAt w ia n X S) (ho : ToAt w oa m O)
  (hz : ∀ i, i < n → SlAt w (S i).1 (X i).sn (Z i) ∧ (X i).sn ≤ 1000000) (hs : ∀ i, i < m → (O i).cn ≤ 1000 ∧ ∀ j, j < (O i).cn → ((O i).X j).n ≤ 1000) (hn : n ≤ 1000) (hm : m ≤ 1000) :
  Calls Tryz.prog 68 #[.agg (txv lk ia n ic oa m oc), .func (.func 69) #[] #[]] w fun e w' => ∃ v, e = .returned v ∧ Ow w w' v (laidT lk n X Z m O) := by
 have hb0 : Below w.heap.size w (w.alloc (.cells #[.int .i64 lk, .slice ia n ic, .slice oa m oc] 50)) := (Below.refl _ w).alloc (Nat.le_refl _) _
 have hr0 := heap_alloc_new w (.cells #[.int .i64 lk, .slice ia n ic, .slice oa m oc] 50)
 have HH : Hid ((TiAt w ia n X S ∧ ToAt w oa m O) ∧ (∀ i, i < n → SlAt w (S i).1 (X i).sn (Z i) ∧ (X i).sn ≤ 1000000) ∧ (∀ i, i < m → (O i).cn ≤ 1000 ∧ ∀ j, j < (O i).cn → ((O i).X j).n ≤ 1000)) := ⟨⟨h, ho⟩, hz, hs⟩
 have eg : ∀ args w, (callFunc 69 args).run Tryz.prog w = .ok (.enter 69 args) w := enters_of Tryz.func69 (by kernel_rfl) rfl
 clear h ho hz hs
 unfold txv
 go_enter Tryz.func68, Tryz.ntmps68
 go_wp2_with fail
 generalize w.alloc (.cells #[.int .i64 lk, .slice ia n ic, .slice oa m oc] 50) = W0 at *
 have HC : Hid (∀ w', Below W0.heap.size W0 w' → w'.cell? ⟨w.heap.size, 0, none⟩ = some (.int .i64 lk) ∧ w'.cell? ⟨w.heap.size, 1, none⟩ = some (.slice ia n ic) ∧ w'.cell? ⟨w.heap.size, 2, none⟩ = some (.slice oa m oc)) := fun w' hb => by
  have := hb.block _ (lt_of_block hr0)
  rw [hr0] at this
  exact ⟨by rw [cell_of_row _ _ 0 _ _ _ this]; rfl, by rw [cell_of_row _ _ 1 _ _ _ this]; rfl, by rw [cell_of_row _ _ 2 _ _ _ this]; rfl⟩
 have HB0 : Hid (Below w.heap.size w W0) := hb0
 clear hr0 hb0
 refine (new_any W0).mono ?_
 rintro e w1 ⟨rfl, hw1⟩
 have hb1 : Below W0.heap.size W0 w1 := by rw [hw1]; exact (Below.refl _ _).alloc (Nat.le_refl _) _
 have HP1 : Hid (Cd.PutR W0 w1 [] none) := ⟨⟨none, by rw [hw1]; exact new_wr W0, fun k o e => by cases e⟩, hb1⟩
 clear hw1 hb1
 have hcall := number_put W0 w1 [] none lk HP1.out (by simp)
 obtain ⟨c0, c1, c2⟩ := HC.out w1 HP1.out.below
 go_wp2_with fail
 refine hcall.mono ?_
 rintro e w2 ⟨rfl, hP2⟩
 rw [List.nil_append] at hP2
 clear hcall c0 c1 c2 HP1
 have hle1 := Cd.uB_len (Cd.u64 lk)
 have hle2 := Cd.uB_len (Cd.u64 (n : Int))
 have hle3 := Cd.uB_len (Cd.u64 (m : Int))
 obtain ⟨c0, c1, c2⟩ := HC.out w2 hP2.below
 have hcall := number_put W0 w2 _ none n hP2 (by omega)
 clear hP2
 go_wp2_with fail
 refine hcall.mono ?_
 rintro e w3 ⟨rfl, hP3⟩
 clear hcall c0 c1 c2
 obtain ⟨c0, c1, c2⟩ := HC.out w3 hP3.below
 obtain ⟨L0, hL0⟩ : ∃ L, uB (Cd.u64 lk) ++ uB (Cd.u64 (n : Int)) = L := ⟨_, rfl⟩
 have hlL : L0.length ≤ 18 := by rw [← hL0, List.length_append]; omega
 have HL0 : Hid (uB (Cd.u64 lk) ++ uB (Cd.u64 (n : Int)) = L0) := hL0
 rw [hL0] at hP3
 clear hL0 hle1 hle2
 have HP3 : Hid (Cd.PutR W0 w3 (L0 ++ laidIns X Z 0) none) := by show Cd.PutR _ _ _ _; simpa [laidIns] using hP3
 clear hP3
 go_wp2
 have hP3 := HP3.out
 clear HP3 c0 c1 c2
 go_loopw [7, 24] (fun _ iv wr => ∃ i : Nat, i ≤ n ∧ iv = .int .i64 i ∧ Cd.PutR W0 wr (L0 ++ laidIns X Z i) none) (fun _ iv _ => n + 1 - (intOf iv).toNat)
 case atStart => exact ⟨0, by omega, rfl, hP3⟩
 case round =>
  clear hP3
  obtain ⟨i, hi, rfl, hP⟩ := hrel
  have HP : Hid (Cd.PutR W0 wr (L0 ++ laidIns X Z i) none) := hP
  clear hP
  have hll : (L0 ++ laidIns X Z i).length ≤ 18 + 2000052 * 1000 := by
   have := laidIns_len X Z i (fun j hj => (HH.out.2.1 j (by omega)).2)
   rw [List.length_append]; omega
  by_cases hlt : i < n
  ·have hlt' : (i : Int) < n := by omega
   obtain ⟨b, off, rfl, hc⟩ := HH.out.1.1.at_ (by omega)
   have HR : Hid (wr.rangeAt b (off + i * 35) (til (X i) (S i).1 (S i).2)) := range_below (range_below (hc i hlt) HB0.out) HP.out.below
   have HZ : Hid (Hb (X i).pt ∧ SlAt W0 (S i).1 (X i).sn (Z i)) := ⟨HH.out.1.1.pt i hlt, (HH.out.2.1 i hlt).1.below HB0.out⟩
   have hsn := (HH.out.2.1 i hlt).2
   have HI : Hid (L0 ++ laidIns X Z (i + 1) = L0 ++ laidIns X Z i ++ hB (X i).pt ++ uB (Cd.u64 (X i).n) ++ uB (Cd.u64 (X i).br) ++ (escF (Z i) (X i).sn ++ [0, 0])) := by show _ = _; simp only [laidIns, laidIn, List.append_assoc]
   obtain ⟨L, hL⟩ : ∃ L, L0 ++ laidIns X Z i = L := ⟨_, rfl⟩
   rw [hL] at HP HI hll
   obtain ⟨x, hx⟩ : ∃ x, X i = x := ⟨_, rfl⟩
   rw [hx] at HR HZ HI hsn
   obtain ⟨⟨sa, sc⟩, hsc⟩ : ∃ s, S i = s := ⟨_, rfl⟩
   rw [hsc] at HR HZ
   clear hc hL hx hsc
   have hle1 := Cd.uB_len (Cd.u64 x.n)
   have hle2 := Cd.uB_len (Cd.u64 x.br)
   have hlh := hB_length x.pt
   go_wp2_with (first | (refine wpList_load_mid rfl 130 _ rfl b (off + i * 35) rfl (til x sa sc) _ HR.out Tryz.underlying130 rfl (szTil _ _ _) ?_) | (refine wpList_allocG 130 (tiv ti0 none 0) run_allocTi rfl rfl ?_) | (refine wpList_storeG 130 szTi rfl _ _ rfl wr.heap.size rfl (tiv x sa sc) (tiv ti0 none 0) (tiv_size _ _ _) (tiv_size _ _ _) (tiv_one _ _ _) 130 rfl (heap_alloc_new wr _) ?_; intro w4 hg4 hf4; have HP4 : Hid (Cd.PutR W0 w4 L (some (wr.heap.size, .cells (tiv x sa sc) 130 (0, 0)))) := HP.out.hold (kfrm_new hf4) hg4; have HR4 : Hid (w4.rangeAt wr.heap.size 0 (bl x.pt 32)) := til_pt hg4; clear hg4 hf4) | (refine wpList_load_mid rfl 23 _ rfl wr.heap.size 0 rfl (bl x.pt 32) _ HR4.out Tryz.underlying23 rfl (Cd.szHl _) ?_) | fail)
   refine (Cd.hash_put W0 w4 L _ x.pt HP4.out (by omega) HZ.out.1).mono ?_
   rintro e w5 ⟨rfl, hP5⟩
   have c32 := cell_list hP5.held (til_32 x sa sc)
   have HP5 : Hid _ := hP5
   clear hP5 HP4 HR4
   have hcall := number_put W0 w5 _ _ x.n HP5.out (by simp only [List.length_append]; omega)
   go_wp2_with fail
   refine hcall.mono ?_
   rintro e w6 ⟨rfl, hP6⟩
   have c33 := cell_list hP6.held (til_33 x sa sc)
   have HP6 : Hid _ := hP6
   clear hP6 HP5 hcall c32
   have hcall := number_put W0 w6 _ _ x.br HP6.out (by simp only [List.length_append]; omega)
   go_wp2_with fail
   refine hcall.mono ?_
   rintro e w7 ⟨rfl, hP7⟩
   have HP7 : Hid _ := hP7
   have HR7 : Hid (w7.rangeAt wr.heap.size 0 (til x sa sc)) := til_range hP7.held
   clear hP7 HP6 hcall c33
   have hcall := kshown_any x sa sc w7
   unfold tiv at hcall
   go_wp2_with (first | (refine wpList_load_mid rfl 130 _ rfl wr.heap.size 0 rfl (til x sa sc) _ HR7.out Tryz.underlying130 rfl (szTil _ _ _) ?_) | (go_at_fn 69; refine hcall.mono ?_; rintro e w8 ⟨rfl, hb8⟩) | fail)
   have HP8 : Hid _ := HP7.out.keep hb8
   clear hb8 hcall HP7 HR7
   refine (bytes_put W0 w8 _ _ sa x.sn sc (Z i) HP8.out (by simp only [List.length_append]; omega) HZ.out.2).mono ?_
   rintro e w9 ⟨rfl, hP9⟩
   have HP9 : Hid (Cd.PutR W0 w9 (L0 ++ laidIns X Z (i + 1)) none) := by
    show Cd.PutR _ _ _ _
    rw [HI.out]
    exact hP9.drop
   clear hP9 HP8
   go_wp2
   go_roundw
   case rel => exact ⟨i + 1, by omega, by go_num, HP9.out⟩
   case measure => simp [intOf]; omega
  ·obtain rfl : i = n := by omega
   have hnn : ¬ ((i : Int) < i) := by omega
   obtain ⟨c0, c1, c2⟩ := HC.out wr HP.out.below
   have HLA : Hid (laidTx0 lk i X Z m = (L0 ++ laidIns X Z i) ++ uB (Cd.u64 (m : Int))) := by show _ = _; rw [← HL0.out]; simp only [laidTx0, List.append_assoc]
   have HLT : Hid (laidT lk i X Z m O = laidTx0 lk i X Z m ++ laidOuts O m) := rfl
   obtain ⟨LA, hLA⟩ : ∃ L, laidTx0 lk i X Z m = L := ⟨_, rfl⟩
   rw [hLA] at HLA HLT
   obtain ⟨LT, hLT⟩ : ∃ L, laidT lk i X Z m O = L := ⟨_, rfl⟩
   have HLE : Hid (laidT lk i X Z m O = LT) := hLT
   rw [hLT] at HLT
   have hlA : LA.length ≤ 27 + 2000052 * 1000 := by rw [HLA.out, List.length_append]; omega
   have hcall := number_put W0 wr _ none m HP.out (by omega)
   rw [← HLA.out] at hcall
   clear hLA hLT HLA HL0 hll hle3
   generalize wr = wo at *
   go_wp2_with fail
   refine hcall.mono ?_
   rintro e w4 ⟨rfl, hP4⟩
   clear hcall c0 c1 c2 HP
   obtain ⟨c0, c1, c2⟩ := HC.out w4 hP4.below
   obtain ⟨g, hg, -⟩ := hP4.at_
   have hcall := wrDoneO_any _ _ g LA w4 hg (by omega)
   have HB4 : Hid (Below W0.heap.size W0 w4) := hP4.below
   clear hP4 hg
   go_wp2_with fail
   refine hcall.mono ?_
   rintro e w5 ⟨v5, rfl, hO5⟩
   clear hcall c0 c1 c2
   have HO5 : Hid (Ow W0 w5 v5 (LA ++ laidOuts O 0)) := by show Ow _ _ _ _; simpa [laidOuts] using hO5.mono HB4.out
   clear hO5 HB4
   obtain ⟨c0, c1, c2⟩ := HC.out w5 HO5.out.below
   go_wp2
   have hO5 := HO5.out
   clear HO5 c0 c1 c2
   obtain ⟨a5, k5, c5, rfl⟩ := hO5.form3
   go_loopw [8, 10, 58] (fun bv _ iv wr => ∃ (q : Nat) (ad : Option Addr) (k c : Nat), q ≤ m ∧ iv = .int .i64 q ∧ bv = .slice ad k c ∧ Ow W0 wr (.slice ad k c) (LA ++ laidOuts O q)) (fun _ _ iv _ => m + 1 - (intOf iv).toNat)
   case atStart => exact ⟨0, a5, k5, c5, by omega, rfl, rfl, hO5⟩
   case round =>
    clear hO5
    obtain ⟨q, ad, k, c, hq, rfl, rfl, hO⟩ := hrel
    have HO : Hid (Ow W0 wr (.slice ad k c) (LA ++ laidOuts O q)) := hO
    clear hO
    have hll := laidOuts_len O q (fun j hj => HH.out.2.2 j (by omega))
    have hll2 : (LA ++ laidOuts O q).length ≤ 2000053000 + 9010100 * 1000 * 1000 := by rw [List.length_append]; omega
    by_cases hlt : q < m
    ·have hlt' : (q : Int) < m := by omega
     obtain ⟨b, off, rfl, hc⟩ := HH.out.1.2.at_ (by omega)
     obtain ⟨ca, cc, hr0, hbr, _⟩ := hc q hlt
     have HR : Hid (wr.rangeAt b (off + q * 2) (tol (O q) ca cc)) := range_below (range_below hr0 HB0.out) HO.out.below
     have HX : Hid (Cd.BrAt wr ca (O q).cn (O q).X) := (hbr.below HB0.out).below HO.out.below
     have HQ : Hid (LA ++ laidOuts O (q + 1) = LA ++ laidOuts O q ++ laidO (O q)) := by show _ = _; simp only [laidOuts, List.append_assoc]
     have hsm := HH.out.2.2 q hlt
     have hlo := laidO_len (O q) hsm
     obtain ⟨L, hL⟩ : ∃ L, LA ++ laidOuts O q = L := ⟨_, rfl⟩
     rw [hL] at HO HQ hll2
     obtain ⟨x, hx⟩ : ∃ x, O q = x := ⟨_, rfl⟩
     rw [hx] at HR HX HQ hsm hlo
     clear hc hr0 hbr hL hx hll
     have c0 : wr.cell? ⟨b, off + q * 2, none⟩ = some (.int .i64 x.am) := by simpa using HR.out 0 _ rfl
     have c1 : wr.cell? ⟨b, off + q * 2 + 1, none⟩ = some (.slice ca x.cn cc) := HR.out 1 _ rfl
     have HA : Hid (Below wr.heap.size wr (wr.alloc (.cells #[.int .i64 x.am, .slice ca x.cn cc] 95))) := (Below.refl _ _).alloc (Nat.le_refl _) _
     have hcall := layOut_any x ca cc (wr.alloc (.cells #[.int .i64 x.am, .slice ca x.cn cc] 95)) (HX.out.below HA.out) hsm.1 (fun j hj => by have := hsm.2 j hj; omega)
     unfold tov at hcall
     have HO1 := yhid (HO.out.keepB HA.out)
     clear HO
     go_wp2_with fail
     generalize wr.alloc (.cells #[.int .i64 x.am, .slice ca x.cn cc] 95) = w6 at *
     refine hcall.mono ?_
     rintro e w7 ⟨u, rfl, hU⟩
     have HO7 := yhid (And.intro (HO1.out.keepB hU.below) (And.intro (hU.src (Below.refl _ _)) hU.bd))
     clear hcall hU HO1
     go_wp2_with (at_builtin; refine wpList_append_B rfl _ _ rfl W0 _ _ L (laidO x) rfl rfl HO7.out.1 HO7.out.2.1 HO7.out.2.2 (by omega) ?_; intro v8 w8 hO8)
     have HO8 : Hid (Ow W0 w8 v8 (LA ++ laidOuts O (q + 1))) := by show Ow _ _ _ _; rw [HQ.out]; exact hO8
     obtain ⟨a8, k8, c8, rfl⟩ := HO8.out.form3
     go_roundw
     case rel => exact ⟨q + 1, a8, k8, c8, by omega, by go_num, rfl, HO8.out⟩
     case measure => simp [intOf]; omega
    ·obtain rfl : q = m := by omega
     have hnn : ¬ ((q : Int) < q) := by omega
     have HE : Hid (Ow w wr (.slice ad k c) LT) := by show Ow _ _ _ _; rw [HLT.out]; exact HO.out.mono HB0.out
     go_wp2
     go_ret
     exact ⟨_, rfl, by rw [HLE.out]; exact HE.out⟩
theorem kencode_any (lk : Int) (ia : Option Addr) (n ic : Nat) (oa : Option Addr) (m oc : Nat) (X : Nat → Ti) (S : Nat → Option Addr × Nat) (Z : Nat → Nat → Int) (O : Nat → To) (w : World) (h : TiAt w ia n X S) (ho : ToAt w oa m O)
  (hz : ∀ i, i < n → SlAt w (S i).1 (X i).sn (Z i) ∧ (X i).sn ≤ 1000000) (hs : ∀ i, i < m → (O i).cn ≤ 1000 ∧ ∀ j, j < (O i).cn → ((O i).X j).n ≤ 1000) (hn : n ≤ 1000) (hm : m ≤ 1000) :
  Calls Tryz.prog 39 #[.agg (txv lk ia n ic oa m oc)] w fun e w' => ∃ v, e = .returned v ∧ Ow w w' v (laidT lk n X Z m O) := by
 have hb0 : Below w.heap.size w (w.alloc (.cells #[.int .i64 lk, .slice ia n ic, .slice oa m oc] 50)) := (Below.refl _ w).alloc (Nat.le_refl _) _
 have hr0 := txl_range (heap_alloc_new w (.cells #[.int .i64 lk, .slice ia n ic, .slice oa m oc] 50))
 have hcall := klay_any lk ia n ic oa m oc X S Z O (w.alloc (.cells #[.int .i64 lk, .slice ia n ic, .slice oa m oc] 50)) (h.below hb0) (ho.below hb0) (fun i hi => ⟨(hz i hi).1.below hb0, (hz i hi).2⟩) hs hn hm
 clear h ho hz hs
 generalize laidT lk n X Z m O = LT at *
 have HB0 := yhid hb0
 have HR0 := yhid hr0
 clear hb0 hr0
 unfold txv at *
 go_enter Tryz.func39, Tryz.ntmps39
 go_wp2_with (first | (refine wpList_load_mid rfl 50 _ rfl w.heap.size 0 rfl (txl lk ia n ic oa m oc) _ HR0.out Tryz.underlying50 rfl szTx ?_) | fail)
 refine hcall.mono ?_
 rintro e w1 ⟨v, rfl, hO⟩
 have HO := yhid (hO.mono HB0.out)
 clear hO hcall
 go_wp2
 go_ret
 exact ⟨_, rfl, HO.out⟩
end Go.Proofs.YtjnepkggdkccaaaGreatDoor
/- The document's Total of layer 5. -/
namespace Go.Proofs.YtjnepkggdkccaaaGreatDoor
open Go.RowKit

set_option maxRecDepth 100000 in
set_option maxHeartbeats 1600000 in
theorem rktotal_any (lk : Int) (ia : Option Addr) (n ic : Nat) (oa : Option Addr) (m oc : Nat) (O : Nat → To) (w : World) (h : ToAt w oa m O) (hm : m ≤ 1000000) :
  Calls Tryz.prog 87 #[.agg (txv lk ia n ic oa m oc)] w fun e w' => e = .returned (.tuple #[.int .i64 (totV O m), .int .i64 (totE O m)]) ∧ Below w.heap.size w w' := by
 have HT := hidV h
 clear h
 unfold txv
 go_enter Tryz.func87, Tryz.ntmps87
 go_wp2_with (first | (refine wpList_boxN rfl _ _ rfl #[.int .i64 lk, .slice ia n ic, .slice oa m oc] rfl ?_; intro W0 N0) | fail)
 have HB0 := hidV N0.below
 have HC : Hid (∀ w', Below W0.heap.size W0 w' → w'.cell? ⟨w.heap.size, 2, none⟩ = some (.slice oa m oc)) := fun w' hb => by rw [cell_of_row _ _ 2 _ _ _ (heap_below hb N0.blk)]; rfl
 clear N0
 go_loopw [2, 3, 4, 5, 6] (fun rv ev sv iv _ wr => ∃ (i : Nat) (s : Int), i ≤ m ∧ rv = .int .i64 0 ∧ ev = .int .i64 0 ∧ iv = .int .i64 i ∧ sv = .int .i64 s ∧ totO O i = some s ∧ Below W0.heap.size W0 wr) (fun _ _ _ iv _ _ => m + 1 - (intOf iv).toNat)
 case atStart => exact ⟨0, 0, by omega, rfl, rfl, rfl, rfl, rfl, Below.refl _ _⟩
 case round =>
  obtain ⟨i, s, hi, rfl, rfl, rfl, rfl, hs, hb⟩ := hrel
  have hbd := totO_bd hs
  have HS : Hid (totO O i = some s) := hs
  have HB := hidV hb
  have c2 := HC.out wr hb
  clear hs hb
  by_cases hlt : i < m
  ·have hlt' : (i : Int) < m := by omega
   obtain ⟨b, off, rfl, hc⟩ := HT.out.at_ (by omega)
   obtain ⟨ca, cc, hr0, _⟩ := hc i hlt
   have hr1 := range_below hr0 (Below.transS HB0.out HB.out)
   have c0 : wr.cell? ⟨b, off + i * 2, none⟩ = some (.int .i64 (O i).am) := by simpa using hr1 0 _ rfl
   clear hc hr0 hr1
   have HN : Hid (totO O (i + 1) = if 0 ≤ (O i).am ∧ (O i).am ≤ 1125899906842624 - s then some (s + (O i).am) else none) := by rw [totO, HS.out]; exact rfl
   generalize (O i).am = am at *
   by_cases h1 : am < 0
   ·have HN2 : Hid (totO O m = none) := totO_stop (i := i + 1) (by rw [HN.out]; exact if_neg (by omega)) m (by omega)
    go_wp2
    go_ret2
    exact ⟨by simp [totV, totE, HN2.out], Below.transS HB0.out HB.out⟩
   ·by_cases h2 : 1125899906842624 < am
    ·have HN2 : Hid (totO O m = none) := totO_stop (i := i + 1) (by rw [HN.out]; exact if_neg (by omega)) m (by omega)
     go_wp2
     go_ret2
     exact ⟨by simp [totV, totE, HN2.out], Below.transS HB0.out HB.out⟩
    ·have hwr : IntKind.i64.wrap (s + am) = s + am := by rw [IntKind.wrap_i64]; omega
     by_cases h3 : 1125899906842624 < s + am
     ·have HN2 : Hid (totO O m = none) := totO_stop (i := i + 1) (by rw [HN.out]; exact if_neg (by omega)) m (by omega)
      go_wp2
      go_ret2
      exact ⟨by simp [totV, totE, HN2.out], Below.transS HB0.out HB.out⟩
     ·have HN2 : Hid (totO O (i + 1) = some (s + am)) := by rw [HN.out]; exact if_pos (by omega)
      clear HN
      go_wp2
      go_roundw
      case rel => exact ⟨i + 1, s + am, by omega, rfl, rfl, by go_num, rfl, HN2.out, HB.out⟩
      case measure => simp [intOf]; omega
  ·obtain rfl : i = m := by omega
   have hnn : ¬ ((i : Int) < i) := by omega
   go_wp2
   go_ret2
   exact ⟨by simp [totV, totE, HS.out], Below.transS HB0.out HB.out⟩
end Go.Proofs.YtjnepkggdkccaaaGreatDoor
/- Places held against each other. -/
namespace Go.Proofs.YtjnepkggdkccaaaGreatDoor
open Go.RowKit

end Go.Proofs.YtjnepkggdkccaaaGreatDoor
