/- cond.Put: a condition laid behind bytes. -/
import Derived.Test.YtjnepkggdkccaaaGreatDoorOwnShelf29
import Derived.Test.YtjnepkggdkccaaaGreatDoorOwnShelf30
import Derived.Test.YtjnepkggdkccaaaGreatDoorOwnShelf10
namespace Go.Proofs.YtjnepkggdkccaaaGreatDoor.Cd
open Go.RowKit

/-- A branch as it is laid. -/
def laidBr (x : Bv) : List Int := laidK (fun _ => (x.n : Int)) 1 ++ (laidK x.z x.n ++ (hB x.lk ++ laidK (fun j => if j = 0 then x.af else x.ol) 2))
def laidBrs (X : Nat → Bv) : Nat → List Int
 | 0 => []
 | i + 1 => laidBrs X i ++ laidBr (X i)
/-- A condition as it is laid. -/
def laidC (X : Nat → Bv) (n : Nat) : List Int := laidK (fun _ => (n : Int)) 1 ++ laidBrs X n
theorem laidBr_len (x : Bv) (h : x.n ≤ 1000000) : (laidBr x).length ≤ 9000100 := by
 have h1 := laidK_len (fun _ => (x.n : Int)) 1
 have h2 := laidK_len x.z x.n
 have h3 := laidK_len (fun j => if j = 0 then x.af else x.ol) 2
 have h4 := hB_length x.lk
 simp only [laidBr, List.length_append]
 omega
theorem laidBrs_len (X : Nat → Bv) : ∀ i, (∀ j, j < i → (X j).n ≤ 1000000) → (laidBrs X i).length ≤ 9000100 * i
 | 0, _ => by simp [laidBrs]
 | i + 1, h => by
  have h1 := laidBrs_len X i (fun j hj => h j (by omega))
  have h2 := laidBr_len (X i) (h i (by omega))
  simp only [laidBrs, List.length_append]
  omega

/-- A writer made since W0, at its first new block, has laid L; what was there in W0 is as it was; K: a block beside it that holds something. -/
structure PutR (W0 wr : World) (L : List Int) (K : Option (Nat × Obj)) : Prop where
 at_ : ∃ g, WrAt wr W0.heap.size W0.heap.size g L ∧ ∀ k o, K = some (k, o) → wr.heap[k]? = some o ∧ k ∉ W0.heap.size :: g.toList
 below : Below W0.heap.size W0 wr
theorem _root_.Go.Proofs.YtjnepkggdkccaaaGreatDoor.WrAt.glt {w : World} {B p : Nat} {g : Option Nat} {l : List Int} (h : WrAt w B p g l) : ∀ k, k ∈ p :: g.toList → B ≤ k ∧ k < w.heap.size := by
 obtain ⟨v, hp, hown, hg, hB, _⟩ := h
 intro k hk
 rcases List.mem_cons.1 hk with rfl | hk
 ·exact ⟨hB, lt_of_block hp⟩
 ·subst hg
  have hk' : v.ownBlock = some k := by simpa using hk
  exact hown.lt k hk'
theorem _root_.Go.Proofs.YtjnepkggdkccaaaGreatDoor.WrAt.keep {w w' : World} {B p : Nat} {g : Option Nat} {l : List Int} (h : WrAt w B p g l) (hb : Below w.heap.size w w') : WrAt w' B p g l := by
 obtain ⟨v, hp, hown, hg, hB, hx⟩ := h
 refine ⟨v, by rw [hb.block _ (lt_of_block hp)]; exact hp, ⟨hown.1, ?_⟩, hg, hB, hx⟩
 rcases hown.2 with hn | ⟨g', cap, cur, e, hbs, hgc, rest⟩
 ·exact .inl hn
 ·exact .inr ⟨g', cap, cur, e, hbs, by rw [hb.block _ (lt_of_block hgc)]; exact hgc, rest⟩
theorem PutR.keep {W0 wr w' : World} {L : List Int} {K : Option (Nat × Obj)} (h : PutR W0 wr L K) (hb : Below wr.heap.size wr w') : PutR W0 w' L K := by
 obtain ⟨g, hg, hk⟩ := h.at_
 exact ⟨⟨g, hg.keep hb, fun k o e => ⟨by rw [hb.block _ (lt_of_block (hk k o e).1)]; exact (hk k o e).1, (hk k o e).2⟩⟩, h.below.trans (hb.mono h.below.size)⟩
theorem PutR.drop {W0 wr : World} {L : List Int} {K : Option (Nat × Obj)} (h : PutR W0 wr L K) : PutR W0 wr L none := by
 obtain ⟨g, hg, _⟩ := h.at_
 exact ⟨⟨g, hg, fun k o e => by cases e⟩, h.below⟩
theorem PutR.hold {W0 wr w' : World} {L : List Int} {o : Obj} (h : PutR W0 wr L none) (hb : Below wr.heap.size wr w') (ho : w'.heap[wr.heap.size]? = some o) : PutR W0 w' L (some (wr.heap.size, o)) := by
 obtain ⟨g, hg, _⟩ := h.at_
 refine ⟨⟨g, hg.keep hb, fun k o' e => ?_⟩, h.below.trans (hb.mono h.below.size)⟩
 cases e
 exact ⟨ho, fun hk => by have := (hg.glt _ hk).2; omega⟩
theorem PutR.held {W0 wr : World} {L : List Int} {k : Nat} {o : Obj} (h : PutR W0 wr L (some (k, o))) : wr.heap[k]? = some o := by
 obtain ⟨g, _, hk⟩ := h.at_
 exact (hk k o rfl).1
theorem PutR.grown {W0 wr w' : World} {L L' : List Int} {g : Option Nat} {K : Option (Nat × Obj)} (h : PutR W0 wr L K) (hA : WrAt wr W0.heap.size W0.heap.size g L) (hk : ∀ k o, K = some (k, o) → wr.heap[k]? = some o ∧ k ∉ W0.heap.size :: g.toList) (hW : WrGrown wr w' W0.heap.size W0.heap.size g L') : PutR W0 w' L' K := by
 obtain ⟨g', hA', hF, hg'⟩ := hW
 refine ⟨⟨g', hA', fun k o e => ?_⟩, h.below.trans (hF.below h.below.size (fun k hk => (hA.glt k hk).1))⟩
 obtain ⟨h1, h2⟩ := hk k o e
 have hl := lt_of_block h1
 refine ⟨by rw [hF.block k hl h2]; exact h1, ?_⟩
 rcases hg' with rfl | ⟨b, rfl, hb⟩
 ·exact h2
 ·intro hm
  rcases List.mem_cons.1 hm with rfl | hm
  ·exact h2 (by simp)
  ·have : k = b := by simpa using hm
   omega
theorem lay_old (W0 wr : World) (L : List Int) (K : Option (Nat × Obj)) (ad : Option Addr) (n cap : Nat) (z : Nat → Int) (h : PutR W0 wr L K) (hl : L.length + 9 * n + 16 ≤ 140737488355328) (hI : IsAt W0 ad n z) (hn : n ≤ 1000000) :
  Calls Tryz.prog 128 #[.pointer (some ⟨W0.heap.size, 0, none⟩), .slice ad n cap] wr fun e w' => e = .returned (.tuple #[]) ∧ PutR W0 w' (L ++ laidK z n) K := by
 obtain ⟨g, hg, hk0⟩ := h.at_
 refine (lay_any _ _ g L ad n cap z wr hg hl (hI.below h.below) (fun hp a e hk => ?_) hn).mono ?_
 ·obtain ⟨b, off, e2, hc⟩ := hI hp
  rw [e2] at e
  cases e
  have h1 := World.block_lt_of_cell? W0 ⟨b, off + 0, none⟩ (hc 0 hp)
  have h2 : W0.heap.size ≤ b := (hg.glt _ hk).1
  have h3 : b < W0.heap.size := h1
  omega
 ·rintro e w' ⟨rfl, hW⟩
  exact ⟨rfl, h.grown hg hk0 hW⟩
theorem lay_new (W0 wr w1 : World) (L : List Int) (K : Option (Nat × Obj)) (q n cap : Nat) (z : Nat → Int) (h : PutR W0 wr L K) (hb : Below wr.heap.size wr w1) (hl : L.length + 9 * n + 16 ≤ 140737488355328) (hI : IsAt w1 (some ⟨q, 0, none⟩) n z) (hq : wr.heap.size ≤ q) (hn : n ≤ 1000000) :
  Calls Tryz.prog 128 #[.pointer (some ⟨W0.heap.size, 0, none⟩), .slice (some ⟨q, 0, none⟩) n cap] w1 fun e w' => e = .returned (.tuple #[]) ∧ PutR W0 w' (L ++ laidK z n) K := by
 obtain ⟨g, hg, hk0⟩ := h.at_
 have h1 := h.keep hb
 refine (lay_any _ _ g L (some ⟨q, 0, none⟩) n cap z w1 (hg.keep hb) hl hI (fun _ a e hk => ?_) hn).mono ?_
 ·cases e
  have h2 : q < wr.heap.size := (hg.glt _ hk).2
  omega
 ·rintro e w' ⟨rfl, hW⟩
  exact ⟨rfl, h1.grown (hg.keep hb) (fun k o e => ⟨by rw [hb.block _ (lt_of_block (hk0 k o e).1)]; exact (hk0 k o e).1, (hk0 k o e).2⟩) hW⟩
theorem hash_put (W0 wr : World) (L : List Int) (K : Option (Nat × Obj)) (z : Nat → Int) (h : PutR W0 wr L K) (hl : L.length + 32 ≤ 140737488355328) (hz : Zb z) :
  Calls Tryz.prog 95 #[.pointer (some ⟨W0.heap.size, 0, none⟩), .agg (hv z)] wr fun e w' => e = .returned (.pointer (some ⟨W0.heap.size, 0, none⟩)) ∧ PutR W0 w' (L ++ hB z) K := by
 obtain ⟨g, hg, hk0⟩ := h.at_
 refine (wrHash_any _ _ g L z wr hg hl hz).mono ?_
 rintro e w' ⟨rfl, hW⟩
 exact ⟨rfl, h.grown hg hk0 hW⟩

set_option maxRecDepth 100000 in
set_option maxHeartbeats 3200000 in
theorem put_any (bd : Option Addr) (lb : List Int) (bc : Nat) (ad : Option Addr) (n cap : Nat) (X : Nat → Bv) (w : World) (hs : SlAt w bd lb.length (fn lb)) (hnil : bd = none → lb.length = 0 ∧ bc = 0) (h : BrAt w ad n X) (hn : n ≤ 1000) (hx : ∀ i, i < n → (X i).n ≤ 1000000) (hlb : lb.length ≤ 70368744177664) :
  Calls Tryz.prog 109 #[.slice bd lb.length bc, .agg #[.slice ad n cap]] w fun e w' => ∃ v, e = .returned v ∧ Ow w w' v (lb ++ laidC X n) := by
 have hb0 : Below w.heap.size w (w.alloc (.cells #[.slice ad n cap] 93)) := (Below.refl _ w).alloc (Nat.le_refl _) _
 have hc0 : (w.alloc (.cells #[.slice ad n cap] 93)).cell? ⟨w.heap.size, 0, none⟩ = some (.slice ad n cap) := by simp
 have HS : Hid (SlAt w bd lb.length (fn lb) ∧ (bd = none → lb.length = 0 ∧ bc = 0)) := ⟨hs, hnil⟩
 have HB : Hid (BrAt (w.alloc (.cells #[.slice ad n cap] 93)) ad n X) := h.below hb0
 clear hs hnil h
 go_enter Tryz.func109, Tryz.ntmps109
 go_wp2_with fail
 generalize w.alloc (.cells #[.slice ad n cap] 93) = W0 at *
 refine (new_any W0).mono ?_
 rintro e w1 ⟨rfl, rfl⟩
 have hb1 : Below W0.heap.size W0 (W0.alloc (.cells #[.slice none 0 0] 216)) := (Below.refl _ _).alloc (Nat.le_refl _) _
 have hP1 : PutR W0 (W0.alloc (.cells #[.slice none 0 0] 216)) [] none := ⟨⟨none, new_wr W0, fun k o e => by cases e⟩, hb1⟩
 have hp0 := World.block_lt_of_cell? W0 ⟨w.heap.size, 0, none⟩ hc0
 have c1 : (W0.alloc (.cells #[.slice none 0 0] 216)).cell? ⟨w.heap.size, 0, none⟩ = some (.slice ad n cap) := by rw [hb1.cell (p := ⟨w.heap.size, 0, none⟩) hp0]; exact hc0
 generalize W0.alloc (.cells #[.slice none 0 0] 216) = w1 at *
 go_wp2_with fail
 refine (lay_new W0 w1 _ [] none w1.heap.size 1 1 (fun _ => (n : Int)) hP1 ((Below.refl _ _).alloc (Nat.le_refl _) _) (by simp) (fun _ => ⟨_, _, rfl, one_at w1 n (fun _ => (n : Int)) rfl⟩) (Nat.le_refl _) (by omega)).mono ?_
 rintro e w2 ⟨rfl, hP2⟩
 have hP2' : PutR W0 w2 (laidK (fun _ => (n : Int)) 1 ++ laidBrs X 0) none := by simpa [laidBrs] using hP2
 have HP2 : Hid (PutR W0 w2 (laidK (fun _ => (n : Int)) 1 ++ laidBrs X 0) none) := hP2'
 have c2 : w2.cell? ⟨w.heap.size, 0, none⟩ = some (.slice ad n cap) := by rw [hP2.below.cell (p := ⟨w.heap.size, 0, none⟩) hp0]; exact hc0
 clear hP2 hP2' hP1 c1 hb1
 go_wp2
 have hP2 := HP2.out
 go_loopw [7, 18] (fun _ iv wr => ∃ i : Nat, i ≤ n ∧ iv = .int .i64 i ∧ PutR W0 wr (laidK (fun _ => (n : Int)) 1 ++ laidBrs X i) none) (fun _ iv _ => n + 1 - (intOf iv).toNat)
 case atStart => exact ⟨0, by omega, rfl, hP2⟩
 case round =>
  clear hP2 HP2 c2
  obtain ⟨i, hi, rfl, hP⟩ := hrel
  have HP : Hid (PutR W0 wr (laidK (fun _ => (n : Int)) 1 ++ laidBrs X i) none) := hP
  have hLn : (laidK (fun _ => (n : Int)) 1 ++ laidBrs X i).length ≤ 9000100 * 1000 + 9 := by
   have h1 := laidK_len (fun _ => (n : Int)) 1
   have h2 := laidBrs_len X i (fun j hj => hx j (by omega))
   simp only [List.length_append]
   omega
  clear hP
  by_cases hlt : i < n
  ·have hlt' : (i : Int) < n := by omega
   obtain ⟨b, off, rfl, hc⟩ := HB.out.at_ (by omega)
   obtain ⟨ka, kc, hr0, hI0⟩ := hc i hlt
   have hxi := hx i hlt
   have hok := HB.out.ok i hlt
   have HR : Hid (wr.rangeAt b (off + i * 35) (brl (X i) ka kc)) := range_below hr0 HP.out.below
   have HI : Hid (IsAt W0 ka (X i).n (X i).z) := hI0
   obtain ⟨L, hL⟩ : ∃ L, L = laidK (fun _ => (n : Int)) 1 ++ laidBrs X i := ⟨_, rfl⟩
   rw [← hL] at HP hLn
   have HS1 : Hid (∀ w' : World, w'.heap[wr.heap.size]? = some (.cells (bv (X i) ka kc) 164 (0, 0)) → Frm [wr.heap.size] (wr.alloc (.cells (bv b0 none 0) 164)) w' → PutR W0 w' L (some (wr.heap.size, .cells (bv (X i) ka kc) 164 (0, 0)))) := by
    intro w' h1 h2
    have h3 : Below wr.heap.size (wr.alloc (.cells (bv b0 none 0) 164)) w' := h2.below (by simp) (by simp)
    exact HP.out.hold (((Below.refl _ wr).alloc (Nat.le_refl _) _).trans h3) h1
   clear hc hr0 hI0
   go_wp2_with (first | (refine wpList_load_mid rfl 164 _ rfl b (off + i * 35) rfl (brl (X i) ka kc) _ HR.out Tryz.underlying164 rfl (szBl _ _ _) ?_) | (refine wpList_allocB rfl rfl ?_) | (refine wpList_storeR _ szB rfl _ _ rfl wr.heap.size rfl (X i) b0 ka none kc 0 164 rfl (heap_alloc_new wr _) ?_; intro w3 hg3 hf3; have HP3 : Hid _ := HS1.out w3 hg3 hf3; obtain ⟨c30, c333, c334⟩ := bbox_of hg3; clear hg3 hf3) | fail)
   refine (lay_new W0 w3 _ L _ w3.heap.size 1 1 (fun _ => ((X i).n : Int)) HP3.out ((Below.refl _ _).alloc (Nat.le_refl _) _) (by omega) (fun _ => ⟨_, _, rfl, one_at w3 (X i).n (fun _ => ((X i).n : Int)) rfl⟩) (Nat.le_refl _) (by omega)).mono ?_
   rintro e w4 ⟨rfl, hP4⟩
   have c40 := (bbox_of hP4.held).c0
   have l4 := laidK_len (fun _ => ((X i).n : Int)) 1
   have l5 := laidK_len (X i).z (X i).n
   have l6 := hB_length (X i).lk
   have HP4 : Hid _ := hP4
   clear hP4 HP3 c30 c333 c334
   go_wp2_with fail
   refine (lay_old W0 w4 _ _ ka (X i).n kc (X i).z HP4.out (by simp only [List.length_append]; omega) HI.out hxi).mono ?_
   rintro e w5 ⟨rfl, hP5⟩
   have HR5 : Hid (w5.rangeAt wr.heap.size 1 (bl (X i).lk 32)) := brl_lock (X i) ka kc hP5.held
   have HP5 : Hid _ := hP5
   clear hP5 HP4 c40
   go_wp2_with (first | (refine wpList_load_mid rfl 23 _ rfl wr.heap.size 1 rfl (bl (X i).lk 32) _ HR5.out Tryz.underlying23 rfl (szHl _) ?_) | fail)
   refine (hash_put W0 w5 _ _ (X i).lk HP5.out (by simp only [List.length_append]; omega) hok.lk).mono ?_
   rintro e w6 ⟨rfl, hP6⟩
   have c63 := (bbox_of hP6.held).c33
   have c64 := (bbox_of hP6.held).c34
   have HP6 : Hid _ := hP6
   clear hP6 HP5 HR5
   go_wp2_with fail
   refine (lay_new W0 w6 _ _ _ w6.heap.size 2 2 (fun j => if j = 0 then (X i).af else (X i).ol) HP6.out ((Below.refl _ _).alloc (Nat.le_refl _) _) (by simp only [List.length_append]; omega) (fun _ => ⟨_, _, rfl, pair_at w6 (X i).af (X i).ol _ rfl rfl⟩) (Nat.le_refl _) (by omega)).mono ?_
   rintro e w7 ⟨rfl, hP7⟩
   have HP7 : Hid (PutR W0 w7 (laidK (fun _ => (n : Int)) 1 ++ laidBrs X (i + 1)) none) := by
    have h7 := hP7.drop
    have e7 : laidK (fun _ => (n : Int)) 1 ++ laidBrs X (i + 1) = L ++ laidK (fun _ => ((X i).n : Int)) 1 ++ laidK (X i).z (X i).n ++ hB (X i).lk ++ laidK (fun j => if j = 0 then (X i).af else (X i).ol) 2 := by
     rw [hL]
     simp only [laidBrs, laidBr, List.append_assoc]
    show PutR _ _ _ _
    rw [e7]; exact h7
   clear hP7 HP6 c63 c64 hL
   go_wp2
   go_roundw
   case rel => exact ⟨i + 1, by omega, by go_num, HP7.out⟩
   case measure => simp [intOf]; omega
  ·obtain rfl : i = n := by omega
   have hnn : ¬ ((i : Int) < i) := by omega
   have HC : Hid (laidC X i = laidK (fun _ => (i : Int)) 1 ++ laidBrs X i) := rfl
   obtain ⟨g, hg, -⟩ := HP.out.at_
   have hdone := wrDone_any _ _ g _ wr hg (by omega)
   have hbw : Below w.heap.size w wr := hb0.trans (HP.out.below.mono (by omega))
   have HBW : Hid (Below w.heap.size w wr) := hbw
   clear hbw hg
   go_wp2_with fail
   refine hdone.mono ?_
   rintro e w3 ⟨ad3, cap3, rfl, hcap3, hs3, hn3, -, hb3⟩
   have hbw3 : Below w.heap.size w w3 := HBW.out.trans (hb3.mono HBW.out.size)
   have HD3 : Hid (SlAt w3 ad3 (laidK (fun _ => (i : Int)) 1 ++ laidBrs X i).length (fn (laidK (fun _ => (i : Int)) 1 ++ laidBrs X i)) ∧ (ad3 = none → (laidK (fun _ => (i : Int)) 1 ++ laidBrs X i).length = 0 ∧ cap3 = 0) ∧ Below w.heap.size w w3) := ⟨hs3, hn3, hbw3⟩
   clear hdone hs3 hn3 hb3 hbw3 hcap3
   generalize laidK (fun _ => (i : Int)) 1 ++ laidBrs X i = L at *
   go_wp2_with fail
   have hbA : Below w3.heap.size w3 (w3.alloc (.cells #[.slice bd lb.length bc, .slice ad3 L.length cap3] 33)) := (Below.refl _ _).alloc (Nat.le_refl _) _
   have hnA := heap_alloc_new w3 (.cells #[.slice bd lb.length bc, .slice ad3 L.length cap3] 33)
   refine (concat_two w3.heap.size bd lb bc ad3 L cap3 _ ⟨two_cell0 hnA, two_cell1 hnA⟩ ((HS.out.1.below HD3.out.2.2).below hbA) HS.out.2 (HD3.out.1.below hbA) HD3.out.2.1 (by omega)).mono ?_
   rintro e w5 ⟨v, rfl, hO⟩
   have HO : Hid (Ow w w5 v (lb ++ L)) := hO.mono (HD3.out.2.2.alloc HD3.out.2.2.size _)
   clear hO hbA hnA
   go_wp2
   go_ret
   exact ⟨_, rfl, by rw [HC.out]; exact HO.out⟩
end Go.Proofs.YtjnepkggdkccaaaGreatDoor.Cd
/- The document's Put. -/
namespace Go.Proofs.YtjnepkggdkccaaaGreatDoor.Cd
open Go.RowKit

theorem refUint_ow (W0 w : World) (v : Value) (L : List Int) (n : Int) (h : Ow W0 w v L) (hl : L.length + 64 ≤ 140737488351232) :
  Calls Tryz.prog 99 #[v, .int .u64 (u64 n)] w fun e w' => ∃ v', e = .returned v' ∧ Ow W0 w' v' (L ++ uB (u64 n)) ∧ Below w.heap.size w w' := by
 obtain ⟨ad, cp, rfl⟩ := h.form
 obtain ⟨_, hs, hn, _, _⟩ := h.fresh
 have hb := u64_bd n
 refine (refUint_any ad L cp (u64 n) w hs hn hl hb.1 hb.2).mono ?_
 rintro e w' ⟨v', rfl, hO⟩
 exact ⟨v', rfl, hO.mono h.below, hO.below⟩
theorem refHash_ow (W0 w : World) (v : Value) (L : List Int) (z : Nat → Int) (h : Ow W0 w v L) (hl : L.length + 64 ≤ 140737488351232) (hz : Zb z) :
  Calls Tryz.prog 100 #[v, .agg (hv z)] w fun e w' => ∃ v', e = .returned v' ∧ Ow W0 w' v' (L ++ hB z) ∧ Below w.heap.size w w' := by
 obtain ⟨ad, cp, rfl⟩ := h.form
 obtain ⟨_, hs, hn, _, _⟩ := h.fresh
 refine (refHash_any ad L cp z w hs hn hl hz).mono ?_
 rintro e w' ⟨v', rfl, hO⟩
 exact ⟨v', rfl, hO.mono h.below, hO.below⟩
theorem _root_.Go.Proofs.YtjnepkggdkccaaaGreatDoor.Ow.keep {w0 w w' : World} {v : Value} {L : List Int} (h : Ow w0 w v L) (hb : Below w.heap.size w w') : Ow w0 w' v L := by
 refine ⟨⟨h.own.1, ?_⟩, h.below.trans (hb.mono h.below.size), h.bd⟩
 rcases h.own.2 with hn | ⟨g, cap, cur, e, hbs, hg, rest⟩
 ·exact .inl hn
 ·exact .inr ⟨g, cap, cur, e, hbs, by rw [hb.block _ (lt_of_block hg)]; exact hg, rest⟩
theorem laidK_one (n : Int) : laidK (fun _ => n) 1 = uB (u64 n) := by simp [laidK]
theorem laidK_two (z : Nat → Int) : laidK z 2 = uB (u64 (z 0)) ++ uB (u64 (z 1)) := by simp [laidK]

set_option maxRecDepth 100000 in
set_option maxHeartbeats 3200000 in
theorem rput_any (bd : Option Addr) (lb : List Int) (bc : Nat) (ad : Option Addr) (n cap : Nat) (X : Nat → Bv) (w : World) (hs : SlAt w bd lb.length (fn lb)) (hnil : bd = none → lb.length = 0 ∧ bc = 0) (h : BrAt w ad n X) (hn : n ≤ 1000) (hx : ∀ i, i < n → (X i).n ≤ 1000000) (hlb : lb.length ≤ 70368744177664) :
  Calls Tryz.prog 102 #[.slice bd lb.length bc, .agg #[.slice ad n cap]] w fun e w' => ∃ v, e = .returned v ∧ Ow w w' v (lb ++ laidC X n) := by
 have hb0 : Below w.heap.size w (w.alloc (.cells #[.slice ad n cap] 122)) := (Below.refl _ w).alloc (Nat.le_refl _) _
 have hc0 : (w.alloc (.cells #[.slice ad n cap] 122)).cell? ⟨w.heap.size, 0, none⟩ = some (.slice ad n cap) := by simp
 have HS : Hid (SlAt (w.alloc (.cells #[.slice ad n cap] 122)) bd lb.length (fn lb) ∧ (bd = none → lb.length = 0 ∧ bc = 0)) := ⟨hs.below hb0, hnil⟩
 have HB : Hid (BrAt (w.alloc (.cells #[.slice ad n cap] 122)) ad n X) := h.below hb0
 clear hs hnil h
 go_enter Tryz.func102, Tryz.ntmps102
 go_wp2_with fail
 generalize w.alloc (.cells #[.slice ad n cap] 122) = W0 at *
 have hp0 := World.block_lt_of_cell? W0 ⟨w.heap.size, 0, none⟩ hc0
 have S1 : W0.drew.cell? ⟨w.heap.size, 0, none⟩ = some (.slice ad n cap) := hc0
 have hsrc : BSrc W0.drew (.slice bd lb.length bc) lb := SlAt.src (HS.out.1.below (Below.refl _ W0).drew) HS.out.2
 have hy := bd_of HS.out.1
 refine wp_region_noPanic ?_
 refine wp_region_held_drew (S := fun w' => w'.cell? ⟨w.heap.size, 0, none⟩ = some (.slice ad n cap)) (by kernel_rfl) S1 (fun hHeld => ?_)
 have ew : IntKind.u64.wrap (n : Int) = n := u64_nat n (by omega)
 refine wpT (i := 0) (oi := ⟨some 9, .move (.tmp 5), 33, _, _, none⟩) (v := ?_) rfl (by kernel_rfl) (fun _ _ _ h => h) (Or.inl ⟨by rfl, ?_⟩) (by assumption) ?_
 rotate_left
 ·intro wz hSw; (try dsimp only at hSw); go_simp; (try with_reducible rfl)
 try simp only [Act.put, zA, zB, zC]
 refine wpT (i := 1) (oi := ⟨some 10, .move (.tmp 0), 33, _, _, none⟩) (v := ?_) rfl (by kernel_rfl) (fun _ _ _ h => h) (Or.inl ⟨by rfl, ?_⟩) (by assumption) ?_
 rotate_left
 ·intro wz hSw; (try dsimp only at hSw); go_simp; (try with_reducible rfl)
 try simp only [Act.put, zA, zB, zC]
 refine wpT (i := 3) (oi := ⟨some 12, .fieldAddr 122 (.tmp 3) 0, 0, _, _, none⟩) (v := ?_) rfl (by kernel_rfl) (fun _ _ _ h => h) (Or.inl ⟨by rfl, ?_⟩) (by assumption) ?_
 rotate_left
 ·intro wz hSw; (try dsimp only at hSw); go_simp; (try with_reducible rfl)
 try simp only [Act.put, zA, zB, zC]
 refine wpT (i := 4) (oi := ⟨some 13, .load 120 (.tmp 12), 120, _, _, none⟩) (v := ?_) rfl (by kernel_rfl) (fun _ _ _ h => h) (Or.inl ⟨by rfl, ?_⟩) (by assumption) ?_
 rotate_left
 ·intro wz hSw; (try dsimp only at hSw); go_simp; (try with_reducible rfl)
 try simp only [Act.put, zA, zB, zC]
 refine wpT (i := 5) (oi := ⟨some 14, .call { callee := Go.Callee.builtin Go.Builtin.len, args := #[.tmp 13], argTypes := #[120] }, 3, _, _, none⟩) (v := ?_) rfl (by kernel_rfl) (fun _ _ _ h => h) (Or.inl ⟨by rfl, ?_⟩) (by assumption) ?_
 rotate_left
 ·intro wz hSw; (try dsimp only at hSw); go_simp; (try with_reducible rfl)
 try simp only [Act.put, zA, zB, zC]
 refine wpT (i := 6) (oi := ⟨some 15, .convert 3 203 (.tmp 14), 203, _, _, none⟩) (v := .int .u64 (n : Int)) rfl (by kernel_rfl) (fun _ _ _ h => h) (Or.inl ⟨by rfl, ?_⟩) (by assumption) ?_
 ·intro wz hSw; (try dsimp only at hSw); go_simp; try (rw [ew]); try rfl
 try simp only [Act.put, zA, zB, zC]
 refine wpAnyH_ready (rs := [2]) (by kernel_rfl) (by simp) ?_
 refine (AllReadyH.cons (o := ⟨some 11, .call { callee := Go.Callee.builtin Go.Builtin.append, args := #[.tmp 9, .tmp 10], argTypes := #[33, 33] }, 33, _, _, none⟩) rfl (fun K hK => ?_) AllReadyH.nil)
 refine step_append_B rfl (.tmp 9) (.tmp 10) rfl W0.drew _ _ [] lb (by rfl) (by rfl) (Ow.nil _) hsrc hy (by simp; omega) ?_
 intro v1 w1 hO1
 have hO1' : Ow W0 w1 v1 lb := by simpa using hO1.mono (Below.refl _ W0).drew
 have S2 : w1.cell? ⟨w.heap.size, 0, none⟩ = some (.slice ad n cap) := by rw [hO1'.below.cell (p := ⟨w.heap.size, 0, none⟩) hp0]; exact hc0
 have HO1 : Hid (Ow W0 w1 v1 lb) := hO1'
 clear hO1 hO1' hsrc hy S1
 refine hK.out _ _ S2 (fun _ => ?_)
 clear hK K
 refine wpAnyH_ready (rs := [7]) (by kernel_rfl) (by simp) ?_
 refine (AllReadyH.cons (o := ⟨some 16, .call { callee := Go.Callee.value (.func 99), args := #[.tmp 11, .tmp 15], argTypes := #[33, 203] }, 33, _, _, none⟩) rfl (fun K hK => ?_) AllReadyH.nil)
 go_simp
 have hcall := refUint_ow W0 w1 v1 lb n HO1.out (by omega)
 have en0 := u64_nat n (by omega)
 rw [en0] at hcall
 refine hcall.mono ?_
 rintro e w2 ⟨v2, rfl, hO2, hb2⟩
 have S3 : w2.cell? ⟨w.heap.size, 0, none⟩ = some (.slice ad n cap) := by rw [hO2.below.cell (p := ⟨w.heap.size, 0, none⟩) hp0]; exact hc0
 have HO2 : Hid (Ow W0 w2 v2 (lb ++ (laidK (fun _ => (n : Int)) 1 ++ laidBrs X 0))) := by
  show Ow _ _ _ _
  rw [laidK_one, en0]
  simpa [laidBrs] using hO2
 clear hcall hO2 hb2 HO1 S2 ew en0
 refine hK.out _ _ S3 (fun _ => ?_)
 clear hK K
 refine wpT (i := 8) (oi := ⟨some 5, .assign (.tmp 16), 33, _, _, none⟩) (v := ?_) rfl (by kernel_rfl) (fun _ _ _ h => h) (Or.inl ⟨by rfl, ?_⟩) (by assumption) ?_
 rotate_left
 ·intro wz hSw; (try dsimp only at hSw); go_simp; (try with_reducible rfl)
 try simp only [Act.put, zA, zB, zC]
 refine wpAnyH_done (by kernel_rfl) (NoPanic.normal ?_) _
 try simp only [Act.put, zA, zB, zC]
 clear hHeld
 go_wp2
 have hO2 := HO2.out
 go_loopw [5, 6, 7, 8] (fun sv iv _ _ wr => ∃ (i : Nat) (v : Value), i ≤ n ∧ v = sv ∧ iv = .int .i64 i ∧ Ow W0 wr v (lb ++ (laidK (fun _ => (n : Int)) 1 ++ laidBrs X i))) (fun _ iv _ _ _ => n + 1 - (intOf iv).toNat)
 case atStart => exact ⟨0, _, by omega, rfl, rfl, hO2⟩
 case round =>
  clear hO2 HO2 S3
  obtain ⟨i, v, hi, rfl, rfl, hO⟩ := hrel
  have HO : Hid (Ow W0 wr v (lb ++ (laidK (fun _ => (n : Int)) 1 ++ laidBrs X i))) := hO
  have cb : wr.cell? ⟨w.heap.size, 0, none⟩ = some (.slice ad n cap) := by rw [hO.below.cell (p := ⟨w.heap.size, 0, none⟩) hp0]; exact hc0
  have hLn : (lb ++ (laidK (fun _ => (n : Int)) 1 ++ laidBrs X i)).length ≤ 70368744177664 + 9000100 * 1000 + 9 := by
   have h1 := laidK_len (fun _ => (n : Int)) 1
   have h2 := laidBrs_len X i (fun j hj => hx j (by omega))
   simp only [List.length_append]
   omega
  clear hO
  by_cases hlt : i < n
  ·have hlt' : (i : Int) < n := by omega
   obtain ⟨b, off, rfl, hc⟩ := HB.out.at_ (by omega)
   obtain ⟨ka, kc, hr0, hI0⟩ := hc i hlt
   have hxi := hx i hlt
   have hok := HB.out.ok i hlt
   have HR : Hid (wr.rangeAt b (off + i * 35) (brl (X i) ka kc)) := range_below hr0 HO.out.below
   have HI : Hid (IsAt W0 ka (X i).n (X i).z) := hI0
   obtain ⟨L, hL⟩ : ∃ L, L = lb ++ (laidK (fun _ => (n : Int)) 1 ++ laidBrs X i) := ⟨_, rfl⟩
   rw [← hL] at HO hLn
   have HS1 : Hid (∀ w' : World, w'.heap[wr.heap.size]? = some (.cells (bv (X i) ka kc) 126 (0, 0)) → Frm [wr.heap.size] (wr.alloc (.cells (bv b0 none 0) 126)) w' → Ow W0 w' v L) := by
    intro w' h1 h2
    have h3 : Below wr.heap.size (wr.alloc (.cells (bv b0 none 0) 126)) w' := h2.below (by simp) (by simp)
    exact HO.out.keep (((Below.refl _ wr).alloc (Nat.le_refl _) _).trans h3)
   clear hc hr0 hI0
   go_wp2_with (first | (refine wpList_load_mid rfl 126 _ rfl b (off + i * 35) rfl (brl (X i) ka kc) _ HR.out Tryz.underlying126 rfl (szRl _ _ _) ?_) | (refine wpList_allocR rfl rfl ?_) | (refine wpList_storeR _ szR rfl _ _ rfl wr.heap.size rfl (X i) b0 ka none kc 0 126 rfl (heap_alloc_new wr _) ?_; intro w3 hg3 hf3; have HO3 : Hid (Ow W0 w3 v L ∧ w3.heap[wr.heap.size]? = some (.cells (bv (X i) ka kc) 126 (0, 0))) := ⟨HS1.out w3 hg3 hf3, hg3⟩; obtain ⟨c30, c333, c334⟩ := bbox_of hg3; clear hg3 hf3) | fail)
   have hcall := refUint_ow W0 w3 v L (X i).n HO3.out.1 (by omega)
   have en := u64_nat (X i).n (by omega)
   rw [en] at hcall
   refine hcall.mono ?_
   rintro e w4 ⟨v4, rfl, hO4, hb4⟩
   have l4 := laidK_len (fun _ => ((X i).n : Int)) 1
   obtain ⟨L4, hL4⟩ : ∃ L4, L4 = L ++ laidK (fun _ => ((X i).n : Int)) 1 := ⟨_, rfl⟩
   have e4 : L ++ uB ((X i).n : Int) = L4 := by rw [hL4, laidK_one, en]
   rw [e4] at hO4
   have hLn4 : L4.length ≤ 70368744177664 + 9000100 * 1000 + 18 := by rw [hL4]; simp only [List.length_append]; omega
   have hg4 : w4.heap[wr.heap.size]? = some (.cells (bv (X i) ka kc) 126 (0, 0)) := by rw [hb4.block _ (lt_of_block HO3.out.2)]; exact HO3.out.2
   have HO4 : Hid (Ow W0 w4 v4 L4 ∧ w4.heap[wr.heap.size]? = some (.cells (bv (X i) ka kc) 126 (0, 0))) := ⟨hO4, hg4⟩
   have hl4 := lt_of_block hg4
   clear hcall e4 hO4 hb4 hg4 HO3 c30 c333 c334 en
   go_wp2_with fail
   have hO4 : Ow W0 w4 v4 (L4 ++ laidK (X i).z 0) ∧ Below w4.heap.size w4 w4 := ⟨by simpa [laidK] using HO4.out.1, Below.refl _ _⟩
   go_loopw [5, 8] (fun sv kv wq => ∃ (k : Nat) (vq : Value), k ≤ (X i).n ∧ vq = sv ∧ kv = .int .i64 k ∧ Ow W0 wq vq (L4 ++ laidK (X i).z k) ∧ Below w4.heap.size w4 wq) (fun _ kv _ => (X i).n + 1 - (intOf kv).toNat)
   case atStart => exact ⟨0, _, by omega, rfl, rfl, hO4⟩
   case round =>
    clear hO4
    rename World => wq
    obtain ⟨k, vq, hk, rfl, rfl, hOq, hbq⟩ := hrel
    have hgq : wq.heap[wr.heap.size]? = some (.cells (bv (X i) ka kc) 126 (0, 0)) := by rw [hbq.block _ hl4]; exact HO4.out.2
    have cq := (bbox_of hgq).c0
    have lq := laidK_len (X i).z k
    have HOq : Hid (Ow W0 wq vq (L4 ++ laidK (X i).z k) ∧ Below w4.heap.size w4 wq ∧ wq.heap[wr.heap.size]? = some (.cells (bv (X i) ka kc) 126 (0, 0))) := ⟨hOq, hbq, hgq⟩
    clear hOq hbq hgq
    by_cases hkl : k < (X i).n
    ·have hkl' : (k : Int) < (X i).n := by omega
     obtain ⟨b2, off2, rfl, hc2⟩ := (HI.out.below HOq.out.1.below) (by omega)
     have hck := hc2 k hkl
     have hcall := refUint_ow W0 wq vq (L4 ++ laidK (X i).z k) ((X i).z k) HOq.out.1 (by simp only [List.length_append]; omega)
     unfold u64 at hcall
     clear hc2
     go_wp2_with (go_at_call 99; refine hcall.mono ?_; rintro e w5 ⟨v5, rfl, hO5, hb5⟩)
     have HN : Hid (Ow W0 w5 v5 (L4 ++ laidK (X i).z (k + 1)) ∧ Below w4.heap.size w4 w5) := ⟨by
      have := hO5
      rw [List.append_assoc] at this
      exact this, HOq.out.2.1.trans (hb5.mono HOq.out.2.1.size)⟩
     clear hO5 hb5 hcall
     go_roundw
     case rel => exact ⟨k + 1, v5, by omega, rfl, by go_num, HN.out⟩
     case measure => simp [intOf]; omega
    ·obtain rfl : k = (X i).n := by omega
     have hnn : ¬ (((X i).n : Int) < (X i).n) := by omega
     go_wp2_with fail
     have hq : wq.drew.heap[wr.heap.size]? = some (.cells (bv (X i) ka kc) 126 (0, 0)) := HOq.out.2.2
     have Hq : Hid (Ow W0 wq.drew vq (L4 ++ laidK (X i).z (X i).n) ∧ wq.drew.heap[wr.heap.size]? = some (.cells (bv (X i) ka kc) 126 (0, 0))) := ⟨HOq.out.1.drew, hq⟩
     have S12 : wq.drew.rangeAt wr.heap.size 1 (bl (X i).lk 32) ∧ wq.drew.cell? ⟨wr.heap.size, 33, none⟩ = some (.int .i64 (X i).af) ∧ wq.drew.cell? ⟨wr.heap.size, 34, none⟩ = some (.int .i64 (X i).ol) := ⟨brl_lock (X i) ka kc hq, (bbox_of hq).c33, (bbox_of hq).c34⟩
     have lh := hB_length (X i).lk
     have la := uB_len (u64 (X i).af)
     have ca := u64_bd (X i).af
     clear hq
     refine wp_region_noPanic ?_
     refine wp_region_held_drew (S := fun w' => w'.rangeAt wr.heap.size 1 (bl (X i).lk 32) ∧ w'.cell? ⟨wr.heap.size, 33, none⟩ = some (.int .i64 (X i).af) ∧ w'.cell? ⟨wr.heap.size, 34, none⟩ = some (.int .i64 (X i).ol)) (by kernel_rfl) S12 (fun hHeld => ?_)
     refine wpT (i := 0) (oi := ⟨some 50, .move (.tmp 5), 33, _, _, none⟩) (v := ?_) rfl (by kernel_rfl) (fun _ _ _ h => h) (Or.inl ⟨by rfl, ?_⟩) (by assumption) ?_
     rotate_left
     ·intro wz hSw; (try dsimp only at hSw); go_simp; (try with_reducible rfl)
     try simp only [Act.put, zA, zB, zC]
     refine wpT (i := 1) (oi := ⟨some 51, .fieldAddr 126 (.tmp 7) 1, 0, _, _, none⟩) (v := ?_) rfl (by kernel_rfl) (fun _ _ _ h => h) (Or.inl ⟨by rfl, ?_⟩) (by assumption) ?_
     rotate_left
     ·intro wz hSw; (try dsimp only at hSw); go_simp; (try with_reducible rfl)
     try simp only [Act.put, zA, zB, zC]
     refine wpAnyH_take (i := 2) (oi := ⟨some 52, .load 23 (.tmp 51), 23, _, _, none⟩) rfl (by kernel_rfl) (by kernel_rfl) (by kernel_rfl) (fun _ _ _ h => h) (yieldsIf_load_mid (by rfl) _ _ rfl wr.heap.size 1 rfl (bl (X i).lk 32) _ (fun _ h => h.1) Tryz.underlying23 rfl (szHl _)) (by assumption) ?_
     try simp only [Act.put, zA, zB, zC]
     refine wpT (i := 4) (oi := ⟨some 54, .fieldAddr 126 (.tmp 7) 2, 0, _, _, none⟩) (v := ?_) rfl (by kernel_rfl) (fun _ _ _ h => h) (Or.inl ⟨by rfl, ?_⟩) (by assumption) ?_
     rotate_left
     ·intro wz hSw; (try dsimp only at hSw); go_simp; (try with_reducible rfl)
     try simp only [Act.put, zA, zB, zC]
     refine wpT (i := 5) (oi := ⟨some 55, .load 3 (.tmp 54), 3, _, _, none⟩) (v := ?_) rfl (by kernel_rfl) (fun _ _ _ h => h) (Or.inl ⟨by rfl, ?_⟩) (by assumption) ?_
     rotate_left
     ·intro wz hSw; (try dsimp only at hSw); go_simp; (try with_reducible rfl)
     try simp only [Act.put, zA, zB, zC]
     refine wpT (i := 6) (oi := ⟨some 56, .convert 3 203 (.tmp 55), 203, _, _, none⟩) (v := ?_) rfl (by kernel_rfl) (fun _ _ _ h => h) (Or.inl ⟨by rfl, ?_⟩) (by assumption) ?_
     rotate_left
     ·intro wz hSw; (try dsimp only at hSw); go_simp; (try with_reducible rfl)
     try simp only [Act.put, zA, zB, zC]
     refine wpT (i := 8) (oi := ⟨some 58, .fieldAddr 126 (.tmp 7) 3, 0, _, _, none⟩) (v := ?_) rfl (by kernel_rfl) (fun _ _ _ h => h) (Or.inl ⟨by rfl, ?_⟩) (by assumption) ?_
     rotate_left
     ·intro wz hSw; (try dsimp only at hSw); go_simp; (try with_reducible rfl)
     try simp only [Act.put, zA, zB, zC]
     refine wpT (i := 9) (oi := ⟨some 59, .load 3 (.tmp 58), 3, _, _, none⟩) (v := ?_) rfl (by kernel_rfl) (fun _ _ _ h => h) (Or.inl ⟨by rfl, ?_⟩) (by assumption) ?_
     rotate_left
     ·intro wz hSw; (try dsimp only at hSw); go_simp; (try with_reducible rfl)
     try simp only [Act.put, zA, zB, zC]
     refine wpT (i := 10) (oi := ⟨some 60, .convert 3 203 (.tmp 59), 203, _, _, none⟩) (v := ?_) rfl (by kernel_rfl) (fun _ _ _ h => h) (Or.inl ⟨by rfl, ?_⟩) (by assumption) ?_
     rotate_left
     ·intro wz hSw; (try dsimp only at hSw); go_simp; (try with_reducible rfl)
     try simp only [Act.put, zA, zB, zC]
     refine wpAnyH_ready (rs := [3]) (by kernel_rfl) (by simp) ?_
     refine (AllReadyH.cons (o := ⟨some 53, .call { callee := Go.Callee.value (.func 100), args := #[.tmp 50, .tmp 52], argTypes := #[33, 23] }, 33, _, _, none⟩) rfl (fun K hK => ?_) AllReadyH.nil)
     go_simp
     refine (refHash_ow W0 _ vq _ (X i).lk Hq.out.1 (by simp only [List.length_append]; omega) hok.lk).mono ?_
     rintro e w6 ⟨v6, rfl, hO, hb⟩
     have Hw6 : Hid (Ow W0 w6 v6 ((L4 ++ laidK (X i).z (X i).n) ++ hB (X i).lk) ∧ w6.heap[wr.heap.size]? = some (.cells (bv (X i) ka kc) 126 (0, 0))) := ⟨hO, by rw [hb.block _ (lt_of_block Hq.out.2)]; exact Hq.out.2⟩
     clear hO hb Hq
     refine hK.out _ _ ⟨brl_lock (X i) ka kc Hw6.out.2, (bbox_of Hw6.out.2).c33, (bbox_of Hw6.out.2).c34⟩ (fun _ => ?_)
     clear hK K
     refine wpAnyH_ready (rs := [7]) (by kernel_rfl) (by simp) ?_
     refine (AllReadyH.cons (o := ⟨some 57, .call { callee := Go.Callee.value (.func 99), args := #[.tmp 53, .tmp 56], argTypes := #[33, 203] }, 33, _, _, none⟩) rfl (fun K hK => ?_) AllReadyH.nil)
     go_simp
     refine (refUint_ow W0 _ v6 _ (X i).af Hw6.out.1 (by simp only [List.length_append]; omega)).mono ?_
     rintro e w7 ⟨v7, rfl, hO, hb⟩
     have Hw7 : Hid (Ow W0 w7 v7 (((L4 ++ laidK (X i).z (X i).n) ++ hB (X i).lk) ++ uB (u64 (X i).af)) ∧ w7.heap[wr.heap.size]? = some (.cells (bv (X i) ka kc) 126 (0, 0))) := ⟨hO, by rw [hb.block _ (lt_of_block Hw6.out.2)]; exact Hw6.out.2⟩
     clear hO hb Hw6
     refine hK.out _ _ ⟨brl_lock (X i) ka kc Hw7.out.2, (bbox_of Hw7.out.2).c33, (bbox_of Hw7.out.2).c34⟩ (fun _ => ?_)
     clear hK K
     refine wpAnyH_ready (rs := [11]) (by kernel_rfl) (by simp) ?_
     refine (AllReadyH.cons (o := ⟨some 61, .call { callee := Go.Callee.value (.func 99), args := #[.tmp 57, .tmp 60], argTypes := #[33, 203] }, 33, _, _, none⟩) rfl (fun K hK => ?_) AllReadyH.nil)
     go_simp
     refine (refUint_ow W0 _ v7 _ (X i).ol Hw7.out.1 (by simp only [List.length_append]; omega)).mono ?_
     rintro e w8 ⟨v8, rfl, hO, hb⟩
     have Hw8 : Hid (Ow W0 w8 v8 ((((L4 ++ laidK (X i).z (X i).n) ++ hB (X i).lk) ++ uB (u64 (X i).af)) ++ uB (u64 (X i).ol)) ∧ w8.heap[wr.heap.size]? = some (.cells (bv (X i) ka kc) 126 (0, 0))) := ⟨hO, by rw [hb.block _ (lt_of_block Hw7.out.2)]; exact Hw7.out.2⟩
     clear hO hb Hw7
     refine hK.out _ _ ⟨brl_lock (X i) ka kc Hw8.out.2, (bbox_of Hw8.out.2).c33, (bbox_of Hw8.out.2).c34⟩ (fun _ => ?_)
     clear hK K
     refine wpT (i := 12) (oi := ⟨some 5, .assign (.tmp 61), 33, _, _, none⟩) (v := ?_) rfl (by kernel_rfl) (fun _ _ _ h => h) (Or.inl ⟨by rfl, ?_⟩) (by assumption) ?_
     rotate_left
     ·intro wz hSw; (try dsimp only at hSw); go_simp; (try with_reducible rfl)
     try simp only [Act.put, zA, zB, zC]
     refine wpAnyH_done (by kernel_rfl) (NoPanic.normal ?_) _
     try simp only [Act.put, zA, zB, zC]
     have HN : Hid (Ow W0 w8 v8 (lb ++ (laidK (fun _ => (n : Int)) 1 ++ laidBrs X (i + 1)))) := by
      have h8 := Hw8.out.1
      have e8 : lb ++ (laidK (fun _ => (n : Int)) 1 ++ laidBrs X (i + 1)) = (((L4 ++ laidK (X i).z (X i).n) ++ hB (X i).lk) ++ uB (u64 (X i).af)) ++ uB (u64 (X i).ol) := by
       rw [hL4, hL]
       simp only [laidBrs, laidBr, List.append_assoc]
       rw [laidK_two]
       rfl
      show Ow _ _ _ _
      rw [e8]; exact h8
     clear hHeld Hw8
     go_wp2
     go_roundw
     case rel => exact ⟨i + 1, v8, by omega, rfl, by go_num, HN.out⟩
     case measure => simp [intOf]; omega
  ·obtain rfl : i = n := by omega
   have hnn : ¬ ((i : Int) < i) := by omega
   have HE : Hid (Ow w wr v (lb ++ laidC X i)) := HO.out.mono hb0
   go_wp2
   go_ret
   exact ⟨_, rfl, HE.out⟩
end Go.Proofs.YtjnepkggdkccaaaGreatDoor.Cd
