/- BLAKE2s on plain numbers: the step G, a round, a block taken in. -/
import Derived.Test.YtoefgfiabfkfaaaGreatDoorProg
import Derived.WalkKit
import Derived.WalkSpells
import Derived.Laws.BitsAllLaws
import Derived.Test.YtoefgfiabfkfaaaGreatDoorOwnShelf01
namespace Go.Proofs.YtoefgfiabfkfaaaGreatDoor

def addW (a b : Nat) : Nat := (a + b) % 4294967296
/-- x turned right by n bits. -/
def ror (n x : Nat) : Nat := (x <<< (32 - n)) % 4294967296 ||| (x >>> n)
def xorW (a b : Nat) : Nat := a ^^^ b
theorem addW_lt (a b : Nat) : addW a b < 4294967296 := Nat.mod_lt _ (by decide)
theorem xorW_lt {a b : Nat} (ha : a < 4294967296) (hb : b < 4294967296) : xorW a b < 4294967296 := Nat.xor_lt_two_pow (n := 32) ha hb
theorem ror_lt {n x : Nat} (hx : x < 4294967296) : ror n x < 4294967296 := by
 refine Nat.or_lt_two_pow (n := 32) (Nat.mod_lt _ (by decide)) ?_
 rw [Nat.shiftRight_eq_div_pow]
 exact Nat.lt_of_le_of_lt (Nat.div_le_self _ _) hx

structure Four where
 a : Nat
 b : Nat
 c : Nat
 d : Nat
/-- The step G: its two halves. -/
def half (r s : Nat) (q : Four) (x : Nat) : Four :=
 ⟨addW q.a (addW q.b x), ror s (xorW q.b (addW q.c (ror r (xorW q.d (addW q.a (addW q.b x)))))), addW q.c (ror r (xorW q.d (addW q.a (addW q.b x)))), ror r (xorW q.d (addW q.a (addW q.b x)))⟩
def gF (q : Four) (x y : Nat) : Four := half 8 7 (half 16 12 q x) y
/-- Four words, each of 32 bits. -/
def Four.Ok (q : Four) : Prop := q.a < 4294967296 ∧ q.b < 4294967296 ∧ q.c < 4294967296 ∧ q.d < 4294967296
theorem half_ok {r s : Nat} {q : Four} {x : Nat} (h : q.Ok) : (half r s q x).Ok := by
 obtain ⟨_, hb, _, hd⟩ := h
 have h1 : ror r (xorW q.d (addW q.a (addW q.b x))) < 4294967296 := ror_lt (xorW_lt hd (addW_lt _ _))
 exact ⟨addW_lt _ _, ror_lt (xorW_lt hb (addW_lt _ _)), addW_lt _ _, h1⟩
theorem gF_ok {q : Four} {x y : Nat} (h : q.Ok) : (gF q x y).Ok := half_ok (half_ok h)

/-- Words, each of 32 bits. -/
def Wd (n : Nat) (v : List Nat) : Prop := v.length = n ∧ ∀ i, v.getD i 0 < 4294967296
def four (v : List Nat) (a b c d : Nat) : Four := ⟨v.getD a 0, v.getD b 0, v.getD c 0, v.getD d 0⟩
def setF (v : List Nat) (a b c d : Nat) (q : Four) : List Nat := (((v.set a q.a).set b q.b).set c q.c).set d q.d
/-- G on four of the words. -/
def gAt (m : List Nat) (s : List Nat) (a b c d i j : Nat) (v : List Nat) : List Nat := setF v a b c d (gF (four v a b c d) (m.getD (s.getD i 0) 0) (m.getD (s.getD j 0) 0))
theorem Wd.set {n : Nat} {v : List Nat} (h : Wd n v) (i : Nat) {x : Nat} (hx : x < 4294967296) : Wd n (v.set i x) := by
 refine ⟨by simp [h.1], fun k => ?_⟩
 have := h.2 k
 rw [List.getD_eq_getElem?_getD] at this ⊢
 rw [List.getElem?_set]
 split
 ·split
  ·simpa using hx
  ·simp
 ·exact this
theorem setF_ok {n : Nat} {v : List Nat} (h : Wd n v) (a b c d : Nat) {q : Four} (hq : q.Ok) : Wd n (setF v a b c d q) :=
 (((h.set a hq.1).set b hq.2.1).set c hq.2.2.1).set d hq.2.2.2
theorem four_ok {n : Nat} {v : List Nat} (h : Wd n v) (a b c d : Nat) : (four v a b c d).Ok := ⟨h.2 a, h.2 b, h.2 c, h.2 d⟩
theorem gAt_ok {n : Nat} {v : List Nat} (m s : List Nat) (a b c d i j : Nat) (h : Wd n v) : Wd n (gAt m s a b c d i j v) := setF_ok h a b c d (gF_ok (four_ok h a b c d))
/-- A round. -/
def roundF (m s v : List Nat) : List Nat :=
 gAt m s 3 4 9 14 14 15 (gAt m s 2 7 8 13 12 13 (gAt m s 1 6 11 12 10 11 (gAt m s 0 5 10 15 8 9 (gAt m s 3 7 11 15 6 7 (gAt m s 2 6 10 14 4 5 (gAt m s 1 5 9 13 2 3 (gAt m s 0 4 8 12 0 1 v)))))))
theorem roundF_ok {n : Nat} {v : List Nat} (m s : List Nat) (h : Wd n v) : Wd n (roundF m s v) := by
 unfold roundF
 exact gAt_ok m s _ _ _ _ _ _ (gAt_ok m s _ _ _ _ _ _ (gAt_ok m s _ _ _ _ _ _ (gAt_ok m s _ _ _ _ _ _ (gAt_ok m s _ _ _ _ _ _ (gAt_ok m s _ _ _ _ _ _ (gAt_ok m s _ _ _ _ _ _ (gAt_ok m s _ _ _ _ _ _ h)))))))

/-- Bytes. -/
def By (n : Nat) (b : List Nat) : Prop := b.length = n ∧ ∀ i, b.getD i 0 < 256
/-- No word but 0; the words of a block's first i bytes, of each the lowest byte first. -/
def z16 : List Nat := List.replicate 16 0
def mP (b : List Nat) : Nat → List Nat
 | 0 => z16
 | i + 1 => (mP b i).set (i / 4) ((mP b i).getD (i / 4) 0 ||| (b.getD i 0 <<< (8 * (i % 4))))
theorem shl_lt {x r : Nat} (hx : x < 256) (hr : r < 4) : x <<< (8 * r) < 4294967296 := by
 rw [Nat.shiftLeft_eq]
 have : 2 ^ (8 * r) ≤ 2 ^ 24 := Nat.pow_le_pow_right (by decide) (by omega)
 have h2 : x * 2 ^ (8 * r) ≤ 255 * 2 ^ 24 := Nat.mul_le_mul (by omega) this
 omega
theorem mP_ok {b : List Nat} (hb : ∀ i, b.getD i 0 < 256) : ∀ i, Wd 16 (mP b i)
 | 0 => ⟨rfl, fun k => by
   have : (List.replicate 16 0).getD k 0 = 0 := by
    rw [List.getD_eq_getElem?_getD, List.getElem?_replicate]; split <;> rfl
   show z16.getD k 0 < _
   unfold z16
   rw [this]; decide⟩
 | i + 1 => (mP_ok hb i).set _ (Nat.or_lt_two_pow (n := 32) ((mP_ok hb i).2 _) (shl_lt (hb i) (Nat.mod_lt _ (by decide))))
end Go.Proofs.YtoefgfiabfkfaaaGreatDoor
/- The step G: bits.RotateLeft32 and blake.step. -/
namespace Go.Proofs.YtoefgfiabfkfaaaGreatDoor
open Go.RowKit

theorem xor_W (a b : Nat) (ha : a < 4294967296) (hb : b < 4294967296) : bits .xor .u32 (a : Int) (b : Int) = ((xorW a b : Nat) : Int) := u32_xor_nat a b ha hb
theorem add_W (a b : Nat) : ((a : Int) + b) % 4294967296 = ((addW a b : Nat) : Int) := by unfold addW; omega
theorem add_WW (a b x : Nat) : ((a : Int) + ((b : Int) + x) % 4294967296) % 4294967296 = ((addW a (addW b x) : Nat) : Int) := by unfold addW; omega

theorem ror16_or (x : Nat) (hx : x < 4294967296) : bits .or .u32 ((x : Int) * 65536 % 4294967296) ((x : Int) / 65536) = ((ror 16 x : Nat) : Int) := by
 rw [u32_or _ _ (by omega) (by omega) (by omega) (by omega)]
 have e1 : ((x : Int) * 65536 % 4294967296).toNat = x * 65536 % 4294967296 := by omega
 have e2 : ((x : Int) / 65536).toNat = x / 65536 := by omega
 rw [e1, e2]
 unfold ror
 rw [Nat.shiftLeft_eq, Nat.shiftRight_eq_div_pow]
set_option maxHeartbeats 400000 in
theorem rot16 (x : Nat) (hx : x < 4294967296) (w : World) : Calls Tryz.prog 92 #[.int .u32 x, .int .i64 (-16)] w fun e w' => e = .returned (.int .u32 (ror 16 x : Nat)) ∧ w' = w := by
 have hx' : (x : Int) < 4294967296 := by omega
 have hs : bits BinOp.and IntKind.u64 (IntKind.u64.wrap (-16)) 31 = 16 := by kernel_rfl
 have hr := ror16_or x hx
 go_enter Tryz.func92, Tryz.ntmps92
 go_wp2
 go_ret
 exact ⟨rfl, rfl⟩

theorem ror12_or (x : Nat) (hx : x < 4294967296) : bits .or .u32 ((x : Int) * 1048576 % 4294967296) ((x : Int) / 4096) = ((ror 12 x : Nat) : Int) := by
 rw [u32_or _ _ (by omega) (by omega) (by omega) (by omega)]
 have e1 : ((x : Int) * 1048576 % 4294967296).toNat = x * 1048576 % 4294967296 := by omega
 have e2 : ((x : Int) / 4096).toNat = x / 4096 := by omega
 rw [e1, e2]
 unfold ror
 rw [Nat.shiftLeft_eq, Nat.shiftRight_eq_div_pow]
set_option maxHeartbeats 400000 in
theorem rot12 (x : Nat) (hx : x < 4294967296) (w : World) : Calls Tryz.prog 92 #[.int .u32 x, .int .i64 (-12)] w fun e w' => e = .returned (.int .u32 (ror 12 x : Nat)) ∧ w' = w := by
 have hx' : (x : Int) < 4294967296 := by omega
 have hs : bits BinOp.and IntKind.u64 (IntKind.u64.wrap (-12)) 31 = 20 := by kernel_rfl
 have hr := ror12_or x hx
 go_enter Tryz.func92, Tryz.ntmps92
 go_wp2
 go_ret
 exact ⟨rfl, rfl⟩

theorem ror8_or (x : Nat) (hx : x < 4294967296) : bits .or .u32 ((x : Int) * 16777216 % 4294967296) ((x : Int) / 256) = ((ror 8 x : Nat) : Int) := by
 rw [u32_or _ _ (by omega) (by omega) (by omega) (by omega)]
 have e1 : ((x : Int) * 16777216 % 4294967296).toNat = x * 16777216 % 4294967296 := by omega
 have e2 : ((x : Int) / 256).toNat = x / 256 := by omega
 rw [e1, e2]
 unfold ror
 rw [Nat.shiftLeft_eq, Nat.shiftRight_eq_div_pow]
set_option maxHeartbeats 400000 in
theorem rot8 (x : Nat) (hx : x < 4294967296) (w : World) : Calls Tryz.prog 92 #[.int .u32 x, .int .i64 (-8)] w fun e w' => e = .returned (.int .u32 (ror 8 x : Nat)) ∧ w' = w := by
 have hx' : (x : Int) < 4294967296 := by omega
 have hs : bits BinOp.and IntKind.u64 (IntKind.u64.wrap (-8)) 31 = 24 := by kernel_rfl
 have hr := ror8_or x hx
 go_enter Tryz.func92, Tryz.ntmps92
 go_wp2
 go_ret
 exact ⟨rfl, rfl⟩

theorem ror7_or (x : Nat) (hx : x < 4294967296) : bits .or .u32 ((x : Int) * 33554432 % 4294967296) ((x : Int) / 128) = ((ror 7 x : Nat) : Int) := by
 rw [u32_or _ _ (by omega) (by omega) (by omega) (by omega)]
 have e1 : ((x : Int) * 33554432 % 4294967296).toNat = x * 33554432 % 4294967296 := by omega
 have e2 : ((x : Int) / 128).toNat = x / 128 := by omega
 rw [e1, e2]
 unfold ror
 rw [Nat.shiftLeft_eq, Nat.shiftRight_eq_div_pow]
set_option maxHeartbeats 400000 in
theorem rot7 (x : Nat) (hx : x < 4294967296) (w : World) : Calls Tryz.prog 92 #[.int .u32 x, .int .i64 (-7)] w fun e w' => e = .returned (.int .u32 (ror 7 x : Nat)) ∧ w' = w := by
 have hx' : (x : Int) < 4294967296 := by omega
 have hs : bits BinOp.and IntKind.u64 (IntKind.u64.wrap (-7)) 31 = 25 := by kernel_rfl
 have hr := ror7_or x hx
 go_enter Tryz.func92, Tryz.ntmps92
 go_wp2
 go_ret
 exact ⟨rfl, rfl⟩

set_option maxHeartbeats 1600000 in
theorem step_any (a b c d x y : Nat) (hb : b < 4294967296) (hd : d < 4294967296) (w : World) :
  Calls Tryz.prog 91 #[.int .u32 a, .int .u32 b, .int .u32 c, .int .u32 d, .int .u32 x, .int .u32 y] w fun e w' =>
   e = .returned (.tuple #[.int .u32 ((gF ⟨a, b, c, d⟩ x y).a : Nat), .int .u32 ((gF ⟨a, b, c, d⟩ x y).b : Nat), .int .u32 ((gF ⟨a, b, c, d⟩ x y).c : Nat), .int .u32 ((gF ⟨a, b, c, d⟩ x y).d : Nat)]) ∧ w' = w := by
 have E : Hid (∀ a1 x1 d1 c1 x2 b1 a2 x3 d2 c2 x4 b2 : Nat, a1 = addW a (addW b x) → x1 = xorW d a1 → d1 = ror 16 x1 → c1 = addW c d1 → x2 = xorW b c1 → b1 = ror 12 x2 → a2 = addW a1 (addW b1 y) → x3 = xorW d1 a2 → d2 = ror 8 x3 → c2 = addW c1 d2 → x4 = xorW b1 c2 → b2 = ror 7 x4 → gF ⟨a, b, c, d⟩ x y = ⟨a2, b2, c2, d2⟩) := by
  intro a1 x1 d1 c1 x2 b1 a2 x3 d2 c2 x4 b2 h1 h2 h3 h4 h5 h6 h7 h8 h9 h10 h11 h12
  subst h12 h11 h10 h9 h8 h7 h6 h5 h4 h3 h2 h1
  rfl
 have n1 := add_WW a b x
 obtain ⟨a1, ha1⟩ : ∃ n, n = addW a (addW b x) := ⟨_, rfl⟩
 have la1 : a1 < 4294967296 := by rw [ha1]; exact addW_lt _ _
 rw [← ha1] at n1
 have n2 := xor_W d a1 hd la1
 obtain ⟨x1, hx1⟩ : ∃ n, n = xorW d a1 := ⟨_, rfl⟩
 have lx1 : x1 < 4294967296 := by rw [hx1]; exact xorW_lt hd la1
 rw [← hx1] at n2
 obtain ⟨d1, hd1⟩ : ∃ n, n = ror 16 x1 := ⟨_, rfl⟩
 have ld1 : d1 < 4294967296 := by rw [hd1]; exact ror_lt lx1
 have k1 := rot16 x1 lx1 w
 rw [← hd1] at k1
 have n3 := add_W c d1
 obtain ⟨c1, hc1⟩ : ∃ n, n = addW c d1 := ⟨_, rfl⟩
 have lc1 : c1 < 4294967296 := by rw [hc1]; exact addW_lt _ _
 rw [← hc1] at n3
 have n4 := xor_W b c1 hb lc1
 obtain ⟨x2, hx2⟩ : ∃ n, n = xorW b c1 := ⟨_, rfl⟩
 have lx2 : x2 < 4294967296 := by rw [hx2]; exact xorW_lt hb lc1
 rw [← hx2] at n4
 obtain ⟨b1, hb1⟩ : ∃ n, n = ror 12 x2 := ⟨_, rfl⟩
 have lb1 : b1 < 4294967296 := by rw [hb1]; exact ror_lt lx2
 have k2 := rot12 x2 lx2 w
 rw [← hb1] at k2
 have n5 := add_WW a1 b1 y
 obtain ⟨a2, ha2⟩ : ∃ n, n = addW a1 (addW b1 y) := ⟨_, rfl⟩
 have la2 : a2 < 4294967296 := by rw [ha2]; exact addW_lt _ _
 rw [← ha2] at n5
 have n6 := xor_W d1 a2 ld1 la2
 obtain ⟨x3, hx3⟩ : ∃ n, n = xorW d1 a2 := ⟨_, rfl⟩
 have lx3 : x3 < 4294967296 := by rw [hx3]; exact xorW_lt ld1 la2
 rw [← hx3] at n6
 obtain ⟨d2, hd2⟩ : ∃ n, n = ror 8 x3 := ⟨_, rfl⟩
 have ld2 : d2 < 4294967296 := by rw [hd2]; exact ror_lt lx3
 have k3 := rot8 x3 lx3 w
 rw [← hd2] at k3
 have n7 := add_W c1 d2
 obtain ⟨c2, hc2⟩ : ∃ n, n = addW c1 d2 := ⟨_, rfl⟩
 have lc2 : c2 < 4294967296 := by rw [hc2]; exact addW_lt _ _
 rw [← hc2] at n7
 have n8 := xor_W b1 c2 lb1 lc2
 obtain ⟨x4, hx4⟩ : ∃ n, n = xorW b1 c2 := ⟨_, rfl⟩
 have lx4 : x4 < 4294967296 := by rw [hx4]; exact xorW_lt lb1 lc2
 rw [← hx4] at n8
 obtain ⟨b2, hb2⟩ : ∃ n, n = ror 7 x4 := ⟨_, rfl⟩
 have k4 := rot7 x4 lx4 w
 rw [← hb2] at k4
 have EE := E.out a1 x1 d1 c1 x2 b1 a2 x3 d2 c2 x4 b2 ha1 hx1 hd1 hc1 hx2 hb1 ha2 hx3 hd2 hc2 hx4 hb2
 rw [EE]
 clear E EE ha1 hx1 hd1 hc1 hx2 hb1 ha2 hx3 hd2 hc2 hx4 hb2
 have C1 : Hid (Calls Tryz.prog 92 #[.int .u32 x1, .int .i64 (-16)] w fun e w' => e = .returned (.int .u32 (d1 : Nat)) ∧ w' = w) := k1
 have C2 : Hid (Calls Tryz.prog 92 #[.int .u32 x2, .int .i64 (-12)] w fun e w' => e = .returned (.int .u32 (b1 : Nat)) ∧ w' = w) := k2
 have C3 : Hid (Calls Tryz.prog 92 #[.int .u32 x3, .int .i64 (-8)] w fun e w' => e = .returned (.int .u32 (d2 : Nat)) ∧ w' = w) := k3
 have C4 : Hid (Calls Tryz.prog 92 #[.int .u32 x4, .int .i64 (-7)] w fun e w' => e = .returned (.int .u32 (b2 : Nat)) ∧ w' = w) := k4
 clear k1 k2 k3 k4
 go_enter Tryz.func91, Tryz.ntmps91
 go_wp2_with fail
 refine C1.out.mono ?_
 rintro e w' ⟨rfl, rfl⟩
 go_wp2_with fail
 refine C2.out.mono ?_
 rintro e w1 ⟨rfl, rfl⟩
 go_wp2_with fail
 refine C3.out.mono ?_
 rintro e w1 ⟨rfl, rfl⟩
 go_wp2_with fail
 refine C4.out.mono ?_
 rintro e w1 ⟨rfl, rfl⟩
 go_wp2
 exact bodyPost_ret (v := .tuple #[.int .u32 (a2 : Nat), .int .u32 (b2 : Nat), .int .u32 (c2 : Nat), .int .u32 (d2 : Nat)]) (by simp [results, Tryz.results91, go_sem]) rfl ⟨rfl, rfl⟩
end Go.Proofs.YtoefgfiabfkfaaaGreatDoor
/- Rows of words; slots of a frame; one cell loaded and stored. -/
namespace Go.Proofs.YtoefgfiabfkfaaaGreatDoor
open Go.RowKit

/-- Words, and small numbers, as cells. -/
def wl (v : List Nat) : List Value := v.map fun x => Value.int .u32 (x : Nat)
def wv (v : List Nat) : Array Value := (wl v).toArray
def sl8 (s : List Nat) : List Value := s.map fun x => Value.int .u8 (x : Nat)
def sv (s : List Nat) : Array Value := (sl8 s).toArray
theorem wv_size (v : List Nat) : (wv v).size = v.length := by simp [wv, wl]
theorem wv_at {v : List Nat} {j : Nat} (h : j < v.length) : (wv v)[j]? = some (.int .u32 (v.getD j 0 : Nat)) := by
 simp [wv, wl, List.getElem?_map, List.getElem?_eq_getElem h, List.getD_eq_getElem?_getD]
theorem sv_at {v : List Nat} {j : Nat} (h : j < v.length) : (sv v)[j]? = some (.int .u8 (v.getD j 0 : Nat)) := by
 simp [sv, sl8, List.getElem?_map, List.getElem?_eq_getElem h, List.getD_eq_getElem?_getD]
theorem wv_one (v : List Nat) : (wv v).all (·.oneCell') = true := by
 refine all_oneCell_toArray (fun u hu => ?_)
 obtain ⟨x, _, rfl⟩ := List.mem_map.1 hu
 rfl
theorem wv_set {w : World} {g : Nat} {t : TypeId} {v : List Nat} (h : w.heap[g]? = some (.cells (wv v) t (0, 0))) (j x : Nat) :
  (w.setCell ⟨g, j, none⟩ (.int .u32 (x : Nat))).heap[g]? = some (.cells (wv (v.set j x)) t (0, 0)) := by
 rw [heap_setCell_same w g j _ t _ h]
 simp [wv, wl, List.map_set]

section
variable {a : Act} {d x : Nat} {v : Value} {o : Option Tmp}
theorem ev_same (h : d < a.tmps.size) : (a.put (some d) v).eval (.tmp d) = v := by simp [Act.put, Act.eval, h]
theorem ev_ne (h : d ≠ x) : (a.put (some d) v).eval (.tmp x) = a.eval (.tmp x) := Act.eval_put (fun e he => by cases he; simpa using Ne.symm h)
theorem put_size : (a.put o v).tmps.size = a.tmps.size := by cases o <;> simp [Act.put]
theorem put_defers' : (a.put o v).defers = a.defers := by cases o <;> rfl
end

section
variable {P : Program} {o : Oper} {a : Act} {w : World} {K : Act → World → Prop} {Q : Exit → Act → World → Prop}
theorem ru_move {x : Operand} (ho : o.op = .move x) {v : Value} (hx : a.eval x = v) : (execOp a.eval o).run P w = .ok (.value v) w := by
 unfold execOp; simp [ho, hx]
theorem ru_nil {x : Operand} (ho : o.op = .nilCheck x) {ad : Addr} (hx : a.eval x = .pointer (some ad)) : (execOp a.eval o).run P w = .ok (.value (.pointer (some ad))) w := by
 unfold execOp; simp [ho, hx]
theorem ru_idx {t e : TypeId} {x y : Operand} (ho : o.op = .indexAddr t x y) {g n j : Nat} {k : IntKind} {i : Int} (hu : P.underlying t = some (.array n e)) (hz : ∀ w, (sizeOf e).run P w = .ok 1 w)
  (hx : a.eval x = .pointer (some ⟨g, 0, none⟩)) (hy : a.eval y = .int k i) (hi : i = j) (hj : j < n) : (execOp a.eval o).run P w = .ok (.value (.pointer (some ⟨g, j, none⟩))) w := by
 subst hi
 unfold execOp
 simp [ho, hx, hy, Instr.indexAt, run_underlying hu, Instr.sureAddr, asIntOf, hz, Addr.add, hj]
 by_cases h0 : j = 0
 ·simp [h0]
 ·simp [h0]
theorem ru_ext {x : Operand} {i : Nat} {l : Array Value} {v : Value} (ho : o.op = .extract x i) (hx : a.eval x = .tuple l) (hi : l[i]? = some v) : (execOp a.eval o).run P w = .ok (.value v) w := by
 unfold execOp; simp [ho, hx, Instr.extract, hi]
end
theorem ru_ld32 {o : Oper} {a : Act} {w : World} {x : Operand} (ho : o.op = .load 120 x) {g j : Nat} {u : Value} (hx : a.eval x = .pointer (some ⟨g, j, none⟩)) (hc : w.cell? ⟨g, j, none⟩ = some u) : (execOp a.eval o).run Tryz.prog w = .ok (.value u) w := by
 unfold execOp
 simp only [ho, hx]
 go_simp
theorem ru_ld8 {o : Oper} {a : Act} {w : World} {x : Operand} (ho : o.op = .load 5 x) {g j : Nat} {u : Value} (hx : a.eval x = .pointer (some ⟨g, j, none⟩)) (hc : w.cell? ⟨g, j, none⟩ = some u) : (execOp a.eval o).run Tryz.prog w = .ok (.value u) w := by
 unfold execOp
 simp only [ho, hx]
 go_simp
theorem wp_st32 {o : Oper} {a : Act} {w : World} {K : Act → World → Prop} {Q : Exit → Act → World → Prop} {x y : Operand} (ho : o.op = .store 120 x y) (hd : o.dst = none) {g j : Nat} {u : Value} {n : Int} (hx : a.eval x = .pointer (some ⟨g, j, none⟩)) (hy : a.eval y = .int .u32 n)
  (hc : w.cell? ⟨g, j, none⟩ = some u) (hf : w.frozen? ⟨g, j, none⟩ = false) (h : K a (w.setCell ⟨g, j, none⟩ (.int .u32 n))) : o.wp Tryz.prog a w K Q := by
 unfold Oper.wp execOp
 simp only [ho, hx, hy]
 go_simp
 exact h
theorem hz32 (w : World) : (sizeOf 120).run Tryz.prog w = .ok 1 w := by kernel_rfl
end Go.Proofs.YtoefgfiabfkfaaaGreatDoor
