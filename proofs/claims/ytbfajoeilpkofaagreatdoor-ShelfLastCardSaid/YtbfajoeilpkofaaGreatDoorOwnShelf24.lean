/- Whether an area lies on a store's pages. -/
import Derived.Test.YtbfajoeilpkofaaGreatDoorOwnShelf23
import Derived.Test.YtbfajoeilpkofaaGreatDoorOwnShelf12
import Derived.Test.YtbfajoeilpkofaaGreatDoorOwnShelf09
import Derived.Deep.RegionHeld
import Derived.Laws.IdiomStrings
namespace Go.Proofs.YtbfajoeilpkofaaGreatDoor
open Go.RowKit Go.Maps Go.Sort

attribute [local go_sem ↓] Go.wp_at_zero Go.wp_at_succ

/-- Can an area be, and does it lie on so many pages? -/
def liesB (f n N : Int) : Bool := decide (2 ≤ n ∧ n ≤ 1024 ∧ 0 ≤ f ∧ f ≤ N - n)
def areaV (f n : Int) : Value := .agg #[.int .i64 f, .int .i64 n]
set_option maxRecDepth 100000 in
set_option maxHeartbeats 1600000 in
theorem lies_any (f n N : Int) (hN : 0 ≤ N ∧ N ≤ 4096) (w : World) :
    Calls Tryz.prog 33 #[.agg #[.int .i64 f, .int .i64 n], .int .i64 N] w fun e w' => e = .returned (.bool (liesB f n N)) ∧ Below w.heap.size w w' := by
  obtain ⟨r, hr⟩ : ∃ r, liesB f n N = r := ⟨_, rfl⟩
  rw [hr]
  unfold liesB at hr
  have HB : Hid (Below w.heap.size w (w.alloc (.cells #[.int .i64 f, .int .i64 n] 35))) := (Below.refl _ w).alloc (Nat.le_refl _) _
  by_cases h1 : 2 ≤ n
  · by_cases h2 : n ≤ 1024
    · by_cases h3 : 0 ≤ f
      · have hs : IntKind.i64.wrap (N - n) = N - n := by rw [IntKind.wrap_i64]; omega
        by_cases h4 : f ≤ N - n
        · obtain rfl : true = r := by rw [← hr]; simp [h1, h2, h3, h4]
          clear hr
          go_enter Tryz.func33, Tryz.ntmps33
          go_wp2
          go_ret
          exact ⟨rfl, HB.out⟩
        · obtain rfl : false = r := by rw [← hr]; simp [h1, h2, h3, h4]
          clear hr
          go_enter Tryz.func33, Tryz.ntmps33
          go_wp2
          go_ret
          exact ⟨rfl, HB.out⟩
      · obtain rfl : false = r := by rw [← hr]; simp [h3]
        clear hr
        go_enter Tryz.func33, Tryz.ntmps33
        go_wp2
        go_ret
        exact ⟨rfl, HB.out⟩
    · obtain rfl : false = r := by rw [← hr]; simp [h2]
      clear hr
      go_enter Tryz.func33, Tryz.ntmps33
      go_wp2
      go_ret
      exact ⟨rfl, HB.out⟩
  · obtain rfl : false = r := by rw [← hr]; simp [h1]
    clear hr
    go_enter Tryz.func33, Tryz.ntmps33
    go_wp2
    go_ret
    exact ⟨rfl, HB.out⟩
end Go.Proofs.YtbfajoeilpkofaaGreatDoor
/- Strings as bytes; a leaf laid: what is known on the way. -/
namespace Go.Proofs.YtbfajoeilpkofaaGreatDoor
open Go.RowKit Go.Maps Go.Sort

attribute [local go_sem ↓] Go.wp_at_zero Go.wp_at_succ

/-- A string's bytes as numbers. -/
def iU (u : List UInt8) : List Int := u.map fun x => (x.toNat : Int)
theorem iU_length (u : List UInt8) : (iU u).length = u.length := by simp [iU]
theorem iU_bd (u : List UInt8) : ∀ x, x ∈ iU u → 0 ≤ x ∧ x ≤ 255 := by
  intro x hx
  obtain ⟨y, _, rfl⟩ := List.mem_map.1 hx
  have := y.toNat_lt
  omega
/-- A string as it is laid. -/
def encB (u : List UInt8) : List Int := escF (fn (iU u)) u.length ++ [0, 0]
def leafB (k v : List UInt8) : List Int := encB k ++ encB v
theorem encB_le (u : List UInt8) : (encB u).length ≤ 2 * u.length + 2 := by
  have := escF_le (fn (iU u)) u.length
  simp only [encB, List.length_append, List.length_cons, List.length_nil]
  omega
/-- Behind a conversion of a string to bytes. -/
structure ConvR (u u' : World) (c : Nat) (k : List UInt8) : Prop where
  sl : SlAt u' (some ⟨c, 0, none⟩) k.length (fn (iU k))
  ge : u.heap.size ≤ c
  lt : c < u'.heap.size
  below : Below u.heap.size u u'
theorem conv_str (k : List UInt8) (w : World) : ∃ c cap w1, (convert 9 29 (encStr k)).run Tryz.prog w = .ok (.slice (some ⟨c, 0, none⟩) k.length cap) w1 ∧ ConvR w w1 c k := by
  have h := run_bytes_of_string (P := Tryz.prog) w 9 29 5 ⟨k.toArray⟩ Tryz.underlying9 Tryz.underlying29 Tryz.underlying5
  refine ⟨_, _, _, h, ?_, Nat.le_refl _, by simp, ((Below.refl _ w).drew.alloc (Nat.le_refl _) _)⟩
  refine ⟨fun j hj => by
    rw [fn_get _ _ (by rw [iU_length]; exact hj)]
    exact iU_bd k _ (List.getElem_mem _), fun hn => ⟨_, _, rfl, fun j hj => ?_⟩⟩
  have hb := heap_alloc_new w.drew (.cells (bytesRow ⟨k.toArray⟩ (grownCap w (⟨k.toArray⟩ : ByteArray).size 0 5)) 5 ((bytesRow ⟨k.toArray⟩ (grownCap w (⟨k.toArray⟩ : ByteArray).size 0 5)).size, (bytesRow ⟨k.toArray⟩ (grownCap w (⟨k.toArray⟩ : ByteArray).size 0 5)).size + 1))
  have hs : w.drew.heap.size = w.heap.size := rfl
  rw [hs] at hb
  rw [World.cell?, hb]
  simp only [bytesRow, Array.getElem?_append]
  simp [fn, iU, hj]
theorem step_conv {ops : Array Oper} {o : Oper} {a : Act} {w : World} {K : Act → World → Prop} {Q : Exit → Act → World → Prop} {E : Prop} (hgd : o.guard = none) (x : Operand) (ho : o.op = .convert 9 29 x) (k : List UInt8) (hx : a.eval x = encStr k)
    (h : ∀ c cap w1, ConvR w w1 c k → K (a.put o.dst (.slice (some ⟨c, 0, none⟩) k.length cap)) w1) : if Region.wanted o (yielded ops a.tmps) = true then Oper.wp Tryz.prog o a w K Q else E := by
  have hw : Region.wanted o (yielded ops a.tmps) = true := by simp [Region.wanted, hgd]
  rw [if_pos hw]
  obtain ⟨c, cap, w1, hr, h2⟩ := conv_str k w
  unfold Oper.wp execOp
  simp only [ho, hx, Sem.run_bind, hr, Result.andThen_ok, Sem.run_pure]
  exact h c cap w1 h2
theorem WrAt.frm {S : List Nat} {w w' : World} {B p : Nat} {g : Option Nat} {l : List Int} (h : WrAt w B p g l) (hf : Frm S w w') (hp : p ∉ S) (hg : ∀ k, g = some k → k ∉ S) : WrAt w' B p g l := by
  obtain ⟨v, h1, h2, h3, h4, h5⟩ := h
  refine ⟨v, hf.heap h1 hp, ⟨h2.1, ?_⟩, h3, h4, h5⟩
  rcases h2.2 with hn | ⟨k, cap, cur, e, hbs, hg', rest⟩
  · exact .inl hn
  · exact .inr ⟨k, cap, cur, e, hbs, hf.heap hg' (hg k (by rw [← h3, e]; rfl)), rest⟩
theorem WrAt.lt {w : World} {B p : Nat} {g : Option Nat} {l : List Int} (h : WrAt w B p g l) : p < w.heap.size ∧ B ≤ p ∧ ∀ k, g = some k → k < w.heap.size ∧ B ≤ k := by
  obtain ⟨v, h1, h2, h3, h4, h5⟩ := h
  exact ⟨lt_of_block h1, h4, fun k e => by have := h2.lt k (h3.trans e); omega⟩
theorem WrAt.base {w : World} {B C p : Nat} {g : Option Nat} {l : List Int} (h : WrAt w B p g l) (hc : C ≤ B) : WrAt w C p g l := by
  obtain ⟨v, h1, h2, h3, h4, h5⟩ := h
  refine ⟨v, h1, ⟨h2.1, ?_⟩, h3, Nat.le_trans hc h4, h5⟩
  rcases h2.2 with hn | ⟨k, cap, cur, e, hbs, rest⟩
  · exact .inl hn
  · exact .inr ⟨k, cap, cur, e, Nat.le_trans hc hbs, rest⟩
theorem WrAt.keepB {w w' : World} {B p : Nat} {g : Option Nat} {l : List Int} (h : WrAt w B p g l) (hb : Below w.heap.size w w') : WrAt w' B p g l := h.frm (S := []) (Frm.ofBelow hb) (by simp) (fun _ _ => by simp)
theorem SlAt.keepB {w w' : World} {ad : Option Addr} {n : Nat} {z : Nat → Int} (h : SlAt w ad n z) (hb : Below w.heap.size w w') : SlAt w' ad n z := h.block fun b _ hn e => hb.block b (h.lt hn e)
/-- On the way: the writer (its block, its row's, what it laid), the key's bytes, the value's. -/
structure LK (u0 u : World) (P : Option (Nat × Option Nat × List Int)) (A1 A2 : Option Nat) (k v : List UInt8) : Prop where
  below : Below u0.heap.size u0 u
  wr : ∀ x, P = some x → WrAt u u0.heap.size x.1 x.2.1 x.2.2
  k1 : ∀ c, A1 = some c → SlAt u (some ⟨c, 0, none⟩) k.length (fn (iU k)) ∧ c < u.heap.size ∧ ∀ x, P = some x → some c ≠ x.2.1
  k2 : ∀ c, A2 = some c → SlAt u (some ⟨c, 0, none⟩) v.length (fn (iU v)) ∧ c < u.heap.size ∧ ∀ x, P = some x → some c ≠ x.2.1
section
variable {u0 u u' : World} {P : Option (Nat × Option Nat × List Int)} {A1 A2 : Option Nat} {k v : List UInt8} {c : Nat}
theorem LK.start (u0 : World) (k v : List UInt8) : LK u0 u0 none none none k v := ⟨Below.refl _ _, (fun x e => by cases e), (fun x e => by cases e), fun x e => by cases e⟩
theorem LK.conv1 (h : LK u0 u P none A2 k v) (hc : ConvR u u' c k) : LK u0 u' P (some c) A2 k v := by
  have hs := hc.below.size
  refine ⟨Below.transS h.below hc.below, fun x e => (h.wr x e).keepB hc.below, fun c' e => ?_, fun c' e => ?_⟩
  · cases e
    exact ⟨hc.sl, hc.lt, fun x e e2 => by have := ((h.wr x e).lt.2.2 c e2.symm).1; have := hc.ge; omega⟩
  · obtain ⟨h1, h2, h3⟩ := h.k2 c' e
    exact ⟨h1.keepB hc.below, by omega, h3⟩
theorem LK.conv2 (h : LK u0 u P A1 none k v) (hc : ConvR u u' c v) : LK u0 u' P A1 (some c) k v := by
  have hs := hc.below.size
  refine ⟨Below.transS h.below hc.below, fun x e => (h.wr x e).keepB hc.below, fun c' e => ?_, fun c' e => ?_⟩
  · obtain ⟨h1, h2, h3⟩ := h.k1 c' e
    exact ⟨h1.keepB hc.below, by omega, h3⟩
  · cases e
    exact ⟨hc.sl, hc.lt, fun x e e2 => by have := ((h.wr x e).lt.2.2 c e2.symm).1; have := hc.ge; omega⟩
theorem LK.new (h : LK u0 u none A1 A2 k v) : Calls Tryz.prog 77 #[] u fun e u' => ∃ p, e = .returned (.pointer (some ⟨p, 0, none⟩)) ∧ LK u0 u' (some (p, none, [])) A1 A2 k v := by
  refine (newE_any u).mono ?_
  rintro e u' ⟨rfl, rfl⟩
  have hb : Below u.heap.size u (u.alloc (.cells #[.slice none 0 0] 195)) := (Below.refl _ u).alloc (Nat.le_refl _) _
  have hs := hb.size
  refine ⟨_, rfl, Below.transS h.below hb, fun x e => ?_, fun c e => ?_, fun c e => ?_⟩
  · cases e; exact (new_wr u).base h.below.size
  · obtain ⟨h1, h2, _⟩ := h.k1 c e
    exact ⟨h1.keepB hb, by omega, fun x e => by cases e; simp⟩
  · obtain ⟨h1, h2, _⟩ := h.k2 c e
    exact ⟨h1.keepB hb, by omega, fun x e => by cases e; simp⟩
theorem LK.by1 {p : Nat} {g : Option Nat} {l : List Int} {cap : Nat} (h : LK u0 u (some (p, g, l)) (some c) A2 k v) (hk : k.length ≤ 1000000) (hl : l.length ≤ 10000000) :
    Calls Tryz.prog 78 #[.pointer (some ⟨p, 0, none⟩), .slice (some ⟨c, 0, none⟩) k.length cap] u fun e u' => e = .returned (.pointer (some ⟨p, 0, none⟩)) ∧ ∃ g', LK u0 u' (some (p, g', l ++ encB k)) none A2 k v := by
  have hw := h.wr _ rfl
  obtain ⟨s1, s2, s3⟩ := h.k1 c rfl
  refine (wrBytes_any p u0.heap.size g l (some ⟨c, 0, none⟩) k.length cap (fn (iU k)) u hw (by omega) s1 (fun b off hn e => by cases e; exact s3 _ rfl)).mono ?_
  rintro e u' ⟨rfl, g', hw', hf, hg⟩
  refine ⟨rfl, g', h.below.trans (hf.below h.below.size (fun j hj => ?_)), (fun x e => by cases e; exact hw'), (fun c e => by cases e), fun c2 e => ?_⟩
  · simp at hj
    rcases hj with rfl | hj
    · exact hw.lt.2.1
    · exact (hw.lt.2.2 j hj).2
  · obtain ⟨h1, h2, h3⟩ := h.k2 c2 e
    have hs := hf.size
    refine ⟨h1.frm hf (fun b off hn e => ?_), by omega, fun x e e2 => ?_⟩
    · cases e
      intro hm
      simp at hm
      rcases hm with hm | hm
      · exact h1.ne_wr hw hn rfl hm
      · exact h3 _ rfl hm.symm
    · cases e
      rcases hg with rfl | ⟨b, rfl, hb⟩
      · exact h3 _ rfl e2
      · cases e2; omega
theorem LK.by2 {p : Nat} {g : Option Nat} {l : List Int} {cap : Nat} (h : LK u0 u (some (p, g, l)) none (some c) k v) (hv : v.length ≤ 1000000) (hl : l.length ≤ 10000000) :
    Calls Tryz.prog 78 #[.pointer (some ⟨p, 0, none⟩), .slice (some ⟨c, 0, none⟩) v.length cap] u fun e u' => e = .returned (.pointer (some ⟨p, 0, none⟩)) ∧ ∃ g', LK u0 u' (some (p, g', l ++ encB v)) none none k v := by
  have hw := h.wr _ rfl
  obtain ⟨s1, s2, s3⟩ := h.k2 c rfl
  refine (wrBytes_any p u0.heap.size g l (some ⟨c, 0, none⟩) v.length cap (fn (iU v)) u hw (by omega) s1 (fun b off hn e => by cases e; exact s3 _ rfl)).mono ?_
  rintro e u' ⟨rfl, g', hw', hf, hg⟩
  refine ⟨rfl, g', h.below.trans (hf.below h.below.size (fun j hj => ?_)), (fun x e => by cases e; exact hw'), (fun c e => by cases e), (fun c e => by cases e)⟩
  simp at hj
  rcases hj with rfl | hj
  · exact hw.lt.2.1
  · exact (hw.lt.2.2 j hj).2
/-- Bytes of one's own. -/
def OwnB (u0 u : World) (ad : Option Addr) (cap : Nat) (l : List Int) : Prop := SlAt u ad l.length (fn l) ∧ (ad = none → l.length = 0 ∧ cap = 0) ∧ (∀ a, ad = some a → u0.heap.size ≤ a.block) ∧ Below u0.heap.size u0 u ∧ (∀ y, y ∈ l → 0 ≤ y ∧ y ≤ 255)
theorem LK.done {p : Nat} {g : Option Nat} {l : List Int} (h : LK u0 u (some (p, g, l)) none none k v) (hl : l.length ≤ 100000000) :
    Calls Tryz.prog 79 #[.pointer (some ⟨p, 0, none⟩)] u fun e u' => ∃ ad cap, e = .returned (.slice ad l.length cap) ∧ OwnB u0 u' ad cap l := by
  have hw := h.wr _ rfl
  have hbd : ∀ y, y ∈ l → 0 ≤ y ∧ y ≤ 255 := by obtain ⟨_, _, _, _, _, hx⟩ := hw; exact hx
  refine (wrDone_any p u0.heap.size g l u hw (by omega)).mono ?_
  rintro e u' ⟨ad, cap, rfl, _, h2, h3, h4, hb⟩
  exact ⟨ad, cap, rfl, h2, h3, (fun a e => Nat.le_trans h.below.size (h4 a e)), Below.transS h.below hb, hbd⟩
end
end Go.Proofs.YtbfajoeilpkofaaGreatDoor
