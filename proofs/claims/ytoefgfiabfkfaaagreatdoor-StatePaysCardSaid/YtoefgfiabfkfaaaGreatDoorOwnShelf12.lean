/- Bytes that lie somewhere; bytes cloned; sums copied. (Parts of Num, Kit, Clone and HashKit, beside OKit.) -/
import Derived.Test.YtoefgfiabfkfaaaGreatDoorOwnShelf01
import Derived.Test.YtoefgfiabfkfaaaGreatDoorOwnShelf11
import Derived.WalkKit
import Derived.WalkSpells
import Derived.WalkLawsBesides
import Derived.Maps.AppendAt
import Derived.Laws.CopyOwn
import Derived.Deep.MidRow
import Derived.Stop.BytesEq
namespace Go.Proofs.YtoefgfiabfkfaaaGreatDoor
open Go.RowKit
/-- The n bytes z lie at an address. -/
def SlAt (w : World) (ad : Option Addr) (n : Nat) (z : Nat → Int) : Prop :=
 (∀ j, j < n → 0 ≤ z j ∧ z j ≤ 255) ∧ (0 < n → ∃ b off, ad = some ⟨b, off, none⟩ ∧ ∀ j, j < n → w.cell? ⟨b, off + j, none⟩ = some (.int .u8 (z j)))


/-- 'b[1:]'. -/
theorem SlAt.tail {w : World} {b off n cap : Nat} {z : Nat → Int} (hz : ∀ j, j < n → 0 ≤ z j ∧ z j ≤ 255) (hc : ∀ j, j < n → w.cell? ⟨b, off + j, none⟩ = some (.int .u8 (z j))) (hlc : n ≤ cap) :
  SlAt w (if cap = 1 then some ⟨b, off, none⟩ else some ⟨b, off + 1, none⟩) (n - 1) (fun j => z (j + 1)) := by
 refine ⟨fun j hj => hz _ (by omega), fun hn => ?_⟩
 rw [if_neg (by omega)]
 exact ⟨b, off + 1, rfl, fun j hj => by rw [show off + 1 + j = off + (j + 1) from by omega]; exact hc (j + 1) (by omega)⟩
theorem SlAt.block {w w' : World} {ad : Option Addr} {n : Nat} {z : Nat → Int} (h : SlAt w ad n z) (hb : ∀ b off, 0 < n → ad = some ⟨b, off, none⟩ → w'.heap[b]? = w.heap[b]?) : SlAt w' ad n z := by
 refine ⟨h.1, fun hn => ?_⟩
 obtain ⟨b, off, e, hc⟩ := h.2 hn
 refine ⟨b, off, e, fun j hj => ?_⟩
 rw [World.cell?_of_block (hb b off hn e)]
 exact hc j hj
theorem SlAt.frm {S : List Nat} {w w' : World} {ad : Option Addr} {n : Nat} {z : Nat → Int} (h : SlAt w ad n z) (hf : Frm S w w') (hs : ∀ b off, 0 < n → ad = some ⟨b, off, none⟩ → b ∉ S) : SlAt w' ad n z := by
 refine ⟨h.1, fun hn => ?_⟩
 obtain ⟨b, off, e, hc⟩ := h.2 hn
 refine ⟨b, off, e, fun j hj => ?_⟩
 have hlt : b < w.heap.size := World.block_lt_of_cell? w ⟨b, off + j, none⟩ (hc j hj)
 rw [World.cell?_of_block (a := ⟨b, off + j, none⟩) (hf.block b hlt (hs b off hn e))]
 exact hc j hj
theorem SlAt.lt {w : World} {ad : Option Addr} {n : Nat} {z : Nat → Int} (h : SlAt w ad n z) {b off : Nat} (hn : 0 < n) (e : ad = some ⟨b, off, none⟩) : b < w.heap.size := by
 obtain ⟨b', off', e', hc⟩ := h.2 hn
 rw [e] at e'; cases e'
 exact World.block_lt_of_cell? w ⟨b, off + 0, none⟩ (hc 0 hn)
/-- 'b[k:]'. -/
theorem SlAt.drop {w : World} {ad : Option Addr} {n k : Nat} {z : Nat → Int} (h : SlAt w ad n z) : SlAt w (Option.map (fun x => x.add k) ad) (n - k) (fun j => z (j + k)) := by
 refine ⟨fun j hj => h.1 _ (by omega), fun hn => ?_⟩
 obtain ⟨b, off, e, hc⟩ := h.2 (by omega)
 refine ⟨b, off + k, by rw [e]; simp [Addr.add_lit], fun j hj => ?_⟩
 rw [show off + k + j = off + (j + k) from by omega]
 exact hc (j + k) (by omega)
theorem SlAt.zero {w : World} (ad : Option Addr) (z : Nat → Int) : SlAt w ad 0 z := ⟨fun j hj => by omega, fun h => by omega⟩
theorem SlAt.congr {w : World} {ad : Option Addr} {n : Nat} {z y : Nat → Int} (h : SlAt w ad n z) (he : ∀ j, j < n → z j = y j) : SlAt w ad n y := by
 refine ⟨fun j hj => by rw [← he j hj]; exact h.1 j hj, fun hn => ?_⟩
 obtain ⟨b, off, e, hc⟩ := h.2 hn
 exact ⟨b, off, e, fun j hj => by rw [← he j hj]; exact hc j hj⟩
theorem Tryz.infoB : (Tryz.prog.info? 5).map (fun i => (i.zero, i.size, i.bytes)) = some (some (.int .u8 0), 1, 1) := by kernel_rfl
theorem bl_cells {w : World} {b off n : Nat} {z : Nat → Int} (hc : ∀ j, j < n → w.cell? ⟨b, off + j, none⟩ = some (.int .u8 (z j))) : ∀ j u, (bl z n)[j]? = some u → w.cell? ((⟨b, off, none⟩ : Addr).add j) = some u := by
 intro j u h
 obtain ⟨hj, rfl⟩ := bl_get h
 rw [Addr.add_lit]
 exact hc j hj

/-- What owns a row of bytes is a slice of them. -/
theorem own_SlAt {w : World} {base : Nat} {v : Value} {n : Nat} {z : Nat → Int} (hz : ∀ j, j < n → 0 ≤ z j ∧ z j ≤ 255) (h : w.ownsRow base 5 1 v n (bl z n)) :
  ∃ ad cap, v = .slice ad n cap ∧ n ≤ cap ∧ SlAt w ad n z ∧ (ad = none → n = 0 ∧ cap = 0) ∧ (∀ a, ad = some a → base ≤ a.block) := by
 rcases h.2 with ⟨rfl, rfl⟩ | ⟨g, cap, cur, rfl, hb, hg, hcap, _, hsz, htk⟩
 ·exact ⟨none, 0, rfl, Nat.le_refl _, SlAt.zero _ _, fun _ => ⟨rfl, rfl⟩, fun _ h => by cases h⟩
 ·refine ⟨some ⟨g, 0, none⟩, cap, rfl, hcap, ⟨hz, fun _ => ⟨g, 0, rfl, fun j hj => ?_⟩⟩, (fun h => by cases h), (fun a h => by cases h; exact hb)⟩
  have := h.cells (g := g) rfl j _ (bl_at hj)
  rwa [Addr.add_lit] at this

set_option maxHeartbeats 400000 in
theorem clone_nil (w : World) :
  Calls Tryz.prog 55 #[.slice none 0 0] w fun e w' => e = .returned (.slice none 0 0) ∧ w' = w := by
 have hnil := fun wx => Lib.run_eql_slice_nil (P := Tryz.prog) wx 31 5 none 0 0 0 0 Tryz.underlying31
 go_enter Tryz.func55, Tryz.ntmps55
 go_wp2
 go_ret
 exact ⟨rfl, rfl⟩

set_option maxHeartbeats 400000 in
theorem clone_some (a : Addr) (n cap : Nat) (z : Nat → Int) (w : World) (hc : ∀ j u, (bl z n)[j]? = some u → w.cell? (a.add j) = some u) (hn : n ≤ 140737488351232) (hlt : 0 < n → a.block < w.heap.size) :
  Calls Tryz.prog 55 #[.slice (some a) n cap] w fun e w' => ∃ v, e = .returned v ∧ w'.ownsRow w.heap.size 5 1 v n (bl z n) ∧ Below w.heap.size w w' := by
 have hnil : ∀ wx, (binOp .eql 31 (.slice (some a) n cap) (.slice none 0 0)).run Tryz.prog wx = .ok (.bool false) wx := fun wx => Lib.run_eql_slice_nil (P := Tryz.prog) wx 31 5 (some a) n cap 0 0 Tryz.underlying31
 obtain ⟨i0, hi, hz0, hz1, hz2⟩ := info_parts Tryz.infoB
 have H : Hid (Tryz.prog.info? 5 = some i0 ∧ i0.zero = some (.int .u8 0) ∧ i0.size = 1 ∧ i0.bytes = 1) := ⟨hi, hz0, hz1, hz2⟩
 clear hi hz0 hz1 hz2
 have hnews : ∀ j u, (bl z n)[j]? = some u → (w.alloc (.cells #[] 5)).cell? (a.add j) = some u := by
  intro j u h
  have hj := (bl_get h).1
  rw [World.cell?_alloc_lt _ _ _ (by have := hlt (by omega); unfold Addr.add; split <;> exact this)]
  exact hc j u h
 have HC : Hid (∀ j u, (bl z n)[j]? = some u → (w.alloc (.cells #[] 5)).cell? (a.add j) = some u) := hnews
 clear hc hnews
 go_enter Tryz.func55, Tryz.ntmps55
 go_wp2_with (at_builtin; refine wpList_append_own_at _ rfl _ _ 31 rfl w.heap.size 5 i0 (.int .u8 0) 1 1 Tryz.underlying31 H.out.1 H.out.2.1 H.out.2.2.1 H.out.2.2.2 rfl (by decide) _ 0 [] rfl (World.ownsRow_made w #[] 0 (Nat.le_refl _) (Nat.zero_le _) rfl) a n cap (bl z n) rfl (by simp [bl_length]) HC.out (bl_one z n) (by unfold maxLen; omega) (by omega) (by simp) ?_; intro v' w1 hown hgrow _ _)
 go_ret
 refine ⟨v', rfl, by simpa using hown, ?_⟩
 exact ((Below.refl _ _).alloc (Nat.le_refl _) _).grown hgrow (by simp) (fun k hk => Nat.le_of_eq (Option.some.inj (show some w.heap.size = some k from hk)))

theorem clone_any (ad : Option Addr) (n cap : Nat) (z : Nat → Int) (w : World) (hs : SlAt w ad n z) (hnil : ad = none → n = 0 ∧ cap = 0) (hn : n ≤ 140737488351232) :
  Calls Tryz.prog 55 #[.slice ad n cap] w fun e w' => ∃ ad' cap', e = .returned (.slice ad' n cap') ∧ n ≤ cap' ∧ SlAt w' ad' n z ∧ (ad' = none → n = 0 ∧ cap' = 0) ∧ (∀ a, ad' = some a → w.heap.size ≤ a.block) ∧ Below w.heap.size w w' := by
 cases ad with
 | none =>
  obtain ⟨rfl, rfl⟩ := hnil rfl
  refine (clone_nil w).mono ?_
  rintro e w' ⟨rfl, rfl⟩
  exact ⟨none, 0, rfl, Nat.le_refl _, SlAt.zero _ _, (fun _ => ⟨rfl, rfl⟩), (fun _ h => by cases h), Below.refl _ _⟩
 | some a =>
  refine (clone_some a n cap z w ?_ hn ?_).mono ?_
  ·intro j u h
   have hj := (bl_get h).1
   obtain ⟨b, off, e, hc⟩ := hs.2 (by omega)
   cases e
   exact bl_cells hc j u h
  ·intro h0
   obtain ⟨b, off, e, hc⟩ := hs.2 h0
   cases e
   exact World.block_lt_of_cell? w ⟨b, off + 0, none⟩ (hc 0 h0)
  ·rintro e w' ⟨v, rfl, hown, hbel⟩
   obtain ⟨ad', cap', rfl, h1, h2, h3, h4⟩ := own_SlAt hs.1 hown
   exact ⟨ad', cap', rfl, h1, h2, h3, h4, hbel⟩


end Go.Proofs.YtoefgfiabfkfaaaGreatDoor
