/- Small laws on worlds: what is kept outside of some blocks; blocks of one and two cells; bytes that lie at an address. -/
import Derived.Test.YtmgjipemgdgjdaaNum
namespace Go.Proofs.Ytmgjipemgdgjdaa
open Go.RowKit

/-- All blocks that were there, but those of S, are as they were; the streams too. -/
structure Frm (S : List Nat) (w w' : World) : Prop where
  os : w'.os = w.os
  tape : w'.tape = w.tape
  output : w'.output = w.output
  size : w.heap.size ≤ w'.heap.size
  block : ∀ k, k < w.heap.size → k ∉ S → w'.heap[k]? = w.heap[k]?

theorem Frm.refl (S : List Nat) (w : World) : Frm S w w := ⟨rfl, rfl, rfl, Nat.le_refl _, fun _ _ _ => rfl⟩
theorem Frm.trans {S : List Nat} {a b c : World} (h : Frm S a b) (k : Frm S b c) : Frm S a c :=
  ⟨k.os.trans h.os, k.tape.trans h.tape, k.output.trans h.output, Nat.le_trans h.size k.size, fun i hi hn => (k.block i (Nat.lt_of_lt_of_le hi h.size) hn).trans (h.block i hi hn)⟩
theorem Frm.mono {S T : List Nat} {a b : World} (h : Frm S a b) (hs : ∀ k, k ∈ S → k ∈ T) : Frm T a b :=
  ⟨h.os, h.tape, h.output, h.size, fun i hi hn => h.block i hi (fun e => hn (hs i e))⟩
/-- Blocks that were not there yet may be left out. -/
theorem Frm.old {S T : List Nat} {a b : World} (h : Frm S a b) (hs : ∀ k, k ∈ S → k < a.heap.size → k ∈ T) : Frm T a b :=
  ⟨h.os, h.tape, h.output, h.size, fun i hi hn => h.block i hi (fun e => hn (hs i e hi))⟩
theorem Frm.drewN {S : List Nat} {a b : World} (h : Frm S a b) (n : Nat) : Frm S a (b.drewN n) := ⟨h.os, h.tape, h.output, h.size, h.block⟩
theorem Frm.drew {S : List Nat} {a b : World} (h : Frm S a b) : Frm S a b.drew := ⟨h.os, h.tape, h.output, h.size, h.block⟩
theorem Frm.alloc {S : List Nat} {a b : World} (h : Frm S a b) (o : Obj) : Frm S a (b.alloc o) :=
  h.trans ⟨rfl, rfl, rfl, by simp, fun k hk _ => Below.heap_alloc _ _ _ hk⟩
theorem Frm.setCell {S : List Nat} {a b : World} (h : Frm S a b) (p : Addr) (u : Value) (hp : p.block ∈ S) : Frm S a (b.setCell p u) :=
  h.trans ⟨rfl, rfl, rfl, by simp [World.setCell], fun k _ hn => Below.heap_setCell _ _ _ _ (fun e => hn (by rw [e]; exact hp))⟩
theorem Frm.grown {S : List Nat} {a b c : World} {row : Option Nat} (h : Frm S a b) (hg : b.grownBy c row) (hr : ∀ k, row = some k → k ∈ S) : Frm S a c :=
  h.trans ⟨hg.os, hg.tape, hg.output, hg.size, fun k hk hn => hg.block k hk (fun e => hn (hr k e.symm))⟩
theorem Frm.below {S : List Nat} {a b : World} {B : Nat} (h : Frm S a b) (hB : B ≤ a.heap.size) (hs : ∀ k, k ∈ S → B ≤ k) : Below B a b :=
  ⟨h.os, h.tape, h.output, h.size, fun k hk => h.block k (by omega) (fun e => by have := hs k e; omega)⟩
theorem Frm.ofBelow {S : List Nat} {a b : World} (h : Below a.heap.size a b) : Frm S a b := ⟨h.os, h.tape, h.output, h.size, fun k hk _ => h.block k hk⟩
theorem Frm.heap {S : List Nat} {a b : World} (h : Frm S a b) {k : Nat} {o : Obj} (hk : a.heap[k]? = some o) (hn : k ∉ S) : b.heap[k]? = some o := by
  rw [h.block k (lt_of_block hk) hn]; exact hk

theorem bcell {W w1 : World} (hb : Below W.heap.size W w1) : (∀ b o, b < W.heap.size → w1.cell? ⟨b, o, none⟩ = W.cell? ⟨b, o, none⟩) ∧ (∀ b o, b < W.heap.size → w1.frozen? ⟨b, o, none⟩ = W.frozen? ⟨b, o, none⟩) :=
  ⟨fun b o h => hb.cell (p := ⟨b, o, none⟩) h, fun b o h => hb.frozen (p := ⟨b, o, none⟩) h⟩

section
variable {w : World} {b : Nat} {u v x : Value} {t : TypeId}
theorem two_cell0 (h : w.heap[b]? = some (.cells #[u, v] t (0, 0))) : w.cell? ⟨b, 0, none⟩ = some u := by simp [World.cell?, h]
theorem two_cell1 (h : w.heap[b]? = some (.cells #[u, v] t (0, 0))) : w.cell? ⟨b, 1, none⟩ = some v := by simp [World.cell?, h]
theorem two_free (h : w.heap[b]? = some (.cells #[u, v] t (0, 0))) (o : Nat) : w.frozen? ⟨b, o, none⟩ = false := by simp [World.frozen?, h]
theorem two_set0 (h : w.heap[b]? = some (.cells #[u, v] t (0, 0))) : (w.setCell ⟨b, 0, none⟩ x).heap[b]? = some (.cells #[x, v] t (0, 0)) := by
  have hlt := lt_of_block h
  have h' : w.heap[b] = .cells #[u, v] t (0, 0) := by simpa [Array.getElem?_eq_getElem hlt] using h
  show (w.heap.modify b _)[b]? = _
  rw [Array.getElem?_eq_getElem (by simpa using hlt), Array.getElem_modify_self, h']
  rfl
theorem two_set1 (h : w.heap[b]? = some (.cells #[u, v] t (0, 0))) : (w.setCell ⟨b, 1, none⟩ x).heap[b]? = some (.cells #[u, x] t (0, 0)) := by
  have hlt := lt_of_block h
  have h' : w.heap[b] = .cells #[u, v] t (0, 0) := by simpa [Array.getElem?_eq_getElem hlt] using h
  show (w.heap.modify b _)[b]? = _
  rw [Array.getElem?_eq_getElem (by simpa using hlt), Array.getElem_modify_self, h']
  rfl
end

theorem SlAt.block {w w' : World} {ad : Option Addr} {n : Nat} {z : Nat → Int} (h : SlAt w ad n z) (hb : ∀ b off, 0 < n → ad = some ⟨b, off, none⟩ → w'.heap[b]? = w.heap[b]?) : SlAt w' ad n z := by
  refine ⟨h.1, fun hn => ?_⟩
  obtain ⟨b, off, e, hc⟩ := h.2 hn
  refine ⟨b, off, e, fun j hj => ?_⟩
  rw [World.cell?_of_block (hb b off hn e)]
  exact hc j hj
theorem SlAt.frm {S : List Nat} {w w' : World} {ad : Option Addr} {n : Nat} {z : Nat → Int} (h : SlAt w ad n z) (hf : Frm S w w') (hs : ∀ b off, 0 < n → ad = some ⟨b, off, none⟩ → b ∉ S) : SlAt w' ad n z := by
  refine ⟨h.1, fun hn => ?_⟩
  obtain ⟨b, off, e, hc⟩ := h.2 hn
  refine ⟨b, off, e, fun j hj => ?_⟩
  have hlt : b < w.heap.size := World.block_lt_of_cell? w ⟨b, off + j, none⟩ (hc j hj)
  rw [World.cell?_of_block (a := ⟨b, off + j, none⟩) (hf.block b hlt (hs b off hn e))]
  exact hc j hj
theorem SlAt.lt {w : World} {ad : Option Addr} {n : Nat} {z : Nat → Int} (h : SlAt w ad n z) {b off : Nat} (hn : 0 < n) (e : ad = some ⟨b, off, none⟩) : b < w.heap.size := by
  obtain ⟨b', off', e', hc⟩ := h.2 hn
  rw [e] at e'; cases e'
  exact World.block_lt_of_cell? w ⟨b, off + 0, none⟩ (hc 0 hn)
/-- 'b[k:]'. -/
theorem SlAt.drop {w : World} {ad : Option Addr} {n k : Nat} {z : Nat → Int} (h : SlAt w ad n z) : SlAt w (Option.map (fun x => x.add k) ad) (n - k) (fun j => z (j + k)) := by
  refine ⟨fun j hj => h.1 _ (by omega), fun hn => ?_⟩
  obtain ⟨b, off, e, hc⟩ := h.2 (by omega)
  refine ⟨b, off + k, by rw [e]; simp [Addr.add_lit], fun j hj => ?_⟩
  rw [show off + k + j = off + (j + k) from by omega]
  exact hc (j + k) (by omega)
theorem SlAt.zero {w : World} (ad : Option Addr) (z : Nat → Int) : SlAt w ad 0 z := ⟨fun j hj => by omega, fun h => by omega⟩
theorem SlAt.congr {w : World} {ad : Option Addr} {n : Nat} {z y : Nat → Int} (h : SlAt w ad n z) (he : ∀ j, j < n → z j = y j) : SlAt w ad n y := by
  refine ⟨fun j hj => by rw [← he j hj]; exact h.1 j hj, fun hn => ?_⟩
  obtain ⟨b, off, e, hc⟩ := h.2 hn
  exact ⟨b, off, e, fun j hj => by rw [← he j hj]; exact hc j hj⟩
/-- Bytes lie in no block of two cells of which none is a byte. -/
theorem SlAt.ne_two {w : World} {ad : Option Addr} {n : Nat} {z : Nat → Int} (h : SlAt w ad n z) {rb : Nat} {a' : Option Addr} {n' cap' : Nat} {er : Int} {t : TypeId}
    (hr : w.heap[rb]? = some (.cells #[.slice a' n' cap', errV er] t (0, 0))) {b off : Nat} (hn : 0 < n) (e : ad = some ⟨b, off, none⟩) : b ≠ rb := by
  intro hbr
  subst hbr
  obtain ⟨b', off', e', hc⟩ := h.2 hn
  rw [e] at e'; cases e'
  have h0 := hc 0 hn
  rw [World.cell?, hr] at h0
  match off, h0 with
  | 0, h0 => simp at h0
  | 1, h0 => simp [errV] at h0; split at h0 <;> simp at h0
  | o + 2, h0 => simp at h0
/-- Bytes lie in no block of one cell that is a slice. -/
theorem SlAt.ne_one {w : World} {ad : Option Addr} {n : Nat} {z : Nat → Int} (h : SlAt w ad n z) {rb : Nat} {a' : Option Addr} {n' cap' : Nat} {t : TypeId}
    (hr : w.heap[rb]? = some (.cells #[.slice a' n' cap'] t (0, 0))) {b off : Nat} (hn : 0 < n) (e : ad = some ⟨b, off, none⟩) : b ≠ rb := by
  intro hbr
  subst hbr
  obtain ⟨b', off', e', hc⟩ := h.2 hn
  rw [e] at e'; cases e'
  have h0 := hc 0 hn
  rw [World.cell?, hr] at h0
  match off, h0 with
  | 0, h0 => simp at h0
  | o + 1, h0 => simp at h0
end Go.Proofs.Ytmgjipemgdgjdaa
