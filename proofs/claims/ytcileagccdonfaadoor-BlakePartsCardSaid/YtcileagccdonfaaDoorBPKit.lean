/- Rows of one's own while a state changes beside them; Len; rows of rows that came in. -/
import Derived.Test.YtcileagccdonfaaDoorBKeyedW
namespace Go.Proofs.YtcileagccdonfaaDoor
open Go.RowKit

theorem lenSt_nil (w : World) : Calls Tryd.prog 17 #[.pointer none] w fun e w' => e = .returned (.int .i64 0) ∧ w' = w := by
  go_enter Tryd.func17, Tryd.ntmps17
  go_wp2
  go_ret
  exact ⟨rfl, rfl⟩
theorem lenSt_any (p : Nat) (s : Sm) (wn : Int) (w : World) (hst : StAt w p s wn) (hs : s.Ok) : Calls Tryd.prog 17 #[.pointer (some ⟨p, 0, none⟩)] w fun e w' => e = .returned (.int .i64 wn) ∧ w' = w := by
  have c74 : w.cell? ⟨p, 74, none⟩ = some (.int .i64 wn) := by
    obtain ⟨blk, fl, h1, h2, _, _⟩ := hst
    rw [cell_of_row w p 74 _ _ _ h1]; exact stc_r hs.h.1 h2.1
  clear hst
  go_enter Tryd.func17, Tryd.ntmps17
  go_wp2
  go_ret
  exact ⟨rfl, rfl⟩
/-- A row of bytes of one's own, in a block from B on. -/
structure OwN (B : Nat) (w : World) (v : Value) (D : List Nat) : Prop where
  own : w.ownsRow B 5 1 v D.length (sl8 D)
  bd : ∀ i, D.getD i 0 < 256
theorem OwN.nil (B : Nat) (w : World) : OwN B w (.slice none 0 0) [] := ⟨World.ownsRow_nil _ _ _ _, by simp⟩
theorem OwN.form {B : Nat} {w : World} {v : Value} {D : List Nat} (h : OwN B w v D) : ∃ ad cp, v = .slice ad D.length cp ∧ D.length ≤ cp ∧ SlB w ad D ∧ (ad = none → D.length = 0) ∧ (∀ g o, ad = some ⟨g, o, none⟩ → B ≤ g) := by
  have hown := h.own
  rcases h.own.2 with ⟨rfl, h0⟩ | ⟨g, cap, cur, rfl, hb, hg, hcap, _⟩
  · exact ⟨none, 0, by rw [h0], by omega, fun hp => by omega, fun _ => h0, fun _ _ e => by cases e⟩
  · refine ⟨some ⟨g, 0, none⟩, cap, rfl, hcap, fun _ => ⟨g, 0, rfl, fun j u hu => ?_⟩, (fun e => by cases e), (fun g' o e => by cases e; exact hb)⟩
    have := hown.cells (g := g) rfl j u hu
    rwa [Addr.add_lit] at this
theorem OwN.keep {B : Nat} {w w' : World} {v : Value} {D : List Nat} {S : List Nat} (h : OwN B w v D) (hf : Frm S w w') (hS : ∀ k ∈ S, k < B) : OwN B w' v D := by
  refine ⟨⟨h.own.1, ?_⟩, h.bd⟩
  rcases h.own.2 with h0 | ⟨g, cap, cur, e, hb, hg, hr⟩
  · exact .inl h0
  · refine .inr ⟨g, cap, cur, e, hb, ?_, hr⟩
    rw [hf.block g (lt_of_block hg) (fun hk => by have := hS g hk; omega)]; exact hg
/-- A world cut off ahead of block B. -/
def cutW (w : World) (B : Nat) : World := { w with heap := w.heap.extract 0 B }
theorem cutW_size {w : World} {B : Nat} (h : B ≤ w.heap.size) : (cutW w B).heap.size = B := by simp [cutW]; omega
theorem cutW_below {w : World} {B : Nat} (h : B ≤ w.heap.size) : Below B (cutW w B) w := by
  refine ⟨rfl, rfl, rfl, by rw [cutW_size h]; exact h, fun k hk => ?_⟩
  simp [cutW, Array.getElem?_extract]
  omega
theorem OwN.ow {B : Nat} {w : World} {v : Value} {D : List Nat} (h : OwN B w v D) (hB : B ≤ w.heap.size) : Ow (cutW w B) w v (iL D) := by
  refine ⟨?_, ?_, iL_bd h.bd⟩
  · rw [cutW_size hB, iL_len, iL_sl]; exact h.own
  · rw [cutW_size hB]; exact cutW_below hB
theorem OwN.of {B : Nat} {w0 w w1 : World} {S : List Nat} {v : Value} {D : List Nat} (hB : w0.heap.size = B) (hf : Frm S w0 w) (h : Ow (cutW w B) w1 v (iL D)) (hD : ∀ i, D.getD i 0 < 256) : OwN B w1 v D ∧ Frm S w0 w1 ∧ ∀ k, k < B → w1.heap[k]? = w.heap[k]? := by
  have hs : B ≤ w.heap.size := by rw [← hB]; exact hf.size
  have h1 := h.own
  have h2 := h.below
  rw [cutW_size hs] at h1 h2
  rw [iL_len, iL_sl] at h1
  have h3 := cutW_below hs
  have hk : ∀ k, k < B → w1.heap[k]? = w.heap[k]? := fun k hk => (h2.block k hk).trans (h3.block k hk).symm
  refine ⟨⟨h1, hD⟩, ⟨(h2.os.trans h3.os.symm).trans hf.os, (h2.tape.trans h3.tape.symm).trans hf.tape, (h2.output.trans h3.output.symm).trans hf.output, ?_, fun k hlt hS => ?_⟩, hk⟩
  · rw [hB]
    have := h2.size
    rw [cutW_size hs] at this
    exact this
  · rw [hk k (by omega)]; exact hf.block k hlt hS
end Go.Proofs.YtcileagccdonfaaDoor
