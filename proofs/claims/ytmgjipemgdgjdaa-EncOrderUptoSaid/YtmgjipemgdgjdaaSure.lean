/- sure: the example of the chapter comes out, whatever the input is. -/
import Derived.Test.YtmgjipemgdgjdaaWrBytes
import Derived.Test.YtmgjipemgdgjdaaRead
import Derived.Test.YtmgjipemgdgjdaaStr
import Derived.Lib.SlBytesConst
namespace Go.Proofs.Ytmgjipemgdgjdaa
open Go.RowKit

theorem ownsRow_block {w w' : World} {base : Nat} {e : TypeId} {size : Nat} {v : Value} {n : Nat} {xs : List Value} (h : w.ownsRow base e size v n xs) (hb : ∀ k, v.ownBlock = some k → w'.heap[k]? = w.heap[k]?) : w'.ownsRow base e size v n xs := by
  refine ⟨h.1, ?_⟩
  rcases h.2 with hn | ⟨g, cap, cur, rfl, hbs, hgg, rest⟩
  · exact .inl hn
  · refine .inr ⟨g, cap, cur, rfl, hbs, ?_, rest⟩
    rw [hb g rfl]; exact hgg

theorem WrAt.frm {S : List Nat} {w w' : World} {B p : Nat} {g : Option Nat} {l : List Int} (h : WrAt w B p g l) (hf : Frm S w w') (hp : p ∉ S) (hg : ∀ k, g = some k → k ∉ S) : WrAt w' B p g l := by
  obtain ⟨v, h1, h2, h3, h4, h5⟩ := h
  refine ⟨v, hf.heap h1 hp, ownsRow_block h2 fun k hk => ?_, h3, h4, h5⟩
  exact hf.block k (h2.lt k hk).2 (hg k (by rw [← h3]; exact hk))

theorem WrAt.lt {w : World} {B p : Nat} {g : Option Nat} {l : List Int} (h : WrAt w B p g l) : p < w.heap.size ∧ B ≤ p ∧ ∀ k, g = some k → k < w.heap.size ∧ B ≤ k := by
  obtain ⟨v, h1, h2, h3, h4, h5⟩ := h
  exact ⟨lt_of_block h1, h4, fun k hk => ⟨(h2.lt k (by rw [h3]; exact hk)).2, (h2.lt k (by rw [h3]; exact hk)).1⟩⟩

theorem WrGrown.below {w w' : World} {B p : Nat} {g : Option Nat} {l l0 : List Int} (h : WrGrown w w' B p g l) (h0 : WrAt w B p g l0) : Below B w w' := by
  obtain ⟨g', ha, hf, _⟩ := h
  have hlt := h0.lt
  refine hf.below (by omega) fun k hk => ?_
  rcases List.mem_cons.1 hk with h | h
  · omega
  · exact (hlt.2.2 k (by simpa using h)).2

theorem one_byte (w : World) (x : Int) (fr : Nat × Nat) (hx : 0 ≤ x ∧ x ≤ 255) : SlAt (w.alloc (.cells #[.int .u8 x] 5 fr)) (some ⟨w.heap.size, 0, none⟩) 1 (fun _ => x) := by
  refine ⟨fun _ _ => hx, fun _ => ⟨w.heap.size, 0, rfl, fun j hj => ?_⟩⟩
  have : j = 0 := by omega
  subst this
  have h := heap_alloc_new w (.cells #[.int .u8 x] 5 fr)
  unfold World.cell?
  rw [h]
  rfl
theorem two_bytes (w : World) (x y : Int) (hx : 0 ≤ x ∧ x ≤ 255) (hy : 0 ≤ y ∧ y ≤ 255) : SlAt (w.alloc (.cells #[.int .u8 x, .int .u8 y] 5)) (some ⟨w.heap.size, 0, none⟩) 2 (fn [x, y]) := by
  refine ⟨fun j hj => ?_, fun _ => ⟨w.heap.size, 0, rfl, fun j hj => ?_⟩⟩
  · rcases (show j = 0 ∨ j = 1 by omega) with rfl | rfl
    · exact hx
    · exact hy
  · rcases (show j = 0 ∨ j = 1 by omega) with rfl | rfl
    · simp [fn]
    · simp [fn]

set_option maxRecDepth 100000 in
set_option maxHeartbeats 1600000 in
theorem sure_any (w : World) :
    Calls Try.prog 10 #[] w fun e w' => e = .returned (.bool true) ∧ Below w.heap.size w w' := by
  have kc := fun (w : World) (C : Array Value) (n c : Nat) => Lib.run_convert_bytes_const (P := Try.prog) w 25 5 C n c Try.underlying25 Try.underlying5
  go_enter Try.func10, Try.ntmps10
  go_wp2_with fail
  refine (new_any _).mono ?_
  rintro e w1 ⟨rfl, rfl⟩
  go_wp2_with fail
  refine (wrUint_any w.heap.size w.heap.size none [] 300 _ (new_wr w) (by simp) (by omega)).mono ?_
  rintro e w2 ⟨rfl, hG2⟩
  have hb2 : Below w.heap.size w w2 := ((Below.refl _ w).alloc (Nat.le_refl _) _).trans (hG2.below (new_wr w))
  obtain ⟨g2, ha2, -, -⟩ := hG2
  have hlt2 := ha2.lt
  go_wp2_with fail
  refine (wrInt_any w.heap.size w.heap.size g2 _ (-1) _ ha2 (by simp [uB, dgs_length]; have := sz_le 300; omega) (by omega)).mono ?_
  rintro e w3 ⟨rfl, hG3⟩
  have hb3 : Below w.heap.size w w3 := hb2.trans (hG3.below ha2)
  obtain ⟨g3, ha3, -, -⟩ := hG3
  have hlt3 := ha3.lt
  go_wp2_with fail
  have ha3' : WrAt (w3.alloc (.cells #[.int .u8 97] 5 (1, 1 + 1))) w.heap.size w.heap.size g3 ([] ++ uB 300 ++ iB (-1)) := ha3.frm ((Frm.refl [] w3).alloc _) (by simp) (fun _ _ => by simp)
  have h97 := one_byte w3 97 (1, 1 + 1) (by omega)
  refine (wrBytes_any w.heap.size w.heap.size g3 _ (some ⟨w3.heap.size, 0, none⟩) 1 1 (fun _ => 97) _ ha3' (by simp [uB, iB, dgs_length]; have := sz_le 300; have := sz_le 0; omega) h97 ?_).mono ?_
  · intro b off _ e
    cases e
    intro h
    have := (hlt3.2.2 _ h.symm).1
    omega
  rintro e w4 ⟨rfl, hG4⟩
  have hb4 : Below w.heap.size w w4 := (hb3.alloc hb3.size _).trans (hG4.below ha3')
  obtain ⟨g4, ha4, -, -⟩ := hG4
  have hlt4 := ha4.lt
  have eL : [] ++ uB 300 ++ iB (-1) ++ (escF (fun _ => 97) 1 ++ [0, 0]) = [2, 1, 44, 127, 97, 0, 0] := by decide
  rw [eL] at ha4
  clear ha3 ha3' h97 hlt3 hb3 ha2 hlt2 hb2 eL
  go_wp2_with fail
  refine (wrDone_any _ _ _ _ _ ha4 (by simp)).mono ?_
  rintro e w5 ⟨ad, cap, rfl, h1, h2, h3, h4, hb5⟩
  have hb5' : Below w.heap.size w w5 := hb4.trans (hb5.mono (by omega))
  have hcv := conv_any ad _ cap _ w5 h2 h3
  have eS : strB (fn [2, 1, 44, 127, 97, 0, 0]) ([2, 1, 44, 127, 97, 0, 0] : List Int).length = ⟨#[2, 1, 44, 127, 97, 0, 0]⟩ := by decide
  rw [eS] at hcv
  simp only [List.length_cons, List.length_nil, Nat.zero_add, Nat.reduceAdd] at hcv
  clear h2 h3 h4 hb5 ha4 eS hlt4 hb4
  clear kc
  go_wp2_with fail
  refine (read_any (some ⟨w5.heap.size, 0, none⟩) 2 2 (fn [129, 7]) _ (two_bytes w5 129 7 (by omega) (by omega)) (fun h => by cases h) (by omega)).mono ?_
  rintro e w6 ⟨rb, rfl, hr, hrb, hb6⟩
  have hb6' : Below w.heap.size w w6 := (hb5'.alloc hb5'.size _).trans (hb6.mono (by have := hb5'.size; simp; omega))
  go_wp2_with fail
  refine (rdInt_any rb 2 (fn [129, 7]) _ hr).mono ?_
  rintro e w7 ⟨rfl, hF7, -⟩
  have hsz5 := hb5'.size
  have hb7 : Below w.heap.size w w7 := hb6'.trans (hF7.below hb6'.size (fun k hk => by simp at hk hrb; omega))
  have eI : iV 2 (fn [129, 7]) = 7 := by decide
  rw [eI]
  clear hb6 hr hrb hF7 hb5' hb6' hcv eI
  go_wp2
  go_ret
  exact ⟨rfl, hb7⟩
end Go.Proofs.Ytmgjipemgdgjdaa
