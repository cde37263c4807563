/- What a Set leaves: places, lengths, the root page's length. -/
import Derived.Test.YtidmpblaeohfaaaGreatDoorSWr
import Derived.Test.YtidmpblaeohfaaaGreatDoorSRootW
namespace Go.Proofs.YtidmpblaeohfaaaGreatDoor
open Go.RowKit Go.Maps Go.Sort

theorem insK_perm {α : Type} (key : α → List UInt8) (x : α) : ∀ l : List α, (insK key x l).Perm (x :: l)
  | [] => List.Perm.refl _
  | y :: r => by
    unfold insK
    split
    · exact List.Perm.refl _
    · exact ((insK_perm key x r).cons y).trans (List.Perm.swap x y r)
theorem putK_perm {α : Type} (key : α → List UInt8) (x : α) (l : List α) : (putK key x l).Perm (x :: delK key (key x) l) := insK_perm key x _
/-- The free places. -/
def frN (L : List Lf) (n : Nat) : List Nat := (List.range' 1 (n - 1)).filter fun i => !heldB L i
theorem frL_frN (L : List Lf) (n : Nat) : frL L n = (frN L n).map fun x : Nat => (x : Int) := rfl
/-- While leaves are laid anew. -/
structure BOk (n : Nat) (f : List Nat) (M : List Lf) : Prop where
  ok : LOk n M
  nod : f.Nodup
  apart : ∀ x ∈ M, x.p ∉ f
  place : ∀ y ∈ f, 1 ≤ y ∧ y < n
theorem BOk.start {n : Nat} {L : List Lf} (h : LOk n L) : BOk n (frN L n) L := by
  refine ⟨h, (List.nodup_range' (step := 1)).filter _, fun x hx hm => ?_, fun y hy => ?_⟩
  · have := (List.mem_filter.1 hm).2
    simp [heldB] at this
    exact this x hx rfl
  · have := (List.mem_filter.1 hy).1
    simp [List.mem_range'_1] at this
    omega
theorem LOk.del {n : Nat} {M : List Lf} (h : LOk n M) (k : List UInt8) : LOk n (delK Lf.k k M) := by
  refine ⟨h.rise.del Lf.k k, ?_, fun x hx => h.place x ((mem_delK Lf.k).1 hx).1, fun x hx => h.len x ((mem_delK Lf.k).1 hx).1⟩
  exact (List.filter_sublist.map Lf.p).nodup h.apart
theorem BOk.del {n : Nat} {f : List Nat} {M : List Lf} (h : BOk n f M) (k : List UInt8) : BOk n f (delK Lf.k k M) :=
  ⟨h.ok.del k, h.nod, fun x hx => h.apart x ((mem_delK Lf.k).1 hx).1, h.place⟩
theorem BOk.put {n y : Nat} {f : List Nat} {M : List Lf} (h : BOk n (y :: f) M) {k v : List UInt8} (hk : k.length ≤ 4096) (hv : v.length ≤ 4096) : BOk n f (putK Lf.k ⟨k, y, v⟩ M) := by
  obtain ⟨n1, n2⟩ := List.nodup_cons.1 h.nod
  have hm : ∀ x ∈ putK Lf.k ⟨k, y, v⟩ M, x = ⟨k, y, v⟩ ∨ x ∈ M := fun x hx => ((mem_putK Lf.k).1 hx).imp id And.left
  refine ⟨⟨h.ok.rise.put Lf.k, ?_, fun x hx => ?_, fun x hx => ?_⟩, n2, fun x hx hf => ?_, fun z hz => h.place z (List.mem_cons_of_mem _ hz)⟩
  · have hp := (putK_perm Lf.k ⟨k, y, v⟩ M).map Lf.p
    rw [hp.nodup_iff, List.map_cons, List.nodup_cons]
    refine ⟨fun hy => ?_, (h.ok.del k).apart⟩
    obtain ⟨x, hx, e⟩ := List.mem_map.1 hy
    exact h.apart x ((mem_delK Lf.k).1 hx).1 (by rw [e]; exact List.mem_cons_self ..)
  · rcases hm x hx with rfl | hx
    · exact h.place y (List.mem_cons_self ..)
    · exact h.ok.place x hx
  · rcases hm x hx with rfl | hx
    · exact ⟨hk, hv⟩
    · exact h.ok.len x hx
  · rcases hm x hx with rfl | hx
    · exact n1 hf
    · exact h.apart x hx (List.mem_cons_of_mem _ hf)
theorem behL_ok {n : Nat} : ∀ (C : List Cg) (f : List Nat) (M : List Lf), BOk n f M → nlay C ≤ f.length → (∀ c ∈ C, c.g = false → c.k.length ≤ 4096 ∧ c.v.length ≤ 4096) → LOk n (behL C f M)
  | [], f, M, h, _, _ => h.ok
  | c :: r, f, M, h, hn, hl => by
    rw [nlay_cons] at hn
    unfold behL
    cases hg : c.g with
    | true =>
      rw [hg] at hn
      simp only [if_true] at hn ⊢
      exact behL_ok r f _ (h.del c.k) (by omega) fun d hd => hl d (List.mem_cons_of_mem _ hd)
    | false =>
      rw [hg] at hn
      have hl1 := hl c (List.mem_cons_self ..) hg
      cases f with
      | nil => simp at hn
      | cons y fs =>
        simp only [Bool.false_eq_true, if_false, List.tail_cons, List.headD_cons]
        exact behL_ok r fs _ ((h.del c.k).put hl1.1 hl1.2) (by simp at hn; omega) fun d hd => hl d (List.mem_cons_of_mem _ hd)
theorem esc_ge (z : Nat → Int) (k : Nat) : k ≤ (escF z k).length := by
  induction k with
  | zero => simp
  | succ k ih => have := esc_len (z k); simp only [escF, List.length_append]; omega
theorem encB_ge (u : List UInt8) : u.length ≤ (encB u).length := by
  have := esc_ge (fn (iU u)) u.length
  simp only [encB, List.length_append, List.length_cons, List.length_nil]
  omega
theorem layL_len : ∀ {C : List Cg} {ls : List (List Int)}, layL C = some ls → ∀ c ∈ C, c.g = false → c.k.length ≤ 4096 ∧ c.v.length ≤ 4096
  | [], _, _, c, hc, _ => by cases hc
  | d :: r, ls, h, c, hc, hg => by
    unfold layL at h
    cases hd : d.g with
    | true =>
      rw [hd] at h
      simp only [if_true] at h
      rcases List.mem_cons.1 hc with rfl | hc
      · rw [hd] at hg; cases hg
      · exact layL_len h c hc hg
    | false =>
      rw [hd] at h
      simp only [Bool.false_eq_true, if_false] at h
      split at h
      · cases h
      · rename_i hlg
        cases hr : layL r with
        | none => rw [hr] at h; cases h
        | some l2 =>
          rcases List.mem_cons.1 hc with rfl | hc
          · have h1 := encB_ge c.k
            have h2 := encB_ge c.v
            simp only [leafB, List.length_append] at hlg
            omega
          · exact layL_len hr c hc hg
theorem layL_n : ∀ {C : List Cg} {ls : List (List Int)}, layL C = some ls → ls.length = nlay C
  | [], _, h => by cases h; rfl
  | d :: r, ls, h => by
    unfold layL at h
    rw [nlay_cons]
    cases hd : d.g with
    | true =>
      rw [hd] at h
      simp only [if_true] at h ⊢
      rw [layL_n h]; omega
    | false =>
      rw [hd] at h
      simp only [Bool.false_eq_true, if_false] at h ⊢
      split at h
      · cases h
      · cases hr : layL r with
        | none => rw [hr] at h; cases h
        | some l2 =>
          rw [hr] at h
          cases h
          simp [layL_n hr]; omega
theorem LOk.few {n : Nat} {L : List Lf} (h : LOk n L) (hn : 2 ≤ n) : L.length < n := by
  have h2 : ∀ x ∈ L.map Lf.p, x ∈ List.range' 1 (n - 1) := fun x hx => by
    obtain ⟨y, hy, rfl⟩ := List.mem_map.1 hx
    have := h.place y hy
    simp [List.mem_range'_1]; omega
  have h3 := List.Nodup.length_le_of_subset h.apart h2
  simp at h3
  omega
theorem uB_small (x : Int) (h1 : x < 65536) : (uB x).length ≤ 3 := by
  have h : sz x ≤ 2 := by
    unfold sz
    by_cases a : x < 1
    · simp [a]
    · by_cases b : x < 256
      · simp [a, b]
      · simp [a, b, h1]
  simp [uB, dgs_length]; omega
theorem uBs_small : ∀ l : List Int, (∀ x ∈ l, 0 ≤ x ∧ x < 65536) → (uBs l).length ≤ 3 * l.length
  | [], _ => by simp [uBs]
  | x :: r, h => by
    have h1 := uB_small x (h x (List.mem_cons_self ..)).2
    have h2 := uBs_small r fun y hy => h y (List.mem_cons_of_mem _ hy)
    unfold uBs at h2 ⊢
    simp only [List.flatMap_cons, List.length_append, List.length_cons]
    omega
theorem rootB_le {n : Nat} {L : List Lf} (h : LOk n L) (hn : 2 ≤ n ∧ n ≤ 1024) : (rootB L).length ≤ 4096 := by
  have h1 := h.few hn.1
  have h2 := uB_small (L.length : Int) (by omega)
  have h3 := uBs_small (plI L) fun y hy => by
    obtain ⟨x, hx, rfl⟩ := plI_mem hy
    have := h.place x hx
    omega
  rw [plI_length] at h3
  simp only [rootB, List.length_append]
  omega
end Go.Proofs.YtidmpblaeohfaaaGreatDoor
