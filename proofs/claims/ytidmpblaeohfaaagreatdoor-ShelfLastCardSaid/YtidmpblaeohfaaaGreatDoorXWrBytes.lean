/- The writer's Bytes. -/
import Derived.Test.YtidmpblaeohfaaaGreatDoorXWrNum
namespace Go.Proofs.YtidmpblaeohfaaaGreatDoor
open Go.RowKit

/-- A byte as it is laid within bytes. -/
def esc (x : Int) : List Int := if x = 0 then [0, 255] else [x]
def escF (z : Nat → Int) : Nat → List Int
  | 0 => []
  | k + 1 => escF z k ++ esc (z k)
theorem esc_len (x : Int) : (esc x).length ≤ 2 ∧ 1 ≤ (esc x).length := by unfold esc; split <;> simp
theorem escF_le (z : Nat → Int) (k : Nat) : (escF z k).length ≤ 2 * k := by
  induction k with
  | zero => simp [escF]
  | succ k ih => have := esc_len (z k); simp only [escF, List.length_append]; omega

/-- Opening a writer for a walk. -/
theorem WrAt.parts {w : World} {B p : Nat} {g : Option Nat} {l : List Int} (h : WrAt w B p g l) : ∃ v, w.heap[p]? = some (.cells #[v] 195 (0, 0)) ∧ w.ownsRow B 5 1 v l.length (l.map (Value.int .u8)) ∧ v.ownBlock = g ∧ B ≤ p ∧ (∀ x, x ∈ l → 0 ≤ x ∧ x ≤ 255) ∧ some p ≠ v.ownBlock ∧ p < w.heap.size := by
  obtain ⟨v, hp, hown, hg, hB, hx⟩ := h
  exact ⟨v, hp, hown, hg, hB, hx, fun e => own_ne hown hp e.symm, lt_of_block hp⟩

theorem alloc_set_new (w : World) (a : Addr) (u : Value) (o : Obj) : ((w.setCell a u).alloc o).heap[w.heap.size]? = some o := by
  have h : (w.setCell a u).heap.size = w.heap.size := by simp [World.setCell]
  have := heap_alloc_new (w.setCell a u) o
  rwa [h] at this

/-- Behind the first of two appends. -/
theorem wr_two {w wr w0 w1 : World} {B p gg cap : Nat} {g g1 : Option Nat} {v : Value} {L : List Int} {y : Int}
    (hp : wr.heap[p]? = some (.cells #[v] 195 (0, 0))) (h0 : Frm [] wr w0)
    (hown1 : w1.ownsRow B 5 1 (.slice (some ⟨gg, 0, none⟩) (L.length + 1) cap) (L.length + 1) (L.map (Value.int .u8) ++ [Value.int .u8 y]))
    (hgrow : w0.grownBy w1 v.ownBlock) (hat : v.ownBlock = some gg ∨ gg = wr.heap.size + 1) (hg : v.ownBlock = g1) (hg1 : g1 = g ∨ ∃ b, g1 = some b ∧ w.heap.size ≤ b)
    (hF : Frm (p :: g.toList) w wr) (hB : B ≤ p) (hx : ∀ x, x ∈ L → 0 ≤ x ∧ x ≤ 255) (hy : 0 ≤ y ∧ y ≤ 255) (hne : some p ≠ v.ownBlock) :
    Hid ((w1.setCell ⟨p, 0, none⟩ (.slice (some ⟨gg, 0, none⟩) (L.length + 1) cap)).heap[p]? = some (.cells #[.slice (some ⟨gg, 0, none⟩) (L.length + 1) cap] 195 (0, 0)) ∧
    (w1.setCell ⟨p, 0, none⟩ (.slice (some ⟨gg, 0, none⟩) (L.length + 1) cap)).ownsRow B 5 1 (.slice (some ⟨gg, 0, none⟩) (L.length + 1) cap) (L.length + 1) ((L ++ [y]).map (Value.int .u8)) ∧ gg ≠ p ∧ p < w1.heap.size ∧
    (∀ x, x ∈ L ++ [y] → 0 ≤ x ∧ x ≤ 255) ∧ Frm (p :: g.toList) w (w1.setCell ⟨p, 0, none⟩ (.slice (some ⟨gg, 0, none⟩) (L.length + 1) cap)) ∧ (some gg = g ∨ ∃ b, some gg = some b ∧ w.heap.size ≤ b)) := by
  obtain ⟨k1, k2, k3, k4, k5, k6, _⟩ := wr_parts (ys := [y]) hp h0 (by simpa using hown1) hgrow hat hg hg1 hF hB hx (by intro x hx; rw [List.mem_singleton.1 hx]; exact hy) hne
  have hl := lt_of_block k1
  simp only [List.length_singleton] at k1 k2 k5
  exact ⟨k1, by simpa using k2, k4, by simpa [World.setCell] using hl, k3, k5, k6⟩

/-- Bytes do not lie in a writer's own block. -/
theorem SlAt.ne_wr {w : World} {ad : Option Addr} {n : Nat} {z : Nat → Int} (h : SlAt w ad n z) {B p : Nat} {g : Option Nat} {l : List Int} (hw : WrAt w B p g l) {b off : Nat} (hn : 0 < n) (e : ad = some ⟨b, off, none⟩) : b ≠ p := by
  obtain ⟨v, hp, hown, _⟩ := hw
  rcases hown.2 with ⟨rfl, _⟩ | ⟨g, cap, cur, rfl, _⟩
  · exact h.ne_one hp hn e
  · exact h.ne_one hp hn e

set_option maxRecDepth 100000 in
set_option maxHeartbeats 1600000 in
theorem wrBytes_any (p B : Nat) (g : Option Nat) (l : List Int) (ad : Option Addr) (n cap : Nat) (z : Nat → Int) (w : World) (hw : WrAt w B p g l) (hl : l.length + 2 * n + 2 ≤ 140737488355328)
    (hs : SlAt w ad n z) (hsg : ∀ b off, 0 < n → ad = some ⟨b, off, none⟩ → some b ≠ g) :
    Calls Tryz.prog 78 #[.pointer (some ⟨p, 0, none⟩), .slice ad n cap] w fun e w' => e = .returned (.pointer (some ⟨p, 0, none⟩)) ∧ WrGrown w w' B p g (l ++ (escF z n ++ [0, 0])) := by
  obtain ⟨i0, hi0, hz0, hz1, hz2⟩ := info_parts Tryz.infoB
  have H : Hid (Tryz.prog.info? 5 = some i0 ∧ i0.zero = some (.int .u8 0) ∧ i0.size = 1 ∧ i0.bytes = 1) := ⟨hi0, hz0, hz1, hz2⟩
  clear hi0 hz0 hz1 hz2
  have HS : Hid (SlAt w ad n z) := hs
  have HG : Hid (∀ b off, 0 < n → ad = some ⟨b, off, none⟩ → some b ≠ g) := hsg
  have HW : Hid (WrAt w B p g l) := hw
  clear hs hsg hw
  go_enter Tryz.func78, Tryz.ntmps78
  go_wp2
  go_loopw [11] (fun iv wr => ∃ q : Nat, q ≤ n ∧ iv = .int .i64 q ∧ WrGrown w wr B p g (l ++ escF z q)) (fun iv _ => n - (intOf iv).toNat)
  case atStart => exact ⟨0, Nat.zero_le _, rfl, g, by simpa [escF] using HW.out, Frm.refl _ _, .inl rfl⟩
  case round =>
    obtain ⟨q, hq, rfl, hR⟩ := hrel
    have hle := escF_le z q
    generalize hL : l ++ escF z q = L at hR
    have hLl : L.length + 2 * (n - q) + 2 ≤ 140737488355328 := by rw [← hL, List.length_append]; omega
    have HL : Hid (l ++ escF z q = L) := hL
    clear hL hle
    obtain ⟨g1, hA, hF, hg1⟩ := hR
    obtain ⟨v, hp, hown, hg, hB, hx, hne1, hplt⟩ := hA.parts
    have hc := cell_of_one hp
    have hf := free_of_one hp
    have HO : Hid (wr.ownsRow B 5 1 v L.length (L.map (Value.int .u8))) := hown
    have HP1 : Hid (wr.heap[p]? = some (.cells #[v] 195 (0, 0))) := hp
    have HF : Hid (Frm (p :: g.toList) w wr) := hF
    clear hown hp hA hF
    by_cases hlt : q < n
    · obtain ⟨b, off, rfl, hcz⟩ := HS.out.2 (by omega)
      have hzq := HS.out.1 q hlt
      have hcq : wr.cell? ⟨b, off + q, none⟩ = some (.int .u8 (z q)) := by
        have hblt : b < w.heap.size := HS.out.lt (by omega) rfl
        have hb : b ∉ p :: g.toList := by
          intro hm
          simp at hm
          rcases hm with h | h
          · exact HS.out.ne_wr HW.out (by omega) rfl h
          · exact HG.out b off (by omega) rfl h.symm
        rw [World.cell?_of_block (a := ⟨b, off + q, none⟩) (HF.out.block b hblt hb)]
        exact hcz q hlt
      clear hcz
      by_cases h0 : z q = 0
      · have h0' : (z q == 0) = true := by simp [h0]
        have H0 : Hid (z q = 0) := h0
        clear h0
        go_wp2_with (first | (at_builtin; refine wpList_append_lies _ rfl (.tmp 19) (.tmp 21) 29 rfl B 5 i0 _ 1 1 Tryz.underlying29 H.out.1 H.out.2.1 H.out.2.2.1 H.out.2.2.2 rfl (by omega) v L.length (L.map (Value.int .u8)) rfl (HO.out.alloc _) ⟨wr.heap.size, 0, none⟩ 1 1 [.int .u8 (z q)] rfl rfl (World.news_of_block (cs := #[.int .u8 (z q)]) (t := 5) (fr := (0, 0)) (heap_alloc_new wr _)) (by simp [Value.oneCell']) (by omega) (by simp [maxLen]; omega) (by simp; omega) (by simp; omega) (wr.heap.size + 1) (by simp) ?_; intro gg1 cap1 w1 hown1 hgrow1 hat1 hlt1; have hp1 := grown_keep ((Frm.refl [] wr).alloc _) hgrow1 HP1.out hne1; have hc1 := cell_of_one hp1; have hf1 := free_of_one hp1; have HX := wr_two HP1.out ((Frm.refl [] wr).alloc _) hown1 hgrow1 hat1 hg hg1 HF.out hB hx hzq hne1; have HP2 := HX.out.1; have hne2 : some p ≠ (Value.slice (some ⟨gg1, 0, none⟩) (L.length + 1) cap1).ownBlock := fun e => HX.out.2.2.1 (Option.some.inj e).symm; have hB2 : p < w1.heap.size := HX.out.2.2.2.1; clear hown1 hgrow1 hp1) | (at_builtin; refine wpList_append_lies _ rfl (.tmp 31) (.tmp 32) 29 rfl B 5 i0 _ 1 1 Tryz.underlying29 H.out.1 H.out.2.1 H.out.2.2.1 H.out.2.2.2 rfl (by omega) (.slice (some ⟨gg1, 0, none⟩) (L.length + 1) cap1) (L.length + 1) ((L ++ [z q]).map (Value.int .u8)) rfl (HX.out.2.1.alloc _) ⟨w1.heap.size, 0, none⟩ 1 1 [.int .u8 255] rfl rfl (World.news_of_block (cs := #[.int .u8 255]) (t := 5) (fr := (0, 0)) (alloc_set_new w1 _ _ _)) (by simp [Value.oneCell']) (by omega) (by simp [maxLen]; omega) (by simp; omega) (by simp; omega) (w1.heap.size + 1) (by simp) ?_; intro gg2 cap2 w2 hown2 hgrow2 hat2 hlt2; have hp2 := grown_keep ((Frm.refl [] (w1.setCell ⟨p, 0, none⟩ (.slice (some ⟨gg1, 0, none⟩) (L.length + 1) cap1))).alloc _) hgrow2 HP2 hne2; have hc2 := cell_of_one hp2; have hf2 := free_of_one hp2))
        have R := wr_step (L := L ++ [z q]) (ys := [255]) HP2 ((Frm.refl [] _).alloc _) (by simpa using hown2) hgrow2 (by simpa [World.setCell] using hat2) rfl HX.out.2.2.2.2.2.2 HX.out.2.2.2.2.2.1 hB HX.out.2.2.2.2.1 (by intro y hy; simp at hy; omega) hne2
        refine ⟨⟨q + 1, by omega, by go_num, ?_⟩, by simp [intOf]; omega⟩
        have e : l ++ escF z (q + 1) = L ++ [z q] ++ [255] := by rw [escF, esc, if_pos H0.out, ← List.append_assoc, HL.out, H0.out]; simp
        rw [e]
        simpa using R
      · have h0' : (z q == 0) = false := by simp [h0]
        have H0 : Hid (¬ z q = 0) := h0
        clear h0
        go_wp2_with (at_builtin; refine wpList_append_lies _ rfl (.tmp 19) (.tmp 21) 29 rfl B 5 i0 _ 1 1 Tryz.underlying29 H.out.1 H.out.2.1 H.out.2.2.1 H.out.2.2.2 rfl (by omega) v L.length (L.map (Value.int .u8)) rfl (HO.out.alloc _) ⟨wr.heap.size, 0, none⟩ 1 1 [.int .u8 (z q)] rfl rfl (World.news_of_block (cs := #[.int .u8 (z q)]) (t := 5) (fr := (0, 0)) (heap_alloc_new wr _)) (by simp [Value.oneCell']) (by omega) (by simp [maxLen]; omega) (by simp; omega) (by simp; omega) (wr.heap.size + 1) (by simp) ?_; intro gg1 cap1 w1 hown1 hgrow1 hat1 hlt1; have hp1 := grown_keep ((Frm.refl [] wr).alloc _) hgrow1 HP1.out hne1; have hc1 := cell_of_one hp1; have hf1 := free_of_one hp1)
        have R := wr_step (ys := [z q]) HP1.out ((Frm.refl [] wr).alloc _) (by simpa using hown1) hgrow1 hat1 hg hg1 HF.out hB hx (by intro y hy; rw [List.mem_singleton.1 hy]; exact hzq) hne1
        refine ⟨⟨q + 1, by omega, by go_num, ?_⟩, by simp [intOf]; omega⟩
        rw [escF, esc, if_neg H0.out, ← List.append_assoc, HL.out]
        simpa using R
    · have : q = n := by omega
      subst this
      go_wp2_with (at_builtin; refine wpList_append_lies _ rfl (.tmp 41) (.tmp 42) 29 rfl B 5 i0 _ 1 1 Tryz.underlying29 H.out.1 H.out.2.1 H.out.2.2.1 H.out.2.2.2 rfl (by omega) v L.length (L.map (Value.int .u8)) rfl (HO.out.alloc _) ⟨wr.heap.size, 0, none⟩ 2 2 [.int .u8 0, .int .u8 0] rfl rfl (World.news_of_block (cs := #[.int .u8 0, .int .u8 0]) (t := 5) (fr := (0, 0)) (heap_alloc_new wr _)) (by simp [Value.oneCell']) (by omega) (by simp [maxLen]; omega) (by simp; omega) (by simp; omega) (wr.heap.size + 1) (by simp) ?_; intro gg1 cap1 w1 hown1 hgrow1 hat1 hlt1; have hp1 := grown_keep ((Frm.refl [] wr).alloc _) hgrow1 HP1.out hne1; have hc1 := cell_of_one hp1; have hf1 := free_of_one hp1)
      have R := wr_step (ys := [0, 0]) HP1.out ((Frm.refl [] wr).alloc _) (by simpa using hown1) hgrow1 hat1 hg hg1 HF.out hB hx (by intro y hy; simp at hy; omega) hne1
      go_ret
      refine ⟨rfl, ?_⟩
      rw [← List.append_assoc, HL.out]
      simpa using R

set_option maxHeartbeats 400000 in
theorem newE_any (w : World) :
    Calls Tryz.prog 77 #[] w fun e w' => e = .returned (.pointer (some ⟨w.heap.size, 0, none⟩)) ∧ w' = w.alloc (.cells #[.slice none 0 0] 195) := by
  go_enter Tryz.func77, Tryz.ntmps77
  go_wp2
  go_ret
  exact ⟨rfl, rfl⟩

theorem new_wr (w : World) : WrAt (w.alloc (.cells #[.slice none 0 0] 195)) w.heap.size w.heap.size none [] :=
  ⟨.slice none 0 0, heap_alloc_new w _, World.ownsRow_nil _ _ _ _, rfl, Nat.le_refl _, fun x h => by cases h⟩

set_option maxHeartbeats 400000 in
theorem wrDone_any (p B : Nat) (g : Option Nat) (l : List Int) (w : World) (hw : WrAt w B p g l) (hl : l.length ≤ 140737488351232) :
    Calls Tryz.prog 79 #[.pointer (some ⟨p, 0, none⟩)] w fun e w' => ∃ ad cap, e = .returned (.slice ad l.length cap) ∧ l.length ≤ cap ∧ SlAt w' ad l.length (fn l) ∧ (ad = none → l.length = 0 ∧ cap = 0) ∧ (∀ a, ad = some a → w.heap.size ≤ a.block) ∧ Below w.heap.size w w' := by
  obtain ⟨v, hp, hown, hg, hB, hx⟩ := hw
  rw [map_bl] at hown
  obtain ⟨ad, cap, rfl, h1, h2, h3, h4⟩ := own_SlAt (fun j hj => by rw [fn_get l j hj]; exact hx _ (List.getElem_mem hj)) hown
  have hc := cell_of_one hp
  clear hown hp
  go_enter Tryz.func79, Tryz.ntmps79
  go_wp2_with fail
  refine (cloneE_any ad l.length cap (fn l) w h2 h3 hl).mono ?_
  rintro e w1 ⟨ad', cap', rfl, k1, k2, k3, k4, hb⟩
  go_wp2
  go_ret
  exact ⟨ad', cap', rfl, k1, k2, k3, k4, hb⟩
end Go.Proofs.YtidmpblaeohfaaaGreatDoor
