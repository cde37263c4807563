/- The writer's Uint and Int. -/
import Derived.Test.YtnjkgpgbipcgcaaDoorOwnShelf07
namespace Go.Proofs.YtnjkgpgbipcgcaaDoor
open Go.RowKit

attribute [local go_sem ↓] Go.wp_at_zero Go.wp_at_succ

/-- A number's bytes as it is laid. -/
def uB (n : Int) : List Int := (sz n : Int) :: dgs false n (sz n) (sz n)

theorem WrGrown.trans {w w1 w2 : World} {B p : Nat} {g : Option Nat} {l l' : List Int} (h : WrGrown w w1 B p g l) (h2 : ∀ g', WrAt w1 B p g' l → WrGrown w1 w2 B p g' l') : WrGrown w w2 B p g l' := by
  obtain ⟨g1, ha, hf, hg⟩ := h
  obtain ⟨g2, ha2, hf2, hg2⟩ := h2 g1 ha
  refine ⟨g2, ha2, ?_, ?_⟩
  · have hsz := hf.size
    refine ⟨hf2.os.trans hf.os, hf2.tape.trans hf.tape, hf2.output.trans hf.output, Nat.le_trans hf.size hf2.size, fun k hk hn => ?_⟩
    rw [hf2.block k (by omega) ?_]
    · exact hf.block k hk hn
    · intro hm
      rcases hg with rfl | ⟨b, rfl, hb⟩
      · exact hn hm
      · simp at hm hn
        rcases hm with h | h
        · exact hn.1 h
        · omega
  · have hsz := hf.size
    rcases hg2 with rfl | ⟨b, rfl, hb⟩
    · exact hg
    · exact .inr ⟨b, rfl, by omega⟩

theorem WrAt.same {w : World} {B p : Nat} {g g' : Option Nat} {l l' : List Int} (h : WrAt w B p g l) (h' : WrAt w B p g' l') : g = g' := by
  obtain ⟨v, hp, _, hg, _⟩ := h
  obtain ⟨v', hp', _, hg', _⟩ := h'
  rw [hp] at hp'
  have : v = v' := by simpa using hp'
  rw [← hg, ← hg', this]

set_option maxRecDepth 100000 in
set_option maxHeartbeats 1600000 in
theorem wrUint_any (p B : Nat) (g : Option Nat) (l : List Int) (n : Int) (w : World) (hw : WrAt w B p g l) (hl : l.length + 16 ≤ 140737488355328) (hn : 0 ≤ n ∧ n ≤ 18446744073709551615) :
    Calls Tryd.prog 38 #[.pointer (some ⟨p, 0, none⟩), .int .u64 n] w fun e w' => e = .returned (.pointer (some ⟨p, 0, none⟩)) ∧ WrGrown w w' B p g (l ++ uB n) := by
  obtain ⟨i0, hi0, hz0, hz1, hz2⟩ := info_parts Tryd.infoB
  have H : Hid (Tryd.prog.info? 5 = some i0 ∧ i0.zero = some (.int .u8 0) ∧ i0.size = 1 ∧ i0.bytes = 1) := ⟨hi0, hz0, hz1, hz2⟩
  clear hi0 hz0 hz1 hz2
  obtain ⟨v, hp, hown, hg, hB, hx⟩ := hw
  have hc := cell_of_one hp
  have hf := free_of_one hp
  have hplt := lt_of_block hp
  have hne : some p ≠ v.ownBlock := fun e => own_ne hown hp e.symm
  have HO : Hid (w.ownsRow B 5 1 v l.length (l.map (Value.int .u8))) := hown
  have HP : Hid (w.heap[p]? = some (.cells #[v] 114 (0, 0))) := hp
  clear hown hp
  obtain ⟨k, hk⟩ : ∃ k, sz n = k := ⟨_, rfl⟩
  have hk8 : k ≤ 8 := by rw [← hk]; exact sz_le n
  have HK : Hid (sz n = k) := hk
  clear hk
  go_enter Tryd.func38, Tryd.ntmps38
  go_wp2_with fail
  go_region_law (first | (refine step_append_lies _ (by rfl) _ _ _ (by rfl) B 5 i0 _ 1 1 Tryd.underlying37 H.out.1 H.out.2.1 H.out.2.2.1 H.out.2.2.2 rfl (by omega) v l.length (l.map (Value.int .u8)) (by rfl) ((HO.out.alloc _).drew) ⟨w.heap.size, 0, none⟩ 1 1 [_] (by rfl) (by rfl) (World.news_of_block (cs := #[_]) (t := 5) (fr := (0, 0)) (heap_alloc_new w _)) (by simp [Value.oneCell']) (by omega) (by simp [maxLen]; omega) (by simp; omega) (by simp; omega) (w.heap.size + 1) (by simp) ?_; intro gg cap w1 hown1 hgrow hat hlt1; have hp1 := grown_keep (((Frm.refl [] w).alloc _).drew) hgrow HP.out hne; have hc1 := cell_of_one hp1; have hf1 := free_of_one hp1) | (go_simp; go_at_call 63; refine (size_any _ _ hn.1 hn.2).mono ?_; rintro e wx ⟨rfl, rfl⟩; rw [HK.out]))
  all_goals
    have hk1 : IntKind.u8.wrap ((k : Int)) = (k : Int) := by rw [wrap_u8]; omega
    rw [hk1] at hown1
    have R := wr_step (ys := [(k : Int)]) HP.out (((Frm.refl [] w).alloc _).drew) (by simpa using hown1) hgrow hat hg (.inl rfl) (Frm.refl _ w) hB hx (by intro y hy; rw [List.mem_singleton.1 hy]; omega) hne
    have R1 : WrGrown w (w1.setCell ⟨p, 0, none⟩ (.slice (some ⟨gg, 0, none⟩) (l.length + 1) cap)) B p g (l ++ [(k : Int)]) := by simpa using R
    have HR : Hid (WrGrown w (w1.setCell ⟨p, 0, none⟩ (.slice (some ⟨gg, 0, none⟩) (l.length + 1) cap)) B p g (l ++ [(k : Int)])) := R1
    clear R R1 hown1 hgrow hp1 hc1 hf1 hk1
    obtain ⟨g1, ha, hF1, hg1⟩ := HR.out
    have HA : Hid (WrAt (w1.setCell ⟨p, 0, none⟩ (.slice (some ⟨gg, 0, none⟩) (l.length + 1) cap)) B p g1 (l ++ [(k : Int)])) := ha
    clear ha hF1 hg1
    go_wp2_with (go_at_call 64; refine (digits_any p B k g1 (l ++ [(k : Int)]) n 0 false _ HK.out rfl HA.out (by simp; omega) hn).mono ?_; rintro e w2 ⟨rfl, hG⟩)
    go_ret
    refine ⟨rfl, ?_⟩
    have hG2 : ∀ g', WrAt (w1.setCell ⟨p, 0, none⟩ (.slice (some ⟨gg, 0, none⟩) (l.length + 1) cap)) B p g' (l ++ [(k : Int)]) → WrGrown (w1.setCell ⟨p, 0, none⟩ (.slice (some ⟨gg, 0, none⟩) (l.length + 1) cap)) w2 B p g' (l ++ [(k : Int)] ++ dgs false n k k) := by
      intro g' h'
      rw [WrAt.same h' HA.out]; exact hG
    have := HR.out.trans hG2
    rw [List.append_assoc] at this
    have hkk := HK.out
    subst hkk
    exact this

end Go.Proofs.YtnjkgpgbipcgcaaDoor
