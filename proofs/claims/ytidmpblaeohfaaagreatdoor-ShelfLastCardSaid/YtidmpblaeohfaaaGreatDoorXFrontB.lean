/- The bytes that bytes begin with: what enc.frontBytes answers. -/
import Derived.Test.YtidmpblaeohfaaaGreatDoorXWrBytes
namespace Go.Proofs.YtidmpblaeohfaaaGreatDoor
open Go.RowKit

theorem errV_1 : errV 1 = .iface 72 (.int .i64 1) := rfl
theorem errV_2 : errV 2 = .iface 72 (.int .i64 2) := rfl

/-- The bytes that are read from a place on, behind those that were read; how many bytes they stand on; the error. -/
def sc (n : Nat) (z : Nat → Int) (most : Int) : Nat → Nat → List Int → List Int × Nat × Int
  | 0, _, _ => ([], 0, 12)
  | f + 1, q, l =>
    if q < n then
      if z q = 0 then
        if q + 1 = n then ([], 0, 12)
        else if z (q + 1) = 0 then (l, q + 2, 0)
        else if z (q + 1) = 255 then (if most ≤ l.length then ([], 0, 2) else sc n z most f (q + 2) (l ++ [z q]))
        else ([], 0, 3)
      else if most ≤ l.length then ([], 0, 2) else sc n z most f (q + 1) (l ++ [z q])
    else ([], 0, 12)
def bR (n : Nat) (z : Nat → Int) (most : Int) : List Int × Nat × Int := if most < 0 then ([], 0, 1) else sc n z most (n + 1) 0 []

set_option maxHeartbeats 400000 in
theorem frontBytes_neg (ad : Option Addr) (n cap : Nat) (most : Int) (w : World) (h : most < 0) :
    Calls Tryz.prog 99 #[.slice ad n cap, .int .i64 most] w fun e w' => e = .returned (.tuple #[.slice none 0 0, .int .i64 0, .iface 72 (.int .i64 1)]) ∧ w' = w := by
  go_enter Tryz.func99, Tryz.ntmps99
  go_wp2
  go_ret3
  exact ⟨rfl, rfl⟩

set_option maxRecDepth 100000 in
set_option maxHeartbeats 1600000 in
theorem frontBytes_loop (a0 : Option Addr) (n cap : Nat) (z : Nat → Int) (most : Int) (w : World) (h0 : 0 ≤ most) (_hlc : n ≤ cap) (hn : n ≤ 140737488351232) (hs : SlAt w a0 n z) :
    Calls Tryz.prog 99 #[.slice a0 n cap, .int .i64 most] w fun e w' => BPost w (sc n z most (n + 1) 0 []) e w' := by
  obtain ⟨i0, hi0, hz0, hz1, hz2⟩ := info_parts Tryz.infoB
  have H : Hid (Tryz.prog.info? 5 = some i0 ∧ i0.zero = some (.int .u8 0) ∧ i0.size = 1 ∧ i0.bytes = 1) := ⟨hi0, hz0, hz1, hz2⟩
  clear hi0 hz0 hz1 hz2
  have HS : Hid (SlAt w a0 n z) := hs
  clear hs
  generalize hR : sc n z most (n + 1) 0 [] = R
  have HR : Hid (sc n z most (n + 1) 0 [] = R) := hR
  clear hR
  go_enter Tryz.func99, Tryz.ntmps99
  go_wp2
  go_loopw [7, 8] (fun v i wr => ∃ (q f : Nat) (l : List Int), q ≤ n ∧ i = .int .i64 q ∧ n + 1 ≤ f + q ∧ l.length ≤ q ∧ (l.length : Int) ≤ most ∧ (∀ x, x ∈ l → 0 ≤ x ∧ x ≤ 255) ∧ sc n z most f q l = R ∧ wr.ownsRow w.heap.size 5 1 v l.length (l.map (Value.int .u8)) ∧ Below w.heap.size w wr) (fun _ i _ => n + 1 - (intOf i).toNat)
  case atStart => exact ⟨0, n + 1, [], Nat.zero_le _, rfl, by omega, by simp, by simpa using h0, by simp, HR.out, World.ownsRow_nil _ _ _ _, Below.refl _ _⟩
  case round =>
    obtain ⟨q, f, l, hq, rfl, hf, hlq, hlm, hx, hsc, hown, hb⟩ := hrel
    obtain ⟨ad, cp, rfl⟩ := own_form hown
    have HO : Hid (wr.ownsRow w.heap.size 5 1 (.slice ad l.length cp) l.length (l.map (Value.int .u8))) := hown
    have HB : Hid (Below w.heap.size w wr) := hb
    have HX : Hid (∀ x, x ∈ l → 0 ≤ x ∧ x ≤ 255) := hx
    obtain ⟨f, rfl⟩ : ∃ f', f = f' + 1 := ⟨f - 1, by omega⟩
    rw [sc] at hsc
    clear hown hb hx
    by_cases hlt : q < n
    · obtain ⟨b, off, rfl, hcz⟩ := HS.out.2 (by omega)
      have hblt : b < w.heap.size := HS.out.lt (by omega) rfl
      have hcw : ∀ j, j < n → wr.cell? ⟨b, off + j, none⟩ = some (.int .u8 (z j)) := fun j hj => by rw [HB.out.cell (p := ⟨b, off + j, none⟩) hblt]; exact hcz j hj
      have hcq := hcw q hlt
      have hzq := HS.out.1 q hlt
      rw [if_pos hlt] at hsc
      by_cases hz0 : z q = 0
      · rw [if_pos hz0] at hsc
        have hz0' : (z q == 0) = true := by simp [hz0]
        have HZ : Hid (z q = 0) := hz0
        clear hz0
        by_cases hend : q + 1 = n
        · rw [if_pos hend] at hsc
          have he' : (((q : Int) + 1) == (n : Int)) = true := by simp; omega
          subst hsc
          clear hcw hcz HR
          go_wp2
          go_ret3
          exact BPost.err HB.out
        · rw [if_neg hend] at hsc
          have he' : (((q : Int) + 1) == (n : Int)) = false := by simp; omega
          have hcq1 := hcw (q + 1) (by omega)
          have hzq1 := HS.out.1 (q + 1) (by omega)
          by_cases h10 : z (q + 1) = 0
          · rw [if_pos h10] at hsc
            have h10' : (z (q + 1) == 0) = true := by simp [h10]
            subst hsc
            clear hcw hcz HR h10
            go_wp2
            go_ret3
            exact ⟨ad, cp, rfl, own_fresh HO.out HX.out HB.out⟩
          · rw [if_neg h10] at hsc
            have h10' : (z (q + 1) == 0) = false := by simp [h10]
            by_cases h1f : z (q + 1) = 255
            · rw [if_pos h1f] at hsc
              have h1f' : (z (q + 1) != 255) = false := by simp [h1f]
              by_cases hm : most ≤ l.length
              · rw [if_pos hm] at hsc
                have hm' : ((l.length : Int) == most) = true := by simp; omega
                subst hsc
                clear hcw hcz HR h10 h1f
                go_wp2
                go_ret3
                exact BPost.err HB.out
              · rw [if_neg hm] at hsc
                have hm' : ((l.length : Int) == most) = false := by simp; omega
                have HSC : Hid (sc n z most f (q + 2) (l ++ [z q]) = R) := hsc
                clear hcw hcz HR h10 h1f hsc
                go_wp2_with (at_builtin; refine wpList_append_lies _ rfl _ _ 29 rfl w.heap.size 5 i0 _ 1 1 Tryz.underlying29 H.out.1 H.out.2.1 H.out.2.2.1 H.out.2.2.2 rfl (by omega) (.slice ad l.length cp) l.length (l.map (Value.int .u8)) rfl (HO.out.alloc _) ⟨wr.heap.size, 0, none⟩ 1 1 [.int .u8 (z q)] rfl rfl (World.news_of_block (cs := #[.int .u8 (z q)]) (t := 5) (fr := (0, 0)) (heap_alloc_new wr _)) (by simp [Value.oneCell']) (by omega) (by simp [maxLen]; omega) (by simp; omega) (by have := HB.out.size; simp; omega) (wr.heap.size + 1) (by simp) ?_; intro gg cap1 w1 hown1 hgrow hat hlt1)
                have hb1 : Below w.heap.size w w1 := (HB.out.alloc HB.out.size _).grown hgrow (by have := HB.out.size; simp; omega) (fun k hk => (HO.out.lt k hk).1)
                refine ⟨⟨q + 2, f, l ++ [z q], by omega, by go_num, by omega, by simp; omega, by simp; omega, ?_, HSC.out, by simpa using hown1, hb1⟩, by simp [intOf]; omega⟩
                intro x hx
                rcases List.mem_append.1 hx with h | h
                · exact HX.out x h
                · rw [List.mem_singleton.1 h]; exact hzq
            · rw [if_neg h1f] at hsc
              have h1f' : (z (q + 1) != 255) = true := by simp [h1f]
              subst hsc
              clear hcw hcz HR h10 h1f
              go_wp2
              go_ret3
              exact BPost.err HB.out
      · rw [if_neg hz0] at hsc
        have hz0' : (z q == 0) = false := by simp [hz0]
        by_cases hm : most ≤ l.length
        · rw [if_pos hm] at hsc
          have hm' : ((l.length : Int) == most) = true := by simp; omega
          subst hsc
          clear hcw hcz HR hz0
          go_wp2
          go_ret3
          exact BPost.err HB.out
        · rw [if_neg hm] at hsc
          have hm' : ((l.length : Int) == most) = false := by simp; omega
          have HSC : Hid (sc n z most f (q + 1) (l ++ [z q]) = R) := hsc
          clear hcw hcz HR hz0 hsc
          go_wp2_with (at_builtin; refine wpList_append_lies _ rfl _ _ 29 rfl w.heap.size 5 i0 _ 1 1 Tryz.underlying29 H.out.1 H.out.2.1 H.out.2.2.1 H.out.2.2.2 rfl (by omega) (.slice ad l.length cp) l.length (l.map (Value.int .u8)) rfl (HO.out.alloc _) ⟨wr.heap.size, 0, none⟩ 1 1 [.int .u8 (z q)] rfl rfl (World.news_of_block (cs := #[.int .u8 (z q)]) (t := 5) (fr := (0, 0)) (heap_alloc_new wr _)) (by simp [Value.oneCell']) (by omega) (by simp [maxLen]; omega) (by simp; omega) (by have := HB.out.size; simp; omega) (wr.heap.size + 1) (by simp) ?_; intro gg cap1 w1 hown1 hgrow hat hlt1)
          have hb1 : Below w.heap.size w w1 := (HB.out.alloc HB.out.size _).grown hgrow (by have := HB.out.size; simp; omega) (fun k hk => (HO.out.lt k hk).1)
          refine ⟨⟨q + 1, f, l ++ [z q], by omega, by go_num, by omega, by simp; omega, by simp; omega, ?_, HSC.out, by simpa using hown1, hb1⟩, by simp [intOf]; omega⟩
          intro x hx
          rcases List.mem_append.1 hx with h | h
          · exact HX.out x h
          · rw [List.mem_singleton.1 h]; exact hzq
    · rw [if_neg hlt] at hsc
      subst hsc
      clear HR
      go_wp2
      go_ret3
      exact BPost.err HB.out

theorem frontBytes_any (a0 : Option Addr) (n cap : Nat) (z : Nat → Int) (most : Int) (w : World) (hlc : n ≤ cap) (hn : n ≤ 140737488351232) (hs : SlAt w a0 n z) :
    Calls Tryz.prog 99 #[.slice a0 n cap, .int .i64 most] w fun e w' => BPost w (bR n z most) e w' := by
  unfold bR
  split
  · exact (frontBytes_neg a0 n cap most w ‹_›).mono fun e w' ⟨h1, h2⟩ => by rw [h1, h2]; exact BPost.err (Below.refl _ _)
  · exact frontBytes_loop a0 n cap z most w (by omega) hlc hn hs
end Go.Proofs.YtidmpblaeohfaaaGreatDoor
