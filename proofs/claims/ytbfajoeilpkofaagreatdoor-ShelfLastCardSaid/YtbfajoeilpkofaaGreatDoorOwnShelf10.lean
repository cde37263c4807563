/- The bytes that bytes begin with: what enc.frontBytes answers. -/
import Derived.Test.YtbfajoeilpkofaaGreatDoorOwnShelf09
import Derived.Test.YtbfajoeilpkofaaGreatDoorOwnShelf06
import Derived.Test.YtbfajoeilpkofaaGreatDoorOwnShelf07
namespace Go.Proofs.YtbfajoeilpkofaaGreatDoor
open Go.RowKit

theorem errV_1 : errV 1 = .iface 72 (.int .i64 1) := rfl
theorem errV_2 : errV 2 = .iface 72 (.int .i64 2) := rfl

/-- The bytes that are read from a place on, behind those that were read; how many bytes they stand on; the error. -/
def sc (n : Nat) (z : Nat → Int) (most : Int) : Nat → Nat → List Int → List Int × Nat × Int
  | 0, _, _ => ([], 0, 12)
  | f + 1, q, l =>
    if q < n then
      if z q = 0 then
        if q + 1 = n then ([], 0, 12)
        else if z (q + 1) = 0 then (l, q + 2, 0)
        else if z (q + 1) = 255 then (if most ≤ l.length then ([], 0, 2) else sc n z most f (q + 2) (l ++ [z q]))
        else ([], 0, 3)
      else if most ≤ l.length then ([], 0, 2) else sc n z most f (q + 1) (l ++ [z q])
    else ([], 0, 12)
def bR (n : Nat) (z : Nat → Int) (most : Int) : List Int × Nat × Int := if most < 0 then ([], 0, 1) else sc n z most (n + 1) 0 []

set_option maxHeartbeats 400000 in
theorem frontBytes_neg (ad : Option Addr) (n cap : Nat) (most : Int) (w : World) (h : most < 0) :
    Calls Tryz.prog 99 #[.slice ad n cap, .int .i64 most] w fun e w' => e = .returned (.tuple #[.slice none 0 0, .int .i64 0, .iface 72 (.int .i64 1)]) ∧ w' = w := by
  go_enter Tryz.func99, Tryz.ntmps99
  go_wp2
  go_ret3
  exact ⟨rfl, rfl⟩

set_option maxRecDepth 100000 in
set_option maxHeartbeats 1600000 in
theorem frontBytes_loop (a0 : Option Addr) (n cap : Nat) (z : Nat → Int) (most : Int) (w : World) (h0 : 0 ≤ most) (_hlc : n ≤ cap) (hn : n ≤ 140737488351232) (hs : SlAt w a0 n z) :
    Calls Tryz.prog 99 #[.slice a0 n cap, .int .i64 most] w fun e w' => BPost w (sc n z most (n + 1) 0 []) e w' := by
  obtain ⟨i0, hi0, hz0, hz1, hz2⟩ := info_parts Tryz.infoB
  have H : Hid (Tryz.prog.info? 5 = some i0 ∧ i0.zero = some (.int .u8 0) ∧ i0.size = 1 ∧ i0.bytes = 1) := ⟨hi0, hz0, hz1, hz2⟩
  clear hi0 hz0 hz1 hz2
  have HS : Hid (SlAt w a0 n z) := hs
  clear hs
  generalize hR : sc n z most (n + 1) 0 [] = R
  have HR : Hid (sc n z most (n + 1) 0 [] = R) := hR
  clear hR
  go_enter Tryz.func99, Tryz.ntmps99
  go_wp2
  go_loopw [7, 8] (fun v i wr => ∃ (q f : Nat) (l : List Int), q ≤ n ∧ i = .int .i64 q ∧ n + 1 ≤ f + q ∧ l.length ≤ q ∧ (l.length : Int) ≤ most ∧ (∀ x, x ∈ l → 0 ≤ x ∧ x ≤ 255) ∧ sc n z most f q l = R ∧ wr.ownsRow w.heap.size 5 1 v l.length (l.map (Value.int .u8)) ∧ Below w.heap.size w wr) (fun _ i _ => n + 1 - (intOf i).toNat)
  case atStart => exact ⟨0, n + 1, [], Nat.zero_le _, rfl, by omega, by simp, by simpa using h0, by simp, HR.out, World.ownsRow_nil _ _ _ _, Below.refl _ _⟩
  case round =>
    obtain ⟨q, f, l, hq, rfl, hf, hlq, hlm, hx, hsc, hown, hb⟩ := hrel
    obtain ⟨ad, cp, rfl⟩ := own_form hown
    have HO : Hid (wr.ownsRow w.heap.size 5 1 (.slice ad l.length cp) l.length (l.map (Value.int .u8))) := hown
    have HB : Hid (Below w.heap.size w wr) := hb
    have HX : Hid (∀ x, x ∈ l → 0 ≤ x ∧ x ≤ 255) := hx
    obtain ⟨f, rfl⟩ : ∃ f', f = f' + 1 := ⟨f - 1, by omega⟩
    rw [sc] at hsc
    clear hown hb hx
    by_cases hlt : q < n
    · obtain ⟨b, off, rfl, hcz⟩ := HS.out.2 (by omega)
      have hblt : b < w.heap.size := HS.out.lt (by omega) rfl
      have hcw : ∀ j, j < n → wr.cell? ⟨b, off + j, none⟩ = some (.int .u8 (z j)) := fun j hj => by rw [HB.out.cell (p := ⟨b, off + j, none⟩) hblt]; exact hcz j hj
      have hcq := hcw q hlt
      have hzq := HS.out.1 q hlt
      rw [if_pos hlt] at hsc
      by_cases hz0 : z q = 0
      · rw [if_pos hz0] at hsc
        have hz0' : (z q == 0) = true := by simp [hz0]
        have HZ : Hid (z q = 0) := hz0
        clear hz0
        by_cases hend : q + 1 = n
        · rw [if_pos hend] at hsc
          have he' : (((q : Int) + 1) == (n : Int)) = true := by simp; omega
          subst hsc
          clear hcw hcz HR
          go_wp2
          go_ret3
          exact BPost.err HB.out
        · rw [if_neg hend] at hsc
          have he' : (((q : Int) + 1) == (n : Int)) = false := by simp; omega
          have hcq1 := hcw (q + 1) (by omega)
          have hzq1 := HS.out.1 (q + 1) (by omega)
          by_cases h10 : z (q + 1) = 0
          · rw [if_pos h10] at hsc
            have h10' : (z (q + 1) == 0) = true := by simp [h10]
            subst hsc
            clear hcw hcz HR h10
            go_wp2
            go_ret3
            exact ⟨ad, cp, rfl, own_fresh HO.out HX.out HB.out⟩
          · rw [if_neg h10] at hsc
            have h10' : (z (q + 1) == 0) = false := by simp [h10]
            by_cases h1f : z (q + 1) = 255
            · rw [if_pos h1f] at hsc
              have h1f' : (z (q + 1) != 255) = false := by simp [h1f]
              by_cases hm : most ≤ l.length
              · rw [if_pos hm] at hsc
                have hm' : ((l.length : Int) == most) = true := by simp; omega
                subst hsc
                clear hcw hcz HR h10 h1f
                go_wp2
                go_ret3
                exact BPost.err HB.out
              · rw [if_neg hm] at hsc
                have hm' : ((l.length : Int) == most) = false := by simp; omega
                have HSC : Hid (sc n z most f (q + 2) (l ++ [z q]) = R) := hsc
                clear hcw hcz HR h10 h1f hsc
                go_wp2_with (at_builtin; refine wpList_append_lies _ rfl _ _ 29 rfl w.heap.size 5 i0 _ 1 1 Tryz.underlying29 H.out.1 H.out.2.1 H.out.2.2.1 H.out.2.2.2 rfl (by omega) (.slice ad l.length cp) l.length (l.map (Value.int .u8)) rfl (HO.out.alloc _) ⟨wr.heap.size, 0, none⟩ 1 1 [.int .u8 (z q)] rfl rfl (World.news_of_block (cs := #[.int .u8 (z q)]) (t := 5) (fr := (0, 0)) (heap_alloc_new wr _)) (by simp [Value.oneCell']) (by omega) (by simp [maxLen]; omega) (by simp; omega) (by have := HB.out.size; simp; omega) (wr.heap.size + 1) (by simp) ?_; intro gg cap1 w1 hown1 hgrow hat hlt1)
                have hb1 : Below w.heap.size w w1 := (HB.out.alloc HB.out.size _).grown hgrow (by have := HB.out.size; simp; omega) (fun k hk => (HO.out.lt k hk).1)
                refine ⟨⟨q + 2, f, l ++ [z q], by omega, by go_num, by omega, by simp; omega, by simp; omega, ?_, HSC.out, by simpa using hown1, hb1⟩, by simp [intOf]; omega⟩
                intro x hx
                rcases List.mem_append.1 hx with h | h
                · exact HX.out x h
                · rw [List.mem_singleton.1 h]; exact hzq
            · rw [if_neg h1f] at hsc
              have h1f' : (z (q + 1) != 255) = true := by simp [h1f]
              subst hsc
              clear hcw hcz HR h10 h1f
              go_wp2
              go_ret3
              exact BPost.err HB.out
      · rw [if_neg hz0] at hsc
        have hz0' : (z q == 0) = false := by simp [hz0]
        by_cases hm : most ≤ l.length
        · rw [if_pos hm] at hsc
          have hm' : ((l.length : Int) == most) = true := by simp; omega
          subst hsc
          clear hcw hcz HR hz0
          go_wp2
          go_ret3
          exact BPost.err HB.out
        · rw [if_neg hm] at hsc
          have hm' : ((l.length : Int) == most) = false := by simp; omega
          have HSC : Hid (sc n z most f (q + 1) (l ++ [z q]) = R) := hsc
          clear hcw hcz HR hz0 hsc
          go_wp2_with (at_builtin; refine wpList_append_lies _ rfl _ _ 29 rfl w.heap.size 5 i0 _ 1 1 Tryz.underlying29 H.out.1 H.out.2.1 H.out.2.2.1 H.out.2.2.2 rfl (by omega) (.slice ad l.length cp) l.length (l.map (Value.int .u8)) rfl (HO.out.alloc _) ⟨wr.heap.size, 0, none⟩ 1 1 [.int .u8 (z q)] rfl rfl (World.news_of_block (cs := #[.int .u8 (z q)]) (t := 5) (fr := (0, 0)) (heap_alloc_new wr _)) (by simp [Value.oneCell']) (by omega) (by simp [maxLen]; omega) (by simp; omega) (by have := HB.out.size; simp; omega) (wr.heap.size + 1) (by simp) ?_; intro gg cap1 w1 hown1 hgrow hat hlt1)
          have hb1 : Below w.heap.size w w1 := (HB.out.alloc HB.out.size _).grown hgrow (by have := HB.out.size; simp; omega) (fun k hk => (HO.out.lt k hk).1)
          refine ⟨⟨q + 1, f, l ++ [z q], by omega, by go_num, by omega, by simp; omega, by simp; omega, ?_, HSC.out, by simpa using hown1, hb1⟩, by simp [intOf]; omega⟩
          intro x hx
          rcases List.mem_append.1 hx with h | h
          · exact HX.out x h
          · rw [List.mem_singleton.1 h]; exact hzq
    · rw [if_neg hlt] at hsc
      subst hsc
      clear HR
      go_wp2
      go_ret3
      exact BPost.err HB.out

theorem frontBytes_any (a0 : Option Addr) (n cap : Nat) (z : Nat → Int) (most : Int) (w : World) (hlc : n ≤ cap) (hn : n ≤ 140737488351232) (hs : SlAt w a0 n z) :
    Calls Tryz.prog 99 #[.slice a0 n cap, .int .i64 most] w fun e w' => BPost w (bR n z most) e w' := by
  unfold bR
  split
  · exact (frontBytes_neg a0 n cap most w ‹_›).mono fun e w' ⟨h1, h2⟩ => by rw [h1, h2]; exact BPost.err (Below.refl _ _)
  · exact frontBytes_loop a0 n cap z most w (by omega) hlc hn hs
end Go.Proofs.YtbfajoeilpkofaaGreatDoor
/- enc.Read: a reader of bytes. -/
namespace Go.Proofs.YtbfajoeilpkofaaGreatDoor
open Go.RowKit

set_option maxHeartbeats 400000 in
theorem readE_any (ad : Option Addr) (n cap : Nat) (z : Nat → Int) (w : World) (hs : SlAt w ad n z) (hnil : ad = none → n = 0 ∧ cap = 0) (hn : n ≤ 140737488351232) :
    Calls Tryz.prog 59 #[.slice ad n cap] w fun e w' => ∃ rb, e = .returned (.pointer (some ⟨rb, 0, none⟩)) ∧ RdAt w' rb n z 0 ∧ w.heap.size ≤ rb ∧ Below w.heap.size w w' := by
  go_enter Tryz.func59, Tryz.ntmps59
  go_wp2_with fail
  refine (cloneE_any ad n cap z w hs hnil hn).mono ?_
  rintro e w1 ⟨ad', cap', rfl, h1, h2, h3, h4, hb⟩
  go_wp2
  go_ret
  exact ⟨w1.heap.size, rfl, ⟨ad', cap', heap_alloc_new w1 _, h1, h2.frm ((Frm.refl [] w1).alloc _) (by simp), fun b off hn e => h2.lt hn e⟩, hb.size, hb.alloc hb.size _⟩
end Go.Proofs.YtbfajoeilpkofaaGreatDoor
/- What (*enc.Reader).Bytes does. -/
namespace Go.Proofs.YtbfajoeilpkofaaGreatDoor
open Go.RowKit

theorem sc_cases (n : Nat) (z : Nat → Int) (most : Int) : ∀ (f q : Nat) (l : List Int), q ≤ n → (sc n z most f q l).2.1 ≤ n ∧ ((sc n z most f q l).2.2 ≠ 0 → (sc n z most f q l).1 = [] ∧ (sc n z most f q l).2.1 = 0) ∧ 0 ≤ (sc n z most f q l).2.2
  | 0, q, l, _ => by simp [sc]
  | f + 1, q, l, hq => by
    unfold sc
    split
    · split
      · split
        · simp
        · split
          · simp; omega
          · split
            · split
              · simp
              · exact sc_cases n z most f (q + 2) _ (by omega)
            · simp
      · split
        · simp
        · exact sc_cases n z most f (q + 1) _ (by omega)
    · simp
theorem bR_cases (n : Nat) (z : Nat → Int) (most : Int) : (bR n z most).2.1 ≤ n ∧ ((bR n z most).2.2 ≠ 0 → (bR n z most).1 = [] ∧ (bR n z most).2.1 = 0) := by
  unfold bR
  split
  · simp
  · have := sc_cases n z most (n + 1) 0 [] (Nat.zero_le _)
    exact ⟨this.1, this.2.1⟩

theorem Fresh.back {w w0 w1 : World} {ad : Option Addr} {cap : Nat} {l : List Int} (h : Fresh w0 w1 ad cap l) (hb : Below w.heap.size w w0) : Fresh w w1 ad cap l := by
  obtain ⟨h1, h2, h3, h4, h5⟩ := h
  have := hb.size
  exact ⟨h1, h2, h3, (fun a e => Nat.le_trans this (h4 a e)), hb.trans (h5.mono this)⟩

set_option maxRecDepth 100000 in
set_option maxHeartbeats 400000 in
theorem rdBytes_err (rb n cap : Nat) (ad : Option Addr) (z : Nat → Int) (er most : Int) (w : World) (h0 : w.cell? ⟨rb, 0, none⟩ = some (.slice ad n cap)) (h1 : w.cell? ⟨rb, 1, none⟩ = some .nilIface) (hf : w.frozen? ⟨rb, 1, none⟩ = false)
    (hlc : n ≤ cap) (hn : n ≤ 140737488351232) (hs : SlAt w ad n z) (hE : errV (bR n z most).2.2 = .iface 72 (.int .i64 er)) :
    Calls Tryz.prog 64 #[.pointer (some ⟨rb, 0, none⟩), .int .i64 most] w fun e w' =>
      e = .returned (.slice none 0 0) ∧ ∃ w1, Below w.heap.size w w1 ∧ w' = w1.setCell ⟨rb, 1, none⟩ (.iface 72 (.int .i64 er)) := by
  have hs1 : SlAt (w.alloc (.cells #[.int .i64 most] 3)) ad n z := hs.frm ((Frm.refl [] w).alloc _) (by simp)
  have hlt : rb < w.heap.size := World.block_lt_of_cell? w ⟨rb, 0, none⟩ h0
  have hb0 : Below w.heap.size w (w.alloc (.cells #[.int .i64 most] 3)) := (Below.refl _ w).alloc (Nat.le_refl _) _
  go_enter Tryz.func64, Tryz.ntmps64
  go_wp2_with (first | (go_at_call 99; refine (frontBytes_any _ _ _ z most _ hlc hn hs1).mono ?_; rintro e w1 ⟨ad1, cap1, rfl, hF⟩; have hb1 := hb0.trans (hF.2.2.2.2.mono (by simp)); have hc0 := hb1.cell (p := ⟨rb, 0, none⟩) hlt; have hc1 := hb1.cell (p := ⟨rb, 1, none⟩) hlt; have hf1 := hb1.frozen (p := ⟨rb, 1, none⟩) hlt; rw [h0] at hc0; rw [h1] at hc1; rw [hf] at hf1; clear hF) | go_in)
  go_ret3
  go_wp2
  go_ret
  exact ⟨rfl, w1, hb1, rfl⟩

set_option maxRecDepth 100000 in
set_option maxHeartbeats 400000 in
theorem rdBytes_ok (rb n cap k : Nat) (ad : Option Addr) (z : Nat → Int) (most : Int) (l : List Int) (w : World) (h0 : w.cell? ⟨rb, 0, none⟩ = some (.slice ad n cap)) (h1 : w.cell? ⟨rb, 1, none⟩ = some .nilIface) (hf : w.frozen? ⟨rb, 0, none⟩ = false)
    (hlc : n ≤ cap) (hn : n ≤ 140737488351232) (hs : SlAt w ad n z) (hR : bR n z most = (l, k, 0)) (hkn : k ≤ n) :
    Calls Tryz.prog 64 #[.pointer (some ⟨rb, 0, none⟩), .int .i64 most] w fun e w' =>
      ∃ ad1 cap1 w1, e = .returned (.slice ad1 l.length cap1) ∧ Fresh w w1 ad1 cap1 l ∧ Took w1 w' rb n cap k ad := by
  have hs1 : SlAt (w.alloc (.cells #[.int .i64 most] 3)) ad n z := hs.frm ((Frm.refl [] w).alloc _) (by simp)
  have hlt : rb < w.heap.size := World.block_lt_of_cell? w ⟨rb, 0, none⟩ h0
  have hb0 : Below w.heap.size w (w.alloc (.cells #[.int .i64 most] 3)) := (Below.refl _ w).alloc (Nat.le_refl _) _
  have hkn1 : (k : Int) ≤ (n : Int) := by omega
  have hlc1 : (n : Int) ≤ (cap : Int) := by omega
  have hk0 : (0 : Int) ≤ (k : Int) := by omega
  have HR : Hid (bR n z most = (l, k, 0)) := hR
  clear hR
  go_enter Tryz.func64, Tryz.ntmps64
  go_wp2_with (first | (go_at_call 99; refine (frontBytes_any _ _ _ z most _ hlc hn hs1).mono ?_; rw [HR.out]; rintro e w1 ⟨ad1, cap1, rfl, hF⟩; have hF1 := Fresh.back hF hb0; have hb1 := hF1.2.2.2.2; have hc0 := hb1.cell (p := ⟨rb, 0, none⟩) hlt; have hc1 := hb1.cell (p := ⟨rb, 1, none⟩) hlt; have hf1 := hb1.frozen (p := ⟨rb, 0, none⟩) hlt; rw [h0] at hc0; rw [h1] at hc1; rw [hf] at hf1; have he := errV_0; clear hF) | go_in)
  go_ret3
  go_wp2
  · subst h
    go_ret
    exact ⟨ad1, cap1, rfl, w1, hF1, Took.all _ _ _ _ 0 _⟩
  · go_ret
    exact ⟨ad1, cap1, rfl, w1, hF1, Took.some _ _ _ _ _ 0 _⟩

/-- Bytes of its own, whatever else has become of the world. -/
def Own (w w' : World) (ad : Option Addr) (cap : Nat) (l : List Int) : Prop :=
  l.length ≤ cap ∧ SlAt w' ad l.length (fn l) ∧ (ad = none → l.length = 0 ∧ cap = 0) ∧ (∀ a, ad = some a → w.heap.size ≤ a.block)
theorem Fresh.own {w w1 w2 : World} {ad : Option Addr} {cap : Nat} {l : List Int} {S : List Nat} (h : Fresh w w1 ad cap l) (hf : Frm S w1 w2) (hS : ∀ k, k ∈ S → k < w.heap.size) : Own w w2 ad cap l :=
  ⟨h.1, h.2.1.frm hf (fun b off _ e hb => by have h1 := h.2.2.2.1 _ e; have h2 := hS b hb; simp at h1; omega), h.2.2.1, h.2.2.2.1⟩

theorem rdBytes_any (rb n : Nat) (z : Nat → Int) (most : Int) (w : World) (hn : n ≤ 140737488351232) (h : RdAt w rb n z 0) :
    Calls Tryz.prog 64 #[.pointer (some ⟨rb, 0, none⟩), .int .i64 most] w fun e w' =>
      ∃ ad1 cap1, e = .returned (.slice ad1 (bR n z most).1.length cap1) ∧ Own w w' ad1 cap1 (bR n z most).1 ∧ Frm [rb] w w' ∧ RdAt w' rb (n - (bR n z most).2.1) (fun j => z (j + (bR n z most).2.1)) (bR n z most).2.2 := by
  obtain ⟨ad, cap, hr, hlc, hs, hlb⟩ := h
  have hlt := lt_of_block hr
  have hc := bR_cases n z most
  by_cases hE : (bR n z most).2.2 = 0
  · refine (rdBytes_ok rb n cap (bR n z most).2.1 ad z most (bR n z most).1 w (two_cell0 hr) (two_cell1 hr) (two_free hr 0) hlc hn hs (by rw [← hE]) hc.1).mono ?_
    rintro e w' ⟨ad1, cap1, w1, rfl, hF, ht⟩
    rw [hE]
    have := ht.rd hr hlc hs hlb hc.1 (Frm.ofBelow hF.2.2.2.2)
    refine ⟨ad1, cap1, rfl, ?_, this.2, this.1⟩
    obtain ⟨ad', q, _, rfl⟩ := ht
    exact hF.own (((Frm.refl [rb] w1).drewN q).setCell _ _ (by simp)) (by simpa using hlt)
  · obtain ⟨hl, hk⟩ := hc.2 hE
    refine (rdBytes_err rb n cap ad z (bR n z most).2.2 most w (two_cell0 hr) (two_cell1 hr) (two_free hr 1) hlc hn hs (errV_ne hE)).mono ?_
    rintro e w' ⟨rfl, w1, hb, rfl⟩
    rw [hl, hk, ← errV_ne hE]
    have := RdAt.fail (er := (bR n z most).2.2) hr hlc hs hlb (Frm.ofBelow (S := []) hb)
    exact ⟨none, 0, rfl, (Fresh.nil hb).own ((Frm.refl [rb] w1).setCell _ _ (by simp)) (by simpa using hlt), this.2, this.1⟩
end Go.Proofs.YtbfajoeilpkofaaGreatDoor
/- The reader's Done. -/
namespace Go.Proofs.YtbfajoeilpkofaaGreatDoor
open Go.RowKit

/-- What Done answers of n bytes that are left, with an error. -/
def dn (n : Nat) (er : Int) : Int := if er = 0 ∧ 0 < n then 3 else er

set_option maxHeartbeats 400000 in
theorem done_err (rb : Nat) (x : Int) (w : World) (h1 : w.cell? ⟨rb, 1, none⟩ = some (.iface 72 (.int .i64 x))) :
    Calls Tryz.prog 62 #[.pointer (some ⟨rb, 0, none⟩)] w fun e w' => e = .returned (.iface 72 (.int .i64 x)) ∧ w' = w := by
  go_enter Tryz.func62, Tryz.ntmps62
  go_wp2
  go_ret
  exact ⟨rfl, rfl⟩
set_option maxHeartbeats 400000 in
theorem done_left (rb n cap : Nat) (ad : Option Addr) (w : World) (h0 : w.cell? ⟨rb, 0, none⟩ = some (.slice ad n cap)) (h1 : w.cell? ⟨rb, 1, none⟩ = some .nilIface) (hn : 0 < n) :
    Calls Tryz.prog 62 #[.pointer (some ⟨rb, 0, none⟩)] w fun e w' => e = .returned (.iface 72 (.int .i64 3)) ∧ w' = w := by
  go_enter Tryz.func62, Tryz.ntmps62
  go_wp2
  go_ret
  exact ⟨rfl, rfl⟩
set_option maxHeartbeats 400000 in
theorem done_nil (rb cap : Nat) (ad : Option Addr) (w : World) (h0 : w.cell? ⟨rb, 0, none⟩ = some (.slice ad 0 cap)) (h1 : w.cell? ⟨rb, 1, none⟩ = some .nilIface) :
    Calls Tryz.prog 62 #[.pointer (some ⟨rb, 0, none⟩)] w fun e w' => e = .returned .nilIface ∧ w' = w := by
  go_enter Tryz.func62, Tryz.ntmps62
  go_wp2
  go_ret
  exact ⟨rfl, rfl⟩
theorem done_any (rb n : Nat) (z : Nat → Int) (er : Int) (w : World) (h : RdAt w rb n z er) :
    Calls Tryz.prog 62 #[.pointer (some ⟨rb, 0, none⟩)] w fun e w' => e = .returned (errV (dn n er)) ∧ w' = w := by
  obtain ⟨ad, cap, hr, hlc, hs, -⟩ := h
  by_cases he : er = 0
  · subst he
    by_cases hn : 0 < n
    · have : dn n 0 = 3 := by simp [dn, hn]
      rw [this]
      exact done_left rb n cap ad w (two_cell0 hr) (two_cell1 hr) hn
    · have h0 : n = 0 := by omega
      subst h0
      have : dn 0 0 = 0 := by simp [dn]
      rw [this]
      exact done_nil rb cap ad w (two_cell0 hr) (two_cell1 hr)
  · have : dn n er = er := by simp [dn, he]
    rw [this, errV_ne he]
    have h1 := two_cell1 hr
    rw [errV_ne he] at h1
    exact done_err rb er w h1

end Go.Proofs.YtbfajoeilpkofaaGreatDoor
/- Readers of any bytes: by the list of what is left, or stopped. -/
namespace Go.Proofs.YtbfajoeilpkofaaGreatDoor
open Go.RowKit

def uintR (most : Int) (l : List Int) : Option (Int × List Int) := if uE l.length (fn l) most = 0 then some (uV l.length (fn l) most, l.drop (uN l.length (fn l) most)) else none
def countR (most : Int) (l : List Int) : Option (Int × List Int) := if cE l.length (fn l) most = 0 then some (cV l.length (fn l) most, l.drop (cN l.length (fn l) most)) else none
def bytesR (most : Int) (l : List Int) : Option (List Int × List Int) := if (bR l.length (fn l) most).2.2 = 0 then some ((bR l.length (fn l) most).1, l.drop (bR l.length (fn l) most).2.1) else none
/-- A reader at block rb: what is left, or that it has stopped. -/
def RS (w : World) (rb : Nat) : Option (List Int) → Prop
  | some l => RdAt w rb l.length (fn l) 0 ∧ l.length ≤ 140737488351232
  | none => ∃ n z er, er ≠ 0 ∧ RdAt w rb n z er
theorem RdAt.congr {w : World} {rb n m : Nat} {z y : Nat → Int} {er : Int} (h : RdAt w rb n z er) (hn : n = m) (he : ∀ j, j < n → z j = y j) : RdAt w rb m y er := by
  subst hn
  obtain ⟨ad, cap, h1, h2, h3, h4⟩ := h
  exact ⟨ad, cap, h1, h2, h3.congr he, h4⟩
theorem fn_drop (l : List Int) (k j : Nat) : fn (l.drop k) j = fn l (j + k) := by simp [fn, Nat.add_comm]
theorem RdAt.drop {w : World} {rb k : Nat} {l : List Int} (h : RdAt w rb (l.length - k) (fun j => fn l (j + k)) 0) : RdAt w rb (l.drop k).length (fn (l.drop k)) 0 := h.congr (by simp) fun j _ => (fn_drop l k j).symm
theorem RdAt.cell1 {w : World} {rb n : Nat} {z : Nat → Int} {er : Int} (h : RdAt w rb n z er) (he : er ≠ 0) : w.cell? ⟨rb, 1, none⟩ = some (.iface 72 (.int .i64 er)) := by
  obtain ⟨ad, cap, h1, _⟩ := h
  rw [two_cell1 h1, errV_ne he]
theorem RdAt.keep {w w' : World} {rb n : Nat} {z : Nat → Int} {er : Int} (h : RdAt w rb n z er) (hb : Below w.heap.size w w') : RdAt w' rb n z er := by
  obtain ⟨ad, cap, h1, h2, h3, h4⟩ := h
  exact ⟨ad, cap, by rw [hb.block _ (lt_of_block h1)]; exact h1, h2, h3.frm (S := []) (Frm.ofBelow hb) (by simp), h4⟩
/-- What is turned lies behind the reader. -/
theorem RdAt.frm {S : List Nat} {w w' : World} {rb n : Nat} {z : Nat → Int} {er : Int} (h : RdAt w rb n z er) (hf : Frm S w w') (hS : ∀ k, k ∈ S → rb < k) : RdAt w' rb n z er := by
  obtain ⟨ad, cap, h1, h2, h3, h4⟩ := h
  exact ⟨ad, cap, hf.heap h1 (fun hk => Nat.lt_irrefl _ (hS _ hk)), h2, h3.frm hf (fun b off hn e hk => by have := hS b hk; have := h4 b off hn e; omega), h4⟩
theorem RS.keep {w w' : World} {rb : Nat} {q : Option (List Int)} (h : RS w rb q) (hb : Below w.heap.size w w') : RS w' rb q := by
  cases q with
  | some l => exact ⟨h.1.keep hb, h.2⟩
  | none => obtain ⟨n, z, er, he, h⟩ := h; exact ⟨n, z, er, he, h.keep hb⟩
theorem RS.frm {S : List Nat} {w w' : World} {rb : Nat} {q : Option (List Int)} (h : RS w rb q) (hf : Frm S w w') (hS : ∀ k, k ∈ S → rb < k) : RS w' rb q := by
  cases q with
  | some l => exact ⟨h.1.frm hf hS, h.2⟩
  | none => obtain ⟨n, z, er, he, h⟩ := h; exact ⟨n, z, er, he, h.frm hf hS⟩
theorem RS.lt {w : World} {rb : Nat} {q : Option (List Int)} (h : RS w rb q) : rb < w.heap.size := by
  cases q with
  | some l => obtain ⟨⟨ad, cap, h1, _⟩, _⟩ := h; exact lt_of_block h1
  | none => obtain ⟨n, z, er, he, ad, cap, h1, _⟩ := h; exact lt_of_block h1
set_option maxHeartbeats 400000 in
theorem stopUint (rb : Nat) (most : Int) (u : TypeId) (x : Value) (w : World) (h1 : w.cell? ⟨rb, 1, none⟩ = some (.iface u x)) :
    Calls Tryz.prog 61 #[.pointer (some ⟨rb, 0, none⟩), .int .u64 most] w fun e w' => e = .returned (.int .u64 0) ∧ Below w.heap.size w w' := by
  have hlt : rb < w.heap.size := World.block_lt_of_cell? w _ h1
  go_enter Tryz.func61, Tryz.ntmps61
  go_wp2
  go_ret
  exact ⟨rfl, (by repeat (first | exact Below.refl _ _ | refine Below.alloc ?_ (by simp; try omega) _ | refine Below.setCell ?_ (by simp) _ | refine below_drewN ?_ _ | refine Below.drew ?_))⟩
set_option maxHeartbeats 400000 in
theorem stopBytes (rb : Nat) (most : Int) (u : TypeId) (x : Value) (w : World) (h1 : w.cell? ⟨rb, 1, none⟩ = some (.iface u x)) :
    Calls Tryz.prog 64 #[.pointer (some ⟨rb, 0, none⟩), .int .i64 most] w fun e w' => e = .returned (.slice none 0 0) ∧ Below w.heap.size w w' := by
  have hlt : rb < w.heap.size := World.block_lt_of_cell? w _ h1
  go_enter Tryz.func64, Tryz.ntmps64
  go_wp2
  go_ret
  exact ⟨rfl, (by repeat (first | exact Below.refl _ _ | refine Below.alloc ?_ (by simp; try omega) _ | refine Below.setCell ?_ (by simp) _ | refine below_drewN ?_ _ | refine Below.drew ?_))⟩
theorem uint_rs (rb : Nat) (most : Int) (q : Option (List Int)) (w : World) (h : RS w rb q) :
    Calls Tryz.prog 61 #[.pointer (some ⟨rb, 0, none⟩), .int .u64 most] w fun e w' =>
      e = .returned (.int .u64 (((q.bind (uintR most)).map Prod.fst).getD 0)) ∧ Frm [rb] w w' ∧ RS w' rb ((q.bind (uintR most)).map Prod.snd) := by
  cases q with
  | none =>
    obtain ⟨n, z, er, he, h⟩ := h
    refine (stopUint rb most _ _ w (h.cell1 he)).mono ?_
    rintro e w' ⟨rfl, hb⟩
    exact ⟨rfl, Frm.ofBelow hb, n, z, er, he, h.keep hb⟩
  | some l =>
    refine (rdUint_any rb _ _ most w h.1).mono ?_
    rintro e w' ⟨rfl, hF, hR⟩
    simp only [Option.bind_some, uintR]
    by_cases hE : uE l.length (fn l) most = 0
    · rw [if_pos hE]
      rw [hE] at hR
      exact ⟨rfl, hF, hR.drop, by have := h.2; simp; omega⟩
    · rw [if_neg hE]
      refine ⟨?_, hF, _, _, _, hE, hR⟩
      simp [uV, hE]
theorem count_rs (rb : Nat) (most : Int) (l : List Int) (w : World) (h : RS w rb (some l)) (hm : most ≤ 9223372036854775807) :
    Calls Tryz.prog 60 #[.pointer (some ⟨rb, 0, none⟩), .int .i64 most] w fun e w' =>
      e = .returned (.int .i64 (((countR most l).map Prod.fst).getD 0)) ∧ Frm [rb] w w' ∧ RS w' rb ((countR most l).map Prod.snd) := by
  refine (rdCount_any rb _ _ most w h.2 hm h.1).mono ?_
  rintro e w' ⟨rfl, hF, hR⟩
  simp only [countR]
  by_cases hE : cE l.length (fn l) most = 0
  · rw [if_pos hE]
    rw [hE] at hR
    exact ⟨rfl, hF, hR.drop, by have := h.2; simp; omega⟩
  · rw [if_neg hE]
    refine ⟨?_, hF, _, _, _, hE, hR⟩
    simp [cV, hE]
theorem bytes_rs (rb : Nat) (most : Int) (q : Option (List Int)) (w : World) (h : RS w rb q) :
    Calls Tryz.prog 64 #[.pointer (some ⟨rb, 0, none⟩), .int .i64 most] w fun e w' =>
      ∃ ad cap, e = .returned (.slice ad (((q.bind (bytesR most)).map Prod.fst).getD []).length cap) ∧ Own w w' ad cap (((q.bind (bytesR most)).map Prod.fst).getD []) ∧ Frm [rb] w w' ∧ RS w' rb ((q.bind (bytesR most)).map Prod.snd) := by
  cases q with
  | none =>
    obtain ⟨n, z, er, he, h⟩ := h
    refine (stopBytes rb most _ _ w (h.cell1 he)).mono ?_
    rintro e w' ⟨rfl, hb⟩
    exact ⟨none, 0, rfl, ⟨Nat.le_refl _, SlAt.zero _ _, (fun _ => ⟨rfl, rfl⟩), fun a h => by cases h⟩, Frm.ofBelow hb, n, z, er, he, h.keep hb⟩
  | some l =>
    refine (rdBytes_any rb _ _ most w h.2 h.1).mono ?_
    rintro e w' ⟨ad, cap, rfl, hO, hF, hR⟩
    simp only [Option.bind_some, bytesR]
    by_cases hE : (bR l.length (fn l) most).2.2 = 0
    · rw [if_pos hE]
      rw [hE] at hR
      exact ⟨ad, cap, rfl, hO, hF, hR.drop, by have := h.2; simp; omega⟩
    · rw [if_neg hE]
      have hc := (bR_cases l.length (fn l) most).2 hE
      rw [hc.1] at hO ⊢
      exact ⟨ad, cap, rfl, hO, hF, _, _, _, hE, hR⟩
/-- Is all taken off? -/
def endsR (q : Option (List Int)) : Bool := match q with | some [] => true | _ => false
theorem done_rs (rb : Nat) (q : Option (List Int)) (w : World) (h : RS w rb q) :
    Calls Tryz.prog 62 #[.pointer (some ⟨rb, 0, none⟩)] w fun e w' => (∃ x, e = .returned (errV x) ∧ (endsR q = true ↔ x = 0)) ∧ w' = w := by
  cases q with
  | none =>
    obtain ⟨n, z, er, he, h⟩ := h
    refine (done_any rb n z er w h).mono ?_
    rintro e w' ⟨rfl, rfl⟩
    refine ⟨⟨_, rfl, ?_⟩, rfl⟩
    simp [endsR, dn, he]
  | some l =>
    refine (done_any rb _ _ 0 w h.1).mono ?_
    rintro e w' ⟨rfl, rfl⟩
    refine ⟨⟨_, rfl, ?_⟩, rfl⟩
    cases l <;> simp [endsR, dn]
theorem readE_rs (ad : Option Addr) (cap : Nat) (l : List Int) (w : World) (hs : SlAt w ad l.length (fn l)) (hnil : ad = none → l.length = 0 ∧ cap = 0) (hn : l.length ≤ 140737488351232) :
    Calls Tryz.prog 59 #[.slice ad l.length cap] w fun e w' => ∃ rb, e = .returned (.pointer (some ⟨rb, 0, none⟩)) ∧ RS w' rb (some l) ∧ w.heap.size ≤ rb ∧ Below w.heap.size w w' := by
  refine (readE_any ad l.length cap (fn l) w hs hnil hn).mono ?_
  rintro e w' ⟨rb, rfl, h1, h2, h3⟩
  exact ⟨rb, rfl, ⟨h1, hn⟩, h2, h3⟩
end Go.Proofs.YtbfajoeilpkofaaGreatDoor
