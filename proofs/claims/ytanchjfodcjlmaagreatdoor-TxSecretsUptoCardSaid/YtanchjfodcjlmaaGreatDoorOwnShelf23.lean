/- The writer's Bytes, behind EWrDone. -/
import Derived.Test.YtanchjfodcjlmaaGreatDoorOwnShelf19
import Derived.Great.Ranges
import Derived.Test.YtanchjfodcjlmaaGreatDoorOwnShelf17
import Derived.Laws.IdiomStrings
import Derived.Lib.BufferRead
import Derived.Test.YtanchjfodcjlmaaGreatDoorOwnShelf11
import Derived.Test.YtanchjfodcjlmaaGreatDoorProg
import Derived.Ground.Names8Prog
import Derived.Shelf.Spec.SlicesGrow
import Derived.Ground.Names2Prog
import Derived.Ground.NamesProg
import Derived.Shelf.Slices.Clone
import Derived.Shelf.Slices.CompactI
import Derived.Shelf.Slices.Turned
import Derived.Shelf.Sort.Plain
import Derived.Shelf.SlGeneric
namespace Go.Proofs.YtanchjfodcjlmaaGreatDoor
open Go.RowKit

/-- A byte as it is laid within bytes. -/
def esc (x : Int) : List Int := if x = 0 then [0, 255] else [x]
def escF (z : Nat → Int) : Nat → List Int
  | 0 => []
  | k + 1 => escF z k ++ esc (z k)
theorem esc_len (x : Int) : (esc x).length ≤ 2 ∧ 1 ≤ (esc x).length := by unfold esc; split <;> simp
theorem escF_le (z : Nat → Int) (k : Nat) : (escF z k).length ≤ 2 * k := by
  induction k with
  | zero => simp [escF]
  | succ k ih => have := esc_len (z k); simp only [escF, List.length_append]; omega

/-- Bytes do not lie in a writer's own block. -/
theorem SlAt.ne_wr {w : World} {ad : Option Addr} {n : Nat} {z : Nat → Int} (h : SlAt w ad n z) {B p : Nat} {g : Option Nat} {l : List Int} (hw : WrAt w B p g l) {b off : Nat} (hn : 0 < n) (e : ad = some ⟨b, off, none⟩) : b ≠ p := by
  obtain ⟨v, hp, hown, _⟩ := hw
  rcases hown.2 with ⟨rfl, _⟩ | ⟨g, cap, cur, rfl, _⟩
  · exact h.ne_one hp hn e
  · exact h.ne_one hp hn e

set_option maxRecDepth 100000 in
set_option maxHeartbeats 1600000 in
theorem wrBytes_any (p B : Nat) (g : Option Nat) (l : List Int) (ad : Option Addr) (n cap : Nat) (z : Nat → Int) (w : World) (hw : WrAt w B p g l) (hl : l.length + 2 * n + 2 ≤ 140737488355328)
    (hs : SlAt w ad n z) (hsg : ∀ b off, 0 < n → ad = some ⟨b, off, none⟩ → some b ≠ g) :
    Calls Tryz.prog 62 #[.pointer (some ⟨p, 0, none⟩), .slice ad n cap] w fun e w' => e = .returned (.pointer (some ⟨p, 0, none⟩)) ∧ WrGrown w w' B p g (l ++ (escF z n ++ [0, 0])) := by
  obtain ⟨i0, hi0, hz0, hz1, hz2⟩ := info_parts Tryz.infoB
  have H : Hid (Tryz.prog.info? 5 = some i0 ∧ i0.zero = some (.int .u8 0) ∧ i0.size = 1 ∧ i0.bytes = 1) := ⟨hi0, hz0, hz1, hz2⟩
  clear hi0 hz0 hz1 hz2
  have HS : Hid (SlAt w ad n z) := hs
  have HG : Hid (∀ b off, 0 < n → ad = some ⟨b, off, none⟩ → some b ≠ g) := hsg
  have HW : Hid (WrAt w B p g l) := hw
  clear hs hsg hw
  go_enter Tryz.func62, Tryz.ntmps62
  go_wp2
  go_loopw [11] (fun iv wr => ∃ q : Nat, q ≤ n ∧ iv = .int .i64 q ∧ WrGrown w wr B p g (l ++ escF z q)) (fun iv _ => n - (intOf iv).toNat)
  case atStart => exact ⟨0, Nat.zero_le _, rfl, g, by simpa [escF] using HW.out, Frm.refl _ _, .inl rfl⟩
  case round =>
    obtain ⟨q, hq, rfl, hR⟩ := hrel
    have hle := escF_le z q
    generalize hL : l ++ escF z q = L at hR
    have hLl : L.length + 2 * (n - q) + 2 ≤ 140737488355328 := by rw [← hL, List.length_append]; omega
    have HL : Hid (l ++ escF z q = L) := hL
    clear hL hle
    obtain ⟨g1, hA, hF, hg1⟩ := hR
    obtain ⟨v, hp, hown, hg, hB, hx, hne1, hplt⟩ := hA.parts
    have hc := cell_of_one hp
    have hf := free_of_one hp
    have HO : Hid (wr.ownsRow B 5 1 v L.length (L.map (Value.int .u8))) := hown
    have HP1 : Hid (wr.heap[p]? = some (.cells #[v] 161 (0, 0))) := hp
    have HF : Hid (Frm (p :: g.toList) w wr) := hF
    clear hown hp hA hF
    by_cases hlt : q < n
    · obtain ⟨b, off, rfl, hcz⟩ := HS.out.2 (by omega)
      have hzq := HS.out.1 q hlt
      have hcq : wr.cell? ⟨b, off + q, none⟩ = some (.int .u8 (z q)) := by
        have hblt : b < w.heap.size := HS.out.lt (by omega) rfl
        have hb : b ∉ p :: g.toList := by
          intro hm
          simp at hm
          rcases hm with h | h
          · exact HS.out.ne_wr HW.out (by omega) rfl h
          · exact HG.out b off (by omega) rfl h.symm
        rw [World.cell?_of_block (a := ⟨b, off + q, none⟩) (HF.out.block b hblt hb)]
        exact hcz q hlt
      clear hcz
      by_cases h0 : z q = 0
      · have h0' : (z q == 0) = true := by simp [h0]
        have H0 : Hid (z q = 0) := h0
        clear h0
        go_wp2_with (first | (at_builtin; refine wpList_append_lies _ rfl (.tmp 19) (.tmp 21) 57 rfl B 5 i0 _ 1 1 Tryz.underlying57 H.out.1 H.out.2.1 H.out.2.2.1 H.out.2.2.2 rfl (by omega) v L.length (L.map (Value.int .u8)) rfl (HO.out.alloc _) ⟨wr.heap.size, 0, none⟩ 1 1 [.int .u8 (z q)] rfl rfl (World.news_of_block (cs := #[.int .u8 (z q)]) (t := 5) (fr := (0, 0)) (heap_alloc_new wr _)) (by simp [Value.oneCell']) (by omega) (by simp [maxLen]; omega) (by simp; omega) (by simp; omega) (wr.heap.size + 1) (by simp) ?_; intro gg1 cap1 w1 hown1 hgrow1 hat1 hlt1; have hp1 := grown_keep ((Frm.refl [] wr).alloc _) hgrow1 HP1.out hne1; have hc1 := cell_of_one hp1; have hf1 := free_of_one hp1; have HX := wr_two HP1.out ((Frm.refl [] wr).alloc _) hown1 hgrow1 hat1 hg hg1 HF.out hB hx hzq hne1; have HP2 := HX.out.1; have hne2 : some p ≠ (Value.slice (some ⟨gg1, 0, none⟩) (L.length + 1) cap1).ownBlock := fun e => HX.out.2.2.1 (Option.some.inj e).symm; have hB2 : p < w1.heap.size := HX.out.2.2.2.1; clear hown1 hgrow1 hp1) | (at_builtin; refine wpList_append_lies _ rfl (.tmp 31) (.tmp 32) 57 rfl B 5 i0 _ 1 1 Tryz.underlying57 H.out.1 H.out.2.1 H.out.2.2.1 H.out.2.2.2 rfl (by omega) (.slice (some ⟨gg1, 0, none⟩) (L.length + 1) cap1) (L.length + 1) ((L ++ [z q]).map (Value.int .u8)) rfl (HX.out.2.1.alloc _) ⟨w1.heap.size, 0, none⟩ 1 1 [.int .u8 255] rfl rfl (World.news_of_block (cs := #[.int .u8 255]) (t := 5) (fr := (0, 0)) (alloc_set_new w1 _ _ _)) (by simp [Value.oneCell']) (by omega) (by simp [maxLen]; omega) (by simp; omega) (by simp; omega) (w1.heap.size + 1) (by simp) ?_; intro gg2 cap2 w2 hown2 hgrow2 hat2 hlt2; have hp2 := grown_keep ((Frm.refl [] (w1.setCell ⟨p, 0, none⟩ (.slice (some ⟨gg1, 0, none⟩) (L.length + 1) cap1))).alloc _) hgrow2 HP2 hne2; have hc2 := cell_of_one hp2; have hf2 := free_of_one hp2))
        have R := wr_step (L := L ++ [z q]) (ys := [255]) HP2 ((Frm.refl [] _).alloc _) (by simpa using hown2) hgrow2 (by simpa [World.setCell] using hat2) rfl HX.out.2.2.2.2.2.2 HX.out.2.2.2.2.2.1 hB HX.out.2.2.2.2.1 (by intro y hy; simp at hy; omega) hne2
        refine ⟨⟨q + 1, by omega, by go_num, ?_⟩, by simp [intOf]; omega⟩
        have e : l ++ escF z (q + 1) = L ++ [z q] ++ [255] := by rw [escF, esc, if_pos H0.out, ← List.append_assoc, HL.out, H0.out]; simp
        rw [e]
        simpa using R
      · have h0' : (z q == 0) = false := by simp [h0]
        have H0 : Hid (¬ z q = 0) := h0
        clear h0
        go_wp2_with (at_builtin; refine wpList_append_lies _ rfl (.tmp 19) (.tmp 21) 57 rfl B 5 i0 _ 1 1 Tryz.underlying57 H.out.1 H.out.2.1 H.out.2.2.1 H.out.2.2.2 rfl (by omega) v L.length (L.map (Value.int .u8)) rfl (HO.out.alloc _) ⟨wr.heap.size, 0, none⟩ 1 1 [.int .u8 (z q)] rfl rfl (World.news_of_block (cs := #[.int .u8 (z q)]) (t := 5) (fr := (0, 0)) (heap_alloc_new wr _)) (by simp [Value.oneCell']) (by omega) (by simp [maxLen]; omega) (by simp; omega) (by simp; omega) (wr.heap.size + 1) (by simp) ?_; intro gg1 cap1 w1 hown1 hgrow1 hat1 hlt1; have hp1 := grown_keep ((Frm.refl [] wr).alloc _) hgrow1 HP1.out hne1; have hc1 := cell_of_one hp1; have hf1 := free_of_one hp1)
        have R := wr_step (ys := [z q]) HP1.out ((Frm.refl [] wr).alloc _) (by simpa using hown1) hgrow1 hat1 hg hg1 HF.out hB hx (by intro y hy; rw [List.mem_singleton.1 hy]; exact hzq) hne1
        refine ⟨⟨q + 1, by omega, by go_num, ?_⟩, by simp [intOf]; omega⟩
        rw [escF, esc, if_neg H0.out, ← List.append_assoc, HL.out]
        simpa using R
    · have : q = n := by omega
      subst this
      go_wp2_with (at_builtin; refine wpList_append_lies _ rfl (.tmp 41) (.tmp 42) 57 rfl B 5 i0 _ 1 1 Tryz.underlying57 H.out.1 H.out.2.1 H.out.2.2.1 H.out.2.2.2 rfl (by omega) v L.length (L.map (Value.int .u8)) rfl (HO.out.alloc _) ⟨wr.heap.size, 0, none⟩ 2 2 [.int .u8 0, .int .u8 0] rfl rfl (World.news_of_block (cs := #[.int .u8 0, .int .u8 0]) (t := 5) (fr := (0, 0)) (heap_alloc_new wr _)) (by simp [Value.oneCell']) (by omega) (by simp [maxLen]; omega) (by simp; omega) (by simp; omega) (wr.heap.size + 1) (by simp) ?_; intro gg1 cap1 w1 hown1 hgrow1 hat1 hlt1; have hp1 := grown_keep ((Frm.refl [] wr).alloc _) hgrow1 HP1.out hne1; have hc1 := cell_of_one hp1; have hf1 := free_of_one hp1)
      have R := wr_step (ys := [0, 0]) HP1.out ((Frm.refl [] wr).alloc _) (by simpa using hown1) hgrow1 hat1 hg hg1 HF.out hB hx (by intro y hy; simp at hy; omega) hne1
      go_ret
      refine ⟨rfl, ?_⟩
      rw [← List.append_assoc, HL.out]
      simpa using R

end Go.Proofs.YtanchjfodcjlmaaGreatDoor
/- The writer's Hash; a nil writer's calls. -/
namespace Go.Proofs.YtanchjfodcjlmaaGreatDoor
open Go.RowKit

attribute [local go_sem ↓] Go.wp_at_zero Go.wp_at_succ

/-- A sum's bytes. -/
def hB (z : Nat → Int) : List Int := (List.range 32).map z
theorem hB_length (z : Nat → Int) : (hB z).length = 32 := by simp [hB]
theorem hB_bl (z : Nat → Int) : (hB z).map (Value.int .u8) = bl z 32 := by simp [hB, bl]

set_option maxRecDepth 100000 in
set_option maxHeartbeats 1600000 in
theorem wrHash_any (p B : Nat) (g : Option Nat) (l : List Int) (z : Nat → Int) (w : World) (hw : WrAt w B p g l) (hl : l.length + 32 ≤ 140737488355328) (hz : ∀ j, j < 32 → 0 ≤ z j ∧ z j ≤ 255) :
    Calls Tryz.prog 61 #[.pointer (some ⟨p, 0, none⟩), .agg (hv z)] w fun e w' => e = .returned (.pointer (some ⟨p, 0, none⟩)) ∧ WrGrown w w' B p g (l ++ hB z) := by
  obtain ⟨i0, hi0, hz0, hz1, hz2⟩ := info_parts Tryz.infoB
  have H : Hid (Tryz.prog.info? 5 = some i0 ∧ i0.zero = some (.int .u8 0) ∧ i0.size = 1 ∧ i0.bytes = 1) := ⟨hi0, hz0, hz1, hz2⟩
  clear hi0 hz0 hz1 hz2
  have HZ : Hid (∀ j, j < 32 → 0 ≤ z j ∧ z j ≤ 255) := hz
  clear hz
  obtain ⟨v, hp, hown, hg, hB0, hx⟩ := hw
  have hc := cell_of_one hp
  have hf := free_of_one hp
  have hplt := lt_of_block hp
  have hne : some p ≠ v.ownBlock := fun e => own_ne hown hp e.symm
  have HO : Hid (w.ownsRow B 5 1 v l.length (l.map (Value.int .u8))) := hown
  have HP : Hid (w.heap[p]? = some (.cells #[v] 161 (0, 0))) := hp
  clear hown hp
  have HN : Hid (((w.alloc (.cells (hv z) 43)).drew).heap[w.heap.size]? = some (.cells (hv z) 43 (0, 0))) := heap_alloc_new w (.cells (hv z) 43)
  go_enter Tryz.func61, Tryz.ntmps61
  go_wp2_with (refine Go.Great.wpList_boxTo rfl _ _ rfl _ rfl _ rfl (hv z) rfl ?_)
  go_region_law (refine step_append_lies _ (by rfl) _ _ _ (by rfl) B 5 i0 _ 1 1 Tryz.underlying57 H.out.1 H.out.2.1 H.out.2.2.1 H.out.2.2.2 rfl (by omega) v l.length (l.map (Value.int .u8)) (by rfl) ((HO.out.alloc _).drew) ⟨w.heap.size, 0, none⟩ 32 32 (bl z 32) (by rfl) (by simp [bl_length]) (by have := World.news_of_block HN.out; rw [hv_list] at this; exact this) (bl_one z 32) (by omega) (by simp [maxLen]; omega) (by simp; omega) (by simp; omega) (w.heap.size + 1) (by simp) ?_; intro gg cap w1 hown1 hgrow hat hlt1; have hp1 := grown_keep (((Frm.refl [] w).alloc _).drew) hgrow HP.out hne; have hc1 := cell_of_one hp1; have hf1 := free_of_one hp1)
  all_goals
    have R := wr_step (ys := hB z) HP.out (((Frm.refl [] w).alloc _).drew) (by rw [hB_bl, hB_length]; exact hown1) hgrow hat hg (.inl rfl) (Frm.refl _ w) hB0 hx (by intro y hy; simp [hB] at hy; obtain ⟨j, hj, rfl⟩ := hy; exact HZ.out j hj) hne
    rw [hB_length] at R
    clear hown1 hgrow hp1
    go_wp2
    go_ret
    exact ⟨rfl, R⟩

end Go.Proofs.YtanchjfodcjlmaaGreatDoor
/- Bytes as a string. -/
namespace Go.Proofs.YtanchjfodcjlmaaGreatDoor
open Go.RowKit

/-- n bytes z as a string. -/
def strB (z : Nat → Int) (n : Nat) : ByteArray := ⟨((List.range n).map fun j => UInt8.ofNat (z j).toNat).toArray⟩

theorem conv_any (ad : Option Addr) (n cap : Nat) (z : Nat → Int) (w : World) (hs : SlAt w ad n z) (hnil : ad = none → n = 0 ∧ cap = 0) :
    (convert 57 9 (.slice ad n cap)).run Tryz.prog w = .ok (.string (strB z n)) w := by
  cases ad with
  | none =>
    obtain ⟨rfl, rfl⟩ := hnil rfl
    exact Lib.run_convert_nil_bytes w 57 9 5 0 Tryz.underlying57 Tryz.underlying5 Tryz.underlying9
  | some a =>
    have h := run_convert_bytes_back (P := Tryz.prog) w 57 9 5 a cap ((List.range n).map fun j => UInt8.ofNat (z j).toNat) Tryz.underlying57 Tryz.underlying5 Tryz.underlying9 ?_
    · simpa [strB] using h
    · intro j hj
      simp at hj
      obtain ⟨b, off, e, hc⟩ := hs.2 (by omega)
      cases e
      have hz := hs.1 j hj
      rw [Addr.add_lit, hc j hj]
      simp
      omega
end Go.Proofs.YtanchjfodcjlmaaGreatDoor
/- cond.lay: ints laid by a writer. -/
namespace Go.Proofs.YtanchjfodcjlmaaGreatDoor.Cd
open Go.RowKit

/-- An int as a number from 0 on. -/
def u64 (n : Int) : Int := IntKind.u64.wrap n
theorem u64_bd (n : Int) : 0 ≤ u64 n ∧ u64 n ≤ 18446744073709551615 := by
  unfold u64
  simp [IntKind.wrap, IntKind.bits, IntKind.signed]
  omega
theorem u64_nat (n : Nat) (h : n ≤ 9223372036854775807) : u64 (n : Int) = n := by
  unfold u64
  simp [IntKind.wrap, IntKind.bits, IntKind.signed]
  omega
/-- Ints as they are laid. -/
def laidK (z : Nat → Int) : Nat → List Int
  | 0 => []
  | j + 1 => laidK z j ++ uB (u64 (z j))
theorem uB_len (n : Int) : (uB n).length ≤ 9 := by
  have := sz_le n
  simp [uB, dgs_length]
  omega
theorem laidK_len (z : Nat → Int) : ∀ j, (laidK z j).length ≤ 9 * j
  | 0 => by simp [laidK]
  | j + 1 => by
    have h1 := laidK_len z j
    have h2 := uB_len (u64 (z j))
    simp only [laidK, List.length_append]
    omega
theorem laidK_congr {z y : Nat → Int} : ∀ n, (∀ j, j < n → z j = y j) → laidK z n = laidK y n
  | 0, _ => rfl
  | n + 1, h => by rw [laidK, laidK, laidK_congr n (fun j hj => h j (by omega)), h n (by omega)]
theorem _root_.Go.Proofs.YtanchjfodcjlmaaGreatDoor.WrGrown.refl {w : World} {B p : Nat} {g : Option Nat} {l : List Int} (h : WrAt w B p g l) : WrGrown w w B p g l := ⟨g, h, Frm.refl _ _, .inl rfl⟩
theorem _root_.Go.Proofs.YtanchjfodcjlmaaGreatDoor.WrGrown.next {w w1 w2 : World} {B p : Nat} {g g1 : Option Nat} {l l' : List Int} (h : WrGrown w w1 B p g l) (h1 : WrAt w1 B p g1 l) (h2 : WrGrown w1 w2 B p g1 l') : WrGrown w w2 B p g l' :=
  h.trans fun g' hg' => by rw [hg'.same h1]; exact h2
theorem isAt_frm {S : List Nat} {w w' : World} {ad : Option Addr} {n : Nat} {z : Nat → Int} (h : IsAt w ad n z) (hf : Frm S w w') (ha : ∀ a, ad = some a → a.block ∉ S) : IsAt w' ad n z := by
  intro hn
  obtain ⟨b, off, e, hc⟩ := h hn
  refine ⟨b, off, e, fun j hj => ?_⟩
  have h1 := hc j hj
  rw [World.cell?_of_block (a := ⟨b, off + j, none⟩) (hf.block b (World.block_lt_of_cell? w ⟨b, off + j, none⟩ h1) (ha _ e))]
  exact h1

set_option maxHeartbeats 1600000 in
theorem lay_any (p B : Nat) (g : Option Nat) (l : List Int) (ad : Option Addr) (n cap : Nat) (z : Nat → Int) (w : World) (hw : WrAt w B p g l) (hl : l.length + 9 * n + 16 ≤ 140737488355328) (hI : IsAt w ad n z) (ha : 0 < n → ∀ a, ad = some a → a.block ∉ p :: g.toList) (hn : n ≤ 1048576) :
    Calls Tryz.prog 103 #[.pointer (some ⟨p, 0, none⟩), .slice ad n cap] w fun e w' => e = .returned (.tuple #[]) ∧ WrGrown w w' B p g (l ++ laidK z n) := by
  have HI : Hid (IsAt w ad n z ∧ (0 < n → ∀ a, ad = some a → a.block ∉ p :: g.toList)) := ⟨hI, ha⟩
  have h0 : WrGrown w w B p g (l ++ laidK z 0) := by simpa [laidK] using WrGrown.refl hw
  clear hI ha hw
  go_enter Tryz.func103, Tryz.ntmps103
  go_wp2
  go_loopw [5, 8] (fun _ iv wr => ∃ i : Nat, i ≤ n ∧ iv = .int .i64 i ∧ WrGrown w wr B p g (l ++ laidK z i)) (fun _ iv _ => n + 1 - (intOf iv).toNat)
  case atStart => exact ⟨0, by omega, rfl, h0⟩
  case round =>
    clear h0
    obtain ⟨i, hi, rfl, hW⟩ := hrel
    have HW : Hid (WrGrown w wr B p g (l ++ laidK z i)) := hW
    clear hW
    by_cases hlt : i < n
    · have hlt' : (i : Int) < n := by omega
      obtain ⟨g1, hA1, hF1, -⟩ := HW.out
      obtain ⟨b, off, rfl, hc⟩ := (isAt_frm HI.out.1 hF1 (HI.out.2 (by omega))) (by omega)
      have hci := hc i hlt
      have hbd := u64_bd (z i)
      have hll := laidK_len z i
      have hcall := wrUint_any p B g1 (l ++ laidK z i) (u64 (z i)) wr hA1 (by simp; omega) hbd
      have HA : Hid (WrAt wr B p g1 (l ++ laidK z i)) := hA1
      clear hc hF1 hA1
      unfold u64 at hcall
      go_wp2_with (go_at_call 80; refine hcall.mono ?_; rintro e w1 ⟨rfl, hW1⟩)
      have HN : Hid (WrGrown w w1 B p g (l ++ laidK z (i + 1))) := by
        have := HW.out.next HA.out hW1
        rw [List.append_assoc] at this
        exact this
      clear hW1 hcall
      go_roundw
      case rel => exact ⟨i + 1, by omega, by go_num, HN.out⟩
      case measure => simp [intOf]; omega
    · obtain rfl : i = n := by omega
      have hnn : ¬ ((i : Int) < i) := by omega
      have hW := HW.out
      go_wp2
      go_end0
      exact ⟨rfl, hW⟩
end Go.Proofs.YtanchjfodcjlmaaGreatDoor.Cd
/- The library's contracts laid at this program: which of its functions and types they speak of. -/
namespace Go.Proofs
open Go.Shelf
def Tryz.lGrow_ren : Go.Shelf.Ren := ⟨fun | 4 => 114 | n => n, fun | 22 => 57 | 25 => 5 | 3 => 3 | 4 => 4 | 9 => 9 | 20 => 20 | 0 => 0 | n => n, fun | n => n⟩
theorem Tryz.lGrow : Go.Proofs.Lays8.n4 Tryz.prog Tryz.lGrow_ren := {
  mixed := by kernel_rfl
  f4 := ⟨Tryz.f114.name, by decide, Tryz.func114.trans (congrArg some (by kernel_rfl))⟩
  t0 := Tryz.underlying0
  a0 := Tryz.isAgg0
  z0 := Tryz.sizeOf0
  v0 := Tryz.zeroValue0
  t3 := Tryz.underlying3
  a3 := Tryz.isAgg3
  z3 := Tryz.sizeOf3
  v3 := Tryz.zeroValue3
  t4 := Tryz.underlying4
  a4 := Tryz.isAgg4
  z4 := Tryz.sizeOf4
  v4 := Tryz.zeroValue4
  t9 := Tryz.underlying9
  a9 := Tryz.isAgg9
  z9 := Tryz.sizeOf9
  v9 := Tryz.zeroValue9
  t20 := Tryz.underlying20
  a20 := Tryz.isAgg20
  z20 := Tryz.sizeOf20
  v20 := Tryz.zeroValue20
  t22 := Tryz.underlying57
  a22 := Tryz.isAgg57
  z22 := Tryz.sizeOf57
  v22 := Tryz.zeroValue57 }
end Go.Proofs
/- slices.Concat of two rows of bytes. -/
namespace Go.Proofs.YtanchjfodcjlmaaGreatDoor.Cd
open Go.RowKit Go.Shelf

/-- Room made for n bytes behind nothing. -/
theorem grow_nil (n : Nat) (w : World) (hn : n ≤ 140737488355328) :
    Calls Tryz.prog 114 #[.slice none 0 0, .int .i64 n] w fun e w' => ∃ v, e = .returned v ∧ Ow w w' v [] := by
  rcases Nat.eq_zero_or_pos n with h0 | hp
  · subst h0
    have hcon := Any8.slices_Grow_room Tryz.lGrow none 0 0 0 w (Nat.le_refl _) (by omega) (by omega) (by omega)
    change Calls Tryz.prog 114 _ _ _ at hcon
    refine hcon.mono ?_
    rintro e w' ⟨rfl, rfl⟩
    exact ⟨_, rfl, Ow.nil _⟩
  · obtain ⟨i0, hi0, hz0, hz1, hz2⟩ := info_parts Tryz.infoB
    have hcon := Any8.slices_Grow_grow Tryz.lGrow i0 (.int .u8 0) hi0 hz0 (by omega) none 0 0 n [] w (Nat.le_refl _) (by omega) (by rw [hz2]; omega) (by omega) (by simp) (fun _ => rfl) (fun a h => by cases h)
    change Calls Tryz.prog 114 _ _ _ at hcon
    refine hcon.mono ?_
    rintro e w' ⟨rfl, rfl⟩
    refine ⟨_, rfl, ⟨⟨by simp, .inr ⟨w.heap.size, _, _, rfl, Nat.le_refl _, heap_alloc_new w.drew _, Nat.zero_le _, ?_, ?_, by simp⟩⟩, ((Below.refl _ w).drew).alloc (Nat.le_refl _) _, fun x h => by cases h⟩⟩
    · exact grownCap_le_maxLen _ _ _ _ (by unfold maxLen; omega)
    · have := grownCap_ge w n 0 (Tryz.lGrow_ren.t 25)
      simp [size_zeroCells, Value.cells]
      omega

theorem bd_of {w : World} {ad : Option Addr} {l : List Int} (h : SlAt w ad l.length (fn l)) : ∀ y, y ∈ l → 0 ≤ y ∧ y ≤ 255 := by
  intro y hy
  obtain ⟨j, hj, rfl⟩ := List.mem_iff_getElem.1 hy
  have := h.1 j hj
  rwa [fn_get l j hj] at this
/-- Two slices of bytes, as they lie in a row of two. -/
structure TwoAt (w : World) (q : Nat) (v1 v2 : Value) : Prop where
  c0 : w.cell? ⟨q, 0, none⟩ = some v1
  c1 : w.cell? ⟨q, 1, none⟩ = some v2

set_option maxRecDepth 100000 in
set_option maxHeartbeats 3200000 in
theorem concat_two (q : Nat) (ad1 : Option Addr) (l1 : List Int) (c1 : Nat) (ad2 : Option Addr) (l2 : List Int) (c2 : Nat) (w : World) (hT : TwoAt w q (.slice ad1 l1.length c1) (.slice ad2 l2.length c2)) (hs1 : SlAt w ad1 l1.length (fn l1)) (hn1 : ad1 = none → l1.length = 0 ∧ c1 = 0) (hs2 : SlAt w ad2 l2.length (fn l2)) (hn2 : ad2 = none → l2.length = 0 ∧ c2 = 0) (hl : l1.length + l2.length ≤ 140737488355328) :
    Calls Tryz.prog 104 #[.slice (some ⟨q, 0, none⟩) 2 2] w fun e w' => ∃ v, e = .returned v ∧ Ow w w' v (l1 ++ l2) := by
  obtain ⟨h0, h1⟩ := hT
  have HS : Hid ((SlAt w ad1 l1.length (fn l1) ∧ (ad1 = none → l1.length = 0 ∧ c1 = 0)) ∧ (SlAt w ad2 l2.length (fn l2) ∧ (ad2 = none → l2.length = 0 ∧ c2 = 0))) := ⟨⟨hs1, hn1⟩, hs2, hn2⟩
  clear hs1 hn1 hs2 hn2
  have hb0 := Below.refl w.heap.size w
  have hq := World.block_lt_of_cell? w ⟨q, 0, none⟩ h0
  have e1 : wrap64 ((l1.length : Int) + l2.length) = ((l1.length + l2.length : Nat) : Int) := by unfold wrap64; omega
  have e2 : ¬ (l1.length : Int) < 0 := by omega
  go_enter Tryz.func104, Tryz.ntmps104
  go_wp2
  refine wp_loop_rounds 3 ?_
  rw [rounds_succ]
  go_wp2
  rw [rounds_succ]
  go_wp2
  rw [rounds_succ]
  go_wp2_with fail
  have hgr := grow_nil (l1.length + l2.length) w hl
  rw [Int.natCast_add] at hgr
  refine hgr.mono ?_
  rintro e w1 ⟨v, rfl, hO1⟩
  have d0 : w1.cell? ⟨q, 0, none⟩ = some (.slice ad1 l1.length c1) := by rw [hO1.below.cell (p := ⟨q, 0, none⟩) hq]; exact h0
  have HO1 : Hid (Ow w w1 v [] ∧ BSrc w1 (.slice ad1 l1.length c1) l1) := ⟨hO1, SlAt.src (HS.out.1.1.below hO1.below) HS.out.1.2⟩
  have HD : Hid (∀ w' v' L, Ow w w' v' L → w'.cell? ⟨q, 1, none⟩ = some (.slice ad2 l2.length c2) ∧ BSrc w' (.slice ad2 l2.length c2) l2) := fun w' v' L h => ⟨by rw [h.below.cell (p := ⟨q, 1, none⟩) hq]; exact h1, SlAt.src (HS.out.2.1.below h.below) HS.out.2.2⟩
  have HY : Hid ((∀ y, y ∈ l1 → 0 ≤ y ∧ y ≤ 255) ∧ (∀ y, y ∈ l2 → 0 ≤ y ∧ y ≤ 255)) := ⟨bd_of HS.out.1.1, bd_of HS.out.2.1⟩
  clear hgr hO1 h0 h1 hb0
  go_wp2
  refine wp_loop_rounds 3 ?_
  rw [rounds_succ]
  go_wp2_with (at_builtin; refine wpList_append_B rfl _ _ rfl w _ _ [] l1 rfl rfl HO1.out.1 HO1.out.2 HY.out.1 (by simp; omega) ?_; intro v2 w2 hO2; obtain ⟨d1, hs2⟩ := HD.out w2 v2 _ hO2; have HO2 : Hid (Ow w w2 v2 l1 ∧ BSrc w2 (.slice ad2 l2.length c2) l2) := ⟨by simpa using hO2, hs2⟩; clear hO2 hs2)
  rw [rounds_succ]
  go_wp2_with (at_builtin; refine wpList_append_B rfl _ _ rfl w _ _ l1 l2 rfl rfl HO2.out.1 HO2.out.2 HY.out.2 (by omega) ?_; intro v3 w3 hO3)
  rw [rounds_succ]
  go_wp2
  go_ret
  exact ⟨_, rfl, hO3⟩
end Go.Proofs.YtanchjfodcjlmaaGreatDoor.Cd
/- The library's contracts laid at this program: which of its functions and types they speak of. -/
namespace Go.Proofs
open Go.Shelf
def Tryz.lClone_ren : Go.Shelf.Ren := ⟨fun | 15 => 43 | n => n, fun | 22 => 71 | 3 => 3 | 4 => 4 | n => n, fun | n => n⟩
theorem Tryz.lClone : Go.Proofs.Lays2.n15 Tryz.prog Tryz.lClone_ren := {
  mixed := by kernel_rfl
  f15 := Tryz.func43.trans (congrArg some (by kernel_rfl))
  t3 := Tryz.underlying3
  a3 := Tryz.isAgg3
  z3 := Tryz.sizeOf3
  v3 := Tryz.zeroValue3
  t4 := Tryz.underlying4
  a4 := Tryz.isAgg4
  z4 := Tryz.sizeOf4
  v4 := Tryz.zeroValue4
  t22 := Tryz.underlying71
  a22 := Tryz.isAgg71
  z22 := Tryz.sizeOf71
  v22 := Tryz.zeroValue71
  i3 := by kernel_rfl }
def Tryz.lCompact_ren : Go.Shelf.Ren := ⟨fun | 20 => 45 | n => n, fun | 22 => 71 | 3 => 3 | 4 => 4 | 0 => 0 | n => n, fun | n => n⟩
theorem Tryz.lCompact : Go.Proofs.Lays2.n20 Tryz.prog Tryz.lCompact_ren := {
  mixed := by kernel_rfl
  f20 := Tryz.func45.trans (congrArg some (by kernel_rfl))
  t0 := Tryz.underlying0
  a0 := Tryz.isAgg0
  z0 := Tryz.sizeOf0
  v0 := Tryz.zeroValue0
  t3 := Tryz.underlying3
  a3 := Tryz.isAgg3
  z3 := Tryz.sizeOf3
  v3 := Tryz.zeroValue3
  t4 := Tryz.underlying4
  a4 := Tryz.isAgg4
  z4 := Tryz.sizeOf4
  v4 := Tryz.zeroValue4
  t22 := Tryz.underlying71
  a22 := Tryz.isAgg71
  z22 := Tryz.sizeOf71
  v22 := Tryz.zeroValue71
  i3 := by kernel_rfl }
def Tryz.lSort_ren : Go.Shelf.Ren := ⟨fun | 189 => 44 | 125 => 66 | 257 => 65 | 128 => 92 | 129 => 93 | 294 => 83 | 295 => 84 | 296 => 85 | 297 => 86 | 298 => 87 | 299 => 88 | 216 => 89 | 300 => 90 | 301 => 91 | 328 => 105 | 329 => 106 | 330 => 107 | 331 => 108 | 332 => 109 | 215 => 110 | 343 => 115 | n => n, fun | 28 => 71 | 3 => 3 | 46 => 60 | 0 => 0 | 51 => 151 | 53 => 119 | 4 => 4 | 183 => 166 | 182 => 165 | 131 => 171 | 5 => 5 | 9 => 9 | 218 => 189 | 222 => 193 | 228 => 206 | 229 => 37 | n => n, fun | n => n⟩
theorem Tryz.lSort : Go.Proofs.Lays.n189 Tryz.prog Tryz.lSort_ren := {
  mixed := by kernel_rfl
  f125 := Tryz.func66.trans (congrArg some (by kernel_rfl))
  f128 := Tryz.func92.trans (congrArg some (by kernel_rfl))
  f129 := Tryz.func93.trans (congrArg some (by kernel_rfl))
  f189 := Tryz.func44.trans (congrArg some (by kernel_rfl))
  f215 := Tryz.func110.trans (congrArg some (by kernel_rfl))
  f216 := Tryz.func89.trans (congrArg some (by kernel_rfl))
  f257 := Tryz.func65.trans (congrArg some (by kernel_rfl))
  f294 := Tryz.func83.trans (congrArg some (by kernel_rfl))
  f295 := Tryz.func84.trans (congrArg some (by kernel_rfl))
  f296 := Tryz.func85.trans (congrArg some (by kernel_rfl))
  f297 := Tryz.func86.trans (congrArg some (by kernel_rfl))
  f298 := Tryz.func87.trans (congrArg some (by kernel_rfl))
  f299 := Tryz.func88.trans (congrArg some (by kernel_rfl))
  f300 := Tryz.func90.trans (congrArg some (by kernel_rfl))
  f301 := Tryz.func91.trans (congrArg some (by kernel_rfl))
  f328 := Tryz.func105.trans (congrArg some (by kernel_rfl))
  f329 := Tryz.func106.trans (congrArg some (by kernel_rfl))
  f330 := Tryz.func107.trans (congrArg some (by kernel_rfl))
  f331 := Tryz.func108.trans (congrArg some (by kernel_rfl))
  f332 := Tryz.func109.trans (congrArg some (by kernel_rfl))
  f343 := Tryz.func115.trans (congrArg some (by kernel_rfl))
  t0 := Tryz.underlying0
  a0 := Tryz.isAgg0
  z0 := Tryz.sizeOf0
  v0 := Tryz.zeroValue0
  t3 := Tryz.underlying3
  a3 := Tryz.isAgg3
  z3 := Tryz.sizeOf3
  v3 := Tryz.zeroValue3
  t4 := Tryz.underlying4
  a4 := Tryz.isAgg4
  z4 := Tryz.sizeOf4
  v4 := Tryz.zeroValue4
  t5 := Tryz.underlying5
  a5 := Tryz.isAgg5
  z5 := Tryz.sizeOf5
  v5 := Tryz.zeroValue5
  t9 := Tryz.underlying9
  a9 := Tryz.isAgg9
  z9 := Tryz.sizeOf9
  v9 := Tryz.zeroValue9
  t28 := Tryz.underlying71
  a28 := Tryz.isAgg71
  z28 := Tryz.sizeOf71
  v28 := Tryz.zeroValue71
  t46 := Tryz.underlying60
  a46 := Tryz.isAgg60
  z46 := Tryz.sizeOf60
  v46 := Tryz.zeroValue60
  t51 := Tryz.underlying151
  a51 := Tryz.isAgg151
  z51 := Tryz.sizeOf151
  v51 := Tryz.zeroValue151
  t53 := Tryz.underlying119
  a53 := Tryz.isAgg119
  z53 := Tryz.sizeOf119
  v53 := Tryz.zeroValue119
  t131 := Tryz.underlying171
  a131 := Tryz.isAgg171
  z131 := Tryz.sizeOf171
  v131 := Tryz.zeroValue171
  t182 := Tryz.underlying165
  a182 := Tryz.isAgg165
  z182 := Tryz.sizeOf165
  v182 := Tryz.zeroValue165
  t183 := Tryz.underlying166
  a183 := Tryz.isAgg166
  z183 := Tryz.sizeOf166
  v183 := Tryz.zeroValue166
  t218 := Tryz.underlying189
  a218 := Tryz.isAgg189
  z218 := Tryz.sizeOf189
  v218 := Tryz.zeroValue189
  t222 := Tryz.underlying193
  a222 := Tryz.isAgg193
  z222 := Tryz.sizeOf193
  v222 := Tryz.zeroValue193
  t228 := Tryz.underlying206
  a228 := Tryz.isAgg206
  z228 := Tryz.sizeOf206
  v228 := Tryz.zeroValue206
  t229 := Tryz.underlying37
  a229 := Tryz.isAgg37
  z229 := Tryz.sizeOf37
  v229 := Tryz.zeroValue37 }
end Go.Proofs
/- Ints cloned, sorted, and made single: the library's three. -/
namespace Go.Proofs.YtanchjfodcjlmaaGreatDoor.Cd
open Go.RowKit Go.Shelf Go.Sort

/-- The first n ints as a list. -/
def keysL (z : Nat → Int) (n : Nat) : List Int := (List.range n).map z
theorem keysL_length (z : Nat → Int) (n : Nat) : (keysL z n).length = n := by simp [keysL]
theorem keysL_getD (z : Nat → Int) (n j : Nat) (h : j < n) : (keysL z n).getD j 0 = z j := by simp [keysL, h]
def srt (l : List Int) : List Int := l.mergeSort fun x y => decide (x ≤ y)
theorem srt_length (l : List Int) : (srt l).length = l.length := by simp [srt]

theorem clone_pos (b off n cap : Nat) (z : Nat → Int) (w : World) (h : ∀ j, j < n → w.cell? ⟨b, off + j, none⟩ = some (.int .i64 (z j))) (hn : n ≤ 1000000) :
    Calls Tryz.prog 43 #[.slice (some ⟨b, off, none⟩) n cap] w fun e w' => ∃ g cap', e = .returned (.slice (some ⟨g, 0, none⟩) n cap') ∧ n ≤ cap' ∧ Holds (Value.int .i64) w' g 0 (keysL z n).toArray ∧ w.heap.size ≤ g ∧ g < w'.heap.size ∧ Below w.heap.size w w' := by
  have hcon := Any.slices_Clone_int Tryz.lClone b off n cap (keysL z n) w (by simp [keysL]) (by omega) (fun j hj => by
    rw [keysL_length] at hj
    rw [h j hj, keysL_getD z n j hj])
  change Calls Tryz.prog 43 _ _ _ at hcon
  refine hcon.mono ?_
  rintro e w' ⟨v', rfl, hown, hne, hb⟩
  have ht : (keysL z n).take n = keysL z n := List.take_of_length_le (by simp [keysL])
  rw [ht] at hown
  rcases hown.2 with ⟨e, _⟩ | ⟨g, cap', cur, rfl, hg, hgc, hcap, _, hcs, htk⟩
  · exact absurd e hne
  · refine ⟨g, cap', rfl, hcap, fun j hj => ?_, hg, lt_of_block hgc, hb⟩
    have hj' : j < (keysL z n).length := by simpa using hj
    have hc := hown.cells (g := g) rfl j (.int .i64 (keysL z n)[j]) (by simp [hj'])
    rw [Addr.add_lit] at hc
    refine ⟨?_, ?_⟩
    · rw [hc]; simp [hj']
    · rw [Nat.zero_add]; exact frozen_of_row w' g j _ _ hgc

theorem putRow_below {w : World} {g off n : Nat} {d : Array Int} {os : Array Obj} {B : Nat} (hB : B ≤ g) (hg : g < w.heap.size) : Below B w (grow (putRow (Value.int .i64) (Sort.ahead w n) g off d) os) := by
  refine ⟨rfl, rfl, rfl, by simp, fun k hk => ?_⟩
  rw [heap_grow_old _ _ (by simp; omega)]
  simp only [putRow, mapBlock, heap_ahead]
  rw [Array.getElem?_modify, if_neg (by omega)]

theorem sort_pos (g cap : Nat) (L : List Int) (w : World) (hH : Holds (Value.int .i64) w g 0 L.toArray) (hg : g < w.heap.size) (hn : L.length ≤ 1000000) (B : Nat) (hB : B ≤ g) :
    Calls Tryz.prog 44 #[.slice (some ⟨g, 0, none⟩) L.length cap] w fun e w' => e = .returned (.tuple #[]) ∧ Holds (Value.int .i64) w' g 0 (srt L).toArray ∧ g < w'.heap.size ∧ Below B w w' := by
  have hcon := Any.slices_Sort_int Tryz.lSort g 0 cap L w hH hg (by omega)
  change Calls Tryz.prog 44 _ _ _ at hcon
  refine hcon.mono ?_
  rintro e w' ⟨rfl, n, os, rfl⟩
  refine ⟨rfl, holds_grow _ _ _ _ _ _ (by simpa using hg) (holds_putRow _ _ _ _ _ _ (holds_ahead _ _ _ _ _ _ hH) (by simp)), by simp; omega, putRow_below hB hg⟩

theorem compact_pos (g cap : Nat) (L : List Int) (w : World) (hH : Holds (Value.int .i64) w g 0 L.toArray) (hg : g < w.heap.size) (hn : L.length ≤ 1000000) (hc : L.length ≤ cap) (B : Nat) (hB : B ≤ g) :
    Calls Tryz.prog 45 #[.slice (some ⟨g, 0, none⟩) L.length cap] w fun e w' => e = .returned (.slice (some ⟨g, 0, none⟩) (Lib.compact L).length cap) ∧ IsAt w' (some ⟨g, 0, none⟩) (Lib.compact L).length (fun j => (Lib.compact L).getD j 0) ∧ g < w'.heap.size ∧ Below B w w' := by
  have hcon := Any.slices_Compact_int Tryz.lCompact g 0 cap L w hH (by omega) hc
  change Calls Tryz.prog 45 _ _ _ at hcon
  refine hcon.mono ?_
  rintro e w' ⟨rfl, q, rfl⟩
  have hcl : (Lib.compact L).length ≤ L.length := by
    have := List.length_filter_le (Lib.keeps L.toArray) (List.range L.length)
    simpa [Lib.compact, Lib.compactUpTo] using this
  have hH2 := holds_putRow (Value.int .i64) (Sort.ahead w q) g 0 L.toArray (Lib.compact L ++ List.replicate (L.length - (Lib.compact L).length) 0).toArray (holds_ahead _ _ _ _ _ _ hH) (by simp; omega)
  refine ⟨rfl, fun hn => ⟨g, 0, rfl, fun j hj => ?_⟩, by simpa using hg, ?_⟩
  · rw [(hH2 j (by simp; omega)).1]
    simp only [List.getElem!_toArray, List.getElem!_eq_getElem?_getD, List.getD_eq_getElem?_getD]
    rw [List.getElem?_append_left hj]
    rfl
  · have := putRow_below (n := q) (off := 0) (d := (Lib.compact L ++ List.replicate (L.length - (Lib.compact L).length) 0).toArray) (os := #[]) hB hg
    simpa using this
end Go.Proofs.YtanchjfodcjlmaaGreatDoor.Cd
