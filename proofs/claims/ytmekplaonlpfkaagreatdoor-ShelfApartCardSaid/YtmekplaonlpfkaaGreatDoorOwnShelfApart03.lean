/- The writer's Bytes. -/
import Derived.Test.YtmekplaonlpfkaaGreatDoorOwnShelfApart02
import Derived.Maps.Ext
import Derived.Maps.OwnSet
import Derived.Lib.SlMapFilter
import Derived.Sort.KeysCollected
import Derived.Lib.Bytealg
import Derived.Test.YtmekplaonlpfkaaGreatDoorOwnShelfApart01
import Derived.StringKeys
namespace Go.Proofs.YtmekplaonlpfkaaGreatDoor
open Go.RowKit

/-- A byte as it is laid within bytes. -/
def esc (x : Int) : List Int := if x = 0 then [0, 255] else [x]
def escF (z : Nat → Int) : Nat → List Int
  | 0 => []
  | k + 1 => escF z k ++ esc (z k)
theorem esc_len (x : Int) : (esc x).length ≤ 2 ∧ 1 ≤ (esc x).length := by unfold esc; split <;> simp
theorem escF_le (z : Nat → Int) (k : Nat) : (escF z k).length ≤ 2 * k := by
  induction k with
  | zero => simp [escF]
  | succ k ih => have := esc_len (z k); simp only [escF, List.length_append]; omega

/-- Opening a writer for a walk. -/
theorem WrAt.parts {w : World} {B p : Nat} {g : Option Nat} {l : List Int} (h : WrAt w B p g l) : ∃ v, w.heap[p]? = some (.cells #[v] 195 (0, 0)) ∧ w.ownsRow B 5 1 v l.length (l.map (Value.int .u8)) ∧ v.ownBlock = g ∧ B ≤ p ∧ (∀ x, x ∈ l → 0 ≤ x ∧ x ≤ 255) ∧ some p ≠ v.ownBlock ∧ p < w.heap.size := by
  obtain ⟨v, hp, hown, hg, hB, hx⟩ := h
  exact ⟨v, hp, hown, hg, hB, hx, fun e => own_ne hown hp e.symm, lt_of_block hp⟩

theorem alloc_set_new (w : World) (a : Addr) (u : Value) (o : Obj) : ((w.setCell a u).alloc o).heap[w.heap.size]? = some o := by
  have h : (w.setCell a u).heap.size = w.heap.size := by simp [World.setCell]
  have := heap_alloc_new (w.setCell a u) o
  rwa [h] at this

/-- Behind the first of two appends. -/
theorem wr_two {w wr w0 w1 : World} {B p gg cap : Nat} {g g1 : Option Nat} {v : Value} {L : List Int} {y : Int}
    (hp : wr.heap[p]? = some (.cells #[v] 195 (0, 0))) (h0 : Frm [] wr w0)
    (hown1 : w1.ownsRow B 5 1 (.slice (some ⟨gg, 0, none⟩) (L.length + 1) cap) (L.length + 1) (L.map (Value.int .u8) ++ [Value.int .u8 y]))
    (hgrow : w0.grownBy w1 v.ownBlock) (hat : v.ownBlock = some gg ∨ gg = wr.heap.size + 1) (hg : v.ownBlock = g1) (hg1 : g1 = g ∨ ∃ b, g1 = some b ∧ w.heap.size ≤ b)
    (hF : Frm (p :: g.toList) w wr) (hB : B ≤ p) (hx : ∀ x, x ∈ L → 0 ≤ x ∧ x ≤ 255) (hy : 0 ≤ y ∧ y ≤ 255) (hne : some p ≠ v.ownBlock) :
    Hid ((w1.setCell ⟨p, 0, none⟩ (.slice (some ⟨gg, 0, none⟩) (L.length + 1) cap)).heap[p]? = some (.cells #[.slice (some ⟨gg, 0, none⟩) (L.length + 1) cap] 195 (0, 0)) ∧
    (w1.setCell ⟨p, 0, none⟩ (.slice (some ⟨gg, 0, none⟩) (L.length + 1) cap)).ownsRow B 5 1 (.slice (some ⟨gg, 0, none⟩) (L.length + 1) cap) (L.length + 1) ((L ++ [y]).map (Value.int .u8)) ∧ gg ≠ p ∧ p < w1.heap.size ∧
    (∀ x, x ∈ L ++ [y] → 0 ≤ x ∧ x ≤ 255) ∧ Frm (p :: g.toList) w (w1.setCell ⟨p, 0, none⟩ (.slice (some ⟨gg, 0, none⟩) (L.length + 1) cap)) ∧ (some gg = g ∨ ∃ b, some gg = some b ∧ w.heap.size ≤ b)) := by
  obtain ⟨k1, k2, k3, k4, k5, k6, _⟩ := wr_parts (ys := [y]) hp h0 (by simpa using hown1) hgrow hat hg hg1 hF hB hx (by intro x hx; rw [List.mem_singleton.1 hx]; exact hy) hne
  have hl := lt_of_block k1
  simp only [List.length_singleton] at k1 k2 k5
  exact ⟨k1, by simpa using k2, k4, by simpa [World.setCell] using hl, k3, k5, k6⟩

/-- Bytes do not lie in a writer's own block. -/
theorem SlAt.ne_wr {w : World} {ad : Option Addr} {n : Nat} {z : Nat → Int} (h : SlAt w ad n z) {B p : Nat} {g : Option Nat} {l : List Int} (hw : WrAt w B p g l) {b off : Nat} (hn : 0 < n) (e : ad = some ⟨b, off, none⟩) : b ≠ p := by
  obtain ⟨v, hp, hown, _⟩ := hw
  rcases hown.2 with ⟨rfl, _⟩ | ⟨g, cap, cur, rfl, _⟩
  · exact h.ne_one hp hn e
  · exact h.ne_one hp hn e

set_option maxRecDepth 100000 in
set_option maxHeartbeats 1600000 in
theorem wrBytes_any (p B : Nat) (g : Option Nat) (l : List Int) (ad : Option Addr) (n cap : Nat) (z : Nat → Int) (w : World) (hw : WrAt w B p g l) (hl : l.length + 2 * n + 2 ≤ 140737488355328)
    (hs : SlAt w ad n z) (hsg : ∀ b off, 0 < n → ad = some ⟨b, off, none⟩ → some b ≠ g) :
    Calls Tryz.prog 78 #[.pointer (some ⟨p, 0, none⟩), .slice ad n cap] w fun e w' => e = .returned (.pointer (some ⟨p, 0, none⟩)) ∧ WrGrown w w' B p g (l ++ (escF z n ++ [0, 0])) := by
  obtain ⟨i0, hi0, hz0, hz1, hz2⟩ := info_parts Tryz.infoB
  have H : Hid (Tryz.prog.info? 5 = some i0 ∧ i0.zero = some (.int .u8 0) ∧ i0.size = 1 ∧ i0.bytes = 1) := ⟨hi0, hz0, hz1, hz2⟩
  clear hi0 hz0 hz1 hz2
  have HS : Hid (SlAt w ad n z) := hs
  have HG : Hid (∀ b off, 0 < n → ad = some ⟨b, off, none⟩ → some b ≠ g) := hsg
  have HW : Hid (WrAt w B p g l) := hw
  clear hs hsg hw
  go_enter Tryz.func78, Tryz.ntmps78
  go_wp2
  go_loopw [11] (fun iv wr => ∃ q : Nat, q ≤ n ∧ iv = .int .i64 q ∧ WrGrown w wr B p g (l ++ escF z q)) (fun iv _ => n - (intOf iv).toNat)
  case atStart => exact ⟨0, Nat.zero_le _, rfl, g, by simpa [escF] using HW.out, Frm.refl _ _, .inl rfl⟩
  case round =>
    obtain ⟨q, hq, rfl, hR⟩ := hrel
    have hle := escF_le z q
    generalize hL : l ++ escF z q = L at hR
    have hLl : L.length + 2 * (n - q) + 2 ≤ 140737488355328 := by rw [← hL, List.length_append]; omega
    have HL : Hid (l ++ escF z q = L) := hL
    clear hL hle
    obtain ⟨g1, hA, hF, hg1⟩ := hR
    obtain ⟨v, hp, hown, hg, hB, hx, hne1, hplt⟩ := hA.parts
    have hc := cell_of_one hp
    have hf := free_of_one hp
    have HO : Hid (wr.ownsRow B 5 1 v L.length (L.map (Value.int .u8))) := hown
    have HP1 : Hid (wr.heap[p]? = some (.cells #[v] 195 (0, 0))) := hp
    have HF : Hid (Frm (p :: g.toList) w wr) := hF
    clear hown hp hA hF
    by_cases hlt : q < n
    · obtain ⟨b, off, rfl, hcz⟩ := HS.out.2 (by omega)
      have hzq := HS.out.1 q hlt
      have hcq : wr.cell? ⟨b, off + q, none⟩ = some (.int .u8 (z q)) := by
        have hblt : b < w.heap.size := HS.out.lt (by omega) rfl
        have hb : b ∉ p :: g.toList := by
          intro hm
          simp at hm
          rcases hm with h | h
          · exact HS.out.ne_wr HW.out (by omega) rfl h
          · exact HG.out b off (by omega) rfl h.symm
        rw [World.cell?_of_block (a := ⟨b, off + q, none⟩) (HF.out.block b hblt hb)]
        exact hcz q hlt
      clear hcz
      by_cases h0 : z q = 0
      · have h0' : (z q == 0) = true := by simp [h0]
        have H0 : Hid (z q = 0) := h0
        clear h0
        go_wp2_with (first | (at_builtin; refine wpList_append_lies _ rfl (.tmp 19) (.tmp 21) 29 rfl B 5 i0 _ 1 1 Tryz.underlying29 H.out.1 H.out.2.1 H.out.2.2.1 H.out.2.2.2 rfl (by omega) v L.length (L.map (Value.int .u8)) rfl (HO.out.alloc _) ⟨wr.heap.size, 0, none⟩ 1 1 [.int .u8 (z q)] rfl rfl (World.news_of_block (cs := #[.int .u8 (z q)]) (t := 5) (fr := (0, 0)) (heap_alloc_new wr _)) (by simp [Value.oneCell']) (by omega) (by simp [maxLen]; omega) (by simp; omega) (by simp; omega) (wr.heap.size + 1) (by simp) ?_; intro gg1 cap1 w1 hown1 hgrow1 hat1 hlt1; have hp1 := grown_keep ((Frm.refl [] wr).alloc _) hgrow1 HP1.out hne1; have hc1 := cell_of_one hp1; have hf1 := free_of_one hp1; have HX := wr_two HP1.out ((Frm.refl [] wr).alloc _) hown1 hgrow1 hat1 hg hg1 HF.out hB hx hzq hne1; have HP2 := HX.out.1; have hne2 : some p ≠ (Value.slice (some ⟨gg1, 0, none⟩) (L.length + 1) cap1).ownBlock := fun e => HX.out.2.2.1 (Option.some.inj e).symm; have hB2 : p < w1.heap.size := HX.out.2.2.2.1; clear hown1 hgrow1 hp1) | (at_builtin; refine wpList_append_lies _ rfl (.tmp 31) (.tmp 32) 29 rfl B 5 i0 _ 1 1 Tryz.underlying29 H.out.1 H.out.2.1 H.out.2.2.1 H.out.2.2.2 rfl (by omega) (.slice (some ⟨gg1, 0, none⟩) (L.length + 1) cap1) (L.length + 1) ((L ++ [z q]).map (Value.int .u8)) rfl (HX.out.2.1.alloc _) ⟨w1.heap.size, 0, none⟩ 1 1 [.int .u8 255] rfl rfl (World.news_of_block (cs := #[.int .u8 255]) (t := 5) (fr := (0, 0)) (alloc_set_new w1 _ _ _)) (by simp [Value.oneCell']) (by omega) (by simp [maxLen]; omega) (by simp; omega) (by simp; omega) (w1.heap.size + 1) (by simp) ?_; intro gg2 cap2 w2 hown2 hgrow2 hat2 hlt2; have hp2 := grown_keep ((Frm.refl [] (w1.setCell ⟨p, 0, none⟩ (.slice (some ⟨gg1, 0, none⟩) (L.length + 1) cap1))).alloc _) hgrow2 HP2 hne2; have hc2 := cell_of_one hp2; have hf2 := free_of_one hp2))
        have R := wr_step (L := L ++ [z q]) (ys := [255]) HP2 ((Frm.refl [] _).alloc _) (by simpa using hown2) hgrow2 (by simpa [World.setCell] using hat2) rfl HX.out.2.2.2.2.2.2 HX.out.2.2.2.2.2.1 hB HX.out.2.2.2.2.1 (by intro y hy; simp at hy; omega) hne2
        refine ⟨⟨q + 1, by omega, by go_num, ?_⟩, by simp [intOf]; omega⟩
        have e : l ++ escF z (q + 1) = L ++ [z q] ++ [255] := by rw [escF, esc, if_pos H0.out, ← List.append_assoc, HL.out, H0.out]; simp
        rw [e]
        simpa using R
      · have h0' : (z q == 0) = false := by simp [h0]
        have H0 : Hid (¬ z q = 0) := h0
        clear h0
        go_wp2_with (at_builtin; refine wpList_append_lies _ rfl (.tmp 19) (.tmp 21) 29 rfl B 5 i0 _ 1 1 Tryz.underlying29 H.out.1 H.out.2.1 H.out.2.2.1 H.out.2.2.2 rfl (by omega) v L.length (L.map (Value.int .u8)) rfl (HO.out.alloc _) ⟨wr.heap.size, 0, none⟩ 1 1 [.int .u8 (z q)] rfl rfl (World.news_of_block (cs := #[.int .u8 (z q)]) (t := 5) (fr := (0, 0)) (heap_alloc_new wr _)) (by simp [Value.oneCell']) (by omega) (by simp [maxLen]; omega) (by simp; omega) (by simp; omega) (wr.heap.size + 1) (by simp) ?_; intro gg1 cap1 w1 hown1 hgrow1 hat1 hlt1; have hp1 := grown_keep ((Frm.refl [] wr).alloc _) hgrow1 HP1.out hne1; have hc1 := cell_of_one hp1; have hf1 := free_of_one hp1)
        have R := wr_step (ys := [z q]) HP1.out ((Frm.refl [] wr).alloc _) (by simpa using hown1) hgrow1 hat1 hg hg1 HF.out hB hx (by intro y hy; rw [List.mem_singleton.1 hy]; exact hzq) hne1
        refine ⟨⟨q + 1, by omega, by go_num, ?_⟩, by simp [intOf]; omega⟩
        rw [escF, esc, if_neg H0.out, ← List.append_assoc, HL.out]
        simpa using R
    · have : q = n := by omega
      subst this
      go_wp2_with (at_builtin; refine wpList_append_lies _ rfl (.tmp 41) (.tmp 42) 29 rfl B 5 i0 _ 1 1 Tryz.underlying29 H.out.1 H.out.2.1 H.out.2.2.1 H.out.2.2.2 rfl (by omega) v L.length (L.map (Value.int .u8)) rfl (HO.out.alloc _) ⟨wr.heap.size, 0, none⟩ 2 2 [.int .u8 0, .int .u8 0] rfl rfl (World.news_of_block (cs := #[.int .u8 0, .int .u8 0]) (t := 5) (fr := (0, 0)) (heap_alloc_new wr _)) (by simp [Value.oneCell']) (by omega) (by simp [maxLen]; omega) (by simp; omega) (by simp; omega) (wr.heap.size + 1) (by simp) ?_; intro gg1 cap1 w1 hown1 hgrow1 hat1 hlt1; have hp1 := grown_keep ((Frm.refl [] wr).alloc _) hgrow1 HP1.out hne1; have hc1 := cell_of_one hp1; have hf1 := free_of_one hp1)
      have R := wr_step (ys := [0, 0]) HP1.out ((Frm.refl [] wr).alloc _) (by simpa using hown1) hgrow1 hat1 hg hg1 HF.out hB hx (by intro y hy; simp at hy; omega) hne1
      go_ret
      refine ⟨rfl, ?_⟩
      rw [← List.append_assoc, HL.out]
      simpa using R

set_option maxHeartbeats 400000 in
theorem newE_any (w : World) :
    Calls Tryz.prog 77 #[] w fun e w' => e = .returned (.pointer (some ⟨w.heap.size, 0, none⟩)) ∧ w' = w.alloc (.cells #[.slice none 0 0] 195) := by
  go_enter Tryz.func77, Tryz.ntmps77
  go_wp2
  go_ret
  exact ⟨rfl, rfl⟩

theorem new_wr (w : World) : WrAt (w.alloc (.cells #[.slice none 0 0] 195)) w.heap.size w.heap.size none [] :=
  ⟨.slice none 0 0, heap_alloc_new w _, World.ownsRow_nil _ _ _ _, rfl, Nat.le_refl _, fun x h => by cases h⟩

set_option maxHeartbeats 400000 in
theorem wrDone_any (p B : Nat) (g : Option Nat) (l : List Int) (w : World) (hw : WrAt w B p g l) (hl : l.length ≤ 140737488351232) :
    Calls Tryz.prog 79 #[.pointer (some ⟨p, 0, none⟩)] w fun e w' => ∃ ad cap, e = .returned (.slice ad l.length cap) ∧ l.length ≤ cap ∧ SlAt w' ad l.length (fn l) ∧ (ad = none → l.length = 0 ∧ cap = 0) ∧ (∀ a, ad = some a → w.heap.size ≤ a.block) ∧ Below w.heap.size w w' := by
  obtain ⟨v, hp, hown, hg, hB, hx⟩ := hw
  rw [map_bl] at hown
  obtain ⟨ad, cap, rfl, h1, h2, h3, h4⟩ := own_SlAt (fun j hj => by rw [fn_get l j hj]; exact hx _ (List.getElem_mem hj)) hown
  have hc := cell_of_one hp
  clear hown hp
  go_enter Tryz.func79, Tryz.ntmps79
  go_wp2_with fail
  refine (cloneE_any ad l.length cap (fn l) w h2 h3 hl).mono ?_
  rintro e w1 ⟨ad', cap', rfl, k1, k2, k3, k4, hb⟩
  go_wp2
  go_ret
  exact ⟨ad', cap', rfl, k1, k2, k3, k4, hb⟩
end Go.Proofs.YtmekplaonlpfkaaGreatDoor
/- The bytes that bytes begin with: what enc.frontBytes answers. -/
namespace Go.Proofs.YtmekplaonlpfkaaGreatDoor
open Go.RowKit

theorem errV_1 : errV 1 = .iface 72 (.int .i64 1) := rfl
theorem errV_2 : errV 2 = .iface 72 (.int .i64 2) := rfl

/-- The bytes that are read from a place on, behind those that were read; how many bytes they stand on; the error. -/
def sc (n : Nat) (z : Nat → Int) (most : Int) : Nat → Nat → List Int → List Int × Nat × Int
  | 0, _, _ => ([], 0, 12)
  | f + 1, q, l =>
    if q < n then
      if z q = 0 then
        if q + 1 = n then ([], 0, 12)
        else if z (q + 1) = 0 then (l, q + 2, 0)
        else if z (q + 1) = 255 then (if most ≤ l.length then ([], 0, 2) else sc n z most f (q + 2) (l ++ [z q]))
        else ([], 0, 3)
      else if most ≤ l.length then ([], 0, 2) else sc n z most f (q + 1) (l ++ [z q])
    else ([], 0, 12)
def bR (n : Nat) (z : Nat → Int) (most : Int) : List Int × Nat × Int := if most < 0 then ([], 0, 1) else sc n z most (n + 1) 0 []

set_option maxHeartbeats 400000 in
theorem frontBytes_neg (ad : Option Addr) (n cap : Nat) (most : Int) (w : World) (h : most < 0) :
    Calls Tryz.prog 99 #[.slice ad n cap, .int .i64 most] w fun e w' => e = .returned (.tuple #[.slice none 0 0, .int .i64 0, .iface 72 (.int .i64 1)]) ∧ w' = w := by
  go_enter Tryz.func99, Tryz.ntmps99
  go_wp2
  go_ret3
  exact ⟨rfl, rfl⟩

set_option maxRecDepth 100000 in
set_option maxHeartbeats 1600000 in
theorem frontBytes_loop (a0 : Option Addr) (n cap : Nat) (z : Nat → Int) (most : Int) (w : World) (h0 : 0 ≤ most) (_hlc : n ≤ cap) (hn : n ≤ 140737488351232) (hs : SlAt w a0 n z) :
    Calls Tryz.prog 99 #[.slice a0 n cap, .int .i64 most] w fun e w' => BPost w (sc n z most (n + 1) 0 []) e w' := by
  obtain ⟨i0, hi0, hz0, hz1, hz2⟩ := info_parts Tryz.infoB
  have H : Hid (Tryz.prog.info? 5 = some i0 ∧ i0.zero = some (.int .u8 0) ∧ i0.size = 1 ∧ i0.bytes = 1) := ⟨hi0, hz0, hz1, hz2⟩
  clear hi0 hz0 hz1 hz2
  have HS : Hid (SlAt w a0 n z) := hs
  clear hs
  generalize hR : sc n z most (n + 1) 0 [] = R
  have HR : Hid (sc n z most (n + 1) 0 [] = R) := hR
  clear hR
  go_enter Tryz.func99, Tryz.ntmps99
  go_wp2
  go_loopw [7, 8] (fun v i wr => ∃ (q f : Nat) (l : List Int), q ≤ n ∧ i = .int .i64 q ∧ n + 1 ≤ f + q ∧ l.length ≤ q ∧ (l.length : Int) ≤ most ∧ (∀ x, x ∈ l → 0 ≤ x ∧ x ≤ 255) ∧ sc n z most f q l = R ∧ wr.ownsRow w.heap.size 5 1 v l.length (l.map (Value.int .u8)) ∧ Below w.heap.size w wr) (fun _ i _ => n + 1 - (intOf i).toNat)
  case atStart => exact ⟨0, n + 1, [], Nat.zero_le _, rfl, by omega, by simp, by simpa using h0, by simp, HR.out, World.ownsRow_nil _ _ _ _, Below.refl _ _⟩
  case round =>
    obtain ⟨q, f, l, hq, rfl, hf, hlq, hlm, hx, hsc, hown, hb⟩ := hrel
    obtain ⟨ad, cp, rfl⟩ := own_form hown
    have HO : Hid (wr.ownsRow w.heap.size 5 1 (.slice ad l.length cp) l.length (l.map (Value.int .u8))) := hown
    have HB : Hid (Below w.heap.size w wr) := hb
    have HX : Hid (∀ x, x ∈ l → 0 ≤ x ∧ x ≤ 255) := hx
    obtain ⟨f, rfl⟩ : ∃ f', f = f' + 1 := ⟨f - 1, by omega⟩
    rw [sc] at hsc
    clear hown hb hx
    by_cases hlt : q < n
    · obtain ⟨b, off, rfl, hcz⟩ := HS.out.2 (by omega)
      have hblt : b < w.heap.size := HS.out.lt (by omega) rfl
      have hcw : ∀ j, j < n → wr.cell? ⟨b, off + j, none⟩ = some (.int .u8 (z j)) := fun j hj => by rw [HB.out.cell (p := ⟨b, off + j, none⟩) hblt]; exact hcz j hj
      have hcq := hcw q hlt
      have hzq := HS.out.1 q hlt
      rw [if_pos hlt] at hsc
      by_cases hz0 : z q = 0
      · rw [if_pos hz0] at hsc
        have hz0' : (z q == 0) = true := by simp [hz0]
        have HZ : Hid (z q = 0) := hz0
        clear hz0
        by_cases hend : q + 1 = n
        · rw [if_pos hend] at hsc
          have he' : (((q : Int) + 1) == (n : Int)) = true := by simp; omega
          subst hsc
          clear hcw hcz HR
          go_wp2
          go_ret3
          exact BPost.err HB.out
        · rw [if_neg hend] at hsc
          have he' : (((q : Int) + 1) == (n : Int)) = false := by simp; omega
          have hcq1 := hcw (q + 1) (by omega)
          have hzq1 := HS.out.1 (q + 1) (by omega)
          by_cases h10 : z (q + 1) = 0
          · rw [if_pos h10] at hsc
            have h10' : (z (q + 1) == 0) = true := by simp [h10]
            subst hsc
            clear hcw hcz HR h10
            go_wp2
            go_ret3
            exact ⟨ad, cp, rfl, own_fresh HO.out HX.out HB.out⟩
          · rw [if_neg h10] at hsc
            have h10' : (z (q + 1) == 0) = false := by simp [h10]
            by_cases h1f : z (q + 1) = 255
            · rw [if_pos h1f] at hsc
              have h1f' : (z (q + 1) != 255) = false := by simp [h1f]
              by_cases hm : most ≤ l.length
              · rw [if_pos hm] at hsc
                have hm' : ((l.length : Int) == most) = true := by simp; omega
                subst hsc
                clear hcw hcz HR h10 h1f
                go_wp2
                go_ret3
                exact BPost.err HB.out
              · rw [if_neg hm] at hsc
                have hm' : ((l.length : Int) == most) = false := by simp; omega
                have HSC : Hid (sc n z most f (q + 2) (l ++ [z q]) = R) := hsc
                clear hcw hcz HR h10 h1f hsc
                go_wp2_with (at_builtin; refine wpList_append_lies _ rfl _ _ 29 rfl w.heap.size 5 i0 _ 1 1 Tryz.underlying29 H.out.1 H.out.2.1 H.out.2.2.1 H.out.2.2.2 rfl (by omega) (.slice ad l.length cp) l.length (l.map (Value.int .u8)) rfl (HO.out.alloc _) ⟨wr.heap.size, 0, none⟩ 1 1 [.int .u8 (z q)] rfl rfl (World.news_of_block (cs := #[.int .u8 (z q)]) (t := 5) (fr := (0, 0)) (heap_alloc_new wr _)) (by simp [Value.oneCell']) (by omega) (by simp [maxLen]; omega) (by simp; omega) (by have := HB.out.size; simp; omega) (wr.heap.size + 1) (by simp) ?_; intro gg cap1 w1 hown1 hgrow hat hlt1)
                have hb1 : Below w.heap.size w w1 := (HB.out.alloc HB.out.size _).grown hgrow (by have := HB.out.size; simp; omega) (fun k hk => (HO.out.lt k hk).1)
                refine ⟨⟨q + 2, f, l ++ [z q], by omega, by go_num, by omega, by simp; omega, by simp; omega, ?_, HSC.out, by simpa using hown1, hb1⟩, by simp [intOf]; omega⟩
                intro x hx
                rcases List.mem_append.1 hx with h | h
                · exact HX.out x h
                · rw [List.mem_singleton.1 h]; exact hzq
            · rw [if_neg h1f] at hsc
              have h1f' : (z (q + 1) != 255) = true := by simp [h1f]
              subst hsc
              clear hcw hcz HR h10 h1f
              go_wp2
              go_ret3
              exact BPost.err HB.out
      · rw [if_neg hz0] at hsc
        have hz0' : (z q == 0) = false := by simp [hz0]
        by_cases hm : most ≤ l.length
        · rw [if_pos hm] at hsc
          have hm' : ((l.length : Int) == most) = true := by simp; omega
          subst hsc
          clear hcw hcz HR hz0
          go_wp2
          go_ret3
          exact BPost.err HB.out
        · rw [if_neg hm] at hsc
          have hm' : ((l.length : Int) == most) = false := by simp; omega
          have HSC : Hid (sc n z most f (q + 1) (l ++ [z q]) = R) := hsc
          clear hcw hcz HR hz0 hsc
          go_wp2_with (at_builtin; refine wpList_append_lies _ rfl _ _ 29 rfl w.heap.size 5 i0 _ 1 1 Tryz.underlying29 H.out.1 H.out.2.1 H.out.2.2.1 H.out.2.2.2 rfl (by omega) (.slice ad l.length cp) l.length (l.map (Value.int .u8)) rfl (HO.out.alloc _) ⟨wr.heap.size, 0, none⟩ 1 1 [.int .u8 (z q)] rfl rfl (World.news_of_block (cs := #[.int .u8 (z q)]) (t := 5) (fr := (0, 0)) (heap_alloc_new wr _)) (by simp [Value.oneCell']) (by omega) (by simp [maxLen]; omega) (by simp; omega) (by have := HB.out.size; simp; omega) (wr.heap.size + 1) (by simp) ?_; intro gg cap1 w1 hown1 hgrow hat hlt1)
          have hb1 : Below w.heap.size w w1 := (HB.out.alloc HB.out.size _).grown hgrow (by have := HB.out.size; simp; omega) (fun k hk => (HO.out.lt k hk).1)
          refine ⟨⟨q + 1, f, l ++ [z q], by omega, by go_num, by omega, by simp; omega, by simp; omega, ?_, HSC.out, by simpa using hown1, hb1⟩, by simp [intOf]; omega⟩
          intro x hx
          rcases List.mem_append.1 hx with h | h
          · exact HX.out x h
          · rw [List.mem_singleton.1 h]; exact hzq
    · rw [if_neg hlt] at hsc
      subst hsc
      clear HR
      go_wp2
      go_ret3
      exact BPost.err HB.out

theorem frontBytes_any (a0 : Option Addr) (n cap : Nat) (z : Nat → Int) (most : Int) (w : World) (hlc : n ≤ cap) (hn : n ≤ 140737488351232) (hs : SlAt w a0 n z) :
    Calls Tryz.prog 99 #[.slice a0 n cap, .int .i64 most] w fun e w' => BPost w (bR n z most) e w' := by
  unfold bR
  split
  · exact (frontBytes_neg a0 n cap most w ‹_›).mono fun e w' ⟨h1, h2⟩ => by rw [h1, h2]; exact BPost.err (Below.refl _ _)
  · exact frontBytes_loop a0 n cap z most w (by omega) hlc hn hs
end Go.Proofs.YtmekplaonlpfkaaGreatDoor
/- enc.Read: a reader of bytes. -/
namespace Go.Proofs.YtmekplaonlpfkaaGreatDoor
open Go.RowKit

set_option maxHeartbeats 400000 in
theorem readE_any (ad : Option Addr) (n cap : Nat) (z : Nat → Int) (w : World) (hs : SlAt w ad n z) (hnil : ad = none → n = 0 ∧ cap = 0) (hn : n ≤ 140737488351232) :
    Calls Tryz.prog 59 #[.slice ad n cap] w fun e w' => ∃ rb, e = .returned (.pointer (some ⟨rb, 0, none⟩)) ∧ RdAt w' rb n z 0 ∧ w.heap.size ≤ rb ∧ Below w.heap.size w w' := by
  go_enter Tryz.func59, Tryz.ntmps59
  go_wp2_with fail
  refine (cloneE_any ad n cap z w hs hnil hn).mono ?_
  rintro e w1 ⟨ad', cap', rfl, h1, h2, h3, h4, hb⟩
  go_wp2
  go_ret
  exact ⟨w1.heap.size, rfl, ⟨ad', cap', heap_alloc_new w1 _, h1, h2.frm ((Frm.refl [] w1).alloc _) (by simp), fun b off hn e => h2.lt hn e⟩, hb.size, hb.alloc hb.size _⟩
end Go.Proofs.YtmekplaonlpfkaaGreatDoor
/- What (*enc.Reader).Bytes does. -/
namespace Go.Proofs.YtmekplaonlpfkaaGreatDoor
open Go.RowKit

theorem sc_cases (n : Nat) (z : Nat → Int) (most : Int) : ∀ (f q : Nat) (l : List Int), q ≤ n → (sc n z most f q l).2.1 ≤ n ∧ ((sc n z most f q l).2.2 ≠ 0 → (sc n z most f q l).1 = [] ∧ (sc n z most f q l).2.1 = 0) ∧ 0 ≤ (sc n z most f q l).2.2
  | 0, q, l, _ => by simp [sc]
  | f + 1, q, l, hq => by
    unfold sc
    split
    · split
      · split
        · simp
        · split
          · simp; omega
          · split
            · split
              · simp
              · exact sc_cases n z most f (q + 2) _ (by omega)
            · simp
      · split
        · simp
        · exact sc_cases n z most f (q + 1) _ (by omega)
    · simp
theorem bR_cases (n : Nat) (z : Nat → Int) (most : Int) : (bR n z most).2.1 ≤ n ∧ ((bR n z most).2.2 ≠ 0 → (bR n z most).1 = [] ∧ (bR n z most).2.1 = 0) := by
  unfold bR
  split
  · simp
  · have := sc_cases n z most (n + 1) 0 [] (Nat.zero_le _)
    exact ⟨this.1, this.2.1⟩

theorem Fresh.back {w w0 w1 : World} {ad : Option Addr} {cap : Nat} {l : List Int} (h : Fresh w0 w1 ad cap l) (hb : Below w.heap.size w w0) : Fresh w w1 ad cap l := by
  obtain ⟨h1, h2, h3, h4, h5⟩ := h
  have := hb.size
  exact ⟨h1, h2, h3, (fun a e => Nat.le_trans this (h4 a e)), hb.trans (h5.mono this)⟩

set_option maxRecDepth 100000 in
set_option maxHeartbeats 400000 in
theorem rdBytes_err (rb n cap : Nat) (ad : Option Addr) (z : Nat → Int) (er most : Int) (w : World) (h0 : w.cell? ⟨rb, 0, none⟩ = some (.slice ad n cap)) (h1 : w.cell? ⟨rb, 1, none⟩ = some .nilIface) (hf : w.frozen? ⟨rb, 1, none⟩ = false)
    (hlc : n ≤ cap) (hn : n ≤ 140737488351232) (hs : SlAt w ad n z) (hE : errV (bR n z most).2.2 = .iface 72 (.int .i64 er)) :
    Calls Tryz.prog 64 #[.pointer (some ⟨rb, 0, none⟩), .int .i64 most] w fun e w' =>
      e = .returned (.slice none 0 0) ∧ ∃ w1, Below w.heap.size w w1 ∧ w' = w1.setCell ⟨rb, 1, none⟩ (.iface 72 (.int .i64 er)) := by
  have hs1 : SlAt (w.alloc (.cells #[.int .i64 most] 3)) ad n z := hs.frm ((Frm.refl [] w).alloc _) (by simp)
  have hlt : rb < w.heap.size := World.block_lt_of_cell? w ⟨rb, 0, none⟩ h0
  have hb0 : Below w.heap.size w (w.alloc (.cells #[.int .i64 most] 3)) := (Below.refl _ w).alloc (Nat.le_refl _) _
  go_enter Tryz.func64, Tryz.ntmps64
  go_wp2_with (first | (go_at_call 99; refine (frontBytes_any _ _ _ z most _ hlc hn hs1).mono ?_; rintro e w1 ⟨ad1, cap1, rfl, hF⟩; have hb1 := hb0.trans (hF.2.2.2.2.mono (by simp)); have hc0 := hb1.cell (p := ⟨rb, 0, none⟩) hlt; have hc1 := hb1.cell (p := ⟨rb, 1, none⟩) hlt; have hf1 := hb1.frozen (p := ⟨rb, 1, none⟩) hlt; rw [h0] at hc0; rw [h1] at hc1; rw [hf] at hf1; clear hF) | go_in)
  go_ret3
  go_wp2
  go_ret
  exact ⟨rfl, w1, hb1, rfl⟩

set_option maxRecDepth 100000 in
set_option maxHeartbeats 400000 in
theorem rdBytes_ok (rb n cap k : Nat) (ad : Option Addr) (z : Nat → Int) (most : Int) (l : List Int) (w : World) (h0 : w.cell? ⟨rb, 0, none⟩ = some (.slice ad n cap)) (h1 : w.cell? ⟨rb, 1, none⟩ = some .nilIface) (hf : w.frozen? ⟨rb, 0, none⟩ = false)
    (hlc : n ≤ cap) (hn : n ≤ 140737488351232) (hs : SlAt w ad n z) (hR : bR n z most = (l, k, 0)) (hkn : k ≤ n) :
    Calls Tryz.prog 64 #[.pointer (some ⟨rb, 0, none⟩), .int .i64 most] w fun e w' =>
      ∃ ad1 cap1 w1, e = .returned (.slice ad1 l.length cap1) ∧ Fresh w w1 ad1 cap1 l ∧ Took w1 w' rb n cap k ad := by
  have hs1 : SlAt (w.alloc (.cells #[.int .i64 most] 3)) ad n z := hs.frm ((Frm.refl [] w).alloc _) (by simp)
  have hlt : rb < w.heap.size := World.block_lt_of_cell? w ⟨rb, 0, none⟩ h0
  have hb0 : Below w.heap.size w (w.alloc (.cells #[.int .i64 most] 3)) := (Below.refl _ w).alloc (Nat.le_refl _) _
  have hkn1 : (k : Int) ≤ (n : Int) := by omega
  have hlc1 : (n : Int) ≤ (cap : Int) := by omega
  have hk0 : (0 : Int) ≤ (k : Int) := by omega
  have HR : Hid (bR n z most = (l, k, 0)) := hR
  clear hR
  go_enter Tryz.func64, Tryz.ntmps64
  go_wp2_with (first | (go_at_call 99; refine (frontBytes_any _ _ _ z most _ hlc hn hs1).mono ?_; rw [HR.out]; rintro e w1 ⟨ad1, cap1, rfl, hF⟩; have hF1 := Fresh.back hF hb0; have hb1 := hF1.2.2.2.2; have hc0 := hb1.cell (p := ⟨rb, 0, none⟩) hlt; have hc1 := hb1.cell (p := ⟨rb, 1, none⟩) hlt; have hf1 := hb1.frozen (p := ⟨rb, 0, none⟩) hlt; rw [h0] at hc0; rw [h1] at hc1; rw [hf] at hf1; have he := errV_0; clear hF) | go_in)
  go_ret3
  go_wp2
  · subst h
    go_ret
    exact ⟨ad1, cap1, rfl, w1, hF1, Took.all _ _ _ _ 0 _⟩
  · go_ret
    exact ⟨ad1, cap1, rfl, w1, hF1, Took.some _ _ _ _ _ 0 _⟩

/-- Bytes of its own, whatever else has become of the world. -/
def Own (w w' : World) (ad : Option Addr) (cap : Nat) (l : List Int) : Prop :=
  l.length ≤ cap ∧ SlAt w' ad l.length (fn l) ∧ (ad = none → l.length = 0 ∧ cap = 0) ∧ (∀ a, ad = some a → w.heap.size ≤ a.block)
theorem Fresh.own {w w1 w2 : World} {ad : Option Addr} {cap : Nat} {l : List Int} {S : List Nat} (h : Fresh w w1 ad cap l) (hf : Frm S w1 w2) (hS : ∀ k, k ∈ S → k < w.heap.size) : Own w w2 ad cap l :=
  ⟨h.1, h.2.1.frm hf (fun b off _ e hb => by have h1 := h.2.2.2.1 _ e; have h2 := hS b hb; simp at h1; omega), h.2.2.1, h.2.2.2.1⟩

theorem rdBytes_any (rb n : Nat) (z : Nat → Int) (most : Int) (w : World) (hn : n ≤ 140737488351232) (h : RdAt w rb n z 0) :
    Calls Tryz.prog 64 #[.pointer (some ⟨rb, 0, none⟩), .int .i64 most] w fun e w' =>
      ∃ ad1 cap1, e = .returned (.slice ad1 (bR n z most).1.length cap1) ∧ Own w w' ad1 cap1 (bR n z most).1 ∧ Frm [rb] w w' ∧ RdAt w' rb (n - (bR n z most).2.1) (fun j => z (j + (bR n z most).2.1)) (bR n z most).2.2 := by
  obtain ⟨ad, cap, hr, hlc, hs, hlb⟩ := h
  have hlt := lt_of_block hr
  have hc := bR_cases n z most
  by_cases hE : (bR n z most).2.2 = 0
  · refine (rdBytes_ok rb n cap (bR n z most).2.1 ad z most (bR n z most).1 w (two_cell0 hr) (two_cell1 hr) (two_free hr 0) hlc hn hs (by rw [← hE]) hc.1).mono ?_
    rintro e w' ⟨ad1, cap1, w1, rfl, hF, ht⟩
    rw [hE]
    have := ht.rd hr hlc hs hlb hc.1 (Frm.ofBelow hF.2.2.2.2)
    refine ⟨ad1, cap1, rfl, ?_, this.2, this.1⟩
    obtain ⟨ad', q, _, rfl⟩ := ht
    exact hF.own (((Frm.refl [rb] w1).drewN q).setCell _ _ (by simp)) (by simpa using hlt)
  · obtain ⟨hl, hk⟩ := hc.2 hE
    refine (rdBytes_err rb n cap ad z (bR n z most).2.2 most w (two_cell0 hr) (two_cell1 hr) (two_free hr 1) hlc hn hs (errV_ne hE)).mono ?_
    rintro e w' ⟨rfl, w1, hb, rfl⟩
    rw [hl, hk, ← errV_ne hE]
    have := RdAt.fail (er := (bR n z most).2.2) hr hlc hs hlb (Frm.ofBelow (S := []) hb)
    exact ⟨none, 0, rfl, (Fresh.nil hb).own ((Frm.refl [rb] w1).setCell _ _ (by simp)) (by simpa using hlt), this.2, this.1⟩
end Go.Proofs.YtmekplaonlpfkaaGreatDoor
/- The reader's Done. -/
namespace Go.Proofs.YtmekplaonlpfkaaGreatDoor
open Go.RowKit

/-- What Done answers of n bytes that are left, with an error. -/
def dn (n : Nat) (er : Int) : Int := if er = 0 ∧ 0 < n then 3 else er

set_option maxHeartbeats 400000 in
theorem done_err (rb : Nat) (x : Int) (w : World) (h1 : w.cell? ⟨rb, 1, none⟩ = some (.iface 72 (.int .i64 x))) :
    Calls Tryz.prog 62 #[.pointer (some ⟨rb, 0, none⟩)] w fun e w' => e = .returned (.iface 72 (.int .i64 x)) ∧ w' = w := by
  go_enter Tryz.func62, Tryz.ntmps62
  go_wp2
  go_ret
  exact ⟨rfl, rfl⟩
set_option maxHeartbeats 400000 in
theorem done_left (rb n cap : Nat) (ad : Option Addr) (w : World) (h0 : w.cell? ⟨rb, 0, none⟩ = some (.slice ad n cap)) (h1 : w.cell? ⟨rb, 1, none⟩ = some .nilIface) (hn : 0 < n) :
    Calls Tryz.prog 62 #[.pointer (some ⟨rb, 0, none⟩)] w fun e w' => e = .returned (.iface 72 (.int .i64 3)) ∧ w' = w := by
  go_enter Tryz.func62, Tryz.ntmps62
  go_wp2
  go_ret
  exact ⟨rfl, rfl⟩
set_option maxHeartbeats 400000 in
theorem done_nil (rb cap : Nat) (ad : Option Addr) (w : World) (h0 : w.cell? ⟨rb, 0, none⟩ = some (.slice ad 0 cap)) (h1 : w.cell? ⟨rb, 1, none⟩ = some .nilIface) :
    Calls Tryz.prog 62 #[.pointer (some ⟨rb, 0, none⟩)] w fun e w' => e = .returned .nilIface ∧ w' = w := by
  go_enter Tryz.func62, Tryz.ntmps62
  go_wp2
  go_ret
  exact ⟨rfl, rfl⟩
theorem done_any (rb n : Nat) (z : Nat → Int) (er : Int) (w : World) (h : RdAt w rb n z er) :
    Calls Tryz.prog 62 #[.pointer (some ⟨rb, 0, none⟩)] w fun e w' => e = .returned (errV (dn n er)) ∧ w' = w := by
  obtain ⟨ad, cap, hr, hlc, hs, -⟩ := h
  by_cases he : er = 0
  · subst he
    by_cases hn : 0 < n
    · have : dn n 0 = 3 := by simp [dn, hn]
      rw [this]
      exact done_left rb n cap ad w (two_cell0 hr) (two_cell1 hr) hn
    · have h0 : n = 0 := by omega
      subst h0
      have : dn 0 0 = 0 := by simp [dn]
      rw [this]
      exact done_nil rb cap ad w (two_cell0 hr) (two_cell1 hr)
  · have : dn n er = er := by simp [dn, he]
    rw [this, errV_ne he]
    have h1 := two_cell1 hr
    rw [errV_ne he] at h1
    exact done_err rb er w h1

end Go.Proofs.YtmekplaonlpfkaaGreatDoor
/- Readers of any bytes: by the list of what is left, or stopped. -/
namespace Go.Proofs.YtmekplaonlpfkaaGreatDoor
open Go.RowKit

def uintR (most : Int) (l : List Int) : Option (Int × List Int) := if uE l.length (fn l) most = 0 then some (uV l.length (fn l) most, l.drop (uN l.length (fn l) most)) else none
def countR (most : Int) (l : List Int) : Option (Int × List Int) := if cE l.length (fn l) most = 0 then some (cV l.length (fn l) most, l.drop (cN l.length (fn l) most)) else none
def bytesR (most : Int) (l : List Int) : Option (List Int × List Int) := if (bR l.length (fn l) most).2.2 = 0 then some ((bR l.length (fn l) most).1, l.drop (bR l.length (fn l) most).2.1) else none
/-- A reader at block rb: what is left, or that it has stopped. -/
def RS (w : World) (rb : Nat) : Option (List Int) → Prop
  | some l => RdAt w rb l.length (fn l) 0 ∧ l.length ≤ 140737488351232
  | none => ∃ n z er, er ≠ 0 ∧ RdAt w rb n z er
theorem RdAt.congr {w : World} {rb n m : Nat} {z y : Nat → Int} {er : Int} (h : RdAt w rb n z er) (hn : n = m) (he : ∀ j, j < n → z j = y j) : RdAt w rb m y er := by
  subst hn
  obtain ⟨ad, cap, h1, h2, h3, h4⟩ := h
  exact ⟨ad, cap, h1, h2, h3.congr he, h4⟩
theorem fn_drop (l : List Int) (k j : Nat) : fn (l.drop k) j = fn l (j + k) := by simp [fn, Nat.add_comm]
theorem RdAt.drop {w : World} {rb k : Nat} {l : List Int} (h : RdAt w rb (l.length - k) (fun j => fn l (j + k)) 0) : RdAt w rb (l.drop k).length (fn (l.drop k)) 0 := h.congr (by simp) fun j _ => (fn_drop l k j).symm
theorem RdAt.cell1 {w : World} {rb n : Nat} {z : Nat → Int} {er : Int} (h : RdAt w rb n z er) (he : er ≠ 0) : w.cell? ⟨rb, 1, none⟩ = some (.iface 72 (.int .i64 er)) := by
  obtain ⟨ad, cap, h1, _⟩ := h
  rw [two_cell1 h1, errV_ne he]
theorem RdAt.keep {w w' : World} {rb n : Nat} {z : Nat → Int} {er : Int} (h : RdAt w rb n z er) (hb : Below w.heap.size w w') : RdAt w' rb n z er := by
  obtain ⟨ad, cap, h1, h2, h3, h4⟩ := h
  exact ⟨ad, cap, by rw [hb.block _ (lt_of_block h1)]; exact h1, h2, h3.frm (S := []) (Frm.ofBelow hb) (by simp), h4⟩
/-- What is turned lies behind the reader. -/
theorem RdAt.frm {S : List Nat} {w w' : World} {rb n : Nat} {z : Nat → Int} {er : Int} (h : RdAt w rb n z er) (hf : Frm S w w') (hS : ∀ k, k ∈ S → rb < k) : RdAt w' rb n z er := by
  obtain ⟨ad, cap, h1, h2, h3, h4⟩ := h
  exact ⟨ad, cap, hf.heap h1 (fun hk => Nat.lt_irrefl _ (hS _ hk)), h2, h3.frm hf (fun b off hn e hk => by have := hS b hk; have := h4 b off hn e; omega), h4⟩
theorem RS.keep {w w' : World} {rb : Nat} {q : Option (List Int)} (h : RS w rb q) (hb : Below w.heap.size w w') : RS w' rb q := by
  cases q with
  | some l => exact ⟨h.1.keep hb, h.2⟩
  | none => obtain ⟨n, z, er, he, h⟩ := h; exact ⟨n, z, er, he, h.keep hb⟩
theorem RS.frm {S : List Nat} {w w' : World} {rb : Nat} {q : Option (List Int)} (h : RS w rb q) (hf : Frm S w w') (hS : ∀ k, k ∈ S → rb < k) : RS w' rb q := by
  cases q with
  | some l => exact ⟨h.1.frm hf hS, h.2⟩
  | none => obtain ⟨n, z, er, he, h⟩ := h; exact ⟨n, z, er, he, h.frm hf hS⟩
theorem RS.lt {w : World} {rb : Nat} {q : Option (List Int)} (h : RS w rb q) : rb < w.heap.size := by
  cases q with
  | some l => obtain ⟨⟨ad, cap, h1, _⟩, _⟩ := h; exact lt_of_block h1
  | none => obtain ⟨n, z, er, he, ad, cap, h1, _⟩ := h; exact lt_of_block h1
set_option maxHeartbeats 400000 in
theorem stopUint (rb : Nat) (most : Int) (u : TypeId) (x : Value) (w : World) (h1 : w.cell? ⟨rb, 1, none⟩ = some (.iface u x)) :
    Calls Tryz.prog 61 #[.pointer (some ⟨rb, 0, none⟩), .int .u64 most] w fun e w' => e = .returned (.int .u64 0) ∧ Below w.heap.size w w' := by
  have hlt : rb < w.heap.size := World.block_lt_of_cell? w _ h1
  go_enter Tryz.func61, Tryz.ntmps61
  go_wp2
  go_ret
  exact ⟨rfl, (by repeat (first | exact Below.refl _ _ | refine Below.alloc ?_ (by simp; try omega) _ | refine Below.setCell ?_ (by simp) _ | refine below_drewN ?_ _ | refine Below.drew ?_))⟩
set_option maxHeartbeats 400000 in
theorem stopBytes (rb : Nat) (most : Int) (u : TypeId) (x : Value) (w : World) (h1 : w.cell? ⟨rb, 1, none⟩ = some (.iface u x)) :
    Calls Tryz.prog 64 #[.pointer (some ⟨rb, 0, none⟩), .int .i64 most] w fun e w' => e = .returned (.slice none 0 0) ∧ Below w.heap.size w w' := by
  have hlt : rb < w.heap.size := World.block_lt_of_cell? w _ h1
  go_enter Tryz.func64, Tryz.ntmps64
  go_wp2
  go_ret
  exact ⟨rfl, (by repeat (first | exact Below.refl _ _ | refine Below.alloc ?_ (by simp; try omega) _ | refine Below.setCell ?_ (by simp) _ | refine below_drewN ?_ _ | refine Below.drew ?_))⟩
theorem uint_rs (rb : Nat) (most : Int) (q : Option (List Int)) (w : World) (h : RS w rb q) :
    Calls Tryz.prog 61 #[.pointer (some ⟨rb, 0, none⟩), .int .u64 most] w fun e w' =>
      e = .returned (.int .u64 (((q.bind (uintR most)).map Prod.fst).getD 0)) ∧ Frm [rb] w w' ∧ RS w' rb ((q.bind (uintR most)).map Prod.snd) := by
  cases q with
  | none =>
    obtain ⟨n, z, er, he, h⟩ := h
    refine (stopUint rb most _ _ w (h.cell1 he)).mono ?_
    rintro e w' ⟨rfl, hb⟩
    exact ⟨rfl, Frm.ofBelow hb, n, z, er, he, h.keep hb⟩
  | some l =>
    refine (rdUint_any rb _ _ most w h.1).mono ?_
    rintro e w' ⟨rfl, hF, hR⟩
    simp only [Option.bind_some, uintR]
    by_cases hE : uE l.length (fn l) most = 0
    · rw [if_pos hE]
      rw [hE] at hR
      exact ⟨rfl, hF, hR.drop, by have := h.2; simp; omega⟩
    · rw [if_neg hE]
      refine ⟨?_, hF, _, _, _, hE, hR⟩
      simp [uV, hE]
theorem count_rs (rb : Nat) (most : Int) (l : List Int) (w : World) (h : RS w rb (some l)) (hm : most ≤ 9223372036854775807) :
    Calls Tryz.prog 60 #[.pointer (some ⟨rb, 0, none⟩), .int .i64 most] w fun e w' =>
      e = .returned (.int .i64 (((countR most l).map Prod.fst).getD 0)) ∧ Frm [rb] w w' ∧ RS w' rb ((countR most l).map Prod.snd) := by
  refine (rdCount_any rb _ _ most w h.2 hm h.1).mono ?_
  rintro e w' ⟨rfl, hF, hR⟩
  simp only [countR]
  by_cases hE : cE l.length (fn l) most = 0
  · rw [if_pos hE]
    rw [hE] at hR
    exact ⟨rfl, hF, hR.drop, by have := h.2; simp; omega⟩
  · rw [if_neg hE]
    refine ⟨?_, hF, _, _, _, hE, hR⟩
    simp [cV, hE]
theorem bytes_rs (rb : Nat) (most : Int) (q : Option (List Int)) (w : World) (h : RS w rb q) :
    Calls Tryz.prog 64 #[.pointer (some ⟨rb, 0, none⟩), .int .i64 most] w fun e w' =>
      ∃ ad cap, e = .returned (.slice ad (((q.bind (bytesR most)).map Prod.fst).getD []).length cap) ∧ Own w w' ad cap (((q.bind (bytesR most)).map Prod.fst).getD []) ∧ Frm [rb] w w' ∧ RS w' rb ((q.bind (bytesR most)).map Prod.snd) := by
  cases q with
  | none =>
    obtain ⟨n, z, er, he, h⟩ := h
    refine (stopBytes rb most _ _ w (h.cell1 he)).mono ?_
    rintro e w' ⟨rfl, hb⟩
    exact ⟨none, 0, rfl, ⟨Nat.le_refl _, SlAt.zero _ _, (fun _ => ⟨rfl, rfl⟩), fun a h => by cases h⟩, Frm.ofBelow hb, n, z, er, he, h.keep hb⟩
  | some l =>
    refine (rdBytes_any rb _ _ most w h.2 h.1).mono ?_
    rintro e w' ⟨ad, cap, rfl, hO, hF, hR⟩
    simp only [Option.bind_some, bytesR]
    by_cases hE : (bR l.length (fn l) most).2.2 = 0
    · rw [if_pos hE]
      rw [hE] at hR
      exact ⟨ad, cap, rfl, hO, hF, hR.drop, by have := h.2; simp; omega⟩
    · rw [if_neg hE]
      have hc := (bR_cases l.length (fn l) most).2 hE
      rw [hc.1] at hO ⊢
      exact ⟨ad, cap, rfl, hO, hF, _, _, _, hE, hR⟩
/-- Is all taken off? -/
def endsR (q : Option (List Int)) : Bool := match q with | some [] => true | _ => false
theorem done_rs (rb : Nat) (q : Option (List Int)) (w : World) (h : RS w rb q) :
    Calls Tryz.prog 62 #[.pointer (some ⟨rb, 0, none⟩)] w fun e w' => (∃ x, e = .returned (errV x) ∧ (endsR q = true ↔ x = 0)) ∧ w' = w := by
  cases q with
  | none =>
    obtain ⟨n, z, er, he, h⟩ := h
    refine (done_any rb n z er w h).mono ?_
    rintro e w' ⟨rfl, rfl⟩
    refine ⟨⟨_, rfl, ?_⟩, rfl⟩
    simp [endsR, dn, he]
  | some l =>
    refine (done_any rb _ _ 0 w h.1).mono ?_
    rintro e w' ⟨rfl, rfl⟩
    refine ⟨⟨_, rfl, ?_⟩, rfl⟩
    cases l <;> simp [endsR, dn]
theorem readE_rs (ad : Option Addr) (cap : Nat) (l : List Int) (w : World) (hs : SlAt w ad l.length (fn l)) (hnil : ad = none → l.length = 0 ∧ cap = 0) (hn : l.length ≤ 140737488351232) :
    Calls Tryz.prog 59 #[.slice ad l.length cap] w fun e w' => ∃ rb, e = .returned (.pointer (some ⟨rb, 0, none⟩)) ∧ RS w' rb (some l) ∧ w.heap.size ≤ rb ∧ Below w.heap.size w w' := by
  refine (readE_any ad l.length cap (fn l) w hs hnil hn).mono ?_
  rintro e w' ⟨rb, rfl, h1, h2, h3⟩
  exact ⟨rb, rfl, ⟨h1, hn⟩, h2, h3⟩
end Go.Proofs.YtmekplaonlpfkaaGreatDoor
/- Lists by rising keys, as a map's datum has them. -/
namespace Go.Proofs.YtmekplaonlpfkaaGreatDoor
open Go.RowKit Go.Maps Go.Sort

section
variable {α : Type} (key : α → List UInt8) (en : α → DataW Unit)
def ent (x : α) : Lit × DataW Unit := (.string (key x), en x)
/-- One more, at its place by its key. -/
def insK (x : α) : List α → List α
  | [] => [x]
  | y :: r => if bytesBefore (key x) (key y) then x :: y :: r else y :: insK x r
/-- Without a key. -/
def delK (k : List UInt8) (l : List α) : List α := l.filter fun y => !(key y == k)
def putK (x : α) (l : List α) : List α := insK key x (delK key (key x) l)
def getK (k : List UInt8) (l : List α) : Option α := l.find? fun y => key y == k
/-- What a map with these entries reads as. -/
def dOf (l : List α) : DataW Unit := .map (l.map (ent key en))
def Rise (l : List α) : Prop := l.Pairwise fun x y => bytesBefore (key x) (key y) = true

theorem ins_ent (x : α) : ∀ l : List α, DataW.insert (ent key en x) (l.map (ent key en)) = (insK key x l).map (ent key en)
  | [] => rfl
  | y :: r => by
    show (if (ent key en x).1.before (ent key en y).1 then _ else _) = (if bytesBefore (key x) (key y) then x :: y :: r else y :: insK key x r).map _
    have : (ent key en x).1.before (ent key en y).1 = bytesBefore (key x) (key y) := rfl
    rw [this]
    split
    · rfl
    · rw [ins_ent x r]; rfl
theorem dOf_del (k : List UInt8) (l : List α) : (dOf key en l).del (.string k) = dOf key en (delK key k l) := by
  show DataW.map ((l.map (ent key en)).filter fun p => !p.1.sameKey (.string k)) = .map ((l.filter fun y => !(key y == k)).map (ent key en))
  rw [List.filter_map]
  rfl
theorem dOf_put (x : α) (l : List α) : (dOf key en l).put (.string (key x)) (en x) = dOf key en (putK key x l) := by
  show DataW.map (DataW.insert (ent key en x) ((l.map (ent key en)).filter fun p => !p.1.sameKey (.string (key x)))) = .map ((insK key x (l.filter fun y => !(key y == key x))).map (ent key en))
  rw [List.filter_map, ins_ent]
  rfl
theorem dOf_nil : dOf key en [] = .map [] := rfl
theorem dOf_size (l : List α) : Maps.size (dOf key en l) = l.length := by simp [Maps.size, dOf]
theorem dOf_has (k : List UInt8) (l : List α) : Maps.has (dOf key en l) (.string k) = (getK key k l).isSome := by
  show (l.map (ent key en)).any (fun p => p.1.sameKey (.string k)) = _
  unfold getK
  rw [List.any_map, List.isSome_find?]
  rfl
theorem dOf_at (k : List UInt8) (z : DataW Unit) (l : List α) : (dOf key en l).atKey (.string k) z = match getK key k l with | some x => en x | none => z := by
  unfold DataW.atKey dOf getK
  dsimp only
  rw [List.find?_map]
  have : ((fun p : Lit × DataW Unit => p.1.sameKey (.string k)) ∘ ent key en) = fun y => key y == k := rfl
  rw [this]
  cases l.find? (fun y => key y == k) <;> rfl
theorem dOf_filter (pd : Lit → DataW Unit → Bool) (l : List α) : Lib.deleteFuncD pd (dOf key en l) = dOf key en (l.filter fun x => !pd (.string (key x)) (en x)) := by
  show DataW.map ((l.map (ent key en)).filter fun p => !pd p.1 p.2) = .map _
  rw [List.filter_map]
  rfl
theorem dOf_keys (l : List α) : strKeys (dOf key en l) = l.map key := by
  show (l.map (ent key en)).map (fun p => strOf p.1) = _
  rw [List.map_map]
  rfl
theorem mem_insK {x y : α} : ∀ {l : List α}, y ∈ insK key x l ↔ y = x ∨ y ∈ l
  | [] => by simp [insK]
  | a :: r => by
    unfold insK
    split
    · simp
    · simp only [List.mem_cons, mem_insK (l := r)]
      constructor
      · rintro (h | h | h)
        · exact .inr (.inl h)
        · exact .inl h
        · exact .inr (.inr h)
      · rintro (h | h | h)
        · exact .inr (.inl h)
        · exact .inl h
        · exact .inr (.inr h)
theorem insK_length (x : α) : ∀ l : List α, (insK key x l).length = l.length + 1
  | [] => rfl
  | a :: r => by
    unfold insK
    split
    · rfl
    · simp [insK_length x r]
theorem mem_delK {k : List UInt8} {y : α} {l : List α} : y ∈ delK key k l ↔ y ∈ l ∧ key y ≠ k := by simp [delK]
theorem mem_putK {x y : α} {l : List α} : y ∈ putK key x l ↔ y = x ∨ (y ∈ l ∧ key y ≠ key x) := by rw [putK, mem_insK, mem_delK]
theorem before_irrefl (a : List UInt8) : bytesBefore a a = false := WideAt.bytes_irrefl a
theorem before_of_not {a b : List UInt8} (h : bytesBefore a b = false) (hne : a ≠ b) : bytesBefore b a = true := (WideAt.bytes_total a b hne).resolve_left (by simp [h])
theorem Rise.del {l : List α} (h : Rise key l) (k : List UInt8) : Rise key (delK key k l) := List.Pairwise.filter _ h
theorem Rise.filter {l : List α} (h : Rise key l) (f : α → Bool) : Rise key (l.filter f) := List.Pairwise.filter _ h
theorem Rise.ins {x : α} : ∀ {l : List α}, Rise key l → (∀ y ∈ l, key y ≠ key x) → Rise key (insK key x l)
  | [], _, _ => by simp [insK, Rise]
  | a :: r, h, hn => by
    obtain ⟨h1, h2⟩ := List.pairwise_cons.1 h
    unfold insK
    split
    · rename_i hb
      refine List.pairwise_cons.2 ⟨fun y hy => ?_, h⟩
      rcases List.mem_cons.1 hy with rfl | hy
      · exact hb
      · exact WideShapes.bytes_trans _ _ _ hb (h1 y hy)
    · rename_i hb
      refine List.pairwise_cons.2 ⟨fun y hy => ?_, Rise.ins h2 fun y hy => hn y (List.mem_cons_of_mem _ hy)⟩
      rcases (mem_insK key).1 hy with rfl | hy
      · exact before_of_not (by simpa using hb) (fun e => hn a (List.mem_cons_self ..) e.symm)
      · exact h1 y hy
theorem Rise.put {x : α} {l : List α} (h : Rise key l) : Rise key (putK key x l) := Rise.ins key (h.del key _) fun _ hy => ((mem_delK key).1 hy).2
theorem Rise.inj {l : List α} (h : Rise key l) {x y : α} (hx : x ∈ l) (hy : y ∈ l) (e : key x = key y) : x = y := by
  induction l with
  | nil => cases hx
  | cons a r ih =>
    obtain ⟨h1, h2⟩ := List.pairwise_cons.1 h
    rcases List.mem_cons.1 hx with e1 | hx1
    · rcases List.mem_cons.1 hy with e2 | hy1
      · rw [e1, e2]
      · have := h1 y hy1; rw [← e1, e, before_irrefl] at this; cases this
    · rcases List.mem_cons.1 hy with e2 | hy1
      · have := h1 x hx1; rw [← e2, e, before_irrefl] at this; cases this
      · exact ih h2 hx1 hy1
theorem getK_mem {k : List UInt8} {l : List α} {x : α} (h : getK key k l = some x) : x ∈ l ∧ key x = k := by
  unfold getK at h
  exact ⟨List.mem_of_find?_eq_some h, by simpa using List.find?_some h⟩
theorem getK_some {l : List α} (h : Rise key l) {x : α} (hx : x ∈ l) : getK key (key x) l = some x := by
  cases e : getK key (key x) l with
  | none =>
    unfold getK at e
    rw [List.find?_eq_none] at e
    exact absurd (by simp) (e x hx)
  | some y =>
    obtain ⟨h1, h2⟩ := getK_mem key e
    rw [h.inj key h1 hx h2]
theorem getK_none {k : List UInt8} {l : List α} : getK key k l = none ↔ ∀ y ∈ l, key y ≠ k := by
  unfold getK
  rw [List.find?_eq_none]
  simp
/-- Two lists by rising keys with the same members are one. -/
theorem Rise.ext : ∀ {l m : List α}, Rise key l → Rise key m → (∀ x, x ∈ l ↔ x ∈ m) → l = m
  | [], [], _, _, _ => rfl
  | [], b :: m, _, _, h => by have := (h b).2 (List.mem_cons_self ..); cases this
  | a :: l, [], _, _, h => by have := (h a).1 (List.mem_cons_self ..); cases this
  | a :: l, b :: m, h1, h2, h => by
    obtain ⟨p1, p2⟩ := List.pairwise_cons.1 h1
    obtain ⟨q1, q2⟩ := List.pairwise_cons.1 h2
    have e : a = b := by
      rcases List.mem_cons.1 ((h a).1 (List.mem_cons_self ..)) with e | ha
      · exact e
      · rcases List.mem_cons.1 ((h b).2 (List.mem_cons_self ..)) with e | hb
        · exact e.symm
        · have h3 := WideShapes.bytes_trans _ _ _ (p1 b hb) (q1 a ha)
          rw [before_irrefl] at h3; cases h3
    subst e
    rw [Rise.ext p2 q2 fun x => ?_]
    have hx := h x
    constructor
    · intro hl
      rcases List.mem_cons.1 (hx.1 (List.mem_cons_of_mem _ hl)) with rfl | hm
      · have := p1 _ hl; rw [before_irrefl] at this; cases this
      · exact hm
    · intro hm
      rcases List.mem_cons.1 (hx.2 (List.mem_cons_of_mem _ hm)) with rfl | hl
      · have := q1 _ hm; rw [before_irrefl] at this; cases this
      · exact hl
end
/-- Go's order of strings. -/
theorem compare_before : ∀ a b : List UInt8, Lib.compareBytes a b = if bytesBefore a b then -1 else if bytesBefore b a then 1 else 0
  | [], [] => by simp [Lib.compareBytes, bytesBefore]
  | [], _ :: _ => by simp [Lib.compareBytes, bytesBefore]
  | _ :: _, [] => by simp [Lib.compareBytes, bytesBefore]
  | a :: as, b :: bs => by
    unfold Lib.compareBytes
    rw [compare_before as bs]
    by_cases h1 : a < b
    · simp [bytesBefore, h1]
    · by_cases h2 : b < a
      · have h3 : ¬ (a = b) := by rintro rfl; exact h1 h2
        simp [bytesBefore, h1, h2, h3]
      · have h3 : a = b := UInt8.le_antisymm (UInt8.not_lt.1 h2) (UInt8.not_lt.1 h1)
        subst h3
        simp [bytesBefore, h1]
theorem before_lt : ∀ a b : List UInt8, bytesBefore a b = decide (a < b)
  | [], [] => by simp [bytesBefore]
  | [], _ :: _ => by simp [bytesBefore]
  | _ :: _, [] => by simp [bytesBefore]
  | a :: as, b :: bs => by
    unfold bytesBefore
    rw [before_lt as bs, Bool.eq_iff_iff]
    simp [List.cons_lt_cons_iff]
end Go.Proofs.YtmekplaonlpfkaaGreatDoor
/- A shelf in memory: its leaves in a map, its five cells. -/
namespace Go.Proofs.YtmekplaonlpfkaaGreatDoor
open Go.RowKit Go.Maps Go.Sort

/-- A leaf: its key, its place, its value. -/
structure Lf where
  k : List UInt8
  p : Nat
  v : List UInt8
instance : Inhabited Lf := ⟨⟨[], 0, []⟩⟩
/-- A change: the key, the value, whether it goes. -/
structure Cg where
  k : List UInt8
  v : List UInt8
  g : Bool
instance : Inhabited Cg := ⟨⟨[], [], false⟩⟩
def lfV (p : Nat) (v : List UInt8) : Value := .agg #[.int .i64 (p : Int), encStr v]
def lfD (p : Nat) (v : List UInt8) : DataW Unit := .agg [.lit (.int .i64 (p : Int)), .lit (.string v)]
def Lf.en (x : Lf) : DataW Unit := lfD x.p x.v
/-- How a leaf in the map reads. -/
def lfR (v : Value) : Option (DataW Unit × List MemPlace) :=
  match v with
  | .agg cs => match cs.toList with
    | [.int .i64 p, .string s] => if 0 ≤ p then some (lfD p.toNat s.data.toList, []) else none
    | _ => none
  | _ => none
theorem lfR_mk (p : Nat) (v : List UInt8) : lfR (lfV p v) = some (lfD p v, []) := by
  simp [lfR, lfV, encStr]
theorem lfR_inv {v : Value} {y : DataW Unit × List MemPlace} (h : lfR v = some y) : ∃ p u, v = lfV p u ∧ y = (lfD p u, []) := by
  unfold lfR at h
  split at h
  · rename_i cs
    split at h
    · rename_i p s hcs
      split at h
      · rename_i hp
        cases h
        refine ⟨p.toNat, s.data.toList, ?_, rfl⟩
        unfold lfV encStr
        rw [Int.toNat_of_nonneg hp]
        congr 1
        apply Array.toList_inj.1
        rw [hcs]
      · cases h
    · cases h
  · cases h
theorem lfR_val {v : Value} {y : DataW Unit × List MemPlace} (h : lfR v = some y) : ∃ c : Nat × List UInt8, v = lfV c.1 c.2 := by
  obtain ⟨p, u, e, _⟩ := lfR_inv h
  exact ⟨(p, u), e⟩
theorem lfD_inj {p q : Nat} {u v : List UInt8} (h : lfD p u = lfD q v) : p = q ∧ u = v := by
  unfold lfD at h
  simp only [DataW.agg.injEq, List.cons.injEq, DataW.lit.injEq, Lit.int.injEq, Lit.string.injEq, true_and, and_true] at h
  exact ⟨by omega, h.2⟩

def cgL (x : Cg) : List Value := [encStr x.k, encStr x.v, .bool x.g]
def cgV (x : Cg) : Value := .agg #[encStr x.k, encStr x.v, .bool x.g]
def Cg.en (x : Cg) : DataW Unit := .agg [.lit (.string x.k), .lit (.string x.v), .lit (.bool x.g)]
def cgR (v : Value) : Option (DataW Unit × List MemPlace) :=
  match v with
  | .agg cs => match cs.toList with
    | [.string a, .string b, .bool g] => some ((⟨a.data.toList, b.data.toList, g⟩ : Cg).en, [])
    | _ => none
  | _ => none
theorem cgR_mk (x : Cg) : cgR (cgV x) = some (x.en, []) := by simp [cgR, cgV, encStr]
theorem cgR_inv {v : Value} {y : DataW Unit × List MemPlace} (h : cgR v = some y) : ∃ x : Cg, v = cgV x ∧ y = (x.en, []) := by
  unfold cgR at h
  split at h
  · rename_i cs
    split at h
    · rename_i a b g hcs
      cases h
      refine ⟨⟨a.data.toList, b.data.toList, g⟩, ?_, rfl⟩
      unfold cgV encStr
      congr 1
      apply Array.toList_inj.1
      rw [hcs]
    · cases h
  · cases h
theorem cgR_val {v : Value} {y : DataW Unit × List MemPlace} (h : cgR v = some y) : ∃ x : Cg, v = cgV x := by
  obtain ⟨x, e, _⟩ := cgR_inv h
  exact ⟨x, e⟩
theorem Cg.en_inj {x y : Cg} (h : x.en = y.en) : x = y := by
  unfold Cg.en at h
  simp only [DataW.agg.injEq, List.cons.injEq, DataW.lit.injEq, Lit.bool.injEq, Lit.string.injEq, and_true] at h
  cases x; cases y; simp at *; exact h

theorem strK : Maps.Keyed Tryz.prog 9 := Maps.string_keyed Tryz.underlying9
theorem key_str {k : List UInt8} (h : k.length ≤ maxLen) : keyOf Tryz.prog 9 (encStr k) = some (.string k) := by
  have := WideMaps.keyOf_string_mk (P := Tryz.prog) (k := 9) Tryz.underlying9 (s := ⟨k.toArray⟩) (by simpa [ByteArray.size] using h)
  simpa [encStr] using this
theorem key_inv {key : Value} {kl : Lit} (h : keyOf Tryz.prog 9 key = some kl) : ∃ x : List UInt8, key = encStr x := by
  obtain ⟨x, e, _⟩ := Maps.keyOf_str Tryz.underlying9 h
  exact ⟨x, e⟩
theorem eq_str (a b : List UInt8) (w : World) : (binOp .eql 9 (encStr a) (encStr b)).run Tryz.prog w = .ok (.bool (a == b)) w := by
  show (binOp .eql 9 (.string ⟨a.toArray⟩) (.string ⟨b.toArray⟩)).run Tryz.prog w = _
  rw [binOp_string_eql]
  have e1 : ∀ l : List UInt8, (⟨l.toArray⟩ : ByteArray).toList = l := fun l => by rw [ByteArray.toList_eq]
  rw [e1, e1]
  rfl
/-- A map of leaves. -/
def lfM (w : World) (m : Nat) (L : List Lf) : Prop := w.ownsMap Tryz.prog 9 lfR m L.length (dOf Lf.k Lf.en L)
def cgM (w : World) (m : Nat) (L : List Cg) : Prop := w.ownsMap Tryz.prog 9 cgR m L.length (dOf Cg.k Cg.en L)
theorem owns_exact {R : Value → Option (DataW Unit × List MemPlace)} {w : World} {b n : Nat} {D : DataW Unit} (h : w.ownsMap Tryz.prog 9 R b n D) : w.ownsMap Tryz.prog 9 R b (Maps.size D) D := by
  obtain ⟨es, clock, hb, F, hs, rfl⟩ := h
  exact ⟨es, clock, hb, F, by simp [Maps.size, length_sorted], rfl⟩
theorem lfM.of {w : World} {m n : Nat} {L : List Lf} (h : w.ownsMap Tryz.prog 9 lfR m n (dOf Lf.k Lf.en L)) : lfM w m L := by
  have := owns_exact h
  rwa [dOf_size] at this
theorem cgM.of {w : World} {m n : Nat} {L : List Cg} (h : w.ownsMap Tryz.prog 9 cgR m n (dOf Cg.k Cg.en L)) : cgM w m L := by
  have := owns_exact h
  rwa [dOf_size] at this
theorem owns_keepB {R : Value → Option (DataW Unit × List MemPlace)} {w w' : World} {b n : Nat} {D : DataW Unit} (h : w.ownsMap Tryz.prog 9 R b n D) (hk : w'.heap[b]? = w.heap[b]?) : w'.ownsMap Tryz.prog 9 R b n D := by
  obtain ⟨es, clock, hb, F, hs, hD⟩ := h
  exact ⟨es, clock, hk.trans hb, F, hs, hD⟩
theorem ranges_keepB {R : Value → Option (DataW Unit × List MemPlace)} {w w' : World} {b r n : Nat} {D : DataW Unit} {left : Lit → Bool} {cnt : Nat} (h : w.ranges Tryz.prog 9 R b r n D left cnt) (h1 : w'.heap[b]? = w.heap[b]?) (h2 : w'.heap[r]? = w.heap[r]?) : w'.ranges Tryz.prog 9 R b r n D left cnt := by
  obtain ⟨es, clock, since, seen, c0, hb, F, hs, hD, hr, rest⟩ := h
  exact ⟨es, clock, since, seen, c0, h1.trans hb, F, hs, hD, h2.trans hr, rest⟩
theorem Rise.nodup {L : List Lf} (h : Rise Lf.k L) : (L.map Lf.k).Nodup := by
  unfold Rise at h
  rw [List.Nodup, List.pairwise_map]
  exact h.imp fun {a b} hab e => by rw [e, before_irrefl] at hab; cases hab

/-- Leaves that an area of n pages can have. -/
structure LOk (n : Nat) (L : List Lf) : Prop where
  rise : Rise Lf.k L
  apart : (L.map Lf.p).Nodup
  place : ∀ x ∈ L, 1 ≤ x.p ∧ x.p < n
  len : ∀ x ∈ L, x.k.length ≤ 4096 ∧ x.v.length ≤ 4096
theorem LOk.nil (n : Nat) : LOk n [] := ⟨List.Pairwise.nil, List.nodup_nil, (fun x h => by cases h), fun x h => by cases h⟩
/-- Block sh is a shelf on the store p: n pages from fr on, its leaves in the map m. -/
structure ShAt (w : World) (sh m p fr n : Nat) (L : List Lf) (dead : Int) : Prop where
  cells : w.heap[sh]? = some (.cells #[.pointer (some ⟨p, 0, none⟩), .int .i64 (fr : Int), .int .i64 (n : Int), .map (some m), errV dead] 83 (0, 0))
  map : lfM w m L
  ok : LOk n L
  count : 2 ≤ n ∧ n ≤ 1024
  from_ : fr ≤ 4096
section
variable {w w' : World} {sh m p fr n : Nat} {L : List Lf} {dead : Int}
theorem ShAt.c0 (h : ShAt w sh m p fr n L dead) : w.cell? ⟨sh, 0, none⟩ = some (.pointer (some ⟨p, 0, none⟩)) := by rw [cell_of_row w sh 0 _ _ _ h.cells]; rfl
theorem ShAt.c1 (h : ShAt w sh m p fr n L dead) : w.cell? ⟨sh, 1, none⟩ = some (.int .i64 (fr : Int)) := by rw [cell_of_row w sh 1 _ _ _ h.cells]; rfl
theorem ShAt.c2 (h : ShAt w sh m p fr n L dead) : w.cell? ⟨sh, 2, none⟩ = some (.int .i64 (n : Int)) := by rw [cell_of_row w sh 2 _ _ _ h.cells]; rfl
theorem ShAt.c3 (h : ShAt w sh m p fr n L dead) : w.cell? ⟨sh, 3, none⟩ = some (.map (some m)) := by rw [cell_of_row w sh 3 _ _ _ h.cells]; rfl
theorem ShAt.c4 (h : ShAt w sh m p fr n L dead) : w.cell? ⟨sh, 4, none⟩ = some (errV dead) := by rw [cell_of_row w sh 4 _ _ _ h.cells]; rfl
theorem ShAt.fz (h : ShAt w sh m p fr n L dead) (o : Nat) : w.frozen? ⟨sh, o, none⟩ = false := frozen_of_row w sh o _ _ h.cells
theorem ShAt.lt (h : ShAt w sh m p fr n L dead) : sh < w.heap.size := lt_of_block h.cells
theorem ShAt.ltm (h : ShAt w sh m p fr n L dead) : m < w.heap.size := h.map.lt
theorem ShAt.keep (h : ShAt w sh m p fr n L dead) (h1 : w'.heap[sh]? = w.heap[sh]?) (h2 : w'.heap[m]? = w.heap[m]?) : ShAt w' sh m p fr n L dead :=
  ⟨h1.trans h.cells, owns_keepB h.map h2, h.ok, h.count, h.from_⟩
theorem ShAt.below (h : ShAt w sh m p fr n L dead) (hb : Below w.heap.size w w') : ShAt w' sh m p fr n L dead := h.keep (hb.block _ h.lt) (hb.block _ h.ltm)
theorem ShAt.few (h : ShAt w sh m p fr n L dead) : L.length < n := by
  have h1 := h.ok.apart
  have h2 : ∀ x ∈ L.map Lf.p, x ∈ List.range' 1 (n - 1) := fun x hx => by
    obtain ⟨y, hy, rfl⟩ := List.mem_map.1 hx
    have := h.ok.place y hy
    simp [List.mem_range'_1]; omega
  have h3 := List.Nodup.length_le_of_subset h1 h2
  simp at h3
  have := h.count
  omega
end
end Go.Proofs.YtmekplaonlpfkaaGreatDoor
