/- The document's Check of branches of any number of keys. -/
import Derived.Test.YtbehkajfckadfaaGreatDoorOwnShelf13
namespace Go.Proofs.YtbehkajfckadfaaGreatDoor.Cd
open Go.RowKit

set_option maxRecDepth 100000 in
set_option maxHeartbeats 3200000 in
theorem rcheck_anyX (ad : Option Addr) (n cap : Nat) (X : Nat → Bv) (w : World) (h : BrAt w ad n X) (hn : n ≤ 1000000) (hx : ∀ i, i < n → (X i).n ≤ 17592186043904) :
    Calls Tryz.prog 27 #[.agg #[.slice ad n cap]] w fun e w' => e = .returned (.int .i64 (chkE X n)) ∧ Below w.heap.size w w' := by
  have HB : Hid (BrAt w ad n X) := h
  have hb0 : Below w.heap.size w (w.alloc (.cells #[.slice ad n cap] 60)) := (Below.refl _ w).alloc (Nat.le_refl _) _
  have hc0 : (w.alloc (.cells #[.slice ad n cap] 60)).cell? ⟨w.heap.size, 0, none⟩ = some (.slice ad n cap) := by simp
  clear h
  by_cases h1 : n < 1
  · have h1' : (n : Int) < 1 := by omega
    have HE : Hid (chkE X n = 1) := if_neg (fun h => by have := h.1; omega)
    go_enter Tryz.func27, Tryz.ntmps27
    go_wp2
    go_ret
    exact ⟨by rw [HE.out]; rfl, hb0⟩
  have h1' : ¬ (n : Int) < 1 := by omega
  by_cases h2 : 8 < n
  · have h2' : (8 : Int) < n := by omega
    have HE : Hid (chkE X n = 1) := if_neg (fun h => by have := h.1; omega)
    go_enter Tryz.func27, Tryz.ntmps27
    go_wp2
    go_ret
    exact ⟨by rw [HE.out]; rfl, hb0⟩
  have h2' : ¬ (8 : Int) < n := by omega
  go_enter Tryz.func27, Tryz.ntmps27
  go_wp2
  generalize w.alloc (.cells #[.slice ad n cap] 60) = W0 at *
  go_loopw [3, 4, 5, 6] (fun iv _ _ _ wr => ∃ i : Nat, i ≤ n ∧ iv = .int .i64 i ∧ AllOk X i ∧ Below w.heap.size w wr ∧ wr.cell? ⟨w.heap.size, 0, none⟩ = some (.slice ad n cap)) (fun iv _ _ _ _ => n + 1 - (intOf iv).toNat)
  case atStart => exact ⟨0, by omega, rfl, fun j hj => by omega, hb0, hc0⟩
  case round =>
    clear hb0 hc0
    obtain ⟨i, hi, rfl, hk, hb, hc0⟩ := hrel
    have HK : Hid (AllOk X i) := hk
    clear hk
    by_cases hlt : i < n
    · have hlt' : (i : Int) < n := by omega
      obtain ⟨b, off, rfl, hc⟩ := HB.out.at_ (by omega)
      obtain ⟨ka, kc, hr0, hI0⟩ := hc i hlt
      have HR : Hid (wr.rangeAt b (off + i * 35) (brl (X i) ka kc)) := range_below hr0 hb
      have HI : Hid (IsAt w ka (X i).n (X i).z) := hI0
      have hxi := hx i hlt
      have hsz := World.block_lt_of_cell? wr ⟨w.heap.size, 0, none⟩ hc0
      clear hc hr0 hI0
      have HB1 : Hid (∀ w' : World, w'.heap[wr.heap.size]? = some (.cells (bv (X i) ka kc) 65 (0, 0)) → Frm [wr.heap.size] (wr.alloc (.cells (bv b0 none 0) 65)) w' → Below w.heap.size w w' ∧ w'.cell? ⟨w.heap.size, 0, none⟩ = some (.slice (some ⟨b, off, none⟩) n cap) ∧ BBox w' wr.heap.size (X i) ka kc ∧ w.heap.size < w'.heap.size) := by
        intro w' h1 h2
        have h3 : Below wr.heap.size (wr.alloc (.cells (bv b0 none 0) 65)) w' := h2.below (by simp) (by simp)
        have h4 : Below wr.heap.size wr w' := ((Below.refl _ wr).alloc (Nat.le_refl _) _).trans h3
        refine ⟨hb.trans (h4.mono hb.size), ?_, bbox_of h1, Nat.lt_of_lt_of_le hsz h4.size⟩
        rw [h4.cell (p := ⟨w.heap.size, 0, none⟩) hsz]; exact hc0
      by_cases g0 : ((X i).n : Int) < 1
      · have HE : Hid (chkE X n = 1) := if_neg (fun hh => by have h := hh.2 i hlt; have := h.1.2; omega)
        go_wp2_with (first | (refine wpList_load_mid rfl 65 _ rfl b (off + i * 35) rfl (brl (X i) ka kc) _ HR.out Tryz.underlying65 rfl (szRl _ _ _) ?_) | (refine wpList_allocR rfl rfl ?_) | (refine wpList_storeR _ szR rfl _ _ rfl wr.heap.size rfl (X i) b0 ka none kc 0 65 rfl (heap_alloc_new wr _) ?_; intro w1 hg1 hf1; obtain ⟨hb1, c10, ⟨c0, c33, c34⟩, hs1⟩ := HB1.out w1 hg1 hf1; clear hg1 hf1) | fail)
        go_ret
        exact ⟨by rw [HE.out]; rfl, hb1⟩
      by_cases g1 : (X i).af < 0
      · have HE : Hid (chkE X n = 1) := if_neg (fun hh => by have h := hh.2 i hlt; have := h.2.1; omega)
        go_wp2_with (first | (refine wpList_load_mid rfl 65 _ rfl b (off + i * 35) rfl (brl (X i) ka kc) _ HR.out Tryz.underlying65 rfl (szRl _ _ _) ?_) | (refine wpList_allocR rfl rfl ?_) | (refine wpList_storeR _ szR rfl _ _ rfl wr.heap.size rfl (X i) b0 ka none kc 0 65 rfl (heap_alloc_new wr _) ?_; intro w1 hg1 hf1; obtain ⟨hb1, c10, ⟨c0, c33, c34⟩, hs1⟩ := HB1.out w1 hg1 hf1; clear hg1 hf1) | fail)
        go_ret
        exact ⟨by rw [HE.out]; rfl, hb1⟩
      by_cases g2 : 1099511627776 < (X i).af
      · have HE : Hid (chkE X n = 1) := if_neg (fun hh => by have h := hh.2 i hlt; have := h.2.1; omega)
        go_wp2_with (first | (refine wpList_load_mid rfl 65 _ rfl b (off + i * 35) rfl (brl (X i) ka kc) _ HR.out Tryz.underlying65 rfl (szRl _ _ _) ?_) | (refine wpList_allocR rfl rfl ?_) | (refine wpList_storeR _ szR rfl _ _ rfl wr.heap.size rfl (X i) b0 ka none kc 0 65 rfl (heap_alloc_new wr _) ?_; intro w1 hg1 hf1; obtain ⟨hb1, c10, ⟨c0, c33, c34⟩, hs1⟩ := HB1.out w1 hg1 hf1; clear hg1 hf1) | fail)
        go_ret
        exact ⟨by rw [HE.out]; rfl, hb1⟩
      by_cases g3 : (X i).ol < 0
      · have HE : Hid (chkE X n = 1) := if_neg (fun hh => by have h := hh.2 i hlt; have := h.2.2; omega)
        go_wp2_with (first | (refine wpList_load_mid rfl 65 _ rfl b (off + i * 35) rfl (brl (X i) ka kc) _ HR.out Tryz.underlying65 rfl (szRl _ _ _) ?_) | (refine wpList_allocR rfl rfl ?_) | (refine wpList_storeR _ szR rfl _ _ rfl wr.heap.size rfl (X i) b0 ka none kc 0 65 rfl (heap_alloc_new wr _) ?_; intro w1 hg1 hf1; obtain ⟨hb1, c10, ⟨c0, c33, c34⟩, hs1⟩ := HB1.out w1 hg1 hf1; clear hg1 hf1) | fail)
        go_ret
        exact ⟨by rw [HE.out]; rfl, hb1⟩
      by_cases g4 : 65536 < (X i).ol
      · have HE : Hid (chkE X n = 1) := if_neg (fun hh => by have h := hh.2 i hlt; have := h.2.2; omega)
        go_wp2_with (first | (refine wpList_load_mid rfl 65 _ rfl b (off + i * 35) rfl (brl (X i) ka kc) _ HR.out Tryz.underlying65 rfl (szRl _ _ _) ?_) | (refine wpList_allocR rfl rfl ?_) | (refine wpList_storeR _ szR rfl _ _ rfl wr.heap.size rfl (X i) b0 ka none kc 0 65 rfl (heap_alloc_new wr _) ?_; intro w1 hg1 hf1; obtain ⟨hb1, c10, ⟨c0, c33, c34⟩, hs1⟩ := HB1.out w1 hg1 hf1; clear hg1 hf1) | fail)
        go_ret
        exact ⟨by rw [HE.out]; rfl, hb1⟩
      go_wp2_with (first | (refine wpList_load_mid rfl 65 _ rfl b (off + i * 35) rfl (brl (X i) ka kc) _ HR.out Tryz.underlying65 rfl (szRl _ _ _) ?_) | (refine wpList_allocR rfl rfl ?_) | (refine wpList_storeR _ szR rfl _ _ rfl wr.heap.size rfl (X i) b0 ka none kc 0 65 rfl (heap_alloc_new wr _) ?_; intro w1 hg1 hf1; obtain ⟨hb1, c10, ⟨c0, c33, c34⟩, hs1⟩ := HB1.out w1 hg1 hf1; clear hg1 hf1) | fail)
      have HW : Hid (Below w.heap.size w w1 ∧ w1.cell? ⟨w.heap.size, 0, none⟩ = some (.slice (some ⟨b, off, none⟩) n cap) ∧ w.heap.size < w1.heap.size) := ⟨hb1, c10, hs1⟩
      have hI1 : IsAt w1 ka (X i).n (X i).z := HI.out.below hb1
      have HI1 : Hid (IsAt w1 ka (X i).n (X i).z) := hI1
      have HC0 : Hid (w1.cell? ⟨wr.heap.size, 0, none⟩ = some (.slice ka (X i).n kc)) := c0
      have hl0 : wr.heap.size < w1.heap.size := World.block_lt_of_cell? w1 ⟨wr.heap.size, 0, none⟩ c0
      have HO : Hid (BOk (X i) ↔ KOk (X i).z (X i).n) := ⟨fun h => h.1.1, fun h => ⟨⟨h, by omega⟩, ⟨g1, by omega⟩, ⟨g3, by omega⟩⟩⟩
      clear HB1 hb1 c10 c0 c33 c34 hs1 HR hI1 HI hc0 g1 g2 g3 g4
      have hb2 := Below.refl w1.heap.size w1
      go_loopw [5, 6] (fun lv kv wq => ∃ k : Nat, k ≤ (X i).n ∧ lv = .int .i64 (lastK (X i).z k) ∧ kv = .int .i64 k ∧ KOk (X i).z k ∧ Below w1.heap.size w1 wq) (fun _ kv _ => (X i).n + 1 - (intOf kv).toNat)
      case atStart => exact ⟨0, by omega, rfl, rfl, fun j hj => by omega, hb2⟩
      case round =>
        clear hb2
        rename World => wq
        obtain ⟨k, hk, rfl, rfl, hK, hbq⟩ := hrel
        have HKK : Hid (KOk (X i).z k) := hK
        clear hK
        have cq : wq.cell? ⟨wr.heap.size, 0, none⟩ = some (.slice ka (X i).n kc) := by rw [hbq.cell (p := ⟨wr.heap.size, 0, none⟩) hl0]; exact HC0.out
        by_cases hkl : k < (X i).n
        · have hkl' : (k : Int) < (X i).n := by omega
          obtain ⟨b2, off2, rfl, hc2⟩ := HI1.out (by omega)
          have hck : wq.cell? ⟨b2, off2 + k, none⟩ = some (.int .i64 ((X i).z k)) := by
            have := hc2 k hkl
            rw [hbq.cell (p := ⟨b2, off2 + k, none⟩) (World.block_lt_of_cell? w1 ⟨b2, off2 + k, none⟩ this)]; exact this
          clear hc2
          by_cases p1 : lastK (X i).z k < (X i).z k
          · have p1' : ¬ (X i).z k ≤ lastK (X i).z k := by omega
            by_cases p2 : (X i).z k < 16
            · have p2' : ¬ 15 < (X i).z k := by omega
              have HN : Hid (KOk (X i).z (k + 1)) := fun j hj => by
                by_cases e : j = k
                · subst e; exact ⟨p1, p2⟩
                · exact HKK.out j (by omega)
              have e1 := lastK_succ (X i).z k
              generalize lastK (X i).z k = q at *
              go_wp2
              go_roundw
              case rel => exact ⟨k + 1, by omega, by rw [e1], by go_num, HN.out, hbq⟩
              case measure => simp [intOf]; omega
            · have p2' : 15 < (X i).z k := by omega
              have HE : Hid (chkE X n = 1) := if_neg (fun hh => by have h := (HO.out.1 (hh.2 i hlt)) k hkl; omega)
              generalize lastK (X i).z k = q at *
              go_wp2
              go_ret
              exact ⟨by rw [HE.out]; rfl, HW.out.1.trans (hbq.mono HW.out.1.size)⟩
          · have p1' : (X i).z k ≤ lastK (X i).z k := by omega
            have HE : Hid (chkE X n = 1) := if_neg (fun hh => by have h := (HO.out.1 (hh.2 i hlt)) k hkl; omega)
            generalize lastK (X i).z k = q at *
            go_wp2
            go_ret
            exact ⟨by rw [HE.out]; rfl, HW.out.1.trans (hbq.mono HW.out.1.size)⟩
        · obtain rfl : k = (X i).n := by omega
          have hnn : ¬ (((X i).n : Int) < (X i).n) := by omega
          have HN : Hid (AllOk X (i + 1)) := fun j hj => by
            by_cases e : j = i
            · subst e; exact HO.out.2 HKK.out
            · exact HK.out j (by omega)
          go_wp2
          go_roundw
          case rel => exact ⟨i + 1, by omega, by go_num, HN.out, HW.out.1.trans (hbq.mono HW.out.1.size), by rw [hbq.cell (p := ⟨w.heap.size, 0, none⟩) HW.out.2.2]; exact HW.out.2.1⟩
          case measure => simp [intOf]; omega
    · obtain rfl : i = n := by omega
      have hnn : ¬ ((i : Int) < i) := by omega
      have HE : Hid (chkE X i = 0) := if_pos ⟨by omega, HK.out⟩
      go_wp2
      go_ret
      exact ⟨by rw [HE.out]; rfl, hb⟩
end Go.Proofs.YtbehkajfckadfaaGreatDoor.Cd
