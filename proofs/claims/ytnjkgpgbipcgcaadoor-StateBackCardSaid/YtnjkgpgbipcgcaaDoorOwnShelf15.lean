/- state.Encode. -/
import Derived.Test.YtnjkgpgbipcgcaaDoorOwnShelf14
namespace Go.Proofs.YtnjkgpgbipcgcaaDoor
open Go.RowKit

def z4 (x : Py) : Nat → Int := fun j => if j = 0 then x.id else if j = 1 then x.fr else if j = 2 then x.am else x.af
def z3 (x : Hd) : Nat → Int := fun j => if j = 0 then x.id else if j = 1 then x.am else (x.n : Int)
def z2 (a b : Int) : Nat → Int := fun j => if j = 0 then a else b
/-- A payment as it is laid. -/
def laidP (x : Py) : List Int := laidK (z4 x) 4 ++ hB x.lk
def laidPs (X : Nat → Py) : Nat → List Int
  | 0 => []
  | i + 1 => laidPs X i ++ laidP (X i)
def laidH (x : Hd) : List Int := laidK (z3 x) 3 ++ laidK x.z x.n
def laidHs (X : Nat → Hd) : Nat → List Int
  | 0 => []
  | i + 1 => laidHs X i ++ laidH (X i)
/-- A state as it is laid, up to its holds. -/
def laidA (s : Sv) : List Int := laidK (fun _ => s.nu) 1 ++ (laidK (z2 s.a s.b) 2 ++ laidK (fun _ => (s.pn : Int)) 1)
def laidS (s : Sv) : List Int := (laidA s ++ laidPs s.P s.pn ++ laidK (fun _ => (s.hn : Int)) 1) ++ laidHs s.H s.hn
theorem laidP_len (x : Py) : (laidP x).length ≤ 68 := by
  have := laidK_len (z4 x) 4
  simp only [laidP, List.length_append, hB_length]
  omega
theorem laidPs_len (X : Nat → Py) : ∀ i, (laidPs X i).length ≤ 68 * i
  | 0 => by simp [laidPs]
  | i + 1 => by
    have h1 := laidPs_len X i
    have h2 := laidP_len (X i)
    simp only [laidPs, List.length_append]
    omega
theorem laidH_len (x : Hd) : (laidH x).length ≤ 27 + 9 * x.n := by
  have := laidK_len (z3 x) 3
  have := laidK_len x.z x.n
  simp only [laidH, List.length_append]
  omega
theorem laidHs_len (X : Nat → Hd) : ∀ i, (∀ j, j < i → (X j).n ≤ 300) → (laidHs X i).length ≤ 2727 * i
  | 0, _ => by simp [laidHs]
  | i + 1, h => by
    have h1 := laidHs_len X i (fun j hj => h j (by omega))
    have h2 := laidH_len (X i)
    have h3 := h i (by omega)
    simp only [laidHs, List.length_append]
    omega
theorem laidA_len (s : Sv) : (laidA s).length ≤ 36 := by
  have h1 := laidK_len (fun _ => s.nu) 1
  have h2 := laidK_len (z2 s.a s.b) 2
  have h3 := laidK_len (fun _ => (s.pn : Int)) 1
  simp only [laidA, List.length_append]
  omega
theorem one_is (w : World) (x : Int) : IsAt (w.alloc (.cells #[.int .i64 x] 3)) (some ⟨w.heap.size, 0, none⟩) 1 (fun _ => x) := fun _ => ⟨_, _, rfl, fun j hj => by
  obtain rfl : j = 0 := by omega
  rw [cell_of_row _ _ _ _ _ _ (heap_alloc_new w _)]; rfl⟩
theorem three_is (w : World) (x : Hd) : IsAt (w.alloc (.cells #[.int .i64 x.id, .int .i64 x.am, .int .i64 (x.n : Int)] 3)) (some ⟨w.heap.size, 0, none⟩) 3 (z3 x) := fun _ => ⟨_, _, rfl, fun j hj => by
  rw [cell_of_row _ _ _ _ _ _ (heap_alloc_new w _)]
  match j, hj with
  | 0, _ => rfl
  | 1, _ => rfl
  | 2, _ => rfl⟩
theorem four_is (w : World) (x : Py) : IsAt (w.alloc (.cells #[.int .i64 x.id, .int .i64 x.fr, .int .i64 x.am, .int .i64 x.af] 3)) (some ⟨w.heap.size, 0, none⟩) 4 (z4 x) := fun _ => ⟨_, _, rfl, fun j hj => by
  rw [cell_of_row _ _ _ _ _ _ (heap_alloc_new w _)]
  match j, hj with
  | 0, _ => rfl
  | 1, _ => rfl
  | 2, _ => rfl
  | 3, _ => rfl⟩
theorem al1 (w : World) (o : Obj) : Below w.heap.size w (w.alloc o) := (Below.refl _ w).alloc (Nat.le_refl _) _

set_option maxRecDepth 100000 in
set_option maxHeartbeats 3200000 in
theorem encode_cap (s : Sv) (p : Pl) (w : World) (h : SvAt w s p) (hs : s.Small) :
    Calls Tryd.prog 16 #[.agg (svv s p)] w fun e w' => ∃ ad cap, e = .returned (.slice ad (laidS s).length cap) ∧ (laidS s).length ≤ cap ∧ SlAt w' ad (laidS s).length (fn (laidS s)) ∧ (ad = none → (laidS s).length = 0 ∧ cap = 0) ∧ Below w.heap.size w w' := by
  obtain ⟨nu, a, b, pn, P, hn, H⟩ := s
  obtain ⟨pa, pc, ha, hc⟩ := p
  obtain ⟨py, hd, _, _, _, _⟩ := h
  simp only at py hd
  have hsn : pn + hn ≤ 100 := hs.n
  have HSK : Hid (∀ i, i < hn → (H i).n ≤ 300) := hs.k
  have eg : ∀ args w, (callFunc 37 args).run Tryd.prog w = .ok (.enter 37 args) w := enters_of Tryd.func37 (by kernel_rfl) rfl
  have hb0 := al1 w (.cells #[.int .i64 nu, .int .i64 a, .int .i64 b, .slice pa pn pc, .slice ha hn hc] 28)
  have HPY : Hid (PyAt (w.alloc (.cells #[.int .i64 nu, .int .i64 a, .int .i64 b, .slice pa pn pc, .slice ha hn hc] 28)) pa pn P) := py.below hb0
  have HHD : Hid (HdAt (w.alloc (.cells #[.int .i64 nu, .int .i64 a, .int .i64 b, .slice pa pn pc, .slice ha hn hc] 28)) ha hn H) := hd.below hb0
  have hr0 := heap_alloc_new w (.cells #[.int .i64 nu, .int .i64 a, .int .i64 b, .slice pa pn pc, .slice ha hn hc] 28)
  have HLA : Hid (laidA ⟨nu, a, b, pn, P, hn, H⟩ = laidK (fun _ => nu) 1 ++ (laidK (z2 a b) 2 ++ laidK (fun _ => (pn : Int)) 1)) := rfl
  have HLS : Hid (laidS ⟨nu, a, b, pn, P, hn, H⟩ = (laidA ⟨nu, a, b, pn, P, hn, H⟩ ++ laidPs P pn ++ laidK (fun _ => (hn : Int)) 1) ++ laidHs H hn) := rfl
  have hla := laidA_len ⟨nu, a, b, pn, P, hn, H⟩
  generalize laidA ⟨nu, a, b, pn, P, hn, H⟩ = LA at *
  generalize laidS ⟨nu, a, b, pn, P, hn, H⟩ = LS at *
  clear py hd hs
  unfold svv
  simp only
  go_enter Tryd.func16, Tryd.ntmps16
  go_wp2_with fail
  generalize w.alloc (.cells #[.int .i64 nu, .int .i64 a, .int .i64 b, .slice pa pn pc, .slice ha hn hc] 28) = W0 at *
  have hl0 := lt_of_block hr0
  have HB0 : Hid (Below w.heap.size w W0) := hb0
  have HR0 : Hid (W0.heap[w.heap.size]? = some (.cells #[.int .i64 nu, .int .i64 a, .int .i64 b, .slice pa pn pc, .slice ha hn hc] 28 (0, 0))) := hr0
  have HC : Hid (∀ w', Below W0.heap.size W0 w' → w'.cell? ⟨w.heap.size, 0, none⟩ = some (.int .i64 nu) ∧ w'.cell? ⟨w.heap.size, 3, none⟩ = some (.slice pa pn pc) ∧ w'.cell? ⟨w.heap.size, 4, none⟩ = some (.slice ha hn hc)) := fun w' hb => by
    have := hb.block _ hl0
    rw [hr0] at this
    exact ⟨by rw [cell_of_row _ _ 0 _ _ _ this]; rfl, by rw [cell_of_row _ _ 3 _ _ _ this]; rfl, by rw [cell_of_row _ _ 4 _ _ _ this]; rfl⟩
  clear hb0 hr0
  refine (new_any W0).mono ?_
  rintro e w1 ⟨rfl, hw1⟩
  have hP1 : PutL W0 w1 [] [] := by
    subst hw1
    exact ⟨⟨none, new_wr W0, fun x h => by cases h⟩, al1 _ _⟩
  have hs1 : w1.heap.size = W0.heap.size + 1 := by rw [hw1]; simp
  clear hw1
  have hP2 := hP1.hold (al1 w1 (.cells #[.pointer (some ⟨W0.heap.size, 0, none⟩)] 81)) (heap_alloc_new w1 _)
  have hs2 : (w1.alloc (.cells #[.pointer (some ⟨W0.heap.size, 0, none⟩)] 81)).heap.size = W0.heap.size + 2 := by simp [hs1]
  rw [hs1] at hP2
  have HQ : Hid ((W0.heap.size + 1, Obj.cells #[.pointer (some ⟨W0.heap.size, 0, none⟩)] 81 (0, 0)) ∈ [(W0.heap.size + 1, Obj.cells #[.pointer (some ⟨W0.heap.size, 0, none⟩)] 81 (0, 0))]) := by simp [Hid]
  obtain ⟨c0, c3, c4⟩ := HC.out _ hP2.below
  have HP2 : Hid _ := hP2
  clear hP1 hP2
  go_wp2_with fail
  generalize w1.alloc (.cells #[.pointer (some ⟨W0.heap.size, 0, none⟩)] 81) = w2 at *
  generalize [(W0.heap.size + 1, Obj.cells #[.pointer (some ⟨W0.heap.size, 0, none⟩)] 81 (0, 0))] = KQ at *
  have hcall := lay_new W0 w2 (w2.alloc (.cells #[.int .i64 nu] 3)) (W0.heap.size + 1) [] KQ (W0.heap.size + 2) 1 1 (fun _ => nu) HP2.out HQ.out (al1 _ _) (by simp) (by have := one_is w2 nu; rw [hs2] at this; exact this) (by omega) (by omega)
  refine hcall.mono ?_
  rintro e w3 ⟨rfl, hP3⟩
  rw [List.nil_append] at hP3
  clear hcall HP2 c0 c3 c4 hs1 hs2
  have l1 := laidK_len (fun _ => nu) 1
  have l2 := laidK_len (z2 a b) 2
  have hI2 : IsAt W0 (some ⟨w.heap.size, 1, none⟩) 2 (z2 a b) := fun _ => ⟨_, _, rfl, fun j hj => by
    rw [cell_of_row _ _ _ _ _ _ HR0.out]
    match j, hj with
    | 0, _ => rfl
    | 1, _ => rfl⟩
  obtain ⟨c0, c3, c4⟩ := HC.out _ hP3.below
  have hcall := lay_put W0 w3 (W0.heap.size + 1) _ KQ (some ⟨w.heap.size, 1, none⟩) 2 2 (z2 a b) hP3 HQ.out (by omega) hI2 (by omega)
  clear hP3 hI2
  go_wp2_with fail
  refine hcall.mono ?_
  rintro e w4 ⟨rfl, hP4⟩
  clear hcall c0 c3 c4
  obtain ⟨c0, c3, c4⟩ := HC.out _ hP4.below
  have HP4 : Hid (PutL W0 w4 (laidK (fun _ => nu) 1 ++ laidK (z2 a b) 2) KQ) := hP4
  clear hP4
  go_wp2_with fail
  have hcall := lay_new W0 w4 (w4.alloc (.cells #[.int .i64 (pn : Int)] 3)) (W0.heap.size + 1) _ KQ w4.heap.size 1 1 (fun _ => (pn : Int)) HP4.out HQ.out (al1 _ _) (by simp only [List.length_append]; omega) (one_is w4 (pn : Int)) (Nat.le_refl _) (by omega)
  refine hcall.mono ?_
  rintro e w5 ⟨rfl, hP5⟩
  rw [List.append_assoc, ← HLA.out] at hP5
  clear hcall c0 c3 c4 HP4 HLA l1 l2
  obtain ⟨c0, c3, c4⟩ := HC.out _ hP5.below
  have HP5 : Hid (PutL W0 w5 LA KQ) := hP5
  clear hP5
  go_wp2_with fail
  clear c0 c3 c4
  have h50 : PutL W0 w5 (LA ++ laidPs P 0) KQ := by simpa [laidPs] using HP5.out
  clear HP5
  go_loopw [6, 29] (fun _ iv wr => ∃ i : Nat, i ≤ pn ∧ iv = .int .i64 i ∧ PutL W0 wr (LA ++ laidPs P i) KQ) (fun _ iv _ => pn + 1 - (intOf iv).toNat)
  case atStart => exact ⟨0, by omega, rfl, h50⟩
  case round =>
    clear h50
    obtain ⟨i, hi, rfl, hP⟩ := hrel
    have HP : Hid (PutL W0 wr (LA ++ laidPs P i) KQ) := hP
    clear hP
    have ll := laidPs_len P i
    by_cases hlt : i < pn
    · have hlt' : (i : Int) < pn := by omega
      have HZ : Hid (Zb (P i).lk) := HPY.out.lk i hlt
      obtain ⟨bl0, off, rfl, hc0⟩ := HPY.out.at_ (by omega)
      have HR : Hid (wr.rangeAt bl0 (off + i * 36) (pyl (P i))) := range_below (hc0 i hlt) HP.out.below
      have HE : Hid (LA ++ laidPs P (i + 1) = (LA ++ laidPs P i ++ laidK (z4 (P i)) 4) ++ hB (P i).lk) := by show _ = _; simp [laidPs, laidP]
      clear hc0
      obtain ⟨x, hx⟩ : ∃ x, P i = x := ⟨_, rfl⟩
      rw [hx] at HZ HR HE
      clear hx
      obtain ⟨L, hL⟩ : ∃ L, LA ++ laidPs P i = L := ⟨_, rfl⟩
      have hlL : L.length ≤ 6836 := by rw [← hL]; simp only [List.length_append]; omega
      rw [hL] at HP HE
      clear hL ll
      go_wp2_with (first | (refine wpList_load_mid rfl 44 _ rfl bl0 (off + i * 36) rfl (pyl x) _ HR.out Tryd.underlying44 rfl (szPl _) ?_) | (refine wpList_allocP rfl rfl ?_) | (refine wpList_storeP _ szP rfl _ _ rfl wr.heap.size rfl x p0 44 rfl (heap_alloc_new wr _) ?_; intro w6 hg6 hf6; have HP6 : Hid (PutL W0 w6 L ((wr.heap.size, .cells (pyv x) 44 (0, 0)) :: KQ)) := HP.out.hold (frm_new hf6) hg6; obtain ⟨c0, c1, c2, c3, _⟩ := pbox_of hg6; clear hf6 hg6) | fail)
      have hcall := lay_new W0 w6 (w6.alloc (.cells #[.int .i64 x.id, .int .i64 x.fr, .int .i64 x.am, .int .i64 x.af] 3)) (W0.heap.size + 1) L _ w6.heap.size 4 4 (z4 x) HP6.out (List.mem_cons_of_mem _ HQ.out) (al1 _ _) (by omega) (four_is w6 x) (Nat.le_refl _) (by omega)
      refine hcall.mono ?_
      rintro e w7 ⟨rfl, hP7⟩
      clear hcall HP6 c0 c1 c2 c3
      have HCL : Hid (w7.rangeAt wr.heap.size 4 (bl x.lk 32)) := (pbox_of (hP7.held (List.mem_cons_self))).lk
      have cq : w7.cell? ⟨W0.heap.size + 1, 0, none⟩ = some (.pointer (some ⟨W0.heap.size, 0, none⟩)) := by
        rw [cell_of_row _ _ 0 _ _ _ (hP7.held (List.mem_cons_of_mem _ HQ.out))]; rfl
      have l4 := laidK_len (z4 x) 4
      have hcall := hash_put W0 w7 (L ++ laidK (z4 x) 4) _ x.lk hP7 (by simp only [List.length_append]; omega) HZ.out
      clear hP7
      go_wp2_with (first | (refine wpList_loadHG (by rfl) _ rfl wr.heap.size 4 rfl x.lk HCL.out ?_) | fail)
      refine hcall.mono ?_
      rintro e w8 ⟨rfl, hP8⟩
      have HP8 : Hid (PutL W0 w8 (LA ++ laidPs P (i + 1)) KQ) := by
        show PutL _ _ _ _
        rw [HE.out]
        exact hP8.sub (fun y hy => List.mem_cons_of_mem _ hy)
      clear hcall hP8 cq
      go_wp2
      go_roundw
      case rel => exact ⟨i + 1, by omega, by go_num, HP8.out⟩
      case measure => simp [intOf]; omega
    · obtain rfl : i = pn := by omega
      have hnn : ¬ ((i : Int) < i) := by omega
      obtain ⟨L, hL⟩ : ∃ L, LA ++ laidPs P i = L := ⟨_, rfl⟩
      have hlL : L.length ≤ 6836 := by rw [← hL]; simp only [List.length_append]; omega
      rw [hL] at HP HLS
      clear hL ll
      obtain ⟨c0, c3, c4⟩ := HC.out _ HP.out.below
      generalize wr = wo at *
      go_wp2_with fail
      have hcall := lay_new W0 wo (wo.alloc (.cells #[.int .i64 (hn : Int)] 3)) (W0.heap.size + 1) L KQ wo.heap.size 1 1 (fun _ => (hn : Int)) HP.out HQ.out (al1 _ _) (by omega) (one_is wo (hn : Int)) (Nat.le_refl _) (by omega)
      refine hcall.mono ?_
      rintro e w6 ⟨rfl, hP6⟩
      have l1 := laidK_len (fun _ => (hn : Int)) 1
      obtain ⟨M, hM⟩ : ∃ M, L ++ laidK (fun _ => (hn : Int)) 1 = M := ⟨_, rfl⟩
      have hlM : M.length ≤ 6845 := by rw [← hM]; simp only [List.length_append]; omega
      rw [hM] at hP6 HLS
      clear hcall c0 c3 c4 HP hM l1 hlL
      obtain ⟨c0, c3, c4⟩ := HC.out _ hP6.below
      have HP6 : Hid (PutL W0 w6 M KQ) := hP6
      clear hP6
      go_wp2_with fail
      clear c0 c3 c4
      have h60 : PutL W0 w6 (M ++ laidHs H 0) KQ := by simpa [laidHs] using HP6.out
      clear HP6
      go_loopw [8, 58] (fun _ iv wr => ∃ j : Nat, j ≤ hn ∧ iv = .int .i64 j ∧ PutL W0 wr (M ++ laidHs H j) KQ) (fun _ iv _ => hn + 1 - (intOf iv).toNat)
      case atStart => exact ⟨0, by omega, rfl, h60⟩
      case round =>
        clear h60
        obtain ⟨j, hj, rfl, hP⟩ := hrel
        have HP : Hid (PutL W0 wr (M ++ laidHs H j) KQ) := hP
        clear hP
        have ll := laidHs_len H j (fun i hi => HSK.out i (by omega))
        by_cases hlt : j < hn
        · have hlt' : (j : Int) < hn := by omega
          obtain ⟨bl0, off, rfl, hc0⟩ := HHD.out.at_ (by omega)
          obtain ⟨ka, kc, hr, hI, _⟩ := hc0 j hlt
          obtain ⟨d0, d1, d2⟩ := hd_cells (range_below hr HP.out.below)
          have HI : Hid (IsAt W0 ka (H j).n (H j).z) := hI
          have hxk := HSK.out j hlt
          have HE : Hid (M ++ laidHs H (j + 1) = (M ++ laidHs H j ++ laidK (z3 (H j)) 3) ++ laidK (H j).z (H j).n) := by show _ = _; simp [laidHs, laidH]
          clear hc0 hr hI
          obtain ⟨x, hx⟩ : ∃ x, H j = x := ⟨_, rfl⟩
          rw [hx] at HI HE d0 d1 d2 hxk
          clear hx
          obtain ⟨L, hL⟩ : ∃ L, M ++ laidHs H j = L := ⟨_, rfl⟩
          have hlL : L.length ≤ 279545 := by rw [← hL]; simp only [List.length_append]; omega
          rw [hL] at HP HE
          clear hL ll
          have hb7 := al1 wr (.cells #[.int .i64 x.id, .int .i64 x.am, .slice ka x.n kc] 48)
          have hP7 := HP.out.hold hb7 (heap_alloc_new wr _)
          have HP7 : Hid _ := hP7
          clear hb7 hP7
          go_wp2_with fail
          have hsz7 : (wr.alloc (.cells #[.int .i64 x.id, .int .i64 x.am, .slice ka x.n kc] 48)).heap.size = wr.heap.size + 1 := by simp
          generalize wr.alloc (.cells #[.int .i64 x.id, .int .i64 x.am, .slice ka x.n kc] 48) = w7 at *
          have h3 := three_is w7 x
          rw [hsz7] at h3
          have hcall := lay_new W0 w7 (w7.alloc (.cells #[.int .i64 x.id, .int .i64 x.am, .int .i64 (x.n : Int)] 3)) (W0.heap.size + 1) L _ (wr.heap.size + 1) 3 3 (z3 x) HP7.out (List.mem_cons_of_mem _ HQ.out) (al1 _ _) (by omega) h3 (by omega) (by omega)
          refine hcall.mono ?_
          rintro e w8 ⟨rfl, hP8⟩
          clear hcall HP7 d0 d1 d2 h3 hsz7
          have d2 : w8.cell? ⟨wr.heap.size, 2, none⟩ = some (.slice ka x.n kc) := by rw [cell_of_row _ _ 2 _ _ _ (hP8.held List.mem_cons_self)]; rfl
          have l3 := laidK_len (z3 x) 3
          have hcall := lay_put W0 w8 (W0.heap.size + 1) (L ++ laidK (z3 x) 3) _ ka x.n kc x.z hP8 (List.mem_cons_of_mem _ HQ.out) (by simp only [List.length_append]; omega) HI.out (by omega)
          clear hP8
          go_wp2_with fail
          refine hcall.mono ?_
          rintro e w9 ⟨rfl, hP9⟩
          have HP9 : Hid (PutL W0 w9 (M ++ laidHs H (j + 1)) KQ) := by
            show PutL _ _ _ _
            rw [HE.out]
            exact hP9.sub (fun y hy => List.mem_cons_of_mem _ hy)
          clear hcall hP9 d2
          go_wp2
          go_roundw
          case rel => exact ⟨j + 1, by omega, by go_num, HP9.out⟩
          case measure => simp [intOf]; omega
        · obtain rfl : j = hn := by omega
          have hnn : ¬ ((j : Int) < j) := by omega
          have hll : (M ++ laidHs H j).length ≤ 279545 := by simp only [List.length_append]; omega
          rw [← HLS.out] at HP hll
          have cq : wr.cell? ⟨W0.heap.size + 1, 0, none⟩ = some (.pointer (some ⟨W0.heap.size, 0, none⟩)) := by
            rw [cell_of_row _ _ 0 _ _ _ (HP.out.held HQ.out)]; rfl
          obtain ⟨g, hg, _⟩ := HP.out.at_
          have hcall := wrDone_any W0.heap.size W0.heap.size g LS wr hg (by omega)
          clear hg
          go_wp2_with fail
          refine hcall.mono ?_
          rintro e w6 ⟨ad, cap, rfl, hcp, hS, hnil, _, hb⟩
          clear hcall cq
          go_wp2
          go_ret
          refine ⟨ad, cap, rfl, hcp, hS, hnil, ?_⟩
          have hb1 := HB0.out.trans (HP.out.below.mono HB0.out.size)
          exact hb1.trans (hb.mono hb1.size)
theorem encode_any (s : Sv) (p : Pl) (w : World) (h : SvAt w s p) (hs : s.Small) :
    Calls Tryd.prog 16 #[.agg (svv s p)] w fun e w' => ∃ ad cap, e = .returned (.slice ad (laidS s).length cap) ∧ SlAt w' ad (laidS s).length (fn (laidS s)) ∧ (ad = none → (laidS s).length = 0 ∧ cap = 0) ∧ Below w.heap.size w w' :=
  (encode_cap s p w h hs).mono fun _ _ ⟨ad, cap, h1, _, h3, h4, h5⟩ => ⟨ad, cap, h1, h3, h4, h5⟩
/-- A state's bytes are not too many. -/
theorem laidS_len (s : Sv) (hs : s.Small) : (laidS s).length ≤ 279545 := by
  have h1 := laidA_len s
  have h2 := laidPs_len s.P s.pn
  have h3 := laidHs_len s.H s.hn hs.k
  have h4 := laidK_len (fun _ => (s.hn : Int)) 1
  have h5 := hs.n
  simp only [laidS, List.length_append]
  omega
end Go.Proofs.YtnjkgpgbipcgcaaDoor
