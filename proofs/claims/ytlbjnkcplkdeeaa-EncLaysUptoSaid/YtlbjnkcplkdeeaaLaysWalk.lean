/- EncLays: the walk. -/
import Derived.Test.YtlbjnkcplkdeeaaRefLaid3
import Derived.Test.YtlbjnkcplkdeeaaBackKit
import Derived.Deep.RegionHeld3
import Derived.Deep.RegionWith
import Derived.Deep.DrawnRows
namespace Go.Proofs.Ytlbjnkcplkdeeaa
open Go.RowKit

attribute [local go_sem ↓] Go.wp_at_zero Go.wp_at_succ

/-- At each round: the program's writer and the document's bytes have laid the same. -/
structure LyS (W wr : World) (ad : Option Addr) (cap : Nat) (l : List Int) : Prop where
  own : ∃ g, WrAt wr W.heap.size W.heap.size g l ∧ ∀ a, ad = some a → a.block ≠ W.heap.size ∧ some a.block ≠ g
  below : Below W.heap.size W wr
  sl : SlAt wr ad l.length (fn l)
  nil : ad = none → l.length = 0 ∧ cap = 0
theorem LyS.begin (W : World) : LyS W (W.alloc (.cells #[.slice none 0 0] 49)) none 0 [] :=
  ⟨⟨none, new_wr W, fun _ h => by cases h⟩, (Below.refl _ W).alloc (Nat.le_refl _) _, SlAt.zero _ _, fun _ => ⟨rfl, rfl⟩⟩
theorem LyS.next {W wr w1 w2 w3 : World} {g : Option Nat} {l l' : List Int} {ad' : Option Addr} {cap' : Nat} (hw : WrAt wr W.heap.size W.heap.size g l) (hb : Below W.heap.size W wr) (hG : WrGrown wr w1 W.heap.size W.heap.size g l')
    (hO : Ow w1 w2 (.slice ad' l'.length cap') l') (h3 : Below w2.heap.size w2 w3) : LyS W w3 ad' cap' l' := by
  have hb1 := hb.trans (hG.below hw)
  obtain ⟨g', ha, hF, _⟩ := hG
  obtain ⟨_, f2, f3, f4, f5⟩ := hO.fresh
  have hlt := ha.lt
  have hb2 : Below W.heap.size W w2 := hb1.trans (f5.mono hb1.size)
  refine ⟨⟨g', (ha.frm (S := []) (Frm.ofBelow f5) (by simp) (fun _ _ => by simp)).frm (S := []) (Frm.ofBelow h3) (by simp) (fun _ _ => by simp), fun a e => ?_⟩, hb2.trans (h3.mono hb2.size), f2.below h3, f3⟩
  have h1 := f4 a e
  refine ⟨by omega, fun h => ?_⟩
  have := (hlt.2.2 _ h.symm).1
  omega
theorem LyS.slAt {W wr w1 : World} {g : Option Nat} {ad : Option Addr} {n : Nat} {l' : List Int} {z : Nat → Int} (hs : SlAt wr ad n z) (ha : ∀ a, ad = some a → a.block ≠ W.heap.size ∧ some a.block ≠ g) (hG : WrGrown wr w1 W.heap.size W.heap.size g l') : SlAt w1 ad n z := by
  obtain ⟨g', _, hF, _⟩ := hG
  refine hs.frm hF (fun b off _ e => ?_)
  have := ha _ e
  simp at this ⊢
  exact ⟨this.1, fun h => this.2 h.symm⟩
set_option maxHeartbeats 400000 in
theorem nilWDone (w : World) : Calls Try.prog 9 #[.pointer none] w fun e w' => e = .returned (.slice none 0 0) ∧ w' = w := by
  go_enter Try.func9, Try.ntmps9
  go_wp2
  go_ret
  exact ⟨rfl, rfl⟩

theorem lays_conv {wr w' : World} {ba : Option Addr} {bc : Nat} {L : List Int} (hs : SlAt wr ba L.length (fn L)) (hn : ba = none → L.length = 0 ∧ bc = 0) (hb : Below wr.heap.size wr w') :
    Below wr.heap.size wr w' ∧ (convert 25 9 (.slice ba L.length bc)).run Try.prog w' = .ok (.string (strB (fn L) L.length)) w' := ⟨hb, conv_any ba _ bc _ w' (hs.below hb) hn⟩

set_option maxRecDepth 100000 in
set_option maxHeartbeats 6400000 in
theorem lays_any (ad : Option Addr) (len cap : Nat) (X : Nat → Th) (W : World) (hT : ThAt W ad len X) (hX : ∀ i, i < len → (X i).len ≤ 1048576) (hlen : len ≤ 1048576) :
    Calls Try.prog 3 #[.slice ad len cap] W fun e w' => e = .returned (.bool true) ∧ Below W.heap.size W w' := by
  have HT : Hid (ThAt W ad len X) := hT
  have HX : Hid (∀ i, i < len → (X i).len ≤ 1048576) := hX
  clear hT hX
  go_enter Try.func3, Try.ntmps3
  go_wp2_with fail
  refine (new_any W).mono ?_
  rintro e w0 ⟨rfl, rfl⟩
  have h0 : LyS W (W.alloc (.cells #[.slice none 0 0] 49)) none 0 (laidL X 0) := LyS.begin W
  go_wp2_with fail
  generalize (W.alloc (.cells #[.slice none 0 0] 49)) = W0 at *
  go_loopw [4, 5, 6] (fun pv bv iv wr => ∃ (q : Nat) (ba : Option Addr) (bc : Nat), q ≤ len ∧ q ≤ 200 ∧ pv = .pointer (some ⟨W.heap.size, 0, none⟩) ∧ bv = .slice ba (laidL X q).length bc ∧ iv = .int .i64 q ∧ LyS W wr ba bc (laidL X q)) (fun _ _ iv _ => 201 - (intOf iv).toNat)
  case atStart => exact ⟨0, none, 0, by omega, by omega, rfl, rfl, rfl, h0⟩
  case round =>
    clear h0
    obtain ⟨q, ba, bc, hq1, hq2, rfl, rfl, rfl, hL⟩ := hrel
    have hll := laidL_len X q (fun i hi => HX.out i (by omega))
    obtain ⟨⟨g, hW, hap⟩, hb, hsl, hnl⟩ := hL
    have HW : Hid (WrAt wr W.heap.size W.heap.size g (laidL X q)) := hW
    have HSL : Hid (SlAt wr ba (laidL X q).length (fn (laidL X q))) := hsl
    have HAP : Hid (∀ a, ba = some a → a.block ≠ W.heap.size ∧ some a.block ≠ g) := hap
    clear hW hsl hap
    by_cases hlt : q < 200 ∧ q < len
    · obtain ⟨hk1, hk2⟩ := hlt
      have hk200 : (q : Int) < 200 := by omega
      obtain ⟨b, off, rfl, hcl⟩ := HT.out.at_ (by omega)
      have HRW : Hid (W.rangeAt b (off + q * 35) (X q).l) := hcl q hk2
      have HR : Hid (wr.rangeAt b (off + q * 35) (X q).l) := range_below (hcl q hk2) hb
      have hxl := HX.out q hk2
      clear hcl
      go_wp2_with (first | (refine wpList_load_mid rfl 30 _ rfl b (off + q * 35) rfl (X q).l _ HR.out Try.underlying30 rfl (tszv _) ?_) | fail)
      refine (lay_any W.heap.size W.heap.size g (laidL X q) (X q) wr HW.out (by omega) ((HT.out.ok q hk2).below hb) ((HT.out.ok q hk2).apart HW.out)).mono ?_
      rintro e w1 ⟨rfl, hG⟩
      have hb1 : Below W.heap.size W w1 := hb.trans (hG.below HW.out)
      have HR1 : Hid (w1.rangeAt b (off + q * 35) (X q).l) := range_below HRW.out hb1
      have HG : Hid (WrGrown wr w1 W.heap.size W.heap.size g (laidL X (q + 1))) := hG
      clear hG HR
      go_wp2_with (first | (refine wpList_load_mid rfl 30 _ rfl b (off + q * 35) rfl (X q).l _ HR1.out Try.underlying30 rfl (tszv _) ?_) | fail)
      refine (laid_any ba (laidL X q) bc (X q) w1 (LyS.slAt HSL.out HAP.out HG.out) hnl (by omega) ((HT.out.ok q hk2).below hb1)).mono ?_
      rintro e w2 ⟨v, rfl, hO⟩
      have HR2 : Hid (w2.rangeAt b (off + q * 35) (X q).l) := range_below HRW.out (hb1.trans (hO.below.mono hb1.size))
      have HO : Hid (Ow w1 w2 v (laidL X (q + 1))) := hO
      obtain ⟨ad', cap', hv⟩ := hO.form
      subst hv
      clear hO HR1
      go_wp2_with (first | (refine wpList_load_mid rfl 30 _ rfl b (off + q * 35) rfl (X q).l _ HR2.out Try.underlying30 rfl (tszv _) ?_) | fail)
      refine (layNil_any (X q) _).mono ?_
      rintro e w3 ⟨rfl, hb3⟩
      have hN : LyS W w3 ad' cap' (laidL X (q + 1)) := LyS.next HW.out hb HG.out HO.out hb3
      clear hb3 HR2
      go_wp2
      go_roundw
      case rel => exact ⟨q + 1, ad', cap', by omega, by omega, rfl, by simp [laidL], by go_num, hN⟩
      case measure => simp [intOf]; omega
    · by_cases h1 : q < len
      · have hn200 : (200 : Int) ≤ q := by omega
        have hnlen : (q : Int) < len := by omega
        clear hlt
        clear HAP
        generalize hLL : laidL X q = L at *
        clear hLL
        have hSd := lays_conv HSL.out hnl (Below.refl wr.heap.size wr).drew
        go_wp2_with fail
        refine wp_region_noPanic ?_
        refine wp_region_held_drew (S := fun w' => Below wr.heap.size wr w' ∧ (convert 25 9 (.slice ba L.length bc)).run Try.prog w' = .ok (.string (strB (fn L) L.length)) w') (by kernel_rfl) hSd (fun hHeld => ?_)
        refine wpAnyH_take (i := 0) (oi := { dst := some 37, op := Go.Op.move (Go.Operand.tmp 4), type := 23, pos := "law.go:74", after := #[], guard := none }) (v := ?_) rfl (by kernel_rfl) (by kernel_rfl) (by kernel_rfl) (fun _ _ _ h => h) (Or.inl ⟨by rfl, ?_⟩) (by assumption) ?_
        rotate_left
        · intro wz hSw; (try dsimp only at hSw); go_simp; (try with_reducible rfl)
        try simp only [Act.put, List.setIfInBounds_toArray, List.set_cons_zero, List.set_cons_succ]
        refine wpAnyH_take (i := 3) (oi := { dst := some 40, op := Go.Op.move (Go.Operand.tmp 5), type := 25, pos := "law.go:74", after := #[], guard := none }) (v := ?_) rfl (by kernel_rfl) (by kernel_rfl) (by kernel_rfl) (fun _ _ _ h => h) (Or.inl ⟨by rfl, ?_⟩) (by assumption) ?_
        rotate_left
        · intro wz hSw; (try dsimp only at hSw); go_simp; (try with_reducible rfl)
        try simp only [Act.put, List.setIfInBounds_toArray, List.set_cons_zero, List.set_cons_succ]
        refine wpAnyH_take (i := 4) (oi := { dst := some 41, op := Go.Op.convert 25 9 (Go.Operand.tmp 40), type := 9, pos := "law.go:74", after := #[{ on := 3, ground := Go.Ground.data }], guard := none }) (v := ?_) rfl (by kernel_rfl) (by kernel_rfl) (by kernel_rfl) (fun _ _ _ h => h) (Or.inl ⟨by rfl, ?_⟩) (by assumption) ?_
        rotate_left
        · intro wz hSw; (try dsimp only at hSw); go_simp; (try with_reducible rfl)
        try simp only [Act.put, List.setIfInBounds_toArray, List.set_cons_zero, List.set_cons_succ]
        refine wpAnyH_ready (rs := [1]) (by kernel_rfl) (by simp) ?_
        refine (AllReadyH.cons (o := { dst := some 38, op := Go.Op.call { callee := Go.Callee.value (Go.Operand.func 9), args := #[Go.Operand.tmp 37], argTypes := #[23] }, type := 25, pos := "law.go:74", after := #[{ on := 0, ground := Go.Ground.data }], guard := none }) rfl (fun K hK => ?_) AllReadyH.nil)
        go_simp
        refine (wrDone_any W.heap.size W.heap.size g L _ (HW.out.frm (S := []) (Frm.refl [] wr).drew (by simp) (fun _ _ => by simp)) (by omega)).mono ?_
        rintro e w1 ⟨ad1, cap1, rfl, k1, k2, k3, k4, hb1⟩
        have hcv := conv_any ad1 _ cap1 _ w1 k2 k3
        have hS1 := lays_conv HSL.out hnl (Below.transS (Below.refl wr.heap.size wr).drew hb1)
        clear k1 k2 k3 k4
        refine hK.out _ _ hS1 (fun _ => ?_)
        clear hK K
        try simp only [Act.put, List.setIfInBounds_toArray, List.set_cons_zero, List.set_cons_succ]
        refine wpAnyH_ready (rs := [2]) (by kernel_rfl) (by simp) ?_
        refine (AllReadyH.cons (o := { dst := some 39, op := Go.Op.convert 25 9 (Go.Operand.tmp 38), type := 9, pos := "law.go:74", after := #[{ on := 1, ground := Go.Ground.data }], guard := none }) rfl (fun K hK => ?_) AllReadyH.nil)
        go_simp
        refine hK.out _ _ hS1 (fun _ => ?_)
        clear hK K
        try simp only [Act.put, List.setIfInBounds_toArray, List.set_cons_zero, List.set_cons_succ]
        refine wpAnyH_take (i := 5) (oi := { dst := some 42, op := Go.Op.binOp Go.BinOp.eql 9 (Go.Operand.tmp 39) (Go.Operand.tmp 41) 9, type := 4, pos := "law.go:74", after := #[{ on := 2, ground := Go.Ground.data }, { on := 4, ground := Go.Ground.data }], guard := none }) (v := ?_) rfl (by kernel_rfl) (by kernel_rfl) (by kernel_rfl) (fun _ _ _ h => h) (Or.inl ⟨by rfl, ?_⟩) (by assumption) ?_
        rotate_left
        · intro wz hSw; (try dsimp only at hSw); go_simp; (try with_reducible rfl)
        try simp only [Act.put, List.setIfInBounds_toArray, List.set_cons_zero, List.set_cons_succ]
        refine wpAnyH_take (i := 6) (oi := { dst := some 43, op := Go.Op.move (Go.Operand.tmp 42), type := 4, pos := "law.go:74", after := #[{ on := 5, ground := Go.Ground.data }, { on := 1, ground := Go.Ground.chain }], guard := none }) (v := ?_) rfl (by kernel_rfl) (by kernel_rfl) (by kernel_rfl) (fun _ _ _ h => h) (Or.inl ⟨by rfl, ?_⟩) (by assumption) ?_
        rotate_left
        · intro wz hSw; (try dsimp only at hSw); go_simp; (try with_reducible rfl)
        try simp only [Act.put, List.setIfInBounds_toArray, List.set_cons_zero, List.set_cons_succ]
        refine wpAnyH_take (i := 7) (oi := { dst := some 44, op := Go.Op.move (Go.Operand.tmp 3), type := 23, pos := "law.go:74", after := #[{ on := 6, ground := Go.Ground.guard }], guard := some (6, true) }) (v := ?_) rfl (by kernel_rfl) (by kernel_rfl) (by kernel_rfl) (fun _ _ _ h => h) (Or.inl ⟨by rfl, ?_⟩) (by assumption) ?_
        rotate_left
        · intro wz hSw; (try dsimp only at hSw); go_simp; (try with_reducible rfl)
        try simp only [Act.put, List.setIfInBounds_toArray, List.set_cons_zero, List.set_cons_succ]
        refine wpAnyH_ready (rs := [8]) (by kernel_rfl) (by simp) ?_
        refine (AllReadyH.cons (o := { dst := some 45, op := Go.Op.call { callee := Go.Callee.value (Go.Operand.func 9), args := #[Go.Operand.tmp 44], argTypes := #[23] }, type := 25, pos := "law.go:74", after := #[{ on := 7, ground := Go.Ground.data }, { on := 6, ground := Go.Ground.chain }, { on := 6, ground := Go.Ground.guard }], guard := some (6, true) }) rfl (fun K hK => ?_) AllReadyH.nil)
        go_simp
        refine (nilWDone _).mono ?_
        rintro e v1 ⟨rfl, rfl⟩
        refine hK.out _ _ hS1 (fun _ => ?_)
        clear hK K
        try simp only [Act.put, List.setIfInBounds_toArray, List.set_cons_zero, List.set_cons_succ]
        refine wpAnyH_take (i := 9) (oi := { dst := some 46, op := Go.Op.call { callee := Go.Callee.builtin Go.Builtin.len, args := #[Go.Operand.tmp 45], argTypes := #[25] }, type := 3, pos := "law.go:74", after := #[{ on := 8, ground := Go.Ground.data }, { on := 6, ground := Go.Ground.guard }], guard := some (6, true) }) (v := ?_) rfl (by kernel_rfl) (by kernel_rfl) (by kernel_rfl) (fun _ _ _ h => h) (Or.inl ⟨by rfl, ?_⟩) (by assumption) ?_
        rotate_left
        · intro wz hSw; (try dsimp only at hSw); go_simp; (try with_reducible rfl)
        try simp only [Act.put, List.setIfInBounds_toArray, List.set_cons_zero, List.set_cons_succ]
        refine wpAnyH_take (i := 10) (oi := { dst := some 47, op := Go.Op.binOp Go.BinOp.eql 3 (Go.Operand.tmp 46) (Go.Operand.const (Go.Value.int Go.IntKind.i64 0)) 3, type := 4, pos := "law.go:74", after := #[{ on := 9, ground := Go.Ground.data }, { on := 6, ground := Go.Ground.guard }], guard := some (6, true) }) (v := ?_) rfl (by kernel_rfl) (by kernel_rfl) (by kernel_rfl) (fun _ _ _ h => h) (Or.inl ⟨by rfl, ?_⟩) (by assumption) ?_
        rotate_left
        · intro wz hSw; (try dsimp only at hSw); go_simp; (try with_reducible rfl)
        try simp only [Act.put, List.setIfInBounds_toArray, List.set_cons_zero, List.set_cons_succ]
        refine wpAnyH_take (i := 11) (oi := { dst := some 48, op := Go.Op.pick (Go.Operand.tmp 43) (Go.Operand.tmp 47) (Go.Operand.const (Go.Value.bool false)), type := 4, pos := "law.go:74", after := #[{ on := 6, ground := Go.Ground.data }, { on := 10, ground := Go.Ground.data }], guard := none }) (v := ?_) rfl (by kernel_rfl) (by kernel_rfl) (by kernel_rfl) (fun _ _ _ h => h) (Or.inl ⟨by rfl, ?_⟩) (by assumption) ?_
        rotate_left
        · intro wz hSw; (try dsimp only at hSw); go_simp; (try with_reducible rfl)
        try simp only [Act.put, List.setIfInBounds_toArray, List.set_cons_zero, List.set_cons_succ]
        refine wpAnyH_take (i := 12) (oi := { dst := some 49, op := Go.Op.move (Go.Operand.tmp 48), type := 4, pos := "law.go:74", after := #[{ on := 11, ground := Go.Ground.data }, { on := 8, ground := Go.Ground.chain }], guard := none }) (v := ?_) rfl (by kernel_rfl) (by kernel_rfl) (by kernel_rfl) (fun _ _ _ h => h) (Or.inl ⟨by rfl, ?_⟩) (by assumption) ?_
        rotate_left
        · intro wz hSw; (try dsimp only at hSw); go_simp; (try with_reducible rfl)
        try simp only [Act.put, List.setIfInBounds_toArray, List.set_cons_zero, List.set_cons_succ]
        refine wpAnyH_ready (rs := [13]) (by kernel_rfl) (by simp) ?_
        refine (AllReadyH.cons (o := { dst := some 50, op := Go.Op.call { callee := Go.Callee.value (Go.Operand.func 10), args := #[], argTypes := #[] }, type := 4, pos := "law.go:74", after := #[{ on := 12, ground := Go.Ground.chain }, { on := 12, ground := Go.Ground.guard }], guard := some (12, true) }) rfl (fun K hK => ?_) AllReadyH.nil)
        go_simp
        refine (sure_any _).mono ?_
        rintro e v3 ⟨rfl, hb3⟩
        have hS3 := lays_conv HSL.out hnl (Below.transS hS1.1 hb3)
        refine hK.out _ _ hS3 (fun _ => ?_)
        clear hK K
        try simp only [Act.put, List.setIfInBounds_toArray, List.set_cons_zero, List.set_cons_succ]
        refine wpAnyH_take (i := 14) (oi := { dst := some 51, op := Go.Op.pick (Go.Operand.tmp 49) (Go.Operand.tmp 50) (Go.Operand.const (Go.Value.bool false)), type := 4, pos := "law.go:74", after := #[{ on := 12, ground := Go.Ground.data }, { on := 13, ground := Go.Ground.data }], guard := none }) (v := ?_) rfl (by kernel_rfl) (by kernel_rfl) (by kernel_rfl) (fun _ _ _ h => h) (Or.inl ⟨by rfl, ?_⟩) (by assumption) ?_
        rotate_left
        · intro wz hSw; (try dsimp only at hSw); go_simp; (try with_reducible rfl)
        try simp only [Act.put, List.setIfInBounds_toArray, List.set_cons_zero, List.set_cons_succ]
        refine wpAnyH_take (i := 15) (oi := { dst := some 2, op := Go.Op.assign (Go.Operand.tmp 51), type := 4, pos := "law.go:74", after := #[{ on := 14, ground := Go.Ground.data }, { on := 13, ground := Go.Ground.chain }, { on := 0, ground := Go.Ground.phase }, { on := 1, ground := Go.Ground.phase }, { on := 2, ground := Go.Ground.phase }, { on := 3, ground := Go.Ground.phase }, { on := 4, ground := Go.Ground.phase }, { on := 5, ground := Go.Ground.phase }, { on := 6, ground := Go.Ground.phase }, { on := 7, ground := Go.Ground.phase }, { on := 8, ground := Go.Ground.phase }, { on := 9, ground := Go.Ground.phase }, { on := 10, ground := Go.Ground.phase }, { on := 11, ground := Go.Ground.phase }, { on := 12, ground := Go.Ground.phase }, { on := 13, ground := Go.Ground.phase }, { on := 14, ground := Go.Ground.phase }], guard := none }) (v := ?_) rfl (by kernel_rfl) (by kernel_rfl) (by kernel_rfl) (fun _ _ _ h => h) (Or.inl ⟨by rfl, ?_⟩) (by assumption) ?_
        rotate_left
        · intro wz hSw; (try dsimp only at hSw); go_simp; (try with_reducible rfl)
        try simp only [Act.put, List.setIfInBounds_toArray, List.set_cons_zero, List.set_cons_succ]
        refine wpAnyH_done (by kernel_rfl) (NoPanic.normal ?_) _
        try simp only [Act.put, List.setIfInBounds_toArray, List.set_cons_zero, List.set_cons_succ]
        go_wp2
        go_ret
        exact ⟨rfl, hb.trans (hS3.1.mono hb.size)⟩
      · obtain rfl : q = len := by omega
        clear hlt
        clear HAP
        generalize hLL : laidL X q = L at *
        clear hLL
        have hSd := lays_conv HSL.out hnl (Below.refl wr.heap.size wr).drew
        go_wp2_with fail
        refine wp_region_noPanic ?_
        refine wp_region_held_drew (S := fun w' => Below wr.heap.size wr w' ∧ (convert 25 9 (.slice ba L.length bc)).run Try.prog w' = .ok (.string (strB (fn L) L.length)) w') (by kernel_rfl) hSd (fun hHeld => ?_)
        refine wpAnyH_take (i := 0) (oi := { dst := some 37, op := Go.Op.move (Go.Operand.tmp 4), type := 23, pos := "law.go:74", after := #[], guard := none }) (v := ?_) rfl (by kernel_rfl) (by kernel_rfl) (by kernel_rfl) (fun _ _ _ h => h) (Or.inl ⟨by rfl, ?_⟩) (by assumption) ?_
        rotate_left
        · intro wz hSw; (try dsimp only at hSw); go_simp; (try with_reducible rfl)
        try simp only [Act.put, List.setIfInBounds_toArray, List.set_cons_zero, List.set_cons_succ]
        refine wpAnyH_take (i := 3) (oi := { dst := some 40, op := Go.Op.move (Go.Operand.tmp 5), type := 25, pos := "law.go:74", after := #[], guard := none }) (v := ?_) rfl (by kernel_rfl) (by kernel_rfl) (by kernel_rfl) (fun _ _ _ h => h) (Or.inl ⟨by rfl, ?_⟩) (by assumption) ?_
        rotate_left
        · intro wz hSw; (try dsimp only at hSw); go_simp; (try with_reducible rfl)
        try simp only [Act.put, List.setIfInBounds_toArray, List.set_cons_zero, List.set_cons_succ]
        refine wpAnyH_take (i := 4) (oi := { dst := some 41, op := Go.Op.convert 25 9 (Go.Operand.tmp 40), type := 9, pos := "law.go:74", after := #[{ on := 3, ground := Go.Ground.data }], guard := none }) (v := ?_) rfl (by kernel_rfl) (by kernel_rfl) (by kernel_rfl) (fun _ _ _ h => h) (Or.inl ⟨by rfl, ?_⟩) (by assumption) ?_
        rotate_left
        · intro wz hSw; (try dsimp only at hSw); go_simp; (try with_reducible rfl)
        try simp only [Act.put, List.setIfInBounds_toArray, List.set_cons_zero, List.set_cons_succ]
        refine wpAnyH_ready (rs := [1]) (by kernel_rfl) (by simp) ?_
        refine (AllReadyH.cons (o := { dst := some 38, op := Go.Op.call { callee := Go.Callee.value (Go.Operand.func 9), args := #[Go.Operand.tmp 37], argTypes := #[23] }, type := 25, pos := "law.go:74", after := #[{ on := 0, ground := Go.Ground.data }], guard := none }) rfl (fun K hK => ?_) AllReadyH.nil)
        go_simp
        refine (wrDone_any W.heap.size W.heap.size g L _ (HW.out.frm (S := []) (Frm.refl [] wr).drew (by simp) (fun _ _ => by simp)) (by omega)).mono ?_
        rintro e w1 ⟨ad1, cap1, rfl, k1, k2, k3, k4, hb1⟩
        have hcv := conv_any ad1 _ cap1 _ w1 k2 k3
        have hS1 := lays_conv HSL.out hnl (Below.transS (Below.refl wr.heap.size wr).drew hb1)
        clear k1 k2 k3 k4
        refine hK.out _ _ hS1 (fun _ => ?_)
        clear hK K
        try simp only [Act.put, List.setIfInBounds_toArray, List.set_cons_zero, List.set_cons_succ]
        refine wpAnyH_ready (rs := [2]) (by kernel_rfl) (by simp) ?_
        refine (AllReadyH.cons (o := { dst := some 39, op := Go.Op.convert 25 9 (Go.Operand.tmp 38), type := 9, pos := "law.go:74", after := #[{ on := 1, ground := Go.Ground.data }], guard := none }) rfl (fun K hK => ?_) AllReadyH.nil)
        go_simp
        refine hK.out _ _ hS1 (fun _ => ?_)
        clear hK K
        try simp only [Act.put, List.setIfInBounds_toArray, List.set_cons_zero, List.set_cons_succ]
        refine wpAnyH_take (i := 5) (oi := { dst := some 42, op := Go.Op.binOp Go.BinOp.eql 9 (Go.Operand.tmp 39) (Go.Operand.tmp 41) 9, type := 4, pos := "law.go:74", after := #[{ on := 2, ground := Go.Ground.data }, { on := 4, ground := Go.Ground.data }], guard := none }) (v := ?_) rfl (by kernel_rfl) (by kernel_rfl) (by kernel_rfl) (fun _ _ _ h => h) (Or.inl ⟨by rfl, ?_⟩) (by assumption) ?_
        rotate_left
        · intro wz hSw; (try dsimp only at hSw); go_simp; (try with_reducible rfl)
        try simp only [Act.put, List.setIfInBounds_toArray, List.set_cons_zero, List.set_cons_succ]
        refine wpAnyH_take (i := 6) (oi := { dst := some 43, op := Go.Op.move (Go.Operand.tmp 42), type := 4, pos := "law.go:74", after := #[{ on := 5, ground := Go.Ground.data }, { on := 1, ground := Go.Ground.chain }], guard := none }) (v := ?_) rfl (by kernel_rfl) (by kernel_rfl) (by kernel_rfl) (fun _ _ _ h => h) (Or.inl ⟨by rfl, ?_⟩) (by assumption) ?_
        rotate_left
        · intro wz hSw; (try dsimp only at hSw); go_simp; (try with_reducible rfl)
        try simp only [Act.put, List.setIfInBounds_toArray, List.set_cons_zero, List.set_cons_succ]
        refine wpAnyH_take (i := 7) (oi := { dst := some 44, op := Go.Op.move (Go.Operand.tmp 3), type := 23, pos := "law.go:74", after := #[{ on := 6, ground := Go.Ground.guard }], guard := some (6, true) }) (v := ?_) rfl (by kernel_rfl) (by kernel_rfl) (by kernel_rfl) (fun _ _ _ h => h) (Or.inl ⟨by rfl, ?_⟩) (by assumption) ?_
        rotate_left
        · intro wz hSw; (try dsimp only at hSw); go_simp; (try with_reducible rfl)
        try simp only [Act.put, List.setIfInBounds_toArray, List.set_cons_zero, List.set_cons_succ]
        refine wpAnyH_ready (rs := [8]) (by kernel_rfl) (by simp) ?_
        refine (AllReadyH.cons (o := { dst := some 45, op := Go.Op.call { callee := Go.Callee.value (Go.Operand.func 9), args := #[Go.Operand.tmp 44], argTypes := #[23] }, type := 25, pos := "law.go:74", after := #[{ on := 7, ground := Go.Ground.data }, { on := 6, ground := Go.Ground.chain }, { on := 6, ground := Go.Ground.guard }], guard := some (6, true) }) rfl (fun K hK => ?_) AllReadyH.nil)
        go_simp
        refine (nilWDone _).mono ?_
        rintro e v1 ⟨rfl, rfl⟩
        refine hK.out _ _ hS1 (fun _ => ?_)
        clear hK K
        try simp only [Act.put, List.setIfInBounds_toArray, List.set_cons_zero, List.set_cons_succ]
        refine wpAnyH_take (i := 9) (oi := { dst := some 46, op := Go.Op.call { callee := Go.Callee.builtin Go.Builtin.len, args := #[Go.Operand.tmp 45], argTypes := #[25] }, type := 3, pos := "law.go:74", after := #[{ on := 8, ground := Go.Ground.data }, { on := 6, ground := Go.Ground.guard }], guard := some (6, true) }) (v := ?_) rfl (by kernel_rfl) (by kernel_rfl) (by kernel_rfl) (fun _ _ _ h => h) (Or.inl ⟨by rfl, ?_⟩) (by assumption) ?_
        rotate_left
        · intro wz hSw; (try dsimp only at hSw); go_simp; (try with_reducible rfl)
        try simp only [Act.put, List.setIfInBounds_toArray, List.set_cons_zero, List.set_cons_succ]
        refine wpAnyH_take (i := 10) (oi := { dst := some 47, op := Go.Op.binOp Go.BinOp.eql 3 (Go.Operand.tmp 46) (Go.Operand.const (Go.Value.int Go.IntKind.i64 0)) 3, type := 4, pos := "law.go:74", after := #[{ on := 9, ground := Go.Ground.data }, { on := 6, ground := Go.Ground.guard }], guard := some (6, true) }) (v := ?_) rfl (by kernel_rfl) (by kernel_rfl) (by kernel_rfl) (fun _ _ _ h => h) (Or.inl ⟨by rfl, ?_⟩) (by assumption) ?_
        rotate_left
        · intro wz hSw; (try dsimp only at hSw); go_simp; (try with_reducible rfl)
        try simp only [Act.put, List.setIfInBounds_toArray, List.set_cons_zero, List.set_cons_succ]
        refine wpAnyH_take (i := 11) (oi := { dst := some 48, op := Go.Op.pick (Go.Operand.tmp 43) (Go.Operand.tmp 47) (Go.Operand.const (Go.Value.bool false)), type := 4, pos := "law.go:74", after := #[{ on := 6, ground := Go.Ground.data }, { on := 10, ground := Go.Ground.data }], guard := none }) (v := ?_) rfl (by kernel_rfl) (by kernel_rfl) (by kernel_rfl) (fun _ _ _ h => h) (Or.inl ⟨by rfl, ?_⟩) (by assumption) ?_
        rotate_left
        · intro wz hSw; (try dsimp only at hSw); go_simp; (try with_reducible rfl)
        try simp only [Act.put, List.setIfInBounds_toArray, List.set_cons_zero, List.set_cons_succ]
        refine wpAnyH_take (i := 12) (oi := { dst := some 49, op := Go.Op.move (Go.Operand.tmp 48), type := 4, pos := "law.go:74", after := #[{ on := 11, ground := Go.Ground.data }, { on := 8, ground := Go.Ground.chain }], guard := none }) (v := ?_) rfl (by kernel_rfl) (by kernel_rfl) (by kernel_rfl) (fun _ _ _ h => h) (Or.inl ⟨by rfl, ?_⟩) (by assumption) ?_
        rotate_left
        · intro wz hSw; (try dsimp only at hSw); go_simp; (try with_reducible rfl)
        try simp only [Act.put, List.setIfInBounds_toArray, List.set_cons_zero, List.set_cons_succ]
        refine wpAnyH_ready (rs := [13]) (by kernel_rfl) (by simp) ?_
        refine (AllReadyH.cons (o := { dst := some 50, op := Go.Op.call { callee := Go.Callee.value (Go.Operand.func 10), args := #[], argTypes := #[] }, type := 4, pos := "law.go:74", after := #[{ on := 12, ground := Go.Ground.chain }, { on := 12, ground := Go.Ground.guard }], guard := some (12, true) }) rfl (fun K hK => ?_) AllReadyH.nil)
        go_simp
        refine (sure_any _).mono ?_
        rintro e v3 ⟨rfl, hb3⟩
        have hS3 := lays_conv HSL.out hnl (Below.transS hS1.1 hb3)
        refine hK.out _ _ hS3 (fun _ => ?_)
        clear hK K
        try simp only [Act.put, List.setIfInBounds_toArray, List.set_cons_zero, List.set_cons_succ]
        refine wpAnyH_take (i := 14) (oi := { dst := some 51, op := Go.Op.pick (Go.Operand.tmp 49) (Go.Operand.tmp 50) (Go.Operand.const (Go.Value.bool false)), type := 4, pos := "law.go:74", after := #[{ on := 12, ground := Go.Ground.data }, { on := 13, ground := Go.Ground.data }], guard := none }) (v := ?_) rfl (by kernel_rfl) (by kernel_rfl) (by kernel_rfl) (fun _ _ _ h => h) (Or.inl ⟨by rfl, ?_⟩) (by assumption) ?_
        rotate_left
        · intro wz hSw; (try dsimp only at hSw); go_simp; (try with_reducible rfl)
        try simp only [Act.put, List.setIfInBounds_toArray, List.set_cons_zero, List.set_cons_succ]
        refine wpAnyH_take (i := 15) (oi := { dst := some 2, op := Go.Op.assign (Go.Operand.tmp 51), type := 4, pos := "law.go:74", after := #[{ on := 14, ground := Go.Ground.data }, { on := 13, ground := Go.Ground.chain }, { on := 0, ground := Go.Ground.phase }, { on := 1, ground := Go.Ground.phase }, { on := 2, ground := Go.Ground.phase }, { on := 3, ground := Go.Ground.phase }, { on := 4, ground := Go.Ground.phase }, { on := 5, ground := Go.Ground.phase }, { on := 6, ground := Go.Ground.phase }, { on := 7, ground := Go.Ground.phase }, { on := 8, ground := Go.Ground.phase }, { on := 9, ground := Go.Ground.phase }, { on := 10, ground := Go.Ground.phase }, { on := 11, ground := Go.Ground.phase }, { on := 12, ground := Go.Ground.phase }, { on := 13, ground := Go.Ground.phase }, { on := 14, ground := Go.Ground.phase }], guard := none }) (v := ?_) rfl (by kernel_rfl) (by kernel_rfl) (by kernel_rfl) (fun _ _ _ h => h) (Or.inl ⟨by rfl, ?_⟩) (by assumption) ?_
        rotate_left
        · intro wz hSw; (try dsimp only at hSw); go_simp; (try with_reducible rfl)
        try simp only [Act.put, List.setIfInBounds_toArray, List.set_cons_zero, List.set_cons_succ]
        refine wpAnyH_done (by kernel_rfl) (NoPanic.normal ?_) _
        try simp only [Act.put, List.setIfInBounds_toArray, List.set_cons_zero, List.set_cons_succ]
        go_wp2
        go_ret
        exact ⟨rfl, hb.trans (hS3.1.mono hb.size)⟩
end Go.Proofs.Ytlbjnkcplkdeeaa
