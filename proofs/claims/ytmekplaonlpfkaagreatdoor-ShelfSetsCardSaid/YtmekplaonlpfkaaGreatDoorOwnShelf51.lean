/- ShelfSets: the walk. -/
import Derived.Test.YtmekplaonlpfkaaGreatDoorOwnShelf50
namespace Go.Proofs.YtmekplaonlpfkaaGreatDoor
open Go.RowKit Go.Maps Go.Sort

attribute [local go_sem ↓] Go.wp_at_zero Go.wp_at_succ

set_option maxRecDepth 100000 in
set_option maxHeartbeats 6400000 in
theorem shelfSets_any (x0 : Int) (a1 : Option Addr) (len1 cap1 : Nat) (X : Nat → List Cg) (w : World) (hg : Glob w) (hl1 : len1 ≤ maxLen) (hx1 : RwIn w a1 len1 X) :
    Calls Tryz.prog 4 #[.int .i64 x0, .slice a1 len1 cap1] w fun e w' => e = .returned (.bool true) ∧ Below w.heap.size w w' := by
  have HG : Hid (∀ W : World, Below w.heap.size w W → Glob W) := fun W hb => hg.below hb hg.pos
  have HX1 : Hid (RwIn w a1 len1 X) := hx1
  have hml : maxLen = 9223372036854775807 := rfl
  rw [hml] at hl1
  have HSU : Hid (∀ W : World, Below w.heap.size w W → Calls Tryz.prog 8 #[] W fun e w' => e = .returned (.bool true) ∧ Below w.heap.size w w') := fun W hb =>
    (sure_any W (HG.out W hb)).mono fun e w' h => ⟨h.1, Below.transS hb h.2⟩
  obtain ⟨r, hr, hrem⟩ := rem_ix x0 9 (by omega) (by omega)
  have HRM : Hid (wrap64 ((IntKind.u64.wrap x0).tmod 9) = (r : Int)) := hrem
  have e1 : errV 1 = .iface 72 (.int .i64 1) := errV_ne (by decide)
  have hg0 := get_nil (.string ⟨#[97]⟩) w
  have hs0 := set_nil (.slice none 0 0) w
  have hn0 := num_any 1 w hg
  rw [e1] at hs0 hn0
  clear hx1 hml hrem hg e1
  go_enter Tryz.func4, Tryz.ntmps4
  go_wp2_with fail
  refine hg0.mono ?_
  rintro e w1 ⟨rfl, hw1⟩
  rw [hw1]
  clear hw1 w1
  go_wp2_with fail
  refine hs0.mono ?_
  rintro e w2 ⟨rfl, hw2⟩
  rw [hw2]
  clear hw2 w2
  go_wp2_with fail
  refine hn0.mono ?_
  rintro e w3 ⟨rfl, hb3⟩
  have HB3 : Hid (Below w.heap.size w w3) := hb3
  have hk3 := keysS_nil w3
  have hf3 := free_nil w3
  clear hg0 hs0 hn0 hb3
  go_wp2_with fail
  refine hk3.mono ?_
  rintro e w4 ⟨rfl, hw4⟩
  rw [hw4]
  clear hw4 w4
  go_wp2_with fail
  refine hf3.mono ?_
  rintro e w5 ⟨rfl, hw5⟩
  rw [hw5]
  clear hw5 w5
  clear hk3 hf3
  obtain ⟨n, hn⟩ : ∃ n : Nat, n = 2 + r := ⟨_, rfl⟩
  have HW1 : Hid (wrap64 (2 + (r : Int)) = (n : Int)) := by unfold wrap64; show _ = _; omega
  have HW2 : Hid (wrap64 ((n : Int) + 3) = ((n + 3 : Nat) : Int)) := by unfold wrap64; show _ = _; omega
  have hnn : 2 ≤ n ∧ n ≤ 10 := by omega
  clear hn hr
  have hnew := newU (n + 3) (by omega) (by omega) w3
  go_wp2_with fail
  rw [HRM.out, HW1.out, HW2.out]
  refine hnew.mono ?_
  rintro e w6 ⟨p, rfl, hS6, hb6⟩
  have hop : openR (newC (n + 3)) 1 n = some [] := open_back (newC_laid 1 n (n + 3)) (LOk.nil n) (by omega)
  have ho6 := openA (fun k => w3.heap.size ≤ k ∧ k < w6.heap.size) p 1 n (n + 3) (newC (n + 3)) [] w6 (hS6.mono fun k h1 h2 => ⟨h2, h1⟩) (by omega) (by omega) hop
  have HB6 : Hid (Below w3.heap.size w3 w6) := hb6
  clear hnew hS6 hb6 hop
  go_wp2_with fail
  refine ho6.mono ?_
  rintro e w7 ⟨s, rfl, hS7, hb7⟩
  have hlow : LowA (fun k => w3.heap.size ≤ k ∧ k < w6.heap.size) w.heap.size w6 := fun k hk => ⟨by have := HB3.out.size; omega, hk.2⟩
  have hsz6 : w.heap.size ≤ w6.heap.size := by have := HB3.out.size; have := HB6.out.size; omega
  have hI0 : StI w w7 (upA (fun k => w3.heap.size ≤ k ∧ k < w6.heap.size) w6 w7) p s n (newC (n + 3)) [] (.slice none 0 0) := ⟨hS7, newC_laid 1 n (n + 3), LrB.nil _ _, hlow.up hsz6 hb7.size, Below.transS (Below.transS HB3.out HB6.out) hb7⟩
  have HI0 : Hid (∃ A c, StI w w7 A p s n c [] (.slice none 0 0)) := ⟨_, _, hI0⟩
  clear ho6 hS7 hb7 HB3 HB6 HRM HW1 HW2 hlow hsz6 hI0
  go_wp2
  go_loopw [13, 14, 15, 16, 17, 18, 19, 20, 21, 22, 23, 24] (fun nv iv _ _ _ _ _ _ _ _ _ _ wr => ∃ (i : Nat) (L : List Lf), i ≤ len1 ∧ i ≤ 15 ∧ iv = .int .i64 i ∧ ∃ A c, StI w wr A p s n c L nv) (fun _ iv _ _ _ _ _ _ _ _ _ _ _ => 16 - (intOf iv).toNat)
  case atStart => exact ⟨0, [], by omega, by omega, rfl, HI0.out⟩
  case round =>
    clear HI0
    obtain ⟨i, L, hi, hi15, rfl, A, c, hI⟩ := hrel
    have HI : Hid (StI w wr A p s n c L u13) := hI
    clear hI
    by_cases hlt : i < len1 ∧ i < 15
    · have h1' : (i : Int) < len1 := by omega
      have h2' : (i : Int) < 15 := by omega
      obtain ⟨b, off, hab, _⟩ := HX1.out.at_ (by omega)
      subst hab
      obtain ⟨a, ca, hcell, hcg⟩ := HX1.out.get HI.out.below hlt.1
      have hsz := HX1.out.size i hlt.1
      have hlo := long_any a ca (X i) wr hcg hsz.1 hsz.2
      obtain ⟨C, hC⟩ : ∃ C, X i = C := ⟨_, rfl⟩
      have HC : Hid (X i = C) := hC
      rw [hC] at hcell hlo
      obtain ⟨lo, hlob⟩ : ∃ lo, longB C = lo := ⟨_, rfl⟩
      have HLO : Hid (longB C = lo) := hlob
      rw [hlob] at hlo
      clear hcg hsz hC hlob
      go_wp2_with fail
      refine hlo.mono ?_
      rintro e w5 ⟨rfl, hb5⟩
      have HI5 : Hid (StI w w5 A p s n c L u13) := HI.out.next hb5
      clear hlo hb5 hcell HI
      cases lo with
      | true =>
        have HE : Hid (∃ A c, StI w w5 A p s n c L u13) := ⟨_, _, HI5.out⟩
        go_wp2
        exact ⟨⟨i + 1, L, by omega, by omega, by go_num, HE.out⟩, by simp [intOf]; omega⟩
      | false =>
      obtain ⟨hok, hlen⟩ := COk.of_long HLO.out
      have HOK : Hid (COk C) := hok
      obtain ⟨a, ca, hcell, hcg⟩ := HX1.out.get HI5.out.below hlt.1
      rw [HC.out] at hcell hcg
      have hgv := give_any a ca C w5 hcg (by omega)
      clear hcg hok
      go_wp2_with fail
      refine hgv.mono ?_
      rintro e w6 ⟨gv, rfl, hG6⟩
      obtain ⟨ga, gc, hgv6, hga6, _⟩ := hG6.sl
      subst hgv6
      have HI6 : Hid (StI w w6 A p s n c L u13) := HI5.out.next hG6.below
      have hset := HI6.out.set hnn.1 ga gc C hga6 HOK.out
      have HOL : Hid (LOk n L) := HI6.out.sh.ok.1
      clear hgv hG6 hga6 hcell HI5
      obtain ⟨er, her⟩ : ∃ er, (setD n L C).2.2.2 = er := ⟨_, rfl⟩
      have HOM : Hid (LOk n (setD n L C).1) := setD_ok HOL.out C
      obtain ⟨ch, hch⟩ : ∃ ch, (setD n L C).2.2.1 = ch := ⟨_, rfl⟩
      rw [her, hch] at hset
      obtain ⟨M, hM⟩ : ∃ M, (setD n L C).1 = M := ⟨_, rfl⟩
      have HM : Hid ((setD n L C).1 = M ∧ (setD n L C).2.2.1 = ch ∧ (setD n L C).2.2.2 = er) := ⟨hM, hch, her⟩
      rw [hM] at hset HOM
      clear hM hch her
      go_wp2_with fail
      refine hset.mono ?_
      rintro e w7 ⟨rfl, A7, c7, hs7, hl7, hr7, hw7, hb7, hrt7⟩
      have HS7 : Hid (ShU A7 w7 s p 1 n (n + 3) M c7) := hs7
      have HL7 : Hid (Laid c7 1 n M) := hl7
      have HW7 : Hid (LowA A7 w.heap.size w7) := hw7
      have HB7 : Hid (Below w.heap.size w w7) := hb7
      have HR7 : Hid (ch = true → c7.last 1 = rootB M) := hrt7
      have HL9 : Hid (∀ x ∈ M, c7.last ((1 + x.p : Nat) : Int) = leafB x.k x.v) := hl7.leaf
      obtain ⟨a7, ca7, hcell7, hcg7⟩ := HX1.out.get HB7.out hlt.1
      rw [HC.out] at hcell7 hcg7
      have hdoc := docT hr7 hw7 HOL.out (by omega) a7 ca7 C hcg7 HLO.out
      rw [HM.out.1, HM.out.2.1, HM.out.2.2] at hdoc
      clear hset hs7 hl7 hr7 hw7 hb7 hrt7 hcg7 HI6
      go_wp2_with fail
      refine hdoc.mono ?_
      rintro e w8 ⟨v8, x8, rfl, hr8, hb8⟩
      have HI8 : Hid (StI w w8 A7 p s n c7 M v8) := ⟨HS7.out.below hb8, HL7.out, hr8, HW7.out.more hb8.size, Below.transS HB7.out hb8⟩
      have hnum := num_any er w8 (HG.out w8 HI8.out.below)
      clear hdoc hr8 hb8 hcell7 HS7 HL7 HW7 HB7
      go_wp2_with fail
      refine hnum.mono ?_
      rintro e w9 ⟨rfl, hb9⟩
      have HI9 : Hid (StI w w9 A7 p s n c7 M v8) := HI8.out.next hb9
      have hMl : M.length ≤ 100 := by have := frN_length HOM.out; omega
      have hsm := sameT A7 s p 1 n (n + 3) M c7 _ v8 M w9 HI9.out.sh HI9.out.row (by omega) (fun y hy => by have := HOM.out.len y hy; omega) rfl
      clear hnum hb9
      go_wp2_with fail
      refine hsm.mono ?_
      rintro e w10 ⟨rfl, hb10⟩
      have HI10 : Hid (StI w w10 A7 p s n c7 M v8) := HI9.out.next hb10
      have hlo10 := looseU A7 s p 1 n (n + 3) M c7 w10 HI10.out.sh
      clear hsm hb10
      go_wp2_with fail
      refine hlo10.mono ?_
      rintro e w11 ⟨rfl, hw11⟩
      rw [hw11]
      clear hlo10 hw11 w11
      cases ch with
      | false =>
        have HE : Hid (∃ A c, StI w w10 A p s n c M v8) := ⟨_, _, HI10.out⟩
        go_wp2
        exact ⟨⟨i + 1, M, by omega, by omega, by go_num, HE.out⟩, by simp [intOf]; omega⟩
      | true =>
      have hrd := readU A7 s p 1 n (n + 3) M c7 1 w10 HI10.out.sh (by omega)
      rw [HR7.out rfl] at hrd
      go_wp2_with fail
      refine hrd.mono ?_
      rintro e w12 ⟨ra, rc, rfl, hO12⟩
      have hF12 := hO12.fresh
      have HI12 : Hid (StI w w12 A7 p s n c7 M v8) := HI10.out.next hO12.below
      obtain ⟨va, vc, hv8, hvc, hvn, hvs, hva⟩ := HI12.out.row
      have hroot := root_doc va vc n M w12.drew (hva.below (Below.refl _ w12).drew) HOM.out (by omega) hMl
      subst hv8
      have hrn : ra = none → (rootB M).length = 0 ∧ rc = 0 := hF12.2.2.1
      have hsl : SlAt w12.drew ra (rootB M).length (fn (rootB M)) := hF12.2.1.keepB (Below.refl _ w12).drew
      generalize rootB M = rl at *
      clear hrd hO12 hF12 hvc hvn hvs hva HR7
      go_upto_region 22 with fail
      refine wp_region_noPanic ?_
      refine wp_region_held_drew (S := fun w' => SlAt w' ra rl.length (fn rl)) (by kernel_rfl) hsl (fun hHeld => ?_)
      refine wpAnyH_take (i := 0) (oi := { dst := some 136, op := Go.Op.move (Go.Operand.tmp 21), type := 26, pos := "law.go:134", after := #[], guard := none }) (v := ?_) rfl (by kernel_rfl) (by kernel_rfl) (by kernel_rfl) (fun _ _ _ h => h) (Or.inl ⟨by rfl, ?_⟩) (by assumption) ?_
      rotate_left
      · intro wz hSw; (try dsimp only at hSw); go_simp; (try with_reducible rfl)
      try simp only [Act.put, List.setIfInBounds_toArray, List.set_cons_zero, List.set_cons_succ]
      refine wpAnyH_take (i := 1) (oi := { dst := some 137, op := Go.Op.binOp Go.BinOp.neq 26 (Go.Operand.tmp 136) (Go.Operand.const Go.Value.nilIface) 26, type := 4, pos := "law.go:134", after := #[{ on := 0, ground := Go.Ground.data }], guard := none }) (v := ?_) rfl (by kernel_rfl) (by kernel_rfl) (by kernel_rfl) (fun _ _ _ h => h) (Or.inl ⟨by rfl, ?_⟩) (by assumption) ?_
      rotate_left
      · intro wz hSw; (try dsimp only at hSw); go_simp; (try with_reducible rfl)
      try simp only [Act.put, List.setIfInBounds_toArray, List.set_cons_zero, List.set_cons_succ]
      refine wpAnyH_take (i := 2) (oi := { dst := some 138, op := Go.Op.move (Go.Operand.tmp 137), type := 4, pos := "law.go:134", after := #[{ on := 1, ground := Go.Ground.data }], guard := none }) (v := ?_) rfl (by kernel_rfl) (by kernel_rfl) (by kernel_rfl) (fun _ _ _ h => h) (Or.inl ⟨by rfl, ?_⟩) (by assumption) ?_
      rotate_left
      · intro wz hSw; (try dsimp only at hSw); go_simp; (try with_reducible rfl)
      try simp only [Act.put, List.setIfInBounds_toArray, List.set_cons_zero, List.set_cons_succ]
      refine wpAnyH_take (i := 3) (oi := { dst := some 139, op := Go.Op.move (Go.Operand.tmp 20), type := 29, pos := "law.go:134", after := #[{ on := 2, ground := Go.Ground.guard }], guard := some (2, false) }) (v := ?_) rfl (by kernel_rfl) (by kernel_rfl) (by kernel_rfl) (fun _ _ _ h => h) (Or.inl ⟨by rfl, ?_⟩) (by assumption) ?_
      rotate_left
      · intro wz hSw; (try dsimp only at hSw); go_simp; (try with_reducible rfl)
      try simp only [Act.put, List.setIfInBounds_toArray, List.set_cons_zero, List.set_cons_succ]
      refine wpAnyH_take (i := 4) (oi := { dst := some 140, op := Go.Op.convert 29 9 (Go.Operand.tmp 139), type := 9, pos := "law.go:134", after := #[{ on := 3, ground := Go.Ground.data }, { on := 2, ground := Go.Ground.guard }], guard := some (2, false) }) (v := .string (strB (fn rl) rl.length)) rfl (by kernel_rfl) (by kernel_rfl) (by kernel_rfl) (fun _ _ _ h => h) (Or.inl ⟨by rfl, ?_⟩) (by assumption) ?_
      · intro wz hSw; (try dsimp only at hSw); have h1 := conv_any ra rl.length rc (fn rl) wz hSw hrn; go_simp; try rfl
      try simp only [Act.put, List.setIfInBounds_toArray, List.set_cons_zero, List.set_cons_succ]
      refine wpAnyH_take (i := 5) (oi := { dst := some 141, op := Go.Op.move (Go.Operand.tmp 13), type := 37, pos := "law.go:134", after := #[{ on := 2, ground := Go.Ground.guard }], guard := some (2, false) }) (v := ?_) rfl (by kernel_rfl) (by kernel_rfl) (by kernel_rfl) (fun _ _ _ h => h) (Or.inl ⟨by rfl, ?_⟩) (by assumption) ?_
      rotate_left
      · intro wz hSw; (try dsimp only at hSw); go_simp; (try with_reducible rfl)
      try simp only [Act.put, List.setIfInBounds_toArray, List.set_cons_zero, List.set_cons_succ]
      refine wpAnyH_take (i := 6) (oi := { dst := some 142, op := Go.Op.move (Go.Operand.tmp 8), type := 3, pos := "law.go:134", after := #[{ on := 2, ground := Go.Ground.guard }], guard := some (2, false) }) (v := ?_) rfl (by kernel_rfl) (by kernel_rfl) (by kernel_rfl) (fun _ _ _ h => h) (Or.inl ⟨by rfl, ?_⟩) (by assumption) ?_
      rotate_left
      · intro wz hSw; (try dsimp only at hSw); go_simp; (try with_reducible rfl)
      try simp only [Act.put, List.setIfInBounds_toArray, List.set_cons_zero, List.set_cons_succ]
      refine wpAnyH_ready (rs := [7]) (by kernel_rfl) (by simp) ?_
      refine (AllReadyH.cons (o := { dst := some 143, op := Go.Op.call { callee := Go.Callee.value (Go.Operand.func 24), args := #[Go.Operand.tmp 141, Go.Operand.tmp 142], argTypes := #[37, 3] }, type := 29, pos := "law.go:134", after := #[{ on := 5, ground := Go.Ground.data }, { on := 6, ground := Go.Ground.data }, { on := 2, ground := Go.Ground.chain }, { on := 2, ground := Go.Ground.guard }], guard := some (2, false) }) rfl (fun K hK => ?_) AllReadyH.nil)
      go_simp
      refine hroot.mono ?_
      rintro e w13 ⟨rv, rfl, hO13⟩
      obtain ⟨qa, qc, hq⟩ := hO13.form
      subst hq
      have hF13 := hO13.fresh
      have hsl13 : SlAt w13 ra rl.length (fn rl) := hsl.keepB hO13.below
      have HB13 : Hid (Below w12.heap.size w12 w13) := Below.transS (Below.refl _ w12).drew hO13.below
      refine hK.out _ _ hsl13 (fun _ => ?_)
      clear hK K
      try simp only [Act.put, List.setIfInBounds_toArray, List.set_cons_zero, List.set_cons_succ]
      refine wpAnyH_ready (rs := [8]) (by kernel_rfl) (by simp) ?_
      refine (AllReadyH.cons (o := { dst := some 144, op := Go.Op.convert 29 9 (Go.Operand.tmp 143), type := 9, pos := "law.go:134", after := #[{ on := 7, ground := Go.Ground.data }, { on := 2, ground := Go.Ground.guard }], guard := some (2, false) }) rfl (fun K hK => ?_) AllReadyH.nil)
      refine step_convS (by rfl) (.tmp 143) rfl qa rl.length qc (fn rl) (by rfl) hF13.2.1 hF13.2.2.1 ?_
      refine hK.out _ _ hsl13 (fun _ => ?_)
      clear hK K
      try simp only [Act.put, List.setIfInBounds_toArray, List.set_cons_zero, List.set_cons_succ]
      refine wpAnyH_take (i := 9) (oi := { dst := some 145, op := Go.Op.binOp Go.BinOp.neq 9 (Go.Operand.tmp 140) (Go.Operand.tmp 144) 9, type := 4, pos := "law.go:134", after := #[{ on := 4, ground := Go.Ground.data }, { on := 8, ground := Go.Ground.data }, { on := 2, ground := Go.Ground.guard }], guard := some (2, false) }) (v := .bool false) rfl (by kernel_rfl) (by kernel_rfl) (by kernel_rfl) (fun _ _ _ h => h) (Or.inl ⟨by rfl, ?_⟩) (by assumption) ?_
      · intro wz hSw; (try dsimp only at hSw); have h1 := neq_same (strB (fn rl) rl.length) wz; go_simp; try rfl
      try simp only [Act.put, List.setIfInBounds_toArray, List.set_cons_zero, List.set_cons_succ]
      refine wpAnyH_take (i := 10) (oi := { dst := some 146, op := Go.Op.pick (Go.Operand.tmp 138) (Go.Operand.const (Go.Value.bool true)) (Go.Operand.tmp 145), type := 4, pos := "law.go:134", after := #[{ on := 2, ground := Go.Ground.data }, { on := 9, ground := Go.Ground.data }], guard := none }) (v := ?_) rfl (by kernel_rfl) (by kernel_rfl) (by kernel_rfl) (fun _ _ _ h => h) (Or.inl ⟨by rfl, ?_⟩) (by assumption) ?_
      rotate_left
      · intro wz hSw; (try dsimp only at hSw); go_simp; (try with_reducible rfl)
      try simp only [Act.put, List.setIfInBounds_toArray, List.set_cons_zero, List.set_cons_succ]
      refine wpAnyH_done (by kernel_rfl) (NoPanic.normal ?_) _
      try simp only [Act.put, List.setIfInBounds_toArray, List.set_cons_zero, List.set_cons_succ]
      have HI13 : Hid (StI w w13 A7 p s n c7 M (.slice va M.length vc)) := HI12.out.next HB13.out
      clear hHeld hroot hO13 hF13 hsl13 hsl hrn HB13 HI12
      go_wp2
      go_loopw [22, 23, 24] (fun kv _ _ wr => ∃ k : Nat, k ≤ M.length ∧ kv = .int .i64 k ∧ StI w wr A7 p s n c7 M (.slice va M.length vc)) (fun kv _ _ _ => M.length + 1 - (intOf kv).toNat)
      case atStart => exact ⟨0, by omega, rfl, HI13.out⟩
      case round =>
        clear HI13
        obtain ⟨k, hk, rfl, hIk⟩ := hrel
        have HIk : Hid (StI w wr A7 p s n c7 M (.slice va M.length vc)) := hIk
        clear hIk
        by_cases hkl : k < M.length
        · have hkl' : (k : Int) < M.length := by omega
          obtain ⟨x, hx⟩ : ∃ x, M[k]? = some x := ⟨_, List.getElem?_eq_getElem hkl⟩
          have hxm := List.mem_of_getElem? hx
          obtain ⟨va', vc', hve, _, _, _, hva⟩ := HIk.out.row
          obtain ⟨rfl, _, rfl⟩ : va = va' ∧ True ∧ vc = vc' := by simpa using hve
          obtain ⟨bb, off2, hvab, hcc⟩ := hva (by omega)
          subst hvab
          obtain ⟨x0', x1', x2'⟩ := hcc k x hx
          have hpl := HOM.out.place x hxm
          have hxl := HOM.out.len x hxm
          have hlf := HL9.out x hxm
          have hcast : ((1 + x.p : Nat) : Int) = 1 + (x.p : Int) := by omega
          rw [hcast] at hlf
          have hrd := readU A7 s p 1 n (n + 3) M c7 (1 + (x.p : Int)) wr HIk.out.sh (by omega)
          rw [hlf] at hrd
          have HXE : Hid (x.k.length ≤ 1000000 ∧ x.v.length ≤ 1000000) := by constructor <;> omega
          have hw1 : wrap64 (1 + (x.p : Int)) = 1 + (x.p : Int) := by unfold wrap64; omega
          obtain ⟨xp, hxp⟩ : ∃ xp : Int, 1 + (x.p : Int) = xp := ⟨_, rfl⟩
          obtain ⟨xk, hxk⟩ : ∃ xk, x.k = xk := ⟨_, rfl⟩
          obtain ⟨xv, hxv⟩ : ∃ xv, x.v = xv := ⟨_, rfl⟩
          rw [hxk, hxv] at hrd HXE
          rw [hxk] at x0'
          rw [hxv] at x1'
          obtain ⟨lb, hlb⟩ : ∃ lb, leafB xk xv = lb := ⟨_, rfl⟩
          rw [hlb] at hrd
          have HLB : Hid (leafB xk xv = lb) := hlb
          clear hcc hx hxm hve hpl hxl hlf hcast hxp hxk hxv hlb hva
          go_wp2_with fail
          refine hrd.mono ?_
          rintro e w14 ⟨ra, rc, rfl, hO14⟩
          have hF14 := hO14.fresh
          have hrn : ra = none → lb.length = 0 ∧ rc = 0 := hF14.2.2.1
          have hsl : SlAt w14.drew ra lb.length (fn lb) := hF14.2.1.keepB (Below.refl _ w14).drew
          have y0 : w14.drew.cell? ⟨bb, off2 + k * 3, none⟩ = some (encStr xk) := (hO14.below.cell (p := ⟨bb, off2 + k * 3, none⟩) (World.block_lt_of_cell? _ _ x0')).trans x0'
          have y1 : w14.drew.cell? ⟨bb, off2 + k * 3 + 1, none⟩ = some (encStr xv) := (hO14.below.cell (p := ⟨bb, off2 + k * 3 + 1, none⟩) (World.block_lt_of_cell? _ _ x1')).trans x1'
          have hpg := page_any xk xv w14.drew HXE.out.1 HXE.out.2
          rw [HLB.out] at hpg
          have HI14 : Hid (StI w w14 A7 p s n c7 M (.slice (some ⟨bb, off2, none⟩) M.length vc)) := HIk.out.next hO14.below
          clear hrd hO14 hF14 x0' x1' x2' HIk hw1
          go_upto_region 28 with fail
          refine wp_region_noPanic ?_
          refine wp_region_held_drew (S := fun w' => SlAt w' ra lb.length (fn lb) ∧ w'.cell? ⟨bb, off2 + k * 3, none⟩ = some (encStr xk) ∧ w'.cell? ⟨bb, off2 + k * 3 + 1, none⟩ = some (encStr xv)) (by kernel_rfl) ⟨hsl, y0, y1⟩ (fun hHeld => ?_)
          refine wpAnyH_take (i := 0) (oi := { dst := some 164, op := Go.Op.move (Go.Operand.tmp 24), type := 26, pos := "law.go:139", after := #[], guard := none }) (v := ?_) rfl (by kernel_rfl) (by kernel_rfl) (by kernel_rfl) (fun _ _ _ h => h) (Or.inl ⟨by rfl, ?_⟩) (by assumption) ?_
          rotate_left
          · intro wz hSw; (try dsimp only at hSw); go_simp; (try with_reducible rfl)
          try simp only [Act.put, List.setIfInBounds_toArray, List.set_cons_zero, List.set_cons_succ]
          refine wpAnyH_take (i := 1) (oi := { dst := some 165, op := Go.Op.binOp Go.BinOp.neq 26 (Go.Operand.tmp 164) (Go.Operand.const Go.Value.nilIface) 26, type := 4, pos := "law.go:139", after := #[{ on := 0, ground := Go.Ground.data }], guard := none }) (v := ?_) rfl (by kernel_rfl) (by kernel_rfl) (by kernel_rfl) (fun _ _ _ h => h) (Or.inl ⟨by rfl, ?_⟩) (by assumption) ?_
          rotate_left
          · intro wz hSw; (try dsimp only at hSw); go_simp; (try with_reducible rfl)
          try simp only [Act.put, List.setIfInBounds_toArray, List.set_cons_zero, List.set_cons_succ]
          refine wpAnyH_take (i := 2) (oi := { dst := some 166, op := Go.Op.move (Go.Operand.tmp 165), type := 4, pos := "law.go:139", after := #[{ on := 1, ground := Go.Ground.data }], guard := none }) (v := ?_) rfl (by kernel_rfl) (by kernel_rfl) (by kernel_rfl) (fun _ _ _ h => h) (Or.inl ⟨by rfl, ?_⟩) (by assumption) ?_
          rotate_left
          · intro wz hSw; (try dsimp only at hSw); go_simp; (try with_reducible rfl)
          try simp only [Act.put, List.setIfInBounds_toArray, List.set_cons_zero, List.set_cons_succ]
          refine wpAnyH_take (i := 3) (oi := { dst := some 167, op := Go.Op.move (Go.Operand.tmp 23), type := 29, pos := "law.go:139", after := #[{ on := 2, ground := Go.Ground.guard }], guard := some (2, false) }) (v := ?_) rfl (by kernel_rfl) (by kernel_rfl) (by kernel_rfl) (fun _ _ _ h => h) (Or.inl ⟨by rfl, ?_⟩) (by assumption) ?_
          rotate_left
          · intro wz hSw; (try dsimp only at hSw); go_simp; (try with_reducible rfl)
          try simp only [Act.put, List.setIfInBounds_toArray, List.set_cons_zero, List.set_cons_succ]
          refine wpAnyH_take (i := 4) (oi := { dst := some 168, op := Go.Op.convert 29 9 (Go.Operand.tmp 167), type := 9, pos := "law.go:139", after := #[{ on := 3, ground := Go.Ground.data }, { on := 2, ground := Go.Ground.guard }], guard := some (2, false) }) (v := .string (strB (fn lb) lb.length)) rfl (by kernel_rfl) (by kernel_rfl) (by kernel_rfl) (fun _ _ _ h => h) (Or.inl ⟨by rfl, ?_⟩) (by assumption) ?_
          · intro wz hSw; (try dsimp only at hSw); have h1 := conv_any ra lb.length rc (fn lb) wz hSw.1 hrn; go_simp; try rfl
          try simp only [Act.put, List.setIfInBounds_toArray, List.set_cons_zero, List.set_cons_succ]
          refine wpAnyH_take (i := 5) (oi := { dst := some 169, op := Go.Op.move (Go.Operand.tmp 13), type := 37, pos := "law.go:139", after := #[{ on := 2, ground := Go.Ground.guard }], guard := some (2, false) }) (v := ?_) rfl (by kernel_rfl) (by kernel_rfl) (by kernel_rfl) (fun _ _ _ h => h) (Or.inl ⟨by rfl, ?_⟩) (by assumption) ?_
          rotate_left
          · intro wz hSw; (try dsimp only at hSw); go_simp; (try with_reducible rfl)
          try simp only [Act.put, List.setIfInBounds_toArray, List.set_cons_zero, List.set_cons_succ]
          refine wpAnyH_take (i := 6) (oi := { dst := some 170, op := Go.Op.move (Go.Operand.tmp 22), type := 3, pos := "law.go:139", after := #[{ on := 2, ground := Go.Ground.guard }], guard := some (2, false) }) (v := ?_) rfl (by kernel_rfl) (by kernel_rfl) (by kernel_rfl) (fun _ _ _ h => h) (Or.inl ⟨by rfl, ?_⟩) (by assumption) ?_
          rotate_left
          · intro wz hSw; (try dsimp only at hSw); go_simp; (try with_reducible rfl)
          try simp only [Act.put, List.setIfInBounds_toArray, List.set_cons_zero, List.set_cons_succ]
          refine wpAnyH_take (i := 7) (oi := { dst := some 171, op := Go.Op.indexAddr 37 (Go.Operand.tmp 169) (Go.Operand.tmp 170), type := 0, pos := "law.go:139", after := #[{ on := 5, ground := Go.Ground.data }, { on := 6, ground := Go.Ground.data }, { on := 2, ground := Go.Ground.guard }], guard := some (2, false) }) (v := ?_) rfl (by kernel_rfl) (by kernel_rfl) (by kernel_rfl) (fun _ _ _ h => h) (Or.inl ⟨by rfl, ?_⟩) (by assumption) ?_
          rotate_left
          · intro wz hSw; (try dsimp only at hSw); go_simp; (try with_reducible rfl)
          try simp only [Act.put, List.setIfInBounds_toArray, List.set_cons_zero, List.set_cons_succ]
          refine wpAnyH_take (i := 8) (oi := { dst := some 172, op := Go.Op.fieldAddr 60 (Go.Operand.tmp 171) 0, type := 0, pos := "law.go:139", after := #[{ on := 7, ground := Go.Ground.data }, { on := 2, ground := Go.Ground.guard }], guard := some (2, false) }) (v := ?_) rfl (by kernel_rfl) (by kernel_rfl) (by kernel_rfl) (fun _ _ _ h => h) (Or.inl ⟨by rfl, ?_⟩) (by assumption) ?_
          rotate_left
          · intro wz hSw; (try dsimp only at hSw); go_simp; (try with_reducible rfl)
          try simp only [Act.put, List.setIfInBounds_toArray, List.set_cons_zero, List.set_cons_succ]
          refine wpAnyH_take (i := 9) (oi := { dst := some 173, op := Go.Op.load 9 (Go.Operand.tmp 172), type := 9, pos := "law.go:139", after := #[{ on := 8, ground := Go.Ground.data }, { on := 2, ground := Go.Ground.guard }], guard := some (2, false) }) (v := encStr xk) rfl (by kernel_rfl) (by kernel_rfl) (by kernel_rfl) (fun _ _ _ h => h) (Or.inl ⟨by rfl, ?_⟩) (by assumption) ?_
          · intro wz hSw; (try dsimp only at hSw); have h1 := hSw.2.1; go_simp; try rfl
          try simp only [Act.put, List.setIfInBounds_toArray, List.set_cons_zero, List.set_cons_succ]
          refine wpAnyH_take (i := 10) (oi := { dst := some 174, op := Go.Op.move (Go.Operand.tmp 13), type := 37, pos := "law.go:139", after := #[{ on := 2, ground := Go.Ground.guard }], guard := some (2, false) }) (v := ?_) rfl (by kernel_rfl) (by kernel_rfl) (by kernel_rfl) (fun _ _ _ h => h) (Or.inl ⟨by rfl, ?_⟩) (by assumption) ?_
          rotate_left
          · intro wz hSw; (try dsimp only at hSw); go_simp; (try with_reducible rfl)
          try simp only [Act.put, List.setIfInBounds_toArray, List.set_cons_zero, List.set_cons_succ]
          refine wpAnyH_take (i := 11) (oi := { dst := some 175, op := Go.Op.move (Go.Operand.tmp 22), type := 3, pos := "law.go:139", after := #[{ on := 2, ground := Go.Ground.guard }], guard := some (2, false) }) (v := ?_) rfl (by kernel_rfl) (by kernel_rfl) (by kernel_rfl) (fun _ _ _ h => h) (Or.inl ⟨by rfl, ?_⟩) (by assumption) ?_
          rotate_left
          · intro wz hSw; (try dsimp only at hSw); go_simp; (try with_reducible rfl)
          try simp only [Act.put, List.setIfInBounds_toArray, List.set_cons_zero, List.set_cons_succ]
          refine wpAnyH_take (i := 12) (oi := { dst := some 176, op := Go.Op.indexAddr 37 (Go.Operand.tmp 174) (Go.Operand.tmp 175), type := 0, pos := "law.go:139", after := #[{ on := 10, ground := Go.Ground.data }, { on := 11, ground := Go.Ground.data }, { on := 2, ground := Go.Ground.guard }], guard := some (2, false) }) (v := ?_) rfl (by kernel_rfl) (by kernel_rfl) (by kernel_rfl) (fun _ _ _ h => h) (Or.inl ⟨by rfl, ?_⟩) (by assumption) ?_
          rotate_left
          · intro wz hSw; (try dsimp only at hSw); go_simp; (try with_reducible rfl)
          try simp only [Act.put, List.setIfInBounds_toArray, List.set_cons_zero, List.set_cons_succ]
          refine wpAnyH_take (i := 13) (oi := { dst := some 177, op := Go.Op.fieldAddr 60 (Go.Operand.tmp 176) 1, type := 0, pos := "law.go:139", after := #[{ on := 12, ground := Go.Ground.data }, { on := 2, ground := Go.Ground.guard }], guard := some (2, false) }) (v := ?_) rfl (by kernel_rfl) (by kernel_rfl) (by kernel_rfl) (fun _ _ _ h => h) (Or.inl ⟨by rfl, ?_⟩) (by assumption) ?_
          rotate_left
          · intro wz hSw; (try dsimp only at hSw); go_simp; (try with_reducible rfl)
          try simp only [Act.put, List.setIfInBounds_toArray, List.set_cons_zero, List.set_cons_succ]
          refine wpAnyH_take (i := 14) (oi := { dst := some 178, op := Go.Op.load 9 (Go.Operand.tmp 177), type := 9, pos := "law.go:139", after := #[{ on := 13, ground := Go.Ground.data }, { on := 2, ground := Go.Ground.guard }], guard := some (2, false) }) (v := encStr xv) rfl (by kernel_rfl) (by kernel_rfl) (by kernel_rfl) (fun _ _ _ h => h) (Or.inl ⟨by rfl, ?_⟩) (by assumption) ?_
          · intro wz hSw; (try dsimp only at hSw); have h1 := hSw.2.2; go_simp; try rfl
          try simp only [Act.put, List.setIfInBounds_toArray, List.set_cons_zero, List.set_cons_succ]
          refine wpAnyH_ready (rs := [15]) (by kernel_rfl) (by simp) ?_
          refine (AllReadyH.cons (o := { dst := some 179, op := Go.Op.call { callee := Go.Callee.value (Go.Operand.func 25), args := #[Go.Operand.tmp 173, Go.Operand.tmp 178], argTypes := #[9, 9] }, type := 29, pos := "law.go:139", after := #[{ on := 9, ground := Go.Ground.data }, { on := 14, ground := Go.Ground.data }, { on := 2, ground := Go.Ground.chain }, { on := 2, ground := Go.Ground.guard }], guard := some (2, false) }) rfl (fun K hK => ?_) AllReadyH.nil)
          go_simp
          refine hpg.mono ?_
          rintro e w15 ⟨rv, rfl, hO15⟩
          obtain ⟨qa, qc, hq⟩ := hO15.form
          subst hq
          have hF15 := hO15.fresh
          have hS15 : SlAt w15 ra lb.length (fn lb) ∧ w15.cell? ⟨bb, off2 + k * 3, none⟩ = some (encStr xk) ∧ w15.cell? ⟨bb, off2 + k * 3 + 1, none⟩ = some (encStr xv) := ⟨hsl.keepB hO15.below, (hO15.below.cell (p := ⟨bb, off2 + k * 3, none⟩) (World.block_lt_of_cell? _ _ y0)).trans y0, (hO15.below.cell (p := ⟨bb, off2 + k * 3 + 1, none⟩) (World.block_lt_of_cell? _ _ y1)).trans y1⟩
          have HB15 : Hid (Below w14.heap.size w14 w15) := Below.transS (Below.refl _ w14).drew hO15.below
          refine hK.out _ _ hS15 (fun _ => ?_)
          clear hK K
          try simp only [Act.put, List.setIfInBounds_toArray, List.set_cons_zero, List.set_cons_succ]
          refine wpAnyH_ready (rs := [16]) (by kernel_rfl) (by simp) ?_
          refine (AllReadyH.cons (o := { dst := some 180, op := Go.Op.convert 29 9 (Go.Operand.tmp 179), type := 9, pos := "law.go:139", after := #[{ on := 15, ground := Go.Ground.data }, { on := 2, ground := Go.Ground.guard }], guard := some (2, false) }) rfl (fun K hK => ?_) AllReadyH.nil)
          refine step_convS (by rfl) (.tmp 179) rfl qa lb.length qc (fn lb) (by rfl) hF15.2.1 hF15.2.2.1 ?_
          refine hK.out _ _ hS15 (fun _ => ?_)
          clear hK K
          try simp only [Act.put, List.setIfInBounds_toArray, List.set_cons_zero, List.set_cons_succ]
          refine wpAnyH_take (i := 17) (oi := { dst := some 181, op := Go.Op.binOp Go.BinOp.neq 9 (Go.Operand.tmp 168) (Go.Operand.tmp 180) 9, type := 4, pos := "law.go:139", after := #[{ on := 4, ground := Go.Ground.data }, { on := 16, ground := Go.Ground.data }, { on := 2, ground := Go.Ground.guard }], guard := some (2, false) }) (v := .bool false) rfl (by kernel_rfl) (by kernel_rfl) (by kernel_rfl) (fun _ _ _ h => h) (Or.inl ⟨by rfl, ?_⟩) (by assumption) ?_
          · intro wz hSw; (try dsimp only at hSw); have h1 := neq_same (strB (fn lb) lb.length) wz; go_simp; try rfl
          try simp only [Act.put, List.setIfInBounds_toArray, List.set_cons_zero, List.set_cons_succ]
          refine wpAnyH_take (i := 18) (oi := { dst := some 182, op := Go.Op.pick (Go.Operand.tmp 166) (Go.Operand.const (Go.Value.bool true)) (Go.Operand.tmp 181), type := 4, pos := "law.go:139", after := #[{ on := 2, ground := Go.Ground.data }, { on := 17, ground := Go.Ground.data }], guard := none }) (v := ?_) rfl (by kernel_rfl) (by kernel_rfl) (by kernel_rfl) (fun _ _ _ h => h) (Or.inl ⟨by rfl, ?_⟩) (by assumption) ?_
          rotate_left
          · intro wz hSw; (try dsimp only at hSw); go_simp; (try with_reducible rfl)
          try simp only [Act.put, List.setIfInBounds_toArray, List.set_cons_zero, List.set_cons_succ]
          refine wpAnyH_done (by kernel_rfl) (NoPanic.normal ?_) _
          try simp only [Act.put, List.setIfInBounds_toArray, List.set_cons_zero, List.set_cons_succ]
          have HI15 : Hid (StI w w15 A7 p s n c7 M (.slice (some ⟨bb, off2, none⟩) M.length vc)) := HI14.out.next HB15.out
          clear hHeld hpg hO15 hF15 hS15 hsl hrn y0 y1 HB15 HI14
          go_wp2
          exact ⟨⟨k + 1, by omega, by go_num, HI15.out⟩, by simp [intOf]; omega⟩
        · obtain rfl : k = M.length := by omega
          have hkn : ¬ ((M.length : Int) < M.length) := by omega
          have HE : Hid (∃ A c, StI w wr A p s n c M (.slice va M.length vc)) := ⟨_, _, HIk.out⟩
          go_wp2
          exact ⟨⟨i + 1, M, by omega, by omega, by go_num, HE.out⟩, by simp [intOf]; omega⟩
    · obtain ⟨oa, hidl, hlen⟩ := HI.out.sh.ok
      have hll : L.length ≤ 1000 := by have := frN_length oa; omega
      have ho1 := openA A p 1 n (n + 3) c L wr HI.out.sh.store (by omega) (by omega) (open_back HI.out.laid oa (by omega))
      have HKA : Hid (∀ y ∈ L, y.k.length ≤ 100000) := fun y hy => by have := oa.len y hy; omega
      clear oa hidl hlen
      by_cases h1 : i < len1
      · have h1' : (i : Int) < len1 := by omega
        have h2' : ¬ ((i : Int) < 15) := by omega
        go_wp2_with fail
        refine ho1.mono ?_
        rintro e w1 ⟨u, rfl, hU1, hb1⟩
        have HI1 : Hid (StI w w1 A p s n c L u13) := HI.out.next hb1
        have hs1 := sameT _ u p 1 n (n + 3) L c _ u13 L w1 hU1 HI1.out.row hll HKA.out rfl
        clear ho1 hU1 hb1
        go_wp2_with fail
        refine hs1.mono ?_
        rintro e w2 ⟨rfl, hb2⟩
        have hsu := HSU.out w2 (Below.transS HI1.out.below hb2)
        clear hs1 hb2
        go_wp2_with fail
        refine hsu.mono ?_
        rintro e w4 ⟨rfl, hb4⟩
        have HE : Hid (Below w.heap.size w w4) := hb4
        clear hsu hb4
        go_wp2
        go_ret
        exact ⟨rfl, HE.out⟩
      · have h1' : ¬ ((i : Int) < len1) := by omega
        go_wp2_with fail
        refine ho1.mono ?_
        rintro e w1 ⟨u, rfl, hU1, hb1⟩
        have HI1 : Hid (StI w w1 A p s n c L u13) := HI.out.next hb1
        have hs1 := sameT _ u p 1 n (n + 3) L c _ u13 L w1 hU1 HI1.out.row hll HKA.out rfl
        clear ho1 hU1 hb1
        go_wp2_with fail
        refine hs1.mono ?_
        rintro e w2 ⟨rfl, hb2⟩
        have hsu := HSU.out w2 (Below.transS HI1.out.below hb2)
        clear hs1 hb2
        go_wp2_with fail
        refine hsu.mono ?_
        rintro e w4 ⟨rfl, hb4⟩
        have HE : Hid (Below w.heap.size w w4) := hb4
        clear hsu hb4
        go_wp2
        go_ret
        exact ⟨rfl, HE.out⟩
end Go.Proofs.YtmekplaonlpfkaaGreatDoor
