/- From the rows' hypothesis on the library's variable to its cell; strings that came in. -/
import Derived.Test.YtbfajoeilpkofaaGreatDoorRows
import Derived.Test.YtbfajoeilpkofaaGreatDoorOwnShelf03
import Derived.Test.YtbfajoeilpkofaaGreatDoorOwnShelf31
import Derived.Deep.Strs
import Derived.ChangeSame
import Derived.ChangeVars
import Derived.JoinedOf
import Derived.RowKit
import Derived.RowKitTokens
import Derived.LaidLaws
import Derived.LaidHandle
import Derived.Stop.Joined
import Derived.ProofKit
import Derived.OpenShut
import Derived.ChangeOld
import Derived.SizedLaws
import Derived.Deep.Slices
import Derived.Deep.Grids
namespace Go.Proofs.YtbfajoeilpkofaaGreatDoor
open Go.ChangeShapes Go.WideShapes Go.RowKit Go.ChangeAt

theorem laidOut : laidOutB Tryz.prog = true := by kernel_rfl
theorem tsize : Tryz.prog.types.size = 273 := by kernel_rfl
theorem own : ownKnob Tryz.prog.godebug = none := by kernel_rfl
theorem et : Tryz.prog.globalNamed "errors.errorType" = some 0 := by kernel_rfl
/-- The name under which the row lists the handle's own type. -/
def handleName : String := match (Rows.laid_errors_errorType (H := Unit)) with
  | .iface s _ => s
  | _ => ""
theorem rt : (Tryz.prog.cutTypes.find? (·.1 == handleName)).map (·.2) = some 179 := by kernel_rfl
theorem oneRow : ((List.range 273).filter fun t => Tryz.prog.rowNamed t [101, 114, 114, 111, 114]) = [26] := by kernel_rfl

/-- What the condition gives a walk: the variable's one cell. -/
theorem glob_of_laid {W : World} (h : laidMetH Tryz.prog [("errors.errorType", Rows.laid_errors_errorType)] W) : Glob W := by
  have h' : laidMet Tryz.prog [] W ∧ handlesMet Tryz.prog [("errors.errorType", Rows.laid_errors_errorType)] W := h
  obtain ⟨name, u, ty, e1, e2, e3, e4, e5⟩ := h'.2 _ (List.mem_singleton.2 rfl)
  have en : name = [101, 114, 114, 111, 114] := (Option.some.inj e1).symm
  subst en
  obtain rfl := Option.some.inj (rt.symm.trans e2)
  have hm : ty ∈ (List.range 273).filter fun t => Tryz.prog.rowNamed t [101, 114, 114, 111, 114] := List.mem_filter.2 ⟨List.mem_range.2 (by rw [← tsize]; exact e3), e4⟩
  rw [oneRow] at hm
  obtain rfl := List.mem_singleton.1 hm
  have hh : typeHandle Tryz.prog 26 = .pointer (some ⟨2, 26, none⟩) := by kernel_rfl
  rw [hh] at e5
  have := World.var?_cell et e5 0
  unfold Glob
  simpa using this

/-- Strings that came in: how they lie. -/
theorem strs_in {H : Type} {enc : TypeId × Value → H} {W : World} {base fuel : Nat} {a : Option Addr} {len cap : Nat} {x : DataW H × List MemPlace} {held : Bool}
    (hf : DataW.trod enc Tryz.prog W base (fun _ => true) held fuel 46 (Value.slice a len cap).cells.toList = some x) :
    ∃ Z : Nat → List UInt8, len ≤ maxLen ∧ (∀ j, j < len → (Z j).length ≤ maxLen) ∧ VsAt W a len Z := by
  rcases Go.Deep.open_strs Tryz.underlying46 Tryz.underlying9 (by kernel_rfl) hf with ⟨hcs, hx⟩ | ⟨ad, l, c, m, B, hcs, _, hl, hm, hmm, hx, hcell⟩
  · simp [Value.cells] at hcs
    obtain ⟨rfl, rfl, rfl⟩ := hcs
    exact ⟨fun _ => [], by omega, (fun j hj => by omega), fun h => by omega⟩
  · simp [Value.cells] at hcs
    obtain ⟨rfl, rfl, rfl⟩ := hcs
    have hlm : len ≤ m := by rw [hmm]; split <;> omega
    refine ⟨fun j => (B j).data.toList, by omega, fun j hj => (hcell j (by omega)).2, fun hn => ?_⟩
    obtain ⟨b, off, spot⟩ := ad
    have hc := (hcell 0 (by omega)).1
    have hspot : spot = none := by simpa [Addr.add] using World.cell?_spot hc
    subst hspot
    refine ⟨b, off, rfl, fun j hj => ?_⟩
    have := (hcell j (by omega)).1
    rw [Addr.add_lit] at this
    exact this
end Go.Proofs.YtbfajoeilpkofaaGreatDoor
/- ShelfLast: the walk. -/
namespace Go.Proofs.YtbfajoeilpkofaaGreatDoor
open Go.RowKit Go.Maps Go.Sort

attribute [local go_sem ↓] Go.wp_at_zero Go.wp_at_succ

theorem neq_str (a : List UInt8) (w : World) : (binOp .neq 9 (encStr a) (encStr a)).run Tryz.prog w = .ok (.bool false) w := by
  show (binOp .neq 9 (.string ⟨a.toArray⟩) (.string ⟨a.toArray⟩)).run Tryz.prog w = _
  rw [binOp_string_neq]
  simp
/-- A shelf within ShelfLast; the changes' block stays. -/
structure LaI (w wr W : World) (A : Nat → Prop) (ad : Option Addr) (sh p : Nat) (L : List Lf) (c : Ct) : Prop where
  sh_ : ShU A W sh p 0 3 3 L c
  below : Below w.heap.size w W
  size : wr.heap.size ≤ W.heap.size
  row : ∀ a, ad = some a → W.heap[a.block]? = wr.heap[a.block]?
section
variable {w wr W W' : World} {A : Nat → Prop} {ad : Option Addr} {sh p : Nat} {L L' : List Lf} {c c' : Ct}
theorem LaI.next (h : LaI w wr W A ad sh p L c) (hl : ∀ a, ad = some a → a.block < wr.heap.size) (hb : Below W.heap.size W W') : LaI w wr W' A ad sh p L c :=
  ⟨h.sh_.below hb, Below.transS h.below hb, Nat.le_trans h.size hb.size, fun a e => (hb.block _ (Nat.lt_of_lt_of_le (hl a e) h.size)).trans (h.row a e)⟩
theorem LaI.set (h : LaI w wr W A ad sh p L c) (hl : ∀ a, ad = some a → a.block < wr.heap.size) (hA : ∀ q, A q → w.heap.size ≤ q ∧ ∀ a, ad = some a → a.block ≠ q) (hw : w.heap.size ≤ W.heap.size) (hs : ShU A W' sh p 0 3 3 L' c') (hf : Fr A W W') : LaI w wr W' A ad sh p L' c' :=
  ⟨hs, h.below.trans (hf.below hw fun q hq => (hA q hq).1), Nat.le_trans h.size hf.size, fun a e => (hf.block _ (Nat.lt_of_lt_of_le (hl a e) h.size) fun hq => (hA _ hq).2 a e rfl).trans (h.row a e)⟩
end
theorem openNew3 : openR (newC 3) 0 3 = some [] := by kernel_rfl
set_option maxRecDepth 100000 in
set_option maxHeartbeats 3200000 in
theorem shelfLast_any (k : List UInt8) (ad : Option Addr) (len cap : Nat) (Z : Nat → List UInt8) (w : World) (hg : Glob w) (hkl : k.length ≤ maxLen) (hlen : len ≤ maxLen) (hzl : ∀ j, j < len → (Z j).length ≤ maxLen) (hv : VsAt w ad len Z) :
    Calls Tryz.prog 7 #[encStr k, .slice ad len cap] w fun e w' => e = .returned (.bool true) ∧ Below w.heap.size w w' := by
  have HG : Hid (Glob w) := hg
  have hpos := hg.pos
  have HV : Hid (VsAt w ad len Z) := hv
  have HZL : Hid (∀ j, j < len → (Z j).length ≤ maxLen) := hzl
  have hnew := newU 3 (by omega) (by omega) w
  have hlk : ∀ u : List UInt8, (⟨u.toArray⟩ : ByteArray).size = u.length := fun u => by simp [ByteArray.size]
  have HS : Hid (∀ W : World, Below w.heap.size w W → Calls Tryz.prog 8 #[] W fun e w' => e = .returned (.bool true) ∧ Below w.heap.size w w') := fun W hb =>
    (sure_any W (HG.out.below hb hpos)).mono fun e w' h => ⟨h.1, Below.transS hb h.2⟩
  have hml : maxLen = 9223372036854775807 := rfl
  clear hg hv hzl
  go_enter Tryz.func7, Tryz.ntmps7
  go_wp2_with fail
  refine hnew.mono ?_
  rintro e w1 ⟨p, rfl, hS1, hb1⟩
  have ho1 := openU_some (w.heap.size ≤ ·) p 0 3 3 (newC 3) [] w1 hS1 (fun q hq => Nat.le_trans hb1.size hq) (by omega) (by omega) openNew3
  have HB1 : Hid (Below w.heap.size w w1) := hb1
  clear hnew hS1 hb1
  go_wp2_with fail
  refine ho1.mono ?_
  rintro e w3 ⟨sh, rfl, hS3, hb3⟩
  have HB3 : Hid (Below w.heap.size w w3) := Below.transS HB1.out hb3
  have HS3 : Hid (ShU (fun q => w.heap.size ≤ q ∧ q < w3.heap.size) w3 sh p 0 3 3 [] (newC 3)) := hS3.mono fun q h1 h2 => ⟨h2, h1⟩
  clear ho1 hS3 hb3
  by_cases hk : 50 < k.length
  · have hs3 := HS.out w3 HB3.out
    have hk' : (50 : Int) < k.length := by omega
    go_wp2_with fail
    refine hs3.mono ?_
    rintro e w4 ⟨rfl, hb4⟩
    have HE : Hid (Below w.heap.size w w4) := hb4
    clear hs3 hb4
    go_wp2
    go_ret
    exact ⟨rfl, HE.out⟩
  · have hk' : ¬ ((50 : Int) < k.length) := by omega
    have hC0 : CgOw w3 w3 (.slice none 0 0) (csOf k Z 0) := CgOw.nil w3
    have HC0 : Hid (CgOw w3 w3 (.slice none 0 0) (csOf k Z 0)) := hC0
    clear hC0
    go_wp2
    go_loopw [9, 10] (fun lv iv wr => ∃ i : Nat, i ≤ len ∧ i ≤ 10 ∧ iv = .int .i64 i ∧ CgOw w3 wr lv (csOf k Z i) ∧ ∀ j, j < i → (Z j).length ≤ 50) (fun _ iv _ => len - (intOf iv).toNat)
    case atStart => exact ⟨0, Nat.zero_le _, by omega, rfl, HC0.out, fun j hj => by omega⟩
    case round =>
      clear HC0
      obtain ⟨i, hi, hi10, rfl, hC, hZ⟩ := hrel
      have HC : Hid (CgOw w3 wr u9 (csOf k Z i)) := hC
      have HZ : Hid (∀ j, j < i → (Z j).length ≤ 50) := hZ
      have hbw : Below w.heap.size w wr := Below.transS HB3.out hC.below
      have HBw : Hid (Below w.heap.size w wr) := hbw
      clear hC hZ hbw
      by_cases hgo : i < len ∧ i < 10
      · have h1 : (i : Int) < len := by omega
        have h2 : (i : Int) < 10 := by omega
        obtain ⟨b, off, rfl, hc⟩ := HV.out (by omega)
        have hci : wr.cell? ⟨b, off + i, none⟩ = some (encStr (Z i)) := by
          have hx := hc i hgo.1
          rw [HBw.out.cell (p := ⟨b, off + i, none⟩) (World.block_lt_of_cell? w _ hx)]; exact hx
        have hzi := HZL.out i hgo.1
        obtain ⟨z, hz⟩ : ∃ z, Z i = z := ⟨_, rfl⟩
        have HZi : Hid (Z i = z) := hz
        rw [hz] at hci hzi
        clear hc hz
        by_cases h50 : 50 < z.length
        · have h3 : (50 : Int) < z.length := by omega
          have hsw := HS.out wr HBw.out
          go_wp2_with fail
          refine hsw.mono ?_
          rintro e w4 ⟨rfl, hb4⟩
          have HE : Hid (Below w.heap.size w w4) := hb4
          clear hsw hb4
          go_wp2
          go_ret
          exact ⟨rfl, HE.out⟩
        · have h3 : ¬ ((50 : Int) < z.length) := by omega
          obtain ⟨wa, hwa⟩ : ∃ wa, wr.alloc (.cells #[encStr k, encStr z, .bool false] 70) = wa := ⟨_, rfl⟩
          have hOw : CgOw w3 wa u9 (csOf k Z i) := by rw [← hwa]; exact HC.out.keep ((Below.refl _ wr).alloc (Nat.le_refl _) _)
          have hrow : wa.heap[wr.heap.size]? = some (.cells #[encStr k, encStr z, .bool false] 70 (0, 0)) := by rw [← hwa]; exact heap_alloc_new wr _
          have hle : (csOf k Z i).length ≤ 100000 := by rw [csOf_length]; omega
          have HN : Hid (∀ v' w4, CgOw w3 w4 v' (csOf k Z i ++ [⟨k, z, false⟩]) → CgOw w3 w4 v' (csOf k Z (i + 1)) ∧ ∀ j, j < i + 1 → (Z j).length ≤ 50) := fun v' w4 h => by
            refine ⟨by rw [csOf_succ, HZi.out]; exact h, fun j hj => ?_⟩
            by_cases e : j = i
            · subst e; rw [HZi.out]; omega
            · exact HZ.out j (by omega)
          generalize csOf k Z i = C at *
          go_wp2_with (first | (at_builtin; refine wpList_append_Cg rfl _ _ rfl w3 _ C wr.heap.size ⟨k, z, false⟩ rfl rfl hOw hrow hle ?_; intro v4 w4 hC4) | fail)
          have HN4 : Hid (CgOw w3 w4 v4 (csOf k Z (i + 1)) ∧ ∀ j, j < i + 1 → (Z j).length ≤ 50) := HN.out v4 w4 hC4
          clear hOw hrow hle hwa
          go_wp2
          exact ⟨⟨i + 1, by omega, by omega, by go_num, HN4.out.1, HN4.out.2⟩, by simp [intOf]; omega⟩
      · have hstop : ¬ (i < len) ∨ (i < len ∧ ¬ i < 10) := by omega
        have hpos3 := HB3.out.size
        obtain ⟨ad2, cap2, hu, hCA, hblk⟩ := HC.out.sl
        rw [csOf_length] at hu
        subst hu
        have HCA : Hid (CgAt wr ad2 (csOf k Z i)) := hCA
        obtain ⟨A, hA⟩ : ∃ A : Nat → Prop, A = fun q => w.heap.size ≤ q ∧ ∀ a, ad2 = some a → a.block ≠ q := ⟨_, rfl⟩
        have HAq : Hid (∀ q, A q → w.heap.size ≤ q ∧ ∀ a, ad2 = some a → a.block ≠ q) := fun q hq => by rw [hA] at hq; exact hq
        have HA : Hid (∀ W : World, wr.heap.size ≤ W.heap.size → ∀ q, W.heap.size ≤ q → A q) := fun W hW q hq => by
          rw [hA]
          exact ⟨by have := HBw.out.size; omega, fun a e => by have := (hblk a e).2; omega⟩
        have HL : Hid (∀ a, ad2 = some a → a.block < wr.heap.size) := fun a e => (hblk a e).2
        have HI : Hid (LaI w wr wr A ad2 sh p [] (newC 3)) := ⟨(HS3.out.below HC.out.below).mono fun q _ hq => by rw [hA]; exact ⟨hq.1, fun a e => by have := (hblk a e).1; omega⟩, HBw.out, Nat.le_refl _, fun _ _ => rfl⟩
        have hsz := HBw.out.size
        have hset := setU A sh p 0 3 3 [] (newC 3) ad2 cap2 (csOf k Z i) wr HI.out.sh_ (HA.out wr (Nat.le_refl _)) hCA (csOf_ok hi10 (by omega) HZ.out)
        rw [csOf_length] at hset
        have e0 : errV 0 = .nilIface := rfl
        clear hCA hA hblk HC
        cases i with
        | zero =>
          have hc0 : csOf k Z 0 = [] := rfl
          rw [hc0, last0] at hset
          dsimp only at hset
          rw [e0] at hset
          have h1 : ¬ (((0 : Nat) : Int) < len) := by omega
          clear hstop hgo hc0 HCA
          go_wp2_with fail
          refine hset.mono ?_
          rintro e w4 ⟨rfl, hS4, hF4⟩
          have HI4 : Hid (LaI w wr w4 A ad2 sh p [] (newC 3)) := HI.out.set HL.out HAq.out hsz hS4 hF4
          clear hset hS4 hF4
          have hg4 := getU A sh p 0 3 3 [] (newC 3) k w4 HI4.out.sh_ hkl
          have ev : valK k [] = [] := rfl
          have eg : (getK Lf.k k []).isSome = false := rfl
          rw [ev, eg] at hg4
          clear ev eg
          go_wp2_with fail
          refine hg4.mono ?_
          rintro e w5 ⟨rfl, hb5⟩
          have HI5 : Hid (LaI w wr w5 A ad2 sh p [] (newC 3)) := HI4.out.next HL.out hb5
          clear hg4 hb5
          have hf5 := freeU A sh p 0 3 3 [] (newC 3) w5 HI5.out.sh_
          have ef : (frL [] 3).length = 2 := rfl
          rw [ef] at hf5
          clear ef
          go_wp2_with fail
          refine hf5.mono ?_
          rintro e w6 ⟨rfl, hb6⟩
          have HI6 : Hid (LaI w wr w6 A ad2 sh p [] (newC 3)) := HI5.out.next HL.out hb6
          have hs6 := HS.out w6 HI6.out.below
          clear hf5 hb6
          go_wp2_with fail
          refine hs6.mono ?_
          rintro e w7 ⟨rfl, hb7⟩
          have HE : Hid (Below w.heap.size w w7) := hb7
          clear hs6 hb7
          go_wp2
          go_ret
          exact ⟨rfl, HE.out⟩
        | succ n =>
          have hcs := csOf_succ k Z n
          have hl1 := last1 (k := k) (v := Z n) (c := newC 3) (csOf_k (k := k) (Z := Z) (i := n)) (by omega) (HZ.out n (by omega))
          have hl2 := fun c => last2 (v := Z n) (c := c) (csOf_k (k := k) (Z := Z) (i := n))
          obtain ⟨c4, hc4⟩ : ∃ c4, (setI 0 3 [] (newC 3) (csOf k Z n ++ [⟨k, Z n, false⟩])).2.2 = c4 := ⟨_, rfl⟩
          rw [hcs, hl1.1, hl1.2, hc4, e0] at hset
          have HL2 : Hid (∀ c, setI 0 3 [⟨k, 1, Z n⟩] c (csOf k Z (n + 1)) = (0, [⟨k, 1, Z n⟩], c)) := fun c => by rw [hcs]; exact hl2 c
          have hxn : (csOf k Z (n + 1))[n]? = some ⟨k, Z n, false⟩ := by rw [hcs, List.getElem?_append_right (by rw [csOf_length]; omega), csOf_length]; simp
          obtain ⟨b2, off2, rfl, hcell⟩ := HCA.out (by rw [csOf_length]; omega)
          have hcn := (hcell n _ hxn).2.1
          have HOK : Hid (COk (csOf k Z (n + 1))) := csOf_ok hi10 (by omega) HZ.out
          have hpl : ((n + 1 : Nat) : Int) ≠ 0 := by omega
          have hsub : IntKind.i64.wrap (((n + 1 : Nat) : Int) - 1) = (n : Int) := by rw [IntKind.wrap_i64]; omega
          have hnn : (n : Int) < ((n + 1 : Nat) : Int) := by omega
          have hcl : (csOf k Z (n + 1)).length = n + 1 := csOf_length k Z (n + 1)
          have HCL : Hid ((csOf k Z (n + 1)).length = n + 1) := hcl
          clear hl1 hl2 hc4 hcs hxn hcell hcl HZL HZ HV
          generalize csOf k Z (n + 1) = cs at *
          generalize Z n = v at *
          clear hgo
          rcases hstop with hstop | hstop
          · have h1 : ¬ (((n + 1 : Nat) : Int) < len) := by omega
            clear hstop
            go_wp2_with fail
            refine hset.mono ?_
            rintro e w4 ⟨rfl, hS4, hF4⟩
            have HI4 : Hid (LaI w wr w4 A (some ⟨b2, off2, none⟩) sh p [⟨k, 1, v⟩] c4) := HI.out.set HL.out HAq.out hsz hS4 hF4
            clear hset hS4 hF4
            have hg4 := getU A sh p 0 3 3 [⟨k, 1, v⟩] c4 k w4 HI4.out.sh_ hkl
            rw [last4.1, last4.2] at hg4
            go_wp2_with fail
            refine hg4.mono ?_
            rintro e w5 ⟨rfl, hb5⟩
            have HI5 : Hid (LaI w wr w5 A (some ⟨b2, off2, none⟩) sh p [⟨k, 1, v⟩] c4) := HI4.out.next HL.out hb5
            clear hg4 hb5
            have hf5 := freeU A sh p 0 3 3 [⟨k, 1, v⟩] c4 w5 HI5.out.sh_
            rw [last5] at hf5
            have hd5 : w5.cell? ⟨b2, off2 + n * 3 + 1, none⟩ = some (encStr v) := by
              have hx : w5.cell? ⟨b2, off2 + n * 3 + 1, none⟩ = wr.cell? ⟨b2, off2 + n * 3 + 1, none⟩ := World.cell?_of_block (a := ⟨b2, off2 + n * 3 + 1, none⟩) (HI5.out.row ⟨b2, off2, none⟩ rfl)
              rw [hx]; exact hcn
            have hne := neq_str v w5
            go_wp2_with fail
            refine hf5.mono ?_
            rintro e w6 ⟨rfl, hb6⟩
            have HI6 : Hid (LaI w wr w6 A (some ⟨b2, off2, none⟩) sh p [⟨k, 1, v⟩] c4) := HI5.out.next HL.out hb6
            clear hf5 hb6 hd5 hne
            have hs6 := setU A sh p 0 3 3 [⟨k, 1, v⟩] c4 (some ⟨b2, off2, none⟩) cap2 cs w6 HI6.out.sh_ (HA.out w6 HI6.out.size) (HCA.out.keep fun a e _ => HI6.out.row a e) HOK.out
            rw [HL2.out, HCL.out] at hs6
            dsimp only at hs6
            rw [e0] at hs6
            go_wp2_with fail
            refine hs6.mono ?_
            rintro e w7 ⟨rfl, hS7, hF7⟩
            have HI7 : Hid (LaI w wr w7 A (some ⟨b2, off2, none⟩) sh p [⟨k, 1, v⟩] c4) := HI6.out.set HL.out HAq.out HI6.out.below.size hS7 hF7
            clear hs6 hS7 hF7
            have hf7 := freeU A sh p 0 3 3 [⟨k, 1, v⟩] c4 w7 HI7.out.sh_
            rw [last5] at hf7
            go_wp2_with fail
            refine hf7.mono ?_
            rintro e w8 ⟨rfl, hb8⟩
            have HI8 : Hid (LaI w wr w8 A (some ⟨b2, off2, none⟩) sh p [⟨k, 1, v⟩] c4) := HI7.out.next HL.out hb8
            clear hf7 hb8
            obtain ⟨w9, hw9⟩ : ∃ w9, w8.alloc (.cells #[encStr k, .string ⟨#[]⟩, .bool true] 70) = w9 := ⟨_, rfl⟩
            have hb9 : Below w8.heap.size w8 w9 := by rw [← hw9]; exact (Below.refl _ w8).alloc (Nat.le_refl _) _
            have hc9 : CgAt w9 (some ⟨w8.heap.size, 0, none⟩) [⟨k, [], true⟩] := by rw [← hw9]; exact CgAt.new [⟨k, [], true⟩] w8 _ _
            have HI9 : Hid (LaI w wr w9 A (some ⟨b2, off2, none⟩) sh p [⟨k, 1, v⟩] c4) := HI8.out.next HL.out hb9
            have hs9 := setU A sh p 0 3 3 [⟨k, 1, v⟩] c4 (some ⟨w8.heap.size, 0, none⟩) 1 [⟨k, [], true⟩] w9 HI9.out.sh_ (HA.out w9 HI9.out.size) hc9 ⟨by simp, fun x hx => by rw [List.mem_singleton.1 hx]; exact ⟨by show k.length ≤ _; omega, by simp⟩⟩
            obtain ⟨c9, hc9'⟩ : ∃ c9, (setI 0 3 [⟨k, 1, v⟩] c4 [⟨k, [], true⟩]).2.2 = c9 := ⟨_, rfl⟩
            rw [last3.1, last3.2, hc9', e0] at hs9
            clear hb9 hc9 hc9'
            go_wp2_with fail
            clear hw9
            refine hs9.mono ?_
            rintro e w10 ⟨rfl, hS10, hF10⟩
            have HI10 : Hid (LaI w wr w10 A (some ⟨b2, off2, none⟩) sh p [] c9) := HI9.out.set HL.out HAq.out HI9.out.below.size hS10 hF10
            clear hs9 hS10 hF10
            have hf10 := freeU A sh p 0 3 3 [] c9 w10 HI10.out.sh_
            have ef : (frL [] 3).length = 2 := rfl
            rw [ef] at hf10
            clear ef
            go_wp2_with fail
            refine hf10.mono ?_
            rintro e w11 ⟨rfl, hb11⟩
            have HI11 : Hid (LaI w wr w11 A (some ⟨b2, off2, none⟩) sh p [] c9) := HI10.out.next HL.out hb11
            clear hf10 hb11
            have hk11 := keysN A sh p 0 3 3 [] c9 w11 HI11.out.sh_
            go_wp2_with fail
            refine hk11.mono ?_
            rintro e w12 ⟨ad12, cap12, rfl, hb12⟩
            have HI12 : Hid (LaI w wr w12 A (some ⟨b2, off2, none⟩) sh p [] c9) := HI11.out.next HL.out hb12
            have hs12 := HS.out w12 HI12.out.below
            clear hk11 hb12
            go_wp2_with fail
            refine hs12.mono ?_
            rintro e w13 ⟨rfl, hb13⟩
            have HE : Hid (Below w.heap.size w w13) := hb13
            clear hs12 hb13
            go_wp2
            go_ret
            exact ⟨rfl, HE.out⟩
          · have h1 : ((n + 1 : Nat) : Int) < len := by omega
            have h2 : ¬ (((n + 1 : Nat) : Int) < 10) := by omega
            clear hstop
            go_wp2_with fail
            refine hset.mono ?_
            rintro e w4 ⟨rfl, hS4, hF4⟩
            have HI4 : Hid (LaI w wr w4 A (some ⟨b2, off2, none⟩) sh p [⟨k, 1, v⟩] c4) := HI.out.set HL.out HAq.out hsz hS4 hF4
            clear hset hS4 hF4
            have hg4 := getU A sh p 0 3 3 [⟨k, 1, v⟩] c4 k w4 HI4.out.sh_ hkl
            rw [last4.1, last4.2] at hg4
            go_wp2_with fail
            refine hg4.mono ?_
            rintro e w5 ⟨rfl, hb5⟩
            have HI5 : Hid (LaI w wr w5 A (some ⟨b2, off2, none⟩) sh p [⟨k, 1, v⟩] c4) := HI4.out.next HL.out hb5
            clear hg4 hb5
            have hf5 := freeU A sh p 0 3 3 [⟨k, 1, v⟩] c4 w5 HI5.out.sh_
            rw [last5] at hf5
            have hd5 : w5.cell? ⟨b2, off2 + n * 3 + 1, none⟩ = some (encStr v) := by
              have hx : w5.cell? ⟨b2, off2 + n * 3 + 1, none⟩ = wr.cell? ⟨b2, off2 + n * 3 + 1, none⟩ := World.cell?_of_block (a := ⟨b2, off2 + n * 3 + 1, none⟩) (HI5.out.row ⟨b2, off2, none⟩ rfl)
              rw [hx]; exact hcn
            have hne := neq_str v w5
            go_wp2_with fail
            refine hf5.mono ?_
            rintro e w6 ⟨rfl, hb6⟩
            have HI6 : Hid (LaI w wr w6 A (some ⟨b2, off2, none⟩) sh p [⟨k, 1, v⟩] c4) := HI5.out.next HL.out hb6
            clear hf5 hb6 hd5 hne
            have hs6 := setU A sh p 0 3 3 [⟨k, 1, v⟩] c4 (some ⟨b2, off2, none⟩) cap2 cs w6 HI6.out.sh_ (HA.out w6 HI6.out.size) (HCA.out.keep fun a e _ => HI6.out.row a e) HOK.out
            rw [HL2.out, HCL.out] at hs6
            dsimp only at hs6
            rw [e0] at hs6
            go_wp2_with fail
            refine hs6.mono ?_
            rintro e w7 ⟨rfl, hS7, hF7⟩
            have HI7 : Hid (LaI w wr w7 A (some ⟨b2, off2, none⟩) sh p [⟨k, 1, v⟩] c4) := HI6.out.set HL.out HAq.out HI6.out.below.size hS7 hF7
            clear hs6 hS7 hF7
            have hf7 := freeU A sh p 0 3 3 [⟨k, 1, v⟩] c4 w7 HI7.out.sh_
            rw [last5] at hf7
            go_wp2_with fail
            refine hf7.mono ?_
            rintro e w8 ⟨rfl, hb8⟩
            have HI8 : Hid (LaI w wr w8 A (some ⟨b2, off2, none⟩) sh p [⟨k, 1, v⟩] c4) := HI7.out.next HL.out hb8
            clear hf7 hb8
            obtain ⟨w9, hw9⟩ : ∃ w9, w8.alloc (.cells #[encStr k, .string ⟨#[]⟩, .bool true] 70) = w9 := ⟨_, rfl⟩
            have hb9 : Below w8.heap.size w8 w9 := by rw [← hw9]; exact (Below.refl _ w8).alloc (Nat.le_refl _) _
            have hc9 : CgAt w9 (some ⟨w8.heap.size, 0, none⟩) [⟨k, [], true⟩] := by rw [← hw9]; exact CgAt.new [⟨k, [], true⟩] w8 _ _
            have HI9 : Hid (LaI w wr w9 A (some ⟨b2, off2, none⟩) sh p [⟨k, 1, v⟩] c4) := HI8.out.next HL.out hb9
            have hs9 := setU A sh p 0 3 3 [⟨k, 1, v⟩] c4 (some ⟨w8.heap.size, 0, none⟩) 1 [⟨k, [], true⟩] w9 HI9.out.sh_ (HA.out w9 HI9.out.size) hc9 ⟨by simp, fun x hx => by rw [List.mem_singleton.1 hx]; exact ⟨by show k.length ≤ _; omega, by simp⟩⟩
            obtain ⟨c9, hc9'⟩ : ∃ c9, (setI 0 3 [⟨k, 1, v⟩] c4 [⟨k, [], true⟩]).2.2 = c9 := ⟨_, rfl⟩
            rw [last3.1, last3.2, hc9', e0] at hs9
            clear hb9 hc9 hc9'
            go_wp2_with fail
            clear hw9
            refine hs9.mono ?_
            rintro e w10 ⟨rfl, hS10, hF10⟩
            have HI10 : Hid (LaI w wr w10 A (some ⟨b2, off2, none⟩) sh p [] c9) := HI9.out.set HL.out HAq.out HI9.out.below.size hS10 hF10
            clear hs9 hS10 hF10
            have hf10 := freeU A sh p 0 3 3 [] c9 w10 HI10.out.sh_
            have ef : (frL [] 3).length = 2 := rfl
            rw [ef] at hf10
            clear ef
            go_wp2_with fail
            refine hf10.mono ?_
            rintro e w11 ⟨rfl, hb11⟩
            have HI11 : Hid (LaI w wr w11 A (some ⟨b2, off2, none⟩) sh p [] c9) := HI10.out.next HL.out hb11
            clear hf10 hb11
            have hk11 := keysN A sh p 0 3 3 [] c9 w11 HI11.out.sh_
            go_wp2_with fail
            refine hk11.mono ?_
            rintro e w12 ⟨ad12, cap12, rfl, hb12⟩
            have HI12 : Hid (LaI w wr w12 A (some ⟨b2, off2, none⟩) sh p [] c9) := HI11.out.next HL.out hb12
            have hs12 := HS.out w12 HI12.out.below
            clear hk11 hb12
            go_wp2_with fail
            refine hs12.mono ?_
            rintro e w13 ⟨rfl, hb13⟩
            have HE : Hid (Below w.heap.size w w13) := hb13
            clear hs12 hb13
            go_wp2
            go_ret
            exact ⟨rfl, HE.out⟩
end Go.Proofs.YtbfajoeilpkofaaGreatDoor
