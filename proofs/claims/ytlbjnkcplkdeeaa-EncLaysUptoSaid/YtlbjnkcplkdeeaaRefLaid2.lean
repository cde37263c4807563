/- What the document lays: ints below 0, bytes, sums; a thing. -/
import Derived.Test.YtlbjnkcplkdeeaaRefLaid
import Derived.Deep.RegionWith
import Derived.Deep.RegionLaw
import Derived.Deep.DrawnRows
namespace Go.Proofs.Ytlbjnkcplkdeeaa
open Go.RowKit

attribute [local go_sem ↓] Go.wp_at_zero Go.wp_at_succ

/-- 'append(v, u...)' at a step of a region that draws its order. -/
theorem step_append_B {ops : Array Oper} {o : Oper} {a : Act} {w : World} {K : Act → World → Prop} {Q : Exit → Act → World → Prop} {E : Prop} (hgd : o.guard = none) (s x : Operand) (ho : o.op = .call { callee := .builtin .append, args := #[s, x], argTypes := #[25, 25] })
    (w0 : World) (v u : Value) (L ys : List Int) (hs : a.eval s = v) (hx : a.eval x = u) (hown : Ow w0 w v L) (hu : BSrc w u ys) (hy : ∀ y, y ∈ ys → 0 ≤ y ∧ y ≤ 255) (hlen : L.length + ys.length ≤ 140737488355328)
    (h : ∀ v' w1, Ow w0 w1 v' (L ++ ys) → K (a.put o.dst v') w1) : if Region.wanted o (yielded ops a.tmps) = true then Oper.wp Try.prog o a w K Q else E := by
  have hw : Region.wanted o (yielded ops a.tmps) = true := by simp [Region.wanted, hgd]
  rw [if_pos hw]
  obtain ⟨v', w1, hr, h2⟩ := run_append_B w w0 o.type v u L ys hown hu hy hlen
  unfold Oper.wp execOp
  simp only [ho, resolve, invoke, builtin, Sem.run_bind, Sem.run_pure, Result.andThen_ok, List.map_toArray, List.map_cons, List.map_nil, hs, hx, hr]
  exact h v' w1 h2
theorem Ow.old {w0 w : World} {v : Value} {L : List Int} (h : Ow w0 w v L) {k : Nat} {ob : Obj} (hk : w0.heap[k]? = some ob) : w.heap[k]? = some ob := by
  rw [h.below.block k (lt_of_block hk)]; exact hk
theorem dgs_turn (n : Int) (k q : Nat) : (dgs false n k q).map (fun x => 255 - x) = dgs true n k q := by
  simp [dgs, dgt, trn]
theorem turn_succ (D : List Int) (q : Nat) (h : q < D.length) : (D.take (q + 1)).map (fun x => 255 - x) = (D.take q).map (fun x => 255 - x) ++ [255 - fn D q] := by
  rw [List.take_succ_eq_append_getElem h, List.map_append, fn_get D q h]; rfl

set_option maxRecDepth 100000 in
set_option maxHeartbeats 1600000 in
theorem refInt_neg (ad : Option Addr) (l : List Int) (cap : Nat) (n : Int) (w : World) (hs : SlAt w ad l.length (fn l)) (hnil : ad = none → l.length = 0 ∧ cap = 0) (hn : l.length + 64 ≤ 140737488351232) (h0 : -9223372036854775808 ≤ n) (h1 : n < 0) :
    Calls Try.prog 24 #[.slice ad l.length cap, .int .i64 n] w fun e w' => ∃ v, e = .returned v ∧ Ow w w' v (l ++ iB n) := by
  have HS : Hid (SlAt w ad l.length (fn l)) := hs
  have HU : Hid (iB n = (127 - (sz (-(n + 1)) : Int)) :: dgs true (-(n + 1)) (sz (-(n + 1))) (sz (-(n + 1)))) := by show _ = _; rw [iB, if_pos h1, show -1 - n = -(n + 1) from by omega]
  have hlen := dgs_length false (-(n + 1)) (sz (-(n + 1))) (sz (-(n + 1)))
  have hk := sz_le (-(n + 1))
  have hge : decide (n ≥ 0) = false := by simpa using h1
  clear hs
  go_enter Try.func24, Try.ntmps24
  go_wp2_with (first
    | (go_at_call 40; refine (refDigits_any (-(n + 1)) _ (by omega) (by omega)).mono ?_; rintro e w1 ⟨da, dc, rfl, hD⟩)
    | (go_at_call 41; refine (refOwn_any ad l cap _ (HS.out.below hD.below) hnil (by omega)).mono ?_; rintro e w2 ⟨vo, rfl, hO⟩)
    | (at_builtin; refine wpList_append_B rfl (.tmp 30) (.tmp 35) rfl w1 _ _ l [127 - (sz (-(n + 1)) : Int)] rfl rfl (hO.alloc _) (one_src w2 _) (by intro y hy; rw [List.mem_singleton.1 hy]; omega) (by simp; omega) ?_; intro v1 w3 hO1)
    | fail)
  generalize -(n + 1) = m at *
  generalize hDD : dgs false m (sz m) (sz m) = D at *
  have HDD : Hid (dgs false m (sz m) (sz m) = D) := hDD
  clear hDD hO
  have hDl : D.length ≤ 8 := by omega
  generalize sz m = k at *
  subst hlen
  go_loopw [7, 8] (fun v i wr => ∃ (q : Nat) (vx : Value), q ≤ D.length ∧ i = .int .i64 q ∧ v = vx ∧ Ow w1 wr vx (l ++ [127 - (D.length : Int)] ++ (D.take q).map (fun x => 255 - x))) (fun _ i _ => D.length - (intOf i).toNat)
  case atStart => exact ⟨0, _, by omega, rfl, rfl, by simpa using hO1⟩
  case round =>
    clear hO1
    obtain ⟨q, vx, hq, rfl, hv, hO⟩ := hrel
    have hv' := hv.symm
    subst hv'
    clear hv
    by_cases hlt : q < D.length
    · have hbd := hD.bd _ (List.getElem_mem hlt)
      rw [← fn_get D q hlt] at hbd
      obtain ⟨ads, cs, es, hsr⟩ := hD.src hO.below
      cases es
      rcases hsr with ⟨_, he⟩ | ⟨a, rfl, hcells⟩
      · rw [he] at hlt; simp at hlt
      · have hcq := hcells q (.int .u8 (fn D q)) (by rw [fn_get D q hlt]; simp [hlt])
        obtain ⟨b, off, spot⟩ := a
        have hspot : spot = none := by
          have := World.cell?_spot (hcells 0 (.int .u8 (fn D 0)) (by rw [fn_get D 0 (by omega)]; simp))
          simpa [Addr.add] using this
        subst hspot
        rw [Addr.add_lit] at hcq
        clear hcells
        have hw : IntKind.u8.wrap (255 - fn D q) = 255 - fn D q := by rw [wrap_u8]; omega
        have HO : Hid (Ow w1 wr vx (l ++ [127 - (D.length : Int)] ++ (D.take q).map (fun x => 255 - x))) := hO
        have HX : Hid ((D.take (q + 1)).map (fun x => 255 - x) = (D.take q).map (fun x => 255 - x) ++ [255 - fn D q]) := turn_succ D q hlt
        clear hO
        go_wp2_with (first
          | (at_builtin; refine wpList_append_B rfl (.tmp 43) (.tmp 49) rfl w1 _ _ _ [255 - fn D q] rfl rfl (HO.out.alloc _) (one_src wr _) (by intro y hy; rw [List.mem_singleton.1 hy]; omega) (by simp; omega) ?_; intro v2 w4 hO2)
          | fail)
        go_roundw
        case rel => exact ⟨q + 1, _, by omega, by go_num, rfl, by rw [HX.out]; simpa using hO2⟩
        case measure => simp [intOf]; omega
    · obtain rfl : q = D.length := by omega
      go_wp2
      go_ret
      refine ⟨vx, rfl, ?_⟩
      rw [HU.out, ← dgs_turn, HDD.out]
      simpa using hO.mono hD.below

theorem refInt_any (ad : Option Addr) (l : List Int) (cap : Nat) (n : Int) (w : World) (hs : SlAt w ad l.length (fn l)) (hnil : ad = none → l.length = 0 ∧ cap = 0) (hn : l.length + 64 ≤ 140737488351232) (h : -9223372036854775808 ≤ n ∧ n ≤ 9223372036854775807) :
    Calls Try.prog 24 #[.slice ad l.length cap, .int .i64 n] w fun e w' => ∃ v, e = .returned v ∧ Ow w w' v (l ++ iB n) := by
  by_cases h0 : 0 ≤ n
  · exact refInt_pos ad l cap n w hs hnil hn h0 h.2
  · exact refInt_neg ad l cap n w hs hnil hn h.1 (by omega)

set_option maxRecDepth 100000 in
set_option maxHeartbeats 1600000 in
theorem refHash_any (ad : Option Addr) (l : List Int) (cap : Nat) (z : Nat → Int) (w : World) (hs : SlAt w ad l.length (fn l)) (hnil : ad = none → l.length = 0 ∧ cap = 0) (hn : l.length + 64 ≤ 140737488351232) (hz : ∀ j, j < 32 → 0 ≤ z j ∧ z j ≤ 255) :
    Calls Try.prog 26 #[.slice ad l.length cap, .agg (hv z)] w fun e w' => ∃ v, e = .returned v ∧ Ow w w' v (l ++ hB z) := by
  have HS : Hid (SlAt w ad l.length (fn l)) := hs
  have HN : Hid ((w.alloc (.cells (hv z) 28)).heap[w.heap.size]? = some (.cells (hv z) 28 (0, 0))) := heap_alloc_new w (.cells (hv z) 28)
  have HZ : Hid (∀ y, y ∈ hB z → 0 ≤ y ∧ y ≤ 255) := by
    intro y hy
    simp [hB] at hy
    obtain ⟨j, hj, rfl⟩ := hy
    exact hz j hj
  have hbl : Below w.heap.size w (w.alloc (.cells (hv z) 28)) := (Below.refl _ w).alloc (Nat.le_refl _) _
  clear hs hz
  go_enter Try.func26, Try.ntmps26
  go_wp2_with (first | (refine Go.Great.wpList_boxTo rfl _ _ rfl _ rfl _ rfl (hv z) rfl ?_) | fail)
  go_region_law (first
    | (refine step_append_B rfl (.tmp 6) (.tmp 7) rfl (w.alloc (.cells (hv z) 28)).drew _ _ l (hB z) (by rfl) (by rfl) hO (hash_src (hB_bl z) (hO.old HN.out)) HZ.out (by rw [hB_length]; omega) ?_; intro v2 w3 hO2)
    | (go_simp; go_at_call 41; refine (refOwn_any ad l cap _ ((HS.out.below hbl).below (Below.refl _ _).drew) hnil (by omega)).mono ?_; rintro e w2 ⟨vo, rfl, hO⟩))
  all_goals
    have hR := (hO2.mono (Below.refl _ _).drew).mono hbl
    clear hO hO2
    go_wp2
    go_ret
    exact ⟨v2, rfl, hR⟩
end Go.Proofs.Ytlbjnkcplkdeeaa
