/- A queue's Cancel; a nil queue's calls; all that is asked but Events. -/
import Derived.Test.YthnobkiiaflelaaDoorOwnShelf33
import Derived.Test.YthnobkiiaflelaaDoorOwnShelf06
namespace Go.Proofs.YthnobkiiaflelaaDoor
open Go.RowKit Go.Maps Go.Sort

attribute [local go_sem ↓] Go.wp_at_zero Go.wp_at_succ

theorem zeroPt (w : World) : (zeroValue 66).run Tryd.prog w = .ok (.pointer none) w := by kernel_rfl
theorem cut_none {L : List Ev} {id : Int} (h : ¬ ∃ x ∈ L, x.id = id) : cutE id L = L := by
  refine List.filter_eq_self.2 fun x hx => decide_eq_true fun e => h ⟨x, hx, e⟩
theorem cut_hit {L : List Ev} {id : Int} (h : ∃ x ∈ L, x.id = id) : (cutE id L).length ≠ L.length := fun e => by
  obtain ⟨x, hx, hi⟩ := h
  have := cutE_all.1 e
  rw [← this] at hx
  exact (mem_cut.1 hx).2 hi
set_option maxRecDepth 100000 in
set_option maxHeartbeats 1600000 in
theorem cancel_run {w : World} {A : Nat → Prop} {p : Nat} {L : List Ev} {last : Int} {m : Nat} {β : Int → Nat} {R : Nat → Prop} {n : Nat} {a : Nat → Ev} {D : DataW Unit} (h : QP w A p L last m β R n a D) (id : Int) (hl : last ≤ 1000) (hid : -9223372036854775808 ≤ id ∧ id ≤ 9223372036854775807) :
    Calls Tryd.prog 10 #[.pointer (some ⟨p, 0, none⟩), .int .i64 id] w fun e w' => ∃ A', e = .returned (errV (canE id L)) ∧ Qr Qs A p (cutE id L) last w w' A' := by
  obtain ⟨v, ps, hrun, hv⟩ := World.ownsMap.look_ok h.map intK Tryd.underlying63 (zeroPt w) ptR_nil (key_int hid)
  obtain ⟨u, hq, -⟩ := h.cell
  have c2 : w.cell? ⟨p, 2, none⟩ = some (.map (some m)) := by rw [cell_of_row _ _ 2 _ _ _ hq]; rfl
  by_cases hex : ∃ x ∈ L, x.id = id
  · have hh := (h.mp.has id).2 hex
    have hce : canE id L = 0 := by unfold canE; rw [if_neg (cut_hit hex)]
    obtain ⟨x, hx, rfl⟩ := hex
    rw [h.mp.at_ x hx] at hv
    rw [hh] at hrun
    obtain rfl := ptR_inv hv
    obtain ⟨k, hk, rfl⟩ := rowA_mem (h.perm.mem_iff.2 hx)
    have c3 := (h.wt.item hk).2.2.2.1
    obtain ⟨n2, rfl⟩ := Nat.exists_eq_succ_of_ne_zero (show n ≠ 0 by omega)
    have hrm := remove_run h k (by omega) hl
    rw [hce]
    have HF : Hid (∀ w', (∃ a' D', QP w' A p (cutE (a k).id L) last m β R n2 a' D') → Fr A w w' → Qr Qs A p (cutE (a k).id L) last w w' A) := fun w' ⟨a', D', h1⟩ h2 => ⟨⟨m, β, R, n2, a', D', h1⟩, fun _ h => .inl h, h2⟩
    clear h hq hv hh hce hx hk
    generalize β (a k).id = be at *
    generalize hxi : (a k).id = xi at *
    generalize (a k).due = xd at *
    generalize encStr (a k).nm = xn at *
    clear hxi
    go_enter Tryd.func10, Tryd.ntmps10
    go_wp2_with fail
    refine hrm.mono ?_
    rintro e w2 ⟨rfl, h1, h2⟩
    have HE : Hid (Qr Qs A p (cutE xi L) last w w2 A) := HF.out w2 h1 h2
    clear h1 h2
    go_wp2
    go_ret
    first | exact ⟨A, rfl, HE.out⟩ | exact ⟨rfl, A, HE.out⟩
  · have hh : Maps.has D (.int .i64 id) = false := by
      cases e : Maps.has D (.int .i64 id) with
      | false => rfl
      | true => exact absurd ((h.mp.has id).1 e) hex
    have hc := cut_none hex
    have hce : canE id L = 8 := by unfold canE; rw [if_pos (by rw [hc])]
    have HE : Hid (Qr Qs A p L last w w A) := h.same (Below.refl _ _)
    obtain ⟨pb, hpb⟩ := ptR_some hv
    subst hpb
    rw [hh] at hrun
    rw [hce, hc]
    clear h hq hv hh hce hex hc
    go_enter Tryd.func10, Tryd.ntmps10
    go_wp2
    go_ret
    first | exact ⟨A, rfl, HE.out⟩ | exact ⟨rfl, A, HE.out⟩
set_option maxHeartbeats 800000 in
theorem nAdd_any (due : Int) (nm : List UInt8) (w : World) : Calls Tryd.prog 6 #[.pointer none, .int .i64 due, encStr nm] w fun e w' => ∃ n, e = .returned (.tuple #[n, errV 1]) ∧ Below w.heap.size w w' := by
  go_enter Tryd.func6, Tryd.ntmps6
  go_wp2
  go_ret2
  exact ⟨_, rfl, Below.refl _ _⟩
set_option maxHeartbeats 800000 in
theorem nLen_any (w : World) : Calls Tryd.prog 11 #[.pointer none] w fun e w' => e = .returned (.int .i64 0) ∧ w' = w := by
  go_enter Tryd.func11, Tryd.ntmps11
  go_wp2
  go_ret
  exact ⟨rfl, rfl⟩
set_option maxHeartbeats 800000 in
theorem nNext_any (w : World) : Calls Tryd.prog 7 #[.pointer none] w fun e w' => e = .returned (.tuple #[.int .i64 0, .bool false]) ∧ w' = w := by
  go_enter Tryd.func7, Tryd.ntmps7
  go_wp2_with (go_at_call 11; refine (nLen_any _).mono ?_; rintro e w' ⟨rfl, rfl⟩)
  go_ret2
  exact ⟨rfl, rfl⟩
set_option maxHeartbeats 800000 in
theorem nCancel_any (id : Int) (w : World) : Calls Tryd.prog 10 #[.pointer none, .int .i64 id] w fun e w' => e = .returned (errV 1) ∧ w' = w := by
  go_enter Tryd.func10, Tryd.ntmps10
  go_wp2
  go_ret
  exact ⟨rfl, rfl⟩
set_option maxHeartbeats 800000 in
theorem nPop_any (now : Int) (w : World) : Calls Tryd.prog 12 #[.pointer none, .int .i64 now] w fun e w' => e = .returned (.slice none 0 0) ∧ w' = w := by
  go_enter Tryd.func12, Tryd.ntmps12
  go_wp2_with fail
  go_loopw [5, 6, 7] (fun lv _ _ wr => lv = .slice none 0 0 ∧ wr = w) (fun _ _ _ _ => 0)
  case atStart => exact ⟨rfl, rfl⟩
  case round =>
    obtain ⟨rfl, rfl⟩ := hrel
    go_wp2_with (first | (go_at_call 7; refine (nNext_any _).mono ?_; rintro e w' ⟨rfl, rfl⟩) | fail)
    go_ret
    exact ⟨rfl, rfl⟩
theorem qk1 : QK1 Qs where
  toQK0 := qk0
  cancel id h hl hid := by
    obtain ⟨m, β, R, n, a, D, h⟩ := h
    exact cancel_run h id hl hid
end Go.Proofs.YthnobkiiaflelaaDoor
