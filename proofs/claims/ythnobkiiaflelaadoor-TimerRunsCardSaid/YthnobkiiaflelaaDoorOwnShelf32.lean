/- A queue's Pop. -/
import Derived.Test.YthnobkiiaflelaaDoorOwnShelf26
import Derived.Test.YthnobkiiaflelaaDoorOwnShelf31
import Derived.Test.YthnobkiiaflelaaDoorOwnShelf02
namespace Go.Proofs.YthnobkiiaflelaaDoor
open Go.RowKit Go.Maps Go.Sort

attribute [local go_sem ↓] Go.wp_at_zero Go.wp_at_succ

theorem wpList_append_Er {ops : Array Oper} {rest : List Oper} {o : Oper} {a : Act} {w : World} {Q : Exit → Act → World → Prop} (hgd : o.guard = none) (s x : Operand) (ho : o.op = .call { callee := .builtin .append, args := #[s, x], argTypes := #[34, 34] })
    (B : Nat) (v : Value) (L : List Ev) (r c : Nat) (y : Ev) (hs : a.eval s = v) (hx : a.eval x = .slice (some ⟨r, 0, none⟩) 1 c) (hown : w.ownsRow B 58 3 v L.length (flatE L)) (hr : EvAt w (some ⟨r, 0, none⟩) [y]) (hn : L.length ≤ 100000) (hB : B ≤ w.heap.size)
    (hk : ∀ v' w1, w1.ownsRow B 58 3 v' (L ++ [y]).length (flatE (L ++ [y])) → w.grownBy w1 v.ownBlock → (v'.ownBlock = v.ownBlock ∨ v'.ownBlock = some w.heap.size) → wpList Tryd.prog ops Q rest (a.put o.dst v') w1) : wpList Tryd.prog ops Q (o :: rest) a w := by
  obtain ⟨i0, hi0, hz0, hz1, hz2⟩ := info_parts infoEw
  obtain ⟨v', w1, hrun, h2, h3, _, h5⟩ := run_append_own_at (P := Tryd.prog) w B 34 o.type 58 i0 (.agg #[.int .i64 0, .int .i64 0, .string ⟨#[]⟩]) 3 32 Tryd.underlying34 hi0 hz0 hz1 hz2 rfl (by decide) v L.length (flatE L) hown ⟨r, 0, none⟩ 1 c (evL y) rfl
    (fun j u hj => by
      obtain ⟨b, off, e, hc⟩ := hr (by simp)
      cases e
      obtain ⟨c0, c1, c2⟩ := hc 0 y rfl
      have hj3 : j < 3 := by have := (List.getElem?_eq_some_iff.1 hj).1; simpa [evL] using this
      rw [Addr.add_lit]
      rcases j with _ | _ | _ | j
      · cases hj; exact c0
      · cases hj; exact c1
      · cases hj; exact c2
      · omega) (fun u hu => by simp [evL] at hu; rcases hu with rfl | rfl | rfl <;> rfl) (by unfold maxLen; omega) (by omega) hB
  refine wpList_plain hgd fun K hK => ?_
  unfold Oper.wp execOp
  simp only [ho, resolve, invoke, builtin, Sem.run_bind, Sem.run_pure, Result.andThen_ok, List.map_toArray, List.map_cons, List.map_nil, hs, hx, hrun]
  refine hK _ _ (hk v' w1 ?_ h3 h5)
  rw [flatE_append, List.length_append]
  exact h2
/-- While Pop goes on: i of them are out. -/
structure PoI (w wr : World) (A : Nat → Prop) (p : Nat) (L : List Ev) (last now : Int) (m : Nat) (β : Int → Nat) (R : Nat → Prop) (lv : Value) (i : Nat) : Prop where
  due : ∀ x ∈ L.take i, x.due ≤ now
  row : wr.ownsRow w.heap.size 58 3 lv (L.take i).length (flatE (L.take i))
  q : ∃ n a D, QP wr A p (L.drop i) last m β R n a D
  fr : Fr A w wr
theorem row_form {w : World} {B : Nat} {v : Value} {n : Nat} {xs : List Value} (h : w.ownsRow B 58 3 v n xs) : ∃ ad cap, v = .slice ad n cap ∧ n ≤ cap ∧ ∀ b, ad = some b → b.block < w.heap.size ∧ B ≤ b.block := by
  rcases h.2 with ⟨rfl, e⟩ | ⟨g, cap, cur, rfl, hB, hg, hc, _⟩
  · exact ⟨none, 0, by rw [e], by omega, fun b e => by cases e⟩
  · exact ⟨_, cap, rfl, hc, fun b e => by cases e; exact ⟨lt_of_block hg, hB⟩⟩
theorem row_at {w : World} {B : Nat} {L : List Ev} {ad : Option Addr} {k cap : Nat} (h : w.ownsRow B 58 3 (.slice ad k cap) L.length (flatE L)) : EvAt w ad L := by
  rcases h.2 with ⟨e, hn⟩ | ⟨g, cap, cur, e, hB, hg, hc, _⟩
  · intro h0; omega
  · cases e
    intro _
    refine ⟨g, 0, rfl, fun j x hx => ?_⟩
    have hf := flatE_get L j x hx
    have hcc := h.cells (g := g) rfl
    simp only [Addr.add_lit] at hcc
    exact ⟨hcc _ _ hf.1, by rw [Nat.add_assoc]; exact hcc _ _ hf.2.1, by rw [Nat.add_assoc]; exact hcc _ _ hf.2.2⟩
theorem QP.ids {w : World} {A : Nat → Prop} {p : Nat} {L : List Ev} {last : Int} {m : Nat} {β : Int → Nat} {R : Nat → Prop} {n : Nat} {a : Nat → Ev} {D : DataW Unit} (h : QP w A p L last m β R n a D) : L.Pairwise fun x y => x.id ≠ y.id :=
  (h.perm.pairwise_iff (fun {_ _} hne => Ne.symm hne)).1 h.wt.ids
set_option maxRecDepth 100000 in
set_option maxHeartbeats 3200000 in
theorem pop_run {w : World} {A : Nat → Prop} {p : Nat} {L : List Ev} {last : Int} {m : Nat} {β : Int → Nat} {R : Nat → Prop} {n : Nat} {a : Nat → Ev} {D : DataW Unit} (h : QP w A p L last m β R n a D) (now : Int) (hl : last ≤ 1000) :
    Calls Tryd.prog 12 #[.pointer (some ⟨p, 0, none⟩), .int .i64 now] w fun e w' => ∃ A' ad cap, e = .returned (.slice ad (dueE now L).length cap) ∧ Qr Qs A p (restE now L) last w w' A' ∧ EvAt w' ad (dueE now L) ∧ (∀ a, ad = some a → ¬ A' a.block ∧ w.heap.size ≤ a.block) ∧ (dueE now L).length ≤ cap := by
  have HI0 : Hid (PoI w w A p L last now m β R (.slice none 0 0) 0) := ⟨by simp, World.ownsRow_nil _ _ _ _, ⟨n, a, D, h⟩, Fr.refl _ _⟩
  have HLOW : Hid (∀ k, A k → k < w.heap.size) := h.low
  have hlen : (L.length : Int) ≤ last := h.ok.le
  clear h
  go_enter Tryd.func12, Tryd.ntmps12
  go_wp2_with fail
  go_loopw [5, 6, 7] (fun lv _ _ wr => ∃ i : Nat, i ≤ L.length ∧ PoI w wr A p L last now m β R lv i) (fun lv _ _ _ => L.length - (match lv with | .slice _ k _ => k | _ => 0))
  case atStart => exact ⟨0, Nat.zero_le _, HI0.out⟩
  case round =>
    clear HI0
    obtain ⟨i, hi, hI⟩ := hrel
    obtain ⟨n1, a1, D1, hq⟩ := hI.q
    obtain ⟨ad, cap, hlv, hcap, hfar⟩ := row_form hI.row
    have htl : (L.take i).length = i := by rw [List.length_take, Nat.min_eq_left hi]
    have HI : Hid (PoI w wr A p L last now m β R u5 i) := hI
    have hnx := next_run hq
    by_cases hgo : ∃ x, L[i]? = some x ∧ x.due ≤ now
    · obtain ⟨x, hx, hdu⟩ := hgo
      have hil : i < L.length := (List.getElem?_eq_some_iff.1 hx).1
      have hdr : L.drop i = x :: L.drop (i + 1) := by
        rw [List.drop_eq_getElem_cons hil]
        congr 1
        rw [List.getElem?_eq_getElem hil] at hx
        exact Option.some.inj hx
      obtain ⟨h0, ha0⟩ := hq.first hdr
      obtain ⟨n2, rfl⟩ := Nat.exists_eq_succ_of_ne_zero (Nat.pos_iff_ne_zero.1 h0)
      have hrm := remove_run hq 0 (Nat.zero_le _) hl
      rw [ha0] at hrm
      have hcut : cutE x.id (L.drop i) = L.drop (i + 1) := by
        rw [hdr]; exact cut_row (by rw [← hdr]; exact hq.ids)
      rw [hcut] at hrm
      have hd1 : hdE (L.drop i) = x.due := by rw [hdr]; rfl
      have hd2 : decide (0 < (L.drop i).length) = true := by rw [hdr]; simp
      rw [hd1, hd2] at hnx
      have htk : L.take (i + 1) = L.take i ++ [x] := by rw [List.take_add_one, hx]; rfl
      have HX : Hid (L.take (i + 1) = L.take i ++ [x] ∧ x.due ≤ now) := ⟨htk, hdu⟩
      have hng : ¬ (x.due > now) := by omega
      have hnl : now ≥ x.due := hdu
      subst hlv
      rw [htl] at *
      obtain ⟨xi, hxi⟩ : ∃ z, x.id = z := ⟨_, rfl⟩
      obtain ⟨xd, hxd⟩ : ∃ z, x.due = z := ⟨_, rfl⟩
      obtain ⟨xn, hxn⟩ : ∃ z, x.nm = z := ⟨_, rfl⟩
      have hxx : x = ⟨xi, xd, xn⟩ := by rw [← hxi, ← hxd, ← hxn]
      clear hI hq hd1 hd2 hdr hx htk hcut h0 ha0 hfar
      rw [hxi, hxd, hxn] at hrm
      rw [hxd] at hnx hng hnl
      clear hxi hxd hxn hdu
      go_wp2_with (first | (go_at_call 7; refine hnx.mono ?_; rintro e wq ⟨rfl, rfl⟩) | fail)
      refine hrm.mono ?_
      rintro e w2 ⟨rfl, ⟨a2, D2, hq2⟩, hf2⟩
      obtain ⟨W, hW⟩ : ∃ W, w2.alloc (.cells #[.int .i64 xi, .int .i64 xd, encStr xn] 58) = W := ⟨_, rfl⟩
      have hbW : Below w2.heap.size w2 W := by rw [← hW]; exact (Below.refl _ w2).alloc (Nat.le_refl _) _
      have hone : EvAt W (some ⟨w2.heap.size, 0, none⟩) [x] := by rw [← hW, hxx]; exact EvAt.oneW ⟨xi, xd, xn⟩ w2
      have hrow : W.ownsRow w.heap.size 58 3 (.slice ad i cap) (L.take i).length (flatE (L.take i)) := owns_row_keep HI.out.row fun k e => by
        have hlt := HI.out.row.lt k e
        rw [hbW.block k (Nat.lt_of_lt_of_le hlt.2 hf2.size), hf2.block k hlt.2 (fun hA => by have := HLOW.out k hA; omega)]
      have hBW : w.heap.size ≤ W.heap.size := Nat.le_trans HI.out.fr.size (Nat.le_trans hf2.size hbW.size)
      have HN : Hid (∀ v' w1, w1.ownsRow w.heap.size 58 3 v' (L.take i ++ [x]).length (flatE (L.take i ++ [x])) → W.grownBy w1 (Value.slice ad i cap).ownBlock → PoI w w1 A p L last now m β R v' (i + 1)) := fun v' w1 h1 h2 => by
        have hnA : ∀ k, A k → some k ≠ (Value.slice ad i cap).ownBlock := fun k hA e => by
          have := (HI.out.row.lt k e.symm).1
          have := HLOW.out k hA
          omega
        refine ⟨fun y hy => ?_, by rw [HX.out.1]; exact h1, ⟨n2, a2, D2, hq2.keep (Nat.le_trans hbW.size h2.size) fun k hA => ?_⟩, ?_⟩
        · rw [HX.out.1] at hy
          rcases List.mem_append.1 hy with h | h
          · exact HI.out.due y h
          · have : y = x := by simpa using h
            rw [this]; exact HX.out.2
        · rw [h2.block k (Nat.lt_of_lt_of_le (hq2.low k hA) hbW.size) (hnA k hA), hbW.block k (hq2.low k hA)]
        · refine ⟨by rw [h2.os, hbW.os, hf2.os, HI.out.fr.os], by rw [h2.tape, hbW.tape, hf2.tape, HI.out.fr.tape], by rw [h2.output, hbW.output, hf2.output, HI.out.fr.output], Nat.le_trans hBW h2.size, fun k hk hA => ?_⟩
          have hk1 := Nat.lt_of_lt_of_le hk HI.out.fr.size
          have hk2 := Nat.lt_of_lt_of_le hk1 hf2.size
          rw [h2.block k (Nat.lt_of_lt_of_le hk2 hbW.size) (fun e => by have := (HI.out.row.lt k e.symm).1; omega), hbW.block k hk2, hf2.block k hk1 hA, HI.out.fr.block k hk hA]
      have hil5 : (L.take i).length ≤ 100000 := by rw [List.length_take]; omega
      clear hrm hnx hq2 hf2 hbW HI hcap htl
      go_wp2_with (first | (at_builtin; refine wpList_append_Er rfl _ _ rfl w.heap.size (.slice ad i cap) (L.take i) w2.heap.size 1 x rfl rfl hrow hone hil5 hBW ?_; intro v' w1 h1 h2 h3; have HP := HN.out v' w1 h1 h2; obtain ⟨ga, gc, hgv, -, -⟩ := row_form h1; have hl2 : (L.take i ++ [x]).length = i + 1 := (by rw [List.length_append, List.length_take, Nat.min_eq_left hi]; rfl); rw [hl2] at hgv; subst hgv; clear h1 h2 h3 hl2) | fail)
      go_roundw
      case rel => exact ⟨i + 1, hil, HP⟩
      case measure => show L.length - (i + 1) < L.length - i; omega
    · have hE := dueE_at (now := now) hi hI.due (fun y hy hd => hgo ⟨y, hy, hd⟩)
      have HE : Hid (∃ A' ad' cap', Value.slice ad i cap = .slice ad' (dueE now L).length cap' ∧ Qr Qs A p (restE now L) last w wr A' ∧ EvAt wr ad' (dueE now L) ∧ (∀ a, ad' = some a → ¬ A' a.block ∧ w.heap.size ≤ a.block) ∧ (dueE now L).length ≤ cap') := by
        rw [hE.1, hE.2, htl]
        have hr := hI.row
        rw [hlv] at hr
        refine ⟨A, ad, cap, rfl, ⟨⟨m, β, R, n1, a1, D1, hq⟩, fun _ h => .inl h, hI.fr⟩, row_at hr, fun b e => ⟨fun hA => ?_, (hfar b e).2⟩, by rw [← htl]; exact hcap⟩
        have := HLOW.out _ hA
        have := (hfar b e).2
        omega
      rw [htl] at hlv
      subst hlv
      by_cases hil : i < L.length
      · have hx : L[i]? = some L[i] := List.getElem?_eq_getElem hil
        have hd : ¬ (L[i].due ≤ now) := fun hd => hgo ⟨_, hx, hd⟩
        have hd1 : hdE (L.drop i) = L[i].due := by rw [List.drop_eq_getElem_cons hil]; rfl
        have hd2 : decide (0 < (L.drop i).length) = true := by rw [List.drop_eq_getElem_cons hil]; rfl
        rw [hd1, hd2] at hnx
        generalize L[i].due = xd at *
        have hgt : now < xd := by omega
        clear hI hq hE hgo hx hd1 hd2 HI hcap htl hfar
        go_wp2_with (first | (go_at_call 7; refine hnx.mono ?_; rintro e wq ⟨rfl, rfl⟩) | fail)
        go_ret
        obtain ⟨A', ad', cap', h1, h2, h3, h4, h5⟩ := HE.out
        exact ⟨A', ad', cap', by rw [← h1]; rfl, h2, h3, h4, h5⟩
      · have hd0 : L.drop i = [] := List.drop_eq_nil_of_le (by omega)
        rw [hd0] at hnx
        have hd1 : hdE [] = 0 := rfl
        have hd2 : decide (0 < ([] : List Ev).length) = false := rfl
        rw [hd1, hd2] at hnx
        clear hI hq hE hgo hd1 hd2 hd0 HI hcap htl hfar
        go_wp2_with (first | (go_at_call 7; refine hnx.mono ?_; rintro e wq ⟨rfl, rfl⟩) | fail)
        go_ret
        obtain ⟨A', ad', cap', h1, h2, h3, h4, h5⟩ := HE.out
        exact ⟨A', ad', cap', by rw [← h1]; rfl, h2, h3, h4, h5⟩
end Go.Proofs.YthnobkiiaflelaaDoor
