/- The document's Root: the root page's bytes. -/
import Derived.Test.YtmekplaonlpfkaaGreatDoorOwnShelf44
import Derived.Test.YtmekplaonlpfkaaGreatDoorOwnShelf41
import Derived.Test.YtmekplaonlpfkaaGreatDoorOwnShelf43
import Derived.Test.YtmekplaonlpfkaaGreatDoorOwnShelf48
namespace Go.Proofs.YtmekplaonlpfkaaGreatDoor
open Go.RowKit Go.Maps Go.Sort

attribute [local go_sem ↓] Go.wp_at_zero Go.wp_at_succ

/-- The places below q that hold something. -/
def plQ (L : List Lf) (q : Nat) : List Int := ((List.range' 1 (q - 1)).filter fun i => heldB L i).map fun x : Nat => (x : Int)
theorem plQ_all {n : Nat} {L : List Lf} (h : LOk n L) : plI L = plQ L n := by
  have h1 : ((List.range' 1 (n - 1)).filter fun i => heldB L i).Perm (L.map Lf.p) := by
    refine (List.perm_ext_iff_of_nodup (List.filter_sublist.nodup List.nodup_range') h.apart).2 fun i => ?_
    rw [List.mem_filter, heldB_iff]
    refine ⟨fun h => h.2, fun hi => ⟨?_, hi⟩⟩
    obtain ⟨x, hx, rfl⟩ := List.mem_map.1 hi
    have := h.place x hx
    rw [List.mem_range'_1]
    omega
  have h2 : (L.map fun x => (x.p : Int)).Perm (plQ L n) := by
    have := h1.symm.map (fun x : Nat => (x : Int))
    rw [List.map_map] at this
    exact this
  unfold plI
  rw [srtI_perm h2]
  refine srtI_up ?_
  unfold plQ
  rw [List.pairwise_map]
  refine List.Pairwise.imp ?_ (List.Pairwise.filter _ (List.pairwise_lt_range' (s := 1) (n := n - 1)))
  intro a b hab
  omega
theorem plQ_one (L : List Lf) : plQ L 1 = [] := rfl
theorem plQ_succ (L : List Lf) (q : Nat) (hq : 1 ≤ q) : plQ L (q + 1) = plQ L q ++ (if heldB L q = true then [(q : Int)] else []) := by
  unfold plQ
  have e : q + 1 - 1 = (q - 1) + 1 := by omega
  rw [e, List.range'_concat, List.filter_append, List.map_append]
  have e2 : 1 + 1 * (q - 1) = q := by omega
  rw [e2]
  congr 1
  by_cases hh : heldB L q = true
  · simp [hh]
  · simp [hh]
theorem fil_held {q : Nat} : ∀ {L : List Lf}, (L.map Lf.p).Nodup → (L.filter fun x => x.p == q).map (fun x => (x.p : Int)) = if heldB L q = true then [(q : Int)] else []
  | [], _ => rfl
  | x :: r, h => by
    rw [List.map_cons, List.nodup_cons] at h
    have ih := fil_held (q := q) h.2
    have hc : heldB (x :: r) q = (x.p == q || heldB r q) := rfl
    rw [List.filter_cons, hc]
    by_cases e : x.p = q
    · subst e
      have hr : heldB r x.p = false := by
        cases hh : heldB r x.p with
        | false => rfl
        | true => exact absurd (heldB_iff.1 hh) h.1
      rw [hr] at ih
      simp only [Bool.false_eq_true, if_false, List.map_eq_nil_iff] at ih
      simp [ih]
    · have e' : (x.p == q) = false := by simpa using e
      simp only [e', Bool.false_or]
      exact ih
theorem uBs_append (a b : List Int) : uBs (a ++ b) = uBs a ++ uBs b := by simp [uBs]
theorem uBs_one (x : Int) : uBs [x] = uB x := by simp [uBs]
/-- A value that owns bytes, as a slice. -/
theorem docUint_ow {w0 w : World} {v : Value} {l : List Int} (n : Int) (h : Ow w0 w v l) (hn : l.length ≤ 1000000) (h0 : 0 ≤ n) (h1 : n ≤ 100000) : Calls Tryz.prog 55 #[v, .int .u64 n] w fun e w' => ∃ v', e = .returned v' ∧ Ow w0 w' v' (l ++ uB n) := by
  obtain ⟨ad, cp, rfl⟩ := h.form
  have hF := h.fresh
  refine (docUint_any ad l cp n w hF.2.1 hF.2.2.1 (by omega) h0 (by omega)).mono ?_
  rintro e w' ⟨v', rfl, hO⟩
  exact ⟨v', rfl, hO.mono h.below⟩
set_option maxRecDepth 100000 in
set_option maxHeartbeats 1600000 in
theorem root_doc (ad : Option Addr) (cap n : Nat) (L : List Lf) (w : World) (h : LrAt w ad L) (hok : LOk n L) (hn : 2 ≤ n ∧ n ≤ 100) (hl : L.length ≤ 100) :
    Calls Tryz.prog 24 #[.slice ad L.length cap, .int .i64 (n : Int)] w fun e w' => ∃ x, e = .returned x ∧ Ow w w' x (rootB L) := by
  have HL : Hid (LrAt w ad L) := h
  have hR : rootB L = uB (L.length : Int) ++ uBs (plQ L n) := by unfold rootB; rw [plQ_all hok]
  have HR : Hid (rootB L = uB (L.length : Int) ++ uBs (plQ L n)) := hR
  have HN : Hid ((L.map Lf.p).Nodup) := hok.apart
  have hu0 := docUint_ow (L.length : Int) (Ow.nil w) (by simp) (by omega) (by omega)
  rw [List.nil_append] at hu0
  have hw0 : IntKind.u64.wrap (L.length : Int) = (L.length : Int) := by rw [IntKind.wrap_u64]; omega
  clear h hok hR
  go_enter Tryz.func24, Tryz.ntmps24
  go_wp2_with fail
  refine hu0.mono ?_
  rintro e w1 ⟨v1, rfl, hO1⟩
  have hO1' : Ow w w1 v1 (uB (L.length : Int) ++ uBs (plQ L 1)) := by rw [plQ_one]; simpa [uBs] using hO1
  have HO1 : Hid (Ow w w1 v1 (uB (L.length : Int) ++ uBs (plQ L 1))) := hO1'
  clear hu0 hO1 hO1' hw0
  go_wp2
  go_loopw [5, 6, 7] (fun bv qv _ wr => ∃ q : Nat, 1 ≤ q ∧ q ≤ n ∧ qv = .int .i64 q ∧ Ow w wr bv (uB (L.length : Int) ++ uBs (plQ L q))) (fun _ qv _ _ => n + 1 - (intOf qv).toNat)
  case atStart => exact ⟨1, by omega, by omega, rfl, HO1.out⟩
  case round =>
    clear HO1
    obtain ⟨q, hq1, hq2, rfl, hO⟩ := hrel
    have HO : Hid (Ow w wr u5 (uB (L.length : Int) ++ uBs (plQ L q))) := hO
    clear hO
    by_cases hlt : q < n
    · have hlt' : (q : Int) < n := by omega
      have hI0 : Ow w wr u5 (uB (L.length : Int) ++ uBs (plQ L q) ++ uBs (((L.take 0).filter fun x => x.p == q).map fun x => (x.p : Int))) := by simpa [uBs] using HO.out
      have HI0 : Hid (Ow w wr u5 (uB (L.length : Int) ++ uBs (plQ L q) ++ uBs (((L.take 0).filter fun x => x.p == q).map fun x => (x.p : Int)))) := hI0
      clear hI0
      have hplq : (plQ L q).length ≤ 100 := by
        unfold plQ
        have h1 := List.length_filter_le (fun i => heldB L i) (List.range' 1 (q - 1))
        rw [List.length_range'] at h1
        rw [List.length_map]; omega
      go_wp2_with fail
      go_loopw [5, 7] (fun bv iv wr => ∃ i : Nat, i ≤ L.length ∧ iv = .int .i64 i ∧ Ow w wr bv (uB (L.length : Int) ++ uBs (plQ L q) ++ uBs (((L.take i).filter fun x => x.p == q).map fun x => (x.p : Int)))) (fun _ iv _ => L.length + 1 - (intOf iv).toNat)
      case atStart => exact ⟨0, Nat.zero_le _, rfl, HI0.out⟩
      case round =>
        clear HI0
        obtain ⟨i, hi, rfl, hI⟩ := hrel
        by_cases hil : i < L.length
        · have hil' : (i : Int) < L.length := by omega
          obtain ⟨x, hx⟩ : ∃ x, L[i]? = some x := ⟨_, List.getElem?_eq_getElem hil⟩
          obtain ⟨bb, off, rfl, hc⟩ := (HL.out.below hI.below) (by omega)
          have c2 := (hc i x hx).2.2
          have htk : L.take (i + 1) = L.take i ++ [x] := by rw [List.take_add_one, hx]; rfl
          have HTK : Hid (L.take (i + 1) = L.take i ++ [x]) := htk
          clear hc hx htk
          by_cases e : x.p = q
          · have hlen : (uB (L.length : Int) ++ uBs (plQ L q) ++ uBs (((L.take i).filter fun x => x.p == q).map fun x => (x.p : Int))).length ≤ 1000000 := by
              have h1 := uB_le (L.length : Int)
              have h2 := uBs_le (plQ L q)
              have h3 := uBs_le (((L.take i).filter fun x => x.p == q).map fun x => (x.p : Int))
              have h4 := List.length_filter_le (fun x : Lf => x.p == q) (L.take i)
              rw [List.length_map] at h3
              rw [List.length_take] at h4
              simp only [List.length_append]; omega
            have hu := docUint_ow (q : Int) hI hlen (by omega) (by omega)
            have hnx : ((L.take (i + 1)).filter fun x => x.p == q).map (fun x => (x.p : Int)) = (((L.take i).filter fun x => x.p == q).map fun x => (x.p : Int)) ++ [(q : Int)] := by rw [HTK.out]; simp [e]
            have HNX : Hid (((L.take (i + 1)).filter fun x => x.p == q).map (fun x => (x.p : Int)) = (((L.take i).filter fun x => x.p == q).map fun x => (x.p : Int)) ++ [(q : Int)]) := hnx
            rw [e] at c2
            have hw1 : IntKind.u64.wrap (q : Int) = (q : Int) := by rw [IntKind.wrap_u64]; omega
            clear hlen hI e hnx
            go_wp2_with fail
            refine hu.mono ?_
            rintro e w4 ⟨v4, rfl, hO4⟩
            have hE : Ow w w4 v4 (uB (L.length : Int) ++ uBs (plQ L q) ++ uBs (((L.take (i + 1)).filter fun x => x.p == q).map fun x => (x.p : Int))) := by rw [HNX.out, uBs_append, uBs_one, ← List.append_assoc]; exact hO4
            have HE : Hid (Ow w w4 v4 (uB (L.length : Int) ++ uBs (plQ L q) ++ uBs (((L.take (i + 1)).filter fun x => x.p == q).map fun x => (x.p : Int)))) := hE
            clear hu hO4 hE
            go_wp2
            go_roundw
            case rel => exact ⟨i + 1, by omega, by go_num, HE.out⟩
            case measure => simp [intOf]; omega
          · have HE : Hid (Ow w wr u5 (uB (L.length : Int) ++ uBs (plQ L q) ++ uBs (((L.take (i + 1)).filter fun x => x.p == q).map fun x => (x.p : Int)))) := by
              have h2 : ((L.take (i + 1)).filter fun x => x.p == q) = (L.take i).filter fun x => x.p == q := by rw [HTK.out]; simp [e]
              rw [h2]; exact hI
            have hne : ¬ ((x.p : Int) = (q : Int)) := by omega
            clear hI e
            generalize x.p = xp at *
            go_wp2
            go_roundw
            case rel => exact ⟨i + 1, by omega, by go_num, HE.out⟩
            case measure => simp [intOf]; omega
        · obtain rfl : i = L.length := by omega
          have hnn : ¬ ((L.length : Int) < L.length) := by omega
          have HE : Hid (Ow w wr u5 (uB (L.length : Int) ++ uBs (plQ L (q + 1)))) := by
            rw [List.take_length, fil_held HN.out] at hI
            rw [plQ_succ L q hq1, uBs_append, ← List.append_assoc]; exact hI
          clear hI
          go_wp2
          exact ⟨⟨q + 1, by omega, by omega, by go_num, HE.out⟩, by simp [intOf]; omega⟩
    · obtain rfl : q = n := by omega
      have hnn : ¬ ((q : Int) < q) := by omega
      have HE : Hid (Ow w wr u5 (rootB L)) := by rw [HR.out]; exact HO.out
      go_wp2
      go_ret
      exact ⟨_, rfl, HE.out⟩
end Go.Proofs.YtmekplaonlpfkaaGreatDoor
/- ShelfSets: what it stands on. -/
namespace Go.Proofs.YtmekplaonlpfkaaGreatDoor
open Go.RowKit Go.Maps Go.Sort

/-- The shelf and the document's row, between two rounds. -/
structure StI (w wr : World) (A : Nat → Prop) (p s n : Nat) (c : Ct) (L : List Lf) (v : Value) : Prop where
  sh : ShU A wr s p 1 n (n + 3) L c
  laid : Laid c 1 n L
  row : LrB (fun k => ¬ A k) wr v L
  low : LowA A w.heap.size wr
  below : Below w.heap.size w wr
theorem StI.next {w wr w' : World} {A : Nat → Prop} {p s n : Nat} {c : Ct} {L : List Lf} {v : Value} (h : StI w wr A p s n c L v) (hb : Below wr.heap.size wr w') : StI w w' A p s n c L v := ⟨h.sh.below hb, h.laid, h.row.below hb, h.low.more hb.size, Below.transS h.below hb⟩
theorem looseU (A : Nat → Prop) (s p fr n N : Nat) (L : List Lf) (c : Ct) (w : World) (h : ShU A w s p fr n N L c) : Calls Tryz.prog 22 #[.pointer (some ⟨p, 0, none⟩)] w fun e w' => e = .returned (.int .i64 0) ∧ w' = w := by
  obtain ⟨G, m, h1, _, _, _, h5⟩ := h
  obtain ⟨T, hT, rfl⟩ := h1.st
  have hl : T.loose = [] := by
    have := h5.loose
    simp only [St.ct, List.map_eq_nil_iff] at this
    exact this
  have := loose_st G p T w hT
  rw [hl] at this
  exact this
theorem readU (A : Nat → Prop) (s p fr n N : Nat) (L : List Lf) (c : Ct) (pg : Int) (w : World) (h : ShU A w s p fr n N L c) (hp : 0 ≤ pg ∧ pg < N) : Calls Tryz.prog 23 #[.pointer (some ⟨p, 0, none⟩), .int .i64 pg] w (RdR w (c.last pg)) := by
  obtain ⟨G, m, h1, _, _, _, h5⟩ := h
  exact read_ct G p c N pg w h1.st (h5.ok h1.len) hp
/-- Where something changes the root is written anew. -/
theorem setI_root {c : Ct} {fr n N : Nat} {L : List Lf} (cs : List Cg) (hc : c.Idle) (hlen : c.safe.length = N) (hN : fr + n ≤ N) (hL : LOk n L) (hn : 2 ≤ n) (hch : (setD n L cs).2.2.1 = true) : (setI fr n L c cs).2.2.last (fr : Int) = rootB (setI fr n L c cs).2.1 := by
  have hf := frN_length hL
  have e : n - 1 - L.length = (frN L n).length := by omega
  unfold setD at hch
  rw [e] at hch
  unfold setI
  cases hl : layL (todoL L cs) with
  | none => rw [hl] at hch; cases hch
  | some ls =>
    rw [hl] at hch
    simp only at hch ⊢
    by_cases h1 : (frN L n).length < ls.length
    · rw [if_pos h1] at hch; cases hch
    · rw [if_neg h1] at hch
      simp only [if_neg h1]
      have h2 : ¬ (todoL L cs).length = 0 := by have := of_decide_eq_true hch; omega
      simp only [if_neg h2]
      have hid := hc.laid (wsOf fr ls (frN L n) ++ [((fr : Int), rootB (behL (todoL L cs) (frN L n) L))])
      rw [hid.last]
      simp only [Ct.laid, Int.toNat_natCast]
      rw [setP_append, setP, setP, Int.toNat_natCast, List.getElem?_set_self (by rw [setP_length]; omega)]
      rfl
theorem step_convS {ops : Array Oper} {o : Oper} {a : Act} {w : World} {K : Act → World → Prop} {Q : Exit → Act → World → Prop} {E : Prop} (hwant : Region.wanted o (yielded ops a.tmps) = true) (x : Operand) (ho : o.op = .convert 29 9 x) (ad : Option Addr) (n cap : Nat) (z : Nat → Int) (hx : a.eval x = .slice ad n cap) (hs : SlAt w ad n z) (hnil : ad = none → n = 0 ∧ cap = 0)
    (h : K (a.put o.dst (.string (strB z n))) w) : if Region.wanted o (yielded ops a.tmps) = true then Oper.wp Tryz.prog o a w K Q else E := by
  rw [if_pos hwant]
  unfold Oper.wp execOp
  simp only [ho, hx, Sem.run_bind, conv_any ad n cap z w hs hnil, Result.andThen_ok, Sem.run_pure]
  exact h
theorem neq_same (s : ByteArray) (w : World) : (binOp .neq 9 (.string s) (.string s)).run Tryz.prog w = .ok (.bool false) w := by
  rw [binOp_string_neq]
  simp
theorem StI.set {w wr : World} {A : Nat → Prop} {p s n : Nat} {c : Ct} {L : List Lf} {v : Value} (h : StI w wr A p s n c L v) (hn : 2 ≤ n) (ad : Option Addr) (cap : Nat) (cs : List Cg) (hc : CgAt wr ad cs) (hok : COk cs) :
    Calls Tryz.prog 16 #[.pointer (some ⟨s, 0, none⟩), .slice ad cs.length cap] wr fun e w' => e = .returned (errV (setD n L cs).2.2.2) ∧ ∃ A' c', ShU A' w' s p 1 n (n + 3) (setD n L cs).1 c' ∧ Laid c' 1 n (setD n L cs).1 ∧ LrB (fun k => ¬ A' k) w' v L ∧ LowA A' w.heap.size w' ∧ Below w.heap.size w w' ∧ ((setD n L cs).2.2.1 = true → c'.last 1 = rootB (setD n L cs).1) := by
  refine (Go.Proofs.YtmekplaonlpfkaaGreatDoor.setA A s p 1 n (n + 3) L c ad cap cs wr h.sh hc hok).mono ?_
  rintro e w' ⟨rfl, h1, h2⟩
  obtain ⟨oa, hi, hl⟩ := h.sh.ok
  obtain ⟨e1, e2⟩ := setD_setI oa 1 c cs
  refine ⟨by rw [e2], _, _, by rw [e1]; exact h1, ?_, h.row.fr h2, h.low.up h.below.size h2.size, h.below.trans (h2.below h.below.size fun k hk => (h.low k hk).1), fun hch => ?_⟩
  · rw [e1]; exact setI_laid cs hi hl (by omega) oa hn h.laid
  · rw [e1]; exact setI_root cs hi hl (by omega) oa hn hch
theorem docT {w wr : World} {A : Nat → Prop} {n : Nat} {L : List Lf} {v : Value} (hr : LrB (fun k => ¬ A k) wr v L) (hlow : LowA A w.heap.size wr) (hok : LOk n L) (hn : 2 ≤ n ∧ n ≤ 100) (ad : Option Addr) (cap : Nat) (cs : List Cg) (hc : CgAt wr ad cs) (hcl : longB cs = false) :
    Calls Tryz.prog 21 #[v, .int .i64 (n : Int), .slice ad cs.length cap] wr fun e w' => ∃ v' x, e = .returned (.tuple #[v', x, .bool (setD n L cs).2.2.1, .int .i64 (setD n L cs).2.2.2]) ∧ LrB (fun k => ¬ A k) w' v' (setD n L cs).1 ∧ Below wr.heap.size wr w' := by
  obtain ⟨h1, h2⟩ := COk.of_long hcl
  refine (docSet_any (fun k => ¬ A k) n v L ad cap cs wr hr hok hn hc h2 h1 (frN_length hok)).mono ?_
  rintro e w' ⟨v', rfl, h3, h4⟩
  exact ⟨v', _, rfl, h3.mono fun k hk _ => by rcases hk with hk | hk; exact hk; exact fun hA => by have := (hlow k hA).2; omega, h4⟩
end Go.Proofs.YtmekplaonlpfkaaGreatDoor
