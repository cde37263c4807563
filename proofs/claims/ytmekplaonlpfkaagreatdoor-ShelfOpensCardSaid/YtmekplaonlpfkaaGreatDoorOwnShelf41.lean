/- The document's reader by lists. -/
import Derived.Test.YtmekplaonlpfkaaGreatDoorOwnShelf40
import Derived.Test.YtmekplaonlpfkaaGreatDoorOwnShelf34
import Derived.Test.YtmekplaonlpfkaaGreatDoorOwnShelf35
namespace Go.Proofs.YtmekplaonlpfkaaGreatDoor
open Go.RowKit

attribute [local go_sem ↓] Go.wp_at_zero Go.wp_at_succ

set_option maxRecDepth 100000 in
set_option maxHeartbeats 400000 in
theorem refStopUint (ad : Option Addr) (n cap : Nat) (most : Int) (er : Int) (w : World) (he : (er == 0) = false) :
    Calls Tryz.prog 39 #[.agg #[.slice ad n cap, .int .i64 er], .int .u64 most] w fun e w' => e = .returned (.tuple #[.agg #[.slice ad n cap, .int .i64 er], .int .u64 0]) ∧ Below w.heap.size w w' := by
  go_enter Tryz.func39, Tryz.ntmps39
  go_wp2
  exact bodyPost_ret (v := .tuple #[.agg #[.slice ad n cap, .int .i64 er], .int .u64 0]) (by simp [results, Tryz.results39, go_sem]) rfl ⟨rfl, (by repeat (first | exact Below.refl _ _ | refine Below.alloc ?_ (by simp; try omega) _ | refine Below.setCell ?_ (by simp) _ | refine below_drewN ?_ _ | refine Below.drew ?_))⟩
set_option maxRecDepth 100000 in
set_option maxHeartbeats 400000 in
theorem refStopBytes (ad : Option Addr) (n cap : Nat) (most : Int) (er : Int) (w : World) (he : (er == 0) = false) :
    Calls Tryz.prog 40 #[.agg #[.slice ad n cap, .int .i64 er], .int .i64 most] w fun e w' => e = .returned (.tuple #[.agg #[.slice ad n cap, .int .i64 er], .slice none 0 0]) ∧ Below w.heap.size w w' := by
  go_enter Tryz.func40, Tryz.ntmps40
  go_wp2
  exact bodyPost_ret (v := .tuple #[.agg #[.slice ad n cap, .int .i64 er], .slice none 0 0]) (by simp [results, Tryz.results40, go_sem]) rfl ⟨rfl, (by repeat (first | exact Below.refl _ _ | refine Below.alloc ?_ (by simp; try omega) _ | refine Below.setCell ?_ (by simp) _ | refine below_drewN ?_ _ | refine Below.drew ?_))⟩
set_option maxHeartbeats 400000 in
theorem refDone_any (ad : Option Addr) (n cap : Nat) (er : Int) (w : World) :
    Calls Tryz.prog 41 #[.agg #[.slice ad n cap, .int .i64 er]] w fun e w' => e = .returned (.int .i64 (dn n er)) ∧ Below w.heap.size w w' := by
  by_cases he : er = 0
  · subst he
    by_cases hn : 0 < n
    · have : dn n 0 = 3 := by simp [dn, hn]
      rw [this]
      clear this
      have hn' : (0 : Int) < n := by omega
      go_enter Tryz.func41, Tryz.ntmps41
      go_wp2
      go_ret
      exact ⟨rfl, (by repeat (first | exact Below.refl _ _ | refine Below.alloc ?_ (by simp; try omega) _ | refine Below.setCell ?_ (by simp) _ | refine below_drewN ?_ _ | refine Below.drew ?_))⟩
    · have h0 : n = 0 := by omega
      subst h0
      have : dn 0 0 = 0 := by simp [dn]
      rw [this]
      clear this hn
      go_enter Tryz.func41, Tryz.ntmps41
      go_wp2
      go_ret
      exact ⟨rfl, (by repeat (first | exact Below.refl _ _ | refine Below.alloc ?_ (by simp; try omega) _ | refine Below.setCell ?_ (by simp) _ | refine below_drewN ?_ _ | refine Below.drew ?_))⟩
  · have : dn n er = er := by simp [dn, he]
    rw [this]
    have he' : (er == 0) = false := by simp [he]
    clear this he
    go_enter Tryz.func41, Tryz.ntmps41
    go_wp2
    go_ret
    exact ⟨rfl, (by repeat (first | exact Below.refl _ _ | refine Below.alloc ?_ (by simp; try omega) _ | refine Below.setCell ?_ (by simp) _ | refine below_drewN ?_ _ | refine Below.drew ?_))⟩

/-- The document's reader as a value: what is left, or that it has stopped. -/
def DV (w : World) (v : Value) : Option (List Int) → Prop
  | some l => ∃ ad cap, v = .agg #[.slice ad l.length cap, .int .i64 0] ∧ l.length ≤ cap ∧ SlAt w ad l.length (fn l) ∧ l.length ≤ 140737488351232
  | none => ∃ ad n cap er, v = .agg #[.slice ad n cap, .int .i64 er] ∧ er ≠ 0
theorem DV.below {w w' : World} {v : Value} {q : Option (List Int)} (h : DV w v q) (hb : Below w.heap.size w w') : DV w' v q := by
  cases q with
  | some l => obtain ⟨ad, cap, h1, h2, h3, h4⟩ := h; exact ⟨ad, cap, h1, h2, h3.keepB hb, h4⟩
  | none => exact h
theorem SlAt.dropL {w : World} {ad : Option Addr} {l : List Int} {k : Nat} (h : SlAt w ad (l.length - k) (fun j => fn l (j + k))) : SlAt w ad (l.drop k).length (fn (l.drop k)) := by
  rw [List.length_drop]
  exact h.congr fun j _ => (fn_drop l k j).symm
theorem uint_dv (v : Value) (most : Int) (q : Option (List Int)) (w : World) (h : DV w v q) :
    Calls Tryz.prog 39 #[v, .int .u64 most] w fun e w' => ∃ v', e = .returned (.tuple #[v', .int .u64 (((q.bind (uintR most)).map Prod.fst).getD 0)]) ∧ DV w' v' ((q.bind (uintR most)).map Prod.snd) ∧ Below w.heap.size w w' := by
  cases q with
  | none =>
    obtain ⟨ad, n, cap, er, rfl, he⟩ := h
    refine (refStopUint ad n cap most er w (by simpa using he)).mono ?_
    rintro e w' ⟨rfl, hb⟩
    exact ⟨_, rfl, ⟨ad, n, cap, er, rfl, he⟩, hb⟩
  | some l =>
    obtain ⟨ad, cap, rfl, hc, hs, hl⟩ := h
    refine (refUint_any ad l.length cap most (fn l) w hc hl hs).mono ?_
    rintro e w' ⟨ad', cap', rfl, hc', hs', hb⟩
    simp only [Option.bind_some, uintR]
    by_cases hE : uE l.length (fn l) most = 0
    · rw [if_pos hE]
      refine ⟨_, rfl, ⟨ad', cap', ?_, by simpa using hc', hs'.dropL.keepB hb, by simp; omega⟩, hb⟩
      rw [hE, List.length_drop]
    · rw [if_neg hE]
      have hv : uV l.length (fn l) most = 0 := by simp [uV, hE]
      rw [hv]
      exact ⟨_, rfl, ⟨ad', _, cap', _, rfl, hE⟩, hb⟩
theorem count_dv (v : Value) (most : Int) (l : List Int) (w : World) (h : DV w v (some l)) (hm : most ≤ 9223372036854775807) :
    Calls Tryz.prog 38 #[v, .int .i64 most] w fun e w' => ∃ v', e = .returned (.tuple #[v', .int .i64 (((countR most l).map Prod.fst).getD 0)]) ∧ DV w' v' ((countR most l).map Prod.snd) ∧ Below w.heap.size w w' := by
  obtain ⟨ad, cap, rfl, hc, hs, hl⟩ := h
  refine (refCount_any ad l.length cap most (fn l) w hc hl hs hm).mono ?_
  rintro e w' ⟨ad', cap', rfl, hc', hs', hb⟩
  simp only [countR]
  by_cases hE : cE l.length (fn l) most = 0
  · rw [if_pos hE]
    refine ⟨_, rfl, ⟨ad', cap', ?_, by simpa using hc', hs'.dropL.keepB hb, by simp; omega⟩, hb⟩
    rw [hE, List.length_drop]
  · rw [if_neg hE]
    have hv : cV l.length (fn l) most = 0 := by simp [cV, hE]
    rw [hv]
    exact ⟨_, rfl, ⟨ad', _, cap', _, rfl, hE⟩, hb⟩
theorem bytes_dv (v : Value) (most : Int) (q : Option (List Int)) (w : World) (h : DV w v q) :
    Calls Tryz.prog 40 #[v, .int .i64 most] w fun e w' => ∃ v' ad cap, e = .returned (.tuple #[v', .slice ad (((q.bind (bytesR most)).map Prod.fst).getD []).length cap]) ∧ Fresh w w' ad cap (((q.bind (bytesR most)).map Prod.fst).getD []) ∧ DV w' v' ((q.bind (bytesR most)).map Prod.snd) := by
  cases q with
  | none =>
    obtain ⟨ad, n, cap, er, rfl, he⟩ := h
    refine (refStopBytes ad n cap most er w (by simpa using he)).mono ?_
    rintro e w' ⟨rfl, hb⟩
    exact ⟨_, none, 0, rfl, Fresh.nil hb, ⟨ad, n, cap, er, rfl, he⟩⟩
  | some l =>
    obtain ⟨ad, cap, rfl, hc, hs, hl⟩ := h
    refine (refBytes_any ad l.length cap (fn l) most w hc hl hs).mono ?_
    rintro e w' ⟨ad', cap', ad1, cap1, rfl, hc', hs', hF⟩
    have hb : Below w.heap.size w w' := hF.2.2.2.2
    simp only [Option.bind_some, bytesR]
    by_cases hE : (bR l.length (fn l) most).2.2 = 0
    · rw [if_pos hE]
      refine ⟨_, ad1, cap1, rfl, hF, ad', cap', ?_, by simpa using hc', hs'.dropL.keepB hb, by simp; omega⟩
      rw [hE, List.length_drop]
    · rw [if_neg hE]
      have hcs := (bR_cases l.length (fn l) most).2 hE
      rw [hcs.1] at hF ⊢
      exact ⟨_, ad1, cap1, rfl, hF, ad', _, cap', _, rfl, hE⟩
theorem done_dv (v : Value) (q : Option (List Int)) (w : World) (h : DV w v q) :
    Calls Tryz.prog 41 #[v] w fun e w' => (∃ x : Int, e = .returned (.int .i64 x) ∧ (endsR q = true ↔ x = 0)) ∧ Below w.heap.size w w' := by
  cases q with
  | none =>
    obtain ⟨ad, n, cap, er, rfl, he⟩ := h
    refine (refDone_any ad n cap er w).mono ?_
    rintro e w' ⟨rfl, hb⟩
    exact ⟨⟨_, rfl, by simp [endsR, dn, he]⟩, hb⟩
  | some l =>
    obtain ⟨ad, cap, rfl, hc, hs, hl⟩ := h
    refine (refDone_any ad l.length cap 0 w).mono ?_
    rintro e w' ⟨rfl, hb⟩
    exact ⟨⟨_, rfl, by cases l <;> simp [endsR, dn]⟩, hb⟩
end Go.Proofs.YtmekplaonlpfkaaGreatDoor
/- The document's Read, and what Open tells: one and the same. -/
namespace Go.Proofs.YtmekplaonlpfkaaGreatDoor
open Go.RowKit

/-- What is left behind one number. -/
def nxt (most : Int) (q : Option (List Int)) : Option (List Int) := (q.bind (uintR most)).map Prod.snd
theorem stN_front (most : Int) : ∀ (i : Nat) (q : Option (List Int)), stN most (i + 1) q = stN most i (nxt most q)
  | 0, _ => rfl
  | i + 1, q => by
    rw [stN, stN_front most i q]
    rfl
theorem vlN_front (most : Int) (i : Nat) (q : Option (List Int)) : vlN most (i + 1) q = vlN most i (nxt most q) := by
  unfold vlN
  rw [stN_front]
theorem vals_front (most : Int) (k : Nat) (q : Option (List Int)) : vals most (k + 1) q = vlN most 0 q :: vals most k (nxt most q) := by
  unfold vals
  rw [List.range_succ_eq_map, List.map_cons, List.map_map]
  congr 1
  apply List.map_congr_left
  intro i _
  exact vlN_front most i q
/-- The document's Read, from the count on. -/
def readD (last : Int) (rd : Int → List Int) : Nat → Option (List Int) → Int → List Lf → Option (List Lf)
  | 0, q, _, M => if endsR q = true then some M else none
  | k + 1, q, b, M => if vlN last 0 q ≤ b then none else if leafOk M (rd (vlN last 0 q)) = true then readD last rd k (nxt last q) (vlN last 0 q) (putK Lf.k ⟨leafK (rd (vlN last 0 q)), (vlN last 0 q).toNat, leafV (rd (vlN last 0 q))⟩ M) else none
theorem readD_eq (last : Int) (rd : Int → List Int) : ∀ (k : Nat) (q : Option (List Int)) (b : Int) (M : List Lf), readD last rd k q b M = if endsR (stN last k q) = true ∧ riseI b (vals last k q) = true then takeL rd (vals last k q) M else none
  | 0, q, b, M => by
    have e : vals last 0 q = [] := rfl
    rw [readD, e, stN, riseI, takeL]
    simp
  | k + 1, q, b, M => by
    rw [readD, vals_front, stN_front, riseI, takeL]
    by_cases h1 : vlN last 0 q ≤ b
    · simp [h1]
    · rw [if_neg h1, if_neg h1]
      by_cases h2 : leafOk M (rd (vlN last 0 q)) = true
      · rw [if_pos h2, if_pos h2, readD_eq last rd k]
      · rw [if_neg h2, if_neg h2]
        simp
/-- The document's Read of an area. -/
def readR (last : Int) (rd : Int → List Int) : Option (List Lf) :=
  if (rd 0).length = 0 then some [] else readD last rd (((countR last (rd 0)).map Prod.fst).getD 0).toNat ((countR last (rd 0)).map Prod.snd) 0 []
theorem readR_open (last : Int) (rd : Int → List Int) : readR last rd = (rootR last (rd 0)).bind fun ps => takeL rd ps [] := by
  unfold readR rootR
  by_cases h : (rd 0).length = 0
  · rw [if_pos h, if_pos h]; rfl
  · rw [if_neg h, if_neg h, readD_eq]
    split
    · rfl
    · rfl
theorem openR_read (c : Ct) (fr n : Nat) : openR c fr n = readR ((n - 1 : Nat) : Int) (fun x => c.last ((fr + x.toNat : Nat) : Int)) := by
  rw [readR_open]
  rfl
end Go.Proofs.YtmekplaonlpfkaaGreatDoor
/- The root and the leaves are read back. -/
namespace Go.Proofs.YtmekplaonlpfkaaGreatDoor
open Go.RowKit Go.Maps Go.Sort

theorem nums_back {last : Int} (hl : last ≤ 18446744073709551615) : ∀ (ps t : List Int), (∀ x ∈ ps, 0 ≤ x ∧ x ≤ last) → stN last ps.length (some (uBs ps ++ t)) = some t ∧ vals last ps.length (some (uBs ps ++ t)) = ps
  | [], t, _ => ⟨rfl, rfl⟩
  | x :: r, t, h => by
    have hx := h x (List.mem_cons_self ..)
    have e : uBs (x :: r) ++ t = uB x ++ (uBs r ++ t) := by simp [uBs]
    have hu : uintR last (uB x ++ (uBs r ++ t)) = some (x, uBs r ++ t) := uintR_back hx.1 (by omega) hx.2 _
    have hn : nxt last (some (uBs (x :: r) ++ t)) = some (uBs r ++ t) := by unfold nxt; rw [e, Option.bind_some, hu]; rfl
    have hv : vlN last 0 (some (uBs (x :: r) ++ t)) = x := by unfold vlN stN; rw [e, Option.bind_some, hu]; rfl
    obtain ⟨h1, h2⟩ := nums_back hl r t (fun y hy => h y (List.mem_cons_of_mem _ hy))
    rw [List.length_cons, stN_front, vals_front, hn, hv]
    exact ⟨h1, by rw [h2]⟩
theorem uBs_ge (ps : List Int) : ps.length ≤ (uBs ps).length := by
  induction ps with
  | nil => simp
  | cons x r ih =>
    simp only [uBs, List.flatMap_cons, List.length_append, List.length_cons] at *
    have : 0 < (uB x).length := by simp [uB]
    omega
theorem riseI_of : ∀ (ps : List Int) (b : Int), List.Pairwise (· < ·) (b :: ps) → riseI b ps = true
  | [], _, _ => rfl
  | x :: r, b, h => by
    rw [List.pairwise_cons] at h
    have := h.1 x (List.mem_cons_self ..)
    unfold riseI
    rw [if_neg (by omega)]
    exact riseI_of r x h.2
theorem plI_perm (L : List Lf) : (plI L).Perm (L.map fun x => (x.p : Int)) := List.mergeSort_perm _ _
theorem plI_nodup {n : Nat} {L : List Lf} (h : LOk n L) : (plI L).Nodup := by
  rw [(plI_perm L).nodup_iff]
  have h1 := h.apart
  rw [List.Nodup, List.pairwise_map] at h1 ⊢
  exact h1.imp fun {a b} hab e => hab (by omega)
theorem plI_rise {n : Nat} {L : List Lf} (h : LOk n L) : List.Pairwise (· < ·) (plI L) := by
  have hs : (plI L).Pairwise (fun x y => x ≤ y) := by
    unfold plI srtI
    exact (List.pairwise_mergeSort (le := fun x y => decide (x ≤ y)) (fun a b c h1 h2 => by simp at *; omega) (fun a b => by simp; omega) (L.map fun x => (x.p : Int))).imp fun {a b} h => of_decide_eq_true h
  exact (hs.and (plI_nodup h)).imp fun {a b} hab => by have := hab.1; have := hab.2; omega
theorem mem_plI {L : List Lf} {y : Int} : y ∈ plI L ↔ ∃ x ∈ L, (x.p : Int) = y := by
  rw [(plI_perm L).mem_iff, List.mem_map]
theorem root_back {n : Nat} {L : List Lf} (h : LOk n L) (hn : 2 ≤ n ∧ n ≤ 1024) : rootR ((n - 1 : Nat) : Int) (rootB L) = some (plI L) := by
  have hfew := h.few hn.1
  have hb : ∀ x ∈ plI L, 0 ≤ x ∧ x ≤ ((n - 1 : Nat) : Int) := fun x hx => by
    obtain ⟨y, hy, rfl⟩ := mem_plI.1 hx
    have := h.place y hy
    omega
  have hpl := plI_length L
  have hge := uBs_ge (plI L)
  have hc : countR ((n - 1 : Nat) : Int) (rootB L) = some ((L.length : Int), uBs (plI L)) := countR_back (by omega) (by omega) (by omega) _ (by omega)
  obtain ⟨h1, h2⟩ := nums_back (last := ((n - 1 : Nat) : Int)) (by omega) (plI L) [] hb
  rw [List.append_nil, hpl] at h1 h2
  have hr : riseI 0 (plI L) = true := riseI_of _ _ (List.pairwise_cons.2 ⟨fun x hx => by
    obtain ⟨y, hy, rfl⟩ := mem_plI.1 hx
    have := h.place y hy
    omega, plI_rise h⟩)
  unfold rootR
  rw [if_neg (by simp [rootB, uB]), hc]
  simp only [Option.map_some, Option.getD_some, Int.toNat_natCast, h1, h2]
  rw [if_pos ⟨rfl, hr⟩]
theorem p_inj : ∀ {L : List Lf}, (L.map Lf.p).Nodup → ∀ {z y : Lf}, z ∈ L → y ∈ L → z.p = y.p → z = y
  | a :: r, h, z, y, hz, hy, e => by
    rw [List.map_cons, List.nodup_cons] at h
    rcases List.mem_cons.1 hz with rfl | hz2
    · rcases List.mem_cons.1 hy with rfl | hy2
      · rfl
      · exact absurd (List.mem_map.2 ⟨y, hy2, e.symm⟩) h.1
    · rcases List.mem_cons.1 hy with rfl | hy2
      · exact absurd (List.mem_map.2 ⟨z, hz2, e⟩) h.1
      · exact p_inj h.2 hz2 hy2 e
theorem takeL_back {n : Nat} {L : List Lf} (hL : LOk n L) (rd : Int → List Int) : ∀ (ps : List Int) (M : List Lf), Rise Lf.k M → (∀ y ∈ M, y ∈ L ∧ (y.p : Int) ∉ ps) → ps.Nodup → (∀ x ∈ ps, ∃ y ∈ L, (y.p : Int) = x ∧ rd x = leafB y.k y.v) → ∃ M', takeL rd ps M = some M' ∧ Rise Lf.k M' ∧ ∀ y, y ∈ M' ↔ y ∈ M ∨ (y ∈ L ∧ (y.p : Int) ∈ ps)
  | [], M, hM, _, _, _ => ⟨M, rfl, hM, fun y => by simp⟩
  | x :: r, M, hM, hin, hnd, hps => by
    obtain ⟨y, hy, hyp, hrd⟩ := hps x (List.mem_cons_self ..)
    have hlen := hL.len y hy
    obtain ⟨b1, b2, b3⟩ := leaf_back hlen.1 hlen.2
    rw [List.nodup_cons] at hnd
    have hnk : getK Lf.k y.k M = none := (getK_none Lf.k).2 fun z hz e => by
      have := Rise.inj Lf.k hL.rise (hin z hz).1 hy e
      subst this
      exact (hin z hz).2 (by rw [hyp]; exact List.mem_cons_self ..)
    have hok : leafOk M (rd x) = true := by
      unfold leafOk
      rw [hrd, b1, b3, hnk]; rfl
    have ey : (⟨leafK (rd x), x.toNat, leafV (rd x)⟩ : Lf) = y := by
      rw [hrd, b1, b2, ← hyp]
      cases y; rfl
    have hput : ∀ z, z ∈ putK Lf.k y M ↔ z = y ∨ z ∈ M := fun z => by
      rw [mem_putK]
      constructor
      · rintro (h | h)
        · exact .inl h
        · exact .inr h.1
      · rintro (h | h)
        · exact .inl h
        · exact .inr ⟨h, (getK_none Lf.k).1 hnk z h⟩
    obtain ⟨M', h1, h2, h3⟩ := takeL_back hL rd r (putK Lf.k y M) (hM.put Lf.k) (fun z hz => by
      rcases (hput z).1 hz with rfl | hz
      · exact ⟨hy, by rw [hyp]; exact hnd.1⟩
      · exact ⟨(hin z hz).1, fun hr => (hin z hz).2 (List.mem_cons_of_mem _ hr)⟩) hnd.2 (fun z hz => hps z (List.mem_cons_of_mem _ hz))
    refine ⟨M', ?_, h2, fun z => ?_⟩
    · rw [takeL, if_pos hok, ey]; exact h1
    · rw [h3 z, hput z]
      constructor
      · rintro ((rfl | h) | h)
        · exact .inr ⟨hy, by rw [hyp]; exact List.mem_cons_self ..⟩
        · exact .inl h
        · exact .inr ⟨h.1, List.mem_cons_of_mem _ h.2⟩
      · rintro (h | ⟨h, hp⟩)
        · exact .inl (.inr h)
        · rcases List.mem_cons.1 hp with e | hp
          · refine .inl (.inl ?_)
            have hpp : z.p = y.p := by omega
            exact p_inj hL.apart h hy hpp
          · exact .inr ⟨h, hp⟩
/-- What the pages hold: the root and the leaves of L. -/
structure Laid (c : Ct) (fr n : Nat) (L : List Lf) : Prop where
  root : (c.last (fr : Int) = [] ∧ L = []) ∨ c.last (fr : Int) = rootB L
  leaf : ∀ x ∈ L, c.last ((fr + x.p : Nat) : Int) = leafB x.k x.v
theorem open_back {c : Ct} {fr n : Nat} {L : List Lf} (h : Laid c fr n L) (hL : LOk n L) (hn : 2 ≤ n ∧ n ≤ 1024) : openR c fr n = some L := by
  unfold openR
  rcases h.root with ⟨h1, rfl⟩ | h1
  · rw [h1]; rfl
  · rw [h1, root_back hL hn, Option.bind_some]
    obtain ⟨M', h2, h3, h4⟩ := takeL_back hL (fun x => c.last ((fr + x.toNat : Nat) : Int)) (plI L) [] List.Pairwise.nil (fun y hy => by cases hy) (plI_nodup hL) (fun x hx => by
      obtain ⟨y, hy, rfl⟩ := mem_plI.1 hx
      exact ⟨y, hy, rfl, by rw [Int.toNat_natCast]; exact h.leaf y hy⟩)
    rw [h2]
    congr 1
    refine Rise.ext Lf.k h3 hL.rise fun y => ?_
    rw [h4 y]
    constructor
    · rintro (h | h)
      · cases h
      · exact h.1
    · intro hy
      exact .inr ⟨hy, mem_plI.2 ⟨y, hy, rfl⟩⟩
end Go.Proofs.YtmekplaonlpfkaaGreatDoor
/- A Set on an idle store: what the pages hold behind it. -/
namespace Go.Proofs.YtmekplaonlpfkaaGreatDoor
open Go.RowKit Go.Maps Go.Sort

theorem setP_off : ∀ (ws : List (Int × List Int)) (s : List (List Int)) (j : Nat), (∀ x ∈ ws, x.1.toNat ≠ j) → (setP ws s)[j]? = s[j]?
  | [], _, _, _ => rfl
  | x :: r, s, j, h => by
    rw [setP, setP_off r _ j (fun y hy => h y (List.mem_cons_of_mem _ hy)), List.getElem?_set_ne (h x (List.mem_cons_self ..))]
theorem setP_on : ∀ (ws : List (Int × List Int)) (s : List (List Int)) (x : Int × List Int), (ws.map fun y => y.1.toNat).Nodup → x ∈ ws → x.1.toNat < s.length → (setP ws s)[x.1.toNat]? = some x.2
  | y :: r, s, x, hn, hx, hl => by
    rw [List.map_cons, List.nodup_cons] at hn
    rw [setP]
    rcases List.mem_cons.1 hx with rfl | hx2
    · rw [setP_off r _ _ (fun z hz e => hn.1 (List.mem_map.2 ⟨z, hz, e⟩))]
      rw [List.getElem?_set_self hl]
    · exact setP_on r _ x hn.2 hx2 (by simpa using hl)
theorem mem_wsOf {fr : Nat} {ls : List (List Int)} {f : List Nat} {x : Int × List Int} (h : x ∈ wsOf fr ls f) : ∃ q ∈ f, x.1 = ((fr + q : Nat) : Int) := by
  obtain ⟨y, hy, rfl⟩ := List.mem_map.1 h
  exact ⟨y.2, (List.of_mem_zip hy).2, rfl⟩
theorem wsOf_nodup {fr : Nat} : ∀ (ls : List (List Int)) (f : List Nat), f.Nodup → ((wsOf fr ls f).map fun y => y.1.toNat).Nodup
  | [], f, _ => by simp [wsOf]
  | l :: r, [], _ => by simp [wsOf]
  | l :: r, q :: f, h => by
    rw [List.nodup_cons] at h
    have ih := wsOf_nodup (fr := fr) r f h.2
    have e : wsOf fr (l :: r) (q :: f) = (((fr + q : Nat) : Int), l) :: wsOf fr r f := rfl
    rw [e, List.map_cons, List.nodup_cons]
    refine ⟨fun hm => ?_, ih⟩
    obtain ⟨y, hy, hye⟩ := List.mem_map.1 hm
    obtain ⟨q', hq', e'⟩ := mem_wsOf hy
    rw [e'] at hye
    simp only [Int.toNat_natCast] at hye
    have : q' = q := by omega
    subst this
    exact h.1 hq'
/-- A leaf behind some changes: it was there, or is laid. -/
theorem behL_mem {fr : Nat} : ∀ (C : List Cg) (f : List Nat) (M : List Lf) (ls : List (List Int)), layL C = some ls → ls.length ≤ f.length → ∀ y ∈ behL C f M, y ∈ M ∨ (((fr + y.p : Nat) : Int), leafB y.k y.v) ∈ wsOf fr ls f
  | [], f, M, ls, _, _, y, hy => .inl hy
  | c :: r, f, M, ls, hl, hn, y, hy => by
    unfold layL at hl
    unfold behL at hy
    cases hg : c.g with
    | true =>
      rw [hg] at hl hy
      simp only [if_true] at hl hy
      rcases behL_mem (fr := fr) r f (delK Lf.k c.k M) ls hl hn y hy with h | h
      · exact .inl ((mem_delK Lf.k).1 h).1
      · exact .inr h
    | false =>
      rw [hg] at hl hy
      simp only [Bool.false_eq_true, if_false] at hl hy
      split at hl
      · cases hl
      · cases hr : layL r with
        | none => rw [hr] at hl; cases hl
        | some lr =>
          rw [hr] at hl
          simp only [Option.map_some, Option.some.injEq] at hl
          subst hl
          cases f with
          | nil => simp at hn
          | cons q f =>
            have e : wsOf fr (leafB c.k c.v :: lr) (q :: f) = (((fr + q : Nat) : Int), leafB c.k c.v) :: wsOf fr lr f := rfl
            rw [e]
            simp only [List.tail_cons, List.headD_cons] at hy
            rcases behL_mem (fr := fr) r f _ lr hr (by simpa using hn) y hy with h | h
            · rcases (mem_putK Lf.k).1 h with rfl | h
              · exact .inr (List.mem_cons_self ..)
              · exact .inl ((mem_delK Lf.k).1 h.1).1
            · exact .inr (List.mem_cons_of_mem _ h)
theorem frN_nodup (L : List Lf) (n : Nat) : (frN L n).Nodup := List.filter_sublist.nodup List.nodup_range'
theorem mem_frN {L : List Lf} {n q : Nat} : q ∈ frN L n ↔ (1 ≤ q ∧ q < n) ∧ q ∉ L.map Lf.p := by
  unfold frN
  rw [List.mem_filter, List.mem_range'_1]
  constructor
  · rintro ⟨h1, h2⟩
    refine ⟨by omega, fun h => ?_⟩
    rw [heldB_iff.2 h] at h2; cases h2
  · rintro ⟨h1, h2⟩
    refine ⟨by omega, ?_⟩
    cases hh : heldB L q with
    | true => exact absurd (heldB_iff.1 hh) h2
    | false => rfl
/-- A Set keeps the pages in step with the leaves. -/
theorem setI_laid {c : Ct} {fr n N : Nat} {L : List Lf} (cs : List Cg) (hc : c.Idle) (hlen : c.safe.length = N) (hN : fr + n ≤ N) (hL : LOk n L) (hn : 2 ≤ n) (h : Laid c fr n L) : Laid (setI fr n L c cs).2.2 fr n (setI fr n L c cs).2.1 := by
  unfold setI
  cases hl : layL (todoL L cs) with
  | none => exact h
  | some ls =>
    simp only
    split
    · exact h
    · rename_i hfew
      split
      · exact h
      · simp only
        have hid := hc.laid (wsOf fr ls (frN L n) ++ [((fr : Int), rootB (behL (todoL L cs) (frN L n) L))])
        refine ⟨.inr ?_, fun x hx => ?_⟩
        · rw [hid.last]
          simp only [Ct.laid, Int.toNat_natCast]
          rw [setP_append, setP, setP, Int.toNat_natCast, List.getElem?_set_self (by rw [setP_length]; omega)]
          rfl
        · rw [hid.last]
          simp only [Ct.laid, Int.toNat_natCast]
          rcases behL_mem (fr := fr) _ _ _ ls hl (by omega) x hx with hx | hx
          · have hp := hL.place x hx
            rw [setP_append, setP, setP, Int.toNat_natCast, List.getElem?_set_ne (by omega), setP_off _ _ _ (fun y hy => ?_)]
            · have := h.leaf x hx
              rw [hc.last, Int.toNat_natCast] at this
              exact this
            · obtain ⟨q, hq, e⟩ := mem_wsOf hy
              rw [e, Int.toNat_natCast]
              intro e2
              have : q = x.p := by omega
              subst this
              exact (mem_frN.1 hq).2 (List.mem_map.2 ⟨x, hx, rfl⟩)
          · obtain ⟨q, hq, e⟩ := mem_wsOf hx
            have hqb := (mem_frN.1 hq).1
            have hxq : x.p = q := by simp only at e; omega
            have hon := setP_on _ c.safe _ (wsOf_nodup ls _ (frN_nodup L n)) hx (by simp only [Int.toNat_natCast]; omega)
            simp only [Int.toNat_natCast] at hon
            rw [setP_append, setP, setP, Int.toNat_natCast, List.getElem?_set_ne (by omega), hon]
            rfl
theorem newC_laid (fr n N : Nat) : Laid (newC N) fr n [] := ⟨.inl ⟨by
  rw [(newC_idle N).last]
  simp only [newC, Int.toNat_natCast, List.getElem?_replicate]
  split <;> rfl, rfl⟩, fun x hx => by cases hx⟩
end Go.Proofs.YtmekplaonlpfkaaGreatDoor
