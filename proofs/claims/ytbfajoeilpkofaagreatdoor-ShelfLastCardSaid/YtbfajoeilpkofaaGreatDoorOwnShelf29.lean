/- A shelf's Set. -/
import Derived.Test.YtbfajoeilpkofaaGreatDoorOwnShelf28
namespace Go.Proofs.YtbfajoeilpkofaaGreatDoor
open Go.RowKit Go.Maps Go.Sort

attribute [local go_sem ↓] Go.wp_at_zero Go.wp_at_succ

/-- What a Set answers, and the leaves, the error that stands, and the store behind it. -/
def setO (fr n : Nat) (L : List Lf) (dead : Int) (c : Ct) (cs : List Cg) : Int × List Lf × Int × Ct :=
  if dead = 0 then
    match layL (todoL L cs) with
    | none => (2, L, 0, c)
    | some ls => if (frN L n).length < ls.length then (10, L, 0, c) else if (todoL L cs).length = 0 then (0, L, 0, c)
      else if (c.lay (wsOf fr ls (frN L n)) (fr : Int) (rootB (behL (todoL L cs) (frN L n) L))).1 = 0 then (0, behL (todoL L cs) (frN L n) L, 0, (c.lay (wsOf fr ls (frN L n)) (fr : Int) (rootB (behL (todoL L cs) (frN L n) L))).2)
      else ((c.lay (wsOf fr ls (frN L n)) (fr : Int) (rootB (behL (todoL L cs) (frN L n) L))).1, L, (c.lay (wsOf fr ls (frN L n)) (fr : Int) (rootB (behL (todoL L cs) (frN L n) L))).1, (c.lay (wsOf fr ls (frN L n)) (fr : Int) (rootB (behL (todoL L cs) (frN L n) L))).2)
  else (dead, L, dead, c)
/-- A shelf and its store, apart from one another; B: all of them lie below. -/
structure ShS (w : World) (G : Nat → Prop) (sh m p fr n N : Nat) (L : List Lf) (dead : Int) (c : Ct) : Prop where
  at_ : ShAt w sh m p fr n L dead
  st : CtAt w G p c
  nsh : ¬ G sh
  nm : ¬ G m
  lt : ∀ k, G k → k < w.heap.size
  len : c.safe.length = N
  fit : fr + n ≤ N
  ne : sh ≠ m
/-- What a Set leaves: the store and the shelf may have new blocks; all else is kept. -/
def PutR (G : Nat → Prop) (sh m p fr n N : Nat) (r : Int × List Lf × Int × Ct) (w : World) (e : Ending) (w' : World) : Prop :=
  e = .returned (errV r.1) ∧ ∃ (G' : Nat → Prop) (m' : Nat), ShS w' G' sh m' p fr n N r.2.1 r.2.2.1 r.2.2.2 ∧ (∀ k, G' k → G k ∨ w.heap.size ≤ k) ∧ (m' = m ∨ w.heap.size ≤ m') ∧ Fr (fun k => G k ∨ k = sh) w w'
theorem PutR.same {G : Nat → Prop} {sh m p fr n N : Nat} {L : List Lf} {dead x : Int} {c : Ct} {w w' : World} (h : ShS w G sh m p fr n N L dead c) (hb : Below w.heap.size w w') : PutR G sh m p fr n N (x, L, dead, c) w (.returned (errV x)) w' :=
  ⟨rfl, G, m, ⟨h.at_.below hb, h.st.below hb, h.nsh, h.nm, fun k hk => Nat.lt_of_lt_of_le (h.lt k hk) hb.size, h.len, h.fit, h.ne⟩, fun _ hk => .inl hk, .inl rfl, Fr.ofBelow hb⟩
set_option maxHeartbeats 800000 in
theorem set_dead (G : Nat → Prop) (sh m p fr n N : Nat) (L : List Lf) (dead : Int) (c : Ct) (v : Value) (cs : List Cg) (w : World) (h : ShS w G sh m p fr n N L dead c) (hd : dead ≠ 0) :
    Calls Tryz.prog 16 #[.pointer (some ⟨sh, 0, none⟩), v] w (PutR G sh m p fr n N (setO fr n L dead c cs) w) := by
  have c4 := h.at_.c4
  rw [errV_ne hd] at c4
  have HE : Hid (PutR G sh m p fr n N (setO fr n L dead c cs) w (.returned (.iface 72 (.int .i64 dead))) w) := by
    have := PutR.same (x := dead) h (Below.refl _ _)
    rw [errV_ne hd] at this
    unfold setO
    rw [if_neg hd]
    exact this
  clear h
  go_enter Tryz.func16, Tryz.ntmps16
  go_wp2
  go_ret
  exact HE.out
theorem set_nil (v : Value) (w : World) : Calls Tryz.prog 16 #[.pointer none, v] w fun e w' => e = .returned (errV 1) ∧ w' = w := by
  rw [errV_ne (by decide)]
  go_enter Tryz.func16, Tryz.ntmps16
  go_wp2
  go_ret
  exact ⟨rfl, rfl⟩
theorem COk.todo {L : List Lf} {cs : List Cg} (h : COk cs) : COk (todoL L cs) := ⟨by have := todoL_le L cs; have := h.1; omega, fun x hx => h.2 x (todoL_mem hx)⟩
/-- The shelf's dead and leaves, set. -/
theorem ShAt.setDead {w : World} {sh m p fr n : Nat} {L : List Lf} {dead x : Int} (h : ShAt w sh m p fr n L dead) : ShAt (w.setCell ⟨sh, 4, none⟩ (errV x)) sh m p fr n L x := by
  have hne : m ≠ sh := fun e => by
    obtain ⟨es, cl, hb, _⟩ := h.map
    rw [e, h.cells] at hb; cases hb
  refine ⟨?_, owns_keepB h.map (Below.heap_setCell _ _ _ _ (by simpa using hne)), h.ok, h.count, h.from_⟩
  rw [heap_setCell_same w sh 4 _ _ _ h.cells]
  rfl
theorem ShAt.setMap {w : World} {sh m m' p fr n : Nat} {L L' : List Lf} {dead : Int} (h : ShAt w sh m p fr n L dead) (hm : lfM w m' L') (hok : LOk n L') : ShAt (w.setCell ⟨sh, 3, none⟩ (.map (some m'))) sh m' p fr n L' dead := by
  have hne : m' ≠ sh := fun e => by
    obtain ⟨es, cl, hb, _⟩ := hm
    rw [e, h.cells] at hb; cases hb
  refine ⟨?_, owns_keepB hm (Below.heap_setCell _ _ _ _ (by simpa using hne)), hok, h.count, h.from_⟩
  rw [heap_setCell_same w sh 3 _ _ _ h.cells]
  rfl
theorem Ct.step_safe (c : Ct) : c.step.safe = c.safe := by
  by_cases h1 : c.armed = false
  · simp [Ct.step, h1]
  · by_cases h2 : 0 < c.steps <;> simp [Ct.step, h1, h2]
theorem Ct.sync_len (c : Ct) : c.sync.safe.length = c.safe.length := by
  unfold Ct.sync
  split
  · simp [Ct.settled, setC_length, Ct.step_safe]
  · rw [Ct.step_safe]
theorem Ct.put_safe (c : Ct) (pg : Int) (l : List Int) : (c.put pg l).safe = c.safe := rfl
theorem Ct.wrs_len : ∀ (ws : List (Int × List Int)) (c : Ct), (c.wrs ws).2.safe.length = c.safe.length
  | [], c => rfl
  | x :: r, c => by
    rw [Ct.wrs_cons]
    split
    · rw [Ct.wrs_len r, Ct.step_safe, Ct.put_safe]
    · simp only [Ct.step_safe, Ct.put_safe]
theorem Ct.root_len (c : Ct) (fr : Int) (root : List Int) : (c.root fr root).2.safe.length = c.safe.length := by
  unfold Ct.root
  split
  · simp only [Ct.sync_len, Ct.step_safe, Ct.put_safe]
  · simp only [Ct.step_safe, Ct.put_safe]
theorem Ct.lay_len (c : Ct) (ws : List (Int × List Int)) (fr : Int) (root : List Int) : (c.lay ws fr root).2.safe.length = c.safe.length := by
  unfold Ct.lay
  split
  · split
    · rw [Ct.root_len, Ct.wrs_len]
    · split
      · rw [Ct.root_len, Ct.sync_len, Ct.wrs_len]
      · simp only [Ct.sync_len, Ct.wrs_len]
  · rw [Ct.wrs_len]
theorem leaf2_any (ad : Option Addr) (cap : Nat) (C : List Cg) (w : World) (hc : CgAt w ad C) (hok : COk C) :
    Calls Tryz.prog 45 #[.slice ad C.length cap] w fun e w' => (layL C = none ∧ e = .returned (.tuple #[.slice none 0 0, .iface 72 (.int .i64 2)]) ∧ Below w.heap.size w w') ∨ ∃ la lc X, layL C = some (X.map Bs.l) ∧ e = .returned (.tuple #[.slice la X.length lc, .nilIface]) ∧ BsRow w w' (.slice la X.length lc) X := by
  refine (leafPages_any ad cap C w hc hok).mono ?_
  rintro e w' (⟨h1, rfl, h2⟩ | ⟨v, X, h1, rfl, h2⟩)
  · exact .inl ⟨h1, rfl, h2⟩
  · obtain ⟨la, lc, rfl⟩ : ∃ la lc, v = .slice la X.length lc := by
      rcases h2.own.2 with ⟨rfl, e⟩ | ⟨g, cap, cur, rfl, _⟩
      · exact ⟨none, 0, by rw [e]⟩
      · exact ⟨_, cap, rfl⟩
    exact .inr ⟨la, lc, X, h1, rfl, h2⟩
theorem free2_any (sh m p fr n : Nat) (L : List Lf) (dead : Int) (w : World) (h : ShAt w sh m p fr n L dead) :
    Calls Tryz.prog 46 #[.pointer (some ⟨sh, 0, none⟩)] w fun e w' => ∃ fa fc, e = .returned (.slice fa (frN L n).length fc) ∧ NsAt w' fa (frN L n) ∧ (frN L n).length ≤ fc ∧ (∀ a, fa = some a → w.heap.size ≤ a.block ∧ a.block < w'.heap.size ∧ ∃ o, a = ⟨a.block, o, none⟩) ∧ Below w.heap.size w w' := by
  refine (free_any sh m p fr n L dead w h).mono ?_
  rintro e w' ⟨v, rfl, hO⟩
  have hl : (frL L n).length = (frN L n).length := by rw [frL_frN]; simp
  rcases hO.form with ⟨rfl, e⟩ | ⟨g, cap, rfl, hc, _, hb, hg, hcell⟩
  · have e0 : (frN L n).length = 0 := by rw [← hl, e]; rfl
    exact ⟨none, 0, by rw [e0], (fun h => by simp at h; omega), by omega, (fun a h => by cases h), hO.below⟩
  · exact ⟨_, cap, by rw [hl], (fun _ => ⟨g, 0, rfl, hcell⟩), by omega, (fun a e => by cases e; exact ⟨hb, hg, 0, rfl⟩), hO.below⟩
set_option maxRecDepth 100000 in
set_option maxHeartbeats 3200000 in
theorem set_any (G : Nat → Prop) (sh m p fr n N : Nat) (L : List Lf) (dead : Int) (c : Ct) (ad : Option Addr) (cap : Nat) (cs : List Cg) (w : World) (h : ShS w G sh m p fr n N L dead c) (hup : dead = 0 → c.down = false) (hst : 0 ≤ c.steps ∧ c.steps < 9223372036854775808) (hfew : c.loose.length ≤ 1000) (hc : CgAt w ad cs) (hok : COk cs) :
    Calls Tryz.prog 16 #[.pointer (some ⟨sh, 0, none⟩), .slice ad cs.length cap] w (PutR G sh m p fr n N (setO fr n L dead c cs) w) := by
  by_cases hd : ¬ dead = 0
  · exact set_dead G sh m p fr n N L dead c _ cs w h hd
  obtain rfl : dead = 0 := Decidable.not_not.1 hd
  have c4 := h.at_.c4
  rw [errV_0] at c4
  have hchg := changes_any sh m p fr n L 0 ad cap cs w h.at_ hc hok
  have HS : Hid (ShS w G sh m p fr n N L 0 c) := h
  have HO : Hid (COk (todoL L cs)) := hok.todo
  have HOk : Hid (c.Ok N) := ⟨h.len, hst, hup rfl, by omega⟩
  have hn := h.at_.count
  obtain ⟨R, hR⟩ : ∃ R, setO fr n L 0 c cs = R := ⟨_, rfl⟩
  rw [hR]
  unfold setO at hR
  rw [if_pos rfl] at hR
  have HR : Hid (_ = R) := hR
  clear h hc hok hd hup hst hR
  go_enter Tryz.func16, Tryz.ntmps16
  go_wp2_with fail
  refine hchg.mono ?_
  rintro e w1 ⟨ad1, cap1, rfl, hat1, hge1, hb1⟩
  have hlp := leaf2_any ad1 cap1 (todoL L cs) w1 hat1 HO.out
  have HA1 : Hid (CgAt w1 ad1 (todoL L cs)) := hat1
  have HB1 : Hid (Below w.heap.size w w1) := hb1
  clear hchg hat1 hge1 hb1
  generalize todoL L cs = T at *
  go_wp2_with fail
  refine hlp.mono ?_
  rintro e w2 (⟨hnone, rfl, hb2⟩ | ⟨la, lc, X, hsome, rfl, hX⟩)
  · have HE : Hid (PutR G sh m p fr n N R w (.returned (.iface 72 (.int .i64 2))) w2) := by
      have h1 := HR.out
      rw [hnone] at h1
      rw [← h1]
      exact PutR.same (x := 2) HS.out (Below.transS HB1.out hb2)
    clear hlp hnone hb2 HR
    go_wp2
    go_ret
    exact HE.out
  · have hR1 := HR.out
    rw [hsome] at hR1
    simp only [List.length_map] at hR1
    have HR1 : Hid (_ = R) := hR1
    have HX : Hid (BsRow w1 w2 (.slice la X.length lc) X) := hX
    have hb2 : Below w.heap.size w w2 := Below.transS HB1.out hX.below
    have hfr := free2_any sh m p fr n L 0 w2 (HS.out.at_.below hb2)
    have HB2 : Hid (Below w.heap.size w w2) := hb2
    have HLn : Hid (X.length = nlay T ∧ ∀ d ∈ T, d.g = false → d.k.length ≤ 4096 ∧ d.v.length ≤ 4096) := ⟨by have := layL_n hsome; simpa using this, layL_len hsome⟩
    clear hlp hsome hX hb2 hR1 HR
    go_wp2_with fail
    refine hfr.mono ?_
    rintro e w3 ⟨fa, fc, rfl, hNs, hfc, hfb, hb3⟩
    have HF : Hid (NsAt w3 fa (frN L n) ∧ (frN L n).length ≤ fc ∧ (∀ a, fa = some a → w2.heap.size ≤ a.block ∧ a.block < w3.heap.size ∧ ∃ o, a = ⟨a.block, o, none⟩) ∧ Below w2.heap.size w2 w3) := ⟨hNs, hfc, hfb, hb3⟩
    clear hfr hNs hfc hfb hb3
    have HBO : Hid (BOk n (frN L n) L) := BOk.start HS.out.at_.ok
    by_cases hfull : (frN L n).length < X.length
    · have hfull' : ((frN L n).length : Int) < X.length := by omega
      have HE : Hid (PutR G sh m p fr n N R w (.returned (.iface 72 (.int .i64 10))) w3) := by
        have h1 := HR1.out
        rw [if_pos hfull] at h1
        rw [← h1]
        exact PutR.same (x := 10) HS.out (Below.transS HB2.out HF.out.2.2.2)
      clear HR1 hfull
      go_wp2
      go_ret
      exact HE.out
    · have hfull' : ¬ ((frN L n).length : Int) < X.length := by omega
      have hR2 := HR1.out
      rw [if_neg hfull] at hR2
      by_cases ht0 : T.length = 0
      · have ht0' : ((T.length : Int) == 0) = true := by simp [ht0]
        have HE : Hid (PutR G sh m p fr n N R w (.returned .nilIface) w3) := by
          rw [if_pos ht0] at hR2
          rw [← hR2]
          exact PutR.same (x := 0) HS.out (Below.transS HB2.out HF.out.2.2.2)
        clear HR1 hR2 ht0 hfull
        go_wp2
        go_ret
        exact HE.out
      · have ht0' : ((T.length : Int) == 0) = false := by simp; exact fun e => ht0 (by rw [e]; rfl)
        rw [if_neg ht0] at hR2
        have hLok : LOk n (behL T (frN L n) L) := behL_ok T (frN L n) L HBO.out (by have := HLn.out.1; omega) HLn.out.2
        have hfew' := hLok.few hn.1
        have hb13 : Below w1.heap.size w1 w3 := Below.transS HX.out.below HF.out.2.2.2
        have hbe := behind_any sh m p fr n L 0 ad1 cap1 T fa fc (frN L n) w3 (HS.out.at_.below (Below.transS HB2.out HF.out.2.2.2)) (HA1.out.below hb13) HO.out HF.out.1 (fun a e => (HF.out.2.2.1 a e).2) HF.out.2.1 (by have := HLn.out.1; omega)
        have HLk : Hid (LOk n (behL T (frN L n) L)) := hLok
        have HR2 : Hid (_ = R) := hR2
        have HT0 : Hid (X.length ≤ (frN L n).length ∧ X.length ≤ 1000) := ⟨by omega, by have := HO.out.1; have := HLn.out.1; have : nlay T ≤ T.length := List.length_filter_le _ _; omega⟩
        clear HR1 hR2 ht0 hfull hLok hb13
        generalize behL T (frN L n) L = L' at *
        go_wp2_with fail
        refine hbe.mono ?_
        rintro e w4 ⟨mc, rfl, hm4, hmc, hb4⟩
        have hrt := rootPage_any mc L' w4 hm4 HLk.out.rise (by omega) (fun x hx => by have := HLk.out.place x hx; omega)
        have HM4 : Hid (lfM w4 mc L' ∧ w3.heap.size ≤ mc ∧ Below w3.heap.size w3 w4) := ⟨hm4, hmc, hb4⟩
        clear hbe hm4 hmc hb4
        go_wp2_with fail
        refine hrt.mono ?_
        rintro e w5 ⟨ra, rc, rfl, hO5⟩
        have hb35 : Below w3.heap.size w3 w5 := Below.transS HM4.out.2.2 hO5.2.2.2.1
        have hb25 : Below w2.heap.size w2 w5 := Below.transS HF.out.2.2.2 hb35
        have hb05 : Below w.heap.size w w5 := Below.transS HB2.out hb25
        have hs1 := HB1.out.size
        have hs2 := HB2.out.size
        have hs3 := HF.out.2.2.2.size
        have hs4 := HM4.out.2.2.size
        have hX5 := HX.out.keep hb25
        have hsh5 := HS.out.at_.below hb05
        have hm5 : lfM w5 mc L' := owns_keepB HM4.out.1 (hO5.2.2.2.1.block _ (World.ownsMap.lt HM4.out.1))
        have hmlt4 : mc < w4.heap.size := World.ownsMap.lt HM4.out.1
        have hwr := write_any sh m p fr n N w.heap.size L 0 G c (.slice la X.length lc) X fa fc (frN L n) ra rc (rootB L') w5 hsh5 (HS.out.st.below hb05) HOk.out (by have := HT0.out.2; omega) HS.out.fit HS.out.lt HS.out.nsh
          (owns_base hX5.own (by omega)) (fun x hx => ⟨(hX5.at_ x hx).1, fun a e => by have := (hX5.at_ x hx).2 a e; exact ⟨by omega, this.2.1⟩⟩) HT0.out.2
          (HF.out.1.keep hb35 (fun a e => (HF.out.2.2.1 a e).2.1)) (fun a e => by have := (HF.out.2.2.1 a e).1; omega) HT0.out.1 (fun x hx => (HBO.out.place x hx).2)
          hO5.1 hO5.2.1 (fun a e => by have := hO5.2.2.1 a e; omega) hO5.2.2.2.2 (rootB_le HLk.out hn)
        have HB5 : Hid (Below w.heap.size w w5) := hb05
        have HM5 : Hid (lfM w5 mc L' ∧ w.heap.size ≤ mc ∧ mc < w5.heap.size) := ⟨hm5, by have := HM4.out.2.1; omega, by have := hO5.2.2.2.1.size; omega⟩
        clear hrt hO5 hb35 hb25 hb05 hX5 hsh5 hm5
        have hlen6 : (c.lay (wsOf fr (X.map Bs.l) (frN L n)) (fr : Int) (rootB L')).2.safe.length = N := by rw [Ct.lay_len]; exact HS.out.len
        generalize c.lay (wsOf fr (X.map Bs.l) (frN L n)) (fr : Int) (rootB L') = r at *
        -- what the world behind the writing knows
        have HV : Hid (∀ w6, StG G p w5 w6 r.2 → ∃ G6 : Nat → Prop, ShAt w6 sh m p fr n L 0 ∧ CtAt w6 G6 p r.2 ∧ lfM w6 mc L' ∧ ¬ G6 sh ∧ ¬ G6 m ∧ ¬ G6 mc ∧ (∀ k, G6 k → k < w6.heap.size ∧ (G k ∨ w.heap.size ≤ k)) ∧ Fr G w w6) := fun w6 hh => by
          obtain ⟨G6, a1, a2, a3⟩ := hh
          have hsz := HB5.out.size
          have lsh := HS.out.at_.lt
          have lm := HS.out.at_.ltm
          have hsh5 := HS.out.at_.below HB5.out
          have nG : ∀ k, w.heap.size ≤ k → ¬ G k := fun k hk hg => by have := HS.out.lt k hg; omega
          refine ⟨G6, hsh5.keep (a3.block _ (by omega) HS.out.nsh) (a3.block _ (by omega) HS.out.nm), a1, owns_keepB HM5.out.1 (a3.block _ HM5.out.2.2 (nG _ HM5.out.2.1)), fun hg => ?_, fun hg => ?_, fun hg => ?_, fun k hk => ?_, ?_⟩
          · rcases a2 _ hg with hg | hg
            · exact HS.out.nsh hg
            · omega
          · rcases a2 _ hg with hg | hg
            · exact HS.out.nm hg
            · omega
          · rcases a2 _ hg with hg | hg
            · exact nG _ HM5.out.2.1 hg
            · have := HM5.out.2.2; omega
          · have s6 := a3.size
            rcases a2 _ hk with hg | hg
            · exact ⟨by have := HS.out.lt k hg; omega, .inl hg⟩
            · exact ⟨hg.2, .inr (by omega)⟩
          · exact (Fr.ofBelow (M := G) HB5.out).trans a3 fun _ _ hg => hg
        by_cases hr0 : r.1 = 0
        · have hwr' : Calls Tryz.prog 48 #[.pointer (some ⟨sh, 0, none⟩), .slice la X.length lc, .slice fa (frN L n).length fc, .slice ra (rootB L').length rc] w5 fun e w6 => e = .returned .nilIface ∧ StG G p w5 w6 r.2 := hwr.mono fun e w6 hh => ⟨by rw [hh.1, hr0]; rfl, hh.2⟩
          have hR3 := HR2.out
          rw [if_pos hr0] at hR3
          have HR3 : Hid ((0, L', 0, r.2) = R) := hR3
          clear hwr HR2 hR3
          go_wp2_with fail
          refine hwr'.mono ?_
          rintro e w6 ⟨rfl, hG6⟩
          obtain ⟨G6, v1, v2, v3, v4, v5, v6, v7, v8⟩ := HV.out w6 hG6
          have d1 := v1.setDead (x := 0)
          rw [errV_0] at d1
          have d2 := d1.setMap (m' := mc) (L' := L') (owns_keepB v3 (Below.heap_setCell _ _ _ _ (by simp; have := HM5.out.2.1; have := HS.out.at_.lt; omega))) HLk.out
          have HE : Hid (PutR G sh m p fr n N R w (.returned .nilIface) ((w6.setCell ⟨sh, 4, none⟩ .nilIface).setCell ⟨sh, 3, none⟩ (.map (some mc)))) := by
            rw [← HR3.out]
            refine ⟨rfl, G6, mc, ⟨d2, ?_, v4, v6, fun k hk => by have := (v7 k hk).1; simpa [World.setCell] using this, hlen6, HS.out.fit, by have := HM5.out.2.1; have := HS.out.at_.lt; omega⟩, fun k hk => (v7 k hk).2, .inr HM5.out.2.1, ?_⟩
            · refine v2.keep (by simp [World.setCell]) fun k _ hk => ?_
              have hne : k ≠ sh := fun e => v4 (e ▸ hk)
              rw [Below.heap_setCell _ _ _ _ (by simpa using hne), Below.heap_setCell _ _ _ _ (by simpa using hne)]
            · exact ((v8.mono fun _ _ hg => .inl hg).setCell _ _ (.inr rfl)).setCell _ _ (.inr rfl)
          have k4 := v1.c4
          have f4 := v1.fz 4
          have k3 := d1.c3
          have f3 := d1.fz 3
          have k4' := d1.c4
          rw [errV_0] at k4 k4'
          clear v1 v2 v3 v4 v5 v6 v7 v8 d1 d2 hG6 hwr'
          go_wp2
          go_ret
          exact HE.out
        · have hwr' : Calls Tryz.prog 48 #[.pointer (some ⟨sh, 0, none⟩), .slice la X.length lc, .slice fa (frN L n).length fc, .slice ra (rootB L').length rc] w5 fun e w6 => e = .returned (.iface 72 (.int .i64 r.1)) ∧ StG G p w5 w6 r.2 := hwr.mono fun e w6 hh => ⟨by rw [hh.1, errV_ne hr0], hh.2⟩
          have hR3 := HR2.out
          rw [if_neg hr0] at hR3
          have HR3 : Hid ((r.1, L, r.1, r.2) = R) := hR3
          clear hwr HR2 hR3
          go_wp2_with fail
          refine hwr'.mono ?_
          rintro e w6 ⟨rfl, hG6⟩
          obtain ⟨G6, v1, v2, v3, v4, v5, v6, v7, v8⟩ := HV.out w6 hG6
          have d1 := v1.setDead (x := r.1)
          rw [errV_ne hr0] at d1
          have HE : Hid (PutR G sh m p fr n N R w (.returned (.iface 72 (.int .i64 r.1))) (w6.setCell ⟨sh, 4, none⟩ (.iface 72 (.int .i64 r.1)))) := by
            rw [← HR3.out]
            refine ⟨by rw [errV_ne hr0], G6, m, ⟨d1, ?_, v4, v5, fun k hk => by have := (v7 k hk).1; simpa [World.setCell] using this, hlen6, HS.out.fit, HS.out.ne⟩, fun k hk => (v7 k hk).2, .inl rfl, ?_⟩
            · refine v2.keep (by simp [World.setCell]) fun k _ hk => ?_
              have hne : k ≠ sh := fun e => v4 (e ▸ hk)
              rw [Below.heap_setCell _ _ _ _ (by simpa using hne)]
            · exact (v8.mono fun _ _ hg => .inl hg).setCell _ _ (.inr rfl)
          have k4 := v1.c4
          have f4 := v1.fz 4
          have k4' := d1.c4
          rw [errV_0] at k4
          rw [errV_ne hr0] at k4'
          clear v1 v2 v3 v4 v5 v6 v7 v8 d1 hG6 hwr'
          go_wp2
          go_ret
          exact HE.out
end Go.Proofs.YtbfajoeilpkofaaGreatDoor
