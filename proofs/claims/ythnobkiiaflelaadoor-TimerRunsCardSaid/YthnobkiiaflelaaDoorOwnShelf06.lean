/- What is asked of a queue: its calls by contracts (QK0), whatever it is made of (QS); what must come whatever the input is. -/
import Derived.Test.YthnobkiiaflelaaDoorOwnShelf04
import Derived.Test.YthnobkiiaflelaaDoorOwnShelf05
namespace Go.Proofs.YthnobkiiaflelaaDoor
open Go.RowKit Go.Maps Go.Sort

def addL (last due : Int) (nm : List UInt8) (L : List Ev) : List Ev := if addE due nm = 0 then insE ⟨last + 1, due, nm⟩ L else L
def addN (last due : Int) (nm : List UInt8) : Int := if addE due nm = 0 then last + 1 else last
def addI (last due : Int) (nm : List UInt8) : Int := if addE due nm = 0 then last + 1 else 0
def canE (id : Int) (L : List Ev) : Int := if (cutE id L).length = L.length then 8 else 0
def hdE : List Ev → Int
  | [] => 0
  | x :: _ => x.due
/-- A queue behind a call. -/
structure Qr (QS : World → (Nat → Prop) → Nat → List Ev → Int → Prop) (A : Nat → Prop) (p : Nat) (L : List Ev) (last : Int) (w w' : World) (A' : Nat → Prop) : Prop where
  q : QS w' A' p L last
  sub : ∀ k, A' k → A k ∨ w.heap.size ≤ k
  fr : Fr A w w'
/-- What the events of a queue keep to. -/
structure LOk (L : List Ev) (last : Int) : Prop where
  up : UpE L
  id : ∀ x ∈ L, 1 ≤ x.id ∧ x.id ≤ last
  due : ∀ x ∈ L, 0 ≤ x.due ∧ x.due ≤ 1099511627776
  nm : ∀ x ∈ L, x.nm.length ≤ 64
  nn : 0 ≤ last
  le : (L.length : Int) ≤ last
/-- The calls of a queue that takes and gives. -/
structure QK0 (QS : World → (Nat → Prop) → Nat → List Ev → Int → Prop) : Prop where
  low : ∀ {w A p L last}, QS w A p L last → ∀ k, A k → k < w.heap.size
  keep : ∀ {w w' A p L last}, QS w A p L last → w.heap.size ≤ w'.heap.size → (∀ k, A k → w'.heap[k]? = w.heap[k]?) → QS w' A p L last
  ok : ∀ {w A p L last}, QS w A p L last → LOk L last
  new : ∀ w, Calls Tryd.prog 8 #[] w fun e w' => ∃ p A, e = .returned (.pointer (some ⟨p, 0, none⟩)) ∧ QS w' A p [] 0 ∧ (∀ k, A k → w.heap.size ≤ k) ∧ Below w.heap.size w w'
  add : ∀ {w A p L last} (due : Int) (nm : List UInt8), QS w A p L last → last < 1000 → (-9223372036854775808 ≤ due ∧ due ≤ 9223372036854775807) → nm.length ≤ maxLen →
    Calls Tryd.prog 6 #[.pointer (some ⟨p, 0, none⟩), .int .i64 due, encStr nm] w fun e w' => ∃ A', e = .returned (.tuple #[.int .i64 (addI last due nm), errV (addE due nm)]) ∧ Qr QS A p (addL last due nm L) (addN last due nm) w w' A'
  pop : ∀ {w A p L last} (now : Int), QS w A p L last → last ≤ 1000 → (-9223372036854775808 ≤ now ∧ now ≤ 9223372036854775807) →
    Calls Tryd.prog 12 #[.pointer (some ⟨p, 0, none⟩), .int .i64 now] w fun e w' => ∃ A' ad cap, e = .returned (.slice ad (dueE now L).length cap) ∧ Qr QS A p (restE now L) last w w' A' ∧ EvAt w' ad (dueE now L) ∧ (∀ a, ad = some a → ¬ A' a.block ∧ w.heap.size ≤ a.block) ∧ (dueE now L).length ≤ cap
  next : ∀ {w A p L last}, QS w A p L last → last ≤ 1000 →
    Calls Tryd.prog 7 #[.pointer (some ⟨p, 0, none⟩)] w fun e w' => ∃ A', e = .returned (.tuple #[.int .i64 (hdE L), .bool (decide (0 < L.length))]) ∧ Qr QS A p L last w w' A'
  len : ∀ {w A p L last}, QS w A p L last → last ≤ 1000 →
    Calls Tryd.prog 11 #[.pointer (some ⟨p, 0, none⟩)] w fun e w' => ∃ A', e = .returned (.int .i64 (L.length : Int)) ∧ Qr QS A p L last w w' A'
/-- A queue all of whose blocks are from B on. -/
structure QAt (QS : World → (Nat → Prop) → Nat → List Ev → Int → Prop) (B : Nat) (w : World) (A : Nat → Prop) (p : Nat) (L : List Ev) (last : Int) : Prop where
  q : QS w A p L last
  up : ∀ k, A k → B ≤ k
theorem Qr.at {QS : World → (Nat → Prop) → Nat → List Ev → Int → Prop} {A A' : Nat → Prop} {p : Nat} {L M : List Ev} {last l' : Int} {B : Nat} {w w' : World} (h : Qr QS A p M l' w w' A') (hq : QAt QS B w A p L last) (hB : B ≤ w.heap.size) : QAt QS B w' A' p M l' ∧ Below B w w' :=
  ⟨⟨h.q, fun k hk => by
    rcases h.sub k hk with h1 | h1
    · exact hq.up k h1
    · omega⟩, h.fr.below hB hq.up⟩
theorem insE_one (a b : Ev) (h : ¬ a.due ≤ b.due) : insE b [a] = [b, a] := by simp [insE, h]

set_option maxRecDepth 100000 in
set_option maxHeartbeats 3200000 in
theorem sure0_any {QS : World → (Nat → Prop) → Nat → List Ev → Int → Prop} (hK : QK0 QS) (w : World) :
    Calls Tryd.prog 18 #[] w fun e w' => e = .returned (.bool true) ∧ Below w.heap.size w w' := by
  have HK : Hid (QK0 QS) := hK
  clear hK
  go_enter Tryd.func18, Tryd.ntmps18
  go_wp2_with fail
  refine (HK.out.new w).mono ?_
  rintro e w1 ⟨p, A1, rfl, hq1, hA1, hb1⟩
  have HQ1 : Hid (QAt QS w.heap.size w1 A1 p [] 0 ∧ Below w.heap.size w w1) := ⟨⟨hq1, hA1⟩, hb1⟩
  clear hq1 hA1 hb1
  go_wp2_with fail
  refine (HK.out.add 5 [97] HQ1.out.1.q (by decide) (by decide) (by decide)).mono ?_
  rintro e w2 ⟨A2, rfl, hr2⟩
  have HQ2 : Hid (QAt QS w.heap.size w2 A2 p [⟨1, 5, [97]⟩] 1 ∧ Below w.heap.size w w2) := ⟨(hr2.at HQ1.out.1 HQ1.out.2.size).1, HQ1.out.2.trans (hr2.at HQ1.out.1 HQ1.out.2.size).2⟩
  clear hr2
  go_wp2_with fail
  refine (HK.out.add 3 [98] HQ2.out.1.q (by decide) (by decide) (by decide)).mono ?_
  rintro e w3 ⟨A3, rfl, hr3⟩
  have HQ3 : Hid (QAt QS w.heap.size w3 A3 p [⟨2, 3, [98]⟩, ⟨1, 5, [97]⟩] 2 ∧ Below w.heap.size w w3) := ⟨(hr3.at HQ2.out.1 HQ2.out.2.size).1, HQ2.out.2.trans (hr3.at HQ2.out.1 HQ2.out.2.size).2⟩
  clear hr3
  have he1 : errV (addE 5 [97]) = .nilIface := rfl
  have he2 : errV (addE 3 [98]) = .nilIface := rfl
  go_wp2_with fail
  refine (HK.out.pop 4 HQ3.out.1.q (by decide) (by decide)).mono ?_
  rintro e w4 ⟨A4, ad, cap, rfl, hr4, hev, hfar, hcap⟩
  have HQ4 : Hid (QAt QS w.heap.size w4 A4 p [⟨1, 5, [97]⟩] 2 ∧ Below w.heap.size w w4) := ⟨(hr4.at HQ3.out.1 HQ3.out.2.size).1, HQ3.out.2.trans (hr4.at HQ3.out.1 HQ3.out.2.size).2⟩
  have hev' : EvAt w4 ad [⟨2, 3, [98]⟩] := hev
  have HF4 : Hid (∀ a, ad = some a → ¬ A4 a.block ∧ w3.heap.size ≤ a.block) := hfar
  have hl1 : (dueE 4 [⟨2, 3, [98]⟩, ⟨1, 5, [97]⟩]).length = 1 := rfl
  rw [hl1] at hcap ⊢
  obtain ⟨bb, off, rfl, hc⟩ := hev' (by decide)
  have HC4 : Hid (EvAt w4 (some ⟨bb, off, none⟩) [⟨2, 3, [98]⟩]) := hev'
  clear hr4 hev hev' hfar hl1 hc
  go_wp2_with fail
  refine (HK.out.next HQ4.out.1.q (by decide)).mono ?_
  rintro e w5 ⟨A5, rfl, hr5⟩
  have HQ5 : Hid (Below w.heap.size w w5) := HQ4.out.2.trans (hr5.at HQ4.out.1 HQ4.out.2.size).2
  have hev5 : EvAt w5 (some ⟨bb, off, none⟩) [⟨2, 3, [98]⟩] := HC4.out.keep fun a e hn => by
    cases e
    exact hr5.fr.block bb (HC4.out.lt rfl hn) (HF4.out _ rfl).1
  obtain ⟨b', off', e', hc⟩ := hev5 (by decide)
  cases e'
  obtain ⟨c0, c1, c2⟩ := hc 0 _ rfl
  have hh : hdE [⟨1, 5, [97]⟩] = 5 := rfl
  have hd : decide (0 < [(⟨1, 5, [97]⟩ : Ev)].length) = true := rfl
  rw [hh, hd]
  simp only [Nat.zero_mul, Nat.add_zero] at c0 c1 c2
  have c2' : w5.cell? ⟨bb, off + 2, none⟩ = some (.string ⟨#[98]⟩) := c2
  have heq : (Op.equalIn 10000 58 (.agg #[.int .i64 2, .int .i64 3, .string ⟨#[98]⟩]) (.agg #[.int .i64 2, .int .i64 3, .string ⟨#[98]⟩])).run Tryd.prog w5 = .ok true w5 :=
    (eq_ev (x := ⟨2, 3, [98]⟩) (y := ⟨2, 3, [98]⟩) ⟨by decide, by decide, by decide⟩ ⟨by decide, by decide, by decide⟩ w5).trans (by simp)
  have hgd := guardE
  clear hr5 hev5 hc hh hd c2 he1 he2
  go_wp2
  go_ret
  exact ⟨rfl, HQ5.out⟩
end Go.Proofs.YthnobkiiaflelaaDoor
/- What is asked of a queue that takes, gives and cancels (QK1). -/
namespace Go.Proofs.YthnobkiiaflelaaDoor
open Go.RowKit Go.Maps Go.Sort

/-- The calls of a queue that takes, gives and cancels. -/
structure QK1 (QS : World → (Nat → Prop) → Nat → List Ev → Int → Prop) : Prop extends QK0 QS where
  cancel : ∀ {w A p L last} (id : Int), QS w A p L last → last ≤ 1000 → (-9223372036854775808 ≤ id ∧ id ≤ 9223372036854775807) →
    Calls Tryd.prog 10 #[.pointer (some ⟨p, 0, none⟩), .int .i64 id] w fun e w' => ∃ A', e = .returned (errV (canE id L)) ∧ Qr QS A p (cutE id L) last w w' A'
end Go.Proofs.YthnobkiiaflelaaDoor
