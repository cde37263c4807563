/- What (*enc.Reader).Int and (*enc.Reader).Uint do: the value, what is left, the first error. -/
import Derived.Test.YtnjkgpgbipcgcaaDoorOwnShelf35
namespace Go.Proofs.YtnjkgpgbipcgcaaDoor
open Go.RowKit

/-- A reader at block rb: n bytes z are left, er is the number of its first error (0: none). -/
def RdAt (w : World) (rb n : Nat) (z : Nat → Int) (er : Int) : Prop :=
  ∃ ad cap, w.heap[rb]? = some (.cells #[.slice ad n cap, errV er] 119 (0, 0)) ∧ n ≤ cap ∧ SlAt w ad n z ∧ ∀ b off, 0 < n → ad = some ⟨b, off, none⟩ → b < rb


theorem RdAt.fail {w w1 : World} {rb n cap : Nat} {z : Nat → Int} {er : Int} {ad : Option Addr} (hr : w.heap[rb]? = some (.cells #[.slice ad n cap, errV 0] 119 (0, 0))) (hlc : n ≤ cap) (hs : SlAt w ad n z) (hlb : ∀ b off, 0 < n → ad = some ⟨b, off, none⟩ → b < rb)
    (hf : Frm [] w w1) : RdAt (w1.setCell ⟨rb, 1, none⟩ (errV er)) rb n z er ∧ Frm [rb] w (w1.setCell ⟨rb, 1, none⟩ (errV er)) := by
  have hF : Frm [rb] w (w1.setCell ⟨rb, 1, none⟩ (errV er)) := (hf.mono (fun _ h => by cases h)).setCell _ _ (by simp)
  refine ⟨⟨ad, cap, two_set1 (hf.heap hr (by simp)), hlc, (hs.frm hF fun b off hn e => ?_), hlb⟩, hF⟩
  have := hs.ne_two hr hn e
  simpa using this

theorem RdAt.took {w w1 : World} {rb n cap k : Nat} {z : Nat → Int} {ad ad' : Option Addr} (hr : w.heap[rb]? = some (.cells #[.slice ad n cap, errV 0] 119 (0, 0))) (hlc : n ≤ cap)
    (hs' : SlAt w ad' (n - k) (fun j => z (j + k))) (hlb : ∀ b off, 0 < n - k → ad' = some ⟨b, off, none⟩ → b < rb)
    (hf : Frm [] w w1) : RdAt (w1.setCell ⟨rb, 0, none⟩ (.slice ad' (n - k) (cap - k))) rb (n - k) (fun j => z (j + k)) 0 ∧ Frm [rb] w (w1.setCell ⟨rb, 0, none⟩ (.slice ad' (n - k) (cap - k))) := by
  have hF : Frm [rb] w (w1.setCell ⟨rb, 0, none⟩ (.slice ad' (n - k) (cap - k))) := (hf.mono (fun _ h => by cases h)).setCell _ _ (by simp)
  refine ⟨⟨ad', cap - k, two_set0 (hf.heap hr (by simp)), by omega, (hs'.frm hF fun b off hn e => ?_), hlb⟩, hF⟩
  have := hs'.ne_two hr hn e
  simpa using this

/-- What a reader has left behind k bytes that were taken off. -/
def Took (w w' : World) (rb n cap k : Nat) (ad : Option Addr) : Prop :=
  ∃ ad' q, (ad' = ad ∧ cap = k ∨ ad' = Option.map (fun x => x.add k) ad) ∧ w' = (w.drewN q).setCell ⟨rb, 0, none⟩ (.slice ad' (n - k) (cap - k))
theorem Took.all (w : World) (rb n cap q : Nat) (ad : Option Addr) : Took w ((w.drewN q).setCell ⟨rb, 0, none⟩ (.slice ad (n - cap) 0)) rb n cap cap ad := ⟨ad, q, .inl ⟨rfl, rfl⟩, by simp⟩
theorem Took.some (w : World) (rb n cap k q : Nat) (ad : Option Addr) : Took w ((w.drewN q).setCell ⟨rb, 0, none⟩ (.slice (Option.map (fun x => x.add k) ad) (n - k) (cap - k))) rb n cap k ad := ⟨_, q, .inr rfl, rfl⟩
theorem Took.rd {w0 w w' : World} {rb n cap k : Nat} {ad : Option Addr} {z : Nat → Int} (h : Took w w' rb n cap k ad) (hr : w0.heap[rb]? = Option.some (.cells #[.slice ad n cap, errV 0] 119 (0, 0))) (hlc : n ≤ cap) (hs : SlAt w0 ad n z) (hlb : ∀ b off, 0 < n → ad = Option.some ⟨b, off, none⟩ → b < rb) (hkn : k ≤ n) (hf : Frm [] w0 w) :
    RdAt w' rb (n - k) (fun j => z (j + k)) 0 ∧ Frm [rb] w0 w' := by
  obtain ⟨ad', q, he, rfl⟩ := h
  have hs' : SlAt w0 ad' (n - k) (fun j => z (j + k)) := by
    rcases he with ⟨rfl, hc⟩ | rfl
    · rw [show n - k = 0 from by omega]; exact SlAt.zero _ _
    · exact hs.drop
  refine RdAt.took hr hlc hs' (fun b off hn e => ?_) (hf.drewN q)
  rcases he with ⟨rfl, hc⟩ | rfl
  · exact hlb b off (by omega) e
  · obtain ⟨b0, off0, e0, _⟩ := hs.2 (by omega)
    subst e0
    have hbk : ((⟨b0, off0, none⟩ : Addr).add k).block = b0 := by rw [Addr.add_lit]
    simp only [Option.map_some, Option.some.injEq] at e
    have : b = b0 := by rw [← hbk, e]
    subst this
    exact hlb b off0 (by omega) rfl

set_option maxHeartbeats 400000 in
theorem rdUint_err (rb n cap : Nat) (ad : Option Addr) (z : Nat → Int) (er most : Int) (w : World) (h0 : w.cell? ⟨rb, 0, none⟩ = some (.slice ad n cap)) (h1 : w.cell? ⟨rb, 1, none⟩ = some .nilIface) (hf : w.frozen? ⟨rb, 1, none⟩ = false)
    (hlc : n ≤ cap) (hs : SlAt w ad n z) (hE : errV (uE n z most) = .iface 72 (.int .i64 er)) :
    Calls Tryd.prog 66 #[.pointer (some ⟨rb, 0, none⟩), .int .u64 most] w fun e w' =>
      e = .returned (.int .u64 0) ∧ ∃ q, w' = ((w.alloc (.cells #[.int .u64 most] 84)).drewN q).setCell ⟨rb, 1, none⟩ (.iface 72 (.int .i64 er)) := by
  have hs1 : SlAt (w.alloc (.cells #[.int .u64 most] 84)) ad n z := hs.frm ((Frm.refl [] w).alloc _) (by simp)
  have hlt : rb < w.heap.size := World.block_lt_of_cell? w ⟨rb, 0, none⟩ h0
  go_enter Tryd.func66, Tryd.ntmps66
  go_wp2_with (first | (go_at_call 84; refine (frontUint_any _ _ _ most z _ hlc hs1).mono ?_; rintro e w' ⟨rfl, q, rfl⟩) | go_in)
  go_ret3
  go_wp2
  go_ret
  exact ⟨rfl, q, rfl⟩

set_option maxHeartbeats 400000 in
theorem rdUint_ok (rb n cap k : Nat) (ad : Option Addr) (z : Nat → Int) (most : Int) (w : World) (h0 : w.cell? ⟨rb, 0, none⟩ = some (.slice ad n cap)) (h1 : w.cell? ⟨rb, 1, none⟩ = some .nilIface) (hf : w.frozen? ⟨rb, 0, none⟩ = false)
    (hlc : n ≤ cap) (hs : SlAt w ad n z) (hE : errV (uE n z most) = .nilIface) (hk : uN n z most = k) (hkn : k ≤ n) :
    Calls Tryd.prog 66 #[.pointer (some ⟨rb, 0, none⟩), .int .u64 most] w fun e w' =>
      e = .returned (.int .u64 (uV n z most)) ∧ Took (w.alloc (.cells #[.int .u64 most] 84)) w' rb n cap k ad := by
  have hs1 : SlAt (w.alloc (.cells #[.int .u64 most] 84)) ad n z := hs.frm ((Frm.refl [] w).alloc _) (by simp)
  have hlt : rb < w.heap.size := World.block_lt_of_cell? w ⟨rb, 0, none⟩ h0
  have hkn1 : (k : Int) ≤ (n : Int) := by omega
  have hlc1 : (n : Int) ≤ (cap : Int) := by omega
  have hk0 : (0 : Int) ≤ (k : Int) := by omega
  go_enter Tryd.func66, Tryd.ntmps66
  go_wp2_with (first | (go_at_call 84; refine (frontUint_any _ _ _ most z _ hlc hs1).mono ?_; rintro e w' ⟨rfl, q, rfl⟩) | go_in)
  go_ret3
  go_wp2
  · subst h
    go_ret
    exact ⟨rfl, Took.all _ _ _ _ _ _⟩
  · go_ret
    exact ⟨rfl, Took.some _ _ _ _ _ _ _⟩

theorem rdUint_any (rb n : Nat) (z : Nat → Int) (most : Int) (w : World) (h : RdAt w rb n z 0) :
    Calls Tryd.prog 66 #[.pointer (some ⟨rb, 0, none⟩), .int .u64 most] w fun e w' =>
      e = .returned (.int .u64 (uV n z most)) ∧ Frm [rb] w w' ∧ RdAt w' rb (n - uN n z most) (fun j => z (j + uN n z most)) (uE n z most) := by
  obtain ⟨ad, cap, hr, hlc, hs, hlb⟩ := h
  by_cases hE : uE n z most = 0
  · have hk : uN n z most ≤ n := uN_le hE
    refine (rdUint_ok rb n cap (uN n z most) ad z most w (two_cell0 hr) (two_cell1 hr) (two_free hr 0) hlc hs (by rw [hE]; rfl) rfl hk).mono ?_
    rintro e w' ⟨rfl, ht⟩
    rw [hE]
    have := ht.rd hr hlc hs hlb hk ((Frm.refl [] w).alloc _)
    exact ⟨rfl, this.2, this.1⟩
  · have hN : uN n z most = 0 := by simp [uN, hE]
    have hV : uV n z most = 0 := by simp [uV, hE]
    refine (rdUint_err rb n cap ad z (uE n z most) most w (two_cell0 hr) (two_cell1 hr) (two_free hr 1) hlc hs (errV_ne hE)).mono ?_
    rintro e w' ⟨rfl, q, rfl⟩
    rw [hN, hV, ← errV_ne hE]
    have := RdAt.fail (er := uE n z most) hr hlc hs hlb (((Frm.refl [] w).alloc (.cells #[.int .u64 most] 84)).drewN q)
    exact ⟨rfl, this.2, this.1⟩
end Go.Proofs.YtnjkgpgbipcgcaaDoor
/- enc.Read: a reader of bytes. -/
namespace Go.Proofs.YtnjkgpgbipcgcaaDoor
open Go.RowKit

set_option maxHeartbeats 400000 in
theorem read_any (ad : Option Addr) (n cap : Nat) (z : Nat → Int) (w : World) (hs : SlAt w ad n z) (hnil : ad = none → n = 0 ∧ cap = 0) (hn : n ≤ 140737488351232) :
    Calls Tryd.prog 41 #[.slice ad n cap] w fun e w' => ∃ rb, e = .returned (.pointer (some ⟨rb, 0, none⟩)) ∧ RdAt w' rb n z 0 ∧ w.heap.size ≤ rb ∧ Below w.heap.size w w' := by
  go_enter Tryd.func41, Tryd.ntmps41
  go_wp2_with fail
  refine (clone_any ad n cap z w hs hnil hn).mono ?_
  rintro e w1 ⟨ad', cap', rfl, h1, h2, h3, h4, hb⟩
  go_wp2
  go_ret
  exact ⟨w1.heap.size, rfl, ⟨ad', cap', heap_alloc_new w1 _, h1, h2.frm ((Frm.refl [] w1).alloc _) (by simp), fun b off hn e => h2.lt hn e⟩, hb.size, hb.alloc hb.size _⟩
end Go.Proofs.YtnjkgpgbipcgcaaDoor
