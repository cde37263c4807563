/- EncTakes: what holds at each round, and within one. -/
import Derived.Test.YtelpkbdobeofgaaDoorSure
import Derived.Test.YtelpkbdobeofgaaDoorEnds
import Derived.Test.YtelpkbdobeofgaaDoorSteps
namespace Go.Proofs.YtelpkbdobeofgaaDoor
open Go.RowKit

/-- How the questions lie. -/
def AskAt (w : World) (la : Option Addr) (m : Nat) (kd mo : Nat → Int) : Prop :=
  (∀ j, j < m → (-9223372036854775808 ≤ kd j ∧ kd j ≤ 9223372036854775807) ∧ (-9223372036854775808 ≤ mo j ∧ mo j ≤ 9223372036854775807)) ∧ (0 < m → ∃ b off, la = some ⟨b, off, none⟩ ∧ ∀ j, j < m → w.cell? ⟨b, off + j * 2, none⟩ = some (.int .i64 (kd j)) ∧ w.cell? ⟨b, off + j * 2 + 1, none⟩ = some (.int .i64 (mo j)))

/-- What holds at each round. -/
structure TkS (w w' : World) (r1 qb n : Nat) (z : Nat → Int) (er : Int) (aq : Option Addr) (cq : Nat) : Prop where
  below : Below w.heap.size w w'
  glob : Glob w'
  rd : RdAt w' r1 n z er
  q : w'.heap[qb]? = some (.cells #[.slice aq n cq, .int .i64 er] 27 (0, 0))
  hc : n ≤ cq
  hs : SlAt w' aq n z
  rge : w.heap.size ≤ r1
  qge : w.heap.size ≤ qb
  ne : r1 ≠ qb
  hn : n ≤ 140737488351232

theorem Below.allocS {w w' : World} (h : Below w.heap.size w w') (o : Obj) : Below w.heap.size w (w'.alloc o) := h.alloc h.size o
theorem Below.transS {w w1 w2 : World} (h : Below w.heap.size w w1) (k : Below w1.heap.size w1 w2) : Below w.heap.size w w2 := h.trans (k.mono h.size)
theorem TkS.keep {w w1 w2 : World} {r1 qb n : Nat} {z : Nat → Int} {er : Int} {aq : Option Addr} {cq b o1 o2 : Nat} {x y : Value} (h : TkS w w1 r1 qb n z er aq cq) (hblt : b < w.heap.size) (h1 : w1.cell? ⟨b, o1, none⟩ = some x) (h2 : w1.cell? ⟨b, o2, none⟩ = some y) (hb : Below w1.heap.size w1 w2) :
    Below w1.heap.size w1 w2 ∧ w2.cell? ⟨qb, 0, none⟩ = some (.slice aq n cq) ∧ w2.cell? ⟨qb, 1, none⟩ = some (.int .i64 er) ∧ w2.cell? ⟨b, o1, none⟩ = some x ∧ w2.cell? ⟨b, o2, none⟩ = some y := by
  have hq := (Frm.ofBelow (S := []) hb).heap h.q (by simp)
  have hl : b < w1.heap.size := Nat.lt_of_lt_of_le hblt h.below.size
  exact ⟨hb, two_cell0 hq, two_cell1 hq, (hb.cell (p := ⟨b, o1, none⟩) hl).trans h1, (hb.cell (p := ⟨b, o2, none⟩) hl).trans h2⟩
theorem new_kept {W wx : World} {u v : Value} {t : TypeId} (hb : Below (W.alloc (.cells #[u, v] t)).drew.heap.size (W.alloc (.cells #[u, v] t)).drew wx) : wx.heap[W.heap.size]? = some (.cells #[u, v] t (0, 0)) := by
  rw [hb.block _ (by simp)]
  exact heap_alloc_new W _
theorem TkS.sl {w w1 w2 : World} {r1 qb n : Nat} {z : Nat → Int} {er : Int} {aq : Option Addr} {cq : Nat} (h : TkS w w1 r1 qb n z er aq cq) (hb : Below w1.heap.size w1 w2) : SlAt w2 aq n z := h.hs.frm (S := []) (Frm.ofBelow hb) (by simp)
theorem kappa (x : Int) : wrap64 ((IntKind.u64.wrap x).tmod 5) = 0 ∨ wrap64 ((IntKind.u64.wrap x).tmod 5) = 1 ∨ wrap64 ((IntKind.u64.wrap x).tmod 5) = 2 ∨ wrap64 ((IntKind.u64.wrap x).tmod 5) = 3 ∨ wrap64 ((IntKind.u64.wrap x).tmod 5) = 4 := by
  have h0 : 0 ≤ IntKind.u64.wrap x := by simp [IntKind.wrap, IntKind.bits, IntKind.signed]; omega
  have h1 : (IntKind.u64.wrap x).tmod 5 = (IntKind.u64.wrap x) % 5 := Int.tmod_eq_emod_of_nonneg h0
  rw [h1]
  have h2 : 0 ≤ (IntKind.u64.wrap x) % 5 ∧ (IntKind.u64.wrap x) % 5 < 5 := by omega
  have h3 : wrap64 ((IntKind.u64.wrap x) % 5) = (IntKind.u64.wrap x) % 5 := by simp only [wrap64]; omega
  omega

/-- Bytes lie in no block that is a document's reader. -/
theorem SlAt.ne_q {w : World} {ad : Option Addr} {n : Nat} {z : Nat → Int} (h : SlAt w ad n z) {rb : Nat} {a' : Option Addr} {n' cap' : Nat} {er : Int} {t : TypeId}
    (hr : w.heap[rb]? = some (.cells #[.slice a' n' cap', .int .i64 er] t (0, 0))) {b off : Nat} (hn : 0 < n) (e : ad = some ⟨b, off, none⟩) : b ≠ rb := by
  intro hbr
  subst hbr
  obtain ⟨b', off', e', hc⟩ := h.2 hn
  rw [e] at e'; cases e'
  have h0 := hc 0 hn
  rw [World.cell?, hr] at h0
  match off, h0 with
  | 0, h0 => simp at h0
  | 1, h0 => simp at h0
  | o + 2, h0 => simp at h0
theorem SlAt.undrew {w : World} {ad : Option Addr} {n : Nat} {z : Nat → Int} (h : SlAt w.drew ad n z) : SlAt w ad n z := h.block (fun _ _ _ _ => rfl)

/-- Within a round: what the document took, in a variable of its own. -/
structure TkM (wr w' : World) (gb n1 : Nat) (z1 : Nat → Int) (er1 : Int) (a1 : Option Addr) (c1 : Nat) : Prop where
  below : Below wr.heap.size wr w'
  g : w'.heap[gb]? = some (.cells #[.slice a1 n1 c1, .int .i64 er1] 27 (0, 0))
  gge : wr.heap.size ≤ gb
  hc : n1 ≤ c1
  hs : SlAt wr a1 n1 z1
theorem TkM.way0 {wr wx : World} {n1 : Nat} {z1 : Nat → Int} {er1 : Int} {a1 : Option Addr} {c1 : Nat} (hbx : Below wr.heap.size wr wx) (hc : n1 ≤ c1) (hs : SlAt wr a1 n1 z1) :
    TkM wr (wx.alloc (.cells #[.slice a1 n1 c1, .int .i64 er1] 27)) wx.heap.size n1 z1 er1 a1 c1 :=
  ⟨Below.allocS hbx _, heap_alloc_new wx _, hbx.size, hc, hs⟩
theorem TkM.way1 {wr wx : World} {n1 : Nat} {z1 : Nat → Int} {er1 : Int} {a1 : Option Addr} {c1 : Nat} (hbx : Below wr.drew.heap.size wr.drew wx) (hc : n1 ≤ c1) (hs : SlAt wr.drew a1 n1 z1) :
    TkM wr (wx.alloc (.cells #[.slice a1 n1 c1, .int .i64 er1] 27)) wx.heap.size n1 z1 er1 a1 c1 :=
  ⟨Below.allocS (Below.transS (Below.refl _ wr).drew hbx) _, heap_alloc_new wx _, hbx.size, hc, hs.undrew⟩
theorem TkM.way2 {wr wx : World} {n1 : Nat} {z1 : Nat → Int} {er1 : Int} {a1 : Option Addr} {c1 : Nat} (hbx : Below (wr.alloc (.cells #[.slice none 0 0, .int .i64 0] 27)).drew.heap.size (wr.alloc (.cells #[.slice none 0 0, .int .i64 0] 27)).drew wx) (hc : n1 ≤ c1) (hs : SlAt (wr.alloc (.cells #[.slice none 0 0, .int .i64 0] 27)).drew a1 n1 z1) :
    TkM wr ((wx.setCell ⟨wr.heap.size, 0, none⟩ (.slice a1 n1 c1)).setCell ⟨wr.heap.size, 1, none⟩ (.int .i64 er1)) wr.heap.size n1 z1 er1 a1 c1 :=
  ⟨Below.setCell (Below.setCell (Below.transS (Below.allocS (Below.refl _ wr) _).drew hbx) (by simp) _) (by simp) _, two_set1 (two_set0 (new_kept hbx)), Nat.le_refl _, hc, hs.undrew.strip⟩
theorem TkM.keep {w wr w' w2 : World} {r1 qb n : Nat} {z : Nat → Int} {er : Int} {aq : Option Addr} {cq gb n1 : Nat} {z1 : Nat → Int} {er1 : Int} {a1 : Option Addr} {c1 b o1 : Nat} {y : Value} (h : TkS w wr r1 qb n z er aq cq) (hm : TkM wr w' gb n1 z1 er1 a1 c1) (hblt : b < w.heap.size) (h1 : wr.cell? ⟨b, o1, none⟩ = some y) (hf : Frm [r1, qb] w' w2) :
    w2.cell? ⟨gb, 0, none⟩ = some (.slice a1 n1 c1) ∧ w2.cell? ⟨gb, 1, none⟩ = some (.int .i64 er1) ∧ w2.cell? ⟨b, o1, none⟩ = some y := by
  have hq := lt_of_block h.q
  have hr := h.rd.lt
  have hg := hf.heap hm.g (by have := hm.gge; simp; omega)
  have hl : b < wr.heap.size := Nat.lt_of_lt_of_le hblt h.below.size
  have hb' : w2.heap[b]? = w'.heap[b]? := hf.block b (Nat.lt_of_lt_of_le hl hm.below.size) (by have := h.rge; have := h.qge; simp; omega)
  have hc' : w2.cell? ⟨b, o1, none⟩ = w'.cell? ⟨b, o1, none⟩ := by simp only [World.cell?, hb']
  exact ⟨two_cell0 hg, two_cell1 hg, hc'.trans ((hm.below.cell (p := ⟨b, o1, none⟩) hl).trans h1)⟩
theorem TkM.q {w wr w' w2 : World} {r1 qb n : Nat} {z : Nat → Int} {er : Int} {aq : Option Addr} {cq gb n1 : Nat} {z1 : Nat → Int} {er1 : Int} {a1 : Option Addr} {c1 : Nat} (h : TkS w wr r1 qb n z er aq cq) (hm : TkM wr w' gb n1 z1 er1 a1 c1) (hf : Frm [r1] w' w2) :
    w2.heap[qb]? = some (.cells #[.slice aq n cq, .int .i64 er] 27 (0, 0)) :=
  hf.heap ((Frm.ofBelow (S := []) hm.below).heap h.q (by simp)) (by have := h.ne; simp; omega)
theorem TkM.rd {w wr w' : World} {r1 qb n : Nat} {z : Nat → Int} {er : Int} {aq : Option Addr} {cq gb n1 : Nat} {z1 : Nat → Int} {er1 : Int} {a1 : Option Addr} {c1 : Nat} (h : TkS w wr r1 qb n z er aq cq) (hm : TkM wr w' gb n1 z1 er1 a1 c1) : RdAt w' r1 n z er := h.rd.below hm.below
theorem TkM.done {w wr w' w2 : World} {r1 qb n : Nat} {z : Nat → Int} {er : Int} {aq : Option Addr} {cq gb n1 : Nat} {z1 : Nat → Int} {er1 : Int} {a1 : Option Addr} {c1 : Nat} (h : TkS w wr r1 qb n z er aq cq) (hm : TkM wr w' gb n1 z1 er1 a1 c1) (hf : Frm [r1] w' w2) (hrd : RdAt w2 r1 n1 z1 er1) (hn1 : n1 ≤ n) (hpos : 0 < w.heap.size) :
    TkS w ((w2.setCell ⟨qb, 0, none⟩ (.slice a1 n1 c1)).setCell ⟨qb, 1, none⟩ (.int .i64 er1)) r1 qb n1 z1 er1 a1 c1 := by
  have hq := hm.q h hf
  have hF2 : Frm [qb] w2 ((w2.setCell ⟨qb, 0, none⟩ (.slice a1 n1 c1)).setCell ⟨qb, 1, none⟩ (.int .i64 er1)) := ((Frm.refl [qb] w2).setCell _ _ (by simp)).setCell _ _ (by simp)
  have hr0 : 0 ≠ r1 := by have := h.rge; omega
  have hq0 : 0 ≠ qb := by have := h.qge; omega
  have hrs := h.rge
  have hqs := h.qge
  have hsz : w.heap.size ≤ wr.heap.size := h.below.size
  have hm' := hm.below.size
  have hg : Glob w' := h.glob.below hm.below (by omega)
  have hg2 : Glob w2 := hg.frm hf (by simpa using hr0)
  have hB : Below w.heap.size w w2 := (h.below.trans (hm.below.mono hsz)).trans (hf.below (by omega) (fun k hk => by simp at hk; omega))
  have hsw : SlAt w' a1 n1 z1 := hm.hs.frm (S := []) (Frm.ofBelow hm.below) (by simp)
  have hs2 : SlAt w2 a1 n1 z1 := hsw.frm hf (fun b off hn e => by
    obtain ⟨ad, cap, hr, _⟩ := hm.rd h
    simpa using hsw.ne_two hr hn e)
  obtain ⟨ad, cap, hr, hlc, hs⟩ := hrd
  exact ⟨Below.setCell (Below.setCell hB (by simpa using hqs) _) (by simpa using hqs) _, hg2.frm hF2 (by simpa using hq0), ⟨ad, cap, hF2.heap hr (by have := h.ne; simpa using this), hlc, hs.frm hF2 (fun b off hn e => by simpa using hs.ne_q hq hn e)⟩,
    two_set1 (two_set0 hq), hm.hc, hs2.frm hF2 (fun b off hn e => by simpa using hs2.ne_q hq hn e), hrs, hqs, h.ne, by have := h.hn; omega⟩
/-- What the end of a round leans on. -/
theorem TkS.next {w w1 w2 : World} {r1 qb n : Nat} {z : Nat → Int} {er : Int} {aq : Option Addr} {cq : Nat} (h : TkS w w1 r1 qb n z er aq cq) (hb : Below w1.heap.size w1 w2) : TkS w w2 r1 qb n z er aq cq :=
  ⟨h.below.trans (hb.mono h.below.size), h.glob.below hb h.glob.pos, h.rd.below hb, (Frm.ofBelow (S := []) hb).heap h.q (by simp), h.hc, h.sl hb, h.rge, h.qge, h.ne, h.hn⟩
theorem TkS.ends {w w1 w2 : World} {r1 qb n : Nat} {z : Nat → Int} {er : Int} {aq : Option Addr} {cq : Nat} (h : TkS w w1 r1 qb n z er aq cq) (hb : Below w1.heap.size w1 w2) : TkS w w2 r1 qb n z er aq cq ∧ w2.cell? ⟨qb, 0, none⟩ = some (.slice aq n cq) ∧ w2.cell? ⟨qb, 1, none⟩ = some (.int .i64 er) :=
  ⟨h.next hb, two_cell0 (h.next hb).q, two_cell1 (h.next hb).q⟩

theorem eqIn_hv {z y : Nat → Int} (hz : ∀ j, j < 32 → 0 ≤ z j ∧ z j ≤ 255) (hy : ∀ j, j < 32 → 0 ≤ y j ∧ y j ≤ 255) (w : World) :
    (Op.equalIn 10000 44 (.agg (hv z)) (.agg (hv y))).run Tryd.prog w = .ok (hq z y) w := by
  rw [hv_ub hz, hv_ub hy]
  exact run_equalIn_bytes w 9998 44 5 32 Tryd.underlying44 Tryd.underlying5 hsz1 (ub z) (ub y) (by simp [ub]) (by simp [ub])
theorem eqIn_same {z : Nat → Int} (hz : ∀ j, j < 32 → 0 ≤ z j ∧ z j ≤ 255) (w : World) :
    (Op.equalIn 10000 44 (.agg (hv z)) (.agg (bl z 32).toArray)).run Tryd.prog w = .ok true w := by
  have := eqIn_hv hz hz w
  rw [hq_same] at this
  exact this
theorem eqIn_nz (w : World) : (Op.equalIn 10000 44 (.agg (hv nz)) (.agg #[.int .u8 0, .int .u8 0, .int .u8 0, .int .u8 0, .int .u8 0, .int .u8 0, .int .u8 0, .int .u8 0, .int .u8 0, .int .u8 0, .int .u8 0, .int .u8 0, .int .u8 0, .int .u8 0, .int .u8 0, .int .u8 0, .int .u8 0, .int .u8 0, .int .u8 0, .int .u8 0, .int .u8 0, .int .u8 0, .int .u8 0, .int .u8 0, .int .u8 0, .int .u8 0, .int .u8 0, .int .u8 0, .int .u8 0, .int .u8 0, .int .u8 0, .int .u8 0])).run Tryd.prog w = .ok true w := eqIn_same nz_bd w
theorem onZ_bd {w : World} {ad : Option Addr} {n : Nat} {z : Nat → Int} (er : Int) (h : SlAt w ad n z) : ∀ j, j < 32 → 0 ≤ onZ er (hZ n z) j ∧ onZ er (hZ n z) j ≤ 255 := by
  intro j hj
  unfold onZ hZ
  split
  · split
    · simp [nz]
    · exact h.1 j (by omega)
  · simp [nz]
/-- A sum's variable laid behind it. -/
theorem TkM.sum {wr wx w2 : World} {n1 : Nat} {z1 : Nat → Int} {er1 : Int} {a1 : Option Addr} {c1 : Nat} {o : Obj} (hm : TkM wr (wx.alloc (.cells #[.slice a1 n1 c1, .int .i64 er1] 27)) wx.heap.size n1 z1 er1 a1 c1) (hf : Frm [wx.heap.size + 1] ((wx.alloc (.cells #[.slice a1 n1 c1, .int .i64 er1] 27)).alloc o) w2) :
    TkM wr w2 wx.heap.size n1 z1 er1 a1 c1 := by
  have h1 := hm.gge
  have h2 := hm.below.size
  have h3 : w2.heap[wx.heap.size]? = some (.cells #[.slice a1 n1 c1, .int .i64 er1] 27 (0, 0)) := hf.heap ((Below.heap_alloc _ _ _ (by simp)).trans hm.g) (by simp)
  exact ⟨(Below.allocS hm.below o).trans (hf.below (by simp; omega) (by simp; omega)), h3, h1, hm.hc, hm.hs⟩
theorem TkM.keepH {w wr w' w2 : World} {r1 qb n : Nat} {z : Nat → Int} {er : Int} {aq : Option Addr} {cq gb n1 : Nat} {z1 : Nat → Int} {er1 : Int} {a1 : Option Addr} {c1 b o1 : Nat} {y : Value} {hb : Nat} {Z : Nat → Int} {t : TypeId} (h : TkS w wr r1 qb n z er aq cq) (hm : TkM wr w' gb n1 z1 er1 a1 c1) (hblt : b < w.heap.size) (h1 : wr.cell? ⟨b, o1, none⟩ = some y) (hh : w'.heap[hb]? = some (.cells (hv Z) t (0, 0))) (hge : wr.heap.size ≤ hb) (hf : Frm [r1, qb] w' w2) :
    w2.cell? ⟨gb, 0, none⟩ = some (.slice a1 n1 c1) ∧ w2.cell? ⟨gb, 1, none⟩ = some (.int .i64 er1) ∧ w2.cell? ⟨b, o1, none⟩ = some y ∧ w2.rangeAt hb 0 (bl Z 32) := by
  have hk := TkM.keep h hm hblt h1 hf
  have hq := lt_of_block h.q
  have hr := h.rd.lt
  refine ⟨hk.1, hk.2.1, hk.2.2, ?_⟩
  rw [← hv_list]
  exact range_row (hf.heap hh (by simp; omega))

theorem TkM.keepB {w wr w' w2 : World} {r1 qb n : Nat} {z : Nat → Int} {er : Int} {aq : Option Addr} {cq gb n1 : Nat} {z1 : Nat → Int} {er1 : Int} {a1 : Option Addr} {c1 b o1 : Nat} {y : Value} {ay : Option Addr} {l : List Int} {cy : Nat} (h : TkS w wr r1 qb n z er aq cq) (hm : TkM wr w' gb n1 z1 er1 a1 c1) (hblt : b < w.heap.size) (h1 : wr.cell? ⟨b, o1, none⟩ = some y) (hy : SlAt w' ay l.length (fn l) ∧ (∀ a, ay = some a → wr.heap.size ≤ a.block)) (hn : ay = none → l.length = 0 ∧ cy = 0) (hf : Frm [r1, qb] w' w2) :
    w2.cell? ⟨gb, 0, none⟩ = some (.slice a1 n1 c1) ∧ w2.cell? ⟨gb, 1, none⟩ = some (.int .i64 er1) ∧ w2.cell? ⟨b, o1, none⟩ = some y ∧ (convert 22 9 (.slice ay l.length cy)).run Tryd.prog w2 = .ok (.string (strB (fn l) l.length)) w2 := by
  have hk := TkM.keep h hm hblt h1 hf
  have hq := lt_of_block h.q
  have hr := h.rd.lt
  refine ⟨hk.1, hk.2.1, hk.2.2, conv_any ay _ cy _ _ (hy.1.frm hf (fun b' off' _ e' => ?_)) hn⟩
  have := hy.2 _ e'
  simp at this ⊢
  omega
theorem conv_q {wy : World} {ax : Option Addr} {cx : Nat} {l : List Int} {qb : Nat} {aq : Option Addr} {n cq : Nat} {er : Int} {t : TypeId} {u v : Value} (hx : SlAt wy ax l.length (fn l)) (hn : ax = none → l.length = 0 ∧ cx = 0) (hq : wy.heap[qb]? = some (.cells #[.slice aq n cq, .int .i64 er] t (0, 0))) :
    (convert 22 9 (.slice ax l.length cx)).run Tryd.prog ((wy.setCell ⟨qb, 0, none⟩ u).setCell ⟨qb, 1, none⟩ v) = .ok (.string (strB (fn l) l.length)) ((wy.setCell ⟨qb, 0, none⟩ u).setCell ⟨qb, 1, none⟩ v) :=
  conv_any ax _ cx _ _ (hx.frm (((Frm.refl [qb] wy).setCell _ _ (by simp)).setCell _ _ (by simp)) (fun b' off' hn' e' => by simpa using hx.ne_q hq hn' e')) hn

theorem nilDone (w : World) :
    Calls Tryd.prog 18 #[.pointer none] w fun e w' => e = .returned (errV 1) ∧ w' = w := by
  go_enter Tryd.func18, Tryd.ntmps18
  go_wp2
  go_ret
  exact ⟨rfl, rfl⟩
theorem nilLeft (w : World) :
    Calls Tryd.prog 20 #[.pointer none] w fun e w' => e = .returned (.int .i64 0) ∧ w' = w := by
  go_enter Tryd.func20, Tryd.ntmps20
  go_wp2
  go_ret
  exact ⟨rfl, rfl⟩
end Go.Proofs.YtelpkbdobeofgaaDoor
