/- build.finish: the transaction, if it can be; its conditions anew. -/
import Derived.Test.YtbafipjiaeoinaaGreatDoorOwnShelf24
import Derived.Test.YtbafipjiaeoinaaGreatDoorOwnShelf25
import Derived.Test.YtbafipjiaeoinaaGreatDoorOwnShelf26
import Derived.Lib.Slices
namespace Go.Proofs.YtbafipjiaeoinaaGreatDoor
open Go.RowKit

theorem setCell_idle {w : World} {g k : Nat} {cs : Array Value} {t : TypeId} {v : Value} (h : w.heap[g]? = some (.cells cs t (0, 0))) (hk : cs[k]? = some v) : Below w.heap.size w (w.setCell ⟨g, k, none⟩ v) := by
  refine ⟨rfl, rfl, rfl, by simp [World.setCell], fun q _ => ?_⟩
  by_cases e : q = g
  · subst e
    have e2 : cs.setIfInBounds k v = cs := by
      apply Array.ext_getElem?
      intro i
      rw [Array.getElem?_setIfInBounds]
      split
      · rename_i e
        subst e
        rw [hk, if_pos (Array.getElem?_eq_some_iff.1 hk).1]
      · rfl
    rw [heap_setCell_same w q k _ _ v h, h, e2]
  · exact Below.heap_setCell _ _ _ _ (show q ≠ g from e)
set_option maxRecDepth 100000 in
theorem cloneNil (w : World) : Calls Tryz.prog 52 #[.slice none 0 0] w fun e w' => e = .returned (.slice none 0 0) ∧ w' = w := by
  have hnil := fun wx => Lib.run_eql_slice_nil (P := Tryz.prog) wx 33 5 none 0 0 0 0 Tryz.underlying33
  go_enter Tryz.func52, Tryz.ntmps52
  go_wp2
  go_ret
  exact ⟨rfl, rfl⟩
theorem results_T2 {fn : Func} {p u : Tmp} (h : fn.results = #[.cell p 50, .tmp u]) (tmps : Array Value) (w : World) (g : Nat) (t : TypeId) (c0 c1 c2 : Value) (fr : Nat × Nat)
    (hp : tmps.getD p undef = .pointer (some ⟨g, 0, none⟩)) (hg : w.heap[g]? = some (.cells #[c0, c1, c2] t fr)) :
    (results fn tmps).run Tryz.prog w = .ok (.tuple #[.agg #[c0, c1, c2], tmps.getD u undef]) w := by
  have hp' : tmps[p]?.getD undef = .pointer (some ⟨g, 0, none⟩) := by simpa using hp
  simp [results, h, hp', asAddr, run_loadVar_row w g t 50 #[c0, c1, c2] fr _ hg Tryz.underlying50 rfl szTx]
theorem run_allocTx (w : World) : (Instr.alloc 50 true (.tuple #[])).run Tryz.prog w = .ok (.pointer (some ⟨w.heap.size, 0, none⟩)) (w.alloc (.cells #[.int .i64 0, .slice none 0 0, .slice none 0 0] 50)) := by kernel_rfl
theorem run_allocTiF (w : World) : (Instr.alloc 130 true (.tuple #[])).run Tryz.prog w = .ok (.pointer (some ⟨w.heap.size, 0, none⟩)) (w.alloc (.cells (tiv ti0 none 0) 130)) := by kernel_rfl
theorem run_allocToF (w : World) : (Instr.alloc 95 true (.tuple #[])).run Tryz.prog w = .ok (.pointer (some ⟨w.heap.size, 0, none⟩)) (w.alloc (.cells #[.int .i64 0, .slice none 0 0] 95)) := by kernel_rfl
/-- Inputs without secrets, and outputs, in rows of one's own. -/
structure FinR (w : World) (B : Nat) (ia : Option Addr) (ic n : Nat) (Z : Nat → (Nat → Int) × Int) (oa : Option Addr) (oc : Nat) (os : List To) (A : Nat → Option Addr × Nat) : Prop where
  ins : w.ownsRow B 130 35 (.slice ia n ic) n (flatL (tiR Z) n)
  outs : w.ownsRow B 95 2 (.slice oa os.length oc) os.length (flatL (oL os A) os.length)
  cond : ∀ j, j < os.length → ∀ w' : World, (∀ k, k < w.heap.size → some k ≠ (Value.slice ia n ic).ownBlock → some k ≠ (Value.slice oa os.length oc).ownBlock → w'.heap[k]? = w.heap[k]?) → Cd.BrAt w' (A j).1 (os.getD j default).cn (os.getD j default).X
  nil : ∀ j, j < os.length → (A j).1 = none → (os.getD j default).cn = 0 ∧ (A j).2 = 0
  low : B ≤ w.heap.size
def oF (os : List To) : Nat → To := fun j => os.getD j default
def tF (Z : Nat → (Nat → Int) × Int) : Nat → Ti := fun i => tiOf (Z i)
theorem FinR.tin {w : World} {B : Nat} {ia : Option Addr} {ic n : Nat} {Z : Nat → (Nat → Int) × Int} {oa : Option Addr} {oc : Nat} {os : List To} {A : Nat → Option Addr × Nat} (h : FinR w B ia ic n Z oa oc os A) (hz : ∀ i, i < n → Hb (Z i).1) : TiAt w ia n (tF Z) (fun _ => (none, 0)) := by
  refine ⟨hz, fun hn => ?_⟩
  obtain ⟨g, rfl, _, _, hr⟩ := own_range h.ins hn
  exact ⟨g, 0, rfl, (flatL_range n (fun i _ => til_length (tiOf (Z i)) none 0)).1 hr⟩
theorem FinR.tout {w : World} {B : Nat} {ia : Option Addr} {ic n : Nat} {Z : Nat → (Nat → Int) × Int} {oa : Option Addr} {oc : Nat} {os : List To} {A : Nat → Option Addr × Nat} (h : FinR w B ia ic n Z oa oc os A) : ToAt w oa os.length (oF os) := by
  refine ⟨fun hn => ?_⟩
  obtain ⟨g, rfl, _, _, hr⟩ := own_range h.outs hn
  refine ⟨g, 0, rfl, fun j hj => ⟨(A j).1, (A j).2, ?_, h.cond j hj w (fun _ _ _ _ => rfl), h.nil j hj⟩⟩
  exact (flatL_range os.length (f := oL os A) (k := 2) (fun i _ => rfl)).1 hr j hj
theorem FinR.below {w w1 : World} {B : Nat} {ia : Option Addr} {ic n : Nat} {Z : Nat → (Nat → Int) × Int} {oa : Option Addr} {oc : Nat} {os : List To} {A : Nat → Option Addr × Nat} (h : FinR w B ia ic n Z oa oc os A) (hb : Below w.heap.size w w1) : FinR w1 B ia ic n Z oa oc os A :=
  ⟨own_below h.ins hb, own_below h.outs hb, fun j hj w' hw => h.cond j hj w' (fun k h1 h2 h3 => by rw [hw k (by have := hb.size; omega) h2 h3]; exact hb.block k h1), h.nil, by have := h.low; have := hb.size; omega⟩
/-- The transaction that is told. -/
structure TxR (w : World) (ia : Option Addr) (ic n : Nat) (Z : Nat → (Nat → Int) × Int) (oa : Option Addr) (oc : Nat) (os : List To) : Prop where
  tin : TiAt w ia n (tF Z) (fun _ => (none, 0))
  tout : ToAt w oa os.length (oF os)
  inil : ia = none → n = 0 ∧ ic = 0
  onil : oa = none → os.length = 0 ∧ oc = 0
  icap : n ≤ ic
  ocap : os.length ≤ oc
def finE (n : Nat) (Z : Nat → (Nat → Int) × Int) (os : List To) (lk : Int) : Int := txE lk n (tF Z) os.length (oF os)
set_option maxRecDepth 100000 in
set_option maxHeartbeats 3200000 in
theorem finish_bad (lk : Int) (B : Nat) (ia : Option Addr) (ic n : Nat) (Z : Nat → (Nat → Int) × Int) (oa : Option Addr) (oc : Nat) (os : List To) (A : Nat → Option Addr × Nat) (w : World) (h : FinR w B ia ic n Z oa oc os A) (hz : ∀ i, i < n → Hb (Z i).1) (hs : ∀ j, j < os.length → (oF os j).Small) (hn : n ≤ 1000000) (hm : os.length ≤ 1000000) (he : finE n Z os lk ≠ 0) :
    Calls Tryz.prog 27 #[.agg (txv lk ia n ic oa os.length oc)] w fun e w' => e = .returned (.tuple #[.agg #[.int .i64 0, .slice none 0 0, .slice none 0 0], errV (finE n Z os lk)]) ∧ Below w.heap.size w w' := by
  have HH : Hid (FinR w B ia ic n Z oa oc os A ∧ (∀ i, i < n → Hb (Z i).1) ∧ (∀ j, j < os.length → (oF os j).Small)) := ⟨h, hz, hs⟩
  clear h hz hs
  unfold txv
  have hev : errV (finE n Z os lk) = .iface 101 (.int .i64 (finE n Z os lk)) := kerrV_ne he
  go_enter Tryz.func27, Tryz.ntmps27
  go_wp2_with (first | (refine wpList_boxN rfl _ _ rfl #[.int .i64 lk, .slice ia n ic, .slice oa os.length oc] rfl ?_; intro v1 N1) | (refine wpList_allocN 50 #[.int .i64 0, .slice none 0 0, .slice none 0 0] run_allocTx rfl rfl ?_; intro v2 N2; have HR2 := hidV (txl_range (N2.old N1.blk)); have HX2 := hidV (And.intro N2.blk (Below.transS N1.below N2.below)); have HQ : Hid (w.heap.size < v1.heap.size ∧ v1.heap.size < v2.heap.size) := ⟨by have := N1.size; omega, by have := N2.size; omega⟩; clear N1 N2) | (refine wpList_load_mid rfl 50 _ rfl w.heap.size 0 rfl (txl lk ia n ic oa os.length oc) _ HR2.out Tryz.underlying50 rfl szTx ?_) | fail)
  have hf := HH.out.1.below HX2.out.2
  refine (kcheck_any lk ia n ic oa os.length oc (tF Z) (fun _ => (none, 0)) (oF os) v2 (hf.tin HH.out.2.1) hf.tout HH.out.2.2 hn hm).mono ?_
  rintro e v3 ⟨rfl, hb3⟩
  change Hid _ at HH
  rw [show errV (txE lk n (tF Z) os.length (oF os)) = .iface 101 (.int .i64 (finE n Z os lk)) from hev]
  have hg3 := heap_below hb3 HX2.out.1
  have hb := Below.transS HX2.out.2 hb3
  have HE := hidV (And.intro hg3 hb)
  have HV := hidV hev
  clear hf hg3 hb hb3 HX2 HR2 hev he
  go_wp2_with (first | (refine wpList_storeG 50 szTx rfl _ _ rfl v1.heap.size rfl #[.int .i64 0, .slice none 0 0, .slice none 0 0] #[.int .i64 0, .slice none 0 0, .slice none 0 0] rfl rfl (by kernel_rfl) 50 rfl HE.out.1 ?_; intro v4 hg4 hf4) | fail)
  refine bodyPost_ret (results_T2 Tryz.results27 _ v4 v1.heap.size 50 _ _ _ (0, 0) rfl hg4) rfl ⟨?_, HE.out.2.trans (hf4.below HE.out.2.size (by have := HQ.out; simp; omega))⟩
  rw [HV.out]
  rfl
end Go.Proofs.YtbafipjiaeoinaaGreatDoor
