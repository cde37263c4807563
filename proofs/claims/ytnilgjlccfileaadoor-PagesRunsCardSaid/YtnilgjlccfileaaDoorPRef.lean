/- The document's answer: a step, New, Arm. -/
import Derived.Test.YtnilgjlccfileaaDoorPArm
import Derived.Test.YtnilgjlccfileaaDoorPActs
import Derived.Laws.ResultCell
namespace Go.Proofs.YtnilgjlccfileaaDoor
open Go.RowKit

attribute [local go_sem ↓] Go.wp_at_zero Go.wp_at_succ

theorem szR : (Tryd.prog.info? 41).map (·.size) = some 4 := by kernel_rfl
theorem results_R2 {fn : Func} {p u : Tmp} (h : fn.results = #[.cell p 41, .tmp u]) (tmps : Array Value) (w : World) (g : Nat) (t : TypeId) (a b c d : Value) (fr : Nat × Nat)
    (hp : tmps.getD p undef = .pointer (some ⟨g, 0, none⟩)) (hg : w.heap[g]? = some (.cells #[a, b, c, d] t fr)) :
    (results fn tmps).run Tryd.prog w = .ok (.tuple #[.agg #[a, b, c, d], tmps.getD u undef]) w := by
  have hp' : tmps[p]?.getD undef = .pointer (some ⟨g, 0, none⟩) := by simpa using hp
  simp [results, h, hp', asAddr, run_loadVar_row w g t 41 #[a, b, c, d] fr _ hg Tryd.underlying41 rfl szR]
theorem results_R1 {fn : Func} {p : Tmp} (h : fn.results = #[.cell p 41]) (tmps : Array Value) (w : World) (g : Nat) (t : TypeId) (a b c d : Value) (fr : Nat × Nat)
    (hp : tmps.getD p undef = .pointer (some ⟨g, 0, none⟩)) (hg : w.heap[g]? = some (.cells #[a, b, c, d] t fr)) :
    (results fn tmps).run Tryd.prog w = .ok (.agg #[a, b, c, d]) w := by
  have hp' : tmps[p]?.getD undef = .pointer (some ⟨g, 0, none⟩) := by simpa using hp
  simp [results, h, hp', asAddr, run_loadVar_row w g t 41 #[a, b, c, d] fr _ hg Tryd.underlying41 rfl szR]
def rstS (st : Int) : Int := if st = 0 then -1 else if 0 < st then st - 1 else st
def rstD (st : Int) (dn : Bool) : Bool := if st = 0 then true else dn
def rstE (st : Int) : Int := if st = 0 then 13 else 0
theorem new2 (w : World) (a b : Obj) : ((w.alloc a).alloc b).heap[w.heap.size + 1]? = some b := by
  have := heap_alloc_new (w.alloc a) b
  rwa [World.size_alloc] at this
theorem new1 (w : World) (a b : Obj) : ((w.alloc a).alloc b).heap[w.heap.size]? = some a := by
  rw [Below.heap_alloc _ _ _ (by simp)]; exact heap_alloc_new w a
theorem below2 (w : World) (a b : Obj) : Below w.heap.size w ((w.alloc a).alloc b) := ((Below.refl _ w).alloc (Nat.le_refl _) _).alloc (by simp) _
set_option maxHeartbeats 800000 in
theorem rstep_any (pa : Option Addr) (pn pc : Nat) (la : Option Addr) (ln lc : Nat) (st : Int) (dn : Bool) (w : World) (hst : -1 ≤ st ∧ st ≤ 9223372036854775807) :
    Calls Tryd.prog 31 #[.agg #[.slice pa pn pc, .slice la ln lc, .int .i64 st, .bool dn]] w fun e w' => e = .returned (.tuple #[.agg #[.slice pa pn pc, .slice la ln lc, .int .i64 (rstS st), .bool (rstD st dn)], .int .i64 (rstE st)]) ∧ Below w.heap.size w w' := by
  by_cases h0 : st = 0
  · subst h0
    go_enter Tryd.func31, Tryd.ntmps31
    go_wp2
    exact bodyPost_ret (results_R2 Tryd.results31 _ _ (w.heap.size + 1) 41 _ _ _ _ (0, 0) rfl (new2 _ _ _)) rfl ⟨rfl, below2 _ _ _⟩
  · by_cases h1 : 0 < st
    · have e1 : rstS st = st - 1 := by simp [rstS, h0, h1]
      have e2 : rstD st dn = dn := by simp [rstD, h0]
      have e3 : rstE st = 0 := by simp [rstE, h0]
      have hwr : IntKind.i64.wrap (st - 1) = st - 1 := by rw [IntKind.wrap_i64]; omega
      have h0' : (st == 0) = false := by simpa using h0
      rw [e1, e2, e3]
      clear e1 e2 e3
      go_enter Tryd.func31, Tryd.ntmps31
      go_wp2
      exact bodyPost_ret (results_R2 Tryd.results31 _ _ (w.heap.size + 1) 41 _ _ _ _ (0, 0) rfl (new2 _ _ _)) rfl ⟨rfl, below2 _ _ _⟩
    · have e1 : rstS st = st := by simp [rstS, h0, h1]
      have e2 : rstD st dn = dn := by simp [rstD, h0]
      have e3 : rstE st = 0 := by simp [rstE, h0]
      have h0' : (st == 0) = false := by simpa using h0
      rw [e1, e2, e3]
      clear e1 e2 e3
      go_enter Tryd.func31, Tryd.ntmps31
      go_wp2
      exact bodyPost_ret (results_R2 Tryd.results31 _ _ (w.heap.size + 1) 41 _ _ _ _ (0, 0) rfl (new2 _ _ _)) rfl ⟨rfl, below2 _ _ _⟩
set_option maxHeartbeats 800000 in
theorem rarm_any (pa : Option Addr) (pn pc : Nat) (la : Option Addr) (ln lc : Nat) (st n : Int) (dn : Bool) (w : World) :
    Calls Tryd.prog 19 #[.agg #[.slice pa pn pc, .slice la ln lc, .int .i64 st, .bool dn], .int .i64 n] w fun e w' => e = .returned (.tuple #[.agg #[.slice pa pn pc, .slice la ln lc, .int .i64 (if n < 0 then st else n), .bool dn], .int .i64 (if n < 0 then 1 else 0)]) ∧ Below w.heap.size w w' := by
  by_cases h0 : n < 0
  · rw [if_pos h0, if_pos h0]
    go_enter Tryd.func19, Tryd.ntmps19
    go_wp2
    exact bodyPost_ret (results_R2 Tryd.results19 _ _ (w.heap.size + 1) 41 _ _ _ _ (0, 0) rfl (new2 _ _ _)) rfl ⟨rfl, below2 _ _ _⟩
  · rw [if_neg h0, if_neg h0]
    go_enter Tryd.func19, Tryd.ntmps19
    go_wp2
    exact bodyPost_ret (results_R2 Tryd.results19 _ _ (w.heap.size + 1) 41 _ _ _ _ (0, 0) rfl (new2 _ _ _)) rfl ⟨rfl, below2 _ _ _⟩
theorem build_R0 (w : World) : (Instr.build 41 #[]).run Tryd.prog w = .ok (.agg #[.slice none 0 0, .slice none 0 0, .int .i64 0, .bool false]) w := by kernel_rfl
theorem build_R (a : Option Addr) (n c : Nat) (w : World) : (Instr.build 41 #[(0, .slice a n c), (2, .int .i64 (-1))]).run Tryd.prog w = .ok (.agg #[.slice a n c, .slice none 0 0, .int .i64 (-1), .bool false]) w := by kernel_rfl
/-- A row that stays as it is. -/
def RowC (w : World) (ad : Option Addr) (n : Nat) (xs : List Value) : Prop := 0 < n → ∃ g, ad = some ⟨g, 0, none⟩ ∧ g < w.heap.size ∧ ∀ j u, xs[j]? = some u → w.cell? ⟨g, j, none⟩ = some u
theorem RowC.keep {w w' : World} {ad : Option Addr} {n : Nat} {xs : List Value} (h : RowC w ad n xs) (hs : w.heap.size ≤ w'.heap.size) (hk : ∀ a, ad = some a → a.block < w.heap.size → w'.heap[a.block]? = w.heap[a.block]?) : RowC w' ad n xs := fun hn => by
  obtain ⟨g, rfl, hl, hc⟩ := h hn
  exact ⟨g, rfl, Nat.lt_of_lt_of_le hl hs, fun j u hu => by rw [World.cell?_of_block (a := ⟨g, j, none⟩) (hk ⟨g, 0, none⟩ rfl hl)]; exact hc j u hu⟩
theorem RowC.below {w w' : World} {ad : Option Addr} {n : Nat} {xs : List Value} (h : RowC w ad n xs) (hb : Below w.heap.size w w') : RowC w' ad n xs := h.keep hb.size fun _ _ hl => hb.block _ hl
/-- A new one of the document's. -/
def RNewR (n : Nat) (w : World) (e : Ending) (w' : World) : Prop :=
  ∃ pa, e = .returned (.tuple #[.agg #[.slice pa n n, .slice none 0 0, .int .i64 (-1), .bool false], .int .i64 0]) ∧ RowC w' pa n ((newS n).safe.map Bs.v) ∧ (∀ a, pa = some a → w.heap.size ≤ a.block) ∧ Below w.heap.size w w'
set_option maxHeartbeats 800000 in
theorem rnew_any (n : Nat) (h1 : 1 ≤ n) (h2 : n ≤ 4096) (w : World) : Calls Tryd.prog 15 #[.int .i64 (n : Int)] w (RNewR n w) := by
  have d1 : ¬ ((n : Int) < 1) := by omega
  have d2 : ¬ ((4096 : Int) < (n : Int)) := by omega
  have k1 := make_pages n (by omega) (w.alloc (.cells #[.slice none 0 0, .slice none 0 0, .int .i64 0, .bool false] 41))
  have k2 := build_R
  generalize hps : (newS n).safe.map Bs.v = ps at *
  go_enter Tryd.func15, Tryd.ntmps15
  go_wp2
  refine bodyPost_ret (results_R2 Tryd.results15 _ _ w.heap.size 41 _ _ _ _ (0, 0) rfl (new1 _ _ _)) rfl ⟨_, rfl, ?_, ?_, below2 _ _ _⟩
  · rw [hps]
    refine fun _ => ⟨w.heap.size + 1, rfl, by simp, fun j u hu => ?_⟩
    rw [cell_of_row _ _ j _ _ _ (new2 w _ (.cells ps.toArray 24))]
    simpa using hu
  · intro a e; cases e; simp
set_option maxHeartbeats 800000 in
theorem rnew_bad (n : Int) (h : ¬ (1 ≤ n ∧ n ≤ 4096)) (w : World) : Calls Tryd.prog 15 #[.int .i64 n] w fun e w' => e = .returned (.tuple #[.agg #[.slice none 0 0, .slice none 0 0, .int .i64 0, .bool false], .int .i64 1]) ∧ Below w.heap.size w w' := by
  have k2 := build_R0
  by_cases d1 : n < 1
  · go_enter Tryd.func15, Tryd.ntmps15
    go_wp2
    exact bodyPost_ret (results_R2 Tryd.results15 _ _ w.heap.size 41 _ _ _ _ (0, 0) rfl (heap_alloc_new _ _)) rfl ⟨rfl, (Below.refl _ w).alloc (Nat.le_refl _) _⟩
  · have d2 : (4096 : Int) < n := by omega
    go_enter Tryd.func15, Tryd.ntmps15
    go_wp2
    exact bodyPost_ret (results_R2 Tryd.results15 _ _ w.heap.size 41 _ _ _ _ (0, 0) rfl (heap_alloc_new _ _)) rfl ⟨rfl, (Below.refl _ w).alloc (Nat.le_refl _) _⟩
end Go.Proofs.YtnilgjlccfileaaDoor
