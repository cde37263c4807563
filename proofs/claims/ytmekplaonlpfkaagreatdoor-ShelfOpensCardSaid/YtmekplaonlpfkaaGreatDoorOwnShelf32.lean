/- From the rows' hypothesis on the library's variable to its cell; strings that came in. -/
import Derived.Test.YtmekplaonlpfkaaGreatDoorRows
import Derived.Test.YtmekplaonlpfkaaGreatDoorOwnShelf03
import Derived.Test.YtmekplaonlpfkaaGreatDoorOwnShelf31
import Derived.Deep.Strs
import Derived.ChangeSame
import Derived.ChangeVars
import Derived.JoinedOf
import Derived.RowKit
import Derived.RowKitTokens
import Derived.LaidLaws
import Derived.LaidHandle
import Derived.Stop.Joined
import Derived.ProofKit
import Derived.OpenShut
import Derived.ChangeOld
import Derived.SizedLaws
import Derived.Deep.Slices
import Derived.Deep.Grids
import Derived.Test.YtmekplaonlpfkaaGreatDoorOwnShelf28
import Derived.Test.YtmekplaonlpfkaaGreatDoorOwnShelf25
import Derived.Test.YtmekplaonlpfkaaGreatDoorOwnShelf21
import Derived.Test.YtmekplaonlpfkaaGreatDoorOwnShelf24
import Derived.Maps.AppendAt
namespace Go.Proofs.YtmekplaonlpfkaaGreatDoor
open Go.ChangeShapes Go.WideShapes Go.RowKit Go.ChangeAt

theorem laidOut : laidOutB Tryz.prog = true := by kernel_rfl
theorem tsize : Tryz.prog.types.size = 273 := by kernel_rfl
theorem own : ownKnob Tryz.prog.godebug = none := by kernel_rfl
theorem et : Tryz.prog.globalNamed "errors.errorType" = some 0 := by kernel_rfl
/-- The name under which the row lists the handle's own type. -/
def handleName : String := match (Rows.laid_errors_errorType (H := Unit)) with
  | .iface s _ => s
  | _ => ""
theorem rt : (Tryz.prog.cutTypes.find? (·.1 == handleName)).map (·.2) = some 179 := by kernel_rfl
theorem oneRow : ((List.range 273).filter fun t => Tryz.prog.rowNamed t [101, 114, 114, 111, 114]) = [26] := by kernel_rfl

/-- What the condition gives a walk: the variable's one cell. -/
theorem glob_of_laid {W : World} (h : laidMetH Tryz.prog [("errors.errorType", Rows.laid_errors_errorType)] W) : Glob W := by
  have h' : laidMet Tryz.prog [] W ∧ handlesMet Tryz.prog [("errors.errorType", Rows.laid_errors_errorType)] W := h
  obtain ⟨name, u, ty, e1, e2, e3, e4, e5⟩ := h'.2 _ (List.mem_singleton.2 rfl)
  have en : name = [101, 114, 114, 111, 114] := (Option.some.inj e1).symm
  subst en
  obtain rfl := Option.some.inj (rt.symm.trans e2)
  have hm : ty ∈ (List.range 273).filter fun t => Tryz.prog.rowNamed t [101, 114, 114, 111, 114] := List.mem_filter.2 ⟨List.mem_range.2 (by rw [← tsize]; exact e3), e4⟩
  rw [oneRow] at hm
  obtain rfl := List.mem_singleton.1 hm
  have hh : typeHandle Tryz.prog 26 = .pointer (some ⟨2, 26, none⟩) := by kernel_rfl
  rw [hh] at e5
  have := World.var?_cell et e5 0
  unfold Glob
  simpa using this

/-- Strings that came in: how they lie. -/
theorem strs_in {H : Type} {enc : TypeId × Value → H} {W : World} {base fuel : Nat} {a : Option Addr} {len cap : Nat} {x : DataW H × List MemPlace} {held : Bool}
    (hf : DataW.trod enc Tryz.prog W base (fun _ => true) held fuel 46 (Value.slice a len cap).cells.toList = some x) :
    ∃ Z : Nat → List UInt8, len ≤ maxLen ∧ (∀ j, j < len → (Z j).length ≤ maxLen) ∧ VsAt W a len Z := by
  rcases Go.Deep.open_strs Tryz.underlying46 Tryz.underlying9 (by kernel_rfl) hf with ⟨hcs, hx⟩ | ⟨ad, l, c, m, B, hcs, _, hl, hm, hmm, hx, hcell⟩
  · simp [Value.cells] at hcs
    obtain ⟨rfl, rfl, rfl⟩ := hcs
    exact ⟨fun _ => [], by omega, (fun j hj => by omega), fun h => by omega⟩
  · simp [Value.cells] at hcs
    obtain ⟨rfl, rfl, rfl⟩ := hcs
    have hlm : len ≤ m := by rw [hmm]; split <;> omega
    refine ⟨fun j => (B j).data.toList, by omega, fun j hj => (hcell j (by omega)).2, fun hn => ?_⟩
    obtain ⟨b, off, spot⟩ := ad
    have hc := (hcell 0 (by omega)).1
    have hspot : spot = none := by simpa [Addr.add] using World.cell?_spot hc
    subst hspot
    refine ⟨b, off, rfl, fun j hj => ?_⟩
    have := (hcell j (by omega)).1
    rw [Addr.add_lit] at this
    exact this
end Go.Proofs.YtmekplaonlpfkaaGreatDoor
/- The document's Set, as a function: the same leaves as the program's. -/
namespace Go.Proofs.YtmekplaonlpfkaaGreatDoor
open Go.RowKit Go.Maps Go.Sort

def foldK (m cs : List Cg) : List Cg := cs.foldl (fun m c => putK Cg.k c m) m
theorem mem_foldK : ∀ (r m : List Cg) (x : Cg), x ∈ foldK m r ↔ x ∈ foldK [] r ∨ (x ∈ m ∧ ∀ d ∈ r, d.k ≠ x.k)
  | [], m, x => by simp [foldK]
  | c :: r, m, x => by
    have e1 : foldK m (c :: r) = foldK (putK Cg.k c m) r := rfl
    have e2 : foldK [] (c :: r) = foldK (putK Cg.k c []) r := rfl
    rw [e1, e2, mem_foldK r (putK Cg.k c m) x, mem_foldK r (putK Cg.k c []) x, mem_putK, mem_putK]
    constructor
    · rintro (h | ⟨rfl | ⟨h1, h2⟩, h3⟩)
      · exact .inl (.inl h)
      · exact .inl (.inr ⟨.inl rfl, h3⟩)
      · refine .inr ⟨h1, fun d hd => ?_⟩
        rcases List.mem_cons.1 hd with rfl | hd
        · exact fun e => h2 e.symm
        · exact h3 d hd
    · rintro ((h | ⟨rfl | ⟨h1, h2⟩, h3⟩) | ⟨h1, h2⟩)
      · exact .inl h
      · exact .inr ⟨.inl rfl, h3⟩
      · cases h1
      · exact .inr ⟨.inr ⟨h1, fun e => h2 c (List.mem_cons_self ..) e.symm⟩, fun d hd => h2 d (List.mem_cons_of_mem _ hd)⟩
theorem mem_lastL_cons {c : Cg} {r : List Cg} {x : Cg} : x ∈ lastL (c :: r) ↔ x ∈ lastL r ∨ (x = c ∧ ∀ d ∈ r, d.k ≠ c.k) := by
  have e : lastL (c :: r) = foldK (putK Cg.k c []) r := rfl
  have e2 : lastL r = foldK [] r := rfl
  rw [e, e2, mem_foldK, mem_putK]
  constructor
  · rintro (h | ⟨rfl | ⟨h1, _⟩, h3⟩)
    · exact .inl h
    · exact .inr ⟨rfl, h3⟩
    · cases h1
  · rintro (h | ⟨rfl, h3⟩)
    · exact .inl h
    · exact .inr ⟨.inl rfl, h3⟩
/-- Is a change the last one of its key? -/
def lastB' (c : Cg) (r : List Cg) : Bool := r.all fun d => !(d.k == c.k)
theorem lastB'_iff {c : Cg} {r : List Cg} : lastB' c r = true ↔ ∀ d ∈ r, d.k ≠ c.k := by simp [lastB']
/-- The document's first loop. -/
def pickL (L : List Lf) : List Cg → List Cg → List Cg
  | acc, [] => acc
  | acc, c :: r => pickL L (if lastB' c r = true ∧ sameC L c = false then insK Cg.k c acc else acc) r
theorem pickL_mem (L : List Lf) : ∀ (r acc : List Cg), Rise Cg.k acc → (∀ y ∈ acc, ∀ d ∈ r, d.k ≠ y.k) → Rise Cg.k (pickL L acc r) ∧ ∀ x, x ∈ pickL L acc r ↔ x ∈ acc ∨ (x ∈ lastL r ∧ sameC L x = false)
  | [], acc, h, _ => ⟨h, fun x => by simp [pickL, lastL]⟩
  | c :: r, acc, h, hd => by
    rw [pickL]
    by_cases hc : lastB' c r = true ∧ sameC L c = false
    · rw [if_pos hc]
      have h1 := lastB'_iff.1 hc.1
      have h2 : Rise Cg.k (insK Cg.k c acc) := Rise.ins Cg.k h fun y hy => fun e => hd y hy c (List.mem_cons_self ..) e.symm
      obtain ⟨h3, h4⟩ := pickL_mem L r _ h2 (fun y hy d hdr => by
        rcases (mem_insK Cg.k).1 hy with rfl | hy
        · exact h1 d hdr
        · exact hd y hy d (List.mem_cons_of_mem _ hdr))
      refine ⟨h3, fun x => ?_⟩
      rw [h4, mem_insK, mem_lastL_cons]
      constructor
      · rintro ((rfl | h) | ⟨h5, h6⟩)
        · exact .inr ⟨.inr ⟨rfl, h1⟩, hc.2⟩
        · exact .inl h
        · exact .inr ⟨.inl h5, h6⟩
      · rintro (h | ⟨h5 | ⟨rfl, _⟩, h6⟩)
        · exact .inl (.inr h)
        · exact .inr ⟨h5, h6⟩
        · exact .inl (.inl rfl)
    · rw [if_neg hc]
      obtain ⟨h3, h4⟩ := pickL_mem L r acc h (fun y hy d hdr => hd y hy d (List.mem_cons_of_mem _ hdr))
      refine ⟨h3, fun x => ?_⟩
      rw [h4, mem_lastL_cons]
      constructor
      · rintro (h | ⟨h5, h6⟩)
        · exact .inl h
        · exact .inr ⟨.inl h5, h6⟩
      · rintro (h | ⟨h5 | ⟨rfl, h7⟩, h6⟩)
        · exact .inl h
        · exact .inr ⟨h5, h6⟩
        · exact absurd ⟨lastB'_iff.2 h7, h6⟩ hc
theorem pickL_todo (L : List Lf) (cs : List Cg) : pickL L [] cs = todoL L cs := by
  obtain ⟨h1, h2⟩ := pickL_mem L cs [] List.Pairwise.nil (fun y hy => by cases hy)
  refine Rise.ext Cg.k h1 (todoL_rise L cs) fun x => ?_
  rw [h2]
  unfold todoL
  rw [List.mem_filter]
  simp
/-- What the document's Set answers: the leaves, how many are laid, whether something changes, the error. -/
def setD (n : Nat) (L : List Lf) (cs : List Cg) : List Lf × Nat × Bool × Int :=
  match layL (todoL L cs) with
  | none => (L, 0, false, 2)
  | some ls => if n - 1 - L.length < ls.length then (L, 0, false, 10) else (behL (todoL L cs) (frN L n) L, ls.length, decide (0 < (todoL L cs).length), 0)
theorem behL_nil (f : List Nat) (L : List Lf) : behL [] f L = L := rfl
/-- Free places from q on. -/
def frF (L : List Lf) (n q : Nat) : List Nat := (List.range' q (n - q)).filter fun i => !heldB L i
theorem frF_one (L : List Lf) (n : Nat) : frF L n 1 = frN L n := rfl
theorem frF_held {L : List Lf} {n q : Nat} (h : heldB L q = true) : frF L n q = frF L n (q + 1) := by
  unfold frF
  by_cases hq : q < n
  · have e : n - q = (n - (q + 1)) + 1 := by omega
    rw [e, List.range'_succ, List.filter_cons, h]
    rfl
  · have e1 : n - q = 0 := by omega
    have e2 : n - (q + 1) = 0 := by omega
    rw [e1, e2]; rfl
theorem frF_free {L : List Lf} {n q : Nat} (h : heldB L q = false) (hq : q < n) : frF L n q = q :: frF L n (q + 1) := by
  unfold frF
  have e : n - q = (n - (q + 1)) + 1 := by omega
  rw [e, List.range'_succ, List.filter_cons, h]
  rfl
theorem frF_out {L : List Lf} {n q : Nat} (h : n ≤ q) : frF L n q = [] := by
  unfold frF
  have e1 : n - q = 0 := by omega
  rw [e1]; rfl
theorem delK_delK {α : Type} (key : α → List UInt8) (k : List UInt8) (l : List α) : delK key k (delK key k l) = delK key k l := by
  unfold delK
  rw [List.filter_filter]
  congr 1
  funext y
  simp
theorem behL_gone {c : Cg} {r : List Cg} {f : List Nat} {M : List Lf} (h : c.g = true) : behL (c :: r) f M = behL r f (delK Lf.k c.k M) := by
  rw [behL, if_pos h]
theorem behL_put {c : Cg} {r : List Cg} {q : Nat} {f : List Nat} {M : List Lf} (h : c.g = false) : behL (c :: r) (q :: f) M = behL r f (insK Lf.k ⟨c.k, q, c.v⟩ (delK Lf.k c.k M)) := by
  have hg : ¬ c.g = true := by simp [h]
  rw [behL, if_neg hg]
  unfold putK
  rw [delK_delK]
  rfl
theorem behL_rise : ∀ (C : List Cg) (f : List Nat) (M : List Lf), Rise Lf.k M → Rise Lf.k (behL C f M)
  | [], _, _, h => h
  | c :: r, f, M, h => by
    rw [behL]
    split
    · exact behL_rise r _ _ (h.del Lf.k _)
    · exact behL_rise r _ _ (Rise.put Lf.k (h.del Lf.k _))
theorem behL_len : ∀ (C : List Cg) (f : List Nat) (M : List Lf), (behL C f M).length ≤ M.length + C.length
  | [], _, _ => by simp [behL]
  | c :: r, f, M => by
    rw [behL]
    have hd : (delK Lf.k c.k M).length ≤ M.length := List.length_filter_le _ _
    split
    · have := behL_len r f (delK Lf.k c.k M)
      simp only [List.length_cons]; omega
    · have := behL_len r f.tail (putK Lf.k ⟨c.k, f.headD 0, c.v⟩ (delK Lf.k c.k M))
      have h2 := putK_le Lf.k (⟨c.k, f.headD 0, c.v⟩ : Lf) (delK Lf.k c.k M)
      simp only [List.length_cons]; omega
end Go.Proofs.YtmekplaonlpfkaaGreatDoor
/- The document's leaves: Find, used, without. -/
namespace Go.Proofs.YtmekplaonlpfkaaGreatDoor
open Go.RowKit Go.Maps Go.Sort

attribute [local go_sem ↓] Go.wp_at_zero Go.wp_at_succ

def lrL (x : Lf) : List Value := [encStr x.k, encStr x.v, .int .i64 (x.p : Int)]
def flatR (L : List Lf) : List Value := L.flatMap lrL
/-- The document's leaves lie at ad. -/
def LrAt (w : World) (ad : Option Addr) (L : List Lf) : Prop := 0 < L.length → ∃ b off, ad = some ⟨b, off, none⟩ ∧ ∀ j x, L[j]? = some x →
  w.cell? ⟨b, off + j * 3, none⟩ = some (encStr x.k) ∧ w.cell? ⟨b, off + j * 3 + 1, none⟩ = some (encStr x.v) ∧ w.cell? ⟨b, off + j * 3 + 2, none⟩ = some (.int .i64 (x.p : Int))
theorem LrAt.lt {w : World} {ad : Option Addr} {L : List Lf} (h : LrAt w ad L) {a : Addr} (e : ad = some a) (hn : 0 < L.length) : a.block < w.heap.size := by
  obtain ⟨b, off, rfl, hc⟩ := h hn
  cases e
  have := (hc 0 _ (List.getElem?_eq_getElem hn)).1
  exact World.block_lt_of_cell? w _ this
theorem LrAt.keep {w w' : World} {ad : Option Addr} {L : List Lf} (h : LrAt w ad L) (hk : ∀ a, ad = some a → 0 < L.length → w'.heap[a.block]? = w.heap[a.block]?) : LrAt w' ad L := fun hn => by
  obtain ⟨b, off, rfl, hc⟩ := h hn
  refine ⟨b, off, rfl, fun j x hx => ?_⟩
  have hb := hk ⟨b, off, none⟩ rfl hn
  obtain ⟨h1, h2, h3⟩ := hc j x hx
  exact ⟨by rw [World.cell?_of_block (a := ⟨b, off + j * 3, none⟩) hb]; exact h1, by rw [World.cell?_of_block (a := ⟨b, off + j * 3 + 1, none⟩) hb]; exact h2, by rw [World.cell?_of_block (a := ⟨b, off + j * 3 + 2, none⟩) hb]; exact h3⟩
theorem LrAt.below {w w' : World} {ad : Option Addr} {L : List Lf} (h : LrAt w ad L) (hb : Below w.heap.size w w') : LrAt w' ad L := h.keep fun _ e hn => hb.block _ (h.lt e hn)
/-- Where a key first is, from i on. -/
def findF (k : List UInt8) : Int → List Lf → Int
  | _, [] => -1
  | i, x :: r => if x.k = k then i else findF k (i + 1) r
theorem eq_str_ne {a b : List UInt8} (h : a ≠ b) (w : World) : (binOp .eql 9 (encStr a) (encStr b)).run Tryz.prog w = .ok (.bool false) w := by
  rw [eq_str]
  have : (a == b) = false := by simpa using h
  rw [this]
theorem neq_str_ne {a b : List UInt8} (h : a ≠ b) (w : World) : (binOp .neq 9 (encStr a) (encStr b)).run Tryz.prog w = .ok (.bool true) w := by
  show (binOp .neq 9 (.string ⟨a.toArray⟩) (.string ⟨b.toArray⟩)).run Tryz.prog w = _
  rw [binOp_string_neq]
  have e1 : ∀ l : List UInt8, (⟨l.toArray⟩ : ByteArray).toList = l := fun l => by rw [ByteArray.toList_eq]
  rw [e1, e1]
  have : (a == b) = false := by simpa using h
  rw [this]
  rfl
theorem neq_str_eq (a : List UInt8) (w : World) : (binOp .neq 9 (encStr a) (encStr a)).run Tryz.prog w = .ok (.bool false) w := by
  show (binOp .neq 9 (.string ⟨a.toArray⟩) (.string ⟨a.toArray⟩)).run Tryz.prog w = _
  rw [binOp_string_neq]
  simp
theorem eq_str_eq (a : List UInt8) (w : World) : (binOp .eql 9 (encStr a) (encStr a)).run Tryz.prog w = .ok (.bool true) w := by
  rw [eq_str]; simp
set_option maxRecDepth 100000 in
set_option maxHeartbeats 800000 in
theorem find_any (ad : Option Addr) (cap : Nat) (L : List Lf) (k : List UInt8) (w : World) (h : LrAt w ad L) (hl : L.length ≤ 1000000) :
    Calls Tryz.prog 42 #[.slice ad L.length cap, encStr k] w fun e w' => e = .returned (.int .i64 (findF k 0 L)) ∧ w' = w := by
  have HL : Hid (LrAt w ad L) := h
  clear h
  obtain ⟨R, hR⟩ : ∃ R, findF k 0 L = R := ⟨_, rfl⟩
  rw [hR]
  have HR : Hid (findF k 0 L = R) := hR
  clear hR
  go_enter Tryz.func42, Tryz.ntmps42
  go_wp2
  go_loopw [5] (fun iv wr => ∃ i : Nat, i ≤ L.length ∧ iv = .int .i64 i ∧ findF k (i : Int) (L.drop i) = R ∧ wr = w) (fun iv _ => L.length - (intOf iv).toNat)
  case atStart => exact ⟨0, Nat.zero_le _, rfl, HR.out, rfl⟩
  case round =>
    obtain ⟨i, hi, rfl, hr, rfl⟩ := hrel
    by_cases hlt : i < L.length
    · have hlt' : (i : Int) < L.length := by omega
      have hx : L[i]? = some L[i] := List.getElem?_eq_getElem hlt
      have hdr : L.drop i = L[i] :: L.drop (i + 1) := List.drop_eq_getElem_cons hlt
      obtain ⟨bb, off, rfl, hc⟩ := HL.out (by omega)
      have hci := (hc i _ hx).1
      rw [hdr, findF] at hr
      clear hc hx hdr
      generalize L[i] = x at *
      by_cases hk : x.k = k
      · rw [if_pos hk] at hr
        rw [hk] at hci
        have HE : Hid ((i : Int) = R) := hr
        clear hr hk
        go_wp2
        go_ret
        exact ⟨by rw [← HE.out]; rfl, rfl⟩
      · rw [if_neg hk] at hr
        have hkb : (x.k == k) = false := by simpa using hk
        have HE : Hid (findF k ((i : Int) + 1) (L.drop (i + 1)) = R) := hr
        clear hr
        generalize x.k = xk at *
        go_wp2
        refine ⟨⟨i + 1, by omega, by go_num, by have := HE.out; simpa using this, by trivial⟩, by simp [intOf]; omega⟩
    · obtain rfl : i = L.length := by omega
      have hlt' : ¬ ((L.length : Int) < L.length) := by omega
      rw [List.drop_length] at hr
      have HE : Hid (-1 = R) := hr
      clear hr
      go_wp2
      go_ret
      exact ⟨by rw [← HE.out]; rfl, rfl⟩
set_option maxRecDepth 100000 in
set_option maxHeartbeats 800000 in
theorem used_any (ad : Option Addr) (cap : Nat) (L : List Lf) (q : Nat) (w : World) (h : LrAt w ad L) (hl : L.length ≤ 1000000) :
    Calls Tryz.prog 53 #[.slice ad L.length cap, .int .i64 (q : Int)] w fun e w' => e = .returned (.bool (heldB L q)) ∧ w' = w := by
  have HL : Hid (LrAt w ad L) := h
  clear h
  obtain ⟨R, hR⟩ : ∃ R, heldB L q = R := ⟨_, rfl⟩
  rw [hR]
  have HR : Hid (heldB L q = R) := hR
  clear hR
  go_enter Tryz.func53, Tryz.ntmps53
  go_wp2
  go_loopw [5] (fun iv wr => ∃ i : Nat, i ≤ L.length ∧ iv = .int .i64 i ∧ heldB (L.drop i) q = R ∧ wr = w) (fun iv _ => L.length - (intOf iv).toNat)
  case atStart => exact ⟨0, Nat.zero_le _, rfl, HR.out, rfl⟩
  case round =>
    obtain ⟨i, hi, rfl, hr, rfl⟩ := hrel
    by_cases hlt : i < L.length
    · have hlt' : (i : Int) < L.length := by omega
      have hx : L[i]? = some L[i] := List.getElem?_eq_getElem hlt
      have hdr : L.drop i = L[i] :: L.drop (i + 1) := List.drop_eq_getElem_cons hlt
      obtain ⟨bb, off, rfl, hc⟩ := HL.out (by omega)
      have hci := (hc i _ hx).2.2
      rw [hdr, heldB, List.any_cons] at hr
      clear hc hx hdr
      generalize L[i] = x at *
      by_cases hk : x.p = q
      · have h0 : true = R := by rw [← hr]; simp [hk]
        have HE : Hid (true = R) := h0
        clear h0
        rw [hk] at hci
        clear hr hk
        go_wp2
        go_ret
        exact ⟨by rw [← HE.out]; rfl, rfl⟩
      · have h0 : heldB (L.drop (i + 1)) q = R := by
          rw [← hr]
          have : (x.p == q) = false := by simpa using hk
          rw [this, Bool.false_or]
          rfl
        have HE : Hid (heldB (L.drop (i + 1)) q = R) := h0
        clear h0
        have hki : ¬ ((x.p : Int) = (q : Int)) := by omega
        clear hr
        generalize x.p = xp at *
        go_wp2
        refine ⟨⟨i + 1, by omega, by go_num, HE.out, by trivial⟩, by simp [intOf]; omega⟩
    · obtain rfl : i = L.length := by omega
      have hlt' : ¬ ((L.length : Int) < L.length) := by omega
      rw [List.drop_length] at hr
      have HE : Hid (false = R) := hr
      clear hr
      go_wp2
      go_ret
      exact ⟨by rw [← HE.out]; rfl, rfl⟩
end Go.Proofs.YtmekplaonlpfkaaGreatDoor
/- The document's leaves: rows of one's own, without. -/
namespace Go.Proofs.YtmekplaonlpfkaaGreatDoor
open Go.RowKit Go.Maps Go.Sort

attribute [local go_sem ↓] Go.wp_at_zero Go.wp_at_succ

theorem flatR_append (l m : List Lf) : flatR (l ++ m) = flatR l ++ flatR m := List.flatMap_append
theorem flatR_length : ∀ l : List Lf, (flatR l).length = l.length * 3
  | [] => rfl
  | x :: r => by
    have := flatR_length r
    simp only [flatR, List.flatMap_cons, List.length_append, List.length_cons] at *
    rw [this]
    simp [lrL]; omega
theorem flatR_get : ∀ (L : List Lf) (j : Nat) (x : Lf), L[j]? = some x → (flatR L)[j * 3]? = some (encStr x.k) ∧ (flatR L)[j * 3 + 1]? = some (encStr x.v) ∧ (flatR L)[j * 3 + 2]? = some (.int .i64 (x.p : Int))
  | [], j, x, h => by cases j <;> cases h
  | y :: r, 0, x, h => by cases h; exact ⟨rfl, rfl, rfl⟩
  | y :: r, j + 1, x, h => by
    have ih := flatR_get r j x h
    have e : ∀ q, (flatR (y :: r))[(j + 1) * 3 + q]? = (flatR r)[j * 3 + q]? := fun q => by
      unfold flatR
      rw [List.flatMap_cons, List.getElem?_append_right (by simp [lrL]; omega)]
      congr 1
      simp [lrL]; omega
    exact ⟨(e 0).trans ih.1, (e 1).trans ih.2.1, (e 2).trans ih.2.2⟩
theorem flatR_at {L : List Lf} {j : Nat} {u : Value} (h : (flatR L)[j]? = some u) : ∃ x, L[j / 3]? = some x ∧ ((j % 3 = 0 ∧ u = encStr x.k) ∨ (j % 3 = 1 ∧ u = encStr x.v) ∨ (j % 3 = 2 ∧ u = .int .i64 (x.p : Int))) := by
  have hj : j < (flatR L).length := (List.getElem?_eq_some_iff.1 h).1
  rw [flatR_length] at hj
  have hx : L[j / 3]? = some L[j / 3] := List.getElem?_eq_getElem (by omega)
  refine ⟨_, hx, ?_⟩
  have hg := flatR_get L (j / 3) _ hx
  have e3 : j = j / 3 * 3 + j % 3 := by omega
  have hm : j % 3 = 0 ∨ j % 3 = 1 ∨ j % 3 = 2 := by omega
  rcases hm with hm | hm | hm
  · refine .inl ⟨hm, ?_⟩
    rw [hm] at e3; rw [e3, Nat.add_zero, hg.1] at h
    exact (Option.some.inj h).symm
  · refine .inr (.inl ⟨hm, ?_⟩)
    rw [hm] at e3; rw [e3, hg.2.1] at h
    exact (Option.some.inj h).symm
  · refine .inr (.inr ⟨hm, ?_⟩)
    rw [hm] at e3; rw [e3, hg.2.2] at h
    exact (Option.some.inj h).symm
/-- A value that owns leaves, made since w0. -/
structure LrOw (w0 w : World) (v : Value) (L : List Lf) : Prop where
  own : w.ownsRow w0.heap.size 60 3 v L.length (flatR L)
  below : Below w0.heap.size w0 w
theorem LrOw.nil' {w0 w : World} (h : Below w0.heap.size w0 w) : LrOw w0 w (.slice none 0 0) [] := ⟨World.ownsRow_nil _ _ _ _, h⟩
theorem LrOw.keep {w0 w w' : World} {v : Value} {L : List Lf} (h : LrOw w0 w v L) (hb : Below w.heap.size w w') : LrOw w0 w' v L :=
  ⟨owns_row_keep h.own fun k e => hb.block k (h.own.lt k e).2, Below.transS h.below hb⟩
theorem LrOw.mono {w w0 w1 : World} {v : Value} {L : List Lf} (h : LrOw w0 w1 v L) (hb : Below w.heap.size w w0) : LrOw w w1 v L := by
  refine ⟨⟨h.own.1, ?_⟩, hb.trans (h.below.mono hb.size)⟩
  rcases h.own.2 with hn | ⟨g, cap, cur, e, hbs, rest⟩
  · exact .inl hn
  · exact .inr ⟨g, cap, cur, e, Nat.le_trans hb.size hbs, rest⟩
theorem LrOw.sl {w0 w : World} {v : Value} {L : List Lf} (h : LrOw w0 w v L) : ∃ ad cap, v = .slice ad L.length cap ∧ L.length ≤ cap ∧ LrAt w ad L ∧ (∀ a, ad = some a → w0.heap.size ≤ a.block ∧ a.block < w.heap.size) := by
  rcases h.own.2 with ⟨rfl, e⟩ | ⟨g, cap, cur, rfl, hbs, hg, hcap, _⟩
  · exact ⟨none, 0, by rw [e], by omega, (fun hn => by omega), fun a e => by cases e⟩
  · refine ⟨_, cap, rfl, hcap, fun _ => ⟨g, 0, rfl, fun j x hx => ?_⟩, fun a e => by cases e; exact ⟨hbs, lt_of_block hg⟩⟩
    have hf := flatR_get L j x hx
    have hc := h.own.cells (g := g) rfl
    simp only [Addr.add_lit] at hc
    exact ⟨hc _ _ hf.1, by rw [Nat.add_assoc]; exact hc _ _ hf.2.1, by rw [Nat.add_assoc]; exact hc _ _ hf.2.2⟩
theorem infoLr : (Tryz.prog.info? 60).map (fun i => (i.zero, i.size, i.bytes)) = some (some (.agg #[.string ⟨#[]⟩, .string ⟨#[]⟩, .int .i64 0]), 3, 40) := by kernel_rfl
theorem run_append_Lr {w0 w : World} {v : Value} {L ys : List Lf} {ad : Option Addr} {c : Nat} (h : LrOw w0 w v L) (hs : LrAt w ad ys) (hnil : ad = none → ys = []) (hn : L.length + ys.length ≤ 100000) (ty : TypeId) :
    ∃ v' w1, (Builtin.append_ #[37, 37] ty #[v, .slice ad ys.length c]).run Tryz.prog w = .ok v' w1 ∧ LrOw w0 w1 v' (L ++ ys) ∧ (∀ k, k < w.heap.size → v.ownBlock ≠ some k → w1.heap[k]? = w.heap[k]?) := by
  obtain ⟨i0, hi0, hz0, hz1, hz2⟩ := info_parts infoLr
  cases ad with
  | none =>
    obtain rfl := hnil rfl
    refine ⟨v, w, ?_, by simpa using h, fun _ _ _ => rfl⟩
    rcases h.own.2 with ⟨rfl, hl⟩ | ⟨g, cap, cur, rfl, hbs, hg, hcap, _⟩
    · simp [Builtin.append_, run_underlying Tryz.underlying37, sizeOf, typeInfo, hi0, Builtin.lenOf, Builtin.firstCells]
    · have := run_append_room_src (P := Tryz.prog) w 37 37 ty 60 i0 Tryz.underlying37 hi0 g 0 L.length cap (.slice none 0 c) 0 [] (Src.ofNil w Tryz.underlying37 c) (by omega) (fun j hj => by simp at hj) (fun j hj => by simp at hj)
      simpa [World.setCells] using this
  | some a =>
    obtain ⟨v', w1, h1, h2, h3, _, _⟩ := run_append_own_at (P := Tryz.prog) w w0.heap.size 37 ty 60 i0 (.agg #[.string ⟨#[]⟩, .string ⟨#[]⟩, .int .i64 0]) 3 40 Tryz.underlying37 hi0 hz0 hz1 hz2 rfl (by decide) v L.length (flatR L) h.own a ys.length c (flatR ys) (flatR_length ys)
      (fun j u hj => by
        obtain ⟨x, hx, hu⟩ := flatR_at hj
        have hp : 0 < ys.length := by have := (List.getElem?_eq_some_iff.1 hx).1; omega
        obtain ⟨b, off, e, hc⟩ := hs hp
        cases e
        rw [Addr.add_lit]
        obtain ⟨c0, c1, c2⟩ := hc _ _ hx
        rcases hu with ⟨hm, rfl⟩ | ⟨hm, rfl⟩ | ⟨hm, rfl⟩
        · have : off + j / 3 * 3 = off + j := by omega
          rw [this] at c0; exact c0
        · have : off + j / 3 * 3 + 1 = off + j := by omega
          rw [this] at c1; exact c1
        · have : off + j / 3 * 3 + 2 = off + j := by omega
          rw [this] at c2; exact c2)
      (fun u hu => by
        obtain ⟨x, _, hx⟩ := List.mem_flatMap.1 hu
        simp [lrL] at hx
        rcases hx with rfl | rfl | rfl <;> rfl) (by unfold maxLen; omega) (by omega) h.below.size
    refine ⟨v', w1, h1, ⟨by rw [flatR_append, List.length_append]; exact h2, h.below.grown h3 h.below.size (fun k e => (h.own.lt k e).1)⟩, fun k hk hne => h3.block k hk (fun e => hne e.symm)⟩
theorem wpList_append_Lr {ops : Array Oper} {rest : List Oper} {o : Oper} {a : Act} {w : World} {Q : Exit → Act → World → Prop} (hgd : o.guard = none) (s x : Operand) (ho : o.op = .call { callee := .builtin .append, args := #[s, x], argTypes := #[37, 37] })
    (w0 : World) (v : Value) (L ys : List Lf) (ad : Option Addr) (c : Nat) (hs : a.eval s = v) (hx : a.eval x = .slice ad ys.length c) (h : LrOw w0 w v L) (hr : LrAt w ad ys) (hnil : ad = none → ys = []) (hn : L.length + ys.length ≤ 100000)
    (hk : ∀ v' w1, LrOw w0 w1 v' (L ++ ys) → wpList Tryz.prog ops Q rest (a.put o.dst v') w1) : wpList Tryz.prog ops Q (o :: rest) a w := by
  obtain ⟨v', w1, hrun, h2, _⟩ := run_append_Lr (c := c) h hr hnil hn o.type
  refine wpList_plain hgd fun K hK => ?_
  unfold Oper.wp execOp
  simp only [ho, resolve, invoke, builtin, Sem.run_bind, Sem.run_pure, Result.andThen_ok, List.map_toArray, List.map_cons, List.map_nil, hs, hx, hrun]
  exact hK _ _ (hk v' w1 h2)
theorem LrAt.one (x : Lf) (w : World) : LrAt (w.alloc (.cells #[encStr x.k, encStr x.v, .int .i64 (x.p : Int)] 60)) (some ⟨w.heap.size, 0, none⟩) [x] := fun _ => by
  refine ⟨w.heap.size, 0, rfl, fun j y hy => ?_⟩
  have hj : j = 0 := by have := (List.getElem?_eq_some_iff.1 hy).1; simp at this; omega
  subst hj
  cases hy
  exact ⟨by simp, by simp, by simp⟩
set_option maxRecDepth 100000 in
set_option maxHeartbeats 1600000 in
theorem without_any (ad : Option Addr) (cap : Nat) (L : List Lf) (k : List UInt8) (w : World) (h : LrAt w ad L) (hl : L.length ≤ 1000) :
    Calls Tryz.prog 52 #[.slice ad L.length cap, encStr k] w fun e w' => ∃ v, e = .returned v ∧ LrOw w w' v (delK Lf.k k L) := by
  have HL : Hid (LrAt w ad L) := h
  clear h
  have HI0 : Hid (LrOw w w (.slice none 0 0) (delK Lf.k k (L.take 0))) := LrOw.nil' (Below.refl _ _)
  go_enter Tryz.func52, Tryz.ntmps52
  go_wp2
  go_loopw [5, 6] (fun ov iv wr => ∃ i : Nat, i ≤ L.length ∧ iv = .int .i64 i ∧ LrOw w wr ov (delK Lf.k k (L.take i))) (fun _ iv _ => L.length - (intOf iv).toNat)
  case atStart => exact ⟨0, Nat.zero_le _, rfl, HI0.out⟩
  case round =>
    clear HI0
    obtain ⟨i, hi, rfl, hO⟩ := hrel
    have HO : Hid (LrOw w wr u5 (delK Lf.k k (L.take i))) := hO
    clear hO
    by_cases hlt : i < L.length
    · have hlt' : (i : Int) < L.length := by omega
      have hx : L[i]? = some L[i] := List.getElem?_eq_getElem hlt
      have htk : L.take (i + 1) = L.take i ++ [L[i]] := (List.take_append_getElem hlt).symm
      obtain ⟨bb, off, rfl, hc⟩ := (HL.out.below HO.out.below) (by omega)
      have c0 := (hc i _ hx).1
      have c1 := (hc i _ hx).2.1
      have c2 := (hc i _ hx).2.2
      have hle : (delK Lf.k k (L.take i)).length ≤ 1000 := by
        have h1 : (delK Lf.k k (L.take i)).length ≤ (L.take i).length := List.length_filter_le _ _
        have h2 : (L.take i).length ≤ L.length := by rw [List.length_take]; omega
        omega
      clear hc hx
      generalize L[i] = x at *
      by_cases hk : x.k = k
      · have h0 : delK Lf.k k (L.take (i + 1)) = delK Lf.k k (L.take i) := by rw [htk]; simp [delK, hk]
        have HN : Hid (LrOw w wr u5 (delK Lf.k k (L.take (i + 1)))) := by rw [h0]; exact HO.out
        rw [hk] at c0
        have hne := neq_str_eq k wr
        clear h0 htk hk
        go_wp2
        exact ⟨⟨i + 1, by omega, by go_num, HN.out⟩, by simp [intOf]; omega⟩
      · have h0 : delK Lf.k k (L.take (i + 1)) = delK Lf.k k (L.take i) ++ [x] := by rw [htk]; simp [delK, hk]
        have hkb : (x.k == k) = false := by simpa using hk
        obtain ⟨wa, hwa⟩ : ∃ wa, wr.alloc (.cells #[encStr x.k, encStr x.v, .int .i64 (x.p : Int)] 60) = wa := ⟨_, rfl⟩
        have hOw : LrOw w wa u5 (delK Lf.k k (L.take i)) := by rw [← hwa]; exact HO.out.keep ((Below.refl _ wr).alloc (Nat.le_refl _) _)
        have hone : LrAt wa (some ⟨wr.heap.size, 0, none⟩) [x] := by rw [← hwa]; exact LrAt.one x wr
        have HN : Hid (∀ v' w1, LrOw w w1 v' (delK Lf.k k (L.take i) ++ [x]) → LrOw w w1 v' (delK Lf.k k (L.take (i + 1)))) := fun v' w1 h1 => by rw [h0]; exact h1
        have hle1 : (delK Lf.k k (L.take i)).length + [x].length ≤ 100000 := by simp; omega
        clear h0 htk hle
        generalize delK Lf.k k (L.take i) = D at *
        obtain ⟨xk, hxk⟩ : ∃ xk, x.k = xk := ⟨_, rfl⟩
        obtain ⟨xv, hxv⟩ : ∃ xv, x.v = xv := ⟨_, rfl⟩
        obtain ⟨xp, hxp⟩ : ∃ xp, x.p = xp := ⟨_, rfl⟩
        rw [hxk] at c0 hkb hwa
        rw [hxv] at c1 hwa
        rw [hxp] at c2 hwa
        clear hk hxk hxv hxp
        go_wp2_with (first | (at_builtin; refine wpList_append_Lr rfl _ _ rfl w _ D [x] (some ⟨wr.heap.size, 0, none⟩) 1 rfl rfl hOw hone (fun e => by cases e) hle1 ?_; intro v4 w4 hO4) | fail)
        have HN4 : Hid (LrOw w w4 v4 (delK Lf.k k (L.take (i + 1)))) := HN.out v4 w4 hO4
        clear hOw hone hle1 hwa hO4
        go_wp2
        exact ⟨⟨i + 1, by omega, by go_num, HN4.out⟩, by simp [intOf]; omega⟩
    · obtain rfl : i = L.length := by omega
      have hlt' : ¬ ((L.length : Int) < L.length) := by omega
      have HE : Hid (LrOw w wr u5 (delK Lf.k k L)) := by have := HO.out; rw [List.take_length] at this; exact this
      go_wp2
      go_ret
      exact ⟨_, rfl, HE.out⟩
end Go.Proofs.YtmekplaonlpfkaaGreatDoor
