/- TxSecrets: that another Lock makes other bytes; that an ID knows nothing of secrets; a secret set in place. -/
import Derived.Test.YtanchjfodcjlmaaGreatDoorOwnShelf26
import Derived.Test.YtanchjfodcjlmaaGreatDoorOwnShelf28
import Derived.Test.YtanchjfodcjlmaaGreatDoorOwnShelf23
import Derived.Lib.Strings
import Derived.Test.YtanchjfodcjlmaaGreatDoorOwnShelf01
import Derived.Test.YtanchjfodcjlmaaGreatDoorOwnShelf24
import Derived.Deep.AppendSrc
import Derived.Maps.AppendAt
import Derived.Deep.AppendLies
import Derived.Shelf.Slices.In.SortNone
namespace Go.Proofs.YtanchjfodcjlmaaGreatDoor
open Go.RowKit

theorem sz_lt8 {n : Int} (h1 : n ≤ 18446744073709551615) : n < 256 ^ sz n := by
  unfold sz
  repeat' split
  all_goals (try simp only [Int.reducePow])
  all_goals omega
theorem dg_mod (a b : Int) : ∀ k : Nat, (∀ i, i < k → a / 256 ^ i % 256 = b / 256 ^ i % 256) → a % 256 ^ k = b % 256 ^ k
  | 0, _ => by simp [Int.emod_one]
  | k + 1, h => by
    have h1 := dg_mod a b k (fun i hi => h i (by omega))
    have h2 := h k (by omega)
    have e : ∀ x : Int, x % 256 ^ (k + 1) = x % 256 ^ k + 256 ^ k * (x / 256 ^ k % 256) := fun x => by
      have hp : (0 : Int) < 256 ^ k := Int.pow_pos (by decide)
      have e1 := Int.emod_add_mul_ediv x (256 ^ k)
      have e2 := Int.emod_add_mul_ediv (x / 256 ^ k) 256
      have e3 := Int.emod_add_mul_ediv x (256 ^ (k + 1))
      have e4 : x / 256 ^ (k + 1) = x / 256 ^ k / 256 := by rw [Int.pow_succ, Int.ediv_ediv_of_nonneg (Int.le_of_lt hp)]
      rw [e4, Int.pow_succ] at e3
      have e5 : (256 : Int) ^ k * 256 * (x / 256 ^ k / 256) = 256 ^ k * (256 * (x / 256 ^ k / 256)) := Int.mul_assoc _ _ _
      have e6 : (256 : Int) ^ k * (x / 256 ^ k) = 256 ^ k * (x / 256 ^ k % 256) + 256 ^ k * (256 * (x / 256 ^ k / 256)) := by rw [← Int.mul_add, e2]
      rw [Int.pow_succ]
      omega
    rw [e a, e b, h1, h2]
theorem tuB_inj {a b : Int} {r t : List Int} (ha : 0 ≤ a ∧ a ≤ 18446744073709551615) (hb : 0 ≤ b ∧ b ≤ 18446744073709551615) (h : uB a ++ r = uB b ++ t) : a = b := by
  unfold uB at h
  rw [List.cons_append, List.cons_append] at h
  obtain ⟨h1, h2⟩ := List.cons.inj h
  have hk : sz a = sz b := by omega
  rw [← hk] at h2
  obtain ⟨h3, _⟩ := List.append_inj h2 (by rw [dgs_length, dgs_length])
  have hd : ∀ i, i < sz a → a / 256 ^ i % 256 = b / 256 ^ i % 256 := fun i hi => by
    have h4 := congrArg (fun l => l[sz a - 1 - i]?) h3
    have hi2 : sz a - 1 - i < sz a := by omega
    simp [dgs, List.getElem?_map, List.getElem?_range hi2, dgt, trn] at h4
    have e : sz a - 1 - (sz a - 1 - i) = i := by omega
    rw [e] at h4
    exact h4
  have hm := dg_mod a b (sz a) hd
  have la := sz_lt8 ha.2
  have lb := sz_lt8 hb.2
  rw [← hk] at lb
  rw [Int.emod_eq_of_lt ha.1 la, Int.emod_eq_of_lt hb.1 lb] at hm
  exact hm
theorem u64_xor (n : Int) : Cd.u64 (IntKind.i64.wrap ((BitVec.ofInt 64 n ^^^ BitVec.ofInt 64 1).toNat)) ≠ Cd.u64 n := by
  intro h
  have e : ∀ x : Int, Cd.u64 x = ((BitVec.ofInt 64 x).toNat : Int) := fun x => by
    unfold Cd.u64
    simp [IntKind.wrap, IntKind.bits, IntKind.signed, BitVec.toNat_ofInt]
    omega
  have e2 : Cd.u64 (IntKind.i64.wrap ((BitVec.ofInt 64 n ^^^ BitVec.ofInt 64 1).toNat)) = ((BitVec.ofInt 64 n ^^^ BitVec.ofInt 64 1).toNat : Int) := by
    have hl := (BitVec.ofInt 64 n ^^^ BitVec.ofInt 64 1).isLt
    generalize (BitVec.ofInt 64 n ^^^ BitVec.ofInt 64 1).toNat = x at *
    unfold Cd.u64
    simp only [IntKind.wrap, IntKind.bits, IntKind.signed]
    simp
    split <;> omega
  rw [e2, e] at h
  have h3 : BitVec.ofInt 64 n ^^^ BitVec.ofInt 64 1 = BitVec.ofInt 64 n := BitVec.eq_of_toNat_eq (by omega)
  have h4 := congrArg (fun b : BitVec 64 => b.getLsbD 0) h3
  simp at h4
theorem u8_inj {a b : Int} (ha : 0 ≤ a ∧ a ≤ 255) (hb : 0 ≤ b ∧ b ≤ 255) (h : UInt8.ofNat a.toNat = UInt8.ofNat b.toNat) : a = b := by
  have h1 := congrArg UInt8.toNat h
  simp at h1
  omega
theorem strB_inj {z y : Nat → Int} {n m : Nat} (hz : ∀ j, j < n → 0 ≤ z j ∧ z j ≤ 255) (hy : ∀ j, j < m → 0 ≤ y j ∧ y j ≤ 255) (h : strB z n = strB y m) : n = m ∧ ∀ j, j < n → z j = y j := by
  unfold strB at h
  have h1 := congrArg (fun b : ByteArray => b.data.toList) h
  simp at h1
  have h2 := congrArg List.length h1
  simp at h2
  subst h2
  refine ⟨rfl, fun j hj => ?_⟩
  have h3 := congrArg (fun l => l[j]?) h1
  simp [hj] at h3
  exact u8_inj (hz j hj) (hy j hj) h3
/-- Other Locks, other bytes. -/
theorem laidT_lk {lk lk' : Int} {n n' m m' : Nat} {X X' : Nat → Ti} {Z Z' : Nat → Nat → Int} {O O' : Nat → To} (h : laidT lk n X Z m O = laidT lk' n' X' Z' m' O') : Cd.u64 lk = Cd.u64 lk' := by
  unfold laidT laidTx0 at h
  simp only [List.append_assoc] at h
  exact tuB_inj (Cd.u64_bd lk) (Cd.u64_bd lk') h
theorem strB_lk {w1 w2 w3 w4 : World} {v u : Value} {lk lk' : Int} {n n' m m' : Nat} {X X' : Nat → Ti} {Z Z' : Nat → Nat → Int} {O O' : Nat → To} {L M : List Int} (hL : laidT lk n X Z m O = L) (hM : laidT lk' n' X' Z' m' O' = M) (h1 : Ow w1 w2 v L) (h2 : Ow w3 w4 u M) (hne : Cd.u64 lk' ≠ Cd.u64 lk) : strB (fn L) L.length ≠ strB (fn M) M.length := by
  intro h
  have hb : ∀ {L : List Int}, (∀ x ∈ L, 0 ≤ x ∧ x ≤ 255) → ∀ j, j < L.length → 0 ≤ fn L j ∧ fn L j ≤ 255 := fun hx j hj => by rw [fn_get _ j hj]; exact hx _ (List.getElem_mem hj)
  obtain ⟨hl, hc⟩ := strB_inj (hb h1.bd) (hb h2.bd) h
  have e : L = M := by
    apply List.ext_getElem hl
    intro j h3 h4
    have := hc j h3
    rwa [fn_get _ j h3, fn_get _ j h4] at this
  rw [← hL, ← hM] at e
  exact hne (laidT_lk e).symm
/-- An ID knows nothing of secrets. -/
theorem laidIn_no (x : Ti) (z y : Nat → Int) (h : x.sn = 0) : laidIn x z = laidIn x y := by simp [laidIn, h, escF]
theorem laidIns_no {X X' : Nat → Ti} (Z Z' : Nat → Nat → Int) (h : ∀ i, noS X i = noS X' i) : ∀ n, laidIns (noS X) Z n = laidIns (noS X') Z' n
  | 0 => rfl
  | n + 1 => by rw [laidIns, laidIns, laidIns_no Z Z' h n, h n, laidIn_no (noS X' n) (Z n) (Z' n) rfl]
theorem idB_no (lk : Int) (n : Nat) {X X' : Nat → Ti} (Z Z' : Nat → Nat → Int) (m : Nat) (O : Nat → To) (h : ∀ i, noS X i = noS X' i) : idB lk n X Z m O = idB lk n X' Z' m O := by
  unfold idB laidT laidTx0
  rw [laidIns_no Z Z' h n]
/-- One input's secret is another one. -/
def setX (X : Nat → Ti) (k sn : Nat) : Nat → Ti := fun i => if i = k then { X i with sn := sn } else X i
def setS (S : Nat → Option Addr × Nat) (k : Nat) (sa : Option Addr) (sc : Nat) : Nat → Option Addr × Nat := fun i => if i = k then (sa, sc) else S i
def setZ (Z : Nat → Nat → Int) (k : Nat) (z : Nat → Int) : Nat → Nat → Int := fun i => if i = k then z else Z i
theorem setX_no (X : Nat → Ti) (k sn : Nat) (i : Nat) : noS X i = noS (setX X k sn) i := by unfold noS setX; split <;> rfl
theorem til_low (x : Ti) (sa : Option Addr) (sc : Nat) (sn : Nat) (sb : Option Addr) (sd : Nat) (j : Nat) (hj : j < 34) : (til { x with sn := sn } sb sd)[j]? = (til x sa sc)[j]? := by
  have e : ∀ (y : Ti) (a : Option Addr) (c : Nat), til y a c = (bl y.pt 32 ++ [.int .i64 y.n, .int .i64 y.br]) ++ [.slice a y.sn c] := fun y a c => by simp [til]
  have e2 : ∀ (l : List Value) (v : Value), l.length = 34 → (l ++ [v])[j]? = l[j]? := fun l v h => List.getElem?_append_left (by omega)
  rw [e, e, e2 _ _ (by simp [bl_length]), e2 _ _ (by simp [bl_length])]
end Go.Proofs.YtanchjfodcjlmaaGreatDoor
/- TxSecrets: three transactions that are given, and the boxes they lie in. -/
namespace Go.Proofs.YtanchjfodcjlmaaGreatDoor
open Go.RowKit

/-- Where a given transaction lies: in the blocks from lo on, below hi. -/
structure Gt where
  lo : Nat
  hi : Nat
  ia : Option Addr
  ic : Nat
  oa : Option Addr
  oc : Nat
  S : Nat → Option Addr × Nat
structure TxIv (w : World) (t : Tc5) (q : Gt) : Prop where
  own : w.ownsRow q.lo 59 35 (.slice q.ia t.n q.ic) t.n (flatL (tiS t.X q.S) t.n)
  lt : ∀ g, (Value.slice q.ia t.n q.ic).ownBlock = some g → g < q.hi
  rest : ∀ w2 : World, (∀ g, q.lo ≤ g → g < q.hi → (Value.slice q.ia t.n q.ic).ownBlock ≠ some g → w2.heap[g]? = w.heap[g]?) → ToAt w2 q.oa t.m t.O ∧ ∀ k, k < t.n → SlAt w2 (q.S k).1 (t.X k).sn (t.Z k)
section
variable {t : Tc5} {v w w1 w' : World} {g p q r : Gt}
theorem TxIv.keep (h : TxIv w t q) (hw : ∀ g, q.lo ≤ g → g < q.hi → w'.heap[g]? = w.heap[g]?) : TxIv w' t q :=
  ⟨own_keep h.own (fun g e => hw g (h.own.lt g e).1 (h.lt g e)), h.lt, fun w2 h2 => h.rest w2 (fun g h3 h4 h5 => by rw [h2 g h3 h4 h5, hw g h3 h4])⟩
theorem TxIv.tx (h : TxIv w t q) (hp : ∀ k, k < t.n → Hb (t.X k).pt) (hz : ∀ k, k < t.n → (t.X k).sn ≤ 1000000) : TxAt w t.lk t.n t.X t.Z t.m t.O q.ia q.oa q.S :=
  ⟨⟨hp, fun hn => by
    obtain ⟨g, e, _, _, hr⟩ := own_range h.own hn
    exact ⟨g, 0, e, (flatL_range t.n (fun i _ => til_length _ _ _)).1 hr⟩⟩, (h.rest w (fun _ _ _ _ => rfl)).1, fun k hk => ⟨(h.rest w (fun _ _ _ _ => rfl)).2 k hk, hz k hk⟩⟩
theorem TxIv.of {ia oa : Option Addr} {ic oc : Nat} {S : Nat → Option Addr × Nat} (h : InsOw w w1 t ia ic oa S) : TxIv w1 t ⟨w.heap.size, w1.heap.size, ia, ic, oa, oc, S⟩ :=
  ⟨h.own, fun g e => (h.own.lt g e).2, h.rest⟩
/-- One input's secret is another one. -/
theorem TxIv.set (h : TxIv w t q) (hp : ∀ i, i < t.n → Hb (t.X i).pt) {k : Nat} (hk : k < t.n) :
    ∃ g, q.ia = some ⟨g, 0, none⟩ ∧ q.lo ≤ g ∧ g < q.hi ∧ (∃ u, w.cell? ⟨g, k * 35 + 34, none⟩ = some u) ∧ (∀ o, w.frozen? ⟨g, o, none⟩ = false) ∧
      ∀ (sa : Option Addr) (sn sc : Nat), TiAt (w.setCell ⟨g, k * 35 + 34, none⟩ (.slice sa sn sc)) q.ia t.n (setX t.X k sn) (setS q.S k sa sc) ∧ ToAt (w.setCell ⟨g, k * 35 + 34, none⟩ (.slice sa sn sc)) q.oa t.m t.O ∧ ∀ i, i < t.n → SlAt (w.setCell ⟨g, k * 35 + 34, none⟩ (.slice sa sn sc)) (q.S i).1 (t.X i).sn (t.Z i) := by
  obtain ⟨g, eia, hg0, hrow, hr⟩ := own_range h.own (by omega)
  have hgh : g < q.hi := h.lt g (by rw [eia]; rfl)
  have hc := (flatL_range t.n (f := tiS t.X q.S) (k := 35) (fun i _ => til_length _ _ _)).1 hr
  have h34 := hc k hk 34 _ (til_34 (t.X k) (q.S k).1 (q.S k).2)
  rw [show (0 + k * 35 + 34) = k * 35 + 34 by omega] at h34
  refine ⟨g, eia, hg0, hgh, ⟨_, h34⟩, fun o => ?_, fun sa sn sc => ⟨⟨fun i hi => ?_, fun _ => ⟨g, 0, eia, fun i hi => ?_⟩⟩, h.rest _ (fun b h1 h2 h3 => ?_)⟩⟩
  · rcases h.own.2 with ⟨e, _⟩ | ⟨g2, cap, cur, e, _, hrow, _⟩
    · rw [eia] at e; cases e
    · rw [eia] at e; cases e
      exact frozen_of_row _ _ o _ _ hrow
  · unfold setX; split
    · exact hp i hi
    · exact hp i hi
  · intro j u hv
    by_cases e : i = k
    · subst e
      simp only [setX, setS, if_true] at hv
      by_cases ej : j = 34
      · subst ej
        rw [til_34] at hv
        rw [show (0 + i * 35 + 34) = i * 35 + 34 by omega, World.cell?_setCell_same _ _ _ h34]
        exact hv
      · have hj : j < 35 := by have := (List.getElem?_eq_some_iff.1 hv).1; rwa [til_length] at this
        rw [til_low (t.X i) (q.S i).1 (q.S i).2 sn sa sc j (by omega)] at hv
        rw [World.cell?_setCell_other _ _ _ _ (fun e => by injection e with _ e2 _; omega)]
        exact hc i hi j u hv
    · simp only [setX, setS, if_neg e] at hv
      have hj : j < 35 := by have := (List.getElem?_eq_some_iff.1 hv).1; rwa [til_length] at this
      rw [World.cell?_setCell_other _ _ _ _ (fun e2 => by injection e2 with _ e3 _; omega)]
      exact hc i hi j u hv
  · rw [Below.heap_setCell _ _ _ _ (fun e => h3 (by rw [eia, e]; rfl))]
def txZ : Array Value := #[.int .i64 0, .slice none 0 0, .slice none 0 0]
/-- On the way: three new boxes, three given transactions. -/
structure SxW (t : Tc5) (v w : World) (a b c : Option Nat) (p q r : Option Gt) : Prop where
  below : Below v.heap.size v w
  bx : ∀ k, (a = some k ∨ b = some k ∨ c = some k) → w.heap[k]? = some (.cells txZ 35 (0, 0)) ∧ v.heap.size ≤ k
  ab : ∀ k l, a = some k → b = some l → k ≠ l
  ac : ∀ k l, a = some k → c = some l → k ≠ l
  bc : ∀ k l, b = some k → c = some l → k ≠ l
  iv : ∀ g, (p = some g ∨ q = some g ∨ r = some g) → TxIv w t g ∧ v.heap.size ≤ g.lo ∧ g.hi ≤ w.heap.size ∧ ∀ k, (a = some k ∨ b = some k ∨ c = some k) → k < g.lo ∨ g.hi ≤ k
  pq : ∀ g h, p = some g → q = some h → g.hi ≤ h.lo
  pr : ∀ g h, p = some g → r = some h → g.hi ≤ h.lo
  qr : ∀ g h, q = some g → r = some h → g.hi ≤ h.lo
variable {a b c : Option Nat} {P Q R : Option Gt} {k : Nat}
theorem SxW.init (t : Tc5) (v : World) : SxW t v v.drew none none none none none none :=
  ⟨(Below.refl _ _).drew, (fun _ h => by rcases h with h | h | h <;> cases h), (fun _ _ h => by cases h), (fun _ _ h => by cases h), (fun _ _ h => by cases h), (fun _ h => by rcases h with h | h | h <;> cases h), (fun _ _ h => by cases h), (fun _ _ h => by cases h), (fun _ _ h => by cases h)⟩
theorem SxW.keep (h : SxW t v w a b c P Q R) (hb : Below w.heap.size w w1) : SxW t v w1 a b c P Q R :=
  ⟨Below.transS h.below hb, fun k e => ⟨heap_below hb (h.bx k e).1, (h.bx k e).2⟩, h.ab, h.ac, h.bc, fun g e => by
    obtain ⟨h1, h2, h3, h4⟩ := h.iv g e
    exact ⟨h1.keep (fun k _ h6 => hb.block k (by omega)), h2, by have := hb.size; omega, h4⟩, h.pq, h.pr, h.qr⟩
theorem SxW.lt (h : SxW t v w a b c P Q R) : ∀ k, (a = some k ∨ b = some k ∨ c = some k) → k < w.heap.size := fun k e => lt_of_block (h.bx k e).1
theorem SxW.newA (h : SxW t v w none b c P Q R) (hk : w1.heap[k]? = some (.cells txZ 35 (0, 0))) (hl : w.heap.size ≤ k) (hb : Below w.heap.size w w1) : SxW t v w1 (some k) b c P Q R := by
  have h' := h.keep hb
  refine ⟨h'.below, fun l e => ?_, fun l m e1 e2 => ?_, fun l m e1 e2 => ?_, h'.bc, fun g e => ?_, h'.pq, h'.pr, h'.qr⟩
  · rcases e with e | e
    · cases e; exact ⟨hk, by have := h.below.size; omega⟩
    · exact h'.bx l (.inr e)
  · cases e1; have := h.lt m (.inr (.inl e2)); omega
  · cases e1; have := h.lt m (.inr (.inr e2)); omega
  · obtain ⟨h1, h2, h3, h4⟩ := h'.iv g e
    refine ⟨h1, h2, h3, fun l e2 => ?_⟩
    rcases e2 with e2 | e2
    · cases e2; have := (h.iv g e).2.2.1; omega
    · exact h4 l (.inr e2)
theorem SxW.newB (h : SxW t v w a none c P Q R) (hk : w1.heap[k]? = some (.cells txZ 35 (0, 0))) (hl : w.heap.size ≤ k) (hb : Below w.heap.size w w1) : SxW t v w1 a (some k) c P Q R := by
  have h' := h.keep hb
  refine ⟨h'.below, fun l e => ?_, fun l m e1 e2 => ?_, h'.ac, fun l m e1 e2 => ?_, fun g e => ?_, h'.pq, h'.pr, h'.qr⟩
  · rcases e with e | e | e
    · exact h'.bx l (.inl e)
    · cases e; exact ⟨hk, by have := h.below.size; omega⟩
    · exact h'.bx l (.inr (.inr e))
  · cases e2; have := h.lt l (.inl e1); omega
  · cases e1; have := h.lt m (.inr (.inr e2)); omega
  · obtain ⟨h1, h2, h3, h4⟩ := h'.iv g e
    refine ⟨h1, h2, h3, fun l e2 => ?_⟩
    rcases e2 with e2 | e2 | e2
    · exact h4 l (.inl e2)
    · cases e2; have := (h.iv g e).2.2.1; omega
    · exact h4 l (.inr (.inr e2))
theorem SxW.newC (h : SxW t v w a b none P Q R) (hk : w1.heap[k]? = some (.cells txZ 35 (0, 0))) (hl : w.heap.size ≤ k) (hb : Below w.heap.size w w1) : SxW t v w1 a b (some k) P Q R := by
  have h' := h.keep hb
  refine ⟨h'.below, fun l e => ?_, h'.ab, fun l m e1 e2 => ?_, fun l m e1 e2 => ?_, fun g e => ?_, h'.pq, h'.pr, h'.qr⟩
  · rcases e with e | e | e
    · exact h'.bx l (.inl e)
    · exact h'.bx l (.inr (.inl e))
    · cases e; exact ⟨hk, by have := h.below.size; omega⟩
  · cases e2; have := h.lt l (.inl e1); omega
  · cases e2; have := h.lt l (.inr (.inl e1)); omega
  · obtain ⟨h1, h2, h3, h4⟩ := h'.iv g e
    refine ⟨h1, h2, h3, fun l e2 => ?_⟩
    rcases e2 with e2 | e2 | e2
    · exact h4 l (.inl e2)
    · exact h4 l (.inr (.inl e2))
    · cases e2; have := (h.iv g e).2.2.1; omega
theorem SxW.new (h : SxW t v w a b c P Q R) (hg : TxIv w1 t g) (hlo : g.lo = w.heap.size) (hhi : g.hi = w1.heap.size) : TxIv w1 t g ∧ v.heap.size ≤ g.lo ∧ g.hi ≤ w1.heap.size ∧ ∀ k, (a = some k ∨ b = some k ∨ c = some k) → k < g.lo ∨ g.hi ≤ k :=
  ⟨hg, by have := h.below.size; omega, by omega, fun k e => .inl (by have := h.lt k e; omega)⟩
theorem SxW.giveP (h : SxW t v w a b c none none none) (hg : TxIv w1 t g) (hlo : g.lo = w.heap.size) (hhi : g.hi = w1.heap.size) (hb : Below w.heap.size w w1) : SxW t v w1 a b c (some g) none none := by
  have h' := h.keep hb
  refine ⟨h'.below, h'.bx, h'.ab, h'.ac, h'.bc, fun l e => ?_, (fun _ _ _ h => by cases h), (fun _ _ _ h => by cases h), (fun _ _ h => by cases h)⟩
  rcases e with e | e | e
  · cases e; exact h.new hg hlo hhi
  · cases e
  · cases e
theorem SxW.giveQ (h : SxW t v w a b c P none none) (hg : TxIv w1 t g) (hlo : g.lo = w.heap.size) (hhi : g.hi = w1.heap.size) (hb : Below w.heap.size w w1) : SxW t v w1 a b c P (some g) none := by
  have h' := h.keep hb
  refine ⟨h'.below, h'.bx, h'.ab, h'.ac, h'.bc, fun l e => ?_, fun l m e1 e2 => ?_, (fun _ _ _ h => by cases h), (fun _ _ _ h => by cases h)⟩
  · rcases e with e | e | e
    · exact h'.iv l (.inl e)
    · cases e; exact h.new hg hlo hhi
    · cases e
  · cases e2; have := (h.iv l (.inl e1)).2.2.1; omega
theorem SxW.giveR (h : SxW t v w a b c P Q none) (hg : TxIv w1 t g) (hlo : g.lo = w.heap.size) (hhi : g.hi = w1.heap.size) (hb : Below w.heap.size w w1) : SxW t v w1 a b c P Q (some g) := by
  have h' := h.keep hb
  refine ⟨h'.below, h'.bx, h'.ab, h'.ac, h'.bc, fun l e => ?_, h'.pq, fun l m e1 e2 => ?_, fun l m e1 e2 => ?_⟩
  · rcases e with e | e | e
    · exact h'.iv l (.inl e)
    · exact h'.iv l (.inr (.inl e))
    · cases e; exact h.new hg hlo hhi
  · cases e2; have := (h.iv l (.inl e1)).2.2.1; omega
  · cases e2; have := (h.iv l (.inr (.inl e1))).2.2.1; omega
def txvG (t : Tc5) (lk : Int) (g : Gt) : Array Value := txv lk g.ia t.n g.ic g.oa t.m g.oc
def txlG (t : Tc5) (lk : Int) (g : Gt) : List Value := txl lk g.ia t.n g.ic g.oa t.m g.oc
theorem txvG_one (t : Tc5) (lk : Int) (g : Gt) : (txvG t lk g).all (·.oneCell') = true := by simp [txvG, txv, Value.oneCell']
/-- Behind the stores. -/
structure SxQ (t : Tc5) (v w : World) (A B C : Nat) (lk : Int) (p q r : Gt) : Prop where
  below : Below v.heap.size v w
  pa : w.heap[A]? = some (.cells (txvG t t.lk p) 35 (0, 0))
  pb : w.heap[B]? = some (.cells (txvG t t.lk q) 35 (0, 0))
  pc : w.heap[C]? = some (.cells (txvG t lk r) 35 (0, 0)) ∧ v.heap.size ≤ C
  ne : A ≠ C ∧ B ≠ C
  iv : ∀ g, (g = p ∨ g = q ∨ g = r) → TxIv w t g ∧ v.heap.size ≤ g.lo ∧ ∀ k, (k = A ∨ k = B ∨ k = C) → k < g.lo ∨ g.hi ≤ k
  pq : p.hi ≤ q.lo
  qr : q.hi ≤ r.lo
theorem SxW.stored {w2 w3 : World} {A B C : Nat} (h : SxW t v w (some A) (some B) (some C) (some p) (some q) (some r))
    (hg1 : w1.heap[A]? = some (.cells (txvG t t.lk p) 35 (0, 0))) (hf1 : Frm [A] w w1)
    (hg2 : w2.heap[B]? = some (.cells (txvG t t.lk q) 35 (0, 0))) (hf2 : Frm [B] w1 w2)
    (hg3 : w3.heap[C]? = some (.cells (txvG t t.lk r) 35 (0, 0))) (hf3 : Frm [C] w2 w3) : SxQ t v w3 A B C t.lk p q r := by
  have hA := h.bx A (.inl rfl)
  have hB := h.bx B (.inr (.inl rfl))
  have hC := h.bx C (.inr (.inr rfl))
  have nab := h.ab A B rfl rfl
  have nac := h.ac A C rfl rfl
  have nbc := h.bc B C rfl rfl
  have b1 : Below v.heap.size v w1 := h.below.trans (hf1.below h.below.size (by simp; omega))
  have b2 : Below v.heap.size v w2 := b1.trans (hf2.below b1.size (by simp; omega))
  have b3 : Below v.heap.size v w3 := b2.trans (hf3.below b2.size (by simp; omega))
  refine ⟨b3, ?_, ?_, ⟨hg3, hC.2⟩, ⟨nac, nbc⟩, fun g e => ?_, h.pq p q rfl rfl, h.qr q r rfl rfl⟩
  · rw [hf3.block A (by have := lt_of_block hA.1; have := hf1.size; have := hf2.size; omega) (by simp; omega), hf2.block A (by have := lt_of_block hA.1; have := hf1.size; omega) (by simp; omega)]; exact hg1
  · rw [hf3.block B (by have := lt_of_block hB.1; have := hf1.size; have := hf2.size; omega) (by simp; omega)]; exact hg2
  · have e2 : some p = some g ∨ some q = some g ∨ some r = some g := by rcases e with e | e | e <;> simp [e]
    obtain ⟨h1, h2, h3, h4⟩ := h.iv g e2
    have o1 := h4 A (.inl rfl)
    have o2 := h4 B (.inr (.inl rfl))
    have o3 := h4 C (.inr (.inr rfl))
    refine ⟨h1.keep (fun k k1 k2 => ?_), h2, fun k e3 => ?_⟩
    · rw [hf3.block k (by have := hf1.size; have := hf2.size; omega) (by simp; omega), hf2.block k (by have := hf1.size; omega) (by simp; omega), hf1.block k (by omega) (by simp; omega)]
    · rcases e3 with rfl | rfl | rfl
      · exact o1
      · exact o2
      · exact o3
theorem SxQ.drew {A B C : Nat} {lk : Int} (h : SxQ t v w A B C lk p q r) : SxQ t v w.drew A B C lk p q r :=
  ⟨h.below.drew, h.pa, h.pb, h.pc, h.ne, fun g e => ⟨(h.iv g e).1.keep (fun _ _ _ => rfl), (h.iv g e).2⟩, h.pq, h.qr⟩
/-- The last one's Lock is another one. -/
theorem SxQ.lock {A B C : Nat} {lk : Int} (h : SxQ t v w A B C lk p q r) (lk' : Int) : SxQ t v (w.setCell ⟨C, 0, none⟩ (.int .i64 lk')) A B C lk' p q r := by
  have ho : ∀ k, k ≠ C → (w.setCell ⟨C, 0, none⟩ (.int .i64 lk')).heap[k]? = w.heap[k]? := fun k hk => Below.heap_setCell _ _ _ _ (by exact hk)
  refine ⟨h.below.setCell h.pc.2 _, by rw [ho A h.ne.1]; exact h.pa, by rw [ho B h.ne.2]; exact h.pb, ⟨heap_setCell_same w C 0 _ _ _ h.pc.1, h.pc.2⟩, h.ne, fun g e => ?_, h.pq, h.qr⟩
  obtain ⟨h1, h2, h3⟩ := h.iv g e
  exact ⟨h1.keep (fun k k1 k2 => ho k (by have := h3 C (.inr (.inr rfl)); omega)), h2, h3⟩
/-- What the end wants. -/
structure SxR (t : Tc5) (v w : World) (A B C : Nat) (lk : Int) (p q r : Gt) (X : Nat → Ti) (Z : Nat → Nat → Int) (S : Nat → Option Addr × Nat) : Prop where
  below : Below v.heap.size v w
  pa : w.rangeAt A 0 (txlG t t.lk p)
  pb : w.rangeAt B 0 (txlG t t.lk q)
  pc : w.rangeAt C 0 (txlG t lk r)
  xa : TxAt w t.lk t.n t.X t.Z t.m t.O p.ia p.oa p.S
  xb : TxAt w t.lk t.n X Z t.m t.O q.ia q.oa S
  xc : TxAt w lk t.n t.X t.Z t.m t.O r.ia r.oa r.S
theorem SxR.keep {A B C : Nat} {lk : Int} {X : Nat → Ti} {Z : Nat → Nat → Int} {S : Nat → Option Addr × Nat} (h : SxR t v w A B C lk p q r X Z S) (hb : Below w.heap.size w w1) : SxR t v w1 A B C lk p q r X Z S :=
  ⟨Below.transS h.below hb, range_below h.pa hb, range_below h.pb hb, range_below h.pc hb, h.xa.below hb, h.xb.below hb, h.xc.below hb⟩
theorem SxQ.end0 {A B C : Nat} {lk : Int} (h : SxQ t v w A B C lk p q r) (hp : ∀ k, k < t.n → Hb (t.X k).pt) (hz : ∀ k, k < t.n → (t.X k).sn ≤ 1000000) : SxR t v w A B C lk p q r t.X t.Z q.S :=
  ⟨h.below, txl_range h.pa, txl_range h.pb, txl_range h.pc.1, (h.iv p (.inl rfl)).1.tx hp hz, (h.iv q (.inr (.inl rfl))).1.tx hp hz, ⟨((h.iv r (.inr (.inr rfl))).1.tx hp hz).ti, ((h.iv r (.inr (.inr rfl))).1.tx hp hz).ou, ((h.iv r (.inr (.inr rfl))).1.tx hp hz).sc⟩⟩
/-- The second one's input k shows another secret. -/
theorem SxQ.end1 {A B C : Nat} {lk : Int} (h : SxQ t v w A B C lk p q r) (hp : ∀ k, k < t.n → Hb (t.X k).pt) (hz : ∀ k, k < t.n → (t.X k).sn ≤ 1000000) (hk : k < t.n) (sa : Option Addr) (sn sc : Nat) (z : Nat → Int) (hs : ∀ w' : World, Below v.heap.size v w' → SlAt w' sa sn z) (hsn : sn ≤ 1000000) :
    ∃ g, q.ia = some ⟨g, 0, none⟩ ∧ (∃ u, w.cell? ⟨g, k * 35 + 34, none⟩ = some u) ∧ (∀ o, w.frozen? ⟨g, o, none⟩ = false) ∧ SxR t v (w.setCell ⟨g, k * 35 + 34, none⟩ (.slice sa sn sc)) A B C lk p q r (setX t.X k sn) (setZ t.Z k z) (setS q.S k sa sc) := by
  obtain ⟨hq, hq1, hq2⟩ := h.iv q (.inr (.inl rfl))
  obtain ⟨hp0, hp1, hp2⟩ := h.iv p (.inl rfl)
  obtain ⟨hr0, hr1, hr2⟩ := h.iv r (.inr (.inr rfl))
  obtain ⟨g, eia, g1, g2, hc, hf, hset⟩ := hq.set hp hk
  refine ⟨g, eia, hc, hf, ?_⟩
  have ho : ∀ k', k' ≠ g → (w.setCell ⟨g, k * 35 + 34, none⟩ (.slice sa sn sc)).heap[k']? = w.heap[k']? := fun k' hk' => Below.heap_setCell _ _ _ _ (by exact hk')
  have hb : Below v.heap.size v (w.setCell ⟨g, k * 35 + 34, none⟩ (.slice sa sn sc)) := h.below.setCell (by show v.heap.size ≤ g; omega) _
  have hpx := h.pq
  have hqx := h.qr
  obtain ⟨s1, s2, s3⟩ := hset sa sn sc
  have kp := (hp0.keep (w' := w.setCell ⟨g, k * 35 + 34, none⟩ (.slice sa sn sc)) (fun k' _ h2 => ho k' (by omega))).tx hp hz
  have kr := (hr0.keep (w' := w.setCell ⟨g, k * 35 + 34, none⟩ (.slice sa sn sc)) (fun k' h2 _ => ho k' (by omega))).tx hp hz
  refine ⟨hb, txl_range (by rw [ho A (by have := hq2 A (.inl rfl); omega)]; exact h.pa), txl_range (by rw [ho B (by have := hq2 B (.inr (.inl rfl)); omega)]; exact h.pb), txl_range (by rw [ho C (by have := hq2 C (.inr (.inr rfl)); omega)]; exact h.pc.1), kp, ⟨s1, s2, fun i hi => ?_⟩, ⟨kr.ti, kr.ou, kr.sc⟩⟩
  by_cases e : i = k
  · subst e
    simp only [setX, setS, setZ, if_true]
    exact ⟨hs _ hb, hsn⟩
  · simp only [setX, setS, setZ, if_neg e]
    exact ⟨s3 i hi, hz i hi⟩
end
theorem bytes_neS {a b : ByteArray} (h : a ≠ b) : ¬ a.toList = b.toList := fun e => h (by
  rw [Lib.toList_data, Lib.toList_data] at e
  exact ByteArray.ext (Array.toList_inj.1 e))
theorem conv_rowS {w0 w : World} {v : Value} {L : List Int} (h : Ow w0 w v L) : (convert 57 9 v).run Tryz.prog w = .ok (.string (strB (fn L) L.length)) w := by
  obtain ⟨ad, cp, e, _, hs⟩ := h.sl
  rcases h.own.2 with ⟨e2, hl⟩ | ⟨g, cap, cur, e2, _⟩
  · rw [e2, hl]
    exact conv_any none 0 0 _ w (SlAt.zero _ _) (fun _ => ⟨rfl, rfl⟩)
  · rw [e] at e2
    cases e2
    rw [e]
    exact conv_any _ _ cp _ w hs (fun h => by cases h)
theorem wpAnyH_moreS {P : Program} {md : Region.Mode} {ops : Array Oper} {Q : Exit → Act → World → Prop} {S S' : World → Prop} (hS : ∀ w, S' w → S w) : ∀ (fuel : Nat) (listed : Array Bool) (a : Act) (w : World), wpAnyH P md ops Q S' fuel listed a w → wpAnyH P md ops Q S fuel listed a w
  | 0, _, _, _, h => h
  | fuel + 1, _, _, _, h => ⟨h.1, fun i hi => wpOp_mono (fun a' w' h' => ⟨hS w' h'.1, wpAnyH_moreS hS fuel _ a' w' h'.2⟩) (h.2 i hi)⟩
theorem name_any {P : Program} {md : Region.Mode} {ops : Array Oper} {Q : Exit → Act → World → Prop} {S : World → Prop} {n : Nat} {l : Array Bool} {a : Act} {w : World}
    (h : ∀ G : Nat → Array Bool → Act → World → Prop, (∀ n l a w, wpAnyH P md ops Q S n l a w → G n l a w) → (∀ n l a w, G n l a w → wpAnyH P md ops Q S n l a w) → G n l a w) : wpAnyH P md ops Q S n l a w := h _ (fun _ _ _ _ h => h) (fun _ _ _ _ h => h)
end Go.Proofs.YtanchjfodcjlmaaGreatDoor
/- What several texts share. -/
namespace Go.Proofs.YtanchjfodcjlmaaGreatDoor.Cd
open Go.RowKit

/-- How many of a row are below k, from its begin on. -/
def atK : List Int → Int → Nat
  | [], _ => 0
  | x :: r, k => if x < k then atK r k + 1 else 0
/-- k laid in where it belongs, if it is not there. -/
def insK (L : List Int) (k : Int) : List Int := if L.contains k then L else L.take (atK L k) ++ [k] ++ L.drop (atK L k)
def insL (z : Nat → Int) : Nat → List Int
  | 0 => []
  | i + 1 => insK (insL z i) (z i)

section
variable {ops : Array Oper} {rest : List Oper} {o : Oper} {a : Act} {w : World} {Q : Exit → Act → World → Prop}
end
section
variable {ops : Array Oper} {o : Oper} {a : Act} {w : World} {K : Act → World → Prop} {Q : Exit → Act → World → Prop} {E : Prop}
end

end Go.Proofs.YtanchjfodcjlmaaGreatDoor.Cd
/- Sorted and made single: what the program's All and the document's have in common. -/
namespace Go.Proofs.YtanchjfodcjlmaaGreatDoor.Cd
open Go.RowKit

/-- Ascending, each once. -/
def Asc (L : List Int) : Prop := L.Pairwise (· < ·)
theorem asc_ext {L M : List Int} (hL : Asc L) (hM : Asc M) (h : ∀ x, x ∈ L ↔ x ∈ M) : L = M := by
  induction L generalizing M with
  | nil =>
    cases M with
    | nil => rfl
    | cons y r => have := (h y).2 (by simp); simp at this
  | cons x l ih =>
    cases M with
    | nil => have := (h x).1 (by simp); simp at this
    | cons y r =>
      have hx := List.pairwise_cons.1 hL
      have hy := List.pairwise_cons.1 hM
      have e : x = y := by
        rcases List.mem_cons.1 ((h x).1 (by simp)) with e | e
        · exact e
        · rcases List.mem_cons.1 ((h y).2 (by simp)) with e2 | e2
          · exact e2.symm
          · have := hy.1 x e; have := hx.1 y e2; omega
      subst e
      rw [ih hx.2 hy.2 (fun z => ?_)]
      constructor
      · intro hz
        rcases List.mem_cons.1 ((h z).1 (List.mem_cons_of_mem _ hz)) with e | e
        · subst e; have := hx.1 z hz; omega
        · exact e
      · intro hz
        rcases List.mem_cons.1 ((h z).2 (List.mem_cons_of_mem _ hz)) with e | e
        · subst e; have := hy.1 z hz; omega
        · exact e
theorem insK_asc {L : List Int} (k : Int) (h : Asc L) : Asc (insK L k) ∧ ∀ x, x ∈ insK L k ↔ x ∈ L ∨ x = k := by
  induction L with
  | nil => simp [insK, Asc, atK]
  | cons y r ih =>
    have hy := List.pairwise_cons.1 h
    obtain ⟨i1, i2⟩ := ih hy.2
    by_cases hm : (y :: r).contains k = true
    · unfold insK
      rw [if_pos hm]
      refine ⟨h, fun x => ⟨.inl, fun hx => ?_⟩⟩
      rcases hx with hx | hx
      · exact hx
      · subst hx; simpa using hm
    · have hm0 : insK (y :: r) k = if y < k then y :: insK r k else k :: y :: r := by
        unfold insK
        rw [if_neg hm]
        have hmr : ¬ r.contains k = true := fun e => hm (by simp at e ⊢; exact .inr e)
        rw [if_neg hmr]
        simp only [atK]
        split <;> simp
      rw [hm0]
      have hne : y ≠ k := fun e => hm (by simp [e])
      split
      · rename_i hlt
        refine ⟨List.pairwise_cons.2 ⟨fun x hx => ?_, i1⟩, fun x => ?_⟩
        · rcases (i2 x).1 hx with h1 | h1
          · exact hy.1 x h1
          · rw [h1]; exact hlt
        · simp only [List.mem_cons, i2 x]
          constructor
          · rintro (h | h | h) <;> simp [h]
          · rintro ((h | h) | h) <;> simp [h]
      · rename_i hlt
        refine ⟨List.pairwise_cons.2 ⟨fun x hx => ?_, h⟩, fun x => ?_⟩
        · rcases List.mem_cons.1 hx with e | e
          · rw [e]; omega
          · have := hy.1 x e; omega
        · simp only [List.mem_cons]
          constructor
          · rintro (h | h | h) <;> simp [h]
          · rintro ((h | h) | h) <;> simp [h]
theorem insL_asc (z : Nat → Int) : ∀ n, Asc (insL z n) ∧ ∀ x, x ∈ insL z n ↔ x ∈ keysL z n
  | 0 => by simp [insL, Asc, keysL]
  | n + 1 => by
    obtain ⟨h1, h2⟩ := insL_asc z n
    obtain ⟨h3, h4⟩ := insK_asc (z n) h1
    refine ⟨h3, fun x => ?_⟩
    simp only [insL, h4 x, h2 x, keysL, List.range_succ, List.map_append, List.mem_append, List.map_cons, List.map_nil, List.mem_singleton]
theorem srt_sorted (l : List Int) : (srt l).Pairwise (· ≤ ·) := by
  have := List.pairwise_mergeSort (le := fun (x y : Int) => decide (x ≤ y)) (by intro a b c; simp; omega) (by intro a b; simp; omega) l
  simpa [srt] using this
theorem sorted_le {l : List Int} (h : l.Pairwise (· ≤ ·)) {i j : Nat} (hij : i ≤ j) (hj : j < l.length) : l.toArray[i]! ≤ l.toArray[j]! := by
  have hi : i < l.length := by omega
  rw [getElem!_pos _ i (by simpa using hi), getElem!_pos _ j (by simpa using hj)]
  rcases Nat.lt_or_eq_of_le hij with h1 | h1
  · exact List.pairwise_iff_getElem.1 h i j hi hj h1
  · subst h1; exact Int.le_refl _
theorem kept {l : List Int} : ∀ j, j < l.length → ∃ q, q ≤ j ∧ Lib.keeps l.toArray q = true ∧ l.toArray[q]! = l.toArray[j]!
  | 0, _ => ⟨0, Nat.le_refl _, Lib.keeps_lt_one _ 0 (by omega), rfl⟩
  | j + 1, h => by
    by_cases e : l.toArray[j + 1]! = l.toArray[j]!
    · obtain ⟨q, h1, h2, h3⟩ := kept (l := l) j (by omega)
      exact ⟨q, by omega, h2, by rw [h3, e]⟩
    · exact ⟨j + 1, Nat.le_refl _, Lib.keeps_pos (by simpa using e), rfl⟩
theorem comp_all (l : List Int) (h : l.Pairwise (· ≤ ·)) : Asc (Lib.compact l) ∧ ∀ x, x ∈ Lib.compact l ↔ x ∈ l := by
  refine ⟨?_, fun x => ⟨compact_mem, fun hx => ?_⟩⟩
  · unfold Asc Lib.compact Lib.compactUpTo
    rw [List.pairwise_map]
    have hr : (List.range l.length).Pairwise (· < ·) := List.pairwise_lt_range
    refine (hr.filter (Lib.keeps l.toArray)).imp_of_mem (fun {a b} ha hb hab => ?_)
    have hb1 := List.mem_filter.1 hb
    have hbl : b < l.length := List.mem_range.1 hb1.1
    have hne : l.toArray[b]! ≠ l.toArray[b - 1]! := fun e => by
      have := Lib.keeps_neg (by omega) e
      rw [this] at hb1
      exact absurd hb1.2 (by simp)
    have h1 := sorted_le h (show a ≤ b - 1 by omega) (by omega)
    have h2 := sorted_le h (show b - 1 ≤ b by omega) hbl
    omega
  · obtain ⟨j, hj, rfl⟩ := List.mem_iff_getElem.1 hx
    obtain ⟨q, h1, h2, h3⟩ := kept j hj
    unfold Lib.compact Lib.compactUpTo
    refine List.mem_map.2 ⟨q, List.mem_filter.2 ⟨List.mem_range.2 (by omega), h2⟩, ?_⟩
    show l.toArray[q]! = l[j]
    rw [h3, getElem!_pos _ j (by simpa using hj)]
    simp
theorem all_same (z : Nat → Int) (n : Nat) : Lib.compact (srt (keysL z n)) = insL z n := by
  obtain ⟨h1, h2⟩ := comp_all _ (srt_sorted (keysL z n))
  obtain ⟨h3, h4⟩ := insL_asc z n
  refine asc_ext h1 h3 (fun x => ?_)
  rw [h2 x, h4 x]
  simp [srt]
end Go.Proofs.YtanchjfodcjlmaaGreatDoor.Cd
/- cond.All of no ints. -/
namespace Go.Proofs.YtanchjfodcjlmaaGreatDoor.Cd
open Go.RowKit Go.Shelf Go.Sort

theorem clone_zero (ad : Option Addr) (cap : Nat) (w : World) :
    Calls Tryz.prog 43 #[.slice ad 0 cap] w fun e w' => ∃ ga c', e = .returned (.slice ga 0 c') ∧ (∀ a, ga = some a → w.heap.size ≤ a.block) ∧ Below w.heap.size w w' := by
  cases ad with
  | none =>
    have hcon := Any.slices_Clone_int_nil Tryz.lClone 0 cap w
    change Calls Tryz.prog 43 _ _ _ at hcon
    refine hcon.mono ?_
    rintro e w' ⟨rfl, rfl⟩
    exact ⟨none, 0, rfl, fun a h => (by cases h), Below.refl _ _⟩
  | some a =>
    have hcon := Any.slices_Clone_int_zero Tryz.lClone a cap w
    change Calls Tryz.prog 43 _ _ _ at hcon
    refine hcon.mono ?_
    rintro e w' ⟨v', rfl, hown, hne, hb⟩
    rcases hown.2 with ⟨e, _⟩ | ⟨g, c', cur, rfl, hg, _⟩
    · exact absurd e hne
    · exact ⟨_, c', rfl, fun a h => by cases h; exact hg, hb⟩

set_option maxRecDepth 100000 in
set_option maxHeartbeats 1600000 in
theorem all_zeroI (ad : Option Addr) (cap : Nat) (w : World) :
    Calls Tryz.prog 24 #[.slice ad 0 cap] w fun e w' => ∃ g, e = .returned (.agg #[.slice (some ⟨g, 0, none⟩) 1 1]) ∧ BrIn w' w.heap.size (some ⟨g, 0, none⟩) 1 (fun _ => kb []) ∧ Below w.heap.size w w' := by
  have HOK : (kb []).Ok := kb_ok (fun x h => by cases h)
  have hb0 : Below w.heap.size w (w.alloc (.cells #[.slice none 0 0] 76)) := (Below.refl _ w).alloc (Nat.le_refl _) _
  have hr0 : (w.alloc (.cells #[.slice none 0 0] 76)).heap[w.heap.size]? = some (.cells #[.slice none 0 0] 76 (0, 0)) := heap_alloc_new w _
  have hc := clone_zero ad cap (w.alloc (.cells #[.slice none 0 0] 76))
  have hs0 : w.heap.size < (w.alloc (.cells #[.slice none 0 0] 76)).heap.size := by simp
  go_enter Tryz.func24, Tryz.ntmps24
  go_wp2_with fail
  generalize w.alloc (.cells #[.slice none 0 0] 76) = W0 at *
  refine hc.mono ?_
  rintro e w3 ⟨ga, cap1, rfl, hga, hbw⟩
  clear hc
  have hsort := Any.slices_Sort_int_none Tryz.lSort ga cap1 w3
  change Calls Tryz.prog 44 _ _ _ at hsort
  have hcom := Any.slices_Compact_int_empty Tryz.lCompact ga cap1 w3
  change Calls Tryz.prog 45 _ _ _ at hcom
  have hr3 : w3.heap[w.heap.size]? = some (.cells #[.slice none 0 0] 76 (0, 0)) := by rw [hbw.block _ hs0]; exact hr0
  have hlt := hbw.size
  have hn4 := heap_alloc_new w3 (.cells (bv (kb []) ga cap1) 101)
  have hb4 : Below w3.heap.size w3 (w3.alloc (.cells (bv (kb []) ga cap1) 101)) := (Below.refl _ _).alloc (Nat.le_refl _) _
  have hr4 : (w3.alloc (.cells (bv (kb []) ga cap1) 101)).heap[w.heap.size]? = some (.cells #[.slice none 0 0] 76 (0, 0)) := by rw [hb4.block _ (by omega)]; exact hr3
  have c4 : (w3.alloc (.cells (bv (kb []) ga cap1) 101)).cell? ⟨w.heap.size, 0, none⟩ = some (.slice none 0 0) := by rw [cell_of_row _ _ 0 _ _ _ hr4]; rfl
  have f4 : (w3.alloc (.cells (bv (kb []) ga cap1) 101)).frozen? ⟨w.heap.size, 0, none⟩ = false := frozen_of_row _ _ 0 _ _ hr4
  have HE : Hid (((w3.alloc (.cells (bv (kb []) ga cap1) 101)).setCell ⟨w.heap.size, 0, none⟩ (.slice (some ⟨w3.heap.size, 0, none⟩) 1 1)).heap[w.heap.size]? = some (.cells #[.slice (some ⟨w3.heap.size, 0, none⟩) 1 1] 76 (0, 0))
      ∧ BrIn ((w3.alloc (.cells (bv (kb []) ga cap1) 101)).setCell ⟨w.heap.size, 0, none⟩ (.slice (some ⟨w3.heap.size, 0, none⟩) 1 1)) w.heap.size (some ⟨w3.heap.size, 0, none⟩) 1 (fun _ => kb [])
      ∧ Below w.heap.size w ((w3.alloc (.cells (bv (kb []) ga cap1) 101)).setCell ⟨w.heap.size, 0, none⟩ (.slice (some ⟨w3.heap.size, 0, none⟩) 1 1))) := by
    refine ⟨heap_setCell_same _ _ 0 _ _ _ hr4, fun w' hw => ⟨fun _ _ => HOK, fun _ => ⟨w3.heap.size, 0, rfl, fun i hi => ⟨ga, cap1, fun j u hu => ?_, fun h => by cases h⟩⟩⟩, ?_⟩
    · obtain rfl : i = 0 := by omega
      rw [World.cell?_of_block (a := ⟨w3.heap.size, 0 + 0 * 35 + j, none⟩) (hw w3.heap.size (by omega) (by simp [World.setCell])), World.cell?_of_block (a := ⟨w3.heap.size, 0 + 0 * 35 + j, none⟩) (Below.heap_setCell _ _ _ _ (by show w3.heap.size ≠ w.heap.size; omega)), cell_of_row _ _ _ _ _ _ hn4]
      simpa [bv] using hu
    · exact ((hb0.trans (hbw.mono (by omega))).trans (hb4.mono (by omega))).setCell (Nat.le_refl _) _
  clear hn4 hr4 hr3 hb4 hbw hb0 hga
  go_wp2_with fail
  refine hsort.mono ?_
  rintro e w4 ⟨rfl, rfl⟩
  go_wp2_with fail
  refine hcom.mono ?_
  rintro e w5 ⟨rfl, rfl⟩
  clear hsort hcom
  go_wp2_with (first | (refine wpList_buildB rfl _ rfl [] ga cap1 rfl ?_) | (refine wpList_sliceB rfl _ rfl (kb []) ga cap1 rfl ?_) | fail)
  exact bodyPost_ret (results_cell_row Tryz.results24 _ _ w.heap.size 76 #[.slice (some ⟨_, 0, none⟩) 1 1] (0, 0) _ rfl HE.out.1 Tryz.underlying76 rfl szC) rfl ⟨_, rfl, HE.out.2⟩
theorem all_zero (ad : Option Addr) (cap : Nat) (w : World) :
    Calls Tryz.prog 24 #[.slice ad 0 cap] w fun e w' => ∃ g, e = .returned (.agg #[.slice (some ⟨g, 0, none⟩) 1 1]) ∧ BrAt w' (some ⟨g, 0, none⟩) 1 (fun _ => kb []) ∧ Below w.heap.size w w' := by
  refine (all_zeroI ad cap w).mono ?_
  rintro e w' ⟨g, rfl, h1, h2⟩
  exact ⟨g, rfl, h1.brAt, h2⟩
/-- All of whatever ints, in blocks of its own. -/
theorem all_in (ad : Option Addr) (n cap : Nat) (z : Nat → Int) (w : World) (hI : IsAt w ad n z) (hz : ∀ j, j < n → Ib (z j)) (hn : n ≤ 1000000) :
    Calls Tryz.prog 24 #[.slice ad n cap] w fun e w' => ∃ g, e = .returned (.agg #[.slice (some ⟨g, 0, none⟩) 1 1]) ∧ BrIn w' w.heap.size (some ⟨g, 0, none⟩) 1 (fun _ => kb (insL z n)) ∧ Below w.heap.size w w' := by
  rcases Nat.eq_zero_or_pos n with h0 | hp
  · subst h0
    exact all_zeroI ad cap w
  · obtain ⟨b, off, rfl, hc⟩ := hI hp
    rw [← all_same]
    exact all_posI b off n cap z w hc hz hn
/-- All of whatever ints. -/
theorem all_any (ad : Option Addr) (n cap : Nat) (z : Nat → Int) (w : World) (hI : IsAt w ad n z) (hz : ∀ j, j < n → Ib (z j)) (hn : n ≤ 1000000) :
    Calls Tryz.prog 24 #[.slice ad n cap] w fun e w' => ∃ g, e = .returned (.agg #[.slice (some ⟨g, 0, none⟩) 1 1]) ∧ BrAt w' (some ⟨g, 0, none⟩) 1 (fun _ => kb (insL z n)) ∧ Below w.heap.size w w' := by
  rcases Nat.eq_zero_or_pos n with h0 | hp
  · subst h0
    exact all_zero ad cap w
  · obtain ⟨b, off, rfl, hc⟩ := hI hp
    rw [← all_same]
    exact all_pos b off n cap z w hc hz hn
end Go.Proofs.YtanchjfodcjlmaaGreatDoor.Cd
