/- BLAKE2s on plain numbers: bytes fed one by one, the sum; cut anyhow, the same. -/
import Derived.Test.YtnjkgpgbipcgcaaDoorOwnShelf23
namespace Go.Proofs.YtnjkgpgbipcgcaaDoor

/-- A sum under way: its words, how many bytes were taken in, those that wait. -/
structure Sm where
  h : List Nat
  t : Nat
  b : List Nat
def feed1 (s : Sm) (x : Nat) : Sm := if s.b.length = 64 then ⟨cF s.h s.b (s.t + 64) false, s.t + 64, [x]⟩ else ⟨s.h, s.t, s.b ++ [x]⟩
def feed (s : Sm) (l : List Nat) : Sm := l.foldl feed1 s
theorem feed_nil (s : Sm) : feed s [] = s := rfl
theorem feed_cons (s : Sm) (x : Nat) (l : List Nat) : feed s (x :: l) = feed (feed1 s x) l := rfl
theorem feed_append (s : Sm) (l r : List Nat) : feed s (l ++ r) = feed (feed s l) r := List.foldl_append
/-- There is room for all. -/
theorem feed_room (h : List Nat) (t : Nat) : ∀ (l b : List Nat), b.length + l.length ≤ 64 → feed ⟨h, t, b⟩ l = ⟨h, t, b ++ l⟩
  | [], b, _ => by simp [feed]
  | x :: l, b, hl => by
    simp only [List.length_cons] at hl
    rw [feed_cons]
    have : feed1 ⟨h, t, b⟩ x = ⟨h, t, b ++ [x]⟩ := if_neg (by show ¬ b.length = 64; omega)
    rw [this, feed_room h t l (b ++ [x]) (by simp; omega)]
    simp
/-- A block is full: it is taken in first. -/
theorem feed_full (h : List Nat) (t : Nat) (b l : List Nat) (hb : b.length = 64) (hl : 0 < l.length) (hl2 : l.length ≤ 64) : feed ⟨h, t, b⟩ l = ⟨cF h b (t + 64) false, t + 64, l⟩ := by
  cases l with
  | nil => simp at hl
  | cons x l =>
    rw [feed_cons]
    have : feed1 ⟨h, t, b⟩ x = ⟨cF h b (t + 64) false, t + 64, [x]⟩ := if_pos hb
    rw [this, feed_room _ _ l [x] (by simp at hl2 ⊢; omega)]
    simp
/-- The sum's bytes. -/
def leP (h : List Nat) (j : Nat) : Nat := (h.getD (j / 4) 0 >>> (8 * (j % 4))) % 256
def endL (h : List Nat) : List Nat := (List.range 32).map (leP h)
def pad (b : List Nat) : List Nat := b ++ List.replicate (64 - b.length) 0
def sumS (s : Sm) : List Nat := endL (cF s.h (pad s.b) (s.t + s.b.length) true)
/-- The words as they are begun under a key of n bytes; the sum begun. -/
def h0 (n : Nat) : List Nat := firstL.set 0 (xorW (firstL.getD 0 0) (xorW 16842784 (n * 256 % 4294967296)))
def new0 (k : List Nat) : Sm := if k.length = 0 then ⟨h0 0, 0, []⟩ else ⟨h0 k.length, 0, pad k⟩
/-- The sum of bytes under a key, and under none. -/
def keyedF (k b : List Nat) : List Nat := sumS (feed (new0 k) b)
def sumF (b : List Nat) : List Nat := keyedF [] b
theorem pad_len {b : List Nat} (h : b.length ≤ 64) : (pad b).length = 64 := by simp [pad]; omega
theorem getD_append_lt {a b : List Nat} {i : Nat} (ha : ∀ i, a.getD i 0 < 256) (hb : ∀ i, b.getD i 0 < 256) : (a ++ b).getD i 0 < 256 := by
  rw [List.getD_eq_getElem?_getD, List.getElem?_append]
  split
  · simpa [List.getD_eq_getElem?_getD] using ha i
  · simpa [List.getD_eq_getElem?_getD] using hb (i - a.length)
theorem zeros_lt (n i : Nat) : (List.replicate n 0).getD i 0 < 256 := by
  rw [List.getD_eq_getElem?_getD, List.getElem?_replicate]; split <;> decide
theorem pad_by {b : List Nat} (h : b.length ≤ 64) (hb : ∀ i, b.getD i 0 < 256) : By 64 (pad b) := ⟨pad_len h, fun _ => getD_append_lt hb (zeros_lt _)⟩
theorem h0_ok (n : Nat) : Wd 8 (h0 n) := firstL_ok.set 0 (xorW_lt (firstL_ok.2 0) (xorW_lt (by decide) (Nat.mod_lt _ (by decide))))
/-- What holds of a sum under way. -/
structure Sm.Ok (s : Sm) : Prop where
  h : Wd 8 s.h
  l : s.b.length ≤ 64
  b : ∀ i, s.b.getD i 0 < 256
theorem new0_ok {k : List Nat} (hk : k.length ≤ 32) (hb : ∀ i, k.getD i 0 < 256) : (new0 k).Ok := by
  unfold new0
  split
  · exact ⟨h0_ok 0, by simp, by simp⟩
  · exact ⟨h0_ok _, by rw [pad_len (by omega)]; omega, (pad_by (by omega) hb).2⟩
theorem feed1_ok {s : Sm} {x : Nat} (hs : s.Ok) (hx : x < 256) : (feed1 s x).Ok := by
  have h1 : ∀ i, ([x] : List Nat).getD i 0 < 256 := fun i => by cases i <;> simp [hx]
  unfold feed1
  split
  · exact ⟨cF_ok hs.h _ _, by simp, h1⟩
  · exact ⟨hs.h, by have := hs.l; simp; omega, fun _ => getD_append_lt hs.b h1⟩
theorem feed_ok : ∀ (l : List Nat) (s : Sm), s.Ok → (∀ i, l.getD i 0 < 256) → (feed s l).Ok
  | [], _, hs, _ => hs
  | x :: l, s, hs, hl => feed_ok l _ (feed1_ok hs (by simpa using hl 0)) (fun i => by simpa using hl (i + 1))
theorem feed1_t {s : Sm} {x : Nat} : (feed1 s x).t + (feed1 s x).b.length = s.t + s.b.length + 1 := by
  unfold feed1
  split
  · simp; omega
  · simp; omega
/-- How many bytes it has. -/
theorem feed_t : ∀ (l : List Nat) (s : Sm), (feed s l).t + (feed s l).b.length = s.t + s.b.length + l.length
  | [], s => by simp [feed]
  | x :: l, s => by rw [feed_cons, feed_t l, feed1_t]; simp; omega
theorem endL_len (h : List Nat) : (endL h).length = 32 := by simp [endL]
theorem endL_lt (h : List Nat) (i : Nat) : (endL h).getD i 0 < 256 := by
  simp only [endL, List.getD_eq_getElem?_getD, List.getElem?_map]
  cases (List.range 32)[i]? with
  | none => simp
  | some j => exact Nat.mod_lt _ (by decide)
end Go.Proofs.YtnjkgpgbipcgcaaDoor
