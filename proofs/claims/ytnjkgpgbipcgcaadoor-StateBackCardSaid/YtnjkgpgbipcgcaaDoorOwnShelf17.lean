/- BLAKE2s on plain numbers: the step G, a round, a block taken in. -/

namespace Go.Proofs.YtnjkgpgbipcgcaaDoor

def addW (a b : Nat) : Nat := (a + b) % 4294967296
/-- x turned right by n bits. -/
def ror (n x : Nat) : Nat := (x <<< (32 - n)) % 4294967296 ||| (x >>> n)
def xorW (a b : Nat) : Nat := a ^^^ b
theorem addW_lt (a b : Nat) : addW a b < 4294967296 := Nat.mod_lt _ (by decide)
theorem xorW_lt {a b : Nat} (ha : a < 4294967296) (hb : b < 4294967296) : xorW a b < 4294967296 := Nat.xor_lt_two_pow (n := 32) ha hb
theorem ror_lt {n x : Nat} (hx : x < 4294967296) : ror n x < 4294967296 := by
  refine Nat.or_lt_two_pow (n := 32) (Nat.mod_lt _ (by decide)) ?_
  rw [Nat.shiftRight_eq_div_pow]
  exact Nat.lt_of_le_of_lt (Nat.div_le_self _ _) hx

structure Four where
  a : Nat
  b : Nat
  c : Nat
  d : Nat
/-- The step G: its two halves. -/
def half (r s : Nat) (q : Four) (x : Nat) : Four :=
  ⟨addW q.a (addW q.b x), ror s (xorW q.b (addW q.c (ror r (xorW q.d (addW q.a (addW q.b x)))))), addW q.c (ror r (xorW q.d (addW q.a (addW q.b x)))), ror r (xorW q.d (addW q.a (addW q.b x)))⟩
def gF (q : Four) (x y : Nat) : Four := half 8 7 (half 16 12 q x) y
/-- Four words, each of 32 bits. -/
def Four.Ok (q : Four) : Prop := q.a < 4294967296 ∧ q.b < 4294967296 ∧ q.c < 4294967296 ∧ q.d < 4294967296
theorem half_ok {r s : Nat} {q : Four} {x : Nat} (h : q.Ok) : (half r s q x).Ok := by
  obtain ⟨_, hb, _, hd⟩ := h
  have h1 : ror r (xorW q.d (addW q.a (addW q.b x))) < 4294967296 := ror_lt (xorW_lt hd (addW_lt _ _))
  exact ⟨addW_lt _ _, ror_lt (xorW_lt hb (addW_lt _ _)), addW_lt _ _, h1⟩
theorem gF_ok {q : Four} {x y : Nat} (h : q.Ok) : (gF q x y).Ok := half_ok (half_ok h)

/-- Words, each of 32 bits. -/
def Wd (n : Nat) (v : List Nat) : Prop := v.length = n ∧ ∀ i, v.getD i 0 < 4294967296
def four (v : List Nat) (a b c d : Nat) : Four := ⟨v.getD a 0, v.getD b 0, v.getD c 0, v.getD d 0⟩
def setF (v : List Nat) (a b c d : Nat) (q : Four) : List Nat := (((v.set a q.a).set b q.b).set c q.c).set d q.d
/-- G on four of the words. -/
def gAt (m : List Nat) (s : List Nat) (a b c d i j : Nat) (v : List Nat) : List Nat := setF v a b c d (gF (four v a b c d) (m.getD (s.getD i 0) 0) (m.getD (s.getD j 0) 0))
theorem Wd.set {n : Nat} {v : List Nat} (h : Wd n v) (i : Nat) {x : Nat} (hx : x < 4294967296) : Wd n (v.set i x) := by
  refine ⟨by simp [h.1], fun k => ?_⟩
  have := h.2 k
  rw [List.getD_eq_getElem?_getD] at this ⊢
  rw [List.getElem?_set]
  split
  · split
    · simpa using hx
    · simp
  · exact this
theorem setF_ok {n : Nat} {v : List Nat} (h : Wd n v) (a b c d : Nat) {q : Four} (hq : q.Ok) : Wd n (setF v a b c d q) :=
  (((h.set a hq.1).set b hq.2.1).set c hq.2.2.1).set d hq.2.2.2
theorem four_ok {n : Nat} {v : List Nat} (h : Wd n v) (a b c d : Nat) : (four v a b c d).Ok := ⟨h.2 a, h.2 b, h.2 c, h.2 d⟩
theorem gAt_ok {n : Nat} {v : List Nat} (m s : List Nat) (a b c d i j : Nat) (h : Wd n v) : Wd n (gAt m s a b c d i j v) := setF_ok h a b c d (gF_ok (four_ok h a b c d))
/-- A round. -/
def roundF (m s v : List Nat) : List Nat :=
  gAt m s 3 4 9 14 14 15 (gAt m s 2 7 8 13 12 13 (gAt m s 1 6 11 12 10 11 (gAt m s 0 5 10 15 8 9 (gAt m s 3 7 11 15 6 7 (gAt m s 2 6 10 14 4 5 (gAt m s 1 5 9 13 2 3 (gAt m s 0 4 8 12 0 1 v)))))))
theorem roundF_ok {n : Nat} {v : List Nat} (m s : List Nat) (h : Wd n v) : Wd n (roundF m s v) := by
  unfold roundF
  exact gAt_ok m s _ _ _ _ _ _ (gAt_ok m s _ _ _ _ _ _ (gAt_ok m s _ _ _ _ _ _ (gAt_ok m s _ _ _ _ _ _ (gAt_ok m s _ _ _ _ _ _ (gAt_ok m s _ _ _ _ _ _ (gAt_ok m s _ _ _ _ _ _ (gAt_ok m s _ _ _ _ _ _ h)))))))

/-- Bytes. -/
def By (n : Nat) (b : List Nat) : Prop := b.length = n ∧ ∀ i, b.getD i 0 < 256
/-- No word but 0; the words of a block's first i bytes, of each the lowest byte first. -/
def z16 : List Nat := List.replicate 16 0
def mP (b : List Nat) : Nat → List Nat
  | 0 => z16
  | i + 1 => (mP b i).set (i / 4) ((mP b i).getD (i / 4) 0 ||| (b.getD i 0 <<< (8 * (i % 4))))
theorem shl_lt {x r : Nat} (hx : x < 256) (hr : r < 4) : x <<< (8 * r) < 4294967296 := by
  rw [Nat.shiftLeft_eq]
  have : 2 ^ (8 * r) ≤ 2 ^ 24 := Nat.pow_le_pow_right (by decide) (by omega)
  have h2 : x * 2 ^ (8 * r) ≤ 255 * 2 ^ 24 := Nat.mul_le_mul (by omega) this
  omega
theorem mP_ok {b : List Nat} (hb : ∀ i, b.getD i 0 < 256) : ∀ i, Wd 16 (mP b i)
  | 0 => ⟨rfl, fun k => by
      have : (List.replicate 16 0).getD k 0 = 0 := by
        rw [List.getD_eq_getElem?_getD, List.getElem?_replicate]; split <;> rfl
      show z16.getD k 0 < _
      unfold z16
      rw [this]; decide⟩
  | i + 1 => (mP_ok hb i).set _ (Nat.or_lt_two_pow (n := 32) ((mP_ok hb i).2 _) (shl_lt (hb i) (Nat.mod_lt _ (by decide))))
end Go.Proofs.YtnjkgpgbipcgcaaDoor
