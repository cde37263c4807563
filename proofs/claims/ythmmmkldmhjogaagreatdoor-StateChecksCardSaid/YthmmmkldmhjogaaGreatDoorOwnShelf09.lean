/- Bytes that lie somewhere; bytes cloned; sums copied. (Parts of Num, Kit, Clone and HashKit, beside OKit.) -/
import Derived.Test.YthmmmkldmhjogaaGreatDoorOwnShelf01
import Derived.Test.YthmmmkldmhjogaaGreatDoorOwnShelf08
import Derived.WalkKit
import Derived.WalkSpells
import Derived.WalkLawsBesides
import Derived.Maps.AppendAt
import Derived.Laws.CopyOwn
import Derived.Deep.MidRow
import Derived.Stop.BytesEq
import Derived.Deep.QuietTactic
import Derived.BigQuiet
namespace Go.Proofs.YthmmmkldmhjogaaGreatDoor
open Go.RowKit
/-- The n bytes z lie at an address. -/
def SlAt (w : World) (ad : Option Addr) (n : Nat) (z : Nat → Int) : Prop :=
 (∀ j, j < n → 0 ≤ z j ∧ z j ≤ 255) ∧ (0 < n → ∃ b off, ad = some ⟨b, off, none⟩ ∧ ∀ j, j < n → w.cell? ⟨b, off + j, none⟩ = some (.int .u8 (z j)))

theorem SlAt.drewN {w : World} {ad : Option Addr} {n : Nat} {z : Nat → Int} (h : SlAt w ad n z) (q : Nat) : SlAt (w.drewN q) ad n z := by
 refine ⟨h.1, fun hn => ?_⟩
 obtain ⟨b, off, e, hc⟩ := h.2 hn
 exact ⟨b, off, e, fun j hj => by simpa using hc j hj⟩

/-- 'b[1:]'. -/
theorem SlAt.tail {w : World} {b off n cap : Nat} {z : Nat → Int} (hz : ∀ j, j < n → 0 ≤ z j ∧ z j ≤ 255) (hc : ∀ j, j < n → w.cell? ⟨b, off + j, none⟩ = some (.int .u8 (z j))) (hlc : n ≤ cap) :
  SlAt w (if cap = 1 then some ⟨b, off, none⟩ else some ⟨b, off + 1, none⟩) (n - 1) (fun j => z (j + 1)) := by
 refine ⟨fun j hj => hz _ (by omega), fun hn => ?_⟩
 rw [if_neg (by omega)]
 exact ⟨b, off + 1, rfl, fun j hj => by rw [show off + 1 + j = off + (j + 1) from by omega]; exact hc (j + 1) (by omega)⟩
theorem SlAt.block {w w' : World} {ad : Option Addr} {n : Nat} {z : Nat → Int} (h : SlAt w ad n z) (hb : ∀ b off, 0 < n → ad = some ⟨b, off, none⟩ → w'.heap[b]? = w.heap[b]?) : SlAt w' ad n z := by
 refine ⟨h.1, fun hn => ?_⟩
 obtain ⟨b, off, e, hc⟩ := h.2 hn
 refine ⟨b, off, e, fun j hj => ?_⟩
 rw [World.cell?_of_block (hb b off hn e)]
 exact hc j hj
theorem SlAt.frm {S : List Nat} {w w' : World} {ad : Option Addr} {n : Nat} {z : Nat → Int} (h : SlAt w ad n z) (hf : Frm S w w') (hs : ∀ b off, 0 < n → ad = some ⟨b, off, none⟩ → b ∉ S) : SlAt w' ad n z := by
 refine ⟨h.1, fun hn => ?_⟩
 obtain ⟨b, off, e, hc⟩ := h.2 hn
 refine ⟨b, off, e, fun j hj => ?_⟩
 have hlt : b < w.heap.size := World.block_lt_of_cell? w ⟨b, off + j, none⟩ (hc j hj)
 rw [World.cell?_of_block (a := ⟨b, off + j, none⟩) (hf.block b hlt (hs b off hn e))]
 exact hc j hj
theorem SlAt.lt {w : World} {ad : Option Addr} {n : Nat} {z : Nat → Int} (h : SlAt w ad n z) {b off : Nat} (hn : 0 < n) (e : ad = some ⟨b, off, none⟩) : b < w.heap.size := by
 obtain ⟨b', off', e', hc⟩ := h.2 hn
 rw [e] at e'; cases e'
 exact World.block_lt_of_cell? w ⟨b, off + 0, none⟩ (hc 0 hn)
/-- 'b[k:]'. -/
theorem SlAt.drop {w : World} {ad : Option Addr} {n k : Nat} {z : Nat → Int} (h : SlAt w ad n z) : SlAt w (Option.map (fun x => x.add k) ad) (n - k) (fun j => z (j + k)) := by
 refine ⟨fun j hj => h.1 _ (by omega), fun hn => ?_⟩
 obtain ⟨b, off, e, hc⟩ := h.2 (by omega)
 refine ⟨b, off + k, by rw [e]; simp [Addr.add_lit], fun j hj => ?_⟩
 rw [show off + k + j = off + (j + k) from by omega]
 exact hc (j + k) (by omega)
theorem SlAt.zero {w : World} (ad : Option Addr) (z : Nat → Int) : SlAt w ad 0 z := ⟨fun j hj => by omega, fun h => by omega⟩
theorem SlAt.congr {w : World} {ad : Option Addr} {n : Nat} {z y : Nat → Int} (h : SlAt w ad n z) (he : ∀ j, j < n → z j = y j) : SlAt w ad n y := by
 refine ⟨fun j hj => by rw [← he j hj]; exact h.1 j hj, fun hn => ?_⟩
 obtain ⟨b, off, e, hc⟩ := h.2 hn
 exact ⟨b, off, e, fun j hj => by rw [← he j hj]; exact hc j hj⟩
/-- Bytes lie in no block of two cells of which none is a byte. -/
theorem SlAt.ne_two {w : World} {ad : Option Addr} {n : Nat} {z : Nat → Int} (h : SlAt w ad n z) {rb : Nat} {a' : Option Addr} {n' cap' : Nat} {er : Int} {t : TypeId}
  (hr : w.heap[rb]? = some (.cells #[.slice a' n' cap', errV er] t (0, 0))) {b off : Nat} (hn : 0 < n) (e : ad = some ⟨b, off, none⟩) : b ≠ rb := by
 intro hbr
 subst hbr
 obtain ⟨b', off', e', hc⟩ := h.2 hn
 rw [e] at e'; cases e'
 have h0 := hc 0 hn
 rw [World.cell?, hr] at h0
 match off, h0 with
 | 0, h0 => simp at h0
 | 1, h0 => simp [errV] at h0; split at h0 <;> simp at h0
 | o + 2, h0 => simp at h0
theorem Tryz.infoB : (Tryz.prog.info? 5).map (fun i => (i.zero, i.size, i.bytes)) = some (some (.int .u8 0), 1, 1) := by kernel_rfl
theorem bl_cells {w : World} {b off n : Nat} {z : Nat → Int} (hc : ∀ j, j < n → w.cell? ⟨b, off + j, none⟩ = some (.int .u8 (z j))) : ∀ j u, (bl z n)[j]? = some u → w.cell? ((⟨b, off, none⟩ : Addr).add j) = some u := by
 intro j u h
 obtain ⟨hj, rfl⟩ := bl_get h
 rw [Addr.add_lit]
 exact hc j hj

/-- What owns a row of bytes is a slice of them. -/
theorem own_SlAt {w : World} {base : Nat} {v : Value} {n : Nat} {z : Nat → Int} (hz : ∀ j, j < n → 0 ≤ z j ∧ z j ≤ 255) (h : w.ownsRow base 5 1 v n (bl z n)) :
  ∃ ad cap, v = .slice ad n cap ∧ n ≤ cap ∧ SlAt w ad n z ∧ (ad = none → n = 0 ∧ cap = 0) ∧ (∀ a, ad = some a → base ≤ a.block) := by
 rcases h.2 with ⟨rfl, rfl⟩ | ⟨g, cap, cur, rfl, hb, hg, hcap, _, hsz, htk⟩
 ·exact ⟨none, 0, rfl, Nat.le_refl _, SlAt.zero _ _, fun _ => ⟨rfl, rfl⟩, fun _ h => by cases h⟩
 ·refine ⟨some ⟨g, 0, none⟩, cap, rfl, hcap, ⟨hz, fun _ => ⟨g, 0, rfl, fun j hj => ?_⟩⟩, (fun h => by cases h), (fun a h => by cases h; exact hb)⟩
  have := h.cells (g := g) rfl j _ (bl_at hj)
  rwa [Addr.add_lit] at this

set_option maxHeartbeats 400000 in
theorem clone_nil (w : World) :
  Calls Tryz.prog 51 #[.slice none 0 0] w fun e w' => e = .returned (.slice none 0 0) ∧ w' = w := by
 have hnil := fun wx => Lib.run_eql_slice_nil (P := Tryz.prog) wx 27 5 none 0 0 0 0 Tryz.underlying27
 go_enter Tryz.func51, Tryz.ntmps51
 go_wp2
 go_ret
 exact ⟨rfl, rfl⟩

set_option maxHeartbeats 400000 in
theorem clone_some (a : Addr) (n cap : Nat) (z : Nat → Int) (w : World) (hc : ∀ j u, (bl z n)[j]? = some u → w.cell? (a.add j) = some u) (hn : n ≤ 140737488351232) (hlt : 0 < n → a.block < w.heap.size) :
  Calls Tryz.prog 51 #[.slice (some a) n cap] w fun e w' => ∃ v, e = .returned v ∧ w'.ownsRow w.heap.size 5 1 v n (bl z n) ∧ Below w.heap.size w w' := by
 have hnil : ∀ wx, (binOp .eql 27 (.slice (some a) n cap) (.slice none 0 0)).run Tryz.prog wx = .ok (.bool false) wx := fun wx => Lib.run_eql_slice_nil (P := Tryz.prog) wx 27 5 (some a) n cap 0 0 Tryz.underlying27
 obtain ⟨i0, hi, hz0, hz1, hz2⟩ := info_parts Tryz.infoB
 have H : Hid (Tryz.prog.info? 5 = some i0 ∧ i0.zero = some (.int .u8 0) ∧ i0.size = 1 ∧ i0.bytes = 1) := ⟨hi, hz0, hz1, hz2⟩
 clear hi hz0 hz1 hz2
 have hnews : ∀ j u, (bl z n)[j]? = some u → (w.alloc (.cells #[] 5)).cell? (a.add j) = some u := by
  intro j u h
  have hj := (bl_get h).1
  rw [World.cell?_alloc_lt _ _ _ (by have := hlt (by omega); unfold Addr.add; split <;> exact this)]
  exact hc j u h
 have HC : Hid (∀ j u, (bl z n)[j]? = some u → (w.alloc (.cells #[] 5)).cell? (a.add j) = some u) := hnews
 clear hc hnews
 go_enter Tryz.func51, Tryz.ntmps51
 go_wp2_with (at_builtin; refine wpList_append_own_at _ rfl _ _ 27 rfl w.heap.size 5 i0 (.int .u8 0) 1 1 Tryz.underlying27 H.out.1 H.out.2.1 H.out.2.2.1 H.out.2.2.2 rfl (by decide) _ 0 [] rfl (World.ownsRow_made w #[] 0 (Nat.le_refl _) (Nat.zero_le _) rfl) a n cap (bl z n) rfl (by simp [bl_length]) HC.out (bl_one z n) (by unfold maxLen; omega) (by omega) (by simp) ?_; intro v' w1 hown hgrow _ _)
 go_ret
 refine ⟨v', rfl, by simpa using hown, ?_⟩
 exact ((Below.refl _ _).alloc (Nat.le_refl _) _).grown hgrow (by simp) (fun k hk => Nat.le_of_eq (Option.some.inj (show some w.heap.size = some k from hk)))

theorem clone_any (ad : Option Addr) (n cap : Nat) (z : Nat → Int) (w : World) (hs : SlAt w ad n z) (hnil : ad = none → n = 0 ∧ cap = 0) (hn : n ≤ 140737488351232) :
  Calls Tryz.prog 51 #[.slice ad n cap] w fun e w' => ∃ ad' cap', e = .returned (.slice ad' n cap') ∧ n ≤ cap' ∧ SlAt w' ad' n z ∧ (ad' = none → n = 0 ∧ cap' = 0) ∧ (∀ a, ad' = some a → w.heap.size ≤ a.block) ∧ Below w.heap.size w w' := by
 cases ad with
 | none =>
  obtain ⟨rfl, rfl⟩ := hnil rfl
  refine (clone_nil w).mono ?_
  rintro e w' ⟨rfl, rfl⟩
  exact ⟨none, 0, rfl, Nat.le_refl _, SlAt.zero _ _, (fun _ => ⟨rfl, rfl⟩), (fun _ h => by cases h), Below.refl _ _⟩
 | some a =>
  refine (clone_some a n cap z w ?_ hn ?_).mono ?_
  ·intro j u h
   have hj := (bl_get h).1
   obtain ⟨b, off, e, hc⟩ := hs.2 (by omega)
   cases e
   exact bl_cells hc j u h
  ·intro h0
   obtain ⟨b, off, e, hc⟩ := hs.2 h0
   cases e
   exact World.block_lt_of_cell? w ⟨b, off + 0, none⟩ (hc 0 h0)
  ·rintro e w' ⟨v, rfl, hown, hbel⟩
   obtain ⟨ad', cap', rfl, h1, h2, h3, h4⟩ := own_SlAt hs.1 hown
   exact ⟨ad', cap', rfl, h1, h2, h3, h4, hbel⟩
theorem copy_hv (z u : Nat → Int) : ((hv u).toList.take 0 ++ (bl z 32 ++ (hv u).toList.drop (0 + (bl z 32).length))).toArray = hv z := by
 have h1 : (hv u).toList.drop (0 + (bl z 32).length) = [] := List.drop_eq_nil_of_le (by simp [hv_size, bl_length])
 rw [h1]
 simp [hv]

theorem hsz5 : (Tryz.prog.info? 5).map (·.size) = some 1 := by kernel_rfl
/-- 'copy(h[:], b)', b of 32 bytes at least. -/
theorem wpList_copyH {ops : Array Oper} {rest : List Oper} {o : Oper} {a : Act} {w : World} {Q : Exit → Act → World → Prop} {z u : Nat → Int} (hgd : o.guard = none) (d s : Operand) (ho : o.op = .call { callee := .builtin .copy, args := #[d, s], argTypes := #[27, 27] })
  (g : Nat) (ad : Addr) (n cap : Nat) (hd : a.eval d = .slice (some ⟨g, 0, none⟩) 32 32) (hs : a.eval s = .slice (some ad) n cap) (t : TypeId) (hg : w.heap[g]? = some (.cells (hv u) t (0, 0))) (hn : 32 ≤ n)
  (hsrc : ∀ j v, (bl z 32)[j]? = some v → w.cell? (ad.add j) = some v)
  (h : ∀ w', w'.heap[g]? = some (.cells (hv z) t (0, 0)) → Frm [g] w w' → wpList Tryz.prog ops Q rest (a.put o.dst (.int .i64 32)) w') : wpList Tryz.prog ops Q (o :: rest) a w := by
 refine wpList_copy_own hgd d s 27 27 ho 5 Tryz.underlying27 hsz5 g 0 32 32 ad n cap hd hs (hv u) t hg (bl z 32) (by rw [bl_length]; exact (Nat.min_eq_right hn).symm) hsrc (by simp [hv_size, bl_length]) (bl_one z 32) ?_
 have hlt := lt_of_block hg
 have h1 : (w.setRow g ((hv u).toList.take 0 ++ (bl z 32 ++ (hv u).toList.drop (0 + (bl z 32).length))).toArray).heap[g]? = some (.cells (hv z) t (0, 0)) := by
  rw [copy_hv z u]
  have h' : w.heap[g] = .cells (hv u) t (0, 0) := by simpa [Array.getElem?_eq_getElem hlt] using hg
  simp only [World.setRow]
  rw [Array.getElem?_eq_getElem (by simpa using hlt), Array.getElem_modify_self, h']
 have h2 : Frm [g] w (w.setRow g ((hv u).toList.take 0 ++ (bl z 32 ++ (hv u).toList.drop (0 + (bl z 32).length))).toArray) := by
  refine ⟨rfl, rfl, rfl, by simp, fun k _ hk => ?_⟩
  simp only [World.setRow, Array.getElem?_modify]
  rw [if_neg (fun e => hk (by simp [e]))]
 have h3 := h _ h1 h2
 rw [bl_length]
 exact h3

theorem results_H3 {fn : Func} {p u v : Tmp} (h : fn.results = #[.cell p 48, .tmp u, .tmp v]) (tmps : Array Value) (w : World) (g : Nat) (t : TypeId) (z : Nat → Int) (fr : Nat × Nat)
  (hp : tmps.getD p undef = .pointer (some ⟨g, 0, none⟩)) (hg : w.heap[g]? = some (.cells (hv z) t fr)) :
  (results fn tmps).run Tryz.prog w = .ok (.tuple #[.agg (hv z), tmps.getD u undef, tmps.getD v undef]) w := by
 have hp' : tmps[p]?.getD undef = .pointer (some ⟨g, 0, none⟩) := by simpa using hp
 simp [results, h, hp', asAddr, run_loadVar_row w g t 48 (hv z) fr _ hg Tryz.underlying48 rfl (hszv z)]
theorem results_H1 {fn : Func} {p : Tmp} (h : fn.results = #[.cell p 48]) (tmps : Array Value) (w : World) (g : Nat) (t : TypeId) (z : Nat → Int) (fr : Nat × Nat)
  (hp : tmps.getD p undef = .pointer (some ⟨g, 0, none⟩)) (hg : w.heap[g]? = some (.cells (hv z) t fr)) :
  (results fn tmps).run Tryz.prog w = .ok (.agg (hv z)) w := results_cell_row h tmps w g t (hv z) fr _ hp hg Tryz.underlying48 rfl (hszv z)
end Go.Proofs.YthmmmkldmhjogaaGreatDoor
/- What enc.frontHash answers. -/
namespace Go.Proofs.YthmmmkldmhjogaaGreatDoor
open Go.RowKit

theorem two_allocs_a (w : World) (o o' : Obj) : ((w.alloc o).alloc o').heap[w.heap.size]? = some o := by
 rw [Below.heap_alloc _ _ _ (by simp)]; exact heap_alloc_new w o

set_option maxHeartbeats 400000 in
theorem frontHash_short (ad : Option Addr) (n cap : Nat) (w : World) (hn : n < 32) :
  Calls Tryz.prog 78 #[.slice ad n cap] w fun e w' => e = .returned (.tuple #[.agg (hv nz), .int .i64 0, .iface 67 (.int .i64 12)]) ∧ Below w.heap.size w w' := by
 go_enter Tryz.func78, Tryz.ntmps78
 go_wp2_with (first | (refine wpList_allocH rfl rfl ?_) | (refine wpList_loadH rfl _ rfl (w.heap.size + 1) rfl nz 48 (0, 0) (by have := heap_alloc_new (w.alloc (.cells (hv nz) 48)) (.cells (hv nz) 48); simpa using this) ?_) | (refine wpList_storeH rfl _ _ rfl w.heap.size rfl nz nz 48 rfl (by rw [Below.heap_alloc _ _ _ (by simp)]; exact heap_alloc_new w _) ?_; intro w1 hg1 hF1))
 refine bodyPost_ret (results_H3 Tryz.results78 _ _ w.heap.size 48 nz (0, 0) rfl hg1) rfl ⟨rfl, ?_⟩
 exact (((Below.refl _ w).alloc (Nat.le_refl _) _).alloc (by simp) _).trans (hF1.below (by simp; omega) (by simp))

set_option maxRecDepth 100000 in
set_option maxHeartbeats 400000 in
theorem frontHash_long (b off n cap : Nat) (z : Nat → Int) (w : World) (hn : 32 ≤ n) (hc : ∀ j, j < n → w.cell? ⟨b, off + j, none⟩ = some (.int .u8 (z j))) :
  Calls Tryz.prog 78 #[.slice (some ⟨b, off, none⟩) n cap] w fun e w' => e = .returned (.tuple #[.agg (hv z), .int .i64 32, .nilIface]) ∧ Below w.heap.size w w' := by
 have hblt : b < w.heap.size := World.block_lt_of_cell? w ⟨b, off + 0, none⟩ (hc 0 (by omega))
 have hnews : ∀ j u, (bl z 32)[j]? = some u → ((w.alloc (.cells (hv nz) 48)).alloc (.cells (hv nz) 48)).cell? ((⟨b, off, none⟩ : Addr).add j) = some u := by
  intro j u h
  obtain ⟨hj, rfl⟩ := bl_get h
  rw [Addr.add_lit, World.cell?_alloc_lt _ _ _ (by simp; omega), World.cell?_alloc_lt _ _ _ (by simpa using hblt)]
  exact hc j (by omega)
 have HN : Hid (∀ j u, (bl z 32)[j]? = some u → ((w.alloc (.cells (hv nz) 48)).alloc (.cells (hv nz) 48)).cell? ((⟨b, off, none⟩ : Addr).add j) = some u) := hnews
 clear hnews hc
 go_enter Tryz.func78, Tryz.ntmps78
 go_wp2_with (first | (refine wpList_allocH rfl rfl ?_) | (refine wpList_copyH (z := z) (u := nz) rfl _ _ rfl (w.heap.size + 1) ⟨b, off, none⟩ n cap rfl rfl 48 (by have := heap_alloc_new (w.alloc (.cells (hv nz) 48)) (.cells (hv nz) 48); simpa using this) hn HN.out ?_; intro w1 hg1 hF1; have hg0 := hF1.heap (two_allocs_a w _ _) (by simp)) | (refine wpList_loadH rfl _ rfl (w.heap.size + 1) rfl z 48 (0, 0) hg1 ?_) | (refine wpList_storeH rfl _ _ rfl w.heap.size rfl z nz 48 rfl hg0 ?_; intro w2 hg2 hF2))
 refine bodyPost_ret (results_H3 Tryz.results78 _ _ w.heap.size 48 z (0, 0) rfl hg2) rfl ⟨rfl, ?_⟩
 have hb1 : Below w.heap.size w w1 := (((Below.refl _ w).alloc (Nat.le_refl _) _).alloc (by simp) _).trans (hF1.below (by simp; omega) (by simp))
 exact hb1.trans (hF2.below hb1.size (by simp))
end Go.Proofs.YthmmmkldmhjogaaGreatDoor
/- What enc.number answers: the number of so many bytes, or the error. -/
namespace Go.Proofs.YthmmmkldmhjogaaGreatDoor
open Go.RowKit

set_option maxHeartbeats 400000 in
theorem number_short (ad : Option Addr) (len cap : Nat) (k t : Int) (w : World) (h : (len : Int) < k) :
  Calls Tryz.prog 91 #[.slice ad len cap, .int .i64 k, .int .u8 t] w fun e w' => e = .returned (.tuple #[.int .u64 0, .iface 67 (.int .i64 12)]) ∧ w' = w := by
 go_enter Tryz.func91, Tryz.ntmps91
 go_wp2
 go_ret2
 exact ⟨rfl, rfl⟩

set_option maxHeartbeats 400000 in
theorem number_form (b off len cap : Nat) (k : Nat) (t : Int) (z : Nat → Int) (w : World) (hk : k ≤ len) (hk0 : 0 < k) (h0 : (z 0 == t) = true) 
  (hc : w.cell? ⟨b, off, none⟩ = some (.int .u8 (z 0))) :
  Calls Tryz.prog 91 #[.slice (some ⟨b, off, none⟩) len cap, .int .i64 k, .int .u8 t] w fun e w' => e = .returned (.tuple #[.int .u64 0, .iface 67 (.int .i64 3)]) ∧ w' = w := by
 go_enter Tryz.func91, Tryz.ntmps91
 go_wp2
 go_ret2
 exact ⟨rfl, rfl⟩

set_option maxHeartbeats 400000 in
theorem number_none (ad : Option Addr) (len cap : Nat) (t : Int) (w : World) (_hlc : len ≤ cap) :
  Calls Tryz.prog 91 #[.slice ad len cap, .int .i64 0, .int .u8 t] w fun e w' => e = .returned (.tuple #[.int .u64 0, .nilIface]) ∧ w' = w := by
 go_enter Tryz.func91, Tryz.ntmps91
 go_wp2
 refine wp_loop_rounds 1 ?_
 rw [rounds_succ]
 go_wp2
 go_ret2
 exact ⟨rfl, rfl⟩

set_option maxHeartbeats 400000 in
theorem number_more (b off len cap : Nat) (k : Nat) (t : Bool) (tn : Int) (htn : tn = if t then 255 else 0) (z : Nat → Int) (w : World) (hk : k ≤ len) (hk8 : k ≤ 8) (hk0 : 0 < k) (hlc : len ≤ cap) (h0 : (z 0 == tn) = false) 
  (hz : ∀ j, j < k → 0 ≤ z j ∧ z j ≤ 255)
  (hc : ∀ j, j < len → w.cell? ⟨b, off + j, none⟩ = some (.int .u8 (z j))) :
  Calls Tryz.prog 91 #[.slice (some ⟨b, off, none⟩) len cap, .int .i64 k, .int .u8 tn] w fun e w' => e = .returned (.tuple #[.int .u64 (valF (fun j => trn t (z j)) k), .nilIface]) ∧ w' = w := by
 have c0 : w.cell? ⟨b, off, none⟩ = some (.int .u8 (z 0)) := by simpa using hc 0 (by omega)
 have HT : Hid (tn = if t then 255 else 0) := htn
 clear htn
 go_enter Tryz.func91, Tryz.ntmps91
 go_wp2
 go_loop [8, 30] (fun n i => ∃ q : Nat, q ≤ k ∧ i = .int .i64 q ∧ n = .int .u64 (valF (fun j => trn t (z j)) q)) (fun _ i => k - (intOf i).toNat)
 case atStart => exact ⟨0, Nat.zero_le _, rfl, rfl⟩
 case round =>
  obtain ⟨q, hq, rfl, rfl⟩ := hrel
  by_cases hlt : q < k
  ·have hcq := hc q (by omega)
   have hzq := hz q hlt
   have hb := valF_lt7 (f := fun j => trn t (z j)) (k := q) (by omega) (fun j hj => trn_bd (hz j (by omega)))
   have HS : Hid (bits .or .u64 (valF (fun j => trn t (z j)) q * 256) (IntKind.u64.wrap (bits .xor .u8 (z q) tn)) = valF (fun j => trn t (z j)) (q + 1)) := by
    show _ = _
    rw [xor_trn t tn (z q) HT.out hzq, shift_or _ _ hb (trn_bd hzq)]
    rfl
   go_wp2
   go_round
   case rel => exact ⟨q + 1, by omega, by go_num, by rw [HS.out]⟩
   case measure => simp [intOf]; omega
  ·have : q = k := by omega
   subst this
   go_wp2
   go_ret2
   exact ⟨rfl, rfl⟩

/-- An error of the program's, by its number; 0: none. -/
theorem errV_0 : errV 0 = .nilIface := rfl
theorem errV_3 : errV 3 = .iface 67 (.int .i64 3) := rfl
theorem errV_12 : errV 12 = .iface 67 (.int .i64 12) := rfl

theorem number_any (ad : Option Addr) (n cap k : Nat) (t : Bool) (tn : Int) (z : Nat → Int) (w : World) (htn : tn = if t then 255 else 0) (hk8 : k ≤ 8) (hlc : n ≤ cap) (hs : SlAt w ad n z) :
  Calls Tryz.prog 91 #[.slice ad n cap, .int .i64 k, .int .u8 tn] w fun e w' =>
   e = .returned (.tuple #[.int .u64 (numV n (fun j => trn t (z j)) k), errV (numE n (fun j => trn t (z j)) k)]) ∧ w' = w := by
 obtain ⟨hz, hs⟩ := hs
 by_cases h1 : n < k
 ·have e : numE n (fun j => trn t (z j)) k = 12 := by simp [numE, h1]
  rw [numV, e, if_neg (by decide), errV_12]
  exact number_short ad n cap k tn w (by omega)
 ·by_cases h2 : k = 0
  ·subst h2
   have e : numE n (fun j => trn t (z j)) 0 = 0 := by simp [numE]
   rw [numV, e, if_pos rfl, errV_0]
   exact number_none ad n cap tn w hlc
  ·obtain ⟨b, off, rfl, hc⟩ := hs (by omega)
   have hz0 := hz 0 (by omega)
   by_cases h3 : z 0 = tn
   ·have e : numE n (fun j => trn t (z j)) k = 3 := by
     have : trn t (z 0) = 0 := by rw [h3, htn]; cases t <;> simp [trn]
     simp [numE, h1, this]; omega
    rw [numV, e, if_neg (by decide), errV_3]
    exact number_form b off n cap k tn z w (by omega) (by omega) (by simp [h3]) (by simpa using hc 0 (by omega))
   ·have e : numE n (fun j => trn t (z j)) k = 0 := by
     have : trn t (z 0) ≠ 0 := by
      rw [htn] at h3; cases t <;> simp [trn] at h3 ⊢ <;> omega
     simp [numE, h1, this]
    rw [numV, e, if_pos rfl, errV_0]
    exact number_more b off n cap k t tn htn z w (by omega) hk8 (by omega) hlc (by simp [h3]) (fun j hj => hz j (by omega)) hc

theorem number_int (ad : Option Addr) (n cap : Nat) (k : Int) (t : Bool) (tn : Int) (z : Nat → Int) (w : World) (htn : tn = if t then 255 else 0) (h0 : 0 ≤ k) (h8 : k ≤ 8) (hlc : n ≤ cap) (hs : SlAt w ad n z) :
  Calls Tryz.prog 91 #[.slice ad n cap, .int .i64 k, .int .u8 tn] w fun e w' =>
   e = .returned (.tuple #[.int .u64 (numV n (fun j => trn t (z j)) k.toNat), errV (numE n (fun j => trn t (z j)) k.toNat)]) ∧ w' = w := by
 obtain ⟨q, rfl⟩ := Int.eq_ofNat_of_zero_le h0
 exact number_any ad n cap q t tn z w htn (by omega) hlc hs

end Go.Proofs.YthmmmkldmhjogaaGreatDoor
/- What enc.frontUint and enc.frontInt answer. -/
namespace Go.Proofs.YthmmmkldmhjogaaGreatDoor
open Go.RowKit

theorem errV_4 : errV 4 = .iface 67 (.int .i64 4) := rfl

set_option maxHeartbeats 400000 in
theorem frontUint_nil (ad : Option Addr) (cap : Nat) (most : Int) (w : World) :
  Calls Tryz.prog 76 #[.slice ad 0 cap, .int .u64 most] w fun e w' =>
   e = .returned (.tuple #[.int .u64 0, .int .i64 0, .iface 67 (.int .i64 12)]) ∧ w' = w := by
 go_enter Tryz.func76, Tryz.ntmps76
 go_wp2
 go_ret3
 exact ⟨rfl, rfl⟩

set_option maxHeartbeats 400000 in
theorem frontUint_wide (b off n cap : Nat) (most : Int) (z : Nat → Int) (w : World) (hn : 0 < n) (hc : w.cell? ⟨b, off, none⟩ = some (.int .u8 (z 0))) (h8 : 8 < z 0) :
  Calls Tryz.prog 76 #[.slice (some ⟨b, off, none⟩) n cap, .int .u64 most] w fun e w' =>
   e = .returned (.tuple #[.int .u64 0, .int .i64 0, .iface 67 (.int .i64 3)]) ∧ w' = w := by
 go_enter Tryz.func76, Tryz.ntmps76
 go_wp2
 go_ret3
 exact ⟨rfl, rfl⟩

set_option maxHeartbeats 400000 in
theorem frontUint_err (b off n cap : Nat) (most : Int) (z : Nat → Int) (w : World) (hn : 0 < n) (hlc : n ≤ cap) (hz : ∀ j, j < n → 0 ≤ z j ∧ z j ≤ 255) (hc : ∀ j, j < n → w.cell? ⟨b, off + j, none⟩ = some (.int .u8 (z j))) (h8 : z 0 ≤ 8)
  (er : Int) (hE : errV (numE (n - 1) (fun j => trn false (z (j + 1))) (z 0).toNat) = .iface 67 (.int .i64 er)) :
  Calls Tryz.prog 76 #[.slice (some ⟨b, off, none⟩) n cap, .int .u64 most] w fun e w' =>
   e = .returned (.tuple #[.int .u64 0, .int .i64 0, .iface 67 (.int .i64 er)]) ∧ ∃ q, w' = w.drewN q := by
 have c0 : w.cell? ⟨b, off, none⟩ = some (.int .u8 (z 0)) := by simpa using hc 0 hn
 have hz0 := hz 0 hn
 have hn1 : (1 : Int) ≤ (n : Int) := by omega
 have hnc : (n : Int) ≤ (cap : Int) := by omega
 have hs := SlAt.tail hz hc hlc
 clear hc hz
 go_enter Tryz.func76, Tryz.ntmps76
 go_wp2_with fail
 go_quiet ((go_at_call 91; exact Calls.quiet_of_same (number_int _ _ _ (z 0) false 0 (fun j => z (j + 1)) _ rfl hz0.1 h8 (by omega) (hs.drewN _))))
 go_wp2
 all_goals (go_ret3; exact ⟨rfl, _, rfl⟩)

set_option maxHeartbeats 400000 in
theorem frontUint_range (b off n cap : Nat) (most : Int) (z : Nat → Int) (w : World) (hn : 0 < n) (hlc : n ≤ cap) (hz : ∀ j, j < n → 0 ≤ z j ∧ z j ≤ 255) (hc : ∀ j, j < n → w.cell? ⟨b, off + j, none⟩ = some (.int .u8 (z j))) (h8 : z 0 ≤ 8)
  (hE : errV (numE (n - 1) (fun j => trn false (z (j + 1))) (z 0).toNat) = .nilIface) (hm : most < numV (n - 1) (fun j => trn false (z (j + 1))) (z 0).toNat) :
  Calls Tryz.prog 76 #[.slice (some ⟨b, off, none⟩) n cap, .int .u64 most] w fun e w' =>
   e = .returned (.tuple #[.int .u64 0, .int .i64 0, .iface 67 (.int .i64 4)]) ∧ ∃ q, w' = w.drewN q := by
 have c0 : w.cell? ⟨b, off, none⟩ = some (.int .u8 (z 0)) := by simpa using hc 0 hn
 have hz0 := hz 0 hn
 have hn1 : (1 : Int) ≤ (n : Int) := by omega
 have hnc : (n : Int) ≤ (cap : Int) := by omega
 have hs := SlAt.tail hz hc hlc
 clear hc hz
 go_enter Tryz.func76, Tryz.ntmps76
 go_wp2_with fail
 go_quiet ((go_at_call 91; exact Calls.quiet_of_same (number_int _ _ _ (z 0) false 0 (fun j => z (j + 1)) _ rfl hz0.1 h8 (by omega) (hs.drewN _))))
 go_wp2
 all_goals (go_ret3; exact ⟨rfl, _, rfl⟩)

set_option maxHeartbeats 400000 in
theorem frontUint_ok (b off n cap : Nat) (most : Int) (z : Nat → Int) (w : World) (hn : 0 < n) (hlc : n ≤ cap) (hz : ∀ j, j < n → 0 ≤ z j ∧ z j ≤ 255) (hc : ∀ j, j < n → w.cell? ⟨b, off + j, none⟩ = some (.int .u8 (z j))) (h8 : z 0 ≤ 8)
  (hE : errV (numE (n - 1) (fun j => trn false (z (j + 1))) (z 0).toNat) = .nilIface) (hm : ¬ most < numV (n - 1) (fun j => trn false (z (j + 1))) (z 0).toNat) :
  Calls Tryz.prog 76 #[.slice (some ⟨b, off, none⟩) n cap, .int .u64 most] w fun e w' =>
   e = .returned (.tuple #[.int .u64 (numV (n - 1) (fun j => trn false (z (j + 1))) (z 0).toNat), .int .i64 (1 + z 0), .nilIface]) ∧ ∃ q, w' = w.drewN q := by
 have c0 : w.cell? ⟨b, off, none⟩ = some (.int .u8 (z 0)) := by simpa using hc 0 hn
 have hz0 := hz 0 hn
 have hn1 : (1 : Int) ≤ (n : Int) := by omega
 have hnc : (n : Int) ≤ (cap : Int) := by omega
 have hs := SlAt.tail hz hc hlc
 clear hc hz
 go_enter Tryz.func76, Tryz.ntmps76
 go_wp2_with fail
 go_quiet ((go_at_call 91; exact Calls.quiet_of_same (number_int _ _ _ (z 0) false 0 (fun j => z (j + 1)) _ rfl hz0.1 h8 (by omega) (hs.drewN _))))
 go_wp2
 all_goals (go_quiet (fail); go_wp2; go_ret3; exact ⟨rfl, _, World.drewN_drewN _ _ _⟩)


theorem frontUint_any (ad : Option Addr) (n cap : Nat) (most : Int) (z : Nat → Int) (w : World) (hlc : n ≤ cap) (hs : SlAt w ad n z) :
  Calls Tryz.prog 76 #[.slice ad n cap, .int .u64 most] w fun e w' =>
   e = .returned (.tuple #[.int .u64 (uV n z most), .int .i64 (uN n z most), errV (uE n z most)]) ∧ ∃ q, w' = w.drewN q := by
 obtain ⟨hz, hs⟩ := hs
 by_cases hn : n = 0
 ·subst hn
  have e : uE 0 z most = 12 := by simp [uE]
  rw [uV, uN, e, if_neg (by decide), if_neg (by decide), errV_12]
  exact (frontUint_nil ad cap most w).mono fun e w' ⟨h1, h2⟩ => ⟨h1, 0, h2⟩
 ·obtain ⟨b, off, rfl, hc⟩ := hs (by omega)
  by_cases h8 : 8 < z 0
  ·have e : uE n z most = 3 := by simp [uE, hn, h8]
   rw [uV, uN, e, if_neg (by decide), if_neg (by decide), errV_3]
   exact (frontUint_wide b off n cap most z w (by omega) (by simpa using hc 0 (by omega)) h8).mono fun e w' ⟨h1, h2⟩ => ⟨h1, 0, h2⟩
  ·have hz0 := hz 0 (by omega)
   rcases numE_cases (n - 1) (behind false z) (z 0).toNat with hE | hE | hE
   ·by_cases hm : most < numV (n - 1) (behind false z) (z 0).toNat
    ·have e : uE n z most = 4 := by simp [uE, hn, h8, hE, hm]
     rw [uV, uN, e, if_neg (by decide), if_neg (by decide), errV_4]
     exact frontUint_range b off n cap most z w (by omega) hlc hz hc (by omega) (by show errV (numE (n - 1) (behind false z) (z 0).toNat) = _; rw [hE, errV_0]) hm
    ·have e : uE n z most = 0 := by simp [uE, hn, h8, hE, hm]
     rw [uV, uN, e, if_pos rfl, if_pos rfl, errV_0]
     have hw : ((1 + (z 0).toNat : Nat) : Int) = 1 + z 0 := by omega
     rw [hw]
     exact frontUint_ok b off n cap most z w (by omega) hlc hz hc (by omega) (by show errV (numE (n - 1) (behind false z) (z 0).toNat) = _; rw [hE, errV_0]) hm
   ·have e : uE n z most = 3 := by simp [uE, hn, h8, hE]
    rw [uV, uN, e, if_neg (by decide), if_neg (by decide), errV_3]
    exact frontUint_err b off n cap most z w (by omega) hlc hz hc (by omega) 3 (by show errV (numE (n - 1) (behind false z) (z 0).toNat) = _; rw [hE, errV_3])
   ·have e : uE n z most = 12 := by simp [uE, hn, h8, hE]
    rw [uV, uN, e, if_neg (by decide), if_neg (by decide), errV_12]
    exact frontUint_err b off n cap most z w (by omega) hlc hz hc (by omega) 12 (by show errV (numE (n - 1) (behind false z) (z 0).toNat) = _; rw [hE, errV_12])

end Go.Proofs.YthmmmkldmhjogaaGreatDoor
/- What (*enc.Reader).Int and (*enc.Reader).Uint do: the value, what is left, the first error. -/
namespace Go.Proofs.YthmmmkldmhjogaaGreatDoor
open Go.RowKit

/-- A reader at block rb: n bytes z are left, er is the number of its first error (0: none). -/
def RdAt (w : World) (rb n : Nat) (z : Nat → Int) (er : Int) : Prop :=
 ∃ ad cap, w.heap[rb]? = some (.cells #[.slice ad n cap, errV er] 100 (0, 0)) ∧ n ≤ cap ∧ SlAt w ad n z ∧ ∀ b off, 0 < n → ad = some ⟨b, off, none⟩ → b < rb


theorem RdAt.fail {w w1 : World} {rb n cap : Nat} {z : Nat → Int} {er : Int} {ad : Option Addr} (hr : w.heap[rb]? = some (.cells #[.slice ad n cap, errV 0] 100 (0, 0))) (hlc : n ≤ cap) (hs : SlAt w ad n z) (hlb : ∀ b off, 0 < n → ad = some ⟨b, off, none⟩ → b < rb)
  (hf : Frm [] w w1) : RdAt (w1.setCell ⟨rb, 1, none⟩ (errV er)) rb n z er ∧ Frm [rb] w (w1.setCell ⟨rb, 1, none⟩ (errV er)) := by
 have hF : Frm [rb] w (w1.setCell ⟨rb, 1, none⟩ (errV er)) := (hf.mono (fun _ h => by cases h)).setCell _ _ (by simp)
 refine ⟨⟨ad, cap, two_set1 (hf.heap hr (by simp)), hlc, (hs.frm hF fun b off hn e => ?_), hlb⟩, hF⟩
 have := hs.ne_two hr hn e
 simpa using this

theorem RdAt.took {w w1 : World} {rb n cap k : Nat} {z : Nat → Int} {ad ad' : Option Addr} (hr : w.heap[rb]? = some (.cells #[.slice ad n cap, errV 0] 100 (0, 0))) (hlc : n ≤ cap)
  (hs' : SlAt w ad' (n - k) (fun j => z (j + k))) (hlb : ∀ b off, 0 < n - k → ad' = some ⟨b, off, none⟩ → b < rb)
  (hf : Frm [] w w1) : RdAt (w1.setCell ⟨rb, 0, none⟩ (.slice ad' (n - k) (cap - k))) rb (n - k) (fun j => z (j + k)) 0 ∧ Frm [rb] w (w1.setCell ⟨rb, 0, none⟩ (.slice ad' (n - k) (cap - k))) := by
 have hF : Frm [rb] w (w1.setCell ⟨rb, 0, none⟩ (.slice ad' (n - k) (cap - k))) := (hf.mono (fun _ h => by cases h)).setCell _ _ (by simp)
 refine ⟨⟨ad', cap - k, two_set0 (hf.heap hr (by simp)), by omega, (hs'.frm hF fun b off hn e => ?_), hlb⟩, hF⟩
 have := hs'.ne_two hr hn e
 simpa using this

/-- What a reader has left behind k bytes that were taken off. -/
def Took (w w' : World) (rb n cap k : Nat) (ad : Option Addr) : Prop :=
 ∃ ad' q, (ad' = ad ∧ cap = k ∨ ad' = Option.map (fun x => x.add k) ad) ∧ w' = (w.drewN q).setCell ⟨rb, 0, none⟩ (.slice ad' (n - k) (cap - k))
theorem Took.all (w : World) (rb n cap q : Nat) (ad : Option Addr) : Took w ((w.drewN q).setCell ⟨rb, 0, none⟩ (.slice ad (n - cap) 0)) rb n cap cap ad := ⟨ad, q, .inl ⟨rfl, rfl⟩, by simp⟩
theorem Took.some (w : World) (rb n cap k q : Nat) (ad : Option Addr) : Took w ((w.drewN q).setCell ⟨rb, 0, none⟩ (.slice (Option.map (fun x => x.add k) ad) (n - k) (cap - k))) rb n cap k ad := ⟨_, q, .inr rfl, rfl⟩
theorem Took.rd {w0 w w' : World} {rb n cap k : Nat} {ad : Option Addr} {z : Nat → Int} (h : Took w w' rb n cap k ad) (hr : w0.heap[rb]? = Option.some (.cells #[.slice ad n cap, errV 0] 100 (0, 0))) (hlc : n ≤ cap) (hs : SlAt w0 ad n z) (hlb : ∀ b off, 0 < n → ad = Option.some ⟨b, off, none⟩ → b < rb) (hkn : k ≤ n) (hf : Frm [] w0 w) :
  RdAt w' rb (n - k) (fun j => z (j + k)) 0 ∧ Frm [rb] w0 w' := by
 obtain ⟨ad', q, he, rfl⟩ := h
 have hs' : SlAt w0 ad' (n - k) (fun j => z (j + k)) := by
  rcases he with ⟨rfl, hc⟩ | rfl
  ·rw [show n - k = 0 from by omega]; exact SlAt.zero _ _
  ·exact hs.drop
 refine RdAt.took hr hlc hs' (fun b off hn e => ?_) (hf.drewN q)
 rcases he with ⟨rfl, hc⟩ | rfl
 ·exact hlb b off (by omega) e
 ·obtain ⟨b0, off0, e0, _⟩ := hs.2 (by omega)
  subst e0
  have hbk : ((⟨b0, off0, none⟩ : Addr).add k).block = b0 := by rw [Addr.add_lit]
  simp only [Option.map_some, Option.some.injEq] at e
  have : b = b0 := by rw [← hbk, e]
  subst this
  exact hlb b off0 (by omega) rfl

set_option maxHeartbeats 400000 in
theorem rdUint_err (rb n cap : Nat) (ad : Option Addr) (z : Nat → Int) (er most : Int) (w : World) (h0 : w.cell? ⟨rb, 0, none⟩ = some (.slice ad n cap)) (h1 : w.cell? ⟨rb, 1, none⟩ = some .nilIface) (hf : w.frozen? ⟨rb, 1, none⟩ = false)
  (hlc : n ≤ cap) (hs : SlAt w ad n z) (hE : errV (uE n z most) = .iface 67 (.int .i64 er)) :
  Calls Tryz.prog 52 #[.pointer (some ⟨rb, 0, none⟩), .int .u64 most] w fun e w' =>
   e = .returned (.int .u64 0) ∧ ∃ q, w' = ((w.alloc (.cells #[.int .u64 most] 88)).drewN q).setCell ⟨rb, 1, none⟩ (.iface 67 (.int .i64 er)) := by
 have hs1 : SlAt (w.alloc (.cells #[.int .u64 most] 88)) ad n z := hs.frm ((Frm.refl [] w).alloc _) (by simp)
 have hlt : rb < w.heap.size := World.block_lt_of_cell? w ⟨rb, 0, none⟩ h0
 go_enter Tryz.func52, Tryz.ntmps52
 go_wp2_with (first | (go_at_call 76; refine (frontUint_any _ _ _ most z _ hlc hs1).mono ?_; rintro e w' ⟨rfl, q, rfl⟩) | go_in)
 go_ret3
 go_wp2
 go_ret
 exact ⟨rfl, q, rfl⟩

set_option maxHeartbeats 400000 in
theorem rdUint_ok (rb n cap k : Nat) (ad : Option Addr) (z : Nat → Int) (most : Int) (w : World) (h0 : w.cell? ⟨rb, 0, none⟩ = some (.slice ad n cap)) (h1 : w.cell? ⟨rb, 1, none⟩ = some .nilIface) (hf : w.frozen? ⟨rb, 0, none⟩ = false)
  (hlc : n ≤ cap) (hs : SlAt w ad n z) (hE : errV (uE n z most) = .nilIface) (hk : uN n z most = k) (hkn : k ≤ n) :
  Calls Tryz.prog 52 #[.pointer (some ⟨rb, 0, none⟩), .int .u64 most] w fun e w' =>
   e = .returned (.int .u64 (uV n z most)) ∧ Took (w.alloc (.cells #[.int .u64 most] 88)) w' rb n cap k ad := by
 have hs1 : SlAt (w.alloc (.cells #[.int .u64 most] 88)) ad n z := hs.frm ((Frm.refl [] w).alloc _) (by simp)
 have hlt : rb < w.heap.size := World.block_lt_of_cell? w ⟨rb, 0, none⟩ h0
 have hkn1 : (k : Int) ≤ (n : Int) := by omega
 have hlc1 : (n : Int) ≤ (cap : Int) := by omega
 have hk0 : (0 : Int) ≤ (k : Int) := by omega
 go_enter Tryz.func52, Tryz.ntmps52
 go_wp2_with (first | (go_at_call 76; refine (frontUint_any _ _ _ most z _ hlc hs1).mono ?_; rintro e w' ⟨rfl, q, rfl⟩) | go_in)
 go_ret3
 go_wp2
 ·subst h
  go_ret
  exact ⟨rfl, Took.all _ _ _ _ _ _⟩
 ·go_ret
  exact ⟨rfl, Took.some _ _ _ _ _ _ _⟩

theorem rdUint_any (rb n : Nat) (z : Nat → Int) (most : Int) (w : World) (h : RdAt w rb n z 0) :
  Calls Tryz.prog 52 #[.pointer (some ⟨rb, 0, none⟩), .int .u64 most] w fun e w' =>
   e = .returned (.int .u64 (uV n z most)) ∧ Frm [rb] w w' ∧ RdAt w' rb (n - uN n z most) (fun j => z (j + uN n z most)) (uE n z most) := by
 obtain ⟨ad, cap, hr, hlc, hs, hlb⟩ := h
 by_cases hE : uE n z most = 0
 ·have hk : uN n z most ≤ n := uN_le hE
  refine (rdUint_ok rb n cap (uN n z most) ad z most w (two_cell0 hr) (two_cell1 hr) (two_free hr 0) hlc hs (by rw [hE]; rfl) rfl hk).mono ?_
  rintro e w' ⟨rfl, ht⟩
  rw [hE]
  have := ht.rd hr hlc hs hlb hk ((Frm.refl [] w).alloc _)
  exact ⟨rfl, this.2, this.1⟩
 ·have hN : uN n z most = 0 := by simp [uN, hE]
  have hV : uV n z most = 0 := by simp [uV, hE]
  refine (rdUint_err rb n cap ad z (uE n z most) most w (two_cell0 hr) (two_cell1 hr) (two_free hr 1) hlc hs (errV_ne hE)).mono ?_
  rintro e w' ⟨rfl, q, rfl⟩
  rw [hN, hV, ← errV_ne hE]
  have := RdAt.fail (er := uE n z most) hr hlc hs hlb (((Frm.refl [] w).alloc (.cells #[.int .u64 most] 88)).drewN q)
  exact ⟨rfl, this.2, this.1⟩
end Go.Proofs.YthmmmkldmhjogaaGreatDoor
/- enc.Read: a reader of bytes. -/
namespace Go.Proofs.YthmmmkldmhjogaaGreatDoor
open Go.RowKit

set_option maxHeartbeats 400000 in
theorem read_any (ad : Option Addr) (n cap : Nat) (z : Nat → Int) (w : World) (hs : SlAt w ad n z) (hnil : ad = none → n = 0 ∧ cap = 0) (hn : n ≤ 140737488351232) :
  Calls Tryz.prog 20 #[.slice ad n cap] w fun e w' => ∃ rb, e = .returned (.pointer (some ⟨rb, 0, none⟩)) ∧ RdAt w' rb n z 0 ∧ w.heap.size ≤ rb ∧ Below w.heap.size w w' := by
 go_enter Tryz.func20, Tryz.ntmps20
 go_wp2_with fail
 refine (clone_any ad n cap z w hs hnil hn).mono ?_
 rintro e w1 ⟨ad', cap', rfl, h1, h2, h3, h4, hb⟩
 go_wp2
 go_ret
 exact ⟨w1.heap.size, rfl, ⟨ad', cap', heap_alloc_new w1 _, h1, h2.frm ((Frm.refl [] w1).alloc _) (by simp), fun b off hn e => h2.lt hn e⟩, hb.size, hb.alloc hb.size _⟩
end Go.Proofs.YthmmmkldmhjogaaGreatDoor
/- What (*enc.Reader).Hash does. -/
namespace Go.Proofs.YthmmmkldmhjogaaGreatDoor
open Go.RowKit

/-- Behind frontHash: what is kept of the two variables and the reader, a third variable laid and filled. -/
theorem takeH_mid {w w3 w4 : World} {rb : Nat} {ob : Obj} {h : Nat → Int} (hr : w.heap[rb]? = some ob)
  (hb3 : Below ((w.alloc (.cells (hv nz) 48)).alloc (.cells (hv nz) 48)).heap.size ((w.alloc (.cells (hv nz) 48)).alloc (.cells (hv nz) 48)) w3) (hF4 : Frm [w3.heap.size] (w3.alloc (.cells (hv nz) 48)) w4) (_hg4 : w4.heap[w3.heap.size]? = some (.cells (hv h) 48 (0, 0))) :
  w4.heap[rb]? = some ob ∧ w4.heap[w.heap.size]? = some (.cells (hv nz) 48 (0, 0)) ∧ w4.heap[w.heap.size + 1]? = some (.cells (hv nz) 48 (0, 0)) ∧ Below w.heap.size w w4 := by
 have hrlt : rb < w.heap.size := lt_of_block hr
 have hz3 : w.heap.size + 2 ≤ w3.heap.size := by have := hb3.size; simpa using this
 have k : ∀ j o, j < w.heap.size + 2 → ((w.alloc (.cells (hv nz) 48)).alloc (.cells (hv nz) 48)).heap[j]? = some o → w4.heap[j]? = some o := by
  intro j o hj h
  rw [hF4.block j (by simp; omega) (by simp; omega), Below.heap_alloc _ _ _ (by omega), hb3.block j (by simp; omega)]
  exact h
 refine ⟨k rb ob (by omega) ?_, k _ _ (by omega) (two_allocs_a w _ _), k _ _ (by omega) ?_, ?_⟩
 ·rw [Below.heap_alloc _ _ _ (by simp; omega), Below.heap_alloc _ _ _ hrlt]; exact hr
 ·have := heap_alloc_new (w.alloc (.cells (hv nz) 48)) (.cells (hv nz) 48)
  simpa using this
 ·have h1 : Below w.heap.size w w3 := (((Below.refl _ w).alloc (Nat.le_refl _) _).alloc (by simp) _).trans (hb3.mono (by simp; omega))
  exact (h1.alloc h1.size _).trans (hF4.below (by simp; omega) (by simp; omega))

theorem takeH_frm {w w4 w6 : World} {rb o : Nat} {v : Value} (_hrlt : rb < w.heap.size) (hb : Below w.heap.size w w4) (hF6 : Frm [w.heap.size] (w4.setCell ⟨rb, o, none⟩ v) w6) : Frm [rb] w w6 := by
 have h1 : Frm [rb, w.heap.size] w (w4.setCell ⟨rb, o, none⟩ v) := (Frm.ofBelow hb).setCell _ _ (by simp)
 have h2 : Frm [rb, w.heap.size] w w6 := h1.trans (hF6.mono (by simp))
 exact h2.old (fun k hk hlt => by simp at hk ⊢; omega)

set_option maxRecDepth 100000 in
set_option maxHeartbeats 400000 in
theorem takeH_err (rb n cap : Nat) (ad : Option Addr) (w : World) (hr : w.heap[rb]? = some (.cells #[.slice ad n cap, errV 0] 100 (0, 0))) (hn : n < 32) :
  Calls Tryz.prog 77 #[.pointer (some ⟨rb, 0, none⟩), .func (.func 78) #[] #[]] w fun e w' => e = .returned (.agg (hv nz)) ∧ w'.heap[rb]? = some (.cells #[.slice ad n cap, errV 12] 100 (0, 0)) ∧ Frm [rb] w w' := by
 have hrlt : rb < w.heap.size := lt_of_block hr
 have hr0 : ((w.alloc (.cells (hv nz) 48)).alloc (.cells (hv nz) 48)).heap[rb]? = some (.cells #[.slice ad n cap, errV 0] 100 (0, 0)) := by rw [Below.heap_alloc _ _ _ (by simp; omega), Below.heap_alloc _ _ _ hrlt]; exact hr
 have hc0 := two_cell0 hr0
 have hc1 := two_cell1 hr0
 have HR0 : Hid (((w.alloc (.cells (hv nz) 48)).alloc (.cells (hv nz) 48)).heap[rb]? = some (.cells #[.slice ad n cap, errV 0] 100 (0, 0))) := hr0
 have he0 := errV_0
 clear hr0
 have HR : Hid (w.heap[rb]? = some (.cells #[.slice ad n cap, errV 0] 100 (0, 0))) := hr
 clear hr
 go_enter Tryz.func77, Tryz.ntmps77
 go_wp2_with (first | (refine wpList_allocH rfl rfl ?_) | (go_at_call 78; refine (frontHash_short _ _ _ _ hn).mono ?_; rintro e w3 ⟨rfl, hb3⟩) | (refine wpList_storeH rfl _ _ rfl w3.heap.size rfl nz nz 48 rfl (heap_alloc_new w3 _) ?_; intro w4 hg4 hF4; have HM := takeH_mid HR.out hb3 hF4 hg4; have hf4 := two_free HM.1 1; have hd4 := two_cell1 HM.1; have HM4 := HM; clear HM hc0 hc1 hb3 hF4 hg4) | (refine wpList_loadH rfl _ rfl (w.heap.size + 1) rfl nz 48 (0, 0) ((Below.heap_setCell _ _ _ _ (by simp; omega)).trans HM4.2.2.1) ?_) | (refine wpList_storeH rfl _ _ rfl w.heap.size rfl nz nz 48 rfl ((Below.heap_setCell _ _ _ _ (by simp; omega)).trans HM4.2.1) ?_; intro w6 hg6 hF6))
 refine bodyPost_ret (results_H1 Tryz.results77 _ _ w.heap.size 48 nz (0, 0) rfl hg6) rfl ⟨rfl, hF6.heap (two_set1 HM4.1) (by simp; omega), ?_⟩
 exact takeH_frm hrlt HM4.2.2.2 hF6

/-- What a reader of 32 bytes at least has behind Hash. -/
def TookH (w : World) (rb n cap : Nat) (ad : Option Addr) (w' : World) : Prop :=
 ∃ ad', (ad' = ad ∧ cap = 32 ∨ ad' = Option.map (fun x => x.add 32) ad) ∧ w'.heap[rb]? = some (.cells #[.slice ad' (n - 32) (cap - 32), errV 0] 100 (0, 0)) ∧ Frm [rb] w w'

set_option maxRecDepth 100000 in
set_option maxHeartbeats 400000 in
theorem takeH_ok (rb n cap b off : Nat) (z : Nat → Int) (w : World) (hr : w.heap[rb]? = some (.cells #[.slice (some ⟨b, off, none⟩) n cap, errV 0] 100 (0, 0))) (hn : 32 ≤ n) (hlc : n ≤ cap) (hc : ∀ j, j < n → w.cell? ⟨b, off + j, none⟩ = some (.int .u8 (z j))) :
  Calls Tryz.prog 77 #[.pointer (some ⟨rb, 0, none⟩), .func (.func 78) #[] #[]] w fun e w' => e = .returned (.agg (hv z)) ∧ TookH w rb n cap (some ⟨b, off, none⟩) w' := by
 have hblt : b < w.heap.size := World.block_lt_of_cell? w ⟨b, off + 0, none⟩ (hc 0 (by omega))
 have hc2 : ∀ j, j < n → ((w.alloc (.cells (hv nz) 48)).alloc (.cells (hv nz) 48)).cell? ⟨b, off + j, none⟩ = some (.int .u8 (z j)) := fun j hj => by
  rw [World.cell?_alloc_lt _ _ _ (by simp; omega), World.cell?_alloc_lt _ _ _ (by simpa using hblt)]; exact hc j hj
 have HC : Hid (∀ j, j < n → ((w.alloc (.cells (hv nz) 48)).alloc (.cells (hv nz) 48)).cell? ⟨b, off + j, none⟩ = some (.int .u8 (z j))) := hc2
 clear hc hc2
 have h32 : (32 : Int) ≤ (n : Int) := by omega
 have hlc1 : (n : Int) ≤ (cap : Int) := by omega
 have hrlt : rb < w.heap.size := lt_of_block hr
 have hr0 : ((w.alloc (.cells (hv nz) 48)).alloc (.cells (hv nz) 48)).heap[rb]? = some (.cells #[.slice (some ⟨b, off, none⟩) n cap, errV 0] 100 (0, 0)) := by rw [Below.heap_alloc _ _ _ (by simp; omega), Below.heap_alloc _ _ _ hrlt]; exact hr
 have hc0 := two_cell0 hr0
 have hc1 := two_cell1 hr0
 have HR0 : Hid (((w.alloc (.cells (hv nz) 48)).alloc (.cells (hv nz) 48)).heap[rb]? = some (.cells #[.slice (some ⟨b, off, none⟩) n cap, errV 0] 100 (0, 0))) := hr0
 have he0 := errV_0
 clear hr0
 have HR : Hid (w.heap[rb]? = some (.cells #[.slice (some ⟨b, off, none⟩) n cap, errV 0] 100 (0, 0))) := hr
 clear hr
 go_enter Tryz.func77, Tryz.ntmps77
 go_wp2_with (first | (refine wpList_allocH rfl rfl ?_) | (go_at_call 78; refine (frontHash_long b off n cap z _ hn HC.out).mono ?_; rintro e w3 ⟨rfl, hb3⟩) | (refine wpList_storeH rfl _ _ rfl w3.heap.size rfl z nz 48 rfl (heap_alloc_new w3 _) ?_; intro w4 hg4 hF4; have hz3 := hb3.size; have HM4 := takeH_mid HR.out hb3 hF4 hg4; have hf4 := two_free HM4.1 0; have hd4 := two_cell0 HM4.1; have HG4 := hg4; clear hc0 hc1 hb3 hF4 hg4) | (refine wpList_loadH rfl _ rfl w3.heap.size rfl z 48 (0, 0) ((Below.heap_setCell _ _ _ _ (by simp at hz3 ⊢; omega)).trans HG4) ?_) | (refine wpList_storeH rfl _ _ rfl w.heap.size rfl z nz 48 rfl ((Below.heap_setCell _ _ _ _ (by simp; omega)).trans HM4.2.1) ?_; intro w6 hg6 hF6))
 ·subst h
  exact bodyPost_ret (results_H1 Tryz.results77 _ _ w.heap.size 48 z (0, 0) rfl hg6) rfl ⟨rfl, _, .inl ⟨rfl, rfl⟩, hF6.heap (two_set0 HM4.1) (by simp; omega), takeH_frm hrlt HM4.2.2.2 hF6⟩
 ·exact bodyPost_ret (results_H1 Tryz.results77 _ _ w.heap.size 48 z (0, 0) rfl hg6) rfl ⟨rfl, _, .inr rfl, by simpa [Addr.add_lit, h] using hF6.heap (two_set0 HM4.1) (by simp; omega), takeH_frm hrlt HM4.2.2.2 hF6⟩

/-- The sum that n bytes begin with, the error, how many bytes it stands on. -/
def hZ (n : Nat) (z : Nat → Int) : Nat → Int := if n < 32 then nz else z
def hE (n : Nat) : Int := if n < 32 then 12 else 0
def hN (n : Nat) : Nat := if n < 32 then 0 else 32

theorem takeH_any (rb n cap : Nat) (ad : Option Addr) (z : Nat → Int) (w : World) (hr : w.heap[rb]? = some (.cells #[.slice ad n cap, errV 0] 100 (0, 0))) (hlc : n ≤ cap) (hs : SlAt w ad n z) :
  Calls Tryz.prog 77 #[.pointer (some ⟨rb, 0, none⟩), .func (.func 78) #[] #[]] w fun e w' => e = .returned (.agg (hv (hZ n z))) ∧ Frm [rb] w w' ∧
   ∃ ad' cap', w'.heap[rb]? = some (.cells #[.slice ad' (n - hN n) cap', errV (hE n)] 100 (0, 0)) ∧ n - hN n ≤ cap' ∧ (∀ wo, SlAt wo ad n z → SlAt wo ad' (n - hN n) (fun j => z (j + hN n))) ∧ ∀ b off, 0 < n - hN n → ad' = some ⟨b, off, none⟩ → ∃ off0, ad = some ⟨b, off0, none⟩ := by
 by_cases hn : n < 32
 ·rw [hZ, hN, hE, if_pos hn, if_pos hn, if_pos hn]
  refine (takeH_err rb n cap ad w hr hn).mono ?_
  rintro e w' ⟨rfl, h1, hF⟩
  exact ⟨rfl, hF, ad, cap, h1, hlc, fun _ h => h, fun b off _ e => ⟨off, e⟩⟩
 ·rw [hZ, hN, hE, if_neg hn, if_neg hn, if_neg hn]
  obtain ⟨b, off, rfl, hc⟩ := hs.2 (by omega)
  refine (takeH_ok rb n cap b off z w hr (by omega) hlc hc).mono ?_
  rintro e w' ⟨rfl, ad', ha, h1, hF⟩
  refine ⟨rfl, hF, ad', cap - 32, h1, by omega, fun wo hwo => ?_, fun b2 off2 hn2 e => ?_⟩
  ·rcases ha with ⟨rfl, hc⟩ | rfl
   ·rw [show n - 32 = 0 from by omega]; exact SlAt.zero _ _
   ·exact hwo.drop
  ·rcases ha with ⟨rfl, hc⟩ | rfl
   ·omega
   ·have hbk : ((⟨b, off, none⟩ : Addr).add 32).block = b := by rw [Addr.add_lit]
    simp only [Option.map_some, Option.some.injEq] at e
    have : b2 = b := by rw [← hbk, e]
    exact ⟨off, by rw [this]⟩

set_option maxRecDepth 100000 in
set_option maxHeartbeats 400000 in
theorem rdHash_any (rb n : Nat) (z : Nat → Int) (w : World) (h : RdAt w rb n z 0) :
  Calls Tryz.prog 56 #[.pointer (some ⟨rb, 0, none⟩)] w fun e w' => e = .returned (.agg (hv (hZ n z))) ∧ Frm [rb] w w' ∧ RdAt w' rb (n - hN n) (fun j => z (j + hN n)) (hE n) := by
 obtain ⟨ad, cap, hr, hlc, hs, hlb⟩ := h
 have hrlt : rb < w.heap.size := lt_of_block hr
 have hfa : Frm [] w (w.alloc (.cells (hv nz) 48)) := (Frm.refl [] w).alloc _
 have hr1 := hfa.heap hr (by simp)
 have hs1 := hs.frm hfa (by simp)
 have HR : Hid (w.heap[rb]? = some (.cells #[.slice ad n cap, errV 0] 100 (0, 0))) := hr
 have HR1 : Hid ((w.alloc (.cells (hv nz) 48)).heap[rb]? = some (.cells #[.slice ad n cap, errV 0] 100 (0, 0))) := hr1
 clear hr hr1
 go_enter Tryz.func56, Tryz.ntmps56
 go_wp2_with (first | (refine wpList_allocH rfl rfl ?_) | (go_at_call 77; refine (takeH_any rb n cap ad z _ HR1.out hlc hs1).mono ?_; rintro e w1 ⟨rfl, hF1, hx1⟩) | (refine wpList_storeH rfl _ _ rfl w.heap.size rfl (hZ n z) nz 48 rfl (hF1.heap (heap_alloc_new w _) (by simp; omega)) ?_; intro w2 hg2 hF2))
 have hFa : Frm [rb, w.heap.size] w w2 := (((Frm.refl [rb, w.heap.size] w).alloc (.cells (hv nz) 48)).trans (hF1.mono (by simp))).trans (hF2.mono (by simp))
 refine bodyPost_ret (results_H1 Tryz.results56 _ _ w.heap.size 48 (hZ n z) (0, 0) rfl hg2) rfl ⟨rfl, hFa.old (fun k hk hlt => by simp at hk ⊢; omega), ?_⟩
 obtain ⟨ad', cap', hr', hlc', hwo, hab⟩ := hx1
 have hs' := hwo w hs
 refine ⟨ad', cap', hF2.heap hr' (by simp; omega), hlc', hs'.frm hFa (fun b off hn e hb => ?_), fun b off hn e => (by obtain ⟨o0, e0⟩ := hab b off hn e; exact hlb b o0 (by omega) e0)⟩
 have h1 := hs'.ne_two HR.out hn e
 have h2 := hs'.lt hn e
 simp at hb
 omega
end Go.Proofs.YthmmmkldmhjogaaGreatDoor
/- What (*enc.Reader).Count does. -/
namespace Go.Proofs.YthmmmkldmhjogaaGreatDoor
open Go.RowKit

/-- The error of the count that n bytes z begin with, up to a bound; its value; how many bytes it stands on. -/
def cE (n : Nat) (z : Nat → Int) (most : Int) : Int := if uE n z (max most 0) = 0 then (if ((n - uN n z (max most 0) : Nat) : Int) < uV n z (max most 0) then 2 else 0) else uE n z (max most 0)
def cV (n : Nat) (z : Nat → Int) (most : Int) : Int := if cE n z most = 0 then uV n z (max most 0) else 0
def cN (n : Nat) (z : Nat → Int) (most : Int) : Nat := if cE n z most = 0 then uN n z (max most 0) else 0
theorem cE_u {n : Nat} {z : Nat → Int} {most : Int} (h : cE n z most = 0) : uE n z (max most 0) = 0 := by
 unfold cE at h
 split at h
 ·assumption
 ·exact h
theorem cN_le {n : Nat} {z : Nat → Int} {most : Int} (h : cE n z most = 0) : cN n z most ≤ n := by
 rw [cN, if_pos h]; exact uN_le (cE_u h)
theorem uV_bd {n : Nat} {z : Nat → Int} (most : Int) (hz : ∀ j, j < n → 0 ≤ z j ∧ z j ≤ 255) : 0 ≤ uV n z most ∧ uV n z most ≤ 18446744073709551615 := by
 unfold uV
 split
 ·rename_i h
  by_cases hn : n = 0
  ·subst hn; simp [uE] at h
  ·have h0 := hz 0 (by omega)
   have h8 : z 0 ≤ 8 := by
    unfold uE at h
    rw [if_neg hn] at h
    split at h
    ·simp at h
    ·omega
   exact numV_bd (by omega) (fun j hj => by unfold behind; exact trn_bd (hz _ (by omega)))
 ·simp

set_option maxHeartbeats 400000 in
theorem frontCount_nerr (ad : Option Addr) (n cap : Nat) (most : Int) (z : Nat → Int) (w : World) (hlc : n ≤ cap) (hs : SlAt w ad n z) (hm0 : most < 0)
  (er : Int) (hE : errV (uE n z 0) = .iface 67 (.int .i64 er)) :
  Calls Tryz.prog 55 #[.slice ad n cap, .int .i64 most] w fun e w' => e = .returned (.tuple #[.int .i64 0, .int .i64 0, .iface 67 (.int .i64 er)]) ∧ ∃ q, w' = w.drewN q := by
 have hmx : max most 0 = 0 := by omega
 go_enter Tryz.func55, Tryz.ntmps55
 go_wp2_with (go_at_call 76; refine (frontUint_any _ _ _ _ z _ hlc hs).mono ?_; rintro e w1 ⟨rfl, q, rfl⟩)
 go_ret3
 exact ⟨rfl, _, rfl⟩

set_option maxHeartbeats 400000 in
theorem frontCount_nlong (ad : Option Addr) (n cap : Nat) (most : Int) (z : Nat → Int) (w : World) (hlc : n ≤ cap) (hs : SlAt w ad n z) (hm0 : most < 0)
  (hE : errV (uE n z 0) = .nilIface) (hk : uN n z 0 ≤ n) (hn : n ≤ 140737488351232) (hl : ((n : Int) - (uN n z 0 : Int)) < uV n z 0) :
  Calls Tryz.prog 55 #[.slice ad n cap, .int .i64 most] w fun e w' => e = .returned (.tuple #[.int .i64 0, .int .i64 0, .iface 67 (.int .i64 2)]) ∧ ∃ q, w' = w.drewN q := by
 have hmx : max most 0 = 0 := by omega
 go_enter Tryz.func55, Tryz.ntmps55
 go_wp2_with (go_at_call 76; refine (frontUint_any _ _ _ _ z _ hlc hs).mono ?_; rintro e w1 ⟨rfl, q, rfl⟩)
 go_ret3
 exact ⟨rfl, _, rfl⟩

set_option maxHeartbeats 400000 in
theorem frontCount_nok (ad : Option Addr) (n cap : Nat) (most : Int) (z : Nat → Int) (w : World) (hlc : n ≤ cap) (hs : SlAt w ad n z) (hm0 : most < 0)
  (hE : errV (uE n z 0) = .nilIface) (hk : uN n z 0 ≤ n) (hn : n ≤ 140737488351232) (hv : 0 ≤ uV n z 0) (hl : ¬ ((n : Int) - (uN n z 0 : Int)) < uV n z 0) :
  Calls Tryz.prog 55 #[.slice ad n cap, .int .i64 most] w fun e w' => e = .returned (.tuple #[.int .i64 (uV n z 0), .int .i64 (uN n z 0), .nilIface]) ∧ ∃ q, w' = w.drewN q := by
 have hmx : max most 0 = 0 := by omega
 go_enter Tryz.func55, Tryz.ntmps55
 go_wp2_with (go_at_call 76; refine (frontUint_any _ _ _ _ z _ hlc hs).mono ?_; rintro e w1 ⟨rfl, q, rfl⟩)
 go_ret3
 exact ⟨rfl, _, rfl⟩

set_option maxHeartbeats 400000 in
theorem frontCount_perr (ad : Option Addr) (n cap : Nat) (most : Int) (z : Nat → Int) (w : World) (hlc : n ≤ cap) (hs : SlAt w ad n z) (hm0 : 0 ≤ most) (_hm1 : most ≤ 9223372036854775807)
  (er : Int) (hE : errV (uE n z most) = .iface 67 (.int .i64 er)) :
  Calls Tryz.prog 55 #[.slice ad n cap, .int .i64 most] w fun e w' => e = .returned (.tuple #[.int .i64 0, .int .i64 0, .iface 67 (.int .i64 er)]) ∧ ∃ q, w' = w.drewN q := by
 have hmx : max most 0 = most := by omega
 go_enter Tryz.func55, Tryz.ntmps55
 go_wp2_with (go_at_call 76; refine (frontUint_any _ _ _ _ z _ hlc hs).mono ?_; rintro e w1 ⟨rfl, q, rfl⟩)
 go_ret3
 exact ⟨rfl, _, rfl⟩

set_option maxHeartbeats 400000 in
theorem frontCount_plong (ad : Option Addr) (n cap : Nat) (most : Int) (z : Nat → Int) (w : World) (hlc : n ≤ cap) (hs : SlAt w ad n z) (hm0 : 0 ≤ most) (_hm1 : most ≤ 9223372036854775807)
  (hE : errV (uE n z most) = .nilIface) (hk : uN n z most ≤ n) (hn : n ≤ 140737488351232) (hl : ((n : Int) - (uN n z most : Int)) < uV n z most) :
  Calls Tryz.prog 55 #[.slice ad n cap, .int .i64 most] w fun e w' => e = .returned (.tuple #[.int .i64 0, .int .i64 0, .iface 67 (.int .i64 2)]) ∧ ∃ q, w' = w.drewN q := by
 have hmx : max most 0 = most := by omega
 go_enter Tryz.func55, Tryz.ntmps55
 go_wp2_with (go_at_call 76; refine (frontUint_any _ _ _ _ z _ hlc hs).mono ?_; rintro e w1 ⟨rfl, q, rfl⟩)
 go_ret3
 exact ⟨rfl, _, rfl⟩

set_option maxHeartbeats 400000 in
theorem frontCount_pok (ad : Option Addr) (n cap : Nat) (most : Int) (z : Nat → Int) (w : World) (hlc : n ≤ cap) (hs : SlAt w ad n z) (hm0 : 0 ≤ most) (_hm1 : most ≤ 9223372036854775807)
  (hE : errV (uE n z most) = .nilIface) (hk : uN n z most ≤ n) (hn : n ≤ 140737488351232) (hv : 0 ≤ uV n z most) (hl : ¬ ((n : Int) - (uN n z most : Int)) < uV n z most) :
  Calls Tryz.prog 55 #[.slice ad n cap, .int .i64 most] w fun e w' => e = .returned (.tuple #[.int .i64 (uV n z most), .int .i64 (uN n z most), .nilIface]) ∧ ∃ q, w' = w.drewN q := by
 have hmx : max most 0 = most := by omega
 go_enter Tryz.func55, Tryz.ntmps55
 go_wp2_with (go_at_call 76; refine (frontUint_any _ _ _ _ z _ hlc hs).mono ?_; rintro e w1 ⟨rfl, q, rfl⟩)
 go_ret3
 exact ⟨rfl, _, rfl⟩


theorem errV_2c : errV 2 = .iface 67 (.int .i64 2) := rfl

theorem frontCount_any (ad : Option Addr) (n cap : Nat) (most : Int) (z : Nat → Int) (w : World) (hlc : n ≤ cap) (hn : n ≤ 140737488351232) (hs : SlAt w ad n z) (hm : most ≤ 9223372036854775807) :
  Calls Tryz.prog 55 #[.slice ad n cap, .int .i64 most] w fun e w' => e = .returned (.tuple #[.int .i64 (cV n z most), .int .i64 (cN n z most), errV (cE n z most)]) ∧ ∃ q, w' = w.drewN q := by
 have hv := uV_bd (n := n) (z := z) (max most 0) hs.1
 by_cases hE : uE n z (max most 0) = 0
 ·have hk := uN_le hE
  by_cases hl : ((n - uN n z (max most 0) : Nat) : Int) < uV n z (max most 0)
  ·have e : cE n z most = 2 := by rw [cE, if_pos hE, if_pos hl]
   rw [cV, cN, e, if_neg (by decide), if_neg (by decide), errV_2c]
   by_cases h0 : most < 0
   ·rw [show max most 0 = 0 from by omega] at *
    exact frontCount_nlong ad n cap most z w hlc hs h0 (by rw [hE, errV_0]) hk hn (by omega)
   ·rw [show max most 0 = most from by omega] at *
    exact frontCount_plong ad n cap most z w hlc hs (by omega) hm (by rw [hE, errV_0]) hk hn (by omega)
  ·have e : cE n z most = 0 := by rw [cE, if_pos hE, if_neg hl]
   rw [cV, cN, e, if_pos rfl, if_pos rfl, errV_0]
   by_cases h0 : most < 0
   ·rw [show max most 0 = 0 from by omega] at *
    exact frontCount_nok ad n cap most z w hlc hs h0 (by rw [hE, errV_0]) hk hn hv.1 (by omega)
   ·rw [show max most 0 = most from by omega] at *
    exact frontCount_pok ad n cap most z w hlc hs (by omega) hm (by rw [hE, errV_0]) hk hn hv.1 (by omega)
 ·have e : cE n z most = uE n z (max most 0) := by rw [cE, if_neg hE]
  rw [cV, cN, e, if_neg hE, if_neg hE]
  by_cases h0 : most < 0
  ·rw [show max most 0 = 0 from by omega] at *
   rw [errV_ne hE]
   exact frontCount_nerr ad n cap most z w hlc hs h0 _ (errV_ne hE)
  ·rw [show max most 0 = most from by omega] at *
   rw [errV_ne hE]
   exact frontCount_perr ad n cap most z w hlc hs (by omega) hm _ (errV_ne hE)

set_option maxHeartbeats 400000 in
theorem rdCount_err (rb n cap : Nat) (ad : Option Addr) (z : Nat → Int) (er most : Int) (w : World) (h0 : w.cell? ⟨rb, 0, none⟩ = some (.slice ad n cap)) (h1 : w.cell? ⟨rb, 1, none⟩ = some .nilIface) (hf : w.frozen? ⟨rb, 1, none⟩ = false)
  (hlc : n ≤ cap) (hn : n ≤ 140737488351232) (hm : most ≤ 9223372036854775807) (hs : SlAt w ad n z) (hE : errV (cE n z most) = .iface 67 (.int .i64 er)) :
  Calls Tryz.prog 22 #[.pointer (some ⟨rb, 0, none⟩), .int .i64 most] w fun e w' =>
   e = .returned (.int .i64 0) ∧ ∃ q, w' = ((w.alloc (.cells #[.int .i64 most] 3)).drewN q).setCell ⟨rb, 1, none⟩ (.iface 67 (.int .i64 er)) := by
 have hs1 : SlAt (w.alloc (.cells #[.int .i64 most] 3)) ad n z := hs.frm ((Frm.refl [] w).alloc _) (by simp)
 have hlt : rb < w.heap.size := World.block_lt_of_cell? w ⟨rb, 0, none⟩ h0
 have HM : Hid (most ≤ 9223372036854775807) := hm
 clear hm
 go_enter Tryz.func22, Tryz.ntmps22
 go_wp2_with (first | (go_at_call 55; refine (frontCount_any _ _ _ most z _ hlc hn hs1 HM.out).mono ?_; rintro e w' ⟨rfl, q, rfl⟩) | go_in)
 go_ret3
 go_wp2
 go_ret
 exact ⟨rfl, q, rfl⟩

set_option maxHeartbeats 400000 in
theorem rdCount_ok (rb n cap k : Nat) (ad : Option Addr) (z : Nat → Int) (most : Int) (w : World) (h0 : w.cell? ⟨rb, 0, none⟩ = some (.slice ad n cap)) (h1 : w.cell? ⟨rb, 1, none⟩ = some .nilIface) (hf : w.frozen? ⟨rb, 0, none⟩ = false)
  (hlc : n ≤ cap) (hn : n ≤ 140737488351232) (hm : most ≤ 9223372036854775807) (hs : SlAt w ad n z) (hE : errV (cE n z most) = .nilIface) (hk : cN n z most = k) (hkn : k ≤ n) :
  Calls Tryz.prog 22 #[.pointer (some ⟨rb, 0, none⟩), .int .i64 most] w fun e w' =>
   e = .returned (.int .i64 (cV n z most)) ∧ Took (w.alloc (.cells #[.int .i64 most] 3)) w' rb n cap k ad := by
 have hs1 : SlAt (w.alloc (.cells #[.int .i64 most] 3)) ad n z := hs.frm ((Frm.refl [] w).alloc _) (by simp)
 have hlt : rb < w.heap.size := World.block_lt_of_cell? w ⟨rb, 0, none⟩ h0
 have hkn1 : (k : Int) ≤ (n : Int) := by omega
 have hlc1 : (n : Int) ≤ (cap : Int) := by omega
 have hk0 : (0 : Int) ≤ (k : Int) := by omega
 have HM : Hid (most ≤ 9223372036854775807) := hm
 clear hm
 go_enter Tryz.func22, Tryz.ntmps22
 go_wp2_with (first | (go_at_call 55; refine (frontCount_any _ _ _ most z _ hlc hn hs1 HM.out).mono ?_; rintro e w' ⟨rfl, q, rfl⟩) | go_in)
 go_ret3
 go_wp2
 ·subst h
  go_ret
  exact ⟨rfl, Took.all _ _ _ _ _ _⟩
 ·go_ret
  exact ⟨rfl, Took.some _ _ _ _ _ _ _⟩

theorem rdCount_any (rb n : Nat) (z : Nat → Int) (most : Int) (w : World) (hn : n ≤ 140737488351232) (hm : most ≤ 9223372036854775807) (h : RdAt w rb n z 0) :
  Calls Tryz.prog 22 #[.pointer (some ⟨rb, 0, none⟩), .int .i64 most] w fun e w' =>
   e = .returned (.int .i64 (cV n z most)) ∧ Frm [rb] w w' ∧ RdAt w' rb (n - cN n z most) (fun j => z (j + cN n z most)) (cE n z most) := by
 obtain ⟨ad, cap, hr, hlc, hs, hlb⟩ := h
 by_cases hE : cE n z most = 0
 ·have hk : cN n z most ≤ n := cN_le hE
  refine (rdCount_ok rb n cap (cN n z most) ad z most w (two_cell0 hr) (two_cell1 hr) (two_free hr 0) hlc hn hm hs (by rw [hE]; rfl) rfl hk).mono ?_
  rintro e w' ⟨rfl, ht⟩
  rw [hE]
  have := ht.rd hr hlc hs hlb hk ((Frm.refl [] w).alloc _)
  exact ⟨rfl, this.2, this.1⟩
 ·have hN : cN n z most = 0 := by simp [cN, hE]
  have hV : cV n z most = 0 := by simp [cV, hE]
  refine (rdCount_err rb n cap ad z (cE n z most) most w (two_cell0 hr) (two_cell1 hr) (two_free hr 1) hlc hn hm hs (errV_ne hE)).mono ?_
  rintro e w' ⟨rfl, q, rfl⟩
  rw [hN, hV, ← errV_ne hE]
  have := RdAt.fail (er := cE n z most) hr hlc hs hlb (((Frm.refl [] w).alloc (.cells #[.int .i64 most] 3)).drewN q)
  exact ⟨rfl, this.2, this.1⟩
end Go.Proofs.YthmmmkldmhjogaaGreatDoor
