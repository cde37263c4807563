/- The methods of a heap's row, found through its interface. -/
import Derived.Test.YthnobkiiaflelaaDoorOwnShelf01
import Derived.Test.YthnobkiiaflelaaDoorOwnShelf02
namespace Go.Proofs.YthnobkiiaflelaaDoor
open Go.RowKit

theorem load_row (ad : Addr) (w : World) (v : Value) (h : w.cell? ad = some v) : (loadVar 62 ad).run Tryd.prog w = .ok v w := by
  simp [loadVar, h]
theorem nil_chk (xt : TypeId) (ad : Addr) (s t : String) (w : World) : (Builtin.ssaWrapNilChk_ #[xt] xt #[.pointer (some ad), strVal s, strVal t]).run Tryd.prog w = .ok (.pointer (some ad)) w := rfl
/-- A method of the row itself, by the row's address. -/
theorem meth_val (name : String) (F : Nat) (hm : (Tryd.prog.info? 71).map (fun i => (i.methods.find? (·.name == name)).map fun m => (m.path.isEmpty, m.func)) = some (some (true, some (F, false)))) (n : Nat) (hn : n ≠ 0) (ad : Addr) (w : World) (v : Value) (h : w.cell? ad = some v) : (method n 71 (.pointer (some ad)) name).run Tryd.prog w = .ok (F, v) w := by
  obtain ⟨k, rfl⟩ := Nat.exists_eq_succ_of_ne_zero hn
  cases hi : Tryd.prog.info? 71 with
  | none => rw [hi] at hm; cases hm
  | some i =>
    rw [hi] at hm
    simp only [Option.map_some, Option.some.injEq] at hm
    cases hf : i.methods.find? (·.name == name) with
    | none => rw [hf] at hm; cases hm
    | some m =>
      rw [hf] at hm
      simp only [Option.map_some, Option.some.injEq, Prod.mk.injEq] at hm
      have hp : m.path = #[] := by simpa using hm.1
      simp [method, typeInfo, hi, hf, hp, follow, hm.2, receiverAt, run_underlying Tryd.underlying71, Place.get, nil_chk, asAddr, load_row ad w v h]
/-- A method by the row's address. -/
theorem meth_ptr (name : String) (F : Nat) (hm : (Tryd.prog.info? 71).map (fun i => (i.methods.find? (·.name == name)).map fun m => (m.path.isEmpty, m.func)) = some (some (true, some (F, true)))) (n : Nat) (hn : n ≠ 0) (ad : Addr) (w : World) : (method n 71 (.pointer (some ad)) name).run Tryd.prog w = .ok (F, .pointer (some ad)) w := by
  obtain ⟨k, rfl⟩ := Nat.exists_eq_succ_of_ne_zero hn
  cases hi : Tryd.prog.info? 71 with
  | none => rw [hi] at hm; cases hm
  | some i =>
    rw [hi] at hm
    simp only [Option.map_some, Option.some.injEq] at hm
    cases hf : i.methods.find? (·.name == name) with
    | none => rw [hf] at hm; cases hm
    | some m =>
      rw [hf] at hm
      simp only [Option.map_some, Option.some.injEq, Prod.mk.injEq] at hm
      have hp : m.path = #[] := by simpa using hm.1
      simp [method, typeInfo, hi, hf, hp, follow, hm.2, receiverAt, run_underlying Tryd.underlying71, Place.get]
theorem methLess : (Tryd.prog.info? 71).map (fun i => (i.methods.find? (·.name == "Less")).map fun m => (m.path.isEmpty, m.func)) = some (some (true, some (86, false))) := by kernel_rfl
theorem methSwap : (Tryd.prog.info? 71).map (fun i => (i.methods.find? (·.name == "Swap")).map fun m => (m.path.isEmpty, m.func)) = some (some (true, some (87, false))) := by kernel_rfl
theorem methLen : (Tryd.prog.info? 71).map (fun i => (i.methods.find? (·.name == "Len")).map fun m => (m.path.isEmpty, m.func)) = some (some (true, some (85, false))) := by kernel_rfl
theorem methPush : (Tryd.prog.info? 71).map (fun i => (i.methods.find? (·.name == "Push")).map fun m => (m.path.isEmpty, m.func)) = some (some (true, some (89, true))) := by kernel_rfl
theorem methPop : (Tryd.prog.info? 71).map (fun i => (i.methods.find? (·.name == "Pop")).map fun m => (m.path.isEmpty, m.func)) = some (some (true, some (88, true))) := by kernel_rfl
theorem mLess {ad : Addr} {w : World} {v : Value} (h : w.cell? ad = some v) : (method 267 71 (.pointer (some ad)) "Less").run Tryd.prog w = .ok (86, v) w := meth_val "Less" _ methLess 267 (by decide) ad w v h
theorem mSwap {ad : Addr} {w : World} {v : Value} (h : w.cell? ad = some v) : (method 267 71 (.pointer (some ad)) "Swap").run Tryd.prog w = .ok (87, v) w := meth_val "Swap" _ methSwap 267 (by decide) ad w v h
theorem mLen {ad : Addr} {w : World} {v : Value} (h : w.cell? ad = some v) : (method 267 71 (.pointer (some ad)) "Len").run Tryd.prog w = .ok (85, v) w := meth_val "Len" _ methLen 267 (by decide) ad w v h
theorem mPush (ad : Addr) (w : World) : (method 267 71 (.pointer (some ad)) "Push").run Tryd.prog w = .ok (89, .pointer (some ad)) w := meth_ptr "Push" _ methPush 267 (by decide) ad w
theorem mPop (ad : Addr) (w : World) : (method 267 71 (.pointer (some ad)) "Pop").run Tryd.prog w = .ok (88, .pointer (some ad)) w := meth_ptr "Pop" _ methPop 267 (by decide) ad w
end Go.Proofs.YthnobkiiaflelaaDoor
