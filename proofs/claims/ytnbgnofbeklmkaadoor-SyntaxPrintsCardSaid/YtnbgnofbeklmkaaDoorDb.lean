/- Whether two lists are one, by the program: rows, sets, columns, orders. Conditions: lists that are read in memory. -/
import Derived.Test.YtnbgnofbeklmkaaDoorDa
namespace Go.Proofs.YtnbgnofbeklmkaaDoor
open Go.RowKit
set_option linter.unusedSimpArgs false
set_option linter.unusedVariables false

theorem below_drewN {B : Nat} {a w : World} (h : Below B a w) (n : Nat) : Below B a (w.drewN n) := ⟨h.os, h.tape, h.output, h.size, h.block⟩
theorem eqX_congr {α β : Type} {x y : α} {a b : β} (h : x = y ↔ a = b) : eqX x y = eqX a b := by
  rw [Bool.eq_iff_iff, eqX_iff, eqX_iff, h]
def eqC (a b : Cl) : Bool := (a.m.toList == b.m.toList) && ((a.k == b.k) && (a.nn == b.nn))
def eqO (a b : Od) : Bool := (a.n == b.n) && (a.d == b.d)
theorem stoodC : Tryd.prog.stoodInHeld 50 = false := by kernel_rfl
theorem underC : Tryd.prog.underlying 50 = some (.struct (Tryd.prog.fieldsOf 50)) := by simp only [Program.fieldsOf, Tryd.underlying50]
theorem stoodO : Tryd.prog.stoodInHeld 56 = false := by kernel_rfl
theorem underO : Tryd.prog.underlying 56 = some (.struct (Tryd.prog.fieldsOf 56)) := by simp only [Program.fieldsOf, Tryd.underlying56]
theorem eqC_X (a b : Cl) : eqC a b = eqX a b := by
  rw [Bool.eq_iff_iff, eqX_iff]
  obtain ⟨a0, a1, a2⟩ := a
  obtain ⟨b0, b1, b2⟩ := b
  simp [eqC, ba_iff]
theorem eqO_X (a b : Od) : eqO a b = eqX a b := by
  rw [Bool.eq_iff_iff, eqX_iff]
  obtain ⟨a0, a1⟩ := a
  obtain ⟨b0, b1⟩ := b
  simp [eqO]
theorem run_neC (a b : Cl) (w : World) : (binOp .neq 50 (.agg #[.string a.m, .int .i64 a.k, .bool a.nn]) (.agg #[.string b.m, .int .i64 b.k, .bool b.nn])).run Tryd.prog w = .ok (.bool (!(eqX a b))) w := by
  rw [← eqC_X, run_neq_struct, run_equalIn_agg w 9999 50 _ _ underC stoodC]
  simp [go_sem, eqC, Tryd.underlying50]
  by_cases h1 : a.k = b.k <;> by_cases h2 : a.nn = b.nn <;> by_cases h3 : a.m.toList = b.m.toList <;> simp [h1, h2, h3]
theorem run_neO (a b : Od) (w : World) : (binOp .neq 56 (.agg #[.int .i64 a.n, .bool a.d]) (.agg #[.int .i64 b.n, .bool b.d])).run Tryd.prog w = .ok (.bool (!(eqX a b))) w := by
  rw [← eqO_X, run_neq_struct, run_equalIn_agg w 9999 56 _ _ underO stoodO]
  simp [go_sem, eqO, Tryd.underlying56]
  by_cases h1 : a.n = b.n <;> by_cases h2 : a.d = b.d <;> simp [h1, h2]

end Go.Proofs.YtnbgnofbeklmkaaDoor
