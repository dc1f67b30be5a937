/- Whether two expressions are one: the walks of SameExpr and SameExprs. Conditions: expressions that are read in memory. -/
import Derived.Test.YtipcacplphidhaaGreatTa
import Derived.Test.YtipcacplphidhaaGreatProg
namespace Go.Proofs.YtipcacplphidhaaGreat.Sy
open Go.RowKit
set_option linter.unusedSimpArgs false
set_option linter.unusedVariables false

noncomputable def eqX {α : Type} (x y : α) : Bool := (Classical.propDecidable (x = y)).decide
theorem eqX_iff {α : Type} {x y : α} : eqX x y = true ↔ x = y := by
  unfold eqX
  exact @decide_eq_true_iff _ (Classical.propDecidable (x = y))
theorem eqX_no {α : Type} {x y : α} : eqX x y = false ↔ ¬ x = y := by
  rw [← eqX_iff (x := x)]; simp

def eqV (a b : Vl) : Bool := (a.k == b.k) && ((a.n == b.n) && (a.s.toList == b.s.toList))
theorem stoodV : Tryz.prog.stoodInHeld 60 = false := by kernel_rfl
theorem underV : Tryz.prog.underlying 60 = some (.struct (Tryz.prog.fieldsOf 60)) := by simp only [Program.fieldsOf, Tryz.underlying60]
theorem guardV : Tryz.prog.eqGuardType Tryz.prog.depth 60 = false := by kernel_rfl
theorem run_eqV (a b : Vl) (w : World) : (binOp .eql 60 (.agg #[.int .i64 a.k, .int .i64 a.n, .string a.s]) (.agg #[.int .i64 b.k, .int .i64 b.n, .string b.s])).run Tryz.prog w = .ok (.bool (eqV a b)) w := by
  rw [run_eql_struct, run_equalIn_agg w 9999 60 _ _ underV stoodV]
  simp [go_sem, eqV, Tryz.underlying60]
  by_cases h1 : a.k = b.k <;> by_cases h2 : a.n = b.n <;> by_cases h3 : a.s.toList = b.s.toList <;> simp [h1, h2, h3]
theorem eqV_iff {a b : Vl} : eqV a b = true ↔ a = b := by
  obtain ⟨a0, a1, a2, _⟩ := a
  obtain ⟨b0, b1, b2, _⟩ := b
  simp [eqV, ba_iff]

/-- What SameExpr asks, in its order. -/
theorem eqX_ex {α : Type} (x y : ExN α) : eqX x y = ((x.op == y.op) && eqV x.v y.v && (x.t.toList == y.t.toList) && (x.m.toList == y.m.toList) && eqX x.l y.l) := by
  rw [Bool.eq_iff_iff, eqX_iff]
  simp only [Bool.and_eq_true, beq_iff_eq, eqV_iff, eqX_iff, ba_iff]
  obtain ⟨op, v, t, m, l⟩ := x
  obtain ⟨op', v', t', m', l'⟩ := y
  simp [and_assoc]

end Go.Proofs.YtipcacplphidhaaGreat.Sy
