/- Whether two statements are one, by the program: the walk of Same. Conditions: statements that are read in memory. -/
import Derived.Test.YtnbgnofbeklmkaaDoorDb
import Derived.Test.YtnbgnofbeklmkaaDoorCc
namespace Go.Proofs.YtnbgnofbeklmkaaDoor
open Go.RowKit
set_option linter.unusedSimpArgs false
set_option linter.unusedVariables false

theorem eqX_st {n : Nat} (x y : St n) : eqX x y = ((x.kind == y.kind) && (x.tb.toList == y.tb.toList) && (x.key.toList == y.key.toList) && (x.ix.toList == y.ix.toList) && (x.jn.toList == y.jn.toList) && (x.lim == y.lim) &&
    eqX x.cols y.cols && eqX x.ord y.ord && eqX x.rows y.rows && eqX x.sets y.sets && eqX x.items y.items && eqX x.on y.on && eqX x.wh y.wh && eqX x.gr y.gr) := by
  rw [Bool.eq_iff_iff, eqX_iff]
  simp only [Bool.and_eq_true, beq_iff_eq, eqX_iff, ba_iff]
  obtain ⟨k0, k1, k2, k3, k4, k5, k6, k7, k8, k9, k10, k11, k12, k13⟩ := x
  obtain ⟨l0, l1, l2, l3, l4, l5, l6, l7, l8, l9, l10, l11, l12, l13⟩ := y
  simp
  grind
theorem two_next {w w1 : World} {b c : Nat} {o p : Obj} (hX : w.heap[b]? = some o) (hY : w.heap[c]? = some p) (hb : Below w.heap.size w w1) : w1.heap[b]? = some o ∧ w1.heap[c]? = some p := by
  have lt : ∀ (g : Nat) (q : Obj), w.heap[g]? = some q → g < w.heap.size := fun g q h => by
    rcases Nat.lt_or_ge g w.heap.size with h' | h'
    · exact h'
    · rw [Array.getElem?_eq_none h'] at h; cases h
  exact ⟨(hb.block b (lt b o hX)).trans hX, (hb.block c (lt c p hY)).trans hY⟩

end Go.Proofs.YtnbgnofbeklmkaaDoor
