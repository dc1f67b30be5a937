/- A value's print, by the reference: the walk. Conditions: a value that an expression's part may be. -/
import Derived.Test.YtnbgnofbeklmkaaDoorUa
import Derived.Test.YtnbgnofbeklmkaaDoorUd
namespace Go.Proofs.YtnbgnofbeklmkaaDoor
open Go.RowKit
set_option linter.unusedSimpArgs false
set_option linter.unusedVariables false

theorem litL_at0 {v : Vl} (h : v.k = 0) : litL v = [78, 85, 76, 76] := by unfold litL; rw [if_pos h]
theorem litL_at1 {v : Vl} (h : v.k = 1) : litL v = dec v.n.toNat := by unfold litL; rw [if_neg (by omega), if_pos h]
theorem litL_at2 {v : Vl} (h : v.k = 2) : litL v = if v.n = 1 then [84, 82, 85, 69] else [70, 65, 76, 83, 69] := by unfold litL; rw [if_neg (by omega), if_neg (by omega), if_pos h]
theorem litL_at3 {v : Vl} (h : v.k = 3) : litL v = 39 :: (esc v.s.data.toList ++ [39]) := by unfold litL; rw [if_neg (by omega), if_neg (by omega), if_neg (by omega)]
/-- The kinds of values that may be. -/
theorem lit_cases {v : Vl} (h : litB v.k v.n v.s = true) : v.k = 0 ∨ (v.k = 1 ∧ 0 ≤ v.n) ∨ (v.k = 2 ∧ (v.n = 0 ∨ v.n = 1)) ∨ (v.k = 3 ∧ v.s.size ≤ 64) := by
  unfold litB mayB at h
  by_cases h0 : v.k = 0
  · exact .inl h0
  by_cases h1 : v.k = 1
  · refine .inr (.inl ⟨h1, ?_⟩)
    rw [h1] at h
    simp at h
    exact h.2
  by_cases h2 : v.k = 2
  · refine .inr (.inr (.inl ⟨h2, ?_⟩))
    rw [h2] at h
    simp at h
    exact h.1
  by_cases h3 : v.k = 3
  · refine .inr (.inr (.inr ⟨h3, ?_⟩))
    rw [h3] at h
    simp at h
    omega
  · rw [if_neg h0, if_neg h1, if_neg h2, if_neg h3] at h
    simp at h

end Go.Proofs.YtnbgnofbeklmkaaDoor
