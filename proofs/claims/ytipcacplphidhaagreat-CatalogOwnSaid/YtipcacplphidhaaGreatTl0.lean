/- How the parts of an expression are counted and asked, one by one: plain mathematics. Conditions: none. -/
import Derived.Test.YtipcacplphidhaaGreatTk
namespace Go.Proofs.YtipcacplphidhaaGreat.Sy
open Go.RowKit
set_option linter.unusedSimpArgs false
set_option linter.unusedVariables false

/-- All of a list, counted on; the first error. -/
def wkAll {α : Type} (f : Nat → α → Nat × Int) : Nat → List α → Nat × Int
  | c, [] => (c, 0)
  | c, y :: l => if (f c y).2 = 0 then wkAll f (f c y).1 l else f c y
/-- A part at a level, c parts having been counted: how many then, and the error. -/
def wk : (n : Nat) → Nat → Nat → Ar n → Nat × Int
  | 0, _, _, y => Empty.elim y
  | n + 1, lvl, c, (x : ExN (Ar n)) => if 12 < lvl then (c, 10) else if 64 ≤ c then (c, 3) else if partB x = false then (c, 9) else wkAll (wk n (lvl + 1)) (c + 1) x.l
def wkX {n : Nat} (lvl c : Nat) (x : ExN (Ar n)) : Nat × Int := wk (n + 1) lvl c x
/-- What CheckExpr answers. -/
def chkX {n : Nat} (x : ExN (Ar n)) : Int := (wkX 1 0 x).2
theorem wkAll_step {α : Type} {f : Nat → α → Nat × Int} {c : Nat} {l : List α} {j : Nat} {y : α} (h : l[j]? = some y) (h0 : (f c y).2 = 0) : wkAll f c (l.drop j) = wkAll f (f c y).1 (l.drop (j + 1)) := by
  have hj : j < l.length := (List.getElem?_eq_some_iff.1 h).1
  have e : l.drop j = y :: l.drop (j + 1) := by rw [List.drop_eq_getElem_cons hj, (List.getElem?_eq_some_iff.1 h).2]
  rw [e, wkAll, if_pos h0]
theorem wkAll_stop {α : Type} {f : Nat → α → Nat × Int} {c : Nat} {l : List α} {j : Nat} {y : α} (h : l[j]? = some y) (h0 : (f c y).2 ≠ 0) : wkAll f c (l.drop j) = f c y := by
  have hj : j < l.length := (List.getElem?_eq_some_iff.1 h).1
  have e : l.drop j = y :: l.drop (j + 1) := by rw [List.drop_eq_getElem_cons hj, (List.getElem?_eq_some_iff.1 h).2]
  rw [e, wkAll, if_neg h0]
theorem wkAll_end {α : Type} {f : Nat → α → Nat × Int} {c : Nat} {l : List α} {j : Nat} (h : l.length ≤ j) : wkAll f c (l.drop j) = (c, 0) := by
  rw [List.drop_of_length_le h]; rfl
theorem wkX_deep {n lvl c : Nat} {x : ExN (Ar n)} (h : 12 < lvl) : wkX lvl c x = (c, 10) := by unfold wkX; rw [wk, if_pos h]
theorem wkX_many {n lvl c : Nat} {x : ExN (Ar n)} (h : ¬ 12 < lvl) (h1 : 64 ≤ c) : wkX lvl c x = (c, 3) := by unfold wkX; rw [wk, if_neg h, if_pos h1]
theorem wkX_part {n lvl c : Nat} {x : ExN (Ar n)} (h : ¬ 12 < lvl) (h1 : ¬ 64 ≤ c) (h2 : partB x = false) : wkX lvl c x = (c, 9) := by unfold wkX; rw [wk, if_neg h, if_neg h1, if_pos h2]
theorem wkX_on {n lvl c : Nat} {x : ExN (Ar n)} (h : ¬ 12 < lvl) (h1 : ¬ 64 ≤ c) (h2 : partB x = true) : wkX lvl c x = wkAll (wk n (lvl + 1)) (c + 1) x.l := by unfold wkX; rw [wk, if_neg h, if_neg h1, if_neg (by rw [h2]; simp)]
/-- Counted parts stay few. -/
theorem wkAll_le {α : Type} {f : Nat → α → Nat × Int} (hf : ∀ c y, c ≤ 64 → (f c y).1 ≤ 64) : ∀ (l : List α) (c : Nat), c ≤ 64 → (wkAll f c l).1 ≤ 64
  | [], c, h => h
  | y :: l, c, h => by
    rw [wkAll]
    split
    · exact wkAll_le hf l _ (hf c y h)
    · exact hf c y h
theorem wkX_le' {n : Nat} (ih : ∀ lvl c (y : Ar n), c ≤ 64 → (wk n lvl c y).1 ≤ 64) (lvl c : Nat) (x : ExN (Ar n)) (h : c ≤ 64) : (wkX lvl c x).1 ≤ 64 := by
  by_cases h1 : 12 < lvl
  · rw [wkX_deep h1]; exact h
  by_cases h2 : 64 ≤ c
  · rw [wkX_many h1 h2]; exact h
  cases h3 : partB x
  · rw [wkX_part h1 h2 h3]; exact h
  · rw [wkX_on h1 h2 h3]
    exact wkAll_le (fun c y h => ih (lvl + 1) c y h) _ _ (by omega)
theorem wk_le : ∀ (n lvl c : Nat) (y : Ar n), c ≤ 64 → (wk n lvl c y).1 ≤ 64
  | 0, _, _, y, _ => Empty.elim y
  | n + 1, lvl, c, x, h => wkX_le' (wk_le n) lvl c x h
end Go.Proofs.YtipcacplphidhaaGreat.Sy
