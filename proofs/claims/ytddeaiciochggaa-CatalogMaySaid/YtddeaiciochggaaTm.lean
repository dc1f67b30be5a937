/- What the reference's walk, CheckExpr and exprs answer: the walks. Conditions: expressions that are read in memory. -/
import Derived.Test.YtddeaiciochggaaTl0
namespace Go.Proofs.Ytddeaiciochggaa.Sy
open Go.RowKit
set_option linter.unusedSimpArgs false
set_option linter.unusedVariables false

/-- What walk answers, R being what comes of its count. -/
def WkPost (R : Nat × Int) (w : World) (e : Ending) (w' : World) : Prop := e = .returned (.tuple #[.int .i64 R.1, .int .i64 R.2]) ∧ Below w.heap.size w w'
theorem WkPost.of {R : Nat × Int} {w w' : World} {c : Nat} {x : Int} (h : R = (c, x)) (hb : Below w.heap.size w w') : WkPost R w (.returned (.tuple #[.int .i64 c, .int .i64 x])) w' := by
  subst h; exact ⟨rfl, hb⟩

/-- The first error of a list. -/
def chkAll {α : Type} (f : α → Int) : List α → Int
  | [] => 0
  | y :: l => if f y = 0 then chkAll f l else f y
theorem chkAll_step {α : Type} {f : α → Int} {l : List α} {j : Nat} {y : α} (h : l[j]? = some y) (h0 : f y = 0) : chkAll f (l.drop j) = chkAll f (l.drop (j + 1)) := by
  have hj : j < l.length := (List.getElem?_eq_some_iff.1 h).1
  rw [List.drop_eq_getElem_cons hj, (List.getElem?_eq_some_iff.1 h).2, chkAll, if_pos h0]
theorem chkAll_stop {α : Type} {f : α → Int} {l : List α} {j : Nat} {y : α} (h : l[j]? = some y) (h0 : f y ≠ 0) : chkAll f (l.drop j) = f y := by
  have hj : j < l.length := (List.getElem?_eq_some_iff.1 h).1
  rw [List.drop_eq_getElem_cons hj, (List.getElem?_eq_some_iff.1 h).2, chkAll, if_neg h0]
theorem chkAll_end {α : Type} {f : α → Int} {l : List α} {j : Nat} (h : l.length ≤ j) : chkAll f (l.drop j) = 0 := by
  rw [List.drop_of_length_le h]; rfl
/-- What CheckExpr answers of an Arg. -/
def chk {n : Nat} (y : Ar n) : Int := chkX y.e

end Go.Proofs.Ytddeaiciochggaa.Sy
