/- How lists of rows and a row are read as arguments. Conditions: none. -/
import Derived.Test.YtjbebhhoakmceaaJy
namespace Go.Proofs.Ytjbebhhoakmceaa
open Go.ChangeShapes Go.WideShapes Go.ChangeAt Go.RowKit Go.Joins
set_option linter.unusedSimpArgs false
set_option linter.unusedVariables false

section
variable {H : Type} {enc : TypeId × Value → H} {w : World} {base : Nat} {spare : Nat → Bool} {held : Bool}
set_option maxRecDepth 100000 in
theorem open_rowsA {v : Value} {d : DataW H} {p : List MemPlace} {r : Reach} {b0 : Nat} (hv : Value.okWide Try.prog w r b0 26 v) (h : DataW.Trod enc Try.prog w base spare held 26 v d p) (hw : Lt 26 d) :
    ∃ (A : Option Addr) (c : Nat) (l : List (List Vl)), v = .slice A l.length c ∧ RdR w A l ∧ (A = none → l.length = 0) ∧ l.length * 24 ≤ 140737488355328 - 24 := by
  obtain ⟨A, n, c, rfl⟩ := okWide_slice Try.underlying26 hv
  obtain ⟨fuel, hf⟩ := h
  have hf' : DataW.trod enc Try.prog w base spare held fuel 26 [.slice A n c] = some (d, p) := by simpa [Value.cells] using hf
  exact open_rows hf' hw
set_option maxRecDepth 100000 in
theorem open_rowA {v : Value} {d : DataW H} {p : List MemPlace} {r : Reach} {b0 : Nat} (hv : Value.okWide Try.prog w r b0 37 v) (h : DataW.Trod enc Try.prog w base spare held 37 v d p) (hw : Lt 37 d) : ∃ l : List Vl, Rw w v l := by
  obtain ⟨A, n, c, rfl⟩ := okWide_slice Try.underlying37 hv
  obtain ⟨fuel, hf⟩ := h
  have hf' : DataW.trod enc Try.prog w base spare held fuel 37 [.slice A n c] = some (d, p) := by simpa [Value.cells] using hf
  exact open_row hf' hw
end
end Go.Proofs.Ytjbebhhoakmceaa
