/- How an expression is printed by the reference: the walk of printed. Conditions: an expression whose parts may be, read in memory; a short text. -/
import Derived.Test.YtnbgnofbeklmkaaDoorUe
namespace Go.Proofs.YtnbgnofbeklmkaaDoor
open Go.RowKit
set_option linter.unusedSimpArgs false
set_option linter.unusedVariables false

theorem mk_sz (l : List UInt8) : (⟨l.toArray⟩ : ByteArray).size = l.length := by rw [← bsz]
theorem add_zero_eq (ad : Addr) : ad.add (0 * 7) = ad := by unfold Addr.add; rw [if_pos (by omega)]

end Go.Proofs.YtnbgnofbeklmkaaDoor
