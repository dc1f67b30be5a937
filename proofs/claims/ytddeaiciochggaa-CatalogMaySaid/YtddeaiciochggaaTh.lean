/- What the names' functions answer of any text, at last: syntax.Name and the reference's Name. Conditions: none. -/
import Derived.Test.YtddeaiciochggaaTe
import Derived.Test.YtddeaiciochggaaTg
namespace Go.Proofs.Ytddeaiciochggaa.Sy
open Go.RowKit
set_option linter.unusedSimpArgs false
set_option linter.unusedVariables false

theorem sName_any (s : ByteArray) (w : World) : Calls Try.prog 75 #[.string s] w fun e w' => e = .returned (.bool (nameB s)) ∧ Below w.heap.size w w' :=
  sName_of s w fun h w => keyword_any s w (by omega)

end Go.Proofs.Ytddeaiciochggaa.Sy
