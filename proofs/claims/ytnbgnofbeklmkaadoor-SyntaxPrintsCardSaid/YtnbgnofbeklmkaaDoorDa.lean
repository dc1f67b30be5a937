/- Whether two expressions are one, by the program: the walks of sameExpr, sameExprs and EqualFunc at expressions. Conditions: expressions that are read in memory. -/
import Derived.Test.YtnbgnofbeklmkaaDoorTb
namespace Go.Proofs.YtnbgnofbeklmkaaDoor
open Go.RowKit
set_option linter.unusedSimpArgs false
set_option linter.unusedVariables false

end Go.Proofs.YtnbgnofbeklmkaaDoor
