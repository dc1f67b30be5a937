/- What syntax's Name answers of any text: stage 4's text, under this one's names. Conditions: none. -/
import Derived.Test.YtipcacplphidhaaGreatTh
import Derived.Test.YtipcacplphidhaaGreatJa
namespace Go.Proofs.YtipcacplphidhaaGreat
open Go.RowKit
set_option linter.unusedSimpArgs false
set_option linter.unusedVariables false

@[reducible] def nameB (s : ByteArray) : Bool := Sy.nameB s
theorem nameB_long {s : ByteArray} (h : 16 < s.size) : nameB s = false := Sy.nameB_long h
theorem sName_any (s : ByteArray) (w : World) : Calls Tryz.prog 81 #[.string s] w fun e w' => e = .returned (.bool (nameB s)) ∧ Below w.heap.size w w' := Sy.sName_any s w
end Go.Proofs.YtipcacplphidhaaGreat
