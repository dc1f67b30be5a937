/- Whether two statements are one, by the program: Same, at every two. Conditions: statements that are read in memory. -/
import Derived.Test.YtnbgnofbeklmkaaGreatDoorDc1
import Derived.Test.YtnbgnofbeklmkaaGreatDoorDc2
import Derived.Test.YtnbgnofbeklmkaaGreatDoorDc4
import Derived.Test.YtnbgnofbeklmkaaGreatDoorDc5
namespace Go.Proofs.YtnbgnofbeklmkaaGreatDoor
open Go.RowKit
set_option linter.unusedSimpArgs false
set_option linter.unusedVariables false

/-- Same, at every two statements. -/
theorem sSame_any {m : Nat} (x y : St m) (h h' : Hs) (w : World) (hr : RdSt Any w x h) (hr' : RdSt Any w y h') :
    Calls Tryz.prog 21 #[x.val h, y.val h'] w fun e w' => e = .returned (.bool (decide (chkSt x = 0) && decide (chkSt y = 0) && eqX x y)) ∧ Below w.heap.size w w' := by
  by_cases hx : chkSt x = 0
  · by_cases hy : chkSt y = 0
    · rw [eqX_st]
      cases e0 : (x.kind == y.kind)
      · have g := sSame_0 x y h h' w hr hr' hx hy e0
        simpa only [hx, hy, e0, decide_true, Bool.true_and, Bool.and_true, Bool.false_and, Bool.and_false] using g
      cases e1 : (x.tb.toList == y.tb.toList)
      · have g := sSame_1 x y h h' w hr hr' hx hy e0 e1
        simpa only [hx, hy, e0, e1, decide_true, Bool.true_and, Bool.and_true, Bool.false_and, Bool.and_false] using g
      cases e2 : (x.key.toList == y.key.toList)
      · have g := sSame_2 x y h h' w hr hr' hx hy e0 e1 e2
        simpa only [hx, hy, e0, e1, e2, decide_true, Bool.true_and, Bool.and_true, Bool.false_and, Bool.and_false] using g
      cases e3 : (x.ix.toList == y.ix.toList)
      · have g := sSame_3 x y h h' w hr hr' hx hy e0 e1 e2 e3
        simpa only [hx, hy, e0, e1, e2, e3, decide_true, Bool.true_and, Bool.and_true, Bool.false_and, Bool.and_false] using g
      cases e4 : (x.jn.toList == y.jn.toList)
      · have g := sSame_4 x y h h' w hr hr' hx hy e0 e1 e2 e3 e4
        simpa only [hx, hy, e0, e1, e2, e3, e4, decide_true, Bool.true_and, Bool.and_true, Bool.false_and, Bool.and_false] using g
      cases e5 : (x.lim == y.lim)
      · have g := sSame_5 x y h h' w hr hr' hx hy e0 e1 e2 e3 e4 e5
        simpa only [hx, hy, e0, e1, e2, e3, e4, e5, decide_true, Bool.true_and, Bool.and_true, Bool.false_and, Bool.and_false] using g
      cases e6 : (eqX x.cols y.cols)
      · have g := sSame_6 x y h h' w hr hr' hx hy e0 e1 e2 e3 e4 e5 e6
        simpa only [hx, hy, e0, e1, e2, e3, e4, e5, e6, decide_true, Bool.true_and, Bool.and_true, Bool.false_and, Bool.and_false] using g
      cases e7 : (eqX x.ord y.ord)
      · have g := sSame_7 x y h h' w hr hr' hx hy e0 e1 e2 e3 e4 e5 e6 e7
        simpa only [hx, hy, e0, e1, e2, e3, e4, e5, e6, e7, decide_true, Bool.true_and, Bool.and_true, Bool.false_and, Bool.and_false] using g
      cases e8 : (eqX x.rows y.rows)
      · have g := sSame_8 x y h h' w hr hr' hx hy e0 e1 e2 e3 e4 e5 e6 e7 e8
        simpa only [hx, hy, e0, e1, e2, e3, e4, e5, e6, e7, e8, decide_true, Bool.true_and, Bool.and_true, Bool.false_and, Bool.and_false] using g
      cases e9 : (eqX x.sets y.sets)
      · have g := sSame_9 x y h h' w hr hr' hx hy e0 e1 e2 e3 e4 e5 e6 e7 e8 e9
        simpa only [hx, hy, e0, e1, e2, e3, e4, e5, e6, e7, e8, e9, decide_true, Bool.true_and, Bool.and_true, Bool.false_and, Bool.and_false] using g
      cases e10 : (eqX x.items y.items)
      · have g := sSame_10 x y h h' w hr hr' hx hy e0 e1 e2 e3 e4 e5 e6 e7 e8 e9 e10
        simpa only [hx, hy, e0, e1, e2, e3, e4, e5, e6, e7, e8, e9, e10, decide_true, Bool.true_and, Bool.and_true, Bool.false_and, Bool.and_false] using g
      cases e11 : (eqX x.on y.on)
      · have g := sSame_11 x y h h' w hr hr' hx hy e0 e1 e2 e3 e4 e5 e6 e7 e8 e9 e10 e11
        simpa only [hx, hy, e0, e1, e2, e3, e4, e5, e6, e7, e8, e9, e10, e11, decide_true, Bool.true_and, Bool.and_true, Bool.false_and, Bool.and_false] using g
      cases e12 : (eqX x.wh y.wh)
      · have g := sSame_12 x y h h' w hr hr' hx hy e0 e1 e2 e3 e4 e5 e6 e7 e8 e9 e10 e11 e12
        simpa only [hx, hy, e0, e1, e2, e3, e4, e5, e6, e7, e8, e9, e10, e11, e12, decide_true, Bool.true_and, Bool.and_true, Bool.false_and, Bool.and_false] using g
      cases e13 : (eqX x.gr y.gr)
      · have g := sSame_13 x y h h' w hr hr' hx hy e0 e1 e2 e3 e4 e5 e6 e7 e8 e9 e10 e11 e12 e13
        simpa only [hx, hy, e0, e1, e2, e3, e4, e5, e6, e7, e8, e9, e10, e11, e12, e13, decide_true, Bool.true_and, Bool.and_true, Bool.false_and, Bool.and_false] using g
      have g := sSame_14 x y h h' w hr hr' hx hy e0 e1 e2 e3 e4 e5 e6 e7 e8 e9 e10 e11 e12 e13
      simpa only [hx, hy, e0, e1, e2, e3, e4, e5, e6, e7, e8, e9, e10, e11, e12, e13, decide_true, Bool.true_and, Bool.and_true] using g
    · have g := sSame_bad x y h h' w hr hr' (.inr hy)
      simpa [hy] using g
  · have g := sSame_bad x y h h' w hr hr' (.inl hx)
    simpa [hx] using g
end Go.Proofs.YtnbgnofbeklmkaaGreatDoor
