/- What holds of package value answers: the walk. Conditions: op from 8 to 13, the order from -1 to 1. -/
import Derived.Test.YthcipdhfolikaaaVd
import Derived.Deep.DeepCutAuto
namespace Go.Proofs.Ythcipdhfolikaaa
open Go.RowKit
set_option linter.unusedSimpArgs false
set_option linter.unusedVariables false
def holdsB (op c : Int) : Bool := if op = 8 then decide (c = 0) else if op = 9 then decide (c ≠ 0) else if op = 10 then decide (c < 0) else if op = 11 then decide (c ≤ 0) else if op = 12 then decide (c > 0) else decide (c ≥ 0)
set_option maxHeartbeats 4000000 in
theorem holds_any (op c : Int) (hop : op = 8 ∨ op = 9 ∨ op = 10 ∨ op = 11 ∨ op = 12 ∨ op = 13) (hc : c = -1 ∨ c = 0 ∨ c = 1) (w : World) :
    Calls Try.prog 44 #[.int .i64 op, .int .i64 c] w fun e w' => e = .returned (.bool (holdsB op c)) ∧ Below w.heap.size w w' := by
  have HO := Lib.hid hop
  have HC := Lib.hid hc
  clear hop hc
  go_enter Try.func44, Try.ntmps44
  go_upto_region 2 with (fail)
  generalize hw : w.alloc _ = W
  have hcells : ∀ o, W.cell? ⟨w.heap.size, o, none⟩ = #[Value.bool false, Value.bool true, Value.bool false, Value.bool true, Value.bool false, Value.bool true, Value.bool true, Value.bool false, Value.bool false, Value.bool true, Value.bool true, Value.bool false, Value.bool false, Value.bool false, Value.bool true, Value.bool false, Value.bool true, Value.bool true][o]? := fun o => by rw [← hw]; exact cell_last _ _ _ _ _ rfl
  have hbW : Below w.heap.size w W := by rw [← hw]; exact below1 _ _
  clear hw
  have c0 := hcells 0
  have c1 := hcells 1
  have c2 := hcells 2
  have c3 := hcells 3
  have c4 := hcells 4
  have c5 := hcells 5
  have c6 := hcells 6
  have c7 := hcells 7
  have c8 := hcells 8
  have c9 := hcells 9
  have c10 := hcells 10
  have c11 := hcells 11
  have c12 := hcells 12
  have c13 := hcells 13
  have c14 := hcells 14
  have c15 := hcells 15
  have c16 := hcells 16
  have c17 := hcells 17
  clear hcells
  rcases HO.out with rfl | rfl | rfl | rfl | rfl | rfl
  all_goals
    rcases HC.out with rfl | rfl | rfl
    all_goals
      clear HO HC
      go_wp2
      go_ret
      exact ⟨rfl, hbW⟩
end Go.Proofs.Ythcipdhfolikaaa
