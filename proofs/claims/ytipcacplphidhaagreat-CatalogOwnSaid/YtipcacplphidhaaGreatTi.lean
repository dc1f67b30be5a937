/- What value's Check, the reference's, isLiteral and the reference's args answer: the walks. Conditions: none. -/
import Derived.Test.YtipcacplphidhaaGreatTb
import Derived.Test.YtipcacplphidhaaGreatTh
namespace Go.Proofs.YtipcacplphidhaaGreat.Sy
open Go.RowKit
set_option linter.unusedSimpArgs false
set_option linter.unusedVariables false

/-- Whether a value may be. -/
def mayB (k n : Int) (s : ByteArray) : Bool :=
  if k = 0 then decide (n = 0) && s.toList.isEmpty
  else if k = 1 then s.toList.isEmpty
  else if k = 2 then (decide (n = 0) || decide (n = 1)) && s.toList.isEmpty
  else if k = 3 then decide (n = 0) && decide ((s.size : Int) ≤ 64)
  else false
def checkN (k n : Int) (s : ByteArray) : Int := if mayB k n s = true then 0 else 9

set_option maxHeartbeats 400000 in
theorem mayBe_any (k n : Int) (s : ByteArray) (w : World) :
    Calls Tryz.prog 99 #[.agg #[.int .i64 k, .int .i64 n, .string s]] w fun e w' => e = .returned (.bool (mayB k n s)) ∧ Below w.heap.size w w' := by
  go_enter Tryz.func99, Tryz.ntmps99
  go_wp2
  all_goals go_ret
  all_goals simp only [beq_iff_eq, beq_eq_false_iff_ne, ne_eq] at *
  all_goals exact ⟨ret_bool (by simp [mayB, *]), below1 _ _⟩
set_option maxHeartbeats 400000 in
theorem r1Check_any (k n : Int) (s : ByteArray) (w : World) :
    Calls Tryz.prog 88 #[.agg #[.int .i64 k, .int .i64 n, .string s]] w fun e w' => e = .returned (.int .i64 (checkN k n s)) ∧ Below w.heap.size w w' := by
  go_enter Tryz.func88, Tryz.ntmps88
  go_wp2
  all_goals go_ret
  all_goals simp only [beq_iff_eq, beq_eq_false_iff_ne, ne_eq] at *
  all_goals exact ⟨ret_int (by simp [checkN, mayB, *] <;> omega), below1 _ _⟩
set_option maxHeartbeats 400000 in
theorem vCheck_any (k n : Int) (s : ByteArray) (w : World) :
    Calls Tryz.prog 95 #[.agg #[.int .i64 k, .int .i64 n, .string s]] w fun e w' => e = .returned (.int .i64 (checkN k n s)) ∧ Below w.heap.size w w' := by
  go_enter Tryz.func95, Tryz.ntmps95
  go_wp2_with (go_at_call 99; refine (mayBe_any _ _ _ _).mono ?_; rintro e w1 ⟨rfl, hb⟩)
  all_goals
    go_ret
    have hb' := hb
    clear hb
    simp only [Bool.not_eq_true', Bool.not_eq_false'] at *
    exact ⟨ret_int (by simp [checkN, *]), below_of1 hb'⟩

/-- Whether a value may stand as a literal. -/
def litB (k n : Int) (s : ByteArray) : Bool := mayB k n s && (decide (k ≠ 1) || decide (0 ≤ n))
set_option maxHeartbeats 400000 in
theorem sisLiteral_any (k n : Int) (s : ByteArray) (w : World) :
    Calls Tryz.prog 93 #[.agg #[.int .i64 k, .int .i64 n, .string s]] w fun e w' => e = .returned (.bool (litB k n s)) ∧ Below w.heap.size w w' := by
  have hC := fun w => vCheck_any k n s w
  have hB : checkN k n s = if mayB k n s = true then 0 else 9 := rfl
  unfold litB
  generalize checkN k n s = C at hC hB
  generalize mayB k n s = M at hB ⊢
  cases M
  · obtain rfl : C = 9 := hB
    go_enter Tryz.func93, Tryz.ntmps93
    go_wp2_with (go_at_call 95; refine (hC _).mono ?_; rintro e w1 ⟨rfl, hb⟩)
    go_ret
    exact ⟨rfl, below_of1 (by assumption)⟩
  · obtain rfl : C = 0 := hB
    go_enter Tryz.func93, Tryz.ntmps93
    go_wp2_with (go_at_call 95; refine (hC _).mono ?_; rintro e w1 ⟨rfl, hb⟩; obtain ⟨hcc, hff⟩ := bcell hb)
    all_goals go_ret
    all_goals refine ⟨ret_bool ?_, below_of1 (by assumption)⟩
    all_goals simp [*]

/-- How many Args an op has. -/
def argsI (op : Int) : Int := if op < 0 ∨ 22 < op then -1 else if op ≤ 1 ∨ op = 18 then 0 else if op ≤ 3 ∨ 16 ≤ op then 1 else 2
set_option maxHeartbeats 400000 in
theorem rargs_any (op : Int) (w : World) : Calls Tryz.prog 87 #[.int .i64 op] w fun e w' => e = .returned (.int .i64 (argsI op)) ∧ w = w' := by
  go_enter Tryz.func87, Tryz.ntmps87
  go_wp2
  all_goals go_ret
  all_goals refine ⟨ret_int ?_, rfl⟩
  all_goals (try simp only [beq_iff_eq, beq_eq_false_iff_ne, ne_eq, decide_eq_true_eq, decide_eq_false_iff_not] at *)
  all_goals unfold argsI
  all_goals grind
end Go.Proofs.YtipcacplphidhaaGreat.Sy
