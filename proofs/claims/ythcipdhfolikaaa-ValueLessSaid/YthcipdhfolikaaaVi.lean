/- What the closures of amount, exact and divides of package value answer, and number of the reference: the walks. Conditions: numbers of 64 bits. -/
import Derived.Test.YthcipdhfolikaaaVd
namespace Go.Proofs.Ythcipdhfolikaaa
open Go.RowKit
set_option linter.unusedSimpArgs false
set_option linter.unusedVariables false

def exN (n : Int) (b : Bool) : Int := if b = true then n else 0
def exE (b : Bool) : Int := if b = true then 0 else 84
def isLeast (a b : Int) : Bool := decide (a < -9223372036854775807) && decide (b = -1)

set_option maxHeartbeats 400000 in
theorem exact_any (n : Int) (b : Bool) (w : World) :
    Calls Try.prog 46 #[.int .i64 n, .bool b] w fun e w' => e = .returned (.tuple #[.int .i64 (exN n b), .int .i64 (exE b)]) ∧ w = w' := by
  cases b
  all_goals
    go_enter Try.func46, Try.ntmps46
    go_wp2
    go_ret2
    exact ⟨rfl, rfl⟩

set_option maxHeartbeats 400000 in
theorem divides_any (a b : Int) (w : World) :
    Calls Try.prog 49 #[.int .i64 a, .int .i64 b] w fun e w' => e = .returned (.bool (a != -9223372036854775808 || b != -1)) ∧ w = w' := by
  go_enter Try.func49, Try.ntmps49
  go_wp2
  all_goals go_ret
  all_goals exact ⟨ret_bool (by simp [*]), rfl⟩

set_option maxHeartbeats 400000 in
theorem add_any (p q : Addr) (a b : Int) (w : World) (hp : w.cell? p = some (.int .i64 a)) (hq : w.cell? q = some (.int .i64 b)) :
    Calls Try.prog 45 #[.pointer (some p), .pointer (some q)] w fun e w' => e = .returned (.tuple #[.int .i64 (exN (wrap64 (a + b)) (decide (a < wrap64 (a + b)) == decide (0 < b))), .int .i64 (exE (decide (a < wrap64 (a + b)) == decide (0 < b)))]) ∧ w = w' := by
  go_enter Try.func45, Try.ntmps45
  go_wp2_with (go_at_call 46; refine (exact_any _ _ _).mono ?_; rintro e w1 ⟨rfl, rfl⟩)
  go_ret2
  exact ⟨rfl, rfl⟩
set_option maxHeartbeats 400000 in
theorem sub_any (p q : Addr) (a b : Int) (w : World) (hp : w.cell? p = some (.int .i64 a)) (hq : w.cell? q = some (.int .i64 b)) :
    Calls Try.prog 47 #[.pointer (some p), .pointer (some q)] w fun e w' => e = .returned (.tuple #[.int .i64 (exN (wrap64 (a - b)) (decide (wrap64 (a - b) < a) == decide (0 < b))), .int .i64 (exE (decide (wrap64 (a - b) < a) == decide (0 < b)))]) ∧ w = w' := by
  go_enter Try.func47, Try.ntmps47
  go_wp2_with (go_at_call 46; refine (exact_any _ _ _).mono ?_; rintro e w1 ⟨rfl, rfl⟩)
  go_ret2
  exact ⟨rfl, rfl⟩
/-- The product: what decides it. -/
def mulB (a b : Int) : Bool := b == 0 || ((a != -9223372036854775808 || b != -1) && (wrap64 ((wrap64 (a * b)).tdiv b) == a))

theorem exact_q (n : Int) (b : Bool) (w : World) :
    Calls Try.prog 46 #[.int .i64 n, .bool b] w fun e w' => e = .returned (.tuple #[.int .i64 (exN n b), .int .i64 (exE b)]) ∧ w' = w := (exact_any n b w).mono fun _ _ ⟨h1, h2⟩ => ⟨h1, h2.symm⟩
theorem divides_q (a b : Int) (w : World) :
    Calls Try.prog 49 #[.int .i64 a, .int .i64 b] w fun e w' => e = .returned (.bool (a != -9223372036854775808 || b != -1)) ∧ w' = w := (divides_any a b w).mono fun _ _ ⟨h1, h2⟩ => ⟨h1, h2.symm⟩

set_option maxHeartbeats 400000 in
theorem mul_zero (p q : Addr) (a : Int) (w : World) (hp : w.cell? p = some (.int .i64 a)) (hq : w.cell? q = some (.int .i64 0)) :
    Calls Try.prog 48 #[.pointer (some p), .pointer (some q)] w fun e w' => e = .returned (.tuple #[.int .i64 0, .int .i64 0]) ∧ ∃ n, w' = w.drewN n := by
  go_enter Try.func48, Try.ntmps48
  go_wp2_with fail
  go_quiet ((first | (go_at_call 46; exact Calls.quiet_of_same (exact_q _ _ _)) | (go_at_call 49; exact Calls.quiet_of_same (divides_q _ _ _))))
  go_wp2
  go_ret2
  exact ⟨rfl, _, rfl⟩

theorem divides_no (w : World) :
    Calls Try.prog 49 #[.int .i64 (-9223372036854775808), .int .i64 (-1)] w fun e w' => e = .returned (.bool false) ∧ w' = w := divides_q _ _ w
theorem divides_yes (a b : Int) (h : Hid ((a != -9223372036854775808 || b != -1) = true)) (w : World) :
    Calls Try.prog 49 #[.int .i64 a, .int .i64 b] w fun e w' => e = .returned (.bool true) ∧ w' = w := (divides_q a b w).mono fun _ _ ⟨h1, h2⟩ => ⟨by rw [h1, h.out], h2⟩

set_option maxHeartbeats 400000 in
theorem mul_least (p q : Addr) (w : World) (hp : w.cell? p = some (.int .i64 (-9223372036854775808))) (hq : w.cell? q = some (.int .i64 (-1))) :
    Calls Try.prog 48 #[.pointer (some p), .pointer (some q)] w fun e w' => e = .returned (.tuple #[.int .i64 0, .int .i64 84]) ∧ ∃ n, w' = w.drewN n := by
  go_enter Try.func48, Try.ntmps48
  go_wp2_with fail
  go_quiet ((first | (go_at_call 46; exact Calls.quiet_of_same (exact_q _ _ _)) | (go_at_call 49; exact Calls.quiet_of_same (divides_no _))))
  go_wp2
  go_ret2
  exact ⟨rfl, _, rfl⟩

set_option maxHeartbeats 400000 in
theorem mul_any (p q : Addr) (a b : Int) (w : World) (hp : w.cell? p = some (.int .i64 a)) (hq : w.cell? q = some (.int .i64 b)) (hb : (b == 0) = false) (hb0 : ¬ b = 0) (hd : Hid ((a != -9223372036854775808 || b != -1) = true)) :
    Calls Try.prog 48 #[.pointer (some p), .pointer (some q)] w fun e w' => e = .returned (.tuple #[.int .i64 (exN (wrap64 (a * b)) (wrap64 ((wrap64 (a * b)).tdiv b) == a)), .int .i64 (exE (wrap64 ((wrap64 (a * b)).tdiv b) == a))]) ∧ ∃ n, w' = w.drewN n := by
  go_enter Try.func48, Try.ntmps48
  go_wp2_with fail
  go_quiet ((first | (go_at_call 46; exact Calls.quiet_of_same (exact_q _ _ _)) | (go_at_call 49; exact Calls.quiet_of_same (divides_yes _ _ hd _))))
  go_wp2
  go_ret2
  exact ⟨rfl, _, rfl⟩

/-- The quotient: the number, the error. -/
def quoN (a b : Int) : Int := if b = 0 then 0 else if a = -9223372036854775808 ∧ b = -1 then 0 else wrap64 (a.tdiv b)
def quoE (a b : Int) : Int := if b = 0 then 85 else if a = -9223372036854775808 ∧ b = -1 then 84 else 0
theorem ret_nums {a a' c c' : Int} (h1 : a = a') (h2 : c = c') : Ending.returned (.tuple #[.int .i64 a, .int .i64 c]) = .returned (.tuple #[.int .i64 a', .int .i64 c']) := by rw [h1, h2]

set_option maxHeartbeats 400000 in
theorem quo_any (p q : Addr) (a b : Int) (w : World) (hp : w.cell? p = some (.int .i64 a)) (hq : w.cell? q = some (.int .i64 b)) :
    Calls Try.prog 50 #[.pointer (some q), .pointer (some p)] w fun e w' => e = .returned (.tuple #[.int .i64 (quoN a b), .int .i64 (quoE a b)]) ∧ w = w' := by
  by_cases hb0 : b = 0
  · subst hb0
    go_enter Try.func50, Try.ntmps50
    go_wp2
    go_ret2
    exact ⟨rfl, rfl⟩
  · have hb1 : (b == 0) = false := by simpa using hb0
    go_enter Try.func50, Try.ntmps50
    go_wp2_with (go_at_call 49; refine (divides_any _ _ _).mono ?_; rintro e w1 ⟨rfl, rfl⟩)
    all_goals go_ret2
    all_goals exact ⟨ret_nums (by grind [quoN]) (by grind [quoE]), rfl⟩

end Go.Proofs.Ythcipdhfolikaaa
