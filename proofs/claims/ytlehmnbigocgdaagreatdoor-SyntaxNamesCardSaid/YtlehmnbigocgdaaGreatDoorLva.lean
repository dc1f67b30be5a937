/- What the reader's small functions answer (which octets fit), and what its taker makes and does: the walks. Conditions: a reader in a block of its own. -/
import Derived.Test.YtlehmnbigocgdaaGreatDoorProg
import Derived.Test.YtlehmnbigocgdaaGreatDoorLma
import Derived.WalkKit
import Derived.WalkSpells
import Derived.WalkLawsBesides
import Derived.Deep.QuietTactic
import Derived.BigQuiet
import Derived.Deep.RegionHeld3
import Derived.Deep.DeepCutAuto
import Derived.Lib.Hide
namespace Go.Proofs.YtlehmnbigocgdaaGreatDoor.Lx
open Go.RowKit
set_option linter.unusedSimpArgs false
set_option linter.unusedVariables false

theorem ret_bool {a b : Bool} (h : a = b) : Ending.returned (.bool a) = .returned (.bool b) := by rw [h]
theorem ret_int {k : IntKind} {a b : Int} (h : a = b) : Ending.returned (.int k a) = .returned (.int k b) := by rw [h]
theorem u8_eq (c : UInt8) (n : Nat) (h : n < 256) : ((c.toNat : Int) == (n : Int)) = decide (c.toNat = n) := by
  rw [Bool.eq_iff_iff]; simp; omega

set_option maxHeartbeats 400000 in
theorem isBlank_any (c : UInt8) (w : World) : Calls Tryz.prog 88 #[.int .u8 (c.toNat : Int)] w fun e w' => e = .returned (.bool (isBlk c)) ∧ w = w' := by
  have hc := c.toNat_lt
  go_enter Tryz.func88, Tryz.ntmps88
  go_wp2
  all_goals go_ret
  all_goals exact ⟨ret_bool (by (try simp only [beq_iff_eq, beq_eq_false_iff_ne, ne_eq] at *); rw [Bool.eq_iff_iff]; simp [isBlk]; omega), rfl⟩
set_option maxHeartbeats 400000 in
theorem isWithinLine_any (c : UInt8) (w : World) : Calls Tryz.prog 90 #[.int .u8 (c.toNat : Int)] w fun e w' => e = .returned (.bool (isLin c)) ∧ w = w' := by
  have hc := c.toNat_lt
  go_enter Tryz.func90, Tryz.ntmps90
  go_wp2
  all_goals go_ret
  all_goals exact ⟨ret_bool (by rw [Bool.eq_iff_iff]; simp [isLin]; omega), rfl⟩
set_option maxHeartbeats 400000 in
theorem isLetter_any (c : UInt8) (w : World) : Calls Tryz.prog 91 #[.int .u8 (c.toNat : Int)] w fun e w' => e = .returned (.bool (isLet c)) ∧ w = w' := by
  have hc := c.toNat_lt
  go_enter Tryz.func91, Tryz.ntmps91
  go_wp2
  all_goals go_ret
  all_goals exact ⟨ret_bool (by (try simp only [beq_iff_eq, beq_eq_false_iff_ne, ne_eq] at *); rw [Bool.eq_iff_iff]; simp [isLet]; omega), rfl⟩
set_option maxHeartbeats 400000 in
theorem isDigit_any (c : UInt8) (w : World) : Calls Tryz.prog 93 #[.int .u8 (c.toNat : Int)] w fun e w' => e = .returned (.bool (isDig c)) ∧ w = w' := by
  have hc := c.toNat_lt
  go_enter Tryz.func93, Tryz.ntmps93
  go_wp2
  all_goals go_ret
  all_goals exact ⟨ret_bool (by (try simp only [beq_iff_eq, beq_eq_false_iff_ne, ne_eq] at *); rw [Bool.eq_iff_iff]; simp [isDig]; omega), rfl⟩
set_option maxHeartbeats 400000 in
theorem isQuote_any (c : UInt8) (w : World) : Calls Tryz.prog 95 #[.int .u8 (c.toNat : Int)] w fun e w' => e = .returned (.bool (isQuo c)) ∧ w = w' := by
  have hc := c.toNat_lt
  go_enter Tryz.func95, Tryz.ntmps95
  go_wp2
  all_goals go_ret
  all_goals exact ⟨ret_bool (by rw [Bool.eq_iff_iff]; simp [isQuo]; omega), rfl⟩
set_option maxHeartbeats 400000 in
theorem isWithinWord_any (c : UInt8) (w : World) : Calls Tryz.prog 120 #[.int .u8 (c.toNat : Int)] w fun e w' => e = .returned (.bool (isWrd c)) ∧ w = w' := by
  have hL := isLetter_any c
  have hD := isDigit_any c
  have hW : isWrd c = (isLet c || isDig c) := rfl
  generalize isWrd c = x at *
  generalize isLet c = a at *
  generalize isDig c = b at *
  have HW := Lib.hid hW
  clear hW
  go_enter Tryz.func120, Tryz.ntmps120
  go_wp2_with (first | (go_at_call 91; refine (hL _).mono ?_; rintro e w1 ⟨rfl, rfl⟩) | (go_at_call 93; refine (hD _).mono ?_; rintro e w1 ⟨rfl, rfl⟩))
  all_goals go_ret
  all_goals exact ⟨ret_bool (by rw [HW.out]; simp [*]), rfl⟩
set_option maxHeartbeats 400000 in
theorem isWithinQuotes_any (c : UInt8) (w : World) : Calls Tryz.prog 122 #[.int .u8 (c.toNat : Int)] w fun e w' => e = .returned (.bool (isNqu c)) ∧ w = w' := by
  have hL := isQuote_any c
  have hW : isNqu c = !isQuo c := rfl
  generalize isNqu c = x at *
  generalize isQuo c = a at *
  have HW := Lib.hid hW
  clear hW
  go_enter Tryz.func122, Tryz.ntmps122
  go_wp2_with (go_at_call 95; refine (hL _).mono ?_; rintro e w1 ⟨rfl, rfl⟩)
  all_goals go_ret
  all_goals exact ⟨ret_bool (by rw [HW.out]), rfl⟩
end Go.Proofs.YtlehmnbigocgdaaGreatDoor.Lx
