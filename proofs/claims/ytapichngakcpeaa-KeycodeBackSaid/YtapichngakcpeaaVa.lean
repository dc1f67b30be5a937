/- What value.Check, value.Order, cmp.Compare, bits.Len64 and the small functions of package keycode answer for any arguments: the walks. Conditions: numbers of 64 bits. -/
import Derived.Test.YtapichngakcpeaaProg
import Derived.Test.YtapichngakcpeaaMb
import Derived.WalkKit
import Derived.WalkSpells
import Derived.WalkLawsBesides
import Derived.Deep.QuietTactic
import Derived.BigQuiet
import Derived.Lib.Hide
namespace Go.Proofs.Ytapichngakcpeaa
open Go.RowKit
set_option linter.unusedSimpArgs false
set_option linter.unusedVariables false

theorem below1 (w : World) (o : Obj) : Below w.heap.size w (w.alloc o) := (Below.refl _ _).alloc (Nat.le_refl _) o
theorem ret_bool {a b : Bool} (h : a = b) : Ending.returned (.bool a) = .returned (.bool b) := by rw [h]
theorem ret_int {k : IntKind} {a b : Int} (h : a = b) : Ending.returned (.int k a) = .returned (.int k b) := by rw [h]
theorem bcell {W w1 : World} (hb : Below W.heap.size W w1) : (∀ b o, b < W.heap.size → w1.cell? ⟨b, o, none⟩ = W.cell? ⟨b, o, none⟩) ∧ (∀ b o, b < W.heap.size → w1.frozen? ⟨b, o, none⟩ = W.frozen? ⟨b, o, none⟩) :=
  ⟨fun b o h => hb.cell (p := ⟨b, o, none⟩) h, fun b o h => hb.frozen (p := ⟨b, o, none⟩) h⟩

set_option maxHeartbeats 400000 in
theorem mayBe_any (k n : Int) (s : ByteArray) (w : World) :
    Calls Try.prog 23 #[.agg #[.int .i64 k, .int .i64 n, .string s]] w fun e w' => e = .returned (.bool (mayB k n s)) ∧ Below w.heap.size w w' := by
  go_enter Try.func23, Try.ntmps23
  go_wp2
  all_goals go_ret
  all_goals simp only [beq_iff_eq, beq_eq_false_iff_ne, ne_eq] at *
  all_goals exact ⟨ret_bool (by simp [mayB, *]), below1 _ _⟩

def checkN (k n : Int) (s : ByteArray) : Int := if mayB k n s = true then 0 else 9

set_option maxHeartbeats 400000 in
theorem check_any (k n : Int) (s : ByteArray) (w : World) :
    Calls Try.prog 17 #[.agg #[.int .i64 k, .int .i64 n, .string s]] w fun e w' => e = .returned (.int .i64 (checkN k n s)) ∧ Below w.heap.size w w' := by
  go_enter Try.func17, Try.ntmps17
  go_wp2_with (go_at_call 23; refine (mayBe_any _ _ _ _).mono ?_; rintro e w1 ⟨rfl, hb⟩)
  all_goals
    go_ret
    have hb' := hb
    clear hb
    simp only [Bool.not_eq_true', Bool.not_eq_false'] at *
    exact ⟨ret_int (by simp [checkN, *]), (below1 _ _).trans (hb'.mono (by simp))⟩

set_option maxHeartbeats 400000 in
theorem cmpI_any (a b : Int) (w : World) :
    Calls Try.prog 29 #[.int .i64 a, .int .i64 b] w fun e w' => e = .returned (.int .i64 (ordI a b)) ∧ w = w' := by
  go_enter Try.func29, Try.ntmps29
  go_wp2
  all_goals go_ret
  all_goals exact ⟨ret_int (by unfold ordI; first | rw [if_pos (by omega)] | rw [if_neg (by omega), if_pos (by omega)] | rw [if_neg (by omega), if_neg (by omega)]), rfl⟩

theorem cmpL_vals : ∀ a b, cmpL a b = -1 ∨ cmpL a b = 0 ∨ cmpL a b = 1
  | [], [] => .inr (.inl rfl)
  | [], _ :: _ => .inl rfl
  | _ :: _, [] => .inr (.inr rfl)
  | a :: x, b :: y => by
    rcases u8_lt_or a b with h | h | h
    · exact .inl (cmpL_lt h _ _)
    · subst h; rw [cmpL_eq]; exact cmpL_vals x y
    · exact .inr (.inr (cmpL_gt h _ _))
theorem cmpL_tri (a b : ByteArray) : cmpL a.data.toList b.data.toList = if Op.bytesLess a.toList b.toList = true then -1 else if a.toList = b.toList then 0 else 1 := by
  rw [cmpL_less, ByteArray.toList_eq, ByteArray.toList_eq]
  have h1 := cmpL_vals a.data.toList b.data.toList
  have h2 := cmpL_zero a.data.toList b.data.toList
  by_cases h : cmpL a.data.toList b.data.toList < 0
  · rw [if_pos (by simpa using h)]; omega
  · rw [if_neg (by simpa using h)]
    by_cases e : a.data.toList = b.data.toList
    · rw [if_pos e]; exact h2.2 e
    · rw [if_neg e]
      have : ¬ cmpL a.data.toList b.data.toList = 0 := fun x => e (h2.1 x)
      omega

set_option maxHeartbeats 400000 in
theorem cmpS_any (a b : ByteArray) (w : World) :
    Calls Try.prog 30 #[.string a, .string b] w fun e w' => e = .returned (.int .i64 (cmpL a.data.toList b.data.toList)) ∧ w = w' := by
  go_enter Try.func30, Try.ntmps30
  go_wp2
  all_goals go_ret
  all_goals simp only [Bool.not_eq_true', Bool.not_eq_false', beq_iff_eq, beq_eq_false_iff_ne, ne_eq] at *
  all_goals refine ⟨ret_int (by rw [cmpL_tri]; grind), ?_⟩
  all_goals first | rfl | trivial

set_option maxHeartbeats 400000 in
theorem order_any (v v' : Vl) (w : World) :
    Calls Try.prog 22 #[.agg #[.int .i64 v.k, .int .i64 v.n, .string v.s], .agg #[.int .i64 v'.k, .int .i64 v'.n, .string v'.s]] w fun e w' => e = .returned (.int .i64 (ordV v v')) ∧ Below w.heap.size w w' := by
  obtain ⟨k, n, s⟩ := v
  obtain ⟨k', n', s'⟩ := v'
  go_enter Try.func22, Try.ntmps22
  go_wp2_with (first | (go_at_call 29; refine (cmpI_any _ _ _).mono ?_; rintro e w1 ⟨rfl, rfl⟩) | (go_at_call 30; refine (cmpS_any _ _ _).mono ?_; rintro e w1 ⟨rfl, rfl⟩))
  all_goals go_ret
  all_goals simp only [bne_iff_ne, bne_eq_false_iff_eq, beq_iff_eq, beq_eq_false_iff_ne, ne_eq] at *
  all_goals exact ⟨ret_int (by grind [ordV]), (below1 _ _).alloc (by simp) _⟩

theorem num_any (a : Int) (w : World) : Calls Try.prog 11 #[.int .i64 a] w fun e w' => e = .returned (.int .i64 a) ∧ w = w' := by
  go_enter Try.func11, Try.ntmps11
  go_wp2
  go_ret
  exact ⟨rfl, rfl⟩

theorem after_any (s : ByteArray) (w : World) (h : s.size ≤ 140737488351232) : Calls Try.prog 16 #[.string s] w fun e w' => e = .returned (.string (s ++ ⟨#[0]⟩)) ∧ w = w' := by
  have hadd := run_string_add_sum (P := Try.prog) w s ⟨#[0]⟩ (by have : (ByteArray.mk #[0]).size = 1 := rfl; omega)
  go_enter Try.func16, Try.ntmps16
  go_wp2
  go_ret
  exact ⟨rfl, rfl⟩

end Go.Proofs.Ytapichngakcpeaa
