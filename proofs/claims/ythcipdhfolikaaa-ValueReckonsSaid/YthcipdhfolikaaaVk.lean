/- What number of the reference answers for any numbers: the walks. Conditions: both numbers are of 64 bits. -/
import Derived.Test.YthcipdhfolikaaaVj
namespace Go.Proofs.Ythcipdhfolikaaa
open Go.RowKit
set_option linter.unusedSimpArgs false
set_option linter.unusedVariables false

theorem ret_nb {a a' : Int} {c c' : Bool} (h1 : a = a') (h2 : c = c') : Ending.returned (.tuple #[.int .i64 a, .bool c]) = .returned (.tuple #[.int .i64 a', .bool c']) := by rw [h1, h2]

set_option maxHeartbeats 400000 in
theorem rnum_4 (a b : Int) (w : World) (ha1 : -9223372036854775808 ≤ a) (ha2 : a ≤ 9223372036854775807) (hb1 : -9223372036854775808 ≤ b) (hb2 : b ≤ 9223372036854775807) :
    Calls Try.prog 35 #[.int .i64 4, .int .i64 a, .int .i64 b] w fun e w' => e = .returned (.tuple #[.int .i64 (wrap64 (a + b)), .bool (inR (a + b))]) ∧ ∃ n, w' = w.drewN n := by
  go_enter Try.func35, Try.ntmps35
  go_wp2
  all_goals go_ret2
  all_goals refine ⟨ret_nb (by first | rfl | (unfold wrap64; omega)) (by rw [Bool.eq_iff_iff]; simp [inR]; omega), 0, rfl⟩

set_option maxHeartbeats 400000 in
theorem rnum_5 (a b : Int) (w : World) (ha1 : -9223372036854775808 ≤ a) (ha2 : a ≤ 9223372036854775807) (hb1 : -9223372036854775808 ≤ b) (hb2 : b ≤ 9223372036854775807) :
    Calls Try.prog 35 #[.int .i64 5, .int .i64 a, .int .i64 b] w fun e w' => e = .returned (.tuple #[.int .i64 (wrap64 (a - b)), .bool (inR (a - b))]) ∧ ∃ n, w' = w.drewN n := by
  go_enter Try.func35, Try.ntmps35
  go_wp2
  all_goals go_ret2
  all_goals refine ⟨ret_nb (by first | rfl | (unfold wrap64; omega)) (by rw [Bool.eq_iff_iff]; simp [inR]; omega), 0, rfl⟩

set_option maxHeartbeats 400000 in
theorem rnum_6_zero (b : Int) (w : World) :
    Calls Try.prog 35 #[.int .i64 6, .int .i64 0, .int .i64 b] w fun e w' => e = .returned (.tuple #[.int .i64 0, .bool true]) ∧ ∃ n, w' = w.drewN n := by
  go_enter Try.func35, Try.ntmps35
  go_wp2_with fail
  go_quiet (fail)
  go_wp2
  go_ret2
  exact ⟨rfl, _, rfl⟩
set_option maxHeartbeats 400000 in
theorem rnum_6_least (w : World) :
    Calls Try.prog 35 #[.int .i64 6, .int .i64 (-1), .int .i64 (-9223372036854775808)] w fun e w' => e = .returned (.tuple #[.int .i64 (wrap64 9223372036854775808), .bool false]) ∧ ∃ n, w' = w.drewN n := by
  go_enter Try.func35, Try.ntmps35
  go_wp2_with fail
  go_quiet (fail)
  go_wp2
  go_ret2
  exact ⟨rfl, _, rfl⟩
set_option maxHeartbeats 400000 in
theorem rnum_6_least' (w : World) :
    Calls Try.prog 35 #[.int .i64 6, .int .i64 (-9223372036854775808), .int .i64 (-1)] w fun e w' => e = .returned (.tuple #[.int .i64 (wrap64 9223372036854775808), .bool false]) ∧ ∃ n, w' = w.drewN n := by
  go_enter Try.func35, Try.ntmps35
  go_wp2_with fail
  go_quiet (fail)
  go_wp2
  go_ret2
  exact ⟨rfl, _, rfl⟩
set_option maxHeartbeats 400000 in
theorem rnum_6_any (a b : Int) (w : World) (ha0 : ¬ a = 0) (ha1 : (a == 0) = false) (h1 : (a == -1) = false) (h2 : (b == -1) = false) :
    Calls Try.prog 35 #[.int .i64 6, .int .i64 a, .int .i64 b] w fun e w' => e = .returned (.tuple #[.int .i64 (wrap64 (a * b)), .bool (wrap64 ((wrap64 (a * b)).tdiv a) == b)]) ∧ ∃ n, w' = w.drewN n := by
  go_enter Try.func35, Try.ntmps35
  go_wp2_with fail
  go_quiet (fail)
  go_wp2
  go_ret2
  exact ⟨rfl, _, rfl⟩
set_option maxHeartbeats 400000 in
theorem rnum_6_m1 (b : Int) (w : World) (h1 : (b == -9223372036854775808) = false) (h2 : (b == -1) = false) :
    Calls Try.prog 35 #[.int .i64 6, .int .i64 (-1), .int .i64 b] w fun e w' => e = .returned (.tuple #[.int .i64 (wrap64 (-b)), .bool (wrap64 (-wrap64 (-b)) == b)]) ∧ ∃ n, w' = w.drewN n := by
  go_enter Try.func35, Try.ntmps35
  go_wp2_with fail
  go_quiet (fail)
  go_wp2
  go_ret2
  exact ⟨rfl, _, rfl⟩
set_option maxHeartbeats 400000 in
theorem rnum_6_m1m1 (w : World) :
    Calls Try.prog 35 #[.int .i64 6, .int .i64 (-1), .int .i64 (-1)] w fun e w' => e = .returned (.tuple #[.int .i64 1, .bool true]) ∧ ∃ n, w' = w.drewN n := by
  go_enter Try.func35, Try.ntmps35
  go_wp2_with fail
  go_quiet (fail)
  go_wp2
  go_ret2
  exact ⟨rfl, _, rfl⟩
set_option maxHeartbeats 400000 in
theorem rnum_6_bm1 (a : Int) (w : World) (ha0 : ¬ a = 0) (ha1 : (a == 0) = false) (h1 : (a == -1) = false) (h2 : (a == -9223372036854775808) = false) :
    Calls Try.prog 35 #[.int .i64 6, .int .i64 a, .int .i64 (-1)] w fun e w' => e = .returned (.tuple #[.int .i64 (wrap64 (-a)), .bool (wrap64 ((wrap64 (-a)).tdiv a) == -1)]) ∧ ∃ n, w' = w.drewN n := by
  go_enter Try.func35, Try.ntmps35
  go_wp2_with fail
  go_quiet (fail)
  go_wp2
  go_ret2
  exact ⟨rfl, _, rfl⟩

theorem rnum_6 (a b : Int) (w : World) (ha : inR a = true) (hb : inR b = true) :
    Calls Try.prog 35 #[.int .i64 6, .int .i64 a, .int .i64 b] w fun e w' => e = .returned (.tuple #[.int .i64 (wrap64 (a * b)), .bool (inR (a * b))]) ∧ ∃ n, w' = w.drewN n := by
  by_cases h0 : a = 0
  · subst h0
    simpa [inR, wrap64] using rnum_6_zero b w
  · have h0' : (a == 0) = false := by simpa using h0
    by_cases h1 : a = -1
    · subst h1
      by_cases h2 : b = -9223372036854775808
      · subst h2
        exact rnum_6_least w
      · by_cases h3 : b = -1
        · subst h3; exact (rnum_6_m1m1 w).mono fun e w' ⟨g1, g2⟩ => ⟨g1.trans (ret_nb (by decide +kernel) (by decide +kernel)), g2⟩
        · refine (rnum_6_m1 b w (by simpa using h2) (by simpa using h3)).mono fun e w' ⟨g1, g2⟩ => ⟨g1.trans (ret_nb (by rw [Int.neg_one_mul]) ?_), g2⟩
          have hmm : inR (-b) = true := by simp [inR] at hb ⊢; omega
          rw [wrap_in hmm, Int.neg_neg, wrap_in hb, Int.neg_one_mul, hmm]; simp
    · by_cases h3 : b = -1
      · subst h3
        by_cases h2 : a = -9223372036854775808
        · subst h2; exact rnum_6_least' w
        · refine (rnum_6_bm1 a w h0 h0' (by simpa using h1) (by simpa using h2)).mono fun e w' ⟨g1, g2⟩ => ⟨g1.trans (ret_nb (by rw [Int.mul_neg_one]) ?_), g2⟩
          have hmm := mul_B (-1) a hb ha h0 (by rintro ⟨h4, _⟩; exact absurd h4 (by decide))
          rw [Int.neg_one_mul] at hmm
          rw [hmm, Int.mul_neg_one]
      · refine (rnum_6_any a b w h0 h0' (by simpa using h1) (by simpa using h3)).mono fun e w' ⟨g1, g2⟩ => ⟨g1.trans (ret_nb rfl ?_), g2⟩
        have hmm := mul_B b a hb ha h0 (by rintro ⟨_, h4⟩; exact h1 h4)
        rw [Int.mul_comm b a] at hmm
        exact hmm

set_option maxHeartbeats 400000 in
theorem rnum_7 (a b : Int) (w : World) (ha : Hid (inR a = true)) (h0 : ¬ b = 0) :
    Calls Try.prog 35 #[.int .i64 7, .int .i64 a, .int .i64 b] w fun e w' => e = .returned (.tuple #[.int .i64 (wrap64 (a.tdiv b)), .bool (inR (a.tdiv b))]) ∧ ∃ n, w' = w.drewN n := by
  by_cases h1 : a = -9223372036854775808
  · subst h1
    by_cases h2 : b = -1
    · subst h2
      go_enter Try.func35, Try.ntmps35
      go_wp2
      go_ret2
      exact ⟨ret_nb (by decide +kernel) (by decide +kernel), 0, rfl⟩
    · have h3 : (b == -1) = false := by simpa using h2
      go_enter Try.func35, Try.ntmps35
      go_wp2
      go_ret2
      exact ⟨ret_nb (by rw [← Int.neg_tdiv]) (by rw [tdiv_bd _ b h0 ha.out (by rintro ⟨_, h⟩; exact h2 h)]), 0, rfl⟩
  · have h3 : (a == -9223372036854775808) = false := by simpa using h1
    go_enter Try.func35, Try.ntmps35
    go_wp2
    go_ret2
    exact ⟨ret_nb rfl (by rw [tdiv_bd _ b h0 ha.out (by rintro ⟨h, _⟩; exact h1 h)]), 0, rfl⟩

theorem rnum_any (op a b : Int) (w : World) (hop : op = 4 ∨ op = 5 ∨ op = 6 ∨ op = 7) (ha : inR a = true) (hb : inR b = true) (h0 : ¬ (op = 7 ∧ b = 0)) :
    Calls Try.prog 35 #[.int .i64 op, .int .i64 a, .int .i64 b] w fun e w' => e = .returned (.tuple #[.int .i64 (wrap64 (tru op a b)), .bool (inR (tru op a b))]) ∧ ∃ n, w' = w.drewN n := by
  have hra : -9223372036854775808 ≤ a ∧ a ≤ 9223372036854775807 := by simpa [inR] using ha
  have hrb : -9223372036854775808 ≤ b ∧ b ≤ 9223372036854775807 := by simpa [inR] using hb
  rcases hop with rfl | rfl | rfl | rfl
  · exact rnum_4 a b w hra.1 hra.2 hrb.1 hrb.2
  · exact rnum_5 a b w hra.1 hra.2 hrb.1 hrb.2
  · exact rnum_6 a b w ha hb
  · exact rnum_7 a b w ha (fun h => h0 ⟨rfl, h⟩)

end Go.Proofs.Ythcipdhfolikaaa
