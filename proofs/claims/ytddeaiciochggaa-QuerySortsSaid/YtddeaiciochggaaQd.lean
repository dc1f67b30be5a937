/- The reference's order of two values, and of two rows: the walks of Order and before. Conditions: rows that have the places of the order. -/
import Derived.Test.YtddeaiciochggaaQc
namespace Go.Proofs.Ytddeaiciochggaa
open Go.RowKit Go.Sort
set_option linter.unusedSimpArgs false
set_option linter.unusedVariables false

theorem ordI_of {a b : Int} : ordI a b = if decide (a < b) = true then -1 else if (a == b) = true then 0 else 1 := by
  unfold ordI; simp
theorem below_drewN {B : Nat} {a w : World} (h : Below B a w) (n : Nat) : Below B a (w.drewN n) := ⟨h.os, h.tape, h.output, h.size, h.block⟩
set_option maxRecDepth 100000 in
set_option maxHeartbeats 4000000 in
theorem rOrder_i (k : Int) (n m : Int) (s t : ByteArray) (hk : k = 1 ∨ k = 2) (w : World) : Calls Try.prog 65 #[.agg #[.int .i64 k, .int .i64 n, .string s], .agg #[.int .i64 k, .int .i64 m, .string t]] w fun e w' => e = .returned (.int .i64 (ordI n m)) ∧ Below w.heap.size w w' := by
  have HB2 := Lib.hid ((below1 w (.cells #[.int .i64 k, .int .i64 n, .string s] 96)).alloc (by simp) (.cells #[.int .i64 k, .int .i64 m, .string t] 96))
  rcases Int.lt_trichotomy n m with h | h | h
  · have hr : ordI n m = -1 := by unfold ordI; rw [if_pos h]
    rw [hr]
    have d1 : decide (n < m) = true := decide_eq_true h
    have d2 : (n == m) = false := by simp; omega
    clear hr
    try clear h
    rcases hk with rfl | rfl
    all_goals
      go_enter Try.func65, Try.ntmps65
      go_wp2_with fail
      go_region
      go_wp2_with fail
      go_region
      go_wp2
      go_ret
      exact ⟨rfl, HB2.out.drew.drew⟩
  · have hr : ordI n m = 0 := by unfold ordI; rw [if_neg (by omega), if_pos h]
    rw [hr]
    have d1 : decide (n < m) = false := decide_eq_false (by omega)
    have d2 : (n == m) = true := by simp; omega
    clear hr
    try clear h
    rcases hk with rfl | rfl
    all_goals
      go_enter Try.func65, Try.ntmps65
      go_wp2_with fail
      go_region
      go_wp2_with fail
      go_region
      go_wp2
      go_ret
      exact ⟨rfl, HB2.out.drew.drew⟩
  · have hr : ordI n m = 1 := by unfold ordI; rw [if_neg (by omega), if_neg (by omega)]
    rw [hr]
    have d1 : decide (n < m) = false := decide_eq_false (by omega)
    have d2 : (n == m) = false := by simp; omega
    clear hr
    try clear h
    rcases hk with rfl | rfl
    all_goals
      go_enter Try.func65, Try.ntmps65
      go_wp2_with fail
      go_region
      go_wp2_with fail
      go_region
      go_wp2
      go_ret
      exact ⟨rfl, HB2.out.drew.drew⟩
set_option maxRecDepth 100000 in
set_option maxHeartbeats 4000000 in
theorem rOrder_s (n m : Int) (s t : ByteArray) (w : World) : Calls Try.prog 65 #[.agg #[.int .i64 3, .int .i64 n, .string s], .agg #[.int .i64 3, .int .i64 m, .string t]] w fun e w' => e = .returned (.int .i64 (ordS s t)) ∧ Below w.heap.size w w' := by
  have HB2 := Lib.hid ((below1 w (.cells #[.int .i64 3, .int .i64 n, .string s] 96)).alloc (by simp) (.cells #[.int .i64 3, .int .i64 m, .string t] 96))
  by_cases h : Op.bytesLess s.toList t.toList = true
  · have hr : ordS s t = -1 := by unfold ordS; rw [if_pos h]
    rw [hr]
    clear hr
    have d2 : (s.toList == t.toList) = false := by
      rw [beq_eq_false_iff_ne]
      intro e
      rw [e, less_irrefl] at h
      cases h
    all_goals
      go_enter Try.func65, Try.ntmps65
      go_wp2_with fail
      go_region
      go_wp2_with fail
      go_region
      go_wp2
      go_ret
      exact ⟨rfl, HB2.out.drew.drew⟩
  · have h' : Op.bytesLess s.toList t.toList = false := by simpa using h
    by_cases h2 : s.toList = t.toList
    · have hr : ordS s t = 0 := by unfold ordS; rw [if_neg h, if_pos h2]
      have d2 : (s.toList == t.toList) = true := by simpa using h2
      rw [hr]
      clear hr h h2
      go_enter Try.func65, Try.ntmps65
      go_wp2_with fail
      go_region
      go_wp2_with fail
      go_region
      go_wp2
      go_ret
      exact ⟨rfl, HB2.out.drew.drew⟩
    · have hr : ordS s t = 1 := by unfold ordS; rw [if_neg h, if_neg h2]
      have d2 : (s.toList == t.toList) = false := by simpa using h2
      rw [hr]
      clear hr h h2
      go_enter Try.func65, Try.ntmps65
      go_wp2_with fail
      go_region
      go_wp2_with fail
      go_region
      go_wp2
      go_ret
      exact ⟨rfl, HB2.out.drew.drew⟩
set_option maxRecDepth 100000 in
set_option maxHeartbeats 4000000 in
theorem rOrder_o (k n m : Int) (s t : ByteArray) (h1 : k ≠ 1) (h2 : k ≠ 2) (h3 : k ≠ 3) (w : World) : Calls Try.prog 65 #[.agg #[.int .i64 k, .int .i64 n, .string s], .agg #[.int .i64 k, .int .i64 m, .string t]] w fun e w' => e = .returned (.int .i64 (0)) ∧ Below w.heap.size w w' := by
  have HB2 := Lib.hid ((below1 w (.cells #[.int .i64 k, .int .i64 n, .string s] 96)).alloc (by simp) (.cells #[.int .i64 k, .int .i64 m, .string t] 96))
  have d1 : (k == 1) = false := by simpa using h1
  have d2 : (k == 2) = false := by simpa using h2
  have d3 : (k == 3) = false := by simpa using h3
  go_enter Try.func65, Try.ntmps65
  go_wp2_with fail
  go_region
  go_wp2
  go_ret
  exact ⟨rfl, HB2.out.drew⟩
set_option maxRecDepth 100000 in
set_option maxHeartbeats 4000000 in
theorem rOrder_k (k k' n m : Int) (s t : ByteArray) (h : k ≠ k') (w : World) : Calls Try.prog 65 #[.agg #[.int .i64 k, .int .i64 n, .string s], .agg #[.int .i64 k', .int .i64 m, .string t]] w fun e w' => e = .returned (.int .i64 (ordI k k')) ∧ Below w.heap.size w w' := by
  have HB2 := Lib.hid ((below1 w (.cells #[.int .i64 k, .int .i64 n, .string s] 96)).alloc (by simp) (.cells #[.int .i64 k', .int .i64 m, .string t] 96))
  have d2 : (k == k') = false := by simpa using h
  rcases Int.lt_trichotomy k k' with h0 | h0 | h0
  · have hr : ordI k k' = -1 := by unfold ordI; rw [if_pos h0]
    have d1 : decide (k < k') = true := decide_eq_true h0
    rw [hr]
    clear hr h h0
    go_enter Try.func65, Try.ntmps65
    go_wp2_with fail
    go_region
    go_wp2
    go_ret
    exact ⟨rfl, HB2.out.drew⟩
  · exact absurd h0 h
  · have hr : ordI k k' = 1 := by unfold ordI; rw [if_neg (by omega), if_neg h]
    have d1 : decide (k < k') = false := decide_eq_false (by omega)
    rw [hr]
    clear hr h h0
    go_enter Try.func65, Try.ntmps65
    go_wp2_with fail
    go_region
    go_wp2
    go_ret
    exact ⟨rfl, HB2.out.drew⟩
theorem rOrder_V (a b : Vl) (w : World) : Calls Try.prog 65 #[.agg #[.int .i64 a.k, .int .i64 a.n, .string a.s], .agg #[.int .i64 b.k, .int .i64 b.n, .string b.s]] w fun e w' => e = .returned (.int .i64 (ordL a b)) ∧ Below w.heap.size w w' := by
  obtain ⟨ak, an, s, _, _⟩ := a
  obtain ⟨bk, bn, t, _, _⟩ := b
  unfold ordL
  dsimp only
  by_cases hk : ak = bk
  · subst hk
    by_cases h12 : ak = 1 ∨ ak = 2
    · have hv : ordV ak an s ak bn t = ordI an bn := by unfold ordV; rw [if_neg (by simp), if_pos h12]
      rw [hv]
      exact rOrder_i ak an bn s t h12 w
    · by_cases h3 : ak = 3
      · have hv : ordV ak an s ak bn t = ordS s t := by unfold ordV; rw [if_neg (by simp), if_neg h12, if_pos h3]
        rw [hv]
        subst h3
        exact rOrder_s an bn s t w
      · have hv : ordV ak an s ak bn t = 0 := by unfold ordV; rw [if_neg (by simp), if_neg h12, if_neg h3]
        rw [hv]
        exact rOrder_o ak an bn s t (by omega) (by omega) h3 w
  · have hv : ordV ak an s bk bn t = ordI ak bk := by unfold ordV; rw [if_pos hk]
    rw [hv]
    exact rOrder_k ak bk an bn s t hk w
end Go.Proofs.Ytddeaiciochggaa
