/- ValueTurns of the statements' package answers true for any two values: the walk. Conditions: none. -/
import Derived.Test.YthcipdhfolikaaaVq
namespace Go.Proofs.Ythcipdhfolikaaa
open Go.RowKit
set_option linter.unusedSimpArgs false
set_option linter.unusedVariables false

theorem two_boxes (k n : Int) (s : ByteArray) (k' n' : Int) (s' : ByteArray) (w : World) :
    (w.heap.size < ((w.alloc (.cells #[.int .i64 k, .int .i64 n, .string s] 23)).alloc (.cells #[.int .i64 k', .int .i64 n', .string s'] 23)).heap.size ∧ ((w.alloc (.cells #[.int .i64 k, .int .i64 n, .string s] 23)).alloc (.cells #[.int .i64 k', .int .i64 n', .string s'] 23)).cell? ⟨w.heap.size, 0, none⟩ = some (.int .i64 k) ∧ ((w.alloc (.cells #[.int .i64 k, .int .i64 n, .string s] 23)).alloc (.cells #[.int .i64 k', .int .i64 n', .string s'] 23)).cell? ⟨w.heap.size, 1, none⟩ = some (.int .i64 n) ∧ ((w.alloc (.cells #[.int .i64 k, .int .i64 n, .string s] 23)).alloc (.cells #[.int .i64 k', .int .i64 n', .string s'] 23)).cell? ⟨w.heap.size, 2, none⟩ = some (.string s)) ∧
    (w.heap.size + 1 < ((w.alloc (.cells #[.int .i64 k, .int .i64 n, .string s] 23)).alloc (.cells #[.int .i64 k', .int .i64 n', .string s'] 23)).heap.size ∧ ((w.alloc (.cells #[.int .i64 k, .int .i64 n, .string s] 23)).alloc (.cells #[.int .i64 k', .int .i64 n', .string s'] 23)).cell? ⟨w.heap.size + 1, 0, none⟩ = some (.int .i64 k') ∧ ((w.alloc (.cells #[.int .i64 k, .int .i64 n, .string s] 23)).alloc (.cells #[.int .i64 k', .int .i64 n', .string s'] 23)).cell? ⟨w.heap.size + 1, 1, none⟩ = some (.int .i64 n') ∧ ((w.alloc (.cells #[.int .i64 k, .int .i64 n, .string s] 23)).alloc (.cells #[.int .i64 k', .int .i64 n', .string s'] 23)).cell? ⟨w.heap.size + 1, 2, none⟩ = some (.string s')) :=
  ⟨keep3 (below1 _ _) (new3 k n s w), by simp, by rw [cell_last _ _ _ _ _ (by simp)]; rfl, by rw [cell_last _ _ _ _ _ (by simp)]; rfl, by rw [cell_last _ _ _ _ _ (by simp)]; rfl⟩

theorem dec_comm (d : Bool) (k n : Int) (s : ByteArray) (k' n' : Int) (s' : ByteArray) : decK d k' n' s' k n s = decK d k n s k' n' s' ∧ decN d k' n' s' k n s = decN d k n s k' n' s' ∧ decE k' n' s' k n s = decE k n s k' n' s' := by
  refine ⟨?_, ?_, ?_⟩
  · grind [decK]
  · grind [decN]
  · grind [decE]
theorem and_swap (k n : Int) (s : ByteArray) (k' n' : Int) (s' : ByteArray) (w : World) : Calls Try.prog 22 #[.agg #[.int .i64 k', .int .i64 n', .string s'], .agg #[.int .i64 k, .int .i64 n, .string s]] w fun e w' => e = .returned (.tuple #[.agg #[.int .i64 (decK false k n s k' n' s'), .int .i64 (decN false k n s k' n' s'), .string ⟨#[]⟩], .int .i64 (decE k n s k' n' s')]) ∧ Below w.heap.size w w' := by
  have h := and_any k' n' s' k n s w
  rw [(dec_comm false k n s k' n' s').1, (dec_comm false k n s k' n' s').2.1, (dec_comm false k n s k' n' s').2.2] at h
  exact h
theorem or_swap (k n : Int) (s : ByteArray) (k' n' : Int) (s' : ByteArray) (w : World) : Calls Try.prog 23 #[.agg #[.int .i64 k', .int .i64 n', .string s'], .agg #[.int .i64 k, .int .i64 n, .string s]] w fun e w' => e = .returned (.tuple #[.agg #[.int .i64 (decK true k n s k' n' s'), .int .i64 (decN true k n s k' n' s'), .string ⟨#[]⟩], .int .i64 (decE k n s k' n' s')]) ∧ Below w.heap.size w w' := by
  have h := or_any k' n' s' k n s w
  rw [(dec_comm true k n s k' n' s').1, (dec_comm true k n s k' n' s').2.1, (dec_comm true k n s k' n' s').2.2] at h
  exact h
/-- Not turns the one into the other. -/
theorem nots (k n : Int) (s : ByteArray) (k' n' : Int) (s' : ByteArray) (h : (fitB 2 k n s && fitB 2 k' n' s') = true) : decK true (notK k n s) (notN k n s) ⟨#[]⟩ (notK k' n' s') (notN k' n' s') ⟨#[]⟩ = notK (decK false k n s k' n' s') (decN false k n s k' n' s') ⟨#[]⟩ ∧ decN true (notK k n s) (notN k n s) ⟨#[]⟩ (notK k' n' s') (notN k' n' s') ⟨#[]⟩ = notN (decK false k n s k' n' s') (decN false k n s k' n' s') ⟨#[]⟩ ∧ decE (notK k n s) (notN k n s) ⟨#[]⟩ (notK k' n' s') (notN k' n' s') ⟨#[]⟩ = notE (decK false k n s k' n' s') (decN false k n s k' n' s') ⟨#[]⟩ := by
  have h1 : fitB 2 k n s = true := by grind
  have h2 : fitB 2 k' n' s' = true := by grind
  obtain ⟨rfl, c1⟩ := fit2_cases h1
  obtain ⟨rfl, c2⟩ := fit2_cases h2
  rcases c1 with ⟨rfl, rfl⟩ | ⟨rfl, rfl⟩ | ⟨rfl, rfl⟩ <;> rcases c2 with ⟨rfl, rfl⟩ | ⟨rfl, rfl⟩ | ⟨rfl, rfl⟩ <;> decide +kernel
theorem or_nots (k n : Int) (s : ByteArray) (k' n' : Int) (s' : ByteArray) (h : Hid ((fitB 2 k n s && fitB 2 k' n' s') = true)) (w : World) : Calls Try.prog 23 #[.agg #[.int .i64 (notK k n s), .int .i64 (notN k n s), .string ⟨#[]⟩], .agg #[.int .i64 (notK k' n' s'), .int .i64 (notN k' n' s'), .string ⟨#[]⟩]] w fun e w' => e = .returned (.tuple #[.agg #[.int .i64 (notK (decK false k n s k' n' s') (decN false k n s k' n' s') ⟨#[]⟩), .int .i64 (notN (decK false k n s k' n' s') (decN false k n s k' n' s') ⟨#[]⟩), .string ⟨#[]⟩], .int .i64 (notE (decK false k n s k' n' s') (decN false k n s k' n' s') ⟨#[]⟩)]) ∧ Below w.heap.size w w' := by
  have h' := or_any (notK k n s) (notN k n s) ⟨#[]⟩ (notK k' n' s') (notN k' n' s') ⟨#[]⟩ w
  rw [(nots k n s k' n' s' h.out).1, (nots k n s k' n' s' h.out).2.1, (nots k n s k' n' s' h.out).2.2] at h'
  exact h'
theorem and_any_b (k n : Int) (s : ByteArray) (k' n' : Int) (s' : ByteArray) (h : Hid ((fitB 2 k n s && fitB 2 k' n' s') = false)) (w : World) : Calls Try.prog 22 #[.agg #[.int .i64 k, .int .i64 n, .string s], .agg #[.int .i64 k', .int .i64 n', .string s']] w fun e w' => e = .returned (.tuple #[.agg #[.int .i64 0, .int .i64 0, .string ⟨#[]⟩], .int .i64 81]) ∧ Below w.heap.size w w' :=
  (and_any k n s k' n' s' w).mono fun e w' ⟨h1, h2⟩ => ⟨h1.trans (by have := h.out; exact ret_val (by simp [decK, this]) (by simp [decN, this]) (by simp [decE, this])), h2⟩
theorem and_swap_b (k n : Int) (s : ByteArray) (k' n' : Int) (s' : ByteArray) (h : Hid ((fitB 2 k n s && fitB 2 k' n' s') = false)) (w : World) : Calls Try.prog 22 #[.agg #[.int .i64 k', .int .i64 n', .string s'], .agg #[.int .i64 k, .int .i64 n, .string s]] w fun e w' => e = .returned (.tuple #[.agg #[.int .i64 0, .int .i64 0, .string ⟨#[]⟩], .int .i64 81]) ∧ Below w.heap.size w w' :=
  (and_swap k n s k' n' s' w).mono fun e w' ⟨h1, h2⟩ => ⟨h1.trans (by have := h.out; exact ret_val (by simp [decK, this]) (by simp [decN, this]) (by simp [decE, this])), h2⟩
theorem or_any_b (k n : Int) (s : ByteArray) (k' n' : Int) (s' : ByteArray) (h : Hid ((fitB 2 k n s && fitB 2 k' n' s') = false)) (w : World) : Calls Try.prog 23 #[.agg #[.int .i64 k, .int .i64 n, .string s], .agg #[.int .i64 k', .int .i64 n', .string s']] w fun e w' => e = .returned (.tuple #[.agg #[.int .i64 0, .int .i64 0, .string ⟨#[]⟩], .int .i64 81]) ∧ Below w.heap.size w w' :=
  (or_any k n s k' n' s' w).mono fun e w' ⟨h1, h2⟩ => ⟨h1.trans (by have := h.out; exact ret_val (by simp [decK, this]) (by simp [decN, this]) (by simp [decE, this])), h2⟩
theorem or_swap_b (k n : Int) (s : ByteArray) (k' n' : Int) (s' : ByteArray) (h : Hid ((fitB 2 k n s && fitB 2 k' n' s') = false)) (w : World) : Calls Try.prog 23 #[.agg #[.int .i64 k', .int .i64 n', .string s'], .agg #[.int .i64 k, .int .i64 n, .string s]] w fun e w' => e = .returned (.tuple #[.agg #[.int .i64 0, .int .i64 0, .string ⟨#[]⟩], .int .i64 81]) ∧ Below w.heap.size w w' :=
  (or_swap k n s k' n' s' w).mono fun e w' ⟨h1, h2⟩ => ⟨h1.trans (by have := h.out; exact ret_val (by simp [decK, this]) (by simp [decN, this]) (by simp [decE, this])), h2⟩

set_option maxHeartbeats 1000000 in
theorem turns_bad (k n : Int) (s : ByteArray) (k' n' : Int) (s' : ByteArray) (h : Hid ((fitB 2 k n s && fitB 2 k' n' s') = false)) (w : World) :
    Calls Try.prog 6 #[.agg #[.int .i64 k, .int .i64 n, .string s], .agg #[.int .i64 k', .int .i64 n', .string s']] w fun e w' => e = .returned (.bool true) ∧ Below w.heap.size w w' := by
  go_enter Try.func6, Try.ntmps6
  go_upto_region 1 with (fail)
  obtain ⟨h1, h2⟩ := two_boxes k n s k' n' s' w
  have hA := below2 w (.cells #[.int .i64 k, .int .i64 n, .string s] 23) (.cells #[.int .i64 k', .int .i64 n', .string s'] 23)
  generalize hW : (w.alloc (.cells #[.int .i64 k, .int .i64 n, .string s] 23)).alloc (.cells #[.int .i64 k', .int .i64 n', .string s'] 23) = X0 at h1 h2 hA ⊢
  clear hW
  go_upto_region 3 with (first | (go_at_call 17; refine (alive_any _).mono ?_; rintro e w0 ⟨rfl, hb⟩; have hA : Below w.heap.size w w0 := (by (repeat (first | exact hA | exact Below.refl _ _ | (refine Below.setCell ?_ (by first | omega | (simp; done) | (simp; omega)) _) | (refine Below.alloc ?_ (by first | omega | (simp; done) | (simp; omega)) _) | (refine below_drewN ?_ _) | (refine Below.drew ?_) | (refine below_call hb (by first | omega | (simp; done) | (simp; omega)) ?_)))); have zA := hA.size; have h1 := keep3 hb h1; have h2 := keep3 hb h2))
  go_upto_region 4 with (first | (go_at_call 22; refine (and_any_b _ _ _ _ _ _ h _).mono ?_; rintro e v0 ⟨rfl, hb⟩; have hA : Below w.heap.size w v0 := (by (repeat (first | exact hA | exact Below.refl _ _ | (refine Below.setCell ?_ (by first | omega | (simp; done) | (simp; omega)) _) | (refine Below.alloc ?_ (by first | omega | (simp; done) | (simp; omega)) _) | (refine below_drewN ?_ _) | (refine Below.drew ?_) | (refine below_call hb (by first | omega | (simp; done) | (simp; omega)) ?_)))); have zA := hA.size; have h1 := keep3 hb h1; have h2 := keep3 hb h2))
  have b0 := new3 0 0 ⟨#[]⟩ v0
  have h1 := keep3 (below1 v0 (.cells #[.int .i64 0, .int .i64 0, .string ⟨#[]⟩] 23)) h1
  have h2 := keep3 (below1 v0 (.cells #[.int .i64 0, .int .i64 0, .string ⟨#[]⟩] 23)) h2
  have hA := hA.trans ((below1 v0 (.cells #[.int .i64 0, .int .i64 0, .string ⟨#[]⟩] 23)).mono hA.size)
  generalize hW : v0.alloc (.cells #[.int .i64 0, .int .i64 0, .string ⟨#[]⟩] 23) = X1 at b0 h1 h2 hA ⊢
  clear hW
  go_upto_region 5 with (first | (go_at_call 22; refine (and_swap_b _ _ _ _ _ _ h _).mono ?_; rintro e v1 ⟨rfl, hb⟩; have hA : Below w.heap.size w v1 := (by (repeat (first | exact hA | exact Below.refl _ _ | (refine Below.setCell ?_ (by first | omega | (simp; done) | (simp; omega)) _) | (refine Below.alloc ?_ (by first | omega | (simp; done) | (simp; omega)) _) | (refine below_drewN ?_ _) | (refine Below.drew ?_) | (refine below_call hb (by first | omega | (simp; done) | (simp; omega)) ?_)))); have zA := hA.size; have h1 := keep3 hb h1; have h2 := keep3 hb h2; have b0 := keep3 hb b0))
  have b1 := new3 0 0 ⟨#[]⟩ v1
  have h1 := keep3 (below1 v1 (.cells #[.int .i64 0, .int .i64 0, .string ⟨#[]⟩] 23)) h1
  have h2 := keep3 (below1 v1 (.cells #[.int .i64 0, .int .i64 0, .string ⟨#[]⟩] 23)) h2
  have b0 := keep3 (below1 v1 (.cells #[.int .i64 0, .int .i64 0, .string ⟨#[]⟩] 23)) b0
  have hA := hA.trans ((below1 v1 (.cells #[.int .i64 0, .int .i64 0, .string ⟨#[]⟩] 23)).mono hA.size)
  generalize hW : v1.alloc (.cells #[.int .i64 0, .int .i64 0, .string ⟨#[]⟩] 23) = X2 at b1 h1 h2 b0 hA ⊢
  clear hW
  go_upto_region 6 with (first | (go_at_call 23; refine (or_any_b _ _ _ _ _ _ h _).mono ?_; rintro e v2 ⟨rfl, hb⟩; have hA : Below w.heap.size w v2 := (by (repeat (first | exact hA | exact Below.refl _ _ | (refine Below.setCell ?_ (by first | omega | (simp; done) | (simp; omega)) _) | (refine Below.alloc ?_ (by first | omega | (simp; done) | (simp; omega)) _) | (refine below_drewN ?_ _) | (refine Below.drew ?_) | (refine below_call hb (by first | omega | (simp; done) | (simp; omega)) ?_)))); have zA := hA.size; have h1 := keep3 hb h1; have h2 := keep3 hb h2; have b0 := keep3 hb b0; have b1 := keep3 hb b1))
  have b2 := new3 0 0 ⟨#[]⟩ v2
  have h1 := keep3 (below1 v2 (.cells #[.int .i64 0, .int .i64 0, .string ⟨#[]⟩] 23)) h1
  have h2 := keep3 (below1 v2 (.cells #[.int .i64 0, .int .i64 0, .string ⟨#[]⟩] 23)) h2
  have b0 := keep3 (below1 v2 (.cells #[.int .i64 0, .int .i64 0, .string ⟨#[]⟩] 23)) b0
  have b1 := keep3 (below1 v2 (.cells #[.int .i64 0, .int .i64 0, .string ⟨#[]⟩] 23)) b1
  have hA := hA.trans ((below1 v2 (.cells #[.int .i64 0, .int .i64 0, .string ⟨#[]⟩] 23)).mono hA.size)
  generalize hW : v2.alloc (.cells #[.int .i64 0, .int .i64 0, .string ⟨#[]⟩] 23) = X3 at b2 h1 h2 b0 b1 hA ⊢
  clear hW
  go_upto_region 7 with (first | (go_at_call 23; refine (or_swap_b _ _ _ _ _ _ h _).mono ?_; rintro e v3 ⟨rfl, hb⟩; have hA : Below w.heap.size w v3 := (by (repeat (first | exact hA | exact Below.refl _ _ | (refine Below.setCell ?_ (by first | omega | (simp; done) | (simp; omega)) _) | (refine Below.alloc ?_ (by first | omega | (simp; done) | (simp; omega)) _) | (refine below_drewN ?_ _) | (refine Below.drew ?_) | (refine below_call hb (by first | omega | (simp; done) | (simp; omega)) ?_)))); have zA := hA.size; have h1 := keep3 hb h1; have h2 := keep3 hb h2; have b0 := keep3 hb b0; have b1 := keep3 hb b1; have b2 := keep3 hb b2))
  have b3 := new3 0 0 ⟨#[]⟩ v3
  have h1 := keep3 (below1 v3 (.cells #[.int .i64 0, .int .i64 0, .string ⟨#[]⟩] 23)) h1
  have h2 := keep3 (below1 v3 (.cells #[.int .i64 0, .int .i64 0, .string ⟨#[]⟩] 23)) h2
  have b0 := keep3 (below1 v3 (.cells #[.int .i64 0, .int .i64 0, .string ⟨#[]⟩] 23)) b0
  have b1 := keep3 (below1 v3 (.cells #[.int .i64 0, .int .i64 0, .string ⟨#[]⟩] 23)) b1
  have b2 := keep3 (below1 v3 (.cells #[.int .i64 0, .int .i64 0, .string ⟨#[]⟩] 23)) b2
  have hA := hA.trans ((below1 v3 (.cells #[.int .i64 0, .int .i64 0, .string ⟨#[]⟩] 23)).mono hA.size)
  generalize hW : v3.alloc (.cells #[.int .i64 0, .int .i64 0, .string ⟨#[]⟩] 23) = X4 at b3 h1 h2 b0 b1 b2 hA ⊢
  clear hW
  go_wp2_with (go_at_call 12; refine (lnum_any _ _).mono ?_; rintro e w9 ⟨rfl, rfl⟩)
  go_ret
  exact ⟨rfl, hA⟩

theorem and_any_g (k n : Int) (s : ByteArray) (k' n' : Int) (s' : ByteArray) (h : Hid ((fitB 2 k n s && fitB 2 k' n' s') = true)) (w : World) : Calls Try.prog 22 #[.agg #[.int .i64 k, .int .i64 n, .string s], .agg #[.int .i64 k', .int .i64 n', .string s']] w fun e w' => e = .returned (.tuple #[.agg #[.int .i64 (decK false k n s k' n' s'), .int .i64 (decN false k n s k' n' s'), .string ⟨#[]⟩], .int .i64 0]) ∧ Below w.heap.size w w' :=
  (and_any k n s k' n' s' w).mono fun e w' ⟨h1, h2⟩ => ⟨h1.trans (by have := h.out; exact ret_val (by simp []) (by simp []) (by simp [decE, this])), h2⟩
theorem and_swap_g (k n : Int) (s : ByteArray) (k' n' : Int) (s' : ByteArray) (h : Hid ((fitB 2 k n s && fitB 2 k' n' s') = true)) (w : World) : Calls Try.prog 22 #[.agg #[.int .i64 k', .int .i64 n', .string s'], .agg #[.int .i64 k, .int .i64 n, .string s]] w fun e w' => e = .returned (.tuple #[.agg #[.int .i64 (decK false k n s k' n' s'), .int .i64 (decN false k n s k' n' s'), .string ⟨#[]⟩], .int .i64 0]) ∧ Below w.heap.size w w' :=
  (and_swap k n s k' n' s' w).mono fun e w' ⟨h1, h2⟩ => ⟨h1.trans (by have := h.out; exact ret_val (by simp []) (by simp []) (by simp [decE, this])), h2⟩
theorem or_any_g (k n : Int) (s : ByteArray) (k' n' : Int) (s' : ByteArray) (h : Hid ((fitB 2 k n s && fitB 2 k' n' s') = true)) (w : World) : Calls Try.prog 23 #[.agg #[.int .i64 k, .int .i64 n, .string s], .agg #[.int .i64 k', .int .i64 n', .string s']] w fun e w' => e = .returned (.tuple #[.agg #[.int .i64 (decK true k n s k' n' s'), .int .i64 (decN true k n s k' n' s'), .string ⟨#[]⟩], .int .i64 0]) ∧ Below w.heap.size w w' :=
  (or_any k n s k' n' s' w).mono fun e w' ⟨h1, h2⟩ => ⟨h1.trans (by have := h.out; exact ret_val (by simp []) (by simp []) (by simp [decE, this])), h2⟩
theorem or_swap_g (k n : Int) (s : ByteArray) (k' n' : Int) (s' : ByteArray) (h : Hid ((fitB 2 k n s && fitB 2 k' n' s') = true)) (w : World) : Calls Try.prog 23 #[.agg #[.int .i64 k', .int .i64 n', .string s'], .agg #[.int .i64 k, .int .i64 n, .string s]] w fun e w' => e = .returned (.tuple #[.agg #[.int .i64 (decK true k n s k' n' s'), .int .i64 (decN true k n s k' n' s'), .string ⟨#[]⟩], .int .i64 0]) ∧ Below w.heap.size w w' :=
  (or_swap k n s k' n' s' w).mono fun e w' ⟨h1, h2⟩ => ⟨h1.trans (by have := h.out; exact ret_val (by simp []) (by simp []) (by simp [decE, this])), h2⟩

set_option maxHeartbeats 1000000 in
theorem turns_good (k n : Int) (s : ByteArray) (k' n' : Int) (s' : ByteArray) (h : Hid ((fitB 2 k n s && fitB 2 k' n' s') = true)) (w : World) :
    Calls Try.prog 6 #[.agg #[.int .i64 k, .int .i64 n, .string s], .agg #[.int .i64 k', .int .i64 n', .string s']] w fun e w' => e = .returned (.bool true) ∧ Below w.heap.size w w' := by
  go_enter Try.func6, Try.ntmps6
  go_upto_region 1 with (fail)
  obtain ⟨h1, h2⟩ := two_boxes k n s k' n' s' w
  have hA := below2 w (.cells #[.int .i64 k, .int .i64 n, .string s] 23) (.cells #[.int .i64 k', .int .i64 n', .string s'] 23)
  generalize hW : (w.alloc (.cells #[.int .i64 k, .int .i64 n, .string s] 23)).alloc (.cells #[.int .i64 k', .int .i64 n', .string s'] 23) = X0 at h1 h2 hA ⊢
  clear hW
  go_upto_region 3 with (first | (go_at_call 17; refine (alive_any _).mono ?_; rintro e w0 ⟨rfl, hb⟩; have hA : Below w.heap.size w w0 := (by (repeat (first | exact hA | exact Below.refl _ _ | (refine Below.setCell ?_ (by first | omega | (simp; done) | (simp; omega)) _) | (refine Below.alloc ?_ (by first | omega | (simp; done) | (simp; omega)) _) | (refine below_drewN ?_ _) | (refine Below.drew ?_) | (refine below_call hb (by first | omega | (simp; done) | (simp; omega)) ?_)))); have zA := hA.size; have h1 := keep3 hb h1; have h2 := keep3 hb h2))
  go_upto_region 4 with (first | (go_at_call 22; refine (and_any_g _ _ _ _ _ _ h _).mono ?_; rintro e v0 ⟨rfl, hb⟩; have hA : Below w.heap.size w v0 := (by (repeat (first | exact hA | exact Below.refl _ _ | (refine Below.setCell ?_ (by first | omega | (simp; done) | (simp; omega)) _) | (refine Below.alloc ?_ (by first | omega | (simp; done) | (simp; omega)) _) | (refine below_drewN ?_ _) | (refine Below.drew ?_) | (refine below_call hb (by first | omega | (simp; done) | (simp; omega)) ?_)))); have zA := hA.size; have h1 := keep3 hb h1; have h2 := keep3 hb h2))
  have b0 := new3 (decK false k n s k' n' s') (decN false k n s k' n' s') ⟨#[]⟩ v0
  have h1 := keep3 (below1 v0 (.cells #[.int .i64 (decK false k n s k' n' s'), .int .i64 (decN false k n s k' n' s'), .string ⟨#[]⟩] 23)) h1
  have h2 := keep3 (below1 v0 (.cells #[.int .i64 (decK false k n s k' n' s'), .int .i64 (decN false k n s k' n' s'), .string ⟨#[]⟩] 23)) h2
  have hA := hA.trans ((below1 v0 (.cells #[.int .i64 (decK false k n s k' n' s'), .int .i64 (decN false k n s k' n' s'), .string ⟨#[]⟩] 23)).mono hA.size)
  generalize hW : v0.alloc (.cells #[.int .i64 (decK false k n s k' n' s'), .int .i64 (decN false k n s k' n' s'), .string ⟨#[]⟩] 23) = X1 at b0 h1 h2 hA ⊢
  clear hW
  go_upto_region 5 with (first | (go_at_call 22; refine (and_swap_g _ _ _ _ _ _ h _).mono ?_; rintro e v1 ⟨rfl, hb⟩; have hA : Below w.heap.size w v1 := (by (repeat (first | exact hA | exact Below.refl _ _ | (refine Below.setCell ?_ (by first | omega | (simp; done) | (simp; omega)) _) | (refine Below.alloc ?_ (by first | omega | (simp; done) | (simp; omega)) _) | (refine below_drewN ?_ _) | (refine Below.drew ?_) | (refine below_call hb (by first | omega | (simp; done) | (simp; omega)) ?_)))); have zA := hA.size; have h1 := keep3 hb h1; have h2 := keep3 hb h2; have b0 := keep3 hb b0))
  have b1 := new3 (decK false k n s k' n' s') (decN false k n s k' n' s') ⟨#[]⟩ v1
  have h1 := keep3 (below1 v1 (.cells #[.int .i64 (decK false k n s k' n' s'), .int .i64 (decN false k n s k' n' s'), .string ⟨#[]⟩] 23)) h1
  have h2 := keep3 (below1 v1 (.cells #[.int .i64 (decK false k n s k' n' s'), .int .i64 (decN false k n s k' n' s'), .string ⟨#[]⟩] 23)) h2
  have b0 := keep3 (below1 v1 (.cells #[.int .i64 (decK false k n s k' n' s'), .int .i64 (decN false k n s k' n' s'), .string ⟨#[]⟩] 23)) b0
  have hA := hA.trans ((below1 v1 (.cells #[.int .i64 (decK false k n s k' n' s'), .int .i64 (decN false k n s k' n' s'), .string ⟨#[]⟩] 23)).mono hA.size)
  generalize hW : v1.alloc (.cells #[.int .i64 (decK false k n s k' n' s'), .int .i64 (decN false k n s k' n' s'), .string ⟨#[]⟩] 23) = X2 at b1 h1 h2 b0 hA ⊢
  clear hW
  go_upto_region 6 with (first | (go_at_call 23; refine (or_any_g _ _ _ _ _ _ h _).mono ?_; rintro e v2 ⟨rfl, hb⟩; have hA : Below w.heap.size w v2 := (by (repeat (first | exact hA | exact Below.refl _ _ | (refine Below.setCell ?_ (by first | omega | (simp; done) | (simp; omega)) _) | (refine Below.alloc ?_ (by first | omega | (simp; done) | (simp; omega)) _) | (refine below_drewN ?_ _) | (refine Below.drew ?_) | (refine below_call hb (by first | omega | (simp; done) | (simp; omega)) ?_)))); have zA := hA.size; have h1 := keep3 hb h1; have h2 := keep3 hb h2; have b0 := keep3 hb b0; have b1 := keep3 hb b1))
  have b2 := new3 (decK true k n s k' n' s') (decN true k n s k' n' s') ⟨#[]⟩ v2
  have h1 := keep3 (below1 v2 (.cells #[.int .i64 (decK true k n s k' n' s'), .int .i64 (decN true k n s k' n' s'), .string ⟨#[]⟩] 23)) h1
  have h2 := keep3 (below1 v2 (.cells #[.int .i64 (decK true k n s k' n' s'), .int .i64 (decN true k n s k' n' s'), .string ⟨#[]⟩] 23)) h2
  have b0 := keep3 (below1 v2 (.cells #[.int .i64 (decK true k n s k' n' s'), .int .i64 (decN true k n s k' n' s'), .string ⟨#[]⟩] 23)) b0
  have b1 := keep3 (below1 v2 (.cells #[.int .i64 (decK true k n s k' n' s'), .int .i64 (decN true k n s k' n' s'), .string ⟨#[]⟩] 23)) b1
  have hA := hA.trans ((below1 v2 (.cells #[.int .i64 (decK true k n s k' n' s'), .int .i64 (decN true k n s k' n' s'), .string ⟨#[]⟩] 23)).mono hA.size)
  generalize hW : v2.alloc (.cells #[.int .i64 (decK true k n s k' n' s'), .int .i64 (decN true k n s k' n' s'), .string ⟨#[]⟩] 23) = X3 at b2 h1 h2 b0 b1 hA ⊢
  clear hW
  go_upto_region 7 with (first | (go_at_call 23; refine (or_swap_g _ _ _ _ _ _ h _).mono ?_; rintro e v3 ⟨rfl, hb⟩; have hA : Below w.heap.size w v3 := (by (repeat (first | exact hA | exact Below.refl _ _ | (refine Below.setCell ?_ (by first | omega | (simp; done) | (simp; omega)) _) | (refine Below.alloc ?_ (by first | omega | (simp; done) | (simp; omega)) _) | (refine below_drewN ?_ _) | (refine Below.drew ?_) | (refine below_call hb (by first | omega | (simp; done) | (simp; omega)) ?_)))); have zA := hA.size; have h1 := keep3 hb h1; have h2 := keep3 hb h2; have b0 := keep3 hb b0; have b1 := keep3 hb b1; have b2 := keep3 hb b2))
  have b3 := new3 (decK true k n s k' n' s') (decN true k n s k' n' s') ⟨#[]⟩ v3
  have h1 := keep3 (below1 v3 (.cells #[.int .i64 (decK true k n s k' n' s'), .int .i64 (decN true k n s k' n' s'), .string ⟨#[]⟩] 23)) h1
  have h2 := keep3 (below1 v3 (.cells #[.int .i64 (decK true k n s k' n' s'), .int .i64 (decN true k n s k' n' s'), .string ⟨#[]⟩] 23)) h2
  have b0 := keep3 (below1 v3 (.cells #[.int .i64 (decK true k n s k' n' s'), .int .i64 (decN true k n s k' n' s'), .string ⟨#[]⟩] 23)) b0
  have b1 := keep3 (below1 v3 (.cells #[.int .i64 (decK true k n s k' n' s'), .int .i64 (decN true k n s k' n' s'), .string ⟨#[]⟩] 23)) b1
  have b2 := keep3 (below1 v3 (.cells #[.int .i64 (decK true k n s k' n' s'), .int .i64 (decN true k n s k' n' s'), .string ⟨#[]⟩] 23)) b2
  have hA := hA.trans ((below1 v3 (.cells #[.int .i64 (decK true k n s k' n' s'), .int .i64 (decN true k n s k' n' s'), .string ⟨#[]⟩] 23)).mono hA.size)
  generalize hW : v3.alloc (.cells #[.int .i64 (decK true k n s k' n' s'), .int .i64 (decN true k n s k' n' s'), .string ⟨#[]⟩] 23) = X4 at b3 h1 h2 b0 b1 b2 hA ⊢
  clear hW
  go_upto_region 11 with (first | (go_at_call 12; refine (lnum_any _ _).mono ?_; rintro e w9 ⟨rfl, rfl⟩))
  go_upto_region 12 with (first | (go_at_call 24; refine (not_any _ _ _ _).mono ?_; rintro e u0 ⟨rfl, hb⟩; have hA : Below w.heap.size w u0 := (by (repeat (first | exact hA | exact Below.refl _ _ | (refine Below.setCell ?_ (by first | omega | (simp; done) | (simp; omega)) _) | (refine Below.alloc ?_ (by first | omega | (simp; done) | (simp; omega)) _) | (refine below_drewN ?_ _) | (refine Below.drew ?_) | (refine below_call hb (by first | omega | (simp; done) | (simp; omega)) ?_)))); have zA := hA.size; have h1 := keep3 hb h1; have h2 := keep3 hb h2; have b0 := keep3 hb b0; have b1 := keep3 hb b1; have b2 := keep3 hb b2; have b3 := keep3 hb b3))
  have c0 := new3 (notK k n s) (notN k n s) ⟨#[]⟩ u0
  have h1 := keep3 (below1 u0 (.cells #[.int .i64 (notK k n s), .int .i64 (notN k n s), .string ⟨#[]⟩] 23)) h1
  have h2 := keep3 (below1 u0 (.cells #[.int .i64 (notK k n s), .int .i64 (notN k n s), .string ⟨#[]⟩] 23)) h2
  have b0 := keep3 (below1 u0 (.cells #[.int .i64 (notK k n s), .int .i64 (notN k n s), .string ⟨#[]⟩] 23)) b0
  have b1 := keep3 (below1 u0 (.cells #[.int .i64 (notK k n s), .int .i64 (notN k n s), .string ⟨#[]⟩] 23)) b1
  have b2 := keep3 (below1 u0 (.cells #[.int .i64 (notK k n s), .int .i64 (notN k n s), .string ⟨#[]⟩] 23)) b2
  have b3 := keep3 (below1 u0 (.cells #[.int .i64 (notK k n s), .int .i64 (notN k n s), .string ⟨#[]⟩] 23)) b3
  have hA := hA.trans ((below1 u0 (.cells #[.int .i64 (notK k n s), .int .i64 (notN k n s), .string ⟨#[]⟩] 23)).mono hA.size)
  generalize hW : u0.alloc (.cells #[.int .i64 (notK k n s), .int .i64 (notN k n s), .string ⟨#[]⟩] 23) = X5 at c0 h1 h2 b0 b1 b2 b3 hA ⊢
  clear hW
  go_upto_region 13 with (first | (go_at_call 24; refine (not_any _ _ _ _).mono ?_; rintro e u1 ⟨rfl, hb⟩; have hA : Below w.heap.size w u1 := (by (repeat (first | exact hA | exact Below.refl _ _ | (refine Below.setCell ?_ (by first | omega | (simp; done) | (simp; omega)) _) | (refine Below.alloc ?_ (by first | omega | (simp; done) | (simp; omega)) _) | (refine below_drewN ?_ _) | (refine Below.drew ?_) | (refine below_call hb (by first | omega | (simp; done) | (simp; omega)) ?_)))); have zA := hA.size; have h1 := keep3 hb h1; have h2 := keep3 hb h2; have b0 := keep3 hb b0; have b1 := keep3 hb b1; have b2 := keep3 hb b2; have b3 := keep3 hb b3; have c0 := keep3 hb c0))
  have c1 := new3 (notK k' n' s') (notN k' n' s') ⟨#[]⟩ u1
  have h1 := keep3 (below1 u1 (.cells #[.int .i64 (notK k' n' s'), .int .i64 (notN k' n' s'), .string ⟨#[]⟩] 23)) h1
  have h2 := keep3 (below1 u1 (.cells #[.int .i64 (notK k' n' s'), .int .i64 (notN k' n' s'), .string ⟨#[]⟩] 23)) h2
  have b0 := keep3 (below1 u1 (.cells #[.int .i64 (notK k' n' s'), .int .i64 (notN k' n' s'), .string ⟨#[]⟩] 23)) b0
  have b1 := keep3 (below1 u1 (.cells #[.int .i64 (notK k' n' s'), .int .i64 (notN k' n' s'), .string ⟨#[]⟩] 23)) b1
  have b2 := keep3 (below1 u1 (.cells #[.int .i64 (notK k' n' s'), .int .i64 (notN k' n' s'), .string ⟨#[]⟩] 23)) b2
  have b3 := keep3 (below1 u1 (.cells #[.int .i64 (notK k' n' s'), .int .i64 (notN k' n' s'), .string ⟨#[]⟩] 23)) b3
  have c0 := keep3 (below1 u1 (.cells #[.int .i64 (notK k' n' s'), .int .i64 (notN k' n' s'), .string ⟨#[]⟩] 23)) c0
  have hA := hA.trans ((below1 u1 (.cells #[.int .i64 (notK k' n' s'), .int .i64 (notN k' n' s'), .string ⟨#[]⟩] 23)).mono hA.size)
  generalize hW : u1.alloc (.cells #[.int .i64 (notK k' n' s'), .int .i64 (notN k' n' s'), .string ⟨#[]⟩] 23) = X6 at c1 h1 h2 b0 b1 b2 b3 c0 hA ⊢
  clear hW
  go_upto_region 14 with (first | (go_at_call 23; refine (or_nots _ _ _ _ _ _ h _).mono ?_; rintro e u2 ⟨rfl, hb⟩; have hA : Below w.heap.size w u2 := (by (repeat (first | exact hA | exact Below.refl _ _ | (refine Below.setCell ?_ (by first | omega | (simp; done) | (simp; omega)) _) | (refine Below.alloc ?_ (by first | omega | (simp; done) | (simp; omega)) _) | (refine below_drewN ?_ _) | (refine Below.drew ?_) | (refine below_call hb (by first | omega | (simp; done) | (simp; omega)) ?_)))); have zA := hA.size; have h1 := keep3 hb h1; have h2 := keep3 hb h2; have b0 := keep3 hb b0; have b1 := keep3 hb b1; have b2 := keep3 hb b2; have b3 := keep3 hb b3; have c0 := keep3 hb c0; have c1 := keep3 hb c1))
  have c2 := new3 (notK (decK false k n s k' n' s') (decN false k n s k' n' s') ⟨#[]⟩) (notN (decK false k n s k' n' s') (decN false k n s k' n' s') ⟨#[]⟩) ⟨#[]⟩ u2
  have h1 := keep3 (below1 u2 (.cells #[.int .i64 (notK (decK false k n s k' n' s') (decN false k n s k' n' s') ⟨#[]⟩), .int .i64 (notN (decK false k n s k' n' s') (decN false k n s k' n' s') ⟨#[]⟩), .string ⟨#[]⟩] 23)) h1
  have h2 := keep3 (below1 u2 (.cells #[.int .i64 (notK (decK false k n s k' n' s') (decN false k n s k' n' s') ⟨#[]⟩), .int .i64 (notN (decK false k n s k' n' s') (decN false k n s k' n' s') ⟨#[]⟩), .string ⟨#[]⟩] 23)) h2
  have b0 := keep3 (below1 u2 (.cells #[.int .i64 (notK (decK false k n s k' n' s') (decN false k n s k' n' s') ⟨#[]⟩), .int .i64 (notN (decK false k n s k' n' s') (decN false k n s k' n' s') ⟨#[]⟩), .string ⟨#[]⟩] 23)) b0
  have b1 := keep3 (below1 u2 (.cells #[.int .i64 (notK (decK false k n s k' n' s') (decN false k n s k' n' s') ⟨#[]⟩), .int .i64 (notN (decK false k n s k' n' s') (decN false k n s k' n' s') ⟨#[]⟩), .string ⟨#[]⟩] 23)) b1
  have b2 := keep3 (below1 u2 (.cells #[.int .i64 (notK (decK false k n s k' n' s') (decN false k n s k' n' s') ⟨#[]⟩), .int .i64 (notN (decK false k n s k' n' s') (decN false k n s k' n' s') ⟨#[]⟩), .string ⟨#[]⟩] 23)) b2
  have b3 := keep3 (below1 u2 (.cells #[.int .i64 (notK (decK false k n s k' n' s') (decN false k n s k' n' s') ⟨#[]⟩), .int .i64 (notN (decK false k n s k' n' s') (decN false k n s k' n' s') ⟨#[]⟩), .string ⟨#[]⟩] 23)) b3
  have c0 := keep3 (below1 u2 (.cells #[.int .i64 (notK (decK false k n s k' n' s') (decN false k n s k' n' s') ⟨#[]⟩), .int .i64 (notN (decK false k n s k' n' s') (decN false k n s k' n' s') ⟨#[]⟩), .string ⟨#[]⟩] 23)) c0
  have c1 := keep3 (below1 u2 (.cells #[.int .i64 (notK (decK false k n s k' n' s') (decN false k n s k' n' s') ⟨#[]⟩), .int .i64 (notN (decK false k n s k' n' s') (decN false k n s k' n' s') ⟨#[]⟩), .string ⟨#[]⟩] 23)) c1
  have hA := hA.trans ((below1 u2 (.cells #[.int .i64 (notK (decK false k n s k' n' s') (decN false k n s k' n' s') ⟨#[]⟩), .int .i64 (notN (decK false k n s k' n' s') (decN false k n s k' n' s') ⟨#[]⟩), .string ⟨#[]⟩] 23)).mono hA.size)
  generalize hW : u2.alloc (.cells #[.int .i64 (notK (decK false k n s k' n' s') (decN false k n s k' n' s') ⟨#[]⟩), .int .i64 (notN (decK false k n s k' n' s') (decN false k n s k' n' s') ⟨#[]⟩), .string ⟨#[]⟩] 23) = X7 at c2 h1 h2 b0 b1 b2 b3 c0 c1 hA ⊢
  clear hW
  go_upto_region 15 with (first | (go_at_call 24; refine (not_any _ _ _ _).mono ?_; rintro e u3 ⟨rfl, hb⟩; have hA : Below w.heap.size w u3 := (by (repeat (first | exact hA | exact Below.refl _ _ | (refine Below.setCell ?_ (by first | omega | (simp; done) | (simp; omega)) _) | (refine Below.alloc ?_ (by first | omega | (simp; done) | (simp; omega)) _) | (refine below_drewN ?_ _) | (refine Below.drew ?_) | (refine below_call hb (by first | omega | (simp; done) | (simp; omega)) ?_)))); have zA := hA.size; have h1 := keep3 hb h1; have h2 := keep3 hb h2; have b0 := keep3 hb b0; have b1 := keep3 hb b1; have b2 := keep3 hb b2; have b3 := keep3 hb b3; have c0 := keep3 hb c0; have c1 := keep3 hb c1; have c2 := keep3 hb c2))
  have c3 := new3 (notK (decK false k n s k' n' s') (decN false k n s k' n' s') ⟨#[]⟩) (notN (decK false k n s k' n' s') (decN false k n s k' n' s') ⟨#[]⟩) ⟨#[]⟩ u3
  have h1 := keep3 (below1 u3 (.cells #[.int .i64 (notK (decK false k n s k' n' s') (decN false k n s k' n' s') ⟨#[]⟩), .int .i64 (notN (decK false k n s k' n' s') (decN false k n s k' n' s') ⟨#[]⟩), .string ⟨#[]⟩] 23)) h1
  have h2 := keep3 (below1 u3 (.cells #[.int .i64 (notK (decK false k n s k' n' s') (decN false k n s k' n' s') ⟨#[]⟩), .int .i64 (notN (decK false k n s k' n' s') (decN false k n s k' n' s') ⟨#[]⟩), .string ⟨#[]⟩] 23)) h2
  have b0 := keep3 (below1 u3 (.cells #[.int .i64 (notK (decK false k n s k' n' s') (decN false k n s k' n' s') ⟨#[]⟩), .int .i64 (notN (decK false k n s k' n' s') (decN false k n s k' n' s') ⟨#[]⟩), .string ⟨#[]⟩] 23)) b0
  have b1 := keep3 (below1 u3 (.cells #[.int .i64 (notK (decK false k n s k' n' s') (decN false k n s k' n' s') ⟨#[]⟩), .int .i64 (notN (decK false k n s k' n' s') (decN false k n s k' n' s') ⟨#[]⟩), .string ⟨#[]⟩] 23)) b1
  have b2 := keep3 (below1 u3 (.cells #[.int .i64 (notK (decK false k n s k' n' s') (decN false k n s k' n' s') ⟨#[]⟩), .int .i64 (notN (decK false k n s k' n' s') (decN false k n s k' n' s') ⟨#[]⟩), .string ⟨#[]⟩] 23)) b2
  have b3 := keep3 (below1 u3 (.cells #[.int .i64 (notK (decK false k n s k' n' s') (decN false k n s k' n' s') ⟨#[]⟩), .int .i64 (notN (decK false k n s k' n' s') (decN false k n s k' n' s') ⟨#[]⟩), .string ⟨#[]⟩] 23)) b3
  have c0 := keep3 (below1 u3 (.cells #[.int .i64 (notK (decK false k n s k' n' s') (decN false k n s k' n' s') ⟨#[]⟩), .int .i64 (notN (decK false k n s k' n' s') (decN false k n s k' n' s') ⟨#[]⟩), .string ⟨#[]⟩] 23)) c0
  have c1 := keep3 (below1 u3 (.cells #[.int .i64 (notK (decK false k n s k' n' s') (decN false k n s k' n' s') ⟨#[]⟩), .int .i64 (notN (decK false k n s k' n' s') (decN false k n s k' n' s') ⟨#[]⟩), .string ⟨#[]⟩] 23)) c1
  have c2 := keep3 (below1 u3 (.cells #[.int .i64 (notK (decK false k n s k' n' s') (decN false k n s k' n' s') ⟨#[]⟩), .int .i64 (notN (decK false k n s k' n' s') (decN false k n s k' n' s') ⟨#[]⟩), .string ⟨#[]⟩] 23)) c2
  have hA := hA.trans ((below1 u3 (.cells #[.int .i64 (notK (decK false k n s k' n' s') (decN false k n s k' n' s') ⟨#[]⟩), .int .i64 (notN (decK false k n s k' n' s') (decN false k n s k' n' s') ⟨#[]⟩), .string ⟨#[]⟩] 23)).mono hA.size)
  generalize hW : u3.alloc (.cells #[.int .i64 (notK (decK false k n s k' n' s') (decN false k n s k' n' s') ⟨#[]⟩), .int .i64 (notN (decK false k n s k' n' s') (decN false k n s k' n' s') ⟨#[]⟩), .string ⟨#[]⟩] 23) = X8 at c3 h1 h2 b0 b1 b2 b3 c0 c1 c2 hA ⊢
  clear hW
  go_wp2
  go_ret
  exact ⟨rfl, hA⟩

theorem turns_any (k n : Int) (s : ByteArray) (k' n' : Int) (s' : ByteArray) (w : World) :
    Calls Try.prog 6 #[.agg #[.int .i64 k, .int .i64 n, .string s], .agg #[.int .i64 k', .int .i64 n', .string s']] w fun e w' => e = .returned (.bool true) ∧ Below w.heap.size w w' := by
  cases h : (fitB 2 k n s && fitB 2 k' n' s')
  · exact turns_bad k n s k' n' s' h w
  · exact turns_good k n s k' n' s' h w

end Go.Proofs.Ythcipdhfolikaaa
