/- What CompareFunc and Less answer for any two lists: the walks. Conditions: lists that are read below the call's own blocks. -/
import Derived.Test.YtapichngakcpeaaVi
namespace Go.Proofs.Ytapichngakcpeaa
open Go.RowKit
set_option linter.unusedSimpArgs false
set_option linter.unusedVariables false

theorem order_zero (x y : Vl) (h : ordV x y = 0) (w : World) : Calls Try.prog 22 #[.agg #[.int .i64 x.k, .int .i64 x.n, .string x.s], .agg #[.int .i64 y.k, .int .i64 y.n, .string y.s]] w fun e w' => e = .returned (.int .i64 0) ∧ Below w.heap.size w w' := by
  rw [← h]; exact order_any x y w
set_option maxHeartbeats 2000000 in
theorem comp_any (A B : Option Addr) (n k c d : Nat) (l m : List Vl) (w : World) (hl : n = l.length) (hm : k = m.length) (hn : n ≤ maxLen) (hk : k ≤ maxLen) (rl : RdL w w.heap.size A l) (rm : RdL w w.heap.size B m) :
    Calls Try.prog 21 #[.slice A n c, .slice B k d, .func (.func 22) #[] #[]] w fun e w' => e = .returned (.int .i64 (cmpV l m)) ∧ Below w.heap.size w w' := by
  have RL := Lib.hid rl
  have RM := Lib.hid rm
  have HL := Lib.hid hl
  have HM := Lib.hid hm
  clear rl rm hl hm
  unfold maxLen at hn hk
  go_enter Try.func21, Try.ntmps21
  go_wp2_with fail
  go_loopw [6, 7, 8, 9, 10, 13] (fun r u v x y i wr => ∃ j : Nat, j ≤ n ∧ j ≤ k ∧ i = .int .i64 j ∧ cmpV l m = cmpV (l.drop j) (m.drop j) ∧ Below w.heap.size w wr ∧ w.heap.size ≤ wr.heap.size) (fun _ _ _ _ _ i _ => n - (intOf i).toNat)
  case atStart => exact ⟨0, by omega, by omega, rfl, rfl, Below.refl _ _, by omega⟩
  case round =>
    obtain ⟨j, hj, hjk, rfl, ht, hB, hz⟩ := hrel
    have HT := Lib.hid ht
    have HB := Lib.hid hB
    clear ht hB
    by_cases hlt : j < n
    · obtain ⟨ad, rfl, hb, k0, k1, k2⟩ := (RL.out.below HB.out).at_ (j := j) (by have := HL.out; omega)
      have lj : j < l.length := by have := HL.out; omega
      have hx : l[j]? = some l[j] := List.getElem?_eq_getElem lj
      have hd : l.drop j = l[j] :: l.drop (j + 1) := List.drop_eq_getElem_cons lj
      generalize l[j] = x at k0 k1 k2 hx hd
      have HX := Lib.hid hd
      clear hx hd
      by_cases hge : j < k
      · obtain ⟨bd, rfl, hb', q0, q1, q2⟩ := (RM.out.below (HB.out.alloc hz (.cells #[.int .i64 x.k, .int .i64 x.n, .string x.s] 36))).at_ (j := j) (by have := HM.out; omega)
        have mj : j < m.length := by have := HM.out; omega
        have hy : m.drop j = m[j] :: m.drop (j + 1) := List.drop_eq_getElem_cons mj
        generalize m[j] = y at q0 q1 q2 hy
        have HY := Lib.hid hy
        clear hy
        have hB1 : Below w.heap.size w ((wr.alloc (.cells #[.int .i64 x.k, .int .i64 x.n, .string x.s] 36)).alloc (.cells #[.int .i64 y.k, .int .i64 y.n, .string y.s] 36)) := (HB.out.alloc hz _).alloc (by simp; omega) _
        have HB1 := Lib.hid hB1
        clear hB1
        by_cases ho : ordV x y = 0
        · have HO := Lib.hid ho
          clear ho
          go_wp2_with (go_at_call 22; refine (order_zero x y HO.out _).mono ?_; rintro e w1 ⟨rfl, h⟩; have HB2 := Lib.hid (HB1.out.trans (h.mono (by simp; omega))); have hz2 : w.heap.size ≤ w1.heap.size := (by have := h.size; simp at this; omega); clear h)
          go_roundw
          case rel => exact ⟨j + 1, by omega, by omega, by go_num, by rw [HT.out, HX.out, HY.out]; simp [cmpV, HO.out], HB2.out, hz2⟩
          case measure => simp [intOf]; omega
        · have hne : (ordV x y == 0) = false := by simp; exact ho
          have HO : Hid (cmpV l m = ordV x y) := by
            show _ = _
            rw [HT.out, HX.out, HY.out]; simp [cmpV, ho]
          clear ho
          go_wp2_with (go_at_call 22; refine (order_any x y _).mono ?_; rintro e w1 ⟨rfl, h⟩; have HB2 := Lib.hid (HB1.out.trans (h.mono (by simp; omega))); clear h)
          go_ret
          exact ⟨ret_int HO.out.symm, HB2.out⟩
      · have HY : Hid (m.drop j = []) := List.drop_eq_nil_of_le (by have := HM.out; omega)
        have hB1 : Below w.heap.size w (wr.alloc (.cells #[.int .i64 x.k, .int .i64 x.n, .string x.s] 36)) := HB.out.alloc hz _
        have HB1 := Lib.hid hB1
        clear hB1
        go_wp2
        go_ret
        exact ⟨ret_int (by rw [HT.out, HX.out, HY.out]; rfl), HB1.out⟩
    · have HX : Hid (l.drop j = []) := List.drop_eq_nil_of_le (by have := HL.out; omega)
      by_cases hlt2 : n < k
      · have mj : j < m.length := by have := HM.out; omega
        have HY : Hid (m.drop j = m[j] :: m.drop (j + 1)) := List.drop_eq_getElem_cons mj
        go_wp2
        go_ret
        exact ⟨ret_int (by rw [HT.out, HX.out, HY.out]; rfl), HB.out⟩
      · have HY : Hid (m.drop j = []) := List.drop_eq_nil_of_le (by have := HM.out; omega)
        go_wp2
        go_ret
        exact ⟨ret_int (by rw [HT.out, HX.out, HY.out]; rfl), HB.out⟩

theorem less_any (A B : Option Addr) (n k c d : Nat) (l m : List Vl) (w : World) (hl : n = l.length) (hm : k = m.length) (hn : n ≤ maxLen) (hk : k ≤ maxLen) (rl : RdL w w.heap.size A l) (rm : RdL w w.heap.size B m) :
    Calls Try.prog 14 #[.slice A n c, .slice B k d] w fun e w' => e = .returned (.bool (decide (cmpV l m < 0))) ∧ Below w.heap.size w w' := by
  have hc := comp_any A B n k c d l m w hl hm hn hk rl rm
  clear hl hm rl rm
  go_enter Try.func14, Try.ntmps14
  go_wp2_with (go_at_call 21; refine hc.mono ?_; rintro e w1 ⟨rfl, h⟩)
  go_ret
  exact ⟨rfl, h⟩

end Go.Proofs.Ytapichngakcpeaa
