/- What SameRow, CompareFunc and Less answer for any two lists: the walks. Conditions: lists that are read below the call's own blocks. -/
import Derived.Test.YtapichngakcpeaaWc
namespace Go.Proofs.Ytapichngakcpeaa
open Go.RowKit
set_option linter.unusedSimpArgs false
set_option linter.unusedVariables false

theorem run_neqV (a b : Vl) (w : World) : (binOp .neq 36 (.agg #[.int .i64 a.k, .int .i64 a.n, .string a.s]) (.agg #[.int .i64 b.k, .int .i64 b.n, .string b.s])).run Try.prog w = .ok (.bool (!eqV a b)) w := by
  rw [run_neq_struct, run_equalIn_agg w 9999 36 _ _ under36 stood36]
  simp [go_sem, eqV, Try.underlying36]
  by_cases h1 : a.k = b.k <;> by_cases h2 : a.n = b.n <;> by_cases h3 : a.s.toList = b.s.toList <;> simp [h1, h2, h3]

def sameL : List Vl → List Vl → Bool
  | [], [] => true
  | v :: l, w :: m => eqV v w && sameL l m
  | _, _ => false
theorem sameL_iff : ∀ l m, sameL l m = true ↔ l = m
  | [], [] => by simp [sameL]
  | [], _ :: _ => by simp [sameL]
  | _ :: _, [] => by simp [sameL]
  | v :: l, w :: m => by simp [sameL, eqV_iff, sameL_iff l m]

set_option maxHeartbeats 2000000 in
theorem same_len (A B : Option Addr) (n m c d : Nat) (w : World) (h : ((n : Int) == m) = false) (h' : n ≠ m) :
    Calls Try.prog 13 #[.slice A n c, .slice B m d] w fun e w' => e = .returned (.bool false) ∧ w = w' := by
  go_enter Try.func13, Try.ntmps13
  go_wp2
  go_ret
  exact ⟨rfl, rfl⟩

set_option maxHeartbeats 2000000 in
theorem same_any' (A B : Option Addr) (n c d : Nat) (l m : List Vl) (w : World) (hl : n = l.length) (hm : n = m.length) (hn : n ≤ maxLen) (rl : RdL w w.heap.size A l) (rm : RdL w w.heap.size B m) :
    Calls Try.prog 13 #[.slice A n c, .slice B n d] w fun e w' => e = .returned (.bool (sameL l m)) ∧ Below w.heap.size w w' := by
  have RL := Lib.hid rl
  have RM := Lib.hid rm
  have HL := Lib.hid hl
  have HM := Lib.hid hm
  clear rl rm hl hm
  unfold maxLen at hn
  have hg := guard36
  go_enter Try.func13, Try.ntmps13
  go_wp2_with fail
  go_loopw [4, 5] (fun r i wr => ∃ j : Nat, j ≤ n ∧ i = .int .i64 j ∧ l.take j = m.take j ∧ Below w.heap.size w wr) (fun _ i _ => n - (intOf i).toNat)
  case atStart => exact ⟨0, by omega, rfl, rfl, Below.refl _ _⟩
  case round =>
    obtain ⟨j, hj, rfl, ht, hB⟩ := hrel
    have HT := Lib.hid ht
    have HB := Lib.hid hB
    clear ht hB
    by_cases hlt : j < n
    · obtain ⟨ad, rfl, hb, k0, k1, k2⟩ := (RL.out.below HB.out).at_ (j := j) (by have := HL.out; omega)
      obtain ⟨bd, rfl, hb', q0, q1, q2⟩ := (RM.out.below HB.out).at_ (j := j) (by have := HM.out; omega)
      have lj : j < l.length := by have := HL.out; omega
      have mj : j < m.length := by have := HM.out; omega
      have hx : l[j]? = some l[j] := List.getElem?_eq_getElem lj
      have hy : m[j]? = some m[j] := List.getElem?_eq_getElem mj
      generalize l[j] = x at k0 k1 k2 hx
      generalize m[j] = y at q0 q1 q2 hy
      have HX := Lib.hid hx
      have HY := Lib.hid hy
      clear hx hy
      have heq := run_neqV x y
      cases he : eqV x y
      · rw [he] at heq
        have HE : Hid (eqV x y = false) := he
        clear he
        go_wp2_with fail
        go_quiet (fail)
        go_wp2
        go_ret
        refine ⟨ret_bool (Eq.symm (Bool.eq_false_iff.2 fun h => ?_)), below_drewN HB.out _⟩
        rw [sameL_iff] at h
        subst h
        have e : x = y := Option.some.inj (HX.out.symm.trans HY.out)
        have h2 := HE.out
        rw [e, (eqV_iff y y).2 rfl] at h2
        cases h2
      · rw [he] at heq
        have HE : Hid (x = y) := (eqV_iff x y).1 he
        clear he
        go_wp2_with fail
        go_quiet (fail)
        go_wp2
        go_roundw
        case rel =>
          refine ⟨j + 1, by omega, by go_num, ?_, below_drewN HB.out _⟩
          rw [List.take_add_one, List.take_add_one, HX.out, HY.out, HT.out, HE.out]
        case measure => simp [intOf]; omega
    · have hj' : j = n := by omega
      have h1 : l.take j = l := List.take_of_length_le (by have := HL.out; omega)
      have h2 : m.take j = m := List.take_of_length_le (by have := HM.out; omega)
      have HE : Hid (l = m) := by
        show l = m
        rw [← h1, ← h2]; exact HT.out
      clear h1 h2 hj'
      go_wp2
      go_ret
      exact ⟨ret_bool (by rw [(sameL_iff l m).2 HE.out]), HB.out⟩

theorem same_any (A B : Option Addr) (n k c d : Nat) (l m : List Vl) (w : World) (hl : n = l.length) (hm : k = m.length) (hn : n ≤ maxLen) (rl : RdL w w.heap.size A l) (rm : RdL w w.heap.size B m) :
    Calls Try.prog 13 #[.slice A n c, .slice B k d] w fun e w' => e = .returned (.bool (sameL l m)) ∧ Below w.heap.size w w' := by
  by_cases h : n = k
  · subst h
    exact same_any' A B n c d l m w hl hm hn rl rm
  · refine (same_len A B n k c d w (by simp; omega) h).mono fun e w' ⟨h1, h2⟩ => ⟨?_, by subst h2; exact Below.refl _ _⟩
    have : sameL l m = false := by
      rw [Bool.eq_false_iff]
      intro h3
      rw [sameL_iff] at h3
      subst h3
      omega
    rw [h1, this]

end Go.Proofs.Ytapichngakcpeaa
