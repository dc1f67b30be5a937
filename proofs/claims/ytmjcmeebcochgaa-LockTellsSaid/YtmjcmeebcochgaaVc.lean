/- What slices.ContainsFunc answers over the test isWithin of any lock: the walks. Conditions: locks that are read in memory. -/
import Derived.Test.YtmjcmeebcochgaaVb
namespace Go.Proofs.Ytmjcmeebcochgaa
open Go.RowKit Go.Sort
set_option linter.unusedSimpArgs false
set_option linter.unusedVariables false

def idx (p : Lk → Bool) (l : List Lk) : Int := if l.findIdx p < l.length then (l.findIdx p : Int) else -1
theorem idx_any (p : Lk → Bool) (l : List Lk) : decide (0 ≤ idx p l) = l.any p := by
  have h : l.findIdx p < l.length ↔ l.any p = true := by rw [List.findIdx_lt_length, List.any_eq_true]
  unfold idx
  by_cases hc : l.any p = true
  · rw [if_pos (h.2 hc), hc]; simp
  · rw [if_neg (fun e => hc (h.1 e))]
    simp at hc ⊢
    exact hc
theorem idx_up {p : Lk → Bool} {l : List Lk} {j : Nat} (h : j ≤ l.findIdx p) (hj : j < l.length) (hp : p l[j] = false) : j + 1 ≤ l.findIdx p := by
  rcases Nat.lt_or_ge j (l.findIdx p) with h1 | h1
  · omega
  · have e : l.findIdx p = j := by omega
    have := List.findIdx_getElem (p := p) (xs := l) (w := by omega)
    simp only [e] at this
    rw [hp] at this; cases this
theorem idx_hit {p : Lk → Bool} {l : List Lk} {j : Nat} (h : j ≤ l.findIdx p) (hj : j < l.length) (hp : p l[j] = true) : idx p l = j := by
  have e : l.findIdx p = j := by
    rcases Nat.lt_or_ge j (l.findIdx p) with h1 | h1
    · have := List.not_of_lt_findIdx h1
      rw [hp] at this; cases this
    · omega
  unfold idx
  rw [e, if_pos hj]
theorem idx_no {p : Lk → Bool} {l : List Lk} (h : l.length ≤ l.findIdx p) : idx p l = -1 := by
  unfold idx
  rw [if_neg (by omega)]
set_option maxHeartbeats 2000000 in
theorem index_wit (x : Lk) (A : Option Addr) (n c : Nat) (l : List Lk) (w : World) (hr : Rd w A n c l) :
    Calls Try.prog 44 #[.slice A n c, .func (.func 28) #[.agg #[.int .i64 x.t, .string x.lo.s, .string x.hi.s]] #[]] w fun e w' => e = .returned (.int .i64 (idx (witB x) l)) ∧ Below w.heap.size w w' := by
  have hl := hr.len
  have hcap : n ≤ 9223372036854775807 := by have := hr.le; have := hr.cap; omega
  subst hl
  have HR := Lib.hid hr
  have HT := Lib.hid fun (v : Lk) W => within_any x v W
  clear hr
  go_enter Try.func44, Try.ntmps44
  go_wp2
  go_loopw [5, 8] (fun _ i wr => ∃ j : Nat, j ≤ l.length ∧ i = .int .i64 j ∧ j ≤ l.findIdx (witB x) ∧ Below w.heap.size w wr) (fun _ i _ => l.length - (intOf i).toNat)
  case atStart => exact ⟨0, by omega, rfl, by omega, Below.refl _ _⟩
  case round =>
    obtain ⟨j, hj, rfl, hno, hB⟩ := hrel
    have HB := Lib.hid hB
    have HN := Lib.hid hno
    clear hB hno
    by_cases hlt : j < l.length
    · obtain ⟨ad, rfl, c0, c1, c2⟩ := (HR.out.below HB.out).at_ hlt
      have hb0 := cell_lt c0
      rw [add_block] at hb0
      generalize hv : l[j] = v at *
      have HV := Lib.hid hv
      clear hv
      cases hp : witB x v
      · have HP := Lib.hid hp
        have ht := HT.out v
        rw [hp] at ht
        have HT2 := Lib.hid ht
        clear ht hp
        go_wp2_with (go_at_call 28; (with_reducible refine (HT2.out _).mono ?_); rintro e w2 ⟨rfl, hb⟩)
        go_roundw
        case rel => exact ⟨j + 1, hlt, by go_num, idx_up HN.out hlt (by rw [HV.out]; exact HP.out), thn HB.out hb⟩
        case measure => simp [intOf]; omega
      · have HP := Lib.hid hp
        have ht := HT.out v
        rw [hp] at ht
        have HT2 := Lib.hid ht
        clear ht hp
        go_wp2_with (go_at_call 28; (with_reducible refine (HT2.out _).mono ?_); rintro e w2 ⟨rfl, hb⟩)
        go_ret
        exact ⟨ret_int (idx_hit HN.out hlt (by rw [HV.out]; exact HP.out)).symm, thn HB.out hb⟩
    · go_wp2
      go_ret
      exact ⟨ret_int (idx_no (by have := HN.out; omega)).symm, HB.out⟩
theorem contains_wit (x : Lk) (A : Option Addr) (n c : Nat) (l : List Lk) (w : World) (hr : Rd w A n c l) :
    Calls Try.prog 27 #[.slice A n c, .func (.func 28) #[.agg #[.int .i64 x.t, .string x.lo.s, .string x.hi.s]] #[]] w fun e w' => e = .returned (.bool (l.any (witB x))) ∧ Below w.heap.size w w' := by
  have HI := Lib.hid (index_wit x A n c l w hr)
  rw [← idx_any]
  generalize idx (witB x) l = i at *
  clear hr
  go_enter Try.func27, Try.ntmps27
  go_wp2_with (go_at_call 44; (with_reducible refine HI.out.mono ?_); rintro e w2 ⟨rfl, hb⟩)
  all_goals go_ret
  all_goals exact ⟨ret_bool (by simp), hb⟩
end Go.Proofs.Ytmjcmeebcochgaa
