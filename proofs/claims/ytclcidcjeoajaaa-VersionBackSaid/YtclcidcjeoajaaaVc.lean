/- What slices.IndexFunc answers over the tests of See and Prune, and Check over any chain: the walks. Conditions: chains that are read in memory. -/
import Derived.Test.YtclcidcjeoajaaaVb
namespace Go.Proofs.Ytclcidcjeoajaaa
open Go.RowKit Go.Sort
set_option linter.unusedSimpArgs false
set_option linter.unusedVariables false

theorem idx_up {p : Ver → Bool} {l : List Ver} {j : Nat} (h : j ≤ l.findIdx p) (hj : j < l.length) (hp : p l[j] = false) : j + 1 ≤ l.findIdx p := by
  rcases Nat.lt_or_ge j (l.findIdx p) with h1 | h1
  · omega
  · have e : l.findIdx p = j := by omega
    have := List.findIdx_getElem (p := p) (xs := l) (w := by omega)
    simp only [e] at this
    rw [hp] at this; cases this
theorem idx_hit {p : Ver → Bool} {l : List Ver} {j : Nat} (h : j ≤ l.findIdx p) (hj : j < l.length) (hp : p l[j] = true) : idx p l = j := by
  have e : l.findIdx p = j := by
    rcases Nat.lt_or_ge j (l.findIdx p) with h1 | h1
    · have := List.not_of_lt_findIdx h1
      rw [hp] at this; cases this
    · omega
  unfold idx
  rw [e, if_pos hj]
theorem idx_no {p : Ver → Bool} {l : List Ver} (h : l.length ≤ l.findIdx p) : idx p l = -1 := by
  unfold idx
  rw [if_neg (by omega)]
set_option maxHeartbeats 2000000 in
theorem index_cmt (m : Int) (q : Addr) (A : Option Addr) (n c : Nat) (l : List Ver) (w : World) (hr : Rd w A n c l) (hc : w.cell? q = some (.int .i64 m)) :
    Calls Try.prog 16 #[.slice A n c, .func (.func 29) #[] #[.pointer (some q)]] w fun e w' => e = .returned (.int .i64 (idx (cmtB m) l)) ∧ Below w.heap.size w w' := by
  have hl := hr.len
  have hcap : n ≤ 9223372036854775807 := by have := hr.le; have := hr.cap; omega
  subst hl
  have HR := Lib.hid hr
  have HC := Lib.hid hc
  have HT := Lib.hid fun (v : Ver) W (hb : W.cell? q = some (.int .i64 m)) => isOld_any v m q W hb
  clear hr hc
  go_enter Try.func16, Try.ntmps16
  go_wp2
  go_loopw [5, 8] (fun _ i wr => ∃ j : Nat, j ≤ l.length ∧ i = .int .i64 j ∧ j ≤ l.findIdx (cmtB m) ∧ Below w.heap.size w wr) (fun _ i _ => l.length - (intOf i).toNat)
  case atStart => exact ⟨0, by omega, rfl, by omega, Below.refl _ _⟩
  case round =>
    obtain ⟨j, hj, rfl, hno, hB⟩ := hrel
    have HB := Lib.hid hB
    have HN := Lib.hid hno
    clear hB hno
    by_cases hlt : j < l.length
    · obtain ⟨ad, rfl, c0, c1, c2, c3⟩ := (HR.out.below HB.out).at_ hlt
      have hb0 := cell_lt c0
      rw [add_block] at hb0
      have HCW := Lib.hid (cell_keep HC.out HB.out)
      generalize hv : l[j] = v at *
      have HV := Lib.hid hv
      clear hv
      cases hp : cmtB m v
      · have HP := Lib.hid hp
        have ht := HT.out v
        rw [hp] at ht
        have HT2 := Lib.hid ht
        clear ht hp
        go_wp2_with (go_at_call 29; (with_reducible refine (HT2.out _ HCW.out).mono ?_); rintro e w2 ⟨rfl, hb⟩)
        go_roundw
        case rel => exact ⟨j + 1, hlt, by go_num, idx_up HN.out hlt (by rw [HV.out]; exact HP.out), thn HB.out hb⟩
        case measure => simp [intOf]; omega
      · have HP := Lib.hid hp
        have ht := HT.out v
        rw [hp] at ht
        have HT2 := Lib.hid ht
        clear ht hp
        go_wp2_with (go_at_call 29; (with_reducible refine (HT2.out _ HCW.out).mono ?_); rintro e w2 ⟨rfl, hb⟩)
        go_ret
        exact ⟨ret_int (idx_hit HN.out hlt (by rw [HV.out]; exact HP.out)).symm, thn HB.out hb⟩
    · go_wp2
      go_ret
      exact ⟨ret_int (idx_no (by have := HN.out; omega)).symm, HB.out⟩
set_option maxHeartbeats 2000000 in
theorem index_see (m x : Int) (p f q : Addr) (A : Option Addr) (n c : Nat) (l : List Ver) (w : World) (hr : Rd w A n c l) (hc : Caps w m x p f q) :
    Calls Try.prog 16 #[.slice A n c, .func (.func 21) #[] #[.pointer (some p), .pointer (some f)]] w fun e w' => e = .returned (.int .i64 (idx (seeB m x) l)) ∧ Below w.heap.size w w' := by
  have hl := hr.len
  have hcap : n ≤ 9223372036854775807 := by have := hr.le; have := hr.cap; omega
  subst hl
  have HR := Lib.hid hr
  have HC := Lib.hid hc
  have HT := Lib.hid fun (v : Ver) W (hb : Caps W m x p f q) => sees_any v m x p f q W hb
  clear hr hc
  go_enter Try.func16, Try.ntmps16
  go_wp2
  go_loopw [5, 8] (fun _ i wr => ∃ j : Nat, j ≤ l.length ∧ i = .int .i64 j ∧ j ≤ l.findIdx (seeB m x) ∧ Below w.heap.size w wr) (fun _ i _ => l.length - (intOf i).toNat)
  case atStart => exact ⟨0, by omega, rfl, by omega, Below.refl _ _⟩
  case round =>
    obtain ⟨j, hj, rfl, hno, hB⟩ := hrel
    have HB := Lib.hid hB
    have HN := Lib.hid hno
    clear hB hno
    by_cases hlt : j < l.length
    · obtain ⟨ad, rfl, c0, c1, c2, c3⟩ := (HR.out.below HB.out).at_ hlt
      have hb0 := cell_lt c0
      rw [add_block] at hb0
      have HCW := Lib.hid (HC.out.below HB.out)
      generalize hv : l[j] = v at *
      have HV := Lib.hid hv
      clear hv
      cases hp : seeB m x v
      · have HP := Lib.hid hp
        have ht := HT.out v
        rw [hp] at ht
        have HT2 := Lib.hid ht
        clear ht hp
        go_wp2_with (go_at_call 21; (with_reducible refine (HT2.out _ HCW.out).mono ?_); rintro e w2 ⟨rfl, hb⟩)
        go_roundw
        case rel => exact ⟨j + 1, hlt, by go_num, idx_up HN.out hlt (by rw [HV.out]; exact HP.out), thn HB.out hb⟩
        case measure => simp [intOf]; omega
      · have HP := Lib.hid hp
        have ht := HT.out v
        rw [hp] at ht
        have HT2 := Lib.hid ht
        clear ht hp
        go_wp2_with (go_at_call 21; (with_reducible refine (HT2.out _ HCW.out).mono ?_); rintro e w2 ⟨rfl, hb⟩)
        go_ret
        exact ⟨ret_int (idx_hit HN.out hlt (by rw [HV.out]; exact HP.out)).symm, thn HB.out hb⟩
    · go_wp2
      go_ret
      exact ⟨ret_int (idx_no (by have := HN.out; omega)).symm, HB.out⟩
end Go.Proofs.Ytclcidcjeoajaaa
