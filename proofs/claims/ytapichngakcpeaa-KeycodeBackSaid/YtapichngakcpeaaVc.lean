/- How many octets a number needs: needed is need. Conditions: numbers of 64 bits. -/
import Derived.Test.YtapichngakcpeaaVa
import Derived.Test.YtapichngakcpeaaVb
namespace Go.Proofs.Ytapichngakcpeaa
open Go.RowKit
set_option linter.unusedSimpArgs false
set_option linter.unusedVariables false

theorem need_bits : ∀ (f m : Nat), m < 256 ^ f → f ≤ 8 → need m = (Lib.bitLen m + 7) / 8
  | 0, m, h, _ => by
    have : m = 0 := by simpa using h
    subst this; rw [need_zero]; decide
  | f + 1, m, h, hf => by
    by_cases h0 : m = 0
    · subst h0; rw [need_zero]; decide
    · have hm : m < 2 ^ 64 := by
        have h1 : (256 : Nat) ^ (f + 1) ≤ 256 ^ 8 := Nat.pow_le_pow_right (by omega) (by omega)
        have h2 : (256 : Nat) ^ 8 = 2 ^ 64 := by decide
        omega
      rw [need_pos h0]
      by_cases hs : m < 256
      · have e : m / 256 = 0 := by omega
        have l := Lib.bitLen_le8 ⟨m, hs⟩
        have hh := Lib.bitLen_half m h0 hm
        simp only at l
        rw [e, need_zero]
        omega
      · have hs' := Lib.bitLen_shift 8 m (by omega) hm
        have ih := need_bits f (m / 256) (by rw [Nat.pow_succ] at h; omega) (by omega)
        have e : (2 : Nat) ^ 8 = 256 := by decide
        rw [e] at hs'
        rw [ih, hs']
        omega

theorem bits_of (x : Int) (h0 : 0 ≤ x) (h1 : x ≤ 18446744073709551615) : ∃ l : Int, (Lib.bitLen x.toNat : Int) = l ∧ 0 ≤ l ∧ l ≤ 64 ∧ (l + 7) / 8 = (need x.toNat : Int) := by
  have e : (256 : Nat) ^ 8 = 18446744073709551616 := by decide
  have hn := need_bits 8 x.toNat (by rw [e]; omega) (by omega)
  have h8 := need_le 8 x.toNat (by rw [e]; omega)
  exact ⟨_, rfl, by omega, by omega, by omega⟩

set_option maxHeartbeats 400000 in
theorem needed_any (x : Int) (w : World) (h0 : 0 ≤ x) (h1 : x ≤ 18446744073709551615) :
    Calls Try.prog 31 #[.int .u64 x] w fun e w' => e = .returned (.int .i64 (need x.toNat)) ∧ w = w' := by
  obtain ⟨l, el, l0, l1, l2⟩ := bits_of x h0 h1
  have hc : ∀ w, Calls Try.prog 35 #[.int .u64 x] w fun e w' => e = .returned (.int .i64 l) ∧ w = w' := fun w => by
    rw [← el]; exact len64_any x w h0 h1
  have HL := Lib.hid l2
  clear l2 el
  go_enter Try.func31, Try.ntmps31
  go_wp2_with (go_at_call 35; refine (hc _).mono ?_; rintro e w1 ⟨rfl, rfl⟩)
  go_ret
  exact ⟨ret_int HL.out, rfl⟩

end Go.Proofs.Ytapichngakcpeaa
