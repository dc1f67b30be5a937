/- Sums, differences, products and quotients of 64-bit numbers and when they fit: plain arithmetic. Conditions: both numbers are of 64 bits. -/
import Derived.WalkKit
namespace Go.Proofs.Ythcipdhfolikaaa
open Go.RowKit
set_option linter.unusedSimpArgs false
set_option linter.unusedVariables false

def inR (x : Int) : Bool := decide (-9223372036854775808 ≤ x) && decide (x ≤ 9223372036854775807)
def tru (op a b : Int) : Int := if op = 4 then a + b else if op = 5 then a - b else if op = 6 then a * b else a.tdiv b

theorem wrap_in {x : Int} (h : inR x = true) : wrap64 x = x := by
  simp [inR] at h
  unfold wrap64; omega
theorem add_B (a b : Int) (ha : inR a = true) (hb : inR b = true) : (decide (a < wrap64 (a + b)) == decide (0 < b)) = inR (a + b) := by
  simp [inR] at ha hb
  rw [Bool.eq_iff_iff]
  simp [inR]
  unfold wrap64
  omega
theorem sub_B (a b : Int) (ha : inR a = true) (hb : inR b = true) : (decide (wrap64 (a - b) < a) == decide (0 < b)) = inR (a - b) := by
  simp [inR] at ha hb
  rw [Bool.eq_iff_iff]
  simp [inR]
  unfold wrap64
  omega
theorem wrap_inR (x : Int) : inR (wrap64 x) = true := by
  simp [inR]; unfold wrap64; omega
theorem wrap_mod (x : Int) : ∃ k : Int, wrap64 x = x + 18446744073709551616 * k := by
  unfold wrap64
  refine ⟨-((x + 9223372036854775808) / 18446744073709551616), ?_⟩
  omega
theorem tdiv_bd (x b : Int) (h0 : b ≠ 0) (hx : inR x = true) (hn : ¬ (x = -9223372036854775808 ∧ b = -1)) : inR (x.tdiv b) = true := by
  simp [inR] at hx
  have h1 : (x.tdiv b).natAbs = x.natAbs / b.natAbs := Int.natAbs_tdiv x b
  have h2 : x.natAbs / b.natAbs ≤ x.natAbs := Nat.div_le_self _ _
  by_cases hm : x = -9223372036854775808
  · by_cases hb1 : b = 1
    · subst hb1; simp [inR, Int.tdiv_one]; omega
    · have hb2 : 2 ≤ b.natAbs := by omega
      have h3 : x.natAbs / b.natAbs ≤ x.natAbs / 2 := Nat.div_le_div_left hb2 (by omega)
      simp [inR]; omega
  · simp [inR]; omega
theorem mul_B (a b : Int) (ha : inR a = true) (hb : inR b = true) (h0 : b ≠ 0) (hd : ¬ (a = -9223372036854775808 ∧ b = -1)) : (wrap64 ((wrap64 (a * b)).tdiv b) == a) = inR (a * b) := by
  rw [Bool.eq_iff_iff]
  constructor
  · intro h
    have h := eq_of_beq h
    have hx := wrap_inR (a * b)
    obtain ⟨k, hk⟩ := wrap_mod (a * b)
    generalize hxx : wrap64 (a * b) = x at h hx hk
    have hn : ¬ (x = -9223372036854775808 ∧ b = -1) := by
      rintro ⟨rfl, rfl⟩
      apply hd
      refine ⟨?_, rfl⟩
      rw [← h]; decide +kernel
    rw [wrap_in (tdiv_bd x b h0 hx hn)] at h
    have h1 := Int.mul_tdiv_add_tmod x b
    have h2 : (x.tmod b).natAbs = x.natAbs % b.natAbs := Int.natAbs_tmod x b
    have h3 : x.natAbs % b.natAbs < b.natAbs := Nat.mod_lt _ (by omega)
    rw [h] at h1
    have h4 : b * a = a * b := Int.mul_comm b a
    simp [inR] at hb
    have hk0 : k = 0 := by omega
    subst hk0
    have : x = a * b := by omega
    rw [← this]; exact hx
  · intro h
    rw [wrap_in h, Int.mul_tdiv_cancel _ h0, wrap_in ha]
    simp
end Go.Proofs.Ythcipdhfolikaaa
