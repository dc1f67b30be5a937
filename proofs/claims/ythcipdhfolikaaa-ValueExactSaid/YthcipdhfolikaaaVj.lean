/- What the amounts of package value and number of the reference answer for any numbers: the walks. Conditions: both numbers are of 64 bits. -/
import Derived.Test.YthcipdhfolikaaaVi
import Derived.Test.YthcipdhfolikaaaVn
namespace Go.Proofs.Ythcipdhfolikaaa
open Go.RowKit
set_option linter.unusedSimpArgs false
set_option linter.unusedVariables false

/-- What an op makes of two numbers: the number, the error. -/
def numN (op a b : Int) : Int := if op = 7 ∧ b = 0 then 0 else if inR (tru op a b) = true then tru op a b else 0
def numE (op a b : Int) : Int := if op = 7 ∧ b = 0 then 85 else if inR (tru op a b) = true then 0 else 84

theorem amount_add (p q : Addr) (a b : Int) (w : World) (hp : w.cell? p = some (.int .i64 a)) (hq : w.cell? q = some (.int .i64 b)) (ha : inR a = true) (hb : inR b = true) :
    Calls Try.prog 45 #[.pointer (some p), .pointer (some q)] w fun e w' => e = .returned (.tuple #[.int .i64 (numN 4 a b), .int .i64 (numE 4 a b)]) ∧ ∃ n, w' = w.drewN n :=
  (add_any p q a b w hp hq).mono fun e w' ⟨h1, h2⟩ => by
    rw [add_B a b ha hb] at h1
    refine ⟨h1.trans (ret_nums ?_ ?_), 0, h2.symm⟩
    · have := @wrap_in (a + b)
      grind [exN, numN, tru]
    · grind [exE, numE, tru]
theorem amount_sub (p q : Addr) (a b : Int) (w : World) (hp : w.cell? p = some (.int .i64 a)) (hq : w.cell? q = some (.int .i64 b)) (ha : inR a = true) (hb : inR b = true) :
    Calls Try.prog 47 #[.pointer (some p), .pointer (some q)] w fun e w' => e = .returned (.tuple #[.int .i64 (numN 5 a b), .int .i64 (numE 5 a b)]) ∧ ∃ n, w' = w.drewN n :=
  (sub_any p q a b w hp hq).mono fun e w' ⟨h1, h2⟩ => by
    rw [sub_B a b ha hb] at h1
    refine ⟨h1.trans (ret_nums ?_ ?_), 0, h2.symm⟩
    · have := @wrap_in (a - b)
      grind [exN, numN, tru]
    · grind [exE, numE, tru]
theorem amount_mul (p q : Addr) (a b : Int) (w : World) (hp : w.cell? p = some (.int .i64 a)) (hq : w.cell? q = some (.int .i64 b)) (ha : inR a = true) (hb : inR b = true) :
    Calls Try.prog 48 #[.pointer (some p), .pointer (some q)] w fun e w' => e = .returned (.tuple #[.int .i64 (numN 6 a b), .int .i64 (numE 6 a b)]) ∧ ∃ n, w' = w.drewN n := by
  by_cases h0 : b = 0
  · subst h0
    exact (mul_zero p q a w hp hq).mono fun e w' ⟨h1, h2⟩ => ⟨h1.trans (ret_nums (by simp [numN, tru, inR]) (by simp [numE, tru, inR])), h2⟩
  · by_cases hd : a = -9223372036854775808 ∧ b = -1
    · obtain ⟨rfl, rfl⟩ := hd
      exact (mul_least p q w hp hq).mono fun e w' ⟨h1, h2⟩ => ⟨h1.trans (ret_nums (by simp [numN, tru, inR]) (by simp [numE, tru, inR])), h2⟩
    · refine (mul_any p q a b w hp hq (by simpa using h0) h0 (by show (a != -9223372036854775808 || b != -1) = true; grind)).mono fun e w' ⟨h1, h2⟩ => ?_
      rw [mul_B a b ha hb h0 hd] at h1
      refine ⟨h1.trans (ret_nums ?_ ?_), h2⟩
      · have := @wrap_in (a * b)
        grind [exN, numN, tru]
      · grind [exE, numE, tru]
theorem amount_quo (p q : Addr) (a b : Int) (w : World) (hp : w.cell? p = some (.int .i64 a)) (hq : w.cell? q = some (.int .i64 b)) (ha : inR a = true) :
    Calls Try.prog 50 #[.pointer (some q), .pointer (some p)] w fun e w' => e = .returned (.tuple #[.int .i64 (numN 7 a b), .int .i64 (numE 7 a b)]) ∧ ∃ n, w' = w.drewN n :=
  (quo_any p q a b w hp hq).mono fun e w' ⟨h1, h2⟩ => by
    refine ⟨h1.trans (ret_nums ?_ ?_), 0, h2.symm⟩
    · by_cases h0 : b = 0
      · simp [quoN, numN, h0]
      · by_cases hd : a = -9223372036854775808 ∧ b = -1
        · obtain ⟨rfl, rfl⟩ := hd; decide +kernel
        · have h3 := tdiv_bd a b h0 ha hd
          simp [quoN, numN, tru, h0, hd, h3, wrap_in h3]
    · by_cases h0 : b = 0
      · simp [quoE, numE, h0]
      · by_cases hd : a = -9223372036854775808 ∧ b = -1
        · obtain ⟨rfl, rfl⟩ := hd; decide +kernel
        · have h3 := tdiv_bd a b h0 ha hd
          simp [quoE, numE, tru, h0, hd, h3]

end Go.Proofs.Ythcipdhfolikaaa
