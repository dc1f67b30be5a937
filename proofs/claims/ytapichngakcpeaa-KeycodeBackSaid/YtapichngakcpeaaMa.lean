/- The octets of a value, the key of a list, and the order of octets: plain mathematics. Conditions: none. -/
import Derived.WalkKit
namespace Go.Proofs.Ytapichngakcpeaa
set_option linter.unusedSimpArgs false
set_option linter.unusedVariables false

/-- A value: its kind, its number, its text. -/
structure Vl where
  k : Int
  n : Int
  s : ByteArray

def inR (n : Int) : Bool := decide (-9223372036854775808 ≤ n) && decide (n ≤ 9223372036854775807)
theorem inR_iff {n : Int} : inR n = true ↔ -9223372036854775808 ≤ n ∧ n ≤ 9223372036854775807 := by simp [inR]

def mayB (k n : Int) (s : ByteArray) : Bool :=
  if k = 0 then decide (n = 0) && s.toList.isEmpty
  else if k = 1 then s.toList.isEmpty
  else if k = 2 then (decide (n = 0) || decide (n = 1)) && s.toList.isEmpty
  else if k = 3 then decide (n = 0) && decide ((s.size : Int) ≤ 64)
  else false

/-- How many octets an amount needs. -/
def need (m : Nat) : Nat := if h : m = 0 then 0 else need (m / 256) + 1
decreasing_by omega

theorem need_zero : need 0 = 0 := by rw [need]; simp
theorem need_pos {m : Nat} (h : m ≠ 0) : need m = need (m / 256) + 1 := by rw [need]; simp [h]
theorem need_le : ∀ (k m : Nat), m < 256 ^ k → need m ≤ k
  | 0, m, h => by
    have : m = 0 := by simpa using h
    subst this; rw [need_zero]; exact Nat.le_refl 0
  | k + 1, m, h => by
    by_cases hm : m = 0
    · subst hm; rw [need_zero]; omega
    · rw [need_pos hm]
      have := need_le k (m / 256) (by rw [Nat.pow_succ] at h; omega)
      omega
theorem lt_need : ∀ (k m : Nat), need m ≤ k → m < 256 ^ k
  | 0, m, h => by
    by_cases hm : m = 0
    · subst hm; simp
    · rw [need_pos hm] at h; omega
  | k + 1, m, h => by
    by_cases hm : m = 0
    · subst hm; exact Nat.pow_pos (by omega)
    · rw [need_pos hm] at h
      have := lt_need k (m / 256) (by omega)
      rw [Nat.pow_succ]; omega
theorem need_mono {a b : Nat} (h : a ≤ b) : need a ≤ need b := need_le _ _ (Nat.lt_of_le_of_lt h (lt_need _ _ (Nat.le_refl _)))
theorem lt_of_need_lt {a b : Nat} (h : need a < need b) : a < b := by
  rcases Nat.lt_or_ge a b with h' | h'
  · exact h'
  · have := need_mono h'; omega

/-- An octet of a number. -/
def oct (n : Int) : UInt8 := UInt8.ofNat (n % 256).toNat
theorem oct_toNat (n : Int) : ((oct n).toNat : Int) = n % 256 := by
  unfold oct
  rw [UInt8.toNat_ofNat']
  have h1 := Int.emod_nonneg n (show (256 : Int) ≠ 0 by omega)
  have h2 := Int.emod_lt_of_pos n (show (0 : Int) < 256 by omega)
  rw [Nat.mod_eq_of_lt (by omega)]
  omega

/-- The lowest k octets of a number, the highest of them first. -/
def octs : Nat → Int → List UInt8
  | 0, _ => []
  | k + 1, n => octs k (n / 256) ++ [oct n]
theorem octs_length : ∀ k n, (octs k n).length = k
  | 0, _ => rfl
  | k + 1, n => by simp [octs, octs_length k]

/-- What octets make of a start. -/
def valF (a : Int) (l : List UInt8) : Int := l.foldl (fun n b => 256 * n + b.toNat) a
theorem valF_snoc (a : Int) (l : List UInt8) (b : UInt8) : valF a (l ++ [b]) = 256 * valF a l + b.toNat := by simp [valF]

theorem oct_of (n : Int) (b : UInt8) : oct (256 * n + b.toNat) = b := by
  have h := oct_toNat (256 * n + b.toNat)
  have hb := b.toNat_lt
  apply UInt8.toNat_inj.1
  omega
theorem octs_val : ∀ (k : Nat) (l : List UInt8) (a : Int), l.length = k → octs k (valF a l) = l
  | 0, l, a, h => by
    have : l = [] := List.eq_nil_of_length_eq_zero h
    subst this; rfl
  | k + 1, l, a, h => by
    rcases List.eq_nil_or_concat l with rfl | ⟨L, b, rfl⟩
    · simp at h
    · rw [List.concat_eq_append] at *
      have hk : L.length = k := by simpa using h
      rw [valF_snoc, octs, oct_of]
      have hb := b.toNat_lt
      have : (256 * valF a L + (b.toNat : Int)) / 256 = valF a L := by omega
      rw [this, octs_val k L a hk]
theorem val_octs : ∀ (k : Nat) (n a : Int), n / 256 ^ k = a → valF a (octs k n) = n
  | 0, n, a, h => by simp [octs, valF] at *; omega
  | k + 1, n, a, h => by
    rw [octs, valF_snoc, val_octs k (n / 256) a (by rw [← h, Int.pow_succ, Int.mul_comm, Int.ediv_ediv_of_nonneg (by omega)]), oct_toNat]
    omega

/-- Which of two lists of octets comes first: -1, 0 or 1. -/
def cmpL : List UInt8 → List UInt8 → Int
  | [], [] => 0
  | [], _ :: _ => -1
  | _ :: _, [] => 1
  | a :: x, b :: y => if a < b then -1 else if b < a then 1 else cmpL x y

theorem cmpL_less : ∀ a b, Op.bytesLess a b = decide (cmpL a b < 0)
  | [], [] => rfl
  | [], _ :: _ => rfl
  | _ :: _, [] => rfl
  | a :: x, b :: y => by
    simp only [Op.bytesLess, cmpL]
    by_cases h1 : a < b
    · simp [h1]
    · by_cases h2 : b < a
      · have : ¬ a = b := by intro e; subst e; exact h1 h2
        simp [h1, h2, this]
      · have : a = b := by
          have h1' : ¬ a.toNat < b.toNat := h1
          have h2' : ¬ b.toNat < a.toNat := h2
          exact UInt8.toNat_inj.1 (by omega)
        subst this
        simp [h1, cmpL_less x y]
theorem cmpL_zero : ∀ a b, cmpL a b = 0 ↔ a = b
  | [], [] => by simp [cmpL]
  | [], _ :: _ => by simp [cmpL]
  | _ :: _, [] => by simp [cmpL]
  | a :: x, b :: y => by
    simp only [cmpL]
    by_cases h1 : a < b
    · have : ¬ a = b := by intro e; subst e; exact absurd h1 (UInt8.lt_irrefl _)
      simp [h1, this]
    · by_cases h2 : b < a
      · have : ¬ a = b := by intro e; subst e; exact h1 h2
        simp [h1, h2, this]
      · have : a = b := by
          have h1' : ¬ a.toNat < b.toNat := h1
          have h2' : ¬ b.toNat < a.toNat := h2
          exact UInt8.toNat_inj.1 (by omega)
        subst this
        simp [h1, cmpL_zero x y]
theorem cmpL_refl (a : List UInt8) : cmpL a a = 0 := (cmpL_zero a a).2 rfl
theorem cmpL_same (p x y : List UInt8) : cmpL (p ++ x) (p ++ y) = cmpL x y := by
  induction p with
  | nil => rfl
  | cons a p ih =>
    have h : ¬ a < a := UInt8.lt_irrefl a
    simp [cmpL, h, ih]

end Go.Proofs.Ytapichngakcpeaa
