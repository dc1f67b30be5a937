/- Digits, quotes and lists as texts: plain mathematics. Conditions: none. -/
import Derived.Test.YtnbgnofbeklmkaaGreatDoorTa
import Derived.Lib.Replace
import Derived.Lib.ItoaNum
namespace Go.Proofs.YtnbgnofbeklmkaaGreatDoor
open Go.RowKit
set_option linter.unusedSimpArgs false
set_option linter.unusedVariables false

/-- The digits of m ahead of acc; f: at least as many as there are. -/
def decA : Nat → Nat → List UInt8 → List UInt8
  | 0, _, acc => acc
  | f + 1, m, acc => if m = 0 ∧ acc ≠ [] then acc else decA f (m / 10) (UInt8.ofNat (48 + m % 10) :: acc)
def dec (n : Nat) : List UInt8 := decA 20 n []
theorem digit_nat (m : Nat) : (UInt8.ofNat (48 + m % 10)).toNat = 48 + m % 10 := by
  simp [UInt8.toNat_ofNat']; omega
theorem decA_zero (f : Nat) (d : UInt8) (acc : List UInt8) : decA f 0 (d :: acc) = d :: acc := by
  cases f with
  | zero => rfl
  | succ f => rw [decA, if_pos ⟨rfl, by simp⟩]
theorem decA_digits : ∀ (f m : Nat) (acc : List UInt8), m < 10 ^ f → 0 < f → (m ≠ 0 ∨ acc = []) → decA f m acc = Lib.decDigits m ++ acc
  | 0, _, _, _, h, _ => absurd h (by decide)
  | f + 1, m, acc, h, _, h0 => by
    rw [decA, if_neg (fun e => h0.elim (fun k => k e.1) (fun k => e.2 k)), Lib.decDigits]
    by_cases h1 : m < 10
    · rw [dif_pos h1, show m / 10 = 0 by omega, decA_zero, show m % 10 = m by omega]; rfl
    · rw [dif_neg h1, decA_digits f (m / 10) _ (by rw [Nat.pow_succ] at h; omega) ?_ (.inl (by omega))]
      · simp
      · rcases Nat.eq_zero_or_pos f with e | e
        · subst e; simp at h; omega
        · exact e
theorem dec_digits (n : Nat) (h : n ≤ 9223372036854775807) : dec n = Lib.decDigits n := by
  unfold dec
  rw [decA_digits 20 n [] (by omega) (by omega) (.inr rfl), List.append_nil]
theorem dec_itoa (n : Nat) (h : n ≤ 9223372036854775807) : Lib.itoa n = dec n := by
  unfold Lib.itoa
  rw [if_neg (by omega), Int.toNat_natCast, dec_digits n h]
theorem decA_len : ∀ (f m : Nat) (acc : List UInt8), (decA f m acc).length ≤ f + acc.length
  | 0, m, acc => by simp [decA]
  | f + 1, m, acc => by
    rw [decA]
    split
    · omega
    · have := decA_len f (m / 10) (UInt8.ofNat (48 + m % 10) :: acc); rw [List.length_cons] at this; omega
theorem dec_len (n : Nat) : (dec n).length ≤ 20 := decA_len 20 n []

/-- A text with each quote twice. -/
def esc : List UInt8 → List UInt8
  | [] => []
  | c :: r => if c = 39 then 39 :: c :: esc r else c :: esc r
theorem esc_snoc : ∀ (l : List UInt8) (c : UInt8), esc (l ++ [c]) = esc l ++ (if c = 39 then [39, c] else [c])
  | [], c => by simp only [List.nil_append, esc]
  | d :: l, c => by
    rw [List.cons_append, esc, esc, esc_snoc l c]
    split <;> simp
theorem esc_len : ∀ (l : List UInt8), (esc l).length ≤ 2 * l.length
  | [] => Nat.le_refl _
  | c :: l => by
    have := esc_len l
    rw [esc]
    split <;> simp <;> omega
theorem ix_hit (r : List UInt8) : Lib.index (39 :: r) [39] = 0 := by
  rw [Lib.index, if_pos (by simp [List.isPrefixOf])]
theorem ix_next {c : UInt8} (h : c ≠ 39) (r : List UInt8) : Lib.index (c :: r) [39] = if Lib.index r [39] == -1 then -1 else Lib.index r [39] + 1 := by
  rw [Lib.index, if_neg (by simp [List.isPrefixOf]; exact fun e => h e.symm)]
theorem repl_esc : ∀ (l : List UInt8), Lib.replaceK [39] [39, 39] (Lib.count l [39]) l = esc l
  | [] => by rw [Lib.count_miss rfl]; rfl
  | c :: r => by
    have ih := repl_esc r
    by_cases h : c = 39
    · subst h
      have e := Lib.count_hit (s := 39 :: r) (sub := [39]) (i := 0) (by simp) (ix_hit r)
      rw [e, Nat.add_comm, Lib.replaceK_hit [39] [39, 39] _ (39 :: r) 0 (ix_hit r), esc, if_pos rfl]
      simp only [Nat.zero_add, List.length_singleton, List.drop_succ_cons, List.drop_zero, List.take_zero, List.nil_append]
      rw [ih]; rfl
    · have hx := ix_next h r
      rw [esc, if_neg h]
      by_cases hm : Lib.index r [39] = -1
      · rw [hm] at hx
        rw [Lib.count_miss hx]
        rw [Lib.count_miss hm] at ih
        exact congrArg (c :: ·) ih
      · have hge := Lib.index_ge r [39]
        obtain ⟨i, hi⟩ : ∃ i : Nat, Lib.index r [39] = i := ⟨(Lib.index r [39]).toNat, by omega⟩
        rw [if_neg (by rw [hi]; simp), hi] at hx
        have hx' : Lib.index (c :: r) [39] = ((i + 1 : Nat) : Int) := hx
        have e := Lib.count_hit (s := c :: r) (sub := [39]) (by simp) hx'
        have e2 := Lib.count_hit (s := r) (sub := [39]) (by simp) hi
        rw [e2, Nat.add_comm 1, Lib.replaceK_hit [39] [39, 39] _ r i hi] at ih
        rw [e, Nat.add_comm 1, Lib.replaceK_hit [39] [39, 39] _ (c :: r) (i + 1) hx']
        simp only [List.length_singleton, List.drop_succ_cons, List.take_succ_cons, List.cons_append] at ih ⊢
        rw [ih]
theorem repl_all (l : List UInt8) : Lib.replaceAll l [39] [39, 39] = esc l := by
  unfold Lib.replaceAll Lib.replace Lib.replaceNum
  rw [if_neg (by decide), if_pos (.inl (by decide))]
  exact repl_esc l

/-- Texts, with one between two of them. -/
def joinL (sep : List UInt8) : List (List UInt8) → List UInt8
  | [] => []
  | [a] => a
  | a :: b :: l => a ++ (sep ++ joinL sep (b :: l))
theorem bsz (a : ByteArray) : a.data.toList.length = a.size := by simp
theorem joinL_len (sep : List UInt8) : ∀ (l : List (List UInt8)), (joinL sep l).length ≤ (l.map List.length).sum + l.length * sep.length
  | [] => Nat.zero_le _
  | [a] => by simp [joinL]
  | a :: b :: l => by
    have := joinL_len sep (b :: l)
    simp only [joinL, List.length_append, List.map_cons, List.sum_cons, List.length_cons, Nat.add_mul] at this ⊢
    omega
theorem joinL_snoc (sep : List UInt8) : ∀ (l : List (List UInt8)) (x : List UInt8), joinL sep (l ++ [x]) = joinL sep l ++ ((if l = [] then [] else sep) ++ x)
  | [], x => by simp [joinL]
  | [a], x => by simp [joinL]
  | a :: b :: l, x => by
    have := joinL_snoc sep (b :: l) x
    simp only [List.cons_append, joinL] at this ⊢
    rw [this]
    simp
theorem joinL_take (sep : List UInt8) (l : List (List UInt8)) (j : Nat) : (joinL sep (l.take j)).length ≤ (joinL sep l).length := by
  induction l generalizing j with
  | nil => simp [joinL]
  | cons a l ih =>
    match j, l with
    | 0, _ => simp [joinL]
    | 1, [] => simp
    | 1, b :: l => simp [joinL]
    | j + 2, [] => simp
    | j + 2, b :: l =>
      have := ih (j + 1)
      simp only [List.take_succ_cons, joinL, List.length_append] at this ⊢
      omega
end Go.Proofs.YtnbgnofbeklmkaaGreatDoor
