/- What the reader's amount answers: the walk. Conditions: a reader in a block of its own, at most 8 octets. -/
import Derived.Test.YtapichngakcpeaaDa
namespace Go.Proofs.Ytapichngakcpeaa
open Go.RowKit
set_option linter.unusedSimpArgs false
set_option linter.unusedVariables false

theorem or_low (X c : Nat) (hc : c < 256) : X * 256 ||| c = X * 256 + c := by
  have h := Nat.shiftLeft_add_eq_or_of_lt (i := 8) (b := c) (by omega) X
  rw [Nat.shiftLeft_eq] at h
  exact h.symm
theorem xor_255 : ∀ b : Fin 256, (b.val ^^^ 255) = 255 - b.val := by decide +kernel
/-- The octets that are turned go by 255, the others by 0. -/
def turn (a : Int) : Int := if a = -1 then 255 else 0
def turned (a : Int) (b : UInt8) : Nat := if a = -1 then 255 - b.toNat else b.toNat
theorem turned_lt (a : Int) (b : UInt8) : turned a b < 256 := by
  have := b.toNat_lt
  unfold turned; split <;> omega
theorem turn_bits (a : Int) (X : Nat) (b : UInt8) (hX : X < 72057594037927936) :
    bits .or .u64 ((X : Int) * 256) (IntKind.u64.wrap (bits .xor .u8 (b.toNat : Int) (turn a))) = ((X * 256 + turned a b : Nat) : Int) := by
  have hb := b.toNat_lt
  have hx : bits .xor .u8 (b.toNat : Int) (turn a) = (turned a b : Int) := by
    unfold turn turned
    split
    · have h := u8_xor_nat b.toNat 255 (by omega) (by omega)
      have h2 := xor_255 ⟨b.toNat, by omega⟩
      simp only at h2
      rw [h2] at h
      exact h
    · have h := u8_xor_nat b.toNat 0 (by omega) (by omega)
      rw [Nat.xor_zero] at h
      exact h
  have ht := turned_lt a b
  rw [hx, u64_wrap, u64_or _ _ (by omega) (by omega) (by omega) (by omega)]
  have e1 : ((X : Int) * 256).toNat = X * 256 := by omega
  have e2 : ((turned a b : Int) % 18446744073709551616).toNat = turned a b := by omega
  rw [e1, e2, or_low _ _ ht]

/-- The amount of the octets l. -/
def amtL (a : Int) (l : List UInt8) : Nat := amt (valF a l)
theorem valF_sign {a : Int} (ha : a = 0 ∨ a = -1) (l : List UInt8) : (a = 0 ∧ 0 ≤ valF a l) ∨ (a = -1 ∧ valF a l < 0) := by
  rcases ha with rfl | rfl
  · exact .inl ⟨rfl, valF_nonneg⟩
  · exact .inr ⟨rfl, valF_neg⟩
theorem amtL_snoc {a : Int} (ha : a = 0 ∨ a = -1) (l : List UInt8) (b : UInt8) : amtL a (l ++ [b]) = amtL a l * 256 + turned a b := by
  have hb := b.toNat_lt
  have h1 := valF_sign ha l
  have h2 := valF_sign ha (l ++ [b])
  unfold amtL
  rw [valF_snoc] at h2 ⊢
  unfold amt turned
  rcases ha with rfl | rfl
  · rw [if_neg (by omega), if_neg (by omega), if_neg (by omega)]; omega
  · rw [if_pos (by omega), if_pos (by omega), if_pos rfl]; omega
theorem amtL_nil {a : Int} (ha : a = 0 ∨ a = -1) : amtL a [] = 0 := by
  rcases ha with rfl | rfl <;> decide
theorem amtL_lt {a : Int} (ha : a = 0 ∨ a = -1) : ∀ (k : Nat) (l : List UInt8), l.length = k → amtL a l < 256 ^ k
  | 0, l, h => by
    have : l = [] := List.eq_nil_of_length_eq_zero h
    subst this; rw [amtL_nil ha]; decide
  | k + 1, l, h => by
    rcases List.eq_nil_or_concat l with rfl | ⟨L, b, rfl⟩
    · simp at h
    · rw [List.concat_eq_append] at *
      have := amtL_lt ha k L (by simpa using h)
      have := turned_lt a b
      rw [amtL_snoc ha, Nat.pow_succ]
      omega
theorem pow7 {i : Nat} (h : i ≤ 7) : (256 : Nat) ^ i ≤ 72057594037927936 := by
  have h1 : (256 : Nat) ^ i ≤ 256 ^ 7 := Nat.pow_le_pow_right (by omega) h
  have h2 : (256 : Nat) ^ 7 = 72057594037927936 := by decide
  omega
theorem piece_snoc (s : ByteArray) (j i : Nat) (h : j + i < s.size) : (s.data.toList.drop j).take (i + 1) = (s.data.toList.drop j).take i ++ [s[j + i]] := by
  rw [List.take_add_one, List.getElem?_drop, List.getElem?_eq_getElem (by simpa using h)]
  rfl
theorem piece_len (s : ByteArray) (j i : Nat) (h : j + i ≤ s.size) : ((s.data.toList.drop j).take i).length = i := by
  rw [List.length_take, List.length_drop]
  have : s.data.toList.length = s.size := by simp
  omega

set_option maxHeartbeats 1000000 in
theorem amount_ok (g : Nat) (s : ByteArray) (j k : Nat) (a : Int) (ha : a = 0 ∨ a = -1) (w : World) (h : Rdr w g s j) (hk : k ≤ 8) (hs : s.size ≤ maxLen) (hj : j + k ≤ s.size) (hok : need (amtL a ((s.data.toList.drop j).take k)) = k ∧ amtL a ((s.data.toList.drop j).take k) ≤ 9223372036854775807) :
    Calls Try.prog 27 #[.pointer (some ⟨g, 0, none⟩), .int .i64 k, .int .u8 (turn a)] w fun e w' => e = .returned (.int .i64 (amtL a ((s.data.toList.drop j).take k))) ∧ Rdr w' g s (j + k) ∧ w.grownBy w' (some g) := by
  have H := Lib.hid h
  clear h
  have HS := Lib.hid hs
  clear hs
  have HA := Lib.hid ha
  clear ha
  have HK := Lib.hid hok
  clear hok
  go_enter Try.func27, Try.ntmps27
  go_wp2_with fail
  go_loopw [7, 9] (fun x c wr => ∃ (i X : Nat), i ≤ k ∧ j + i ≤ s.size ∧ c = .int .i64 i ∧ x = .int .u64 (X : Int) ∧ X = amtL a ((s.data.toList.drop j).take i) ∧ Rdr wr g s (j + i) ∧ w.grownBy wr (some g)) (fun _ c _ => k - (intOf c).toNat)
  case atStart => exact ⟨0, 0, by omega, by omega, rfl, rfl, by rw [List.take_zero, amtL_nil HA.out], H.out, World.grownBy.refl _ _⟩
  case round =>
    obtain ⟨i, X, hi, hij, rfl, rfl, hX, hR, hG⟩ := hrel
    have HX := Lib.hid hX
    have HR := Lib.hid hR
    have HG := Lib.hid hG
    clear hX hR hG
    by_cases hlt : i < k
    · have hX7 : X < 72057594037927936 := by
        have h1 := amtL_lt HA.out i _ (piece_len s j i hij)
        have h2 := pow7 (i := i) (by omega)
        have h3 := HX.out
        omega
      have hb := turn_bits a X s[j + i] hX7
      have hX8 := Lib.hid hX7
      have HB := Lib.hid hb
      have x0 : (X : Int) ≤ 72057594037927935 := by omega
      clear hX7 hb
      go_wp2_with (go_at_call 26; refine (octet_at g s (j + i) _ HR.out (by omega) HS.out).mono ?_; rintro e w1 ⟨rfl, hR1, hG1⟩; have HR1 := Lib.hid hR1; have HG1 := Lib.hid hG1; clear hR1 hG1)
      go_roundw
      case rel => exact ⟨i + 1, X * 256 + turned a s[j + i], by omega, by omega, by go_num, by rw [HB.out], by rw [piece_snoc s j i (by omega), amtL_snoc HA.out, HX.out], HR1.out, grownBy_trans HG.out HG1.out (.inl rfl)⟩
      case measure => simp [intOf]; omega
    · have e : i = k := by omega
      have hN : ∀ w, Calls Try.prog 31 #[.int .u64 (X : Int)] w fun e w' => e = .returned (.int .i64 k) ∧ w = w' := fun w => by
        have h1 := HK.out
        have h2 := HX.out
        rw [e] at h2
        rw [← h2] at h1
        have h3 := needed_any (X : Int) w (by omega) (by omega)
        rw [Int.toNat_natCast, h1.1] at h3
        exact h3
      have HE : Hid (X = amtL a ((s.data.toList.drop j).take k) ∧ Rdr wr g s (j + k)) := ⟨by rw [HX.out, e], by rw [← e]; exact HR.out⟩
      have x9 : (X : Int) ≤ 9223372036854775807 := by
        have h1 := HK.out.2
        have h2 := HE.out.1
        omega
      clear e
      go_wp2_with (go_at_call 31; refine (hN _).mono ?_; rintro e w1 ⟨rfl, rfl⟩)
      go_ret
      exact ⟨by rw [← HE.out.1]; rfl, HE.out.2, HG.out⟩

set_option maxHeartbeats 1000000 in
theorem amount_bad (g : Nat) (s : ByteArray) (j k : Nat) (a : Int) (ha : a = 0 ∨ a = -1) (w : World) (h : Rdr w g s j) (hk : k ≤ 8) (hs : s.size ≤ maxLen) (hj : j + k ≤ s.size) (hok : ¬ (need (amtL a ((s.data.toList.drop j).take k)) = k ∧ amtL a ((s.data.toList.drop j).take k) ≤ 9223372036854775807)) :
    Calls Try.prog 27 #[.pointer (some ⟨g, 0, none⟩), .int .i64 k, .int .u8 (turn a)] w fun e w' => e = .panicked [{ v := .iface 24 (.int .i64 1), recovered := false }] ∧ w.grownBy w' (some g) := by
  have H := Lib.hid h
  clear h
  have HS := Lib.hid hs
  clear hs
  have HA := Lib.hid ha
  clear ha
  have HK := Lib.hid hok
  clear hok
  go_enter Try.func27, Try.ntmps27
  go_wp2_with fail
  go_loopw [7, 9] (fun x c wr => ∃ (i X : Nat), i ≤ k ∧ j + i ≤ s.size ∧ c = .int .i64 i ∧ x = .int .u64 (X : Int) ∧ X = amtL a ((s.data.toList.drop j).take i) ∧ Rdr wr g s (j + i) ∧ w.grownBy wr (some g)) (fun _ c _ => k - (intOf c).toNat)
  case atStart => exact ⟨0, 0, by omega, by omega, rfl, rfl, by rw [List.take_zero, amtL_nil HA.out], H.out, World.grownBy.refl _ _⟩
  case round =>
    obtain ⟨i, X, hi, hij, rfl, rfl, hX, hR, hG⟩ := hrel
    have HX := Lib.hid hX
    have HR := Lib.hid hR
    have HG := Lib.hid hG
    clear hX hR hG
    by_cases hlt : i < k
    · have hX7 : X < 72057594037927936 := by
        have h1 := amtL_lt HA.out i _ (piece_len s j i hij)
        have h2 := pow7 (i := i) (by omega)
        have h3 := HX.out
        omega
      have hb := turn_bits a X s[j + i] hX7
      have hX8 := Lib.hid hX7
      have HB := Lib.hid hb
      have x0 : (X : Int) ≤ 72057594037927935 := by omega
      clear hX7 hb
      go_wp2_with (go_at_call 26; refine (octet_at g s (j + i) _ HR.out (by omega) HS.out).mono ?_; rintro e w1 ⟨rfl, hR1, hG1⟩; have HR1 := Lib.hid hR1; have HG1 := Lib.hid hG1; clear hR1 hG1)
      go_roundw
      case rel => exact ⟨i + 1, X * 256 + turned a s[j + i], by omega, by omega, by go_num, by rw [HB.out], by rw [piece_snoc s j i (by omega), amtL_snoc HA.out, HX.out], HR1.out, grownBy_trans HG.out HG1.out (.inl rfl)⟩
      case measure => simp [intOf]; omega
    · have e : i = k := by omega
      have hN : ∀ w, Calls Try.prog 31 #[.int .u64 (X : Int)] w fun e w' => e = .returned (.int .i64 (need X)) ∧ w = w' := fun w => by
        have hl := amtL_lt HA.out i _ (piece_len s j i hij)
        have hp : (256 : Nat) ^ i ≤ 256 ^ 8 := Nat.pow_le_pow_right (by omega) (by omega)
        have h8 : (256 : Nat) ^ 8 = 18446744073709551616 := by decide
        have hx := HX.out
        have h3 := needed_any (X : Int) w (by omega) (by omega)
        rw [Int.toNat_natCast] at h3
        exact h3
      have HE : Hid (¬ (need X = k ∧ X ≤ 9223372036854775807)) := by
        have h1 := HK.out
        have h2 := HX.out
        rw [e] at h2
        rw [← h2] at h1
        exact h1
      clear e
      by_cases hq : need X = k
      · have x9 : (9223372036854775807 : Int) < X := by have := HE.out; omega
        have hN : ∀ w, Calls Try.prog 31 #[.int .u64 (X : Int)] w fun e w' => e = .returned (.int .i64 k) ∧ w = w' := fun w => by
          have := hN w; rwa [hq] at this
        clear hq
        go_wp2_with (go_at_call 31; refine (hN _).mono ?_; rintro e w1 ⟨rfl, rfl⟩)
        exact ⟨rfl, rfl, HG.out⟩
      · have q1 : ((need X : Int) == k) = false := by simp; omega
        have q2 : ((need X : Int) != k) = true := by simp; omega
        clear hq
        generalize need X = q at *
        go_wp2_with (go_at_call 31; refine (hN _).mono ?_; rintro e w1 ⟨rfl, rfl⟩)
        exact ⟨rfl, rfl, HG.out⟩

set_option maxHeartbeats 1000000 in
theorem amount_short (g : Nat) (s : ByteArray) (j k : Nat) (a : Int) (ha : a = 0 ∨ a = -1) (w : World) (h : Rdr w g s j) (hk : k ≤ 8) (hs : s.size ≤ maxLen) (hj : s.size < j + k) (hjs : j ≤ s.size) :
    Calls Try.prog 27 #[.pointer (some ⟨g, 0, none⟩), .int .i64 k, .int .u8 (turn a)] w fun e w' => e = .panicked [{ v := .iface 24 (.int .i64 8), recovered := false }] ∧ w.grownBy w' (some g) := by
  have H := Lib.hid h
  clear h
  have HS := Lib.hid hs
  clear hs
  have HA := Lib.hid ha
  clear ha
  go_enter Try.func27, Try.ntmps27
  go_wp2_with fail
  go_loopw [7, 9] (fun x c wr => ∃ (i X : Nat), i ≤ k ∧ j + i ≤ s.size ∧ c = .int .i64 i ∧ x = .int .u64 (X : Int) ∧ X = amtL a ((s.data.toList.drop j).take i) ∧ Rdr wr g s (j + i) ∧ w.grownBy wr (some g)) (fun _ c _ => k - (intOf c).toNat)
  case atStart => exact ⟨0, 0, by omega, by omega, rfl, rfl, by rw [List.take_zero, amtL_nil HA.out], H.out, World.grownBy.refl _ _⟩
  case round =>
    obtain ⟨i, X, hi, hij, rfl, rfl, hX, hR, hG⟩ := hrel
    have HX := Lib.hid hX
    have HR := Lib.hid hR
    have HG := Lib.hid hG
    clear hX hR hG
    by_cases hlt : i < k
    · by_cases hend : j + i = s.size
      · have HE : Hid (Rdr wr g s s.size) := by
          have := HR.out
          rw [hend] at this
          exact this
        clear hend
        go_wp2_with (go_at_call 26; refine (octet_end g s _ HE.out).mono ?_; rintro e w1 ⟨rfl, hG1⟩; have HG1 := Lib.hid hG1; clear hG1)
        exact ⟨rfl, rfl, grownBy_trans HG.out HG1.out (.inl rfl)⟩
      have hX7 : X < 72057594037927936 := by
        have h1 := amtL_lt HA.out i _ (piece_len s j i hij)
        have h2 := pow7 (i := i) (by omega)
        have h3 := HX.out
        omega
      have hb := turn_bits a X s[j + i] hX7
      have hX8 := Lib.hid hX7
      have HB := Lib.hid hb
      have x0 : (X : Int) ≤ 72057594037927935 := by omega
      clear hX7 hb
      go_wp2_with (go_at_call 26; refine (octet_at g s (j + i) _ HR.out (by omega) HS.out).mono ?_; rintro e w1 ⟨rfl, hR1, hG1⟩; have HR1 := Lib.hid hR1; have HG1 := Lib.hid hG1; clear hR1 hG1)
      go_roundw
      case rel => exact ⟨i + 1, X * 256 + turned a s[j + i], by omega, by omega, by go_num, by rw [HB.out], by rw [piece_snoc s j i (by omega), amtL_snoc HA.out, HX.out], HR1.out, grownBy_trans HG.out HG1.out (.inl rfl)⟩
      case measure => simp [intOf]; omega
    · exact absurd hlt (by omega)

end Go.Proofs.Ytapichngakcpeaa
