/- KeycodeNumbers answers true for any number: the walk. Conditions: a number of 64 bits. -/
import Derived.Test.YtapichngakcpeaaVg
namespace Go.Proofs.Ytapichngakcpeaa
open Go.RowKit
set_option linter.unusedSimpArgs false
set_option linter.unusedVariables false

def numT (n : Int) : ByteArray := ⟨(numK n).toArray⟩
theorem numT_size (n : Int) (h : inR n = true) : 1 ≤ (numT n).size ∧ (numT n).size ≤ 9 := by
  have h8 := need8 h
  have e : (numT n).size = need (amt n) + 1 := by simp [numT, ByteArray.size, enc1_length_num n h]
  omega
theorem numT_top : (numT 9223372036854775807).size = 9 := by
  have e : (numT 9223372036854775807).size = need (amt 9223372036854775807) + 1 := by simp [numT, ByteArray.size, enc1_length_num]; exact enc1_length_num _ (by decide)
  have h1 : need (amt 9223372036854775807) ≤ 8 := need8 (by decide)
  have h2 : ¬ need (amt 9223372036854775807) ≤ 7 := fun h => by
    have h3 := lt_need 7 _ h
    revert h3; decide
  omega
theorem numT_less (n : Int) (h : inR n = true) (h' : inR (n + 1) = true) : Op.bytesLess (numT n).toList (numT (n + 1)).toList = true := by
  have h1 := cmp_num n (n + 1) h h' [] []
  rw [List.append_nil, List.append_nil, if_neg (by omega)] at h1
  rw [cmpL_less, ByteArray.toList_eq, ByteArray.toList_eq]
  simp only [numT, h1, ordI]
  rw [if_pos (by omega)]; decide

theorem encode_num (n : Int) (h : inR n = true) (w : World) : Calls Try.prog 10 #[.slice (some ⟨w.heap.size, 0, none⟩) 1 1] (w.alloc (.cells #[.int .i64 1, .int .i64 n, .string ⟨#[]⟩] 36)) fun e w' => e = .returned (.tuple #[.string (numT n), .int .i64 0]) ∧ Below w.heap.size w w' := by
  have hok : okL [⟨1, n, ⟨#[]⟩⟩] := by intro v hv; simp at hv; subst hv; exact ⟨by simp [mayB, ByteArray.toList_eq], h⟩
  have he := encE_yes (by simp) hok
  have ht : encT [⟨1, n, ⟨#[]⟩⟩] = numK n := by simp [encT, he, encL, enc1]
  exact (encode_any _ 1 1 [⟨1, n, ⟨#[]⟩⟩] _ rfl (RdL_new w _ _ 36 _ rfl (by simp)) (by intro v hv; simp at hv; subst hv; exact h)).mono fun e w' ⟨h1, h2⟩ => ⟨by rw [h1, he, ht]; rfl, (below1 w _).trans (h2.mono (by simp))⟩

set_option maxHeartbeats 1000000 in
theorem kNumbers_any (n : Int) (w : World) (hn : inR n = true) :
    Calls Try.prog 7 #[.int .i64 n] w fun e w' => e = .returned (.bool true) ∧ Below w.heap.size w w' := by
  have hc := encode_num n hn
  by_cases ht : n = 9223372036854775807
  · subst ht
    have hz : Hid ((numT 9223372036854775807).size = 9) := numT_top
    generalize numT 9223372036854775807 = T at hc hz
    have z0 : 1 ≤ T.size := by have := hz.out; omega
    have z1 : T.size ≤ 9 := by have := hz.out; omega
    have z2 : ((T.size : Int) == 9) = true := by have := hz.out; simp; omega
    go_enter Try.func7, Try.ntmps7
    go_wp2_with (first | (go_at_call 9; refine (alive_any _).mono ?_; rintro e w1 ⟨rfl, hb⟩) | (go_at_call 10; refine (hc _).mono ?_; rintro e w2 ⟨rfl, hb2⟩) | (go_at_call 11; refine (num_any _ _).mono ?_; rintro e w3 ⟨rfl, rfl⟩))
    go_ret
    exact ⟨rfl, hb.trans (hb2.mono hb.size)⟩
  · have hn' : inR (n + 1) = true := by rw [inR_iff] at hn ⊢; omega
    have hc' := encode_num (n + 1) hn'
    have hl : Hid (Op.bytesLess (numT n).toList (numT (n + 1)).toList = true) := numT_less n hn hn'
    have hz := numT_size n hn
    generalize numT n = T at hc hz hl
    generalize numT (n + 1) = U at hc' hl
    obtain ⟨z0, z1⟩ := hz
    rw [inR_iff] at hn
    obtain ⟨n0, n1⟩ := hn
    have n2 : n ≤ 9223372036854775806 := by omega
    have ne : (n == 9223372036854775807) = false := by simp; exact ht
    have hlt := hl.out
    clear hl hn' ht
    go_enter Try.func7, Try.ntmps7
    go_wp2_with (first | (go_at_call 9; refine (alive_any _).mono ?_; rintro e w1 ⟨rfl, hb⟩) | (go_at_call 10; (with_reducible refine (hc _).mono ?_); rintro e w2 ⟨rfl, hb2⟩) | (go_at_call 10; (with_reducible refine (hc' _).mono ?_); rintro e w3 ⟨rfl, hb3⟩) | (go_at_call 11; refine (num_any _ _).mono ?_; rintro e w4 ⟨rfl, rfl⟩))
    go_ret
    exact ⟨rfl, (hb.trans (hb2.mono hb.size)).trans (hb3.mono (Nat.le_trans hb.size hb2.size))⟩

end Go.Proofs.Ytapichngakcpeaa
