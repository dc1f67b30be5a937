/- KeycodeAfter answers true for any two texts: the walk. Conditions: the first text takes at most 2^47 - 4096 octets. -/
import Derived.Test.YtapichngakcpeaaVg
namespace Go.Proofs.Ytapichngakcpeaa
open Go.RowKit
set_option linter.unusedSimpArgs false
set_option linter.unusedVariables false

theorem cat_data (s : ByteArray) : (s ++ ⟨#[0]⟩ : ByteArray).data.toList = s.data.toList ++ [0] := by simp
theorem after_lt (s : ByteArray) : Op.bytesLess s.toList (s ++ ⟨#[0]⟩ : ByteArray).toList = true := by
  rw [cmpL_less, ByteArray.toList_eq, ByteArray.toList_eq, cat_data, cmpL_snoc]; decide
theorem after_gap (s t : ByteArray) (h : (Op.bytesLess t.toList s.toList || t.toList == s.toList) = false) : Op.bytesLess t.toList (s ++ ⟨#[0]⟩ : ByteArray).toList = false := by
  rw [cmpL_less, ByteArray.toList_eq, ByteArray.toList_eq] at h
  rw [cmpL_less, ByteArray.toList_eq, ByteArray.toList_eq, cat_data]
  simp only [Bool.or_eq_false_iff, decide_eq_false_iff_not, beq_eq_false_iff_ne, ne_eq] at h ⊢
  intro h'
  have h1 := cmpL_swap t.data.toList s.data.toList
  have h2 := cmpL_zero t.data.toList s.data.toList
  have h3 : ¬ cmpL t.data.toList s.data.toList = 0 := fun e => h.2 (h2.1 e)
  exact cmpL_after s.data.toList t.data.toList (by omega) h'

set_option maxHeartbeats 1000000 in
theorem kAfter_any (s t : ByteArray) (w : World) (hs : s.size ≤ 140737488351232) :
    Calls Try.prog 6 #[.string s, .string t] w fun e w' => e = .returned (.bool true) ∧ Below w.heap.size w w' := by
  have h1 := after_lt s
  have h2 := after_gap s t
  generalize hu : (s ++ ⟨#[0]⟩ : ByteArray) = u at h1 h2
  have hc : ∀ w, Calls Try.prog 16 #[.string s] w fun e w' => e = .returned (.string u) ∧ w = w' := fun w => by rw [← hu]; exact after_any s w hs
  clear hu
  have H2 := Lib.hid h2
  clear h2
  cases h3 : (Op.bytesLess t.toList s.toList || t.toList == s.toList)
  · have h4 := H2.out h3
    go_enter Try.func6, Try.ntmps6
    go_wp2_with (first | (go_at_call 9; refine (alive_any _).mono ?_; rintro e w1 ⟨rfl, hb⟩) | (go_at_call 16; refine (hc _).mono ?_; rintro e w2 ⟨rfl, rfl⟩))
    go_ret
    exact ⟨rfl, hb⟩
  · go_enter Try.func6, Try.ntmps6
    go_wp2_with (first | (go_at_call 9; refine (alive_any _).mono ?_; rintro e w1 ⟨rfl, hb⟩) | (go_at_call 16; refine (hc _).mono ?_; rintro e w2 ⟨rfl, rfl⟩))
    go_ret
    exact ⟨rfl, hb⟩

end Go.Proofs.Ytapichngakcpeaa
