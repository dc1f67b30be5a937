/- What syntax's small functions and its Name, and the reference's Name, answer of any text: the walks. Conditions: none. -/
import Derived.Test.YtipcacplphidhaaGreatTe0
import Derived.Test.YtipcacplphidhaaGreatProg
namespace Go.Proofs.YtipcacplphidhaaGreat.Sy
open Go.RowKit
set_option linter.unusedSimpArgs false
set_option linter.unusedVariables false

set_option maxHeartbeats 400000 in
theorem sisDigit_any (c : UInt8) (w : World) : Calls Tryz.prog 89 #[.int .u8 (c.toNat : Int)] w fun e w' => e = .returned (.bool (digB c)) ∧ w = w' := by
  have hc := c.toNat_lt
  go_enter Tryz.func89, Tryz.ntmps89
  go_wp2
  all_goals go_ret
  all_goals exact ⟨ret_bool (by rw [Bool.eq_iff_iff]; simp [digB]; omega), rfl⟩
set_option maxHeartbeats 400000 in
theorem sisWithinName_any (c : UInt8) (w : World) : Calls Tryz.prog 90 #[.int .u8 (c.toNat : Int)] w fun e w' => e = .returned (.bool (nmB c)) ∧ w = w' := by
  have hc := c.toNat_lt
  have hd := fun w => sisDigit_any c w
  go_enter Tryz.func90, Tryz.ntmps90
  go_wp2_with (go_at_call 89; refine (hd _).mono ?_; rintro e w1 ⟨rfl, rfl⟩)
  all_goals go_ret
  all_goals (try simp only [beq_iff_eq, beq_eq_false_iff_ne, ne_eq, digB, decide_eq_true_eq, decide_eq_false_iff_not] at *)
  all_goals exact ⟨ret_bool (by rw [Bool.eq_iff_iff]; simp [nmB, digB]; omega), by first | rfl | trivial⟩

/-- What Keyword is to answer. -/
def KwPost (s : ByteArray) (w : World) (e : Ending) (w' : World) : Prop := e = .returned (.bool (kwB (lowS s))) ∧ Below w.heap.size w w'

theorem empty_of {s : ByteArray} (h : s.size = 0) : s = ⟨#[]⟩ := ba_ext (by
  have : s.data.toList.length = 0 := by simpa using h
  rw [List.eq_nil_of_length_eq_zero this])
theorem toList_ne {s : ByteArray} (h : 0 < s.size) : s.toList ≠ [] := by
  intro e
  rw [ByteArray.toList_eq] at e
  have h3 : s.data.toList.length = s.size := by simp
  rw [e] at h3
  simp at h3
  omega
set_option maxHeartbeats 1000000 in
theorem sName_of (s : ByteArray) (w : World) (hK : s.size ≤ 16 → ∀ w, Calls Tryz.prog 91 #[.string s] w (KwPost s w)) :
    Calls Tryz.prog 81 #[.string s] w fun e w' => e = .returned (.bool (nameB s)) ∧ Below w.heap.size w w' := by
  rcases Nat.eq_zero_or_pos s.size with h0 | h0
  · obtain rfl := empty_of h0
    clear hK
    go_enter Tryz.func81, Tryz.ntmps81
    go_wp2
    go_ret
    exact ⟨rfl, Below.refl _ _⟩
  have hne := toList_ne h0
  have hne2 : s.toList.isEmpty = false := by simp [hne]
  rcases Nat.lt_or_ge 16 s.size with h1 | h1
  · have HN := Lib.hid (nameB_long h1)
    clear hK
    go_enter Tryz.func81, Tryz.ntmps81
    go_wp2
    go_ret
    exact ⟨ret_bool HN.out.symm, Below.refl _ _⟩
  have hd := fun w => sisDigit_any s[0] w
  have HK := Lib.hid (hK h1)
  have hd16 : decide ((16 : Int) < (s.size : Int)) = false := by simp; omega
  clear hK
  cases hdg : digB s[0]
  · rw [hdg] at hd
    have HD := Lib.hid hdg
    have HDD := Lib.hid hd
    clear hdg hd
    have hle : s.size ≤ 9223372036854775807 := by omega
    have HW := Lib.hid (fun (c : UInt8) (w : World) => sisWithinName_any c w)
    go_enter Tryz.func81, Tryz.ntmps81
    go_wp2_with (go_at_call 89; refine (HDD.out _).mono ?_; rintro e w1 ⟨rfl, rfl⟩)
    go_loop [18] (fun i => ∃ j : Nat, j ≤ s.size ∧ i = .int .i64 j ∧ ∀ k (hk : k < s.size), k < j → nmB s[k] = true) (fun i => s.size - (intOf i).toNat)
    case atStart => exact ⟨0, by omega, rfl, fun k hk h => by omega⟩
    case round =>
      obtain ⟨j, hj, rfl, hall⟩ := hrel
      have HA := Lib.hid hall
      clear hall
      by_cases hlt : j < s.size
      · have hw := fun w => HW.out s[j] w
        cases hnm : nmB s[j]
        · rw [hnm] at hw
          have HWW := Lib.hid hw
          have HN := Lib.hid (nameB_bad hlt hnm)
          clear hnm hw
          go_wp2_with (go_at_call 90; refine (HWW.out _).mono ?_; rintro e w1 ⟨rfl, rfl⟩)
          go_ret
          exact ⟨ret_bool HN.out.symm, Below.refl _ _⟩
        · rw [hnm] at hw
          have HWW := Lib.hid hw
          have HA2 : Hid (∀ k (hk : k < s.size), k < j + 1 → nmB s[k] = true) := Lib.hid (fun k hk h => by
            rcases Nat.lt_or_ge k j with h' | h'
            · exact HA.out k hk h'
            · obtain rfl : k = j := by omega
              exact hnm)
          clear hnm hw
          go_wp2_with (go_at_call 90; refine (HWW.out _).mono ?_; rintro e w1 ⟨rfl, rfl⟩)
          go_round
          case rel => exact ⟨j + 1, by omega, by go_num, HA2.out⟩
          case measure => simp [intOf]; omega
      · have HN := Lib.hid (nameB_yes h0 h1 HD.out fun k hk => HA.out k hk (by omega))
        go_wp2_with (go_at_call 91; refine (HK.out _).mono ?_; rintro e w1 ⟨rfl, hb⟩)
        go_ret
        exact ⟨ret_bool HN.out.symm, by assumption⟩
  · rw [hdg] at hd
    have HN := Lib.hid (nameB_dig h0 hdg)
    have HDD := Lib.hid hd
    clear hdg hd
    go_enter Tryz.func81, Tryz.ntmps81
    go_wp2_with (go_at_call 89; refine (HDD.out _).mono ?_; rintro e w1 ⟨rfl, rfl⟩)
    go_ret
    exact ⟨ret_bool HN.out.symm, Below.refl _ _⟩
end Go.Proofs.YtipcacplphidhaaGreat.Sy
