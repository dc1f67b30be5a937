/- What the names' functions answer of any text, at last: syntax.Name and the reference's Name. Conditions: none. -/
import Derived.Test.YtipcacplphidhaaGreatTe
import Derived.Test.YtipcacplphidhaaGreatTg
namespace Go.Proofs.YtipcacplphidhaaGreat.Sy
open Go.RowKit
set_option linter.unusedSimpArgs false
set_option linter.unusedVariables false

theorem sName_any (s : ByteArray) (w : World) : Calls Tryz.prog 81 #[.string s] w fun e w' => e = .returned (.bool (nameB s)) ∧ Below w.heap.size w w' :=
  sName_of s w fun h w => keyword_any s w (by omega)

set_option maxRecDepth 100000 in
set_option maxHeartbeats 2000000 in
theorem rName_any (s : ByteArray) (w : World) : Calls Tryz.prog 58 #[.string s] w fun e w' => e = .returned (.bool (nameB s)) ∧ Below w.heap.size w w' := by
  rcases Nat.eq_zero_or_pos s.size with h0 | h0
  · obtain rfl := empty_of h0
    go_enter Tryz.func58, Tryz.ntmps58
    go_wp2
    go_ret
    exact ⟨rfl, Below.refl _ _⟩
  have hd1 : decide ((s.size : Int) < 1) = false := by simp; omega
  rcases Nat.lt_or_ge 16 s.size with h1 | h1
  · have HN := Lib.hid (nameB_long h1)
    have hd16 : decide ((16 : Int) < (s.size : Int)) = true := by simp; omega
    go_enter Tryz.func58, Tryz.ntmps58
    go_wp2
    go_ret
    exact ⟨ret_bool HN.out.symm, Below.refl _ _⟩
  have hd16 : decide ((16 : Int) < (s.size : Int)) = false := by simp; omega
  have hK := fun w => r3keyword_any s w (by omega)
  have hc := (s[0]).toNat_lt
  by_cases hdg : 48 ≤ s[0].toNat ∧ s[0].toNat ≤ 57
  · have HN := Lib.hid (nameB_dig h0 (by simp [digB, hdg]))
    obtain ⟨g1, g2⟩ := hdg
    clear hK
    go_enter Tryz.func58, Tryz.ntmps58
    go_wp2
    go_ret
    exact ⟨ret_bool HN.out.symm, Below.refl _ _⟩
  have HD := Lib.hid (show digB s[0] = false by simp [digB]; omega)
  have hk16 : s.size ≤ 9223372036854775807 := by omega
  cases hkw : kwB (lowS s)
  · rw [hkw] at hK
    have HKW := Lib.hid hkw
    have HK := Lib.hid hK
    clear hkw hK
    rcases Nat.lt_or_ge s[0].toNat 48 with hx | hx
    all_goals try have hx2 : 57 < s[0].toNat := (by omega)
    all_goals
      clear hdg
      go_enter Tryz.func58, Tryz.ntmps58
      go_wp2_with (go_at_call 79; refine (HK.out _).mono ?_; rintro e w1 ⟨rfl, hb⟩; have HB := Lib.hid hb; clear hb)
      go_loop [3, 4] (fun i c => ∃ j : Nat, j ≤ s.size ∧ i = .int .i64 j ∧ ∀ k (hk : k < s.size), k < j → nmB s[k] = true) (fun i _ => s.size - (intOf i).toNat)
      case atStart => exact ⟨0, by omega, rfl, fun k hk h => by omega⟩
      case round =>
        obtain ⟨j, hj, rfl, hall⟩ := hrel
        have HA := Lib.hid hall
        clear hall
        by_cases hlt : j < s.size
        · have hcj := (s[j]).toNat_lt
          have HBAD : Hid (nmB s[j] = false → nameB s = false) := Lib.hid (nameB_bad hlt)
          have HNEXT : Hid (nmB s[j] = true → ∀ k (hk : k < s.size), k < j + 1 → nmB s[k] = true) := Lib.hid (fun hnm k hk h => by
            rcases Nat.lt_or_ge k j with h' | h'
            · exact HA.out k hk h'
            · obtain rfl : k = j := by omega
              exact hnm)
          have HNM : Hid (nmB s[j] = decide ((97 ≤ s[j].toNat ∧ s[j].toNat ≤ 122) ∨ (48 ≤ s[j].toNat ∧ s[j].toNat ≤ 57) ∨ s[j].toNat = 95)) := Lib.hid rfl
          clear HA
          go_wp2
          all_goals first
            | (go_ret; simp only [Bool.not_eq_true', Bool.not_eq_false', decide_eq_true_eq, decide_eq_false_iff_not, beq_iff_eq, beq_eq_false_iff_ne, ne_eq] at *; exact ⟨ret_bool (HBAD.out (by rw [HNM.out]; simp; omega)).symm, HB.out⟩)
            | (go_round; (case rel => simp only [Bool.not_eq_true', Bool.not_eq_false', decide_eq_true_eq, decide_eq_false_iff_not, beq_iff_eq, beq_eq_false_iff_ne, ne_eq] at *; exact ⟨j + 1, by omega, by go_num, HNEXT.out (by rw [HNM.out]; simp; omega)⟩); (case measure => simp [intOf]; omega))
        · have HN := Lib.hid (nameB_yes h0 h1 HD.out fun k hk => HA.out k hk (by omega))
          go_wp2
          go_ret
          exact ⟨ret_bool (by rw [HN.out, HKW.out]; rfl), HB.out⟩
  · rw [hkw] at hK
    have HN := Lib.hid (nameB_kw hkw)
    have HK := Lib.hid hK
    clear hkw hK
    rcases Nat.lt_or_ge s[0].toNat 48 with hx | hx
    all_goals try have hx2 : 57 < s[0].toNat := (by omega)
    all_goals
      clear hdg
      go_enter Tryz.func58, Tryz.ntmps58
      go_wp2_with (go_at_call 79; refine (HK.out _).mono ?_; rintro e w1 ⟨rfl, hb⟩)
      go_ret
      exact ⟨ret_bool HN.out.symm, by assumption⟩
end Go.Proofs.YtipcacplphidhaaGreat.Sy
