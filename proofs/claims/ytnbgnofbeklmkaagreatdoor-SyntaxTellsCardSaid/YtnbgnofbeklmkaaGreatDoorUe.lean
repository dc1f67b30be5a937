/- A value's print, by the reference: the walk. Conditions: a value that an expression's part may be. -/
import Derived.Test.YtnbgnofbeklmkaaGreatDoorUa
import Derived.Test.YtnbgnofbeklmkaaGreatDoorUd
namespace Go.Proofs.YtnbgnofbeklmkaaGreatDoor
open Go.RowKit
set_option linter.unusedSimpArgs false
set_option linter.unusedVariables false

theorem litL_at0 {v : Vl} (h : v.k = 0) : litL v = [78, 85, 76, 76] := by unfold litL; rw [if_pos h]
theorem litL_at1 {v : Vl} (h : v.k = 1) : litL v = dec v.n.toNat := by unfold litL; rw [if_neg (by omega), if_pos h]
theorem litL_at2 {v : Vl} (h : v.k = 2) : litL v = if v.n = 1 then [84, 82, 85, 69] else [70, 65, 76, 83, 69] := by unfold litL; rw [if_neg (by omega), if_neg (by omega), if_pos h]
theorem litL_at3 {v : Vl} (h : v.k = 3) : litL v = 39 :: (esc v.s.data.toList ++ [39]) := by unfold litL; rw [if_neg (by omega), if_neg (by omega), if_neg (by omega)]
/-- The kinds of values that may be. -/
theorem lit_cases {v : Vl} (h : litB v.k v.n v.s = true) : v.k = 0 ∨ (v.k = 1 ∧ 0 ≤ v.n) ∨ (v.k = 2 ∧ (v.n = 0 ∨ v.n = 1)) ∨ (v.k = 3 ∧ v.s.size ≤ 64) := by
  unfold litB mayB at h
  by_cases h0 : v.k = 0
  · exact .inl h0
  by_cases h1 : v.k = 1
  · refine .inr (.inl ⟨h1, ?_⟩)
    rw [h1] at h
    simp at h
    exact h.2
  by_cases h2 : v.k = 2
  · refine .inr (.inr (.inl ⟨h2, ?_⟩))
    rw [h2] at h
    simp at h
    exact h.1
  by_cases h3 : v.k = 3
  · refine .inr (.inr (.inr ⟨h3, ?_⟩))
    rw [h3] at h
    simp at h
    omega
  · rw [if_neg h0, if_neg h1, if_neg h2, if_neg h3] at h
    simp at h

set_option maxHeartbeats 1000000 in
set_option maxRecDepth 100000 in
theorem rLiteral_text (n : Int) (x : ByteArray) (hx : x.size ≤ 64) (w : World) :
    Calls Tryz.prog 77 #[.agg #[.int .i64 3, .int .i64 n, .string x]] w fun e w' => e = .returned (.string ⟨(39 :: (esc x.data.toList ++ [39])).toArray⟩) ∧ Below w.heap.size w w' := by
  go_enter Tryz.func77, Tryz.ntmps77
  go_wp2_with fail
  go_loop [3, 4] (fun s i => ∃ (y : ByteArray) (j : Nat), s = .string y ∧ i = .int .i64 j ∧ j ≤ x.size ∧ y.data.toList = 39 :: esc (x.data.toList.take j)) (fun _ i => x.size - (intOf i).toNat)
  case atStart => exact ⟨⟨#[39]⟩, 0, rfl, rfl, Nat.zero_le _, by simp [esc]⟩
  case round =>
    obtain ⟨y, j, rfl, rfl, hj, hy⟩ := hrel
    have hyz : y.size ≤ 1 + 2 * j := by
      have h1 := congrArg List.length hy
      rw [bsz, List.length_cons] at h1
      have h2 := esc_len (x.data.toList.take j)
      rw [List.length_take] at h2
      omega
    have HY := Lib.hid hy
    clear hy
    rcases Nat.lt_or_ge j x.size with hlt | hge
    · have hes := esc_snoc (x.data.toList.take j) x[j]
      rw [← take_more x j hlt] at hes
      have HES := Lib.hid hes
      have HT1 := Lib.hid (take_one x j hlt)
      clear hes
      by_cases hc : x[j].toNat = 39
      · have hc1 : ((x[j].toNat : Int) == 39) = true := by simp; omega
        have hc2 : (x[j].toNat == 39) = true := by simp; omega
        have hc3 : Hid (x[j] = 39) := Lib.hid (UInt8.toNat_inj.1 hc)
        clear hc
        go_wp2_with fail
        go_round
        case rel => exact ⟨_, j + 1, rfl, by go_num, hlt, by rw [HES.out, if_pos hc3.out, alist, alist, HT1.out, HY.out]; simp [hc3.out]⟩
        case measure => simp [intOf]; omega
      · have hc1 : ((x[j].toNat : Int) == 39) = false := by simp; omega
        have hc2 : (x[j].toNat == 39) = false := by simp; omega
        have hc3 : Hid (¬ x[j] = 39) := Lib.hid (fun e => hc (by rw [e]; rfl))
        clear hc
        go_wp2_with fail
        go_round
        case rel => exact ⟨_, j + 1, rfl, by go_num, hlt, by rw [HES.out, if_neg hc3.out, alist, HT1.out, HY.out]; simp⟩
        case measure => simp [intOf]; omega
    · have HE : Hid (x.data.toList.take j = x.data.toList) := Lib.hid (List.take_of_length_le (by rw [bsz]; omega))
      go_wp2_with fail
      go_ret
      exact ⟨ret_str (ba_ext (by rw [alist, HY.out, HE.out]; simp)), below1 _ _⟩

set_option maxHeartbeats 1000000 in
set_option maxRecDepth 100000 in
theorem rLiteral_any (v : Vl) (h : litB v.k v.n v.s = true) (w : World) :
    Calls Tryz.prog 77 #[v.val] w fun e w' => e = .returned (.string ⟨(litL v).toArray⟩) ∧ Below w.heap.size w w' := by
  rcases lit_cases h with h0 | ⟨h0, h1⟩ | ⟨h0, h1⟩ | ⟨h0, h1⟩
  · rw [litL_at0 h0]
    clear h
    obtain ⟨k, n, s, hv⟩ := v
    unfold Vl.val
    dsimp only at h0 ⊢
    subst h0
    go_enter Tryz.func77, Tryz.ntmps77
    go_wp2
    go_ret
    exact ⟨rfl, below1 _ _⟩
  · rw [litL_at1 h0]
    clear h
    obtain ⟨k, n, s, hv⟩ := v
    unfold Vl.val
    dsimp only at h0 h1 ⊢
    subst h0
    obtain ⟨m, rfl⟩ := Int.eq_ofNat_of_zero_le h1
    rw [Int.toNat_natCast]
    have hD := Lib.hid fun w => rDecimal_any m (by omega) w
    go_enter Tryz.func77, Tryz.ntmps77
    go_wp2_with (go_at_call 78; refine (hD.out _).mono ?_; rintro e w1 ⟨rfl, hb⟩; have HB := Lib.hid (below_of1 hb); clear hb)
    go_ret
    exact ⟨rfl, HB.out⟩
  · rw [litL_at2 h0]
    clear h
    obtain ⟨k, n, s, hv⟩ := v
    unfold Vl.val
    dsimp only at h0 h1 ⊢
    subst h0
    rcases h1 with rfl | rfl
    all_goals
      go_enter Tryz.func77, Tryz.ntmps77
      go_wp2
      go_ret
      exact ⟨rfl, below1 _ _⟩
  · rw [litL_at3 h0]
    clear h
    obtain ⟨k, n, s, hv⟩ := v
    unfold Vl.val
    dsimp only at h0 h1 ⊢
    subst h0
    exact rLiteral_text n s h1 w
end Go.Proofs.YtnbgnofbeklmkaaGreatDoor
