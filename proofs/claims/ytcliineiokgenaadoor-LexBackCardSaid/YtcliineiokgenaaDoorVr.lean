/- What a string is written as, and any token: the walk. Conditions: a token as the lexer tells it. -/
import Derived.Test.YtcliineiokgenaaDoorVq
namespace Go.Proofs.YtcliineiokgenaaDoor
open Go.RowKit
set_option linter.unusedSimpArgs false
set_option linter.unusedVariables false

theorem alist (a b : ByteArray) : (a ++ b).data.toList = a.data.toList ++ b.data.toList := by simp [ByteArray.data_append]
theorem take_one (x : ByteArray) (j : Nat) (h : j < x.size) : (x.extract j (j + 1)).data.toList = [x[j]] := by
  rw [extract_rest, rest_cons x j h]; rfl
theorem take_more (x : ByteArray) (j : Nat) (h : j < x.size) : x.data.toList.take (j + 1) = x.data.toList.take j ++ [x[j]] := by
  rw [List.take_succ_eq_append_getElem (by simpa using h)]; rfl

set_option maxHeartbeats 2000000 in
set_option maxRecDepth 100000 in
theorem written_text (x : ByteArray) (hx : x.size ≤ 64) (n a : Int) (w : World) :
    Calls Tryd.prog 10 #[.agg #[.int .i64 3, .string x, .int .i64 n, .int .i64 a]] w fun e w' => (∃ y : ByteArray, e = .returned (.string y) ∧ y.data.toList = 39 :: (esc x.data.toList ++ [39])) ∧ Below w.heap.size w w' := by
  go_enter Tryd.func10, Tryd.ntmps10
  go_wp2_with fail
  go_loop [5, 6] (fun s i => ∃ (y : ByteArray) (j : Nat), s = .string y ∧ i = .int .i64 j ∧ j ≤ x.size ∧ y.data.toList = 39 :: esc (x.data.toList.take j)) (fun _ i => x.size - (intOf i).toNat)
  case atStart => exact ⟨⟨#[39]⟩, 0, rfl, rfl, Nat.zero_le _, by simp [esc]⟩
  case round =>
    obtain ⟨y, j, rfl, rfl, hj, hy⟩ := hrel
    have hyz : y.size ≤ 1 + 2 * j := by
      have h1 := congrArg List.length hy
      rw [bsize, List.length_cons] at h1
      have h2 := esc_len (x.data.toList.take j)
      rw [List.length_take] at h2
      omega
    have HY := Lib.hid hy
    clear hy
    rcases Nat.lt_or_ge j x.size with hlt | hge
    · have hes := esc_snoc (x.data.toList.take j) x[j]
      rw [← take_more x j hlt] at hes
      have HES := Lib.hid hes
      have HT1 := Lib.hid (take_one x j hlt)
      clear hes
      by_cases hc : x[j].toNat = 39
      · have hq : Hid (isQuo x[j] = true) := by show _ = _; simp [isQuo, hc]
        have hc1 : ((x[j].toNat : Int) == 39) = true := by simp; omega
        have hc2 : (x[j].toNat == 39) = true := by simp; omega
        have hc3 : Hid (x[j] = 39) := UInt8.toNat_inj.1 hc
        clear hc
        go_wp2_with fail
        go_round
        case rel => exact ⟨_, j + 1, rfl, by go_num, hlt, by rw [HES.out, if_pos hq.out, alist, alist, HT1.out, HY.out]; simp⟩
        case measure => simp [intOf]; omega
      · have hq : Hid (isQuo x[j] = false) := by show _ = _; simp [isQuo, hc]
        have hc1 : ((x[j].toNat : Int) == 39) = false := by simp; omega
        have hc2 : (x[j].toNat == 39) = false := by simp; omega
        clear hc
        go_wp2_with fail
        go_round
        case rel => exact ⟨_, j + 1, rfl, by go_num, hlt, by rw [HES.out, if_neg (by rw [hq.out]; simp), alist, HT1.out, HY.out]; simp⟩
        case measure => simp [intOf]; omega
    · go_wp2_with fail
      go_ret
      refine ⟨⟨_, rfl, ?_⟩, (Below.refl _ _).alloc (Nat.le_refl _) _⟩
      rw [alist, HY.out, List.take_of_length_le (by rw [bsize]; omega)]
      simp

/-- Any token that the lexer tells, as a text. -/
theorem written_any (c : UInt8) (k : Nat) (t : List UInt8) (n : Nat) (hg : Good c k t n) (a : Int) (w : World) :
    Calls Tryd.prog 10 #[.agg #[.int .i64 k, .string ⟨t.toArray⟩, .int .i64 n, .int .i64 a]] w fun e w' => (∃ y : ByteArray, e = .returned (.string y) ∧ y.data.toList = wrt k t n) ∧ Below w.heap.size w w' := by
  rcases hg with ⟨_, hc, ht, hw, hl⟩ | ⟨_, hn⟩ | ⟨_, hc, hl⟩ | hc | ⟨_, ht, hc⟩
  · exact (written_plain 1 (.inl rfl) ⟨t.toArray⟩ _ a w).mono fun e w' ⟨h1, h2⟩ => ⟨⟨_, h1, by simp [wrt]⟩, h2⟩
  · exact (written_num ⟨#[]⟩ n hn a w).mono fun e w' ⟨h1, h2⟩ => ⟨⟨_, h1, by simp [wrt]⟩, h2⟩
  · exact (written_text ⟨t.toArray⟩ (by rw [← bsize]; simpa using hl) _ a w).mono fun e w' ⟨⟨y, h1, h3⟩, h2⟩ => ⟨⟨y, h1, by rw [h3]; simp [wrt]⟩, h2⟩
  · exact (written_plain 4 (.inr rfl) ⟨[c].toArray⟩ _ a w).mono fun e w' ⟨h1, h2⟩ => ⟨⟨_, h1, by simp [wrt]⟩, h2⟩
  · exact (written_plain 4 (.inr rfl) ⟨t.toArray⟩ _ a w).mono fun e w' ⟨h1, h2⟩ => ⟨⟨_, h1, by simp [wrt]⟩, h2⟩
end Go.Proofs.YtcliineiokgenaaDoor
