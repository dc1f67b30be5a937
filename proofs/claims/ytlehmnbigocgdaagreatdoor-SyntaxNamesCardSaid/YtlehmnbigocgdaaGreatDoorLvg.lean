/- What the reader's number does, and which octets begin a sign: the walks. Conditions: a reader in a block of its own; strconv.ErrRange holds an error. -/
import Derived.Test.YtlehmnbigocgdaaGreatDoorLvf
namespace Go.Proofs.YtlehmnbigocgdaaGreatDoor.Lx
open Go.RowKit
set_option linter.unusedSimpArgs false
set_option linter.unusedVariables false

theorem ret_nb {m : Int} {a b : Bool} (h : a = b) : Ending.returned (.tuple #[.int .i64 m, .bool a]) = .returned (.tuple #[.int .i64 m, .bool b]) := by rw [h]
theorem index_signs : ∀ (l : List UInt8) (c : UInt8), (Lib.indexByte l c = -1 ↔ l.contains c = false) ∧ -1 ≤ Lib.indexByte l c
  | [], c => by simp [Lib.indexByte]
  | b :: l, c => by
    have ih := index_signs l c
    simp only [Lib.indexByte]
    by_cases h : b = c
    · subst h; simp
    · have h1 : (b == c) = false := by simpa using h
      rw [h1]
      by_cases h2 : Lib.indexByte l c = -1
      · have h3 := ih.1.1 h2
        rw [h2]
        simp at h3
        simp [h3]
        exact fun e => h e.symm
      · have h3 : ¬ (l.contains c = false) := fun e => h2 (ih.1.2 e)
        have h4 := ih.2
        have h5 : (Lib.indexByte l c == -1) = false := by simpa using h2
        rw [h5]
        simp at h3
        simp [h3]
        omega
theorem sgn_index (c : UInt8) : decide (Lib.indexByte signs c ≥ 0) = isSgn c := by
  have h := index_signs signs c
  unfold isSgn
  cases hs : signs.contains c with
  | false => have := h.1.2 hs; simp; omega
  | true =>
    have : ¬ Lib.indexByte signs c = -1 := fun e => by have := h.1.1 e; rw [hs] at this; cases this
    simp; omega

set_option maxHeartbeats 400000 in
theorem isSign_any (c : UInt8) (w : World) : Calls Tryz.prog 97 #[.int .u8 (c.toNat : Int)] w fun e w' => e = .returned (.bool (isSgn c)) ∧ w = w' := by
  have h := Tryz.strings_IndexByte ⟨#[40, 41, 44, 46, 42, 43, 45, 47, 61, 60, 62, 59]⟩ (c.toNat : Int) w
  have e : Lib.indexByte (⟨#[40, 41, 44, 46, 42, 43, 45, 47, 61, 60, 62, 59]⟩ : ByteArray).data.toList (c.toNat : Int).toNat.toUInt8 = Lib.indexByte signs c := by
    have : ((c.toNat : Int).toNat.toUInt8) = c := by simp
    rw [this]; rfl
  rw [e] at h
  have h2 := sgn_index c
  generalize isSgn c = b at h2 ⊢
  generalize Lib.indexByte signs c = n at h h2
  have H2 := Lib.hid h2
  clear h2 e
  go_enter Tryz.func97, Tryz.ntmps97
  go_wp2_with (go_at_call 124; refine h.mono ?_; rintro e w2 ⟨rfl, rfl⟩)
  go_ret
  exact ⟨ret_bool (by rw [← H2.out]), rfl⟩

set_option maxHeartbeats 1000000 in
theorem number_any (g : Nat) (s : ByteArray) (j : Nat) (w : World) (h : Rdr w g s j) (hj : j ≤ s.size) (hs : s.size ≤ 140737488355328) (hr : Ran w) (h2 : 2 < g) (hpos : 0 < runN isDig s j) :
    Calls Tryz.prog 94 #[.pointer (some ⟨g, 0, none⟩)] w fun e w' => (∃ n : Int, e = .returned (.tuple #[.int .i64 n, .bool (decide (numOf ((rest s j).takeWhile isDig) ≤ 9223372036854775807))]) ∧ (numOf ((rest s j).takeWhile isDig) ≤ 9223372036854775807 → n = numOf ((rest s j).takeWhile isDig))) ∧ Rdr w' g s (j + runN isDig s j) ∧ w.grownBy w' (some g) := by
  have hrun := run_any g 93 isDig fits25 s j w h hj (by unfold maxLen; omega)
  have hsz := extract_runN_size isDig s j hj
  have hdat := extract_runN isDig s j
  have hat := atoi_digs (l := (s.extract j (j + runN isDig s j)).data.toList) (by rw [hdat]; exact fun c hc => tw_all _ c hc) (by intro e; have := congrArg List.length e; rw [hdat] at this; have h3 : ((s.data.toList.drop j).takeWhile isDig).length = runN isDig s j := rfl; simp only [List.length_nil] at this; omega)
  have hle := runN_le isDig s j hj
  rw [hdat] at hat
  have hnum : numOf ((s.data.toList.drop j).takeWhile isDig) = numOf ((rest s j).takeWhile isDig) := rfl
  rw [hnum] at hat
  rw [← hdat] at hat
  generalize numOf ((rest s j).takeWhile isDig) = n at hat ⊢
  generalize s.extract j (j + runN isDig s j) = x at hrun hsz hat ⊢
  generalize runN isDig s j = k at hrun hsz hle ⊢
  have hx : x.size ≤ 140737488355328 := by omega
  clear hnum hdat hsz hle hpos hs hj h
  by_cases hn : n ≤ 9223372036854775807
  · rw [if_pos hn] at hat
    have hok : ∀ w1, Calls Tryz.prog 121 #[.string x] w1 fun e w' => e = .returned (.tuple #[.int .i64 n, .nilIface]) ∧ w1.grownBy w' none := fun w1 =>
      (Tryz.strconv_Atoi_ok x (by omega) n hat w1).mono fun e w' ⟨h1, h2⟩ => ⟨h1, by rcases h2 with rfl | ⟨t, rfl⟩; exact World.grownBy.refl _ _; exact below_grown (Lib.bytesWorld_below _ _ _) _⟩
    have hd : decide (n ≤ 9223372036854775807) = true := by simpa using hn
    have HD := Lib.hid hd
    clear hd hat hn hx
    go_enter Tryz.func94, Tryz.ntmps94
    go_wp2_with fail
    go_at_call 87
    refine hrun.mono ?_
    rintro e w1 ⟨rfl, hR, hG⟩
    have HR := Lib.hid hR
    have HG := Lib.hid hG
    clear hR hG hrun
    go_wp2_with (go_at_call 121; refine (hok _).mono ?_; rintro e w2 ⟨rfl, hG2⟩; have HG2 := Lib.hid hG2; clear hG2)
    go_region
    all_goals
      go_wp2
      go_ret2
      exact ⟨⟨_, ret_nb HD.out.symm, fun _ => rfl⟩, (HR.out.grown HG2.out (by simp)).drewN 1, grownBy_trans HG.out (grownBy_trans (grown_none HG2.out _) (grownBy_drewN _ 1 _) (.inl rfl)) (.inl rfl)⟩
  · rw [if_neg hn] at hat
    have hok : ∀ w1, Ran w1 → Calls Tryz.prog 121 #[.string x] w1 fun e w' => (∃ N, e = .returned (.tuple #[.int .i64 (Lib.atoiSat x.data.toList), .iface 178 (.pointer (some ⟨N, 0, none⟩))])) ∧ w1.grownBy w' none := fun w1 ⟨te, pe, hr1⟩ =>
      (Tryz.strconv_Atoi_range x (by omega) hat _ w1 hr1 (.inr ⟨_, _, rfl⟩)).mono fun e w' ⟨N, h1, _, _, h2⟩ => ⟨⟨N, h1⟩, below_grown h2 _⟩
    have hd : decide (n ≤ 9223372036854775807) = false := by simpa using hn
    have HD := Lib.hid hd
    have HN := Lib.hid hn
    have HRan := Lib.hid hr
    have H2 := Lib.hid h2
    clear hd hat hn hx hr h2
    go_enter Tryz.func94, Tryz.ntmps94
    go_wp2_with fail
    go_at_call 87
    refine hrun.mono ?_
    rintro e w1 ⟨rfl, hR, hG⟩
    have HR := Lib.hid hR
    have HG := Lib.hid hG
    have HRan1 := Lib.hid (HRan.out.grown hG H2.out)
    clear hR hG hrun
    go_wp2_with (go_at_call 121; refine (hok _ HRan1.out).mono ?_; rintro e w2 ⟨⟨N, rfl⟩, hG2⟩; have HG2 := Lib.hid hG2; clear hG2)
    go_region
    all_goals
      go_wp2
      go_ret2
      exact ⟨⟨_, ret_nb HD.out.symm, fun h => absurd h HN.out⟩, (HR.out.grown HG2.out (by simp)).drewN 1, grownBy_trans HG.out (grownBy_trans (grown_none HG2.out _) (grownBy_drewN _ 1 _) (.inl rfl)) (.inl rfl)⟩
end Go.Proofs.YtlehmnbigocgdaaGreatDoor.Lx
