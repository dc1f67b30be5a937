/- VersionFirst of the statements answers true for any chain, where the second one may write: the walk. Conditions: a chain that is read in memory, within reach. -/
import Derived.Test.YtclcidcjeoajaaaWb
namespace Go.Proofs.Ytclcidcjeoajaaa
open Go.RowKit Go.Sort
set_option linter.unusedSimpArgs false
set_option linter.unusedVariables false

set_option maxRecDepth 100000 in
set_option maxHeartbeats 8000000 in
theorem kFirst_may (A : Option Addr) (n c : Nat) (l : List Ver) (m a b : Int) (hab : a ≠ b) (s : ByteArray) (hs : s.size ≤ 140737488355328) (w : World) (hr : Rd w A n c l) (hn : n * 40 ≤ 140737488355328) (hok : Ok l) (h0 : wrE l m a false s = 0) (hb : txB b = true) :
    Calls Try.prog 4 #[.slice A n c, .int .i64 m, .int .i64 a, .int .i64 b, .string s] w fun e w' => e = .returned (.bool true) ∧ Below w.heap.size w w' := by
  have HA := Lib.hid fun W => alive_any W
  have HO := Lib.hid fun W (hb : Below w.heap.size w W) => of_any A n c l W (hr.below hb) hn
  have HW := Lib.hid fun A n c W (hr : Rd W A n c l) => write_ok A n c l m a false s W hs hr hok h0
  have hx := wr_ok (hs := hs) hok h0
  obtain ⟨_, hf, _⟩ := wrE_parts h0
  have HW2 := Lib.hid fun A n c W (hr : Rd W A n c (new a false s hs :: wout a l)) => write_no A n c _ m b false s W hs hr hx 95 (second (l := []) hab hf hb) (by decide)
  have hu : ∀ A n c W (hr : Rd W A n c (new a false s hs :: wout a l)), Calls Try.prog 13 #[.slice A n c, .int .i64 a] W (PairX (wout a l) 0 W) := fun A n c W hr => by
    have := undo_ok A n c _ a W hr hx
    rwa [undo_new] at this
  have HU := Lib.hid hu
  have HW3 := Lib.hid fun A n c W (hr : Rd W A n c (wout a l)) => write_some A n c _ m b false s W hs hr (hok.wout a)
  have HCM := Lib.hid fun A n c W (hr : Rd W A n c (new a false s hs :: wout a l)) => commit_some A n c (wout a l) m a b 1099511627776 s hs W hr hx hb hf
  have HW4 := Lib.hid fun L A n c W (hr : Rd W A n c L) (ho : Ok L) (he : wrE L m b false s = 95) => write_no A n c L m b false s W hs hr ho 95 he (by decide)
  have HN := Lib.hid fun k W => num_any k W
  have hne : (a == b) = false := by simpa using hab
  have hb1 : ¬ b < 1 := by simp [txB] at hb; omega
  have hb2 : ¬ 1099511627776 < b := by simp [txB] at hb; omega
  have hend : wrE (wout a l) m b false s = 0 ∨ ∃ v r, l = v :: r ∧ v.t = 0 := by
    cases l with
    | nil => exact .inl (again h0 hb (by simp))
    | cons v r =>
      by_cases hv : v.t = 0
      · exact .inr ⟨v, r, rfl, hv⟩
      · exact .inl (again h0 hb (by simpa using hv))
  have HEND := Lib.hid hend
  have HR := Lib.hid hr
  have hcap := hr.cap
  have hle := hr.le
  clear hr hok h0 hx hab hb hu hend hf
  generalize wrE (wout a l) m b false s = E2 at *
  generalize cmE (new a false s hs :: wout a l) a 1099511627776 = E3 at *
  generalize new a false s hs :: wout a l = X at *
  generalize wout a l = Y at *
  go_enter Try.func4, Try.ntmps4
  go_upto_region 6 with (first | (go_at_call 6; (with_reducible refine (HA.out _).mono ?_); rintro e w1 ⟨rfl, hb⟩; have HB1 := Lib.hid hb; clear hb) | (go_at_call 8; (with_reducible refine (HO.out _ HB1.out).mono ?_); rintro e w2 ⟨A2, n2, c2, rfl, hr2, hb⟩; have HR2 := Lib.hid hr2; have HB2 := Lib.hid (thn HB1.out hb); clear hr2 hb) | (go_at_call 12; (with_reducible refine (HW.out _ _ _ _ HR2.out).mono ?_); rintro e w3 ⟨A3, n3, c3, rfl, hr3, hb⟩; have HR3 := Lib.hid hr3; have HB3 := Lib.hid (thn HB2.out hb); clear hr3 hb) | (go_at_call 9; (with_reducible refine (HN.out _ _).mono ?_); rintro e w7 ⟨rfl, rfl⟩))
  clear HR2 HB1 HB2 HW
  go_upto_region 11 with (first | (go_at_call 12; (with_reducible refine (HW2.out _ _ _ _ HR3.out).mono ?_); rintro e w4 ⟨A4, n4, c4, rfl, hr4, hb⟩; have HR4 := Lib.hid (HR3.out.below hb); have HB4 := Lib.hid (thn HB3.out hb); clear hr4 hb) | (go_at_call 9; (with_reducible refine (HN.out _ _).mono ?_); rintro e w7 ⟨rfl, rfl⟩))
  clear HR3 HW2
  go_upto_region 14 with (first | (go_at_call 13; (with_reducible refine (HU.out _ _ _ _ HR4.out).mono ?_); rintro e w5 ⟨A5, n5, c5, rfl, hr5, hb⟩; have HY5 := Lib.hid hr5; have HR5 := Lib.hid (HR4.out.below hb); have HB5 := Lib.hid (thn HB4.out hb); clear hr5 hb) | (go_at_call 12; (with_reducible refine (HW3.out _ _ _ _ HY5.out).mono ?_); rintro e w6 ⟨L6, A6, n6, c6, rfl, hr6, hb⟩; have HR6 := Lib.hid (HR5.out.below hb); have HB6 := Lib.hid (thn HB5.out hb); clear hr6 hb) | (go_at_call 14; (with_reducible refine (HCM.out _ _ _ _ HR6.out).mono ?_); rintro e w7 ⟨L7, ⟨A7, n7, c7, rfl, hr7, hb⟩, hz7⟩; have HR7 := Lib.hid hr7; have HZ7 := Lib.hid hz7; have HB7 := Lib.hid (thn HB6.out hb); clear hr7 hz7 hb))
  clear HR4 HR5 HR6 HY5 HU HW3 HCM HB3 HB4 HB5 HB6
  by_cases hE3 : E3 = 0
  · subst hE3
    by_cases hm : m < 1099511627776
    · obtain ⟨ho7, he7⟩ := HZ7.out rfl hm
      have HO7 := Lib.hid ho7
      have HE7 := Lib.hid he7
      clear ho7 he7
      go_upto_region 18 with (first | (go_at_call 12; (with_reducible refine (HW4.out _ _ _ _ _ HR7.out HO7.out HE7.out).mono ?_); rintro e w8 ⟨A8, n8, c8, rfl, hr8, hb⟩; have HB8 := Lib.hid (thn HB7.out hb); clear hr8 hb) | (go_at_call 9; (with_reducible refine (HN.out _ _).mono ?_); rintro e w7 ⟨rfl, rfl⟩))
      clear HB7
      rcases HEND.out with rfl | ⟨v, r, rfl, hv⟩
      · go_wp2_with (go_at_call 9; (with_reducible refine (HN.out _ _).mono ?_); rintro e w7 ⟨rfl, rfl⟩)
        go_ret
        exact ⟨rfl, HB8.out⟩
      · obtain ⟨ad, rfl, hln, c0, _, _, _⟩ := (HR.out.below HB8.out).head
        rw [hv] at c0
        have hp1 : 0 < n := by omega
        have hp2 : (0 : Int) < (n : Int) := by omega
        clear hln hv
        cases hE : (E2 == 0)
        all_goals
          go_wp2_with (go_at_call 9; (with_reducible refine (HN.out _ _).mono ?_); rintro e w7 ⟨rfl, rfl⟩)
          go_ret
          exact ⟨rfl, HB8.out⟩
    · clear HZ7
      go_upto_region 18 with (go_at_call 9; (with_reducible refine (HN.out _ _).mono ?_); rintro e w7 ⟨rfl, rfl⟩)
      have HB8 := HB7
      rcases HEND.out with rfl | ⟨v, r, rfl, hv⟩
      · go_wp2_with (go_at_call 9; (with_reducible refine (HN.out _ _).mono ?_); rintro e w7 ⟨rfl, rfl⟩)
        go_ret
        exact ⟨rfl, HB8.out⟩
      · obtain ⟨ad, rfl, hln, c0, _, _, _⟩ := (HR.out.below HB8.out).head
        rw [hv] at c0
        have hp1 : 0 < n := by omega
        have hp2 : (0 : Int) < (n : Int) := by omega
        clear hln hv
        cases hE : (E2 == 0)
        all_goals
          go_wp2_with (go_at_call 9; (with_reducible refine (HN.out _ _).mono ?_); rintro e w7 ⟨rfl, rfl⟩)
          go_ret
          exact ⟨rfl, HB8.out⟩
  · clear HZ7
    have hE3' : (E3 == 0) = false := by simpa using hE3
    go_upto_region 18 with (go_at_call 9; (with_reducible refine (HN.out _ _).mono ?_); rintro e w7 ⟨rfl, rfl⟩)
    have HB8 := HB7
    rcases HEND.out with rfl | ⟨v, r, rfl, hv⟩
    · go_wp2_with (go_at_call 9; (with_reducible refine (HN.out _ _).mono ?_); rintro e w7 ⟨rfl, rfl⟩)
      go_ret
      exact ⟨rfl, HB8.out⟩
    · obtain ⟨ad, rfl, hln, c0, _, _, _⟩ := (HR.out.below HB8.out).head
      rw [hv] at c0
      have hp1 : 0 < n := by omega
      have hp2 : (0 : Int) < (n : Int) := by omega
      clear hln hv
      cases hE : (E2 == 0)
      all_goals
        go_wp2_with (go_at_call 9; (with_reducible refine (HN.out _ _).mono ?_); rintro e w7 ⟨rfl, rfl⟩)
        go_ret
        exact ⟨rfl, HB8.out⟩
theorem kFirst_any (A : Option Addr) (n c : Nat) (l : List Ver) (m a b : Int) (s : ByteArray) (hs : s.size ≤ 140737488355328) (w : World) (hr : Rd w A n c l) (hn : n * 40 ≤ 140737488355328) :
    Calls Try.prog 4 #[.slice A n c, .int .i64 m, .int .i64 a, .int .i64 b, .string s] w fun e w' => e = .returned (.bool true) ∧ Below w.heap.size w w' := by
  by_cases hab : a = b
  · subst hab
    exact kFirst_same A n c m a s w
  · by_cases hok : Ok l
    · by_cases h0 : wrE l m a false s = 0
      · cases hb : txB b
        · exact kFirst_range A n c l m a b hab s hs w hr hn hok h0 hb
        · exact kFirst_may A n c l m a b hab s hs w hr hn hok h0 hb
      · exact kFirst_no A n c l m a b hab s hs w hr hn (.inr ⟨hok, h0⟩)
    · exact kFirst_no A n c l m a b hab s hs w hr hn (.inl hok)
end Go.Proofs.Ytclcidcjeoajaaa
