/- VersionPrunes of the statements answers true for any chain: the walk. Conditions: a chain that is read in memory, within reach. -/
import Derived.Test.YtclcidcjeoajaaaVj
namespace Go.Proofs.Ytclcidcjeoajaaa
open Go.RowKit Go.Sort
set_option linter.unusedSimpArgs false
set_option linter.unusedVariables false

set_option maxHeartbeats 4000000 in
theorem kPrunes_bad (A : Option Addr) (n c : Nat) (l : List Ver) (h m x : Int) (w : World) (hr : Rd w A n c l) (hn : n * 40 ≤ 140737488355328) (hok : ¬ Ok l) :
    Calls Try.prog 3 #[.slice A n c, .int .i64 h, .int .i64 m, .int .i64 x] w fun e w' => e = .returned (.bool true) ∧ Below w.heap.size w w' := by
  have HA := Lib.hid fun W => alive_any W
  have HO := Lib.hid fun W (hb : Below w.heap.size w W) => of_any A n c l W (hr.below hb) hn
  have HP := Lib.hid fun A n c W (hr : Rd W A n c l) => prune_bad A n c l h W hr hok
  have HN := Lib.hid fun k W => num_any k W
  clear hr hok
  go_enter Try.func3, Try.ntmps3
  go_wp2_with (first | (go_at_call 6; (with_reducible refine (HA.out _).mono ?_); rintro e w1 ⟨rfl, hb⟩; have HB1 := Lib.hid hb; clear hb) | (go_at_call 8; (with_reducible refine (HO.out _ HB1.out).mono ?_); rintro e w2 ⟨A2, n2, c2, rfl, hr2, hb⟩; have HR2 := Lib.hid hr2; have HB2 := Lib.hid (thn HB1.out hb); clear hr2 hb) | (go_at_call 7; (with_reducible refine (HP.out _ _ _ _ HR2.out).mono ?_); rintro e w3 ⟨A3, n3, c3, rfl, hr3, hb⟩; have HB3 := Lib.hid (thn HB2.out hb); obtain rfl : n3 = 0 := hr3.len.symm; clear hr3 hb) | (go_at_call 9; (with_reducible refine (HN.out _ _).mono ?_); rintro e w7 ⟨rfl, rfl⟩))
  go_ret
  exact ⟨rfl, HB3.out⟩
set_option maxHeartbeats 8000000 in
set_option maxRecDepth 100000 in
theorem kPrunes_ok (A : Option Addr) (n c : Nat) (l : List Ver) (h m x : Int) (w : World) (hr : Rd w A n c l) (hn : n * 40 ≤ 140737488355328) (hok : Ok l) :
    Calls Try.prog 3 #[.slice A n c, .int .i64 h, .int .i64 m, .int .i64 x] w fun e w' => e = .returned (.bool true) ∧ Below w.heap.size w w' := by
  have hokp := prn_ok hok h
  have HA := Lib.hid fun W => alive_any W
  have HO := Lib.hid fun W (hb : Below w.heap.size w W) => of_any A n c l W (hr.below hb) hn
  have HP := Lib.hid fun A n c W (hr : Rd W A n c l) => prune_ok A n c l h W hr hok
  have hpp : ∀ A n c W (hr : Rd W A n c (prn h l)), Calls Try.prog 7 #[.slice A n c, .int .i64 h] W (PairX (prn h l) 0 W) := fun A n c W hr => by
    have := prune_ok A n c (prn h l) h W hr hokp
    rwa [prn_prn] at this
  have HPP := Lib.hid hpp
  have HCK := Lib.hid fun A n c W (hr : Rd W A n c (prn h l)) => check_any A n c (prn h l) W hr 0 (.inl ⟨hokp, rfl⟩)
  have HS := Lib.hid fun A n c W (hr : Rd W A n c l) => see_good A n c l m x W hr hok
  have HSP := Lib.hid fun A n c W (hr : Rd W A n c (prn h l)) => see_good A n c (prn h l) m x W hr hokp
  have HN := Lib.hid fun k W => num_any k W
  have hsp : m < h ∨ (h ≤ m ∧ isB (seeB m x) (prn h l) = isB (seeB m x) l ∧ (isB (seeB m x) l = true → txt (seeB m x) (prn h l) = txt (seeB m x) l)) := by
    by_cases hm : m < h
    · exact .inl hm
    · exact .inr ⟨by omega, see_prn (by omega)⟩
  clear hr hok hokp hpp
  generalize prn h l = p at *
  generalize txt (seeB m x) l = T at *
  generalize isB (seeB m x) l = I at *
  generalize stp (seeB m x) l = S at *
  generalize txt (seeB m x) p = T' at *
  generalize isB (seeB m x) p = I' at *
  generalize stp (seeB m x) p = S' at *
  have HSPL := Lib.hid hsp
  clear hsp
  go_enter Try.func3, Try.ntmps3
  go_upto_region 4 with (first | (go_at_call 6; (with_reducible refine (HA.out _).mono ?_); rintro e w1 ⟨rfl, hb⟩; have HB1 := Lib.hid hb; clear hb) | (go_at_call 8; (with_reducible refine (HO.out _ HB1.out).mono ?_); rintro e w2 ⟨A2, n2, c2, rfl, hr2, hb⟩; have HR2 := Lib.hid hr2; have HB2 := Lib.hid (thn HB1.out hb); clear hr2 hb) | (go_at_call 7; (with_reducible refine (HP.out _ _ _ _ HR2.out).mono ?_); rintro e w3 ⟨A3, n3, c3, rfl, hr3, hb⟩; have HR3 := Lib.hid hr3; have HB3 := Lib.hid (thn HB2.out hb); clear hr3 hb))
  clear HR2 HP HB1
  go_upto_region 7 with (first | (go_at_call 9; (with_reducible refine (HN.out _ _).mono ?_); rintro e w7 ⟨rfl, rfl⟩) | (go_at_call 7; (with_reducible refine (HPP.out _ _ _ _ HR3.out).mono ?_); rintro e w4 ⟨A4, n4, c4, rfl, hr4, hb⟩; have HR4 := Lib.hid (HR3.out.below hb); have HB4 := Lib.hid (thn HB3.out hb); obtain rfl : n4 = n3 := hr4.len.symm.trans HR3.out.len; clear hr4 hb))
  clear HR3 HPP
  have hle : ((n4 : Int) != (n4 : Int)) = false := by simp
  go_upto_region 9 with (first | (go_at_call 9; (with_reducible refine (HN.out _ _).mono ?_); rintro e w7 ⟨rfl, rfl⟩) | (go_at_call 10; (with_reducible refine (HCK.out _ _ _ _ HR4.out).mono ?_); rintro e w5 ⟨rfl, hb⟩; have HR5 := Lib.hid (HR4.out.below hb); have HB5 := Lib.hid (thn HB4.out hb); clear hb))
  go_upto_region 11 with (first | (go_at_call 8; (with_reducible refine (HO.out _ HB5.out).mono ?_); rintro e w6 ⟨A6, n6, c6, rfl, hr6, hb⟩; have HR6 := Lib.hid hr6; have HP6 := Lib.hid (HR5.out.below hb); have HB6 := Lib.hid (thn HB5.out hb); clear hr6 hb) | (go_at_call 11; first | ((with_reducible refine (HSP.out _ _ _ _ HP8.out).mono ?_); rintro e w9 ⟨rfl, hb⟩; have HB9 := Lib.hid (thn HB8.out hb); clear hb) | ((with_reducible refine (HS.out _ _ _ _ HR6.out).mono ?_); rintro e w8 ⟨rfl, hb⟩; have HP8 := Lib.hid (HP6.out.below hb); have HB8 := Lib.hid (thn HB6.out hb); clear hb)))
  rcases HSPL.out with hm | ⟨hm, rfl, ht⟩
  · go_wp2
    go_ret
    exact ⟨rfl, HB9.out⟩
  · have hm' : ¬ m < h := by omega
    cases I'
    · go_wp2
      all_goals go_ret
      all_goals exact ⟨rfl, HB9.out⟩
    · obtain rfl := ht rfl
      go_wp2
      all_goals go_ret
      all_goals exact ⟨by simp, HB9.out⟩
theorem kPrunes_any (A : Option Addr) (n c : Nat) (l : List Ver) (h m x : Int) (w : World) (hr : Rd w A n c l) (hn : n * 40 ≤ 140737488355328) :
    Calls Try.prog 3 #[.slice A n c, .int .i64 h, .int .i64 m, .int .i64 x] w fun e w' => e = .returned (.bool true) ∧ Below w.heap.size w w' := by
  by_cases hok : Ok l
  · exact kPrunes_ok A n c l h m x w hr hn hok
  · exact kPrunes_bad A n c l h m x w hr hn hok
end Go.Proofs.Ytclcidcjeoajaaa
