/- Which of two rows comes first, by the reference: the walk of before. Conditions: rows that have the places of the order. -/
import Derived.Test.YtddeaiciochggaaQd
namespace Go.Proofs.Ytddeaiciochggaa
open Go.RowKit Go.Sort
set_option linter.unusedSimpArgs false
set_option linter.unusedVariables false

set_option maxRecDepth 100000 in
set_option maxHeartbeats 4000000 in
theorem before_any (A B oA : Option Addr) (c d oc : Nat) (a b : List Vl) (os : List Oq) (w : World) (ha : RdL w A a) (hb : RdL w B b) (ho : RdQ w oA os) (h1 : Has os a) (h2 : Has os b)
    (n1 : a.length * 32 ≤ 140737488355328) (n2 : b.length * 32 ≤ 140737488355328) (n3 : os.length ≤ 9223372036854775807) :
    Calls Try.prog 41 #[.slice A a.length c, .slice B b.length d, .slice oA os.length oc] w fun e w' => e = .returned (.bool (decide (cmR os a b < 0))) ∧ Below w.heap.size w w' := by
  have HA := Lib.hid ha
  have HB := Lib.hid hb
  have HO := Lib.hid ho
  have H1 := Lib.hid h1
  have H2 := Lib.hid h2
  clear ha hb ho h1 h2
  go_enter Try.func41, Try.ntmps41
  go_wp2
  go_loopw [7] (fun i wr => ∃ j : Nat, i = .int .i64 j ∧ j ≤ os.length ∧ cmR os a b = cmR (os.drop j) a b ∧ Below w.heap.size w wr) (fun i _ => os.length - (intOf i).toNat)
  case atStart => exact ⟨0, rfl, by omega, rfl, Below.refl _ _⟩
  case round =>
    obtain ⟨j, rfl, hj, hcm, hBB⟩ := hrel
    have HBB := Lib.hid hBB
    have HCM := Lib.hid hcm
    clear hBB hcm
    by_cases hlt : j < os.length
    · have hlt' : (j : Int) < (os.length : Int) := by omega
      obtain ⟨ad, rfl, q0, q1⟩ := (HO.out.below HBB.out).at_ hlt
      have hq0 := cell_lt q0
      rw [add_block] at hq0
      obtain ⟨i1, hi1, e1, v1⟩ := H1.out.get hlt
      obtain ⟨i2, hi2, e2, v2⟩ := H2.out.get hlt
      have e12 : i2 = i1 := by omega
      subst e12
      have HDR := Lib.hid (cmR_drop hlt a b)
      have hc1 : cmp1 os[j] a b = if os[j].d then ordL b[i2] a[i2] else ordL a[i2] b[i2] := by unfold cmp1; rw [v1, v2]
      have HC1 := Lib.hid hc1
      clear hc1 v1 v2 e2
      rw [e1] at q0
      clear e1
      generalize cmp1 os[j] a b = C at HDR HC1
      generalize os[j].d = D at q1 HC1
      obtain ⟨aA, rfl, a0, a1, a2⟩ := (HA.out.below HBB.out).at_ hi1
      obtain ⟨bA, rfl, b0, b1, b2⟩ := (HB.out.below HBB.out).at_ hi2
      have ha0 := cell_lt a0
      have hb0 := cell_lt b0
      rw [add_block] at ha0 hb0
      have l1 : (i2 : Int) < (a.length : Int) := by omega
      have l2 : (i2 : Int) < (b.length : Int) := by omega
      generalize a[i2] = x at a0 a1 a2 HC1
      generalize b[i2] = y at b0 b1 b2 HC1
      have HLO := Lib.hid (ordL_lo x y)
      have HNG := Lib.hid (ordL_neg x y)
      have HOX := Lib.hid fun (W : World) => rOrder_V x y W
      generalize ordL x y = O at HOX HC1 HLO HNG
      generalize ordL y x = O' at HC1 HNG
      go_upto_region 4 with fail
      have p0 := cell_regrown q0
      have p1 := cell_regrown a0
      have p2 := cell_regrown a1
      have p3 := cell_regrown a2
      have p4 := cell_regrown b0
      have p5 := cell_regrown b1
      have p6 := cell_regrown b2
      have HD1 := Lib.hid q1
      clear a0 a1 a2 b0 b1 b2 q0 q1
      have w1 : IntKind.i64.wrap ((i2 : Int) + 1 - 1) = (i2 : Int) := by rw [IntKind.wrap_i64]; omega
      have w2 : IntKind.i64.wrap (i2 : Int) = (i2 : Int) := by rw [IntKind.wrap_i64]; omega
      refine wp_region_quiet_below (by kernel_rfl) (by kernel_rfl) ?_
      repeat (go_big_quiet_step ((with_reducible exact Calls.regrown_of (HOX.out _))))
      refine wpQuiet_nil ?_
      intro w5 hw5
      obtain ⟨pp, rfl⟩ := hw5
      have hb5 := below_regrown wr pp.d pp.os
      have HB5 := Lib.hid (thn HBB.out hb5)
      have d1 := (hb5.cell (cell_lt HD1.out)).trans HD1.out
      clear p0 p1 p2 p3 p4 p5 p6 w1 w2 HD1
      generalize grow (redrawn wr pp.d) pp.os = W5 at HB5 d1 hb5 ⊢
      clear hb5
      have hlo := HLO.out
      cases D
      · have hC : C = O := HC1.out
        by_cases hO : O = 0
        · have hO2 : (O != 0) = false := by simp [hO]
          go_wp2
          go_roundw
          case rel => exact ⟨j + 1, by go_num, hlt, by rw [HCM.out, HDR.out, if_neg (by simp [hC, hO])], HB5.out⟩
          case measure => simp [intOf]; omega
        · have hO2 : (O != 0) = true := by simp [hO]
          have HZ : Hid (cmR os a b = O) := Lib.hid (by rw [HCM.out, HDR.out, if_pos (by rw [hC]; exact hO), hC])
          go_wp2
          go_ret
          exact ⟨by rw [HZ.out]; rfl, HB5.out⟩
      · have hC : C = O' := HC1.out
        have hng := HNG.out
        have w3 : IntKind.i64.wrap (-O) = -O := by rw [IntKind.wrap_i64]; omega
        by_cases hO : O = 0
        · have hO2 : (-O != 0) = false := by simp [hO]
          go_wp2
          go_roundw
          case rel => exact ⟨j + 1, by go_num, hlt, by rw [HCM.out, HDR.out, if_neg (by rw [hC]; omega)], HB5.out⟩
          case measure => simp [intOf]; omega
        · have hO2 : (-O != 0) = true := by simp; omega
          have HZ : Hid (cmR os a b = -O) := Lib.hid (by rw [HCM.out, HDR.out, if_pos (by rw [hC]; omega), hC]; omega)
          clear hng hC
          go_wp2
          go_ret
          exact ⟨congrArg (fun t => Ending.returned (.bool t)) (by rw [HZ.out, decide_eq_decide]; omega), HB5.out⟩
    · obtain rfl : j = os.length := by omega
      have hz : cmR os a b = 0 := by rw [HCM.out, List.drop_of_length_le (Nat.le_refl _)]; rfl
      have HZ := Lib.hid hz
      clear hz
      go_wp2
      go_ret
      exact ⟨by rw [HZ.out]; rfl, HBB.out⟩
end Go.Proofs.Ytddeaiciochggaa
