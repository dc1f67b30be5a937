/- LockStays of the statements answers true for any state, any lock, any transaction and any key: the walk. Conditions: a state that is read in memory, within reach. -/
import Derived.Test.YtmjcmeebcochgaaWa
namespace Go.Proofs.Ytmjcmeebcochgaa
open Go.RowKit Go.Sort Go.Maps
set_option linter.unusedSimpArgs false
set_option linter.unusedVariables false

theorem stays_in {l : List Lk} {x : Lk} (k : Key) (h : (addR l x).2 = 0) (hk : hasB k x = true) : rdsB (addR l x).1 x.t k = true := by
  obtain ⟨_, _, o, _, a⟩ := add_ok h
  unfold rdsB
  rw [decide_eq_true o, a, hk]
  simp
theorem stays_old {l : List Lk} {x : Lk} {t : Int} {k : Key} (h : (addR l x).2 = 0) (hk : rdsB l t k = true) : rdsB (addR l x).1 t k = true := by
  obtain ⟨o1, _, o, _, a⟩ := add_ok h
  unfold rdsB at *
  rw [decide_eq_true o, a]
  simp at hk
  simp [hk.2]
theorem stays_wide {m : List Lk} {t u : Int} {k : Key} (h : Ok m) (hk : rdsB m u k = true) : rdsB (widR m t 1).1 u k = true := by
  obtain ⟨_, o, a⟩ := wid_one (t := t) h
  unfold rdsB at *
  simp at hk
  rw [decide_eq_true o, a u k hk.2]
  rfl
theorem drop_gone {m : List Lk} {t : Int} {k : Key} (h : Ok m) : rdsB (drpR m t).1 t k = false := by
  unfold drpR rdsB
  rw [if_pos h]
  simp [drp_has]
theorem drop_stays {m : List Lk} {t u : Int} {k : Key} (h : Ok m) (hu : u ≠ t) : rdsB (drpR m t).1 u k = rdsB m u k := by
  unfold drpR rdsB
  rw [if_pos h]
  simp only
  rw [drp_has, decide_eq_true (drp_ok h), decide_eq_true h]
  simp [hu]
set_option maxRecDepth 100000 in
set_option maxHeartbeats 16000000 in
theorem kStays_any (A : Option Addr) (n c : Nat) (l : List Lk) (x : Lk) (t : Int) (k : Key) (w : World) (hr : Rd w A n c l) (hn : n * 40 ≤ 140737488355328) :
    Calls Try.prog 4 #[.agg #[.slice A n c], .agg #[.int .i64 x.t, .string x.lo.s, .string x.hi.s], .int .i64 t, .string k.s] w fun e w' => e = .returned (.bool true) ∧ Below w.heap.size w w' := by
  have HF0 := Lib.hid (Lf.new w A n c x)
  have HA := Lib.hid fun W => alive_any W
  have HO := Lib.hid fun W (hb : Below w.heap.size w W) => of_any A n c l W (hr.below hb) hn
  have HAD := Lib.hid fun A n c W (hr : Rd W A n c l) => add_any A n c l x W hr
  have HN := Lib.hid fun k W => num_any k W
  have HRD := Lib.hid fun m t A n c W (hr : Rd W A n c m) => reads_any A n c m t k W hr
  have HWI := Lib.hid fun m A n c W (hr : Rd W A n c m) => widen_any A n c m x.t 1 W hr
  have HDR := Lib.hid fun m A n c W (hr : Rd W A n c m) => drop_any A n c m x.t W hr
  have hcase : ((addR l x).2 ≠ 0 ∧ (addR l x).1 = []) ∨ ((addR l x).2 = 0 ∧ (hasB k x = true → rdsB (addR l x).1 x.t k = true) ∧ (rdsB l t k = true → rdsB (addR l x).1 t k = true) ∧ (widR (addR l x).1 x.t 1).2 = 0 ∧ (rdsB (addR l x).1 t k = true → rdsB (widR (addR l x).1 x.t 1).1 t k = true) ∧
      (drpR (addR l x).1 x.t).2 = 0 ∧ rdsB (drpR (addR l x).1 x.t).1 x.t k = false ∧ ((t == x.t) = false → rdsB (drpR (addR l x).1 x.t).1 t k = rdsB (addR l x).1 t k)) := by
    by_cases h0 : (addR l x).2 = 0
    · obtain ⟨h1, h2, h3, _, h5⟩ := add_ok h0
      exact .inr ⟨h0, stays_in k h0, stays_old h0, (wid_one h3).1, stays_wide h3, by unfold drpR; rw [if_pos h3], drop_gone h3, fun h => drop_stays h3 (by simpa using h)⟩
    · exact .inl ⟨h0, add_err h0⟩
  have HCA := Lib.hid hcase
  clear hr hcase
  have HIN := Lib.hid (in_of x k)
  generalize addR l x = R at *
  obtain ⟨m, E⟩ := R
  simp only at HAD HCA
  have HWM := Lib.hid (HWI.out m)
  have HDM := Lib.hid (HDR.out m)
  clear HWI HDR
  generalize widR m x.t 1 = R2 at *
  generalize drpR m x.t = R3 at *
  obtain ⟨mb, E2⟩ := R2
  obtain ⟨mc, E3⟩ := R3
  simp only at HWM HDM HCA
  go_enter Try.func4, Try.ntmps4
  go_upto_region 1 with fail
  generalize (w.alloc (.cells #[.slice A n c] 24)).alloc (.cells #[.int .i64 x.t, .string x.lo.s, .string x.hi.s] 26) = W0 at *
  generalize w.heap.size + 1 = gx at *
  go_upto_region 3 with (go_at_call 24; (with_reducible refine (HA.out _).mono ?_); rintro e w1 ⟨rfl, hb⟩; have HF1 := Lib.hid (HF0.out.below hb); clear hb)
  have hs1 := HF1.out.s
  go_upto_region 4 with (go_at_call 9; (with_reducible refine (HO.out _ HF1.out.b).mono ?_); rintro e w2 ⟨A2, n2, c2, rfl, hr2, hb⟩; have HF2 := Lib.hid (HF1.out.below hb); have HR2 := Lib.hid hr2; clear hb hr2)
  clear hs1 HF1 HF0
  have HF3 := Lib.hid (HF2.out.below (below1 w2 (.cells #[.slice A2 n2 c2] 29)))
  have HS3 := Lib.hid (Stt.new HR2.out)
  clear HF2 HR2
  generalize w2.alloc (.cells #[.slice A2 n2 c2] 29) = W3 at *
  generalize w2.heap.size = g2 at *
  have hx0 := HF3.out.x0
  have hx1 := HF3.out.x1
  have hx2 := HF3.out.x2
  have hs3 := HS3.out.s
  go_upto_region 5 with (go_at_call 10; (with_reducible refine (HAD.out _ _ _ _ HS3.out.r).mono ?_); rintro e w4 ⟨A4, n4, c4, rfl, hr4, hb⟩; have HF4 := Lib.hid (HF3.out.below hb); have HS4 := Lib.hid (HS3.out.below hb); have HR4 := Lib.hid hr4; clear hb hr4)
  clear hx0 hx1 hx2 hs3 HF3 HS3
  have HF5 := Lib.hid (HF4.out.below (below1 w4 (.cells #[.slice A4 n4 c4] 29)))
  have HS5 := Lib.hid (HS4.out.below (below1 w4 (.cells #[.slice A4 n4 c4] 29)))
  have HT5 := Lib.hid (Stt.new HR4.out)
  clear HF4 HS4 HR4
  generalize w4.alloc (.cells #[.slice A4 n4 c4] 29) = W5 at *
  generalize w4.heap.size = g4 at *
  have ht5 := HT5.out.s
  rcases HCA.out with ⟨hE, hm⟩ | ⟨hE, h1, h2, h3, h4, h5, h6, h7⟩
  · have hE2 : (E != 0) = true := by simpa using hE
    subst hm
    obtain rfl : n4 = 0 := HT5.out.r.len.symm
    go_wp2_with (go_at_call 21; (with_reducible refine (HN.out _ _).mono ?_); rintro e w7 ⟨rfl, rfl⟩)
    go_ret
    exact ⟨rfl, HF5.out.b⟩
  · subst hE h3 h5
    have H1 := Lib.hid h1
    have H2 := Lib.hid h2
    have H4 := Lib.hid h4
    have H7 := Lib.hid h7
    clear h1 h2 h4 h7 HCA
    have HRX := Lib.hid fun A n c W (hr : Rd W A n c m) => HRD.out m x.t A n c W hr
    have HRM := Lib.hid fun A n c W (hr : Rd W A n c m) => HRD.out m t A n c W hr
    have HRL := Lib.hid fun A n c W (hr : Rd W A n c l) => HRD.out l t A n c W hr
    have HRB := Lib.hid fun A n c W (hr : Rd W A n c mb) => HRD.out mb t A n c W hr
    have HRC := Lib.hid fun A n c W (hr : Rd W A n c mc) => HRD.out mc t A n c W hr
    have HRCX := Lib.hid fun A n c W (hr : Rd W A n c mc) => HRD.out mc x.t A n c W hr
    rw [h6] at HRCX
    clear HRD h6
    generalize rdsB m x.t k = rax at *
    generalize rdsB m t k = ra at *
    generalize rdsB l t k = ro at *
    generalize rdsB mb t k = rb at *
    generalize rdsB mc t k = rc at *
    generalize hasB k x = I at *
    go_upto_region 7 with (go_at_call 21; (with_reducible refine (HN.out _ _).mono ?_); rintro e w7 ⟨rfl, rfl⟩)
    go_cut [12] (fun p wx => p = .bool I ∧ wx = W5)
    case first =>
      have hx0 := HF5.out.x0
      have hx1 := HF5.out.x1
      have hx2 := HF5.out.x2
      generalize hL : (Op.bytesLess x.lo.s.toList k.s.toList || x.lo.s.toList == k.s.toList) = L at *
      generalize hH : x.hi.s.toList.isEmpty = H at *
      generalize hS : Op.bytesLess k.s.toList x.hi.s.toList = S at *
      cases L
      all_goals cases H
      all_goals
        go_wp2_with fail
        go_meet
        exact ⟨by rw [HIN.out]; simp, rfl⟩
    case rest =>
    rename_i p9 W9
    obtain ⟨rfl, rfl⟩ := hcut
    clear ht5
    go_upto_region 8 with fail
    go_cut [70] (fun p wx => p = .bool false ∧ Lf w wx w.heap.size gx A n c x ∧ Stt wx g4 A4 n4 c4 m)
    case first =>
      have hs5 := HS5.out.s
      have ht5 := HT5.out.s
      have hx0 := HF5.out.x0
      cases I
      · clear H1
        cases ro
        · go_wp2_with (go_at_call 25; (with_reducible refine (HRL.out _ _ _ _ HS5.out.r).mono ?_); rintro e w6 ⟨rfl, hb⟩; have HF6 := Lib.hid (HF5.out.below hb); have HT6 := Lib.hid (HT5.out.below hb); clear hb)
          go_meet
          exact ⟨rfl, HF6.out, HT6.out⟩
        · obtain rfl := H2.out rfl
          go_wp2_with (go_at_call 25; first | ((with_reducible refine (HRL.out _ _ _ _ HS5.out.r).mono ?_); rintro e w6 ⟨rfl, hb⟩; have HF6 := Lib.hid (HF5.out.below hb); have HT6 := Lib.hid (HT5.out.below hb); have ht6 := HT6.out.s; clear hb) | ((with_reducible refine (HRM.out _ _ _ _ HT6.out.r).mono ?_); rintro e w7 ⟨rfl, hb⟩; have HF7 := Lib.hid (HF6.out.below hb); have HT7 := Lib.hid (HT6.out.below hb); clear hb))
          go_meet
          exact ⟨rfl, HF7.out, HT7.out⟩
      · obtain rfl := H1.out rfl
        cases ro
        · go_wp2_with (go_at_call 25; first | ((with_reducible refine (HRX.out _ _ _ _ HT5.out.r).mono ?_); rintro e w6 ⟨rfl, hb⟩; have HF6 := Lib.hid (HF5.out.below hb); have HT6 := Lib.hid (HT5.out.below hb); have HS6 := Lib.hid (HS5.out.below hb); have hs6 := HS6.out.s; clear hb) | ((with_reducible refine (HRL.out _ _ _ _ HS6.out.r).mono ?_); rintro e w7 ⟨rfl, hb⟩; have HF7 := Lib.hid (HF6.out.below hb); have HT7 := Lib.hid (HT6.out.below hb); clear hb))
          go_meet
          exact ⟨rfl, HF7.out, HT7.out⟩
        · obtain rfl := H2.out rfl
          go_wp2_with (go_at_call 25; first | ((with_reducible refine (HRL.out _ _ _ _ HS6.out.r).mono ?_); rintro e w7 ⟨rfl, hb⟩; have HF7 := Lib.hid (HF6.out.below hb); have HT7 := Lib.hid (HT6.out.below hb); have ht7 := HT7.out.s; clear hb) | ((with_reducible refine (HRM.out _ _ _ _ HT7.out.r).mono ?_); rintro e w8 ⟨rfl, hb⟩; have HF8 := Lib.hid (HF7.out.below hb); have HT8 := Lib.hid (HT7.out.below hb); clear hb) | ((with_reducible refine (HRX.out _ _ _ _ HT5.out.r).mono ?_); rintro e w6 ⟨rfl, hb⟩; have HF6 := Lib.hid (HF5.out.below hb); have HT6 := Lib.hid (HT5.out.below hb); have HS6 := Lib.hid (HS5.out.below hb); have hs6 := HS6.out.s; clear hb))
          go_meet
          exact ⟨rfl, HF8.out, HT8.out⟩
    case rest =>
    rename_i p9 W9
    obtain ⟨rfl, hf9, ht9⟩ := hcut
    have HF9 := Lib.hid hf9
    have HT9 := Lib.hid ht9
    clear hf9 ht9 HF5 HS5 HT5
    have hs9 := HT9.out.s
    have hx9 := HF9.out.x0
    go_upto_region 11 with (go_at_call 18; (with_reducible refine (HWM.out _ _ _ _ HT9.out.r).mono ?_); rintro e w10 ⟨A10, n10, c10, rfl, hr10, hb⟩; have HF10 := Lib.hid (HF9.out.below hb); have HT10 := Lib.hid (HT9.out.below hb); have HR10 := Lib.hid hr10; clear hb hr10)
    clear hs9 hx9 HF9 HT9
    have HF11 := Lib.hid (HF10.out.below (below1 w10 (.cells #[.slice A10 n10 c10] 29)))
    have HT11 := Lib.hid (HT10.out.below (below1 w10 (.cells #[.slice A10 n10 c10] 29)))
    have HU11 := Lib.hid (Stt.new HR10.out)
    clear HF10 HT10 HR10
    generalize w10.alloc (.cells #[.slice A10 n10 c10] 29) = W11 at *
    generalize w10.heap.size = g10 at *
    go_cut [93] (fun p wx => p = .bool false ∧ Lf w wx w.heap.size gx A n c x ∧ Stt wx g4 A4 n4 c4 m)
    case first =>
      have ht11 := HT11.out.s
      have hu11 := HU11.out.s
      cases ra
      · go_wp2_with (first | (go_at_call 21; (with_reducible refine (HN.out _ _).mono ?_); rintro e w7 ⟨rfl, rfl⟩) | (go_at_call 25; (with_reducible refine (HRM.out _ _ _ _ HT11.out.r).mono ?_); rintro e w12 ⟨rfl, hb⟩; have HF12 := Lib.hid (HF11.out.below hb); have HT12 := Lib.hid (HT11.out.below hb); clear hb))
        go_meet
        exact ⟨rfl, HF12.out, HT12.out⟩
      · obtain rfl := H4.out rfl
        go_wp2_with (first | (go_at_call 21; (with_reducible refine (HN.out _ _).mono ?_); rintro e w7 ⟨rfl, rfl⟩) | (go_at_call 25; first | ((with_reducible refine (HRB.out _ _ _ _ HU12.out.r).mono ?_); rintro e w13 ⟨rfl, hb⟩; have HF13 := Lib.hid (HF12.out.below hb); have HT13 := Lib.hid (HT12.out.below hb); clear hb) | ((with_reducible refine (HRM.out _ _ _ _ HT11.out.r).mono ?_); rintro e w12 ⟨rfl, hb⟩; have HF12 := Lib.hid (HF11.out.below hb); have HT12 := Lib.hid (HT11.out.below hb); have HU12 := Lib.hid (HU11.out.below hb); have hu12 := HU12.out.s; clear hb)))
        go_meet
        exact ⟨rfl, HF13.out, HT13.out⟩
    case rest =>
    rename_i p14 W14
    obtain ⟨rfl, hf14, ht14⟩ := hcut
    have HF14 := Lib.hid hf14
    have HT14 := Lib.hid ht14
    clear hf14 ht14 HF11 HT11 HU11
    have hs14 := HT14.out.s
    have hx14 := HF14.out.x0
    go_upto_region 14 with (go_at_call 16; (with_reducible refine (HDM.out _ _ _ _ HT14.out.r).mono ?_); rintro e w15 ⟨A15, n15, c15, rfl, hr15, hb⟩; have HF15 := Lib.hid (HF14.out.below hb); have HT15 := Lib.hid (HT14.out.below hb); have HR15 := Lib.hid hr15; clear hb hr15)
    clear hs14 hx14 HF14 HT14
    have HF16 := Lib.hid (HF15.out.below (below1 w15 (.cells #[.slice A15 n15 c15] 29)))
    have HT16 := Lib.hid (HT15.out.below (below1 w15 (.cells #[.slice A15 n15 c15] 29)))
    have HU16 := Lib.hid (Stt.new HR15.out)
    clear HF15 HT15 HR15
    generalize w15.alloc (.cells #[.slice A15 n15 c15] 29) = W16 at *
    generalize w15.heap.size = g15 at *
    have QCX := Lib.hid fun d os => HRCX.out A15 n15 c15 (grow (redrawn W16 d) os) (HU16.out.r.below (below_regrown _ d os))
    have QC := Lib.hid fun d os => HRC.out A15 n15 c15 (grow (redrawn W16 d) os) (HU16.out.r.below (below_regrown _ d os))
    have QM := Lib.hid fun d os => HRM.out A4 n4 c4 (grow (redrawn W16 d) os) (HT16.out.r.below (below_regrown _ d os))
    have QN := Lib.hid fun d os => (HN.out 0 (grow (redrawn W16 d) os)).mono fun e w' (h : e = .returned (.int .i64 0) ∧ grow (redrawn W16 d) os = w') => (show e = .returned (.int .i64 0) ∧ Below (grow (redrawn W16 d) os).heap.size (grow (redrawn W16 d) os) w' from ⟨h.1, by rw [← h.2]; exact Below.refl _ _⟩)
    have p0 := cell_regrown HT16.out.s
    have p1 := cell_regrown HU16.out.s
    have p2 := cell_regrown HF16.out.x0
    have H7' := H7.out
    clear H1 H2 H4 H7 HRX HRM HRL HRB HRC HRCX
    generalize hT : (t == x.t) = T at *
    cases T
    · obtain rfl := H7' rfl
      clear H7'
      refine wp_region_quiet_below (by kernel_rfl) (by kernel_rfl) ?_
      repeat (go_big_quiet_step (first | (with_reducible exact Calls.regrown_of (QN.out _ _)) | (with_reducible exact Calls.regrown_of (QCX.out _ _)) | (with_reducible exact Calls.regrown_of (QC.out _ _)) | (with_reducible exact Calls.regrown_of (QM.out _ _))))
      refine wpQuiet_nil ?_
      intro w9 hw9
      obtain ⟨pp, rfl⟩ := hw9
      have HB9 := Lib.hid (thn HF16.out.b (below_regrown W16 pp.d pp.os))
      clear p0 p1 p2
      generalize grow (redrawn W16 pp.d) pp.os = W17 at HB9 ⊢
      go_wp2
      go_ret
      exact ⟨ret_bool (by simp), HB9.out⟩
    · clear H7'
      refine wp_region_quiet_below (by kernel_rfl) (by kernel_rfl) ?_
      repeat (go_big_quiet_step (first | (with_reducible exact Calls.regrown_of (QN.out _ _)) | (with_reducible exact Calls.regrown_of (QCX.out _ _)) | (with_reducible exact Calls.regrown_of (QC.out _ _)) | (with_reducible exact Calls.regrown_of (QM.out _ _))))
      refine wpQuiet_nil ?_
      intro w9 hw9
      obtain ⟨pp, rfl⟩ := hw9
      have HB9 := Lib.hid (thn HF16.out.b (below_regrown W16 pp.d pp.os))
      clear p0 p1 p2
      generalize grow (redrawn W16 pp.d) pp.os = W17 at HB9 ⊢
      go_wp2
      go_ret
      exact ⟨ret_bool (by simp), HB9.out⟩
end Go.Proofs.Ytmjcmeebcochgaa
