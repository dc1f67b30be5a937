/- SsiOthers of the statements answers true for any state and any number: the walk. Conditions: a state that is read in memory, within reach. -/
import Derived.Test.YtlcmpngjmmbkcaaWa
namespace Go.Proofs.Ytlcmpngjmmbkcaa
open Go.RowKit Go.Sort Go.Maps
set_option linter.unusedSimpArgs false
set_option linter.unusedVariables false

theorem end_again {S : St} (hOk : Ok S) {j : Nat} (hj : j < S.l.length) (he : S.l[j].e ≠ 0) : comR S S.l[j].i = (zS, 0, 9) ∧ aboR S S.l[j].i = (zS, 9) := by
  have hp := hOk.plc hj
  have h1 : plc S.l[j].i S.l < S.l.length := by rw [hp]; exact hj
  have h2 : (S.l[plc S.l[j].i S.l]'h1).e ≠ 0 := by simp only [hp]; exact he
  constructor
  · unfold comR
    rw [if_pos hOk, dif_pos h1, if_pos h2]
  · unfold aboR
    rw [if_pos hOk, dif_pos h1, if_pos h2]
/-- What is said of a state that follows. -/
def Oth (s : St) (i : Int) (S : St) (E : Int) : Prop := E ≠ 0 ∨ (E = 0 ∧ S.l.length = s.l.length ∧ S.n = s.n ∧ s.l.length ≤ 64 ∧ (∀ (j : Nat) (t : Tx), s.l[j]? = some t → t.i ≠ i → S.l[j]? = some t) ∧ comR S i = (zS, 0, 9) ∧ aboR S i = (zS, 9))
theorem oth_set {s : St} (hOk : Ok s) {i : Int} (hP : plc i s.l < s.l.length) (u : Tx) (d : Int) (hu : u.i = s.l[plc i s.l].i) (he : u.e ≠ 0) (hk : Ok ⟨s.l.set (plc i s.l) u, d, s.n⟩) : Oth s i ⟨s.l.set (plc i s.l) u, d, s.n⟩ 0 := by
  have hi := plc_at hP
  have hj : plc i s.l < (s.l.set (plc i s.l) u).length := by simpa using hP
  have hself : (s.l.set (plc i s.l) u)[plc i s.l]'hj = u := List.getElem_set_self hj
  have hag := end_again hk (j := plc i s.l) hj (by simp only [hself]; exact he)
  simp only [hself] at hag
  rw [hu, hi] at hag
  refine .inr ⟨rfl, by simp, rfl, hOk.len, fun j t ht hne => ?_, hag⟩
  have : plc i s.l ≠ j := fun e => by
    subst e
    rw [List.getElem?_eq_getElem hP] at ht
    injection ht with ht
    rw [← ht] at hne
    exact hne hi
  rw [List.getElem?_set_ne this]
  exact ht
theorem oth_com (s : St) (i : Int) : Oth s i (comR s i).1 (comR s i).2.2 := by
  by_cases hOk : Ok s
  · by_cases hP : plc i s.l < s.l.length
    · by_cases h0 : s.l[plc i s.l].e ≠ 0
      · exact .inl (by unfold comR; rw [if_pos hOk, dif_pos hP, if_pos h0]; decide)
      · by_cases hb : (s.l[plc i s.l].a && s.l[plc i s.l].o) = true
        · exact .inl (by unfold comR; rw [if_pos hOk, dif_pos hP, if_neg h0, if_pos hb]; decide)
        · by_cases hc : s.c = 1099511627776
          · exact .inl (by unfold comR; rw [if_pos hOk, dif_pos hP, if_neg h0, if_neg hb, if_pos hc]; decide)
          · have e : comR s i = (⟨s.l.set (plc i s.l) ⟨s.l[plc i s.l].i, s.l[plc i s.l].s, s.c + 1, s.l[plc i s.l].a, s.l[plc i s.l].o⟩, s.c + 1, s.n⟩, s.c + 1, 0) := by unfold comR; rw [if_pos hOk, dif_pos hP, if_neg h0, if_neg hb, if_neg hc]
            rw [e]
            have hc0 := hOk.c0
            have hc1 := hOk.c1
            exact oth_set hOk hP _ _ rfl (by show s.c + 1 ≠ 0; omega) (hOk.com hP (by simpa using h0) (by omega))
    · exact .inl (by unfold comR; rw [if_pos hOk, dif_neg hP]; decide)
  · exact .inl (by unfold comR; rw [if_neg hOk]; decide)
theorem oth_abo (s : St) (i : Int) : Oth s i (aboR s i).1 (aboR s i).2 := by
  by_cases hOk : Ok s
  · by_cases hP : plc i s.l < s.l.length
    · by_cases h0 : s.l[plc i s.l].e ≠ 0
      · exact .inl (by unfold aboR; rw [if_pos hOk, dif_pos hP, if_pos h0]; decide)
      · have e : aboR s i = (⟨s.l.set (plc i s.l) ⟨s.l[plc i s.l].i, s.l[plc i s.l].s, -1, s.l[plc i s.l].a, s.l[plc i s.l].o⟩, s.c, s.n⟩, 0) := by unfold aboR; rw [if_pos hOk, dif_pos hP, if_neg h0]
        rw [e]
        exact oth_set hOk hP _ _ rfl (by show (-1 : Int) ≠ 0; decide) (hOk.abo hP)
    · exact .inl (by unfold aboR; rw [if_pos hOk, dif_neg hP]; decide)
  · exact .inl (by unfold aboR; rw [if_neg hOk]; decide)
theorem stoodV : Try.prog.stoodInHeld 50 = false := by kernel_rfl
theorem underV : Try.prog.underlying 50 = some (.struct (Try.prog.fieldsOf 50)) := by simp only [Program.fieldsOf, Try.underlying50]
theorem guardV : Try.prog.eqGuardType Try.prog.depth 50 = false := by kernel_rfl
theorem run_neqV (t : Tx) (w : World) : (binOp .neq 50 (.agg #[.int .i64 t.i, .int .i64 t.s, .int .i64 t.e, .bool t.a, .bool t.o]) (.agg #[.int .i64 t.i, .int .i64 t.s, .int .i64 t.e, .bool t.a, .bool t.o])).run Try.prog w = .ok (.bool false) w := by
  rw [run_neq_struct, run_equalIn_agg w 9999 50 _ _ underV stoodV]
  simp [go_sem, Try.underlying50]
set_option maxRecDepth 100000 in
set_option maxHeartbeats 16000000 in
theorem kOthers_any (A : Option Addr) (n c : Nat) (s : St) (i : Int) (w : World) (hr : Rd w A n c s.l) (hn : n * 32 ≤ 140737488355328) :
    Calls Try.prog 6 #[.agg #[.slice A n c, .int .i64 s.c, .int .i64 s.n], .int .i64 i] w fun e w' => e = .returned (.bool true) ∧ Below w.heap.size w w' := by
  have hlen := hr.len
  have HA := Lib.hid fun W => alive_any W
  have HO := Lib.hid fun W (hb : Below w.heap.size w W) => of_any A n c s W (hr.below hb) hn
  have HC := Lib.hid fun A n c W (hr : Rd W A n c s.l) => commit_any A n c s i W hr
  have HB := Lib.hid fun A n c W (hr : Rd W A n c s.l) => abort_any A n c s i W hr
  have HCA := Lib.hid fun S A n c W (hr : Rd W A n c S.l) => commit_any A n c S i W hr
  have HBA := Lib.hid fun S A n c W (hr : Rd W A n c S.l) => abort_any A n c S i W hr
  have HN := Lib.hid fun k W => num_any k W
  have HP0 := Lib.hid (oth_com s i)
  have HP1 := Lib.hid (oth_abo s i)
  have HX := Lib.hid (Bx.new w (.slice A n c) (.int .i64 s.c) (.int .i64 s.n) 24)
  have HB0 := Lib.hid (below1 w (.cells #[.slice A n c, .int .i64 s.c, .int .i64 s.n] 24))
  have HRD := Lib.hid hr
  clear hr
  generalize comR s i = R0 at *
  generalize aboR s i = R1 at *
  obtain ⟨S0, k0, E0⟩ := R0
  obtain ⟨S1, E1⟩ := R1
  simp only at HC HB HP0 HP1
  subst hlen
  go_enter Try.func6, Try.ntmps6
  go_upto_region 1 with fail
  generalize w.alloc (.cells #[.slice A s.l.length c, .int .i64 s.c, .int .i64 s.n] 24) = W0 at *
  go_upto_region 4 with (first | (go_at_call 7; (with_reducible refine (HA.out _).mono ?_); rintro e w1 ⟨rfl, hb⟩; have HB1 := Lib.hid (thn HB0.out hb); have HX1 := Lib.hid (HX.out.below hb); obtain ⟨x0, x1, x2, _, _, _⟩ := HX1.out; clear hb) | (go_at_call 9; (with_reducible refine (HO.out _ HB1.out).mono ?_); rintro e w2 ⟨A2, n2, c2, rfl, hr2, hb⟩; have HR2 := Lib.hid hr2; have HB2 := Lib.hid (thn HB1.out hb); have HX2 := Lib.hid (HX1.out.below hb); clear hr2 hb) | (go_at_call 13; (with_reducible refine (HC.out _ _ _ _ HR2.out).mono ?_); rintro e w3 ⟨A3, n3, c3, rfl, hr3, hb⟩; have HB3 := Lib.hid (thn HB2.out hb); have HX3 := Lib.hid (HX2.out.below hb); have HR3 := Lib.hid hr3; clear hr3 hb))
  have hb4 := below1 w3 (.cells #[.slice A3 n3 c3, .int .i64 S0.c, .int .i64 S0.n] 28)
  have HB4 := Lib.hid (thn HB3.out hb4)
  have HX4 := Lib.hid (HX3.out.below hb4)
  have HS4 := Lib.hid (SB.new w3 (s := S0) HR3.out)
  clear HX HX1 HX2 HX3 HB0 HB1 HB2 HB3 HR2 HR3 x0 x1 x2 hb4
  generalize w3.alloc (.cells #[.slice A3 n3 c3, .int .i64 S0.c, .int .i64 S0.n] 28) = W4 at *
  generalize w3.heap.size = g0 at *
  obtain ⟨x0, x1, x2, _, _, _⟩ := HX4.out
  go_upto_region 5 with (first | (go_at_call 9; (with_reducible refine (HO.out _ HB4.out).mono ?_); rintro e w5 ⟨A5, n5, c5, rfl, hr5, hb⟩; have HR5 := Lib.hid hr5; have HB5 := Lib.hid (thn HB4.out hb); have HX5 := Lib.hid (HX4.out.below hb); have HS5 := Lib.hid (HS4.out.below hb); clear hr5 hb) | (go_at_call 14; (with_reducible refine (HB.out _ _ _ _ HR5.out).mono ?_); rintro e w6 ⟨A6, n6, c6, rfl, hr6, hb⟩; have HB6 := Lib.hid (thn HB5.out hb); have HX6 := Lib.hid (HX5.out.below hb); have HS6 := Lib.hid (HS5.out.below hb); have HR6 := Lib.hid hr6; clear hr6 hb))
  have hb7 := below1 w6 (.cells #[.slice A6 n6 c6, .int .i64 S1.c, .int .i64 S1.n] 28)
  have HB7 := Lib.hid (thn HB6.out hb7)
  have HX7 := Lib.hid (HX6.out.below hb7)
  have HS7 := Lib.hid (HS6.out.below hb7)
  have HT7 := Lib.hid (SB.new w6 (s := S1) HR6.out)
  clear HX4 HX5 HX6 HB4 HB5 HB6 HR5 HR6 HS4 HS5 HS6 x0 x1 x2 hb7 HO
  generalize w6.alloc (.cells #[.slice A6 n6 c6, .int .i64 S1.c, .int .i64 S1.n] 28) = W7 at *
  generalize w6.heap.size = g1 at *
  obtain ⟨y0, y1, y2, _, _, _⟩ := HS7.out.box
  obtain ⟨z0, z1, z2, _, _, _⟩ := HT7.out.box
  go_upto_region 7 with fail
  have ht9 := below2 W7 (.cells #[.slice A3 n3 c3, .int .i64 S0.c, .int .i64 S0.n, .slice A6 n6 c6, .int .i64 S1.c, .int .i64 S1.n] 28) (.cells #[.int .i64 E0, .int .i64 E1] 29)
  have ha1 := fun o v (h : #[Value.slice A3 n3 c3, .int .i64 S0.c, .int .i64 S0.n, .slice A6 n6 c6, .int .i64 S1.c, .int .i64 S1.n][o]? = some v) => (cell_keep ((cell_last W7 _ 28 W7.heap.size o rfl).trans h) (below1 (W7.alloc (.cells #[.slice A3 n3 c3, .int .i64 S0.c, .int .i64 S0.n, .slice A6 n6 c6, .int .i64 S1.c, .int .i64 S1.n] 28)) (.cells #[.int .i64 E0, .int .i64 E1] 29)))
  have ha2 := fun o => cell_last (W7.alloc (.cells #[.slice A3 n3 c3, .int .i64 S0.c, .int .i64 S0.n, .slice A6 n6 c6, .int .i64 S1.c, .int .i64 S1.n] 28)) #[.int .i64 E0, .int .i64 E1] 29 (W7.heap.size + 1) o (by simp)
  have HA0 := Lib.hid (ha1 0 _ rfl)
  have HA1 := Lib.hid (ha1 1 _ rfl)
  have HA2 := Lib.hid (ha1 2 _ rfl)
  have HA3 := Lib.hid (ha1 3 _ rfl)
  have HA4 := Lib.hid (ha1 4 _ rfl)
  have HA5 := Lib.hid (ha1 5 _ rfl)
  have HE0 := Lib.hid ((ha2 0).trans (show _ = some (.int .i64 E0) from rfl))
  have HE1 := Lib.hid ((ha2 1).trans (show _ = some (.int .i64 E1) from rfl))
  have HB9 := Lib.hid (thn HB7.out ht9)
  have HX9 := Lib.hid (HX7.out.below ht9)
  have HRA := Lib.hid (HS7.out.rd.below ht9)
  have HRB := Lib.hid (HT7.out.rd.below ht9)
  clear ha1 ha2 ht9 HB7 HX7 HS7 HT7 y0 y1 y2 z0 z1 z2
  generalize (W7.alloc (.cells #[.slice A3 n3 c3, .int .i64 S0.c, .int .i64 S0.n, .slice A6 n6 c6, .int .i64 S1.c, .int .i64 S1.n] 28)).alloc (.cells #[.int .i64 E0, .int .i64 E1] 29) = W9 at *
  generalize W7.heap.size + 1 = ge at *
  generalize W7.heap.size = ga at *
  go_wp2_with fail
  go_loopw [12, 13, 14, 15, 16, 17, 18, 19] (fun k _ _ _ _ _ _ _ wr => ∃ j : Nat, k = .int .i64 j ∧ j ≤ 2 ∧ Below W9.heap.size W9 wr) (fun k _ _ _ _ _ _ _ _ => 2 - (intOf k).toNat)
  case atStart => exact ⟨0, rfl, by omega, Below.refl _ _⟩
  case round =>
    obtain ⟨j, rfl, hj, hB⟩ := hrel
    have HBJ := Lib.hid hB
    clear hB
    have HXJ := Lib.hid (HX9.out.below HBJ.out)
    obtain ⟨x0, x1, x2, _, _, _⟩ := HXJ.out
    rcases (show j = 0 ∨ j = 1 ∨ j = 2 by omega) with rfl | rfl | rfl
    · have a0 := cell_keep HA0.out HBJ.out
      have a1 := cell_keep HA1.out HBJ.out
      have a2 := cell_keep HA2.out HBJ.out
      have e0 := cell_keep HE0.out HBJ.out
      have hla := cell_lt a0
      have hle := cell_lt e0
      rcases HP0.out with hE | ⟨hE, hl, hnx, h64, hall, hca, hba⟩
      · have hE' : (E0 != 0) = true := by simpa using hE
        clear hE
        go_wp2_with (go_at_call 10; (with_reducible refine (HN.out _ _).mono ?_); rintro e w9 ⟨rfl, rfl⟩)
        go_roundw
        case rel => exact ⟨1, by go_num, by omega, HBJ.out⟩
        case measure => simp [intOf]
      · subst hE
        have hnk : n3 = s.l.length := HRA.out.len.symm.trans hl
        subst hnk
        have hnn : (S0.n != s.n) = false := by simp [hnx]
        have HALL := Lib.hid hall
        have HCC := Lib.hid fun A n c W hr => HCA.out S0 A n c W hr
        have HBB := Lib.hid fun A n c W hr => HBA.out S0 A n c W hr
        rw [hca] at HCC
        rw [hba] at HBB
        clear hall hca hba hl hnx HP0 HP1
        go_upto_region 12 with (go_at_call 10; (with_reducible refine (HN.out _ _).mono ?_); rintro e w9 ⟨rfl, rfl⟩)
        have hbt := below1 wr (.cells #[.slice A3 s.l.length c3, .int .i64 S0.c, .int .i64 S0.n] 28)
        have HBT := Lib.hid (thn HBJ.out hbt)
        have HST := Lib.hid (SB.new wr (s := S0) (HRA.out.below HBJ.out))
        have HXT := Lib.hid (HXJ.out.below hbt)
        clear x0 x1 x2 a0 a1 a2 e0 hla hle hbt
        generalize hgt : wr.heap.size = gt at *
        clear hgt
        generalize wr.alloc (.cells #[.slice A3 s.l.length c3, .int .i64 S0.c, .int .i64 S0.n] 28) = WT at *
        obtain ⟨x0, x1, x2, _, _, _⟩ := HXT.out
        obtain ⟨y0, y1, y2, _, _, _⟩ := HST.out.box
        go_wp2_with fail
        clear x0 x1 x2 y0 y1 y2
        go_loopw [14] (fun k wr => ∃ q : Nat, k = .int .i64 q ∧ q ≤ s.l.length ∧ Below WT.heap.size WT wr) (fun k _ => s.l.length - (intOf k).toNat)
        case atStart => exact ⟨0, rfl, by omega, Below.refl _ _⟩
        case round =>
          obtain ⟨q, rfl, hq, hB⟩ := hrel
          have HBQ := Lib.hid hB
          clear hB
          have HXQ := Lib.hid (HXT.out.below HBQ.out)
          have HSQ := Lib.hid (HST.out.below HBQ.out)
          have HBA2 := Lib.hid (thn HBT.out HBQ.out)
          obtain ⟨x0, x1, x2, _, _, _⟩ := HXQ.out
          obtain ⟨y0, y1, y2, _, _, _⟩ := HSQ.out.box
          have h1 := cell_lt x0
          have h2 := cell_lt y0
          by_cases hlq : q < s.l.length
          · have hql : (q : Int) < (s.l.length : Int) := by omega
            obtain ⟨ad, rfl, t0, t1, t2, t3, t4⟩ := (HRD.out.below (thn HB9.out HBA2.out)).at_ hlq
            have hbt := cell_lt t0
            rw [add_block] at hbt
            have hsame := HALL.out q _ (List.getElem?_eq_getElem hlq)
            generalize s.l[q] = v at *
            cases hid : (v.i != i)
            · clear hsame
              go_upto_region 17 with fail
              have p0 := cell_regrown x0
              have p1 := cell_regrown t0
              clear x0 x1 x2 y0 y1 y2 t0 t1 t2 t3 t4
              refine wp_region_quiet_below (by kernel_rfl) (by kernel_rfl) ?_
              repeat (go_big_quiet_step (fail))
              refine wpQuiet_nil ?_
              intro w12 hw12
              obtain ⟨pp, rfl⟩ := hw12
              have HBZ := Lib.hid (below_regrown wr pp.d pp.os)
              clear p0 p1
              generalize grow (redrawn wr pp.d) pp.os = WZ at *
              go_wp2
              go_roundw
              case rel => exact ⟨q + 1, by go_num, hlq, thn HBQ.out HBZ.out⟩
              case measure => simp [intOf]; omega
            · have hv := hsame (by simpa using hid)
              obtain ⟨bd, hbd, hbx⟩ : ∃ bd, A3 = some bd ∧ Cell5 wr (bd.add (q * 5)) v := by
                have hlt2 := (List.getElem?_eq_some_iff.1 hv).1
                obtain ⟨bd, hbd, hbx⟩ := HSQ.out.rd.at_ hlt2
                rw [(List.getElem?_eq_some_iff.1 hv).2] at hbx
                exact ⟨bd, hbd, hbx⟩
              subst hbd
              obtain ⟨b0, b1, b2, b3, b4⟩ := hbx
              have hbb := cell_lt b0
              rw [add_block] at hbb
              have hq := run_neqV v
              have hgv := guardV
              clear hsame hv
              go_upto_region 17 with fail
              have p0 := cell_regrown x0
              have p1 := cell_regrown y0
              have p2 := cell_regrown t0
              have p3 := cell_regrown t1
              have p4 := cell_regrown t2
              have p5 := cell_regrown t3
              have p6 := cell_regrown t4
              have r0 := cell_regrown b0
              have r1 := cell_regrown b1
              have r2 := cell_regrown b2
              have r3 := cell_regrown b3
              have r4 := cell_regrown b4
              clear x0 x1 x2 y0 y1 y2 t0 t1 t2 t3 t4 b0 b1 b2 b3 b4
              refine wp_region_quiet_below (by kernel_rfl) (by kernel_rfl) ?_
              repeat (go_big_quiet_step (fail))
              refine wpQuiet_nil ?_
              intro w12 hw12
              obtain ⟨pp, rfl⟩ := hw12
              have HBZ := Lib.hid (below_regrown wr pp.d pp.os)
              clear p0 p1 p2 p3 p4 p5 p6 r0 r1 r2 r3 r4
              generalize grow (redrawn wr pp.d) pp.os = WZ at *
              go_wp2
              go_roundw
              case rel => exact ⟨q + 1, by go_num, hlq, thn HBQ.out HBZ.out⟩
              case measure => simp [intOf]; omega
          · have hql : ¬ (q : Int) < (s.l.length : Int) := by omega
            go_wp2_with (first | (go_at_call 13; (with_reducible refine (HCC.out _ _ _ _ HSQ.out.rd).mono ?_); rintro e w13 ⟨A13, n13, c13, rfl, hr13, hb⟩; have HB13 := Lib.hid (thn (thn HBA2.out hb) (below1 w13 (.cells #[.slice A13 n13 c13, .int .i64 zS.c, .int .i64 zS.n] 28))); have HS13 := Lib.hid (HSQ.out.below (thn hb (below1 w13 (.cells #[.slice A13 n13 c13, .int .i64 zS.c, .int .i64 zS.n] 28)))); have y0 := HS13.out.box.c0; have y1 := HS13.out.box.c1; have y2 := HS13.out.box.c2; clear hr13 hb) | (go_at_call 14; (with_reducible refine (HBB.out _ _ _ _ HS13.out.rd).mono ?_); rintro e w14 ⟨A14, n14, c14, rfl, hr14, hb⟩; have HB14 := Lib.hid (thn (thn HB13.out hb) (below1 w14 (.cells #[.slice A14 n14 c14, .int .i64 zS.c, .int .i64 zS.n] 28))); clear hr14 hb) | (go_at_call 10; (with_reducible refine (HN.out _ _).mono ?_); rintro e w9 ⟨rfl, rfl⟩))
            go_roundw
            case rel => exact ⟨1, by go_num, by omega, HB14.out⟩
            case measure => simp [intOf]
    · have a0 := cell_keep HA3.out HBJ.out
      have a1 := cell_keep HA4.out HBJ.out
      have a2 := cell_keep HA5.out HBJ.out
      have e0 := cell_keep HE1.out HBJ.out
      have hla := cell_lt a0
      have hle := cell_lt e0
      rcases HP1.out with hE | ⟨hE, hl, hnx, h64, hall, hca, hba⟩
      · have hE' : (E1 != 0) = true := by simpa using hE
        clear hE
        go_wp2_with (go_at_call 10; (with_reducible refine (HN.out _ _).mono ?_); rintro e w9 ⟨rfl, rfl⟩)
        go_roundw
        case rel => exact ⟨2, by go_num, by omega, HBJ.out⟩
        case measure => simp [intOf]
      · subst hE
        have hnk : n6 = s.l.length := HRB.out.len.symm.trans hl
        subst hnk
        have hnn : (S1.n != s.n) = false := by simp [hnx]
        have HALL := Lib.hid hall
        have HCC := Lib.hid fun A n c W hr => HCA.out S1 A n c W hr
        have HBB := Lib.hid fun A n c W hr => HBA.out S1 A n c W hr
        rw [hca] at HCC
        rw [hba] at HBB
        clear hall hca hba hl hnx HP0 HP1
        go_upto_region 12 with (go_at_call 10; (with_reducible refine (HN.out _ _).mono ?_); rintro e w9 ⟨rfl, rfl⟩)
        have hbt := below1 wr (.cells #[.slice A6 s.l.length c6, .int .i64 S1.c, .int .i64 S1.n] 28)
        have HBT := Lib.hid (thn HBJ.out hbt)
        have HST := Lib.hid (SB.new wr (s := S1) (HRB.out.below HBJ.out))
        have HXT := Lib.hid (HXJ.out.below hbt)
        clear x0 x1 x2 a0 a1 a2 e0 hla hle hbt
        generalize hgt : wr.heap.size = gt at *
        clear hgt
        generalize wr.alloc (.cells #[.slice A6 s.l.length c6, .int .i64 S1.c, .int .i64 S1.n] 28) = WT at *
        obtain ⟨x0, x1, x2, _, _, _⟩ := HXT.out
        obtain ⟨y0, y1, y2, _, _, _⟩ := HST.out.box
        go_wp2_with fail
        clear x0 x1 x2 y0 y1 y2
        go_loopw [14] (fun k wr => ∃ q : Nat, k = .int .i64 q ∧ q ≤ s.l.length ∧ Below WT.heap.size WT wr) (fun k _ => s.l.length - (intOf k).toNat)
        case atStart => exact ⟨0, rfl, by omega, Below.refl _ _⟩
        case round =>
          obtain ⟨q, rfl, hq, hB⟩ := hrel
          have HBQ := Lib.hid hB
          clear hB
          have HXQ := Lib.hid (HXT.out.below HBQ.out)
          have HSQ := Lib.hid (HST.out.below HBQ.out)
          have HBA2 := Lib.hid (thn HBT.out HBQ.out)
          obtain ⟨x0, x1, x2, _, _, _⟩ := HXQ.out
          obtain ⟨y0, y1, y2, _, _, _⟩ := HSQ.out.box
          have h1 := cell_lt x0
          have h2 := cell_lt y0
          by_cases hlq : q < s.l.length
          · have hql : (q : Int) < (s.l.length : Int) := by omega
            obtain ⟨ad, rfl, t0, t1, t2, t3, t4⟩ := (HRD.out.below (thn HB9.out HBA2.out)).at_ hlq
            have hbt := cell_lt t0
            rw [add_block] at hbt
            have hsame := HALL.out q _ (List.getElem?_eq_getElem hlq)
            generalize s.l[q] = v at *
            cases hid : (v.i != i)
            · clear hsame
              go_upto_region 17 with fail
              have p0 := cell_regrown x0
              have p1 := cell_regrown t0
              clear x0 x1 x2 y0 y1 y2 t0 t1 t2 t3 t4
              refine wp_region_quiet_below (by kernel_rfl) (by kernel_rfl) ?_
              repeat (go_big_quiet_step (fail))
              refine wpQuiet_nil ?_
              intro w12 hw12
              obtain ⟨pp, rfl⟩ := hw12
              have HBZ := Lib.hid (below_regrown wr pp.d pp.os)
              clear p0 p1
              generalize grow (redrawn wr pp.d) pp.os = WZ at *
              go_wp2
              go_roundw
              case rel => exact ⟨q + 1, by go_num, hlq, thn HBQ.out HBZ.out⟩
              case measure => simp [intOf]; omega
            · have hv := hsame (by simpa using hid)
              obtain ⟨bd, hbd, hbx⟩ : ∃ bd, A6 = some bd ∧ Cell5 wr (bd.add (q * 5)) v := by
                have hlt2 := (List.getElem?_eq_some_iff.1 hv).1
                obtain ⟨bd, hbd, hbx⟩ := HSQ.out.rd.at_ hlt2
                rw [(List.getElem?_eq_some_iff.1 hv).2] at hbx
                exact ⟨bd, hbd, hbx⟩
              subst hbd
              obtain ⟨b0, b1, b2, b3, b4⟩ := hbx
              have hbb := cell_lt b0
              rw [add_block] at hbb
              have hq := run_neqV v
              have hgv := guardV
              clear hsame hv
              go_upto_region 17 with fail
              have p0 := cell_regrown x0
              have p1 := cell_regrown y0
              have p2 := cell_regrown t0
              have p3 := cell_regrown t1
              have p4 := cell_regrown t2
              have p5 := cell_regrown t3
              have p6 := cell_regrown t4
              have r0 := cell_regrown b0
              have r1 := cell_regrown b1
              have r2 := cell_regrown b2
              have r3 := cell_regrown b3
              have r4 := cell_regrown b4
              clear x0 x1 x2 y0 y1 y2 t0 t1 t2 t3 t4 b0 b1 b2 b3 b4
              refine wp_region_quiet_below (by kernel_rfl) (by kernel_rfl) ?_
              repeat (go_big_quiet_step (fail))
              refine wpQuiet_nil ?_
              intro w12 hw12
              obtain ⟨pp, rfl⟩ := hw12
              have HBZ := Lib.hid (below_regrown wr pp.d pp.os)
              clear p0 p1 p2 p3 p4 p5 p6 r0 r1 r2 r3 r4
              generalize grow (redrawn wr pp.d) pp.os = WZ at *
              go_wp2
              go_roundw
              case rel => exact ⟨q + 1, by go_num, hlq, thn HBQ.out HBZ.out⟩
              case measure => simp [intOf]; omega
          · have hql : ¬ (q : Int) < (s.l.length : Int) := by omega
            go_wp2_with (first | (go_at_call 13; (with_reducible refine (HCC.out _ _ _ _ HSQ.out.rd).mono ?_); rintro e w13 ⟨A13, n13, c13, rfl, hr13, hb⟩; have HB13 := Lib.hid (thn (thn HBA2.out hb) (below1 w13 (.cells #[.slice A13 n13 c13, .int .i64 zS.c, .int .i64 zS.n] 28))); have HS13 := Lib.hid (HSQ.out.below (thn hb (below1 w13 (.cells #[.slice A13 n13 c13, .int .i64 zS.c, .int .i64 zS.n] 28)))); have y0 := HS13.out.box.c0; have y1 := HS13.out.box.c1; have y2 := HS13.out.box.c2; clear hr13 hb) | (go_at_call 14; (with_reducible refine (HBB.out _ _ _ _ HS13.out.rd).mono ?_); rintro e w14 ⟨A14, n14, c14, rfl, hr14, hb⟩; have HB14 := Lib.hid (thn (thn HB13.out hb) (below1 w14 (.cells #[.slice A14 n14 c14, .int .i64 zS.c, .int .i64 zS.n] 28))); clear hr14 hb) | (go_at_call 10; (with_reducible refine (HN.out _ _).mono ?_); rintro e w9 ⟨rfl, rfl⟩))
            go_roundw
            case rel => exact ⟨2, by go_num, by omega, HB14.out⟩
            case measure => simp [intOf]
    · clear x0 x1 x2
      go_wp2_with fail
      go_ret
      exact ⟨rfl, thn HB9.out HBJ.out⟩
end Go.Proofs.Ytlcmpngjmmbkcaa
