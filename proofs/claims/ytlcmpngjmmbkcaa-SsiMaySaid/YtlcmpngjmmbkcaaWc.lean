/- SsiMay of the statements answers true for any state and any two numbers: the walk. Conditions: a state that is read in memory, within reach. -/
import Derived.Test.YtlcmpngjmmbkcaaWc0
import Derived.Test.YtlcmpngjmmbkcaaWa
namespace Go.Proofs.Ytlcmpngjmmbkcaa
open Go.RowKit Go.Sort Go.Maps
set_option linter.unusedSimpArgs false
set_option linter.unusedVariables false

set_option maxRecDepth 100000 in
set_option maxHeartbeats 4000000 in
theorem kMay_no (A : Option Addr) (n c : Nat) (s : St) (i v : Int) (w : World) (hr : Rd w A n c s.l) (hn : n * 32 ≤ 140737488355328) (h : (begR s).2.2 ≠ 0) :
    Calls Try.prog 3 #[.agg #[.slice A n c, .int .i64 s.c, .int .i64 s.n], .int .i64 i, .int .i64 v] w fun e w' => e = .returned (.bool true) ∧ Below w.heap.size w w' := by
  have HA := Lib.hid fun W => alive_any W
  have HO := Lib.hid fun W (hb : Below w.heap.size w W) => of_any A n c s W (hr.below hb) hn
  have HBG := Lib.hid fun A n c W (hr : Rd W A n c s.l) => begin_any A n c s W hr
  have HN := Lib.hid fun k W => num_any k W
  have HX := Lib.hid (Bx.new w (.slice A n c) (.int .i64 s.c) (.int .i64 s.n) 24)
  have HB0 := Lib.hid (below1 w (.cells #[.slice A n c, .int .i64 s.c, .int .i64 s.n] 24))
  obtain ⟨h1, h2⟩ := beg_no h
  clear hr
  generalize begR s = R at *
  obtain ⟨S, k, E⟩ := R
  simp only at HBG h h1 h2
  subst h1 h2
  have hE : (E != 0) = true := by simpa using h
  clear h
  go_enter Try.func3, Try.ntmps3
  go_upto_region 1 with fail
  generalize w.alloc (.cells #[.slice A n c, .int .i64 s.c, .int .i64 s.n] 24) = W0 at *
  go_upto_region 4 with (first | (go_at_call 7; (with_reducible refine (HA.out _).mono ?_); rintro e w1 ⟨rfl, hb⟩; have HB1 := Lib.hid (thn HB0.out hb); have HX1 := Lib.hid (HX.out.below hb); obtain ⟨x0, x1, x2, _, _, _⟩ := HX1.out; clear hb) | (go_at_call 9; (with_reducible refine (HO.out _ HB1.out).mono ?_); rintro e w2 ⟨A2, n2, c2, rfl, hr2, hb⟩; have HR2 := Lib.hid hr2; have HB2 := Lib.hid (thn HB1.out hb); have HX2 := Lib.hid (HX1.out.below hb); clear hr2 hb) | (go_at_call 8; (with_reducible refine (HBG.out _ _ _ _ HR2.out).mono ?_); rintro e w3 ⟨A3, n3, c3, rfl, hr3, hb⟩; have HB3 := Lib.hid (thn HB2.out hb); have HX3 := Lib.hid (HX2.out.below hb); have HR3 := Lib.hid hr3; clear hr3 hb))
  have hn3 : n3 = 0 := HR3.out.len.symm
  subst hn3
  have HB4 := Lib.hid (thn HB3.out (below1 w3 (.cells #[.slice A3 0 c3, .int .i64 zS.c, .int .i64 zS.n] 28)))
  have hs := cell_last w3 #[.slice A3 0 c3, .int .i64 zS.c, .int .i64 zS.n] 28 w3.heap.size 0 rfl
  have hl := cell_lt hs
  go_wp2_with (go_at_call 10; (with_reducible refine (HN.out _ _).mono ?_); rintro e w9 ⟨rfl, rfl⟩)
  go_ret
  exact ⟨rfl, HB4.out⟩
set_option maxRecDepth 100000 in
set_option maxHeartbeats 16000000 in
theorem kMay_yes (A : Option Addr) (n c : Nat) (s : St) (i v : Int) (w : World) (hr : Rd w A n c s.l) (hn : n * 32 ≤ 140737488355328) (h : (begR s).2.2 = 0) :
    Calls Try.prog 3 #[.agg #[.slice A n c, .int .i64 s.c, .int .i64 s.n], .int .i64 i, .int .i64 v] w fun e w' => e = .returned (.bool true) ∧ Below w.heap.size w w' := by
  have HA := Lib.hid fun W => alive_any W
  have HO := Lib.hid fun W (hb : Below w.heap.size w W) => of_any A n c s W (hr.below hb) hn
  have HBG := Lib.hid fun A n c W (hr : Rd W A n c s.l) => begin_any A n c s W hr
  have HN := Lib.hid fun k W => num_any k W
  have HX := Lib.hid (Bx.new w (.slice A n c) (.int .i64 s.c) (.int .i64 s.n) 24)
  have HB0 := Lib.hid (below1 w (.cells #[.slice A n c, .int .i64 s.c, .int .i64 s.n] 24))
  obtain ⟨hOk, hOk2, h1, h2, _⟩ := beg_ok h
  have HED := Lib.hid fun A n c W (hr : Rd W A n c (begR s).1.l) => edge_any A n c (begR s).1 i v W hr
  have HCO := Lib.hid fun A n c W (hr : Rd W A n c (begR s).1.l) => commit_any A n c (begR s).1 i W hr
  have HAB := Lib.hid fun A n c W (hr : Rd W A n c (begR s).1.l) => abort_any A n c (begR s).1 i W hr
  have HRE := Lib.hid fun A n c W (hr : Rd W A n c (begR s).1.l) => retire_any A n c (begR s).1 W hr
  have HCK := Lib.hid fun A n c S W (hr : Rd W A n c S.l) => check_any A n c S W hr
  have PED := Lib.hid fun (h : (edgR (begR s).1 i v).2.2 = 0) => chk_ok (edg_ok h).2.1
  have PCO := Lib.hid fun (h : (comR (begR s).1 i).2.2 = 0) => And.intro (chk_ok (com_ok h).2.1) (com_ok h).2.2.1
  have PAB := Lib.hid fun (h : (aboR (begR s).1 i).2 = 0) => chk_ok (abo_ok h).2.1
  have PRE := Lib.hid (And.intro (ret_ok hOk2).1 (chk_ok (ret_ok hOk2).2))
  have PBE := Lib.hid (chk_ok hOk2)
  have hlast : (begR s).1.l[s.l.length]? = some ⟨s.n, s.c, 0, false, false⟩ := by rw [h1]; simp
  have hlen : (begR s).1.l.length = s.l.length + 1 := by rw [h1]; simp
  have hc2 : (begR s).1.c = s.c := by rw [h1]
  have hc3 : s.c ≤ 1099511627776 := hOk.c1
  have hc4 : 0 ≤ s.c := hOk.c0
  have hn64 := hOk.len
  clear hr h1
  generalize begR s = R at *
  obtain ⟨S, k, E⟩ := R
  simp only at HBG h h2 HED HCO HAB HRE PED PCO PAB PRE PBE hlast hlen hc2 hOk2
  subst h h2
  rw [hc2] at PCO
  have HLA := Lib.hid hlast
  have HLE := Lib.hid hlen
  clear hlast hlen hOk hOk2 hc2
  generalize edgR S i v = R1 at *
  generalize comR S i = R2 at *
  generalize aboR S i = R3 at *
  generalize retR S = R4 at *
  obtain ⟨S1, G1, E1⟩ := R1
  obtain ⟨S2, k2, E2⟩ := R2
  obtain ⟨S3, E3⟩ := R3
  obtain ⟨S4, G4, E4⟩ := R4
  simp only at HED HCO HAB HRE PED PCO PAB PRE PBE
  obtain ⟨h4, hck4⟩ := PRE.out
  subst h4
  have PR4 := Lib.hid hck4
  clear PRE hck4
  go_enter Try.func3, Try.ntmps3
  go_upto_region 1 with fail
  generalize w.alloc (.cells #[.slice A n c, .int .i64 s.c, .int .i64 s.n] 24) = W0 at *
  go_upto_region 4 with (first | (go_at_call 7; (with_reducible refine (HA.out _).mono ?_); rintro e w1 ⟨rfl, hb⟩; have HB1 := Lib.hid (thn HB0.out hb); have HX1 := Lib.hid (HX.out.below hb); obtain ⟨x0, x1, x2, _, _, _⟩ := HX1.out; clear hb) | (go_at_call 9; (with_reducible refine (HO.out _ HB1.out).mono ?_); rintro e w2 ⟨A2, n2, c2, rfl, hr2, hb⟩; have HR2 := Lib.hid hr2; have HB2 := Lib.hid (thn HB1.out hb); have HX2 := Lib.hid (HX1.out.below hb); clear hr2 hb) | (go_at_call 8; (with_reducible refine (HBG.out _ _ _ _ HR2.out).mono ?_); rintro e w3 ⟨A3, n3, c3, rfl, hr3, hb⟩; have HB3 := Lib.hid (thn HB2.out hb); have HX3 := Lib.hid (HX2.out.below hb); have HR3 := Lib.hid hr3; clear hr3 hb))
  have hn3 : n3 = s.l.length + 1 := HR3.out.len.symm.trans HLE.out
  subst hn3
  have hb4 := below1 w3 (.cells #[.slice A3 (s.l.length + 1) c3, .int .i64 S.c, .int .i64 S.n] 28)
  have HB4 := Lib.hid (thn HB3.out hb4)
  have HX4 := Lib.hid (HX3.out.below hb4)
  have HS4 := Lib.hid (SB.new w3 (s := S) HR3.out)
  clear HX HX1 HX2 HX3 HB0 HB1 HB2 HB3 HR2 HR3 x0 x1 x2 hb4 HO HBG HA
  generalize w3.alloc (.cells #[.slice A3 (s.l.length + 1) c3, .int .i64 S.c, .int .i64 S.n] 28) = W4 at *
  generalize w3.heap.size = g at *
  obtain ⟨ad, hA3, hc5⟩ : ∃ ad, A3 = some ad ∧ Cell5 W4 (ad.add (s.l.length * 5)) ⟨s.n, s.c, 0, false, false⟩ := by
    have hlt2 := (List.getElem?_eq_some_iff.1 HLA.out).1
    obtain ⟨bd, hbd, hbx⟩ := HS4.out.rd.at_ hlt2
    rw [(List.getElem?_eq_some_iff.1 HLA.out).2] at hbx
    exact ⟨bd, hbd, hbx⟩
  subst hA3
  obtain ⟨t0, t1, t2, t3, t4⟩ := hc5
  have hbt := cell_lt t0
  rw [add_block] at hbt
  obtain ⟨x0, x1, x2, _, _, _⟩ := HX4.out
  obtain ⟨y0, y1, y2, _, _, _⟩ := HS4.out.box
  have hlx := cell_lt x0
  have hly := cell_lt y0
  have hw1 : IntKind.i64.wrap ((s.l.length : Int) + 1 - 1) = (s.l.length : Int) := by rw [IntWalk.i64_in _ (by omega)]; omega
  go_upto_region 9 with (go_at_call 10; (with_reducible refine (HN.out _ _).mono ?_); rintro e w9 ⟨rfl, rfl⟩)
  have hb5 := below1 W4 (.cells #[.int .i64 s.n, .int .i64 s.c, .int .i64 0, .bool false, .bool false] 35)
  have HB5 := Lib.hid (thn HB4.out hb5)
  have HX5 := Lib.hid (HX4.out.below hb5)
  have HS5 := Lib.hid (HS4.out.below hb5)
  have HZ5 := Lib.hid (B5.new W4 ⟨s.n, s.c, 0, false, false⟩ 35)
  have HZ5' : Hid (B5 (W4.alloc (.cells #[.int .i64 s.n, .int .i64 s.c, .int .i64 0, .bool false, .bool false] 35)) W4.heap.size ⟨s.n, s.c, 0, false, false⟩) := Lib.hid HZ5.out
  clear HX4 HS4 HB4 hb5 HZ5 x0 x1 x2 y0 y1 y2 t0 t1 t2 t3 t4 hbt hlx hly hw1
  generalize W4.alloc (.cells #[.int .i64 s.n, .int .i64 s.c, .int .i64 0, .bool false, .bool false] 35) = W5 at *
  generalize W4.heap.size = gt at *
  have z0 : W5.cell? ⟨gt, 0, none⟩ = some (.int .i64 s.n) := HZ5'.out.c0
  have z1 : W5.cell? ⟨gt, 1, none⟩ = some (.int .i64 s.c) := HZ5'.out.c1
  have z2 : W5.cell? ⟨gt, 2, none⟩ = some (.int .i64 0) := HZ5'.out.c2
  have z3 : W5.cell? ⟨gt, 3, none⟩ = some (.bool false) := HZ5'.out.c3
  have z4 : W5.cell? ⟨gt, 4, none⟩ = some (.bool false) := HZ5'.out.c4
  obtain ⟨x0, x1, x2, _, _, _⟩ := HX5.out
  obtain ⟨y0, y1, y2, _, _, _⟩ := HS5.out.box
  have HCS := Lib.hid fun W (hb : Below W5.heap.size W5 W) => HCK.out _ _ _ S W (HS5.out.rd.below hb)
  rw [PBE.out] at HCS
  go_upto_region 11 with (first | (go_at_call 11; (with_reducible refine (HCS.out _ (Below.refl _ _)).mono ?_); rintro e w6 ⟨rfl, hb⟩; have HB6 := Lib.hid (thn HB5.out hb); have HX6 := Lib.hid (HX5.out.below hb); have HS6 := Lib.hid (HS5.out.below hb); clear hb) | (go_at_call 10; (with_reducible refine (HN.out _ _).mono ?_); rintro e w9 ⟨rfl, rfl⟩))
  clear x0 x1 x2 y0 y1 y2 z0 z1 z2 z3 z4 HCS HB5 HX5 HS5 HZ5'
  obtain ⟨y0, y1, y2, _, _, _⟩ := HS6.out.box
  go_upto_region 12 with (go_at_call 12; (with_reducible refine (HED.out _ _ _ _ HS6.out.rd).mono ?_); rintro e w7 ⟨A7, n7, c7, B7, m7, d7, rfl, hr, _, hb⟩; have HB7 := Lib.hid (thn HB6.out hb); have HX7 := Lib.hid (HX6.out.below hb); have HS7 := Lib.hid (HS6.out.below hb); have HR7 := Lib.hid hr; clear hr hb)
  have hbb := below1 w7 (.cells #[.slice A7 n7 c7, .int .i64 S1.c, .int .i64 S1.n] 28)
  have HB8 := Lib.hid (thn HB7.out hbb)
  have HX8 := Lib.hid (HX7.out.below hbb)
  have HS8 := Lib.hid (HS7.out.below hbb)
  have PS1_8 := Lib.hid (SB.new w7 (s := S1) HR7.out)
  clear hbb   HB7 HX7 HS7 HR7 y0 y1 y2
  generalize w7.alloc (.cells #[.slice A7 n7 c7, .int .i64 S1.c, .int .i64 S1.n] 28) = W8 at *
  generalize w7.heap.size = g8 at *
  clear HS6 HB6 HX6
  obtain ⟨y0, y1, y2, _, _, _⟩ := HS8.out.box
  go_upto_region 13 with (go_at_call 13; (with_reducible refine (HCO.out _ _ _ _ HS8.out.rd).mono ?_); rintro e w9 ⟨A9, n9, c9, rfl, hr, hb⟩; have HB9 := Lib.hid (thn HB8.out hb); have HX9 := Lib.hid (HX8.out.below hb); have HS9 := Lib.hid (HS8.out.below hb); have PS1_9 := Lib.hid (PS1_8.out.below hb); have HR9 := Lib.hid hr; clear hr hb)
  have hbb := below1 w9 (.cells #[.slice A9 n9 c9, .int .i64 S2.c, .int .i64 S2.n] 28)
  have HB10 := Lib.hid (thn HB9.out hbb)
  have HX10 := Lib.hid (HX9.out.below hbb)
  have HS10 := Lib.hid (HS9.out.below hbb)
  have PS1_10 := Lib.hid (PS1_9.out.below hbb)
  have PS2_10 := Lib.hid (SB.new w9 (s := S2) HR9.out)
  clear hbb PS1_9  HB9 HX9 HS9 HR9 y0 y1 y2
  generalize w9.alloc (.cells #[.slice A9 n9 c9, .int .i64 S2.c, .int .i64 S2.n] 28) = W10 at *
  generalize w9.heap.size = g10 at *
  clear PS1_8 HS8 HB8 HX8
  obtain ⟨y0, y1, y2, _, _, _⟩ := HS10.out.box
  go_upto_region 14 with (go_at_call 14; (with_reducible refine (HAB.out _ _ _ _ HS10.out.rd).mono ?_); rintro e w11 ⟨A11, n11, c11, rfl, hr, hb⟩; have HB11 := Lib.hid (thn HB10.out hb); have HX11 := Lib.hid (HX10.out.below hb); have HS11 := Lib.hid (HS10.out.below hb); have PS1_11 := Lib.hid (PS1_10.out.below hb); have PS2_11 := Lib.hid (PS2_10.out.below hb); have HR11 := Lib.hid hr; clear hr hb)
  have hbb := below1 w11 (.cells #[.slice A11 n11 c11, .int .i64 S3.c, .int .i64 S3.n] 28)
  have HB12 := Lib.hid (thn HB11.out hbb)
  have HX12 := Lib.hid (HX11.out.below hbb)
  have HS12 := Lib.hid (HS11.out.below hbb)
  have PS1_12 := Lib.hid (PS1_11.out.below hbb)
  have PS2_12 := Lib.hid (PS2_11.out.below hbb)
  have PS3_12 := Lib.hid (SB.new w11 (s := S3) HR11.out)
  clear hbb PS1_11 PS2_11  HB11 HX11 HS11 HR11 y0 y1 y2
  generalize w11.alloc (.cells #[.slice A11 n11 c11, .int .i64 S3.c, .int .i64 S3.n] 28) = W12 at *
  generalize w11.heap.size = g12 at *
  clear PS1_10 PS2_10 HS10 HB10 HX10
  obtain ⟨y0, y1, y2, _, _, _⟩ := HS12.out.box
  go_upto_region 15 with (go_at_call 15; (with_reducible refine (HRE.out _ _ _ _ HS12.out.rd).mono ?_); rintro e w13 ⟨A13, n13, c13, B13, m13, d13, rfl, hr, _, hb⟩; have HB13 := Lib.hid (thn HB12.out hb); have HX13 := Lib.hid (HX12.out.below hb); have HS13 := Lib.hid (HS12.out.below hb); have PS1_13 := Lib.hid (PS1_12.out.below hb); have PS2_13 := Lib.hid (PS2_12.out.below hb); have PS3_13 := Lib.hid (PS3_12.out.below hb); have HR13 := Lib.hid hr; clear hr hb)
  have hbb := below1 w13 (.cells #[.slice A13 n13 c13, .int .i64 S4.c, .int .i64 S4.n] 28)
  have HB14 := Lib.hid (thn HB13.out hbb)
  have HX14 := Lib.hid (HX13.out.below hbb)
  have HS14 := Lib.hid (HS13.out.below hbb)
  have PS1_14 := Lib.hid (PS1_13.out.below hbb)
  have PS2_14 := Lib.hid (PS2_13.out.below hbb)
  have PS3_14 := Lib.hid (PS3_13.out.below hbb)
  have PS4_14 := Lib.hid (SB.new w13 (s := S4) HR13.out)
  clear hbb PS1_13 PS2_13 PS3_13  HB13 HX13 HS13 HR13 y0 y1 y2
  generalize w13.alloc (.cells #[.slice A13 n13 c13, .int .i64 S4.c, .int .i64 S4.n] 28) = W14 at *
  generalize w13.heap.size = g14 at *
  clear PS1_12 PS2_12 PS3_12 HS12 HB12 HX12
  have HC1 := Lib.hid fun A n c W hr => HCK.out A n c S1 W hr
  have HC2 := Lib.hid fun A n c W hr => HCK.out A n c S2 W hr
  have HC3 := Lib.hid fun A n c W hr => HCK.out A n c S3 W hr
  have HC4 := Lib.hid fun A n c W hr => HCK.out A n c S4 W hr
  rw [PR4.out] at HC4
  clear HCK HED HCO HAB HRE
  by_cases hz : E1 = 0
  · subst hz
    have hck := PED.out rfl
    rw [hck] at HC1
    clear hck
    by_cases hz : E2 = 0
    · subst hz
      have hck := PCO.out rfl
      obtain ⟨hck, hk2⟩ := hck
      have hk3 : (k2 == s.c + 1) = true := by simpa using hk2
      clear hk2
      rw [hck] at HC2
      clear hck
      by_cases hz : E3 = 0
      · subst hz
        have hck := PAB.out rfl
        rw [hck] at HC3
        clear hck
        have y10 := PS1_14.out.box.c0
        have y11 := PS1_14.out.box.c1
        have y12 := PS1_14.out.box.c2
        have y20 := PS2_14.out.box.c0
        have y21 := PS2_14.out.box.c1
        have y22 := PS2_14.out.box.c2
        have y30 := PS3_14.out.box.c0
        have y31 := PS3_14.out.box.c1
        have y32 := PS3_14.out.box.c2
        have y40 := PS4_14.out.box.c0
        have y41 := PS4_14.out.box.c1
        have y42 := PS4_14.out.box.c2
        have x1 := HX14.out.c1
        go_wp2_with (first | (go_at_call 11; (with_reducible refine (HC1.out _ _ _ _ PS1_14.out.rd).mono ?_); rintro e w15 ⟨rfl, hb⟩; have HB15 := Lib.hid (thn HB14.out hb); have HX15 := Lib.hid (HX14.out.below hb); have PS1_15 := Lib.hid (PS1_14.out.below hb); have PS2_15 := Lib.hid (PS2_14.out.below hb); have PS3_15 := Lib.hid (PS3_14.out.below hb); have PS4_15 := Lib.hid (PS4_14.out.below hb); clear hb; clear y10 y11 y12 y20 y21 y22 y30 y31 y32 y40 y41 y42 x1; have y10 := PS1_15.out.box.c0; have y11 := PS1_15.out.box.c1; have y12 := PS1_15.out.box.c2; have y20 := PS2_15.out.box.c0; have y21 := PS2_15.out.box.c1; have y22 := PS2_15.out.box.c2; have y30 := PS3_15.out.box.c0; have y31 := PS3_15.out.box.c1; have y32 := PS3_15.out.box.c2; have y40 := PS4_15.out.box.c0; have y41 := PS4_15.out.box.c1; have y42 := PS4_15.out.box.c2; have x1 := HX15.out.c1; skip) | (go_at_call 11; (with_reducible refine (HC2.out _ _ _ _ PS2_15.out.rd).mono ?_); rintro e w16 ⟨rfl, hb⟩; have HB16 := Lib.hid (thn HB15.out hb); have HX16 := Lib.hid (HX15.out.below hb); have PS1_16 := Lib.hid (PS1_15.out.below hb); have PS2_16 := Lib.hid (PS2_15.out.below hb); have PS3_16 := Lib.hid (PS3_15.out.below hb); have PS4_16 := Lib.hid (PS4_15.out.below hb); clear hb; clear y10 y11 y12 y20 y21 y22 y30 y31 y32 y40 y41 y42 x1; have y10 := PS1_16.out.box.c0; have y11 := PS1_16.out.box.c1; have y12 := PS1_16.out.box.c2; have y20 := PS2_16.out.box.c0; have y21 := PS2_16.out.box.c1; have y22 := PS2_16.out.box.c2; have y30 := PS3_16.out.box.c0; have y31 := PS3_16.out.box.c1; have y32 := PS3_16.out.box.c2; have y40 := PS4_16.out.box.c0; have y41 := PS4_16.out.box.c1; have y42 := PS4_16.out.box.c2; have x1 := HX16.out.c1; skip) | (go_at_call 11; (with_reducible refine (HC3.out _ _ _ _ PS3_16.out.rd).mono ?_); rintro e w17 ⟨rfl, hb⟩; have HB17 := Lib.hid (thn HB16.out hb); have HX17 := Lib.hid (HX16.out.below hb); have PS1_17 := Lib.hid (PS1_16.out.below hb); have PS2_17 := Lib.hid (PS2_16.out.below hb); have PS3_17 := Lib.hid (PS3_16.out.below hb); have PS4_17 := Lib.hid (PS4_16.out.below hb); clear hb; clear y10 y11 y12 y20 y21 y22 y30 y31 y32 y40 y41 y42 x1; have y10 := PS1_17.out.box.c0; have y11 := PS1_17.out.box.c1; have y12 := PS1_17.out.box.c2; have y20 := PS2_17.out.box.c0; have y21 := PS2_17.out.box.c1; have y22 := PS2_17.out.box.c2; have y30 := PS3_17.out.box.c0; have y31 := PS3_17.out.box.c1; have y32 := PS3_17.out.box.c2; have y40 := PS4_17.out.box.c0; have y41 := PS4_17.out.box.c1; have y42 := PS4_17.out.box.c2; have x1 := HX17.out.c1; skip) | (go_at_call 11; (with_reducible refine (HC4.out _ _ _ _ PS4_17.out.rd).mono ?_); rintro e w18 ⟨rfl, hb⟩; have HB18 := Lib.hid (thn HB17.out hb); have HX18 := Lib.hid (HX17.out.below hb); have PS1_18 := Lib.hid (PS1_17.out.below hb); have PS2_18 := Lib.hid (PS2_17.out.below hb); have PS3_18 := Lib.hid (PS3_17.out.below hb); have PS4_18 := Lib.hid (PS4_17.out.below hb); clear hb; clear y10 y11 y12 y20 y21 y22 y30 y31 y32 y40 y41 y42 x1; have y10 := PS1_18.out.box.c0; have y11 := PS1_18.out.box.c1; have y12 := PS1_18.out.box.c2; have y20 := PS2_18.out.box.c0; have y21 := PS2_18.out.box.c1; have y22 := PS2_18.out.box.c2; have y30 := PS3_18.out.box.c0; have y31 := PS3_18.out.box.c1; have y32 := PS3_18.out.box.c2; have y40 := PS4_18.out.box.c0; have y41 := PS4_18.out.box.c1; have y42 := PS4_18.out.box.c2; have x1 := HX18.out.c1; skip) | (go_at_call 10; (with_reducible refine (HN.out _ _).mono ?_); rintro e w9 ⟨rfl, rfl⟩))
        all_goals go_ret
        all_goals exact ⟨ret_bool (by simp [*]), HB18.out⟩
      · have hz2 : (E3 != 0) = true := by simpa using hz
        clear hz
        have y10 := PS1_14.out.box.c0
        have y11 := PS1_14.out.box.c1
        have y12 := PS1_14.out.box.c2
        have y20 := PS2_14.out.box.c0
        have y21 := PS2_14.out.box.c1
        have y22 := PS2_14.out.box.c2
        have y30 := PS3_14.out.box.c0
        have y31 := PS3_14.out.box.c1
        have y32 := PS3_14.out.box.c2
        have y40 := PS4_14.out.box.c0
        have y41 := PS4_14.out.box.c1
        have y42 := PS4_14.out.box.c2
        have x1 := HX14.out.c1
        go_wp2_with (first | (go_at_call 11; (with_reducible refine (HC1.out _ _ _ _ PS1_14.out.rd).mono ?_); rintro e w15 ⟨rfl, hb⟩; have HB15 := Lib.hid (thn HB14.out hb); have HX15 := Lib.hid (HX14.out.below hb); have PS1_15 := Lib.hid (PS1_14.out.below hb); have PS2_15 := Lib.hid (PS2_14.out.below hb); have PS3_15 := Lib.hid (PS3_14.out.below hb); have PS4_15 := Lib.hid (PS4_14.out.below hb); clear hb; clear y10 y11 y12 y20 y21 y22 y30 y31 y32 y40 y41 y42 x1; have y10 := PS1_15.out.box.c0; have y11 := PS1_15.out.box.c1; have y12 := PS1_15.out.box.c2; have y20 := PS2_15.out.box.c0; have y21 := PS2_15.out.box.c1; have y22 := PS2_15.out.box.c2; have y30 := PS3_15.out.box.c0; have y31 := PS3_15.out.box.c1; have y32 := PS3_15.out.box.c2; have y40 := PS4_15.out.box.c0; have y41 := PS4_15.out.box.c1; have y42 := PS4_15.out.box.c2; have x1 := HX15.out.c1; skip) | (go_at_call 11; (with_reducible refine (HC2.out _ _ _ _ PS2_15.out.rd).mono ?_); rintro e w16 ⟨rfl, hb⟩; have HB16 := Lib.hid (thn HB15.out hb); have HX16 := Lib.hid (HX15.out.below hb); have PS1_16 := Lib.hid (PS1_15.out.below hb); have PS2_16 := Lib.hid (PS2_15.out.below hb); have PS3_16 := Lib.hid (PS3_15.out.below hb); have PS4_16 := Lib.hid (PS4_15.out.below hb); clear hb; clear y10 y11 y12 y20 y21 y22 y30 y31 y32 y40 y41 y42 x1; have y10 := PS1_16.out.box.c0; have y11 := PS1_16.out.box.c1; have y12 := PS1_16.out.box.c2; have y20 := PS2_16.out.box.c0; have y21 := PS2_16.out.box.c1; have y22 := PS2_16.out.box.c2; have y30 := PS3_16.out.box.c0; have y31 := PS3_16.out.box.c1; have y32 := PS3_16.out.box.c2; have y40 := PS4_16.out.box.c0; have y41 := PS4_16.out.box.c1; have y42 := PS4_16.out.box.c2; have x1 := HX16.out.c1; skip) | (go_at_call 11; (with_reducible refine (HC4.out _ _ _ _ PS4_16.out.rd).mono ?_); rintro e w17 ⟨rfl, hb⟩; have HB17 := Lib.hid (thn HB16.out hb); have HX17 := Lib.hid (HX16.out.below hb); have PS1_17 := Lib.hid (PS1_16.out.below hb); have PS2_17 := Lib.hid (PS2_16.out.below hb); have PS3_17 := Lib.hid (PS3_16.out.below hb); have PS4_17 := Lib.hid (PS4_16.out.below hb); clear hb; clear y10 y11 y12 y20 y21 y22 y30 y31 y32 y40 y41 y42 x1; have y10 := PS1_17.out.box.c0; have y11 := PS1_17.out.box.c1; have y12 := PS1_17.out.box.c2; have y20 := PS2_17.out.box.c0; have y21 := PS2_17.out.box.c1; have y22 := PS2_17.out.box.c2; have y30 := PS3_17.out.box.c0; have y31 := PS3_17.out.box.c1; have y32 := PS3_17.out.box.c2; have y40 := PS4_17.out.box.c0; have y41 := PS4_17.out.box.c1; have y42 := PS4_17.out.box.c2; have x1 := HX17.out.c1; skip) | (go_at_call 10; (with_reducible refine (HN.out _ _).mono ?_); rintro e w9 ⟨rfl, rfl⟩))
        all_goals go_ret
        all_goals exact ⟨ret_bool (by simp [*]), HB17.out⟩
    · have hz1 : (E2 != 0) = true := by simpa using hz
      clear hz
      by_cases hz : E3 = 0
      · subst hz
        have hck := PAB.out rfl
        rw [hck] at HC3
        clear hck
        have y10 := PS1_14.out.box.c0
        have y11 := PS1_14.out.box.c1
        have y12 := PS1_14.out.box.c2
        have y20 := PS2_14.out.box.c0
        have y21 := PS2_14.out.box.c1
        have y22 := PS2_14.out.box.c2
        have y30 := PS3_14.out.box.c0
        have y31 := PS3_14.out.box.c1
        have y32 := PS3_14.out.box.c2
        have y40 := PS4_14.out.box.c0
        have y41 := PS4_14.out.box.c1
        have y42 := PS4_14.out.box.c2
        have x1 := HX14.out.c1
        go_wp2_with (first | (go_at_call 11; (with_reducible refine (HC1.out _ _ _ _ PS1_14.out.rd).mono ?_); rintro e w15 ⟨rfl, hb⟩; have HB15 := Lib.hid (thn HB14.out hb); have HX15 := Lib.hid (HX14.out.below hb); have PS1_15 := Lib.hid (PS1_14.out.below hb); have PS2_15 := Lib.hid (PS2_14.out.below hb); have PS3_15 := Lib.hid (PS3_14.out.below hb); have PS4_15 := Lib.hid (PS4_14.out.below hb); clear hb; clear y10 y11 y12 y20 y21 y22 y30 y31 y32 y40 y41 y42 x1; have y10 := PS1_15.out.box.c0; have y11 := PS1_15.out.box.c1; have y12 := PS1_15.out.box.c2; have y20 := PS2_15.out.box.c0; have y21 := PS2_15.out.box.c1; have y22 := PS2_15.out.box.c2; have y30 := PS3_15.out.box.c0; have y31 := PS3_15.out.box.c1; have y32 := PS3_15.out.box.c2; have y40 := PS4_15.out.box.c0; have y41 := PS4_15.out.box.c1; have y42 := PS4_15.out.box.c2; have x1 := HX15.out.c1; skip) | (go_at_call 11; (with_reducible refine (HC3.out _ _ _ _ PS3_15.out.rd).mono ?_); rintro e w16 ⟨rfl, hb⟩; have HB16 := Lib.hid (thn HB15.out hb); have HX16 := Lib.hid (HX15.out.below hb); have PS1_16 := Lib.hid (PS1_15.out.below hb); have PS2_16 := Lib.hid (PS2_15.out.below hb); have PS3_16 := Lib.hid (PS3_15.out.below hb); have PS4_16 := Lib.hid (PS4_15.out.below hb); clear hb; clear y10 y11 y12 y20 y21 y22 y30 y31 y32 y40 y41 y42 x1; have y10 := PS1_16.out.box.c0; have y11 := PS1_16.out.box.c1; have y12 := PS1_16.out.box.c2; have y20 := PS2_16.out.box.c0; have y21 := PS2_16.out.box.c1; have y22 := PS2_16.out.box.c2; have y30 := PS3_16.out.box.c0; have y31 := PS3_16.out.box.c1; have y32 := PS3_16.out.box.c2; have y40 := PS4_16.out.box.c0; have y41 := PS4_16.out.box.c1; have y42 := PS4_16.out.box.c2; have x1 := HX16.out.c1; skip) | (go_at_call 11; (with_reducible refine (HC4.out _ _ _ _ PS4_16.out.rd).mono ?_); rintro e w17 ⟨rfl, hb⟩; have HB17 := Lib.hid (thn HB16.out hb); have HX17 := Lib.hid (HX16.out.below hb); have PS1_17 := Lib.hid (PS1_16.out.below hb); have PS2_17 := Lib.hid (PS2_16.out.below hb); have PS3_17 := Lib.hid (PS3_16.out.below hb); have PS4_17 := Lib.hid (PS4_16.out.below hb); clear hb; clear y10 y11 y12 y20 y21 y22 y30 y31 y32 y40 y41 y42 x1; have y10 := PS1_17.out.box.c0; have y11 := PS1_17.out.box.c1; have y12 := PS1_17.out.box.c2; have y20 := PS2_17.out.box.c0; have y21 := PS2_17.out.box.c1; have y22 := PS2_17.out.box.c2; have y30 := PS3_17.out.box.c0; have y31 := PS3_17.out.box.c1; have y32 := PS3_17.out.box.c2; have y40 := PS4_17.out.box.c0; have y41 := PS4_17.out.box.c1; have y42 := PS4_17.out.box.c2; have x1 := HX17.out.c1; skip) | (go_at_call 10; (with_reducible refine (HN.out _ _).mono ?_); rintro e w9 ⟨rfl, rfl⟩))
        all_goals go_ret
        all_goals exact ⟨ret_bool (by simp [*]), HB17.out⟩
      · have hz2 : (E3 != 0) = true := by simpa using hz
        clear hz
        have y10 := PS1_14.out.box.c0
        have y11 := PS1_14.out.box.c1
        have y12 := PS1_14.out.box.c2
        have y20 := PS2_14.out.box.c0
        have y21 := PS2_14.out.box.c1
        have y22 := PS2_14.out.box.c2
        have y30 := PS3_14.out.box.c0
        have y31 := PS3_14.out.box.c1
        have y32 := PS3_14.out.box.c2
        have y40 := PS4_14.out.box.c0
        have y41 := PS4_14.out.box.c1
        have y42 := PS4_14.out.box.c2
        have x1 := HX14.out.c1
        go_wp2_with (first | (go_at_call 11; (with_reducible refine (HC1.out _ _ _ _ PS1_14.out.rd).mono ?_); rintro e w15 ⟨rfl, hb⟩; have HB15 := Lib.hid (thn HB14.out hb); have HX15 := Lib.hid (HX14.out.below hb); have PS1_15 := Lib.hid (PS1_14.out.below hb); have PS2_15 := Lib.hid (PS2_14.out.below hb); have PS3_15 := Lib.hid (PS3_14.out.below hb); have PS4_15 := Lib.hid (PS4_14.out.below hb); clear hb; clear y10 y11 y12 y20 y21 y22 y30 y31 y32 y40 y41 y42 x1; have y10 := PS1_15.out.box.c0; have y11 := PS1_15.out.box.c1; have y12 := PS1_15.out.box.c2; have y20 := PS2_15.out.box.c0; have y21 := PS2_15.out.box.c1; have y22 := PS2_15.out.box.c2; have y30 := PS3_15.out.box.c0; have y31 := PS3_15.out.box.c1; have y32 := PS3_15.out.box.c2; have y40 := PS4_15.out.box.c0; have y41 := PS4_15.out.box.c1; have y42 := PS4_15.out.box.c2; have x1 := HX15.out.c1; skip) | (go_at_call 11; (with_reducible refine (HC4.out _ _ _ _ PS4_15.out.rd).mono ?_); rintro e w16 ⟨rfl, hb⟩; have HB16 := Lib.hid (thn HB15.out hb); have HX16 := Lib.hid (HX15.out.below hb); have PS1_16 := Lib.hid (PS1_15.out.below hb); have PS2_16 := Lib.hid (PS2_15.out.below hb); have PS3_16 := Lib.hid (PS3_15.out.below hb); have PS4_16 := Lib.hid (PS4_15.out.below hb); clear hb; clear y10 y11 y12 y20 y21 y22 y30 y31 y32 y40 y41 y42 x1; have y10 := PS1_16.out.box.c0; have y11 := PS1_16.out.box.c1; have y12 := PS1_16.out.box.c2; have y20 := PS2_16.out.box.c0; have y21 := PS2_16.out.box.c1; have y22 := PS2_16.out.box.c2; have y30 := PS3_16.out.box.c0; have y31 := PS3_16.out.box.c1; have y32 := PS3_16.out.box.c2; have y40 := PS4_16.out.box.c0; have y41 := PS4_16.out.box.c1; have y42 := PS4_16.out.box.c2; have x1 := HX16.out.c1; skip) | (go_at_call 10; (with_reducible refine (HN.out _ _).mono ?_); rintro e w9 ⟨rfl, rfl⟩))
        all_goals go_ret
        all_goals exact ⟨ret_bool (by simp [*]), HB16.out⟩
  · have hz0 : (E1 != 0) = true := by simpa using hz
    clear hz
    by_cases hz : E2 = 0
    · subst hz
      have hck := PCO.out rfl
      obtain ⟨hck, hk2⟩ := hck
      have hk3 : (k2 == s.c + 1) = true := by simpa using hk2
      clear hk2
      rw [hck] at HC2
      clear hck
      by_cases hz : E3 = 0
      · subst hz
        have hck := PAB.out rfl
        rw [hck] at HC3
        clear hck
        have y10 := PS1_14.out.box.c0
        have y11 := PS1_14.out.box.c1
        have y12 := PS1_14.out.box.c2
        have y20 := PS2_14.out.box.c0
        have y21 := PS2_14.out.box.c1
        have y22 := PS2_14.out.box.c2
        have y30 := PS3_14.out.box.c0
        have y31 := PS3_14.out.box.c1
        have y32 := PS3_14.out.box.c2
        have y40 := PS4_14.out.box.c0
        have y41 := PS4_14.out.box.c1
        have y42 := PS4_14.out.box.c2
        have x1 := HX14.out.c1
        go_wp2_with (first | (go_at_call 11; (with_reducible refine (HC2.out _ _ _ _ PS2_14.out.rd).mono ?_); rintro e w15 ⟨rfl, hb⟩; have HB15 := Lib.hid (thn HB14.out hb); have HX15 := Lib.hid (HX14.out.below hb); have PS1_15 := Lib.hid (PS1_14.out.below hb); have PS2_15 := Lib.hid (PS2_14.out.below hb); have PS3_15 := Lib.hid (PS3_14.out.below hb); have PS4_15 := Lib.hid (PS4_14.out.below hb); clear hb; clear y10 y11 y12 y20 y21 y22 y30 y31 y32 y40 y41 y42 x1; have y10 := PS1_15.out.box.c0; have y11 := PS1_15.out.box.c1; have y12 := PS1_15.out.box.c2; have y20 := PS2_15.out.box.c0; have y21 := PS2_15.out.box.c1; have y22 := PS2_15.out.box.c2; have y30 := PS3_15.out.box.c0; have y31 := PS3_15.out.box.c1; have y32 := PS3_15.out.box.c2; have y40 := PS4_15.out.box.c0; have y41 := PS4_15.out.box.c1; have y42 := PS4_15.out.box.c2; have x1 := HX15.out.c1; skip) | (go_at_call 11; (with_reducible refine (HC3.out _ _ _ _ PS3_15.out.rd).mono ?_); rintro e w16 ⟨rfl, hb⟩; have HB16 := Lib.hid (thn HB15.out hb); have HX16 := Lib.hid (HX15.out.below hb); have PS1_16 := Lib.hid (PS1_15.out.below hb); have PS2_16 := Lib.hid (PS2_15.out.below hb); have PS3_16 := Lib.hid (PS3_15.out.below hb); have PS4_16 := Lib.hid (PS4_15.out.below hb); clear hb; clear y10 y11 y12 y20 y21 y22 y30 y31 y32 y40 y41 y42 x1; have y10 := PS1_16.out.box.c0; have y11 := PS1_16.out.box.c1; have y12 := PS1_16.out.box.c2; have y20 := PS2_16.out.box.c0; have y21 := PS2_16.out.box.c1; have y22 := PS2_16.out.box.c2; have y30 := PS3_16.out.box.c0; have y31 := PS3_16.out.box.c1; have y32 := PS3_16.out.box.c2; have y40 := PS4_16.out.box.c0; have y41 := PS4_16.out.box.c1; have y42 := PS4_16.out.box.c2; have x1 := HX16.out.c1; skip) | (go_at_call 11; (with_reducible refine (HC4.out _ _ _ _ PS4_16.out.rd).mono ?_); rintro e w17 ⟨rfl, hb⟩; have HB17 := Lib.hid (thn HB16.out hb); have HX17 := Lib.hid (HX16.out.below hb); have PS1_17 := Lib.hid (PS1_16.out.below hb); have PS2_17 := Lib.hid (PS2_16.out.below hb); have PS3_17 := Lib.hid (PS3_16.out.below hb); have PS4_17 := Lib.hid (PS4_16.out.below hb); clear hb; clear y10 y11 y12 y20 y21 y22 y30 y31 y32 y40 y41 y42 x1; have y10 := PS1_17.out.box.c0; have y11 := PS1_17.out.box.c1; have y12 := PS1_17.out.box.c2; have y20 := PS2_17.out.box.c0; have y21 := PS2_17.out.box.c1; have y22 := PS2_17.out.box.c2; have y30 := PS3_17.out.box.c0; have y31 := PS3_17.out.box.c1; have y32 := PS3_17.out.box.c2; have y40 := PS4_17.out.box.c0; have y41 := PS4_17.out.box.c1; have y42 := PS4_17.out.box.c2; have x1 := HX17.out.c1; skip) | (go_at_call 10; (with_reducible refine (HN.out _ _).mono ?_); rintro e w9 ⟨rfl, rfl⟩))
        all_goals go_ret
        all_goals exact ⟨ret_bool (by simp [*]), HB17.out⟩
      · have hz2 : (E3 != 0) = true := by simpa using hz
        clear hz
        have y10 := PS1_14.out.box.c0
        have y11 := PS1_14.out.box.c1
        have y12 := PS1_14.out.box.c2
        have y20 := PS2_14.out.box.c0
        have y21 := PS2_14.out.box.c1
        have y22 := PS2_14.out.box.c2
        have y30 := PS3_14.out.box.c0
        have y31 := PS3_14.out.box.c1
        have y32 := PS3_14.out.box.c2
        have y40 := PS4_14.out.box.c0
        have y41 := PS4_14.out.box.c1
        have y42 := PS4_14.out.box.c2
        have x1 := HX14.out.c1
        go_wp2_with (first | (go_at_call 11; (with_reducible refine (HC2.out _ _ _ _ PS2_14.out.rd).mono ?_); rintro e w15 ⟨rfl, hb⟩; have HB15 := Lib.hid (thn HB14.out hb); have HX15 := Lib.hid (HX14.out.below hb); have PS1_15 := Lib.hid (PS1_14.out.below hb); have PS2_15 := Lib.hid (PS2_14.out.below hb); have PS3_15 := Lib.hid (PS3_14.out.below hb); have PS4_15 := Lib.hid (PS4_14.out.below hb); clear hb; clear y10 y11 y12 y20 y21 y22 y30 y31 y32 y40 y41 y42 x1; have y10 := PS1_15.out.box.c0; have y11 := PS1_15.out.box.c1; have y12 := PS1_15.out.box.c2; have y20 := PS2_15.out.box.c0; have y21 := PS2_15.out.box.c1; have y22 := PS2_15.out.box.c2; have y30 := PS3_15.out.box.c0; have y31 := PS3_15.out.box.c1; have y32 := PS3_15.out.box.c2; have y40 := PS4_15.out.box.c0; have y41 := PS4_15.out.box.c1; have y42 := PS4_15.out.box.c2; have x1 := HX15.out.c1; skip) | (go_at_call 11; (with_reducible refine (HC4.out _ _ _ _ PS4_15.out.rd).mono ?_); rintro e w16 ⟨rfl, hb⟩; have HB16 := Lib.hid (thn HB15.out hb); have HX16 := Lib.hid (HX15.out.below hb); have PS1_16 := Lib.hid (PS1_15.out.below hb); have PS2_16 := Lib.hid (PS2_15.out.below hb); have PS3_16 := Lib.hid (PS3_15.out.below hb); have PS4_16 := Lib.hid (PS4_15.out.below hb); clear hb; clear y10 y11 y12 y20 y21 y22 y30 y31 y32 y40 y41 y42 x1; have y10 := PS1_16.out.box.c0; have y11 := PS1_16.out.box.c1; have y12 := PS1_16.out.box.c2; have y20 := PS2_16.out.box.c0; have y21 := PS2_16.out.box.c1; have y22 := PS2_16.out.box.c2; have y30 := PS3_16.out.box.c0; have y31 := PS3_16.out.box.c1; have y32 := PS3_16.out.box.c2; have y40 := PS4_16.out.box.c0; have y41 := PS4_16.out.box.c1; have y42 := PS4_16.out.box.c2; have x1 := HX16.out.c1; skip) | (go_at_call 10; (with_reducible refine (HN.out _ _).mono ?_); rintro e w9 ⟨rfl, rfl⟩))
        all_goals go_ret
        all_goals exact ⟨ret_bool (by simp [*]), HB16.out⟩
    · have hz1 : (E2 != 0) = true := by simpa using hz
      clear hz
      by_cases hz : E3 = 0
      · subst hz
        have hck := PAB.out rfl
        rw [hck] at HC3
        clear hck
        have y10 := PS1_14.out.box.c0
        have y11 := PS1_14.out.box.c1
        have y12 := PS1_14.out.box.c2
        have y20 := PS2_14.out.box.c0
        have y21 := PS2_14.out.box.c1
        have y22 := PS2_14.out.box.c2
        have y30 := PS3_14.out.box.c0
        have y31 := PS3_14.out.box.c1
        have y32 := PS3_14.out.box.c2
        have y40 := PS4_14.out.box.c0
        have y41 := PS4_14.out.box.c1
        have y42 := PS4_14.out.box.c2
        have x1 := HX14.out.c1
        go_wp2_with (first | (go_at_call 11; (with_reducible refine (HC3.out _ _ _ _ PS3_14.out.rd).mono ?_); rintro e w15 ⟨rfl, hb⟩; have HB15 := Lib.hid (thn HB14.out hb); have HX15 := Lib.hid (HX14.out.below hb); have PS1_15 := Lib.hid (PS1_14.out.below hb); have PS2_15 := Lib.hid (PS2_14.out.below hb); have PS3_15 := Lib.hid (PS3_14.out.below hb); have PS4_15 := Lib.hid (PS4_14.out.below hb); clear hb; clear y10 y11 y12 y20 y21 y22 y30 y31 y32 y40 y41 y42 x1; have y10 := PS1_15.out.box.c0; have y11 := PS1_15.out.box.c1; have y12 := PS1_15.out.box.c2; have y20 := PS2_15.out.box.c0; have y21 := PS2_15.out.box.c1; have y22 := PS2_15.out.box.c2; have y30 := PS3_15.out.box.c0; have y31 := PS3_15.out.box.c1; have y32 := PS3_15.out.box.c2; have y40 := PS4_15.out.box.c0; have y41 := PS4_15.out.box.c1; have y42 := PS4_15.out.box.c2; have x1 := HX15.out.c1; skip) | (go_at_call 11; (with_reducible refine (HC4.out _ _ _ _ PS4_15.out.rd).mono ?_); rintro e w16 ⟨rfl, hb⟩; have HB16 := Lib.hid (thn HB15.out hb); have HX16 := Lib.hid (HX15.out.below hb); have PS1_16 := Lib.hid (PS1_15.out.below hb); have PS2_16 := Lib.hid (PS2_15.out.below hb); have PS3_16 := Lib.hid (PS3_15.out.below hb); have PS4_16 := Lib.hid (PS4_15.out.below hb); clear hb; clear y10 y11 y12 y20 y21 y22 y30 y31 y32 y40 y41 y42 x1; have y10 := PS1_16.out.box.c0; have y11 := PS1_16.out.box.c1; have y12 := PS1_16.out.box.c2; have y20 := PS2_16.out.box.c0; have y21 := PS2_16.out.box.c1; have y22 := PS2_16.out.box.c2; have y30 := PS3_16.out.box.c0; have y31 := PS3_16.out.box.c1; have y32 := PS3_16.out.box.c2; have y40 := PS4_16.out.box.c0; have y41 := PS4_16.out.box.c1; have y42 := PS4_16.out.box.c2; have x1 := HX16.out.c1; skip) | (go_at_call 10; (with_reducible refine (HN.out _ _).mono ?_); rintro e w9 ⟨rfl, rfl⟩))
        all_goals go_ret
        all_goals exact ⟨ret_bool (by simp [*]), HB16.out⟩
      · have hz2 : (E3 != 0) = true := by simpa using hz
        clear hz
        have y10 := PS1_14.out.box.c0
        have y11 := PS1_14.out.box.c1
        have y12 := PS1_14.out.box.c2
        have y20 := PS2_14.out.box.c0
        have y21 := PS2_14.out.box.c1
        have y22 := PS2_14.out.box.c2
        have y30 := PS3_14.out.box.c0
        have y31 := PS3_14.out.box.c1
        have y32 := PS3_14.out.box.c2
        have y40 := PS4_14.out.box.c0
        have y41 := PS4_14.out.box.c1
        have y42 := PS4_14.out.box.c2
        have x1 := HX14.out.c1
        go_wp2_with (first | (go_at_call 11; (with_reducible refine (HC4.out _ _ _ _ PS4_14.out.rd).mono ?_); rintro e w15 ⟨rfl, hb⟩; have HB15 := Lib.hid (thn HB14.out hb); have HX15 := Lib.hid (HX14.out.below hb); have PS1_15 := Lib.hid (PS1_14.out.below hb); have PS2_15 := Lib.hid (PS2_14.out.below hb); have PS3_15 := Lib.hid (PS3_14.out.below hb); have PS4_15 := Lib.hid (PS4_14.out.below hb); clear hb; clear y10 y11 y12 y20 y21 y22 y30 y31 y32 y40 y41 y42 x1; have y10 := PS1_15.out.box.c0; have y11 := PS1_15.out.box.c1; have y12 := PS1_15.out.box.c2; have y20 := PS2_15.out.box.c0; have y21 := PS2_15.out.box.c1; have y22 := PS2_15.out.box.c2; have y30 := PS3_15.out.box.c0; have y31 := PS3_15.out.box.c1; have y32 := PS3_15.out.box.c2; have y40 := PS4_15.out.box.c0; have y41 := PS4_15.out.box.c1; have y42 := PS4_15.out.box.c2; have x1 := HX15.out.c1; skip) | (go_at_call 10; (with_reducible refine (HN.out _ _).mono ?_); rintro e w9 ⟨rfl, rfl⟩))
        all_goals go_ret
        all_goals exact ⟨ret_bool (by simp [*]), HB15.out⟩
theorem kMay_any (A : Option Addr) (n c : Nat) (s : St) (i v : Int) (w : World) (hr : Rd w A n c s.l) (hn : n * 32 ≤ 140737488355328) :
    Calls Try.prog 3 #[.agg #[.slice A n c, .int .i64 s.c, .int .i64 s.n], .int .i64 i, .int .i64 v] w fun e w' => e = .returned (.bool true) ∧ Below w.heap.size w w' := by
  by_cases h : (begR s).2.2 = 0
  · exact kMay_yes A n c s i v w hr hn h
  · exact kMay_no A n c s i v w hr hn h
end Go.Proofs.Ytlcmpngjmmbkcaa
