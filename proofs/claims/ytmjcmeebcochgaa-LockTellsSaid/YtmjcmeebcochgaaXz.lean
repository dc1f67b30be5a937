/- LockTells of the statements answers true for any state, any lock, any key and any number: the walk. Conditions: a state that is read in memory, within reach. -/
import Derived.Test.YtmjcmeebcochgaaXf
import Derived.Test.YtmjcmeebcochgaaXg
import Derived.Test.YtmjcmeebcochgaaXh
namespace Go.Proofs.Ytmjcmeebcochgaa
open Go.RowKit Go.Sort Go.Maps
set_option linter.unusedSimpArgs false
set_option linter.unusedVariables false

set_option maxRecDepth 100000 in
set_option maxHeartbeats 16000000 in
theorem kTells_any (A : Option Addr) (n c : Nat) (l : List Lk) (x : Lk) (k : Key) (hk : k.s.size + 1 ≤ 140737488355328) (m : Int) (w : World) (hr : Rd w A n c l) (hn : n * 40 ≤ 140737488355328) :
    Calls Try.prog 3 #[.agg #[.slice A n c], .agg #[.int .i64 x.t, .string x.lo.s, .string x.hi.s], .string k.s, .int .i64 m] w fun e w' => e = .returned (.bool true) ∧ Below w.heap.size w w' := by
  have HF0 := Lib.hid (Lf.new w A n c x)
  have HO := Lib.hid fun W (hb : Below w.heap.size w W) => of_any A n c l W (hr.below hb) hn
  have HP2 := Lib.hid fun A n c W (hr : Rd W A n c l) => add_any A n c l x W hr
  have HP3 := Lib.hid fun W (hb : Below w.heap.size w W) => rAdd_any A n c l x W (hr.below hb)
  have HP4 := Lib.hid fun A n c W (hr : Rd W A n c l) => read_any A n c l x.t k hk W hr
  have HP5 := Lib.hid fun W (hb : Below w.heap.size w W) => rRead_any A n c l x.t k hk W (hr.below hb)
  have HP6 := Lib.hid fun A n c W (hr : Rd W A n c l) => readers_any A n c l k W hr
  have HP7 := Lib.hid fun W (hb : Below w.heap.size w W) => rReaders_any A n c l k W (hr.below hb)
  have HP8 := Lib.hid fun A n c W (hr : Rd W A n c l) => drop_any A n c l x.t W hr
  have HP9 := Lib.hid fun W (hb : Below w.heap.size w W) => rDrop_any A n c l x.t W (hr.below hb)
  have HP10 := Lib.hid fun A n c W (hr : Rd W A n c l) => widen_any A n c l x.t m W hr
  have HP11 := Lib.hid fun W (hb : Below w.heap.size w W) => rWiden_any A n c l x.t m W (hr.below hb)
  have HK := Lib.hid fun A n c W (hr : Rd W A n c l) => check_any A n c l W hr
  have HRK := Lib.hid fun W (hb : Below w.heap.size w W) => rCheck_any A n c l W (hr.below hb)
  have HL := Lib.hid fun A n c A' n' c' l W (h1 : Rd W A n c l) (h2 : Rd W A' n' c' l) => alike_eq A A' n n' c c' l W h1 h2
  have HN := Lib.hid fun k W => num_any k W
  have HA := Lib.hid fun W => alive_any W
  have HR := Lib.hid fun W (hb : Below w.heap.size w W) => hr.below hb
  have HC : Hid (chkE l = 0 ∨ chkE l = 9) := Lib.hid (by by_cases h : Ok l; exact .inl (chk_good h); exact .inr (chk_bad h))
  clear hr
  generalize addR l x = R1 at *
  generalize addR l (rdL x.t k hk) = R2 at *
  generalize rdsR l k = R3 at *
  generalize drpR l x.t = R4 at *
  generalize widR l x.t m = R5 at *
  obtain ⟨m1, E1⟩ := R1
  obtain ⟨m2, E2⟩ := R2
  obtain ⟨m3, E3⟩ := R3
  obtain ⟨m4, E4⟩ := R4
  obtain ⟨m5, E5⟩ := R5
  simp only at HP2 HP3 HP4 HP5 HP6 HP7 HP8 HP9 HP10 HP11
  go_enter Try.func3, Try.ntmps3
  go_upto_region 1 with fail
  generalize (w.alloc (.cells #[.slice A n c] 24)).alloc (.cells #[.int .i64 x.t, .string x.lo.s, .string x.hi.s] 26) = W0 at *
  generalize w.heap.size + 1 = gx at *
  have hs := HF0.out.s
  go_upto_region 2 with (go_at_call 9; (with_reducible refine (HO.out _ HF0.out.b).mono ?_); rintro e w6 ⟨A9, n9, c9, rfl, hr6, hb⟩; have HB6 := Lib.hid hb; have HR6 := Lib.hid hr6; clear hb hr6)
  clear hs
  have HBA := Lib.hid (thn HB6.out (below1 w6 (.cells #[.slice A9 n9 c9] 29)))
  have HF_1 := Lib.hid (HF0.out.below HBA.out)
  have HT9_1 := Lib.hid (Stt.new HR6.out)
  clear HF0 HB6 HR6 HBA
  generalize w6.alloc (.cells #[.slice A9 n9 c9] 29) = W1 at *
  generalize w6.heap.size = g9 at *
  have hs := HT9_1.out.s
  have hx0 := HF_1.out.x0
  have hx1 := HF_1.out.x1
  have hx2 := HF_1.out.x2
  go_upto_region 3 with (go_at_call 10; (with_reducible refine (HP2.out _ _ _ _ HT9_1.out.r).mono ?_); rintro e w6 ⟨A10, n10, c10, rfl, hr6, hb⟩; have HB6 := Lib.hid hb; have HR6 := Lib.hid hr6; clear hb hr6)
  clear hs hx0 hx1 hx2
  have HBA := Lib.hid (thn HB6.out (below1 w6 (.cells #[.slice A10 n10 c10] 29)))
  have HF_2 := Lib.hid (HF_1.out.below HBA.out)
  have HT9_2 := Lib.hid (HT9_1.out.below HBA.out)
  have HT10_2 := Lib.hid (Stt.new HR6.out)
  clear HF_1 HT9_1 HB6 HR6 HBA
  generalize w6.alloc (.cells #[.slice A10 n10 c10] 29) = W2 at *
  generalize w6.heap.size = g10 at *
  have hs := HF_2.out.s
  have hx0 := HF_2.out.x0
  have hx1 := HF_2.out.x1
  have hx2 := HF_2.out.x2
  go_upto_region 4 with (go_at_call 11; (with_reducible refine (HP3.out _ HF_2.out.b).mono ?_); rintro e w6 ⟨A12, n12, c12, rfl, hr6, hb⟩; have HB6 := Lib.hid hb; have HR6 := Lib.hid hr6; clear hb hr6)
  clear hs hx0 hx1 hx2
  have HBA := Lib.hid (thn HB6.out (below1 w6 (.cells #[.slice A12 n12 c12] 24)))
  have HF_3 := Lib.hid (HF_2.out.below HBA.out)
  have HT9_3 := Lib.hid (HT9_2.out.below HBA.out)
  have HT10_3 := Lib.hid (HT10_2.out.below HBA.out)
  have HT12_3 := Lib.hid (Stt.newR HR6.out)
  clear HF_2 HT9_2 HT10_2 HB6 HR6 HBA
  generalize w6.alloc (.cells #[.slice A12 n12 c12] 24) = W3 at *
  generalize w6.heap.size = g12 at *
  have hs := HT9_3.out.s
  have hx0 := HF_3.out.x0
  go_upto_region 5 with (go_at_call 12; (with_reducible refine (HP4.out _ _ _ _ HT9_3.out.r).mono ?_); rintro e w6 ⟨A14, n14, c14, rfl, hr6, hb⟩; have HB6 := Lib.hid hb; have HR6 := Lib.hid hr6; clear hb hr6)
  clear hs hx0
  have HBA := Lib.hid (thn HB6.out (below1 w6 (.cells #[.slice A14 n14 c14] 29)))
  have HF_4 := Lib.hid (HF_3.out.below HBA.out)
  have HT9_4 := Lib.hid (HT9_3.out.below HBA.out)
  have HT10_4 := Lib.hid (HT10_3.out.below HBA.out)
  have HT12_4 := Lib.hid (HT12_3.out.below HBA.out)
  have HT14_4 := Lib.hid (Stt.new HR6.out)
  clear HF_3 HT9_3 HT10_3 HT12_3 HB6 HR6 HBA
  generalize w6.alloc (.cells #[.slice A14 n14 c14] 29) = W4 at *
  generalize w6.heap.size = g14 at *
  have hs := HF_4.out.s
  have hx0 := HF_4.out.x0
  go_upto_region 6 with (go_at_call 13; (with_reducible refine (HP5.out _ HF_4.out.b).mono ?_); rintro e w6 ⟨A16, n16, c16, rfl, hr6, hb⟩; have HB6 := Lib.hid hb; have HR6 := Lib.hid hr6; clear hb hr6)
  clear hs hx0
  have HBA := Lib.hid (thn HB6.out (below1 w6 (.cells #[.slice A16 n16 c16] 24)))
  have HF_5 := Lib.hid (HF_4.out.below HBA.out)
  have HT9_5 := Lib.hid (HT9_4.out.below HBA.out)
  have HT10_5 := Lib.hid (HT10_4.out.below HBA.out)
  have HT12_5 := Lib.hid (HT12_4.out.below HBA.out)
  have HT14_5 := Lib.hid (HT14_4.out.below HBA.out)
  have HT16_5 := Lib.hid (Stt.newR HR6.out)
  clear HF_4 HT9_4 HT10_4 HT12_4 HT14_4 HB6 HR6 HBA
  generalize w6.alloc (.cells #[.slice A16 n16 c16] 24) = W5 at *
  generalize w6.heap.size = g16 at *
  have hs := HT9_5.out.s
  go_upto_region 7 with (go_at_call 14; (with_reducible refine (HP6.out _ _ _ _ HT9_5.out.r).mono ?_); rintro e w6 ⟨A18, n18, c18, rfl, hr6, hb⟩; have HB6 := Lib.hid hb; have HR6 := Lib.hid hr6; clear hb hr6)
  clear hs
  have HF_6 := Lib.hid (HF_5.out.below HB6.out)
  have HT9_6 := Lib.hid (HT9_5.out.below HB6.out)
  have HT10_6 := Lib.hid (HT10_5.out.below HB6.out)
  have HT12_6 := Lib.hid (HT12_5.out.below HB6.out)
  have HT14_6 := Lib.hid (HT14_5.out.below HB6.out)
  have HT16_6 := Lib.hid (HT16_5.out.below HB6.out)
  have HI18_6 := HR6
  clear HF_5 HT9_5 HT10_5 HT12_5 HT14_5 HT16_5 HB6 HR6
  generalize w6 = W6 at *
  have hs := HF_6.out.s
  go_upto_region 8 with (go_at_call 15; (with_reducible refine (HP7.out _ HF_6.out.b).mono ?_); rintro e w6 ⟨A20, n20, c20, rfl, hr6, hb⟩; have HB6 := Lib.hid hb; have HR6 := Lib.hid hr6; clear hb hr6)
  clear hs
  have HF_7 := Lib.hid (HF_6.out.below HB6.out)
  have HT9_7 := Lib.hid (HT9_6.out.below HB6.out)
  have HT10_7 := Lib.hid (HT10_6.out.below HB6.out)
  have HT12_7 := Lib.hid (HT12_6.out.below HB6.out)
  have HT14_7 := Lib.hid (HT14_6.out.below HB6.out)
  have HT16_7 := Lib.hid (HT16_6.out.below HB6.out)
  have HI18_7 := Lib.hid (HI18_6.out.below HB6.out)
  have HI20_7 := HR6
  clear HF_6 HT9_6 HT10_6 HT12_6 HT14_6 HT16_6 HI18_6 HB6 HR6
  generalize w6 = W7 at *
  have hs := HT9_7.out.s
  have hx0 := HF_7.out.x0
  go_upto_region 9 with (go_at_call 16; (with_reducible refine (HP8.out _ _ _ _ HT9_7.out.r).mono ?_); rintro e w6 ⟨A22, n22, c22, rfl, hr6, hb⟩; have HB6 := Lib.hid hb; have HR6 := Lib.hid hr6; clear hb hr6)
  clear hs hx0
  have HBA := Lib.hid (thn HB6.out (below1 w6 (.cells #[.slice A22 n22 c22] 29)))
  have HF_8 := Lib.hid (HF_7.out.below HBA.out)
  have HT9_8 := Lib.hid (HT9_7.out.below HBA.out)
  have HT10_8 := Lib.hid (HT10_7.out.below HBA.out)
  have HT12_8 := Lib.hid (HT12_7.out.below HBA.out)
  have HT14_8 := Lib.hid (HT14_7.out.below HBA.out)
  have HT16_8 := Lib.hid (HT16_7.out.below HBA.out)
  have HI18_8 := Lib.hid (HI18_7.out.below HBA.out)
  have HI20_8 := Lib.hid (HI20_7.out.below HBA.out)
  have HT22_8 := Lib.hid (Stt.new HR6.out)
  clear HF_7 HT9_7 HT10_7 HT12_7 HT14_7 HT16_7 HI18_7 HI20_7 HB6 HR6 HBA
  generalize w6.alloc (.cells #[.slice A22 n22 c22] 29) = W8 at *
  generalize w6.heap.size = g22 at *
  have hs := HF_8.out.s
  have hx0 := HF_8.out.x0
  go_upto_region 10 with (go_at_call 17; (with_reducible refine (HP9.out _ HF_8.out.b).mono ?_); rintro e w6 ⟨A24, n24, c24, rfl, hr6, hb⟩; have HB6 := Lib.hid hb; have HR6 := Lib.hid hr6; clear hb hr6)
  clear hs hx0
  have HBA := Lib.hid (thn HB6.out (below1 w6 (.cells #[.slice A24 n24 c24] 24)))
  have HF_9 := Lib.hid (HF_8.out.below HBA.out)
  have HT9_9 := Lib.hid (HT9_8.out.below HBA.out)
  have HT10_9 := Lib.hid (HT10_8.out.below HBA.out)
  have HT12_9 := Lib.hid (HT12_8.out.below HBA.out)
  have HT14_9 := Lib.hid (HT14_8.out.below HBA.out)
  have HT16_9 := Lib.hid (HT16_8.out.below HBA.out)
  have HI18_9 := Lib.hid (HI18_8.out.below HBA.out)
  have HI20_9 := Lib.hid (HI20_8.out.below HBA.out)
  have HT22_9 := Lib.hid (HT22_8.out.below HBA.out)
  have HT24_9 := Lib.hid (Stt.newR HR6.out)
  clear HF_8 HT9_8 HT10_8 HT12_8 HT14_8 HT16_8 HI18_8 HI20_8 HT22_8 HB6 HR6 HBA
  generalize w6.alloc (.cells #[.slice A24 n24 c24] 24) = W9 at *
  generalize w6.heap.size = g24 at *
  have hs := HT9_9.out.s
  have hx0 := HF_9.out.x0
  go_upto_region 11 with (go_at_call 18; (with_reducible refine (HP10.out _ _ _ _ HT9_9.out.r).mono ?_); rintro e w6 ⟨A26, n26, c26, rfl, hr6, hb⟩; have HB6 := Lib.hid hb; have HR6 := Lib.hid hr6; clear hb hr6)
  clear hs hx0
  have HBA := Lib.hid (thn HB6.out (below1 w6 (.cells #[.slice A26 n26 c26] 29)))
  have HF_10 := Lib.hid (HF_9.out.below HBA.out)
  have HT9_10 := Lib.hid (HT9_9.out.below HBA.out)
  have HT10_10 := Lib.hid (HT10_9.out.below HBA.out)
  have HT12_10 := Lib.hid (HT12_9.out.below HBA.out)
  have HT14_10 := Lib.hid (HT14_9.out.below HBA.out)
  have HT16_10 := Lib.hid (HT16_9.out.below HBA.out)
  have HI18_10 := Lib.hid (HI18_9.out.below HBA.out)
  have HI20_10 := Lib.hid (HI20_9.out.below HBA.out)
  have HT22_10 := Lib.hid (HT22_9.out.below HBA.out)
  have HT24_10 := Lib.hid (HT24_9.out.below HBA.out)
  have HT26_10 := Lib.hid (Stt.new HR6.out)
  clear HF_9 HT9_9 HT10_9 HT12_9 HT14_9 HT16_9 HI18_9 HI20_9 HT22_9 HT24_9 HB6 HR6 HBA
  generalize w6.alloc (.cells #[.slice A26 n26 c26] 29) = W10 at *
  generalize w6.heap.size = g26 at *
  have hs := HF_10.out.s
  have hx0 := HF_10.out.x0
  go_upto_region 12 with (go_at_call 19; (with_reducible refine (HP11.out _ HF_10.out.b).mono ?_); rintro e w6 ⟨A28, n28, c28, rfl, hr6, hb⟩; have HB6 := Lib.hid hb; have HR6 := Lib.hid hr6; clear hb hr6)
  clear hs hx0
  have HBA := Lib.hid (thn HB6.out (below1 w6 (.cells #[.slice A28 n28 c28] 24)))
  have HF_11 := Lib.hid (HF_10.out.below HBA.out)
  have HT9_11 := Lib.hid (HT9_10.out.below HBA.out)
  have HT10_11 := Lib.hid (HT10_10.out.below HBA.out)
  have HT12_11 := Lib.hid (HT12_10.out.below HBA.out)
  have HT14_11 := Lib.hid (HT14_10.out.below HBA.out)
  have HT16_11 := Lib.hid (HT16_10.out.below HBA.out)
  have HI18_11 := Lib.hid (HI18_10.out.below HBA.out)
  have HI20_11 := Lib.hid (HI20_10.out.below HBA.out)
  have HT22_11 := Lib.hid (HT22_10.out.below HBA.out)
  have HT24_11 := Lib.hid (HT24_10.out.below HBA.out)
  have HT26_11 := Lib.hid (HT26_10.out.below HBA.out)
  have HT28_11 := Lib.hid (Stt.newR HR6.out)
  clear HF_10 HT9_10 HT10_10 HT12_10 HT14_10 HT16_10 HI18_10 HI20_10 HT22_10 HT24_10 HT26_10 HB6 HR6 HBA
  generalize w6.alloc (.cells #[.slice A28 n28 c28] 24) = W11 at *
  generalize w6.heap.size = g28 at *
  obtain rfl : n18 = m3.length := HI18_11.out.len.symm
  obtain rfl : n20 = m3.length := HI20_11.out.len.symm
  have e1 : (E1 != E1) = false := by simp
  have e2 : (E2 != E2) = false := by simp
  have e3 : (E3 != E3) = false := by simp
  have e4 : (E4 != E4) = false := by simp
  have e5 : (E5 != E5) = false := by simp
  have e6 : ((m3.length : Int) != (m3.length : Int)) = false := by simp
  have HB0 := Lib.hid (Below.refl W11.heap.size W11)
  have hc9 := HT9_11.out.s
  have hc10 := HT10_11.out.s
  have hc12 := HT12_11.out.s
  have hc14 := HT14_11.out.s
  have hc16 := HT16_11.out.s
  have hc22 := HT22_11.out.s
  have hc24 := HT24_11.out.s
  have hc26 := HT26_11.out.s
  have hc28 := HT28_11.out.s
  clear HO HP2 HP3 HP4 HP5 HP6 HP7 HP8 HP9 HP10 HP11
  go_wp2_with (first | (go_at_call 21; (with_reducible refine (HN.out _ _).mono ?_); rintro e w7 ⟨rfl, rfl⟩) | (go_at_call 20; first | ((with_reducible refine (HL.out _ _ _ _ _ _ _ _ (HT26_11.out.r.below HB3.out) (HT28_11.out.r.below HB3.out)).mono ?_); rintro e w34 ⟨rfl, hb⟩; have HB4 := Lib.hid (thn HB3.out hb); clear hb; have hc9'''' := (HT9_11.out.below HB4.out).s) | ((with_reducible refine (HL.out _ _ _ _ _ _ _ _ (HT22_11.out.r.below HB2.out) (HT24_11.out.r.below HB2.out)).mono ?_); rintro e w33 ⟨rfl, hb⟩; have HB3 := Lib.hid (thn HB2.out hb); clear hb; have hc9''' := (HT9_11.out.below HB3.out).s; have hc26''' := (HT26_11.out.below HB3.out).s; have hc28''' := (HT28_11.out.below HB3.out).s) | ((with_reducible refine (HL.out _ _ _ _ _ _ _ _ (HT14_11.out.r.below HB1.out) (HT16_11.out.r.below HB1.out)).mono ?_); rintro e w32 ⟨rfl, hb⟩; have HB2 := Lib.hid (thn HB1.out hb); clear hb; have hc9'' := (HT9_11.out.below HB2.out).s; have hc22'' := (HT22_11.out.below HB2.out).s; have hc24'' := (HT24_11.out.below HB2.out).s; have hc26'' := (HT26_11.out.below HB2.out).s; have hc28'' := (HT28_11.out.below HB2.out).s) | ((with_reducible refine (HL.out _ _ _ _ _ _ _ _ (HT10_11.out.r.below HB0.out) (HT12_11.out.r.below HB0.out)).mono ?_); rintro e w31 ⟨rfl, hb⟩; have HB1 := Lib.hid (thn HB0.out hb); clear hb; have hc9' := (HT9_11.out.below HB1.out).s; have hc14' := (HT14_11.out.below HB1.out).s; have hc16' := (HT16_11.out.below HB1.out).s; have hc22' := (HT22_11.out.below HB1.out).s; have hc24' := (HT24_11.out.below HB1.out).s; have hc26' := (HT26_11.out.below HB1.out).s; have hc28' := (HT28_11.out.below HB1.out).s)))
  have HF20 := Lib.hid (HF_11.out.below HB4.out)
  have HT20 := Lib.hid (HT9_11.out.below HB4.out)
  have HI20 := Lib.hid (HI18_11.out.below HB4.out)
  have HJ20 := Lib.hid (HI20_11.out.below HB4.out)
  have hcap : m3.length ≤ 9223372036854775807 := by have := HI20.out.le; have := HI20.out.cap; omega
  clear HB0 HB1 HB2 HB3 HB4 HF_11 HT9_11 HT10_11 HT12_11 HT14_11 HT16_11 HI18_11 HI20_11 HT22_11 HT24_11 HT26_11 HT28_11
  generalize w34 = W20 at *
  go_loopw [30] (fun i wx => ∃ j : Nat, i = .int .i64 j ∧ j ≤ m3.length ∧ Below W20.heap.size W20 wx) (fun i _ => m3.length - (intOf i).toNat)
  case atStart => exact ⟨0, rfl, by omega, Below.refl _ _⟩
  case round =>
    obtain ⟨j, rfl, hj, hB⟩ := hrel
    have HBB := Lib.hid hB
    clear hB
    by_cases hlt : j < m3.length
    · obtain ⟨ad, ea, k0⟩ := (HI20.out.below HBB.out).at_ hlt
      obtain ⟨bd, eb, k1⟩ := (HJ20.out.below HBB.out).at_ hlt
      subst ea
      subst eb
      have hq0 := cell_lt k0
      have hq1 := cell_lt k1
      rw [add_block] at hq0 hq1
      generalize m3[j] = v at k0 k1
      have ev : (v != v) = false := by simp
      have hlt' : (j : Int) < (m3.length : Int) := by omega
      go_upto_region 17 with fail
      have p0 := cell_regrown k0
      have p1 := cell_regrown k1
      clear k0 k1
      refine wp_region_quiet_below (by kernel_rfl) (by kernel_rfl) ?_
      repeat (go_big_quiet_step (fail))
      refine wpQuiet_nil ?_
      intro w9 hw9
      obtain ⟨pp, rfl⟩ := hw9
      have HB9 := Lib.hid (thn HBB.out (below_regrown wr pp.d pp.os))
      clear p0 p1
      generalize grow (redrawn wr pp.d) pp.os = W17 at HB9 ⊢
      go_wp2
      go_roundw
      case rel => exact ⟨j + 1, by go_num, hlt, HB9.out⟩
      case measure => simp [intOf]; omega
    · have HF21 := Lib.hid (HF20.out.below HBB.out)
      have HT21 := Lib.hid (HT20.out.below HBB.out)
      have hnl : ¬ ((j : Int) < (m3.length : Int)) := by omega
      have Q1 := Lib.hid fun d os => HK.out A9 n9 c9 (grow (redrawn wr d) os) (HT21.out.r.below (below_regrown _ d os))
      have Q2 := Lib.hid fun d os => HRK.out (grow (redrawn wr d) os) (thn HF21.out.b (below_regrown _ d os))
      have Q3 := Lib.hid fun d os => HL.out A9 n9 c9 A n c l (grow (redrawn wr d) os) (HT21.out.r.below (below_regrown _ d os)) (HR.out _ (thn HF21.out.b (below_regrown _ d os)))
      have Q4 := Lib.hid fun d os => HA.out (grow (redrawn wr d) os)
      have QN := Lib.hid fun k d os => (HN.out k (grow (redrawn wr d) os)).mono fun e w' (h : e = .returned (.int .i64 k) ∧ grow (redrawn wr d) os = w') => (show e = .returned (.int .i64 k) ∧ Below (grow (redrawn wr d) os).heap.size (grow (redrawn wr d) os) w' from ⟨h.1, by rw [← h.2]; exact Below.refl _ _⟩)
      go_upto_region 19 with fail
      have p0 := cell_regrown HT21.out.s
      have p1 := cell_regrown HF21.out.s
      rcases HC.out with hC | hC
      all_goals
        rw [hC] at Q1 Q2
        clear hC
        refine wp_region_quiet_below (by kernel_rfl) (by kernel_rfl) ?_
        repeat (go_big_quiet_step (first | (with_reducible exact Calls.regrown_of (QN.out _ _ _)) | (with_reducible exact Calls.regrown_of (Q1.out _ _)) | (with_reducible exact Calls.regrown_of (Q2.out _ _)) | (with_reducible exact Calls.regrown_of (Q3.out _ _)) | (with_reducible exact Calls.regrown_of (Q4.out _ _))))
        refine wpQuiet_nil ?_
        intro w9 hw9
        obtain ⟨pp, rfl⟩ := hw9
        have HB9 := Lib.hid (thn HF21.out.b (below_regrown wr pp.d pp.os))
        clear p0 p1
        generalize grow (redrawn wr pp.d) pp.os = W9 at HB9 ⊢
        go_wp2
        go_ret
        exact ⟨rfl, HB9.out⟩
end Go.Proofs.Ytmjcmeebcochgaa
