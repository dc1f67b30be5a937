/- LockMay of the statements answers true for any state and any lock: the walk. Conditions: a state that is read in memory, within reach. -/
import Derived.Test.YtmjcmeebcochgaaWa
namespace Go.Proofs.Ytmjcmeebcochgaa
open Go.RowKit Go.Sort Go.Maps
set_option linter.unusedSimpArgs false
set_option linter.unusedVariables false

theorem new_keep {W w2 : World} {v : Value} {t : TypeId} (hb : Below (W.alloc (.cells #[v] t)).heap.size (W.alloc (.cells #[v] t)) w2) : w2.cell? ⟨W.heap.size, 0, none⟩ = some v ∧ w2.frozen? ⟨W.heap.size, 0, none⟩ = false :=
  ⟨cell_keep (cell_last W _ _ _ 0 rfl) hb, (hb.frozen (p := ⟨W.heap.size, 0, none⟩) (by simp)).trans (World.frozen?_alloc_at #[v] _ _ 0 rfl)⟩
theorem new_keepD {W w2 : World} {v : Value} {t : TypeId} (hb : Below (W.alloc (.cells #[v] t)).drew.heap.size (W.alloc (.cells #[v] t)).drew w2) : w2.cell? ⟨W.heap.size, 0, none⟩ = some v ∧ w2.frozen? ⟨W.heap.size, 0, none⟩ = false :=
  new_keep (W := W) (v := v) (t := t) ⟨hb.os, hb.tape, hb.output, hb.size, hb.block⟩
set_option maxRecDepth 100000 in
set_option maxHeartbeats 8000000 in
theorem kMay_any (A : Option Addr) (n c : Nat) (l : List Lk) (x : Lk) (w : World) (hr : Rd w A n c l) (hn : n * 40 ≤ 140737488355328) :
    Calls Try.prog 6 #[.agg #[.slice A n c], .agg #[.int .i64 x.t, .string x.lo.s, .string x.hi.s]] w fun e w' => e = .returned (.bool true) ∧ Below w.heap.size w w' := by
  have HF0 := Lib.hid (Lf.new w A n c x)
  have HA := Lib.hid fun W => alive_any W
  have HO := Lib.hid fun W (hb : Below w.heap.size w W) => of_any A n c l W (hr.below hb) hn
  have HAD := Lib.hid fun A n c W (hr : Rd W A n c l) => add_any A n c l x W hr
  have HN := Lib.hid fun k W => num_any k W
  have HCK := Lib.hid fun m A n c W (hr : Rd W A n c m) => check_any A n c m W hr
  have hcase : ((addR l x).2 ≠ 0 ∧ (addR l x).1 = []) ∨ ((addR l x).2 = 0 ∧ chkE (addR l x).1 = 0 ∧ (addR l x).1.length ≤ 512 ∧ addR (addR l x).1 x = ((addR l x).1, 0)) := by
    by_cases h0 : (addR l x).2 = 0
    · obtain ⟨h1, h2, h3, _, h5⟩ := add_ok h0
      exact .inr ⟨h0, chk_good h3, h3.1, add_same h0⟩
    · exact .inl ⟨h0, add_err h0⟩
  have HCA := Lib.hid hcase
  have HAA := Lib.hid fun A n c W (hr : Rd W A n c (addR l x).1) => add_any A n c (addR l x).1 x W hr
  clear hr hcase
  generalize addR l x = R at *
  obtain ⟨m, E⟩ := R
  simp only at HAD HCA HAA
  go_enter Try.func6, Try.ntmps6
  go_upto_region 1 with fail
  generalize (w.alloc (.cells #[.slice A n c] 24)).alloc (.cells #[.int .i64 x.t, .string x.lo.s, .string x.hi.s] 26) = W0 at *
  generalize w.heap.size + 1 = gx at *
  go_upto_region 3 with (go_at_call 24; (with_reducible refine (HA.out _).mono ?_); rintro e w1 ⟨rfl, hb⟩; have HF1 := Lib.hid (HF0.out.below hb); clear hb)
  have HSO := Lib.hid fun W' (hb : Below w1.heap.size w1 W') => (show Below w1.heap.size w1 W' ∧ W'.cell? ⟨w.heap.size, 0, none⟩ = some (.slice A n c) ∧ W'.cell? ⟨gx, 0, none⟩ = some (.int .i64 x.t) ∧ W'.cell? ⟨gx, 1, none⟩ = some (.string x.lo.s) ∧ W'.cell? ⟨gx, 2, none⟩ = some (.string x.hi.s) from ⟨hb, cell_keep HF1.out.s hb, cell_keep HF1.out.x0 hb, cell_keep HF1.out.x1 hb, cell_keep HF1.out.x2 hb⟩)
  have hbW := (Below.refl w1.heap.size w1).drew
  go_region_held3 (fun W' => Below w1.heap.size w1 W' ∧ W'.cell? ⟨w.heap.size, 0, none⟩ = some (.slice A n c) ∧ W'.cell? ⟨gx, 0, none⟩ = some (.int .i64 x.t) ∧ W'.cell? ⟨gx, 1, none⟩ = some (.string x.lo.s) ∧ W'.cell? ⟨gx, 2, none⟩ = some (.string x.hi.s))
    (first | exact HSO.out _ hbW | exact HSO.out _ hq2 | exact HSO.out _ (hq2.alloc hq2.size _) | exact HSO.out _ (hbW.alloc (Nat.le_refl _) _) | exact HSO.out _ (hq2.setCell (by simp <;> omega) _) | (obtain ⟨s0, _⟩ := ‹Below w1.heap.size w1 _ ∧ _›; exact HSO.out _ (s0.alloc s0.size _)))
    (first | (go_at_call 9; (with_reducible refine (HO.out _ (thn HF1.out.b (And.left ‹Below w1.heap.size w1 _ ∧ _›))).mono ?_); rintro e w2 ⟨A2, n2, c2, rfl, hr2, hb⟩; have hq2 : Below w1.heap.size w1 w2 := thn (And.left ‹Below w1.heap.size w1 _ ∧ _›) hb; have hz2 := hq2.size; (try (have hc5 := (new_keepD (W := w1) (v := .slice none 0 0) (t := 29) hb).1; have hf5 := (new_keepD (W := w1) (v := .slice none 0 0) (t := 29) hb).2)); (try (have hc5 := (new_keep (W := w1) (v := .slice none 0 0) (t := 29) hb).1; have hf5 := (new_keep (W := w1) (v := .slice none 0 0) (t := 29) hb).2)); clear hb) | (go_at_call 10; first | ((with_reducible refine (HAD.out _ _ _ _ hr2).mono ?_); rintro e w4 ⟨A4, n4, c4, rfl, hr4, hb⟩; have hq3 : Below w1.heap.size w1 w4 := thn hq2 hb; have HR2 := Lib.hid (hr2.below hb); (try (have hc6 := cell_keep hc5 hb; have hf6 := (hb.frozen (p := ⟨_, 0, none⟩) (cell_lt hc5)).trans hf5; clear hc5 hf5)); clear hb hq2; have hq2 := hq3; clear hq3) | ((with_reducible refine (HAD.out _ _ _ _ (hr2.below (below1 _ _))).mono ?_); rintro e w4 ⟨A4, n4, c4, rfl, hr4, hb⟩; have hq3 : Below w1.heap.size w1 w4 := thn (thn hq2 (below1 _ _)) hb; obtain ⟨hc6, hf6⟩ := new_keep (W := w2) (v := .slice none 0 0) (t := 29) hb; have HR2 := Lib.hid ((hr2.below (below1 _ _)).below hb); clear hb hq2; have hq2 := hq3; clear hq3)))
  · have HT5 := Lib.hid (Stt.new hr4)
    have HF5 := Lib.hid (HF1.out.below (hq2.alloc hq2.size (.cells #[.slice A4 n4 c4] 29)))
    clear hr4 HR2 hq2 hr2 hbW HSO HF1 HF0
    generalize w4.alloc (.cells #[.slice A4 n4 c4] 29) = W5 at *
    generalize w4.heap.size = g5 at *
    rcases HCA.out with ⟨hE, hm⟩ | ⟨hE, hck, hml, haa⟩
    · have hE2 : (E != 0) = true := by simpa using hE
      subst hm
      obtain rfl : n4 = 0 := HT5.out.r.len.symm
      have ht5 := HT5.out.s
      go_wp2_with (go_at_call 21; (with_reducible refine (HN.out _ _).mono ?_); rintro e w7 ⟨rfl, rfl⟩)
      go_ret
      exact ⟨rfl, HF5.out.b⟩
    · subst hE
      have HAM := Lib.hid fun A n c W (hr : Rd W A n c m) => HAA.out A n c W hr
      rw [haa] at HAM
      simp only at HAM
      have HCM := Lib.hid fun A n c W (hr : Rd W A n c m) => HCK.out m A n c W hr
      rw [hck] at HCM
      clear HCA HAA HCK haa hck
      have hx0 := HF5.out.x0
      have hx1 := HF5.out.x1
      have hx2 := HF5.out.x2
      have ht5 := HT5.out.s
      go_upto_region 7 with (first | (go_at_call 21; (with_reducible refine (HN.out _ _).mono ?_); rintro e w7 ⟨rfl, rfl⟩) | (go_at_call 10; (with_reducible refine (HAM.out _ _ _ _ HT5.out.r).mono ?_); rintro e w6 ⟨A6, n6, c6, rfl, hr6, hb⟩; have HF6 := Lib.hid (HF5.out.below hb); have HT6 := Lib.hid (HT5.out.below hb); have HR6 := Lib.hid hr6; clear hb hr6))
      clear hx0 hx1 hx2 ht5 HT5 HF5
      have HF7 := Lib.hid (HF6.out.below (below1 w6 (.cells #[.slice A6 n6 c6] 29)))
      have HT7 := Lib.hid (HT6.out.below (below1 w6 (.cells #[.slice A6 n6 c6] 29)))
      have HU7 := Lib.hid (Stt.new HR6.out)
      clear HF6 HT6 HR6
      generalize w6.alloc (.cells #[.slice A6 n6 c6] 29) = W7 at *
      generalize w6.heap.size = g6 at *
      obtain rfl : n6 = m.length := HU7.out.r.len.symm
      obtain rfl : n4 = m.length := HT7.out.r.len.symm
      have ht7 := HT7.out.s
      have hu7 := HU7.out.s
      go_upto_region 9 with (first | (go_at_call 21; (with_reducible refine (HN.out _ _).mono ?_); rintro e w7 ⟨rfl, rfl⟩) | (go_at_call 22; (with_reducible refine (HCM.out _ _ _ _ HT7.out.r).mono ?_); rintro e w8 ⟨rfl, hb⟩; have HF8 := Lib.hid (HF7.out.below hb); have HT8 := Lib.hid (HT7.out.below hb); have HU8 := Lib.hid (HU7.out.below hb); have ht8 := HT8.out.s; have hu8 := HU8.out.s; clear hb))
      clear ht7 hu7 ht8 hu8 HF7 HT7 HU7
      go_wp2
      go_loopw [9] (fun i wr => ∃ j : Nat, i = .int .i64 j ∧ j ≤ m.length ∧ Below w8.heap.size w8 wr) (fun i _ => m.length - (intOf i).toNat)
      case atStart => exact ⟨0, rfl, by omega, Below.refl _ _⟩
      case round =>
        obtain ⟨j, rfl, hj, hB⟩ := hrel
        have HT9 := Lib.hid (HT8.out.below hB)
        have HU9 := Lib.hid (HU8.out.below hB)
        have HB9 := Lib.hid hB
        clear hB
        have ht9 := HT9.out.s
        have hu9 := HU9.out.s
        by_cases hlt : j < m.length
        · obtain ⟨ad, e0, a0, a1, a2⟩ := HT9.out.r.at_ hlt
          obtain ⟨bd, e1, b0, b1, b2⟩ := HU9.out.r.at_ hlt
          subst e0
          subst e1
          generalize m[j] = v at a0 a1 a2 b0 b1 b2
          have hq := run_neqV v.t v.lo.s v.hi.s
          have hlt' : (j : Int) < (m.length : Int) := by omega
          have hgv := guardV
          go_upto_region 12 with fail
          have p0 := cell_regrown a0
          have p1 := cell_regrown a1
          have p2 := cell_regrown a2
          have q0 := cell_regrown b0
          have q1 := cell_regrown b1
          have q2 := cell_regrown b2
          have s0 := cell_regrown ht9
          have s1 := cell_regrown hu9
          clear a0 a1 a2 b0 b1 b2 ht9 hu9
          refine wp_region_quiet_below (by kernel_rfl) (by kernel_rfl) ?_
          repeat (go_big_quiet_step (fail))
          refine wpQuiet_nil ?_
          intro w5 hw5
          obtain ⟨pp, rfl⟩ := hw5
          have HB5 := Lib.hid (thn HB9.out (below_regrown wr pp.d pp.os))
          clear p0 p1 p2 q0 q1 q2 s0 s1 hq
          generalize grow (redrawn wr pp.d) pp.os = W9 at HB5 ⊢
          go_wp2
          go_roundw
          case rel => exact ⟨j + 1, by go_num, hlt, HB5.out⟩
          case measure => simp [intOf]; omega
        · go_wp2
          go_ret
          exact ⟨rfl, thn HF8.out.b HB9.out⟩
  · have HT5 := Lib.hid (Stt.mk (set_same (.slice A4 n4 c4) hc6) (hr4.slot hc6 _))
    have HF5 := Lib.hid (HF1.out.below (hq2.setCell (p := ⟨w2.heap.size, 0, none⟩) hz2 (.slice A4 n4 c4)))
    clear hr4 HR2 hq2 hr2 hbW HSO HF1 HF0 hc6 hf6
    generalize w4.setCell ⟨w2.heap.size, 0, none⟩ (.slice A4 n4 c4) = W5 at *
    generalize w2.heap.size = g5 at *
    rcases HCA.out with ⟨hE, hm⟩ | ⟨hE, hck, hml, haa⟩
    · have hE2 : (E != 0) = true := by simpa using hE
      subst hm
      obtain rfl : n4 = 0 := HT5.out.r.len.symm
      have ht5 := HT5.out.s
      go_wp2_with (go_at_call 21; (with_reducible refine (HN.out _ _).mono ?_); rintro e w7 ⟨rfl, rfl⟩)
      go_ret
      exact ⟨rfl, HF5.out.b⟩
    · subst hE
      have HAM := Lib.hid fun A n c W (hr : Rd W A n c m) => HAA.out A n c W hr
      rw [haa] at HAM
      simp only at HAM
      have HCM := Lib.hid fun A n c W (hr : Rd W A n c m) => HCK.out m A n c W hr
      rw [hck] at HCM
      clear HCA HAA HCK haa hck
      have hx0 := HF5.out.x0
      have hx1 := HF5.out.x1
      have hx2 := HF5.out.x2
      have ht5 := HT5.out.s
      go_upto_region 7 with (first | (go_at_call 21; (with_reducible refine (HN.out _ _).mono ?_); rintro e w7 ⟨rfl, rfl⟩) | (go_at_call 10; (with_reducible refine (HAM.out _ _ _ _ HT5.out.r).mono ?_); rintro e w6 ⟨A6, n6, c6, rfl, hr6, hb⟩; have HF6 := Lib.hid (HF5.out.below hb); have HT6 := Lib.hid (HT5.out.below hb); have HR6 := Lib.hid hr6; clear hb hr6))
      clear hx0 hx1 hx2 ht5 HT5 HF5
      have HF7 := Lib.hid (HF6.out.below (below1 w6 (.cells #[.slice A6 n6 c6] 29)))
      have HT7 := Lib.hid (HT6.out.below (below1 w6 (.cells #[.slice A6 n6 c6] 29)))
      have HU7 := Lib.hid (Stt.new HR6.out)
      clear HF6 HT6 HR6
      generalize w6.alloc (.cells #[.slice A6 n6 c6] 29) = W7 at *
      generalize w6.heap.size = g6 at *
      obtain rfl : n6 = m.length := HU7.out.r.len.symm
      obtain rfl : n4 = m.length := HT7.out.r.len.symm
      have ht7 := HT7.out.s
      have hu7 := HU7.out.s
      go_upto_region 9 with (first | (go_at_call 21; (with_reducible refine (HN.out _ _).mono ?_); rintro e w7 ⟨rfl, rfl⟩) | (go_at_call 22; (with_reducible refine (HCM.out _ _ _ _ HT7.out.r).mono ?_); rintro e w8 ⟨rfl, hb⟩; have HF8 := Lib.hid (HF7.out.below hb); have HT8 := Lib.hid (HT7.out.below hb); have HU8 := Lib.hid (HU7.out.below hb); have ht8 := HT8.out.s; have hu8 := HU8.out.s; clear hb))
      clear ht7 hu7 ht8 hu8 HF7 HT7 HU7
      go_wp2
      go_loopw [9] (fun i wr => ∃ j : Nat, i = .int .i64 j ∧ j ≤ m.length ∧ Below w8.heap.size w8 wr) (fun i _ => m.length - (intOf i).toNat)
      case atStart => exact ⟨0, rfl, by omega, Below.refl _ _⟩
      case round =>
        obtain ⟨j, rfl, hj, hB⟩ := hrel
        have HT9 := Lib.hid (HT8.out.below hB)
        have HU9 := Lib.hid (HU8.out.below hB)
        have HB9 := Lib.hid hB
        clear hB
        have ht9 := HT9.out.s
        have hu9 := HU9.out.s
        by_cases hlt : j < m.length
        · obtain ⟨ad, e0, a0, a1, a2⟩ := HT9.out.r.at_ hlt
          obtain ⟨bd, e1, b0, b1, b2⟩ := HU9.out.r.at_ hlt
          subst e0
          subst e1
          generalize m[j] = v at a0 a1 a2 b0 b1 b2
          have hq := run_neqV v.t v.lo.s v.hi.s
          have hlt' : (j : Int) < (m.length : Int) := by omega
          have hgv := guardV
          go_upto_region 12 with fail
          have p0 := cell_regrown a0
          have p1 := cell_regrown a1
          have p2 := cell_regrown a2
          have q0 := cell_regrown b0
          have q1 := cell_regrown b1
          have q2 := cell_regrown b2
          have s0 := cell_regrown ht9
          have s1 := cell_regrown hu9
          clear a0 a1 a2 b0 b1 b2 ht9 hu9
          refine wp_region_quiet_below (by kernel_rfl) (by kernel_rfl) ?_
          repeat (go_big_quiet_step (fail))
          refine wpQuiet_nil ?_
          intro w5 hw5
          obtain ⟨pp, rfl⟩ := hw5
          have HB5 := Lib.hid (thn HB9.out (below_regrown wr pp.d pp.os))
          clear p0 p1 p2 q0 q1 q2 s0 s1 hq
          generalize grow (redrawn wr pp.d) pp.os = W9 at HB5 ⊢
          go_wp2
          go_roundw
          case rel => exact ⟨j + 1, by go_num, hlt, HB5.out⟩
          case measure => simp [intOf]; omega
        · go_wp2
          go_ret
          exact ⟨rfl, thn HF8.out.b HB9.out⟩
  · have HT5 := Lib.hid (Stt.mk (set_same (.slice A4 n4 c4) hc6) (hr4.slot hc6 _))
    have HF5 := Lib.hid (HF1.out.below (hq2.setCell (p := ⟨w1.heap.size, 0, none⟩) (Nat.le_refl _) (.slice A4 n4 c4)))
    clear hr4 HR2 hq2 hr2 hbW HSO HF1 HF0 hc6 hf6 hz2
    generalize w4.setCell ⟨w1.heap.size, 0, none⟩ (.slice A4 n4 c4) = W5 at *
    generalize w1.heap.size = g5 at *
    rcases HCA.out with ⟨hE, hm⟩ | ⟨hE, hck, hml, haa⟩
    · have hE2 : (E != 0) = true := by simpa using hE
      subst hm
      obtain rfl : n4 = 0 := HT5.out.r.len.symm
      have ht5 := HT5.out.s
      go_wp2_with (go_at_call 21; (with_reducible refine (HN.out _ _).mono ?_); rintro e w7 ⟨rfl, rfl⟩)
      go_ret
      exact ⟨rfl, HF5.out.b⟩
    · subst hE
      have HAM := Lib.hid fun A n c W (hr : Rd W A n c m) => HAA.out A n c W hr
      rw [haa] at HAM
      simp only at HAM
      have HCM := Lib.hid fun A n c W (hr : Rd W A n c m) => HCK.out m A n c W hr
      rw [hck] at HCM
      clear HCA HAA HCK haa hck
      have hx0 := HF5.out.x0
      have hx1 := HF5.out.x1
      have hx2 := HF5.out.x2
      have ht5 := HT5.out.s
      go_upto_region 7 with (first | (go_at_call 21; (with_reducible refine (HN.out _ _).mono ?_); rintro e w7 ⟨rfl, rfl⟩) | (go_at_call 10; (with_reducible refine (HAM.out _ _ _ _ HT5.out.r).mono ?_); rintro e w6 ⟨A6, n6, c6, rfl, hr6, hb⟩; have HF6 := Lib.hid (HF5.out.below hb); have HT6 := Lib.hid (HT5.out.below hb); have HR6 := Lib.hid hr6; clear hb hr6))
      clear hx0 hx1 hx2 ht5 HT5 HF5
      have HF7 := Lib.hid (HF6.out.below (below1 w6 (.cells #[.slice A6 n6 c6] 29)))
      have HT7 := Lib.hid (HT6.out.below (below1 w6 (.cells #[.slice A6 n6 c6] 29)))
      have HU7 := Lib.hid (Stt.new HR6.out)
      clear HF6 HT6 HR6
      generalize w6.alloc (.cells #[.slice A6 n6 c6] 29) = W7 at *
      generalize w6.heap.size = g6 at *
      obtain rfl : n6 = m.length := HU7.out.r.len.symm
      obtain rfl : n4 = m.length := HT7.out.r.len.symm
      have ht7 := HT7.out.s
      have hu7 := HU7.out.s
      go_upto_region 9 with (first | (go_at_call 21; (with_reducible refine (HN.out _ _).mono ?_); rintro e w7 ⟨rfl, rfl⟩) | (go_at_call 22; (with_reducible refine (HCM.out _ _ _ _ HT7.out.r).mono ?_); rintro e w8 ⟨rfl, hb⟩; have HF8 := Lib.hid (HF7.out.below hb); have HT8 := Lib.hid (HT7.out.below hb); have HU8 := Lib.hid (HU7.out.below hb); have ht8 := HT8.out.s; have hu8 := HU8.out.s; clear hb))
      clear ht7 hu7 ht8 hu8 HF7 HT7 HU7
      go_wp2
      go_loopw [9] (fun i wr => ∃ j : Nat, i = .int .i64 j ∧ j ≤ m.length ∧ Below w8.heap.size w8 wr) (fun i _ => m.length - (intOf i).toNat)
      case atStart => exact ⟨0, rfl, by omega, Below.refl _ _⟩
      case round =>
        obtain ⟨j, rfl, hj, hB⟩ := hrel
        have HT9 := Lib.hid (HT8.out.below hB)
        have HU9 := Lib.hid (HU8.out.below hB)
        have HB9 := Lib.hid hB
        clear hB
        have ht9 := HT9.out.s
        have hu9 := HU9.out.s
        by_cases hlt : j < m.length
        · obtain ⟨ad, e0, a0, a1, a2⟩ := HT9.out.r.at_ hlt
          obtain ⟨bd, e1, b0, b1, b2⟩ := HU9.out.r.at_ hlt
          subst e0
          subst e1
          generalize m[j] = v at a0 a1 a2 b0 b1 b2
          have hq := run_neqV v.t v.lo.s v.hi.s
          have hlt' : (j : Int) < (m.length : Int) := by omega
          have hgv := guardV
          go_upto_region 12 with fail
          have p0 := cell_regrown a0
          have p1 := cell_regrown a1
          have p2 := cell_regrown a2
          have q0 := cell_regrown b0
          have q1 := cell_regrown b1
          have q2 := cell_regrown b2
          have s0 := cell_regrown ht9
          have s1 := cell_regrown hu9
          clear a0 a1 a2 b0 b1 b2 ht9 hu9
          refine wp_region_quiet_below (by kernel_rfl) (by kernel_rfl) ?_
          repeat (go_big_quiet_step (fail))
          refine wpQuiet_nil ?_
          intro w5 hw5
          obtain ⟨pp, rfl⟩ := hw5
          have HB5 := Lib.hid (thn HB9.out (below_regrown wr pp.d pp.os))
          clear p0 p1 p2 q0 q1 q2 s0 s1 hq
          generalize grow (redrawn wr pp.d) pp.os = W9 at HB5 ⊢
          go_wp2
          go_roundw
          case rel => exact ⟨j + 1, by go_num, hlt, HB5.out⟩
          case measure => simp [intOf]; omega
        · go_wp2
          go_ret
          exact ⟨rfl, thn HF8.out.b HB9.out⟩
end Go.Proofs.Ytmjcmeebcochgaa
