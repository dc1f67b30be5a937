/- LockTurns of the statements answers true for any state, any two locks and any key: the walk. Conditions: a state that is read in memory, within reach. -/
import Derived.Test.YtmjcmeebcochgaaWb
namespace Go.Proofs.Ytmjcmeebcochgaa
open Go.RowKit Go.Sort Go.Maps
set_option linter.unusedSimpArgs false
set_option linter.unusedVariables false

theorem Lf.third {w W : World} {gs gx gy : Nat} {A : Option Addr} {n c : Nat} {x y : Lk} (h : Lf w W gs gx A n c x) (hy : gy = W.heap.size) : Lf w (W.alloc (.cells #[.int .i64 y.t, .string y.lo.s, .string y.hi.s] 26)) gs gx A n c x ∧ Lf w (W.alloc (.cells #[.int .i64 y.t, .string y.lo.s, .string y.hi.s] 26)) gs gy A n c y := by
  have b := below1 W (.cells #[.int .i64 y.t, .string y.lo.s, .string y.hi.s] 26)
  exact ⟨h.below b, cell_keep h.s b, cell_last _ _ _ _ 0 hy, cell_last _ _ _ _ 1 hy, cell_last _ _ _ _ 2 hy, thn h.b b⟩
theorem add_full1 {l : List Lk} {x : Lk} (h : (addR l x).2 = 0) : (addR l x).1 ≠ [] := fun e => by
  have h4 := (add_ok h).2.2.2.1
  rw [e] at h4
  cases h4
theorem turns {l : List Lk} {x y : Lk} (k : Key) (h1 : (addR l x).2 = 0) (h2 : (addR (addR l x).1 y).2 = 0) (h3 : (addR l y).2 = 0) (h4 : (addR (addR l y).1 x).2 = 0) (t : Int) :
    rdsB (addR (addR l x).1 y).1 t k = rdsB (addR (addR l y).1 x).1 t k := by
  obtain ⟨_, _, _, _, a1⟩ := add_ok h1
  obtain ⟨_, _, o2, _, a2⟩ := add_ok h2
  obtain ⟨_, _, _, _, a3⟩ := add_ok h3
  obtain ⟨_, _, o4, _, a4⟩ := add_ok h4
  unfold rdsB
  rw [decide_eq_true o2, decide_eq_true o4, a2, a1, a4, a3]
  generalize (decide (t = x.t) && hasB k x) = p
  generalize (decide (t = y.t) && hasB k y) = q
  generalize has l t k = r
  cases p <;> cases q <;> cases r <;> rfl
set_option maxRecDepth 100000 in
set_option maxHeartbeats 16000000 in
theorem kTurns_any (A : Option Addr) (n c : Nat) (l : List Lk) (x y : Lk) (k : Key) (w : World) (hr : Rd w A n c l) (hn : n * 40 ≤ 140737488355328) :
    Calls Try.prog 8 #[.agg #[.slice A n c], .agg #[.int .i64 x.t, .string x.lo.s, .string x.hi.s], .agg #[.int .i64 y.t, .string y.lo.s, .string y.hi.s], .string k.s] w fun e w' => e = .returned (.bool true) ∧ Below w.heap.size w w' := by
  have hf := (Lf.new w A n c x).third (y := y) (gy := w.heap.size + 2) (by simp)
  have HX0 := Lib.hid hf.1
  have HY0 := Lib.hid hf.2
  clear hf
  have HA := Lib.hid fun W => alive_any W
  have HO := Lib.hid fun W (hb : Below w.heap.size w W) => of_any A n c l W (hr.below hb) hn
  have HA1 := Lib.hid fun A n c W (hr : Rd W A n c l) => add_any A n c l x W hr
  have HA2 := Lib.hid fun A n c W (hr : Rd W A n c (addR l x).1) => add_any A n c (addR l x).1 y W hr
  have HA3 := Lib.hid fun A n c W (hr : Rd W A n c l) => add_any A n c l y W hr
  have HA4 := Lib.hid fun A n c W (hr : Rd W A n c (addR l y).1) => add_any A n c (addR l y).1 x W hr
  have HN := Lib.hid fun k W => num_any k W
  have HRD := Lib.hid fun m t A n c W (hr : Rd W A n c m) => reads_any A n c m t k W hr
  have len0 : ∀ {l : List Lk} {x : Lk}, (addR l x).2 ≠ 0 → (((addR l x).1.length : Int) == 0) = true := fun h => by rw [add_err h]; rfl
  have len1 : ∀ {l : List Lk} {x : Lk}, (addR l x).2 = 0 → (((addR l x).1.length : Int) == 0) = false := fun {l x} h => by
    have h1 := add_full1 h
    cases hm : (addR l x).1 with
    | nil => exact absurd hm h1
    | cons a r => simp; omega
  have hcase : (((addR l x).2 != 0) = true ∧ (((addR l x).1.length : Int) == 0) = true) ∨ ((addR l x).2 = 0 ∧ (((addR l x).1.length : Int) == 0) = false ∧ ((addR (addR l x).1 y).2 != 0) = true ∧ (((addR (addR l x).1 y).1.length : Int) == 0) = true) ∨
      ((addR l x).2 = 0 ∧ (((addR l x).1.length : Int) == 0) = false ∧ (addR (addR l x).1 y).2 = 0 ∧ (((addR (addR l x).1 y).1.length : Int) == 0) = false ∧ ((addR l y).2 != 0) = true ∧ (((addR l y).1.length : Int) == 0) = true) ∨
      ((addR l x).2 = 0 ∧ (((addR l x).1.length : Int) == 0) = false ∧ (addR (addR l x).1 y).2 = 0 ∧ (((addR (addR l x).1 y).1.length : Int) == 0) = false ∧ (addR l y).2 = 0 ∧ (((addR l y).1.length : Int) == 0) = false ∧ ((addR (addR l y).1 x).2 != 0) = true ∧ (((addR (addR l y).1 x).1.length : Int) == 0) = true) ∨
      ((addR l x).2 = 0 ∧ (addR (addR l x).1 y).2 = 0 ∧ (addR l y).2 = 0 ∧ (addR (addR l y).1 x).2 = 0 ∧ rdsB (addR (addR l x).1 y).1 x.t k = rdsB (addR (addR l y).1 x).1 x.t k ∧ rdsB (addR (addR l x).1 y).1 y.t k = rdsB (addR (addR l y).1 x).1 y.t k) := by
    by_cases h1 : (addR l x).2 = 0
    · by_cases h2 : (addR (addR l x).1 y).2 = 0
      · by_cases h3 : (addR l y).2 = 0
        · by_cases h4 : (addR (addR l y).1 x).2 = 0
          · exact .inr (.inr (.inr (.inr ⟨h1, h2, h3, h4, turns k h1 h2 h3 h4 _, turns k h1 h2 h3 h4 _⟩)))
          · exact .inr (.inr (.inr (.inl ⟨h1, len1 h1, h2, len1 h2, h3, len1 h3, by simpa using h4, len0 h4⟩)))
        · exact .inr (.inr (.inl ⟨h1, len1 h1, h2, len1 h2, by simpa using h3, len0 h3⟩))
      · exact .inr (.inl ⟨h1, len1 h1, by simpa using h2, len0 h2⟩)
    · exact .inl ⟨by simpa using h1, len0 h1⟩
  have HCA := Lib.hid hcase
  clear hr hcase len0 len1
  generalize addR (addR l x).1 y = R2 at *
  generalize addR (addR l y).1 x = R4 at *
  generalize addR l x = R1 at *
  generalize addR l y = R3 at *
  obtain ⟨m1, E1⟩ := R1
  obtain ⟨m2, E2⟩ := R2
  obtain ⟨m3, E3⟩ := R3
  obtain ⟨m4, E4⟩ := R4
  simp only at HA1 HA2 HA3 HA4 HCA
  go_enter Try.func8, Try.ntmps8
  go_upto_region 1 with fail
  generalize ((w.alloc (.cells #[.slice A n c] 24)).alloc (.cells #[.int .i64 x.t, .string x.lo.s, .string x.hi.s] 26)).alloc (.cells #[.int .i64 y.t, .string y.lo.s, .string y.hi.s] 26) = W0 at *
  generalize w.heap.size + 2 = gy at *
  generalize w.heap.size + 1 = gx at *
  go_upto_region 3 with (go_at_call 24; (with_reducible refine (HA.out _).mono ?_); rintro e w1 ⟨rfl, hb⟩; have HX1 := Lib.hid (HX0.out.below hb); have HY1 := Lib.hid (HY0.out.below hb); clear hb)
  clear HX0 HY0
  go_cut [9, 10] (fun p e wx => ∃ (g : Nat) (A4 : Option Addr) (n4 c4 : Nat), p = .pointer (some ⟨g, 0, none⟩) ∧ e = .int .i64 E1 ∧ Lf w wx w.heap.size gx A n c x ∧ Lf w wx w.heap.size gy A n c y ∧ Stt wx g A4 n4 c4 m1)
  case first =>
    have HSO1 := Lib.hid fun W' (hb : Below w1.heap.size w1 W') => (show Below w1.heap.size w1 W' ∧ W'.cell? ⟨w.heap.size, 0, none⟩ = some (.slice A n c) ∧ W'.cell? ⟨gx, 0, none⟩ = some (.int .i64 x.t) ∧ W'.cell? ⟨gx, 1, none⟩ = some (.string x.lo.s) ∧ W'.cell? ⟨gx, 2, none⟩ = some (.string x.hi.s) ∧ W'.cell? ⟨gy, 0, none⟩ = some (.int .i64 y.t) ∧ W'.cell? ⟨gy, 1, none⟩ = some (.string y.lo.s) ∧ W'.cell? ⟨gy, 2, none⟩ = some (.string y.hi.s) from ⟨hb, cell_keep HX1.out.s hb, cell_keep HX1.out.x0 hb, cell_keep HX1.out.x1 hb, cell_keep HX1.out.x2 hb, cell_keep HY1.out.x0 hb, cell_keep HY1.out.x1 hb, cell_keep HY1.out.x2 hb⟩)
    have hbW := (Below.refl w1.heap.size w1).drew
    go_region_held3 (fun W' => Below w1.heap.size w1 W' ∧ W'.cell? ⟨w.heap.size, 0, none⟩ = some (.slice A n c) ∧ W'.cell? ⟨gx, 0, none⟩ = some (.int .i64 x.t) ∧ W'.cell? ⟨gx, 1, none⟩ = some (.string x.lo.s) ∧ W'.cell? ⟨gx, 2, none⟩ = some (.string x.hi.s) ∧ W'.cell? ⟨gy, 0, none⟩ = some (.int .i64 y.t) ∧ W'.cell? ⟨gy, 1, none⟩ = some (.string y.lo.s) ∧ W'.cell? ⟨gy, 2, none⟩ = some (.string y.hi.s))
      (first | exact HSO1.out _ hbW | exact HSO1.out _ hq2 | exact HSO1.out _ (hq2.alloc hq2.size _) | exact HSO1.out _ (hbW.alloc (Nat.le_refl _) _) | exact HSO1.out _ (hq2.setCell (by simp <;> omega) _) | (obtain ⟨s0, _⟩ := ‹Below w1.heap.size w1 _ ∧ _›; exact HSO1.out _ (s0.alloc s0.size _)))
      (first | (go_at_call 9; (with_reducible refine (HO.out _ (thn HX1.out.b (And.left ‹Below w1.heap.size w1 _ ∧ _›))).mono ?_); rintro e w2 ⟨A2, n2, c2, rfl, hr2, hb⟩; have hq2 : Below w1.heap.size w1 w2 := thn (And.left ‹Below w1.heap.size w1 _ ∧ _›) hb; have hz2 := hq2.size; (try (have hc5 := (new_keepD (W := w1) (v := .slice none 0 0) (t := 29) hb).1; have hf5 := (new_keepD (W := w1) (v := .slice none 0 0) (t := 29) hb).2)); (try (have hc5 := (new_keep (W := w1) (v := .slice none 0 0) (t := 29) hb).1; have hf5 := (new_keep (W := w1) (v := .slice none 0 0) (t := 29) hb).2)); clear hb) | (go_at_call 10; first | ((with_reducible refine (HA1.out _ _ _ _ hr2).mono ?_); rintro e w4 ⟨A4, n4, c4, rfl, hr4, hb⟩; have hq3 : Below w1.heap.size w1 w4 := thn hq2 hb; (try (have hc6 := cell_keep hc5 hb; have hf6 := (hb.frozen (p := ⟨_, 0, none⟩) (cell_lt hc5)).trans hf5; clear hc5 hf5)); clear hb hq2; have hq2 := hq3; clear hq3) | ((with_reducible refine (HA1.out _ _ _ _ (hr2.below (below1 _ _))).mono ?_); rintro e w4 ⟨A4, n4, c4, rfl, hr4, hb⟩; have hq3 : Below w1.heap.size w1 w4 := thn (thn hq2 (below1 _ _)) hb; obtain ⟨hc6, hf6⟩ := new_keep (W := w2) (v := .slice none 0 0) (t := 29) hb; clear hb hq2; have hq2 := hq3; clear hq3)))
    · have F0 := Lib.hid (HX1.out.below (hq2.alloc hq2.size (.cells #[.slice A4 n4 c4] 29)))
      have F1 := Lib.hid (HY1.out.below (hq2.alloc hq2.size (.cells #[.slice A4 n4 c4] 29)))
      have F2 := Lib.hid ((Stt.new hr4))
      clear hq2 hr4 hr2 hbW
      go_wp2_with fail
      go_meet
      exact ⟨w4.heap.size, A4, n4, c4, rfl, rfl, F0.out, F1.out, F2.out⟩
    · have F0 := Lib.hid (HX1.out.below (hq2.setCell (p := ⟨w2.heap.size, 0, none⟩) hz2 (.slice A4 n4 c4)))
      have F1 := Lib.hid (HY1.out.below (hq2.setCell (p := ⟨w2.heap.size, 0, none⟩) hz2 (.slice A4 n4 c4)))
      have F2 := Lib.hid ((Stt.mk (set_same (.slice A4 n4 c4) hc6) (hr4.slot hc6 _)))
      clear hq2 hr4 hr2 hbW hc6 hf6
      go_wp2_with fail
      go_meet
      exact ⟨w2.heap.size, A4, n4, c4, rfl, rfl, F0.out, F1.out, F2.out⟩
    · have F0 := Lib.hid (HX1.out.below (hq2.setCell (p := ⟨w1.heap.size, 0, none⟩) (Nat.le_refl _) (.slice A4 n4 c4)))
      have F1 := Lib.hid (HY1.out.below (hq2.setCell (p := ⟨w1.heap.size, 0, none⟩) (Nat.le_refl _) (.slice A4 n4 c4)))
      have F2 := Lib.hid ((Stt.mk (set_same (.slice A4 n4 c4) hc6) (hr4.slot hc6 _)))
      clear hq2 hr4 hr2 hbW hc6 hf6
      go_wp2_with fail
      go_meet
      exact ⟨w1.heap.size, A4, n4, c4, rfl, rfl, F0.out, F1.out, F2.out⟩
  case rest =>
  rename_i p9 e9 W5
  obtain ⟨g5, B5, k5, d5, rfl, rfl, hx, hy, ht⟩ := hcut
  have HX5 := Lib.hid hx
  have HY5 := Lib.hid hy
  have HT5 := Lib.hid ht
  clear hx hy ht HX1 HY1 
  have hx0 := HX5.out.x0
  have hx1 := HX5.out.x1
  have hx2 := HX5.out.x2
  have hy0 := HY5.out.x0
  have hy1 := HY5.out.x1
  have hy2 := HY5.out.x2
  have hst := HT5.out.s
  go_upto_region 5 with (go_at_call 10; (with_reducible refine (HA2.out _ _ _ _ HT5.out.r).mono ?_); rintro e w6 ⟨B6, k6, d6, rfl, hr6, hb⟩; have HX5b := Lib.hid (HX5.out.below hb); have HY5b := Lib.hid (HY5.out.below hb); have HT5z := Lib.hid (HT5.out.below hb); have HR6 := Lib.hid hr6; clear hb hr6)
  clear hx0 hx1 hx2 hy0 hy1 hy2 hst HX5 HY5 HT5
  have HX6 := Lib.hid (HX5b.out.below (below1 w6 (.cells #[.slice B6 k6 d6] 29)))
  have HY6 := Lib.hid (HY5b.out.below (below1 w6 (.cells #[.slice B6 k6 d6] 29)))
  have HT5b := Lib.hid (HT5z.out.below (below1 w6 (.cells #[.slice B6 k6 d6] 29)))
  have HT6 := Lib.hid (Stt.new HR6.out)
  clear HX5b HY5b HR6 HT5z
  generalize w6.alloc (.cells #[.slice B6 k6 d6] 29) = W6 at *
  generalize w6.heap.size = g6 at *
  go_cut [13, 14] (fun p e wx => ∃ (g : Nat) (A4 : Option Addr) (n4 c4 : Nat), p = .pointer (some ⟨g, 0, none⟩) ∧ e = .int .i64 E3 ∧ Lf w wx w.heap.size gx A n c x ∧ Lf w wx w.heap.size gy A n c y ∧ Stt wx g A4 n4 c4 m3 ∧ Stt wx g5 B5 k5 d5 m1 ∧ Stt wx g6 B6 k6 d6 m2)
  case first =>
    have HSO6 := Lib.hid fun W' (hb : Below W6.heap.size W6 W') => (show Below W6.heap.size W6 W' ∧ W'.cell? ⟨w.heap.size, 0, none⟩ = some (.slice A n c) ∧ W'.cell? ⟨gx, 0, none⟩ = some (.int .i64 x.t) ∧ W'.cell? ⟨gx, 1, none⟩ = some (.string x.lo.s) ∧ W'.cell? ⟨gx, 2, none⟩ = some (.string x.hi.s) ∧ W'.cell? ⟨gy, 0, none⟩ = some (.int .i64 y.t) ∧ W'.cell? ⟨gy, 1, none⟩ = some (.string y.lo.s) ∧ W'.cell? ⟨gy, 2, none⟩ = some (.string y.hi.s) from ⟨hb, cell_keep HX6.out.s hb, cell_keep HX6.out.x0 hb, cell_keep HX6.out.x1 hb, cell_keep HX6.out.x2 hb, cell_keep HY6.out.x0 hb, cell_keep HY6.out.x1 hb, cell_keep HY6.out.x2 hb⟩)
    have hbW := (Below.refl W6.heap.size W6).drew
    go_region_held3 (fun W' => Below W6.heap.size W6 W' ∧ W'.cell? ⟨w.heap.size, 0, none⟩ = some (.slice A n c) ∧ W'.cell? ⟨gx, 0, none⟩ = some (.int .i64 x.t) ∧ W'.cell? ⟨gx, 1, none⟩ = some (.string x.lo.s) ∧ W'.cell? ⟨gx, 2, none⟩ = some (.string x.hi.s) ∧ W'.cell? ⟨gy, 0, none⟩ = some (.int .i64 y.t) ∧ W'.cell? ⟨gy, 1, none⟩ = some (.string y.lo.s) ∧ W'.cell? ⟨gy, 2, none⟩ = some (.string y.hi.s))
      (first | exact HSO6.out _ hbW | exact HSO6.out _ hq2 | exact HSO6.out _ (hq2.alloc hq2.size _) | exact HSO6.out _ (hbW.alloc (Nat.le_refl _) _) | exact HSO6.out _ (hq2.setCell (by simp <;> omega) _) | (obtain ⟨s0, _⟩ := ‹Below W6.heap.size W6 _ ∧ _›; exact HSO6.out _ (s0.alloc s0.size _)))
      (first | (go_at_call 9; (with_reducible refine (HO.out _ (thn HX6.out.b (And.left ‹Below W6.heap.size W6 _ ∧ _›))).mono ?_); rintro e w2 ⟨A2, n2, c2, rfl, hr2, hb⟩; have hq2 : Below W6.heap.size W6 w2 := thn (And.left ‹Below W6.heap.size W6 _ ∧ _›) hb; have hz2 := hq2.size; (try (have hc5 := (new_keepD (W := W6) (v := .slice none 0 0) (t := 29) hb).1; have hf5 := (new_keepD (W := W6) (v := .slice none 0 0) (t := 29) hb).2)); (try (have hc5 := (new_keep (W := W6) (v := .slice none 0 0) (t := 29) hb).1; have hf5 := (new_keep (W := W6) (v := .slice none 0 0) (t := 29) hb).2)); clear hb) | (go_at_call 10; first | ((with_reducible refine (HA3.out _ _ _ _ hr2).mono ?_); rintro e w4 ⟨A4, n4, c4, rfl, hr4, hb⟩; have hq3 : Below W6.heap.size W6 w4 := thn hq2 hb; (try (have hc6 := cell_keep hc5 hb; have hf6 := (hb.frozen (p := ⟨_, 0, none⟩) (cell_lt hc5)).trans hf5; clear hc5 hf5)); clear hb hq2; have hq2 := hq3; clear hq3) | ((with_reducible refine (HA3.out _ _ _ _ (hr2.below (below1 _ _))).mono ?_); rintro e w4 ⟨A4, n4, c4, rfl, hr4, hb⟩; have hq3 : Below W6.heap.size W6 w4 := thn (thn hq2 (below1 _ _)) hb; obtain ⟨hc6, hf6⟩ := new_keep (W := w2) (v := .slice none 0 0) (t := 29) hb; clear hb hq2; have hq2 := hq3; clear hq3)))
    · have F0 := Lib.hid (HX6.out.below (hq2.alloc hq2.size (.cells #[.slice A4 n4 c4] 29)))
      have F1 := Lib.hid (HY6.out.below (hq2.alloc hq2.size (.cells #[.slice A4 n4 c4] 29)))
      have F2 := Lib.hid ((Stt.new hr4))
      have F3 := Lib.hid (HT5b.out.below (hq2.alloc hq2.size (.cells #[.slice A4 n4 c4] 29)))
      have F4 := Lib.hid (HT6.out.below (hq2.alloc hq2.size (.cells #[.slice A4 n4 c4] 29)))
      clear hq2 hr4 hr2 hbW
      go_wp2_with fail
      go_meet
      exact ⟨w4.heap.size, A4, n4, c4, rfl, rfl, F0.out, F1.out, F2.out, F3.out, F4.out⟩
    · have F0 := Lib.hid (HX6.out.below (hq2.setCell (p := ⟨w2.heap.size, 0, none⟩) hz2 (.slice A4 n4 c4)))
      have F1 := Lib.hid (HY6.out.below (hq2.setCell (p := ⟨w2.heap.size, 0, none⟩) hz2 (.slice A4 n4 c4)))
      have F2 := Lib.hid ((Stt.mk (set_same (.slice A4 n4 c4) hc6) (hr4.slot hc6 _)))
      have F3 := Lib.hid (HT5b.out.below (hq2.setCell (p := ⟨w2.heap.size, 0, none⟩) hz2 (.slice A4 n4 c4)))
      have F4 := Lib.hid (HT6.out.below (hq2.setCell (p := ⟨w2.heap.size, 0, none⟩) hz2 (.slice A4 n4 c4)))
      clear hq2 hr4 hr2 hbW hc6 hf6
      go_wp2_with fail
      go_meet
      exact ⟨w2.heap.size, A4, n4, c4, rfl, rfl, F0.out, F1.out, F2.out, F3.out, F4.out⟩
    · have F0 := Lib.hid (HX6.out.below (hq2.setCell (p := ⟨W6.heap.size, 0, none⟩) (Nat.le_refl _) (.slice A4 n4 c4)))
      have F1 := Lib.hid (HY6.out.below (hq2.setCell (p := ⟨W6.heap.size, 0, none⟩) (Nat.le_refl _) (.slice A4 n4 c4)))
      have F2 := Lib.hid ((Stt.mk (set_same (.slice A4 n4 c4) hc6) (hr4.slot hc6 _)))
      have F3 := Lib.hid (HT5b.out.below (hq2.setCell (p := ⟨W6.heap.size, 0, none⟩) (Nat.le_refl _) (.slice A4 n4 c4)))
      have F4 := Lib.hid (HT6.out.below (hq2.setCell (p := ⟨W6.heap.size, 0, none⟩) (Nat.le_refl _) (.slice A4 n4 c4)))
      clear hq2 hr4 hr2 hbW hc6 hf6
      go_wp2_with fail
      go_meet
      exact ⟨W6.heap.size, A4, n4, c4, rfl, rfl, F0.out, F1.out, F2.out, F3.out, F4.out⟩
  case rest =>
  rename_i p9 e9 W7
  obtain ⟨g7, B7, k7, d7, rfl, rfl, hx, hy, ht, hm0, hm1⟩ := hcut
  have HX7 := Lib.hid hx
  have HY7 := Lib.hid hy
  have HT7 := Lib.hid ht
  have HT5c := Lib.hid hm0
  have HT6b := Lib.hid hm1
  clear hx hy ht HX6 HY6 hm0 hm1 HT5b HT6
  have hx0 := HX7.out.x0
  have hx1 := HX7.out.x1
  have hx2 := HX7.out.x2
  have hy0 := HY7.out.x0
  have hy1 := HY7.out.x1
  have hy2 := HY7.out.x2
  have hst := HT7.out.s
  go_upto_region 7 with (go_at_call 10; (with_reducible refine (HA4.out _ _ _ _ HT7.out.r).mono ?_); rintro e w6 ⟨B8, k8, d8, rfl, hr6, hb⟩; have HX7b := Lib.hid (HX7.out.below hb); have HY7b := Lib.hid (HY7.out.below hb); have HT5cz := Lib.hid (HT5c.out.below hb); have HT6bz := Lib.hid (HT6b.out.below hb); have HT7z := Lib.hid (HT7.out.below hb); have HR6 := Lib.hid hr6; clear hb hr6)
  clear hx0 hx1 hx2 hy0 hy1 hy2 hst HX7 HY7 HT5c HT6b HT7
  have HX8 := Lib.hid (HX7b.out.below (below1 w6 (.cells #[.slice B8 k8 d8] 29)))
  have HY8 := Lib.hid (HY7b.out.below (below1 w6 (.cells #[.slice B8 k8 d8] 29)))
  have HT5d := Lib.hid (HT5cz.out.below (below1 w6 (.cells #[.slice B8 k8 d8] 29)))
  have HT6c := Lib.hid (HT6bz.out.below (below1 w6 (.cells #[.slice B8 k8 d8] 29)))
  have HT7b := Lib.hid (HT7z.out.below (below1 w6 (.cells #[.slice B8 k8 d8] 29)))
  have HT8 := Lib.hid (Stt.new HR6.out)
  clear HX7b HY7b HR6 HT5cz HT6bz HT7z
  generalize w6.alloc (.cells #[.slice B8 k8 d8] 29) = W8 at *
  generalize w6.heap.size = g8 at *
  have hs5 := HT5d.out.s
  have hs6 := HT6c.out.s
  have hs7 := HT7b.out.s
  have hs8 := HT8.out.s
  obtain rfl : k5 = m1.length := HT5d.out.r.len.symm
  obtain rfl : k6 = m2.length := HT6c.out.r.len.symm
  obtain rfl : k7 = m3.length := HT7b.out.r.len.symm
  obtain rfl : k8 = m4.length := HT8.out.r.len.symm
  rcases HCA.out with ⟨h1, e1⟩ | ⟨h1, e1, h2, e2⟩ | ⟨h1, e1, h2, e2, h3, e3⟩ | ⟨h1, e1, h2, e2, h3, e3, h4, e4⟩ | ⟨h1, h2, h3, h4, r1, r2⟩
  · go_wp2_with (go_at_call 21; (with_reducible refine (HN.out _ _).mono ?_); rintro e w7 ⟨rfl, rfl⟩)
    go_ret
    exact ⟨ret_bool (by simp [e1]), HX8.out.b⟩
  · subst h1
    go_wp2_with (go_at_call 21; (with_reducible refine (HN.out _ _).mono ?_); rintro e w7 ⟨rfl, rfl⟩)
    go_ret
    exact ⟨ret_bool (by simp [e1, e2]), HX8.out.b⟩
  · subst h1 h2
    go_wp2_with (go_at_call 21; (with_reducible refine (HN.out _ _).mono ?_); rintro e w7 ⟨rfl, rfl⟩)
    go_ret
    exact ⟨ret_bool (by simp [e1, e2, e3]), HX8.out.b⟩
  · subst h1 h2 h3
    go_wp2_with (go_at_call 21; (with_reducible refine (HN.out _ _).mono ?_); rintro e w7 ⟨rfl, rfl⟩)
    go_ret
    exact ⟨ret_bool (by simp [e1, e2, e3, e4]), HX8.out.b⟩
  · subst h1 h2 h3 h4
    have HBX := Lib.hid fun d os => HRD.out m2 x.t B6 m2.length d6 (grow (redrawn W8 d) os) (HT6c.out.r.below (below_regrown _ d os))
    have HBY := Lib.hid fun d os => HRD.out m2 y.t B6 m2.length d6 (grow (redrawn W8 d) os) (HT6c.out.r.below (below_regrown _ d os))
    have HDX := Lib.hid fun d os => HRD.out m4 x.t B8 m4.length d8 (grow (redrawn W8 d) os) (HT8.out.r.below (below_regrown _ d os))
    have HDY := Lib.hid fun d os => HRD.out m4 y.t B8 m4.length d8 (grow (redrawn W8 d) os) (HT8.out.r.below (below_regrown _ d os))
    rw [← r1] at HDX
    rw [← r2] at HDY
    clear r1 r2
    generalize rdsB m2 x.t k = b1 at *
    generalize rdsB m2 y.t k = b2 at *
    go_upto_region 9 with (go_at_call 21; (with_reducible refine (HN.out _ _).mono ?_); rintro e w7 ⟨rfl, rfl⟩)
    have p0 := cell_regrown hs6
    have p1 := cell_regrown hs8
    have p2 := cell_regrown HX8.out.x0
    have p3 := cell_regrown HY8.out.x0
    clear hs5 hs6 hs7 hs8
    cases b1
    all_goals
      refine wp_region_quiet_below (by kernel_rfl) (by kernel_rfl) ?_
      repeat (go_big_quiet_step (first | (with_reducible exact Calls.regrown_of (HBX.out _ _)) | (with_reducible exact Calls.regrown_of (HDX.out _ _)) | (with_reducible exact Calls.regrown_of (HBY.out _ _)) | (with_reducible exact Calls.regrown_of (HDY.out _ _))))
      refine wpQuiet_nil ?_
      intro w9 hw9
      obtain ⟨pp, rfl⟩ := hw9
      have HB9 := Lib.hid (thn HX8.out.b (below_regrown W8 pp.d pp.os))
      clear p0 p1 p2 p3
      generalize grow (redrawn W8 pp.d) pp.os = W9 at HB9 ⊢
      go_wp2
      go_ret
      exact ⟨ret_bool (by simp), HB9.out⟩
end Go.Proofs.Ytmjcmeebcochgaa
