/- What stands in a statement's lists, by the reference: the walk of lists. Conditions: statements that are read in memory. -/
import Derived.Test.YtipcacplphidhaaGreatEa
import Derived.Test.YtipcacplphidhaaGreatTl
namespace Go.Proofs.YtipcacplphidhaaGreat.Sy
open Go.RowKit
set_option linter.unusedSimpArgs false
set_option linter.unusedVariables false

set_option maxHeartbeats 8000000 in
set_option maxRecDepth 100000 in
theorem rlists_any {n : Nat} (x : St n) (h : Hs) (w : World) (hr : RdSt Any w x h) : Calls Tryz.prog 44 #[x.val h] w fun e w' => e = .returned (.bool (listsB x)) ∧ Below w.heap.size w w' := by
  have hnm := fun s w => rName_any s w
  have HNM := Lib.hid hnm
  clear hnm
  obtain ⟨kind, tb, cols, key, ix, rows, sets, items, jn, on, wh, gr, ord, lim⟩ := x
  obtain ⟨⟨aC, cC⟩, ⟨aR, cR⟩, ⟨aS, cS⟩, ⟨aI, cI⟩, ⟨aO, cO⟩, ⟨aW, cW⟩, ⟨aG, cG⟩, ⟨aD, cD⟩⟩ := h
  have kC : cols.length ≤ 9223372036854775807 := by have := hr.C.hdr.2; dsimp only at this; omega
  have kR : rows.length ≤ 9223372036854775807 := by have := hr.R.hdr.2; dsimp only at this; omega
  have kS : sets.length ≤ 9223372036854775807 := by have := hr.S.hdr.2; dsimp only at this; omega
  have kD : ord.length ≤ 9223372036854775807 := by have := hr.D.hdr.2; dsimp only at this; omega
  have HR := Lib.hid hr
  clear hr
  unfold listsB St.val St.cs
  dsimp only
  go_enter Tryz.func44, Tryz.ntmps44
  go_wp2_with fail
  have hX := heap_alloc_new w (.cells #[.int .i64 kind, .string tb, .slice aC cols.length cC, .string key, .string ix, .slice aR rows.length cR, .slice aS sets.length cS, .slice aI items.length cI, .string jn, .slice aO on.length cO, .slice aW wh.length cW, .slice aG gr.length cG, .slice aD ord.length cD, .int .i64 lim] 31)
  go_loopw [3] (fun i wr => ∃ j : Nat, j ≤ cols.length ∧ i = .int .i64 j ∧ (cols.take j).all colB = true ∧ wr.heap[w.heap.size]? = some (.cells #[.int .i64 kind, .string tb, .slice aC cols.length cC, .string key, .string ix, .slice aR rows.length cR, .slice aS sets.length cS, .slice aI items.length cI, .string jn, .slice aO on.length cO, .slice aW wh.length cW, .slice aG gr.length cG, .slice aD ord.length cD, .int .i64 lim] 31 (0, 0)) ∧ Below w.heap.size w wr) (fun i _ => cols.length - (intOf i).toNat)
  case atStart => exact ⟨0, by omega, rfl, rfl, hX, below1 _ _⟩
  case round =>
    obtain ⟨j, hj, rfl, hw, hX, hb⟩ := hrel
    have HW := Lib.hid hw
    have HB := Lib.hid hb
    have hz := hb.size
    clear hw hb
    obtain ⟨x0, x1, x2, x3, x4, x5, x6, x7, x8, x9, x10, x11, x12, x13⟩ := cells14 hX
    have hz1 : w.heap.size < wr.heap.size := cell_lt x0
    by_cases hlt : j < cols.length
    · obtain ⟨ad, rfl, p0, p1, p2⟩ := (HR.out.C.below KC_ok HB.out).col (j := j) hlt
      have hx : cols[j]? = some cols[j] := List.getElem?_eq_getElem hlt
      generalize cols[j] = y at p0 p1 p2 hx
      have HS := Lib.hid fun h => take_all (y := y) hx HW.out h
      have HN := Lib.hid fun h => all_no (f := colB) hx h
      clear hx
      have hc := HNM.out y.m
      clear p2
      cases hn : nameB y.m
      · rw [hn] at hc
        have hf : colB y = false := by unfold colB; rw [hn]; rfl
        have HN := Lib.hid (HN.out hf)
        clear hf hn HS
        go_wp2_with (go_at_call 58; refine (hc _).mono ?_; rintro e w2 ⟨rfl, hb⟩; have hX2 := (hb.block _ hz1).trans hX; clear x0 x1 x2 x3 x4 x5 x6 x7 x8 x9 x10 x11 x12 x13; obtain ⟨x0, x1, x2, x3, x4, x5, x6, x7, x8, x9, x10, x11, x12, x13⟩ := cells14 hX2; replace p0 := cell_keep p0 hb; replace p1 := cell_keep p1 hb; replace HB := Lib.hid (below_call hb HB.out HB.out.size); clear hb)
        go_ret
        exact ⟨ret_bool (by rw [HN.out]; rfl), HB.out⟩
      · rw [hn] at hc
        by_cases h1 : y.k < 1
        · have hf : colB y = false := by unfold colB spB; simp; omega
          have HN := Lib.hid (HN.out hf)
          have d1 : decide (y.k < 1) = true := by simpa using h1
          clear hf hn HS h1
          go_wp2_with (go_at_call 58; refine (hc _).mono ?_; rintro e w2 ⟨rfl, hb⟩; have hX2 := (hb.block _ hz1).trans hX; clear x0 x1 x2 x3 x4 x5 x6 x7 x8 x9 x10 x11 x12 x13; obtain ⟨x0, x1, x2, x3, x4, x5, x6, x7, x8, x9, x10, x11, x12, x13⟩ := cells14 hX2; replace p0 := cell_keep p0 hb; replace p1 := cell_keep p1 hb; replace HB := Lib.hid (below_call hb HB.out HB.out.size); clear hb)
          go_ret
          exact ⟨ret_bool (by rw [HN.out]; rfl), HB.out⟩
        · have d1 : decide (y.k < 1) = false := by simpa using h1
          by_cases h2 : 3 < y.k
          · have hf : colB y = false := by unfold colB spB; simp; omega
            have HN := Lib.hid (HN.out hf)
            have d2 : decide (3 < y.k) = true := by simpa using h2
            clear hf hn HS h1 h2
            go_wp2_with (go_at_call 58; refine (hc _).mono ?_; rintro e w2 ⟨rfl, hb⟩; have hX2 := (hb.block _ hz1).trans hX; clear x0 x1 x2 x3 x4 x5 x6 x7 x8 x9 x10 x11 x12 x13; obtain ⟨x0, x1, x2, x3, x4, x5, x6, x7, x8, x9, x10, x11, x12, x13⟩ := cells14 hX2; replace p0 := cell_keep p0 hb; replace p1 := cell_keep p1 hb; replace HB := Lib.hid (below_call hb HB.out HB.out.size); clear hb)
            go_ret
            exact ⟨ret_bool (by rw [HN.out]; rfl), HB.out⟩
          · have hf : colB y = true := by unfold colB spB; rw [hn]; simp; omega
            have HS := Lib.hid (HS.out hf)
            have d2 : decide (3 < y.k) = false := by simpa using h2
            clear hf hn HN h1 h2
            go_wp2_with (go_at_call 58; refine (hc _).mono ?_; rintro e w2 ⟨rfl, hb⟩; have hX2 := (hb.block _ hz1).trans hX; clear x0 x1 x2 x3 x4 x5 x6 x7 x8 x9 x10 x11 x12 x13; obtain ⟨x0, x1, x2, x3, x4, x5, x6, x7, x8, x9, x10, x11, x12, x13⟩ := cells14 hX2; replace p0 := cell_keep p0 hb; replace p1 := cell_keep p1 hb; replace HB := Lib.hid (below_call hb HB.out HB.out.size); clear hb)
            go_roundw
            case rel => exact ⟨j + 1, by omega, by go_num, HS.out, hX2, HB.out⟩
            case measure => simp [intOf]; omega
    · have HL := Lib.hid (all_yes HW.out (by omega))
      clear HW
      have L1 := HL
      clear HL
      go_wp2_with fail
      go_loopw [4] (fun i wr => ∃ j : Nat, j ≤ rows.length ∧ i = .int .i64 j ∧ (rows.take j).all rowB = true ∧ wr.heap[w.heap.size]? = some (.cells #[.int .i64 kind, .string tb, .slice aC cols.length cC, .string key, .string ix, .slice aR rows.length cR, .slice aS sets.length cS, .slice aI items.length cI, .string jn, .slice aO on.length cO, .slice aW wh.length cW, .slice aG gr.length cG, .slice aD ord.length cD, .int .i64 lim] 31 (0, 0)) ∧ Below w.heap.size w wr) (fun i _ => rows.length - (intOf i).toNat)
      case atStart => exact ⟨0, by omega, rfl, rfl, hX, HB.out⟩
      case round =>
        obtain ⟨j, hj, rfl, hw, hX, hb⟩ := hrel
        have HW := Lib.hid hw
        have HB := Lib.hid hb
        have hz := hb.size
        clear hw hb
        obtain ⟨x0, x1, x2, x3, x4, x5, x6, x7, x8, x9, x10, x11, x12, x13⟩ := cells14 hX
        have hz1 : w.heap.size < wr.heap.size := cell_lt x0
        by_cases hlt : j < rows.length
        · obtain ⟨ad, a1, c1, rfl, p0, _⟩ := (HR.out.R.below (KR_ok n) HB.out).row (j := j) hlt
          have hx : rows[j]? = some rows[j] := List.getElem?_eq_getElem hlt
          generalize rows[j] = y at p0 hx
          have HS := Lib.hid fun h => take_all (y := y) hx HW.out h
          have HN := Lib.hid fun h => all_no (f := rowB) hx h
          clear hx
          by_cases h1 : (y.length : Int) < 1
          · have hf : rowB y = false := by unfold rowB spB; simp; omega
            have HN := Lib.hid (HN.out hf)
            have d1 : decide ((y.length : Int) < 1) = true := by simpa using h1
            clear hf HS h1
            go_wp2
            go_ret
            exact ⟨ret_bool (by simp [HN.out, L1.out]), HB.out⟩
          · have d1 : decide ((y.length : Int) < 1) = false := by simpa using h1
            by_cases h2 : 8 < (y.length : Int)
            · have hf : rowB y = false := by unfold rowB spB; simp; omega
              have HN := Lib.hid (HN.out hf)
              have d2 : decide (8 < (y.length : Int)) = true := by simpa using h2
              clear hf HS h1 h2
              go_wp2
              go_ret
              exact ⟨ret_bool (by simp [HN.out, L1.out]), HB.out⟩
            · have hf : rowB y = true := by unfold rowB spB; simp; omega
              have HS := Lib.hid (HS.out hf)
              have d2 : decide (8 < (y.length : Int)) = false := by simpa using h2
              clear hf HN h1 h2
              go_wp2
              go_roundw
              case rel => exact ⟨j + 1, by omega, by go_num, HS.out, hX, HB.out⟩
              case measure => simp [intOf]; omega
        · have HL := Lib.hid (all_yes HW.out (by omega))
          clear HW
          have L2 := HL
          clear HL
          go_wp2_with fail
          go_loopw [5] (fun i wr => ∃ j : Nat, j ≤ sets.length ∧ i = .int .i64 j ∧ (sets.take j).all setB = true ∧ wr.heap[w.heap.size]? = some (.cells #[.int .i64 kind, .string tb, .slice aC cols.length cC, .string key, .string ix, .slice aR rows.length cR, .slice aS sets.length cS, .slice aI items.length cI, .string jn, .slice aO on.length cO, .slice aW wh.length cW, .slice aG gr.length cG, .slice aD ord.length cD, .int .i64 lim] 31 (0, 0)) ∧ Below w.heap.size w wr) (fun i _ => sets.length - (intOf i).toNat)
          case atStart => exact ⟨0, by omega, rfl, rfl, hX, HB.out⟩
          case round =>
            obtain ⟨j, hj, rfl, hw, hX, hb⟩ := hrel
            have HW := Lib.hid hw
            have HB := Lib.hid hb
            have hz := hb.size
            clear hw hb
            obtain ⟨x0, x1, x2, x3, x4, x5, x6, x7, x8, x9, x10, x11, x12, x13⟩ := cells14 hX
            have hz1 : w.heap.size < wr.heap.size := cell_lt x0
            by_cases hlt : j < sets.length
            · obtain ⟨ad, a1, c1, rfl, ⟨p0, p1, p2, p3, p4, p5, p6, p7⟩, _⟩ := (HR.out.S.below (KS_ok n) HB.out).set (j := j) hlt
              clear p1 p2 p3 p4 p5 p6 p7
              have hx : sets[j]? = some sets[j] := List.getElem?_eq_getElem hlt
              generalize sets[j] = y at p0 hx
              have HS := Lib.hid fun h => take_all (y := y) hx HW.out h
              have HN := Lib.hid fun h => all_no (f := setB) hx h
              clear hx
              have hc := HNM.out y.m
              cases hn : nameB y.m
              · rw [hn] at hc
                have hf : setB y = false := hn
                have HN := Lib.hid (HN.out hf)
                clear hf hn HS
                go_wp2_with (go_at_call 58; refine (hc _).mono ?_; rintro e w2 ⟨rfl, hb⟩; have hX2 := (hb.block _ hz1).trans hX; clear x0 x1 x2 x3 x4 x5 x6 x7 x8 x9 x10 x11 x12 x13; obtain ⟨x0, x1, x2, x3, x4, x5, x6, x7, x8, x9, x10, x11, x12, x13⟩ := cells14 hX2; replace p0 := cell_keep p0 hb; replace HB := Lib.hid (below_call hb HB.out HB.out.size); clear hb)
                go_ret
                exact ⟨ret_bool (by simp [HN.out, L1.out, L2.out]), HB.out⟩
              · rw [hn] at hc
                have hf : setB y = true := hn
                have HS := Lib.hid (HS.out hf)
                clear hf hn HN
                go_wp2_with (go_at_call 58; refine (hc _).mono ?_; rintro e w2 ⟨rfl, hb⟩; have hX2 := (hb.block _ hz1).trans hX; clear x0 x1 x2 x3 x4 x5 x6 x7 x8 x9 x10 x11 x12 x13; obtain ⟨x0, x1, x2, x3, x4, x5, x6, x7, x8, x9, x10, x11, x12, x13⟩ := cells14 hX2; replace p0 := cell_keep p0 hb; replace HB := Lib.hid (below_call hb HB.out HB.out.size); clear hb)
                go_roundw
                case rel => exact ⟨j + 1, by omega, by go_num, HS.out, hX2, HB.out⟩
                case measure => simp [intOf]; omega
            · have HL := Lib.hid (all_yes HW.out (by omega))
              clear HW
              have L3 := HL
              clear HL
              go_wp2_with fail
              go_loopw [6] (fun i wr => ∃ j : Nat, j ≤ ord.length ∧ i = .int .i64 j ∧ (ord.take j).all ordB = true ∧ wr.heap[w.heap.size]? = some (.cells #[.int .i64 kind, .string tb, .slice aC cols.length cC, .string key, .string ix, .slice aR rows.length cR, .slice aS sets.length cS, .slice aI items.length cI, .string jn, .slice aO on.length cO, .slice aW wh.length cW, .slice aG gr.length cG, .slice aD ord.length cD, .int .i64 lim] 31 (0, 0)) ∧ Below w.heap.size w wr) (fun i _ => ord.length - (intOf i).toNat)
              case atStart => exact ⟨0, by omega, rfl, rfl, hX, HB.out⟩
              case round =>
                obtain ⟨j, hj, rfl, hw, hX, hb⟩ := hrel
                have HW := Lib.hid hw
                have HB := Lib.hid hb
                have hz := hb.size
                clear hw hb
                obtain ⟨x0, x1, x2, x3, x4, x5, x6, x7, x8, x9, x10, x11, x12, x13⟩ := cells14 hX
                have hz1 : w.heap.size < wr.heap.size := cell_lt x0
                by_cases hlt : j < ord.length
                · obtain ⟨ad, rfl, p0, p1⟩ := (HR.out.D.below KO_ok HB.out).ord (j := j) hlt
                  clear p1
                  have hx : ord[j]? = some ord[j] := List.getElem?_eq_getElem hlt
                  generalize ord[j] = y at p0 hx
                  have HS := Lib.hid fun h => take_all (y := y) hx HW.out h
                  have HN := Lib.hid fun h => all_no (f := ordB) hx h
                  clear hx
                  by_cases h1 : y.n < 1
                  · have hf : ordB y = false := by unfold ordB spB; simp; omega
                    have HN := Lib.hid (HN.out hf)
                    have d1 : decide (y.n < 1) = true := by simpa using h1
                    clear hf HS h1
                    go_wp2
                    go_ret
                    exact ⟨ret_bool (by simp [HN.out, L1.out, L2.out, L3.out]), HB.out⟩
                  · have d1 : decide (y.n < 1) = false := by simpa using h1
                    by_cases h2 : 16 < y.n
                    · have hf : ordB y = false := by unfold ordB spB; simp; omega
                      have HN := Lib.hid (HN.out hf)
                      have d2 : decide (16 < y.n) = true := by simpa using h2
                      clear hf HS h1 h2
                      go_wp2
                      go_ret
                      exact ⟨ret_bool (by simp [HN.out, L1.out, L2.out, L3.out]), HB.out⟩
                    · have hf : ordB y = true := by unfold ordB spB; simp; omega
                      have HS := Lib.hid (HS.out hf)
                      have d2 : decide (16 < y.n) = false := by simpa using h2
                      clear hf HN h1 h2
                      go_wp2
                      go_roundw
                      case rel => exact ⟨j + 1, by omega, by go_num, HS.out, hX, HB.out⟩
                      case measure => simp [intOf]; omega
                · have HL := Lib.hid (all_yes HW.out (by omega))
                  clear HW
                  go_wp2
                  go_ret
                  exact ⟨ret_bool (by simp [HL.out, L1.out, L2.out, L3.out]), HB.out⟩
end Go.Proofs.YtipcacplphidhaaGreat.Sy
