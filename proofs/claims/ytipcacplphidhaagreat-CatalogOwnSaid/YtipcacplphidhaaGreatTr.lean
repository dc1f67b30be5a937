/- What the reference's names answers of any statement: the walk. Conditions: a kind from 1 to 10. -/
import Derived.Test.YtipcacplphidhaaGreatTp0
import Derived.Test.YtipcacplphidhaaGreatTd
namespace Go.Proofs.YtipcacplphidhaaGreat.Sy
open Go.RowKit
set_option linter.unusedSimpArgs false
set_option linter.unusedVariables false

def ne0 (s : ByteArray) : Bool := !s.toList.isEmpty
/-- Its names may be, for the reference. -/
def namesB {n : Nat} (x : St n) : Bool :=
  (decide (x.kind ≤ 7) == ne0 x.tb) && ((x.kind == 1 || x.kind == 2) == ne0 x.key) && ((x.kind == 2) == ne0 x.ix) &&
  (!decide (x.kind ≤ 7) || nameB x.tb) && (!(x.kind == 1 || x.kind == 2) || nameB x.key) && (!(x.kind == 2) || nameB x.ix) && (!ne0 x.jn || ((x.kind == 7) && nameB x.jn))

set_option maxRecDepth 100000 in
set_option maxHeartbeats 4000000 in
theorem rnames_any {n : Nat} (x : St n) (h : Hs) (w : World) (h1 : 1 ≤ x.kind) (h2 : x.kind ≤ 10) : Calls Tryz.prog 43 #[x.val h] w fun e w' => e = .returned (.bool (namesB x)) ∧ Below w.heap.size w w' := by
  obtain ⟨kind, tb, cols, key, ix, rows, sets, items, jn, on, wh, gr, ord, lim⟩ := x
  obtain ⟨⟨aC, cC⟩, ⟨aR, cR⟩, ⟨aS, cS⟩, ⟨aI, cI⟩, ⟨aO, cO⟩, ⟨aW, cW⟩, ⟨aG, cG⟩, ⟨aD, cD⟩⟩ := h
  unfold St.val St.cs namesB
  dsimp only at h1 h2 ⊢
  have HN := Lib.hid fun (s : ByteArray) (w : World) => rName_any s w
  rcases (show kind = 1 ∨ kind = 2 ∨ kind = 7 ∨ (3 ≤ kind ∧ kind ≤ 6) ∨ 8 ≤ kind by omega) with rfl | rfl | rfl | ⟨k1, k2⟩ | k1
  · clear h1 h2
    go_enter Tryz.func43, Tryz.ntmps43
    go_wp2_with fail
    go_quiet (fail)
    have hX : ((w.alloc (.cells #[.int .i64 1, .string tb, .slice aC cols.length cC, .string key, .string ix, .slice aR rows.length cR, .slice aS sets.length cS, .slice aI items.length cI, .string jn, .slice aO on.length cO, .slice aW wh.length cW, .slice aG gr.length cG, .slice aD ord.length cD, .int .i64 lim] 31)).drewN nq).heap[w.heap.size]? = some (.cells #[.int .i64 1, .string tb, .slice aC cols.length cC, .string key, .string ix, .slice aR rows.length cR, .slice aS sets.length cS, .slice aI items.length cI, .string jn, .slice aO on.length cO, .slice aW wh.length cW, .slice aG gr.length cG, .slice aD ord.length cD, .int .i64 lim] 31 (0, 0)) := heap_alloc_new w _
    have hB := below_drewN (below1 w (.cells #[.int .i64 1, .string tb, .slice aC cols.length cC, .string key, .string ix, .slice aR rows.length cR, .slice aS sets.length cS, .slice aI items.length cI, .string jn, .slice aO on.length cO, .slice aW wh.length cW, .slice aG gr.length cG, .slice aD ord.length cD, .int .i64 lim] 31)) nq
    generalize ((w.alloc (.cells #[.int .i64 1, .string tb, .slice aC cols.length cC, .string key, .string ix, .slice aR rows.length cR, .slice aS sets.length cS, .slice aI items.length cI, .string jn, .slice aO on.length cO, .slice aW wh.length cW, .slice aG gr.length cG, .slice aD ord.length cD, .int .i64 lim] 31)).drewN nq) = W at hX hB ⊢
    have HX := Lib.hid hX
    have HB := Lib.hid hB
    have hXl := heap_lt hX
    clear hX hB
    obtain ⟨x0, x1, -, x3, x4, -, -, -, x8, -, -, -, -, -⟩ := cells14 HX.out
    go_wp2_with (go_at_call 58; refine (HN.out _ _).mono ?_; rintro e w3 ⟨rfl, hb⟩; clear x0 x1 x3 x4 x8; replace HX := Lib.hid ((hb.block _ hXl).trans HX.out); replace HB := Lib.hid (below_call hb HB.out HB.out.size); replace hXl := Nat.lt_of_lt_of_le hXl hb.size; clear hb; obtain ⟨x0, x1, -, x3, x4, -, -, -, x8, -, -, -, -, -⟩ := cells14 HX.out)
    all_goals go_ret
    all_goals refine ⟨ret_bool ?_, HB.out⟩
    all_goals first | (simp [ne0, *]; done) | (simp only [ne0, Bool.not_eq_true', Bool.not_eq_false', List.isEmpty_iff] at *; simp [*] <;> grind)
  · clear h1 h2
    go_enter Tryz.func43, Tryz.ntmps43
    go_wp2_with fail
    go_quiet (fail)
    have hX : ((w.alloc (.cells #[.int .i64 2, .string tb, .slice aC cols.length cC, .string key, .string ix, .slice aR rows.length cR, .slice aS sets.length cS, .slice aI items.length cI, .string jn, .slice aO on.length cO, .slice aW wh.length cW, .slice aG gr.length cG, .slice aD ord.length cD, .int .i64 lim] 31)).drewN nq).heap[w.heap.size]? = some (.cells #[.int .i64 2, .string tb, .slice aC cols.length cC, .string key, .string ix, .slice aR rows.length cR, .slice aS sets.length cS, .slice aI items.length cI, .string jn, .slice aO on.length cO, .slice aW wh.length cW, .slice aG gr.length cG, .slice aD ord.length cD, .int .i64 lim] 31 (0, 0)) := heap_alloc_new w _
    have hB := below_drewN (below1 w (.cells #[.int .i64 2, .string tb, .slice aC cols.length cC, .string key, .string ix, .slice aR rows.length cR, .slice aS sets.length cS, .slice aI items.length cI, .string jn, .slice aO on.length cO, .slice aW wh.length cW, .slice aG gr.length cG, .slice aD ord.length cD, .int .i64 lim] 31)) nq
    generalize ((w.alloc (.cells #[.int .i64 2, .string tb, .slice aC cols.length cC, .string key, .string ix, .slice aR rows.length cR, .slice aS sets.length cS, .slice aI items.length cI, .string jn, .slice aO on.length cO, .slice aW wh.length cW, .slice aG gr.length cG, .slice aD ord.length cD, .int .i64 lim] 31)).drewN nq) = W at hX hB ⊢
    have HX := Lib.hid hX
    have HB := Lib.hid hB
    have hXl := heap_lt hX
    clear hX hB
    obtain ⟨x0, x1, -, x3, x4, -, -, -, x8, -, -, -, -, -⟩ := cells14 HX.out
    go_wp2_with (go_at_call 58; refine (HN.out _ _).mono ?_; rintro e w3 ⟨rfl, hb⟩; clear x0 x1 x3 x4 x8; replace HX := Lib.hid ((hb.block _ hXl).trans HX.out); replace HB := Lib.hid (below_call hb HB.out HB.out.size); replace hXl := Nat.lt_of_lt_of_le hXl hb.size; clear hb; obtain ⟨x0, x1, -, x3, x4, -, -, -, x8, -, -, -, -, -⟩ := cells14 HX.out)
    all_goals go_ret
    all_goals refine ⟨ret_bool ?_, HB.out⟩
    all_goals first | (simp [ne0, *]; done) | (simp only [ne0, Bool.not_eq_true', Bool.not_eq_false', List.isEmpty_iff] at *; simp [*] <;> grind)
  · clear h1 h2
    go_enter Tryz.func43, Tryz.ntmps43
    go_wp2_with fail
    go_quiet (fail)
    have hX : ((w.alloc (.cells #[.int .i64 7, .string tb, .slice aC cols.length cC, .string key, .string ix, .slice aR rows.length cR, .slice aS sets.length cS, .slice aI items.length cI, .string jn, .slice aO on.length cO, .slice aW wh.length cW, .slice aG gr.length cG, .slice aD ord.length cD, .int .i64 lim] 31)).drewN nq).heap[w.heap.size]? = some (.cells #[.int .i64 7, .string tb, .slice aC cols.length cC, .string key, .string ix, .slice aR rows.length cR, .slice aS sets.length cS, .slice aI items.length cI, .string jn, .slice aO on.length cO, .slice aW wh.length cW, .slice aG gr.length cG, .slice aD ord.length cD, .int .i64 lim] 31 (0, 0)) := heap_alloc_new w _
    have hB := below_drewN (below1 w (.cells #[.int .i64 7, .string tb, .slice aC cols.length cC, .string key, .string ix, .slice aR rows.length cR, .slice aS sets.length cS, .slice aI items.length cI, .string jn, .slice aO on.length cO, .slice aW wh.length cW, .slice aG gr.length cG, .slice aD ord.length cD, .int .i64 lim] 31)) nq
    generalize ((w.alloc (.cells #[.int .i64 7, .string tb, .slice aC cols.length cC, .string key, .string ix, .slice aR rows.length cR, .slice aS sets.length cS, .slice aI items.length cI, .string jn, .slice aO on.length cO, .slice aW wh.length cW, .slice aG gr.length cG, .slice aD ord.length cD, .int .i64 lim] 31)).drewN nq) = W at hX hB ⊢
    have HX := Lib.hid hX
    have HB := Lib.hid hB
    have hXl := heap_lt hX
    clear hX hB
    obtain ⟨x0, x1, -, x3, x4, -, -, -, x8, -, -, -, -, -⟩ := cells14 HX.out
    go_wp2_with (go_at_call 58; refine (HN.out _ _).mono ?_; rintro e w3 ⟨rfl, hb⟩; clear x0 x1 x3 x4 x8; replace HX := Lib.hid ((hb.block _ hXl).trans HX.out); replace HB := Lib.hid (below_call hb HB.out HB.out.size); replace hXl := Nat.lt_of_lt_of_le hXl hb.size; clear hb; obtain ⟨x0, x1, -, x3, x4, -, -, -, x8, -, -, -, -, -⟩ := cells14 HX.out)
    all_goals go_ret
    all_goals refine ⟨ret_bool ?_, HB.out⟩
    all_goals first | (simp [ne0, *]; done) | (simp only [ne0, Bool.not_eq_true', Bool.not_eq_false', List.isEmpty_iff] at *; simp [*] <;> grind)
  · have e1 : (kind == 1) = false := by simp; omega
    have e2 : (kind == 2) = false := by simp; omega
    have e7 : (kind == 7) = false := by simp; omega
    have e8 : decide (kind ≤ 7) = true := by simp; omega
    clear h1 h2 k1 k2
    go_enter Tryz.func43, Tryz.ntmps43
    go_wp2_with fail
    go_quiet (fail)
    have hX : ((w.alloc (.cells #[.int .i64 kind, .string tb, .slice aC cols.length cC, .string key, .string ix, .slice aR rows.length cR, .slice aS sets.length cS, .slice aI items.length cI, .string jn, .slice aO on.length cO, .slice aW wh.length cW, .slice aG gr.length cG, .slice aD ord.length cD, .int .i64 lim] 31)).drewN nq).heap[w.heap.size]? = some (.cells #[.int .i64 kind, .string tb, .slice aC cols.length cC, .string key, .string ix, .slice aR rows.length cR, .slice aS sets.length cS, .slice aI items.length cI, .string jn, .slice aO on.length cO, .slice aW wh.length cW, .slice aG gr.length cG, .slice aD ord.length cD, .int .i64 lim] 31 (0, 0)) := heap_alloc_new w _
    have hB := below_drewN (below1 w (.cells #[.int .i64 kind, .string tb, .slice aC cols.length cC, .string key, .string ix, .slice aR rows.length cR, .slice aS sets.length cS, .slice aI items.length cI, .string jn, .slice aO on.length cO, .slice aW wh.length cW, .slice aG gr.length cG, .slice aD ord.length cD, .int .i64 lim] 31)) nq
    generalize ((w.alloc (.cells #[.int .i64 kind, .string tb, .slice aC cols.length cC, .string key, .string ix, .slice aR rows.length cR, .slice aS sets.length cS, .slice aI items.length cI, .string jn, .slice aO on.length cO, .slice aW wh.length cW, .slice aG gr.length cG, .slice aD ord.length cD, .int .i64 lim] 31)).drewN nq) = W at hX hB ⊢
    have HX := Lib.hid hX
    have HB := Lib.hid hB
    have hXl := heap_lt hX
    clear hX hB
    obtain ⟨x0, x1, -, x3, x4, -, -, -, x8, -, -, -, -, -⟩ := cells14 HX.out
    go_wp2_with (go_at_call 58; refine (HN.out _ _).mono ?_; rintro e w3 ⟨rfl, hb⟩; clear x0 x1 x3 x4 x8; replace HX := Lib.hid ((hb.block _ hXl).trans HX.out); replace HB := Lib.hid (below_call hb HB.out HB.out.size); replace hXl := Nat.lt_of_lt_of_le hXl hb.size; clear hb; obtain ⟨x0, x1, -, x3, x4, -, -, -, x8, -, -, -, -, -⟩ := cells14 HX.out)
    all_goals go_ret
    all_goals refine ⟨ret_bool ?_, HB.out⟩
    all_goals first | (simp [ne0, *]; done) | (simp only [ne0, Bool.not_eq_true', Bool.not_eq_false', List.isEmpty_iff] at *; simp [*] <;> grind)
  · have e1 : (kind == 1) = false := by simp; omega
    have e2 : (kind == 2) = false := by simp; omega
    have e7 : (kind == 7) = false := by simp; omega
    have e8 : decide (kind ≤ 7) = false := by simp; omega
    clear h1 h2 k1
    go_enter Tryz.func43, Tryz.ntmps43
    go_wp2_with fail
    go_quiet (fail)
    have hX : ((w.alloc (.cells #[.int .i64 kind, .string tb, .slice aC cols.length cC, .string key, .string ix, .slice aR rows.length cR, .slice aS sets.length cS, .slice aI items.length cI, .string jn, .slice aO on.length cO, .slice aW wh.length cW, .slice aG gr.length cG, .slice aD ord.length cD, .int .i64 lim] 31)).drewN nq).heap[w.heap.size]? = some (.cells #[.int .i64 kind, .string tb, .slice aC cols.length cC, .string key, .string ix, .slice aR rows.length cR, .slice aS sets.length cS, .slice aI items.length cI, .string jn, .slice aO on.length cO, .slice aW wh.length cW, .slice aG gr.length cG, .slice aD ord.length cD, .int .i64 lim] 31 (0, 0)) := heap_alloc_new w _
    have hB := below_drewN (below1 w (.cells #[.int .i64 kind, .string tb, .slice aC cols.length cC, .string key, .string ix, .slice aR rows.length cR, .slice aS sets.length cS, .slice aI items.length cI, .string jn, .slice aO on.length cO, .slice aW wh.length cW, .slice aG gr.length cG, .slice aD ord.length cD, .int .i64 lim] 31)) nq
    generalize ((w.alloc (.cells #[.int .i64 kind, .string tb, .slice aC cols.length cC, .string key, .string ix, .slice aR rows.length cR, .slice aS sets.length cS, .slice aI items.length cI, .string jn, .slice aO on.length cO, .slice aW wh.length cW, .slice aG gr.length cG, .slice aD ord.length cD, .int .i64 lim] 31)).drewN nq) = W at hX hB ⊢
    have HX := Lib.hid hX
    have HB := Lib.hid hB
    have hXl := heap_lt hX
    clear hX hB
    obtain ⟨x0, x1, -, x3, x4, -, -, -, x8, -, -, -, -, -⟩ := cells14 HX.out
    go_wp2_with (go_at_call 58; refine (HN.out _ _).mono ?_; rintro e w3 ⟨rfl, hb⟩; clear x0 x1 x3 x4 x8; replace HX := Lib.hid ((hb.block _ hXl).trans HX.out); replace HB := Lib.hid (below_call hb HB.out HB.out.size); replace hXl := Nat.lt_of_lt_of_le hXl hb.size; clear hb; obtain ⟨x0, x1, -, x3, x4, -, -, -, x8, -, -, -, -, -⟩ := cells14 HX.out)
    all_goals go_ret
    all_goals refine ⟨ret_bool ?_, HB.out⟩
    all_goals first | (simp [ne0, *]; done) | (simp only [ne0, Bool.not_eq_true', Bool.not_eq_false', List.isEmpty_iff] at *; simp [*] <;> grind)
end Go.Proofs.YtipcacplphidhaaGreat.Sy
