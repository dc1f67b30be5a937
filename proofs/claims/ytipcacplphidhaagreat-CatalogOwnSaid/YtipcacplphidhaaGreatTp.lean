/- Whether a statement may be but for its expressions: the walk of isFormed. Conditions: statements that are read in memory. -/
import Derived.Test.YtipcacplphidhaaGreatTp0
import Derived.Test.YtipcacplphidhaaGreatTd
import Derived.Laws.Tables
import Derived.BigGuardPart
namespace Go.Proofs.YtipcacplphidhaaGreat.Sy
open Go.RowKit
set_option linter.unusedSimpArgs false
set_option linter.unusedVariables false

theorem form_world {w w1 : World} {X B : Obj} {old R : Array Value} {t : TypeId} (hb : Below w.heap.size w w1) (hh : w1.heap[w.heap.size]? = some X) :
    (((w1.alloc (.cells old t)).alloc B).setRow w1.heap.size R).heap[w.heap.size]? = some X ∧ (((w1.alloc (.cells old t)).alloc B).setRow w1.heap.size R).heap[w1.heap.size]? = some (.cells R t (0, 0)) ∧
    (((w1.alloc (.cells old t)).alloc B).setRow w1.heap.size R).heap[w1.heap.size + 1]? = some B ∧ Below w.heap.size w (((w1.alloc (.cells old t)).alloc B).setRow w1.heap.size R) := by
  have hz := heap_lt hh
  have n2 := heap_alloc_new (w1.alloc (.cells old t)) B
  rw [World.size_alloc] at n2
  refine ⟨?_, ?_, ?_, ?_⟩
  · rw [setRow_other _ _ _ _ (by omega), Below.heap_alloc _ _ _ (by simp; omega), Below.heap_alloc _ _ _ hz, hh]
  · exact setRow_heap _ _ _ _ _ _ (by rw [Below.heap_alloc _ _ _ (by simp), heap_alloc_new])
  · rw [setRow_other _ _ _ _ (by omega)]; exact n2
  · exact below_setRow ((hb.alloc hb.size _).alloc (by simp; omega) _) (by omega)

set_option maxHeartbeats 8000000 in
set_option maxRecDepth 100000 in
theorem sisFormed_any {n : Nat} (x : St n) (h : Hs) (k : Nat) (w : World) (hk : x.kind = k) (h1 : 1 ≤ k) (h2 : k ≤ 10) (hr : RdSt Any w x h) :
    Calls Tryz.prog 49 #[x.val h] w fun e w' => e = .returned (.bool (formedB x)) ∧ Below w.heap.size w w' := by
  have HFm := Lib.hid fun w => formOf_any k h1 h2 w
  have HR := Lib.hid hr
  have HK := Lib.hid hk
  obtain ⟨kind, tb, cols, key, ix, rows, sets, items, jn, on, wh, gr, ord, lim⟩ := x
  obtain ⟨⟨aC, cC⟩, ⟨aR, cR⟩, ⟨aS, cS⟩, ⟨aI, cI⟩, ⟨aO, cO⟩, ⟨aW, cW⟩, ⟨aG, cG⟩, ⟨aD, cD⟩⟩ := h
  obtain rfl : kind = k := hk
  unfold St.val St.cs
  dsimp only
  clear hr
  obtain ⟨ov, hov⟩ : ∃ ov : Int, ov = if jn.toList.isEmpty = true then 0 else 1 := ⟨_, rfl⟩
  have HOV := Lib.hid hov
  clear hov
  go_enter Tryz.func49, Tryz.ntmps49
  go_upto_region 2 with (first | (go_at_call 63; refine (HFm.out _).mono ?_; rintro e w1 ⟨rfl, hb⟩; have hh := heap1 hb; have hb1 := below_of1 hb; have hz1 := heap_lt hh) | (refine wpList_store_row rfl 125 (.tmp 3) (.tmp 9) rfl w1.heap.size (gRow k).toArray rfl rfl 125 _ ((Below.heap_alloc _ _ _ (by simp)).trans (heap_alloc_new _ _)) (by kernel_rfl) rfl (gRow_one k) ?_; have hq := form_world (B := .cells #[.int .i64 0, .int .i64 0] 123) (R := (gRow k).toArray) (old := #[.int .i64 0, .int .i64 0, .int .i64 0, .int .i64 0, .int .i64 0, .int .i64 0, .int .i64 0, .int .i64 0, .int .i64 0, .int .i64 0, .int .i64 0, .int .i64 0, .int .i64 0, .int .i64 0, .int .i64 0, .int .i64 0, .int .i64 0, .int .i64 0, .int .i64 0, .int .i64 0, .int .i64 0, .int .i64 0, .int .i64 0, .int .i64 0]) (t := 125) hb1 hh; generalize (World.setRow _ w1.heap.size (gRow k).toArray) = W at hq ⊢; obtain ⟨hX, hF, hO, hB⟩ := hq; obtain ⟨o0, o1, oz0, oz1⟩ := cells2 hO; have HX := Lib.hid hX; have HF := Lib.hid hF; have HO := Lib.hid hO; have HB := Lib.hid hB; clear hX hF hO hB))
  have hO2 : ((W.setCell ⟨w1.heap.size + 1, 0, none⟩ (.int .i64 0)).setCell ⟨w1.heap.size + 1, 1, none⟩ (.int .i64 0)).heap[w1.heap.size + 1]? = some (.cells #[.int .i64 0, .int .i64 0] 123 (0, 0)) := by
    have e1 := heap_setCell_same W (w1.heap.size + 1) 0 _ 123 (.int .i64 0) HO.out
    have e2 := heap_setCell_same _ (w1.heap.size + 1) 1 _ 123 (.int .i64 0) e1
    simpa using e2
  have hX2 : ((W.setCell ⟨w1.heap.size + 1, 0, none⟩ (.int .i64 0)).setCell ⟨w1.heap.size + 1, 1, none⟩ (.int .i64 0)).heap[w.heap.size]? = some (.cells #[.int .i64 k, .string tb, .slice aC cols.length cC, .string key, .string ix, .slice aR rows.length cR, .slice aS sets.length cS, .slice aI items.length cI, .string jn, .slice aO on.length cO, .slice aW wh.length cW, .slice aG gr.length cG, .slice aD ord.length cD, .int .i64 lim] 31 (0, 0)) := by
    rw [Below.heap_setCell _ _ _ _ (by simp; omega), Below.heap_setCell _ _ _ _ (by simp; omega), HX.out]
  have hF2 : ((W.setCell ⟨w1.heap.size + 1, 0, none⟩ (.int .i64 0)).setCell ⟨w1.heap.size + 1, 1, none⟩ (.int .i64 0)).heap[w1.heap.size]? = some (.cells (gRow k).toArray 125 (0, 0)) := by
    rw [Below.heap_setCell _ _ _ _ (by simp), Below.heap_setCell _ _ _ _ (by simp), HF.out]
  have hB2 := (HB.out.setCell (p := ⟨w1.heap.size + 1, 0, none⟩) (by simp; omega) (.int .i64 0)).setCell (p := ⟨w1.heap.size + 1, 1, none⟩) (by simp; omega) (.int .i64 0)
  clear HX HF HO HB o0 o1 oz0 oz1
  generalize (W.setCell ⟨w1.heap.size + 1, 0, none⟩ (.int .i64 0)).setCell ⟨w1.heap.size + 1, 1, none⟩ (.int .i64 0) = W2 at hO2 hX2 hF2 hB2 ⊢
  have hlt : w.heap.size < w1.heap.size := hz1
  clear hb hh hb1 hz1
  generalize w1.heap.size = b1 at hO2 hF2 hlt ⊢
  have HX := Lib.hid hX2
  have HF := Lib.hid hF2
  have HO := Lib.hid hO2
  have HB := Lib.hid hB2
  obtain ⟨o0, o1, oz0, oz1⟩ := cells2 hO2
  obtain ⟨x0, x1, x2, x3, x4, x5, x6, x7, x8, x9, x10, x11, x12, x13⟩ := cells14 hX2
  clear hX2 hF2 hO2 hB2
  go_upto_if 13 with (fail)
  go_cut [] (fun wc => wc.heap[w.heap.size]? = some (.cells #[.int .i64 k, .string tb, .slice aC cols.length cC, .string key, .string ix, .slice aR rows.length cR, .slice aS sets.length cS, .slice aI items.length cI, .string jn, .slice aO on.length cO, .slice aW wh.length cW, .slice aG gr.length cG, .slice aD ord.length cD, .int .i64 lim] 31 (0, 0)) ∧ wc.heap[b1]? = some (.cells (gRow k).toArray 125 (0, 0)) ∧ wc.heap[b1 + 1]? = some (.cells #[.int .i64 ov, .int .i64 ov] 123 (0, 0)) ∧ Below w.heap.size w wc)
  case first =>
    cases hj : jn.toList.isEmpty
    · have hj2 : ¬ jn.toList = [] := by simpa using hj
      go_wp2
      go_meet
      case rel =>
        refine ⟨?_, ?_, ?_, ?_⟩
        · rw [Below.heap_setCell _ _ _ _ (by simp; omega), Below.heap_setCell _ _ _ _ (by simp; omega), HX.out]
        · rw [Below.heap_setCell _ _ _ _ (by simp), Below.heap_setCell _ _ _ _ (by simp), HF.out]
        · have e1 := heap_setCell_same W2 (b1 + 1) 0 _ 123 (.int .i64 1) HO.out
          have e2 := heap_setCell_same _ (b1 + 1) 1 _ 123 (.int .i64 1) e1
          rw [HOV.out]
          simpa [hj2] using e2
        · exact (HB.out.setCell (p := ⟨b1 + 1, 0, none⟩) (by simp; omega) (.int .i64 1)).setCell (p := ⟨b1 + 1, 1, none⟩) (by simp; omega) (.int .i64 1)
    · have hj2 : jn.toList = [] := by simpa using hj
      go_wp2
      go_meet
      case rel => exact ⟨HX.out, HF.out, by rw [HOV.out]; simpa [hj2] using HO.out, HB.out⟩
  case rest =>
    obtain ⟨hX, hF, hO, hB⟩ := hcut
    clear HX HF HO HB o0 o1 oz0 oz1 x0 x1 x2 x3 x4 x5 x6 x7 x8 x9 x10 x11 x12 x13
    go_upto_region 4 with (fail)
    go_cut [5] (fun s5 wd => s5 = .bool (hasNm (gL k 0) (gH k 0) tb && hasNm (gL k 1) (gH k 1) key && hasNm (gL k 2) (gH k 2) ix && hasNm (gL k 3) (gH k 3) jn) ∧ wd.heap[w.heap.size]? = some (.cells #[.int .i64 k, .string tb, .slice aC cols.length cC, .string key, .string ix, .slice aR rows.length cR, .slice aS sets.length cS, .slice aI items.length cI, .string jn, .slice aO on.length cO, .slice aW wh.length cW, .slice aG gr.length cG, .slice aD ord.length cD, .int .i64 lim] 31 (0, 0)) ∧ wd.heap[b1]? = some (.cells (gRow k).toArray 125 (0, 0)) ∧ wd.heap[b1 + 1]? = some (.cells #[.int .i64 ov, .int .i64 ov] 123 (0, 0)) ∧ Below w.heap.size w wd)
    case first =>
      have HX := Lib.hid hX
      have HF := Lib.hid hF
      have HO := Lib.hid hO
      have HB := Lib.hid hB
      have hXl := heap_lt hX
      have hFl := heap_lt hF
      have hOl := heap_lt hO
      clear hX hF hO hB
      obtain ⟨-, x1, -, x3, x4, -, -, -, x8, -, -, -, -, -⟩ := cells14 HX.out; obtain ⟨f0, f1, f2, f3, f4, f5, f6, f7, -, -, -, -, -, -, -, -, -, -, -, -, -, -, -, -⟩ := cells24 HF.out
      have hN := Lib.hid fun lo hi s w => spHasname_any lo hi s w
      go_wp2_with (go_at_call 64; refine (hN.out _ _ _ _).mono ?_; rintro e w3 ⟨rfl, hb⟩; clear x1 x3 x4 x8 f0 f1 f2 f3 f4 f5 f6 f7; replace HX := Lib.hid ((hb.block _ hXl).trans HX.out); replace HF := Lib.hid ((hb.block _ hFl).trans HF.out); replace HO := Lib.hid ((hb.block _ hOl).trans HO.out); replace HB := Lib.hid (below_call hb HB.out HB.out.size); replace hXl := Nat.lt_of_lt_of_le hXl hb.size; replace hFl := Nat.lt_of_lt_of_le hFl hb.size; replace hOl := Nat.lt_of_lt_of_le hOl hb.size; clear hb; obtain ⟨-, x1, -, x3, x4, -, -, -, x8, -, -, -, -, -⟩ := cells14 HX.out; obtain ⟨f0, f1, f2, f3, f4, f5, f6, f7, -, -, -, -, -, -, -, -, -, -, -, -, -, -, -, -⟩ := cells24 HF.out)
      all_goals go_meet
      all_goals refine ⟨?_, HX.out, HF.out, HO.out, HB.out⟩
      all_goals simp [*]
    case rest =>
      obtain ⟨rfl, hX, hF, hO, hB⟩ := hcut
      go_upto_region 5 with (fail)
      go_cut [6] (fun s6 wd => s6 = .bool (spB (gL k 4) (gH k 4) cols.length && spB (gL k 5) (gH k 5) rows.length && spB (gL k 6) (gH k 6) sets.length && spB (gL k 7) (gH k 7) items.length && spB ov ov on.length &&
        spB (gL k 8) (gH k 8) wh.length && spB (gL k 9) (gH k 9) gr.length && spB (gL k 10) (gH k 10) ord.length && spB (gL k 11) (gH k 11) lim) ∧ wd.heap[w.heap.size]? = some (.cells #[.int .i64 k, .string tb, .slice aC cols.length cC, .string key, .string ix, .slice aR rows.length cR, .slice aS sets.length cS, .slice aI items.length cI, .string jn, .slice aO on.length cO, .slice aW wh.length cW, .slice aG gr.length cG, .slice aD ord.length cD, .int .i64 lim] 31 (0, 0)) ∧ wd.heap[b1]? = some (.cells (gRow k).toArray 125 (0, 0)) ∧ wd.heap[b1 + 1]? = some (.cells #[.int .i64 ov, .int .i64 ov] 123 (0, 0)) ∧ Below w.heap.size w wd)
      case first =>
        have HX := Lib.hid hX
        have HF := Lib.hid hF
        have HO := Lib.hid hO
        have HB := Lib.hid hB
        have hXl := heap_lt hX
        have hFl := heap_lt hF
        have hOl := heap_lt hO
        clear hX hF hO hB
        obtain ⟨-, -, x2, -, -, x5, x6, x7, -, x9, x10, x11, x12, x13⟩ := cells14 HX.out; obtain ⟨-, -, -, -, -, -, -, -, f8, f9, f10, f11, f12, f13, f14, f15, f16, f17, f18, f19, f20, f21, f22, f23⟩ := cells24 HF.out; obtain ⟨o0, o1, -, -⟩ := cells2 HO.out
        have hS := Lib.hid fun lo hi n w => spHas_any lo hi n w
        go_wp2_with (go_at_call 65; refine (hS.out _ _ _ _).mono ?_; rintro e w3 ⟨rfl, hb⟩; clear x2 x5 x6 x7 x9 x10 x11 x12 x13 f8 f9 f10 f11 f12 f13 f14 f15 f16 f17 f18 f19 f20 f21 f22 f23 o0 o1; replace HX := Lib.hid ((hb.block _ hXl).trans HX.out); replace HF := Lib.hid ((hb.block _ hFl).trans HF.out); replace HO := Lib.hid ((hb.block _ hOl).trans HO.out); replace HB := Lib.hid (below_call hb HB.out HB.out.size); replace hXl := Nat.lt_of_lt_of_le hXl hb.size; replace hFl := Nat.lt_of_lt_of_le hFl hb.size; replace hOl := Nat.lt_of_lt_of_le hOl hb.size; clear hb; obtain ⟨-, -, x2, -, -, x5, x6, x7, -, x9, x10, x11, x12, x13⟩ := cells14 HX.out; obtain ⟨-, -, -, -, -, -, -, -, f8, f9, f10, f11, f12, f13, f14, f15, f16, f17, f18, f19, f20, f21, f22, f23⟩ := cells24 HF.out; obtain ⟨o0, o1, -, -⟩ := cells2 HO.out)
        all_goals go_meet
        all_goals refine ⟨?_, HX.out, HF.out, HO.out, HB.out⟩
        all_goals simp [*]
      case rest =>
        obtain ⟨rfl, hX, hF, hO, hB⟩ := hcut
        clear hF hO
        have HX := Lib.hid hX
        have HB := Lib.hid hB
        have hXl := heap_lt hX
        clear hX hB
        obtain ⟨N, hN⟩ : ∃ N : Bool, N = (hasNm (gL k 0) (gH k 0) tb && hasNm (gL k 1) (gH k 1) key && hasNm (gL k 2) (gH k 2) ix && hasNm (gL k 3) (gH k 3) jn) := ⟨_, rfl⟩
        rw [← hN]
        have HN := Lib.hid hN
        clear hN
        obtain ⟨C, hC⟩ : ∃ C : Bool, C = (spB (gL k 4) (gH k 4) cols.length && spB (gL k 5) (gH k 5) rows.length && spB (gL k 6) (gH k 6) sets.length && spB (gL k 7) (gH k 7) items.length && spB ov ov on.length &&
          spB (gL k 8) (gH k 8) wh.length && spB (gL k 9) (gH k 9) gr.length && spB (gL k 10) (gH k 10) ord.length && spB (gL k 11) (gH k 11) lim) := ⟨_, rfl⟩
        rw [← hC]
        have HC := Lib.hid hC
        clear hC
        have hfin : formedB (⟨(k : Int), tb, cols, key, ix, rows, sets, items, jn, on, wh, gr, ord, lim⟩ : St n) = (N && C && cols.all colB && rows.all rowB && sets.all setB && ord.all ordB) := by
          rw [HN.out, HC.out, HOV.out]
          rfl
        clear HN HC HOV
        have KC1 := Lib.hid fun w1 hb => sallColumn_any aC cols.length cC cols w1 rfl (HR.out.C.below KC_ok hb)
        have KC2 := Lib.hid fun w1 hb => sallExprs_any aR rows.length cR rows w1 rfl (HR.out.R.below (KR_ok n) hb)
        have KC3 := Lib.hid fun w1 hb => sallSet_any aS sets.length cS sets w1 rfl (HR.out.S.below (KS_ok n) hb)
        have KC4 := Lib.hid fun w1 hb => sallOrder_any aD ord.length cD ord w1 rfl (HR.out.D.below KO_ok hb)
        generalize cols.all colB = g1 at *
        generalize rows.all rowB = g2 at *
        generalize sets.all setB = g3 at *
        generalize ord.all ordB = g4 at *
        have HZ := Lib.hid hfin
        clear hfin
        obtain ⟨-, -, x2, -, -, x5, x6, -, -, -, -, -, x12, -⟩ := cells14 HX.out
        go_wp2_with (first | (go_at_call 66; refine (KC1.out _ HB.out).mono ?_; rintro e w3 ⟨rfl, hb⟩; clear x2 x5 x6 x12; replace HX := Lib.hid ((hb.block _ hXl).trans HX.out); replace HB := Lib.hid (below_call hb HB.out HB.out.size); replace hXl := Nat.lt_of_lt_of_le hXl hb.size; clear hb; obtain ⟨-, -, x2, -, -, x5, x6, -, -, -, -, -, x12, -⟩ := cells14 HX.out) | (go_at_call 68; refine (KC2.out _ HB.out).mono ?_; rintro e w3 ⟨rfl, hb⟩; clear x2 x5 x6 x12; replace HX := Lib.hid ((hb.block _ hXl).trans HX.out); replace HB := Lib.hid (below_call hb HB.out HB.out.size); replace hXl := Nat.lt_of_lt_of_le hXl hb.size; clear hb; obtain ⟨-, -, x2, -, -, x5, x6, -, -, -, -, -, x12, -⟩ := cells14 HX.out) | (go_at_call 70; refine (KC3.out _ HB.out).mono ?_; rintro e w3 ⟨rfl, hb⟩; clear x2 x5 x6 x12; replace HX := Lib.hid ((hb.block _ hXl).trans HX.out); replace HB := Lib.hid (below_call hb HB.out HB.out.size); replace hXl := Nat.lt_of_lt_of_le hXl hb.size; clear hb; obtain ⟨-, -, x2, -, -, x5, x6, -, -, -, -, -, x12, -⟩ := cells14 HX.out) | (go_at_call 72; refine (KC4.out _ HB.out).mono ?_; rintro e w3 ⟨rfl, hb⟩; clear x2 x5 x6 x12; replace HX := Lib.hid ((hb.block _ hXl).trans HX.out); replace HB := Lib.hid (below_call hb HB.out HB.out.size); replace hXl := Nat.lt_of_lt_of_le hXl hb.size; clear hb; obtain ⟨-, -, x2, -, -, x5, x6, -, -, -, -, -, x12, -⟩ := cells14 HX.out))
        all_goals go_ret
        all_goals refine ⟨ret_bool ?_, HB.out⟩
        all_goals rw [HZ.out]
        all_goals simp [*]
end Go.Proofs.YtipcacplphidhaaGreat.Sy
