/- SyntaxPrints answers true: the walk. Conditions: statements that are read in memory; the tables that strconv and strings read, as they are laid. -/
import Derived.Test.YtnbgnofbeklmkaaDoorGf
import Derived.Test.YtnbgnofbeklmkaaDoorFc
import Derived.Test.YtnbgnofbeklmkaaDoorUk
namespace Go.Proofs.YtnbgnofbeklmkaaDoor
open Go.RowKit
set_option linter.unusedSimpArgs false
set_option linter.unusedVariables false

theorem stX_eq {n : Nat} {x y : St n} (hx : chkSt x = 0) (hy : chkSt y = 0) : ((stX x).toList == (stX y).toList) = eqX x y := by
  rw [Bool.eq_iff_iff, beq_iff_eq, eqX_iff, stX_ok hx, stX_ok hy, ba_iff]
  refine ⟨fun h => st_inj hx hy ?_, fun h => by rw [h]⟩
  have := congrArg (fun b : ByteArray => b.data.toList) h
  simpa using this
theorem wnum_b {n : Int} (w : World) : Calls Tryd.prog 6 #[.int .i64 n] w fun e w' => e = .returned (.int .i64 n) ∧ w = w' := wnum_any n w
set_option maxHeartbeats 8000000 in
set_option maxRecDepth 100000 in
theorem prints_walk {n : Nat} (x y : St n) (h h' : Hs) (w : World) (hr : RdSt Any w x h) (hr' : RdSt Any w y h') (he : Env w.heap.size w) :
    Calls Tryd.prog 3 #[x.val h, y.val h'] w fun e w' => e = .returned (.bool true) ∧ Below w.heap.size w w' := by
  have HPX := Lib.hid fun (w' : World) (hb : Below w.heap.size w w') => sPrint_any x h w' (hr.below hb) ((he.below hb).mono hb.size)
  have HPY := Lib.hid fun (w' : World) (hb : Below w.heap.size w w') => sPrint_any y h' w' (hr'.below hb) ((he.below hb).mono hb.size)
  have HS := Lib.hid fun (w' : World) (hb : Below w.heap.size w w') => sameStmt_any x y h h' w' (hr.below hb) (hr'.below hb)
  have HA := Lib.hid fun (w' : World) (hb : Below w.heap.size w w') => alive_any w.heap.size w' (he.below hb) hb.size
  have HN := Lib.hid fun (n : Int) (w : World) => wnum_any n w
  have HE := Lib.hid fun hx hy => stX_eq (x := x) (y := y) hx hy
  have HX0 := Lib.hid fun hx => stX_no (x := x) hx
  have HY0 := Lib.hid fun hy => stX_no (x := y) hy
  clear hr hr' he
  generalize stX x = TX at *
  generalize stX y = TY at *
  generalize chkSt x = EX at *
  generalize chkSt y = EY at *
  generalize eqX x y = Q at *
  obtain ⟨kind, tb, cols, key, ix, rows, sets, items, jn, on, wh, gr, ord, lim⟩ := x
  obtain ⟨⟨aC, cC⟩, ⟨aR, cR⟩, ⟨aS, cS⟩, ⟨aI, cI⟩, ⟨aO, cO⟩, ⟨aW, cW⟩, ⟨aG, cG⟩, ⟨aD, cD⟩⟩ := h
  obtain ⟨kind', tb', cols', key', ix', rows', sets', items', jn', on', wh', gr', ord', lim'⟩ := y
  obtain ⟨⟨aC', cC'⟩, ⟨aR', cR'⟩, ⟨aS', cS'⟩, ⟨aI', cI'⟩, ⟨aO', cO'⟩, ⟨aW', cW'⟩, ⟨aG', cG'⟩, ⟨aD', cD'⟩⟩ := h'
  unfold St.val St.cs at HPX HPY HS ⊢
  dsimp only at HPX HPY HS ⊢
  go_enter Tryd.func3, Tryd.ntmps3
  go_upto_region 1 with fail
  have hX := heap_on (heap_alloc_new w (.cells #[.int .i64 kind, .string tb, .slice aC cols.length cC, .string key, .string ix, .slice aR rows.length cR, .slice aS sets.length cS, .slice aI items.length cI, .string jn, .slice aO on.length cO, .slice aW wh.length cW, .slice aG gr.length cG, .slice aD ord.length cD, .int .i64 lim] 28)) (.cells #[.int .i64 kind', .string tb', .slice aC' cols'.length cC', .string key', .string ix', .slice aR' rows'.length cR', .slice aS' sets'.length cS', .slice aI' items'.length cI', .string jn', .slice aO' on'.length cO', .slice aW' wh'.length cW', .slice aG' gr'.length cG', .slice aD' ord'.length cD', .int .i64 lim'] 28)
  have hY := heap_two w (.cells #[.int .i64 kind, .string tb, .slice aC cols.length cC, .string key, .string ix, .slice aR rows.length cR, .slice aS sets.length cS, .slice aI items.length cI, .string jn, .slice aO on.length cO, .slice aW wh.length cW, .slice aG gr.length cG, .slice aD ord.length cD, .int .i64 lim] 28) (.cells #[.int .i64 kind', .string tb', .slice aC' cols'.length cC', .string key', .string ix', .slice aR' rows'.length cR', .slice aS' sets'.length cS', .slice aI' items'.length cI', .string jn', .slice aO' on'.length cO', .slice aW' wh'.length cW', .slice aG' gr'.length cG', .slice aD' ord'.length cD', .int .i64 lim'] 28)
  have hB := below2 w (.cells #[.int .i64 kind, .string tb, .slice aC cols.length cC, .string key, .string ix, .slice aR rows.length cR, .slice aS sets.length cS, .slice aI items.length cI, .string jn, .slice aO on.length cO, .slice aW wh.length cW, .slice aG gr.length cG, .slice aD ord.length cD, .int .i64 lim] 28) (.cells #[.int .i64 kind', .string tb', .slice aC' cols'.length cC', .string key', .string ix', .slice aR' rows'.length cR', .slice aS' sets'.length cS', .slice aI' items'.length cI', .string jn', .slice aO' on'.length cO', .slice aW' wh'.length cW', .slice aG' gr'.length cG', .slice aD' ord'.length cD', .int .i64 lim'] 28)
  generalize ((w.alloc (.cells #[.int .i64 kind, .string tb, .slice aC cols.length cC, .string key, .string ix, .slice aR rows.length cR, .slice aS sets.length cS, .slice aI items.length cI, .string jn, .slice aO on.length cO, .slice aW wh.length cW, .slice aG gr.length cG, .slice aD ord.length cD, .int .i64 lim] 28)).alloc (.cells #[.int .i64 kind', .string tb', .slice aC' cols'.length cC', .string key', .string ix', .slice aR' rows'.length cR', .slice aS' sets'.length cS', .slice aI' items'.length cI', .string jn', .slice aO' on'.length cO', .slice aW' wh'.length cW', .slice aG' gr'.length cG', .slice aD' ord'.length cD', .int .i64 lim'] 28)) = W at hX hY hB ⊢
  have HB := Lib.hid hB
  clear hB
  obtain ⟨x0, x1, x2, x3, x4, x5, x6, x7, x8, x9, x10, x11, x12, x13⟩ := cells14 hX; obtain ⟨y0, y1, y2, y3, y4, y5, y6, y7, y8, y9, y10, y11, y12, y13⟩ := cells14 hY
  go_upto_region 3 with (go_at_call 4; refine (HA.out _ HB.out).mono ?_; rintro e w1 ⟨rfl, hb⟩; obtain ⟨hX, hY⟩ := two_next hX hY hb; replace HB := Lib.hid (below_call hb HB.out HB.out.size); clear hb x0 x1 x2 x3 x4 x5 x6 x7 x8 x9 x10 x11 x12 x13 y0 y1 y2 y3 y4 y5 y6 y7 y8 y9 y10 y11 y12 y13; obtain ⟨x0, x1, x2, x3, x4, x5, x6, x7, x8, x9, x10, x11, x12, x13⟩ := cells14 hX; obtain ⟨y0, y1, y2, y3, y4, y5, y6, y7, y8, y9, y10, y11, y12, y13⟩ := cells14 hY)
  go_upto_region 4 with (go_at_call 5; refine (HPX.out _ HB.out).mono ?_; rintro e w2 ⟨rfl, hb⟩; obtain ⟨hX, hY⟩ := two_next hX hY hb; replace HB := Lib.hid (below_call hb HB.out HB.out.size); clear hb x0 x1 x2 x3 x4 x5 x6 x7 x8 x9 x10 x11 x12 x13 y0 y1 y2 y3 y4 y5 y6 y7 y8 y9 y10 y11 y12 y13; obtain ⟨x0, x1, x2, x3, x4, x5, x6, x7, x8, x9, x10, x11, x12, x13⟩ := cells14 hX; obtain ⟨y0, y1, y2, y3, y4, y5, y6, y7, y8, y9, y10, y11, y12, y13⟩ := cells14 hY)
  go_upto_region 5 with (go_at_call 5; refine (HPY.out _ HB.out).mono ?_; rintro e w3 ⟨rfl, hb⟩; obtain ⟨hX, hY⟩ := two_next hX hY hb; replace HB := Lib.hid (below_call hb HB.out HB.out.size); clear hb x0 x1 x2 x3 x4 x5 x6 x7 x8 x9 x10 x11 x12 x13 y0 y1 y2 y3 y4 y5 y6 y7 y8 y9 y10 y11 y12 y13; obtain ⟨x0, x1, x2, x3, x4, x5, x6, x7, x8, x9, x10, x11, x12, x13⟩ := cells14 hX; obtain ⟨y0, y1, y2, y3, y4, y5, y6, y7, y8, y9, y10, y11, y12, y13⟩ := cells14 hY)
  by_cases ex : EX = 0
  · by_cases ey : EY = 0
    · have HQ := Lib.hid (HE.out ex ey)
      subst ex ey
      clear HX0 HY0 HE HPX HPY HA
      have hq : (TX.toList == TY.toList) = Q := HQ.out
      clear HQ
      go_wp2_with (first | (go_at_call 6; refine (HN.out _ _).mono ?_; rintro e w4 ⟨rfl, rfl⟩) | (go_at_call 7; refine (HS.out _ HB.out).mono ?_; rintro e w5 ⟨rfl, hb⟩; replace HB := Lib.hid (below_call hb HB.out HB.out.size); clear hb x0 x1 x2 x3 x4 x5 x6 x7 x8 x9 x10 x11 x12 x13 y0 y1 y2 y3 y4 y5 y6 y7 y8 y9 y10 y11 y12 y13 hX hY))
      go_ret
      exact ⟨ret_bool (by simp), HB.out⟩
    · have hy0 := HY0.out ey
      have e2 : (EY != 0) = true := by simp [ey]
      subst ex hy0
      clear HX0 HY0 HE HPX HPY HA HS ey
      go_wp2_with (go_at_call 6; refine (HN.out _ _).mono ?_; rintro e w4 ⟨rfl, rfl⟩)
      all_goals go_ret
      all_goals exact ⟨ret_bool (by simp [*]), HB.out⟩
  · have hx0 := HX0.out ex
    have e1 : (EX != 0) = true := by simp [ex]
    subst hx0
    clear HX0 HY0 HE HPX HPY HA HS ex
    go_wp2_with (go_at_call 6; refine (HN.out _ _).mono ?_; rintro e w4 ⟨rfl, rfl⟩)
    all_goals go_ret
    all_goals exact ⟨ret_bool (by simp [*]), HB.out⟩
end Go.Proofs.YtnbgnofbeklmkaaDoor
