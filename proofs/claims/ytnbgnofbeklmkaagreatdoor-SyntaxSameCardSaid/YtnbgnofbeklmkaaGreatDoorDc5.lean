/- Same, its walks, one way at a time. Conditions: statements that are read in memory. -/
import Derived.Test.YtnbgnofbeklmkaaGreatDoorDc
namespace Go.Proofs.YtnbgnofbeklmkaaGreatDoor
open Go.RowKit
set_option linter.unusedSimpArgs false
set_option linter.unusedVariables false

set_option maxHeartbeats 8000000 in
set_option maxRecDepth 100000 in
theorem sSame_12 {m : Nat} (x y : St m) (h h' : Hs) (w : World) (hr : RdSt Any w x h) (hr' : RdSt Any w y h') (hx : chkSt x = 0) (hy : chkSt y = 0) (e0 : (x.kind == y.kind) = true) (e1 : (x.tb.toList == y.tb.toList) = true) (e2 : (x.key.toList == y.key.toList) = true) (e3 : (x.ix.toList == y.ix.toList) = true) (e4 : (x.jn.toList == y.jn.toList) = true) (e5 : (x.lim == y.lim) = true) (e6 : (eqX x.cols y.cols) = true) (e7 : (eqX x.ord y.ord) = true) (e8 : (eqX x.rows y.rows) = true) (e9 : (eqX x.sets y.sets) = true) (e10 : (eqX x.items y.items) = true) (e11 : (eqX x.on y.on) = true) (e12 : (eqX x.wh y.wh) = false) :
    Calls Tryz.prog 21 #[x.val h, y.val h'] w fun e w' => e = .returned (.bool false) ∧ Below w.heap.size w w' := by
  have HX := Lib.hid fun (w' : World) (hb : Below w.heap.size w w') => sCheck_any x h w' (hr.below hb)
  have HY := Lib.hid fun (w' : World) (hb : Below w.heap.size w w') => sCheck_any y h' w' (hr'.below hb)
  rw [hx] at HX
  rw [hy] at HY
  have HC := Lib.hid fun (w' : World) (hb : Below w.heap.size w w') => seqCols_any h.C.a h'.C.a h.C.c h'.C.c x.cols y.cols w' (hr.C.below KC_ok hb) (hr'.C.below KC_ok hb)
  rw [e6] at HC
  clear e6
  have HD := Lib.hid fun (w' : World) (hb : Below w.heap.size w w') => seqOrds_any h.D.a h'.D.a h.D.c h'.D.c x.ord y.ord w' (hr.D.below KO_ok hb) (hr'.D.below KO_ok hb)
  rw [e7] at HD
  clear e7
  have HR := Lib.hid fun (w' : World) (hb : Below w.heap.size w w') => seqRows_any h.R.a h'.R.a h.R.c h'.R.c x.rows y.rows w' (hr.R.below (KR_ok m) hb) (hr'.R.below (KR_ok m) hb)
  rw [e8] at HR
  clear e8
  have HS := Lib.hid fun (w' : World) (hb : Below w.heap.size w w') => seqSets_any h.S.a h'.S.a h.S.c h'.S.c x.sets y.sets w' (hr.S.below (KS_ok m) hb) (hr'.S.below (KS_ok m) hb)
  rw [e9] at HS
  clear e9
  have HI := Lib.hid fun (w' : World) (hb : Below w.heap.size w w') => ssameExprs_any m h.I.a h'.I.a h.I.c h'.I.c x.items y.items w' (hr.I.below (KE_ok m) hb) (hr'.I.below (KE_ok m) hb)
  rw [e10] at HI
  clear e10
  have HO := Lib.hid fun (w' : World) (hb : Below w.heap.size w w') => ssameExprs_any m h.O.a h'.O.a h.O.c h'.O.c x.on y.on w' (hr.O.below (KE_ok m) hb) (hr'.O.below (KE_ok m) hb)
  rw [e11] at HO
  clear e11
  have HW := Lib.hid fun (w' : World) (hb : Below w.heap.size w w') => ssameExprs_any m h.W.a h'.W.a h.W.c h'.W.c x.wh y.wh w' (hr.W.below (KE_ok m) hb) (hr'.W.below (KE_ok m) hb)
  rw [e12] at HW
  clear e12
  clear hr hr' hx hy
  obtain ⟨kind, tb, cols, key, ix, rows, sets, items, jn, on, wh, gr, ord, lim⟩ := x
  obtain ⟨⟨aC, cC⟩, ⟨aR, cR⟩, ⟨aS, cS⟩, ⟨aI, cI⟩, ⟨aO, cO⟩, ⟨aW, cW⟩, ⟨aG, cG⟩, ⟨aD, cD⟩⟩ := h
  obtain ⟨kind', tb', cols', key', ix', rows', sets', items', jn', on', wh', gr', ord', lim'⟩ := y
  obtain ⟨⟨aC', cC'⟩, ⟨aR', cR'⟩, ⟨aS', cS'⟩, ⟨aI', cI'⟩, ⟨aO', cO'⟩, ⟨aW', cW'⟩, ⟨aG', cG'⟩, ⟨aD', cD'⟩⟩ := h'
  unfold St.val St.cs at HX HY ⊢
  dsimp only at HX HY HC HD HR HS HI HO HW e0 e1 e2 e3 e4 e5 ⊢
  go_enter Tryz.func21, Tryz.ntmps21
  go_wp2_with (first | (go_at_call 15; first | (refine (HY.out _ hB).mono ?_; rintro e wn ⟨rfl, hn⟩; replace hB := below_call hn hB hB.size; replace hz := Nat.le_trans hz hn.size; obtain ⟨hX, hY⟩ := two_next hX hY hn; clear hn; clear x0 x1 x2 x3 x4 x5 x6 x7 x8 x9 x10 x11 x12 x13 y0 y1 y2 y3 y4 y5 y6 y7 y8 y9 y10 y11 y12 y13; obtain ⟨x0, x1, x2, x3, x4, x5, x6, x7, x8, x9, x10, x11, x12, x13⟩ := cells14 hX; obtain ⟨y0, y1, y2, y3, y4, y5, y6, y7, y8, y9, y10, y11, y12, y13⟩ := cells14 hY) | (refine (HX.out _ (below2 _ _ _)).mono ?_; rintro e w1 ⟨rfl, hb⟩; obtain ⟨hX, hY, hB, hz⟩ := two14 hb; obtain ⟨x0, x1, x2, x3, x4, x5, x6, x7, x8, x9, x10, x11, x12, x13⟩ := cells14 hX; obtain ⟨y0, y1, y2, y3, y4, y5, y6, y7, y8, y9, y10, y11, y12, y13⟩ := cells14 hY; clear hb)) | (go_at_call 53; refine (HC.out _ hB).mono ?_; rintro e wn ⟨rfl, hn⟩; replace hB := below_call hn hB hB.size; replace hz := Nat.le_trans hz hn.size; obtain ⟨hX, hY⟩ := two_next hX hY hn; clear hn; clear x0 x1 x2 x3 x4 x5 x6 x7 x8 x9 x10 x11 x12 x13 y0 y1 y2 y3 y4 y5 y6 y7 y8 y9 y10 y11 y12 y13; obtain ⟨x0, x1, x2, x3, x4, x5, x6, x7, x8, x9, x10, x11, x12, x13⟩ := cells14 hX; obtain ⟨y0, y1, y2, y3, y4, y5, y6, y7, y8, y9, y10, y11, y12, y13⟩ := cells14 hY) | (go_at_call 54; refine (HD.out _ hB).mono ?_; rintro e wn ⟨rfl, hn⟩; replace hB := below_call hn hB hB.size; replace hz := Nat.le_trans hz hn.size; obtain ⟨hX, hY⟩ := two_next hX hY hn; clear hn; clear x0 x1 x2 x3 x4 x5 x6 x7 x8 x9 x10 x11 x12 x13 y0 y1 y2 y3 y4 y5 y6 y7 y8 y9 y10 y11 y12 y13; obtain ⟨x0, x1, x2, x3, x4, x5, x6, x7, x8, x9, x10, x11, x12, x13⟩ := cells14 hX; obtain ⟨y0, y1, y2, y3, y4, y5, y6, y7, y8, y9, y10, y11, y12, y13⟩ := cells14 hY) | (go_at_call 55; refine (HR.out _ hB).mono ?_; rintro e wn ⟨rfl, hn⟩; replace hB := below_call hn hB hB.size; replace hz := Nat.le_trans hz hn.size; obtain ⟨hX, hY⟩ := two_next hX hY hn; clear hn; clear x0 x1 x2 x3 x4 x5 x6 x7 x8 x9 x10 x11 x12 x13 y0 y1 y2 y3 y4 y5 y6 y7 y8 y9 y10 y11 y12 y13; obtain ⟨x0, x1, x2, x3, x4, x5, x6, x7, x8, x9, x10, x11, x12, x13⟩ := cells14 hX; obtain ⟨y0, y1, y2, y3, y4, y5, y6, y7, y8, y9, y10, y11, y12, y13⟩ := cells14 hY) | (go_at_call 57; refine (HS.out _ hB).mono ?_; rintro e wn ⟨rfl, hn⟩; replace hB := below_call hn hB hB.size; replace hz := Nat.le_trans hz hn.size; obtain ⟨hX, hY⟩ := two_next hX hY hn; clear hn; clear x0 x1 x2 x3 x4 x5 x6 x7 x8 x9 x10 x11 x12 x13 y0 y1 y2 y3 y4 y5 y6 y7 y8 y9 y10 y11 y12 y13; obtain ⟨x0, x1, x2, x3, x4, x5, x6, x7, x8, x9, x10, x11, x12, x13⟩ := cells14 hX; obtain ⟨y0, y1, y2, y3, y4, y5, y6, y7, y8, y9, y10, y11, y12, y13⟩ := cells14 hY) | (go_at_call 56; first | (have := tagW; clear this; refine (HG.out _ hB).mono ?_; rintro e wn ⟨rfl, hn⟩; replace hB := below_call hn hB hB.size; replace hz := Nat.le_trans hz hn.size; obtain ⟨hX, hY⟩ := two_next hX hY hn; clear hn; clear x0 x1 x2 x3 x4 x5 x6 x7 x8 x9 x10 x11 x12 x13 y0 y1 y2 y3 y4 y5 y6 y7 y8 y9 y10 y11 y12 y13; obtain ⟨x0, x1, x2, x3, x4, x5, x6, x7, x8, x9, x10, x11, x12, x13⟩ := cells14 hX; obtain ⟨y0, y1, y2, y3, y4, y5, y6, y7, y8, y9, y10, y11, y12, y13⟩ := cells14 hY) | (have := tagO; clear this; refine (HW.out _ hB).mono ?_; rintro e wn ⟨rfl, hn⟩; replace hB := below_call hn hB hB.size; replace hz := Nat.le_trans hz hn.size; obtain ⟨hX, hY⟩ := two_next hX hY hn; clear hn; clear x0 x1 x2 x3 x4 x5 x6 x7 x8 x9 x10 x11 x12 x13 y0 y1 y2 y3 y4 y5 y6 y7 y8 y9 y10 y11 y12 y13; obtain ⟨x0, x1, x2, x3, x4, x5, x6, x7, x8, x9, x10, x11, x12, x13⟩ := cells14 hX; obtain ⟨y0, y1, y2, y3, y4, y5, y6, y7, y8, y9, y10, y11, y12, y13⟩ := cells14 hY; have tagW : True := trivial) | (have := tagI; clear this; refine (HO.out _ hB).mono ?_; rintro e wn ⟨rfl, hn⟩; replace hB := below_call hn hB hB.size; replace hz := Nat.le_trans hz hn.size; obtain ⟨hX, hY⟩ := two_next hX hY hn; clear hn; clear x0 x1 x2 x3 x4 x5 x6 x7 x8 x9 x10 x11 x12 x13 y0 y1 y2 y3 y4 y5 y6 y7 y8 y9 y10 y11 y12 y13; obtain ⟨x0, x1, x2, x3, x4, x5, x6, x7, x8, x9, x10, x11, x12, x13⟩ := cells14 hX; obtain ⟨y0, y1, y2, y3, y4, y5, y6, y7, y8, y9, y10, y11, y12, y13⟩ := cells14 hY; have tagO : True := trivial) | (refine (HI.out _ hB).mono ?_; rintro e wn ⟨rfl, hn⟩; replace hB := below_call hn hB hB.size; replace hz := Nat.le_trans hz hn.size; obtain ⟨hX, hY⟩ := two_next hX hY hn; clear hn; clear x0 x1 x2 x3 x4 x5 x6 x7 x8 x9 x10 x11 x12 x13 y0 y1 y2 y3 y4 y5 y6 y7 y8 y9 y10 y11 y12 y13; obtain ⟨x0, x1, x2, x3, x4, x5, x6, x7, x8, x9, x10, x11, x12, x13⟩ := cells14 hX; obtain ⟨y0, y1, y2, y3, y4, y5, y6, y7, y8, y9, y10, y11, y12, y13⟩ := cells14 hY; have tagI : True := trivial)))
  go_ret
  exact ⟨rfl, hB⟩

set_option maxHeartbeats 8000000 in
set_option maxRecDepth 100000 in
theorem sSame_13 {m : Nat} (x y : St m) (h h' : Hs) (w : World) (hr : RdSt Any w x h) (hr' : RdSt Any w y h') (hx : chkSt x = 0) (hy : chkSt y = 0) (e0 : (x.kind == y.kind) = true) (e1 : (x.tb.toList == y.tb.toList) = true) (e2 : (x.key.toList == y.key.toList) = true) (e3 : (x.ix.toList == y.ix.toList) = true) (e4 : (x.jn.toList == y.jn.toList) = true) (e5 : (x.lim == y.lim) = true) (e6 : (eqX x.cols y.cols) = true) (e7 : (eqX x.ord y.ord) = true) (e8 : (eqX x.rows y.rows) = true) (e9 : (eqX x.sets y.sets) = true) (e10 : (eqX x.items y.items) = true) (e11 : (eqX x.on y.on) = true) (e12 : (eqX x.wh y.wh) = true) (e13 : (eqX x.gr y.gr) = false) :
    Calls Tryz.prog 21 #[x.val h, y.val h'] w fun e w' => e = .returned (.bool false) ∧ Below w.heap.size w w' := by
  have HX := Lib.hid fun (w' : World) (hb : Below w.heap.size w w') => sCheck_any x h w' (hr.below hb)
  have HY := Lib.hid fun (w' : World) (hb : Below w.heap.size w w') => sCheck_any y h' w' (hr'.below hb)
  rw [hx] at HX
  rw [hy] at HY
  have HC := Lib.hid fun (w' : World) (hb : Below w.heap.size w w') => seqCols_any h.C.a h'.C.a h.C.c h'.C.c x.cols y.cols w' (hr.C.below KC_ok hb) (hr'.C.below KC_ok hb)
  rw [e6] at HC
  clear e6
  have HD := Lib.hid fun (w' : World) (hb : Below w.heap.size w w') => seqOrds_any h.D.a h'.D.a h.D.c h'.D.c x.ord y.ord w' (hr.D.below KO_ok hb) (hr'.D.below KO_ok hb)
  rw [e7] at HD
  clear e7
  have HR := Lib.hid fun (w' : World) (hb : Below w.heap.size w w') => seqRows_any h.R.a h'.R.a h.R.c h'.R.c x.rows y.rows w' (hr.R.below (KR_ok m) hb) (hr'.R.below (KR_ok m) hb)
  rw [e8] at HR
  clear e8
  have HS := Lib.hid fun (w' : World) (hb : Below w.heap.size w w') => seqSets_any h.S.a h'.S.a h.S.c h'.S.c x.sets y.sets w' (hr.S.below (KS_ok m) hb) (hr'.S.below (KS_ok m) hb)
  rw [e9] at HS
  clear e9
  have HI := Lib.hid fun (w' : World) (hb : Below w.heap.size w w') => ssameExprs_any m h.I.a h'.I.a h.I.c h'.I.c x.items y.items w' (hr.I.below (KE_ok m) hb) (hr'.I.below (KE_ok m) hb)
  rw [e10] at HI
  clear e10
  have HO := Lib.hid fun (w' : World) (hb : Below w.heap.size w w') => ssameExprs_any m h.O.a h'.O.a h.O.c h'.O.c x.on y.on w' (hr.O.below (KE_ok m) hb) (hr'.O.below (KE_ok m) hb)
  rw [e11] at HO
  clear e11
  have HW := Lib.hid fun (w' : World) (hb : Below w.heap.size w w') => ssameExprs_any m h.W.a h'.W.a h.W.c h'.W.c x.wh y.wh w' (hr.W.below (KE_ok m) hb) (hr'.W.below (KE_ok m) hb)
  rw [e12] at HW
  clear e12
  have HG := Lib.hid fun (w' : World) (hb : Below w.heap.size w w') => ssameExprs_any m h.G.a h'.G.a h.G.c h'.G.c x.gr y.gr w' (hr.G.below (KE_ok m) hb) (hr'.G.below (KE_ok m) hb)
  rw [e13] at HG
  clear e13
  clear hr hr' hx hy
  obtain ⟨kind, tb, cols, key, ix, rows, sets, items, jn, on, wh, gr, ord, lim⟩ := x
  obtain ⟨⟨aC, cC⟩, ⟨aR, cR⟩, ⟨aS, cS⟩, ⟨aI, cI⟩, ⟨aO, cO⟩, ⟨aW, cW⟩, ⟨aG, cG⟩, ⟨aD, cD⟩⟩ := h
  obtain ⟨kind', tb', cols', key', ix', rows', sets', items', jn', on', wh', gr', ord', lim'⟩ := y
  obtain ⟨⟨aC', cC'⟩, ⟨aR', cR'⟩, ⟨aS', cS'⟩, ⟨aI', cI'⟩, ⟨aO', cO'⟩, ⟨aW', cW'⟩, ⟨aG', cG'⟩, ⟨aD', cD'⟩⟩ := h'
  unfold St.val St.cs at HX HY ⊢
  dsimp only at HX HY HC HD HR HS HI HO HW HG e0 e1 e2 e3 e4 e5 ⊢
  go_enter Tryz.func21, Tryz.ntmps21
  go_wp2_with (first | (go_at_call 15; first | (refine (HY.out _ hB).mono ?_; rintro e wn ⟨rfl, hn⟩; replace hB := below_call hn hB hB.size; replace hz := Nat.le_trans hz hn.size; obtain ⟨hX, hY⟩ := two_next hX hY hn; clear hn; clear x0 x1 x2 x3 x4 x5 x6 x7 x8 x9 x10 x11 x12 x13 y0 y1 y2 y3 y4 y5 y6 y7 y8 y9 y10 y11 y12 y13; obtain ⟨x0, x1, x2, x3, x4, x5, x6, x7, x8, x9, x10, x11, x12, x13⟩ := cells14 hX; obtain ⟨y0, y1, y2, y3, y4, y5, y6, y7, y8, y9, y10, y11, y12, y13⟩ := cells14 hY) | (refine (HX.out _ (below2 _ _ _)).mono ?_; rintro e w1 ⟨rfl, hb⟩; obtain ⟨hX, hY, hB, hz⟩ := two14 hb; obtain ⟨x0, x1, x2, x3, x4, x5, x6, x7, x8, x9, x10, x11, x12, x13⟩ := cells14 hX; obtain ⟨y0, y1, y2, y3, y4, y5, y6, y7, y8, y9, y10, y11, y12, y13⟩ := cells14 hY; clear hb)) | (go_at_call 53; refine (HC.out _ hB).mono ?_; rintro e wn ⟨rfl, hn⟩; replace hB := below_call hn hB hB.size; replace hz := Nat.le_trans hz hn.size; obtain ⟨hX, hY⟩ := two_next hX hY hn; clear hn; clear x0 x1 x2 x3 x4 x5 x6 x7 x8 x9 x10 x11 x12 x13 y0 y1 y2 y3 y4 y5 y6 y7 y8 y9 y10 y11 y12 y13; obtain ⟨x0, x1, x2, x3, x4, x5, x6, x7, x8, x9, x10, x11, x12, x13⟩ := cells14 hX; obtain ⟨y0, y1, y2, y3, y4, y5, y6, y7, y8, y9, y10, y11, y12, y13⟩ := cells14 hY) | (go_at_call 54; refine (HD.out _ hB).mono ?_; rintro e wn ⟨rfl, hn⟩; replace hB := below_call hn hB hB.size; replace hz := Nat.le_trans hz hn.size; obtain ⟨hX, hY⟩ := two_next hX hY hn; clear hn; clear x0 x1 x2 x3 x4 x5 x6 x7 x8 x9 x10 x11 x12 x13 y0 y1 y2 y3 y4 y5 y6 y7 y8 y9 y10 y11 y12 y13; obtain ⟨x0, x1, x2, x3, x4, x5, x6, x7, x8, x9, x10, x11, x12, x13⟩ := cells14 hX; obtain ⟨y0, y1, y2, y3, y4, y5, y6, y7, y8, y9, y10, y11, y12, y13⟩ := cells14 hY) | (go_at_call 55; refine (HR.out _ hB).mono ?_; rintro e wn ⟨rfl, hn⟩; replace hB := below_call hn hB hB.size; replace hz := Nat.le_trans hz hn.size; obtain ⟨hX, hY⟩ := two_next hX hY hn; clear hn; clear x0 x1 x2 x3 x4 x5 x6 x7 x8 x9 x10 x11 x12 x13 y0 y1 y2 y3 y4 y5 y6 y7 y8 y9 y10 y11 y12 y13; obtain ⟨x0, x1, x2, x3, x4, x5, x6, x7, x8, x9, x10, x11, x12, x13⟩ := cells14 hX; obtain ⟨y0, y1, y2, y3, y4, y5, y6, y7, y8, y9, y10, y11, y12, y13⟩ := cells14 hY) | (go_at_call 57; refine (HS.out _ hB).mono ?_; rintro e wn ⟨rfl, hn⟩; replace hB := below_call hn hB hB.size; replace hz := Nat.le_trans hz hn.size; obtain ⟨hX, hY⟩ := two_next hX hY hn; clear hn; clear x0 x1 x2 x3 x4 x5 x6 x7 x8 x9 x10 x11 x12 x13 y0 y1 y2 y3 y4 y5 y6 y7 y8 y9 y10 y11 y12 y13; obtain ⟨x0, x1, x2, x3, x4, x5, x6, x7, x8, x9, x10, x11, x12, x13⟩ := cells14 hX; obtain ⟨y0, y1, y2, y3, y4, y5, y6, y7, y8, y9, y10, y11, y12, y13⟩ := cells14 hY) | (go_at_call 56; first | (have := tagW; clear this; refine (HG.out _ hB).mono ?_; rintro e wn ⟨rfl, hn⟩; replace hB := below_call hn hB hB.size; replace hz := Nat.le_trans hz hn.size; obtain ⟨hX, hY⟩ := two_next hX hY hn; clear hn; clear x0 x1 x2 x3 x4 x5 x6 x7 x8 x9 x10 x11 x12 x13 y0 y1 y2 y3 y4 y5 y6 y7 y8 y9 y10 y11 y12 y13; obtain ⟨x0, x1, x2, x3, x4, x5, x6, x7, x8, x9, x10, x11, x12, x13⟩ := cells14 hX; obtain ⟨y0, y1, y2, y3, y4, y5, y6, y7, y8, y9, y10, y11, y12, y13⟩ := cells14 hY) | (have := tagO; clear this; refine (HW.out _ hB).mono ?_; rintro e wn ⟨rfl, hn⟩; replace hB := below_call hn hB hB.size; replace hz := Nat.le_trans hz hn.size; obtain ⟨hX, hY⟩ := two_next hX hY hn; clear hn; clear x0 x1 x2 x3 x4 x5 x6 x7 x8 x9 x10 x11 x12 x13 y0 y1 y2 y3 y4 y5 y6 y7 y8 y9 y10 y11 y12 y13; obtain ⟨x0, x1, x2, x3, x4, x5, x6, x7, x8, x9, x10, x11, x12, x13⟩ := cells14 hX; obtain ⟨y0, y1, y2, y3, y4, y5, y6, y7, y8, y9, y10, y11, y12, y13⟩ := cells14 hY; have tagW : True := trivial) | (have := tagI; clear this; refine (HO.out _ hB).mono ?_; rintro e wn ⟨rfl, hn⟩; replace hB := below_call hn hB hB.size; replace hz := Nat.le_trans hz hn.size; obtain ⟨hX, hY⟩ := two_next hX hY hn; clear hn; clear x0 x1 x2 x3 x4 x5 x6 x7 x8 x9 x10 x11 x12 x13 y0 y1 y2 y3 y4 y5 y6 y7 y8 y9 y10 y11 y12 y13; obtain ⟨x0, x1, x2, x3, x4, x5, x6, x7, x8, x9, x10, x11, x12, x13⟩ := cells14 hX; obtain ⟨y0, y1, y2, y3, y4, y5, y6, y7, y8, y9, y10, y11, y12, y13⟩ := cells14 hY; have tagO : True := trivial) | (refine (HI.out _ hB).mono ?_; rintro e wn ⟨rfl, hn⟩; replace hB := below_call hn hB hB.size; replace hz := Nat.le_trans hz hn.size; obtain ⟨hX, hY⟩ := two_next hX hY hn; clear hn; clear x0 x1 x2 x3 x4 x5 x6 x7 x8 x9 x10 x11 x12 x13 y0 y1 y2 y3 y4 y5 y6 y7 y8 y9 y10 y11 y12 y13; obtain ⟨x0, x1, x2, x3, x4, x5, x6, x7, x8, x9, x10, x11, x12, x13⟩ := cells14 hX; obtain ⟨y0, y1, y2, y3, y4, y5, y6, y7, y8, y9, y10, y11, y12, y13⟩ := cells14 hY; have tagI : True := trivial)))
  go_ret
  exact ⟨rfl, hB⟩

set_option maxHeartbeats 8000000 in
set_option maxRecDepth 100000 in
theorem sSame_14 {m : Nat} (x y : St m) (h h' : Hs) (w : World) (hr : RdSt Any w x h) (hr' : RdSt Any w y h') (hx : chkSt x = 0) (hy : chkSt y = 0) (e0 : (x.kind == y.kind) = true) (e1 : (x.tb.toList == y.tb.toList) = true) (e2 : (x.key.toList == y.key.toList) = true) (e3 : (x.ix.toList == y.ix.toList) = true) (e4 : (x.jn.toList == y.jn.toList) = true) (e5 : (x.lim == y.lim) = true) (e6 : (eqX x.cols y.cols) = true) (e7 : (eqX x.ord y.ord) = true) (e8 : (eqX x.rows y.rows) = true) (e9 : (eqX x.sets y.sets) = true) (e10 : (eqX x.items y.items) = true) (e11 : (eqX x.on y.on) = true) (e12 : (eqX x.wh y.wh) = true) (e13 : (eqX x.gr y.gr) = true) :
    Calls Tryz.prog 21 #[x.val h, y.val h'] w fun e w' => e = .returned (.bool true) ∧ Below w.heap.size w w' := by
  have HX := Lib.hid fun (w' : World) (hb : Below w.heap.size w w') => sCheck_any x h w' (hr.below hb)
  have HY := Lib.hid fun (w' : World) (hb : Below w.heap.size w w') => sCheck_any y h' w' (hr'.below hb)
  rw [hx] at HX
  rw [hy] at HY
  have HC := Lib.hid fun (w' : World) (hb : Below w.heap.size w w') => seqCols_any h.C.a h'.C.a h.C.c h'.C.c x.cols y.cols w' (hr.C.below KC_ok hb) (hr'.C.below KC_ok hb)
  rw [e6] at HC
  clear e6
  have HD := Lib.hid fun (w' : World) (hb : Below w.heap.size w w') => seqOrds_any h.D.a h'.D.a h.D.c h'.D.c x.ord y.ord w' (hr.D.below KO_ok hb) (hr'.D.below KO_ok hb)
  rw [e7] at HD
  clear e7
  have HR := Lib.hid fun (w' : World) (hb : Below w.heap.size w w') => seqRows_any h.R.a h'.R.a h.R.c h'.R.c x.rows y.rows w' (hr.R.below (KR_ok m) hb) (hr'.R.below (KR_ok m) hb)
  rw [e8] at HR
  clear e8
  have HS := Lib.hid fun (w' : World) (hb : Below w.heap.size w w') => seqSets_any h.S.a h'.S.a h.S.c h'.S.c x.sets y.sets w' (hr.S.below (KS_ok m) hb) (hr'.S.below (KS_ok m) hb)
  rw [e9] at HS
  clear e9
  have HI := Lib.hid fun (w' : World) (hb : Below w.heap.size w w') => ssameExprs_any m h.I.a h'.I.a h.I.c h'.I.c x.items y.items w' (hr.I.below (KE_ok m) hb) (hr'.I.below (KE_ok m) hb)
  rw [e10] at HI
  clear e10
  have HO := Lib.hid fun (w' : World) (hb : Below w.heap.size w w') => ssameExprs_any m h.O.a h'.O.a h.O.c h'.O.c x.on y.on w' (hr.O.below (KE_ok m) hb) (hr'.O.below (KE_ok m) hb)
  rw [e11] at HO
  clear e11
  have HW := Lib.hid fun (w' : World) (hb : Below w.heap.size w w') => ssameExprs_any m h.W.a h'.W.a h.W.c h'.W.c x.wh y.wh w' (hr.W.below (KE_ok m) hb) (hr'.W.below (KE_ok m) hb)
  rw [e12] at HW
  clear e12
  have HG := Lib.hid fun (w' : World) (hb : Below w.heap.size w w') => ssameExprs_any m h.G.a h'.G.a h.G.c h'.G.c x.gr y.gr w' (hr.G.below (KE_ok m) hb) (hr'.G.below (KE_ok m) hb)
  rw [e13] at HG
  clear e13
  clear hr hr' hx hy
  obtain ⟨kind, tb, cols, key, ix, rows, sets, items, jn, on, wh, gr, ord, lim⟩ := x
  obtain ⟨⟨aC, cC⟩, ⟨aR, cR⟩, ⟨aS, cS⟩, ⟨aI, cI⟩, ⟨aO, cO⟩, ⟨aW, cW⟩, ⟨aG, cG⟩, ⟨aD, cD⟩⟩ := h
  obtain ⟨kind', tb', cols', key', ix', rows', sets', items', jn', on', wh', gr', ord', lim'⟩ := y
  obtain ⟨⟨aC', cC'⟩, ⟨aR', cR'⟩, ⟨aS', cS'⟩, ⟨aI', cI'⟩, ⟨aO', cO'⟩, ⟨aW', cW'⟩, ⟨aG', cG'⟩, ⟨aD', cD'⟩⟩ := h'
  unfold St.val St.cs at HX HY ⊢
  dsimp only at HX HY HC HD HR HS HI HO HW HG e0 e1 e2 e3 e4 e5 ⊢
  go_enter Tryz.func21, Tryz.ntmps21
  go_wp2_with (first | (go_at_call 15; first | (refine (HY.out _ hB).mono ?_; rintro e wn ⟨rfl, hn⟩; replace hB := below_call hn hB hB.size; replace hz := Nat.le_trans hz hn.size; obtain ⟨hX, hY⟩ := two_next hX hY hn; clear hn; clear x0 x1 x2 x3 x4 x5 x6 x7 x8 x9 x10 x11 x12 x13 y0 y1 y2 y3 y4 y5 y6 y7 y8 y9 y10 y11 y12 y13; obtain ⟨x0, x1, x2, x3, x4, x5, x6, x7, x8, x9, x10, x11, x12, x13⟩ := cells14 hX; obtain ⟨y0, y1, y2, y3, y4, y5, y6, y7, y8, y9, y10, y11, y12, y13⟩ := cells14 hY) | (refine (HX.out _ (below2 _ _ _)).mono ?_; rintro e w1 ⟨rfl, hb⟩; obtain ⟨hX, hY, hB, hz⟩ := two14 hb; obtain ⟨x0, x1, x2, x3, x4, x5, x6, x7, x8, x9, x10, x11, x12, x13⟩ := cells14 hX; obtain ⟨y0, y1, y2, y3, y4, y5, y6, y7, y8, y9, y10, y11, y12, y13⟩ := cells14 hY; clear hb)) | (go_at_call 53; refine (HC.out _ hB).mono ?_; rintro e wn ⟨rfl, hn⟩; replace hB := below_call hn hB hB.size; replace hz := Nat.le_trans hz hn.size; obtain ⟨hX, hY⟩ := two_next hX hY hn; clear hn; clear x0 x1 x2 x3 x4 x5 x6 x7 x8 x9 x10 x11 x12 x13 y0 y1 y2 y3 y4 y5 y6 y7 y8 y9 y10 y11 y12 y13; obtain ⟨x0, x1, x2, x3, x4, x5, x6, x7, x8, x9, x10, x11, x12, x13⟩ := cells14 hX; obtain ⟨y0, y1, y2, y3, y4, y5, y6, y7, y8, y9, y10, y11, y12, y13⟩ := cells14 hY) | (go_at_call 54; refine (HD.out _ hB).mono ?_; rintro e wn ⟨rfl, hn⟩; replace hB := below_call hn hB hB.size; replace hz := Nat.le_trans hz hn.size; obtain ⟨hX, hY⟩ := two_next hX hY hn; clear hn; clear x0 x1 x2 x3 x4 x5 x6 x7 x8 x9 x10 x11 x12 x13 y0 y1 y2 y3 y4 y5 y6 y7 y8 y9 y10 y11 y12 y13; obtain ⟨x0, x1, x2, x3, x4, x5, x6, x7, x8, x9, x10, x11, x12, x13⟩ := cells14 hX; obtain ⟨y0, y1, y2, y3, y4, y5, y6, y7, y8, y9, y10, y11, y12, y13⟩ := cells14 hY) | (go_at_call 55; refine (HR.out _ hB).mono ?_; rintro e wn ⟨rfl, hn⟩; replace hB := below_call hn hB hB.size; replace hz := Nat.le_trans hz hn.size; obtain ⟨hX, hY⟩ := two_next hX hY hn; clear hn; clear x0 x1 x2 x3 x4 x5 x6 x7 x8 x9 x10 x11 x12 x13 y0 y1 y2 y3 y4 y5 y6 y7 y8 y9 y10 y11 y12 y13; obtain ⟨x0, x1, x2, x3, x4, x5, x6, x7, x8, x9, x10, x11, x12, x13⟩ := cells14 hX; obtain ⟨y0, y1, y2, y3, y4, y5, y6, y7, y8, y9, y10, y11, y12, y13⟩ := cells14 hY) | (go_at_call 57; refine (HS.out _ hB).mono ?_; rintro e wn ⟨rfl, hn⟩; replace hB := below_call hn hB hB.size; replace hz := Nat.le_trans hz hn.size; obtain ⟨hX, hY⟩ := two_next hX hY hn; clear hn; clear x0 x1 x2 x3 x4 x5 x6 x7 x8 x9 x10 x11 x12 x13 y0 y1 y2 y3 y4 y5 y6 y7 y8 y9 y10 y11 y12 y13; obtain ⟨x0, x1, x2, x3, x4, x5, x6, x7, x8, x9, x10, x11, x12, x13⟩ := cells14 hX; obtain ⟨y0, y1, y2, y3, y4, y5, y6, y7, y8, y9, y10, y11, y12, y13⟩ := cells14 hY) | (go_at_call 56; first | (have := tagW; clear this; refine (HG.out _ hB).mono ?_; rintro e wn ⟨rfl, hn⟩; replace hB := below_call hn hB hB.size; replace hz := Nat.le_trans hz hn.size; obtain ⟨hX, hY⟩ := two_next hX hY hn; clear hn; clear x0 x1 x2 x3 x4 x5 x6 x7 x8 x9 x10 x11 x12 x13 y0 y1 y2 y3 y4 y5 y6 y7 y8 y9 y10 y11 y12 y13; obtain ⟨x0, x1, x2, x3, x4, x5, x6, x7, x8, x9, x10, x11, x12, x13⟩ := cells14 hX; obtain ⟨y0, y1, y2, y3, y4, y5, y6, y7, y8, y9, y10, y11, y12, y13⟩ := cells14 hY) | (have := tagO; clear this; refine (HW.out _ hB).mono ?_; rintro e wn ⟨rfl, hn⟩; replace hB := below_call hn hB hB.size; replace hz := Nat.le_trans hz hn.size; obtain ⟨hX, hY⟩ := two_next hX hY hn; clear hn; clear x0 x1 x2 x3 x4 x5 x6 x7 x8 x9 x10 x11 x12 x13 y0 y1 y2 y3 y4 y5 y6 y7 y8 y9 y10 y11 y12 y13; obtain ⟨x0, x1, x2, x3, x4, x5, x6, x7, x8, x9, x10, x11, x12, x13⟩ := cells14 hX; obtain ⟨y0, y1, y2, y3, y4, y5, y6, y7, y8, y9, y10, y11, y12, y13⟩ := cells14 hY; have tagW : True := trivial) | (have := tagI; clear this; refine (HO.out _ hB).mono ?_; rintro e wn ⟨rfl, hn⟩; replace hB := below_call hn hB hB.size; replace hz := Nat.le_trans hz hn.size; obtain ⟨hX, hY⟩ := two_next hX hY hn; clear hn; clear x0 x1 x2 x3 x4 x5 x6 x7 x8 x9 x10 x11 x12 x13 y0 y1 y2 y3 y4 y5 y6 y7 y8 y9 y10 y11 y12 y13; obtain ⟨x0, x1, x2, x3, x4, x5, x6, x7, x8, x9, x10, x11, x12, x13⟩ := cells14 hX; obtain ⟨y0, y1, y2, y3, y4, y5, y6, y7, y8, y9, y10, y11, y12, y13⟩ := cells14 hY; have tagO : True := trivial) | (refine (HI.out _ hB).mono ?_; rintro e wn ⟨rfl, hn⟩; replace hB := below_call hn hB hB.size; replace hz := Nat.le_trans hz hn.size; obtain ⟨hX, hY⟩ := two_next hX hY hn; clear hn; clear x0 x1 x2 x3 x4 x5 x6 x7 x8 x9 x10 x11 x12 x13 y0 y1 y2 y3 y4 y5 y6 y7 y8 y9 y10 y11 y12 y13; obtain ⟨x0, x1, x2, x3, x4, x5, x6, x7, x8, x9, x10, x11, x12, x13⟩ := cells14 hX; obtain ⟨y0, y1, y2, y3, y4, y5, y6, y7, y8, y9, y10, y11, y12, y13⟩ := cells14 hY; have tagI : True := trivial)))
  go_ret
  exact ⟨rfl, hB⟩
end Go.Proofs.YtnbgnofbeklmkaaGreatDoor
