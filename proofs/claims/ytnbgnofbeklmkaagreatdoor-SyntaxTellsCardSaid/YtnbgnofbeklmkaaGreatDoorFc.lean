/- Whether two statements are one, in plain words: the walk. Conditions: statements that are read in memory. -/
import Derived.Test.YtnbgnofbeklmkaaGreatDoorDc
import Derived.Lib.QuietBelow
import Derived.Test.YtnbgnofbeklmkaaGreatDoorFb0
namespace Go.Proofs.YtnbgnofbeklmkaaGreatDoor
open Go.RowKit Go.Sort
set_option linter.unusedSimpArgs false
set_option linter.unusedVariables false

set_option maxHeartbeats 16000000 in
set_option maxRecDepth 100000 in
theorem sameStmt_any {n : Nat} (x y : St n) (h h' : Hs) (w : World) (hr : RdSt Any w x h) (hr' : RdSt Any w y h') : Calls Tryz.prog 19 #[x.val h, y.val h'] w fun e w' => e = .returned (.bool (eqX x y)) ∧ Below w.heap.size w w' := by
  have E0 := Lib.hid fun hz => eqX_hdr (x := x) (y := y) hz
  have E1 := Lib.hid fun hz => eqX_len (x := x) (y := y) hz
  have E2 := Lib.hid fun hz => eqX_ne (x := x) (y := y) hz
  have E3 := Lib.hid (eqX_st2 x y)
  have E4 := Lib.hid fun hz => len_of (x := x) (y := y) hz
  have EH := Lib.hid (show hdrB x y = ((x.kind == y.kind) && (x.tb.toList == y.tb.toList) && (x.key.toList == y.key.toList) && (x.ix.toList == y.ix.toList) && (x.jn.toList == y.jn.toList) && (x.lim == y.lim)) from rfl)
  have EL := Lib.hid (show lenB x y = (((x.cols.length : Int) == y.cols.length) && ((x.rows.length : Int) == y.rows.length) && ((x.sets.length : Int) == y.sets.length) && ((x.ord.length : Int) == y.ord.length)) from rfl)
  have HR := Lib.hid hr
  have HR' := Lib.hid hr'
  have kC : x.cols.length ≤ 9223372036854775807 := by have := hr.C.hdr.2; omega
  have kR : x.rows.length ≤ 9223372036854775807 := by have := hr.R.hdr.2; omega
  have kS : x.sets.length ≤ 9223372036854775807 := by have := hr.S.hdr.2; omega
  have kD : x.ord.length ≤ 9223372036854775807 := by have := hr.D.hdr.2; omega
  clear hr hr'
  have HRW := Lib.hid fun (A B : Option Addr) (c d : Nat) (l m : List (Ar n)) (w : World) (h1 : RdE w n A c l) (h2 : RdE w n B d m) => sameExprs_any n A B c d l m w h1 h2
  obtain ⟨kind, tb, cols, key, ix, rows, sets, items, jn, on, wh, gr, ord, lim⟩ := x
  obtain ⟨⟨aC, cC⟩, ⟨aR, cR⟩, ⟨aS, cS⟩, ⟨aI, cI⟩, ⟨aO, cO⟩, ⟨aW, cW⟩, ⟨aG, cG⟩, ⟨aD, cD⟩⟩ := h
  obtain ⟨kind', tb', cols', key', ix', rows', sets', items', jn', on', wh', gr', ord', lim'⟩ := y
  obtain ⟨⟨aC', cC'⟩, ⟨aR', cR'⟩, ⟨aS', cS'⟩, ⟨aI', cI'⟩, ⟨aO', cO'⟩, ⟨aW', cW'⟩, ⟨aG', cG'⟩, ⟨aD', cD'⟩⟩ := h'
  generalize hdrB _ _ = HB0 at *
  generalize lenB _ _ = LB0 at *
  unfold St.val St.cs
  dsimp only at EH EL E3 E4 kC kR kS kD ⊢
  go_enter Tryz.func19, Tryz.ntmps19
  go_upto_region 1 with fail
  have hX := heap_on (heap_alloc_new w (.cells #[.int .i64 kind, .string tb, .slice aC cols.length cC, .string key, .string ix, .slice aR rows.length cR, .slice aS sets.length cS, .slice aI items.length cI, .string jn, .slice aO on.length cO, .slice aW wh.length cW, .slice aG gr.length cG, .slice aD ord.length cD, .int .i64 lim] 28)) (.cells #[.int .i64 kind', .string tb', .slice aC' cols'.length cC', .string key', .string ix', .slice aR' rows'.length cR', .slice aS' sets'.length cS', .slice aI' items'.length cI', .string jn', .slice aO' on'.length cO', .slice aW' wh'.length cW', .slice aG' gr'.length cG', .slice aD' ord'.length cD', .int .i64 lim'] 28)
  have hY := heap_two w (.cells #[.int .i64 kind, .string tb, .slice aC cols.length cC, .string key, .string ix, .slice aR rows.length cR, .slice aS sets.length cS, .slice aI items.length cI, .string jn, .slice aO on.length cO, .slice aW wh.length cW, .slice aG gr.length cG, .slice aD ord.length cD, .int .i64 lim] 28) (.cells #[.int .i64 kind', .string tb', .slice aC' cols'.length cC', .string key', .string ix', .slice aR' rows'.length cR', .slice aS' sets'.length cS', .slice aI' items'.length cI', .string jn', .slice aO' on'.length cO', .slice aW' wh'.length cW', .slice aG' gr'.length cG', .slice aD' ord'.length cD', .int .i64 lim'] 28)
  have hB := below2 w (.cells #[.int .i64 kind, .string tb, .slice aC cols.length cC, .string key, .string ix, .slice aR rows.length cR, .slice aS sets.length cS, .slice aI items.length cI, .string jn, .slice aO on.length cO, .slice aW wh.length cW, .slice aG gr.length cG, .slice aD ord.length cD, .int .i64 lim] 28) (.cells #[.int .i64 kind', .string tb', .slice aC' cols'.length cC', .string key', .string ix', .slice aR' rows'.length cR', .slice aS' sets'.length cS', .slice aI' items'.length cI', .string jn', .slice aO' on'.length cO', .slice aW' wh'.length cW', .slice aG' gr'.length cG', .slice aD' ord'.length cD', .int .i64 lim'] 28)
  have hz : w.heap.size + 2 ≤ ((w.alloc (.cells #[.int .i64 kind, .string tb, .slice aC cols.length cC, .string key, .string ix, .slice aR rows.length cR, .slice aS sets.length cS, .slice aI items.length cI, .string jn, .slice aO on.length cO, .slice aW wh.length cW, .slice aG gr.length cG, .slice aD ord.length cD, .int .i64 lim] 28)).alloc (.cells #[.int .i64 kind', .string tb', .slice aC' cols'.length cC', .string key', .string ix', .slice aR' rows'.length cR', .slice aS' sets'.length cS', .slice aI' items'.length cI', .string jn', .slice aO' on'.length cO', .slice aW' wh'.length cW', .slice aG' gr'.length cG', .slice aD' ord'.length cD', .int .i64 lim'] 28)).heap.size := by simp
  generalize ((w.alloc (.cells #[.int .i64 kind, .string tb, .slice aC cols.length cC, .string key, .string ix, .slice aR rows.length cR, .slice aS sets.length cS, .slice aI items.length cI, .string jn, .slice aO on.length cO, .slice aW wh.length cW, .slice aG gr.length cG, .slice aD ord.length cD, .int .i64 lim] 28)).alloc (.cells #[.int .i64 kind', .string tb', .slice aC' cols'.length cC', .string key', .string ix', .slice aR' rows'.length cR', .slice aS' sets'.length cS', .slice aI' items'.length cI', .string jn', .slice aO' on'.length cO', .slice aW' wh'.length cW', .slice aG' gr'.length cG', .slice aD' ord'.length cD', .int .i64 lim'] 28)) = W at hX hY hB hz ⊢
  have HB := Lib.hid hB
  clear hB
  obtain ⟨x0, x1, x2, x3, x4, x5, x6, x7, x8, x9, x10, x11, x12, x13⟩ := cells14 hX; obtain ⟨y0, y1, y2, y3, y4, y5, y6, y7, y8, y9, y10, y11, y12, y13⟩ := cells14 hY
  obtain ⟨b0, e0⟩ : ∃ b, (kind != kind') = b := ⟨_, rfl⟩
  obtain ⟨b1, e1⟩ : ∃ b, (tb.toList != tb'.toList) = b := ⟨_, rfl⟩
  obtain ⟨b2, e2⟩ : ∃ b, (key.toList != key'.toList) = b := ⟨_, rfl⟩
  obtain ⟨b3, e3⟩ : ∃ b, (ix.toList != ix'.toList) = b := ⟨_, rfl⟩
  obtain ⟨b4, e4⟩ : ∃ b, (jn.toList != jn'.toList) = b := ⟨_, rfl⟩
  obtain ⟨b5, e5⟩ : ∃ b, (lim != lim') = b := ⟨_, rfl⟩
  obtain ⟨c0, f0⟩ : ∃ b, ((cols.length : Int) != cols'.length) = b := ⟨_, rfl⟩
  obtain ⟨c1, f1⟩ : ∃ b, ((rows.length : Int) != rows'.length) = b := ⟨_, rfl⟩
  obtain ⟨c2, f2⟩ : ∃ b, ((sets.length : Int) != sets'.length) = b := ⟨_, rfl⟩
  obtain ⟨c3, f3⟩ : ∃ b, ((ord.length : Int) != ord'.length) = b := ⟨_, rfl⟩
  have EH2 : HB0 = (!b0 && !b1 && !b2 && !b3 && !b4 && !b5) := by
    rw [EH.out, ← e0, ← e1, ← e2, ← e3, ← e4, ← e5]
    simp [bne]
  have EL2 : LB0 = (!c0 && !c1 && !c2 && !c3) := by
    rw [EL.out, ← f0, ← f1, ← f2, ← f3]
    simp [bne]
  have EH := Lib.hid EH2
  have EL := Lib.hid EL2
  clear EH2 EL2
  go_cut [48] (fun s wd => s = .bool (!HB0) ∧ wd = W)
  case first =>
    clear E0 E1 E2 E3 E4 EL HR HR' HRW HB
    go_wp2_with fail
    all_goals go_meet
    all_goals refine ⟨?_, rfl⟩
    all_goals go_light
    all_goals (rw [EH.out]; clear EH EL hX hY; subst e0 e1 e2 e3 e4 e5; simp_all)
  case rest =>
    obtain ⟨rfl, rfl⟩ := hcut
    cases HB0
    · go_wp2_with fail
      go_ret
      exact ⟨ret_bool (E0.out trivial).symm, HB.out⟩
    clear E0
    go_upto_region 3 with fail
    go_cut [82] (fun s wd => s = .bool (!LB0) ∧ wd = wc)
    case first =>
      clear E1 E2 E3 E4 HR HR' HRW HB
      go_wp2_with fail
      all_goals go_meet
      all_goals refine ⟨?_, rfl⟩
      all_goals go_light
      all_goals (rw [EL.out]; clear EH EL hX hY; subst f0 f1 f2 f3; simp_all)
    case rest =>
      obtain ⟨rfl, rfl⟩ := hcut
      cases LB0
      · go_wp2_with fail
        go_ret
        exact ⟨ret_bool (E1.out trivial).symm, HB.out⟩
      have HLN := Lib.hid (E4.out rfl)
      clear E1 E4 EH EL
      clear x0 x1 x2 x3 x4 x5 x6 x7 x8 x9 x10 x11 x12 x13 y0 y1 y2 y3 y4 y5 y6 y7 y8 y9 y10 y11 y12 y13

      obtain ⟨x0, x1, x2, x3, x4, x5, x6, x7, x8, x9, x10, x11, x12, x13⟩ := cells14 hX; obtain ⟨y0, y1, y2, y3, y4, y5, y6, y7, y8, y9, y10, y11, y12, y13⟩ := cells14 hY
      go_wp2_with fail
      clear x0 x1 x2 x3 x4 x5 x6 x7 x8 x9 x10 x11 x12 x13 y0 y1 y2 y3 y4 y5 y6 y7 y8 y9 y10 y11 y12 y13
      go_loopw [5] (fun i wr => ∃ j : Nat, j ≤ cols.length ∧ i = .int .i64 j ∧ cols.take j = cols'.take j ∧ wr.heap[w.heap.size]? = some (.cells #[.int .i64 kind, .string tb, .slice aC cols.length cC, .string key, .string ix, .slice aR rows.length cR, .slice aS sets.length cS, .slice aI items.length cI, .string jn, .slice aO on.length cO, .slice aW wh.length cW, .slice aG gr.length cG, .slice aD ord.length cD, .int .i64 lim] 28 (0, 0)) ∧ wr.heap[w.heap.size + 1]? = some (.cells #[.int .i64 kind', .string tb', .slice aC' cols'.length cC', .string key', .string ix', .slice aR' rows'.length cR', .slice aS' sets'.length cS', .slice aI' items'.length cI', .string jn', .slice aO' on'.length cO', .slice aW' wh'.length cW', .slice aG' gr'.length cG', .slice aD' ord'.length cD', .int .i64 lim'] 28 (0, 0)) ∧ Below w.heap.size w wr) (fun i _ => cols.length - (intOf i).toNat)
      case atStart => exact ⟨0, by omega, rfl, rfl, hX, hY, HB.out⟩
      case round =>
        clear hX hY HB
        obtain ⟨j, hj, rfl, ht, hX, hY, hb⟩ := hrel
        have HT := Lib.hid ht
        have HB := Lib.hid hb
        have hz1 : w.heap.size + 1 < wr.heap.size := heap_lt hY
        clear ht hb
        by_cases hlt : j < cols.length
        · have mj : j < cols'.length := by have h := HLN.out.1; (try dsimp only at h); omega
          obtain ⟨ad, rfl, p0, p1, p2⟩ := (HR.out.C.below KC_ok HB.out).col (j := j) hlt
          obtain ⟨bd, rfl, q0, q1, q2⟩ := (HR'.out.C.below KC_ok HB.out).col (j := j) mj
          have hx : cols[j]? = some cols[j] := List.getElem?_eq_getElem hlt
          have hy : cols'[j]? = some cols'[j] := List.getElem?_eq_getElem mj
          generalize cols[j] = x at p0 p1 p2 hx
          generalize cols'[j] = y at q0 q1 q2 hy
          have HX := Lib.hid hx
          have HY := Lib.hid hy
          have hc := run_neC x y
          have hq := cell_lt q0
          have hq2 := hq
          rw [add_block] at hq2
          clear hx hy
          obtain ⟨x0, x1, x2, x3, x4, x5, x6, x7, x8, x9, x10, x11, x12, x13⟩ := cells14 hX; obtain ⟨y0, y1, y2, y3, y4, y5, y6, y7, y8, y9, y10, y11, y12, y13⟩ := cells14 hY
          obtain ⟨E, he⟩ : ∃ E, E = eqX x y := ⟨_, rfl⟩
          rw [← he] at hc
          cases E
          · have HN := Lib.hid (take_off HX.out HY.out (eqX_no.1 he.symm))
            clear he
            go_wp2_with fail
            go_quiet (fail)
            go_wp2_with fail
            go_ret
            exact ⟨ret_bool (E2.out (fun e => HN.out (congrArg St.cols e))).symm, below_drewN HB.out _⟩
          · have HN := Lib.hid (take_on HT.out HX.out HY.out (eqX_iff.1 he.symm))
            clear he
            go_wp2_with fail
            go_quiet (fail)
            go_wp2_with fail
            go_roundw
            case rel => exact ⟨j + 1, by omega, by go_num, HN.out, (two_drewN hX hY).1, (two_drewN hX hY).2, below_drewN HB.out _⟩
            case measure => simp [intOf]; omega
        · have L1 := Lib.hid (take_eq HT.out (by omega) (by have h := HLN.out.1; (try dsimp only at h); omega))
          clear HT
          obtain ⟨x0, x1, x2, x3, x4, x5, x6, x7, x8, x9, x10, x11, x12, x13⟩ := cells14 hX; obtain ⟨y0, y1, y2, y3, y4, y5, y6, y7, y8, y9, y10, y11, y12, y13⟩ := cells14 hY
          go_wp2_with fail
          clear x0 x1 x2 x3 x4 x5 x6 x7 x8 x9 x10 x11 x12 x13 y0 y1 y2 y3 y4 y5 y6 y7 y8 y9 y10 y11 y12 y13 hlt
          go_loopw [6] (fun i wr => ∃ j : Nat, j ≤ rows.length ∧ i = .int .i64 j ∧ rows.take j = rows'.take j ∧ wr.heap[w.heap.size]? = some (.cells #[.int .i64 kind, .string tb, .slice aC cols.length cC, .string key, .string ix, .slice aR rows.length cR, .slice aS sets.length cS, .slice aI items.length cI, .string jn, .slice aO on.length cO, .slice aW wh.length cW, .slice aG gr.length cG, .slice aD ord.length cD, .int .i64 lim] 28 (0, 0)) ∧ wr.heap[w.heap.size + 1]? = some (.cells #[.int .i64 kind', .string tb', .slice aC' cols'.length cC', .string key', .string ix', .slice aR' rows'.length cR', .slice aS' sets'.length cS', .slice aI' items'.length cI', .string jn', .slice aO' on'.length cO', .slice aW' wh'.length cW', .slice aG' gr'.length cG', .slice aD' ord'.length cD', .int .i64 lim'] 28 (0, 0)) ∧ Below w.heap.size w wr) (fun i _ => rows.length - (intOf i).toNat)
          case atStart => exact ⟨0, by omega, rfl, rfl, hX, hY, HB.out⟩
          case round =>
            clear hX hY HB
            obtain ⟨j, hj, rfl, ht, hX, hY, hb⟩ := hrel
            have HT := Lib.hid ht
            have HB := Lib.hid hb
            have hz1 : w.heap.size + 1 < wr.heap.size := heap_lt hY
            clear ht hb
            by_cases hlt : j < rows.length
            · have mj : j < rows'.length := by have h := HLN.out.2.1; (try dsimp only at h); omega
              obtain ⟨ad, a1, c1, rfl, p0, r1⟩ := (HR.out.R.below (KR_ok n) HB.out).row (j := j) hlt
              obtain ⟨bd, a2, c2, rfl, q0, r2⟩ := (HR'.out.R.below (KR_ok n) HB.out).row (j := j) mj
              have hx : rows[j]? = some rows[j] := List.getElem?_eq_getElem hlt
              have hy : rows'[j]? = some rows'[j] := List.getElem?_eq_getElem mj
              generalize rows[j] = x at p0 r1 hx
              generalize rows'[j] = y at q0 r2 hy
              have HX := Lib.hid hx
              have HY := Lib.hid hy
              have R1 := Lib.hid r1
              have R2 := Lib.hid r2
              have hq := cell_lt q0
              have hq2 := hq
              rw [add_block] at hq2
              clear hx hy r1 r2
              obtain ⟨x0, x1, x2, x3, x4, x5, x6, x7, x8, x9, x10, x11, x12, x13⟩ := cells14 hX; obtain ⟨y0, y1, y2, y3, y4, y5, y6, y7, y8, y9, y10, y11, y12, y13⟩ := cells14 hY
              have hbr := fun d os => HB.out.trans ((below_regrown wr d os).mono HB.out.size)
              have hc := fun d os => HRW.out a1 a2 c1 c2 x y (grow (redrawn wr d) os) (R1.out.below (KE_ok n) (below_regrown wr d os)) (R2.out.below (KE_ok n) (below_regrown wr d os))
              have hXr := fun d os => two_next hX hY (below_regrown wr d os)
              have HBR := Lib.hid hbr
              have HXR := Lib.hid hXr
              obtain ⟨E, he⟩ : ∃ E, E = eqX x y := ⟨_, rfl⟩
              rw [← he] at hc
              have HE := Lib.hid he
              clear he hbr hXr R1 R2
              go_wp2_with fail
              have p0r := cell_regrown p0
              have q0r := cell_regrown q0
              have x5r := cell_regrown x5
              have y5r := cell_regrown y5
              clear x0 x1 x2 x3 x4 x5 x6 x7 x8 x9 x10 x11 x12 x13 y0 y1 y2 y3 y4 y5 y6 y7 y8 y9 y10 y11 y12 y13 p0 q0
              refine wp_region_quiet_below (by kernel_rfl) (by kernel_rfl) ?_
              repeat (go_big_quiet_step (exact Calls.regrown_of (hc _ _)))
              refine wpQuiet_nil ?_
              intro w5 hw5
              obtain ⟨pp, rfl⟩ := hw5
              clear p0r q0r x5r y5r hc
              cases E
              · have HN := Lib.hid (take_off HX.out HY.out (eqX_no.1 HE.out.symm))
                go_wp2_with fail
                go_ret
                exact ⟨ret_bool (E2.out (fun e => HN.out (congrArg St.rows e))).symm, HBR.out _ _⟩
              · have HN := Lib.hid (take_on HT.out HX.out HY.out (eqX_iff.1 HE.out.symm))
                go_wp2_with fail
                go_roundw
                case rel => exact ⟨j + 1, by omega, by go_num, HN.out, (HXR.out _ _).1, (HXR.out _ _).2, HBR.out _ _⟩
                case measure => simp [intOf]; omega
            · have L2 := Lib.hid (take_eq HT.out (by omega) (by have h := HLN.out.2.1; (try dsimp only at h); omega))
              clear HT
              obtain ⟨x0, x1, x2, x3, x4, x5, x6, x7, x8, x9, x10, x11, x12, x13⟩ := cells14 hX; obtain ⟨y0, y1, y2, y3, y4, y5, y6, y7, y8, y9, y10, y11, y12, y13⟩ := cells14 hY
              go_wp2_with fail
              clear x0 x1 x2 x3 x4 x5 x6 x7 x8 x9 x10 x11 x12 x13 y0 y1 y2 y3 y4 y5 y6 y7 y8 y9 y10 y11 y12 y13 hlt
              go_loopw [7] (fun i wr => ∃ j : Nat, j ≤ sets.length ∧ i = .int .i64 j ∧ sets.take j = sets'.take j ∧ wr.heap[w.heap.size]? = some (.cells #[.int .i64 kind, .string tb, .slice aC cols.length cC, .string key, .string ix, .slice aR rows.length cR, .slice aS sets.length cS, .slice aI items.length cI, .string jn, .slice aO on.length cO, .slice aW wh.length cW, .slice aG gr.length cG, .slice aD ord.length cD, .int .i64 lim] 28 (0, 0)) ∧ wr.heap[w.heap.size + 1]? = some (.cells #[.int .i64 kind', .string tb', .slice aC' cols'.length cC', .string key', .string ix', .slice aR' rows'.length cR', .slice aS' sets'.length cS', .slice aI' items'.length cI', .string jn', .slice aO' on'.length cO', .slice aW' wh'.length cW', .slice aG' gr'.length cG', .slice aD' ord'.length cD', .int .i64 lim'] 28 (0, 0)) ∧ Below w.heap.size w wr) (fun i _ => sets.length - (intOf i).toNat)
              case atStart => exact ⟨0, by omega, rfl, rfl, hX, hY, HB.out⟩
              case round =>
                clear hX hY HB
                obtain ⟨j, hj, rfl, ht, hX, hY, hb⟩ := hrel
                have HT := Lib.hid ht
                have HB := Lib.hid hb
                have hz1 : w.heap.size + 1 < wr.heap.size := heap_lt hY
                clear ht hb
                by_cases hlt : j < sets.length
                · have mj : j < sets'.length := by have h := HLN.out.2.2.1; (try dsimp only at h); omega
                  obtain ⟨ad, a1, c1, rfl, ⟨p0, p1, p2, p3, p4, p5, p6, p7⟩, r1⟩ := (HR.out.S.below (KS_ok n) HB.out).set (j := j) hlt
                  obtain ⟨bd, a2, c2, rfl, ⟨q0, q1, q2, q3, q4, q5, q6, q7⟩, r2⟩ := (HR'.out.S.below (KS_ok n) HB.out).set (j := j) mj
                  have hx : sets[j]? = some sets[j] := List.getElem?_eq_getElem hlt
                  have hy : sets'[j]? = some sets'[j] := List.getElem?_eq_getElem mj
                  generalize sets[j] = x at p0 p1 p2 p3 p4 p5 p6 p7 r1 hx
                  generalize sets'[j] = y at q0 q1 q2 q3 q4 q5 q6 q7 r2 hy
                  have HX := Lib.hid hx
                  have HY := Lib.hid hy
                  have hq := cell_lt q0
                  have hq2 := hq
                  rw [add_block] at hq2
                  clear hx hy
                  obtain ⟨x0, x1, x2, x3, x4, x5, x6, x7, x8, x9, x10, x11, x12, x13⟩ := cells14 hX; obtain ⟨y0, y1, y2, y3, y4, y5, y6, y7, y8, y9, y10, y11, y12, y13⟩ := cells14 hY
                  by_cases hm : x.m = y.m
                  · have hmm : (x.m.toList != y.m.toList) = false := by rw [hm]; simp
                    have hme : (x.m.toList == y.m.toList) = true := by rw [hm]; simp
                    have HM := Lib.hid hm
                    clear hm
                    have hbr := fun d os => HB.out.trans ((below_regrown wr d os).mono HB.out.size)
                    have hc := fun d os => sameExpr_any x.x y.x a1 a2 c1 c2 (grow (redrawn wr d) os) (r1.below (KE_ok n) (below_regrown wr d os)) (r2.below (KE_ok n) (below_regrown wr d os))
                    have hXr := fun d os => two_next hX hY (below_regrown wr d os)
                    have HBR := Lib.hid hbr
                    have HXR := Lib.hid hXr
                    clear hbr hXr
                    obtain ⟨E, he⟩ : ∃ E, E = eqX x.x y.x := ⟨_, rfl⟩
                    rw [← he] at hc
                    have HE := Lib.hid he
                    clear he
                    obtain ⟨xm, ⟨op, ⟨k, m, s, hv⟩, t, nm, ls⟩⟩ := x
                    obtain ⟨ym, ⟨op', ⟨k', m', s', hv'⟩, t', nm', ls'⟩⟩ := y
                    unfold ExN.val at hc
                    dsimp only at p0 p1 p2 p3 p4 p5 p6 p7 q0 q1 q2 q3 q4 q5 q6 q7 hc hmm hme
                    go_wp2_with fail
                    have p0r := cell_regrown p0
                    have p1r := cell_regrown p1
                    have p2r := cell_regrown p2
                    have p3r := cell_regrown p3
                    have p4r := cell_regrown p4
                    have p5r := cell_regrown p5
                    have p6r := cell_regrown p6
                    have p7r := cell_regrown p7
                    have q0r := cell_regrown q0
                    have q1r := cell_regrown q1
                    have q2r := cell_regrown q2
                    have q3r := cell_regrown q3
                    have q4r := cell_regrown q4
                    have q5r := cell_regrown q5
                    have q6r := cell_regrown q6
                    have q7r := cell_regrown q7
                    have x6r := cell_regrown x6
                    have y6r := cell_regrown y6
                    clear p0 p1 p2 p3 p4 p5 p6 p7 q0 q1 q2 q3 q4 q5 q6 q7 x0 x1 x2 x3 x4 x5 x6 x7 x8 x9 x10 x11 x12 x13 y0 y1 y2 y3 y4 y5 y6 y7 y8 y9 y10 y11 y12 y13
                    refine wp_region_quiet_below (by kernel_rfl) (by kernel_rfl) ?_
                    repeat (go_big_quiet_step (exact Calls.regrown_of (hc _ _)))
                    refine wpQuiet_nil ?_
                    intro w5 hw5
                    obtain ⟨pp, rfl⟩ := hw5
                    clear p0r p1r p2r p3r p4r p5r p6r p7r q0r q1r q2r q3r q4r q5r q6r q7r x6r y6r hc
                    cases E
                    · have HN := Lib.hid (take_off HX.out HY.out (fun e => eqX_no.1 HE.out.symm (congrArg Sx.x e)))
                      go_wp2_with fail
                      go_ret
                      exact ⟨ret_bool (E2.out (fun e => HN.out (congrArg St.sets e))).symm, HBR.out _ _⟩
                    · have HN := Lib.hid (take_on HT.out HX.out HY.out (sx_eq HM.out (eqX_iff.1 HE.out.symm)))
                      go_wp2_with fail
                      go_roundw
                      case rel => first | exact ⟨j + 1, by omega, by go_num, HN.out, (HXR.out _ _).1, (HXR.out _ _).2, HBR.out _ _⟩ | ((repeat apply Exists.intro); exact ⟨⟨j + 1, by omega, by go_num, HN.out, (HXR.out _ _).1, (HXR.out _ _).2, HBR.out _ _⟩, rfl⟩)
                      case measure => simp [intOf]; omega
                  · have hmm : (x.m.toList != y.m.toList) = true := by simp [ba_iff, hm]
                    have hme : (x.m.toList == y.m.toList) = false := by simp [ba_iff, hm]
                    have HN := Lib.hid (take_off HX.out HY.out (fun e => hm (congrArg Sx.m e)))
                    clear hm r1 r2 p1 p2 p3 p4 p5 p6 p7 q1 q2 q3 q4 q5 q6 q7
                    go_wp2_with fail
                    go_quiet (fail)
                    go_wp2_with fail
                    go_ret
                    exact ⟨ret_bool (E2.out (fun e => HN.out (congrArg St.sets e))).symm, below_drewN HB.out _⟩
                · have L3 := Lib.hid (take_eq HT.out (by omega) (by have h := HLN.out.2.2.1; (try dsimp only at h); omega))
                  clear HT
                  obtain ⟨x0, x1, x2, x3, x4, x5, x6, x7, x8, x9, x10, x11, x12, x13⟩ := cells14 hX; obtain ⟨y0, y1, y2, y3, y4, y5, y6, y7, y8, y9, y10, y11, y12, y13⟩ := cells14 hY
                  go_wp2_with fail
                  clear x0 x1 x2 x3 x4 x5 x6 x7 x8 x9 x10 x11 x12 x13 y0 y1 y2 y3 y4 y5 y6 y7 y8 y9 y10 y11 y12 y13 hlt
                  go_loopw [8] (fun i wr => ∃ j : Nat, j ≤ ord.length ∧ i = .int .i64 j ∧ ord.take j = ord'.take j ∧ wr.heap[w.heap.size]? = some (.cells #[.int .i64 kind, .string tb, .slice aC cols.length cC, .string key, .string ix, .slice aR rows.length cR, .slice aS sets.length cS, .slice aI items.length cI, .string jn, .slice aO on.length cO, .slice aW wh.length cW, .slice aG gr.length cG, .slice aD ord.length cD, .int .i64 lim] 28 (0, 0)) ∧ wr.heap[w.heap.size + 1]? = some (.cells #[.int .i64 kind', .string tb', .slice aC' cols'.length cC', .string key', .string ix', .slice aR' rows'.length cR', .slice aS' sets'.length cS', .slice aI' items'.length cI', .string jn', .slice aO' on'.length cO', .slice aW' wh'.length cW', .slice aG' gr'.length cG', .slice aD' ord'.length cD', .int .i64 lim'] 28 (0, 0)) ∧ Below w.heap.size w wr) (fun i _ => ord.length - (intOf i).toNat)
                  case atStart => exact ⟨0, by omega, rfl, rfl, hX, hY, HB.out⟩
                  case round =>
                    clear hX hY HB
                    obtain ⟨j, hj, rfl, ht, hX, hY, hb⟩ := hrel
                    have HT := Lib.hid ht
                    have HB := Lib.hid hb
                    have hz1 : w.heap.size + 1 < wr.heap.size := heap_lt hY
                    clear ht hb
                    by_cases hlt : j < ord.length
                    · have mj : j < ord'.length := by have h := HLN.out.2.2.2; (try dsimp only at h); omega
                      obtain ⟨ad, rfl, p0, p1⟩ := (HR.out.D.below KO_ok HB.out).ord (j := j) hlt
                      obtain ⟨bd, rfl, q0, q1⟩ := (HR'.out.D.below KO_ok HB.out).ord (j := j) mj
                      have hx : ord[j]? = some ord[j] := List.getElem?_eq_getElem hlt
                      have hy : ord'[j]? = some ord'[j] := List.getElem?_eq_getElem mj
                      generalize ord[j] = x at p0 p1 hx
                      generalize ord'[j] = y at q0 q1 hy
                      have HX := Lib.hid hx
                      have HY := Lib.hid hy
                      have hc := run_neO x y
                      have hq := cell_lt q0
                      have hq2 := hq
                      rw [add_block] at hq2
                      clear hx hy
                      obtain ⟨x0, x1, x2, x3, x4, x5, x6, x7, x8, x9, x10, x11, x12, x13⟩ := cells14 hX; obtain ⟨y0, y1, y2, y3, y4, y5, y6, y7, y8, y9, y10, y11, y12, y13⟩ := cells14 hY
                      obtain ⟨E, he⟩ : ∃ E, E = eqX x y := ⟨_, rfl⟩
                      rw [← he] at hc
                      cases E
                      · have HN := Lib.hid (take_off HX.out HY.out (eqX_no.1 he.symm))
                        clear he
                        go_wp2_with fail
                        go_quiet (fail)
                        go_wp2_with fail
                        go_ret
                        exact ⟨ret_bool (E2.out (fun e => HN.out (congrArg St.ord e))).symm, below_drewN HB.out _⟩
                      · have HN := Lib.hid (take_on HT.out HX.out HY.out (eqX_iff.1 he.symm))
                        clear he
                        go_wp2_with fail
                        go_quiet (fail)
                        go_wp2_with fail
                        go_roundw
                        case rel => exact ⟨j + 1, by omega, by go_num, HN.out, (two_drewN hX hY).1, (two_drewN hX hY).2, below_drewN HB.out _⟩
                        case measure => simp [intOf]; omega
                    · have L4 := Lib.hid (take_eq HT.out (by omega) (by have h := HLN.out.2.2.2; (try dsimp only at h); omega))
                      clear HT
                      have KI := Lib.hid fun (w' : World) (hb : Below w.heap.size w w') => HRW.out aI aI' cI cI' items items' w' (HR.out.I.below (KE_ok n) hb) (HR'.out.I.below (KE_ok n) hb)
                      have KO := Lib.hid fun (w' : World) (hb : Below w.heap.size w w') => HRW.out aO aO' cO cO' on on' w' (HR.out.O.below (KE_ok n) hb) (HR'.out.O.below (KE_ok n) hb)
                      have KW := Lib.hid fun (w' : World) (hb : Below w.heap.size w w') => HRW.out aW aW' cW cW' wh wh' w' (HR.out.W.below (KE_ok n) hb) (HR'.out.W.below (KE_ok n) hb)
                      have KG := Lib.hid fun (w' : World) (hb : Below w.heap.size w w') => HRW.out aG aG' cG cG' gr gr' w' (HR.out.G.below (KE_ok n) hb) (HR'.out.G.below (KE_ok n) hb)
                      have HF := E3.out
                      rw [eqX_iff.2 L1.out, eqX_iff.2 L2.out, eqX_iff.2 L3.out, eqX_iff.2 L4.out] at HF
                      clear E3 E2 L1 L2 L3 L4 HRW HR HR' HLN
                      generalize eqX items items' = g1 at KI HF
                      generalize eqX on on' = g2 at KO HF
                      generalize eqX wh wh' = g3 at KW HF
                      generalize eqX gr gr' = g4 at KG HF
                      have HFF := Lib.hid HF
                      clear HF
                      obtain ⟨x0, x1, x2, x3, x4, x5, x6, x7, x8, x9, x10, x11, x12, x13⟩ := cells14 hX; obtain ⟨y0, y1, y2, y3, y4, y5, y6, y7, y8, y9, y10, y11, y12, y13⟩ := cells14 hY
                      go_wp2_with (first | (go_at_call 51; (with_reducible refine (KI.out _ HB.out).mono ?_); rintro e w3 ⟨rfl, hb⟩; obtain ⟨hX, hY⟩ := two_next hX hY hb; replace HB := Lib.hid (below_call hb HB.out HB.out.size); clear hb x0 x1 x2 x3 x4 x5 x6 x7 x8 x9 x10 x11 x12 x13 y0 y1 y2 y3 y4 y5 y6 y7 y8 y9 y10 y11 y12 y13; obtain ⟨x0, x1, x2, x3, x4, x5, x6, x7, x8, x9, x10, x11, x12, x13⟩ := cells14 hX; obtain ⟨y0, y1, y2, y3, y4, y5, y6, y7, y8, y9, y10, y11, y12, y13⟩ := cells14 hY) | (go_at_call 51; (with_reducible refine (KO.out _ HB.out).mono ?_); rintro e w3 ⟨rfl, hb⟩; obtain ⟨hX, hY⟩ := two_next hX hY hb; replace HB := Lib.hid (below_call hb HB.out HB.out.size); clear hb x0 x1 x2 x3 x4 x5 x6 x7 x8 x9 x10 x11 x12 x13 y0 y1 y2 y3 y4 y5 y6 y7 y8 y9 y10 y11 y12 y13; obtain ⟨x0, x1, x2, x3, x4, x5, x6, x7, x8, x9, x10, x11, x12, x13⟩ := cells14 hX; obtain ⟨y0, y1, y2, y3, y4, y5, y6, y7, y8, y9, y10, y11, y12, y13⟩ := cells14 hY) | (go_at_call 51; (with_reducible refine (KW.out _ HB.out).mono ?_); rintro e w3 ⟨rfl, hb⟩; obtain ⟨hX, hY⟩ := two_next hX hY hb; replace HB := Lib.hid (below_call hb HB.out HB.out.size); clear hb x0 x1 x2 x3 x4 x5 x6 x7 x8 x9 x10 x11 x12 x13 y0 y1 y2 y3 y4 y5 y6 y7 y8 y9 y10 y11 y12 y13; obtain ⟨x0, x1, x2, x3, x4, x5, x6, x7, x8, x9, x10, x11, x12, x13⟩ := cells14 hX; obtain ⟨y0, y1, y2, y3, y4, y5, y6, y7, y8, y9, y10, y11, y12, y13⟩ := cells14 hY) | (go_at_call 51; (with_reducible refine (KG.out _ HB.out).mono ?_); rintro e w3 ⟨rfl, hb⟩; obtain ⟨hX, hY⟩ := two_next hX hY hb; replace HB := Lib.hid (below_call hb HB.out HB.out.size); clear hb x0 x1 x2 x3 x4 x5 x6 x7 x8 x9 x10 x11 x12 x13 y0 y1 y2 y3 y4 y5 y6 y7 y8 y9 y10 y11 y12 y13; obtain ⟨x0, x1, x2, x3, x4, x5, x6, x7, x8, x9, x10, x11, x12, x13⟩ := cells14 hX; obtain ⟨y0, y1, y2, y3, y4, y5, y6, y7, y8, y9, y10, y11, y12, y13⟩ := cells14 hY))
                      all_goals go_ret
                      all_goals refine ⟨ret_bool ?_, HB.out⟩
                      all_goals rw [HFF.out]
                      all_goals simp [*]
end Go.Proofs.YtnbgnofbeklmkaaGreatDoor
