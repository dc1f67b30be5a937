/- Values held against themselves; a table of the program's held against the statements' own: the walks of slices.Equal and Alike. Conditions: lists that are read in memory. -/
import Derived.Test.YtfmjpikibfdlaaaOa
namespace Go.Proofs.Ytfmjpikibfdlaaa
open Go.RowKit Go.Sort Go.Maps
set_option linter.unusedSimpArgs false
set_option linter.unusedVariables false

theorem run_neqV (a : V3) (w : World) : (binOp .neq 86 (.agg #[.int .i64 a.k, .int .i64 a.n, .string a.s]) (.agg #[.int .i64 a.k, .int .i64 a.n, .string a.s])).run Try.prog w = .ok (.bool false) w := by
  rw [run_neq_struct, run_equalIn_agg w 9999 86 _ _ underV stoodV]
  simp [go_sem, Try.underlying86]
theorem stoodC : Try.prog.stoodInHeld 63 = false := by kernel_rfl
theorem underC : Try.prog.underlying 63 = some (.struct (Try.prog.fieldsOf 63)) := by simp only [Program.fieldsOf, Try.underlying63]
theorem guardC : Try.prog.eqGuardType Try.prog.depth 63 = false := by kernel_rfl
theorem run_neqC (a : Cl) (w : World) : (binOp .neq 63 (.agg #[.string a.m, .int .i64 a.k, .bool a.nn]) (.agg #[.string a.m, .int .i64 a.k, .bool a.nn])).run Try.prog w = .ok (.bool false) w := by
  rw [run_neq_struct, run_equalIn_agg w 9999 63 _ _ underC stoodC]
  simp [go_sem, Try.underlying63]
theorem stoodX : Try.prog.stoodInHeld 90 = false := by kernel_rfl
theorem underX : Try.prog.underlying 90 = some (.struct (Try.prog.fieldsOf 90)) := by simp only [Program.fieldsOf, Try.underlying90]
theorem guardX : Try.prog.eqGuardType Try.prog.depth 90 = false := by kernel_rfl
theorem run_neqX (a : Ix) (w : World) : (binOp .neq 90 (.agg #[.string a.m, .int .i64 a.c]) (.agg #[.string a.m, .int .i64 a.c])).run Try.prog w = .ok (.bool false) w := by
  rw [run_neq_struct, run_equalIn_agg w 9999 90 _ _ underX stoodX]
  simp [go_sem, Try.underlying90]
set_option maxRecDepth 100000 in
set_option maxHeartbeats 4000000 in
theorem equalV_eq (A B : Option Addr) (c d : Nat) (l : List V3) (w : World) (ha : RdV w A l) (hb : RdV w B l) (hn : l.length ≤ 9223372036854775807) :
    Calls Try.prog 38 #[.slice A l.length c, .slice B l.length d] w fun e w' => e = .returned (.bool true) ∧ Below w.heap.size w w' := by
  have HA := Lib.hid ha
  have HB := Lib.hid hb
  clear ha hb
  have hle : ((l.length : Int) != (l.length : Int)) = false := by simp
  have hgv := guardV
  go_enter Try.func38, Try.ntmps38
  go_wp2
  go_loopw [5, 13] (fun _ i wr => ∃ j : Nat, i = .int .i64 j ∧ j ≤ l.length ∧ Below w.heap.size w wr) (fun _ i _ => l.length - (intOf i).toNat)
  case atStart => exact ⟨0, rfl, by omega, Below.refl _ _⟩
  case round =>
    obtain ⟨j, rfl, hj, hBB⟩ := hrel
    have HBB := Lib.hid hBB
    clear hBB
    by_cases hlt : j < l.length
    · obtain ⟨ad, e0, a0, a1, a2⟩ := (HA.out.below HBB.out).at_ hlt
      obtain ⟨bd, e1, b0, b1, b2⟩ := (HB.out.below HBB.out).at_ hlt
      subst e0
      subst e1
      generalize l[j] = x at a0 a1 a2 b0 b1 b2
      have hq := run_neqV x
      go_wp2_with fail
      have p0 := cell_regrown a0
      have p1 := cell_regrown a1
      have p2 := cell_regrown a2
      have q0 := cell_regrown b0
      have q1 := cell_regrown b1
      have q2 := cell_regrown b2
      have hlt' : (j : Int) < (l.length : Int) := by omega
      clear a0 a1 a2 b0 b1 b2
      refine wp_region_quiet_below (by kernel_rfl) (by kernel_rfl) ?_
      repeat (go_big_quiet_step (fail))
      refine wpQuiet_nil ?_
      intro w5 hw5
      obtain ⟨pp, rfl⟩ := hw5
      have HB5 := Lib.hid (below_regrown wr pp.d pp.os)
      clear p0 p1 p2 q0 q1 q2 hq
      generalize grow (redrawn wr pp.d) pp.os = W5 at HB5 ⊢
      go_wp2
      go_roundw
      case rel => exact ⟨j + 1, by go_num, hlt, HBB.out.trans (HB5.out.mono HBB.out.size)⟩
      case measure => simp [intOf]; omega
    · go_wp2
      go_ret
      exact ⟨rfl, HBB.out⟩

set_option maxRecDepth 100000 in
set_option maxHeartbeats 8000000 in
theorem alike_eq (t : Tb) (cA iA dA jA : Option Addr) (cc ic dc jc : Nat) (w : World) (hc : RdC w cA t.cols) (hx : RdX w iA t.idx) (hd : RdC w dA t.cols) (hy : RdX w jA t.idx) (hn : t.cols.length ≤ 9223372036854775807) (hm : t.idx.length ≤ 9223372036854775807) :
    Calls Try.prog 18 #[tbl t.m cA t.cols.length cc t.key iA t.idx.length ic, tbl t.m dA t.cols.length dc t.key jA t.idx.length jc] w fun e w' => e = .returned (.int .i64 0) ∧ Below w.heap.size w w' := by
  obtain ⟨m, cols, key, idx⟩ := t
  dsimp only at *
  have hb1 := below1 w (.cells #[.string m, .slice cA cols.length cc, .int .i64 key, .slice iA idx.length ic] 47)
  have hb2 := below1 (w.alloc (.cells #[.string m, .slice cA cols.length cc, .int .i64 key, .slice iA idx.length ic] 47)) (.cells #[.string m, .slice dA cols.length dc, .int .i64 key, .slice jA idx.length jc] 52)
  have HXA := Lib.hid ((Box4.new w m cA cols.length cc key iA idx.length ic 47).below hb2)
  have hxb := Box4.new (w.alloc (.cells #[.string m, .slice cA cols.length cc, .int .i64 key, .slice iA idx.length ic] 47)) m dA cols.length dc key jA idx.length jc 52
  rw [World.size_alloc] at hxb
  have HXB := Lib.hid hxb
  have HB2 := Lib.hid (thn hb1 hb2)
  have HC := Lib.hid (hc.below (thn hb1 hb2))
  have HX := Lib.hid (hx.below (thn hb1 hb2))
  have HD := Lib.hid (hd.below (thn hb1 hb2))
  have HY := Lib.hid (hy.below (thn hb1 hb2))
  obtain ⟨x0, x1, x2, x3⟩ := HXA.out
  obtain ⟨y0, y1, y2, y3⟩ := HXB.out
  clear hc hx hd hy hb1 hb2 hxb
  have hgc := guardC
  have hgx := guardX
  have e1 : (m.toList != m.toList) = false := by simp
  have e2 : (key != key) = false := by simp
  have e3 : ((cols.length : Int) != (cols.length : Int)) = false := by simp
  have e4 : ((idx.length : Int) != (idx.length : Int)) = false := by simp
  go_enter Try.func18, Try.ntmps18
  go_upto_region 1 with fail
  generalize (w.alloc (.cells #[.string m, .slice cA cols.length cc, .int .i64 key, .slice iA idx.length ic] 47)).alloc (.cells #[.string m, .slice dA cols.length dc, .int .i64 key, .slice jA idx.length jc] 52) = w2 at *
  go_wp2
  go_loopw [5] (fun i wr => ∃ j : Nat, i = .int .i64 j ∧ j ≤ cols.length ∧ Below w2.heap.size w2 wr) (fun i _ => cols.length - (intOf i).toNat)
  case atStart => exact ⟨0, rfl, by omega, Below.refl _ _⟩
  case round =>
    obtain ⟨j, rfl, hj, hBB⟩ := hrel
    have HBB := Lib.hid hBB
    clear hBB
    obtain ⟨x0, x1, x2, x3⟩ := HXA.out.below HBB.out
    obtain ⟨y0, y1, y2, y3⟩ := HXB.out.below HBB.out
    by_cases hlt : j < cols.length
    · obtain ⟨ad, e0, a0, a1, a2⟩ := (HC.out.below HBB.out).at_ hlt
      obtain ⟨bd, e1', b0, b1, b2⟩ := (HD.out.below HBB.out).at_ hlt
      subst e0
      subst e1'
      generalize cols[j] = x at a0 a1 a2 b0 b1 b2
      have hq := run_neqC x
      go_upto_region 6 with fail
      have p0 := cell_regrown a0
      have q0 := cell_regrown b0
      have p1 := cell_regrown a1
      have q1 := cell_regrown b1
      have p2 := cell_regrown a2
      have q2 := cell_regrown b2
      have r0 := cell_regrown x1
      have r1 := cell_regrown y1
      have hlt' : (j : Int) < (cols.length : Int) := by omega
      clear a0 a1 a2 b0 b1 b2 x0 x1 x2 x3 y0 y1 y2 y3
      refine wp_region_quiet_below (by kernel_rfl) (by kernel_rfl) ?_
      repeat (go_big_quiet_step (fail))
      refine wpQuiet_nil ?_
      intro w5 hw5
      obtain ⟨pp, rfl⟩ := hw5
      have HB5 := Lib.hid (below_regrown wr pp.d pp.os)
      clear p0 q0 p1 q1 p2 q2 r0 r1 hq
      generalize grow (redrawn wr pp.d) pp.os = W5 at HB5 ⊢
      go_wp2
      go_roundw
      case rel => exact ⟨j + 1, by go_num, hlt, HBB.out.trans (HB5.out.mono HBB.out.size)⟩
      case measure => simp [intOf]; omega
    · have HB7 := Lib.hid (thn HB2.out HBB.out)
      have HXA7 := Lib.hid (HXA.out.below HBB.out)
      have HXB7 := Lib.hid (HXB.out.below HBB.out)
      have HX7 := Lib.hid (HX.out.below HBB.out)
      have HY7 := Lib.hid (HY.out.below HBB.out)
      clear HXA HXB HX HY HC HD HBB HB2
      go_wp2
      generalize wr = wz at *
      go_loopw [6] (fun i wr => ∃ j : Nat, i = .int .i64 j ∧ j ≤ idx.length ∧ Below wz.heap.size wz wr) (fun i _ => idx.length - (intOf i).toNat)
      case atStart => exact ⟨0, rfl, by omega, Below.refl _ _⟩
      case round =>
        obtain ⟨j, rfl, hj, hBB⟩ := hrel
        have HBB := Lib.hid hBB
        clear hBB
        obtain ⟨x0, x1, x2, x3⟩ := HXA7.out.below HBB.out
        obtain ⟨y0, y1, y2, y3⟩ := HXB7.out.below HBB.out
        by_cases hlt : j < idx.length
        · obtain ⟨ad, e0, a0, a1⟩ := (HX7.out.below HBB.out).at_ hlt
          obtain ⟨bd, e1', b0, b1⟩ := (HY7.out.below HBB.out).at_ hlt
          subst e0
          subst e1'
          generalize idx[j] = x at a0 a1 b0 b1
          have hq := run_neqX x
          go_upto_region 11 with fail
          have p0 := cell_regrown a0
          have q0 := cell_regrown b0
          have p1 := cell_regrown a1
          have q1 := cell_regrown b1
          have r0 := cell_regrown x3
          have r1 := cell_regrown y3
          have hlt' : (j : Int) < (idx.length : Int) := by omega
          clear a0 a1 b0 b1 x0 x1 x2 x3 y0 y1 y2 y3
          refine wp_region_quiet_below (by kernel_rfl) (by kernel_rfl) ?_
          repeat (go_big_quiet_step (fail))
          refine wpQuiet_nil ?_
          intro w5 hw5
          obtain ⟨pp, rfl⟩ := hw5
          have HB5 := Lib.hid (below_regrown wr pp.d pp.os)
          clear p0 q0 p1 q1 r0 r1 hq
          generalize grow (redrawn wr pp.d) pp.os = W5 at HB5 ⊢
          go_wp2
          go_roundw
          case rel => exact ⟨j + 1, by go_num, hlt, HBB.out.trans (HB5.out.mono HBB.out.size)⟩
          case measure => simp [intOf]; omega
        · go_wp2
          go_ret
          exact ⟨rfl, thn HB7.out HBB.out⟩
end Go.Proofs.Ytfmjpikibfdlaaa
