/- Rows held against themselves; the statements' own table and rows: the walks. Conditions: lists that are read in memory. -/
import Derived.Test.YtjbebhhoakmceaaJu
namespace Go.Proofs.Ytjbebhhoakmceaa
open Go.RowKit Go.Sort
set_option linter.unusedSimpArgs false
set_option linter.unusedVariables false

theorem run_neqV (a : Vl) (w : World) : (binOp .neq 39 (.agg #[.int .i64 a.k, .int .i64 a.n, .string a.s]) (.agg #[.int .i64 a.k, .int .i64 a.n, .string a.s])).run Try.prog w = .ok (.bool false) w := by
  rw [run_neq_struct, run_equalIn_agg w 9999 39 _ _ underV stoodV]
  simp [go_sem, Try.underlying39]
set_option maxRecDepth 100000 in
set_option maxHeartbeats 2000000 in
theorem sameRow_eq (A B : Option Addr) (c d n : Nat) (r : List Vl) (w : World) (hl : n = r.length) (ha : RdL w A r) (hb : RdL w B r) (hn : r.length ≤ 9223372036854775807) :
    Calls Try.prog 11 #[.slice A n c, .slice B n d] w fun e w' => e = .returned (.bool true) ∧ Below w.heap.size w w' := by
  subst hl
  have HA := Lib.hid ha
  have HB := Lib.hid hb
  clear ha hb
  have hle : ((r.length : Int) != (r.length : Int)) = false := by simp
  have hgv := guardV
  go_enter Try.func11, Try.ntmps11
  go_wp2
  go_loopw [5] (fun i wr => ∃ j : Nat, i = .int .i64 j ∧ j ≤ r.length ∧ Below w.heap.size w wr) (fun i _ => r.length - (intOf i).toNat)
  case atStart => exact ⟨0, rfl, by omega, Below.refl _ _⟩
  case round =>
    obtain ⟨j, rfl, hj, hBB⟩ := hrel
    have HBB := Lib.hid hBB
    clear hBB
    by_cases hlt : j < r.length
    · obtain ⟨ad, e0, a0, a1, a2⟩ := (HA.out.below HBB.out).at_ hlt
      obtain ⟨bd, e1, b0, b1, b2⟩ := (HB.out.below HBB.out).at_ hlt
      subst e0
      subst e1
      generalize r[j] = x at a0 a1 a2 b0 b1 b2
      have hq := run_neqV x
      go_wp2_with fail
      have p0 := cell_regrown a0
      have p1 := cell_regrown a1
      have p2 := cell_regrown a2
      have q0 := cell_regrown b0
      have q1 := cell_regrown b1
      have q2 := cell_regrown b2
      have hlt' : (j : Int) < (r.length : Int) := by omega
      clear a0 a1 a2 b0 b1 b2
      refine wp_region_quiet_below (by kernel_rfl) (by kernel_rfl) ?_
      repeat (go_big_quiet_step (fail))
      refine wpQuiet_nil ?_
      intro w5 hw5
      obtain ⟨pp, rfl⟩ := hw5
      have HB5 := Lib.hid (below_regrown wr pp.d pp.os)
      clear p0 p1 p2 q0 q1 q2 hq
      generalize grow (redrawn wr pp.d) pp.os = W5 at HB5 ⊢
      go_wp2
      go_roundw
      case rel => exact ⟨j + 1, by go_num, hlt, HBB.out.trans (HB5.out.mono HBB.out.size)⟩
      case measure => simp [intOf]; omega
    · go_wp2
      go_ret
      exact ⟨rfl, HBB.out⟩
set_option maxRecDepth 100000 in
set_option maxHeartbeats 2000000 in
theorem sameRows_eq (A B : Option Addr) (c d n : Nat) (ls : List (List Vl)) (w : World) (hl : n = ls.length) (ha : RdR w A ls) (hb : RdR w B ls) (hn : ls.length ≤ 9223372036854775807) :
    Calls Try.prog 13 #[.slice A n c, .slice B n d] w fun e w' => e = .returned (.bool true) ∧ Below w.heap.size w w' := by
  subst hl
  have HA := Lib.hid ha
  have HB := Lib.hid hb
  clear ha hb
  have hle : ((ls.length : Int) != (ls.length : Int)) = false := by simp
  go_enter Try.func13, Try.ntmps13
  go_wp2
  go_loopw [5] (fun i wr => ∃ j : Nat, i = .int .i64 j ∧ j ≤ ls.length ∧ Below w.heap.size w wr) (fun i _ => ls.length - (intOf i).toNat)
  case atStart => exact ⟨0, rfl, by omega, Below.refl _ _⟩
  case round =>
    obtain ⟨j, rfl, hj, hBB⟩ := hrel
    have HBB := Lib.hid hBB
    clear hBB
    by_cases hlt : j < ls.length
    · obtain ⟨ad, aA, ac, e0, a0, ar, _, an⟩ := (HA.out.below HBB.out).at_ hlt
      obtain ⟨bd, bA, bc, e1, b0, br, _, _⟩ := (HB.out.below HBB.out).at_ hlt
      subst e0
      subst e1
      have hs := fun W (hb : Below wr.heap.size wr W) => sameRow_eq aA bA ac bc ls[j].length ls[j] W rfl (ar.below hb) (br.below hb) (by omega)
      clear ar br
      generalize ls[j] = x at a0 b0 hs an
      have HS := Lib.hid hs
      clear hs
      go_wp2_with fail
      have p0 := cell_regrown a0
      have q0 := cell_regrown b0
      have hlt' : (j : Int) < (ls.length : Int) := by omega
      clear a0 b0
      refine wp_region_quiet_below (by kernel_rfl) (by kernel_rfl) ?_
      repeat (go_big_quiet_step (with_reducible exact Calls.regrown_of (HS.out _ (below_regrown _ _ _))))
      refine wpQuiet_nil ?_
      intro w5 hw5
      obtain ⟨pp, rfl⟩ := hw5
      have HB5 := Lib.hid (below_regrown wr pp.d pp.os)
      clear p0 q0 HS
      generalize grow (redrawn wr pp.d) pp.os = W5 at HB5 ⊢
      go_wp2
      go_roundw
      case rel => exact ⟨j + 1, by go_num, hlt, HBB.out.trans (HB5.out.mono HBB.out.size)⟩
      case measure => simp [intOf]; omega
    · go_wp2
      go_ret
      exact ⟨rfl, HBB.out⟩
theorem num_any (n : Int) (w : World) : Calls Try.prog 8 #[.int .i64 n] w fun e w' => e = .returned (.int .i64 n) ∧ w = w' := by
  go_enter Try.func8, Try.ntmps8
  go_wp2
  go_ret
  exact ⟨rfl, rfl⟩
end Go.Proofs.Ytjbebhhoakmceaa
