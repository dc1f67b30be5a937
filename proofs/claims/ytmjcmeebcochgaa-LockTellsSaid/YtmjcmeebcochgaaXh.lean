/- What the law's Alike answers of two states that read alike: the walk. Conditions: states that are read in memory. -/
import Derived.Test.YtmjcmeebcochgaaWa
namespace Go.Proofs.Ytmjcmeebcochgaa
open Go.RowKit Go.Sort Go.Maps
set_option linter.unusedSimpArgs false
set_option linter.unusedVariables false

theorem stoodR : Try.prog.stoodInHeld 26 = false := by kernel_rfl
theorem underR : Try.prog.underlying 26 = some (.struct (Try.prog.fieldsOf 26)) := by simp only [Program.fieldsOf, Try.underlying26]
theorem guardR : Try.prog.eqGuardType Try.prog.depth 26 = false := by kernel_rfl
theorem run_neqR (t : Int) (lo hi : ByteArray) (w : World) : (binOp .neq 26 (.agg #[.int .i64 t, .string lo, .string hi]) (.agg #[.int .i64 t, .string lo, .string hi])).run Try.prog w = .ok (.bool false) w := by
  rw [run_neq_struct, run_equalIn_agg w 9999 26 _ _ underR stoodR]
  simp [go_sem, Try.underlying26]
theorem Stt.newR {W : World} {A : Option Addr} {n c : Nat} {l : List Lk} (h : Rd W A n c l) : Stt (W.alloc (.cells #[.slice A n c] 24)) W.heap.size A n c l := ⟨cell_last W _ _ _ 0 rfl, h.below (below1 _ _)⟩
set_option maxRecDepth 100000 in
set_option maxHeartbeats 4000000 in
theorem alike_eq (A B : Option Addr) (n n' c d : Nat) (l : List Lk) (w : World) (ha : Rd w A n c l) (hb : Rd w B n' d l) :
    Calls Try.prog 20 #[.agg #[.slice A n c], .agg #[.slice B n' d]] w fun e w' => e = .returned (.int .i64 0) ∧ Below w.heap.size w w' := by
  obtain rfl : n = l.length := ha.len.symm
  obtain rfl : n' = l.length := hb.len.symm
  have hcap : l.length ≤ 9223372036854775807 := by have := ha.le; have := ha.cap; omega
  have b1 := below1 w (.cells #[.slice A l.length c] 29)
  have b2 := below1 (w.alloc (.cells #[.slice A l.length c] 29)) (.cells #[.slice B l.length d] 24)
  have e1 : (w.alloc (.cells #[.slice A l.length c] 29)).heap.size = w.heap.size + 1 := by simp
  have HSA : Hid (Stt ((w.alloc (.cells #[.slice A l.length c] 29)).alloc (.cells #[.slice B l.length d] 24)) w.heap.size A l.length c l) := Lib.hid ⟨cell_keep (cell_last w _ _ _ 0 rfl) b2, ha.below (thn b1 b2)⟩
  have HSB : Hid (Stt ((w.alloc (.cells #[.slice A l.length c] 29)).alloc (.cells #[.slice B l.length d] 24)) (w.heap.size + 1) B l.length d l) := Lib.hid ⟨cell_last _ _ _ _ 0 e1.symm, hb.below (thn b1 b2)⟩
  have HB0 := Lib.hid (thn b1 b2)
  clear ha hb b1 b2 e1
  have hle : ((l.length : Int) != (l.length : Int)) = false := by simp
  have hgv := guardR
  go_enter Try.func20, Try.ntmps20
  go_upto_region 1 with fail
  generalize (w.alloc (.cells #[.slice A l.length c] 29)).alloc (.cells #[.slice B l.length d] 24) = W0 at *
  generalize w.heap.size + 1 = g1 at *
  have hsa := HSA.out.s
  have hsb := HSB.out.s
  go_wp2
  clear hsa hsb
  go_loopw [5] (fun i wr => ∃ j : Nat, i = .int .i64 j ∧ j ≤ l.length ∧ Below W0.heap.size W0 wr) (fun i _ => l.length - (intOf i).toNat)
  case atStart => exact ⟨0, rfl, by omega, Below.refl _ _⟩
  case round =>
    obtain ⟨j, rfl, hj, hBB⟩ := hrel
    have HTA := Lib.hid (HSA.out.below hBB)
    have HTB := Lib.hid (HSB.out.below hBB)
    have HBB := Lib.hid hBB
    clear hBB
    have ht9 := HTA.out.s
    have hu9 := HTB.out.s
    by_cases hlt : j < l.length
    · obtain ⟨ad, e0, a0, a1, a2⟩ := HTA.out.r.at_ hlt
      obtain ⟨bd, e1, b0, b1, b2⟩ := HTB.out.r.at_ hlt
      subst e0
      subst e1
      generalize l[j] = v at a0 a1 a2 b0 b1 b2
      have hq := run_neqR v.t v.lo.s v.hi.s
      have hlt' : (j : Int) < (l.length : Int) := by omega
      go_upto_region 6 with fail
      have p0 := cell_regrown a0
      have p1 := cell_regrown a1
      have p2 := cell_regrown a2
      have q0 := cell_regrown b0
      have q1 := cell_regrown b1
      have q2 := cell_regrown b2
      have s0 := cell_regrown ht9
      have s1 := cell_regrown hu9
      clear a0 a1 a2 b0 b1 b2 ht9 hu9
      refine wp_region_quiet_below (by kernel_rfl) (by kernel_rfl) ?_
      repeat (go_big_quiet_step (fail))
      refine wpQuiet_nil ?_
      intro w5 hw5
      obtain ⟨pp, rfl⟩ := hw5
      have HB5 := Lib.hid (thn HBB.out (below_regrown wr pp.d pp.os))
      clear p0 p1 p2 q0 q1 q2 s0 s1 hq
      generalize grow (redrawn wr pp.d) pp.os = W9 at HB5 ⊢
      go_wp2
      go_roundw
      case rel => exact ⟨j + 1, by go_num, hlt, HB5.out⟩
      case measure => simp [intOf]; omega
    · go_wp2
      go_ret
      exact ⟨rfl, thn HB0.out HBB.out⟩
end Go.Proofs.Ytmjcmeebcochgaa
