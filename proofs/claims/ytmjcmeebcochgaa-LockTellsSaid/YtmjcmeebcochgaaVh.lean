/- What slices.BinarySearchFunc answers over locks that rise, with inOrder: the walk. Conditions: a list of at most a million locks that is read in memory. -/
import Derived.Test.YtmjcmeebcochgaaVg0
namespace Go.Proofs.Ytmjcmeebcochgaa
open Go.RowKit Go.Sort Go.Maps
set_option linter.unusedSimpArgs false
set_option linter.unusedVariables false

theorem pos_of {l : List Lk} {x : Lk} {i : Nat} (hs : l.Pairwise ltL) (hi : i ≤ l.length) (h1 : ∀ h : i - 1 < l.length, 0 < i → inOrd l[i - 1] x < 0) (h2 : ∀ h : i < l.length, ¬ inOrd l[i] x < 0) : pos l x = i := by
  rcases Nat.lt_trichotomy (pos l x) i with h | h | h
  · exfalso
    have g1 := (inOrd_lt _ _).1 (h1 (by omega) (by omega))
    have g2 := pos_stop (l := l) (x := x) (by omega)
    rcases Nat.lt_or_ge (pos l x) (i - 1) with h3 | h3
    · exact g2 (ltL_trans (List.pairwise_iff_getElem.1 hs _ _ (by omega) (by omega) h3) g1)
    · have e : pos l x = i - 1 := by omega
      simp only [e] at g2
      exact g2 g1
  · exact h
  · exfalso
    have hl : i < l.length := Nat.lt_of_lt_of_le h (pos_le l x)
    exact h2 hl ((inOrd_lt _ _).2 (pos_below h))
/-- A place, and whether the target is there. -/
def SearchX (p : Nat) (w : World) (e : Ending) (w' : World) : Prop := ∃ b, e = .returned (.tuple #[.int .i64 p, .bool b]) ∧ Below w.heap.size w w'
set_option maxRecDepth 100000 in
set_option maxHeartbeats 4000000 in
theorem search_any (x : Lk) (A : Option Addr) (n c : Nat) (l : List Lk) (w : World) (hr : Rd w A n c l) (hn : n ≤ 1000000) (hs : l.Pairwise ltL) :
    Calls Try.prog 47 #[.slice A n c, .agg #[.int .i64 x.t, .string x.lo.s, .string x.hi.s], .func (.func 42) #[] #[]] w (SearchX (pos l x) w) := by
  have hlen := hr.len
  subst hlen
  have HR := Lib.hid hr
  have HS := Lib.hid hs
  clear hr hs
  have s0 := cell_last w #[.int .i64 x.t, .string x.lo.s, .string x.hi.s] 34 w.heap.size 0 rfl
  have s1 := cell_last w #[.int .i64 x.t, .string x.lo.s, .string x.hi.s] 34 w.heap.size 1 rfl
  have s2 := cell_last w #[.int .i64 x.t, .string x.lo.s, .string x.hi.s] 34 w.heap.size 2 rfl
  have hb0 := below1 w (.cells #[.int .i64 x.t, .string x.lo.s, .string x.hi.s] 34)
  go_enter Try.func47, Try.ntmps47
  go_upto_region 1 with fail
  generalize w.alloc (.cells #[.int .i64 x.t, .string x.lo.s, .string x.hi.s] 34) = w0 at s0 s1 s2 hb0 ⊢
  have HX : Hid (Cell3 w0 ⟨w.heap.size, 0, none⟩ x) := Lib.hid ⟨s0, s1, s2⟩
  have HB0 := Lib.hid hb0
  clear s0 s1 s2 hb0
  generalize w.heap.size = gs at HX ⊢
  go_wp2
  go_loopw [9, 10, 11] (fun a z _ wr => ∃ i j : Nat, a = .int .i64 i ∧ z = .int .i64 j ∧ i ≤ j ∧ j ≤ l.length ∧ (∀ h : i - 1 < l.length, 0 < i → inOrd l[i - 1] x < 0) ∧ (∀ h : j < l.length, ¬ inOrd l[j] x < 0) ∧ Below w0.heap.size w0 wr) (fun a z _ _ => (intOf z).toNat - (intOf a).toNat)
  case atStart => exact ⟨0, l.length, rfl, rfl, by omega, by omega, fun _ h => by omega, fun h => by omega, Below.refl _ _⟩
  case round =>
    obtain ⟨i, j, rfl, rfl, hij, hj, h1, h2, hB⟩ := hrel
    have H1 := Lib.hid h1
    have H2 := Lib.hid h2
    have HBO := Lib.hid hB
    have HB := Lib.hid (thn HB0.out hB)
    have HXW := Lib.hid (HX.out.below hB)
    clear h1 h2 hB
    by_cases hlt : i < j
    · go_upto_region 5 with fail
      rw [show ((i : Int) + (j : Int)) / 2 = (((i + j) / 2 : Nat) : Int) by omega]
      obtain ⟨h, hh⟩ : ∃ h, h = (i + j) / 2 := ⟨_, rfl⟩
      have hi1 : i ≤ h := by omega
      have hi2 : h < j := by omega
      rw [← hh]
      clear hh
      have hhl : h < l.length := by omega
      obtain ⟨ad, rfl, k0, k1, k2⟩ := (HR.out.below HB.out).at_ hhl
      obtain ⟨x0, x1, x2⟩ := HXW.out
      have hq0 := cell_lt k0
      rw [add_block] at hq0
      have hqx := cell_lt x0
      have HF := Lib.hid fun W => inOrder_any l[h] x W
      have hO : ∃ O, inOrd l[h] x = O := ⟨_, rfl⟩
      obtain ⟨O, hO⟩ := hO
      have HO := Lib.hid hO
      rw [hO] at HF
      clear hO
      have hlt' : (h : Int) < (l.length : Int) := by omega
      by_cases hO : O < 0
      · have hO1 : ¬ (0 ≤ O) := by omega
        have q0 := cell_regrown k0
        have q1 := cell_regrown k1
        have q2 := cell_regrown k2
        have r0 := cell_regrown x0
        have r1 := cell_regrown x1
        have r2 := cell_regrown x2
        clear k0 k1 k2 x0 x1 x2
        refine wp_region_quiet_below (by kernel_rfl) (by kernel_rfl) ?_
        repeat (go_big_quiet_step (with_reducible exact Calls.regrown_of (HF.out _)))
        refine wpQuiet_nil ?_
        intro w5 hw5
        obtain ⟨pp, rfl⟩ := hw5
        have HB5 := Lib.hid (thn HB.out (below_regrown wr pp.d pp.os))
        have HBO5 := Lib.hid (thn HBO.out (below_regrown wr pp.d pp.os))
        clear q0 q1 q2 r0 r1 r2
        generalize grow (redrawn wr pp.d) pp.os = W5 at HB5 HBO5 ⊢
        go_wp2
        go_roundw
        case rel => exact ⟨h + 1, j, by go_num, rfl, by omega, hj, fun _ _ => by have := HO.out; simp only [Nat.add_sub_cancel]; rw [this]; exact hO, H2.out, HBO5.out⟩
        case measure => simp [intOf]; omega
      · have hO1 : 0 ≤ O := by omega
        have q0 := cell_regrown k0
        have q1 := cell_regrown k1
        have q2 := cell_regrown k2
        have r0 := cell_regrown x0
        have r1 := cell_regrown x1
        have r2 := cell_regrown x2
        clear k0 k1 k2 x0 x1 x2
        refine wp_region_quiet_below (by kernel_rfl) (by kernel_rfl) ?_
        repeat (go_big_quiet_step (with_reducible exact Calls.regrown_of (HF.out _)))
        refine wpQuiet_nil ?_
        intro w5 hw5
        obtain ⟨pp, rfl⟩ := hw5
        have HB5 := Lib.hid (thn HB.out (below_regrown wr pp.d pp.os))
        have HBO5 := Lib.hid (thn HBO.out (below_regrown wr pp.d pp.os))
        clear q0 q1 q2 r0 r1 r2
        generalize grow (redrawn wr pp.d) pp.os = W5 at HB5 HBO5 ⊢
        go_wp2
        go_roundw
        case rel => exact ⟨i, h, rfl, rfl, hi1, by omega, H1.out, fun _ => by rw [HO.out]; exact hO, HBO5.out⟩
        case measure => simp [intOf]; omega
    · obtain rfl : i = j := by omega
      have hp : pos l x = i := pos_of HS.out hj H1.out H2.out
      have HP := Lib.hid hp
      clear hp
      by_cases hn2 : i < l.length
      · obtain ⟨ad, rfl, k0, k1, k2⟩ := (HR.out.below HB.out).at_ hn2
        obtain ⟨x0, x1, x2⟩ := HXW.out
        have hq0 := cell_lt k0
        rw [add_block] at hq0
        have hqx := cell_lt x0
        have HF := Lib.hid fun W => inOrder_any l[i] x W
        generalize inOrd l[i] x = O at HF
        have hlt' : (i : Int) < (l.length : Int) := by omega
        have hd : decide ((i : Int) < (l.length : Int)) = true := decide_eq_true hlt'
        have hd2 : decide (i < l.length) = true := decide_eq_true hn2
        go_upto_region 8 with fail
        have q0 := cell_regrown k0
        have q1 := cell_regrown k1
        have q2 := cell_regrown k2
        have r0 := cell_regrown x0
        have r1 := cell_regrown x1
        have r2 := cell_regrown x2
        clear k0 k1 k2 x0 x1 x2
        refine wp_region_quiet_below (by kernel_rfl) (by kernel_rfl) ?_
        repeat (go_big_quiet_step (with_reducible exact Calls.regrown_of (HF.out _)))
        refine wpQuiet_nil ?_
        intro w5 hw5
        obtain ⟨pp, rfl⟩ := hw5
        have HB5 := Lib.hid (thn HB.out (below_regrown wr pp.d pp.os))
        have HBO5 := Lib.hid (thn HBO.out (below_regrown wr pp.d pp.os))
        clear q0 q1 q2 r0 r1 r2
        generalize grow (redrawn wr pp.d) pp.os = W5 at HB5 HBO5 ⊢
        go_wp2
        go_ret2
        exact ⟨_, by rw [HP.out]; rfl, HB5.out⟩
      · have hd : decide ((i : Int) < (l.length : Int)) = false := by simp; omega
        have hd2 : decide (i < l.length) = false := decide_eq_false hn2
        obtain ⟨x0, x1, x2⟩ := HXW.out
        go_upto_region 8 with fail
        refine wp_region_quiet_below (by kernel_rfl) (by kernel_rfl) ?_
        repeat (go_big_quiet_step (fail))
        refine wpQuiet_nil ?_
        intro w5 hw5
        obtain ⟨pp, rfl⟩ := hw5
        have HB5 := Lib.hid (thn HB.out (below_regrown wr pp.d pp.os))
        generalize grow (redrawn wr pp.d) pp.os = W5 at HB5 ⊢
        go_wp2
        go_ret2
        exact ⟨_, by rw [HP.out]; rfl, HB5.out⟩
end Go.Proofs.Ytmjcmeebcochgaa
