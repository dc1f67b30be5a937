/- The statements' own Of, num, alive and Alike: the walks. Conditions: chains that are read in memory, within reach. -/
import Derived.Test.YtclcidcjeoajaaaVi
namespace Go.Proofs.Ytclcidcjeoajaaa
open Go.RowKit Go.Sort
set_option linter.unusedSimpArgs false
set_option linter.unusedVariables false

theorem num_any (n : Int) (w : World) : Calls Try.prog 9 #[.int .i64 n] w fun e w' => e = .returned (.int .i64 n) ∧ w = w' := by
  go_enter Try.func9, Try.ntmps9
  go_wp2
  go_ret
  exact ⟨rfl, rfl⟩
theorem lit_news (W : World) (v : Ver) : ∀ j u, (vers [v])[j]? = some u → (W.alloc (.cells #[.int .i64 v.t, .int .i64 v.x, .bool v.g, .string v.v] 41)).cell? ((⟨W.heap.size, 0, none⟩ : Addr).add j) = some u := fun j u hu => by
  rw [add_lit, Nat.zero_add, cell_last _ _ _ _ _ rfl, ← hu]
  simp [vers, verC]
set_option maxRecDepth 100000 in
set_option maxHeartbeats 4000000 in
theorem of_any (A : Option Addr) (n c : Nat) (l : List Ver) (w : World) (hr : Rd w A n c l) (hn : n * 40 ≤ 140737488355328) :
    Calls Try.prog 8 #[.slice A n c] w (RdX l w) := by
  obtain ⟨i0, hi, hz0, hz1, hz2⟩ := info_parts Try.infoV
  have hl := hr.len
  subst hl
  have HR := Lib.hid hr
  clear hr
  go_enter Try.func8, Try.ntmps8
  go_wp2
  go_loopw [3, 4] (fun v i wr => ∃ j : Nat, i = .int .i64 j ∧ j ≤ l.length ∧ wr.ownsRow w.heap.size 41 4 v j (vers (l.take j)) ∧ Below w.heap.size w wr) (fun _ i _ => l.length - (intOf i).toNat)
  case atStart => exact ⟨0, rfl, by omega, World.ownsRow_nil _ _ _ _, Below.refl _ _⟩
  case round =>
    obtain ⟨j, rfl, hj, hO, hB⟩ := hrel
    have HO := Lib.hid hO
    have HB := Lib.hid hB
    clear hO hB
    by_cases hlt : j < l.length
    · obtain ⟨ad, rfl, c0, c1, c2, c3⟩ := (HR.out.below HB.out).at_ hlt
      have hb0 := cell_lt c0
      rw [add_block] at hb0
      have hst : vers (l.take (j + 1)) = vers (l.take j) ++ vers [l[j]] := by rw [List.take_succ_eq_append_getElem hlt, vers_app]
      have HST := Lib.hid hst
      clear hst
      generalize l[j] = v at *
      have HO1 := Lib.hid (own_below HO.out (below1 wr (.cells #[.int .i64 v.t, .int .i64 v.x, .bool v.g, .string v.v] 41)))
      have HB1 := Lib.hid (thn HB.out (below1 wr (.cells #[.int .i64 v.t, .int .i64 v.x, .bool v.g, .string v.v] 41)))
      go_wp2_with (at_builtin; refine wpList_append_own_at _ rfl _ _ 24 rfl w.heap.size 41 i0 (.agg #[.int .i64 0, .int .i64 0, .bool false, .string ⟨#[]⟩]) 4 40 Try.underlying24 hi hz0 hz1 hz2 rfl (by decide) _ j _ rfl HO1.out ⟨wr.heap.size, 0, none⟩ 1 1 (vers [v]) rfl rfl (lit_news wr v) (vers_one _) (by unfold maxLen; omega) (by omega) HB1.out.size ?_; intro v3 w3 hown3 hg3 _ _; have HO4 := Lib.hid hown3; have HB4 := Lib.hid (HB1.out.grown hg3 HB1.out.size (fun k hk => (HO1.out.lt k hk).1)); clear hown3 hg3)
      go_roundw
      case rel => exact ⟨j + 1, by go_num, hlt, by rw [HST.out]; exact HO4.out, HB4.out⟩
      case measure => simp [intOf]; omega
    · obtain rfl : j = l.length := by omega
      go_wp2
      go_ret
      have h := HO.out
      rw [List.take_length] at h
      obtain ⟨A5, c5, e5, h5⟩ := Rd.of_own h
      exact ⟨A5, _, c5, by rw [← e5]; rfl, h5, HB.out⟩
theorem stoodV : Try.prog.stoodInHeld 37 = false := by kernel_rfl
theorem underV : Try.prog.underlying 37 = some (.struct (Try.prog.fieldsOf 37)) := by simp only [Program.fieldsOf, Try.underlying37]
theorem guardV : Try.prog.eqGuardType Try.prog.depth 37 = false := by kernel_rfl
theorem run_neqV (a : Ver) (w : World) : (binOp .neq 37 (.agg #[.int .i64 a.t, .int .i64 a.x, .bool a.g, .string a.v]) (.agg #[.int .i64 a.t, .int .i64 a.x, .bool a.g, .string a.v])).run Try.prog w = .ok (.bool false) w := by
  rw [run_neq_struct, run_equalIn_agg w 9999 37 _ _ underV stoodV]
  simp [go_sem, Try.underlying37]
set_option maxRecDepth 100000 in
set_option maxHeartbeats 2000000 in
theorem alike_eq (A B : Option Addr) (n c d : Nat) (l : List Ver) (w : World) (ha : Rd w A n c l) (hb : Rd w B n d l) :
    Calls Try.prog 15 #[.slice A n c, .slice B n d] w fun e w' => e = .returned (.int .i64 0) ∧ Below w.heap.size w w' := by
  have hl := ha.len
  have hcap : n ≤ 9223372036854775807 := by have := ha.le; have := ha.cap; omega
  subst hl
  have HA := Lib.hid ha
  have HB := Lib.hid hb
  clear ha hb
  have hle : ((l.length : Int) != (l.length : Int)) = false := by simp
  have hgv := guardV
  go_enter Try.func15, Try.ntmps15
  go_wp2
  go_loopw [5] (fun i wr => ∃ j : Nat, i = .int .i64 j ∧ j ≤ l.length ∧ Below w.heap.size w wr) (fun i _ => l.length - (intOf i).toNat)
  case atStart => exact ⟨0, rfl, by omega, Below.refl _ _⟩
  case round =>
    obtain ⟨j, rfl, hj, hBB⟩ := hrel
    have HBB := Lib.hid hBB
    clear hBB
    by_cases hlt : j < l.length
    · obtain ⟨ad, e0, a0, a1, a2, a3⟩ := (HA.out.below HBB.out).at_ hlt
      obtain ⟨bd, e1, b0, b1, b2, b3⟩ := (HB.out.below HBB.out).at_ hlt
      subst e0
      subst e1
      generalize l[j] = x at a0 a1 a2 a3 b0 b1 b2 b3
      have hq := run_neqV x
      have hlt' : (j : Int) < (l.length : Int) := by omega
      go_wp2_with fail
      have p0 := cell_regrown a0
      have p1 := cell_regrown a1
      have p2 := cell_regrown a2
      have p3 := cell_regrown a3
      have q0 := cell_regrown b0
      have q1 := cell_regrown b1
      have q2 := cell_regrown b2
      have q3 := cell_regrown b3
      clear a0 a1 a2 a3 b0 b1 b2 b3
      refine wp_region_quiet_below (by kernel_rfl) (by kernel_rfl) ?_
      repeat (go_big_quiet_step (fail))
      refine wpQuiet_nil ?_
      intro w5 hw5
      obtain ⟨pp, rfl⟩ := hw5
      have HB5 := Lib.hid (below_regrown wr pp.d pp.os)
      clear p0 p1 p2 p3 q0 q1 q2 q3 hq
      generalize grow (redrawn wr pp.d) pp.os = W5 at HB5 ⊢
      go_wp2
      go_roundw
      case rel => exact ⟨j + 1, by go_num, hlt, thn HBB.out HB5.out⟩
      case measure => simp [intOf]; omega
    · go_wp2
      go_ret
      exact ⟨rfl, HBB.out⟩
def vB : Ver := ⟨5, 2, false, ⟨#[98]⟩, by decide⟩
def vA : Ver := ⟨3, 1, false, ⟨#[97]⟩, by decide⟩
theorem ok_ab : Ok [vB, vA] := by
  refine ⟨by decide, fun i hi => ?_⟩
  match i, hi with
  | 0, _ => exact ⟨(by decide +kernel : mayB vB = true), fun h => by omega⟩
  | 1, _ => exact ⟨(by decide +kernel : mayB vA = true), fun _ => (by decide +kernel : folB vA vB = true)⟩
theorem rd_lit (W : World) (u v : Ver) (t : TypeId) (g : Nat) (hg : g = W.heap.size) : Rd (W.alloc (.cells #[.int .i64 u.t, .int .i64 u.x, .bool u.g, .string u.v, .int .i64 v.t, .int .i64 v.x, .bool v.g, .string v.v] t)) (some ⟨g, 0, none⟩) 2 2 [u, v] :=
  ⟨rfl, Nat.le_refl _, by omega, (fun e => by cases e), fun ad e j x hj => by
    injection e with e
    subst e
    rw [add_lit, Nat.zero_add]
    match j, hj with
    | 0, hj => simp at hj; subst hj; exact ⟨(cell_last _ _ _ _ _ hg).trans rfl, (cell_last _ _ _ _ _ hg).trans rfl, (cell_last _ _ _ _ _ hg).trans rfl, (cell_last _ _ _ _ _ hg).trans rfl⟩
    | 1, hj => simp at hj; subst hj; exact ⟨(cell_last _ _ _ _ _ hg).trans rfl, (cell_last _ _ _ _ _ hg).trans rfl, (cell_last _ _ _ _ _ hg).trans rfl, (cell_last _ _ _ _ _ hg).trans rfl⟩⟩
set_option maxHeartbeats 2000000 in
theorem alive_any (w : World) : Calls Try.prog 6 #[] w fun e w' => e = .returned (.bool true) ∧ Below w.heap.size w w' := by
  have hs : ∀ W g, g = W.heap.size → Calls Try.prog 11 #[.slice (some ⟨g, 0, none⟩) 2 2, .int .i64 4, .int .i64 9] (W.alloc (.cells #[.int .i64 5, .int .i64 2, .bool false, .string ⟨#[98]⟩, .int .i64 3, .int .i64 1, .bool false, .string ⟨#[97]⟩] 41)) fun e w' => e = .returned (SeeV ⟨#[97]⟩ true 3 0) ∧ Below W.heap.size W w' := fun W g hg =>
    (see_good _ 2 2 [vB, vA] 4 9 _ (rd_lit W vB vA _ g hg) ok_ab).mono fun e w' ⟨h1, h2⟩ => ⟨h1.trans (by
      have e1 : txt (seeB 4 9) [vB, vA] = ⟨#[97]⟩ := by decide +kernel
      have e2 : isB (seeB 4 9) [vB, vA] = true := by decide +kernel
      have e3 : stp (seeB 4 9) [vB, vA] = 3 := by decide +kernel
      rw [e1, e2, e3]), thn (below1 _ _) h2⟩
  go_enter Try.func6, Try.ntmps6
  go_wp2_with (first | (go_at_call 11; (with_reducible refine (hs _ _ rfl).mono ?_); rintro e w1 ⟨rfl, hb⟩) | (go_at_call 9; (with_reducible refine (num_any _ _).mono ?_); rintro e w7 ⟨rfl, rfl⟩))
  all_goals go_ret
  all_goals exact ⟨rfl, hb⟩
end Go.Proofs.Ytclcidcjeoajaaa
