/- Check of package lock over any state: the walk. Conditions: states that are read in memory. -/
import Derived.Test.YtmjcmeebcochgaaVc
namespace Go.Proofs.Ytmjcmeebcochgaa
open Go.RowKit Go.Sort
set_option linter.unusedSimpArgs false
set_option linter.unusedVariables false

/-- The i-th lock may be, and stands behind the one ahead of it. -/
def At (l : List Lk) (i : Nat) : Prop := ∀ h : i < l.length, mayL l[i] = true ∧ (0 < i → inOrd (l[i - 1]'(by omega)) l[i] < 0)
theorem ok_of {l : List Lk} (h : l.length ≤ 512) (hi : ∀ i, i < l.length → At l i) : Ok l := by
  refine ⟨h, fun x hx => ?_, ?_⟩
  · obtain ⟨i, hi', rfl⟩ := List.getElem_of_mem hx
    exact (hi i hi' hi').1
  · rw [List.pairwise_iff_getElem]
    have hs : ∀ d i (h : i + 1 + d < l.length), ltL (l[i]'(by omega)) l[i + 1 + d] := by
      intro d
      induction d with
      | zero =>
        intro i h
        have := (hi (i + 1) (by omega) (by omega)).2 (by omega)
        exact (inOrd_lt _ _).1 this
      | succ d ih =>
        intro i h
        have h1 := ih i (by omega)
        have h2 := (hi (i + 1 + (d + 1)) (by omega) (by omega)).2 (by omega)
        exact ltL_trans h1 ((inOrd_lt _ _).1 h2)
    intro i j hi' hj hij
    have e : j = i + 1 + (j - i - 1) := by omega
    have := hs (j - i - 1) i (by omega)
    simp only [← e] at this
    exact this
theorem Ok.at_ {l : List Lk} (h : Ok l) {i : Nat} (hi : i < l.length) : mayL l[i] = true ∧ (0 < i → inOrd (l[i - 1]'(by omega)) l[i] < 0) :=
  ⟨h.2.1 _ (List.getElem_mem _), fun h0 => (inOrd_lt _ _).2 (List.pairwise_iff_getElem.1 h.2.2 _ _ (by omega) hi (by omega))⟩
def chkE (l : List Lk) : Int := if Ok l then 0 else 9
theorem chk_bad {l : List Lk} (hn : ¬ Ok l) : chkE l = 9 := if_neg hn
theorem chk_good {l : List Lk} (hn : Ok l) : chkE l = 0 := if_pos hn

set_option maxHeartbeats 4000000 in
theorem check_any (A : Option Addr) (n c : Nat) (l : List Lk) (w : World) (hr : Rd w A n c l) :
    Calls Try.prog 22 #[.agg #[.slice A n c]] w fun e w' => e = .returned (.int .i64 (chkE l)) ∧ Below w.heap.size w w' := by
  have hl := hr.len
  have hcap : n ≤ 9223372036854775807 := by have := hr.le; have := hr.cap; omega
  subst hl
  have HR := Lib.hid hr
  clear hr
  have hs0 := cell_last w #[.slice A l.length c] 29 w.heap.size 0 rfl
  have hb0 := below1 w (.cells #[.slice A l.length c] 29)
  by_cases h64 : 512 < l.length
  · have HB0 := Lib.hid hb0
    clear hs0 hb0
    go_enter Try.func22, Try.ntmps22
    go_wp2
    go_ret
    exact ⟨ret_int (chk_bad fun h => by have := h.1; omega).symm, HB0.out⟩
  · go_enter Try.func22, Try.ntmps22
    go_upto_region 1 with fail
    have hg0 : w.heap.size < (w.alloc (.cells #[.slice A l.length c] 29)).heap.size := by simp
    generalize w.alloc (.cells #[.slice A l.length c] 29) = w0 at hs0 hb0 hg0 ⊢
    generalize w.heap.size = gs at hs0 hg0 ⊢
    have HS0 := Lib.hid hs0
    have HB0 := Lib.hid hb0
    have hs0' : w0.cell? ⟨gs, 0, none⟩ = some (.slice A l.length c) := hs0
    clear hs0 hb0
    go_wp2
    clear hs0'
    go_loopw [3, 4, 12] (fun _ _ i wr => ∃ j : Nat, j ≤ l.length ∧ i = .int .i64 j ∧ (∀ k, k < j → At l k) ∧ Below w0.heap.size w0 wr) (fun _ _ i _ => l.length - (intOf i).toNat)
    case atStart => exact ⟨0, by omega, rfl, fun k hk => by omega, Below.refl _ _⟩
    case round =>
      obtain ⟨j, hj, rfl, hno, hB⟩ := hrel
      have HSW := Lib.hid (cell_keep HS0.out hB)
      have HB := Lib.hid (thn HB0.out hB)
      have HBO := Lib.hid hB
      have HN := Lib.hid hno
      have hgw : gs < wr.heap.size := by have := hB.size; omega
      clear hB hno
      by_cases hlt : j < l.length
      · obtain ⟨ad, rfl, c0, c1, c2⟩ := (HR.out.below HB.out).at_ hlt
        have hb0 := cell_lt c0
        rw [add_block] at hb0
        have HRW := Lib.hid (HR.out.below HB.out)
        have hj1 : 0 < j → ∃ u : Lk, l[j - 1]? = some u ∧ Cell3 wr (ad.add ((j - 1) * 3)) u := fun h0 => by
          obtain ⟨ad', e, hc⟩ := HRW.out.at_ (k := j - 1) (by omega)
          injection e with e
          subst e
          exact ⟨_, List.getElem?_eq_getElem (by omega), hc⟩
        have hAt : ∀ b : Bool, mayL l[j] = b → (b = false → ¬ Ok l) := fun b hb hf h => by
          have := (h.at_ hlt).1
          rw [hb, hf] at this; cases this
        have hAt0 : mayL l[j] = true → j = 0 → At l j := fun hb h0 hl => ⟨hb, fun h1 => by omega⟩
        have hAt1 : ∀ u, l[j - 1]? = some u → 0 < j → mayL l[j] = true → inOrd u l[j] < 0 → At l j := fun u hu h0 hb hf hl => ⟨hb, fun _ => by
          have := (List.getElem?_eq_some_iff.1 hu).2
          rw [this]; exact hf⟩
        have hAt2 : ∀ u, l[j - 1]? = some u → 0 < j → ¬ inOrd u l[j] < 0 → ¬ Ok l := fun u hu h0 hf h => by
          have h1 := (h.at_ hlt).2 h0
          have := (List.getElem?_eq_some_iff.1 hu).2
          rw [this] at h1; exact hf h1
        have hup : At l j → ∀ k, k < j + 1 → At l k := fun h k hk => by
          rcases Nat.lt_or_ge k j with h1 | h1
          · exact HN.out k h1
          · have : k = j := by omega
            subst this
            exact h
        have HJ1 := Lib.hid hj1
        have HA := Lib.hid hAt
        have HA0 := Lib.hid hAt0
        have HA1 := Lib.hid hAt1
        have HA2 := Lib.hid hAt2
        have HUP := Lib.hid hup
        clear hj1 hAt hAt0 hAt1 hAt2 hup
        have HM := Lib.hid fun W => mayBe_any l[j] W
        have HF := Lib.hid fun (u : Lk) W => inOrder_any u l[j] W
        generalize hv : l[j] = v at *
        have HV := Lib.hid hv
        clear hv
        cases hM : mayL v
        · have HMM := Lib.hid hM
          rw [hM] at HM
          clear hM
          go_wp2_with fail
          have hb1 := below1 wr (.cells #[.int .i64 v.t, .string v.lo.s, .string v.hi.s] 34)
          have b0 := cell_last wr #[.int .i64 v.t, .string v.lo.s, .string v.hi.s] 34 wr.heap.size 0 rfl
          have b1 := cell_last wr #[.int .i64 v.t, .string v.lo.s, .string v.hi.s] 34 wr.heap.size 1 rfl
          have b2 := cell_last wr #[.int .i64 v.t, .string v.lo.s, .string v.hi.s] 34 wr.heap.size 2 rfl
          have HB1 := Lib.hid (thn HB.out hb1)
          have HBO1 := Lib.hid (thn HBO.out hb1)
          clear hb1 c0 c1 c2
          generalize wr.alloc (.cells #[.int .i64 v.t, .string v.lo.s, .string v.hi.s] 34) = W1 at b0 b1 b2 HB1 HBO1 ⊢
          have q0 := cell_regrown b0
          have q1 := cell_regrown b1
          have q2 := cell_regrown b2
          clear b0 b1 b2
          refine wp_region_quiet_below (by kernel_rfl) (by kernel_rfl) ?_
          repeat (go_big_quiet_step (with_reducible exact Calls.regrown_of (HM.out _)))
          refine wpQuiet_nil ?_
          intro w5 hw5
          obtain ⟨pp, rfl⟩ := hw5
          have HB5 := Lib.hid (thn HB1.out (below_regrown W1 pp.d pp.os))
          have HBO5 := Lib.hid (thn HBO1.out (below_regrown W1 pp.d pp.os))
          clear q0 q1 q2
          generalize grow (redrawn W1 pp.d) pp.os = W5 at HB5 HBO5 ⊢
          go_wp2
          go_ret
          exact ⟨ret_int (chk_bad (HA.out false HMM.out rfl)).symm, HB5.out⟩
        · have HMM := Lib.hid hM
          rw [hM] at HM
          clear hM
          by_cases h0 : 0 < j
          · obtain ⟨u, hu, d0, d1, d2⟩ := HJ1.out h0
            have HU := Lib.hid hu
            clear hu
            have hg : decide (0 < j) = true := by simpa using h0
            have HF2 := Lib.hid (HF.out u)
            clear HF
            have hRR : ∃ R, inOrd u v = R := ⟨_, rfl⟩
            obtain ⟨R, hR⟩ := hRR
            rw [hR] at HF2
            have HRR := Lib.hid hR
            clear hR
            have HF := HF2
            clear HF2
            by_cases hR0 : R < 0
            · have hR1 : ¬ (0 ≤ R) := by omega
              go_wp2_with fail
              have hb1 := below1 wr (.cells #[.int .i64 v.t, .string v.lo.s, .string v.hi.s] 34)
              have b0 := cell_last wr #[.int .i64 v.t, .string v.lo.s, .string v.hi.s] 34 wr.heap.size 0 rfl
              have b1 := cell_last wr #[.int .i64 v.t, .string v.lo.s, .string v.hi.s] 34 wr.heap.size 1 rfl
              have b2 := cell_last wr #[.int .i64 v.t, .string v.lo.s, .string v.hi.s] 34 wr.heap.size 2 rfl
              have HB1 := Lib.hid (thn HB.out hb1)
              have HBO1 := Lib.hid (thn HBO.out hb1)
              have s0 := cell_keep HSW.out hb1
              have e0 := cell_keep d0 hb1
              have e1 := cell_keep d1 hb1
              have e2 := cell_keep d2 hb1
              clear hb1 c0 c1 c2 d0 d1 d2
              generalize wr.alloc (.cells #[.int .i64 v.t, .string v.lo.s, .string v.hi.s] 34) = W1 at b0 b1 b2 e0 e1 e2 s0 HB1 HBO1 ⊢
              have hx1 : IntKind.i64.wrap ((j : Int) - 1) = (j : Int) - 1 := IntWalk.i64_in _ (by omega)
              have hx2 : ((j : Int) - 1).toNat = j - 1 := by omega
              have hx3 : (0 : Int) ≤ (j : Int) - 1 := by omega
              have hx4 : (j : Int) - 1 < (l.length : Int) := by omega
              have hx5 : (1 : Int) ≤ (j : Int) := by omega
              have q0 := cell_regrown b0
              have q1 := cell_regrown b1
              have q2 := cell_regrown b2
              have r0 := cell_regrown e0
              have r1 := cell_regrown e1
              have r2 := cell_regrown e2
              have t0 := cell_regrown s0
              clear e0 e1 e2 s0
              clear b0 b1 b2
              refine wp_region_quiet_below (by kernel_rfl) (by kernel_rfl) ?_
              repeat (go_big_quiet_step (first | (with_reducible exact Calls.regrown_of (HM.out _)) | (with_reducible exact Calls.regrown_of (HF.out _))))
              refine wpQuiet_nil ?_
              intro w5 hw5
              obtain ⟨pp, rfl⟩ := hw5
              have HB5 := Lib.hid (thn HB1.out (below_regrown W1 pp.d pp.os))
              have HBO5 := Lib.hid (thn HBO1.out (below_regrown W1 pp.d pp.os))
              clear q0 q1 q2 r0 r1 r2 t0 hx1 hx2 hx3 hx4 hx5
              generalize grow (redrawn W1 pp.d) pp.os = W5 at HB5 HBO5 ⊢
              go_wp2
              go_roundw
              case rel => exact ⟨j + 1, hlt, by go_num, HUP.out (HA1.out u HU.out h0 HMM.out (by rw [HRR.out]; exact hR0)), HBO5.out⟩
              case measure => simp [intOf]; omega
            · have hR1 : 0 ≤ R := by omega
              go_wp2_with fail
              have hb1 := below1 wr (.cells #[.int .i64 v.t, .string v.lo.s, .string v.hi.s] 34)
              have b0 := cell_last wr #[.int .i64 v.t, .string v.lo.s, .string v.hi.s] 34 wr.heap.size 0 rfl
              have b1 := cell_last wr #[.int .i64 v.t, .string v.lo.s, .string v.hi.s] 34 wr.heap.size 1 rfl
              have b2 := cell_last wr #[.int .i64 v.t, .string v.lo.s, .string v.hi.s] 34 wr.heap.size 2 rfl
              have HB1 := Lib.hid (thn HB.out hb1)
              have HBO1 := Lib.hid (thn HBO.out hb1)
              have s0 := cell_keep HSW.out hb1
              have e0 := cell_keep d0 hb1
              have e1 := cell_keep d1 hb1
              have e2 := cell_keep d2 hb1
              clear hb1 c0 c1 c2 d0 d1 d2
              generalize wr.alloc (.cells #[.int .i64 v.t, .string v.lo.s, .string v.hi.s] 34) = W1 at b0 b1 b2 e0 e1 e2 s0 HB1 HBO1 ⊢
              have hx1 : IntKind.i64.wrap ((j : Int) - 1) = (j : Int) - 1 := IntWalk.i64_in _ (by omega)
              have hx2 : ((j : Int) - 1).toNat = j - 1 := by omega
              have hx3 : (0 : Int) ≤ (j : Int) - 1 := by omega
              have hx4 : (j : Int) - 1 < (l.length : Int) := by omega
              have hx5 : (1 : Int) ≤ (j : Int) := by omega
              have q0 := cell_regrown b0
              have q1 := cell_regrown b1
              have q2 := cell_regrown b2
              have r0 := cell_regrown e0
              have r1 := cell_regrown e1
              have r2 := cell_regrown e2
              have t0 := cell_regrown s0
              clear e0 e1 e2 s0
              clear b0 b1 b2
              refine wp_region_quiet_below (by kernel_rfl) (by kernel_rfl) ?_
              repeat (go_big_quiet_step (first | (with_reducible exact Calls.regrown_of (HM.out _)) | (with_reducible exact Calls.regrown_of (HF.out _))))
              refine wpQuiet_nil ?_
              intro w5 hw5
              obtain ⟨pp, rfl⟩ := hw5
              have HB5 := Lib.hid (thn HB1.out (below_regrown W1 pp.d pp.os))
              have HBO5 := Lib.hid (thn HBO1.out (below_regrown W1 pp.d pp.os))
              clear q0 q1 q2 r0 r1 r2 t0 hx1 hx2 hx3 hx4 hx5
              generalize grow (redrawn W1 pp.d) pp.os = W5 at HB5 HBO5 ⊢
              go_wp2
              go_ret
              exact ⟨ret_int (chk_bad (HA2.out u HU.out h0 (by rw [HRR.out]; exact hR0))).symm, HB5.out⟩
          · have hg : decide (0 < j) = false := by simpa using h0
            have hg2 : decide ((0 : Int) < (j : Int)) = false := by simp; omega
            go_wp2_with fail
            have hb1 := below1 wr (.cells #[.int .i64 v.t, .string v.lo.s, .string v.hi.s] 34)
            have b0 := cell_last wr #[.int .i64 v.t, .string v.lo.s, .string v.hi.s] 34 wr.heap.size 0 rfl
            have b1 := cell_last wr #[.int .i64 v.t, .string v.lo.s, .string v.hi.s] 34 wr.heap.size 1 rfl
            have b2 := cell_last wr #[.int .i64 v.t, .string v.lo.s, .string v.hi.s] 34 wr.heap.size 2 rfl
            have HB1 := Lib.hid (thn HB.out hb1)
            have HBO1 := Lib.hid (thn HBO.out hb1)
            clear hb1 c0 c1 c2
            generalize wr.alloc (.cells #[.int .i64 v.t, .string v.lo.s, .string v.hi.s] 34) = W1 at b0 b1 b2 HB1 HBO1 ⊢
            have q0 := cell_regrown b0
            have q1 := cell_regrown b1
            have q2 := cell_regrown b2
            clear b0 b1 b2
            refine wp_region_quiet_below (by kernel_rfl) (by kernel_rfl) ?_
            repeat (go_big_quiet_step (with_reducible exact Calls.regrown_of (HM.out _)))
            refine wpQuiet_nil ?_
            intro w5 hw5
            obtain ⟨pp, rfl⟩ := hw5
            have HB5 := Lib.hid (thn HB1.out (below_regrown W1 pp.d pp.os))
            have HBO5 := Lib.hid (thn HBO1.out (below_regrown W1 pp.d pp.os))
            clear q0 q1 q2
            generalize grow (redrawn W1 pp.d) pp.os = W5 at HB5 HBO5 ⊢
            go_wp2
            go_roundw
            case rel => exact ⟨j + 1, hlt, by go_num, HUP.out (HA0.out HMM.out (by omega)), HBO5.out⟩
            case measure => simp [intOf]; omega
      · go_wp2
        go_ret
        exact ⟨ret_int (chk_good (ok_of (by omega) fun i hi => HN.out i (by omega))).symm, HB.out⟩
end Go.Proofs.Ytmjcmeebcochgaa
