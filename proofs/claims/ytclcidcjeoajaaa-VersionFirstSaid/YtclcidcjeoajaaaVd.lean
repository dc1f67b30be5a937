/- Check of package version over any chain: the walk. Conditions: chains that are read in memory. -/
import Derived.Test.YtclcidcjeoajaaaVc
namespace Go.Proofs.Ytclcidcjeoajaaa
open Go.RowKit Go.Sort
set_option linter.unusedSimpArgs false
set_option linter.unusedVariables false

def ChkE (l : List Ver) (E : Int) : Prop := (Ok l ∧ E = 0) ∨ (¬ Ok l ∧ E = 9)
theorem ok_of {l : List Ver} (h : l.length ≤ 64) (hi : ∀ i, i < l.length → At l i) : Ok l := ⟨h, fun i hl => hi i hl hl⟩
theorem ChkE.bad {l : List Ver} {E : Int} (h : ChkE l E) (hn : ¬ Ok l) : E = 9 := by
  rcases h with h | h
  · exact absurd h.1 hn
  · exact h.2
theorem ChkE.good {l : List Ver} {E : Int} (h : ChkE l E) (hn : Ok l) : E = 0 := by
  rcases h with h | h
  · exact h.2
  · exact absurd hn h.1

set_option maxHeartbeats 4000000 in
theorem check_any (A : Option Addr) (n c : Nat) (l : List Ver) (w : World) (hr : Rd w A n c l) (E : Int) (hE : ChkE l E) :
    Calls Try.prog 10 #[.slice A n c] w fun e w' => e = .returned (.int .i64 E) ∧ Below w.heap.size w w' := by
  have hl := hr.len
  have hcap : n ≤ 9223372036854775807 := by have := hr.le; have := hr.cap; omega
  subst hl
  have HR := Lib.hid hr
  have HE := Lib.hid hE
  clear hr hE
  by_cases h64 : 64 < l.length
  · go_enter Try.func10, Try.ntmps10
    go_wp2
    go_ret
    exact ⟨ret_int (HE.out.bad fun h => by have := h.1; omega).symm, Below.refl _ _⟩
  · go_enter Try.func10, Try.ntmps10
    go_wp2
    go_loopw [3, 4, 10] (fun _ _ i wr => ∃ j : Nat, j ≤ l.length ∧ i = .int .i64 j ∧ (∀ k, k < j → At l k) ∧ Below w.heap.size w wr) (fun _ _ i _ => l.length - (intOf i).toNat)
    case atStart => exact ⟨0, by omega, rfl, fun k hk => by omega, Below.refl _ _⟩
    case round =>
      obtain ⟨j, hj, rfl, hno, hB⟩ := hrel
      have HB := Lib.hid hB
      have HN := Lib.hid hno
      clear hB hno
      by_cases hlt : j < l.length
      · obtain ⟨ad, rfl, c0, c1, c2, c3⟩ := (HR.out.below HB.out).at_ hlt
        have hb0 := cell_lt c0
        rw [add_block] at hb0
        have HRW := Lib.hid (HR.out.below HB.out)
        have hj1 : 0 < j → ∃ u : Ver, l[j - 1]? = some u ∧ Cell4 wr (ad.add ((j - 1) * 4)) u := fun h0 => by
          obtain ⟨ad', e, hc⟩ := HRW.out.at_ (k := j - 1) (by omega)
          injection e with e
          subst e
          exact ⟨_, List.getElem?_eq_getElem (by omega), hc⟩
        have hAt : ∀ b : Bool, mayB l[j] = b → (b = false → ¬ Ok l) := fun b hb hf h => by
          have := h.may hlt
          rw [hb, hf] at this; cases this
        have hAt0 : mayB l[j] = true → j = 0 → At l j := fun hb h0 hl => ⟨hb, fun h1 => by omega⟩
        have hAt1 : ∀ u, l[j - 1]? = some u → 0 < j → mayB l[j] = true → folB l[j] u = true → At l j := fun u hu h0 hb hf hl => ⟨hb, fun _ => by
          have := (List.getElem?_eq_some_iff.1 hu).2
          rw [this]; exact hf⟩
        have hAt2 : ∀ u, l[j - 1]? = some u → 0 < j → folB l[j] u = false → ¬ Ok l := fun u hu h0 hf h => by
          have h1 := (h.2 j hlt).2 h0
          have := (List.getElem?_eq_some_iff.1 hu).2
          rw [this, hf] at h1; cases h1
        have hup : At l j → ∀ k, k < j + 1 → At l k := fun h k hk => by
          rcases Nat.lt_or_ge k j with h1 | h1
          · exact HN.out k h1
          · have : k = j := by omega
            subst this
            exact h
        have HJ1 := Lib.hid hj1
        have HA := Lib.hid hAt
        have HA0 := Lib.hid hAt0
        have HA1 := Lib.hid hAt1
        have HA2 := Lib.hid hAt2
        have HUP := Lib.hid hup
        clear hj1 hAt hAt0 hAt1 hAt2 hup
        have HM := Lib.hid fun W => mayBe_any l[j] W
        have HF := Lib.hid fun (u : Ver) W => mayFollow_any l[j] u W
        generalize hv : l[j] = v at *
        have HV := Lib.hid hv
        clear hv
        cases hM : mayB v
        · have HMM := Lib.hid hM
          rw [hM] at HM
          clear hM
          go_wp2_with fail
          have hb1 := below1 wr (.cells #[.int .i64 v.t, .int .i64 v.x, .bool v.g, .string v.v] 41)
          have b0 := cell_last wr #[.int .i64 v.t, .int .i64 v.x, .bool v.g, .string v.v] 41 wr.heap.size 0 rfl
          have b1 := cell_last wr #[.int .i64 v.t, .int .i64 v.x, .bool v.g, .string v.v] 41 wr.heap.size 1 rfl
          have b2 := cell_last wr #[.int .i64 v.t, .int .i64 v.x, .bool v.g, .string v.v] 41 wr.heap.size 2 rfl
          have b3 := cell_last wr #[.int .i64 v.t, .int .i64 v.x, .bool v.g, .string v.v] 41 wr.heap.size 3 rfl
          have HB1 := Lib.hid (thn HB.out hb1)
          clear hb1 c0 c1 c2 c3
          generalize wr.alloc (.cells #[.int .i64 v.t, .int .i64 v.x, .bool v.g, .string v.v] 41) = W1 at b0 b1 b2 b3 HB1 ⊢
          have q0 := cell_regrown b0
          have q1 := cell_regrown b1
          have q2 := cell_regrown b2
          have q3 := cell_regrown b3
          clear b0 b1 b2 b3
          refine wp_region_quiet_below (by kernel_rfl) (by kernel_rfl) ?_
          repeat (go_big_quiet_step (with_reducible exact Calls.regrown_of (HM.out _)))
          refine wpQuiet_nil ?_
          intro w5 hw5
          obtain ⟨pp, rfl⟩ := hw5
          have HB5 := Lib.hid (thn HB1.out (below_regrown W1 pp.d pp.os))
          clear q0 q1 q2 q3
          generalize grow (redrawn W1 pp.d) pp.os = W5 at HB5 ⊢
          go_wp2
          go_ret
          exact ⟨ret_int (HE.out.bad (HA.out false HMM.out rfl)).symm, HB5.out⟩
        · have HMM := Lib.hid hM
          rw [hM] at HM
          clear hM
          by_cases h0 : 0 < j
          · obtain ⟨u, hu, d0, d1, d2, d3⟩ := HJ1.out h0
            have HU := Lib.hid hu
            clear hu
            have hg : decide (0 < j) = true := by simpa using h0
            have HF2 := Lib.hid (HF.out u)
            clear HF
            cases hF : folB v u
            · have HFF := Lib.hid hF
              rw [hF] at HF2
              clear hF
              have HF := HF2
              clear HF2
              go_wp2_with fail
              have hb1 := below1 wr (.cells #[.int .i64 v.t, .int .i64 v.x, .bool v.g, .string v.v] 41)
              have b0 := cell_last wr #[.int .i64 v.t, .int .i64 v.x, .bool v.g, .string v.v] 41 wr.heap.size 0 rfl
              have b1 := cell_last wr #[.int .i64 v.t, .int .i64 v.x, .bool v.g, .string v.v] 41 wr.heap.size 1 rfl
              have b2 := cell_last wr #[.int .i64 v.t, .int .i64 v.x, .bool v.g, .string v.v] 41 wr.heap.size 2 rfl
              have b3 := cell_last wr #[.int .i64 v.t, .int .i64 v.x, .bool v.g, .string v.v] 41 wr.heap.size 3 rfl
              have HB1 := Lib.hid (thn HB.out hb1)
              have e0 := cell_keep d0 hb1
              have e1 := cell_keep d1 hb1
              have e2 := cell_keep d2 hb1
              have e3 := cell_keep d3 hb1
              clear hb1 c0 c1 c2 c3 d0 d1 d2 d3
              generalize wr.alloc (.cells #[.int .i64 v.t, .int .i64 v.x, .bool v.g, .string v.v] 41) = W1 at b0 b1 b2 b3 e0 e1 e2 e3 HB1 ⊢
              have hx1 : IntKind.i64.wrap ((j : Int) - 1) = (j : Int) - 1 := IntWalk.i64_in _ (by omega)
              have hx2 : ((j : Int) - 1).toNat = j - 1 := by omega
              have hx3 : (0 : Int) ≤ (j : Int) - 1 := by omega
              have hx4 : (j : Int) - 1 < (l.length : Int) := by omega
              have hx5 : (1 : Int) ≤ (j : Int) := by omega
              have q0 := cell_regrown b0
              have q1 := cell_regrown b1
              have q2 := cell_regrown b2
              have q3 := cell_regrown b3
              have r0 := cell_regrown e0
              have r1 := cell_regrown e1
              have r2 := cell_regrown e2
              have r3 := cell_regrown e3
              clear e0 e1 e2 e3
              clear b0 b1 b2 b3
              refine wp_region_quiet_below (by kernel_rfl) (by kernel_rfl) ?_
              repeat (go_big_quiet_step (first | (with_reducible exact Calls.regrown_of (HM.out _)) | (with_reducible exact Calls.regrown_of (HF.out _))))
              refine wpQuiet_nil ?_
              intro w5 hw5
              obtain ⟨pp, rfl⟩ := hw5
              have HB5 := Lib.hid (thn HB1.out (below_regrown W1 pp.d pp.os))
              clear q0 q1 q2 q3 r0 r1 r2 r3 hx1 hx2 hx3 hx4 hx5
              generalize grow (redrawn W1 pp.d) pp.os = W5 at HB5 ⊢
              go_wp2
              go_ret
              exact ⟨ret_int (HE.out.bad (HA2.out u HU.out h0 HFF.out)).symm, HB5.out⟩
            · have HFF := Lib.hid hF
              rw [hF] at HF2
              clear hF
              have HF := HF2
              clear HF2
              go_wp2_with fail
              have hb1 := below1 wr (.cells #[.int .i64 v.t, .int .i64 v.x, .bool v.g, .string v.v] 41)
              have b0 := cell_last wr #[.int .i64 v.t, .int .i64 v.x, .bool v.g, .string v.v] 41 wr.heap.size 0 rfl
              have b1 := cell_last wr #[.int .i64 v.t, .int .i64 v.x, .bool v.g, .string v.v] 41 wr.heap.size 1 rfl
              have b2 := cell_last wr #[.int .i64 v.t, .int .i64 v.x, .bool v.g, .string v.v] 41 wr.heap.size 2 rfl
              have b3 := cell_last wr #[.int .i64 v.t, .int .i64 v.x, .bool v.g, .string v.v] 41 wr.heap.size 3 rfl
              have HB1 := Lib.hid (thn HB.out hb1)
              have e0 := cell_keep d0 hb1
              have e1 := cell_keep d1 hb1
              have e2 := cell_keep d2 hb1
              have e3 := cell_keep d3 hb1
              clear hb1 c0 c1 c2 c3 d0 d1 d2 d3
              generalize wr.alloc (.cells #[.int .i64 v.t, .int .i64 v.x, .bool v.g, .string v.v] 41) = W1 at b0 b1 b2 b3 e0 e1 e2 e3 HB1 ⊢
              have hx1 : IntKind.i64.wrap ((j : Int) - 1) = (j : Int) - 1 := IntWalk.i64_in _ (by omega)
              have hx2 : ((j : Int) - 1).toNat = j - 1 := by omega
              have hx3 : (0 : Int) ≤ (j : Int) - 1 := by omega
              have hx4 : (j : Int) - 1 < (l.length : Int) := by omega
              have hx5 : (1 : Int) ≤ (j : Int) := by omega
              have q0 := cell_regrown b0
              have q1 := cell_regrown b1
              have q2 := cell_regrown b2
              have q3 := cell_regrown b3
              have r0 := cell_regrown e0
              have r1 := cell_regrown e1
              have r2 := cell_regrown e2
              have r3 := cell_regrown e3
              clear e0 e1 e2 e3
              clear b0 b1 b2 b3
              refine wp_region_quiet_below (by kernel_rfl) (by kernel_rfl) ?_
              repeat (go_big_quiet_step (first | (with_reducible exact Calls.regrown_of (HM.out _)) | (with_reducible exact Calls.regrown_of (HF.out _))))
              refine wpQuiet_nil ?_
              intro w5 hw5
              obtain ⟨pp, rfl⟩ := hw5
              have HB5 := Lib.hid (thn HB1.out (below_regrown W1 pp.d pp.os))
              clear q0 q1 q2 q3 r0 r1 r2 r3 hx1 hx2 hx3 hx4 hx5
              generalize grow (redrawn W1 pp.d) pp.os = W5 at HB5 ⊢
              go_wp2
              go_roundw
              case rel => exact ⟨j + 1, hlt, by go_num, HUP.out (HA1.out u HU.out h0 HMM.out HFF.out), HB5.out⟩
              case measure => simp [intOf]; omega
          · have hg : decide (0 < j) = false := by simpa using h0
            have hg2 : decide ((0 : Int) < (j : Int)) = false := by simp; omega
            go_wp2_with fail
            have hb1 := below1 wr (.cells #[.int .i64 v.t, .int .i64 v.x, .bool v.g, .string v.v] 41)
            have b0 := cell_last wr #[.int .i64 v.t, .int .i64 v.x, .bool v.g, .string v.v] 41 wr.heap.size 0 rfl
            have b1 := cell_last wr #[.int .i64 v.t, .int .i64 v.x, .bool v.g, .string v.v] 41 wr.heap.size 1 rfl
            have b2 := cell_last wr #[.int .i64 v.t, .int .i64 v.x, .bool v.g, .string v.v] 41 wr.heap.size 2 rfl
            have b3 := cell_last wr #[.int .i64 v.t, .int .i64 v.x, .bool v.g, .string v.v] 41 wr.heap.size 3 rfl
            have HB1 := Lib.hid (thn HB.out hb1)
            clear hb1 c0 c1 c2 c3
            generalize wr.alloc (.cells #[.int .i64 v.t, .int .i64 v.x, .bool v.g, .string v.v] 41) = W1 at b0 b1 b2 b3 HB1 ⊢
            have q0 := cell_regrown b0
            have q1 := cell_regrown b1
            have q2 := cell_regrown b2
            have q3 := cell_regrown b3
            clear b0 b1 b2 b3
            refine wp_region_quiet_below (by kernel_rfl) (by kernel_rfl) ?_
            repeat (go_big_quiet_step (with_reducible exact Calls.regrown_of (HM.out _)))
            refine wpQuiet_nil ?_
            intro w5 hw5
            obtain ⟨pp, rfl⟩ := hw5
            have HB5 := Lib.hid (thn HB1.out (below_regrown W1 pp.d pp.os))
            clear q0 q1 q2 q3
            generalize grow (redrawn W1 pp.d) pp.os = W5 at HB5 ⊢
            go_wp2
            go_roundw
            case rel => exact ⟨j + 1, hlt, by go_num, HUP.out (HA0.out HMM.out (by omega)), HB5.out⟩
            case measure => simp [intOf]; omega
      · go_wp2
        go_ret
        exact ⟨ret_int (HE.out.good (ok_of (by omega) fun i hi => HN.out i (by omega))).symm, HB.out⟩
end Go.Proofs.Ytclcidcjeoajaaa
