/- The reference Check over any state: the walk. Conditions: states that are read in memory. -/
import Derived.Test.YtmjcmeebcochgaaXa
namespace Go.Proofs.Ytmjcmeebcochgaa
open Go.RowKit Go.Sort
set_option linter.unusedSimpArgs false
set_option linter.unusedVariables false

set_option maxHeartbeats 4000000 in
theorem rCheck_any (A : Option Addr) (n c : Nat) (l : List Lk) (w : World) (hr : Rd w A n c l) :
    Calls Try.prog 23 #[.agg #[.slice A n c]] w fun e w' => e = .returned (.int .i64 (chkE l)) ∧ Below w.heap.size w w' := by
  have hl := hr.len
  have hcap : n ≤ 9223372036854775807 := by have := hr.le; have := hr.cap; omega
  subst hl
  have HR := Lib.hid hr
  clear hr
  have hs0 := cell_last w #[.slice A l.length c] 24 w.heap.size 0 rfl
  have hb0 := below1 w (.cells #[.slice A l.length c] 24)
  by_cases h64 : 512 < l.length
  · have HB0 := Lib.hid hb0
    clear hs0 hb0
    go_enter Try.func23, Try.ntmps23
    go_wp2
    go_ret
    exact ⟨ret_int (chk_bad fun h => by have := h.1; omega).symm, HB0.out⟩
  · go_enter Try.func23, Try.ntmps23
    go_upto_region 1 with fail
    have hg0 : w.heap.size < (w.alloc (.cells #[.slice A l.length c] 24)).heap.size := by simp
    generalize w.alloc (.cells #[.slice A l.length c] 24) = w0 at hs0 hb0 hg0 ⊢
    generalize w.heap.size = gs at hs0 hg0 ⊢
    have HS0 := Lib.hid hs0
    have HB0 := Lib.hid hb0
    have hs0' : w0.cell? ⟨gs, 0, none⟩ = some (.slice A l.length c) := hs0
    clear hs0 hb0
    go_wp2
    clear hs0'
    go_loopw [3] (fun i wr => ∃ j : Nat, j ≤ l.length ∧ i = .int .i64 j ∧ (∀ k, k < j → At l k) ∧ Below w0.heap.size w0 wr) (fun i _ => l.length - (intOf i).toNat)
    case atStart => exact ⟨0, by omega, rfl, fun k hk => by omega, Below.refl _ _⟩
    case round =>
      obtain ⟨j, hj, rfl, hno, hB⟩ := hrel
      have HSW := Lib.hid (cell_keep HS0.out hB)
      have HB := Lib.hid (thn HB0.out hB)
      have HBO := Lib.hid hB
      have HN := Lib.hid hno
      have hgw : gs < wr.heap.size := by have := hB.size; omega
      clear hB hno
      by_cases hlt : j < l.length
      · obtain ⟨ad, rfl, c0, c1, c2⟩ := (HR.out.below HB.out).at_ hlt
        have hb0 := cell_lt c0
        rw [add_block] at hb0
        have HRW := Lib.hid (HR.out.below HB.out)
        have hj1 : 0 < j → ∃ u : Lk, l[j - 1]? = some u ∧ Cell3 wr (ad.add ((j - 1) * 3)) u := fun h0 => by
          obtain ⟨ad', e, hc⟩ := HRW.out.at_ (k := j - 1) (by omega)
          injection e with e
          subst e
          exact ⟨_, List.getElem?_eq_getElem (by omega), hc⟩
        have hAt : ∀ b : Bool, mayL l[j] = b → (b = false → ¬ Ok l) := fun b hb hf h => by
          have := (h.at_ hlt).1
          rw [hb, hf] at this; cases this
        have hAt0 : mayL l[j] = true → j = 0 → At l j := fun hb h0 hl => ⟨hb, fun h1 => by omega⟩
        have hAt1 : ∀ u, l[j - 1]? = some u → 0 < j → mayL l[j] = true → inOrd u l[j] < 0 → At l j := fun u hu h0 hb hf hl => ⟨hb, fun _ => by
          have := (List.getElem?_eq_some_iff.1 hu).2
          rw [this]; exact hf⟩
        have hAt2 : ∀ u, l[j - 1]? = some u → 0 < j → ¬ inOrd u l[j] < 0 → ¬ Ok l := fun u hu h0 hf h => by
          have h1 := (h.at_ hlt).2 h0
          have := (List.getElem?_eq_some_iff.1 hu).2
          rw [this] at h1; exact hf h1
        have hup : At l j → ∀ k, k < j + 1 → At l k := fun h k hk => by
          rcases Nat.lt_or_ge k j with h1 | h1
          · exact HN.out k h1
          · have : k = j := by omega
            subst this
            exact h
        have HJ1 := Lib.hid hj1
        have HA := Lib.hid hAt
        have HA0 := Lib.hid hAt0
        have HA1 := Lib.hid hAt1
        have HA2 := Lib.hid hAt2
        have HUP := Lib.hid hup
        clear hj1 hAt hAt0 hAt1 hAt2 hup
        have HM := Lib.hid fun W => rmay_any l[j] W
        have HF := Lib.hid fun (u : Lk) W => before_any u l[j] W
        generalize hv : l[j] = v at *
        have HV := Lib.hid hv
        clear hv
        cases hM : mayL v
        · have HMM := Lib.hid hM
          rw [hM] at HM
          clear hM
          have hs9 := HSW.out
          go_upto_region 6 with fail
          have hx6 : (j : Int) < (l.length : Int) := by omega
          have q0 := cell_regrown c0
          have q1 := cell_regrown c1
          have q2 := cell_regrown c2
          have t0 := cell_regrown hs9
          clear c0 c1 c2 hs9
          refine wp_region_quiet_below (by kernel_rfl) (by kernel_rfl) ?_
          repeat (go_big_quiet_step (with_reducible exact Calls.regrown_of (HM.out _)))
          refine wpQuiet_nil ?_
          intro w5 hw5
          obtain ⟨pp, rfl⟩ := hw5
          have HB5 := Lib.hid (thn HB.out (below_regrown wr pp.d pp.os))
          have HBO5 := Lib.hid (thn HBO.out (below_regrown wr pp.d pp.os))
          clear q0 q1 q2 t0
          generalize grow (redrawn wr pp.d) pp.os = W5 at HB5 HBO5 ⊢
          go_wp2
          go_ret
          exact ⟨ret_int (chk_bad (HA.out false HMM.out rfl)).symm, HB5.out⟩
        · have HMM := Lib.hid hM
          rw [hM] at HM
          clear hM
          by_cases h0 : 0 < j
          · obtain ⟨u, hu, d0, d1, d2⟩ := HJ1.out h0
            have HU := Lib.hid hu
            clear hu
            have hg : decide (0 < j) = true := by simpa using h0
            have HF2 := Lib.hid (HF.out u)
            clear HF
            have HLI := Lib.hid (inOrd_lt u v)
            have hRR : ∃ R, decide (ltL u v) = R := ⟨_, rfl⟩
            obtain ⟨R, hR⟩ := hRR
            rw [hR] at HF2
            have HRR := Lib.hid hR
            clear hR
            have HF := HF2
            clear HF2
            cases R
            · have hnl : ¬ inOrd u v < 0 := fun h => by have h1 := HRR.out; rw [decide_eq_true (HLI.out.1 h)] at h1; cases h1
              have HNL := Lib.hid hnl
              clear hnl
              have hs9 := HSW.out
              go_upto_region 6 with fail
              have hx1 : IntKind.i64.wrap ((j : Int) - 1) = (j : Int) - 1 := IntWalk.i64_in _ (by omega)
              have hx2 : ((j : Int) - 1).toNat = j - 1 := by omega
              have hx3 : (0 : Int) ≤ (j : Int) - 1 := by omega
              have hx4 : (j : Int) - 1 < (l.length : Int) := by omega
              have hx5 : (1 : Int) ≤ (j : Int) := by omega
              have hx6 : (j : Int) < (l.length : Int) := by omega
              have q0 := cell_regrown c0
              have q1 := cell_regrown c1
              have q2 := cell_regrown c2
              have r0 := cell_regrown d0
              have r1 := cell_regrown d1
              have r2 := cell_regrown d2
              have t0 := cell_regrown hs9
              clear c0 c1 c2 hs9 d0 d1 d2
              refine wp_region_quiet_below (by kernel_rfl) (by kernel_rfl) ?_
              repeat (go_big_quiet_step (first | (with_reducible exact Calls.regrown_of (HM.out _)) | (with_reducible exact Calls.regrown_of (HF.out _))))
              refine wpQuiet_nil ?_
              intro w5 hw5
              obtain ⟨pp, rfl⟩ := hw5
              have HB5 := Lib.hid (thn HB.out (below_regrown wr pp.d pp.os))
              have HBO5 := Lib.hid (thn HBO.out (below_regrown wr pp.d pp.os))
              clear q0 q1 q2 t0 r0 r1 r2 hx1 hx2 hx3 hx4 hx5
              generalize grow (redrawn wr pp.d) pp.os = W5 at HB5 HBO5 ⊢
              go_wp2
              go_ret
              exact ⟨ret_int (chk_bad (HA2.out u HU.out h0 HNL.out)).symm, HB5.out⟩
            · have hnl : inOrd u v < 0 := HLI.out.2 (of_decide_eq_true HRR.out)
              have HNL := Lib.hid hnl
              clear hnl
              have hs9 := HSW.out
              go_upto_region 6 with fail
              have hx1 : IntKind.i64.wrap ((j : Int) - 1) = (j : Int) - 1 := IntWalk.i64_in _ (by omega)
              have hx2 : ((j : Int) - 1).toNat = j - 1 := by omega
              have hx3 : (0 : Int) ≤ (j : Int) - 1 := by omega
              have hx4 : (j : Int) - 1 < (l.length : Int) := by omega
              have hx5 : (1 : Int) ≤ (j : Int) := by omega
              have hx6 : (j : Int) < (l.length : Int) := by omega
              have q0 := cell_regrown c0
              have q1 := cell_regrown c1
              have q2 := cell_regrown c2
              have r0 := cell_regrown d0
              have r1 := cell_regrown d1
              have r2 := cell_regrown d2
              have t0 := cell_regrown hs9
              clear c0 c1 c2 hs9 d0 d1 d2
              refine wp_region_quiet_below (by kernel_rfl) (by kernel_rfl) ?_
              repeat (go_big_quiet_step (first | (with_reducible exact Calls.regrown_of (HM.out _)) | (with_reducible exact Calls.regrown_of (HF.out _))))
              refine wpQuiet_nil ?_
              intro w5 hw5
              obtain ⟨pp, rfl⟩ := hw5
              have HB5 := Lib.hid (thn HB.out (below_regrown wr pp.d pp.os))
              have HBO5 := Lib.hid (thn HBO.out (below_regrown wr pp.d pp.os))
              clear q0 q1 q2 t0 r0 r1 r2 hx1 hx2 hx3 hx4 hx5
              generalize grow (redrawn wr pp.d) pp.os = W5 at HB5 HBO5 ⊢
              go_wp2
              go_roundw
              case rel => exact ⟨j + 1, hlt, by go_num, HUP.out (HA1.out u HU.out h0 HMM.out HNL.out), HBO5.out⟩
              case measure => simp [intOf]; omega
          · have hg : decide (0 < j) = false := by simpa using h0
            have hg2 : decide ((0 : Int) < (j : Int)) = false := by simp; omega
            have hs9 := HSW.out
            go_upto_region 6 with fail
            have hx6 : (j : Int) < (l.length : Int) := by omega
            have q0 := cell_regrown c0
            have q1 := cell_regrown c1
            have q2 := cell_regrown c2
            have t0 := cell_regrown hs9
            clear c0 c1 c2 hs9
            refine wp_region_quiet_below (by kernel_rfl) (by kernel_rfl) ?_
            repeat (go_big_quiet_step (with_reducible exact Calls.regrown_of (HM.out _)))
            refine wpQuiet_nil ?_
            intro w5 hw5
            obtain ⟨pp, rfl⟩ := hw5
            have HB5 := Lib.hid (thn HB.out (below_regrown wr pp.d pp.os))
            have HBO5 := Lib.hid (thn HBO.out (below_regrown wr pp.d pp.os))
            clear q0 q1 q2 t0
            generalize grow (redrawn wr pp.d) pp.os = W5 at HB5 HBO5 ⊢
            go_wp2
            go_roundw
            case rel => exact ⟨j + 1, hlt, by go_num, HUP.out (HA0.out HMM.out (by omega)), HBO5.out⟩
            case measure => simp [intOf]; omega
      · have hs9 := HSW.out
        go_wp2
        go_ret
        exact ⟨ret_int (chk_good (ok_of (by omega) fun i hi => HN.out i (by omega))).symm, HB.out⟩
end Go.Proofs.Ytmjcmeebcochgaa
