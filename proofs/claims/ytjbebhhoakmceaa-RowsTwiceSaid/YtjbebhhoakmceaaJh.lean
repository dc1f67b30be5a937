/- What rows' check answers of any list of rows: the walk. Conditions: a table of few columns that has its key's; at most 256 rows. -/
import Derived.Test.YtjbebhhoakmceaaJg
namespace Go.Proofs.Ytjbebhhoakmceaa
open Go.RowKit Go.Sort
set_option linter.unusedSimpArgs false
set_option linter.unusedVariables false

/-- Whether rows may be a table's. -/
def chkR (cols : List Cl) (kk : Nat) (ls : List (List Vl)) : Int := if firstE (fitR cols) ls ≠ 0 then firstE (fitR cols) ls else if Srt kk ls then 0 else 9
theorem chkR_zero {cols : List Cl} {kk : Nat} {ls : List (List Vl)} : chkR cols kk ls = 0 ↔ (∀ r ∈ ls, fitR cols r = 0) ∧ Srt kk ls := by
  unfold chkR
  rw [← firstE_zero]
  split
  · rename_i h
    exact ⟨fun h' => absurd h' h, fun h' => absurd h'.1 h⟩
  · rename_i h
    have h0 : firstE (fitR cols) ls = 0 := by simpa using h
    split
    · rename_i h1
      exact ⟨fun _ => ⟨h0, h1⟩, fun _ => rfl⟩
    · rename_i h1
      exact ⟨fun h' => absurd h' (by decide), fun h' => absurd h'.2 h1⟩

set_option maxRecDepth 100000 in
set_option maxHeartbeats 4000000 in
theorem wcheck_any (m : ByteArray) (cA iA : Option Addr) (cc ic in_ kk : Nat) (A : Option Addr) (n c : Nat) (cols : List Cl) (ls : List (List Vl)) (w : World) (hl : n = ls.length) (hr : RdR w A ls) (hc : RdC w cA cols) (hn : ls.length ≤ 256) (h8 : cols.length ≤ 8) (hk : kk < cols.length) :
    Calls Try.prog 21 #[.agg #[.string m, .slice cA cols.length cc, .int .i64 kk, .slice iA in_ ic, .slice A n c]] w fun e w' => e = .returned (.int .i64 (chkR cols kk ls)) ∧ Below w.heap.size w w' := by
  subst hl
  have hx : Box5 (w.alloc (.cells #[.string m, .slice cA cols.length cc, .int .i64 kk, .slice iA in_ ic, .slice A ls.length c] 59)) w.heap.size m cA cols.length cc kk iA in_ ic (.slice A ls.length c) := ⟨by rw [cell_last _ _ _ _ _ rfl]; rfl, by rw [cell_last _ _ _ _ _ rfl]; rfl, by rw [cell_last _ _ _ _ _ rfl]; rfl, by rw [cell_last _ _ _ _ _ rfl]; rfl, by rw [cell_last _ _ _ _ _ rfl]; rfl⟩
  have HX := Lib.hid hx
  have HR := Lib.hid hr
  have HC := Lib.hid hc
  clear hr hc hx
  go_enter Try.func21, Try.ntmps21
  go_wp2
  go_loopw [4, 5, 10] (fun _ _ i wr => ∃ j : Nat, i = .int .i64 j ∧ j ≤ ls.length ∧ (∀ r ∈ ls.take j, fitR cols r = 0) ∧ Below w.heap.size w wr ∧ Box5 wr w.heap.size m cA cols.length cc kk iA in_ ic (.slice A ls.length c)) (fun _ _ i _ => ls.length - (intOf i).toNat)
  case atStart => exact ⟨0, rfl, by omega, by simp, below1 _ _, HX.out⟩
  case round =>
    obtain ⟨j, rfl, hj, hno, hB, hX⟩ := hrel
    have HN := Lib.hid hno
    have HB := Lib.hid hB
    have HXX := Lib.hid hX
    clear hno hB HX
    obtain ⟨x0, x1, x2, x3, x4⟩ := hX
    by_cases hlt : j < ls.length
    · obtain ⟨ad, rB, rc, rfl, q0, qr, _, qn⟩ := (HR.out.below HB.out).at_ hlt
      have hq0 := cell_lt q0
      have hf := fun W (hb : Below wr.heap.size wr W) => fits_any m cA iA cc ic in_ kk (.slice (some ad) ls.length c) rB ls[j].length rc cols ls[j] W rfl (qr.below hb) ((HC.out.below HB.out).below hb) qn h8
      have HF := Lib.hid hf
      have hfe : fitR cols ls[j] = fitR cols ls[j] := rfl
      clear hf qr hfe
      generalize hE : fitR cols ls[j] = E at HF
      have HE := Lib.hid hE
      clear hE
      by_cases hE0 : E = 0
      · have HT : Hid (∀ r ∈ ls.take (j + 1), fitR cols r = 0) := Lib.hid (by
          rw [List.take_succ_eq_append_getElem hlt]
          intro p hp
          rcases List.mem_append.1 hp with hp | hp
          · exact HN.out p hp
          · simp only [List.mem_singleton] at hp
            rw [hp, HE.out, hE0])
        subst hE0
        go_wp2_with (go_at_call 28; refine (HF.out _ (Below.refl _ _)).mono ?_; rintro e w1 ⟨rfl, hb⟩; have HB1 := Lib.hid hb; clear hb)
        go_roundw
        case rel => exact ⟨j + 1, by go_num, hlt, HT.out, HB.out.trans (HB1.out.mono HB.out.size), HXX.out.below HB1.out⟩
        case measure => simp [intOf]; omega
      · have HT : Hid (chkR cols kk ls = E) := Lib.hid (by
          have := firstE_at (f := fitR cols) hlt HN.out (by rw [HE.out]; exact hE0)
          unfold chkR
          rw [this, HE.out, if_pos hE0])
        go_wp2_with (go_at_call 28; refine (HF.out _ (Below.refl _ _)).mono ?_; rintro e w1 ⟨rfl, hb⟩; have HB1 := Lib.hid hb; clear hb)
        go_ret
        exact ⟨ret_int HT.out.symm, HB.out.trans (HB1.out.mono HB.out.size)⟩
    · have HFA : Hid (∀ r ∈ ls, fitR cols r = 0) := Lib.hid (fun r hr => HN.out r (by rw [List.take_of_length_le (by omega)]; exact hr))
      have HKK : Hid (∀ r ∈ ls, kk < r.length) := Lib.hid (fun r hr => by rw [fitR_len (HFA.out r hr)]; exact hk)
      clear HN
      generalize wr = W1 at *
      go_wp2
      go_loopw [6] (fun i wr => ∃ k : Nat, i = .int .i64 k ∧ 1 ≤ k ∧ k ≤ ls.length + 1 ∧ (∀ t (h : t + 1 < ls.length), t + 1 < k → ordR kk (ls[t]'(by omega)) ls[t + 1] < 0) ∧ Below w.heap.size w wr ∧ Box5 wr w.heap.size m cA cols.length cc kk iA in_ ic (.slice A ls.length c)) (fun i _ => ls.length + 1 - (intOf i).toNat)
      case atStart => exact ⟨1, rfl, by omega, by omega, fun t h h1 => by omega, HB.out, HXX.out⟩
      case round =>
        clear HB HXX x0 x1 x2 x3 x4
        obtain ⟨k, rfl, hk1, hk2, hno, hB, hX⟩ := hrel
        have HN := Lib.hid hno
        have HB := Lib.hid hB
        have HXX := Lib.hid hX
        clear hno hB
        obtain ⟨x0, x1, x2, x3, x4⟩ := hX
        by_cases hlt2 : k < ls.length
        · obtain ⟨k', rfl⟩ : ∃ k', k = k' + 1 := ⟨k - 1, by omega⟩
          have hk'l : k' < ls.length := by omega
          obtain ⟨ad, rB, rc, e0, q0, qr, _, qn⟩ := (HR.out.below HB.out).at_ hk'l
          subst e0
          obtain ⟨ad', sB, sc, e1, p0, pr, _, pn⟩ := (HR.out.below HB.out).at_ hlt2
          injection e1 with e1
          subst e1
          have hq0 := cell_lt q0
          have hp0 := cell_lt p0
          rw [add_ne (by omega)] at p0
          have hka := HKK.out _ (List.getElem_mem hk'l)
          have hkb := HKK.out _ (List.getElem_mem hlt2)
          have hfa := fun W (hb : Below wr.heap.size wr W) => keyOf_any m cA iA cols.length cc ic in_ kk (.slice (some ad) ls.length c) rB ls[k'].length rc ls[k'] W rfl (qr.below hb) hka qn
          have hfb := fun W (hb : Below wr.heap.size wr W) => keyOf_any m cA iA cols.length cc ic in_ kk (.slice (some ad) ls.length c) sB ls[k' + 1].length sc ls[k' + 1] W rfl (pr.below hb) hkb pn
          have ho := fun W => order_V (keyAt kk ls[k']) (keyAt kk ls[k' + 1]) W
          have hoe : ordR kk ls[k'] ls[k' + 1] = ordL (keyAt kk ls[k']) (keyAt kk ls[k' + 1]) := rfl
          have HO := Lib.hid hoe
          clear hoe qr pr
          generalize ordL (keyAt kk ls[k']) (keyAt kk ls[k' + 1]) = O at ho HO
          generalize keyAt kk ls[k'] = KA at hfa ho
          generalize keyAt kk ls[k' + 1] = KB at hfb ho
          have HFA2 := Lib.hid hfa
          have HFB2 := Lib.hid hfb
          have HOO := Lib.hid ho
          clear hfa hfb ho hka hkb
          have hi1 : (0 : Int) ≤ (k' : Int) := by omega
          have hi2 : (k' : Int) < (ls.length : Int) := by omega
          have hi3 : (k' : Int) + 1 < (ls.length : Int) := by omega
          go_wp2_with fail
          have hw1 : IntKind.i64.wrap (((k' + 1 : Nat) : Int) - 1) = (k' : Int) := by rw [IntKind.wrap_i64]; omega
          have hi4 : ((k' + 1 : Nat) : Int) < (ls.length : Int) := by omega
          have e0 := cell_regrown q0
          have e1 := cell_regrown p0
          have y0 := cell_regrown x0
          have y1 := cell_regrown x1
          have y2 := cell_regrown x2
          have y3 := cell_regrown x3
          have y4 := cell_regrown x4
          clear q0 p0 x0 x1 x2 x3 x4
          refine wp_region_quiet_below (by kernel_rfl) (by kernel_rfl) ?_
          repeat (go_big_quiet_step (first | (with_reducible exact Calls.regrown_of (HFA2.out _ (below_regrown _ _ _))) | (with_reducible exact Calls.regrown_of (HFB2.out _ (below_regrown _ _ _))) | (with_reducible exact Calls.regrown_of (HOO.out _))))
          refine wpQuiet_nil ?_
          intro w5 hw5
          obtain ⟨pp, rfl⟩ := hw5
          have HB5 := Lib.hid (below_regrown wr pp.d pp.os)
          clear e0 e1 y0 y1 y2 y3 y4 HFA2 HFB2 HOO hw1 hi1 hi2 hi3 hi4
          generalize grow (redrawn wr pp.d) pp.os = W5 at HB5 ⊢
          have HBB := Lib.hid (HB.out.trans (HB5.out.mono HB.out.size))
          by_cases hO : 0 ≤ O
          · have HT : Hid (chkR cols kk ls = 9) := Lib.hid (by
              unfold chkR
              rw [firstE_zero.2 HFA.out, if_neg (by simp), if_neg]
              intro hs
              have h1 := hs.get (i := k') (j := k' + 1) (by omega) hlt2
              rw [HO.out] at h1
              omega)
            go_wp2
            go_ret
            exact ⟨ret_int HT.out.symm, HBB.out⟩
          · have HT : Hid (∀ t (h : t + 1 < ls.length), t + 1 < k' + 1 + 1 → ordR kk (ls[t]'(by omega)) ls[t + 1] < 0) := Lib.hid (fun t h h1 => by
              by_cases e : t = k'
              · subst e; rw [HO.out]; omega
              · exact HN.out t h (by omega))
            go_wp2
            go_roundw
            case rel => exact ⟨k' + 1 + 1, by go_num, by omega, by omega, HT.out, HBB.out, HXX.out.below HB5.out⟩
            case measure => simp [intOf]; omega
        · have HT : Hid (chkR cols kk ls = 0) := Lib.hid (chkR_zero.2 ⟨HFA.out, srt_of fun i h => HN.out i h (by omega)⟩)
          go_wp2
          go_ret
          exact ⟨ret_int HT.out.symm, HB.out⟩
end Go.Proofs.Ytjbebhhoakmceaa
