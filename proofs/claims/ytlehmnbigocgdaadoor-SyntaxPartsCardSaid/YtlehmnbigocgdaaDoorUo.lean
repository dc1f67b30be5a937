/- SyntaxParts answers true: the walk. Conditions: an expression that is read in memory; the tables that strconv and strings read, as they are laid. -/
import Derived.Test.YtlehmnbigocgdaaDoorUk
import Derived.Test.YtlehmnbigocgdaaDoorUn
import Derived.Deep.LoopGhost
namespace Go.Proofs.YtlehmnbigocgdaaDoor
open Go.RowKit
set_option linter.unusedSimpArgs false
set_option linter.unusedVariables false

set_option maxHeartbeats 4000000 in
set_option maxRecDepth 100000 in
theorem parts_walk {n : Nat} (x : ExN (Ar n)) (a : Option Addr) (cc : Nat) (w : World) (hr : RdE w n a cc x.l) (he : Env w.heap.size w) :
    Calls Tryd.prog 5 #[x.val a cc] w fun e w' => e = .returned (.bool true) ∧ Below w.heap.size w w' := by
  have HP := Lib.hid fun (w' : World) (hb : Below w.heap.size w w') => sPrintExpr_any x a cc w' (RdK.below (KE_ok n) (w := w) hr hb) ((he.below hb).mono hb.size)
  have HA := Lib.hid fun (w' : World) (hb : Below w.heap.size w w') => alive_any w.heap.size w' (he.below hb) hb.size
  have hN := fun n w => wnum_any n w
  by_cases h : chkX x = 0
  · obtain ⟨hok, hlen⟩ := chk_ok h
    have HY := Lib.hid fun (y : Ar n) (hy : y ∈ x.l) (a' : Option Addr) (c' : Nat) (w' : World) (hb : Below w.heap.size w w') (hr' : RdE w' (n - 1) a' c' y.e.l) => by
      have h1 := sPrintExpr_any y.e a' c' w' hr' ((he.below hb).mono hb.size)
      have h2 := chk_args h y hy
      rw [txX_ok h2, h2, ← prA_e] at h1
      exact h1
    have HI := Lib.hid fun (y : Ar n) (hy : y ∈ x.l) => part_in hok y hy
    have HR := Lib.hid fun (w' : World) (hb : Below w.heap.size w w') => RdK.below (KE_ok n) (w := w) hr hb
    rw [txX_ok h, h] at HP
    have hSd : (⟨(prX x).toArray⟩ : ByteArray).data.toList = prX x := rfl
    have hSz : (⟨(prX x).toArray⟩ : ByteArray).size ≤ 9600 := by rw [mk_sz]; exact hlen
    generalize (⟨(prX x).toArray⟩ : ByteArray) = S at HP hSd hSz
    rw [← hSd] at HI
    have hle : x.l.length ≤ 9223372036854775807 := by have := hr.hdr.2; omega
    clear hok hlen h hr he hSd
    generalize prX x = ps at *
    obtain ⟨op, ⟨k, m, s, hv⟩, t, nm, ls⟩ := x
    unfold ExN.val at HP ⊢
    dsimp only at HP HY HI HR hle ⊢
    go_enter Tryd.func5, Tryd.ntmps5
    go_upto_region 3 with (go_at_call 13; refine (HA.out _ (below1 _ _)).mono ?_; rintro e w1 ⟨rfl, hb⟩)
    have HX := Lib.hid (heap1 hb)
    have HB := Lib.hid (below_of1 hb)
    clear hb
    obtain ⟨x0, x1, x2, x3, x4, x5, x6⟩ := cells7 HX.out
    go_upto_region 6 with (first | (go_at_call 7; refine (HP.out _ HB.out).mono ?_; rintro e w2 ⟨rfl, hb⟩) | (go_at_call 9; refine (hN _ _).mono ?_; rintro e w3 ⟨rfl, rfl⟩))
    replace HX := Lib.hid ((hb.block _ (blk_lt HX.out)).trans HX.out)
    replace HB := Lib.hid (below_call hb HB.out HB.out.size)
    clear x0 x1 x2 x3 x4 x5 x6 hb HP HA
    have hxl := blk_lt HX.out
    go_wp2_with fail
    go_loopw [5] (fun i wr => ∃ j : Nat, j ≤ ls.length ∧ i = .int .i64 j ∧ Below w2.heap.size w2 wr) (fun i _ => ls.length - (intOf i).toNat)
    case atStart => exact ⟨0, by omega, rfl, Below.refl _ _⟩
    case round =>
      obtain ⟨j, hj, rfl, hbr⟩ := hrel
      have HXr := Lib.hid ((hbr.block _ hxl).trans HX.out)
      have HBr := Lib.hid (below_call hbr HB.out HB.out.size)
      have HBW := Lib.hid hbr
      clear hbr
      obtain ⟨x0, x1, x2, x3, x4, x5, x6⟩ := cells7 HXr.out
      by_cases hlt : j < ls.length
      · obtain ⟨ad, a1, k1, rfl, ⟨p0, p1, p2, p3, p4, p5, p6⟩, r1⟩ := (HR.out wr HBr.out).at_ (j := j) hlt
        have hmem : ls[j] ∈ ls := List.getElem_mem hlt
        generalize ls[j] = y at p0 p1 p2 p3 p4 p5 p6 r1 hmem
        obtain ⟨u, v, huv, hu⟩ := HI.out y hmem
        have hY := HY.out y hmem a1 k1 wr HBr.out r1
        have hTd : (⟨(prA n y).toArray⟩ : ByteArray).data.toList = prA n y := rfl
        generalize (⟨(prA n y).toArray⟩ : ByteArray) = T at hY hTd
        rw [← hTd] at huv
        obtain ⟨hcs, hcut⟩ := cut_in huv
        have hul : 0 < u.length := List.length_pos_iff.2 hu
        generalize u.length = p at hcs hcut hul
        have HY2 := Lib.hid hY
        clear hY hTd huv hu hmem r1
        generalize y.e = z at *
        obtain ⟨op', ⟨k', m', s', hv'⟩, t', nm', lx⟩ := z
        unfold ExN.val at HY2
        dsimp only at p0 p1 p2 p3 p4 p5 p6 HY2
        have hge : decide ((S.size : Int) ≤ (T.size : Int)) = false := by simp; omega
        have hge2 : decide (S.size ≤ T.size) = false := by simp; omega
        go_upto_region 14 with (first | (go_at_call 7; refine HY2.out.mono ?_; rintro e w3 ⟨rfl, hb⟩) | (go_at_call 9; refine (hN _ _).mono ?_; rintro e w4 ⟨rfl, rfl⟩))
        have HB3 := Lib.hid (below_call hb HBW.out HBW.out.size)
        clear hb HY2 x0 x1 x2 x3 x4 x5 x6 p0 p1 p2 p3 p4 p5 p6
        have HCS := Lib.hid hcs
        have HCT := Lib.hid hcut
        clear hcs hcut
        go_loopw [8, 9] (fun b i wq => ∃ (B : Bool) (q : Nat), b = .bool B ∧ i = .int .i64 q ∧ q + T.size ≤ S.size + 1 ∧ (p < q → B = true) ∧ wq = w3) (fun _ i _ => S.size + 1 - (intOf i).toNat)
        case atStart => exact ⟨false, 0, rfl, rfl, by have := HCS.out; omega, fun h => absurd h (by omega), rfl⟩
        case round =>
          obtain ⟨B, q, rfl, rfl, hq, hpq, rfl⟩ := hrel
          have HPQ := Lib.hid hpq
          clear hpq
          by_cases hin : q + T.size ≤ S.size
          · have hc1 : ((q : Int) + (T.size : Int)) ≤ (S.size : Int) := by omega
            have hc2 : decide ((q : Int) + (T.size : Int) ≤ (S.size : Int)) = true := by simp; omega
            have hc3 : ((q : Int) + (T.size : Int)).toNat = q + T.size := by omega
            have hc4 : (0 : Int) ≤ (q : Int) := by omega
            have hc5 : (q : Int) ≤ (q : Int) + (T.size : Int) := by omega
            have hc6 : (0 : Int) ≤ (q : Int) + (T.size : Int) := by omega
            have hw1 : IntKind.i64.wrap ((q : Int) + (T.size : Int)) = (q : Int) + (T.size : Int) := IntWalk.i64_in _ (by omega)
            cases B
            · obtain ⟨c, hc⟩ : ∃ c : Bool, ((S.extract q (q + T.size)).toList == T.toList) = c := ⟨_, rfl⟩
              have HQ : Hid (p < q + 1 → c = true) := Lib.hid fun h => by
                rcases Nat.lt_or_ge p q with h1 | h1
                · exact absurd (HPQ.out h1) (by simp)
                · have e : p = q := by omega
                  rw [← hc, ← e, HCT.out]
                  simp
              go_wp2_with fail
              go_roundw
              case rel => exact ⟨c, q + 1, rfl, by go_num, by omega, HQ.out, trivial⟩
              case measure => simp [intOf]; omega
            · go_wp2_with fail
              go_roundw
              case rel => exact ⟨true, q + 1, rfl, by go_num, by omega, fun _ => rfl, trivial⟩
              case measure => simp [intOf]; omega
          · have hc2 : decide ((q : Int) + (T.size : Int) ≤ (S.size : Int)) = false := by simp; omega
            have hB1 : B = true := HPQ.out (by have := HCS.out; omega)
            subst hB1
            go_wp2_with fail
            go_roundw
            case rel => exact ⟨j + 1, by omega, by go_num, HB3.out⟩
            case measure => simp [intOf]; omega
      · go_wp2
        go_ret
        exact ⟨rfl, HBr.out⟩
  · rw [txX_no h] at HP
    have hne : (chkX x != 0) = true := by simpa using h
    have H0 := Lib.hid h
    clear h hr he
    generalize chkX x = E at *
    obtain ⟨op, ⟨k, m, s, hv⟩, t, nm, ls⟩ := x
    unfold ExN.val at HP ⊢
    dsimp only at HP ⊢
    go_enter Tryd.func5, Tryd.ntmps5
    go_upto_region 3 with (go_at_call 13; refine (HA.out _ (below1 _ _)).mono ?_; rintro e w1 ⟨rfl, hb⟩)
    have HX := Lib.hid (heap1 hb)
    have HB := Lib.hid (below_of1 hb)
    clear hb
    obtain ⟨x0, x1, x2, x3, x4, x5, x6⟩ := cells7 HX.out
    go_wp2_with (first | (go_at_call 7; refine (HP.out _ HB.out).mono ?_; rintro e w2 ⟨rfl, hb⟩; have HB2 := Lib.hid (below_call hb HB.out HB.out.size)) | (go_at_call 9; refine (hN _ _).mono ?_; rintro e w3 ⟨rfl, rfl⟩))
    go_ret
    exact ⟨rfl, HB2.out⟩
end Go.Proofs.YtlehmnbigocgdaaDoor
