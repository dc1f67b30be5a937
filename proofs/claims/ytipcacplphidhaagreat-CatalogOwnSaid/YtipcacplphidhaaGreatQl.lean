/- Where a column and a table stand, by the reference: the walks of Column and Find. Conditions: tables that are read in memory; room as long as the list. -/
import Derived.Test.YtipcacplphidhaaGreatQf
import Derived.Test.YtipcacplphidhaaGreatQa
import Derived.BigQuiet
import Derived.Test.YtipcacplphidhaaGreatQb
/- Which catalogs may be, by the reference: the walk of Check. Conditions: tables that are read in memory; room as long as the list. -/
namespace Go.Proofs.YtipcacplphidhaaGreat
open Go.RowKit Go.Sort Go.Maps
set_option linter.unusedSimpArgs false
set_option linter.unusedVariables false

theorem few_of {t : Tb} (h : tblB t = true) : t.idx.length ≤ 4 := (tblB_idx h).2.1
theorem RdS.take {w : World} {A : Option Addr} {ls : List Tb} (h : RdS w A ls) (k : Nat) : RdS w A (ls.take k) := fun hl => by
  obtain ⟨ad, e, hc⟩ := h (fun e => hl (by rw [e]; simp))
  refine ⟨ad, e, fun j t hj => hc j t ?_⟩
  have hjk : j < k := by
    have := (List.getElem?_eq_some_iff.1 hj).1
    rw [List.length_take] at this
    omega
  rw [List.getElem?_take_of_lt hjk] at hj
  exact hj
def chk6 (ls : List Tb) : Int := if catB ls = true then 0 else 9
set_option maxRecDepth 100000 in
set_option maxHeartbeats 16000000 in
theorem rCheck6_any (A : Option Addr) (c : Nat) (ls : List Tb) (w : World) (hr : RdS w A ls) (hcap : ls.length ≤ c) (hcm : c ≤ 9223372036854775807) :
    Calls Tryz.prog 41 #[.agg #[.slice A ls.length c]] w fun e w' => e = .returned (.int .i64 (chk6 ls)) ∧ Below w.heap.size w w' := by
  have hb1 := below1 w (.cells #[.slice A ls.length c] 24)
  have HR := Lib.hid (hr.below hb1)
  have HB1 := Lib.hid hb1
  have HS0 := Lib.hid (show (w.alloc (.cells #[.slice A ls.length c] 24)).cell? ⟨w.heap.size, 0, none⟩ = some (.slice A ls.length c) by rw [cell_last _ _ _ _ _ rfl]; rfl)
  clear hr hb1
  have HBAD := Lib.hid fun (h : catB ls = false) => (show Ending.returned (.int .i64 9) = .returned (.int .i64 (chk6 ls)) by unfold chk6; rw [h]; rfl)
  by_cases h8 : 8 < ls.length
  · have h8' : (8 : Int) < (ls.length : Int) := by omega
    have HZ := Lib.hid (HBAD.out (by unfold catB; rw [decide_eq_false (show ¬ ls.length ≤ 8 by omega)]; rfl))
    clear h8
    go_enter Tryz.func41, Tryz.ntmps41
    go_upto_region 1 with fail
    generalize (w.alloc (.cells #[.slice A ls.length c] 24)) = v1 at *
    have s0 := HS0.out
    have sb := cell_lt s0
    simp only [] at sb
    go_wp2
    go_ret
    exact ⟨HZ.out, HB1.out⟩
  have d8 : decide ((8 : Int) < (ls.length : Int)) = false := by simp; omega
  go_enter Tryz.func41, Tryz.ntmps41
  go_upto_region 1 with fail
  generalize (w.alloc (.cells #[.slice A ls.length c] 24)) = v1 at *
  have s0 := HS0.out
  have sb := cell_lt s0
  simp only [] at sb
  go_wp2_with fail
  clear d8 s0 sb
  go_loopw [3] (fun i wr => ∃ j : Nat, i = .int .i64 j ∧ j ≤ ls.length ∧ (∀ (a : Nat) (ha : a < ls.length), a < j → (risAt ls a && mayAt ls a) = true ∧ newB [] (ls[a].idx.map Ix.m) = true ∧ ∀ x ∈ ls[a].idx, idxd (ls.take a) x.m = false) ∧ Below v1.heap.size v1 wr) (fun i _ => ls.length - (intOf i).toNat)
  case atStart => exact ⟨0, rfl, by omega, fun a _ h => absurd h (by omega), Below.refl _ _⟩
  case round =>
    obtain ⟨j, rfl, hj, hM, hBB⟩ := hrel
    have HM := Lib.hid hM
    have HBB := Lib.hid hBB
    clear hM hBB
    have s0 := (HBB.out.cell (cell_lt HS0.out)).trans HS0.out
    have sb := cell_lt s0
    simp only [] at sb
    by_cases hlt : j < ls.length
    · have hlt' : (j : Int) < (ls.length : Int) := by omega
      obtain ⟨ad, rfl, cA, iA, cc, ic, k0, k1, k2, k3, hT⟩ := (HR.out.below HBB.out).at_ hlt
      have kb := cell_lt k0
      rw [add_block] at kb
      have HBR := Lib.hid fun (h : risAt ls j = false) => HBAD.out (catB_bad1 hlt (by rw [h]; rfl))
      have HBM := Lib.hid fun (h : tblB ls[j] = false) => HBAD.out (catB_bad1 hlt (by rw [mayAt_get hlt, h]; simp))
      have HBX := Lib.hid fun (x : Ix) (hx : x ∈ ls[j].idx) (h : idxd (ls.take j) x.m = true) => HBAD.out (catB_bad2 (newB_bad hlt hx h))
      have HST := Lib.hid fun (h1 : risAt ls j = true) (h2 : tblB ls[j] = true) (h3 : ∀ x ∈ ls[j].idx, idxd (ls.take j) x.m = false) => (fun a ha haj => (by
        rcases Nat.lt_or_ge a j with h | h
        · exact HM.out a ha h
        · obtain rfl : a = j := by omega
          exact ⟨by rw [h1, mayAt_get hlt, h2]; rfl, (tblB_idx h2).1, h3⟩) : ∀ (a : Nat) (ha : a < ls.length), a < j + 1 → (risAt ls a && mayAt ls a) = true ∧ newB [] (ls[a].idx.map Ix.m) = true ∧ ∀ x ∈ ls[a].idx, idxd (ls.take a) x.m = false)
      have HRI := Lib.hid fun (i : Nat) (h : j = i + 1) => (show ∃ hi : i < ls.length, risAt ls j = lessB ls[i].m ls[j].m by subst h; exact ⟨by omega, risAt_succ hlt⟩)
      have HTT := Lib.hid hT
      clear hT
      generalize ls[j] = t at k0 k1 k2 k3 HTT HBM HBX HST HRI
      go_upto_region 7 with fail
      have hba := below1 wr (.cells #[.string t.m, .slice cA t.cols.length cc, .int .i64 t.key, .slice iA t.idx.length ic] 57)
      have HBX4 := Lib.hid (Box4.new wr t.m cA t.cols.length cc t.key iA t.idx.length ic 57)
      have HBa := Lib.hid (HBB.out.trans (hba.mono HBB.out.size))
      have HSa := Lib.hid ((hba.cell (cell_lt s0)).trans s0)
      have HTa := Lib.hid (HTT.out.below hba)
      clear hba k0 k1 k2 k3 s0 sb kb
      generalize wr.alloc (.cells #[.string t.m, .slice cA t.cols.length cc, .int .i64 t.key, .slice iA t.idx.length ic] 57) = wa at *
      generalize wr.heap.size = bx at *
      have hmay := fun (W : World) (h : Below wa.heap.size wa W) => rMay_any t cA iA cc ic W (HTa.out.c.below h) (HTa.out.x.below h)
      obtain ⟨z0, z1, z2, z3⟩ := HBX4.out
      have s0 := HSa.out
      cases hT : tblB t
      · have HZ := Lib.hid (HBM.out hT)
        rw [hT] at hmay
        have HMAY := Lib.hid hmay
        clear hmay hT
        have r0 := cell_regrown z0
        have r1 := cell_regrown z1
        have r2 := cell_regrown z2
        have r3 := cell_regrown z3
        have rs := cell_regrown s0
        clear z0 z1 z2 z3 s0
        refine wp_region_quiet_below (by kernel_rfl) (by kernel_rfl) ?_
        repeat (go_big_quiet_step ((with_reducible exact Calls.regrown_of (HMAY.out _ (below_regrown _ _ _)))))
        refine wpQuiet_nil ?_
        intro w5 hw5
        obtain ⟨pp, rfl⟩ := hw5
        have HB5 := Lib.hid (below_regrown wa pp.d pp.os)
        clear r0 r1 r2 r3 rs
        generalize grow (redrawn wa pp.d) pp.os = W5 at HB5 ⊢
        go_wp2
        go_ret
        exact ⟨HZ.out, HB1.out.trans ((HBa.out.trans (HB5.out.mono HBa.out.size)).mono HB1.out.size)⟩
      rw [hT] at hmay
      have HMAY := Lib.hid hmay
      have HFW := Lib.hid (few_of hT)
      clear hmay
      rcases Nat.eq_zero_or_pos j with hj0 | hj0
      · have hj1 : decide ((0 : Int) < (j : Int)) = false := by simp; omega
        have hj2 : decide (0 < j) = false := by simp; omega
        have HST2 := Lib.hid (HST.out (by rw [hj0]; rfl) hT)
        clear HST HBR HBM HRI hT hj0
        have r0 := cell_regrown z0
        have r1 := cell_regrown z1
        have r2 := cell_regrown z2
        have r3 := cell_regrown z3
        have rs := cell_regrown s0
        clear z0 z1 z2 z3 s0
        refine wp_region_quiet_below (by kernel_rfl) (by kernel_rfl) ?_
        repeat (go_big_quiet_step ((with_reducible exact Calls.regrown_of (HMAY.out _ (below_regrown _ _ _)))))
        refine wpQuiet_nil ?_
        intro w5 hw5
        obtain ⟨pp, rfl⟩ := hw5
        have HB5 := Lib.hid (below_regrown wa pp.d pp.os)
        clear r0 r1 r2 r3 rs
        generalize grow (redrawn wa pp.d) pp.os = W5 at HB5 ⊢
        go_upto_region 9 with fail
        have HV5 := Lib.hid (HBa.out.trans (HB5.out.mono HBa.out.size))
        have HX5 := Lib.hid (HBX4.out.below HB5.out)
        have HT5 := Lib.hid (HTa.out.below HB5.out)
        clear HBX4 HTa HSa HBa HB5 HTT HMAY hj1 hj2
        go_wp2_with fail
        go_loopw [5] (fun i wr => ∃ q : Nat, i = .int .i64 q ∧ q ≤ t.idx.length ∧ (∀ (b : Nat) (hb : b < t.idx.length), b < q → idxd (ls.take j) t.idx[b].m = false) ∧ Below W5.heap.size W5 wr) (fun i _ => t.idx.length - (intOf i).toNat)
        case atStart => exact ⟨0, rfl, by omega, fun a _ h => absurd h (by omega), Below.refl _ _⟩
        case round =>
          obtain ⟨q, rfl, hq, hM2, hB6⟩ := hrel
          have HM2 := Lib.hid hM2
          have HB6 := Lib.hid hB6
          clear hM2 hB6
          obtain ⟨y0, y1, y2, y3⟩ := HX5.out.below HB6.out
          have HW := Lib.hid (HV5.out.trans (HB6.out.mono HV5.out.size))
          have s0 := (HW.out.cell (cell_lt HS0.out)).trans HS0.out
          clear y0 y1 y2
          by_cases hqj : q < t.idx.length
          · have hqj' : (q : Int) < (t.idx.length : Int) := by omega
            obtain ⟨ae, e1, a0, a1⟩ := (HT5.out.below HB6.out).x.at_ hqj
            subst e1
            have hjc : (j : Int) ≤ (c : Int) := by omega
            have hix := fun (s : ByteArray) (W : World) (h : Below wr.heap.size wr W) => indexed_any (some ad) j c (ls.take j) s W (by rw [List.length_take]; omega) (RdS.take ((HR.out.below HW.out).below h) j) (by rw [List.length_take]; omega)
            have HPQ := Lib.hid (HBX.out t.idx[q] (List.getElem_mem hqj))
            have HSQ := Lib.hid fun (h : idxd (ls.take j) t.idx[q].m = false) => (fun b hb hbq => (by
              rcases Nat.lt_or_ge b q with h1 | h1
              · exact HM2.out b hb h1
              · obtain rfl : b = q := by omega
                exact h) : ∀ (b : Nat) (hb : b < t.idx.length), b < q + 1 → idxd (ls.take j) t.idx[b].m = false)
            clear a1
            have hir := hix t.idx[q].m
            clear hix
            generalize t.idx[q] = x at a0 HPQ HSQ hir
            cases hxd : idxd (ls.take j) x.m
            · rw [hxd] at hir
              have HIR := Lib.hid hir
              have HSS := Lib.hid (HSQ.out hxd)
              clear hir HPQ HSQ hxd
              go_upto_region 12 with fail
              have p0 := cell_regrown a0
              have p3 := cell_regrown y3
              have ps := cell_regrown s0
              clear a0 y3 s0
              refine wp_region_quiet_below (by kernel_rfl) (by kernel_rfl) ?_
              repeat (go_big_quiet_step ((with_reducible exact Calls.regrown_of (HIR.out _ (below_regrown _ _ _)))))
              refine wpQuiet_nil ?_
              intro w7 hw7
              obtain ⟨pp, rfl⟩ := hw7
              have HB7 := Lib.hid (below_regrown wr pp.d pp.os)
              clear p0 p3 ps
              generalize grow (redrawn wr pp.d) pp.os = W7 at HB7 ⊢
              have hl4 := HFW.out
              go_wp2
              go_roundw
              case rel => exact ⟨q + 1, by go_num, hqj, HSS.out, HB6.out.trans (HB7.out.mono HB6.out.size)⟩
              case measure => simp [intOf]; omega
            · rw [hxd] at hir
              have HIR := Lib.hid hir
              have HZ := Lib.hid (HPQ.out hxd)
              clear hir HPQ HSQ hxd
              go_upto_region 12 with fail
              have p0 := cell_regrown a0
              have p3 := cell_regrown y3
              have ps := cell_regrown s0
              clear a0 y3 s0
              refine wp_region_quiet_below (by kernel_rfl) (by kernel_rfl) ?_
              repeat (go_big_quiet_step ((with_reducible exact Calls.regrown_of (HIR.out _ (below_regrown _ _ _)))))
              refine wpQuiet_nil ?_
              intro w7 hw7
              obtain ⟨pp, rfl⟩ := hw7
              have HB7 := Lib.hid (below_regrown wr pp.d pp.os)
              clear p0 p3 ps
              generalize grow (redrawn wr pp.d) pp.os = W7 at HB7 ⊢
              go_wp2
              go_ret
              exact ⟨HZ.out, HB1.out.trans ((HW.out.trans (HB7.out.mono HW.out.size)).mono HB1.out.size)⟩
          · obtain rfl : q = t.idx.length := by omega
            have hl8 : ls.length ≤ 8 := by omega
            go_wp2
            go_roundw
            case rel => exact ⟨j + 1, by go_num, hlt, HST2.out (fun x hx => by obtain ⟨b, hb, rfl⟩ := List.mem_iff_getElem.1 hx; exact HM2.out b hb hb), HW.out⟩
            case measure => simp [intOf]; omega
      obtain ⟨i, hji⟩ : ∃ i, j = i + 1 := ⟨j - 1, by omega⟩
      obtain ⟨hil, hri⟩ := HRI.out i hji
      obtain ⟨ad', e0, cA', iA', cc', ic', p0, _, _, _, _⟩ := (HR.out.below HBa.out).at_ hil
      injection e0 with e0
      subst e0
      have hj1 : decide ((0 : Int) < (j : Int)) = true := by simp; omega
      have hj2 : decide (0 < j) = true := by simp; omega
      have hw1 : IntKind.i64.wrap ((j : Int) - 1) = (i : Int) := by rw [IntKind.wrap_i64]; omega
      have hil' : (i : Int) < (ls.length : Int) := by omega
      clear HRI
      generalize ls[i] = t' at hri p0
      cases hls : lessB t'.m t.m
      · have HZ := Lib.hid (HBR.out (by rw [hri, hls]))
        have hls' : Op.bytesLess t'.m.toList t.m.toList = false := hls
        clear hri hls hT hji hj0 HST HBR HBM
        cases hle : Op.bytesLess t.m.toList t'.m.toList
        · have hlq : (t.m.toList == t'.m.toList) = true := by rw [less_tri hle hls']; simp
          clear hls'
          have r0 := cell_regrown z0
          have r1 := cell_regrown z1
          have r2 := cell_regrown z2
          have r3 := cell_regrown z3
          have rs := cell_regrown s0
          clear z0 z1 z2 z3 s0
          have rp := cell_regrown p0
          clear p0
          refine wp_region_quiet_below (by kernel_rfl) (by kernel_rfl) ?_
          repeat (go_big_quiet_step ((with_reducible exact Calls.regrown_of (HMAY.out _ (below_regrown _ _ _)))))
          refine wpQuiet_nil ?_
          intro w5 hw5
          obtain ⟨pp, rfl⟩ := hw5
          have HB5 := Lib.hid (below_regrown wa pp.d pp.os)
          clear r0 r1 r2 r3 rs rp
          generalize grow (redrawn wa pp.d) pp.os = W5 at HB5 ⊢
          go_wp2
          go_ret
          exact ⟨HZ.out, HB1.out.trans ((HBa.out.trans (HB5.out.mono HBa.out.size)).mono HB1.out.size)⟩
        clear hls'
        have r0 := cell_regrown z0
        have r1 := cell_regrown z1
        have r2 := cell_regrown z2
        have r3 := cell_regrown z3
        have rs := cell_regrown s0
        clear z0 z1 z2 z3 s0
        have rp := cell_regrown p0
        clear p0
        refine wp_region_quiet_below (by kernel_rfl) (by kernel_rfl) ?_
        repeat (go_big_quiet_step ((with_reducible exact Calls.regrown_of (HMAY.out _ (below_regrown _ _ _)))))
        refine wpQuiet_nil ?_
        intro w5 hw5
        obtain ⟨pp, rfl⟩ := hw5
        have HB5 := Lib.hid (below_regrown wa pp.d pp.os)
        clear r0 r1 r2 r3 rs rp
        generalize grow (redrawn wa pp.d) pp.os = W5 at HB5 ⊢
        go_wp2
        go_ret
        exact ⟨HZ.out, HB1.out.trans ((HBa.out.trans (HB5.out.mono HBa.out.size)).mono HB1.out.size)⟩
      have HST2 := Lib.hid (HST.out (by rw [hri, hls]) hT)
      have hls' : Op.bytesLess t'.m.toList t.m.toList = true := hls
      have hle : Op.bytesLess t.m.toList t'.m.toList = false := by
        cases h : Op.bytesLess t.m.toList t'.m.toList
        · rfl
        · exact absurd (less_trans hls' h) (by rw [less_irrefl]; simp)
      have hlq : (t.m.toList == t'.m.toList) = false := beq_false_of_ne fun e => by rw [e, less_irrefl] at hls'; cases hls'
      clear hls'
      clear hri hls hT hji hj0 HST HBR HBM
      have r0 := cell_regrown z0
      have r1 := cell_regrown z1
      have r2 := cell_regrown z2
      have r3 := cell_regrown z3
      have rs := cell_regrown s0
      clear z0 z1 z2 z3 s0
      have rp := cell_regrown p0
      clear p0
      refine wp_region_quiet_below (by kernel_rfl) (by kernel_rfl) ?_
      repeat (go_big_quiet_step ((with_reducible exact Calls.regrown_of (HMAY.out _ (below_regrown _ _ _)))))
      refine wpQuiet_nil ?_
      intro w5 hw5
      obtain ⟨pp, rfl⟩ := hw5
      have HB5 := Lib.hid (below_regrown wa pp.d pp.os)
      clear r0 r1 r2 r3 rs rp
      generalize grow (redrawn wa pp.d) pp.os = W5 at HB5 ⊢
      go_upto_region 9 with fail
      have HV5 := Lib.hid (HBa.out.trans (HB5.out.mono HBa.out.size))
      have HX5 := Lib.hid (HBX4.out.below HB5.out)
      have HT5 := Lib.hid (HTa.out.below HB5.out)
      clear HBX4 HTa HSa HBa HB5 HTT HMAY hj1 hj2
      go_wp2_with fail
      go_loopw [5] (fun i wr => ∃ q : Nat, i = .int .i64 q ∧ q ≤ t.idx.length ∧ (∀ (b : Nat) (hb : b < t.idx.length), b < q → idxd (ls.take j) t.idx[b].m = false) ∧ Below W5.heap.size W5 wr) (fun i _ => t.idx.length - (intOf i).toNat)
      case atStart => exact ⟨0, rfl, by omega, fun a _ h => absurd h (by omega), Below.refl _ _⟩
      case round =>
        obtain ⟨q, rfl, hq, hM2, hB6⟩ := hrel
        have HM2 := Lib.hid hM2
        have HB6 := Lib.hid hB6
        clear hM2 hB6
        obtain ⟨y0, y1, y2, y3⟩ := HX5.out.below HB6.out
        have HW := Lib.hid (HV5.out.trans (HB6.out.mono HV5.out.size))
        have s0 := (HW.out.cell (cell_lt HS0.out)).trans HS0.out
        clear y0 y1 y2
        by_cases hqj : q < t.idx.length
        · have hqj' : (q : Int) < (t.idx.length : Int) := by omega
          obtain ⟨ae, e1, a0, a1⟩ := (HT5.out.below HB6.out).x.at_ hqj
          subst e1
          have hjc : (j : Int) ≤ (c : Int) := by omega
          have hix := fun (s : ByteArray) (W : World) (h : Below wr.heap.size wr W) => indexed_any (some ad) j c (ls.take j) s W (by rw [List.length_take]; omega) (RdS.take ((HR.out.below HW.out).below h) j) (by rw [List.length_take]; omega)
          have HPQ := Lib.hid (HBX.out t.idx[q] (List.getElem_mem hqj))
          have HSQ := Lib.hid fun (h : idxd (ls.take j) t.idx[q].m = false) => (fun b hb hbq => (by
            rcases Nat.lt_or_ge b q with h1 | h1
            · exact HM2.out b hb h1
            · obtain rfl : b = q := by omega
              exact h) : ∀ (b : Nat) (hb : b < t.idx.length), b < q + 1 → idxd (ls.take j) t.idx[b].m = false)
          clear a1
          have hir := hix t.idx[q].m
          clear hix
          generalize t.idx[q] = x at a0 HPQ HSQ hir
          cases hxd : idxd (ls.take j) x.m
          · rw [hxd] at hir
            have HIR := Lib.hid hir
            have HSS := Lib.hid (HSQ.out hxd)
            clear hir HPQ HSQ hxd
            go_upto_region 12 with fail
            have p0 := cell_regrown a0
            have p3 := cell_regrown y3
            have ps := cell_regrown s0
            clear a0 y3 s0
            refine wp_region_quiet_below (by kernel_rfl) (by kernel_rfl) ?_
            repeat (go_big_quiet_step ((with_reducible exact Calls.regrown_of (HIR.out _ (below_regrown _ _ _)))))
            refine wpQuiet_nil ?_
            intro w7 hw7
            obtain ⟨pp, rfl⟩ := hw7
            have HB7 := Lib.hid (below_regrown wr pp.d pp.os)
            clear p0 p3 ps
            generalize grow (redrawn wr pp.d) pp.os = W7 at HB7 ⊢
            have hl4 := HFW.out
            go_wp2
            go_roundw
            case rel => exact ⟨q + 1, by go_num, hqj, HSS.out, HB6.out.trans (HB7.out.mono HB6.out.size)⟩
            case measure => simp [intOf]; omega
          · rw [hxd] at hir
            have HIR := Lib.hid hir
            have HZ := Lib.hid (HPQ.out hxd)
            clear hir HPQ HSQ hxd
            go_upto_region 12 with fail
            have p0 := cell_regrown a0
            have p3 := cell_regrown y3
            have ps := cell_regrown s0
            clear a0 y3 s0
            refine wp_region_quiet_below (by kernel_rfl) (by kernel_rfl) ?_
            repeat (go_big_quiet_step ((with_reducible exact Calls.regrown_of (HIR.out _ (below_regrown _ _ _)))))
            refine wpQuiet_nil ?_
            intro w7 hw7
            obtain ⟨pp, rfl⟩ := hw7
            have HB7 := Lib.hid (below_regrown wr pp.d pp.os)
            clear p0 p3 ps
            generalize grow (redrawn wr pp.d) pp.os = W7 at HB7 ⊢
            go_wp2
            go_ret
            exact ⟨HZ.out, HB1.out.trans ((HW.out.trans (HB7.out.mono HW.out.size)).mono HB1.out.size)⟩
        · obtain rfl : q = t.idx.length := by omega
          have hl8 : ls.length ≤ 8 := by omega
          go_wp2
          go_roundw
          case rel => exact ⟨j + 1, by go_num, hlt, HST2.out (fun x hx => by obtain ⟨b, hb, rfl⟩ := List.mem_iff_getElem.1 hx; exact HM2.out b hb hb), HW.out⟩
          case measure => simp [intOf]; omega
    · obtain rfl : j = ls.length := by omega
      have HZ := Lib.hid (show Ending.returned (.int .i64 0) = .returned (.int .i64 (chk6 ls)) by
        unfold chk6
        rw [catB_good (by omega) (fun k hk => (HM.out k hk hk).1) (by have := newB_all (ls := ls) ls.length (Nat.le_refl _) fun i hi _ => (HM.out i hi hi).2; rwa [List.take_length] at this)]
        rfl)
      clear HM
      go_wp2
      go_ret
      exact ⟨HZ.out, HB1.out.trans (HBB.out.mono HB1.out.size)⟩
end Go.Proofs.YtipcacplphidhaaGreat
namespace Go.Proofs.YtipcacplphidhaaGreat
open Go.RowKit Go.Sort Go.Maps
set_option linter.unusedSimpArgs false
set_option linter.unusedVariables false

set_option maxRecDepth 100000 in
set_option maxHeartbeats 8000000 in
theorem rColumn_any (m : ByteArray) (A iA : Option Addr) (c in_ ic : Nat) (k : Int) (l : List Cl) (s : ByteArray) (w : World) (hr : RdC w A l) (hn : l.length ≤ 9223372036854775807) :
    Calls Tryz.prog 25 #[tbl m A l.length c k iA in_ ic, .string s] w fun e w' => e = .returned (.tuple #[.int .i64 (colF l s).1, .int .i64 (colF l s).2]) ∧ Below w.heap.size w w' := by
  have hb1 := below1 w (.cells #[.string m, .slice A l.length c, .int .i64 k, .slice iA in_ ic] 57)
  have HR := Lib.hid (hr.below hb1)
  have HX1 := Lib.hid (Box4.new w m A l.length c k iA in_ ic 57)
  have HB1 := Lib.hid hb1
  clear hr hb1
  go_enter Tryz.func25, Tryz.ntmps25
  go_upto_region 1 with fail
  generalize (w.alloc (.cells #[.string m, .slice A l.length c, .int .i64 k, .slice iA in_ ic] 57)) = v1 at *
  go_wp2_with fail
  go_loopw [6] (fun i wr => ∃ j : Nat, i = .int .i64 j ∧ j ≤ l.length ∧ (∀ (a : Nat) (ha : a < l.length), a < j → isC s l[a] = false) ∧ Below v1.heap.size v1 wr) (fun i _ => l.length - (intOf i).toNat)
  case atStart => exact ⟨0, rfl, by omega, fun a _ h => absurd h (by omega), Below.refl _ _⟩
  case round =>
    obtain ⟨j, rfl, hj, hM, hBB⟩ := hrel
    have HM := Lib.hid hM
    have HBB := Lib.hid hBB
    clear hM hBB
    obtain ⟨x0, x1, x2, x3⟩ := HX1.out.below HBB.out
    have xb := cell_lt x0
    simp only [] at xb
    clear x0 x2 x3
    by_cases hlt : j < l.length
    · have hlt' : (j : Int) < (l.length : Int) := by omega
      obtain ⟨ad, rfl, a0, a1, a2⟩ := (HR.out.below HBB.out).at_ hlt
      have ab := cell_lt a0
      rw [add_block] at ab
      clear a1 a2
      have HYS := Lib.hid fun (h : isC s l[j] = true) => (show colF l s = ((j : Int), 0) by
        unfold colF
        rw [if_pos (List.any_eq_true.2 ⟨_, List.getElem_mem hlt, h⟩), fst1_yes hlt (fun a ha haj => HM.out a ha haj) h])
      have HST := Lib.hid fun (h : isC s l[j] = false) => (fun a ha haj => (by
        rcases Nat.lt_or_ge a j with h1 | h1
        · exact HM.out a ha h1
        · obtain rfl : a = j := by omega
          exact h) : ∀ (a : Nat) (ha : a < l.length), a < j + 1 → isC s l[a] = false)
      generalize l[j] = x at a0 HYS HST
      cases hey : isC s x
      · have hee : (x.m.toList == s.toList) = false := hey
        have HSS := Lib.hid (HST.out hey)
        clear hey HYS HST
        go_wp2
        go_roundw
        case rel => exact ⟨j + 1, by go_num, hlt, HSS.out, HBB.out⟩
        case measure => simp [intOf]; omega
      · have hee : (x.m.toList == s.toList) = true := hey
        have HZ := Lib.hid (HYS.out hey)
        clear hey HYS HST
        go_wp2
        go_ret2
        exact ⟨by rw [HZ.out]; rfl, HB1.out.trans (HBB.out.mono HB1.out.size)⟩
    · obtain rfl : j = l.length := by omega
      have HZ := Lib.hid (show colF l s = (0, 94) by
        unfold colF
        rw [if_neg (fun h => by
          obtain ⟨x, hx, he⟩ := List.any_eq_true.1 h
          obtain ⟨a, ha, rfl⟩ := List.mem_iff_getElem.1 hx
          rw [HM.out a ha ha] at he
          cases he)])
      clear HM
      go_wp2
      go_ret2
      exact ⟨by rw [HZ.out]; rfl, HB1.out.trans (HBB.out.mono HB1.out.size)⟩
set_option maxRecDepth 100000 in
set_option maxHeartbeats 8000000 in
theorem rFind6_any (A : Option Addr) (c : Nat) (ls : List Tb) (s : ByteArray) (w : World) (hr : RdS w A ls) (hcap : ls.length ≤ c) (hcm : c ≤ 9223372036854775807) :
    Calls Tryz.prog 23 #[.agg #[.slice A ls.length c], .string s] w fun e w' => (∃ i : Int, e = .returned (.tuple #[.int .i64 i, .int .i64 (findF ls s).2])) ∧ Below w.heap.size w w' := by
  have hb1 := below1 w (.cells #[.slice A ls.length c] 24)
  have HR := Lib.hid (hr.below hb1)
  have HB1 := Lib.hid hb1
  have HS0 := Lib.hid (show (w.alloc (.cells #[.slice A ls.length c] 24)).cell? ⟨w.heap.size, 0, none⟩ = some (.slice A ls.length c) by rw [cell_last _ _ _ _ _ rfl]; rfl)
  have hck := rCheck6_any A c ls _ (hr.below hb1) hcap hcm
  clear hr hb1
  go_enter Tryz.func23, Tryz.ntmps23
  go_upto_region 1 with fail
  generalize (w.alloc (.cells #[.slice A ls.length c] 24)) = v1 at *
  have s0 := HS0.out
  have sb := cell_lt s0
  simp only [] at sb
  cases hcb : catB ls
  · have HZ := Lib.hid (show (findF ls s).2 = 9 by unfold findF; rw [if_pos hcb])
    rw [show chk6 ls = 9 by unfold chk6; rw [hcb]; rfl] at hck
    have HCK := Lib.hid hck
    clear hck hcb
    go_wp2_with (go_at_call 41; (with_reducible refine HCK.out.mono ?_); rintro e w5 ⟨rfl, hb⟩; have HB5 := Lib.hid (HB1.out.trans (hb.mono HB1.out.size)); clear hb s0 sb)
    go_ret2
    exact ⟨⟨0, by rw [HZ.out]; rfl⟩, HB5.out⟩
  · have hcat := cat_of hcb
    have HYS := Lib.hid fun (j : Nat) (hj : j < ls.length) (h : ls[j].m = s) => (show (findF ls s).2 = 0 by unfold findF; rw [if_neg (by rw [hcb]; simp), if_pos (h ▸ (isT_mem hcat.srt hj).2)])
    have HNO := Lib.hid fun (h : ∀ (a : Nat) (ha : a < ls.length), ls[a].m ≠ s) => (show (findF ls s).2 = 93 by
      unfold findF
      rw [if_neg (by rw [hcb]; simp), if_neg (fun hi => by obtain ⟨hp, e⟩ := isT_get hi; exact h _ hp e)])
    rw [show chk6 ls = 0 by unfold chk6; rw [hcb]; rfl] at hck
    have HCK := Lib.hid hck
    have HL8 := Lib.hid hcat.few
    clear hck hcb hcat
    go_upto_region 3 with (go_at_call 41; (with_reducible refine HCK.out.mono ?_); rintro e w5 ⟨rfl, hb⟩; have HB5 := Lib.hid hb; clear hb s0 sb)
    go_wp2_with fail
    go_loopw [6] (fun i wr => ∃ j : Nat, i = .int .i64 j ∧ j ≤ ls.length ∧ (∀ (a : Nat) (ha : a < ls.length), a < j → ls[a].m ≠ s) ∧ Below v1.heap.size v1 wr) (fun i _ => ls.length - (intOf i).toNat)
    case atStart => exact ⟨0, rfl, by omega, fun a _ h => absurd h (by omega), HB5.out⟩
    case round =>
      obtain ⟨j, rfl, hj, hM, hBB⟩ := hrel
      have HM := Lib.hid hM
      have HBB := Lib.hid hBB
      clear hM hBB
      have s0 := (HBB.out.cell (cell_lt HS0.out)).trans HS0.out
      have sb := cell_lt s0
      simp only [] at sb
      by_cases hlt : j < ls.length
      · have hlt' : (j : Int) < (ls.length : Int) := by omega
        obtain ⟨ad, rfl, cA, iA, cc, ic, k0, k1, k2, k3, hT⟩ := (HR.out.below HBB.out).at_ hlt
        have kb := cell_lt k0
        rw [add_block] at kb
        clear k1 k2 k3 hT
        have HYJ := Lib.hid (HYS.out j hlt)
        have HST := Lib.hid fun (h : ls[j].m ≠ s) => (fun a ha haj => (by
          rcases Nat.lt_or_ge a j with h1 | h1
          · exact HM.out a ha h1
          · obtain rfl : a = j := by omega
            exact h) : ∀ (a : Nat) (ha : a < ls.length), a < j + 1 → ls[a].m ≠ s)
        generalize ls[j] = t at k0 HYJ HST
        by_cases hey : t.m = s
        · have hee : (t.m.toList == s.toList) = true := by rw [hey]; simp
          have HZ := Lib.hid (HYJ.out hey)
          clear hey HYJ HST
          go_wp2
          go_ret2
          exact ⟨⟨(j : Int), by rw [HZ.out]; rfl⟩, HB1.out.trans (HBB.out.mono HB1.out.size)⟩
        · have hee : (t.m.toList == s.toList) = false := beq_false_of_ne fun e => hey (ba_eq e)
          have HSS := Lib.hid (HST.out hey)
          clear hey HYJ HST
          have hl8 := HL8.out
          go_wp2
          go_roundw
          case rel => exact ⟨j + 1, by go_num, hlt, HSS.out, HBB.out⟩
          case measure => simp [intOf]; omega
      · obtain rfl : j = ls.length := by omega
        have HZ := Lib.hid (HNO.out fun a ha => HM.out a ha ha)
        clear HM
        go_wp2
        go_ret2
        exact ⟨⟨0, by rw [HZ.out]; rfl⟩, HB1.out.trans (HBB.out.mono HB1.out.size)⟩
end Go.Proofs.YtipcacplphidhaaGreat
