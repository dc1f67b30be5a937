/- Which catalogs may be: the walks of mayBe and Check. Conditions: tables that are read in memory. -/
import Derived.Test.YtddeaiciochggaaNb
namespace Go.Proofs.Ytddeaiciochggaa
open Go.RowKit Go.Sort Go.Maps
set_option linter.unusedSimpArgs false
set_option linter.unusedVariables false

theorem tblB_few {ls : List Tb} (h : ∀ t ∈ ls, tblB t = true) (h8 : ls.length ≤ 8) (j : Nat) : (names (ls.take j)).length ≤ 100 := by
  have h1 := names_len (ls := ls.take j) (fun t ht => (tblB_idx (h t (List.mem_of_mem_take ht))).2.1)
  have h2 : (ls.take j).length ≤ 8 := by rw [List.length_take]; omega
  omega
theorem isSet_any {w : World} {b n : Nat} {D : DataW Unit} (h : IsSet w b n D) : ∃ n D, IsSet w b n D := ⟨n, D, h⟩
theorem risAt_succ {ls : List Tb} {i : Nat} (hi : i + 1 < ls.length) : risAt ls (i + 1) = lessB ls[i].m ls[i + 1].m := by
  simp only [risAt, List.getElem?_eq_getElem (show i < ls.length by omega), List.getElem?_eq_getElem hi]
theorem cell_of_box {w w' : World} {b : Nat} {v : Value} {T : TypeId} (hb : b = w.heap.size) (h : Below (w.alloc (.cells #[v] T)).heap.size (w.alloc (.cells #[v] T)) w') : w'.cell? ⟨b, 0, none⟩ = some v := by
  subst hb
  rw [h.cell (p := ⟨w.heap.size, 0, none⟩) (by simp), cell_last _ _ _ _ _ rfl]; rfl

set_option maxRecDepth 100000 in
set_option maxHeartbeats 8000000 in
theorem mayBe_any6 (A : Option Addr) (n c : Nat) (ls : List Tb) (w : World) (hl : n = ls.length) (hr : RdS w A ls) (hn : ls.length ≤ 9223372036854775807) :
    Calls Try.prog 34 #[.agg #[.slice A n c]] w fun e w' => e = .returned (.bool (catB ls)) ∧ Below w.heap.size w w' := by
  subst hl
  have HR := Lib.hid hr
  clear hr
  have s0 : (w.alloc (.cells #[.slice A ls.length c] 35)).cell? ⟨w.heap.size, 0, none⟩ = some (.slice A ls.length c) := by rw [cell_last _ _ _ _ _ rfl]; rfl
  by_cases h8 : 8 < ls.length
  · have hi : (8 : Int) < (ls.length : Int) := by omega
    have hz : catB ls = false := by unfold catB; simp; omega
    rw [hz]
    clear hz
    go_enter Try.func34, Try.ntmps34
    go_wp2
    go_ret
    exact ⟨rfl, below1 _ _⟩
  have hi : ¬ (8 : Int) < (ls.length : Int) := by omega
  have hmm := @run_makeMap Try.prog
  have hcat : catB ls = ((List.range ls.length).all (fun j => risAt ls j && mayAt ls j) && newB [] (names ls)) := by unfold catB; rw [decide_eq_true (by omega), Bool.true_and]
  rw [hcat]
  clear hcat
  go_enter Try.func34, Try.ntmps34
  go_upto_region 4 with fail
  have hB2 : Below w.heap.size w ((w.alloc (.cells #[.slice A ls.length c] 35)).alloc (.map #[] 0)) := (below1 w _).alloc (by simp) _
  have hS2 : IsSet ((w.alloc (.cells #[.slice A ls.length c] 35)).alloc (.map #[] 0)) (w.heap.size + 1) 0 (.map []) := by
    have h := World.ownsMap_made (w.alloc (.cells #[.slice A ls.length c] 35)) Try.prog 9 (unitElem (H := Unit))
    rwa [World.size_alloc] at h
  have s2 : ((w.alloc (.cells #[.slice A ls.length c] 35)).alloc (.map #[] 0)).cell? ⟨w.heap.size, 0, none⟩ = some (.slice A ls.length c) := by
    rw [(below1 _ _).cell (p := ⟨w.heap.size, 0, none⟩) (by simp)]; exact s0
  have HB2 := Lib.hid hB2
  have HS2 := Lib.hid hS2
  clear hB2 hS2 s0
  generalize (w.alloc (.cells #[.slice A ls.length c] 35)).alloc (.map #[] 0) = w2 at HB2 HS2 s2 ⊢
  have HS0 := Lib.hid s2
  go_wp2
  go_loopw [4, 5, 6, 17] (fun _ _ _ i wr => ∃ j : Nat, i = .int .i64 j ∧ j ≤ ls.length ∧ (∀ k, k < j → (risAt ls k && mayAt ls k) = true) ∧ (∃ n D, IsSet wr (w.heap.size + 1) n D) ∧ w2.grownBy wr (some (w.heap.size + 1))) (fun _ _ _ i _ => ls.length - (intOf i).toNat)
  case atStart => exact ⟨0, rfl, by omega, fun k hk => absurd hk (by omega), ⟨_, _, HS2.out⟩, grown_refl _ _⟩
  case round =>
    obtain ⟨j, rfl, hj, hM, hS, hG⟩ := hrel
    have hk2 : Kp w wr := (Kp.of_below HB2.out).trans (Kp.of_set HS2.out hG)
    have HK2 := Lib.hid hk2
    have HM := Lib.hid hM
    have HSS := Lib.hid hS
    have HG := Lib.hid hG
    have r0 := (Kp.of_set HS2.out hG) _ _ HS0.out
    have hbw : Below w.heap.size w wr := HB2.out.grown hG HB2.out.size (fun k hk => by injection hk with hk; omega)
    have HBW := Lib.hid hbw
    clear hM hS hG hk2 s2 hbw
    by_cases hlt : j < ls.length
    · obtain ⟨ad, rfl, cA, iA, cc, ic, k0, k1, k2, k3, hT⟩ := (HR.out.kept HK2.out).at_ hlt
      have HT := Lib.hid hT
      have hjl : (j : Int) < (ls.length : Int) := by omega
      have hhz : w.heap.size + 1 < wr.heap.size := by
        obtain ⟨_, _, _, _, hm, _⟩ := HSS.out
        exact (Array.getElem?_eq_some_iff.1 hm).1
      clear hT
      go_upto_region 7 with fail
      have hX := Box4.new wr ls[j].m cA ls[j].cols.length cc ls[j].key iA ls[j].idx.length ic 47
      have ha := below1 wr (.cells #[.string ls[j].m, .slice cA ls[j].cols.length cc, .int .i64 ls[j].key, .slice iA ls[j].idx.length ic] 47)
      have HX := Lib.hid hX
      have HAB := Lib.hid ha
      have HSA : Hid (∃ n D, IsSet (wr.alloc (.cells #[.string ls[j].m, .slice cA ls[j].cols.length cc, .int .i64 ls[j].key, .slice iA ls[j].idx.length ic] 47)) (w.heap.size + 1) n D) := Lib.hid (by obtain ⟨n, D, h⟩ := HSS.out; exact ⟨n, D, h.alloc _⟩)
      have r1 := (Kp.of_below ha) _ _ r0
      have hka := HK2.out.trans (Kp.of_below ha)
      have HKA := Lib.hid hka
      have HGA := Lib.hid (grown_trans HG.out (grown_below ha (some (w.heap.size + 1))))
      have HBA := Lib.hid (HBW.out.trans (ha.mono HBW.out.size))
      have HTA := Lib.hid (HT.out.below ha)
      clear hX ha k0 k1 k2 k3 r0 hka
      generalize wr.alloc (.cells #[.string ls[j].m, .slice cA ls[j].cols.length cc, .int .i64 ls[j].key, .slice iA ls[j].idx.length ic] 47) = wa at *
      generalize wr.heap.size = tb at *
      have R1 := Lib.hid r1
      go_cut [6] (fun v wx => v = .bool (risAt ls j) ∧ Below wa.heap.size wa wx)
      case first =>
        cases j with
        | zero =>
          refine wp_region_quiet_below (by kernel_rfl) (by kernel_rfl) ?_
          repeat (go_big_quiet_step (fail))
          refine wpQuiet_nil ?_
          intro w5 hw5
          obtain ⟨pp, rfl⟩ := hw5
          have hb5 := below_regrown wa pp.d pp.os
          go_wp2_with fail
          go_meet
          exact ⟨rfl, hb5⟩
        | succ i =>
          obtain ⟨ad2, e2, _, _, _, _, p0, _, _, _, _⟩ := (HR.out.kept HKA.out).at_ (show i < ls.length by omega)
          injection e2 with e2
          subst e2
          obtain ⟨x0, _, _, _⟩ := HX.out
          have hris := risAt_succ hlt
          have p0r := cell_regrown p0
          have x0r := cell_regrown x0
          have r1r := cell_regrown r1
          have hil : (i : Int) < (ls.length : Int) := by omega
          have hil2 : (i : Int) + 1 < (ls.length : Int) := by omega
          have hz0 : ((i : Int) + 1 == 0) = false := by
            rw [beq_eq_false_iff_ne]; omega
          have hw1 : (i : Int) + 1 - 1 = i := by omega
          clear p0 x0 r1
          refine wp_region_quiet_below (by kernel_rfl) (by kernel_rfl) ?_
          repeat (go_big_quiet_step (fail))
          refine wpQuiet_nil ?_
          intro w5 hw5
          obtain ⟨pp, rfl⟩ := hw5
          have hb5 := below_regrown wa pp.d pp.os
          go_wp2_with fail
          go_meet
          exact ⟨by rw [hris]; rfl, hb5⟩
      case rest =>
        obtain ⟨rfl, hb⟩ := hcut
        obtain ⟨y0, y1, y2, y3⟩ := HX.out.below hb
        have HKC := Lib.hid (HKA.out.trans (Kp.of_below hb))
        have HGC := Lib.hid (grown_trans HGA.out (grown_below hb (some (w.heap.size + 1))))
        have HBC := Lib.hid (HBA.out.trans (hb.mono HBA.out.size))
        have hsc : ∃ n D, IsSet wc (w.heap.size + 1) n D := by obtain ⟨n, D, h⟩ := HSA.out; exact ⟨n, D, set_below h hb⟩
        have hta := HTA.out.below hb
        have hIT := isTable_any ls[j] cA iA cc ic (w.heap.size + 1) wc hta.c hta.x (by have := hta.cb; omega) hsc
        have hma := mayAt_get hlt
        generalize hR : risAt ls j = R
        generalize tblB ls[j] = T at hIT hma
        have HIT := Lib.hid hIT
        obtain ⟨ns, Ds, hs⟩ := hsc
        have HSC := Lib.hid hs
        clear HX HKA HGA HBA HSA HTA HG HBW HSS HT hta hIT hb r1 R1 HAB hs
        cases R
        · have hz : (List.range ls.length).all (fun j => risAt ls j && mayAt ls j) = false := not_all_range hlt (by rw [hR]; rfl)
          have HZ := Lib.hid hz
          clear hz
          go_wp2
          go_ret
          exact ⟨ret_bool (by rw [HZ.out]; rfl), HBC.out⟩
        · cases T
          · have hz : (List.range ls.length).all (fun j => risAt ls j && mayAt ls j) = false := not_all_range hlt (by rw [hR, hma]; rfl)
            have HZ := Lib.hid hz
            clear hz
            go_wp2_with (go_at_call 58; refine HIT.out.mono ?_; rintro e w6 ⟨rfl, hss, hg⟩; have HG6 := Lib.hid hg; clear hss hg)
            go_ret
            exact ⟨ret_bool (by rw [HZ.out]; rfl), HBC.out.grown HG6.out HBC.out.size (fun k hk => by injection hk with hk; omega)⟩
          · have hmn : ∀ k, k < j + 1 → (risAt ls k && mayAt ls k) = true := fun k hk => by
              rcases Nat.lt_or_ge k j with h | h
              · exact HM.out k h
              · have e : k = j := by omega
                rw [e, hR, hma]; rfl
            have HMN := Lib.hid hmn
            clear hmn hR hma
            go_wp2_with (go_at_call 58; refine HIT.out.mono ?_; rintro e w6 ⟨rfl, hss, hg⟩; have HG6 := Lib.hid hg; have HS6 := Lib.hid hss; clear hss hg)
            go_roundw
            case rel => exact ⟨j + 1, by go_num, hlt, HMN.out, HS6.out, grown_trans HGC.out HG6.out⟩
            case measure => simp [intOf]; omega
    · obtain rfl : j = ls.length := by omega
      have hall : (List.range ls.length).all (fun j => risAt ls j && mayAt ls j) = true := all_range HM.out
      have HALL := Lib.hid hall
      have htb : ∀ t ∈ ls, tblB t = true := catB_all fun k hk => by
        have := HM.out k hk
        rw [Bool.and_eq_true] at this
        exact this.2
      have HTB := Lib.hid htb
      obtain ⟨n6, D6, hs6⟩ := HSS.out
      obtain ⟨w7, hcl, hs7, hg7⟩ := run_clear_set hs6
      have s7 := (Kp.of_set hs6 hg7) _ _ r0
      have HK7 := Lib.hid (HK2.out.trans (Kp.of_set hs6 hg7))
      have HS7 := Lib.hid hs7
      have HB7 := Lib.hid (HBW.out.grown hg7 HBW.out.size (fun k hk => by injection hk with hk; omega))
      clear hall htb HM HSS HG HBW r0 hs6 hs7 hg7 HK2
      go_wp2
      generalize hwz : w7 = wz at *
      go_loopw [8, 49] (fun _ i wr => ∃ j : Nat, i = .int .i64 j ∧ j ≤ ls.length ∧ IsSet wr (w.heap.size + 1) (names (ls.take j)).length (setOf (.agg []) (keys (names (ls.take j)))) ∧ newB [] (names ls) = newB (octs (names (ls.take j))) (names (ls.drop j)) ∧ wz.grownBy wr (some (w.heap.size + 1))) (fun _ i _ => ls.length - (intOf i).toNat)
      case atStart => exact ⟨0, rfl, by omega, HS7.out, rfl, grown_refl _ _⟩
      case round =>
        obtain ⟨j, rfl, hj, hS, hI, hG⟩ := hrel
        have HKR := Lib.hid (HK7.out.trans (Kp.of_set HS7.out hG))
        have HBR := Lib.hid (HB7.out.grown hG HB7.out.size (fun k hk => by injection hk with hk; omega))
        have HSS := Lib.hid hS
        have HI := Lib.hid hI
        have HG := Lib.hid hG
        clear hS hI hG hcl s7
        by_cases hlt : j < ls.length
        · obtain ⟨ad, rfl, cA, iA, cc, ic, k0, k1, k2, k3, hT⟩ := (HR.out.kept HKR.out).at_ hlt
          have hjl : (j : Int) < (ls.length : Int) := by omega
          have ha := below1 wr (.cells #[.string ls[j].m, .slice cA ls[j].cols.length cc, .int .i64 ls[j].key, .slice iA ls[j].idx.length ic] 47)
          obtain ⟨_, hi4, hi16⟩ := tblB_idx (HTB.out _ (List.getElem_mem hlt))
          have hnx := newX_acc iA ls[j].idx.length ic (w.heap.size + 1) ls[j].idx (names (ls.take j)) (wr.alloc (.cells #[.string ls[j].m, .slice cA ls[j].cols.length cc, .int .i64 ls[j].key, .slice iA ls[j].idx.length ic] 47)) rfl (hT.x.below ha) (by omega) (tblB_few HTB.out (by omega) j) hi16 (HSS.out.alloc _)
          have hin := HI.out.trans (newB_names hlt (octs (names (ls.take j))))
          rw [← octs_append, ← names_take hlt] at hin
          rw [← names_take hlt] at hnx
          generalize newB (octs (names (ls.take j))) (ls[j].idx.map Ix.m) = T at hnx hin
          have HNX := Lib.hid hnx
          have HIN := Lib.hid hin
          have HGA := Lib.hid (grown_trans HG.out (grown_below ha (some (w.heap.size + 1))))
          have HBA := Lib.hid (HBR.out.trans (ha.mono HBR.out.size))
          clear hnx hin hT ha HI HSS hi4 hi16
          cases T
          · have HZ : Hid (newB [] (names ls) = false) := Lib.hid (by rw [HIN.out]; rfl)
            go_wp2_with (go_at_call 59; refine HNX.out.mono ?_; rintro e w8 ⟨rfl, hss, hs, hg⟩; have HG8 := Lib.hid hg; clear hss hs hg)
            go_ret
            exact ⟨ret_bool (by rw [HALL.out, HZ.out]; rfl), HBA.out.grown HG8.out HBA.out.size (fun k hk => by injection hk with hk; omega)⟩
          · have HZ : Hid (newB [] (names ls) = newB (octs (names (ls.take (j + 1)))) (names (ls.drop (j + 1)))) := Lib.hid (by rw [HIN.out]; rfl)
            go_wp2_with (go_at_call 59; refine HNX.out.mono ?_; rintro e w8 ⟨rfl, hss, hs, hg⟩; have HG8 := Lib.hid hg; have HS8 := Lib.hid (hs rfl); clear hss hs hg)
            go_roundw
            case rel => exact ⟨j + 1, by go_num, hlt, HS8.out, HZ.out, grown_trans HGA.out HG8.out⟩
            case measure => simp [intOf]; omega
        · have HZ : Hid (newB [] (names ls) = true) := Lib.hid (by rw [HI.out, List.drop_of_length_le (by omega)]; rfl)
          go_wp2
          go_ret
          exact ⟨ret_bool (by rw [HALL.out, HZ.out]; rfl), HBR.out⟩

end Go.Proofs.Ytddeaiciochggaa
