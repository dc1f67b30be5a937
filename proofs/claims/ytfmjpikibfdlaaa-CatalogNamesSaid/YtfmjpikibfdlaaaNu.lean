/- What Add makes of a catalog: the walk. Conditions: a statement and tables that are read in memory. -/
import Derived.Test.YtfmjpikibfdlaaaNt
import Derived.Test.YtfmjpikibfdlaaaNn
namespace Go.Proofs.Ytfmjpikibfdlaaa
open Go.RowKit Go.Sort Go.Maps
set_option linter.unusedSimpArgs false
set_option linter.unusedVariables false

theorem cell_heap {w w' : World} {g o : Nat} (h : w'.heap[g]? = w.heap[g]?) : w'.cell? ⟨g, o, none⟩ = w.cell? ⟨g, o, none⟩ := by
  unfold World.cell?
  rw [h]
theorem frozen_heap {w w' : World} {g o : Nat} (h : w'.heap[g]? = w.heap[g]?) : w'.frozen? ⟨g, o, none⟩ = w.frozen? ⟨g, o, none⟩ := by
  unfold World.frozen?
  rw [h]
set_option maxRecDepth 100000 in
set_option maxHeartbeats 16000000 in
theorem add_any {n : Nat} (A : Option Addr) (c : Nat) (ls : List Tb) (x : Sy.St n) (h : Sy.Hs) (w : World) (hr : RdS w A ls) (hn : ls.length ≤ 9223372036854775807) (hx : Sy.RdSt Sy.Any w x h) :
    Calls Try.prog 11 #[.agg #[.slice A ls.length c], x.val h] w (ChgPost w (addF ls x)) := by
  have hb1 := below1 w (.cells #[.slice A ls.length c] 35)
  have hb2 := below1 (w.alloc (.cells #[.slice A ls.length c] 35)) (.cells (x.cs h) 31)
  have hb3 := below1 ((w.alloc (.cells #[.slice A ls.length c] 35)).alloc (.cells (x.cs h) 31)) (.cells #[.slice none 0 0] 35)
  have h1 : Bx1 (((w.alloc (.cells #[.slice A ls.length c] 35)).alloc (.cells (x.cs h) 31)).alloc (.cells #[.slice none 0 0] 35)) w.heap.size (.slice A ls.length c) := (Bx1.below (heap_alloc_new w _) hb2).below hb3
  have h2 : (((w.alloc (.cells #[.slice A ls.length c] 35)).alloc (.cells (x.cs h) 31)).alloc (.cells #[.slice none 0 0] 35)).heap[w.heap.size + 1]? = some (.cells (x.cs h) 31 (0, 0)) := stmt_row x h (w.alloc (.cells #[.slice A ls.length c] 35)) (by simp) hb3
  have h3 : Bx1 (((w.alloc (.cells #[.slice A ls.length c] 35)).alloc (.cells (x.cs h) 31)).alloc (.cells #[.slice none 0 0] 35)) (w.heap.size + 1 + 1) (.slice none 0 0) := by
    have := heap_alloc_new ((w.alloc (.cells #[.slice A ls.length c] 35)).alloc (.cells (x.cs h) 31)) (.cells #[.slice none 0 0] 35)
    rwa [World.size_alloc, World.size_alloc] at this
  have HB3 := Lib.hid (thn (thn hb1 hb2) hb3)
  have HS3 := Lib.hid h1
  have HR3 := Lib.hid h3
  have HX3 := Lib.hid h2
  have HR := Lib.hid hr
  have HASK := Lib.hid fun (W : World) (hb : Below w.heap.size w W) => asked_any A c ls x h 2 W (hr.below hb) hn (hx.below hb)
  have HCZ := Lib.hid (fun h0 => mk2_of (x := x) (askF_zero (ls := ls) (kind := 2) h0).2.1 (askF_zero h0).2.2)
  have HCT := Lib.hid (fun h0 => cat_of (askF_zero (ls := ls) (x := x) (kind := 2) h0).1)
  have hcr : addF ls x = if askF ls x 2 ≠ 0 then (askF ls x 2, []) else if isT ls x.tb = false then (93, []) else match ls[posT ls x.tb]? with
    | none => (93, [])
    | some t => if t.cols.any (isC x.key) = false then (94, []) else if ls.any (hasX x.ix) = true then (6, []) else if t.idx.length = 4 then (51, []) else (0, ls.set (posT ls x.tb) (addT t x.ix (fst1 (isC x.key) t.cols))) := rfl
  generalize askF ls x 2 = E at HASK HCZ HCT hcr
  generalize addF ls x = R at hcr ⊢
  clear hr hx hb1 hb2 hb3 h1 h2 h3
  obtain ⟨kd, tb, cols, key, ix, rows, sets, items, jn, on, wh, gr, ord, lim⟩ := x
  obtain ⟨⟨aC, cC⟩, ⟨aR, cR⟩, ⟨aS, cS⟩, ⟨aI, cI⟩, ⟨aO, cO⟩, ⟨aW, cW⟩, ⟨aG, cG⟩, ⟨aD, cD⟩⟩ := h
  dsimp only [Sy.St.cs, Sy.St.val] at *
  have HCR := Lib.hid hcr
  clear hcr
  go_enter Try.func11, Try.ntmps11
  go_upto_region 1 with fail
  generalize ((w.alloc (.cells #[.slice A ls.length c] 35)).alloc (.cells #[.int .i64 kd, .string tb, .slice aC cols.length cC, .string key, .string ix, .slice aR rows.length cR, .slice aS sets.length cS, .slice aI items.length cI, .string jn, .slice aO on.length cO, .slice aW wh.length cW, .slice aG gr.length cG, .slice aD ord.length cD, .int .i64 lim] 31)).alloc (.cells #[.slice none 0 0] 35) = w3 at HB3 HS3 HR3 HX3 ⊢
  obtain ⟨s0, _⟩ := HS3.out.cells
  obtain ⟨y0, y1, y2, y3, y4, y5, y6, y7, y8, y9, y10, y11, y12, y13⟩ := Sy.cells14 HX3.out
  go_upto_region 2 with (go_at_call 19; (with_reducible refine (HASK.out _ HB3.out).mono ?_); rintro e w4 ⟨rfl, hb⟩; have HS4 := Lib.hid (HS3.out.below hb); have HR4 := Lib.hid (HR3.out.below hb); have HX4 := Lib.hid (row_below HX3.out hb); have HB4 := Lib.hid (thn HB3.out hb); clear hb)
  clear s0 y0 y1 y2 y3 y4 y5 y6 y7 y8 y9 y10 y11 y12 y13 HS3 HR3 HX3 HB3 HASK
  obtain ⟨s0, sf⟩ := HS4.out.cells
  obtain ⟨r0, rf⟩ := HR4.out.cells
  obtain ⟨y0, y1, y2, y3, y4, y5, y6, y7, y8, y9, y10, y11, y12, y13⟩ := Sy.cells14 HX4.out
  have Z0 := Lib.hid (HR4.out.set (.slice none 0 0)).cells.1
  have HZ := Lib.hid (below_set HB4.out ⟨w.heap.size + 1 + 1, 0, none⟩ (by simp; omega) (.slice none 0 0))
  by_cases h0 : E = 0
  · subst h0
    have hcat := HCT.out rfl
    have HCAT := Lib.hid hcat
    have hix := (HCZ.out rfl).ix
    have hcr := HCR.out
    rw [if_neg (show ¬ ((0 : Int) ≠ 0) by simp)] at hcr
    have HCR2 := Lib.hid hcr
    have HFI := Lib.hid fun (W : World) (hb : Below w.heap.size w W) => find_any A c ls tb W (HR.out.below hb) hn
    have hff : findF ls tb = if isT ls tb = true then ((posT ls tb : Int), (0 : Int)) else (0, 93) := by unfold findF; rw [if_neg (by rw [catB_of hcat]; decide)]
    clear HCR hcr Z0 HZ HCT HCZ hcat
    rw [hff] at HFI
    clear hff
    cases hT : isT ls tb
    · have hcr := HCR2.out
      rw [if_pos hT] at hcr
      have HC3 := Lib.hid hcr
      rw [hT] at HFI
      clear hcr HCR2 hT
      go_upto_region 6 with (go_at_call 10; (with_reducible refine (HFI.out _ HB4.out).mono ?_); rintro e w5 ⟨rfl, hb⟩; have HR5 := Lib.hid (HR4.out.below hb); have HB5 := Lib.hid (thn HB4.out hb); clear hb)
      obtain ⟨r0, rf⟩ := HR5.out.cells
      have Z0 := Lib.hid (HR5.out.set (.slice none 0 0)).cells.1
      have HZ := Lib.hid (below_set HB5.out ⟨w.heap.size + 1 + 1, 0, none⟩ (by simp; omega) (.slice none 0 0))
      go_wp2
      exact bodyPost_ret (v := .tuple #[.agg #[.slice none 0 0], .int .i64 93]) (by simp [results, Try.results11, go_sem, Z0.out]) rfl (leaf_bad HC3.out (by decide) HZ.out)
    · obtain ⟨hp0, hx0⟩ := isT_get hT
      obtain ⟨t, ht⟩ : ∃ t, ls[posT ls tb]? = some t := ⟨_, List.getElem?_eq_getElem hp0⟩
      have hcr := HCR2.out
      rw [if_neg (by rw [hT]; decide), ht] at hcr
      dsimp only at hcr
      have HCR3 := Lib.hid hcr
      rw [hT, if_pos rfl] at HFI
      clear hcr HCR2 hT hx0 hp0
      generalize posT ls tb = P at HFI HCR3 ht
      have HP := Lib.hid ht
      have hp : P < ls.length := (List.getElem?_eq_some_iff.1 ht).1
      have HTB := Lib.hid (HCAT.out.may t (List.mem_of_getElem? ht))
      clear ht
      go_upto_region 7 with (go_at_call 10; (with_reducible refine (HFI.out _ HB4.out).mono ?_); rintro e w5 ⟨rfl, hb⟩; have HS5 := Lib.hid (HS4.out.below hb); have HR5 := Lib.hid (HR4.out.below hb); have HX5 := Lib.hid (row_below HX4.out hb); have HB5 := Lib.hid (thn HB4.out hb); clear hb)
      clear s0 sf r0 rf y0 y1 y2 y3 y4 y5 y6 y7 y8 y9 y10 y11 y12 y13 HS4 HR4 HX4 HB4 HFI
      obtain ⟨s0, sf⟩ := HS5.out.cells
      obtain ⟨y0, y1, y2, y3, y4, y5, y6, y7, y8, y9, y10, y11, y12, y13⟩ := Sy.cells14 HX5.out
      obtain ⟨ad, eA, hct⟩ := (HR.out.below HB5.out) (by intro e; rw [e] at hp; simp at hp)
      subst eA
      obtain ⟨cA, iA, cc, ic, k0, k1, k2, k3, hTd⟩ := hct P t HP.out
      have hPl : (P : Int) < (ls.length : Int) := by omega
      obtain ⟨fc, fi, fm, fcm, fim⟩ := few_of_may HTB.out
      have HCOL := Lib.hid fun (W : World) (hb : Below w5.heap.size w5 W) => column_any t.m cA iA cc t.idx.length ic t.key t.cols key W (hTd.c.below hb) (by omega)
      have s0r := cell_regrown s0
      have y3r := cell_regrown y3
      have k0r := cell_regrown k0
      have k1r := cell_regrown k1
      have k2r := cell_regrown k2
      have k3r := cell_regrown k3
      clear s0 sf y0 y1 y2 y3 y4 y5 y6 y7 y8 y9 y10 y11 y12 y13 k0 k1 k2 k3 hct hTd
      refine wp_region_quiet_below (by kernel_rfl) (by kernel_rfl) ?_
      repeat (go_big_quiet_step (with_reducible exact Calls.regrown_of (HCOL.out _ (below_regrown _ _ _))))
      refine wpQuiet_nil ?_
      intro w6 hw6
      obtain ⟨pp, rfl⟩ := hw6
      have hb6 := below_regrown w5 pp.d pp.os
      have HS6 := Lib.hid (HS5.out.below hb6)
      have HR6 := Lib.hid (HR5.out.below hb6)
      have HX6 := Lib.hid (row_below HX5.out hb6)
      have HB6 := Lib.hid (thn HB5.out hb6)
      clear hb6 s0r y3r k0r k1r k2r k3r HS5 HR5 HX5 HB5 HCOL
      generalize grow (redrawn w5 pp.d) pp.os = w6 at HS6 HR6 HX6 HB6 ⊢
      have hcf : colF t.cols key = if t.cols.any (isC key) = true then (fst1 (isC key) t.cols, 0) else (0, 94) := rfl
      generalize colF t.cols key = CF at hcf ⊢
      obtain ⟨s0, sf⟩ := HS6.out.cells
      obtain ⟨r0, rf⟩ := HR6.out.cells
      obtain ⟨y0, y1, y2, y3, y4, y5, y6, y7, y8, y9, y10, y11, y12, y13⟩ := Sy.cells14 HX6.out
      have Z0 := Lib.hid (HR6.out.set (.slice none 0 0)).cells.1
      have HZ := Lib.hid (below_set HB6.out ⟨w.heap.size + 1 + 1, 0, none⟩ (by simp; omega) (.slice none 0 0))
      by_cases hany : t.cols.any (isC key) = true
      · rw [if_pos hany] at hcf
        subst hcf
        have hcr := HCR3.out
        rw [if_neg (by rw [hany]; decide)] at hcr
        generalize fst1 (isC key) t.cols = F at hcr ⊢
        have hct := hasT_any (some ad) c ls ix (w.heap.size + 1) w6 (HR.out.below HB6.out) y4 hn
        generalize ls.any (hasX ix) = X at hcr hct
        have HCT := Lib.hid hct
        clear hany HCR3 hct Z0 HZ
        cases X
        · rw [if_neg (by decide)] at hcr
          have HCR4 := Lib.hid hcr
          clear hcr
          go_upto_region 12 with (go_at_call 27; (with_reducible refine HCT.out.mono ?_); rintro e w7 ⟨rfl, hb⟩; have HS7 := Lib.hid (HS6.out.below hb); have HR7 := Lib.hid (HR6.out.below hb); have HX7 := Lib.hid (row_below HX6.out hb); have HB7 := Lib.hid (thn HB6.out hb); clear hb)
          clear s0 sf r0 rf y0 y1 y2 y3 y4 y5 y6 y7 y8 y9 y10 y11 y12 y13 HS6 HR6 HX6 HB6 HCT
          obtain ⟨s0, sf⟩ := HS7.out.cells
          obtain ⟨r0, rf⟩ := HR7.out.cells
          obtain ⟨y0, y1, y2, y3, y4, y5, y6, y7, y8, y9, y10, y11, y12, y13⟩ := Sy.cells14 HX7.out
          obtain ⟨ad', e', hct⟩ := (HR.out.below HB7.out) (by intro e; rw [e] at hp; simp at hp)
          injection e' with e'
          subst e'
          obtain ⟨cA, iA, cc, ic, k0, k1, k2, k3, hTd⟩ := hct P t HP.out
          clear hct hTd
          by_cases hl4 : t.idx.length = 4
          · have hcr := HCR4.out
            rw [if_pos hl4] at hcr
            have HC3 := Lib.hid hcr
            have hl4' : (t.idx.length : Int) = 4 := by omega
            have Z0 := Lib.hid (HR7.out.set (.slice none 0 0)).cells.1
            have HZ := Lib.hid (below_set HB7.out ⟨w.heap.size + 1 + 1, 0, none⟩ (by simp; omega) (.slice none 0 0))
            clear hcr HCR4
            go_wp2
            exact bodyPost_ret (v := .tuple #[.agg #[.slice none 0 0], .int .i64 51]) (by simp [results, Try.results11, go_sem, Z0.out]) rfl (leaf_bad HC3.out (by decide) HZ.out)
          · have hcr := HCR4.out
            rw [if_neg hl4] at hcr
            have HC3 := Lib.hid hcr
            have hl4' : ¬ (t.idx.length : Int) = 4 := by omega
            clear hcr HCR4
            have HCA := Lib.hid fun (W : World) (hb : Below w.heap.size w W) => copyAll_any (some ad) c ls W (HR.out.below hb) (by have := HCAT.out.few; omega) HCAT.out.may
            go_upto_region 15 with (go_at_call 25; (with_reducible refine (HCA.out _ HB7.out).mono ?_); rintro e w8 ⟨v, xs, rfl, htb, hap, hxs, hb⟩; have HR8 := Lib.hid (HR7.out.below hb); have HX8 := Lib.hid (row_below HX7.out hb); have HB8 := Lib.hid (thn HB7.out hb); have HTB8 := Lib.hid (htb.le HB7.out.size); have HAP := Lib.hid hap; have HXS := Lib.hid hxs; obtain ⟨gT, capT, rfl⟩ := Go.Joins.ownsRow_form htb.own (by have := congrArg List.length hxs; rw [List.length_map] at this; omega); clear htb hap hxs hb)
            have h9 := below1 w8 (.cells #[.slice (some ⟨gT, 0, none⟩) xs.length capT] 35)
            have HN9 : Hid (Bx1 (w8.alloc (.cells #[.slice (some ⟨gT, 0, none⟩) xs.length capT] 35)) w8.heap.size (.slice (some ⟨gT, 0, none⟩) xs.length capT)) := Lib.hid (heap_alloc_new w8 _)
            have HR9 := Lib.hid (HR8.out.below h9)
            have HX9 := Lib.hid (row_below HX8.out h9)
            have HB9 := Lib.hid (thn HB8.out h9)
            have HTB9 := Lib.hid (HTB8.out.below h9)
            have hl8 := HR8.out.lt
            clear s0 sf r0 rf y0 y1 y2 y3 y4 y5 y6 y7 y8 y9 y10 y11 y12 y13 h9 HR8 HX8 HB8 HTB8 HS7 HR7 HX7 HB7 HCA
            have hl9 : w8.heap.size < (w8.alloc (.cells #[.slice (some ⟨gT, 0, none⟩) xs.length capT] 35)).heap.size := by simp
            generalize w8.alloc (.cells #[.slice (some ⟨gT, 0, none⟩) xs.length capT] 35) = w9 at *
            generalize w8.heap.size = nb at *
            have hxl : xs.length = ls.length := by rw [← HXS.out, List.length_map]
            have hPx : P < xs.length := by omega
            have hPi : (P : Int) < (xs.length : Int) := by omega
            have hyt : xs[P].t = t := by
              have h1 := HP.out
              rw [← HXS.out, List.getElem?_map, List.getElem?_eq_getElem hPx] at h1
              simpa using h1
            have hz3 : w9.cell? ⟨gT, P * 4 + 3, none⟩ = some (.slice xs[P].A' t.idx.length xs[P].c') := by
              have h1 := HTB9.out.own.cells (g := gT) rfl (P * 4 + 3) _ (flatK_get trC 4 trC_len xs P 3 _ (List.getElem?_eq_getElem hPx) (by omega))
              rw [add_lit, Nat.zero_add] at h1
              rw [← hyt]
              exact h1
            have hf3 := HTB9.out.own.frozenAt (P * 4 + 3)
            have HYO := Lib.hid (show OwnX w9 w.heap.size (.slice xs[P].A' t.idx.length xs[P].c') t.idx by rw [← hyt]; exact (HTB9.out.tabs _ (List.getElem_mem hPx)).x)
            have HANEW := Lib.hid fun (W W2 : World) (h : Tbs W w.heap.size (.slice (some ⟨gT, 0, none⟩) xs.length capT) xs) (A9 : Option Addr) (c9 : Nat) hg ho => Tbs.anew (w := W) (w2 := W2) (A := A9) (c := c9) (l := t.idx ++ [⟨ix, F⟩]) h HAP.out hPx hg ho
            have hxe : ixB1 xs[P] = (Value.slice xs[P].A' t.idx.length xs[P].c').ownBlock := by unfold ixB1; rw [hyt]
            have HXE := Lib.hid hxe
            have HMAP := Lib.hid (show ∀ (A9 : Option Addr) (c9 : Nat), (xs.set P ⟨⟨xs[P].t.m, xs[P].t.cols, xs[P].t.key, t.idx ++ [⟨ix, F⟩]⟩, xs[P].A, xs[P].c, A9, c9⟩).map Tr.t = ls.set P (addT t ix F) from fun A9 c9 => by rw [List.map_set, HXS.out]; simp only [hyt]; rfl)
            clear hxe
            clear hxl
            obtain ⟨n0, nf⟩ := HN9.out.cells
            obtain ⟨y0, y1, y2, y3, y4, y5, y6, y7, y8, y9, y10, y11, y12, y13⟩ := Sy.cells14 HX9.out
            go_upto_region 16 with fail
            obtain ⟨iX, hiX, hX0, hX1, hX2⟩ := info_parts Try.infoX
            have HCL := Lib.hid fun W => sClone_any ix W (by have := nameB_16 hix; omega)
            have hgn : gT ≠ nb := fun e => by
              subst e
              exact own_ne HTB9.out.own HN9.out (by decide) rfl
            have hgr : gT ≠ w.heap.size + 1 + 1 := fun e => by
              have h1 := HR9.out
              rw [← e] at h1
              exact own_ne HTB9.out.own h1 (by decide) rfl
            have hgB := (HTB9.out.own.lt gT rfl).1
            have hyt2 := hyt
            generalize hyy : xs[P] = y at hz3 HYO HANEW HXE HMAP hyt2
            go_region_law (first
              | (refine step_append_own rfl (.tmp 69) (.tmp 75) 45 rfl w.heap.size 81 iX (.agg #[.string ⟨#[]⟩, .int .i64 0]) 2 24 Try.underlying45 hiX hX0 hX1 hX2 rfl (by decide) (.slice y.A' t.idx.length y.c') t.idx.length (t.idx.flatMap ixC) rfl HYW.out ⟨v5.heap.size, 0, none⟩ 1 1 [.string ix, .int .i64 F] rfl rfl HNEWS.out (by simp [Value.oneCell']) (by unfold maxLen; omega) (by omega) HSZ.out ?_; intro v' w2 hown hg; have ho : OwnX w2 w.heap.size v' (t.idx ++ [⟨ix, F⟩]) := (by unfold OwnX; rw [List.length_append, List.flatMap_append]; exact hown); obtain ⟨A9, c9, rfl, _⟩ := ownX_form ho; have HA := Lib.hid (HANEW.out _ w2 HTBW.out A9 c9 (by rw [HXE.out]; exact hg) ho); have HN2 := Lib.hid (HNNW.out.grown hg (own_ne HYW.out HNNW.out (by decide))); have HR2 := Lib.hid (HRW.out.grown hg (own_ne HYW.out HRW.out (by decide))); have HB2 := Lib.hid (HBW.out.grown hg HBW.out.size (fun k hk => (HYW.out.lt k hk).1)); have zz := (cell_heap (o := P * 4 + 3) HA.out.2).trans z6; have zf := (frozen_heap (o := P * 4 + 3) HA.out.2).trans f6; clear hown hg ho)
              | (go_simp; go_at_call 30; (with_reducible refine (HCL.out _).mono ?_); rintro e v5 ⟨rfl, hb5⟩; have h5 := thn (Below.refl w9.heap.size w9).drew hb5; have h6 := below1 v5 (.cells #[.string ix, .int .i64 F] 81); have h56 := thn h5 h6; have HTBW := Lib.hid (HTB9.out.below h56); have HNNW := Lib.hid (HN9.out.below h56); have HRW := Lib.hid (HR9.out.below h56); have HBW := Lib.hid (thn HB9.out h56); have HYW := Lib.hid (own_below HYO.out h56); have HNEWS := Lib.hid (news_new0 v5 #[.string ix, .int .i64 F] 81 _ rfl); have HSZ := Lib.hid HBW.out.size; have z5 := (h5.cell (cell_lt hz3)).trans hz3; have z6 := (h56.cell (cell_lt hz3)).trans hz3; have f6 := (h56.frozen (p := ⟨gT, P * 4 + 3, none⟩) (cell_lt hz3)).trans hf3; clear hb5 h5 h6 h56))
            all_goals
              have h1 := HA.out.1
              rw [List.length_append, List.length_singleton] at h1
              have HTB3 := Lib.hid h1
              have HN3 := Lib.hid (HN2.out.other ⟨gT, P * 4 + 3, none⟩ (fun e => hgn e.symm) (.slice A9 (t.idx.length + 1) c9))
              have HR3 := Lib.hid (HR2.out.other ⟨gT, P * 4 + 3, none⟩ (fun e => hgr e.symm) (.slice A9 (t.idx.length + 1) c9))
              have HB3 := Lib.hid (below_set HB2.out ⟨gT, P * 4 + 3, none⟩ hgB (.slice A9 (t.idx.length + 1) c9))
              clear h1 HA HN2 HR2 HB2 zz zf z5 z6 f6 HTBW HNNW HRW HBW HYW HNEWS HSZ
              generalize w2.setCell ⟨gT, P * 4 + 3, none⟩ (.slice A9 (t.idx.length + 1) c9) = w3 at *
              obtain ⟨q0, qf⟩ := HN3.out.cells
              obtain ⟨r0, rf⟩ := HR3.out.cells
              have Z0 := Lib.hid (HR3.out.set (.slice (some ⟨gT, 0, none⟩) xs.length capT)).cells.1
              have HTB4 := Lib.hid (HTB3.out.kept (grown_setCell w3 (w.heap.size + 1 + 1) 0 (.slice (some ⟨gT, 0, none⟩) xs.length capT)) HR3.out (by decide) (by decide) (by decide))
              have HB4 := Lib.hid (below_set HB3.out ⟨w.heap.size + 1 + 1, 0, none⟩ (by simp; omega) (.slice (some ⟨gT, 0, none⟩) xs.length capT))
              clear n0 nf y0 y1 y2 y3 y4 y5 y6 y7 y8 y9 y10 y11 y12 y13 hz3 hf3
              go_wp2
              refine bodyPost_ret (v := .tuple #[.agg #[.slice (some ⟨gT, 0, none⟩) xs.length capT], .int .i64 0]) (by simp [results, Try.results11, go_sem, Z0.out]) rfl ⟨fun hne => absurd (by rw [HC3.out]) hne, fun _ => ⟨_, _, rfl, HTB4.out, ?_⟩, HB4.out⟩
              rw [HC3.out]
              exact HMAP.out _ _
        · rw [if_pos rfl] at hcr
          have HC3 := Lib.hid hcr
          clear hcr
          go_upto_region 11 with (go_at_call 27; (with_reducible refine HCT.out.mono ?_); rintro e w7 ⟨rfl, hb⟩; have HR7 := Lib.hid (HR6.out.below hb); have HB7 := Lib.hid (thn HB6.out hb); clear hb)
          clear r0 rf
          obtain ⟨r0, rf⟩ := HR7.out.cells
          have Z0 := Lib.hid (HR7.out.set (.slice none 0 0)).cells.1
          have HZ := Lib.hid (below_set HB7.out ⟨w.heap.size + 1 + 1, 0, none⟩ (by simp; omega) (.slice none 0 0))
          go_wp2
          exact bodyPost_ret (v := .tuple #[.agg #[.slice none 0 0], .int .i64 6]) (by simp [results, Try.results11, go_sem, Z0.out]) rfl (leaf_bad HC3.out (by decide) HZ.out)
      · rw [if_neg hany] at hcf
        subst hcf
        have hcr := HCR3.out
        rw [if_pos (by simpa using hany)] at hcr
        have HC3 := Lib.hid hcr
        clear hcr HCR3 hany
        go_wp2
        exact bodyPost_ret (v := .tuple #[.agg #[.slice none 0 0], .int .i64 94]) (by simp [results, Try.results11, go_sem, Z0.out]) rfl (leaf_bad HC3.out (by decide) HZ.out)
  · have hcr := HCR.out
    rw [if_pos h0] at hcr
    have HC3 := Lib.hid hcr
    clear HCR hcr
    go_wp2
    exact bodyPost_ret (v := .tuple #[.agg #[.slice none 0 0], .int .i64 E]) (by simp [results, Try.results11, go_sem, Z0.out]) rfl (leaf_bad HC3.out h0 HZ.out)
end Go.Proofs.Ytfmjpikibfdlaaa
