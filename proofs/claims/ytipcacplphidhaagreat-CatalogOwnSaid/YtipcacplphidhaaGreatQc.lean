/- The statements' own example: alive: the walk. Conditions: none. -/
import Derived.Test.YtipcacplphidhaaGreatQb
/- What Create makes of a catalog: the walk. Conditions: a statement and tables that are read in memory; what slices.Insert makes of that many tables. -/
namespace Go.Proofs.YtipcacplphidhaaGreat
open Go.RowKit Go.Sort Go.Maps
set_option linter.unusedSimpArgs false
set_option linter.unusedVariables false

theorem few_asked {n : Nat} {x : Sy.St n} (h : Mk1 x) : (x.cols.map clOf).length ≤ 8 ∧ ∀ c ∈ x.cols.map clOf, c.m.size ≤ 16 := by
  refine ⟨by rw [List.length_map]; exact h.few, fun c hc => ?_⟩
  obtain ⟨y, hy, rfl⟩ := List.mem_map.1 hc
  exact nameB_16 (h.cols y hy).1

theorem row_grown {w w' : World} {b : Nat} {o : Obj} {r : Option Nat} (h : w.heap[b]? = some o) (hg : w.grownBy w' r) (hr : r ≠ some b) : w'.heap[b]? = some o := by
  rw [hg.block b (Array.getElem?_eq_some_iff.1 h).1 (fun e => hr e.symm)]; exact h
theorem Bx4.set2 {w : World} {b : Nat} {a0 a1 a2 a3 : Value} (h : Bx4 w b a0 a1 a2 a3) (v : Value) : Bx4 (w.setCell ⟨b, 2, none⟩ v) b a0 a1 v a3 := by
  unfold Bx4
  rw [heap_setCell_same w b 2 _ _ v h]; rfl
theorem colC_set : ∀ (l : List Cl) (i : Nat) (hi : i < l.length), (l.flatMap colC).set (i * 3 + 2) (.bool true) = (l.set i ⟨l[i].m, l[i].k, true⟩).flatMap colC
  | a :: l, 0, _ => by simp [colC]
  | a :: l, i + 1, hi => by
    have ih := colC_set l i (by simpa using hi)
    simp only [List.flatMap_cons, List.set_cons_succ, List.getElem_cons_succ]
    rw [← ih]
    have e : (i + 1) * 3 + 2 = (i * 3 + 2) + 3 := by omega
    rw [e]
    simp [colC]
theorem leaf_bad {w W : World} {R : Int × List Tb} {E : Int} (hR : R = (E, [])) (hE : E ≠ 0) (hB : Below w.heap.size w W) : ChgPost w R (.returned (.tuple #[.agg #[.slice none 0 0], .int .i64 E])) W := by
  subst hR
  exact ⟨fun _ => rfl, fun h => absurd h hE, hB⟩
/-- InsOk, where it is needed. -/
def InsOk8 (n : Nat) : Prop := n ≤ 8 → InsOk n
set_option maxRecDepth 100000 in
set_option maxHeartbeats 16000000 in
theorem create_any {n : Nat} (A : Option Addr) (c : Nat) (ls : List Tb) (x : Sy.St n) (h : Sy.Hs) (w : World) (hr : RdS w A ls) (hn : ls.length ≤ 9223372036854775807) (hx : Sy.RdSt Sy.Any w x h) (hI : InsOk8 ls.length) :
    Calls Tryz.prog 7 #[.agg #[.slice A ls.length c], x.val h] w (ChgPost w (creF ls x)) := by
  have hb1 := below1 w (.cells #[.slice A ls.length c] 35)
  have hb2 := below1 (w.alloc (.cells #[.slice A ls.length c] 35)) (.cells (x.cs h) 31)
  have hb3 := below1 ((w.alloc (.cells #[.slice A ls.length c] 35)).alloc (.cells (x.cs h) 31)) (.cells #[.slice none 0 0] 35)
  have h1 : Bx1 (((w.alloc (.cells #[.slice A ls.length c] 35)).alloc (.cells (x.cs h) 31)).alloc (.cells #[.slice none 0 0] 35)) w.heap.size (.slice A ls.length c) := (Bx1.below (heap_alloc_new w _) hb2).below hb3
  have h2 : (((w.alloc (.cells #[.slice A ls.length c] 35)).alloc (.cells (x.cs h) 31)).alloc (.cells #[.slice none 0 0] 35)).heap[w.heap.size + 1]? = some (.cells (x.cs h) 31 (0, 0)) := stmt_row x h (w.alloc (.cells #[.slice A ls.length c] 35)) (by simp) hb3
  have h3 : Bx1 (((w.alloc (.cells #[.slice A ls.length c] 35)).alloc (.cells (x.cs h) 31)).alloc (.cells #[.slice none 0 0] 35)) (w.heap.size + 1 + 1) (.slice none 0 0) := by
    have := heap_alloc_new ((w.alloc (.cells #[.slice A ls.length c] 35)).alloc (.cells (x.cs h) 31)) (.cells #[.slice none 0 0] 35)
    rwa [World.size_alloc, World.size_alloc] at this
  have HB3 := Lib.hid (thn (thn hb1 hb2) hb3)
  have HS3 := Lib.hid h1
  have HR3 := Lib.hid h3
  have HX3 := Lib.hid h2
  have HR := Lib.hid hr
  have HASK := Lib.hid fun (W : World) (hb : Below w.heap.size w W) => asked_any A c ls x h 1 W (hr.below hb) hn (hx.below hb)
  have HXC := Lib.hid (rdC_of hx.C)
  have HXH := Lib.hid hx.C.hdr
  have HCZ := Lib.hid (fun h0 => mk1_of (x := x) (askF_zero (ls := ls) (kind := 1) h0).2.1 (askF_zero h0).2.2)
  have HCT := Lib.hid (fun h0 => cat_of (askF_zero (ls := ls) (x := x) (kind := 1) h0).1)
  have hcr : creF ls x = if askF ls x 1 ≠ 0 then (askF ls x 1, []) else if isT ls x.tb = true then (6, []) else if newB [] ((x.cols.map clOf).map Cl.m) = false then (6, []) else if (x.cols.map clOf).any (isC x.key) = false then (94, []) else if ls.length = 8 then (51, []) else (0, insT ls (posT ls x.tb) (mkT x)) := rfl
  have hmk : mkT x = ⟨x.tb, keyed (x.cols.map clOf) (fst1 (isC x.key) (x.cols.map clOf)).toNat, fst1 (isC x.key) (x.cols.map clOf), []⟩ := rfl
  rw [hmk] at hcr
  generalize askF ls x 1 = E at HASK HCZ HCT hcr
  generalize creF ls x = R at hcr ⊢
  clear hr hx hb1 hb2 hb3 h1 h2 h3 hmk
  have hml : x.cols.length = (x.cols.map clOf).length := by rw [List.length_map]
  have HFW := Lib.hid (fun h0 => few_asked (HCZ.out h0))
  have HNM := Lib.hid (fun h0 => (HCZ.out h0).tb)
  clear HCZ
  obtain ⟨kd, tb, cols0, key, ix, rows, sets, items, jn, on, wh, gr, ord, lim⟩ := x
  obtain ⟨⟨aC, cC⟩, ⟨aR, cR⟩, ⟨aS, cS⟩, ⟨aI, cI⟩, ⟨aO, cO⟩, ⟨aW, cW⟩, ⟨aG, cG⟩, ⟨aD, cD⟩⟩ := h
  dsimp only [Sy.St.cs, Sy.St.val] at *
  rw [hml] at *
  generalize cols0.map clOf = cols at *
  clear hml
  have HCR := Lib.hid hcr
  clear hcr
  go_enter Tryz.func7, Tryz.ntmps7
  go_upto_region 1 with fail
  generalize ((w.alloc (.cells #[.slice A ls.length c] 35)).alloc (.cells #[.int .i64 kd, .string tb, .slice aC cols.length cC, .string key, .string ix, .slice aR rows.length cR, .slice aS sets.length cS, .slice aI items.length cI, .string jn, .slice aO on.length cO, .slice aW wh.length cW, .slice aG gr.length cG, .slice aD ord.length cD, .int .i64 lim] 31)).alloc (.cells #[.slice none 0 0] 35) = w3 at HB3 HS3 HR3 HX3 ⊢
  obtain ⟨s0, _⟩ := HS3.out.cells
  obtain ⟨y0, y1, y2, y3, y4, y5, y6, y7, y8, y9, y10, y11, y12, y13⟩ := Sy.cells14 HX3.out
  go_upto_region 2 with (go_at_call 15; (with_reducible refine (HASK.out _ HB3.out).mono ?_); rintro e w4 ⟨rfl, hb⟩; have HS4 := Lib.hid (HS3.out.below hb); have HR4 := Lib.hid (HR3.out.below hb); have HX4 := Lib.hid (row_below HX3.out hb); have HB4 := Lib.hid (thn HB3.out hb); clear hb)
  clear s0 y0 y1 y2 y3 y4 y5 y6 y7 y8 y9 y10 y11 y12 y13 HS3 HR3 HX3 HB3 HASK
  obtain ⟨s0, sf⟩ := HS4.out.cells
  obtain ⟨r0, rf⟩ := HR4.out.cells
  obtain ⟨y0, y1, y2, y3, y4, y5, y6, y7, y8, y9, y10, y11, y12, y13⟩ := Sy.cells14 HX4.out
  by_cases h0 : E = 0
  · subst h0
    obtain ⟨h8, h16⟩ := HFW.out rfl
    have H16 := Lib.hid h16
    have hnm := HNM.out rfl
    have hcat := HCT.out rfl
    have HCAT := Lib.hid hcat
    have HPL := Lib.hid fun (W : World) (hb : Below w.heap.size w W) => placeOf_any A c ls tb W (HR.out.below hb) hcat.few hcat.srt
    clear hcat h16 HFW HNM HCT
    have hcr := HCR.out
    rw [if_neg (show ¬ ((0 : Int) ≠ 0) by simp)] at hcr
    have HCR2 := Lib.hid hcr
    clear HCR hcr
    generalize isT ls tb = T at HPL HCR2
    have hple := posT_le ls tb
    generalize posT ls tb = P at HPL HCR2 hple
    go_upto_region 5 with (go_at_call 16; (with_reducible refine (HPL.out _ HB4.out).mono ?_); rintro e w5 ⟨rfl, hb⟩; have HS5 := Lib.hid (HS4.out.below hb); have HR5 := Lib.hid (HR4.out.below hb); have HX5 := Lib.hid (row_below HX4.out hb); have HB5 := Lib.hid (thn HB4.out hb); clear hb)
    clear s0 sf r0 rf y0 y1 y2 y3 y4 y5 y6 y7 y8 y9 y10 y11 y12 y13 HS4 HR4 HX4 HB4 HPL
    obtain ⟨s0, sf⟩ := HS5.out.cells
    obtain ⟨r0, rf⟩ := HR5.out.cells
    obtain ⟨y0, y1, y2, y3, y4, y5, y6, y7, y8, y9, y10, y11, y12, y13⟩ := Sy.cells14 HX5.out
    have z0 := (HR5.out.set (.slice none 0 0)).cells.1
    have hz := below_set HB5.out ⟨w.heap.size + 1 + 1, 0, none⟩ (by simp; omega) (.slice none 0 0)
    cases T
    · clear z0 hz
      have hcr := HCR2.out
      rw [if_neg (by decide)] at hcr
      have HCR3 := Lib.hid hcr
      clear hcr HCR2
      have hmm := @run_makeMap Tryz.prog
      have hsm : IsSet (w5.alloc (.map #[] 0)) w5.heap.size 0 (setOf (.agg []) (keys [])) := World.ownsMap_made w5 Tryz.prog 9 (unitElem (H := Unit))
      have hbm := below1 w5 (.map #[] 0)
      have hnc := newC_any aC cols.length cC w5.heap.size cols (w5.alloc (.map #[] 0)) rfl (HXC.out.below (thn HB5.out hbm)) h8 H16.out hsm
      generalize newB [] (cols.map Cl.m) = N at hnc HCR3
      have HNC := Lib.hid hnc
      have HSm := Lib.hid (HS5.out.below hbm)
      have HRm := Lib.hid (HR5.out.below hbm)
      have HXm := Lib.hid (row_below HX5.out hbm)
      have HBm := Lib.hid (thn HB5.out hbm)
      have hl5 := HR5.out.lt
      clear hnc hsm hbm HS5 HR5 HX5 HB5
      cases N
      · have hcr := HCR3.out
        rw [if_pos rfl] at hcr
        have HC3 := Lib.hid hcr
        clear hcr HCR3
        go_upto_region 6 with (go_at_call 17; (with_reducible refine HNC.out.mono ?_); rintro e w6 ⟨rfl, _, hg⟩; have HR6 := Lib.hid (HRm.out.grown hg (by intro e; injection e with e; omega)); have HB6 := Lib.hid (HBm.out.grown hg (by have := HBm.out.size; simp at this ⊢; omega) (fun k hk => by injection hk with hk; omega)); clear hg)
        obtain ⟨r0, rf⟩ := HR6.out.cells
        have Z0 := Lib.hid (HR6.out.set (.slice none 0 0)).cells.1
        have HZ := Lib.hid (below_set HB6.out ⟨w.heap.size + 1 + 1, 0, none⟩ (by simp; omega) (.slice none 0 0))
        go_wp2
        exact bodyPost_ret (v := .tuple #[.agg #[.slice none 0 0], .int .i64 6]) (by simp [results, Tryz.results7, go_sem, Z0.out]) rfl (leaf_bad HC3.out (by decide) HZ.out)
      · have hcr := HCR3.out
        rw [if_neg (by decide)] at hcr
        have HCR4 := Lib.hid hcr
        clear hcr HCR3
        go_upto_region 7 with (go_at_call 17; (with_reducible refine HNC.out.mono ?_); rintro e w6 ⟨rfl, _, hg⟩; have HS6 := Lib.hid (HSm.out.grown hg (by intro e; injection e with e; omega)); have HR6 := Lib.hid (HRm.out.grown hg (by intro e; injection e with e; omega)); have HX6 := Lib.hid (row_grown HXm.out hg (by intro e; injection e with e; omega)); have HB6 := Lib.hid (HBm.out.grown hg (by have := HBm.out.size; simp at this ⊢; omega) (fun k hk => by injection hk with hk; omega)); clear hg)
        clear s0 sf r0 rf y0 y1 y2 y3 y4 y5 y6 y7 y8 y9 y10 y11 y12 y13 HNC HSm HRm HXm HBm hmm
        obtain ⟨y0, y1, y2, y3, y4, y5, y6, y7, y8, y9, y10, y11, y12, y13⟩ := Sy.cells14 HX6.out
        have hcp : ∀ W, Below w.heap.size w W → Calls Tryz.prog 19 #[tbl tb aC cols.length cC 0 none 0 0] W fun e w' => ∃ cA' cc' iA' ic', e = .returned (tbl tb cA' cols.length cc' 0 iA' 0 ic') ∧ OwnC w' W.heap.size (.slice cA' cols.length cc') cols ∧ OwnX w' W.heap.size (.slice iA' 0 ic') [] ∧ Below W.heap.size W w' := fun W hb => copyOf_any tb aC none cC 0 0 cols [] W (HXC.out.below hb) (fun e => absurd rfl e) (fun e => (HXH.out.1 e).1) (fun _ => rfl) (by omega) (by simp) (by have := nameB_16 hnm; omega) (fun x hx => by have := H16.out x hx; omega) (fun x hx => by simp at hx)
        have HCP := Lib.hid hcp
        clear hcp
        go_upto_region 8 with (go_at_call 19; (with_reducible refine (HCP.out _ HB6.out).mono ?_); rintro e w7 ⟨A7, c7, A8, c8, rfl, hc, hx, hb⟩; have HC7 := Lib.hid hc; have HX7 := Lib.hid hx; have HS7 := Lib.hid (HS6.out.below hb); have HR7 := Lib.hid (HR6.out.below hb); have HST7 := Lib.hid (row_below HX6.out hb); have HB7 := Lib.hid (thn HB6.out hb); have hz7 := hb.size; clear hc hx hb)
        have h8b := below1 w7 (.cells #[.string tb, .slice A7 cols.length c7, .int .i64 0, .slice A8 0 c8] 46)
        have HT8 : Hid (Bx4 (w7.alloc (.cells #[.string tb, .slice A7 cols.length c7, .int .i64 0, .slice A8 0 c8] 46)) w7.heap.size (.string tb) (.slice A7 cols.length c7) (.int .i64 0) (.slice A8 0 c8)) := Lib.hid (heap_alloc_new w7 _)
        have HS8 := Lib.hid (HS7.out.below h8b)
        have HR8 := Lib.hid (HR7.out.below h8b)
        have HST8 := Lib.hid (row_below HST7.out h8b)
        have HB8 := Lib.hid (thn HB7.out h8b)
        have HC8 := Lib.hid (own_below HC7.out h8b)
        have HX8 := Lib.hid (own_below HX7.out h8b)
        have h67 := hz7
        have hl6 := HR6.out.lt
        clear h8b y0 y1 y2 y3 y4 y5 y6 y7 y8 y9 y10 y11 y12 y13 HS7 HR7 HST7 HB7 HC7 HX7 HCP HS6 HR6 HX6 HB6 hz7
        have hl7 : w7.heap.size < (w7.alloc (.cells #[.string tb, .slice A7 cols.length c7, .int .i64 0, .slice A8 0 c8] 46)).heap.size := by simp
        generalize w7.alloc (.cells #[.string tb, .slice A7 cols.length c7, .int .i64 0, .slice A8 0 c8] 46) = w8 at *
        generalize w7.heap.size = tq at *
        obtain ⟨y0, y1, y2, y3, y4, y5, y6, y7, y8, y9, y10, y11, y12, y13⟩ := Sy.cells14 HST8.out
        obtain ⟨b0, b1, b2, b3, f0, f1, f2, f3⟩ := cells4 HT8.out
        obtain ⟨_, _, e9, hrc⟩ := own_cols HC8.out
        injection e9 with e91 _ e92
        subst e91 e92
        have hcol := column_any tb A7 A8 c7 0 c8 0 cols key w8 hrc (by omega)
        have hcf : colF cols key = if cols.any (isC key) = true then (fst1 (isC key) cols, 0) else (0, 94) := rfl
        generalize colF cols key = CF at hcol hcf
        by_cases hany : cols.any (isC key) = true
        · rw [if_pos hany] at hcf
          subst hcf
          obtain ⟨i, hi, hz, _, _⟩ := fst1_get hany
          have hcr := HCR4.out
          rw [if_neg (by rw [hany]; decide), hz] at hcr
          rw [hz] at hcol
          have HCOL := Lib.hid hcol
          have HCR5 := Lib.hid hcr
          clear hcol hcr HCR4 hz hany hrc
          go_upto_region 11 with (go_at_call 20; (with_reducible refine HCOL.out.mono ?_); rintro e w9 ⟨rfl, hb⟩; have HT9 := Lib.hid (HT8.out.below hb); have HC9 := Lib.hid (own_below HC8.out hb); have HX9 := Lib.hid (own_below HX8.out hb); have HS9 := Lib.hid (HS8.out.below hb); have HR9 := Lib.hid (HR8.out.below hb); have HB9 := Lib.hid (thn HB8.out hb); have hz9 := hb.size; clear hb)
          clear y0 y1 y2 y3 y4 y5 y6 y7 y8 y9 y10 y11 y12 y13 b0 b1 b2 b3 f0 f1 f2 f3 HCOL HT8 HC8 HX8 HS8 HR8 HB8 HST8
          obtain ⟨s0, sf⟩ := HS9.out.cells
          obtain ⟨r0, rf⟩ := HR9.out.cells
          by_cases hl8 : ls.length = 8
          · have hcr := HCR5.out
            rw [if_pos hl8] at hcr
            have HC3 := Lib.hid hcr
            have hl8' : (ls.length : Int) = 8 := by omega
            have Z0 := Lib.hid (HR9.out.set (.slice none 0 0)).cells.1
            have HZ := Lib.hid (below_set HB9.out ⟨w.heap.size + 1 + 1, 0, none⟩ (by simp; omega) (.slice none 0 0))
            clear hcr HCR5
            go_wp2
            exact bodyPost_ret (v := .tuple #[.agg #[.slice none 0 0], .int .i64 51]) (by simp [results, Tryz.results7, go_sem, Z0.out]) rfl (leaf_bad HC3.out (by decide) HZ.out)
          · have hcr := HCR5.out
            rw [if_neg hl8] at hcr
            have HC3 := Lib.hid hcr
            have hl8' : ¬ (ls.length : Int) = 8 := by omega
            clear hcr HCR5
            obtain ⟨g, cap, ef⟩ := Go.Joins.ownsRow_form HC9.out (by omega)
            injection ef with ef1 _ ef2
            subst ef1 ef2
            obtain ⟨d0, d1, d2, _⟩ := OwnC.at_ HC9.out hi
            have df := HC9.out.frozenAt (i * 3 + 2)
            have hgB := (HC9.out.lt g rfl).1
            have hgt : g ≠ tq := fun e => by
              subst e
              obtain ⟨cs, fr, h9⟩ := own_type HC9.out g rfl
              have h9' := HT9.out
              unfold Bx4 at h9'
              rw [h9] at h9'
              injection h9' with h9'
              injection h9' with _ h9' _
              exact absurd h9' (by decide)
            have hgt2 : tq ≠ g := fun e => hgt e.symm
            obtain ⟨b0, b1, b2, b3, f0, f1, f2, f3⟩ := cells4 HT9.out
            have hii : (i : Int) < (cols.length : Int) := by omega
            go_upto_region 14 with fail
            have hT10 := (HT9.out.set2 (.int .i64 (i : Int))).other ⟨g, i * 3 + 2, none⟩ hgt2 (.bool true)
            have hS10 := (HS9.out.other ⟨tq, 2, none⟩ (by simp; omega) (.int .i64 (i : Int))).other ⟨g, i * 3 + 2, none⟩ (by simp; omega) (.bool true)
            have hR10 := (HR9.out.other ⟨tq, 2, none⟩ (by simp; omega) (.int .i64 (i : Int))).other ⟨g, i * 3 + 2, none⟩ (by simp; omega) (.bool true)
            have hB10 := below_set (below_set HB9.out ⟨tq, 2, none⟩ (by simp; omega) (.int .i64 (i : Int))) ⟨g, i * 3 + 2, none⟩ (by simp; omega) (.bool true)
            have hC10 : OwnC ((w9.setCell ⟨tq, 2, none⟩ (.int .i64 (i : Int))).setCell ⟨g, i * 3 + 2, none⟩ (.bool true)) w6.heap.size (.slice (some ⟨g, 0, none⟩) cols.length c7) (keyed cols i) := by
              have h1 := ownC_set (o := 2) HC9.out HT9.out (by decide) (.int .i64 (i : Int))
              have h2 := (World.ownsRow.stored h1 (i * 3 + 2) (.bool true)).1
              rw [colC_set cols i hi, ← keyed_some hi] at h2
              unfold OwnC
              rw [keyed_len]
              exact h2
            have hX10 : OwnX ((w9.setCell ⟨tq, 2, none⟩ (.int .i64 (i : Int))).setCell ⟨g, i * 3 + 2, none⟩ (.bool true)) w6.heap.size (.slice A8 0 c8) [] := by
              have h1 := ownX_set (o := 2) (l := []) HX9.out HT9.out (by decide) (.int .i64 (i : Int))
              have h2 := ownC_set (o := 2) HC9.out HT9.out (by decide) (.int .i64 (i : Int))
              obtain ⟨cs, fr, h3⟩ := own_type h2 g rfl
              exact ownX_kept h1 (grown_setCell _ g (i * 3 + 2) (.bool true)) (fun k hk => by
                injection hk with hk
                subst hk
                exact ⟨cs, _, fr, h3, by decide⟩)
            clear b0 b1 b2 b3 f0 f1 f2 f3 d0 d1 d2 df s0 sf r0 rf HT9 HS9 HR9 HB9 HC9 HX9
            generalize (w9.setCell ⟨tq, 2, none⟩ (.int .i64 (i : Int))).setCell ⟨g, i * 3 + 2, none⟩ (.bool true) = w10 at hT10 hS10 hR10 hB10 hC10 hX10 ⊢
            have HT10 := Lib.hid hT10
            have HS10 := Lib.hid hS10
            have HR10 := Lib.hid hR10
            have HB10 := Lib.hid hB10
            have HC10 := Lib.hid hC10
            have HX10 := Lib.hid hX10
            obtain ⟨s0, sf⟩ := hS10.cells
            clear hT10 hS10 hR10 hB10 hC10 hX10
            have HCA := Lib.hid fun (W : World) (hb : Below w.heap.size w W) => copyAll_any A c ls W (HR.out.below hb) (by have := HCAT.out.few; omega) HCAT.out.may
            go_upto_region 15 with (go_at_call 21; (with_reducible refine (HCA.out _ HB10.out).mono ?_); rintro e w11 ⟨v, xs, rfl, htb, _, hxs, hb⟩; obtain ⟨A11, n11, c11, rfl⟩ := form_of htb.own; have HT11 := Lib.hid (HT10.out.below hb); have HR11 := Lib.hid (HR10.out.below hb); have HC11 := Lib.hid (own_below HC10.out hb); have HX11 := Lib.hid (own_below HX10.out hb); have HB11 := Lib.hid (thn HB10.out hb); have HTB11 := Lib.hid (htb.le HB10.out.size); have HXS := Lib.hid hxs; clear htb hxs hb)
            have h12 := below1 w11 (.cells #[.slice A11 n11 c11] 35)
            have HN12 : Hid (Bx1 (w11.alloc (.cells #[.slice A11 n11 c11] 35)) w11.heap.size (.slice A11 n11 c11)) := Lib.hid (heap_alloc_new w11 _)
            have HT12 := Lib.hid (HT11.out.below h12)
            have HR12 := Lib.hid (HR11.out.below h12)
            have HC12 := Lib.hid (own_below HC11.out h12)
            have HX12 := Lib.hid (own_below HX11.out h12)
            have HB12 := Lib.hid (thn HB11.out h12)
            have HTB12 := Lib.hid (HTB11.out.below h12)
            have hl11 := HR11.out.lt
            clear s0 sf h12 HT11 HR11 HC11 HX11 HB11 HTB11 HT10 HS10 HR10 HB10 HC10 HX10
            generalize w11.alloc (.cells #[.slice A11 n11 c11] 35) = w12 at *
            generalize w11.heap.size = nb at *
            obtain ⟨n0, nf⟩ := HN12.out.cells
            obtain ⟨b0, b1, b2, b3, f0, f1, f2, f3⟩ := cells4 HT12.out
            have h13 := below1 w12 (.cells #[.string tb, .slice (some ⟨g, 0, none⟩) cols.length c7, .int .i64 (i : Int), .slice A8 0 c8] 46)
            have hxl : xs.length = ls.length := by rw [← HXS.out, List.length_map]
            have hy : (w12.alloc (.cells #[.string tb, .slice (some ⟨g, 0, none⟩) cols.length c7, .int .i64 (i : Int), .slice A8 0 c8] 46)).heap[w12.heap.size]? = some (.cells (trC ⟨⟨tb, keyed cols i, (i : Int), []⟩, some ⟨g, 0, none⟩, c7, A8, c8⟩).toArray 46 (0, 0)) := by
              unfold trC
              rw [keyed_len]
              exact heap_alloc_new w12 _
            have HINS := Lib.hid (hI HCAT.out.few _ w.heap.size P (.slice A11 n11 c11) xs ⟨⟨tb, keyed cols i, (i : Int), []⟩, some ⟨g, 0, none⟩, c7, A8, c8⟩ w12.heap.size hxl hple (HTB12.out.below h13) (TrO.below ⟨by rw [keyed_len]; exact own_le HC12.out (by omega), own_le HX12.out (by omega)⟩ h13) (by have := HB12.out.size; simp; omega) hy (fun e => by have := (HTB12.out.own.lt _ e).2; omega))
            have HN13 := Lib.hid (HN12.out.below h13)
            have HR13 := Lib.hid (HR12.out.below h13)
            have HB13 := Lib.hid (thn HB12.out h13)
            have HTB13 := Lib.hid (HTB12.out.below h13)
            clear h13 hy HTB12 HN12 HR12 HB12 HT12 HC12 HX12
            go_upto_region 16 with (go_at_call 22; (with_reducible refine HINS.out.mono ?_); rintro e w14 ⟨v14, rfl, htb, hg⟩; obtain ⟨A14, n14, c14, rfl⟩ := form_of htb.own; have HN14 := Lib.hid (HN13.out.grown hg (own_ne HTB13.out.own HN13.out (by decide))); have HR14 := Lib.hid (HR13.out.grown hg (own_ne HTB13.out.own HR13.out (by decide))); have HB14 := Lib.hid (HB13.out.grown hg HB13.out.size (fun k hk => (HTB13.out.own.lt k hk).1)); have HTB14 := Lib.hid htb; obtain ⟨z0, zf⟩ := HN14.out.cells; clear htb hg)
            have hnr : w.heap.size + 1 + 1 ≠ nb := by omega
            have HN15 := Lib.hid (HN14.out.set (.slice A14 n14 c14))
            have HR15 := Lib.hid (HR14.out.other ⟨nb, 0, none⟩ hnr (.slice A14 n14 c14))
            have HB15 := Lib.hid (below_set HB14.out ⟨nb, 0, none⟩ (by simp; omega) (.slice A14 n14 c14))
            have HTB15 := Lib.hid (HTB14.out.kept (grown_setCell w14 nb 0 (.slice A14 n14 c14)) HN14.out (by decide) (by decide) (by decide))
            clear z0 zf HN14 HR14 HB14 HTB14 HN13 HR13 HB13 HTB13 HINS
            generalize w14.setCell ⟨nb, 0, none⟩ (.slice A14 n14 c14) = w15 at *
            obtain ⟨z0, zf⟩ := HN15.out.cells
            obtain ⟨r0, rf⟩ := HR15.out.cells
            have Z0 := Lib.hid (HR15.out.set (.slice A14 n14 c14)).cells.1
            have HTB16 := Lib.hid (HTB15.out.kept (grown_setCell w15 (w.heap.size + 1 + 1) 0 (.slice A14 n14 c14)) HR15.out (by decide) (by decide) (by decide))
            have HB16 := Lib.hid (below_set HB15.out ⟨w.heap.size + 1 + 1, 0, none⟩ (by simp; omega) (.slice A14 n14 c14))
            clear n0 nf b0 b1 b2 b3 f0 f1 f2 f3
            go_wp2
            refine bodyPost_ret (v := .tuple #[.agg #[.slice A14 n14 c14], .int .i64 0]) (by simp [results, Tryz.results7, go_sem, Z0.out]) rfl ⟨fun hne => absurd (by rw [HC3.out]) hne, fun _ => ⟨_, _, rfl, HTB16.out, ?_⟩, HB16.out⟩
            rw [HC3.out, List.map_append, List.map_cons, List.map_take, List.map_drop, HXS.out]
            rfl
        · rw [if_neg hany] at hcf
          subst hcf
          have hcr := HCR4.out
          rw [if_pos (by simpa using hany)] at hcr
          have HC3 := Lib.hid hcr
          have HCOL := Lib.hid hcol
          clear hcr HCR4 hcol hany
          go_upto_region 9 with (go_at_call 20; (with_reducible refine HCOL.out.mono ?_); rintro e w9 ⟨rfl, hb⟩; have HR9 := Lib.hid (HR8.out.below hb); have HB9 := Lib.hid (thn HB8.out hb); clear hb)
          obtain ⟨r0, rf⟩ := HR9.out.cells
          have Z0 := Lib.hid (HR9.out.set (.slice none 0 0)).cells.1
          have HZ := Lib.hid (below_set HB9.out ⟨w.heap.size + 1 + 1, 0, none⟩ (by simp; omega) (.slice none 0 0))
          go_wp2
          exact bodyPost_ret (v := .tuple #[.agg #[.slice none 0 0], .int .i64 94]) (by simp [results, Tryz.results7, go_sem, Z0.out]) rfl (leaf_bad HC3.out (by decide) HZ.out)
    · have HZ := Lib.hid hz
      have hcr := HCR2.out
      rw [if_pos rfl] at hcr
      have HC3 := Lib.hid hcr
      have Z0 := Lib.hid z0
      clear hz HCR2 hcr z0
      go_wp2
      exact bodyPost_ret (v := .tuple #[.agg #[.slice none 0 0], .int .i64 6]) (by simp [results, Tryz.results7, go_sem, Z0.out]) rfl (leaf_bad HC3.out (by decide) HZ.out)
  · have hz := below_set HB4.out ⟨w.heap.size + 1 + 1, 0, none⟩ (by simp; omega) (.slice none 0 0)
    have HZ := Lib.hid hz
    have Z0 := Lib.hid (HR4.out.set (.slice none 0 0)).cells.1
    have hcr := HCR.out
    rw [if_pos h0] at hcr
    have HC3 := Lib.hid hcr
    clear hz HCR hcr
    go_wp2
    exact bodyPost_ret (v := .tuple #[.agg #[.slice none 0 0], .int .i64 E]) (by simp [results, Tryz.results7, go_sem, Z0.out]) rfl (leaf_bad HC3.out h0 HZ.out)
end Go.Proofs.YtipcacplphidhaaGreat
/- What slices.Insert makes of tables of the call's own, at their end: the walk. Conditions: at most a hundred tables. -/
namespace Go.Proofs.YtipcacplphidhaaGreat
open Go.RowKit Go.Sort Go.Maps
set_option linter.unusedSimpArgs false
set_option linter.unusedVariables false

set_option maxRecDepth 100000 in
set_option maxHeartbeats 4000000 in
theorem insert_endT (n : Nat) (hn : n ≤ 100) (W : World) (B : Nat) (v : Value) (xs : List Tr) (y : Tr) (p : Nat) (hl : xs.length = n) (ht : Tbs W B v xs) (hy : TrO W B y) (hB : B ≤ W.heap.size) (hc : ∀ j u, (trC y)[j]? = some u → W.cell? ⟨p, j, none⟩ = some u) :
    Calls Tryz.prog 22 #[v, .int .i64 n, .slice (some ⟨p, 0, none⟩) 1 1] W fun e w' => ∃ v', e = .returned v' ∧ Tbs w' B v' (xs ++ [y]) ∧ W.grownBy w' v.ownBlock := by
  subst hl
  obtain ⟨i0, hi, hz0, hz1, hz2⟩ := info_parts Tryz.infoT
  have HT := Lib.hid ht
  have HY := Lib.hid hy
  have HC := Lib.hid hc
  have hne : ¬ ((1 : Int) = 0) := by decide
  have hone : ∀ u ∈ trC y, u.oneCell' = true := fun u hu => by
    simp [trC] at hu
    rcases hu with rfl | rfl | rfl | rfl <;> rfl
  rcases Go.Joins.ownsRow_forms ht.own with ⟨rfl, h0⟩ | ⟨g, cap, rfl⟩
  · have : xs = [] := List.eq_nil_of_length_eq_zero h0
    subst this
    clear ht hy hc h0
    go_enter Tryz.func22, Tryz.ntmps22
    go_wp2_with (at_builtin; refine wpList_append_own_at _ rfl _ _ 33 rfl B 46 i0 (.agg #[.string ⟨#[]⟩, .slice none 0 0, .int .i64 0, .slice none 0 0]) 4 72 Tryz.underlying33 hi hz0 hz1 hz2 rfl (by decide) _ _ _ rfl HT.out.own ⟨p, 0, none⟩ 1 1 (trC y) rfl rfl ?c1 hone ?c3 ?c4 hB ?_)
    case c1 => exact fun j u hj => by rw [add_lit, Nat.zero_add]; exact HC.out j u hj
    case c3 => unfold maxLen; decide
    case c4 => decide
    intro v' w' hown' hg _ _
    have HM := Lib.hid (HT.out.more HY.out hown' hg)
    clear hown'
    go_wp2
    go_ret
    exact ⟨_, rfl, HM.out, hg⟩
  · have hcp : xs.length ≤ cap ∧ cap ≤ 9223372036854775807 := by
      rcases ht.own.2 with ⟨h', _⟩ | ⟨g', cap', cur, h', _, _, h2, h3, _⟩
      · cases h'
      · injection h' with _ _ h'
        subst h'
        exact ⟨h2, by unfold maxLen at h3; omega⟩
    obtain ⟨hc1, hc2⟩ := hcp
    clear ht hy hc
    by_cases hcap : cap = xs.length
    all_goals
      go_enter Tryz.func22, Tryz.ntmps22
      go_wp2_with (at_builtin; refine wpList_append_own_at _ rfl _ _ 33 rfl B 46 i0 (.agg #[.string ⟨#[]⟩, .slice none 0 0, .int .i64 0, .slice none 0 0]) 4 72 Tryz.underlying33 hi hz0 hz1 hz2 rfl (by decide) _ _ _ rfl HT.out.own ⟨p, 0, none⟩ 1 1 (trC y) rfl rfl ?c1 hone ?c3 ?c4 hB ?_)
      case c1 => exact fun j u hj => by rw [add_lit, Nat.zero_add]; exact HC.out j u hj
      case c3 => unfold maxLen; omega
      case c4 => omega
      intro v' w' hown' hg _ _
      have HM := Lib.hid (HT.out.more HY.out hown' hg)
      clear hown'
      go_wp2
      go_ret
      exact ⟨_, rfl, HM.out, hg⟩
theorem row_cells {w : World} {p : Nat} {y : Tr} (h : w.heap[p]? = some (.cells (trC y).toArray 46 (0, 0))) : ∀ j u, (trC y)[j]? = some u → w.cell? ⟨p, j, none⟩ = some u := fun j u hu => by
  rw [cell_of_row w p j _ _ (0, 0) h]
  simpa using hu
theorem insOk_zero : InsOk 0 := fun W B i v xs y p hl hi ht hy hB hc _ => by
  have e : i = 0 := by omega
  subst e
  have hx : xs = [] := List.eq_nil_of_length_eq_zero hl
  subst hx
  exact insert_endT 0 (by omega) W B v [] y p rfl ht hy hB (row_cells hc)
end Go.Proofs.YtipcacplphidhaaGreat
namespace Go.Proofs.YtipcacplphidhaaGreat
open Go.RowKit Go.Sort Go.Maps
set_option linter.unusedSimpArgs false
set_option linter.unusedVariables false

theorem num_any (n : Int) (w : World) : Calls Tryz.prog 10 #[.int .i64 n] w fun e w' => e = .returned (.int .i64 n) ∧ w = w' := by
  go_enter Tryz.func10, Tryz.ntmps10
  go_wp2
  go_ret
  exact ⟨rfl, rfl⟩
def x0 : Sy.St 0 := ⟨1, ⟨#[116]⟩, [⟨⟨#[97]⟩, 1, false⟩], ⟨#[97]⟩, ⟨#[]⟩, [], [], [], ⟨#[]⟩, [], [], [], [], 0⟩
def h0 (g : Nat) : Sy.Hs := ⟨⟨some ⟨g, 0, none⟩, 1⟩, ⟨none, 0⟩, ⟨none, 0⟩, ⟨none, 0⟩, ⟨none, 0⟩, ⟨none, 0⟩, ⟨none, 0⟩, ⟨none, 0⟩⟩
def t0 : Tb := ⟨⟨#[116]⟩, [⟨⟨#[97]⟩, 1, true⟩], 0, []⟩
theorem cre_alive : creF [] x0 = (0, [t0]) := by kernel_rfl
theorem rd_alive (w : World) (g : Nat) (hg : g = w.heap.size) : Sy.RdSt Sy.Any (w.alloc (.cells #[.string ⟨#[97]⟩, .int .i64 1, .bool false] 48)) x0 (h0 g) := by
  subst hg
  refine ⟨⟨⟨(fun e => by cases e), Nat.le_refl 1, show 1 ≤ 9223372036854775807 by decide⟩, by decide, fun ad e j y hj => ?_⟩, Sy.RdK_nil _ _ _, Sy.RdK_nil _ _ _, Sy.RdK_nil _ _ _, Sy.RdK_nil _ _ _, Sy.RdK_nil _ _ _, Sy.RdK_nil _ _ _, Sy.RdK_nil _ _ _⟩
  injection e with e
  subst e
  match j, hj with
  | 0, hj =>
    injection hj with hj
    subst hj
    refine ⟨trivial, none, 0, fun i v hv => ?_, trivial⟩
    match i, hv with
    | 0, hv => injection hv with hv; subst hv; rw [add_lit, cell_last _ _ _ _ _ rfl]; rfl
    | 1, hv => injection hv with hv; subst hv; rw [add_lit, cell_last _ _ _ _ _ rfl]; rfl
    | 2, hv => injection hv with hv; subst hv; rw [add_lit, cell_last _ _ _ _ _ rfl]; rfl
    | i + 3, hv => cases hv
  | j + 1, hj => cases hj
theorem of_one {xs : List Tr} {t : Tb} (h : xs.map Tr.t = [t]) : ∀ y ∈ xs, y.t = t := fun y hy => by
  have h1 := List.mem_map_of_mem (f := Tr.t) hy
  rw [h] at h1
  simpa using h1
theorem create_0 (w : World) : Calls Tryz.prog 7 #[.agg #[.slice none 0 0], .agg #[.int .i64 1, .string ⟨#[116]⟩, .slice (some ⟨w.heap.size, 0, none⟩) 1 1, .string ⟨#[97]⟩, .string ⟨#[]⟩, .slice none 0 0, .slice none 0 0, .slice none 0 0, .string ⟨#[]⟩, .slice none 0 0, .slice none 0 0, .slice none 0 0, .slice none 0 0, .int .i64 0]] (w.alloc (.cells #[.string ⟨#[97]⟩, .int .i64 1, .bool false] 48)) (ChgPost (w.alloc (.cells #[.string ⟨#[97]⟩, .int .i64 1, .bool false] 48)) (0, [t0])) := by
  have h := create_any none 0 [] x0 (h0 w.heap.size) (w.alloc (.cells #[.string ⟨#[97]⟩, .int .i64 1, .bool false] 48)) (fun e => absurd rfl e) (by decide) (rd_alive w _ rfl) (fun _ => insOk_zero)
  rw [cre_alive] at h
  exact h

set_option maxRecDepth 100000 in
set_option maxHeartbeats 4000000 in
theorem alive_any (w : World) : Calls Tryz.prog 4 #[] w fun e w' => e = .returned (.bool true) ∧ Below w.heap.size w w' := by
  have HC := Lib.hid (create_0 w)
  have HB1 := Lib.hid (below1 w (.cells #[.string ⟨#[97]⟩, .int .i64 1, .bool false] 48))
  go_enter Tryz.func4, Tryz.ntmps4
  go_upto_region 2 with (go_at_call 7; (with_reducible refine HC.out.mono ?_); intro e w2 hp; obtain ⟨v, xs, he, htb, hxs⟩ := hp.2.1 rfl; have hb := thn HB1.out hp.2.2; subst he; have htb2 := htb; obtain ⟨A2, c2, rfl, hrd, _⟩ := htb2.rd (fun y hy => by rw [of_one hxs y hy]; exact ⟨by decide, by decide⟩); rw [hxs] at hrd ⊢; have HRD := Lib.hid hrd; have HB2 := Lib.hid hb; clear hp htb htb2 hxs hrd hb)
  have hb3 := below1 w2 (.cells #[.slice A2 1 c2] 35)
  have HB3 := Lib.hid (thn HB2.out hb3)
  have q0 := cell_of_box (w := w2) (v := .slice A2 1 c2) (T := 35) rfl (Below.refl _ _)
  obtain ⟨ad, e, cA, iA, cc, ic, k0, k1, k2, k3, hT⟩ := (HRD.out.below hb3).at_ (j := 0) (by decide)
  subst e
  obtain ⟨bd, e1, m0, m1, m2⟩ := hT.c.at_ (j := 0) (by decide)
  subst e1
  rw [Nat.zero_mul, add0] at k0 k1 k2 k3 m0 m1 m2
  have k1' : (w2.alloc (.cells #[.slice (some ad) 1 c2] 35)).cell? ⟨ad.block, ad.off + 1, none⟩ = some (.slice (some bd) 1 cc) := k1
  have m2' : (w2.alloc (.cells #[.slice (some ad) 1 c2] 35)).cell? ⟨bd.block, bd.off + 2, none⟩ = some (.bool true) := m2
  clear k0 k1 k2 k3 m0 m1 m2 hT
  go_wp2_with (go_at_call 10; refine (num_any _ _).mono ?_; rintro e w9 ⟨rfl, rfl⟩)
  go_ret
  exact ⟨rfl, HB3.out⟩
end Go.Proofs.YtipcacplphidhaaGreat
