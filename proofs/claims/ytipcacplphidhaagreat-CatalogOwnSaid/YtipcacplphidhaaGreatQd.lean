/- How a catalog, a table and a name are read as arguments. Conditions: none. -/
import Derived.Test.YtipcacplphidhaaGreatQb
import Derived.Test.YtipcacplphidhaaGreatRows
import Derived.Test.YtipcacplphidhaaGreatQa
import Derived.Test.YtipcacplphidhaaGreatHa
import Derived.ProofKit
import Derived.OpenShut
import Derived.Lib.SmallJoins
import Derived.Deep.Slices
import Derived.Carry
import Derived.SizedLaws
import Derived.ChangeArms
/- A table of the statements made one of the program's, in memory of its own: the walk of Of. Conditions: a table that is read in memory, of a length that every machine keeps. -/
namespace Go.Proofs.YtipcacplphidhaaGreat
open Go.RowKit Go.Sort Go.Maps
set_option linter.unusedSimpArgs false
set_option linter.unusedVariables false

set_option maxRecDepth 100000 in
set_option maxHeartbeats 8000000 in
theorem ofO_any (t : Tb) (cA iA : Option Addr) (cc ic : Nat) (w : World) (hc : RdC w cA t.cols) (hx : RdX w iA t.idx) (hcA : cA = none → t.cols.length = 0 ∧ cc = 0) (hn : t.cols.length * 32 ≤ 140737488355328) (hk : t.idx.length * 24 ≤ 140737488355328 - 24) :
    Calls Tryz.prog 12 #[tbl t.m cA t.cols.length cc t.key iA t.idx.length ic] w fun e w' => ∃ cA' cc' iA' ic', e = .returned (tbl t.m cA' t.cols.length cc' t.key iA' t.idx.length ic') ∧ TrO w' w.heap.size ⟨t, cA', cc', iA', ic'⟩ ∧ Below w.heap.size w w' := by
  obtain ⟨m, cols, key, idx⟩ := t
  dsimp only at *
  obtain ⟨iC, hiC, hC0, hC1, hC2⟩ := info_parts Tryz.infoC
  obtain ⟨iX, hiX, hX0, hX1, hX2⟩ := info_parts Tryz.infoX
  have HC := Lib.hid hc
  have HX := Lib.hid hx
  have HCA := Lib.hid hcA
  have HLC := Lib.hid (flatK_len colC 3 (fun _ => rfl) cols)
  have HN := Lib.hid hn
  have hn63 : cols.length ≤ 9223372036854775807 := by omega
  clear hc hx hcA hn
  have hB2 := (below1 w (.cells #[.string m, .slice cA cols.length cc, .int .i64 key, .slice iA idx.length ic] 57)).alloc (by simp) (.cells #[.string ⟨#[]⟩, .slice none 0 0, .int .i64 0, .slice none 0 0] 46)
  have hx4 := (Box4.new w m cA cols.length cc key iA idx.length ic 57).below (below1 _ (.cells #[.string ⟨#[]⟩, .slice none 0 0, .int .i64 0, .slice none 0 0] 46))
  have hr4 : ((w.alloc (.cells #[.string m, .slice cA cols.length cc, .int .i64 key, .slice iA idx.length ic] 57)).alloc (.cells #[.string ⟨#[]⟩, .slice none 0 0, .int .i64 0, .slice none 0 0] 46)).heap[w.heap.size + 1]? = some (.cells #[.string ⟨#[]⟩, .slice none 0 0, .int .i64 0, .slice none 0 0] 46 (0, 0)) := by
    have := heap_alloc_new (w.alloc (.cells #[.string m, .slice cA cols.length cc, .int .i64 key, .slice iA idx.length ic] 57)) (.cells #[.string ⟨#[]⟩, .slice none 0 0, .int .i64 0, .slice none 0 0] 46)
    rwa [World.size_alloc] at this
  have HB2 := Lib.hid hB2
  have HX4 := Lib.hid hx4
  have HR4 := Lib.hid hr4
  clear hB2 hx4 hr4
  go_enter Tryz.func12, Tryz.ntmps12
  go_upto_region 2 with (fail)
  have hz2 : w.heap.size + 1 < ((w.alloc (.cells #[.string m, .slice cA cols.length cc, .int .i64 key, .slice iA idx.length ic] 57)).alloc (.cells #[.string ⟨#[]⟩, .slice none 0 0, .int .i64 0, .slice none 0 0] 46)).heap.size := by simp
  generalize (w.alloc (.cells #[.string m, .slice cA cols.length cc, .int .i64 key, .slice iA idx.length ic] 57)).alloc (.cells #[.string ⟨#[]⟩, .slice none 0 0, .int .i64 0, .slice none 0 0] 46) = w1 at HB2 HX4 HR4 hz2 ⊢
  have hS0 : KeepT w1 w.heap.size m cA cols.length cc key iA idx.length ic w1.drew := ⟨HX4.out.c0, HX4.out.c1, HX4.out.c2, HX4.out.c3, (Below.refl _ _).drew⟩
  have HS1 : Hid (KeepT w1 w.heap.size m cA cols.length cc key iA idx.length ic w1) := Lib.hid ⟨HX4.out.c0, HX4.out.c1, HX4.out.c2, HX4.out.c3, Below.refl _ _⟩
  have hgl : w.heap.size < w1.heap.size := by omega
  go_cut [4] (fun p wx => ∃ (b : Nat) (A : Option Addr) (c : Nat), p = .pointer (some ⟨b, 0, none⟩) ∧ Tof w1 wx b m cols key A c (.slice none 0 0) [])
  case first =>
    go_region_held3 (fun W => W.cell? ⟨w.heap.size, 0, none⟩ = some (.string m) ∧ W.cell? ⟨w.heap.size, 1, none⟩ = some (.slice cA cols.length cc) ∧ W.cell? ⟨w.heap.size, 2, none⟩ = some (.int .i64 key) ∧ W.cell? ⟨w.heap.size, 3, none⟩ = some (.slice iA idx.length ic) ∧ Below w1.heap.size w1 W)
      (first | with_reducible exact hS | with_reducible exact hS0 | with_reducible exact KeepT.alloc hS _ | with_reducible exact KeepT.drew (KeepT.alloc HS1.out _) | with_reducible exact KeepT.set4 hS hgl (Nat.le_refl _) _ _ _ _)
      ((refine step_append_nil rfl (.tmp 8) (.tmp 10) 25 rfl 48 iC (.agg #[.string ⟨#[]⟩, .int .i64 0, .bool false]) 3 32 Tryz.underlying25 hiC hC0 hC1 hC2 rfl (by decide) rfl cA cols.length cc _ (fun e => HCA.out e) hn63 rfl HLC.out (RdC.news (HC.out.below (HB2.out.trans (by first | with_reducible exact hS.2.2.2.2.mono HB2.out.size | with_reducible exact hS0.2.2.2.2.mono HB2.out.size | with_reducible exact (KeepT.drew (KeepT.alloc HS1.out _)).2.2.2.2.mono HB2.out.size)))) (colC_one cols) HN.out ?_; intro v3 w3 hown hgn; have hb := below_none hgn; obtain ⟨A3, c3, rfl, hrc3⟩ := own_cols hown; have hS : KeepT w1 w.heap.size m cA cols.length cc key iA idx.length ic w3 := (by first | with_reducible exact KeepT.below hS hb | with_reducible exact KeepT.below hS0 hb | with_reducible exact KeepT.below (KeepT.drew (KeepT.alloc HS1.out _)) hb); have HBW : Hid (Below w1.heap.size w1 w3) := Lib.hid hS.2.2.2.2; have HO := Lib.hid hown; first | ((with_reducible have H5 := Lib.hid (new4d hb)); obtain ⟨z0, z1, z2, z3, f0, f1, f2, f3⟩ := cells4 H5.out) | ((with_reducible have H5 := Lib.hid (new4 hb)); obtain ⟨z0, z1, z2, z3, f0, f1, f2, f3⟩ := cells4 H5.out) | skip; clear hown hgn hb hrc3))
    all_goals go_wp2_with fail
    all_goals go_meet
    all_goals clear hS0 HS1 hS
    · refine ⟨w3.heap.size, A3, c3, rfl, ?_⟩
      exact tofA HO.out (Nat.le_refl _) HBW.out
    · refine ⟨w1.heap.size, A3, c3, rfl, ?_⟩
      exact tofB HO.out (by simp) HBW.out H5.out
  case rest =>
    obtain ⟨b, A, c, rfl, htof⟩ := hcut
    have HTF := Lib.hid htof
    clear htof hS0 HS1
    go_wp2
    go_loopw [5] (fun i wr => ∃ (j : Nat) (iv : Value), i = .int .i64 j ∧ j ≤ idx.length ∧ Tof w1 wr b m cols key A c iv (idx.take j)) (fun i _ => idx.length - (intOf i).toNat)
    case atStart => exact ⟨0, _, rfl, by omega, HTF.out⟩
    case round =>
      clear HTF
      obtain ⟨j, iv, rfl, hj, hT⟩ := hrel
      have HT := Lib.hid hT
      have hbl := hT.lt
      obtain ⟨IA, ic2, eiv, _⟩ := own_idx hT.ix
      obtain ⟨y0, y1, y2, y3⟩ := HX4.out.below hT.below
      have hzr := hT.below.size
      clear hT
      by_cases hlt : j < idx.length
      · obtain ⟨ad, e0, k0, k1⟩ := (HX.out.below (HB2.out.trans (HT.out.below.mono HB2.out.size))).at_ hlt
        subst e0
        have hk0 := cell_lt k0
        have htk := List.take_succ_eq_append_getElem hlt
        have HTK := Lib.hid htk
        have hjl : (j : Int) < (idx.length : Int) := by omega
        have hln : (idx.take j).length = j := by rw [List.length_take]; omega
        have HLN := Lib.hid hln
        rw [hln] at eiv
        clear htk hln
        generalize idx[j] = x at k0 k1 HTK
        subst eiv
        have q3 := cell_of_row wr b 3 _ _ (0, 0) HT.out.bx
        simp at q3
        have hTW := HT.out.grown (below1 wr (.cells #[.string x.m, .int .i64 x.c] 50))
        have HTW := Lib.hid hTW
        clear hTW
        go_wp2_with fail
        go_region_law (refine step_append_own rfl (.tmp 23) (.tmp 29) 44 rfl w1.heap.size 50 iX (.agg #[.string ⟨#[]⟩, .int .i64 0]) 2 24 Tryz.underlying44 hiX hX0 hX1 hX2 rfl (by decide) (.slice IA j ic2) (idx.take j).length ((idx.take j).flatMap ixC) rfl (by first | exact HTW.out.ix.drew | exact HTW.out.ix) ⟨wr.heap.size, 0, none⟩ 1 1 [.string x.m, .int .i64 x.c] rfl rfl (news_new wr #[.string x.m, .int .i64 x.c] _ [.string x.m, .int .i64 x.c] rfl) (by simp [Value.oneCell']) (by have := HLN.out; unfold maxLen; omega) (by have := HLN.out; omega) (by first | exact HTW.out.below.size | (simp; omega)) ?_; intro v' w2 hown hg; have hg' : (wr.alloc (.cells #[.string x.m, .int .i64 x.c] 50)).grownBy w2 (Value.slice IA j ic2).ownBlock := ⟨hg.os, hg.tape, hg.output, hg.size, hg.block⟩; have hb6 := HTW.out.kept hg'; have z4 := cell_of_row w2 b 3 _ _ (0, 0) hb6; have f4 := frozen_of_row w2 b 3 _ _ hb6; simp at z4; obtain ⟨A6, n6, c6, rfl⟩ : ∃ A n c, v' = .slice A n c := form_of hown; have HO6 := Lib.hid hown; have HG6 := Lib.hid hg'; clear hown hg hg' hb6)
        all_goals
          have HZ : Hid (Tof w1 (w2.setCell ⟨b, 3, none⟩ (.slice A6 n6 c6)) b m cols key A c (.slice A6 n6 c6) (idx.take (j + 1))) := Lib.hid (HTW.out.put HG6.out (by
            rw [HTK.out, List.length_append, List.flatMap_append]
            have := HO6.out
            simpa [ixC] using this))
          go_wp2
          go_roundw
          case rel => exact ⟨j + 1, _, by go_num, hlt, HZ.out⟩
          case measure => simp [intOf]; omega
      · have HT2 : Hid (Tof w1 wr b m cols key A c iv idx) := Lib.hid (by have := HT.out; rwa [List.take_of_length_le (by omega)] at this)
        obtain ⟨B, hB, hcl⟩ := HT.out.cl
        have q0 := cell_of_row wr b 0 _ _ (0, 0) HT.out.bx
        have q1 := cell_of_row wr b 1 _ _ (0, 0) HT.out.bx
        have q2 := cell_of_row wr b 2 _ _ (0, 0) HT.out.bx
        have q3 := cell_of_row wr b 3 _ _ (0, 0) HT.out.bx
        simp at q0 q1 q2 q3
        have hr5 := (HT.out.below.block _ hz2).trans HR4.out
        obtain ⟨d0, d1, d2, d3, f0, f1, f2, f3⟩ := cells4 hr5
        have hln : (idx.take j).length = idx.length := by rw [List.length_take]; omega
        rw [hln] at eiv
        subst eiv
        have hl1 : w1.heap.size ≤ B := hB
        obtain ⟨A9, c9, hcv, _⟩ := own_cols hcl
        injection hcv with hcv1 _ hcv2
        subst hcv1 hcv2
        obtain ⟨I9, i9, hiv, _⟩ := own_idx HT2.out.ix
        injection hiv with hiv1 _ hiv2
        subst hiv1 hiv2
        have hbz : b ≠ w.heap.size + 1 := by have := HT.out.hB; omega
        have HBW := Lib.hid (HB2.out.trans (HT.out.below.mono HB2.out.size))
        have hC9 : OwnC (wr.setCells (w.heap.size + 1) 0 [.string m, .slice A cols.length c, .int .i64 key, .slice IA idx.length ic2]) B (.slice A cols.length c) cols := hcl.kept (grown_setCells (w.heap.size + 1) _ 0 wr) (by
          cases hv : (Value.slice A cols.length c).ownBlock with
          | none => exact .inl rfl
          | some k => exact .inr (fun e => own_ne hcl hr5 (by decide) (by rw [hv, e])))
        have hX9 : OwnX (wr.setCells (w.heap.size + 1) 0 [.string m, .slice A cols.length c, .int .i64 key, .slice IA idx.length ic2]) w1.heap.size (.slice IA idx.length ic2) idx := HT2.out.ix.kept (grown_setCells (w.heap.size + 1) _ 0 wr) (by
          cases hv : (Value.slice IA idx.length ic2).ownBlock with
          | none => exact .inl rfl
          | some k => exact .inr (fun e => own_ne HT2.out.ix hr5 (by decide) (by rw [hv, e])))
        have HC9 := Lib.hid hC9
        have HX9 := Lib.hid hX9
        have HB9 : Hid (Below w.heap.size w (wr.setCells (w.heap.size + 1) 0 [.string m, .slice A cols.length c, .int .i64 key, .slice IA idx.length ic2])) := Lib.hid (below_cells (by omega) _ _ HBW.out)
        clear hC9 hX9 hcl hln
        go_wp2
        exact bodyPost_ret (v := tbl m A cols.length c key IA idx.length ic2) (by simp [results, Tryz.results12, go_sem, d0, d1, d2, d3]) rfl ⟨A, c, IA, ic2, rfl, ⟨own_le HC9.out (by omega), own_le HX9.out (by omega)⟩, HB9.out⟩
end Go.Proofs.YtipcacplphidhaaGreat
/- A catalog of the statements made one of the program's: the walk of All. Conditions: tables that are read in memory, of a number that every machine keeps. -/
namespace Go.Proofs.YtipcacplphidhaaGreat
open Go.RowKit Go.Sort Go.Maps
set_option linter.unusedSimpArgs false
set_option linter.unusedVariables false

/-- Block b is one slice. -/
abbrev Bxr (w : World) (b : Nat) (v : Value) : Prop := w.heap[b]? = some (.cells #[v] 24 (0, 0))
theorem Bxr.below {w w' : World} {b : Nat} {v : Value} (h : Bxr w b v) (hb : Below w.heap.size w w') : Bxr w' b v := by
  unfold Bxr
  rw [hb.block b (Array.getElem?_eq_some_iff.1 h).1]; exact h
theorem Bxr.lt {w : World} {b : Nat} {v : Value} (h : Bxr w b v) : b < w.heap.size := (Array.getElem?_eq_some_iff.1 h).1
theorem Bxr.other {w : World} {b : Nat} {v : Value} (h : Bxr w b v) (p : Addr) (hp : b ≠ p.block) (u : Value) : Bxr (w.setCell p u) b v := by
  unfold Bxr
  rw [heap_setCell_other w p b u hp]; exact h
theorem Bxr.cells {w : World} {b : Nat} {v : Value} (h : Bxr w b v) : w.cell? ⟨b, 0, none⟩ = some v ∧ w.frozen? ⟨b, 0, none⟩ = false := by
  simp [World.cell?, World.frozen?, h]
theorem Bxr.grown {w w' : World} {b : Nat} {v : Value} {r : Option Nat} (h : Bxr w b v) (hg : w.grownBy w' r) (hr : r ≠ some b) : Bxr w' b v := by
  unfold Bxr
  rw [hg.block b h.lt (fun e => hr e.symm)]; exact h

set_option maxRecDepth 100000 in
set_option maxHeartbeats 8000000 in
theorem all_any (A : Option Addr) (c : Nat) (ls : List Tb) (w : World) (hr : RdS w A ls) (hn : ls.length * 72 ≤ 140737488355328) :
    Calls Tryz.prog 5 #[.agg #[.slice A ls.length c]] w fun e w' => ∃ v xs, e = .returned (.agg #[v]) ∧ Tbs w' w.heap.size v xs ∧ xs.map Tr.t = ls ∧ Below w.heap.size w w' := by
  obtain ⟨i0, hi0, hz0, hz1, hz2⟩ := info_parts Tryz.infoT
  have HR := Lib.hid hr
  have hB3 := ((below1 w (.cells #[.slice A ls.length c] 24)).alloc (by simp) (.cells #[.slice none 0 0] 35)).alloc (by simp; omega) (.cells #[.slice none 0 0] 35)
  have h1 := heap_alloc_new w (.cells #[.slice A ls.length c] 24)
  have hT : Bxr (((w.alloc (.cells #[.slice A ls.length c] 24)).alloc (.cells #[.slice none 0 0] 35)).alloc (.cells #[.slice none 0 0] 35)) w.heap.size (.slice A ls.length c) := (Bxr.below h1 (below1 _ _)).below (below1 _ _)
  have h2 := heap_alloc_new (w.alloc (.cells #[.slice A ls.length c] 24)) (.cells #[.slice none 0 0] 35)
  rw [World.size_alloc] at h2
  have hRs : Bx1 (((w.alloc (.cells #[.slice A ls.length c] 24)).alloc (.cells #[.slice none 0 0] 35)).alloc (.cells #[.slice none 0 0] 35)) (w.heap.size + 1) (.slice none 0 0) := Bx1.below h2 (below1 _ _)
  have h3 := heap_alloc_new ((w.alloc (.cells #[.slice A ls.length c] 24)).alloc (.cells #[.slice none 0 0] 35)) (.cells #[.slice none 0 0] 35)
  rw [World.size_alloc, World.size_alloc] at h3
  have HB3 := Lib.hid hB3
  have HT3 := Lib.hid hT
  have HRs := Lib.hid hRs
  have HN3 : Hid (Bx1 (((w.alloc (.cells #[.slice A ls.length c] 24)).alloc (.cells #[.slice none 0 0] 35)).alloc (.cells #[.slice none 0 0] 35)) (w.heap.size + 1 + 1) (.slice none 0 0)) := Lib.hid h3
  obtain ⟨t0, ft⟩ := hT.cells
  clear hr hB3 h1 hT h2 hRs h3
  go_enter Tryz.func5, Tryz.ntmps5
  go_upto_region 2 with fail
  generalize ((w.alloc (.cells #[.slice A ls.length c] 24)).alloc (.cells #[.slice none 0 0] 35)).alloc (.cells #[.slice none 0 0] 35) = w3 at HB3 HT3 HRs HN3 t0 ft ⊢
  go_wp2
  go_loopw [4] (fun i wr => ∃ (j : Nat) (v : Value) (xs : List Tr), i = .int .i64 j ∧ j ≤ ls.length ∧ xs.map Tr.t = ls.take j ∧ Bxr wr w.heap.size (.slice A ls.length c) ∧ Bx1 wr (w.heap.size + 1) (.slice none 0 0) ∧ Bx1 wr (w.heap.size + 1 + 1) v ∧ Tbs wr (w.heap.size + 3) v xs ∧ Below w.heap.size w wr) (fun i _ => ls.length - (intOf i).toNat)
  case atStart => exact ⟨0, _, [], rfl, by omega, by simp, HT3.out, HRs.out, HN3.out, ⟨World.ownsRow_nil _ _ _ _, fun x hx => by simp at hx⟩, HB3.out⟩
  case round =>
    obtain ⟨j, v, xs, rfl, hj, hxs, hT, hRr, hN, hS, hB⟩ := hrel
    have HXS := Lib.hid hxs
    have HT := Lib.hid hT
    have HRr := Lib.hid hRr
    have HN := Lib.hid hN
    have HS := Lib.hid hS
    have HB := Lib.hid hB
    obtain ⟨t0, ft⟩ := hT.cells
    clear hxs hRr hN hS hB hT
    have hxl : xs.length = j := by have := congrArg List.length HXS.out; rw [List.length_map, List.length_take] at this; omega
    by_cases hlt : j < ls.length
    · obtain ⟨ad, rfl, cA, iA, cc, ic, k0, k1, k2, k3, hT⟩ := (HR.out.below HB.out).at_ hlt
      have hjl : (j : Int) < (ls.length : Int) := by omega
      have htk : ls.take (j + 1) = ls.take j ++ [ls[j]] := List.take_succ_eq_append_getElem hlt
      have HTK := Lib.hid htk
      have hcp := fun (W : World) (hb : Below wr.heap.size wr W) => ofO_any ls[j] cA iA cc ic W (hT.below hb).c (hT.below hb).x hT.cn hT.cb hT.xb
      have HCP := Lib.hid hcp
      clear htk hT hcp
      generalize ls[j] = t at k0 k1 k2 k3 HTK HCP
      go_upto_region 5 with fail
      obtain ⟨n0, nf⟩ := HN.out.cells
      have HCA := Lib.hid (HCP.out _ (Below.refl _ _).drew)
      have hsz : w.heap.size + 1 + 1 < wr.heap.size := HN.out.lt
      clear HCP
      have HNa := HN
      have HRa := HRr
      have HSa := HS
      have HBa := HB
      have HTa := HT
      clear HN HRr HS HB HT
      generalize hwa : wr = wa at *
      go_region_law (first
        | (refine step_append_own rfl (.tmp 13) (.tmp 20) 33 rfl (w.heap.size + 3) 46 i0 (.agg #[.string ⟨#[]⟩, .slice none 0 0, .int .i64 0, .slice none 0 0]) 4 72 Tryz.underlying33 hi0 hz0 hz1 hz2 rfl (by decide) v xs.length (xs.flatMap trC) rfl HSA.out.own ⟨v5.heap.size, 0, none⟩ 1 1 [.string t.m, .slice A5 t.cols.length c5, .int .i64 t.key, .slice A6 t.idx.length c6] rfl rfl HNW.out (by simp [Value.oneCell']) (by unfold maxLen; omega) (by omega) HSZ.out ?_; intro v' w2 hown hg; have HN2 := Lib.hid (HNB.out.grown hg (own_ne HSA.out.own HNB.out (by decide))); obtain ⟨z0, zf⟩ := HN2.out.cells; have HMO := Lib.hid (Tbs.more (x := ⟨t, A5, c5, A6, c6⟩) HSA.out HTO.out hown hg); have HR2 := Lib.hid (HRB.out.grown hg (own_ne HSA.out.own HRB.out (by decide))); have HT2 := Lib.hid (HTB.out.grown hg (own_ne HSA.out.own HTB.out (by decide))); have HB2 := Lib.hid (HBB.out.grown hg (by have := HBB.out.size; omega) (fun k hk => by have := (HSA.out.own.lt k hk).1; omega)); obtain ⟨A7, n7, c7, rfl⟩ := form_of hown; clear hown hg)
        | (go_simp; go_at_call 12; (with_reducible refine HCA.out.mono ?_); rintro e v5 ⟨A5, c5, A6, c6, rfl, hto, hb5⟩; have h5 := thn HBa.out.drew hb5; have h6 := below1 v5 (.cells #[.string t.m, .slice A5 t.cols.length c5, .int .i64 t.key, .slice A6 t.idx.length c6] 46); have HSA := Lib.hid (((HSa.out.below (Below.refl _ _).drew).below hb5).below h6); have HNW := Lib.hid (news_new0 v5 #[.string t.m, .slice A5 t.cols.length c5, .int .i64 t.key, .slice A6 t.idx.length c6] 46 _ rfl); have HNB := Lib.hid (((HNa.out.below (Below.refl _ _).drew).below hb5).below h6); have HRB := Lib.hid (((HRa.out.below (Below.refl _ _).drew).below hb5).below h6); have HTB := Lib.hid (((HTa.out.below (Below.refl _ _).drew).below hb5).below h6); have HBB := Lib.hid (thn h5 h6); have HTO : Hid (TrO (v5.alloc (.cells #[.string t.m, .slice A5 t.cols.length c5, .int .i64 t.key, .slice A6 t.idx.length c6] 46)) (w.heap.size + 3) ⟨t, A5, c5, A6, c6⟩) := Lib.hid (TrO.below (w := v5) (hto.le (by have : wa.drew.heap.size = wa.heap.size := rfl; omega)) h6); have HSZ := Lib.hid (show w.heap.size + 3 ≤ (v5.alloc (.cells #[.string t.m, .slice A5 t.cols.length c5, .int .i64 t.key, .slice A6 t.idx.length c6] 46)).heap.size by have h7 : wa.heap.size ≤ v5.heap.size := hb5.size; simp; omega); obtain ⟨n1, nf1⟩ := ((HNa.out.below (Below.refl _ _).drew).below hb5).cells; obtain ⟨n2, nf2⟩ := HNB.out.cells; clear hto hb5 h5 h6))
      all_goals
        have HN9 := Lib.hid (HN2.out.set (.slice A7 n7 c7))
        have HR9 := Lib.hid (HR2.out.other ⟨w.heap.size + 1 + 1, 0, none⟩ (by simp) (.slice A7 n7 c7))
        have HT9 := Lib.hid (HT2.out.other ⟨w.heap.size + 1 + 1, 0, none⟩ (by simp; omega) (.slice A7 n7 c7))
        have HM9 := Lib.hid (HMO.out.kept (grown_setCell w2 (w.heap.size + 1 + 1) 0 (.slice A7 n7 c7)) HN2.out (by decide) (by decide) (by decide))
        have HB9 := Lib.hid (below_set HB2.out ⟨w.heap.size + 1 + 1, 0, none⟩ (by simp; omega) (.slice A7 n7 c7))
        have hx9 : (xs ++ [(⟨t, A5, c5, A6, c6⟩ : Tr)]).map Tr.t = ls.take (j + 1) := by rw [HTK.out, List.map_append, HXS.out]; rfl
        have HX9 := Lib.hid hx9
        clear HN2 HR2 HMO HB2 hx9 HT2
        go_wp2
        go_roundw
        case rel => exact ⟨j + 1, _, xs ++ [(⟨t, A5, c5, A6, c6⟩ : Tr)], by go_num, hlt, HX9.out, HT9.out, HR9.out, HN9.out, HM9.out, HB9.out⟩
        case measure => simp [intOf]; omega
    · obtain rfl : j = ls.length := by omega
      obtain ⟨A9, n9, c9, rfl⟩ := form_of HS.out.own
      obtain ⟨n0, nf⟩ := HN.out.cells
      obtain ⟨r0, rf⟩ := HRr.out.cells
      obtain ⟨r1, rf1⟩ := (HRr.out.set (.slice A9 n9 c9)).cells
      have HM9 := Lib.hid (HS.out.kept (grown_setCell wr (w.heap.size + 1) 0 (.slice A9 n9 c9)) HRr.out (by decide) (by decide) (by decide))
      have HB9 := Lib.hid (below_set HB.out ⟨w.heap.size + 1, 0, none⟩ (by simp) (.slice A9 n9 c9))
      have hx9 : xs.map Tr.t = ls := by rw [HXS.out, List.take_length]
      have HX9 := Lib.hid hx9
      clear hx9
      go_wp2
      exact bodyPost_ret (v := .agg #[.slice A9 n9 c9]) (by simp [results, Tryz.results5, go_sem, r1]) rfl ⟨.slice A9 n9 c9, xs, rfl, HM9.out.le (by omega), HX9.out, HB9.out⟩
end Go.Proofs.YtipcacplphidhaaGreat
namespace Go.Proofs.YtipcacplphidhaaGreat
open Go.ChangeShapes Go.WideShapes Go.ChangeAt Go.RowKit Go.Joins Go.Maps
set_option linter.unusedSimpArgs false
set_option linter.unusedVariables false

theorem own : ownKnob Tryz.prog.godebug = none := by kernel_rfl
theorem laidOut : laidOutB Tryz.prog = true := by kernel_rfl
theorem recT : Tryz.prog.readableRec 57 = true := by kernel_rfl
theorem rowT : 57 < Tryz.prog.types.size := of_decide_eq_true (by kernel_rfl)
theorem recS : Tryz.prog.readableRec 24 = true := by kernel_rfl
theorem rowS : 24 < Tryz.prog.types.size := of_decide_eq_true (by kernel_rfl)
theorem recM : Tryz.prog.readableRec 31 = true := by kernel_rfl
theorem rowM : 31 < Tryz.prog.types.size := of_decide_eq_true (by kernel_rfl)
theorem recN : Tryz.prog.readableRec 9 = true := by kernel_rfl
theorem rowN : 9 < Tryz.prog.types.size := of_decide_eq_true (by kernel_rfl)
theorem cellsC : Tryz.prog.cellsOf 48 = 3 := by kernel_rfl
theorem cellsX : Tryz.prog.cellsOf 87 = 2 := by kernel_rfl
theorem cellsI : Tryz.prog.cellsOf 3 = 1 := by kernel_rfl
theorem cellsB : Tryz.prog.cellsOf 4 = 1 := by kernel_rfl
theorem cellsS : Tryz.prog.cellsOf 9 = 1 := by kernel_rfl
theorem cellsT : Tryz.prog.cellsOf 57 = 4 := by kernel_rfl
theorem cellsA : Tryz.prog.cellsOf 24 = 1 := by kernel_rfl
theorem cellsLT : Tryz.prog.cellsOf 22 = 1 := by kernel_rfl
theorem cellsLC : Tryz.prog.cellsOf 25 = 1 := by kernel_rfl
theorem cellsLX : Tryz.prog.cellsOf 55 = 1 := by kernel_rfl
theorem bytesC : Tryz.prog.bytesOf 48 = 32 := by kernel_rfl
theorem bytesX : Tryz.prog.bytesOf 87 = 24 := by kernel_rfl
theorem bytesT : Tryz.prog.bytesOf 57 = 72 := by kernel_rfl
theorem list1 {α : Type} {cs : List α} (h : cs.length = 1) : ∃ c0, cs = [c0] := by
  match cs, h with
  | [c0], _ => exact ⟨c0, rfl⟩
theorem list2 {α : Type} {cs : List α} (h : cs.length = 2) : ∃ c0 c1, cs = [c0, c1] := by
  match cs, h with
  | [c0, c1], _ => exact ⟨c0, c1, rfl⟩
theorem list4 {α : Type} {cs : List α} (h : cs.length = 4) : ∃ c0 c1 c2 c3, cs = [c0, c1, c2, c3] := by
  match cs, h with
  | [c0, c1, c2, c3], _ => exact ⟨c0, c1, c2, c3, rfl⟩
theorem list3 {α : Type} {cs : List α} (h : cs.length = 3) : ∃ c0 c1 c2, cs = [c0, c1, c2] := by
  match cs, h with
  | [c0, c1, c2], _ => exact ⟨c0, c1, c2, rfl⟩
theorem weightsAll_mem {H : Type} {P : Program} {e : TypeId} : ∀ {l : List (DataW H)} {d : DataW H}, d ∈ l → ∀ n ∈ d.weights P e, n ∈ DataW.weightsAll P e l
  | d' :: r, d, hd, n, hn => by
    simp only [DataW.weightsAll, List.mem_append]
    rcases List.mem_cons.1 hd with rfl | h
    · exact Or.inl hn
    · exact Or.inr (weightsAll_mem h n hn)

section
variable {H : Type} {enc : TypeId × Value → H} {w : World} {base : Nat} {spare : Nat → Bool} {held : Bool}
/-- All that weighs in what was read is within reach. -/
def Lt {H : Type} (t : TypeId) (d : DataW H) : Prop := ∀ n ∈ d.weights Tryz.prog t, n ≤ reachBytes
theorem lt_one {t : TypeId} {ds : List (DataW H)} {ts : List TypeId} {d : DataW H} {j : Nat} (h : (DataW.weightsEach Tryz.prog ts ds).all (· ≤ reachBytes) = true) (ht : ts[j]? = some t) (hd : ds[j]? = some d) : Lt t d := fun n hn =>
  of_decide_eq_true (List.all_eq_true.1 h n (DataW.weights_mem_each ht hd n hn))
theorem take_as {m k : Nat} {t : TypeId} {cs : List Value} {x : DataW H × List MemPlace} (h : DataW.trod enc Tryz.prog w base spare held m t (List.take (Tryz.prog.cellsOf t) cs) = some x) (hc : Tryz.prog.cellsOf t = k) : DataW.trod enc Tryz.prog w base spare held m t (List.take k cs) = some x := hc ▸ h
/-- A slice's cell, whatever its elements are. -/
theorem open_list {τ : Type} {s e : TypeId} (k b : Nat) (hu : Tryz.prog.underlying s = some (.slice e)) (hc : Tryz.prog.cellsOf e = k) (hby : Tryz.prog.bytesOf e = b) (hb0 : 0 < b) (P : Addr → τ → Prop)
    (hO : ∀ (f : Nat) (cs : List Value) (x : DataW H × List MemPlace) (p : Addr), DataW.trod enc Tryz.prog w base spare held f e cs = some x → Lt e x.1 → cs.length = k → (∀ i, i < k → w.cell? (p.add i) = cs[i]?) → ∃ z, P p z)
    {f : Nat} {c : Value} {x : DataW H × List MemPlace} (h : DataW.trod enc Tryz.prog w base spare held f s [c] = some x) (hw : Lt s x.1) :
    ∃ (A : Option Addr) (cp : Nat) (l : List τ), c = .slice A l.length cp ∧ (A = none → l.length = 0 ∧ cp = 0) ∧ l.length * b ≤ 140737488355328 - 24 ∧ ∀ ad, A = some ad → ∀ j z, l[j]? = some z → P (ad.add (j * k)) z := by
  rcases DataW.trod_slice hu h with ⟨hcs, _⟩ | ⟨a, len, cap, elems, rest, m, hfu, hcs, hx, _, hl, hm, hlen, hel, _, _⟩
  · simp at hcs
    subst hcs
    exact ⟨none, 0, [], rfl, fun _ => ⟨rfl, rfl⟩, by simp, fun ad e => by cases e⟩
  · simp at hcs
    subst hcs
    have hd : x.1 = .slice (elems.map (·.1)) (rest.map (·.1)) := by rw [hx]
    rw [hd] at hw
    have h1 : (elems.length + rest.length) * Tryz.prog.bytesOf e ≤ reachBytes := by
      refine hw _ ?_
      simp only [DataW.weights, hu, List.length_map]
      exact List.mem_cons_self
    have h2 : ∀ y ∈ elems, Lt e y.1 := fun y hy n hn => hw n (by
      simp only [DataW.weights, hu]
      exact List.mem_cons_of_mem _ (List.mem_append_left _ (weightsAll_mem (List.mem_map_of_mem hy) n hn)))
    rw [hby] at h1
    have hr := reachBytes_lt
    obtain ⟨l, hll, hlp⟩ := Sy.choose_list (p := fun j (z : τ) => P (a.add (j * k)) z) len (fun i hi => by
      have hi2 : i < elems.length := by omega
      have h3 := hel i hi
      rw [List.getElem?_eq_getElem hi2] at h3
      obtain ⟨cs', g1, g2⟩ := Option.bind_eq_some_iff.1 h3
      rw [hc] at g1
      obtain ⟨_, hlen', hcell⟩ := World.cells?_some g1
      exact hO _ _ _ _ g2 (h2 _ (List.getElem_mem hi2)) hlen' hcell)
    refine ⟨some a, cap, l, by rw [hll], (fun e => by cases e), ?_, fun ad e j z hz => by injection e with e; subst e; exact hlp j z hz⟩
    have h4 : l.length * b ≤ (elems.length + rest.length) * b := Nat.mul_le_mul_right _ (by omega)
    unfold reachBytes at h1
    omega
set_option maxRecDepth 100000 in
theorem open_cl {f : Nat} {cs : List Value} {x : DataW H × List MemPlace} {p : Addr} (h : DataW.trod enc Tryz.prog w base spare held f 48 cs = some x) (hlen : cs.length = 3) (hcell : ∀ i, i < 3 → w.cell? (p.add i) = cs[i]?) : ∃ v : Cl, CellC w p v := by
  obtain ⟨xs, m, hm, rfl, _, hxl, hf⟩ := DataW.trod_struct Tryz.underlying48 h
  obtain ⟨c0, c1, c2, rfl⟩ := list3 hlen
  obtain ⟨x0, x1, x2, rfl⟩ := list3 (hxl.trans rfl)
  have h0 : DataW.trod enc Tryz.prog w base spare held m 9 [c0] = some x0 := take_as (cs := [c0, c1, c2]) (hf 0 _ rfl) cellsS
  have h1 : DataW.trod enc Tryz.prog w base spare held m 3 [c1] = some x1 := take_as (cs := [c1, c2]) (hf 1 _ rfl) cellsI
  have h2 : DataW.trod enc Tryz.prog w base spare held m 4 [c2] = some x2 := take_as (cs := [c2]) (hf 2 _ rfl) cellsB
  obtain ⟨s, e0, _, _⟩ := DataW.trod_string Tryz.underlying9 h0
  obtain ⟨k, e1, _, _⟩ := DataW.trod_int Tryz.underlying3 h1
  obtain ⟨n, e2, _⟩ := DataW.trod_bool Tryz.underlying4 h2
  simp only [List.cons.injEq, and_true] at e0 e1 e2
  subst e0 e1 e2
  have g0 := hcell 0 (by omega)
  have g1 := hcell 1 (by omega)
  have g2 := hcell 2 (by omega)
  rw [add0] at g0
  rw [add_ne (by omega)] at g1 g2
  exact ⟨⟨s, k, n⟩, g0, g1, g2⟩
set_option maxRecDepth 100000 in
theorem open_ix {f : Nat} {cs : List Value} {x : DataW H × List MemPlace} {p : Addr} (h : DataW.trod enc Tryz.prog w base spare held f 87 cs = some x) (hlen : cs.length = 2) (hcell : ∀ i, i < 2 → w.cell? (p.add i) = cs[i]?) : ∃ v : Ix, CellX w p v := by
  obtain ⟨xs, m, hm, rfl, _, hxl, hf⟩ := DataW.trod_struct Tryz.underlying87 h
  obtain ⟨c0, c1, rfl⟩ := list2 hlen
  obtain ⟨x0, x1, rfl⟩ := list2 (hxl.trans rfl)
  have h0 : DataW.trod enc Tryz.prog w base spare held m 9 [c0] = some x0 := take_as (cs := [c0, c1]) (hf 0 _ rfl) cellsS
  have h1 : DataW.trod enc Tryz.prog w base spare held m 3 [c1] = some x1 := take_as (cs := [c1]) (hf 1 _ rfl) cellsI
  obtain ⟨s, e0, _, _⟩ := DataW.trod_string Tryz.underlying9 h0
  obtain ⟨k, e1, _, _⟩ := DataW.trod_int Tryz.underlying3 h1
  simp only [List.cons.injEq, and_true] at e0 e1
  subst e0 e1
  have g0 := hcell 0 (by omega)
  have g1 := hcell 1 (by omega)
  rw [add0] at g0
  rw [add_ne (by omega)] at g1
  exact ⟨⟨s, k⟩, g0, g1⟩
set_option maxRecDepth 100000 in
theorem open_tb {f : Nat} {cs : List Value} {x : DataW H × List MemPlace} {p : Addr} (h : DataW.trod enc Tryz.prog w base spare held f 57 cs = some x) (hw : Lt 57 x.1) (hlen : cs.length = 4) (hcell : ∀ i, i < 4 → w.cell? (p.add i) = cs[i]?) : ∃ t : Tb, CellT w p t := by
  obtain ⟨xs, m, hm, rfl, _, hxl, hg⟩ := DataW.trod_struct Tryz.underlying57 h
  obtain ⟨c0, c1, c2, c3, rfl⟩ := list4 hlen
  obtain ⟨x0, x1, x2, x3, rfl⟩ := list4 (hxl.trans rfl)
  have h0 : DataW.trod enc Tryz.prog w base spare held m 9 [c0] = some x0 := take_as (cs := [c0, c1, c2, c3]) (hg 0 _ rfl) cellsS
  have h1 : DataW.trod enc Tryz.prog w base spare held m 25 [c1] = some x1 := take_as (cs := [c1, c2, c3]) (hg 1 _ rfl) cellsLC
  have h2 : DataW.trod enc Tryz.prog w base spare held m 3 [c2] = some x2 := take_as (cs := [c2, c3]) (hg 2 _ rfl) cellsI
  have h3 : DataW.trod enc Tryz.prog w base spare held m 55 [c3] = some x3 := take_as (cs := [c3]) (hg 3 _ rfl) cellsLX
  have w1 : Lt 25 x1.1 := fun n hn => hw n (by simp [DataW.weights, DataW.weightsEach, Tryz.underlying57, hn])
  have w3 : Lt 55 x3.1 := fun n hn => hw n (by simp [DataW.weights, DataW.weightsEach, Tryz.underlying57, hn])
  obtain ⟨s, e0, _, _⟩ := DataW.trod_string Tryz.underlying9 h0
  obtain ⟨k, e2, _, _⟩ := DataW.trod_int Tryz.underlying3 h2
  obtain ⟨cA, cc, cl, e1, hcn, hcb, hc⟩ := open_list 3 32 Tryz.underlying25 cellsC bytesC (by decide) (fun p z => CellC w p z) (fun f cs x p hx hw hl hc => open_cl hx hl hc) h1 w1
  obtain ⟨iA, ic, il, e3, hin, hib, hi⟩ := open_list 2 24 Tryz.underlying55 cellsX bytesX (by decide) (fun p z => CellX w p z) (fun f cs x p hx hw hl hc => open_ix hx hl hc) h3 w3
  simp only [List.cons.injEq, and_true] at e0 e2
  subst e0 e1 e2 e3
  have g0 := hcell 0 (by omega)
  have g1 := hcell 1 (by omega)
  have g2 := hcell 2 (by omega)
  have g3 := hcell 3 (by omega)
  rw [add0] at g0
  rw [add_ne (by omega)] at g1 g2 g3
  refine ⟨⟨s, cl, k, il⟩, cA, iA, cc, ic, g0, g1, g2, g3, ⟨fun hl => ?_, fun hl => ?_, hcn, hin, by (show cl.length * 32 ≤ _); omega, hib⟩⟩
  · cases cA with
    | none => exact absurd (List.eq_nil_of_length_eq_zero (hcn rfl).1) hl
    | some ad => exact ⟨ad, rfl, fun j v hj => hc ad rfl j v hj⟩
  · cases iA with
    | none => exact absurd (List.eq_nil_of_length_eq_zero (hin rfl).1) hl
    | some ad => exact ⟨ad, rfl, fun j v hj => hi ad rfl j v hj⟩
set_option maxRecDepth 100000 in
theorem open_tabT {r : Reach} {b0 : Nat} {v : Value} {d : DataW H} {p : List MemPlace} (hv : Value.okWide Tryz.prog w r b0 57 v) (h : DataW.Trod enc Tryz.prog w base spare held 57 v d p) (hw : Lt 57 d) :
    ∃ (t : Tb) (cA iA : Option Addr) (cc ic : Nat), v = tbl t.m cA t.cols.length cc t.key iA t.idx.length ic ∧ TdOk w t cA iA cc ic := by
  obtain ⟨cs, rfl, hsz⟩ := okWide_struct Tryz.underlying57 hv
  obtain ⟨fuel, hf⟩ := h
  have hf' : DataW.trod enc Tryz.prog w base spare held fuel 57 cs.toList = some (d, p) := by simpa [Value.cells] using hf
  obtain ⟨xs, m, hm, hx, hlen, hxl, hg⟩ := DataW.trod_struct Tryz.underlying57 hf'
  rw [cellsT] at hlen
  obtain ⟨c0, c1, c2, c3, ecs⟩ := list4 hlen
  rw [ecs] at hg
  obtain ⟨x0, x1, x2, x3, rfl⟩ := list4 (hxl.trans rfl)
  have h0 : DataW.trod enc Tryz.prog w base spare held m 9 [c0] = some x0 := take_as (cs := [c0, c1, c2, c3]) (hg 0 _ rfl) cellsS
  have h1 : DataW.trod enc Tryz.prog w base spare held m 25 [c1] = some x1 := take_as (cs := [c1, c2, c3]) (hg 1 _ rfl) cellsLC
  have h2 : DataW.trod enc Tryz.prog w base spare held m 3 [c2] = some x2 := take_as (cs := [c2, c3]) (hg 2 _ rfl) cellsI
  have h3 : DataW.trod enc Tryz.prog w base spare held m 55 [c3] = some x3 := take_as (cs := [c3]) (hg 3 _ rfl) cellsLX
  obtain ⟨hx1, hx2⟩ := Prod.mk.inj hx
  subst hx1
  have w1 : Lt 25 x1.1 := fun n hn => hw n (by simp [DataW.weights, DataW.weightsEach, Tryz.underlying57, hn])
  have w3 : Lt 55 x3.1 := fun n hn => hw n (by simp [DataW.weights, DataW.weightsEach, Tryz.underlying57, hn])
  obtain ⟨s, e0, _, _⟩ := DataW.trod_string Tryz.underlying9 h0
  obtain ⟨k, e2, _, _⟩ := DataW.trod_int Tryz.underlying3 h2
  obtain ⟨cA, cc, cl, e1, hcn, hcb, hc⟩ := open_list 3 32 Tryz.underlying25 cellsC bytesC (by decide) (fun p z => CellC w p z) (fun f cs x p hx hw hl hc => open_cl hx hl hc) h1 w1
  obtain ⟨iA, ic, il, e3, hin, hib, hi⟩ := open_list 2 24 Tryz.underlying55 cellsX bytesX (by decide) (fun p z => CellX w p z) (fun f cs x p hx hw hl hc => open_ix hx hl hc) h3 w3
  simp only [List.cons.injEq, and_true] at e0 e2
  subst e0 e1 e2 e3
  refine ⟨⟨s, cl, k, il⟩, cA, iA, cc, ic, by rw [← Array.toArray_toList (xs := cs), ecs], ⟨fun hl => ?_, fun hl => ?_, hcn, hin, by (show cl.length * 32 ≤ _); omega, hib⟩⟩
  · cases cA with
    | none => exact absurd (List.eq_nil_of_length_eq_zero (hcn rfl).1) hl
    | some ad => exact ⟨ad, rfl, fun j v hj => hc ad rfl j v hj⟩
  · cases iA with
    | none => exact absurd (List.eq_nil_of_length_eq_zero (hin rfl).1) hl
    | some ad => exact ⟨ad, rfl, fun j v hj => hi ad rfl j v hj⟩
set_option maxRecDepth 100000 in
theorem open_state {r : Reach} {b0 : Nat} {v : Value} {d : DataW H} {p : List MemPlace} (hv : Value.okWide Tryz.prog w r b0 24 v) (h : DataW.Trod enc Tryz.prog w base spare held 24 v d p) (hw : Lt 24 d) :
    ∃ (A : Option Addr) (c : Nat) (ls : List Tb), v = .agg #[.slice A ls.length c] ∧ RdS w A ls ∧ ls.length * 72 ≤ 140737488355328 - 24 := by
  obtain ⟨cs, rfl, hsz⟩ := okWide_struct Tryz.underlying24 hv
  obtain ⟨fuel, hf⟩ := h
  have hf' : DataW.trod enc Tryz.prog w base spare held fuel 24 cs.toList = some (d, p) := by simpa [Value.cells] using hf
  obtain ⟨xs, m, hm, hx, hlen, hxl, hg⟩ := DataW.trod_struct Tryz.underlying24 hf'
  rw [cellsA] at hlen
  obtain ⟨c0, ecs⟩ := list1 hlen
  rw [ecs] at hg
  obtain ⟨x0, rfl⟩ := list1 (hxl.trans rfl)
  have h0 : DataW.trod enc Tryz.prog w base spare held m 22 [c0] = some x0 := take_as (cs := [c0]) (hg 0 _ rfl) cellsLT
  obtain ⟨hx1, hx2⟩ := Prod.mk.inj hx
  subst hx1
  have w0 : Lt 22 x0.1 := fun n hn => hw n (by simp [DataW.weights, DataW.weightsEach, Tryz.underlying24, hn])
  obtain ⟨A, c, ls, e, hn, hb, hl⟩ := open_list 4 72 Tryz.underlying22 cellsT bytesT (by decide) (fun p z => CellT w p z) (fun f cs x p hx hw hl hc => open_tb hx hw hl hc) h0 w0
  subst e
  refine ⟨A, c, ls, by rw [← Array.toArray_toList (xs := cs), ecs], fun hl2 => ?_, hb⟩
  cases A with
  | none => exact absurd (List.eq_nil_of_length_eq_zero (hn rfl).1) hl2
  | some ad => exact ⟨ad, rfl, fun j v hj => hl ad rfl j v hj⟩
end
end Go.Proofs.YtipcacplphidhaaGreat
