/- A table of the statements made one of the program's, in memory of its own: the walk of Of. Conditions: a table that is read in memory, of a length that every machine keeps. -/
import Derived.Test.YtddeaiciochggaaNk
namespace Go.Proofs.Ytddeaiciochggaa
open Go.RowKit Go.Sort Go.Maps
set_option linter.unusedSimpArgs false
set_option linter.unusedVariables false

set_option maxRecDepth 100000 in
set_option maxHeartbeats 8000000 in
theorem ofO_any (t : Tb) (cA iA : Option Addr) (cc ic : Nat) (w : World) (hc : RdC w cA t.cols) (hx : RdX w iA t.idx) (hcA : cA = none → t.cols.length = 0 ∧ cc = 0) (hn : t.cols.length * 32 ≤ 140737488355328) (hk : t.idx.length * 24 ≤ 140737488355328 - 24) :
    Calls Try.prog 28 #[tbl t.m cA t.cols.length cc t.key iA t.idx.length ic] w fun e w' => ∃ cA' cc' iA' ic', e = .returned (tbl t.m cA' t.cols.length cc' t.key iA' t.idx.length ic') ∧ TrO w' w.heap.size ⟨t, cA', cc', iA', ic'⟩ ∧ Below w.heap.size w w' := by
  obtain ⟨m, cols, key, idx⟩ := t
  dsimp only at *
  obtain ⟨iC, hiC, hC0, hC1, hC2⟩ := info_parts Try.infoC
  obtain ⟨iX, hiX, hX0, hX1, hX2⟩ := info_parts Try.infoX
  have HC := Lib.hid hc
  have HX := Lib.hid hx
  have HCA := Lib.hid hcA
  have HLC := Lib.hid (flatK_len colC 3 (fun _ => rfl) cols)
  have HN := Lib.hid hn
  have hn63 : cols.length ≤ 9223372036854775807 := by omega
  clear hc hx hcA hn
  have hB2 := (below1 w (.cells #[.string m, .slice cA cols.length cc, .int .i64 key, .slice iA idx.length ic] 74)).alloc (by simp) (.cells #[.string ⟨#[]⟩, .slice none 0 0, .int .i64 0, .slice none 0 0] 47)
  have hx4 := (Box4.new w m cA cols.length cc key iA idx.length ic 74).below (below1 _ (.cells #[.string ⟨#[]⟩, .slice none 0 0, .int .i64 0, .slice none 0 0] 47))
  have hr4 : ((w.alloc (.cells #[.string m, .slice cA cols.length cc, .int .i64 key, .slice iA idx.length ic] 74)).alloc (.cells #[.string ⟨#[]⟩, .slice none 0 0, .int .i64 0, .slice none 0 0] 47)).heap[w.heap.size + 1]? = some (.cells #[.string ⟨#[]⟩, .slice none 0 0, .int .i64 0, .slice none 0 0] 47 (0, 0)) := by
    have := heap_alloc_new (w.alloc (.cells #[.string m, .slice cA cols.length cc, .int .i64 key, .slice iA idx.length ic] 74)) (.cells #[.string ⟨#[]⟩, .slice none 0 0, .int .i64 0, .slice none 0 0] 47)
    rwa [World.size_alloc] at this
  have HB2 := Lib.hid hB2
  have HX4 := Lib.hid hx4
  have HR4 := Lib.hid hr4
  clear hB2 hx4 hr4
  go_enter Try.func28, Try.ntmps28
  go_upto_region 2 with (fail)
  have hz2 : w.heap.size + 1 < ((w.alloc (.cells #[.string m, .slice cA cols.length cc, .int .i64 key, .slice iA idx.length ic] 74)).alloc (.cells #[.string ⟨#[]⟩, .slice none 0 0, .int .i64 0, .slice none 0 0] 47)).heap.size := by simp
  generalize (w.alloc (.cells #[.string m, .slice cA cols.length cc, .int .i64 key, .slice iA idx.length ic] 74)).alloc (.cells #[.string ⟨#[]⟩, .slice none 0 0, .int .i64 0, .slice none 0 0] 47) = w1 at HB2 HX4 HR4 hz2 ⊢
  have hS0 : KeepT w1 w.heap.size m cA cols.length cc key iA idx.length ic w1.drew := ⟨HX4.out.c0, HX4.out.c1, HX4.out.c2, HX4.out.c3, (Below.refl _ _).drew⟩
  have HS1 : Hid (KeepT w1 w.heap.size m cA cols.length cc key iA idx.length ic w1) := Lib.hid ⟨HX4.out.c0, HX4.out.c1, HX4.out.c2, HX4.out.c3, Below.refl _ _⟩
  have hgl : w.heap.size < w1.heap.size := by omega
  go_cut [4] (fun p wx => ∃ (b : Nat) (A : Option Addr) (c : Nat), p = .pointer (some ⟨b, 0, none⟩) ∧ Tof w1 wx b m cols key A c (.slice none 0 0) [])
  case first =>
    go_region_held3 (fun W => W.cell? ⟨w.heap.size, 0, none⟩ = some (.string m) ∧ W.cell? ⟨w.heap.size, 1, none⟩ = some (.slice cA cols.length cc) ∧ W.cell? ⟨w.heap.size, 2, none⟩ = some (.int .i64 key) ∧ W.cell? ⟨w.heap.size, 3, none⟩ = some (.slice iA idx.length ic) ∧ Below w1.heap.size w1 W)
      (first | with_reducible exact hS | with_reducible exact hS0 | with_reducible exact KeepT.alloc hS _ | with_reducible exact KeepT.drew (KeepT.alloc HS1.out _) | with_reducible exact KeepT.set4 hS hgl (Nat.le_refl _) _ _ _ _)
      ((refine step_append_nil rfl (.tmp 8) (.tmp 10) 25 rfl 59 iC (.agg #[.string ⟨#[]⟩, .int .i64 0, .bool false]) 3 32 Try.underlying25 hiC hC0 hC1 hC2 rfl (by decide) rfl cA cols.length cc _ (fun e => HCA.out e) hn63 rfl HLC.out (RdC.news (HC.out.below (HB2.out.trans (by first | with_reducible exact hS.2.2.2.2.mono HB2.out.size | with_reducible exact hS0.2.2.2.2.mono HB2.out.size | with_reducible exact (KeepT.drew (KeepT.alloc HS1.out _)).2.2.2.2.mono HB2.out.size)))) (colC_one cols) HN.out ?_; intro v3 w3 hown hgn; have hb := below_none hgn; obtain ⟨A3, c3, rfl, hrc3⟩ := own_cols hown; have hS : KeepT w1 w.heap.size m cA cols.length cc key iA idx.length ic w3 := (by first | with_reducible exact KeepT.below hS hb | with_reducible exact KeepT.below hS0 hb | with_reducible exact KeepT.below (KeepT.drew (KeepT.alloc HS1.out _)) hb); have HBW : Hid (Below w1.heap.size w1 w3) := Lib.hid hS.2.2.2.2; have HO := Lib.hid hown; first | ((with_reducible have H5 := Lib.hid (new4d hb)); obtain ⟨z0, z1, z2, z3, f0, f1, f2, f3⟩ := cells4 H5.out) | ((with_reducible have H5 := Lib.hid (new4 hb)); obtain ⟨z0, z1, z2, z3, f0, f1, f2, f3⟩ := cells4 H5.out) | skip; clear hown hgn hb hrc3))
    all_goals go_wp2_with fail
    all_goals go_meet
    all_goals clear hS0 HS1 hS
    · refine ⟨w3.heap.size, A3, c3, rfl, ?_⟩
      exact tofA HO.out (Nat.le_refl _) HBW.out
    · refine ⟨w1.heap.size, A3, c3, rfl, ?_⟩
      exact tofB HO.out (by simp) HBW.out H5.out
  case rest =>
    obtain ⟨b, A, c, rfl, htof⟩ := hcut
    have HTF := Lib.hid htof
    clear htof hS0 HS1
    go_wp2
    go_loopw [5] (fun i wr => ∃ (j : Nat) (iv : Value), i = .int .i64 j ∧ j ≤ idx.length ∧ Tof w1 wr b m cols key A c iv (idx.take j)) (fun i _ => idx.length - (intOf i).toNat)
    case atStart => exact ⟨0, _, rfl, by omega, HTF.out⟩
    case round =>
      clear HTF
      obtain ⟨j, iv, rfl, hj, hT⟩ := hrel
      have HT := Lib.hid hT
      have hbl := hT.lt
      obtain ⟨IA, ic2, eiv, _⟩ := own_idx hT.ix
      obtain ⟨y0, y1, y2, y3⟩ := HX4.out.below hT.below
      have hzr := hT.below.size
      clear hT
      by_cases hlt : j < idx.length
      · obtain ⟨ad, e0, k0, k1⟩ := (HX.out.below (HB2.out.trans (HT.out.below.mono HB2.out.size))).at_ hlt
        subst e0
        have hk0 := cell_lt k0
        have htk := List.take_succ_eq_append_getElem hlt
        have HTK := Lib.hid htk
        have hjl : (j : Int) < (idx.length : Int) := by omega
        have hln : (idx.take j).length = j := by rw [List.length_take]; omega
        have HLN := Lib.hid hln
        rw [hln] at eiv
        clear htk hln
        generalize idx[j] = x at k0 k1 HTK
        subst eiv
        have q3 := cell_of_row wr b 3 _ _ (0, 0) HT.out.bx
        simp at q3
        have hTW := HT.out.grown (below1 wr (.cells #[.string x.m, .int .i64 x.c] 81))
        have HTW := Lib.hid hTW
        clear hTW
        go_wp2_with fail
        go_region_law (refine step_append_own rfl (.tmp 23) (.tmp 29) 45 rfl w1.heap.size 81 iX (.agg #[.string ⟨#[]⟩, .int .i64 0]) 2 24 Try.underlying45 hiX hX0 hX1 hX2 rfl (by decide) (.slice IA j ic2) (idx.take j).length ((idx.take j).flatMap ixC) rfl (by first | exact HTW.out.ix.drew | exact HTW.out.ix) ⟨wr.heap.size, 0, none⟩ 1 1 [.string x.m, .int .i64 x.c] rfl rfl (news_new wr #[.string x.m, .int .i64 x.c] _ [.string x.m, .int .i64 x.c] rfl) (by simp [Value.oneCell']) (by have := HLN.out; unfold maxLen; omega) (by have := HLN.out; omega) (by first | exact HTW.out.below.size | (simp; omega)) ?_; intro v' w2 hown hg; have hg' : (wr.alloc (.cells #[.string x.m, .int .i64 x.c] 81)).grownBy w2 (Value.slice IA j ic2).ownBlock := ⟨hg.os, hg.tape, hg.output, hg.size, hg.block⟩; have hb6 := HTW.out.kept hg'; have z4 := cell_of_row w2 b 3 _ _ (0, 0) hb6; have f4 := frozen_of_row w2 b 3 _ _ hb6; simp at z4; obtain ⟨A6, n6, c6, rfl⟩ : ∃ A n c, v' = .slice A n c := form_of hown; have HO6 := Lib.hid hown; have HG6 := Lib.hid hg'; clear hown hg hg' hb6)
        all_goals
          have HZ : Hid (Tof w1 (w2.setCell ⟨b, 3, none⟩ (.slice A6 n6 c6)) b m cols key A c (.slice A6 n6 c6) (idx.take (j + 1))) := Lib.hid (HTW.out.put HG6.out (by
            rw [HTK.out, List.length_append, List.flatMap_append]
            have := HO6.out
            simpa [ixC] using this))
          go_wp2
          go_roundw
          case rel => exact ⟨j + 1, _, by go_num, hlt, HZ.out⟩
          case measure => simp [intOf]; omega
      · have HT2 : Hid (Tof w1 wr b m cols key A c iv idx) := Lib.hid (by have := HT.out; rwa [List.take_of_length_le (by omega)] at this)
        obtain ⟨B, hB, hcl⟩ := HT.out.cl
        have q0 := cell_of_row wr b 0 _ _ (0, 0) HT.out.bx
        have q1 := cell_of_row wr b 1 _ _ (0, 0) HT.out.bx
        have q2 := cell_of_row wr b 2 _ _ (0, 0) HT.out.bx
        have q3 := cell_of_row wr b 3 _ _ (0, 0) HT.out.bx
        simp at q0 q1 q2 q3
        have hr5 := (HT.out.below.block _ hz2).trans HR4.out
        obtain ⟨d0, d1, d2, d3, f0, f1, f2, f3⟩ := cells4 hr5
        have hln : (idx.take j).length = idx.length := by rw [List.length_take]; omega
        rw [hln] at eiv
        subst eiv
        have hl1 : w1.heap.size ≤ B := hB
        obtain ⟨A9, c9, hcv, _⟩ := own_cols hcl
        injection hcv with hcv1 _ hcv2
        subst hcv1 hcv2
        obtain ⟨I9, i9, hiv, _⟩ := own_idx HT2.out.ix
        injection hiv with hiv1 _ hiv2
        subst hiv1 hiv2
        have hbz : b ≠ w.heap.size + 1 := by have := HT.out.hB; omega
        have HBW := Lib.hid (HB2.out.trans (HT.out.below.mono HB2.out.size))
        have hC9 : OwnC (wr.setCells (w.heap.size + 1) 0 [.string m, .slice A cols.length c, .int .i64 key, .slice IA idx.length ic2]) B (.slice A cols.length c) cols := hcl.kept (grown_setCells (w.heap.size + 1) _ 0 wr) (by
          cases hv : (Value.slice A cols.length c).ownBlock with
          | none => exact .inl rfl
          | some k => exact .inr (fun e => own_ne hcl hr5 (by decide) (by rw [hv, e])))
        have hX9 : OwnX (wr.setCells (w.heap.size + 1) 0 [.string m, .slice A cols.length c, .int .i64 key, .slice IA idx.length ic2]) w1.heap.size (.slice IA idx.length ic2) idx := HT2.out.ix.kept (grown_setCells (w.heap.size + 1) _ 0 wr) (by
          cases hv : (Value.slice IA idx.length ic2).ownBlock with
          | none => exact .inl rfl
          | some k => exact .inr (fun e => own_ne HT2.out.ix hr5 (by decide) (by rw [hv, e])))
        have HC9 := Lib.hid hC9
        have HX9 := Lib.hid hX9
        have HB9 : Hid (Below w.heap.size w (wr.setCells (w.heap.size + 1) 0 [.string m, .slice A cols.length c, .int .i64 key, .slice IA idx.length ic2])) := Lib.hid (below_cells (by omega) _ _ HBW.out)
        clear hC9 hX9 hcl hln
        go_wp2
        exact bodyPost_ret (v := tbl m A cols.length c key IA idx.length ic2) (by simp [results, Try.results28, go_sem, d0, d1, d2, d3]) rfl ⟨A, c, IA, ic2, rfl, ⟨own_le HC9.out (by omega), own_le HX9.out (by omega)⟩, HB9.out⟩
end Go.Proofs.Ytddeaiciochggaa
