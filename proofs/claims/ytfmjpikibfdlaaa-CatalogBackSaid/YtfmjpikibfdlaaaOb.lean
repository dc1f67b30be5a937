/- What Encode makes of a table: the walk. Conditions: a table that is read in memory. -/
import Derived.Test.YtfmjpikibfdlaaaOa
namespace Go.Proofs.Ytfmjpikibfdlaaa
open Go.RowKit Go.Sort Go.Maps
set_option linter.unusedSimpArgs false
set_option linter.unusedVariables false

theorem Try.infoE : (Try.prog.info? 86).map (fun i => (i.zero, i.size, i.bytes)) = some (some (.agg #[.int .i64 0, .int .i64 0, .string ⟨#[]⟩]), 3, 32) := by kernel_rfl
/-- What Encode comes to. -/
def EncPost (w : World) (t : Tb) (e : Ending) (w' : World) : Prop :=
  (tblB t = false → e = .returned (.tuple #[.slice none 0 0, .int .i64 9])) ∧ (tblB t = true → ∃ v, e = .returned (.tuple #[v, .int .i64 0]) ∧ OwnE w' w.heap.size v (encV t)) ∧ Below w.heap.size w w'
theorem colsV_len (l : List Cl) : (l.flatMap colV).length = l.length * 3 := by
  induction l with
  | nil => rfl
  | cons a l ih => simp only [List.flatMap_cons, List.length_append, ih, List.length_cons]; simp [colV]; omega
theorem ixsV_len (l : List Ix) : (l.flatMap ixV).length = l.length * 2 := by
  induction l with
  | nil => rfl
  | cons a l ih => simp only [List.flatMap_cons, List.length_append, ih, List.length_cons]; simp [ixV]; omega
theorem Bx4.grown {w w' : World} {b : Nat} {a0 a1 a2 a3 : Value} {r : Option Nat} (h : Bx4 w b a0 a1 a2 a3) (hg : w.grownBy w' r) (hr : r ≠ some b) : Bx4 w' b a0 a1 a2 a3 := by
  unfold Bx4
  rw [hg.block b h.lt (fun e => hr e.symm)]; exact h

set_option maxRecDepth 100000 in
set_option maxHeartbeats 16000000 in
theorem encode_any (t : Tb) (cA iA : Option Addr) (cc ic : Nat) (w : World) (ht : TdOk w t cA iA cc ic) :
    Calls Try.prog 15 #[tbl t.m cA t.cols.length cc t.key iA t.idx.length ic] w (EncPost w t) := by
  obtain ⟨iV, hiV, hV0, hV1, hV2⟩ := info_parts Try.infoE
  have hb1 := below1 w (.cells #[.string t.m, .slice cA t.cols.length cc, .int .i64 t.key, .slice iA t.idx.length ic] 47)
  have h1 : Bx4 (w.alloc (.cells #[.string t.m, .slice cA t.cols.length cc, .int .i64 t.key, .slice iA t.idx.length ic] 47)) w.heap.size (.string t.m) (.slice cA t.cols.length cc) (.int .i64 t.key) (.slice iA t.idx.length ic) := heap_alloc_new w _
  have hb2 := below1 (w.alloc (.cells #[.string t.m, .slice cA t.cols.length cc, .int .i64 t.key, .slice iA t.idx.length ic] 47)) (.map #[] 0)
  have hsm : IsSet ((w.alloc (.cells #[.string t.m, .slice cA t.cols.length cc, .int .i64 t.key, .slice iA t.idx.length ic] 47)).alloc (.map #[] 0)) (w.heap.size + 1) 0 (.map []) := by
    have h := World.ownsMap_made (w.alloc (.cells #[.string t.m, .slice cA t.cols.length cc, .int .i64 t.key, .slice iA t.idx.length ic] 47)) Try.prog 9 (unitElem (H := Unit))
    rwa [World.size_alloc] at h
  have HB2 := Lib.hid (thn hb1 hb2)
  have HX2 := Lib.hid (h1.below hb2)
  have HIT := Lib.hid (isTable_any t cA iA cc ic (w.heap.size + 1) _ (ht.below (thn hb1 hb2)).c (ht.below (thn hb1 hb2)).x (by have := ht.cb; omega) ⟨_, _, hsm⟩)
  obtain ⟨b0, b1, b2, b3, f0, f1, f2, f3⟩ := cells4 h1
  have hmm := @run_makeMap Try.prog
  have HTD := Lib.hid ht
  clear hb1 h1 hb2 hsm ht
  cases hT : tblB t
  · rw [hT] at HIT
    have HTT := Lib.hid hT
    clear hT
    go_enter Try.func15, Try.ntmps15
    go_wp2_with (go_at_call 33; (with_reducible refine HIT.out.mono ?_); rintro e w3 ⟨rfl, _, hg⟩; have HB3 := Lib.hid (HB2.out.grown hg HB2.out.size (fun k hk => by injection hk with hk; omega)); clear hg)
    go_ret2
    exact ⟨fun _ => rfl, (fun h => by rw [HTT.out] at h; cases h), HB3.out⟩
  · rw [hT] at HIT
    obtain ⟨fc, fi, fm, fcm, fim⟩ := few_of_may hT
    have HTT := Lib.hid hT
    have HFC := Lib.hid fcm
    have HFI := Lib.hid fim
    clear hT fcm fim
    obtain ⟨m, cols, key, idx⟩ := t
    dsimp only at *
    have HTX := Lib.hid fun W => text_any m W (by omega)
    have HNU := Lib.hid fun (n : Int) W => number_any n W
    go_enter Try.func15, Try.ntmps15
    go_upto_region 3 with (go_at_call 33; (with_reducible refine HIT.out.mono ?_); rintro e w3 ⟨rfl, _, hg⟩; have HX3 := Lib.hid (HX2.out.grown hg (by intro e; injection e with e; omega)); have HB3 := Lib.hid (HB2.out.grown hg HB2.out.size (fun k hk => by injection hk with hk; omega)); clear hg)
    clear b0 b1 b2 b3 f0 f1 f2 f3 HX2 HB2 HIT hmm
    obtain ⟨b0, b1, b2, b3, _, _, _, _⟩ := cells4 HX3.out
    have hbl : ∀ W W', (W.cell? ⟨w.heap.size, 0, none⟩ = some (.string m) ∧ W.cell? ⟨w.heap.size, 1, none⟩ = some (.slice cA cols.length cc) ∧ W.cell? ⟨w.heap.size, 2, none⟩ = some (.int .i64 key) ∧ Below w3.heap.size w3 W) → Below W.heap.size W W' → (W'.cell? ⟨w.heap.size, 0, none⟩ = some (.string m) ∧ W'.cell? ⟨w.heap.size, 1, none⟩ = some (.slice cA cols.length cc) ∧ W'.cell? ⟨w.heap.size, 2, none⟩ = some (.int .i64 key) ∧ Below w3.heap.size w3 W') := fun W W' h hb => ⟨(hb.cell (cell_lt h.1)).trans h.1, (hb.cell (cell_lt h.2.1)).trans h.2.1, (hb.cell (cell_lt h.2.2.1)).trans h.2.2.1, h.2.2.2.trans (hb.mono h.2.2.2.size)⟩
    have hS0 : w3.drew.cell? ⟨w.heap.size, 0, none⟩ = some (.string m) ∧ w3.drew.cell? ⟨w.heap.size, 1, none⟩ = some (.slice cA cols.length cc) ∧ w3.drew.cell? ⟨w.heap.size, 2, none⟩ = some (.int .i64 key) ∧ Below w3.heap.size w3 w3.drew := ⟨b0, b1, b2, (Below.refl _ _).drew⟩
    have HBL := Lib.hid hbl
    clear b0 b1 b2 b3 hbl
    go_cut [4] (fun v wx => OwnE wx w.heap.size v [vT m, vN key, vN cols.length] ∧ Bx4 wx w.heap.size (.string m) (.slice cA cols.length cc) (.int .i64 key) (.slice iA idx.length ic) ∧ Below w.heap.size w wx)
    case first =>
      go_region_held3 (fun W => W.cell? ⟨w.heap.size, 0, none⟩ = some (.string m) ∧ W.cell? ⟨w.heap.size, 1, none⟩ = some (.slice cA cols.length cc) ∧ W.cell? ⟨w.heap.size, 2, none⟩ = some (.int .i64 key) ∧ Below w3.heap.size w3 W)
        (first | with_reducible exact hS | with_reducible exact hS0 | with_reducible exact HBL.out _ _ hS (below1 _ _) | assumption)
        ((first | (go_at_call 34; (with_reducible refine (HTX.out _).mono ?_); rintro e v5 ⟨rfl, hb⟩; have hS := HBL.out _ _ hS0 hb; clear hb) | (go_at_call 35; (with_reducible refine (HNU.out _ _).mono ?_); rintro e v6 ⟨rfl, hb⟩; have hS := HBL.out _ _ hS hb; clear hb)))
      all_goals go_wp2_with fail
      all_goals go_meet
      all_goals exact ⟨owns_new _ w.heap.size _ 3 3 _ ([vT m, vN key, vN cols.length].flatMap v3C) (by have h1 := HB3.out.size; have h2 := hS.2.2.2.size; omega) rfl rfl (by unfold maxLen; decide), (HX3.out.below hS.2.2.2).below (below1 _ _), thn (thn HB3.out hS.2.2.2) (below1 _ _)⟩
    case rest =>
      obtain ⟨ho, hx, hb⟩ := hcut
      have HO4 := Lib.hid ho
      have HX4 := Lib.hid hx
      have HB4 := Lib.hid hb
      obtain ⟨b0, b1, b2, b3, _, _, _, _⟩ := cells4 hx
      clear ho hx hb HBL hS0 HX3 HB3
      go_wp2
      go_loopw [4, 6, 27] (fun v _ i wr => ∃ j : Nat, i = .int .i64 j ∧ j ≤ cols.length ∧ OwnE wr w.heap.size v ([vT m, vN key, vN cols.length] ++ (cols.take j).flatMap colV) ∧ Bx4 wr w.heap.size (.string m) (.slice cA cols.length cc) (.int .i64 key) (.slice iA idx.length ic) ∧ Below w.heap.size w wr) (fun _ _ i _ => cols.length - (intOf i).toNat)
      case atStart => exact ⟨0, rfl, by omega, by simpa using HO4.out, HX4.out, HB4.out⟩
      case round =>
        obtain ⟨j, rfl, hj, hO, hX, hB⟩ := hrel
        have HO := Lib.hid hO
        have HX := Lib.hid hX
        have HB := Lib.hid hB
        clear hO hX hB b0 b1 b2 b3
        by_cases hlt : j < cols.length
        · obtain ⟨ad, rfl, k0, k1, k2⟩ := (HTD.out.below HB.out).c.at_ hlt
          have hlt' : (j : Int) < (cols.length : Int) := by omega
          have htk : (cols.take (j + 1)).flatMap colV = (cols.take j).flatMap colV ++ colV cols[j] := by rw [List.take_succ_eq_append_getElem hlt, List.flatMap_append]; simp
          have HTK := Lib.hid htk
          have hln : ((cols.take j).flatMap colV).length = j * 3 := by rw [colsV_len, List.length_take]; omega
          have hx16 := HFC.out _ (List.getElem_mem hlt)
          clear htk
          generalize cols[j] = x at k0 k1 k2 HTK hx16
          have HTC := Lib.hid fun W => text_any x.m W (by omega)
          have HTR := Lib.hid fun W => truth_any x.nn W
          go_upto_region 7 with fail
          have ha := below1 wr (.cells #[.string x.m, .int .i64 x.k, .bool x.nn] 63)
          have q0 : (wr.alloc (.cells #[.string x.m, .int .i64 x.k, .bool x.nn] 63)).cell? ⟨wr.heap.size, 0, none⟩ = some (.string x.m) := by rw [cell_last _ _ _ _ _ rfl]; rfl
          have q1 : (wr.alloc (.cells #[.string x.m, .int .i64 x.k, .bool x.nn] 63)).cell? ⟨wr.heap.size, 1, none⟩ = some (.int .i64 x.k) := by rw [cell_last _ _ _ _ _ rfl]; rfl
          have q2 : (wr.alloc (.cells #[.string x.m, .int .i64 x.k, .bool x.nn] 63)).cell? ⟨wr.heap.size, 2, none⟩ = some (.bool x.nn) := by rw [cell_last _ _ _ _ _ rfl]; rfl
          have HOa := Lib.hid (own_below HO.out ha)
          have HXa := Lib.hid (HX.out.below ha)
          have HBa := Lib.hid (thn HB.out ha)
          clear ha HO HX HB k0 k1 k2
          generalize wr.alloc (.cells #[.string x.m, .int .i64 x.k, .bool x.nn] 63) = wa at *
          generalize wr.heap.size = cb at *
          go_region_law (first
            | (refine step_append_own rfl (.tmp 31) (.tmp 41) 53 rfl w.heap.size 86 iV (.agg #[.int .i64 0, .int .i64 0, .string ⟨#[]⟩]) 3 32 Try.underlying53 hiV hV0 hV1 hV2 rfl (by decide) u4 ([vT m, vN key, vN cols.length] ++ (cols.take j).flatMap colV).length (([vT m, vN key, vN cols.length] ++ (cols.take j).flatMap colV).flatMap v3C) rfl HOW.out ⟨v3.heap.size, 0, none⟩ 3 3 ((colV x).flatMap v3C) rfl rfl HNW.out (v3C_one _) (by rw [List.length_append, hln]; unfold maxLen; simp; omega) (by rw [List.length_append, hln]; simp; omega) HSZ.out ?_; intro v' w2 hown hg; have HO2 := Lib.hid (show OwnE w2 w.heap.size v' ([vT m, vN key, vN cols.length] ++ (cols.take (j + 1)).flatMap colV) by rw [HTK.out, ← List.append_assoc]; unfold OwnE; rw [List.length_append, List.flatMap_append]; exact hown); have HX2 := Lib.hid (HXW.out.grown hg (own_ne HOW.out HXW.out (by decide))); have HB2 := Lib.hid (HBW.out.grown hg HBW.out.size (fun k hk => (HOW.out.lt k hk).1)); clear hown hg)
            | (go_simp; go_at_call 34; (with_reducible refine (HTC.out _).mono ?_); rintro e v1 ⟨rfl, hb⟩; have h1 := thn (Below.refl wa.heap.size wa).drew hb; have H1 := Lib.hid h1; have z1 := (h1.cell (cell_lt q1)).trans q1; have z2 := (h1.cell (cell_lt q2)).trans q2; clear hb h1)
            | (go_simp; go_at_call 35; (with_reducible refine (HNU.out _ _).mono ?_); rintro e v2 ⟨rfl, hb⟩; have h2 := thn H1.out hb; have H2 := Lib.hid h2; have y2 := (h2.cell (cell_lt q2)).trans q2; clear hb h2)
            | (go_simp; go_at_call 36; (with_reducible refine (HTR.out _).mono ?_); rintro e v3 ⟨rfl, hb⟩; have h3 := thn (thn H2.out hb) (below1 v3 (.cells #[.int .i64 (vT x.m).k, .int .i64 (vT x.m).n, .string (vT x.m).s, .int .i64 (vN x.k).k, .int .i64 (vN x.k).n, .string (vN x.k).s, .int .i64 (vB x.nn).k, .int .i64 (vB x.nn).n, .string (vB x.nn).s] 86)); have HOW := Lib.hid (own_below HOa.out h3); have HXW := Lib.hid (HXa.out.below h3); have HBW := Lib.hid (thn HBa.out h3); have HSZ := Lib.hid HBW.out.size; have HNW := Lib.hid (news_new0 v3 #[.int .i64 (vT x.m).k, .int .i64 (vT x.m).n, .string (vT x.m).s, .int .i64 (vN x.k).k, .int .i64 (vN x.k).n, .string (vN x.k).s, .int .i64 (vB x.nn).k, .int .i64 (vB x.nn).n, .string (vB x.nn).s] 86 ((colV x).flatMap v3C) rfl); clear hb h3))
          all_goals
            go_wp2
            go_roundw
            case rel => exact ⟨j + 1, by go_num, hlt, HO2.out, HX2.out, HB2.out⟩
            case measure => simp [intOf]; omega
        · obtain rfl : j = cols.length := by omega
          have ho1 : OwnE wr w.heap.size u4 ([vT m, vN key, vN cols.length] ++ cols.flatMap colV) := by have := HO.out; rwa [List.take_length] at this
          have HO1 := Lib.hid ho1
          have hl1 : ([vT m, vN key, vN cols.length] ++ cols.flatMap colV).length = 3 + cols.length * 3 := by rw [List.length_append, colsV_len]; simp
          obtain ⟨b0, b1, b2, b3, _, _, _, _⟩ := cells4 HX.out
          clear ho1 HO
          go_upto_region 10 with (first
            | (go_at_call 35; (with_reducible refine (HNU.out _ _).mono ?_); rintro e v5 ⟨rfl, hb⟩; have h6 := thn hb (below1 v5 (.cells #[.int .i64 (vN (idx.length : Int)).k, .int .i64 (vN (idx.length : Int)).n, .string (vN (idx.length : Int)).s] 86)); have HOW := Lib.hid (own_below HO1.out h6); have HXW := Lib.hid (HX.out.below h6); have HBW := Lib.hid (thn HB.out h6); have HNW := Lib.hid (news_new0 v5 #[.int .i64 (vN (idx.length : Int)).k, .int .i64 (vN (idx.length : Int)).n, .string (vN (idx.length : Int)).s] 86 ([vN (idx.length : Int)].flatMap v3C) rfl); clear hb h6)
            | (at_builtin; refine wpList_append_own_at _ rfl _ _ 53 rfl w.heap.size 86 iV (.agg #[.int .i64 0, .int .i64 0, .string ⟨#[]⟩]) 3 32 Try.underlying53 hiV hV0 hV1 hV2 rfl (by decide) u4 ([vT m, vN key, vN cols.length] ++ cols.flatMap colV).length (([vT m, vN key, vN cols.length] ++ cols.flatMap colV).flatMap v3C) rfl HOW.out ⟨v5.heap.size, 0, none⟩ 1 1 ([vN (idx.length : Int)].flatMap v3C) rfl rfl HNW.out (v3C_one _) (by rw [hl1]; unfold maxLen; omega) (by rw [hl1]; omega) HBW.out.size ?_; intro v' w2 hown hg _ _; have HO2 := Lib.hid (show OwnE w2 w.heap.size v' ([vT m, vN key, vN cols.length] ++ cols.flatMap colV ++ [vN idx.length]) by unfold OwnE; rw [List.length_append, List.flatMap_append]; exact hown); have HX2 := Lib.hid (HXW.out.grown hg (own_ne HOW.out HXW.out (by decide))); have HB2 := Lib.hid (HBW.out.grown hg HBW.out.size (fun k hk => (HOW.out.lt k hk).1)); clear hown hg))
          clear b0 b1 b2 b3 HO1 HX HB HOW HXW HBW HNW
          obtain ⟨b0, b1, b2, b3, _, _, _, _⟩ := cells4 HX2.out
          go_wp2
          generalize hw2 : w2 = wz at *
          go_loopw [4, 8, 54] (fun v _ i wq => ∃ j : Nat, i = .int .i64 j ∧ j ≤ idx.length ∧ OwnE wq w.heap.size v (([vT m, vN key, vN cols.length] ++ cols.flatMap colV ++ [vN idx.length]) ++ (idx.take j).flatMap ixV) ∧ Bx4 wq w.heap.size (.string m) (.slice cA cols.length cc) (.int .i64 key) (.slice iA idx.length ic) ∧ Below w.heap.size w wq) (fun _ _ i _ => idx.length - (intOf i).toNat)
          case atStart => exact ⟨0, rfl, by omega, by simpa using HO2.out, HX2.out, HB2.out⟩
          case round =>
            obtain ⟨j, rfl, hj, hO, hX, hB⟩ := hrel
            have HO := Lib.hid hO
            have HX := Lib.hid hX
            have HB := Lib.hid hB
            clear hO hX hB b0 b1 b2 b3
            by_cases hlt : j < idx.length
            · obtain ⟨ad, rfl, k0, k1⟩ := (HTD.out.below HB.out).x.at_ hlt
              have hlt' : (j : Int) < (idx.length : Int) := by omega
              have htk : (idx.take (j + 1)).flatMap ixV = (idx.take j).flatMap ixV ++ ixV idx[j] := by rw [List.take_succ_eq_append_getElem hlt, List.flatMap_append]; simp
              have HTK := Lib.hid htk
              have hln : ((idx.take j).flatMap ixV).length = j * 2 := by rw [ixsV_len, List.length_take]; omega
              have hx16 := HFI.out _ (List.getElem_mem hlt)
              clear htk
              generalize idx[j] = x at k0 k1 HTK hx16
              have HTC := Lib.hid fun W => text_any x.m W (by omega)
              go_upto_region 13 with fail
              have ha := below1 wr (.cells #[.string x.m, .int .i64 x.c] 81)
              have q0 : (wr.alloc (.cells #[.string x.m, .int .i64 x.c] 81)).cell? ⟨wr.heap.size, 0, none⟩ = some (.string x.m) := by rw [cell_last _ _ _ _ _ rfl]; rfl
              have q1 : (wr.alloc (.cells #[.string x.m, .int .i64 x.c] 81)).cell? ⟨wr.heap.size, 1, none⟩ = some (.int .i64 x.c) := by rw [cell_last _ _ _ _ _ rfl]; rfl
              have HOa := Lib.hid (own_below HO.out ha)
              have HXa := Lib.hid (HX.out.below ha)
              have HBa := Lib.hid (thn HB.out ha)
              clear ha HO HX HB k0 k1
              generalize wr.alloc (.cells #[.string x.m, .int .i64 x.c] 81) = wa at *
              generalize wr.heap.size = cb at *
              go_region_law (first
                | (refine step_append_own rfl (.tmp 58) (.tmp 65) 53 rfl w.heap.size 86 iV (.agg #[.int .i64 0, .int .i64 0, .string ⟨#[]⟩]) 3 32 Try.underlying53 hiV hV0 hV1 hV2 rfl (by decide) u4 (([vT m, vN key, vN cols.length] ++ cols.flatMap colV ++ [vN idx.length]) ++ (idx.take j).flatMap ixV).length ((([vT m, vN key, vN cols.length] ++ cols.flatMap colV ++ [vN idx.length]) ++ (idx.take j).flatMap ixV).flatMap v3C) rfl HOW.out ⟨v2.heap.size, 0, none⟩ 2 2 ((ixV x).flatMap v3C) rfl rfl HNW.out (v3C_one _) (by rw [List.length_append, hln, List.length_append, hl1]; unfold maxLen; simp; omega) (by rw [List.length_append, hln, List.length_append, hl1]; simp; omega) HSZ.out ?_; intro v' w2 hown hg; have HO2 := Lib.hid (show OwnE w2 w.heap.size v' (([vT m, vN key, vN cols.length] ++ cols.flatMap colV ++ [vN idx.length]) ++ (idx.take (j + 1)).flatMap ixV) by rw [HTK.out, ← List.append_assoc]; unfold OwnE; rw [List.length_append, List.flatMap_append]; exact hown); have HX2 := Lib.hid (HXW.out.grown hg (own_ne HOW.out HXW.out (by decide))); have HB2 := Lib.hid (HBW.out.grown hg HBW.out.size (fun k hk => (HOW.out.lt k hk).1)); clear hown hg)
                | (go_simp; go_at_call 34; (with_reducible refine (HTC.out _).mono ?_); rintro e v1 ⟨rfl, hb⟩; have h1 := thn (Below.refl wa.heap.size wa).drew hb; have H1 := Lib.hid h1; have z1 := (h1.cell (cell_lt q1)).trans q1; clear hb h1)
                | (go_simp; go_at_call 35; (with_reducible refine (HNU.out _ _).mono ?_); rintro e v2 ⟨rfl, hb⟩; have h3 := thn (thn H1.out hb) (below1 v2 (.cells #[.int .i64 (vT x.m).k, .int .i64 (vT x.m).n, .string (vT x.m).s, .int .i64 (vN x.c).k, .int .i64 (vN x.c).n, .string (vN x.c).s] 86)); have HOW := Lib.hid (own_below HOa.out h3); have HXW := Lib.hid (HXa.out.below h3); have HBW := Lib.hid (thn HBa.out h3); have HSZ := Lib.hid HBW.out.size; have HNW := Lib.hid (news_new0 v2 #[.int .i64 (vT x.m).k, .int .i64 (vT x.m).n, .string (vT x.m).s, .int .i64 (vN x.c).k, .int .i64 (vN x.c).n, .string (vN x.c).s] 86 ((ixV x).flatMap v3C) rfl); clear hb h3))
              all_goals
                go_wp2
                go_roundw
                case rel => exact ⟨j + 1, by go_num, hlt, HO2.out, HX2.out, HB2.out⟩
                case measure => simp [intOf]; omega
            · obtain rfl : j = idx.length := by omega
              have ho9 : OwnE wr w.heap.size u4 (encV ⟨m, cols, key, idx⟩) := by
                have h1 := HO.out
                rw [List.take_length] at h1
                have e : encV ⟨m, cols, key, idx⟩ = ([vT m, vN key, vN cols.length] ++ cols.flatMap colV ++ [vN idx.length]) ++ idx.flatMap ixV := by unfold encV; simp
                rw [e]; exact h1
              have HO9 := Lib.hid ho9
              clear ho9
              go_wp2
              go_ret2
              exact ⟨(fun h => by rw [HTT.out] at h; cases h), fun _ => ⟨_, rfl, HO9.out⟩, HB.out⟩
end Go.Proofs.Ytfmjpikibfdlaaa
