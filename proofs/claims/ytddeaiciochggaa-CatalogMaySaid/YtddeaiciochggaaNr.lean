/- A catalog of the statements made one of the program's: the walk of All. Conditions: tables that are read in memory, of a number that every machine keeps. -/
import Derived.Test.YtddeaiciochggaaNq
namespace Go.Proofs.Ytddeaiciochggaa
open Go.RowKit Go.Sort Go.Maps
set_option linter.unusedSimpArgs false
set_option linter.unusedVariables false

/-- Block b is one slice. -/
abbrev Bxr (w : World) (b : Nat) (v : Value) : Prop := w.heap[b]? = some (.cells #[v] 24 (0, 0))
theorem Bxr.below {w w' : World} {b : Nat} {v : Value} (h : Bxr w b v) (hb : Below w.heap.size w w') : Bxr w' b v := by
  unfold Bxr
  rw [hb.block b (Array.getElem?_eq_some_iff.1 h).1]; exact h
theorem Bxr.lt {w : World} {b : Nat} {v : Value} (h : Bxr w b v) : b < w.heap.size := (Array.getElem?_eq_some_iff.1 h).1
theorem Bxr.other {w : World} {b : Nat} {v : Value} (h : Bxr w b v) (p : Addr) (hp : b ≠ p.block) (u : Value) : Bxr (w.setCell p u) b v := by
  unfold Bxr
  rw [heap_setCell_other w p b u hp]; exact h
theorem Bxr.cells {w : World} {b : Nat} {v : Value} (h : Bxr w b v) : w.cell? ⟨b, 0, none⟩ = some v ∧ w.frozen? ⟨b, 0, none⟩ = false := by
  simp [World.cell?, World.frozen?, h]
theorem Bxr.grown {w w' : World} {b : Nat} {v : Value} {r : Option Nat} (h : Bxr w b v) (hg : w.grownBy w' r) (hr : r ≠ some b) : Bxr w' b v := by
  unfold Bxr
  rw [hg.block b h.lt (fun e => hr e.symm)]; exact h

set_option maxRecDepth 100000 in
set_option maxHeartbeats 8000000 in
theorem all_any (A : Option Addr) (c : Nat) (ls : List Tb) (w : World) (hr : RdS w A ls) (hn : ls.length * 72 ≤ 140737488355328) :
    Calls Try.prog 7 #[.agg #[.slice A ls.length c]] w fun e w' => ∃ v xs, e = .returned (.agg #[v]) ∧ Tbs w' w.heap.size v xs ∧ xs.map Tr.t = ls ∧ Below w.heap.size w w' := by
  obtain ⟨i0, hi0, hz0, hz1, hz2⟩ := info_parts Try.infoT
  have HR := Lib.hid hr
  have hB3 := ((below1 w (.cells #[.slice A ls.length c] 24)).alloc (by simp) (.cells #[.slice none 0 0] 35)).alloc (by simp; omega) (.cells #[.slice none 0 0] 35)
  have h1 := heap_alloc_new w (.cells #[.slice A ls.length c] 24)
  have hT : Bxr (((w.alloc (.cells #[.slice A ls.length c] 24)).alloc (.cells #[.slice none 0 0] 35)).alloc (.cells #[.slice none 0 0] 35)) w.heap.size (.slice A ls.length c) := (Bxr.below h1 (below1 _ _)).below (below1 _ _)
  have h2 := heap_alloc_new (w.alloc (.cells #[.slice A ls.length c] 24)) (.cells #[.slice none 0 0] 35)
  rw [World.size_alloc] at h2
  have hRs : Bx1 (((w.alloc (.cells #[.slice A ls.length c] 24)).alloc (.cells #[.slice none 0 0] 35)).alloc (.cells #[.slice none 0 0] 35)) (w.heap.size + 1) (.slice none 0 0) := Bx1.below h2 (below1 _ _)
  have h3 := heap_alloc_new ((w.alloc (.cells #[.slice A ls.length c] 24)).alloc (.cells #[.slice none 0 0] 35)) (.cells #[.slice none 0 0] 35)
  rw [World.size_alloc, World.size_alloc] at h3
  have HB3 := Lib.hid hB3
  have HT3 := Lib.hid hT
  have HRs := Lib.hid hRs
  have HN3 : Hid (Bx1 (((w.alloc (.cells #[.slice A ls.length c] 24)).alloc (.cells #[.slice none 0 0] 35)).alloc (.cells #[.slice none 0 0] 35)) (w.heap.size + 1 + 1) (.slice none 0 0)) := Lib.hid h3
  obtain ⟨t0, ft⟩ := hT.cells
  clear hr hB3 h1 hT h2 hRs h3
  go_enter Try.func7, Try.ntmps7
  go_upto_region 2 with fail
  generalize ((w.alloc (.cells #[.slice A ls.length c] 24)).alloc (.cells #[.slice none 0 0] 35)).alloc (.cells #[.slice none 0 0] 35) = w3 at HB3 HT3 HRs HN3 t0 ft ⊢
  go_wp2
  go_loopw [4] (fun i wr => ∃ (j : Nat) (v : Value) (xs : List Tr), i = .int .i64 j ∧ j ≤ ls.length ∧ xs.map Tr.t = ls.take j ∧ Bxr wr w.heap.size (.slice A ls.length c) ∧ Bx1 wr (w.heap.size + 1) (.slice none 0 0) ∧ Bx1 wr (w.heap.size + 1 + 1) v ∧ Tbs wr (w.heap.size + 3) v xs ∧ Below w.heap.size w wr) (fun i _ => ls.length - (intOf i).toNat)
  case atStart => exact ⟨0, _, [], rfl, by omega, by simp, HT3.out, HRs.out, HN3.out, ⟨World.ownsRow_nil _ _ _ _, fun x hx => by simp at hx⟩, HB3.out⟩
  case round =>
    obtain ⟨j, v, xs, rfl, hj, hxs, hT, hRr, hN, hS, hB⟩ := hrel
    have HXS := Lib.hid hxs
    have HT := Lib.hid hT
    have HRr := Lib.hid hRr
    have HN := Lib.hid hN
    have HS := Lib.hid hS
    have HB := Lib.hid hB
    obtain ⟨t0, ft⟩ := hT.cells
    clear hxs hRr hN hS hB hT
    have hxl : xs.length = j := by have := congrArg List.length HXS.out; rw [List.length_map, List.length_take] at this; omega
    by_cases hlt : j < ls.length
    · obtain ⟨ad, rfl, cA, iA, cc, ic, k0, k1, k2, k3, hT⟩ := (HR.out.below HB.out).at_ hlt
      have hjl : (j : Int) < (ls.length : Int) := by omega
      have htk : ls.take (j + 1) = ls.take j ++ [ls[j]] := List.take_succ_eq_append_getElem hlt
      have HTK := Lib.hid htk
      have hcp := fun (W : World) (hb : Below wr.heap.size wr W) => ofO_any ls[j] cA iA cc ic W (hT.below hb).c (hT.below hb).x hT.cn hT.cb hT.xb
      have HCP := Lib.hid hcp
      clear htk hT hcp
      generalize ls[j] = t at k0 k1 k2 k3 HTK HCP
      go_upto_region 5 with fail
      obtain ⟨n0, nf⟩ := HN.out.cells
      have HCA := Lib.hid (HCP.out _ (Below.refl _ _).drew)
      have hsz : w.heap.size + 1 + 1 < wr.heap.size := HN.out.lt
      clear HCP
      have HNa := HN
      have HRa := HRr
      have HSa := HS
      have HBa := HB
      have HTa := HT
      clear HN HRr HS HB HT
      generalize hwa : wr = wa at *
      go_region_law (first
        | (refine step_append_own rfl (.tmp 13) (.tmp 20) 33 rfl (w.heap.size + 3) 47 i0 (.agg #[.string ⟨#[]⟩, .slice none 0 0, .int .i64 0, .slice none 0 0]) 4 72 Try.underlying33 hi0 hz0 hz1 hz2 rfl (by decide) v xs.length (xs.flatMap trC) rfl HSA.out.own ⟨v5.heap.size, 0, none⟩ 1 1 [.string t.m, .slice A5 t.cols.length c5, .int .i64 t.key, .slice A6 t.idx.length c6] rfl rfl HNW.out (by simp [Value.oneCell']) (by unfold maxLen; omega) (by omega) HSZ.out ?_; intro v' w2 hown hg; have HN2 := Lib.hid (HNB.out.grown hg (own_ne HSA.out.own HNB.out (by decide))); obtain ⟨z0, zf⟩ := HN2.out.cells; have HMO := Lib.hid (Tbs.more (x := ⟨t, A5, c5, A6, c6⟩) HSA.out HTO.out hown hg); have HR2 := Lib.hid (HRB.out.grown hg (own_ne HSA.out.own HRB.out (by decide))); have HT2 := Lib.hid (HTB.out.grown hg (own_ne HSA.out.own HTB.out (by decide))); have HB2 := Lib.hid (HBB.out.grown hg (by have := HBB.out.size; omega) (fun k hk => by have := (HSA.out.own.lt k hk).1; omega)); obtain ⟨A7, n7, c7, rfl⟩ := form_of hown; clear hown hg)
        | (go_simp; go_at_call 28; (with_reducible refine HCA.out.mono ?_); rintro e v5 ⟨A5, c5, A6, c6, rfl, hto, hb5⟩; have h5 := thn HBa.out.drew hb5; have h6 := below1 v5 (.cells #[.string t.m, .slice A5 t.cols.length c5, .int .i64 t.key, .slice A6 t.idx.length c6] 47); have HSA := Lib.hid (((HSa.out.below (Below.refl _ _).drew).below hb5).below h6); have HNW := Lib.hid (news_new0 v5 #[.string t.m, .slice A5 t.cols.length c5, .int .i64 t.key, .slice A6 t.idx.length c6] 47 _ rfl); have HNB := Lib.hid (((HNa.out.below (Below.refl _ _).drew).below hb5).below h6); have HRB := Lib.hid (((HRa.out.below (Below.refl _ _).drew).below hb5).below h6); have HTB := Lib.hid (((HTa.out.below (Below.refl _ _).drew).below hb5).below h6); have HBB := Lib.hid (thn h5 h6); have HTO : Hid (TrO (v5.alloc (.cells #[.string t.m, .slice A5 t.cols.length c5, .int .i64 t.key, .slice A6 t.idx.length c6] 47)) (w.heap.size + 3) ⟨t, A5, c5, A6, c6⟩) := Lib.hid (TrO.below (w := v5) (hto.le (by have : wa.drew.heap.size = wa.heap.size := rfl; omega)) h6); have HSZ := Lib.hid (show w.heap.size + 3 ≤ (v5.alloc (.cells #[.string t.m, .slice A5 t.cols.length c5, .int .i64 t.key, .slice A6 t.idx.length c6] 47)).heap.size by have h7 : wa.heap.size ≤ v5.heap.size := hb5.size; simp; omega); obtain ⟨n1, nf1⟩ := ((HNa.out.below (Below.refl _ _).drew).below hb5).cells; obtain ⟨n2, nf2⟩ := HNB.out.cells; clear hto hb5 h5 h6))
      all_goals
        have HN9 := Lib.hid (HN2.out.set (.slice A7 n7 c7))
        have HR9 := Lib.hid (HR2.out.other ⟨w.heap.size + 1 + 1, 0, none⟩ (by simp) (.slice A7 n7 c7))
        have HT9 := Lib.hid (HT2.out.other ⟨w.heap.size + 1 + 1, 0, none⟩ (by simp; omega) (.slice A7 n7 c7))
        have HM9 := Lib.hid (HMO.out.kept (grown_setCell w2 (w.heap.size + 1 + 1) 0 (.slice A7 n7 c7)) HN2.out (by decide) (by decide) (by decide))
        have HB9 := Lib.hid (below_set HB2.out ⟨w.heap.size + 1 + 1, 0, none⟩ (by simp; omega) (.slice A7 n7 c7))
        have hx9 : (xs ++ [(⟨t, A5, c5, A6, c6⟩ : Tr)]).map Tr.t = ls.take (j + 1) := by rw [HTK.out, List.map_append, HXS.out]; rfl
        have HX9 := Lib.hid hx9
        clear HN2 HR2 HMO HB2 hx9 HT2
        go_wp2
        go_roundw
        case rel => exact ⟨j + 1, _, xs ++ [(⟨t, A5, c5, A6, c6⟩ : Tr)], by go_num, hlt, HX9.out, HT9.out, HR9.out, HN9.out, HM9.out, HB9.out⟩
        case measure => simp [intOf]; omega
    · obtain rfl : j = ls.length := by omega
      obtain ⟨A9, n9, c9, rfl⟩ := form_of HS.out.own
      obtain ⟨n0, nf⟩ := HN.out.cells
      obtain ⟨r0, rf⟩ := HRr.out.cells
      obtain ⟨r1, rf1⟩ := (HRr.out.set (.slice A9 n9 c9)).cells
      have HM9 := Lib.hid (HS.out.kept (grown_setCell wr (w.heap.size + 1) 0 (.slice A9 n9 c9)) HRr.out (by decide) (by decide) (by decide))
      have HB9 := Lib.hid (below_set HB.out ⟨w.heap.size + 1, 0, none⟩ (by simp) (.slice A9 n9 c9))
      have hx9 : xs.map Tr.t = ls := by rw [HXS.out, List.take_length]
      have HX9 := Lib.hid hx9
      clear hx9
      go_wp2
      exact bodyPost_ret (v := .agg #[.slice A9 n9 c9]) (by simp [results, Try.results7, go_sem, r1]) rfl ⟨.slice A9 n9 c9, xs, rfl, HM9.out.le (by omega), HX9.out, HB9.out⟩
end Go.Proofs.Ytddeaiciochggaa
