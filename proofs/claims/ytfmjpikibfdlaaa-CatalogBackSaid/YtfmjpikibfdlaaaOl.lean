/- A table comes back from its values: the walk of the statement's function. Conditions: a table that is read in memory. -/
import Derived.Test.YtfmjpikibfdlaaaOc
import Derived.Test.YtfmjpikibfdlaaaOe
/- What Decode makes of a table's list: the walk. Conditions: a list that is read in memory, of a table that may be. -/
namespace Go.Proofs.Ytfmjpikibfdlaaa
open Go.RowKit Go.Sort Go.Maps
set_option linter.unusedSimpArgs false
set_option linter.unusedVariables false

theorem encV_len (t : Tb) : (encV t).length = 4 + t.cols.length * 3 + t.idx.length * 2 := by
  unfold encV
  simp only [List.length_append, List.length_cons, List.length_nil, colsV_len, ixsV_len]
  omega
theorem TrO.td3 {w : World} {B : Nat} {x : Tr} (h : TrO w B x) (hc : x.t.cols.length * 32 ≤ 140737488355328) (hi : x.t.idx.length * 24 ≤ 140737488355328 - 24) : TdOk w x.t x.A x.A' x.c x.c' := by
  obtain ⟨A, c, e, hr⟩ := own_cols h.c
  injection e with e1 _ e2
  subst e1 e2
  obtain ⟨A', c', e, hr'⟩ := own_idx h.x
  injection e with e1 _ e2
  subst e1 e2
  obtain ⟨_, _, e, hn⟩ := ownC_form h.c
  injection e with e1 _ e2
  obtain ⟨_, _, e, hn'⟩ := ownX_form h.x
  injection e with e3 _ e4
  exact ⟨hr, hr', fun e0 => by rw [← e1, ← e2] at hn; exact hn e0, fun e0 => by rw [← e3, ← e4] at hn'; exact hn' e0, hc, hi⟩
theorem ownE_cap {w : World} {B : Nat} {A : Option Addr} {n c : Nat} {l : List V3} (h : OwnE w B (.slice A n c) l) : c ≤ 9223372036854775807 := by
  rcases h.2 with ⟨e, _⟩ | ⟨g, cap, cur, e, _, _, _, hm, _⟩
  · injection e with _ _ e
    omega
  · injection e with _ _ e
    unfold maxLen at hm
    omega
set_option maxRecDepth 100000 in
set_option maxHeartbeats 8000000 in
theorem decode_any (t : Tb) (L : Option Addr) (lc : Nat) (w : World) (ht : tblB t = true) (hl : RdV w L (encV t)) (hlc : (encV t).length ≤ lc) (hlc2 : lc ≤ 9223372036854775807) :
    Calls Try.prog 17 #[.slice L (encV t).length lc] w fun e w' => ∃ A c A' c', e = .returned (.tuple #[tbl t.m A t.cols.length c t.key A' t.idx.length c', .int .i64 0]) ∧ TrO w' w.heap.size ⟨t, A, c, A', c'⟩ ∧ Below w.heap.size w w' := by
  obtain ⟨fc, fi, fm, fcm, fim⟩ := few_of_may ht
  have hlen := encV_len t
  have hb1 := below1 w (.cells #[.string ⟨#[]⟩, .slice none 0 0, .int .i64 0, .slice none 0 0] 47)
  have hz1 : Bx4 (w.alloc (.cells #[.string ⟨#[]⟩, .slice none 0 0, .int .i64 0, .slice none 0 0] 47)) w.heap.size (.string eT) (.slice none 0 0) (.int .i64 0) (.slice none 0 0) := heap_alloc_new w _
  have hb2 := below1 (w.alloc (.cells #[.string ⟨#[]⟩, .slice none 0 0, .int .i64 0, .slice none 0 0] 47)) (.cells #[.slice L (encV t).length lc] 92)
  have hrd := heap_alloc_new (w.alloc (.cells #[.string ⟨#[]⟩, .slice none 0 0, .int .i64 0, .slice none 0 0] 47)) (.cells #[.slice L (encV t).length lc] 92)
  rw [World.size_alloc] at hrd
  have hleft : Left w ((w.alloc (.cells #[.string ⟨#[]⟩, .slice none 0 0, .int .i64 0, .slice none 0 0] 47)).alloc (.cells #[.slice L (encV t).length lc] 92)) (w.heap.size + 1) (encV t) := ⟨⟨L, lc, hrd, hl, hlc, hlc2⟩, by omega, thn hb1 hb2⟩
  have HTB := Lib.hid (table_any t w _ (w.heap.size + 1) ht (by simp) hleft)
  have HZ2 := Lib.hid (hz1.below hb2)
  have HB2 := Lib.hid (thn hb1 hb2)
  have HL := Lib.hid hl
  have HT := Lib.hid ht
  have HLEN := Lib.hid hlen
  clear hb1 hz1 hb2 hrd hleft hl fcm fim hlen ht
  generalize hn : (encV t).length = n at *
  go_enter Try.func17, Try.ntmps17
  go_upto_region 3 with (go_at_call 37; (with_reducible refine HTB.out.mono ?_); rintro e w3 ⟨A, c, A', c', rfl, ho, hg⟩; have HO3 := Lib.hid ho; have HZ3 := Lib.hid (HZ2.out.grown hg (by intro e; injection e with e; omega)); have HB3 := Lib.hid (HB2.out.grown hg HB2.out.size (fun k hk => by injection hk with hk; omega)); clear ho hg)
  clear HTB HZ2 HB2
  have hb4 := below1 w3 (.cells #[.string t.m, .slice A t.cols.length c, .int .i64 t.key, .slice A' t.idx.length c'] 47)
  have hx4 : Bx4 (w3.alloc (.cells #[.string t.m, .slice A t.cols.length c, .int .i64 t.key, .slice A' t.idx.length c'] 47)) w3.heap.size (.string t.m) (.slice A t.cols.length c) (.int .i64 t.key) (.slice A' t.idx.length c') := heap_alloc_new w3 _
  have ho4 := HO3.out.below hb4
  have HEN := Lib.hid (encode_any t A A' c c' _ (ho4.td3 (by dsimp only; omega) (by dsimp only; omega)))
  have HX4 := Lib.hid hx4
  have HO4 := Lib.hid ho4
  have HZ4 := Lib.hid (HZ3.out.below hb4)
  have HB4 := Lib.hid (thn HB3.out hb4)
  obtain ⟨b0, b1, b2, b3, _, _, _, _⟩ := cells4 hx4
  clear hb4 hx4 ho4 HO3 HZ3 HB3
  generalize hwa : w3.alloc (.cells #[.string t.m, .slice A t.cols.length c, .int .i64 t.key, .slice A' t.idx.length c'] 47) = wa at *
  generalize hg3 : w3.heap.size = g3 at *
  clear hwa hg3
  go_upto_region 4 with (go_at_call 15; (with_reducible refine HEN.out.mono ?_); intro e w5 hp; obtain ⟨v, he, ho5⟩ := hp.2.1 HT.out; have hb5 := hp.2.2; subst he; have HX5 := Lib.hid (HX4.out.below hb5); have HO5 := Lib.hid (HO4.out.below hb5); have HZ5 := Lib.hid (HZ4.out.below hb5); have HB5 := Lib.hid (thn HB4.out hb5); obtain ⟨A9, c9, rfl, hr9, _, _⟩ := ownE_rd ho5; rw [hn]; have HR9 := Lib.hid hr9; clear hp ho5 hb5 hr9)
  clear HEN HX4 HO4 HZ4 HB4 b0 b1 b2 b3
  have heq := fun W (hb : Below w5.heap.size w5 W) => equalV_eq A9 L c9 lc (encV t) W (HR9.out.below hb) ((HL.out.below HB5.out).below hb) (by have := HLEN.out; omega)
  rw [hn] at heq
  have HEQ := Lib.hid heq
  clear heq
  go_wp2_with (go_at_call 38; (with_reducible refine (HEQ.out _ (Below.refl _ _)).mono ?_); rintro e w6 ⟨rfl, hb⟩; have HX6 := Lib.hid (HX5.out.below hb); have HO6 := Lib.hid (HO5.out.below hb); have HZ6 := Lib.hid (HZ5.out.below hb); have HB6 := Lib.hid (thn HB5.out hb); obtain ⟨d0, d1, d2, d3, _, _, _, _⟩ := cells4 HX6.out; obtain ⟨_, _, _, _, f0, f1, f2, f3⟩ := cells4 HZ6.out; clear hb)
  have hs : w6.grownBy ((((w6.setCell ⟨w.heap.size, 0, none⟩ (.string t.m)).setCell ⟨w.heap.size, 1, none⟩ (.slice A t.cols.length c)).setCell ⟨w.heap.size, 2, none⟩ (.int .i64 t.key)).setCell ⟨w.heap.size, 3, none⟩ (.slice A' t.idx.length c')) (some w.heap.size) :=
    grown_trans (grown_trans (grown_trans (grown_setCell _ _ _ _) (grown_setCell _ _ _ _)) (grown_setCell _ _ _ _)) (grown_setCell _ _ _ _)
  have hz9 := (((HZ6.out.set0 (.string t.m)).set1 (.slice A t.cols.length c)).set2 (.int .i64 t.key)).set3 (.slice A' t.idx.length c')
  obtain ⟨r0, r1, r2, r3, _, _, _, _⟩ := cells4 hz9
  have ht9 := HO6.out.kept hs (fun k hk => by injection hk with hk; subst hk; exact ⟨_, _, _, HZ6.out, by decide, by decide⟩)
  exact bodyPost_ret (v := .tuple #[tbl t.m A t.cols.length c t.key A' t.idx.length c', .int .i64 0]) (by simp [results, Try.results17, go_sem, r0, r1, r2, r3]) rfl
    ⟨A, c, A', c', rfl, ht9.le (by simp; omega), HB6.out.grown hs HB6.out.size (fun k hk => by injection hk with hk; omega)⟩
end Go.Proofs.Ytfmjpikibfdlaaa
namespace Go.Proofs.Ytfmjpikibfdlaaa
open Go.RowKit Go.Sort Go.Maps
set_option linter.unusedSimpArgs false
set_option linter.unusedVariables false

/-- A table of the statements' own, in a box. -/
abbrev Bxw (w : World) (b : Nat) (a0 a1 a2 a3 : Value) : Prop := w.heap[b]? = some (.cells #[a0, a1, a2, a3] 52 (0, 0))
theorem cellsw {w : World} {b : Nat} {a0 a1 a2 a3 : Value} (h : Bxw w b a0 a1 a2 a3) : w.cell? ⟨b, 0, none⟩ = some a0 ∧ w.cell? ⟨b, 1, none⟩ = some a1 ∧ w.cell? ⟨b, 2, none⟩ = some a2 ∧ w.cell? ⟨b, 3, none⟩ = some a3 := by
  simp [World.cell?, h]
set_option maxRecDepth 100000 in
set_option maxHeartbeats 8000000 in
theorem kBack_any (t : Tb) (cA iA : Option Addr) (cc ic : Nat) (w : World) (ht : TdOk w t cA iA cc ic) :
    Calls Try.prog 4 #[tbl t.m cA t.cols.length cc t.key iA t.idx.length ic] w fun e w' => e = .returned (.bool true) ∧ Below w.heap.size w w' := by
  have hb1 := below1 w (.cells #[.string t.m, .slice cA t.cols.length cc, .int .i64 t.key, .slice iA t.idx.length ic] 52)
  have h1 : Bxw (w.alloc (.cells #[.string t.m, .slice cA t.cols.length cc, .int .i64 t.key, .slice iA t.idx.length ic] 52)) w.heap.size (.string t.m) (.slice cA t.cols.length cc) (.int .i64 t.key) (.slice iA t.idx.length ic) := heap_alloc_new w _
  have HAL := Lib.hid (alive_any (w.alloc (.cells #[.string t.m, .slice cA t.cols.length cc, .int .i64 t.key, .slice iA t.idx.length ic] 52)))
  have HX1 := Lib.hid h1
  have HB1 := Lib.hid hb1
  have HT := Lib.hid ht
  have hcb := ht.cb
  have hxb := ht.xb
  have HN := Lib.hid fun n W => num_any n W
  clear hb1 h1 ht
  go_enter Try.func4, Try.ntmps4
  go_upto_region 3 with (go_at_call 6; (with_reducible refine HAL.out.mono ?_); rintro e w2 ⟨rfl, hb⟩; have HX2 := Lib.hid (row_below HX1.out hb); have HB2 := Lib.hid (thn HB1.out hb); clear hb)
  obtain ⟨b0, b1, b2, b3⟩ := cellsw HX2.out
  have htd := HT.out.below HB2.out
  have HOF := Lib.hid (ofO_any t cA iA cc ic w2 htd.c htd.x htd.cn hcb hxb)
  clear htd HAL HX1 HB1
  cases hT : tblB t
  · go_upto_region 4 with (first
      | (go_at_call 16; (with_reducible refine HOF.out.mono ?_); rintro e w3 ⟨cA3, cc3, iA3, ic3, rfl, ho, hb⟩; have HX3 := Lib.hid (row_below HX2.out hb); have HB3 := Lib.hid (thn HB2.out hb); have HEN := Lib.hid (encode_any t cA3 iA3 cc3 ic3 w3 (ho.td3 hcb hxb)); clear ho hb)
      | (go_at_call 15; (with_reducible refine HEN.out.mono ?_); intro e w4 hp; have he := hp.1 hT; have hb := hp.2.2; subst he; have HX4 := Lib.hid (row_below HX3.out hb); have HB4 := Lib.hid (thn HB3.out hb); clear hp hb))
    go_wp2_with (go_at_call 9; refine (HN.out _ _).mono ?_; rintro e w9 ⟨rfl, rfl⟩)
    go_ret
    exact ⟨rfl, HB4.out⟩
  · obtain ⟨fc, fi, _, _, _⟩ := few_of_may hT
    go_upto_region 4 with (first
      | (go_at_call 16; (with_reducible refine HOF.out.mono ?_); rintro e w3 ⟨cA3, cc3, iA3, ic3, rfl, ho, hb⟩; have HX3 := Lib.hid (row_below HX2.out hb); have HB3 := Lib.hid (thn HB2.out hb); have HEN := Lib.hid (encode_any t cA3 iA3 cc3 ic3 w3 (ho.td3 hcb hxb)); clear ho hb)
      | (go_at_call 15; (with_reducible refine HEN.out.mono ?_); intro e w4 hp; obtain ⟨v, he, ho⟩ := hp.2.1 hT; have hb := hp.2.2; subst he; have HX4 := Lib.hid (row_below HX3.out hb); have HB4 := Lib.hid (thn HB3.out hb); obtain ⟨A9, c9, rfl, hr9, _, hle9⟩ := ownE_rd ho; have HDE := Lib.hid (decode_any t A9 c9 w4 hT hr9 hle9 (ownE_cap ho)); clear hp hb ho hr9 hle9))
    go_upto_region 7 with (first
      | (go_at_call 9; refine (HN.out _ _).mono ?_; rintro e w9 ⟨rfl, rfl⟩)
      | (go_at_call 17; (with_reducible refine HDE.out.mono ?_); rintro e w5 ⟨A, c, A', c', rfl, ho, hb⟩; have HX5 := Lib.hid (row_below HX4.out hb); have HB5 := Lib.hid (thn HB4.out hb); have HO5 := Lib.hid ho; clear ho hb))
    have hb6 := below1 w5 (.cells #[.string t.m, .slice A t.cols.length c, .int .i64 t.key, .slice A' t.idx.length c'] 47)
    have hx6 : Bx4 (w5.alloc (.cells #[.string t.m, .slice A t.cols.length c, .int .i64 t.key, .slice A' t.idx.length c'] 47)) w5.heap.size (.string t.m) (.slice A t.cols.length c) (.int .i64 t.key) (.slice A' t.idx.length c') := heap_alloc_new w5 _
    have htd := (HO5.out.below hb6).td3 hcb hxb
    have ht6 := HT.out.below (thn HB5.out hb6)
    have HAK := Lib.hid (alike_eq t A A' cA iA c c' cc ic _ htd.c htd.x ht6.c ht6.x (by omega) (by omega))
    have HB6 := Lib.hid (thn HB5.out hb6)
    obtain ⟨x0, x1, x2, x3, _, _, _, _⟩ := cells4 hx6
    obtain ⟨y0, y1, y2, y3⟩ := cellsw (row_below HX5.out hb6)
    clear hb6 hx6 htd ht6 b0 b1 b2 b3 HX2 HX3 HX4 HX5
    generalize w5.alloc (.cells #[.string t.m, .slice A t.cols.length c, .int .i64 t.key, .slice A' t.idx.length c'] 47) = wa at *
    go_wp2_with (first
      | (go_at_call 9; refine (HN.out _ _).mono ?_; rintro e w9 ⟨rfl, rfl⟩)
      | (go_at_call 18; (with_reducible refine HAK.out.mono ?_); rintro e w7 ⟨rfl, hb⟩; have HB7 := Lib.hid (thn HB6.out hb); clear hb))
    go_ret
    exact ⟨rfl, HB7.out⟩
end Go.Proofs.Ytfmjpikibfdlaaa
