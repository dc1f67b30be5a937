/- CatalogNames of any catalog, statement and name: the walk. Conditions: arguments that are read in memory, of lengths that every machine keeps. -/
import Derived.Test.YtfmjpikibfdlaaaNu
import Derived.Test.YtfmjpikibfdlaaaNp
import Derived.Test.YtfmjpikibfdlaaaNr
namespace Go.Proofs.Ytfmjpikibfdlaaa
open Go.RowKit Go.Sort Go.Maps
set_option linter.unusedSimpArgs false
set_option linter.unusedVariables false

theorem ChgPost.all {w : World} {R : Int × List Tb} {e : Ending} {w' : World} (h : ChgPost w R e w') : ∃ A n c, e = .returned (.tuple #[.agg #[.slice A n c], .int .i64 R.1]) ∧ (R.1 ≠ 0 → n = 0) ∧ (R.1 = 0 → n = R.2.length ∧ ∃ B xs, Tbs w' B (.slice A n c) xs ∧ xs.map Tr.t = R.2) ∧ Below w.heap.size w w' := by
  by_cases h0 : R.1 = 0
  · obtain ⟨v, xs, he, ht, hx⟩ := h.2.1 h0
    obtain ⟨A, n, c, rfl⟩ := form_of ht.own
    have hn : n = xs.length := by
      rcases ht.own.2 with ⟨h1, h2⟩ | ⟨g, cap, cur, h1, _⟩
      · injection h1 with _ h1 _
        omega
      · injection h1
    exact ⟨A, n, c, by rw [he, h0], fun hn => absurd h0 hn, fun _ => ⟨by rw [hn, ← hx, List.length_map], _, xs, ht, hx⟩, h.2.2⟩
  · exact ⟨none, 0, 0, h.1 h0, fun _ => rfl, fun hn => absurd hn h0, h.2.2⟩
theorem few_added {n : Nat} {ls : List Tb} {x : Sy.St n} (h : (addF ls x).1 = 0) : (∀ t ∈ (addF ls x).2, t.cols.length ≤ 100 ∧ t.idx.length ≤ 100) ∧ (addF ls x).2.length ≤ 8 := by
  obtain ⟨hp, ha⟩ := addF_ok h
  have hc := cat_of (askF_zero ha.ask).1
  rw [ha.eq]
  refine ⟨fun t ht => ?_, by simpa using hc.few⟩
  rcases List.mem_or_eq_of_mem_set ht with ht | ht
  · obtain ⟨h1, h2, _⟩ := few_of_may (hc.may t ht)
    omega
  · subst ht
    obtain ⟨h1, h2, _⟩ := few_of_may (hc.may _ (List.getElem_mem hp))
    unfold addT
    simp
    omega

theorem TrO.td2 {w : World} {B : Nat} {x : Tr} (h : TrO w B x) (hc : x.t.cols.length * 32 ≤ 140737488355328) (hi : x.t.idx.length * 24 ≤ 140737488355328 - 24) : TdOk w x.t x.A x.A' x.c x.c' := by
  obtain ⟨A, c, e, hr⟩ := own_cols h.c
  injection e with e1 _ e2
  subst e1 e2
  obtain ⟨A', c', e, hr'⟩ := own_idx h.x
  injection e with e1 _ e2
  subst e1 e2
  obtain ⟨_, _, e, hn⟩ := ownC_form h.c
  injection e with e1 _ e2
  obtain ⟨_, _, e, hn'⟩ := ownX_form h.x
  injection e with e3 _ e4
  exact ⟨hr, hr', fun e0 => by rw [← e1, ← e2] at hn; exact hn e0, fun e0 => by rw [← e3, ← e4] at hn'; exact hn' e0, hc, hi⟩
theorem RdS.fits {w : World} {A : Option Addr} {ls : List Tb} (h : RdS w A ls) : ∀ t ∈ ls, t.cols.length * 32 ≤ 140737488355328 ∧ t.idx.length * 24 ≤ 140737488355328 - 24 := fun t ht => by
  obtain ⟨j, hj, rfl⟩ := List.mem_iff_getElem.1 ht
  obtain ⟨ad, _, cA, iA, cc, ic, _, _, _, _, hT⟩ := h.at_ hj
  exact ⟨hT.cb, hT.xb⟩
theorem Tbs.rd2 {w : World} {B : Nat} {v : Value} {xs : List Tr} {ls : List Tb} (h : Tbs w B v xs) (hx : xs.map Tr.t = ls) (hc : ∀ t ∈ ls, t.cols.length * 32 ≤ 140737488355328 ∧ t.idx.length * 24 ≤ 140737488355328 - 24) : ∃ A c, v = .slice A ls.length c ∧ RdS w A ls := by
  subst hx
  rw [List.length_map]
  rcases h.own.2 with ⟨h1, h0⟩ | ⟨g, cap, cur, h1, _⟩
  · exact ⟨none, 0, by rw [h1, h0], fun hl => absurd (List.eq_nil_of_length_eq_zero (by rw [List.length_map]; exact h0)) hl⟩
  · subst h1
    refine ⟨some ⟨g, 0, none⟩, cap, rfl, fun _ => ⟨_, rfl, fun j t hj => ?_⟩⟩
    rw [List.getElem?_map] at hj
    obtain ⟨x, hx, rfl⟩ := Option.map_eq_some_iff.1 hj
    have hm := List.mem_of_getElem? hx
    have hc' := h.own.cells (g := g) rfl
    have h0 := hc' (j * 4 + 0) _ (flatK_get trC 4 trC_len xs j 0 x hx (by omega))
    have h1 := hc' (j * 4 + 1) _ (flatK_get trC 4 trC_len xs j 1 x hx (by omega))
    have h2 := hc' (j * 4 + 2) _ (flatK_get trC 4 trC_len xs j 2 x hx (by omega))
    have h3 := hc' (j * 4 + 3) _ (flatK_get trC 4 trC_len xs j 3 x hx (by omega))
    rw [add_lit] at h0 h1 h2 h3
    rw [add_lit]
    have hb := hc x.t (List.mem_map_of_mem hm)
    refine ⟨x.A, x.A', x.c, x.c', h0, ?_, ?_, ?_, (h.tabs x hm).td2 hb.1 hb.2⟩
    · rw [← Nat.add_assoc] at h1; exact h1
    · rw [← Nat.add_assoc] at h2; exact h2
    · rw [← Nat.add_assoc] at h3; exact h3
set_option maxRecDepth 100000 in
set_option maxHeartbeats 16000000 in
theorem kNames_any {n : Nat} (A : Option Addr) (c : Nat) (ls : List Tb) (x : Sy.St n) (h : Sy.Hs) (s : ByteArray) (w : World) (hr : RdS w A ls) (hn : ls.length * 72 ≤ 140737488355328) (hx : Sy.RdSt Sy.Any w x h) :
    Calls Try.prog 5 #[.agg #[.slice A ls.length c], x.val h, .string s] w fun e w' => e = .returned (.bool true) ∧ Below w.heap.size w w' := by
  have hb1 := below1 w (.cells #[.slice A ls.length c] 24)
  have hb2 := below1 (w.alloc (.cells #[.slice A ls.length c] 24)) (.cells (x.cs h) 31)
  have h1 : Bxr ((w.alloc (.cells #[.slice A ls.length c] 24)).alloc (.cells (x.cs h) 31)) w.heap.size (.slice A ls.length c) := Bxr.below (heap_alloc_new w _) hb2
  have h2 : ((w.alloc (.cells #[.slice A ls.length c] 24)).alloc (.cells (x.cs h) 31)).heap[w.heap.size + 1]? = some (.cells (x.cs h) 31 (0, 0)) := stmt_row x h (w.alloc (.cells #[.slice A ls.length c] 24)) (by simp) (Below.refl _ _)
  have HB2 := Lib.hid (thn hb1 hb2)
  have HS2 := Lib.hid h1
  have HX2 := Lib.hid h2
  have HAL := Lib.hid fun W => alive_any W
  have HALL := Lib.hid fun (W : World) (hb : Below w.heap.size w W) => all_any A c ls W (hr.below hb) hn
  have HADD := Lib.hid fun (W : World) (hb : Below w.heap.size w W) (B : Option Addr) (k : Nat) (hs : RdS W B ls) => add_any B k ls x h W hs (by omega) (hx.below hb)
  have HADD2 := Lib.hid fun (W : World) (hb : Below w.heap.size w W) (B : Option Addr) (k : Nat) (hs : RdS W B (addF ls x).2) (h8 : (addF ls x).2.length ≤ 8) => add_any B k (addF ls x).2 (⟨x.kind, s, x.cols, x.key, x.ix, x.rows, x.sets, x.items, x.jn, x.on, x.wh, x.gr, x.ord, x.lim⟩ : Sy.St n) h W hs (by omega) ⟨(hx.below hb).C, (hx.below hb).R, (hx.below hb).S, (hx.below hb).I, (hx.below hb).O, (hx.below hb).W, (hx.below hb).G, (hx.below hb).D⟩
  have HAG := Lib.hid fun (h0 : (addF ls x).1 = 0) => add_again (ls := ls) (x := x) (y := (⟨x.kind, s, x.cols, x.key, x.ix, x.rows, x.sets, x.items, x.jn, x.on, x.wh, x.gr, x.ord, x.lim⟩ : Sy.St n)) h0 rfl
  have HFA := Lib.hid fun (h0 : (addF ls x).1 = 0) => few_added h0
  have HRD := Lib.hid hr
  clear hr hx hb1 hb2 h1 h2
  generalize addF ls x = R at HADD HADD2 HAG HFA
  generalize addF R.2 (⟨x.kind, s, x.cols, x.key, x.ix, x.rows, x.sets, x.items, x.jn, x.on, x.wh, x.gr, x.ord, x.lim⟩ : Sy.St n) = R2 at HADD2 HAG
  obtain ⟨kd, tb, cols, key, ix, rows, sets, items, jn, on, wh, gr, ord, lim⟩ := x
  obtain ⟨⟨aC, cC⟩, ⟨aR, cR⟩, ⟨aS, cS⟩, ⟨aI, cI⟩, ⟨aO, cO⟩, ⟨aW, cW⟩, ⟨aG, cG⟩, ⟨aD, cD⟩⟩ := h
  dsimp only [Sy.St.cs, Sy.St.val] at *
  go_enter Try.func5, Try.ntmps5
  go_upto_region 1 with fail
  generalize (w.alloc (.cells #[.slice A ls.length c] 24)).alloc (.cells #[.int .i64 kd, .string tb, .slice aC cols.length cC, .string key, .string ix, .slice aR rows.length cR, .slice aS sets.length cS, .slice aI items.length cI, .string jn, .slice aO on.length cO, .slice aW wh.length cW, .slice aG gr.length cG, .slice aD ord.length cD, .int .i64 lim] 31) = w2 at HB2 HS2 HX2 ⊢
  have HFT := Lib.hid HRD.out.fits
  go_upto_region 3 with (go_at_call 6; (with_reducible refine (HAL.out _).mono ?_); rintro e w3 ⟨rfl, hb⟩; have HS3 := Lib.hid (HS2.out.below hb); have HX3 := Lib.hid (row_below HX2.out hb); have HB3 := Lib.hid (thn HB2.out hb); clear hb)
  obtain ⟨s0, sf⟩ := HS3.out.cells
  obtain ⟨y0, y1, y2, y3, y4, y5, y6, y7, y8, y9, y10, y11, y12, y13⟩ := Sy.cells14 HX3.out
  clear HS2 HX2 HB2 HAL
  have HB3d := Lib.hid HB3.out.drew
  have ha := below1 w3 (.cells #[.slice none 0 0] 35)
  have HB3a := Lib.hid (thn HB3.out ha).drew
  have HX3a := Lib.hid (row_below (row_below HX3.out ha) (Below.refl _ _).drew)
  have HZ3 := Lib.hid (Bx1.below (heap_alloc_new w3 (.cells #[.slice none 0 0] 35) : Bx1 (w3.alloc (.cells #[.slice none 0 0] 35)) w3.heap.size (.slice none 0 0)) (Below.refl _ _).drew)
  obtain ⟨x0, x1, x2, x3, x4, x5, x6, x7, x8, x9, x10, x11, x12, x13⟩ := Sy.cells14 (row_below HX3.out ha)
  obtain ⟨s1, _⟩ := (HS3.out.below ha).cells
  have hl3 := HS3.out.lt
  clear ha
  go_cut [7, 8] (fun p e wx => ∃ (b : Nat) (A5 : Option Addr) (n5 c5 : Nat), p = .pointer (some ⟨b, 0, none⟩) ∧ e = .int .i64 R.1 ∧ Bx1 wx b (.slice A5 n5 c5) ∧ (R.1 ≠ 0 → n5 = 0) ∧ (R.1 = 0 → n5 = R.2.length ∧ ∃ B xs, Tbs wx B (.slice A5 n5 c5) xs ∧ xs.map Tr.t = R.2) ∧ wx.heap[w.heap.size + 1]? = some (.cells #[.int .i64 kd, .string tb, .slice aC cols.length cC, .string key, .string ix, .slice aR rows.length cR, .slice aS sets.length cS, .slice aI items.length cI, .string jn, .slice aO on.length cO, .slice aW wh.length cW, .slice aG gr.length cG, .slice aD ord.length cD, .int .i64 lim] 31 (0, 0)) ∧ Below w.heap.size w wx)
  case first =>
    go_region_law (first
      | (go_simp; go_at_call 8; (with_reducible refine (HALL.out _ HB3d.out).mono ?_); rintro e v4 ⟨v, xs, rfl, htb, hxs, hb⟩; obtain ⟨A4, c4, rfl, hrd⟩ := htb.rd2 hxs HFT.out; have HRD4 := Lib.hid hrd; have HX4 := Lib.hid (row_below (row_below HX3.out (Below.refl _ _).drew) hb); have HB4 := Lib.hid (thn HB3d.out hb); obtain ⟨z0, z1, z2, z3, z4, z5, z6, z7, z8, z9, z10, z11, z12, z13⟩ := Sy.cells14 HX4.out; have hza := below1 v4 (.cells #[.slice none 0 0] 35); obtain ⟨u0, u1, u2, u3, u4, u5, u6, u7, u8, u9, u10, u11, u12, u13⟩ := Sy.cells14 (row_below HX4.out hza); clear htb hxs hrd hb hza)
      | (go_simp; go_at_call 8; (with_reducible refine (HALL.out _ HB3a.out).mono ?_); rintro e v4 ⟨v, xs, rfl, htb, hxs, hb⟩; obtain ⟨A4, c4, rfl, hrd⟩ := htb.rd2 hxs HFT.out; have HRD4 := Lib.hid hrd; have HX4 := Lib.hid (row_below HX3a.out hb); have HB4 := Lib.hid (thn HB3a.out hb); have HZ4 := Lib.hid (HZ3.out.below hb); obtain ⟨z0, z1, z2, z3, z4, z5, z6, z7, z8, z9, z10, z11, z12, z13⟩ := Sy.cells14 HX4.out; clear htb hxs hrd hb)
      | (go_simp; go_at_call 11; (with_reducible refine (HADD.out _ HB4.out A4 c4 HRD4.out).mono ?_); intro e v5 hp; obtain ⟨A5, n5, c5, rfl, h51, h52, hb⟩ := hp.all; have H51 := Lib.hid h51; have H52 := Lib.hid h52; have HX5 := Lib.hid (row_below HX4.out hb); have HB5 := Lib.hid (thn HB4.out hb); first | (have HZ5 := Lib.hid (HZ4.out.below hb); obtain ⟨q0, qf⟩ := HZ5.out.cells) | skip; clear hp h51 h52 hb)
      | (go_simp; go_at_call 11; (with_reducible refine (HADD.out _ (thn HB4.out (below1 _ _)) A4 c4 (HRD4.out.below (below1 _ _))).mono ?_); intro e v5 hp; obtain ⟨A5, n5, c5, rfl, h51, h52, hb⟩ := hp.all; have H51 := Lib.hid h51; have H52 := Lib.hid h52; have HX5 := Lib.hid (row_below (row_below HX4.out (below1 _ _)) hb); have HB5 := Lib.hid (thn (thn HB4.out (below1 _ _)) hb); have HZ5 := Lib.hid (Bx1.below (heap_alloc_new v4 (.cells #[.slice none 0 0] 35) : Bx1 (v4.alloc (.cells #[.slice none 0 0] 35)) v4.heap.size (.slice none 0 0)) hb); obtain ⟨q0, qf⟩ := HZ5.out.cells; clear hp h51 h52 hb))
    all_goals go_wp2_with fail
    all_goals go_meet
    all_goals first
      | exact ⟨v5.heap.size, A5, n5, c5, rfl, rfl, heap_alloc_new v5 _, H51.out, fun h0 => ⟨(H52.out h0).1, by obtain ⟨B, xs, ht, hx⟩ := (H52.out h0).2; exact ⟨B, xs, ht.below (below1 _ _), hx⟩⟩, row_below HX5.out (below1 _ _), thn HB5.out (below1 _ _)⟩
      | exact ⟨v4.heap.size, A5, n5, c5, rfl, rfl, HZ5.out.set _, H51.out, fun h0 => ⟨(H52.out h0).1, by obtain ⟨B, xs, ht, hx⟩ := (H52.out h0).2; exact ⟨B, xs, ht.kept (grown_setCell v5 _ 0 _) HZ5.out (by decide) (by decide) (by decide), hx⟩⟩, row_other HX5.out _ (by have := HB4.out.size; have h9 : w.heap.size + 1 < v4.heap.size := (Array.getElem?_eq_some_iff.1 HX4.out).1; simp; omega) _, below_set HB5.out _ (by have := HB4.out.size; simp; omega) _⟩
      | exact ⟨w3.heap.size, A5, n5, c5, rfl, rfl, HZ5.out.set _, H51.out, fun h0 => ⟨(H52.out h0).1, by obtain ⟨B, xs, ht, hx⟩ := (H52.out h0).2; exact ⟨B, xs, ht.kept (grown_setCell v5 _ 0 _) HZ5.out (by decide) (by decide) (by decide), hx⟩⟩, row_other HX5.out _ (by have h9 : w.heap.size + 1 < w3.heap.size := (Array.getElem?_eq_some_iff.1 HX3.out).1; simp; omega) _, below_set HB5.out _ (by have := HB3.out.size; simp; omega) _⟩
  case rest =>
    obtain ⟨b, A5, n5, c5, rfl, rfl, hb5, h51, h52, hx5, hbw⟩ := hcut
    have HX5 := Lib.hid hx5
    have HB5 := Lib.hid hbw
    have HN5 := Lib.hid hb5
    obtain ⟨q0, qf⟩ := hb5.cells
    clear hx5 hbw hb5
    by_cases h0 : R.1 = 0
    · obtain ⟨hn5, B, xs, ht, hxs⟩ := h52 h0
      obtain ⟨hfew, h8⟩ := HFA.out h0
      obtain ⟨A9, c9, e9, hrd⟩ := ht.rd2 hxs (fun t ht => by have := hfew t ht; omega)
      injection e9 with e91 _ e92
      subst e91 e92 hn5
      have HRD5 := Lib.hid hrd
      have h2 := HAG.out h0
      generalize hE : R.1 = E at h0 ⊢
      subst h0
      obtain ⟨y0, y1, y2, y3, y4, y5, y6, y7, y8, y9, y10, y11, y12, y13⟩ := Sy.cells14 HX5.out
      clear ht hxs hrd h51 h52
      go_upto_region 8 with (go_at_call 9; refine (num_any _ _).mono ?_; rintro e w9 ⟨rfl, rfl⟩)
      have h6 := below1 wc (.cells #[.int .i64 kd, .string s, .slice aC cols.length cC, .string key, .string ix, .slice aR rows.length cR, .slice aS sets.length cS, .slice aI items.length cI, .string jn, .slice aO on.length cO, .slice aW wh.length cW, .slice aG gr.length cG, .slice aD ord.length cD, .int .i64 lim] 31)
      have HN6 := Lib.hid (HN5.out.below h6)
      have HB6 := Lib.hid (thn HB5.out h6)
      have HRD6 := Lib.hid (HRD5.out.below h6)
      have HY6 : Hid ((wc.alloc (.cells #[.int .i64 kd, .string s, .slice aC cols.length cC, .string key, .string ix, .slice aR rows.length cR, .slice aS sets.length cS, .slice aI items.length cI, .string jn, .slice aO on.length cO, .slice aW wh.length cW, .slice aG gr.length cG, .slice aD ord.length cD, .int .i64 lim] 31)).heap[wc.heap.size]? = some (.cells #[.int .i64 kd, .string s, .slice aC cols.length cC, .string key, .string ix, .slice aR rows.length cR, .slice aS sets.length cS, .slice aI items.length cI, .string jn, .slice aO on.length cO, .slice aW wh.length cW, .slice aG gr.length cG, .slice aD ord.length cD, .int .i64 lim] 31 (0, 0))) := Lib.hid (heap_alloc_new wc _)
      clear q0 qf y0 y1 y2 y3 y4 y5 y6 y7 y8 y9 y10 y11 y12 y13 h6 HN5 HB5 HRD5 HX5
      generalize wc.alloc (.cells #[.int .i64 kd, .string s, .slice aC cols.length cC, .string key, .string ix, .slice aR rows.length cR, .slice aS sets.length cS, .slice aI items.length cI, .string jn, .slice aO on.length cO, .slice aW wh.length cW, .slice aG gr.length cG, .slice aD ord.length cD, .int .i64 lim] 31) = w6 at *
      generalize wc.heap.size = yb at *
      obtain ⟨q0, qf⟩ := HN6.out.cells
      obtain ⟨y0, y1, y2, y3, y4, y5, y6, y7, y8, y9, y10, y11, y12, y13⟩ := Sy.cells14 HY6.out
      go_upto_region 9 with (go_at_call 11; (with_reducible refine (HADD2.out _ HB6.out A5 c5 HRD6.out h8).mono ?_); intro e v7 hp; obtain ⟨A7, n7, c7, rfl, h71, h72, hb⟩ := hp.all; obtain rfl := h71 h2; have HB7 := Lib.hid (thn HB6.out hb); clear hp h71 h72 hb)
      generalize R2.1 = E2 at h2 ⊢
      have q7 := cell_of_box (w := v7) (v := .slice A7 0 c7) (T := 35) rfl (Below.refl _ _)
      have HB8 := Lib.hid (thn HB7.out (below1 v7 (.cells #[.slice A7 0 c7] 35)))
      clear q0 qf y0 y1 y2 y3 y4 y5 y6 y7 y8 y9 y10 y11 y12 y13
      go_wp2_with (go_at_call 9; refine (num_any _ _).mono ?_; rintro e w9 ⟨rfl, rfl⟩)
      go_ret
      exact ⟨rfl, HB8.out⟩
    · obtain rfl := h51 h0
      clear h51 h52
      generalize R.1 = E at h0 ⊢
      go_wp2_with (go_at_call 9; refine (num_any _ _).mono ?_; rintro e w9 ⟨rfl, rfl⟩)
      go_ret
      exact ⟨rfl, HB5.out⟩
end Go.Proofs.Ytfmjpikibfdlaaa
