/- The reference's catalogs copied: the walk of Own. Conditions: tables that are read in memory, of a number that every machine keeps. -/
import Derived.Test.YtipcacplphidhaaGreatQd
/- The reference's tables in memory of the call's own: how they lie, and what keeps them. Conditions: none. -/
namespace Go.Proofs.YtipcacplphidhaaGreat.Rf
open Go.RowKit Go.Sort Go.Maps
set_option linter.unusedSimpArgs false
set_option linter.unusedVariables false

theorem Tryz.infoX : (Tryz.prog.info? 87).map (fun i => (i.zero, i.size, i.bytes)) = some (some (.agg #[.string ⟨#[]⟩, .int .i64 0]), 2, 24) := by kernel_rfl
theorem Tryz.infoT : (Tryz.prog.info? 57).map (fun i => (i.zero, i.size, i.bytes)) = some (some (.agg #[.string ⟨#[]⟩, .slice none 0 0, .int .i64 0, .slice none 0 0]), 4, 72) := by kernel_rfl
abbrev OwnX (w : World) (B : Nat) (v : Value) (l : List Ix) : Prop := w.ownsRow B 87 2 v l.length (l.flatMap ixC)
theorem ownX_form {w : World} {B : Nat} {v : Value} {l : List Ix} (h : OwnX w B v l) : ∃ A c, v = .slice A l.length c ∧ (A = none → l.length = 0 ∧ c = 0) := by
  rcases h.2 with ⟨h1, h0⟩ | ⟨g, cap, cur, h1, _⟩
  · exact ⟨none, 0, by rw [h1, h0], fun _ => ⟨h0, rfl⟩⟩
  · exact ⟨_, _, h1, fun e => by cases e⟩
theorem flatX (l : List Ix) (j i : Nat) (v : Ix) (h : l[j]? = some v) (hi : i < 2) : (l.flatMap ixC)[j * 2 + i]? = (ixC v)[i]? := flatK_get ixC 2 (fun _ => rfl) l j i v h hi
theorem own_idx {w : World} {B : Nat} {v : Value} {l : List Ix} (h : w.ownsRow B 87 2 v l.length (l.flatMap ixC)) : ∃ A c, v = .slice A l.length c ∧ RdX w A l := by
  rcases h.2 with ⟨rfl, h0⟩ | ⟨g, cap, cur, rfl, _⟩
  · exact ⟨none, 0, by rw [h0], fun hl => absurd (List.eq_nil_of_length_eq_zero h0) hl⟩
  · refine ⟨some ⟨g, 0, none⟩, cap, rfl, fun _ => ⟨_, rfl, fun j x hj => ?_⟩⟩
    have hc := h.cells (g := g) rfl
    have h0 := hc (j * 2 + 0) _ (flatK_get ixC 2 (fun _ => rfl) l j 0 x hj (by omega))
    have h1 := hc (j * 2 + 1) _ (flatK_get ixC 2 (fun _ => rfl) l j 1 x hj (by omega))
    rw [add_lit] at h0 h1
    rw [add_lit]
    refine ⟨h0, ?_⟩
    rw [← Nat.add_assoc] at h1; exact h1
abbrev Bx4 (w : World) (b : Nat) (a0 a1 a2 a3 : Value) : Prop := w.heap[b]? = some (.cells #[a0, a1, a2, a3] 57 (0, 0))
theorem Bx4.below {w w' : World} {b : Nat} {a0 a1 a2 a3 : Value} (h : Bx4 w b a0 a1 a2 a3) (hb : Below w.heap.size w w') : Bx4 w' b a0 a1 a2 a3 := by
  unfold Bx4
  rw [hb.block b (Array.getElem?_eq_some_iff.1 h).1]; exact h
theorem Bx4.lt {w : World} {b : Nat} {a0 a1 a2 a3 : Value} (h : Bx4 w b a0 a1 a2 a3) : b < w.heap.size := (Array.getElem?_eq_some_iff.1 h).1
theorem Bx4.set0 {w : World} {b : Nat} {a0 a1 a2 a3 : Value} (h : Bx4 w b a0 a1 a2 a3) (v : Value) : Bx4 (w.setCell ⟨b, 0, none⟩ v) b v a1 a2 a3 := by
  unfold Bx4
  rw [heap_setCell_same w b 0 _ _ v h]; rfl
theorem Bx4.set1 {w : World} {b : Nat} {a0 a1 a2 a3 : Value} (h : Bx4 w b a0 a1 a2 a3) (v : Value) : Bx4 (w.setCell ⟨b, 1, none⟩ v) b a0 v a2 a3 := by
  unfold Bx4
  rw [heap_setCell_same w b 1 _ _ v h]; rfl
theorem Bx4.set3 {w : World} {b : Nat} {a0 a1 a2 a3 : Value} (h : Bx4 w b a0 a1 a2 a3) (v : Value) : Bx4 (w.setCell ⟨b, 3, none⟩ v) b a0 a1 a2 v := by
  unfold Bx4
  rw [heap_setCell_same w b 3 _ _ v h]; rfl
theorem Bx4.other {w : World} {b : Nat} {a0 a1 a2 a3 : Value} (h : Bx4 w b a0 a1 a2 a3) (p : Addr) (hp : b ≠ p.block) (v : Value) : Bx4 (w.setCell p v) b a0 a1 a2 a3 := by
  unfold Bx4
  rw [heap_setCell_other w p b v hp]; exact h
theorem ownX_set {w : World} {B : Nat} {v : Value} {l : List Ix} {b o : Nat} {T : TypeId} {cs : Array Value} (h : OwnX w B v l) (hb : w.heap[b]? = some (.cells cs T (0, 0))) (hT : T ≠ 87) (u : Value) : OwnX (w.setCell ⟨b, o, none⟩ u) B v l :=
  h.kept (grown_setCell w b o u) (by
    cases hv : v.ownBlock with
    | none => exact .inl rfl
    | some k => exact .inr (fun e => own_ne h hb hT (by rw [hv, e])))

/-- A table's own slices. -/
structure TrO (w : World) (B : Nat) (x : Tr) : Prop where
  c : OwnC w B (.slice x.A x.t.cols.length x.c) x.t.cols
  x : OwnX w B (.slice x.A' x.t.idx.length x.c') x.t.idx
/-- Tables of the call's own. -/
structure Tbs (w : World) (B : Nat) (v : Value) (xs : List Tr) : Prop where
  own : w.ownsRow B 57 4 v xs.length (xs.flatMap trC)
  tabs : ∀ x ∈ xs, TrO w B x

theorem ownX_kept {w w' : World} {B : Nat} {v : Value} {l : List Ix} {b : Option Nat} (h : OwnX w B v l) (hg : w.grownBy w' b) (hb : ∀ k, b = some k → ∃ cs T fr, w.heap[k]? = some (.cells cs T fr) ∧ T ≠ 87) : OwnX w' B v l :=
  h.kept hg (by
    cases hv : v.ownBlock with
    | none => exact .inl rfl
    | some k => exact .inr (fun e => by
        obtain ⟨cs, T, fr, h1, h2⟩ := hb k e.symm
        exact own_ne h h1 h2 hv))
theorem TrO.kept {w w' : World} {B : Nat} {x : Tr} {b : Option Nat} (h : TrO w B x) (hg : w.grownBy w' b) (hb : ∀ k, b = some k → ∃ cs T fr, w.heap[k]? = some (.cells cs T fr) ∧ T ≠ 48 ∧ T ≠ 87) : TrO w' B x :=
  ⟨ownC_kept h.c hg (fun k hk => by obtain ⟨cs, T, fr, h1, h2, _⟩ := hb k hk; exact ⟨cs, T, fr, h1, h2⟩), ownX_kept h.x hg (fun k hk => by obtain ⟨cs, T, fr, h1, _, h2⟩ := hb k hk; exact ⟨cs, T, fr, h1, h2⟩)⟩
theorem TrO.below {w w' : World} {B : Nat} {x : Tr} (h : TrO w B x) (hb : Below w.heap.size w w') : TrO w' B x := ⟨own_below h.c hb, own_below h.x hb⟩
theorem TrO.le {w : World} {B B' : Nat} {x : Tr} (h : TrO w B x) (hB : B' ≤ B) : TrO w B' x := ⟨own_le h.c hB, own_le h.x hB⟩
theorem Tbs.below {w w' : World} {B : Nat} {v : Value} {xs : List Tr} (h : Tbs w B v xs) (hb : Below w.heap.size w w') : Tbs w' B v xs := ⟨own_below h.own hb, fun x hx => (h.tabs x hx).below hb⟩
theorem Tbs.le {w : World} {B B' : Nat} {v : Value} {xs : List Tr} (h : Tbs w B v xs) (hB : B' ≤ B) : Tbs w B' v xs := ⟨own_le h.own hB, fun x hx => (h.tabs x hx).le hB⟩

theorem Tbs.kept {w w' : World} {B : Nat} {v : Value} {xs : List Tr} {b : Nat} {cs : Array Value} {T : TypeId} {fr : Nat × Nat} (h : Tbs w B v xs) (hg : w.grownBy w' (some b)) (hb : w.heap[b]? = some (.cells cs T fr)) (h1 : T ≠ 48) (h2 : T ≠ 87) (h3 : T ≠ 57) : Tbs w' B v xs :=
  ⟨h.own.kept hg (by
    cases hv : v.ownBlock with
    | none => exact .inl rfl
    | some k => exact .inr (fun e => by
        have e' : k = b := by injection e
        subst e'
        exact own_ne h.own hb h3 hv)), fun x hx => (h.tabs x hx).kept hg (fun k hk => by
    injection hk with hk
    subst hk
    exact ⟨cs, T, fr, hb, h1, h2⟩)⟩
/-- One more. -/
theorem Tbs.more {w w' : World} {B : Nat} {v v' : Value} {xs : List Tr} {x : Tr} (h : Tbs w B v xs) (hx : TrO w B x) (ho : w'.ownsRow B 57 4 v' (xs.length + 1) (xs.flatMap trC ++ trC x)) (hg : w.grownBy w' v.ownBlock) : Tbs w' B v' (xs ++ [x]) := by
  have hb : ∀ k, v.ownBlock = some k → ∃ cs T fr, w.heap[k]? = some (.cells cs T fr) ∧ T ≠ 48 ∧ T ≠ 87 := fun k hk => by
    obtain ⟨cs, fr, h1⟩ := own_type h.own k hk
    exact ⟨cs, _, fr, h1, by decide, by decide⟩
  refine ⟨by rw [List.length_append, List.flatMap_append]; simpa using ho, fun y hy => ?_⟩
  rcases List.mem_append.1 hy with hy | hy
  · exact (h.tabs y hy).kept hg hb
  · simp at hy; subst hy
    exact hx.kept hg hb
theorem TrO.td {w : World} {B : Nat} {x : Tr} (h : TrO w B x) (hc : x.t.cols.length ≤ 100) (hi : x.t.idx.length ≤ 100) : TdOk w x.t x.A x.A' x.c x.c' := by
  obtain ⟨A, c, e, hr⟩ := own_cols h.c
  injection e with e1 _ e2
  subst e1 e2
  obtain ⟨A', c', e, hr'⟩ := own_idx h.x
  injection e with e1 _ e2
  subst e1 e2
  obtain ⟨_, _, e, hn⟩ := ownC_form h.c
  injection e with e1 _ e2
  obtain ⟨_, _, e, hn'⟩ := ownX_form h.x
  injection e with e3 _ e4
  exact ⟨hr, hr', fun e0 => by rw [← e1, ← e2] at hn; exact hn e0, fun e0 => by rw [← e3, ← e4] at hn'; exact hn' e0, by omega, by omega⟩
theorem Tbs.rd {w : World} {B : Nat} {v : Value} {xs : List Tr} (h : Tbs w B v xs) (hc : ∀ x ∈ xs, x.t.cols.length ≤ 100 ∧ x.t.idx.length ≤ 100) : ∃ A c, v = .slice A (xs.map Tr.t).length c ∧ RdS w A (xs.map Tr.t) ∧ (A = none → xs.length = 0) := by
  rw [List.length_map]
  rcases h.own.2 with ⟨h1, h0⟩ | ⟨g, cap, cur, h1, _⟩
  · exact ⟨none, 0, by rw [h1, h0], fun hl => absurd (List.eq_nil_of_length_eq_zero (by rw [List.length_map]; exact h0)) hl, fun _ => h0⟩
  · subst h1
    refine ⟨some ⟨g, 0, none⟩, cap, rfl, fun _ => ⟨_, rfl, fun j t hj => ?_⟩, fun e => by cases e⟩
    rw [List.getElem?_map] at hj
    obtain ⟨x, hx, rfl⟩ := Option.map_eq_some_iff.1 hj
    have hm := List.mem_of_getElem? hx
    have hc' := h.own.cells (g := g) rfl
    have h0 := hc' (j * 4 + 0) _ (flatK_get trC 4 trC_len xs j 0 x hx (by omega))
    have h1 := hc' (j * 4 + 1) _ (flatK_get trC 4 trC_len xs j 1 x hx (by omega))
    have h2 := hc' (j * 4 + 2) _ (flatK_get trC 4 trC_len xs j 2 x hx (by omega))
    have h3 := hc' (j * 4 + 3) _ (flatK_get trC 4 trC_len xs j 3 x hx (by omega))
    rw [add_lit] at h0 h1 h2 h3
    rw [add_lit]
    refine ⟨x.A, x.A', x.c, x.c', h0, ?_, ?_, ?_, (h.tabs x hm).td (hc x hm).1 (hc x hm).2⟩
    · rw [← Nat.add_assoc] at h1; exact h1
    · rw [← Nat.add_assoc] at h2; exact h2
    · rw [← Nat.add_assoc] at h3; exact h3
/-- Block b is one slice. -/
abbrev Bx1 (w : World) (b : Nat) (v : Value) : Prop := w.heap[b]? = some (.cells #[v] 24 (0, 0))
theorem Bx1.below {w w' : World} {b : Nat} {v : Value} (h : Bx1 w b v) (hb : Below w.heap.size w w') : Bx1 w' b v := by
  unfold Bx1
  rw [hb.block b (Array.getElem?_eq_some_iff.1 h).1]; exact h
theorem Bx1.lt {w : World} {b : Nat} {v : Value} (h : Bx1 w b v) : b < w.heap.size := (Array.getElem?_eq_some_iff.1 h).1
theorem Bx1.set {w : World} {b : Nat} {v : Value} (h : Bx1 w b v) (u : Value) : Bx1 (w.setCell ⟨b, 0, none⟩ u) b u := by
  unfold Bx1
  rw [heap_setCell_same w b 0 _ _ u h]; rfl
theorem Bx1.other {w : World} {b : Nat} {v : Value} (h : Bx1 w b v) (p : Addr) (hp : b ≠ p.block) (u : Value) : Bx1 (w.setCell p u) b v := by
  unfold Bx1
  rw [heap_setCell_other w p b u hp]; exact h
theorem Bx1.cells {w : World} {b : Nat} {v : Value} (h : Bx1 w b v) : w.cell? ⟨b, 0, none⟩ = some v ∧ w.frozen? ⟨b, 0, none⟩ = false := by
  simp [World.cell?, World.frozen?, h]
theorem Bx1.grown {w w' : World} {b : Nat} {v : Value} {r : Option Nat} (h : Bx1 w b v) (hg : w.grownBy w' r) (hr : r ≠ some b) : Bx1 w' b v := by
  unfold Bx1
  rw [hg.block b h.lt (fun e => hr e.symm)]; exact h


end Go.Proofs.YtipcacplphidhaaGreat.Rf
/- The reference's tables copied: the walks of OwnTable and Own. Conditions: tables that are read in memory, of a length that every machine keeps. -/
namespace Go.Proofs.YtipcacplphidhaaGreat.Rf
open Go.RowKit Go.Sort Go.Maps
set_option linter.unusedSimpArgs false
set_option linter.unusedVariables false

theorem set13 {w : World} {b : Nat} {a0 a1 a2 a3 : Value} (h : Bx4 w b a0 a1 a2 a3) (u v : Value) : Bx4 ((w.setCell ⟨b, 1, none⟩ u).setCell ⟨b, 3, none⟩ v) b a0 u a2 v := (h.set1 u).set3 v
set_option maxRecDepth 100000 in
set_option maxHeartbeats 8000000 in
theorem ownTable_any (t : Tb) (cA iA : Option Addr) (cc ic : Nat) (w : World) (hT : TdOk w t cA iA cc ic) :
    Calls Tryz.prog 47 #[tbl t.m cA t.cols.length cc t.key iA t.idx.length ic] w fun e w' => ∃ cA' cc' iA' ic', e = .returned (tbl t.m cA' t.cols.length cc' t.key iA' t.idx.length ic') ∧ TrO w' w.heap.size ⟨t, cA', cc', iA', ic'⟩ ∧ Below w.heap.size w w' := by
  obtain ⟨m, cols, key, idx⟩ := t
  obtain ⟨hc, hx, hcA, hiA, hn, hk⟩ := hT
  dsimp only at *
  obtain ⟨iC, hiC, hC0, hC1, hC2⟩ := info_parts Tryz.infoC
  obtain ⟨iX, hiX, hX0, hX1, hX2⟩ := info_parts Tryz.infoX
  have HC := Lib.hid hc
  have HX := Lib.hid hx
  have HCA := Lib.hid hcA
  have HXA := Lib.hid hiA
  have HLC := Lib.hid (flatK_len colC 3 (fun _ => rfl) cols)
  have HLX := Lib.hid (flatK_len ixC 2 (fun _ => rfl) idx)
  have HN := Lib.hid hn
  have HK := Lib.hid (show idx.length * 24 ≤ 140737488355328 by omega)
  have hn63 : cols.length ≤ 9223372036854775807 := by omega
  have hk63 : idx.length ≤ 9223372036854775807 := by omega
  clear hc hx hcA hiA hn hk
  have hB2 := (below1 w (.cells #[.string m, .slice cA cols.length cc, .int .i64 key, .slice iA idx.length ic] 57)).alloc (by simp) (.cells #[.string ⟨#[]⟩, .slice none 0 0, .int .i64 0, .slice none 0 0] 57)
  have h1 : Bx4 ((w.alloc (.cells #[.string m, .slice cA cols.length cc, .int .i64 key, .slice iA idx.length ic] 57)).alloc (.cells #[.string ⟨#[]⟩, .slice none 0 0, .int .i64 0, .slice none 0 0] 57)) w.heap.size (.string m) (.slice cA cols.length cc) (.int .i64 key) (.slice iA idx.length ic) := Bx4.below (heap_alloc_new w (.cells #[.string m, .slice cA cols.length cc, .int .i64 key, .slice iA idx.length ic] 57)) (below1 _ _)
  have h2 : Bx4 ((w.alloc (.cells #[.string m, .slice cA cols.length cc, .int .i64 key, .slice iA idx.length ic] 57)).alloc (.cells #[.string ⟨#[]⟩, .slice none 0 0, .int .i64 0, .slice none 0 0] 57)) (w.heap.size + 1) (.string ⟨#[]⟩) (.slice none 0 0) (.int .i64 0) (.slice none 0 0) := by
    have := heap_alloc_new (w.alloc (.cells #[.string m, .slice cA cols.length cc, .int .i64 key, .slice iA idx.length ic] 57)) (.cells #[.string ⟨#[]⟩, .slice none 0 0, .int .i64 0, .slice none 0 0] 57)
    rwa [World.size_alloc] at this
  have HB2 := Lib.hid hB2
  have H1 := Lib.hid h1
  have H2 := Lib.hid h2
  have hz2 : w.heap.size + 2 ≤ ((w.alloc (.cells #[.string m, .slice cA cols.length cc, .int .i64 key, .slice iA idx.length ic] 57)).alloc (.cells #[.string ⟨#[]⟩, .slice none 0 0, .int .i64 0, .slice none 0 0] 57)).heap.size := by simp
  clear hB2 h1 h2
  go_enter Tryz.func47, Tryz.ntmps47
  go_upto_region 3 with (fail)
  generalize (w.alloc (.cells #[.string m, .slice cA cols.length cc, .int .i64 key, .slice iA idx.length ic] 57)).alloc (.cells #[.string ⟨#[]⟩, .slice none 0 0, .int .i64 0, .slice none 0 0] 57) = w1 at HB2 H1 H2 hz2 ⊢
  obtain ⟨y0, y1, y2, y3, f0, f1, f2, f3⟩ := cells4 H1.out
  go_cut [14] (fun _ wd => ∃ A c A' c', Bx4 wd w.heap.size (.string m) (.slice A cols.length c) (.int .i64 key) (.slice A' idx.length c') ∧ Bx4 wd (w.heap.size + 1) (.string ⟨#[]⟩) (.slice none 0 0) (.int .i64 0) (.slice none 0 0) ∧ OwnC wd (w.heap.size + 2) (.slice A cols.length c) cols ∧ OwnX wd (w.heap.size + 2) (.slice A' idx.length c') idx ∧ Below w.heap.size w wd)
  case first =>
    go_region_law (first
      | (refine step_append_nil rfl (.tmp 5) (.tmp 7) 25 rfl 48 iC (.agg #[.string ⟨#[]⟩, .int .i64 0, .bool false]) 3 32 Tryz.underlying25 hiC hC0 hC1 hC2 rfl (by decide) rfl cA cols.length cc _ (fun e => HCA.out e) hn63 rfl HLC.out (RdC.news (HC.out.below (HB2.out.trans ((Below.refl _ _).drew.mono HB2.out.size)))) (colC_one cols) HN.out ?_; intro v3 w3 hown hgn; have hb := below_none hgn; obtain ⟨A3, c3, rfl, _⟩ := own_cols hown; have HO3 := Lib.hid (own_le (B' := w.heap.size + 2) hown hz2); have HG3 := Lib.hid (show Below w1.heap.size w1 w3 from (Below.refl _ w1).drew.trans hb); have HX3 := Lib.hid (H1.out.below HG3.out); obtain ⟨x0, x1, x2, x3, g0, g1, g2, g3⟩ := cells4 HX3.out; have hz3 := Nat.le_trans hz2 HG3.out.size; clear hown hgn hb)
      | (refine step_append_nil rfl (.tmp 9) (.tmp 11) 55 rfl 87 iX (.agg #[.string ⟨#[]⟩, .int .i64 0]) 2 24 Tryz.underlying55 hiX hX0 hX1 hX2 rfl (by decide) rfl iA idx.length ic _ (fun e => HXA.out e) hk63 rfl HLX.out (RdX.news (HX.out.below (HB2.out.trans (HG3.out.mono HB2.out.size)))) (ixC_one idx) HK.out ?_; intro v4 w4 hown hgn; have hb := below_none hgn; obtain ⟨A4, c4, rfl, _⟩ := own_idx hown; have HO4 := Lib.hid (own_le (B' := w.heap.size + 2) hown hz3); have HG4 := Lib.hid (HG3.out.trans (hb.mono HG3.out.size)); have HO34 := Lib.hid (own_below HO3.out hb); have HX4 := Lib.hid (HX3.out.below hb); have HY4 := Lib.hid (H2.out.below HG4.out); obtain ⟨z0, z1, z2, z3, k0, k1, k2, k3⟩ := cells4 HX4.out; clear hown hgn hb))
    all_goals
      have hC9 := ownC_set (o := 3) (ownC_set (o := 1) HO34.out HX4.out (by decide) (.slice A3 cols.length c3)) (HX4.out.set1 (.slice A3 cols.length c3)) (by decide) (.slice A4 idx.length c4)
      have hX9 := ownX_set (o := 3) (ownX_set (o := 1) HO4.out HX4.out (by decide) (.slice A3 cols.length c3)) (HX4.out.set1 (.slice A3 cols.length c3)) (by decide) (.slice A4 idx.length c4)
      have hT9 := set13 HX4.out (.slice A3 cols.length c3) (.slice A4 idx.length c4)
      have hY9 := (HY4.out.other ⟨w.heap.size, 1, none⟩ (by simp) (.slice A3 cols.length c3)).other ⟨w.heap.size, 3, none⟩ (by simp) (.slice A4 idx.length c4)
      have hB9 := below_set (below_set (HB2.out.trans (HG4.out.mono HB2.out.size)) ⟨w.heap.size, 1, none⟩ (Nat.le_refl _) (.slice A3 cols.length c3)) ⟨w.heap.size, 3, none⟩ (Nat.le_refl _) (.slice A4 idx.length c4)
      go_wp2_with fail
      go_meet
      exact ⟨A3, c3, A4, c4, hT9, hY9, hC9, hX9, hB9⟩
  case rest =>
    obtain ⟨A, c, A', c', hT, hY, hC, hX, hB⟩ := hcut
    clear y0 y1 y2 y3 f0 f1 f2 f3
    obtain ⟨y0, y1, y2, y3, _, _, _, _⟩ := cells4 hT
    obtain ⟨d0, d1, d2, d3, f0, f1, f2, f3⟩ := cells4 hY
    have hC9 : OwnC (wc.setCells (w.heap.size + 1) 0 [.string m, .slice A cols.length c, .int .i64 key, .slice A' idx.length c']) (w.heap.size + 2) (.slice A cols.length c) cols := hC.kept (grown_setCells (w.heap.size + 1) _ 0 wc) (by
      cases hv : (Value.slice A cols.length c).ownBlock with
      | none => exact .inl rfl
      | some k => exact .inr (fun e => own_ne hC hY (by decide) (by rw [hv, e])))
    have hX9 : OwnX (wc.setCells (w.heap.size + 1) 0 [.string m, .slice A cols.length c, .int .i64 key, .slice A' idx.length c']) (w.heap.size + 2) (.slice A' idx.length c') idx := hX.kept (grown_setCells (w.heap.size + 1) _ 0 wc) (by
      cases hv : (Value.slice A' idx.length c').ownBlock with
      | none => exact .inl rfl
      | some k => exact .inr (fun e => own_ne hX hY (by decide) (by rw [hv, e])))
    have hB9 : Below w.heap.size w (wc.setCells (w.heap.size + 1) 0 [.string m, .slice A cols.length c, .int .i64 key, .slice A' idx.length c']) := below_cells (by omega) _ _ hB
    have HC9 := Lib.hid hC9
    have HX9 := Lib.hid hX9
    have HB9 := Lib.hid hB9
    clear hC9 hX9 hB9 hC hX hB hT hY
    go_wp2
    exact bodyPost_ret (v := tbl m A cols.length c key A' idx.length c') (by simp [results, Tryz.results47, go_sem, d0, d1, d2, d3]) rfl ⟨A, c, A', c', rfl, ⟨own_le HC9.out (by omega), own_le HX9.out (by omega)⟩, HB9.out⟩
end Go.Proofs.YtipcacplphidhaaGreat.Rf
namespace Go.Proofs.YtipcacplphidhaaGreat.Rf
open Go.RowKit Go.Sort Go.Maps
set_option linter.unusedSimpArgs false
set_option linter.unusedVariables false

set_option maxRecDepth 100000 in
set_option maxHeartbeats 8000000 in
theorem ownAll_any (A : Option Addr) (c : Nat) (ls : List Tb) (w : World) (hr : RdS w A ls) (hn : ls.length * 72 ≤ 140737488355328) :
    Calls Tryz.prog 26 #[.agg #[.slice A ls.length c]] w fun e w' => ∃ v xs, e = .returned (.agg #[v]) ∧ Tbs w' w.heap.size v xs ∧ xs.map Tr.t = ls ∧ Below w.heap.size w w' := by
  obtain ⟨i0, hi0, hz0, hz1, hz2⟩ := info_parts Tryz.infoT
  have HR := Lib.hid hr
  have hB3 := ((below1 w (.cells #[.slice A ls.length c] 24)).alloc (by simp) (.cells #[.slice none 0 0] 24)).alloc (by simp; omega) (.cells #[.slice none 0 0] 24)
  have h1 := heap_alloc_new w (.cells #[.slice A ls.length c] 24)
  have hT : Bx1 (((w.alloc (.cells #[.slice A ls.length c] 24)).alloc (.cells #[.slice none 0 0] 24)).alloc (.cells #[.slice none 0 0] 24)) w.heap.size (.slice A ls.length c) := (Bx1.below h1 (below1 _ _)).below (below1 _ _)
  have h2 := heap_alloc_new (w.alloc (.cells #[.slice A ls.length c] 24)) (.cells #[.slice none 0 0] 24)
  rw [World.size_alloc] at h2
  have hRs : Bx1 (((w.alloc (.cells #[.slice A ls.length c] 24)).alloc (.cells #[.slice none 0 0] 24)).alloc (.cells #[.slice none 0 0] 24)) (w.heap.size + 1) (.slice none 0 0) := Bx1.below h2 (below1 _ _)
  have h3 := heap_alloc_new ((w.alloc (.cells #[.slice A ls.length c] 24)).alloc (.cells #[.slice none 0 0] 24)) (.cells #[.slice none 0 0] 24)
  rw [World.size_alloc, World.size_alloc] at h3
  have HB3 := Lib.hid hB3
  have HT3 := Lib.hid hT
  have HRs := Lib.hid hRs
  have HN3 : Hid (Bx1 (((w.alloc (.cells #[.slice A ls.length c] 24)).alloc (.cells #[.slice none 0 0] 24)).alloc (.cells #[.slice none 0 0] 24)) (w.heap.size + 1 + 1) (.slice none 0 0)) := Lib.hid h3
  obtain ⟨t0, ft⟩ := hT.cells
  clear hr hB3 h1 hT h2 hRs h3
  go_enter Tryz.func26, Tryz.ntmps26
  go_upto_region 2 with fail
  generalize ((w.alloc (.cells #[.slice A ls.length c] 24)).alloc (.cells #[.slice none 0 0] 24)).alloc (.cells #[.slice none 0 0] 24) = w3 at HB3 HT3 HRs HN3 t0 ft ⊢
  go_wp2
  go_loopw [4] (fun i wr => ∃ (j : Nat) (v : Value) (xs : List Tr), i = .int .i64 j ∧ j ≤ ls.length ∧ xs.map Tr.t = ls.take j ∧ Bx1 wr w.heap.size (.slice A ls.length c) ∧ Bx1 wr (w.heap.size + 1) (.slice none 0 0) ∧ Bx1 wr (w.heap.size + 1 + 1) v ∧ Tbs wr (w.heap.size + 3) v xs ∧ Below w.heap.size w wr) (fun i _ => ls.length - (intOf i).toNat)
  case atStart => exact ⟨0, _, [], rfl, by omega, by simp, HT3.out, HRs.out, HN3.out, ⟨World.ownsRow_nil _ _ _ _, fun x hx => by simp at hx⟩, HB3.out⟩
  case round =>
    obtain ⟨j, v, xs, rfl, hj, hxs, hT, hRr, hN, hS, hB⟩ := hrel
    have HXS := Lib.hid hxs
    have HT := Lib.hid hT
    have HRr := Lib.hid hRr
    have HN := Lib.hid hN
    have HS := Lib.hid hS
    have HB := Lib.hid hB
    obtain ⟨t0, ft⟩ := hT.cells
    clear hxs hRr hN hS hB hT
    have hxl : xs.length = j := by have := congrArg List.length HXS.out; rw [List.length_map, List.length_take] at this; omega
    by_cases hlt : j < ls.length
    · obtain ⟨ad, rfl, cA, iA, cc, ic, k0, k1, k2, k3, hT⟩ := (HR.out.below HB.out).at_ hlt
      have hjl : (j : Int) < (ls.length : Int) := by omega
      have htk : ls.take (j + 1) = ls.take j ++ [ls[j]] := List.take_succ_eq_append_getElem hlt
      have HTK := Lib.hid htk
      have hcp := fun (W : World) (hb : Below wr.heap.size wr W) => ownTable_any ls[j] cA iA cc ic W (hT.below hb)
      have HCP := Lib.hid hcp
      clear htk hT hcp
      generalize ls[j] = t at k0 k1 k2 k3 HTK HCP
      go_upto_region 5 with fail
      obtain ⟨n0, nf⟩ := HN.out.cells
      have HCA := Lib.hid (HCP.out _ (Below.refl _ _).drew)
      have hsz : w.heap.size + 1 + 1 < wr.heap.size := HN.out.lt
      clear HCP
      have HNa := HN
      have HRa := HRr
      have HSa := HS
      have HBa := HB
      have HTa := HT
      clear HN HRr HS HB HT
      generalize hwa : wr = wa at *
      go_region_law (first
        | (refine step_append_own rfl (.tmp 13) (.tmp 20) 22 rfl (w.heap.size + 3) 57 i0 (.agg #[.string ⟨#[]⟩, .slice none 0 0, .int .i64 0, .slice none 0 0]) 4 72 Tryz.underlying22 hi0 hz0 hz1 hz2 rfl (by decide) v xs.length (xs.flatMap trC) rfl HSA.out.own ⟨v5.heap.size, 0, none⟩ 1 1 [.string t.m, .slice A5 t.cols.length c5, .int .i64 t.key, .slice A6 t.idx.length c6] rfl rfl HNW.out (by simp [Value.oneCell']) (by unfold maxLen; omega) (by omega) HSZ.out ?_; intro v' w2 hown hg; have HN2 := Lib.hid (HNB.out.grown hg (own_ne HSA.out.own HNB.out (by decide))); obtain ⟨z0, zf⟩ := HN2.out.cells; have HMO := Lib.hid (Tbs.more (x := ⟨t, A5, c5, A6, c6⟩) HSA.out HTO.out hown hg); have HR2 := Lib.hid (HRB.out.grown hg (own_ne HSA.out.own HRB.out (by decide))); have HT2 := Lib.hid (HTB.out.grown hg (own_ne HSA.out.own HTB.out (by decide))); have HB2 := Lib.hid (HBB.out.grown hg (by have := HBB.out.size; omega) (fun k hk => by have := (HSA.out.own.lt k hk).1; omega)); obtain ⟨A7, n7, c7, rfl⟩ := form_of hown; clear hown hg)
        | (go_simp; go_at_call 47; (with_reducible refine HCA.out.mono ?_); rintro e v5 ⟨A5, c5, A6, c6, rfl, hto, hb5⟩; have h5 := thn HBa.out.drew hb5; have h6 := below1 v5 (.cells #[.string t.m, .slice A5 t.cols.length c5, .int .i64 t.key, .slice A6 t.idx.length c6] 57); have HSA := Lib.hid (((HSa.out.below (Below.refl _ _).drew).below hb5).below h6); have HNW := Lib.hid (news_new0 v5 #[.string t.m, .slice A5 t.cols.length c5, .int .i64 t.key, .slice A6 t.idx.length c6] 57 _ rfl); have HNB := Lib.hid (((HNa.out.below (Below.refl _ _).drew).below hb5).below h6); have HRB := Lib.hid (((HRa.out.below (Below.refl _ _).drew).below hb5).below h6); have HTB := Lib.hid (((HTa.out.below (Below.refl _ _).drew).below hb5).below h6); have HBB := Lib.hid (thn h5 h6); have HTO : Hid (TrO (v5.alloc (.cells #[.string t.m, .slice A5 t.cols.length c5, .int .i64 t.key, .slice A6 t.idx.length c6] 57)) (w.heap.size + 3) ⟨t, A5, c5, A6, c6⟩) := Lib.hid (TrO.below (w := v5) (hto.le (by have : wa.drew.heap.size = wa.heap.size := rfl; omega)) h6); have HSZ := Lib.hid (show w.heap.size + 3 ≤ (v5.alloc (.cells #[.string t.m, .slice A5 t.cols.length c5, .int .i64 t.key, .slice A6 t.idx.length c6] 57)).heap.size by have h7 : wa.heap.size ≤ v5.heap.size := hb5.size; simp; omega); obtain ⟨n1, nf1⟩ := ((HNa.out.below (Below.refl _ _).drew).below hb5).cells; obtain ⟨n2, nf2⟩ := HNB.out.cells; clear hto hb5 h5 h6))
      all_goals
        have HN9 := Lib.hid (HN2.out.set (.slice A7 n7 c7))
        have HR9 := Lib.hid (HR2.out.other ⟨w.heap.size + 1 + 1, 0, none⟩ (by simp) (.slice A7 n7 c7))
        have HT9 := Lib.hid (HT2.out.other ⟨w.heap.size + 1 + 1, 0, none⟩ (by simp; omega) (.slice A7 n7 c7))
        have HM9 := Lib.hid (HMO.out.kept (grown_setCell w2 (w.heap.size + 1 + 1) 0 (.slice A7 n7 c7)) HN2.out (by decide) (by decide) (by decide))
        have HB9 := Lib.hid (below_set HB2.out ⟨w.heap.size + 1 + 1, 0, none⟩ (by simp; omega) (.slice A7 n7 c7))
        have hx9 : (xs ++ [(⟨t, A5, c5, A6, c6⟩ : Tr)]).map Tr.t = ls.take (j + 1) := by rw [HTK.out, List.map_append, HXS.out]; rfl
        have HX9 := Lib.hid hx9
        clear HN2 HR2 HMO HB2 hx9 HT2
        go_wp2
        go_roundw
        case rel => exact ⟨j + 1, _, xs ++ [(⟨t, A5, c5, A6, c6⟩ : Tr)], by go_num, hlt, HX9.out, HT9.out, HR9.out, HN9.out, HM9.out, HB9.out⟩
        case measure => simp [intOf]; omega
    · obtain rfl : j = ls.length := by omega
      obtain ⟨A9, n9, c9, rfl⟩ := form_of HS.out.own
      obtain ⟨n0, nf⟩ := HN.out.cells
      obtain ⟨r0, rf⟩ := HRr.out.cells
      obtain ⟨r1, rf1⟩ := (HRr.out.set (.slice A9 n9 c9)).cells
      have HM9 := Lib.hid (HS.out.kept (grown_setCell wr (w.heap.size + 1) 0 (.slice A9 n9 c9)) HRr.out (by decide) (by decide) (by decide))
      have HB9 := Lib.hid (below_set HB.out ⟨w.heap.size + 1, 0, none⟩ (by simp) (.slice A9 n9 c9))
      have hx9 : xs.map Tr.t = ls := by rw [HXS.out, List.take_length]
      have HX9 := Lib.hid hx9
      clear hx9
      go_wp2
      exact bodyPost_ret (v := .agg #[.slice A9 n9 c9]) (by simp [results, Tryz.results26, go_sem, r1]) rfl ⟨.slice A9 n9 c9, xs, rfl, HM9.out.le (by omega), HX9.out, HB9.out⟩
end Go.Proofs.YtipcacplphidhaaGreat.Rf
