/- Tables in memory of their own: the walk of copyOfAll. Conditions: tables that are read in memory and may be; few. -/
import Derived.Test.YtddeaiciochggaaNi
/- Tables in memory of the call's own: how they lie, and what keeps them. Conditions: none. -/
namespace Go.Proofs.Ytddeaiciochggaa
open Go.RowKit Go.Sort Go.Maps
set_option linter.unusedSimpArgs false
set_option linter.unusedVariables false

/-- A table, and where its slices lie. -/
structure Tr where
  t : Tb
  A : Option Addr
  c : Nat
  A' : Option Addr
  c' : Nat
def trC (x : Tr) : List Value := [.string x.t.m, .slice x.A x.t.cols.length x.c, .int .i64 x.t.key, .slice x.A' x.t.idx.length x.c']
theorem trC_len (x : Tr) : (trC x).length = 4 := rfl
theorem trC_one (l : List Tr) : ∀ u ∈ l.flatMap trC, u.oneCell' = true := fun u hu => by
  obtain ⟨v, _, hv⟩ := List.mem_flatMap.1 hu
  simp [trC] at hv
  rcases hv with rfl | rfl | rfl | rfl <;> rfl
/-- A table's own slices. -/
structure TrO (w : World) (B : Nat) (x : Tr) : Prop where
  c : OwnC w B (.slice x.A x.t.cols.length x.c) x.t.cols
  x : OwnX w B (.slice x.A' x.t.idx.length x.c') x.t.idx
/-- Tables of the call's own. -/
structure Tbs (w : World) (B : Nat) (v : Value) (xs : List Tr) : Prop where
  own : w.ownsRow B 47 4 v xs.length (xs.flatMap trC)
  tabs : ∀ x ∈ xs, TrO w B x
theorem ownC_kept {w w' : World} {B : Nat} {v : Value} {l : List Cl} {b : Option Nat} (h : OwnC w B v l) (hg : w.grownBy w' b) (hb : ∀ k, b = some k → ∃ cs T fr, w.heap[k]? = some (.cells cs T fr) ∧ T ≠ 59) : OwnC w' B v l :=
  h.kept hg (by
    cases hv : v.ownBlock with
    | none => exact .inl rfl
    | some k => exact .inr (fun e => by
        obtain ⟨cs, T, fr, h1, h2⟩ := hb k e.symm
        exact own_ne h h1 h2 hv))
theorem ownX_kept {w w' : World} {B : Nat} {v : Value} {l : List Ix} {b : Option Nat} (h : OwnX w B v l) (hg : w.grownBy w' b) (hb : ∀ k, b = some k → ∃ cs T fr, w.heap[k]? = some (.cells cs T fr) ∧ T ≠ 81) : OwnX w' B v l :=
  h.kept hg (by
    cases hv : v.ownBlock with
    | none => exact .inl rfl
    | some k => exact .inr (fun e => by
        obtain ⟨cs, T, fr, h1, h2⟩ := hb k e.symm
        exact own_ne h h1 h2 hv))
theorem TrO.kept {w w' : World} {B : Nat} {x : Tr} {b : Option Nat} (h : TrO w B x) (hg : w.grownBy w' b) (hb : ∀ k, b = some k → ∃ cs T fr, w.heap[k]? = some (.cells cs T fr) ∧ T ≠ 59 ∧ T ≠ 81) : TrO w' B x :=
  ⟨ownC_kept h.c hg (fun k hk => by obtain ⟨cs, T, fr, h1, h2, _⟩ := hb k hk; exact ⟨cs, T, fr, h1, h2⟩), ownX_kept h.x hg (fun k hk => by obtain ⟨cs, T, fr, h1, _, h2⟩ := hb k hk; exact ⟨cs, T, fr, h1, h2⟩)⟩
theorem TrO.below {w w' : World} {B : Nat} {x : Tr} (h : TrO w B x) (hb : Below w.heap.size w w') : TrO w' B x := ⟨own_below h.c hb, own_below h.x hb⟩
theorem TrO.le {w : World} {B B' : Nat} {x : Tr} (h : TrO w B x) (hB : B' ≤ B) : TrO w B' x := ⟨own_le h.c hB, own_le h.x hB⟩
theorem Tbs.below {w w' : World} {B : Nat} {v : Value} {xs : List Tr} (h : Tbs w B v xs) (hb : Below w.heap.size w w') : Tbs w' B v xs := ⟨own_below h.own hb, fun x hx => (h.tabs x hx).below hb⟩
theorem Tbs.le {w : World} {B B' : Nat} {v : Value} {xs : List Tr} (h : Tbs w B v xs) (hB : B' ≤ B) : Tbs w B' v xs := ⟨own_le h.own hB, fun x hx => (h.tabs x hx).le hB⟩
theorem own_type {w : World} {B : Nat} {e : TypeId} {k : Nat} {v : Value} {n : Nat} {xs : List Value} (h : w.ownsRow B e k v n xs) : ∀ b, v.ownBlock = some b → ∃ cs fr, w.heap[b]? = some (.cells cs e fr) := fun b hb => by
  rcases h.2 with ⟨rfl, _⟩ | ⟨g, cap, cur, rfl, _, hg, _⟩
  · cases hb
  · injection hb with hb
    subst hb
    exact ⟨cur, _, hg⟩
/-- What is behind a change of a block that holds none of them. -/
theorem Tbs.kept {w w' : World} {B : Nat} {v : Value} {xs : List Tr} {b : Nat} {cs : Array Value} {T : TypeId} {fr : Nat × Nat} (h : Tbs w B v xs) (hg : w.grownBy w' (some b)) (hb : w.heap[b]? = some (.cells cs T fr)) (h1 : T ≠ 59) (h2 : T ≠ 81) (h3 : T ≠ 47) : Tbs w' B v xs :=
  ⟨h.own.kept hg (by
    cases hv : v.ownBlock with
    | none => exact .inl rfl
    | some k => exact .inr (fun e => by
        have e' : k = b := by injection e
        subst e'
        exact own_ne h.own hb h3 hv)), fun x hx => (h.tabs x hx).kept hg (fun k hk => by
    injection hk with hk
    subst hk
    exact ⟨cs, T, fr, hb, h1, h2⟩)⟩
/-- One more. -/
theorem Tbs.more {w w' : World} {B : Nat} {v v' : Value} {xs : List Tr} {x : Tr} (h : Tbs w B v xs) (hx : TrO w B x) (ho : w'.ownsRow B 47 4 v' (xs.length + 1) (xs.flatMap trC ++ trC x)) (hg : w.grownBy w' v.ownBlock) : Tbs w' B v' (xs ++ [x]) := by
  have hb : ∀ k, v.ownBlock = some k → ∃ cs T fr, w.heap[k]? = some (.cells cs T fr) ∧ T ≠ 59 ∧ T ≠ 81 := fun k hk => by
    obtain ⟨cs, fr, h1⟩ := own_type h.own k hk
    exact ⟨cs, _, fr, h1, by decide, by decide⟩
  refine ⟨by rw [List.length_append, List.flatMap_append]; simpa using ho, fun y hy => ?_⟩
  rcases List.mem_append.1 hy with hy | hy
  · exact (h.tabs y hy).kept hg hb
  · simp at hy; subst hy
    exact hx.kept hg hb
theorem TrO.td {w : World} {B : Nat} {x : Tr} (h : TrO w B x) (hc : x.t.cols.length ≤ 100) (hi : x.t.idx.length ≤ 100) : TdOk w x.t x.A x.A' x.c x.c' := by
  obtain ⟨A, c, e, hr⟩ := own_cols h.c
  injection e with e1 _ e2
  subst e1 e2
  obtain ⟨A', c', e, hr'⟩ := own_idx h.x
  injection e with e1 _ e2
  subst e1 e2
  obtain ⟨_, _, e, hn⟩ := ownC_form h.c
  injection e with e1 _ e2
  obtain ⟨_, _, e, hn'⟩ := ownX_form h.x
  injection e with e3 _ e4
  exact ⟨hr, hr', fun e0 => by rw [← e1, ← e2] at hn; exact hn e0, fun e0 => by rw [← e3, ← e4] at hn'; exact hn' e0, by omega, by omega⟩
theorem Tbs.rd {w : World} {B : Nat} {v : Value} {xs : List Tr} (h : Tbs w B v xs) (hc : ∀ x ∈ xs, x.t.cols.length ≤ 100 ∧ x.t.idx.length ≤ 100) : ∃ A c, v = .slice A (xs.map Tr.t).length c ∧ RdS w A (xs.map Tr.t) ∧ (A = none → xs.length = 0) := by
  rw [List.length_map]
  rcases h.own.2 with ⟨h1, h0⟩ | ⟨g, cap, cur, h1, _⟩
  · exact ⟨none, 0, by rw [h1, h0], fun hl => absurd (List.eq_nil_of_length_eq_zero (by rw [List.length_map]; exact h0)) hl, fun _ => h0⟩
  · subst h1
    refine ⟨some ⟨g, 0, none⟩, cap, rfl, fun _ => ⟨_, rfl, fun j t hj => ?_⟩, fun e => by cases e⟩
    rw [List.getElem?_map] at hj
    obtain ⟨x, hx, rfl⟩ := Option.map_eq_some_iff.1 hj
    have hm := List.mem_of_getElem? hx
    have hc' := h.own.cells (g := g) rfl
    have h0 := hc' (j * 4 + 0) _ (flatK_get trC 4 trC_len xs j 0 x hx (by omega))
    have h1 := hc' (j * 4 + 1) _ (flatK_get trC 4 trC_len xs j 1 x hx (by omega))
    have h2 := hc' (j * 4 + 2) _ (flatK_get trC 4 trC_len xs j 2 x hx (by omega))
    have h3 := hc' (j * 4 + 3) _ (flatK_get trC 4 trC_len xs j 3 x hx (by omega))
    rw [add_lit] at h0 h1 h2 h3
    rw [add_lit]
    refine ⟨x.A, x.A', x.c, x.c', h0, ?_, ?_, ?_, (h.tabs x hm).td (hc x hm).1 (hc x hm).2⟩
    · rw [← Nat.add_assoc] at h1; exact h1
    · rw [← Nat.add_assoc] at h2; exact h2
    · rw [← Nat.add_assoc] at h3; exact h3
theorem few_of_may {t : Tb} (h : tblB t = true) : t.cols.length ≤ 8 ∧ t.idx.length ≤ 4 ∧ t.m.size ≤ 16 ∧ (∀ x ∈ t.cols, x.m.size ≤ 16) ∧ ∀ x ∈ t.idx, x.m.size ≤ 16 := by
  obtain ⟨_, h4, h16⟩ := tblB_idx h
  simp only [tblB, Bool.and_eq_true] at h
  obtain ⟨_, h8, hc⟩ := colsB_parts h.2.1
  exact ⟨h8, h4, nameB_16 h.1, hc, h16⟩
end Go.Proofs.Ytddeaiciochggaa
namespace Go.Proofs.Ytddeaiciochggaa
open Go.RowKit Go.Sort Go.Maps
set_option linter.unusedSimpArgs false
set_option linter.unusedVariables false

theorem Try.infoT : (Try.prog.info? 47).map (fun i => (i.zero, i.size, i.bytes)) = some (some (.agg #[.string ⟨#[]⟩, .slice none 0 0, .int .i64 0, .slice none 0 0]), 4, 72) := by kernel_rfl
/-- Block b is one slice. -/
abbrev Bx1 (w : World) (b : Nat) (v : Value) : Prop := w.heap[b]? = some (.cells #[v] 35 (0, 0))
theorem Bx1.below {w w' : World} {b : Nat} {v : Value} (h : Bx1 w b v) (hb : Below w.heap.size w w') : Bx1 w' b v := by
  unfold Bx1
  rw [hb.block b (Array.getElem?_eq_some_iff.1 h).1]; exact h
theorem Bx1.lt {w : World} {b : Nat} {v : Value} (h : Bx1 w b v) : b < w.heap.size := (Array.getElem?_eq_some_iff.1 h).1
theorem Bx1.set {w : World} {b : Nat} {v : Value} (h : Bx1 w b v) (u : Value) : Bx1 (w.setCell ⟨b, 0, none⟩ u) b u := by
  unfold Bx1
  rw [heap_setCell_same w b 0 _ _ u h]; rfl
theorem Bx1.other {w : World} {b : Nat} {v : Value} (h : Bx1 w b v) (p : Addr) (hp : b ≠ p.block) (u : Value) : Bx1 (w.setCell p u) b v := by
  unfold Bx1
  rw [heap_setCell_other w p b u hp]; exact h
theorem Bx1.cells {w : World} {b : Nat} {v : Value} (h : Bx1 w b v) : w.cell? ⟨b, 0, none⟩ = some v ∧ w.frozen? ⟨b, 0, none⟩ = false := by
  simp [World.cell?, World.frozen?, h]
theorem Bx1.grown {w w' : World} {b : Nat} {v : Value} {r : Option Nat} (h : Bx1 w b v) (hg : w.grownBy w' r) (hr : r ≠ some b) : Bx1 w' b v := by
  unfold Bx1
  rw [hg.block b h.lt (fun e => hr e.symm)]; exact h

theorem news_new0 (W : World) (cs : Array Value) (T : TypeId) (l : List Value) (h : cs.toList = l) : ∀ j u, l[j]? = some u → (W.alloc (.cells cs T)).cell? ((⟨W.heap.size, 0, none⟩ : Addr).add j) = some u := fun j u hu => by
  subst h
  rw [add_lit, cell_last _ _ _ _ _ rfl]
  simpa using hu
/-- Where a table's indexes lie. -/
def ixB1 (x : Tr) : Option Nat := (Value.slice x.A' x.t.idx.length x.c').ownBlock
/-- No two tables' indexes lie in one block. -/
def Apart (xs : List Tr) : Prop := xs.Pairwise fun x y => ∀ b, ixB1 x = some b → ixB1 y ≠ some b
theorem Apart.more {xs : List Tr} {y : Tr} {s : Nat} (h : Apart xs) (h1 : ∀ x ∈ xs, ∀ b, ixB1 x = some b → b < s) (h2 : ∀ b, ixB1 y = some b → s ≤ b) : Apart (xs ++ [y]) := by
  unfold Apart
  rw [List.pairwise_append]
  refine ⟨h, List.pairwise_singleton _ _, fun x hx z hz b hb e => ?_⟩
  simp at hz
  subst hz
  have := h1 x hx b hb
  have := h2 b e
  omega
set_option maxRecDepth 100000 in
set_option maxHeartbeats 8000000 in
theorem copyAll_any (A : Option Addr) (c : Nat) (ls : List Tb) (w : World) (hr : RdS w A ls) (hn : ls.length ≤ 100) (hm : ∀ t ∈ ls, tblB t = true) :
    Calls Try.prog 26 #[.agg #[.slice A ls.length c]] w fun e w' => ∃ v xs, e = .returned (.agg #[v]) ∧ Tbs w' w.heap.size v xs ∧ Apart xs ∧ xs.map Tr.t = ls ∧ Below w.heap.size w w' := by
  obtain ⟨i0, hi0, hz0, hz1, hz2⟩ := info_parts Try.infoT
  have HR := Lib.hid hr
  have HM := Lib.hid hm
  have hB3 := ((below1 w (.cells #[.slice A ls.length c] 35)).alloc (by simp) (.cells #[.slice none 0 0] 35)).alloc (by simp; omega) (.cells #[.slice none 0 0] 35)
  have h1 := heap_alloc_new w (.cells #[.slice A ls.length c] 35)
  have hT : Bx1 (((w.alloc (.cells #[.slice A ls.length c] 35)).alloc (.cells #[.slice none 0 0] 35)).alloc (.cells #[.slice none 0 0] 35)) w.heap.size (.slice A ls.length c) := (Bx1.below h1 (below1 _ _)).below (below1 _ _)
  have h2 := heap_alloc_new (w.alloc (.cells #[.slice A ls.length c] 35)) (.cells #[.slice none 0 0] 35)
  rw [World.size_alloc] at h2
  have hRs : Bx1 (((w.alloc (.cells #[.slice A ls.length c] 35)).alloc (.cells #[.slice none 0 0] 35)).alloc (.cells #[.slice none 0 0] 35)) (w.heap.size + 1) (.slice none 0 0) := Bx1.below h2 (below1 _ _)
  have h3 := heap_alloc_new ((w.alloc (.cells #[.slice A ls.length c] 35)).alloc (.cells #[.slice none 0 0] 35)) (.cells #[.slice none 0 0] 35)
  rw [World.size_alloc, World.size_alloc] at h3
  have HB3 := Lib.hid hB3
  have HT3 := Lib.hid hT
  have HRs := Lib.hid hRs
  have HN3 : Hid (Bx1 (((w.alloc (.cells #[.slice A ls.length c] 35)).alloc (.cells #[.slice none 0 0] 35)).alloc (.cells #[.slice none 0 0] 35)) (w.heap.size + 1 + 1) (.slice none 0 0)) := Lib.hid h3
  obtain ⟨t0, ft⟩ := hT.cells
  clear hr hm hB3 h1 hT h2 hRs h3
  go_enter Try.func26, Try.ntmps26
  go_upto_region 2 with fail
  generalize ((w.alloc (.cells #[.slice A ls.length c] 35)).alloc (.cells #[.slice none 0 0] 35)).alloc (.cells #[.slice none 0 0] 35) = w3 at HB3 HT3 HRs HN3 t0 ft ⊢
  go_wp2
  go_loopw [5, 9] (fun _ i wr => ∃ (j : Nat) (v : Value) (xs : List Tr), i = .int .i64 j ∧ j ≤ ls.length ∧ xs.map Tr.t = ls.take j ∧ Bx1 wr (w.heap.size + 1) (.slice none 0 0) ∧ Bx1 wr (w.heap.size + 1 + 1) v ∧ Tbs wr (w.heap.size + 3) v xs ∧ Apart xs ∧ Below w.heap.size w wr) (fun _ i _ => ls.length - (intOf i).toNat)
  case atStart => exact ⟨0, _, [], rfl, by omega, by simp, HRs.out, HN3.out, ⟨World.ownsRow_nil _ _ _ _, fun x hx => by simp at hx⟩, List.Pairwise.nil, HB3.out⟩
  case round =>
    obtain ⟨j, v, xs, rfl, hj, hxs, hRr, hN, hS, hAP, hB⟩ := hrel
    have HAP := Lib.hid hAP
    have HXS := Lib.hid hxs
    have HRr := Lib.hid hRr
    have HN := Lib.hid hN
    have HS := Lib.hid hS
    have HB := Lib.hid hB
    clear hxs hRr hN hS hAP hB t0 ft
    have hxl : xs.length = j := by have := congrArg List.length HXS.out; rw [List.length_map, List.length_take] at this; omega
    by_cases hlt : j < ls.length
    · obtain ⟨ad, rfl, cA, iA, cc, ic, k0, k1, k2, k3, hT⟩ := (HR.out.below HB.out).at_ hlt
      have hjl : (j : Int) < (ls.length : Int) := by omega
      have htk : ls.take (j + 1) = ls.take j ++ [ls[j]] := List.take_succ_eq_append_getElem hlt
      have HTK := Lib.hid htk
      obtain ⟨fc, fi, fm, fcm, fim⟩ := few_of_may (HM.out _ (List.getElem_mem hlt))
      have hcp := fun (W : World) (hb : Below wr.heap.size wr W) => copyOf_any ls[j].m cA iA cc ic ls[j].key ls[j].cols ls[j].idx W (hT.below hb).c (hT.below hb).x (fun e => (hT.cn e).1) (fun e => (hT.xn e).1) (by omega) (by omega) (by omega) (fun x hx => by have := fcm x hx; omega) (fun x hx => by have := fim x hx; omega)
      have HCP := Lib.hid hcp
      clear htk hT hcp fcm fim
      generalize ls[j] = t at k0 k1 k2 k3 HTK HCP fc fi
      go_upto_region 5 with fail
      have ha := below1 wr (.cells #[.string t.m, .slice cA t.cols.length cc, .int .i64 t.key, .slice iA t.idx.length ic] 47)
      have hX := Box4.new wr t.m cA t.cols.length cc t.key iA t.idx.length ic 47
      have HNa := Lib.hid (HN.out.below ha)
      have HRa := Lib.hid (HRr.out.below ha)
      have HSa := Lib.hid (HS.out.below ha)
      have HBa := Lib.hid (thn HB.out ha)
      obtain ⟨x0, x1, x2, x3⟩ := hX
      obtain ⟨n0, nf⟩ := HNa.out.cells
      have HCA := Lib.hid (HCP.out _ (thn ha (Below.refl _ _).drew))
      have hws : w.heap.size + 1 + 1 < wr.heap.size := HN.out.lt
      clear ha HCP HN HRr HS HB
      generalize wr.alloc (.cells #[.string t.m, .slice cA t.cols.length cc, .int .i64 t.key, .slice iA t.idx.length ic] 47) = wa at *
      have hsz : w.heap.size + 1 + 1 < wa.heap.size := HNa.out.lt
      go_region_law (first
        | (refine step_append_own rfl (.tmp 14) (.tmp 17) 33 rfl (w.heap.size + 3) 47 i0 (.agg #[.string ⟨#[]⟩, .slice none 0 0, .int .i64 0, .slice none 0 0]) 4 72 Try.underlying33 hi0 hz0 hz1 hz2 rfl (by decide) v xs.length (xs.flatMap trC) rfl HSA.out.own ⟨v5.heap.size, 0, none⟩ 1 1 [.string t.m, .slice A5 t.cols.length c5, .int .i64 t.key, .slice A6 t.idx.length c6] rfl rfl HNW.out (by simp [Value.oneCell']) (by unfold maxLen; omega) (by omega) HSZ.out ?_; intro v' w2 hown hg; have HN2 := Lib.hid (HNB.out.grown hg (own_ne HSA.out.own HNB.out (by decide))); obtain ⟨z0, zf⟩ := HN2.out.cells; have HMO := Lib.hid (Tbs.more (x := ⟨t, A5, c5, A6, c6⟩) HSA.out HTO.out hown hg); have HR2 := Lib.hid (HRB.out.grown hg (own_ne HSA.out.own HRB.out (by decide))); have HB2 := Lib.hid (HBB.out.grown hg (by have := HBB.out.size; omega) (fun k hk => by have := (HSA.out.own.lt k hk).1; omega)); obtain ⟨A7, n7, c7, rfl⟩ := form_of hown; clear hown hg)
        | (go_simp; go_at_call 24; (with_reducible refine HCA.out.mono ?_); rintro e v5 ⟨A5, c5, A6, c6, rfl, hc5, hx5, hb5⟩; have HAQ := Lib.hid (Apart.more (y := ⟨t, A5, c5, A6, c6⟩) (s := wa.heap.size) HAP.out (fun x hx b hb => ((HSa.out.tabs x hx).x.lt b hb).2) (fun b hb => (hx5.lt b hb).1)); have h5 := thn HBa.out.drew hb5; have h6 := below1 v5 (.cells #[.string t.m, .slice A5 t.cols.length c5, .int .i64 t.key, .slice A6 t.idx.length c6] 47); have HSA := Lib.hid (((HSa.out.below (Below.refl _ _).drew).below hb5).below h6); have HNW := Lib.hid (news_new0 v5 #[.string t.m, .slice A5 t.cols.length c5, .int .i64 t.key, .slice A6 t.idx.length c6] 47 _ rfl); have HNB := Lib.hid (((HNa.out.below (Below.refl _ _).drew).below hb5).below h6); have HRB := Lib.hid (((HRa.out.below (Below.refl _ _).drew).below hb5).below h6); have HBB := Lib.hid (thn h5 h6); have HTO : Hid (TrO (v5.alloc (.cells #[.string t.m, .slice A5 t.cols.length c5, .int .i64 t.key, .slice A6 t.idx.length c6] 47)) (w.heap.size + 3) ⟨t, A5, c5, A6, c6⟩) := Lib.hid (TrO.below (w := v5) ⟨own_le hc5 (by have : wa.drew.heap.size = wa.heap.size := rfl; omega), own_le hx5 (by have : wa.drew.heap.size = wa.heap.size := rfl; omega)⟩ h6); have HSZ := Lib.hid (show w.heap.size + 3 ≤ (v5.alloc (.cells #[.string t.m, .slice A5 t.cols.length c5, .int .i64 t.key, .slice A6 t.idx.length c6] 47)).heap.size by have h7 : wa.heap.size ≤ v5.heap.size := hb5.size; simp; omega); obtain ⟨n1, nf1⟩ := ((HNa.out.below (Below.refl _ _).drew).below hb5).cells; obtain ⟨n2, nf2⟩ := HNB.out.cells; clear hc5 hx5 hb5 h5 h6))
      all_goals
        have HN9 := Lib.hid (HN2.out.set (.slice A7 n7 c7))
        have HR9 := Lib.hid (HR2.out.other ⟨w.heap.size + 1 + 1, 0, none⟩ (by simp) (.slice A7 n7 c7))
        have HM9 := Lib.hid (HMO.out.kept (grown_setCell w2 (w.heap.size + 1 + 1) 0 (.slice A7 n7 c7)) HN2.out (by decide) (by decide) (by decide))
        have HB9 := Lib.hid (below_set HB2.out ⟨w.heap.size + 1 + 1, 0, none⟩ (by simp; omega) (.slice A7 n7 c7))
        have hx9 : (xs ++ [(⟨t, A5, c5, A6, c6⟩ : Tr)]).map Tr.t = ls.take (j + 1) := by rw [HTK.out, List.map_append, HXS.out]; rfl
        have HX9 := Lib.hid hx9
        clear HN2 HR2 HMO HB2 hx9
        go_wp2
        go_roundw
        case rel => exact ⟨j + 1, _, xs ++ [(⟨t, A5, c5, A6, c6⟩ : Tr)], by go_num, hlt, HX9.out, HR9.out, HN9.out, HM9.out, HAQ.out, HB9.out⟩
        case measure => simp [intOf]; omega
    · obtain rfl : j = ls.length := by omega
      obtain ⟨A9, n9, c9, rfl⟩ := form_of HS.out.own
      obtain ⟨n0, nf⟩ := HN.out.cells
      obtain ⟨r0, rf⟩ := HRr.out.cells
      obtain ⟨r1, rf1⟩ := (HRr.out.set (.slice A9 n9 c9)).cells
      have HM9 := Lib.hid (HS.out.kept (grown_setCell wr (w.heap.size + 1) 0 (.slice A9 n9 c9)) HRr.out (by decide) (by decide) (by decide))
      have HB9 := Lib.hid (below_set HB.out ⟨w.heap.size + 1, 0, none⟩ (by simp) (.slice A9 n9 c9))
      have hx9 : xs.map Tr.t = ls := by rw [HXS.out, List.take_length]
      have HX9 := Lib.hid hx9
      clear hx9
      go_wp2
      exact bodyPost_ret (v := .agg #[.slice A9 n9 c9]) (by simp [results, Try.results26, go_sem, r1]) rfl ⟨.slice A9 n9 c9, xs, rfl, HM9.out.le (by omega), HAP.out, HX9.out, HB9.out⟩
end Go.Proofs.Ytddeaiciochggaa
