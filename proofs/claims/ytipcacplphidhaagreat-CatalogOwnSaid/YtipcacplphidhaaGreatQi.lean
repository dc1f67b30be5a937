/- What the reference makes of a catalog by Create: the walk. Conditions: a statement and tables that are read in memory; room as long as the list. -/
import Derived.Test.YtipcacplphidhaaGreatQh
import Derived.Test.YtipcacplphidhaaGreatQl
import Derived.Test.YtipcacplphidhaaGreatQc
import Derived.Test.YtipcacplphidhaaGreatFa
import Derived.Lib.QuietBelow
import Derived.BigQuiet
/- What the reference's Create comes to: plain mathematics. Conditions: none. -/
namespace Go.Proofs.YtipcacplphidhaaGreat.Rf
open Go.RowKit Go.Sort Go.Maps
set_option linter.unusedSimpArgs false
set_option linter.unusedVariables false

theorem creF_eq {n : Nat} {ls : List Tb} {x : Sy.St n} (hc : catB ls = true) (hk : x.kind = 1) (hz : Sy.chkSt x = 0) : creF ls x = if isT ls x.tb = true then (6, []) else if newB [] ((x.cols.map clOf).map Cl.m) = false then (6, []) else if (x.cols.map clOf).any (isC x.key) = false then (94, []) else if ls.length = 8 then (51, []) else (0, insT ls (posT ls x.tb) (mkT x)) := by
  have h0 : askF ls x 1 = 0 := by
    unfold askF
    rw [if_neg (by simp [hc]), if_neg (by simp [hk]), if_neg (by simp [hz])]
  unfold creF
  rw [if_neg (by simp [h0])]
theorem creF_bad1 {n : Nat} {ls : List Tb} {x : Sy.St n} (hc : catB ls = false) : creF ls x = (9, []) := by
  have h0 : askF ls x 1 = 9 := by
    unfold askF
    rw [if_pos hc]
  unfold creF
  rw [if_pos (by simp [h0]), h0]
theorem creF_bad2 {n : Nat} {ls : List Tb} {x : Sy.St n} (hc : catB ls = true) (h : x.kind ≠ 1 ∨ Sy.chkSt x ≠ 0) : creF ls x = (1, []) := by
  have h0 : askF ls x 1 = 1 := by
    unfold askF
    rw [if_neg (by simp [hc])]
    by_cases hk : x.kind ≠ 1
    · rw [if_pos hk]
    · rw [if_neg hk, if_pos (h.resolve_left hk)]
  unfold creF
  rw [if_pos (by simp [h0]), h0]
theorem find_e {ls : List Tb} (s : ByteArray) (hc : catB ls = true) : (findF ls s).2 = if isT ls s = true then 0 else 93 := by
  unfold findF
  rw [if_neg (by simp [hc])]
  split <;> rfl
theorem newB_one (acc : List ByteArray) (s : ByteArray) (l : List Cl) (hl : acc = l.map Cl.m) : newB ([] ++ octs acc) [s] = !(l.any (isC s)) := by
  subst hl
  cases h : l.any (isC s)
  · have h1 : (([] : List (List UInt8)) ++ octs (l.map Cl.m)).contains s.data.toList = false := by
      rw [Bool.eq_false_iff]
      intro hc
      simp [octs] at hc
      obtain ⟨x, hx, e⟩ := hc
      have e' : x.m = s := by cases hm : x.m; cases s; rw [hm] at e; simp at e; rw [e]
      have := List.any_eq_false.1 h x hx
      exact this (by unfold isC; rw [e']; simp)
    rw [newB, h1]
    rfl
  · have h1 : (([] : List (List UInt8)) ++ octs (l.map Cl.m)).contains s.data.toList = true := by
      obtain ⟨x, hx, e⟩ := List.any_eq_true.1 h
      have e' : x.m = s := ba_iff.1 (by simpa [isC] using e)
      simp [octs]
      exact ⟨x, hx, by rw [e']⟩
    rw [newB, h1]
    rfl
theorem newB_at {cols : List Cl} {j : Nat} (hj : j < cols.length) : newB [] ((cols.take (j + 1)).map Cl.m) = (newB [] ((cols.take j).map Cl.m) && !((cols.take j).any (isC cols[j].m))) := by
  rw [List.take_succ_eq_append_getElem hj, List.map_append, newB_append]
  congr 1
  exact newB_one _ _ _ rfl
theorem newB_bad {cols : List Cl} {j : Nat} (hj : j < cols.length) (h : (cols.take j).any (isC cols[j].m) = true) : newB [] (cols.map Cl.m) = false := by
  have h1 := newB_at hj
  rw [h, Bool.not_true, Bool.and_false] at h1
  conv => lhs; rw [← List.take_append_drop (j + 1) cols]
  rw [List.map_append, newB_append, h1]
  rfl
theorem befT_pre (ls : List Tb) (s : ByteArray) : ∀ j (h : j < posT ls s), lessB (ls[j]'(Nat.lt_of_lt_of_le h (posT_le ls s))).m s = true := fun j h => by
  unfold posT at h
  have h1 := List.all_takeWhile (p := befT s) (l := ls)
  have h2 := List.all_eq_true.1 h1 _ (List.getElem_mem h)
  rw [(List.takeWhile_prefix (befT s)).getElem h] at h2
  exact h2
theorem befT_at (ls : List Tb) (s : ByteArray) : ∀ (h : posT ls s < ls.length), lessB ls[posT ls s].m s = false := by
  unfold posT
  induction ls with
  | nil => intro h; simp at h
  | cons a l ih =>
    intro h
    cases hb : befT s a
    · simp only [List.takeWhile_cons, hb] at h ⊢
      simpa [befT] using hb
    · simp only [List.takeWhile_cons, hb, if_true, List.length_cons] at h ⊢
      simpa using ih (by simpa using h)
theorem ls_after {ls : List Tb} {s : ByteArray} (hI : isT ls s = false) (h : posT ls s < ls.length) : lessB s ls[posT ls s].m = true := by
  have h1 := befT_at ls s h
  cases h2 : lessB s ls[posT ls s].m
  · exfalso
    have e : ls[posT ls s].m = s := ba_iff.1 (less_tri h1 h2)
    unfold isT at hI
    rw [List.getElem?_eq_getElem h] at hI
    simp [ordS_zero.2 e] at hI
  · rfl
theorem less_not {a b : ByteArray} (h : lessB a b = true) : lessB b a = false := by
  cases h2 : lessB b a
  · rfl
  · have := lessB_trans h h2
    rw [lessB_irrefl] at this
    cases this
/-- Whether the new table is laid ahead of the one at j. -/
theorem ahead_of {ls : List Tb} {s : ByteArray} (hI : isT ls s = false) {j : Nat} (hj : j < ls.length) (hle : j ≤ posT ls s) : (j = posT ls s → Op.bytesLess ls[j].m.toList s.toList = false ∧ (ls[j].m.toList == s.toList) = false) ∧ (j ≠ posT ls s → Op.bytesLess ls[j].m.toList s.toList = true) := by
  refine ⟨fun e => ?_, fun e => befT_pre ls s j (by omega)⟩
  subst e
  have h2 := ls_after hI hj
  refine ⟨less_not h2, beq_false_of_ne fun e => ?_⟩
  have e' : ls[posT ls s].m = s := ba_iff.1 e
  rw [e', lessB_irrefl] at h2
  cases h2
/-- What a change comes to, over the reference's types. -/
def ChgR (w : World) (R : Int × List Tb) (e : Ending) (w' : World) : Prop :=
  (R.1 ≠ 0 → e = .returned (.tuple #[.agg #[.slice none 0 0], .int .i64 R.1])) ∧ (R.1 = 0 → ∃ v xs, e = .returned (.tuple #[.agg #[v], .int .i64 0]) ∧ Tbs w' w.heap.size v xs ∧ xs.map Tr.t = R.2) ∧ Below w.heap.size w w'
theorem leafR {w W : World} {R : Int × List Tb} {E : Int} (hR : R = (E, [])) (hE : E ≠ 0) (hB : Below w.heap.size w W) : ChgR w R (.returned (.tuple #[.agg #[.slice none 0 0], .int .i64 E])) W := by
  subst hR
  exact ⟨fun _ => rfl, fun h => absurd h hE, hB⟩
theorem Bx4.set2 {w : World} {b : Nat} {a0 a1 a2 a3 : Value} (h : Bx4 w b a0 a1 a2 a3) (v : Value) : Bx4 (w.setCell ⟨b, 2, none⟩ v) b a0 a1 v a3 := by
  unfold Bx4
  rw [heap_setCell_same w b 2 _ _ v h]; rfl
theorem ownC_more {w : World} {B : Nat} {v : Value} {l : List Cl} {y : Cl} (h : w.ownsRow B 48 3 v (l.length + 1) (l.flatMap colC ++ [.string y.m, .int .i64 y.k, .bool y.nn])) : OwnC w B v (l ++ [y]) := by
  unfold OwnC
  rw [List.length_append, List.flatMap_append]
  simpa [colC] using h

/-- The list that the second loop makes: a table at P. -/
def insX (xs : List Tr) (P : Nat) (x : Tr) : List Tr := xs.take P ++ x :: xs.drop P
theorem insX_len {xs : List Tr} {P : Nat} {x : Tr} (h : P ≤ xs.length) : (insX xs P x).length = xs.length + 1 := by
  unfold insX
  simp
  omega
theorem insX_before {xs : List Tr} {P j : Nat} {x : Tr} (h : P ≤ xs.length) (hj : j < P) : (insX xs P x)[j]? = xs[j]? := by
  unfold insX
  rw [List.getElem?_append_left (by simp; omega), List.getElem?_take_of_lt hj]
theorem insX_at {xs : List Tr} {P : Nat} {x : Tr} (h : P ≤ xs.length) : (insX xs P x)[P]? = some x := by
  unfold insX
  rw [List.getElem?_append_right (by simp; omega)]
  have : P - (xs.take P).length = 0 := by simp; omega
  rw [this]; rfl
theorem insX_behind {xs : List Tr} {P j : Nat} {x : Tr} (h : P ≤ xs.length) (hj : P ≤ j) : (insX xs P x)[j + 1]? = xs[j]? := by
  unfold insX
  rw [List.getElem?_append_right (by simp; omega)]
  have : j + 1 - (xs.take P).length = (j - P) + 1 := by simp; omega
  rw [this, List.getElem?_cons_succ, List.getElem?_drop]
  congr 1
  omega
theorem insX_map {xs : List Tr} {ls : List Tb} {P : Nat} {x : Tr} (h : xs.map Tr.t = ls) : (insX xs P x).map Tr.t = insT ls P x.t := by
  unfold insX insT
  rw [← h, List.map_append, List.map_cons, List.map_take, List.map_drop]
theorem take_get {α : Type} {l : List α} {k : Nat} {x : α} (h : l[k]? = some x) : l.take (k + 1) = l.take k ++ [x] := by
  obtain ⟨hk, e⟩ := List.getElem?_eq_some_iff.1 h
  rw [List.take_succ_eq_append_getElem hk, e]
/-- How far the second loop is: out holds k of them. -/
structure Lp (w0 wr : World) (B Bo tq ob nb : Nat) (t4 : Tr) (v : Value) (xs ys : List Tr) (A : Option Addr) (nn c k : Nat) : Prop where
  old : Bx1 wr ob (.slice A nn c)
  out : Bx1 wr nb v
  tab : Bx4 wr tq (.string t4.t.m) (.slice t4.A t4.t.cols.length t4.c) (.int .i64 t4.t.key) (.slice t4.A' t4.t.idx.length t4.c')
  row : wr.ownsRow Bo 57 4 v k ((ys.take k).flatMap trC)
  orow : wr.ownsRow B 57 4 (.slice A nn c) xs.length (xs.flatMap trC)
  apart : ∀ b, (Value.slice A nn c).ownBlock = some b → b < Bo
  tabs : ∀ x ∈ ys, TrO wr B x
  below : Below w0.heap.size w0 wr
theorem Lp.grow {w0 wr w' : World} {B Bo tq ob nb : Nat} {t4 : Tr} {v v' : Value} {xs ys : List Tr} {A : Option Addr} {nn c k : Nat} {x : Tr} (h : Lp w0 wr B Bo tq ob nb t4 v xs ys A nn c k) (hx : ys[k]? = some x)
    (ho : w'.ownsRow Bo 57 4 v' (k + 1) ((ys.take k).flatMap trC ++ trC x)) (hg : wr.grownBy w' v.ownBlock) (hn : nb ≠ ob) (hn2 : nb ≠ tq) (hn3 : w0.heap.size ≤ nb) (hBo : w0.heap.size ≤ Bo) (htq : tq < Bo) (hB : w0.heap.size ≤ wr.heap.size) :
    Lp w0 (w'.setCell ⟨nb, 0, none⟩ v') B Bo tq ob nb t4 v' xs ys A nn c (k + 1) := by
  have hout := h.out.grown hg (own_ne h.row h.out (by decide))
  have hts : ∀ y ∈ ys, TrO w' B y := fun y hy => (h.tabs y hy).kept hg (fun b hb => by
    obtain ⟨cs, fr, h1⟩ := own_type h.row b hb
    exact ⟨cs, _, fr, h1, by decide, by decide⟩)
  refine ⟨(h.old.grown hg (own_ne h.row h.old (by decide))).other ⟨nb, 0, none⟩ hn.symm v', hout.set v', ?_, ?_, ?_, h.apart, fun y hy => (hts y hy).kept (grown_setCell w' nb 0 v') (fun b hb => by
    injection hb with hb
    subst hb
    exact ⟨_, _, _, hout, by decide, by decide⟩), ?_⟩
  · have h1 : Bx4 w' tq (.string t4.t.m) (.slice t4.A t4.t.cols.length t4.c) (.int .i64 t4.t.key) (.slice t4.A' t4.t.idx.length t4.c') := by
      have h2 := h.tab
      unfold Bx4 at h2 ⊢
      rw [hg.block tq (Array.getElem?_eq_some_iff.1 h2).1 (fun e => by have := (h.row.lt tq e.symm).1; omega)]
      exact h2
    exact h1.other ⟨nb, 0, none⟩ hn2.symm v'
  · rw [take_get hx, List.flatMap_append]
    have h1 := ho.kept (grown_setCell w' nb 0 v') (by
      cases hv : v'.ownBlock with
      | none => exact .inl rfl
      | some b => exact .inr (fun e => own_ne ho hout (by decide) (by rw [hv, e])))
    simpa using h1
  · have h1 := h.orow.kept hg (by
      cases hv : (Value.slice A nn c).ownBlock with
      | none => exact .inl rfl
      | some b => exact .inr (fun e => by
          have := h.apart b hv
          have := (h.row.lt b e.symm).1
          omega))
    exact h1.kept (grown_setCell w' nb 0 v') (by
      cases hv : (Value.slice A nn c).ownBlock with
      | none => exact .inl rfl
      | some b => exact .inr (fun e => own_ne h1 hout (by decide) (by rw [hv, e])))
  · exact below_set (h.below.grown hg hB (fun b hb => by have := (h.row.lt b hb).1; omega)) ⟨nb, 0, none⟩ hn3 v'
theorem Lp.below_ {w0 wr w' : World} {B Bo tq ob nb : Nat} {t4 : Tr} {v : Value} {xs ys : List Tr} {A : Option Addr} {nn c k : Nat} (h : Lp w0 wr B Bo tq ob nb t4 v xs ys A nn c k) (hb : Below wr.heap.size wr w') : Lp w0 w' B Bo tq ob nb t4 v xs ys A nn c k :=
  ⟨h.old.below hb, h.out.below hb, h.tab.below hb, own_below h.row hb, own_below h.orow hb, h.apart, fun x hx => (h.tabs x hx).below hb, h.below.trans (hb.mono h.below.size)⟩
theorem Lp.cell {w0 wr : World} {B Bo tq ob nb : Nat} {t4 : Tr} {v : Value} {xs ys : List Tr} {A : Option Addr} {nn c k j : Nat} (h : Lp w0 wr B Bo tq ob nb t4 v xs ys A nn c k) (hj : j < xs.length) :
    ∃ g, wr.cell? ⟨g, j * 4, none⟩ = some (.string xs[j].t.m) ∧ wr.cell? ⟨g, j * 4 + 1, none⟩ = some (.slice xs[j].A xs[j].t.cols.length xs[j].c) ∧ wr.cell? ⟨g, j * 4 + 2, none⟩ = some (.int .i64 xs[j].t.key) ∧ wr.cell? ⟨g, j * 4 + 3, none⟩ = some (.slice xs[j].A' xs[j].t.idx.length xs[j].c') ∧ A = some ⟨g, 0, none⟩ := by
  rcases h.orow.2 with ⟨_, h0⟩ | ⟨g, cap, cur, e, _⟩
  · omega
  · injection e with e1 e2 e3
    have ho := h.orow
    rw [e1] at ho
    have hx : xs[j]? = some xs[j] := List.getElem?_eq_getElem hj
    have hc' := ho.cells (g := g) rfl
    have h0 := hc' (j * 4 + 0) _ (flatK_get trC 4 trC_len xs j 0 _ hx (by omega))
    have h1 := hc' (j * 4 + 1) _ (flatK_get trC 4 trC_len xs j 1 _ hx (by omega))
    have h2 := hc' (j * 4 + 2) _ (flatK_get trC 4 trC_len xs j 2 _ hx (by omega))
    have h3 := hc' (j * 4 + 3) _ (flatK_get trC 4 trC_len xs j 3 _ hx (by omega))
    rw [add_lit] at h0 h1 h2 h3
    have z (n : Nat) : 0 + n = n := by omega
    simp only [z] at h0 h1 h2 h3
    exact ⟨g, h0, h1, h2, h3, e1⟩
/-- The call's first three boxes, and all that was there. -/
structure Fr (w0 W : World) (vS : Value) (cx : Array Value) : Prop where
  S : Bx1 W w0.heap.size vS
  R : Bx1 W (w0.heap.size + 1 + 1) (.slice none 0 0)
  X : W.heap[w0.heap.size + 1]? = some (.cells cx 31 (0, 0))
  B : Below w0.heap.size w0 W
theorem Fr.below_ {w0 W W' : World} {vS : Value} {cx : Array Value} (h : Fr w0 W vS cx) (hb : Below W.heap.size W W') : Fr w0 W' vS cx := ⟨h.S.below hb, h.R.below hb, row_below h.X hb, h.B.trans (hb.mono h.B.size)⟩
theorem Fr.grown {w0 W W' : World} {vS : Value} {cx : Array Value} {r : Option Nat} (h : Fr w0 W vS cx) (hg : W.grownBy W' r) (hr : ∀ k, r = some k → w0.heap.size + 3 ≤ k) : Fr w0 W' vS cx :=
  ⟨h.S.grown hg (fun e => by have := hr _ e; omega), h.R.grown hg (fun e => by have := hr _ e; omega), row_grown h.X hg (fun e => by have := hr _ e; omega), h.B.grown hg h.B.size (fun k hk => by have := hr k hk; omega)⟩
theorem Fr.set_ {w0 W : World} {vS : Value} {cx : Array Value} (h : Fr w0 W vS cx) (b o : Nat) (hb : w0.heap.size + 3 ≤ b) (v : Value) : Fr w0 (W.setCell ⟨b, o, none⟩ v) vS cx :=
  h.grown (grown_setCell W b o v) (fun k hk => by injection hk with hk; omega)
end Go.Proofs.YtipcacplphidhaaGreat.Rf
namespace Go.Proofs.YtipcacplphidhaaGreat.Rf
open Go.RowKit Go.Sort Go.Maps
set_option linter.unusedSimpArgs false
set_option linter.unusedVariables false

set_option maxRecDepth 100000 in
set_option maxHeartbeats 32000000 in
theorem rCreate_any {n : Nat} (A : Option Addr) (c : Nat) (ls : List Tb) (x : Sy.St n) (h : Sy.Hs) (w : World) (hr : RdS w A ls) (hcap : ls.length ≤ c) (hcm : c ≤ 9223372036854775807) (hx : Sy.RdSt Sy.Any w x h) :
    Calls Tryz.prog 8 #[.agg #[.slice A ls.length c], x.val h] w (ChgR w (creF ls x)) := by
  obtain ⟨i0, hi0, hz0, hz1, hz2⟩ := info_parts Tryz.infoT
  obtain ⟨iC, hiC, hC0, hC1, hC2⟩ := info_parts Tryz.infoC
  have hb1 := below1 w (.cells #[.slice A ls.length c] 24)
  have hb2 := below1 (w.alloc (.cells #[.slice A ls.length c] 24)) (.cells (x.cs h) 31)
  have hb3 := below1 ((w.alloc (.cells #[.slice A ls.length c] 24)).alloc (.cells (x.cs h) 31)) (.cells #[.slice none 0 0] 24)
  have h1 : Bx1 (((w.alloc (.cells #[.slice A ls.length c] 24)).alloc (.cells (x.cs h) 31)).alloc (.cells #[.slice none 0 0] 24)) w.heap.size (.slice A ls.length c) := (Bx1.below (heap_alloc_new w _) hb2).below hb3
  have h2 : (((w.alloc (.cells #[.slice A ls.length c] 24)).alloc (.cells (x.cs h) 31)).alloc (.cells #[.slice none 0 0] 24)).heap[w.heap.size + 1]? = some (.cells (x.cs h) 31 (0, 0)) := stmt_row x h (w.alloc (.cells #[.slice A ls.length c] 24)) (by simp) hb3
  have h3 : Bx1 (((w.alloc (.cells #[.slice A ls.length c] 24)).alloc (.cells (x.cs h) 31)).alloc (.cells #[.slice none 0 0] 24)) (w.heap.size + 1 + 1) (.slice none 0 0) := by
    have := heap_alloc_new ((w.alloc (.cells #[.slice A ls.length c] 24)).alloc (.cells (x.cs h) 31)) (.cells #[.slice none 0 0] 24)
    rwa [World.size_alloc, World.size_alloc] at this
  have HB3 := Lib.hid (thn (thn hb1 hb2) hb3)
  have HS3 := Lib.hid h1
  have HR3 := Lib.hid h3
  have HX3 := Lib.hid h2
  have HR := Lib.hid hr
  have HFI := Lib.hid fun (W : World) (hb : Below w.heap.size w W) => rFind6_any A c ls x.tb W (hr.below hb) hcap hcm
  have HCH := Lib.hid fun (W : World) (hb : Below w.heap.size w W) => Sy.rCheck_any x h W (hx.below hb)
  have HXC := Lib.hid (rdC_of hx.C)
  have HB1 := Lib.hid (fun hc => creF_bad1 (ls := ls) (x := x) hc)
  have HB2 := Lib.hid (fun hc hh => creF_bad2 (ls := ls) (x := x) hc hh)
  have HEQ := Lib.hid (fun hc hk hz => creF_eq (ls := ls) (x := x) hc hk hz)
  have HFW := Lib.hid (fun hk hz => few_asked (mk1_of (x := x) hk hz))
  have hmk : mkT x = ⟨x.tb, keyed (x.cols.map clOf) (fst1 (isC x.key) (x.cols.map clOf)).toNat, fst1 (isC x.key) (x.cols.map clOf), []⟩ := rfl
  rw [hmk] at HEQ
  have HE9 := Lib.hid (show catB ls = false → (findF ls x.tb).2 = 9 from fun hc => by unfold findF; rw [if_pos hc])
  have HEE := Lib.hid (fun hc => find_e (ls := ls) x.tb hc)
  generalize creF ls x = R at HB1 HB2 HEQ ⊢
  clear hr hx hb1 hb2 hb3 h1 h2 h3 hmk
  have hml : x.cols.length = (x.cols.map clOf).length := by rw [List.length_map]
  generalize Sy.chkSt x = CK at HCH HB2 HEQ HFW
  obtain ⟨kd, tb, cols0, key, ix, rows, sets, items, jn, on, wh, gr, ord, lim⟩ := x
  obtain ⟨⟨aC, cC⟩, ⟨aR, cR⟩, ⟨aS, cS⟩, ⟨aI, cI⟩, ⟨aO, cO⟩, ⟨aW, cW⟩, ⟨aG, cG⟩, ⟨aD, cD⟩⟩ := h
  dsimp only [Sy.St.cs, Sy.St.val] at *
  rw [hml] at *
  generalize cols0.map clOf = cols at *
  clear hml
  generalize (findF ls tb).2 = E at HFI HE9 HEE
  go_enter Tryz.func8, Tryz.ntmps8
  go_upto_region 1 with fail
  generalize ((w.alloc (.cells #[.slice A ls.length c] 24)).alloc (.cells #[.int .i64 kd, .string tb, .slice aC cols.length cC, .string key, .string ix, .slice aR rows.length cR, .slice aS sets.length cS, .slice aI items.length cI, .string jn, .slice aO on.length cO, .slice aW wh.length cW, .slice aG gr.length cG, .slice aD ord.length cD, .int .i64 lim] 31)).alloc (.cells #[.slice none 0 0] 24) = w3 at HB3 HS3 HR3 HX3 ⊢
  obtain ⟨s0, _⟩ := HS3.out.cells
  obtain ⟨y0, y1, y2, y3, y4, y5, y6, y7, y8, y9, y10, y11, y12, y13⟩ := Sy.cells14 HX3.out
  go_upto_region 2 with (go_at_call 23; (with_reducible refine (HFI.out _ HB3.out).mono ?_); rintro e w4 ⟨⟨i4, rfl⟩, hb⟩; have HS4 := Lib.hid (HS3.out.below hb); have HR4 := Lib.hid (HR3.out.below hb); have HX4 := Lib.hid (row_below HX3.out hb); have HB4 := Lib.hid (thn HB3.out hb); clear hb)
  clear s0 y0 y1 y2 y3 y4 y5 y6 y7 y8 y9 y10 y11 y12 y13 HS3 HR3 HX3 HB3 HFI
  obtain ⟨r0, rf⟩ := HR4.out.cells
  have Z0 := Lib.hid (HR4.out.set (.slice none 0 0)).cells.1
  have HZ := Lib.hid (below_set HB4.out ⟨w.heap.size + 1 + 1, 0, none⟩ (by simp; omega) (.slice none 0 0))
  cases hcb : catB ls
  · obtain rfl := HE9.out hcb
    have HC3 := Lib.hid (HB1.out hcb)
    clear HB1 HB2 HEQ HFW hcb HE9 HEE
    go_wp2
    exact bodyPost_ret (v := .tuple #[.agg #[.slice none 0 0], .int .i64 9]) (by simp [results, Tryz.results8, go_sem, Z0.out]) rfl (leafR HC3.out (by decide) HZ.out)
  have hEE := HEE.out hcb
  have hE9 : ¬ E = 9 := by rw [hEE]; split <;> decide
  have HCAT := Lib.hid (cat_of hcb)
  obtain ⟨y0, y1, y2, y3, y4, y5, y6, y7, y8, y9, y10, y11, y12, y13⟩ := Sy.cells14 HX4.out
  by_cases hkd : kd = 1
  case neg =>
    have HC3 := Lib.hid (HB2.out hcb (.inl hkd))
    clear HB1 HB2 HEQ HFW hcb HE9 HEE hEE
    go_wp2
    exact bodyPost_ret (v := .tuple #[.agg #[.slice none 0 0], .int .i64 1]) (by simp [results, Tryz.results8, go_sem, Z0.out]) rfl (leafR HC3.out (by decide) HZ.out)
  subst hkd
  by_cases hck : CK = 0
  case neg =>
    have HC3 := Lib.hid (HB2.out hcb (.inr hck))
    clear HB1 HB2 HEQ HFW hcb HE9 HEE hEE HZ Z0
    go_upto_region 5 with (go_at_call 24; (with_reducible refine (HCH.out _ HB4.out).mono ?_); rintro e w5 ⟨rfl, hb⟩; have HR5 := Lib.hid (HR4.out.below hb); have HB5 := Lib.hid (thn HB4.out hb); clear hb)
    clear r0 rf
    obtain ⟨r0, rf⟩ := HR5.out.cells
    have Z0 := Lib.hid (HR5.out.set (.slice none 0 0)).cells.1
    have HZ := Lib.hid (below_set HB5.out ⟨w.heap.size + 1 + 1, 0, none⟩ (by simp; omega) (.slice none 0 0))
    go_wp2
    exact bodyPost_ret (v := .tuple #[.agg #[.slice none 0 0], .int .i64 1]) (by simp [results, Tryz.results8, go_sem, Z0.out]) rfl (leafR HC3.out (by decide) HZ.out)
  subst hck
  have hcr := HEQ.out hcb rfl rfl
  obtain ⟨h8, _⟩ := HFW.out rfl rfl
  clear HB1 HB2 HEQ HFW hcb HE9 HEE HZ Z0
  go_upto_region 6 with (go_at_call 24; (with_reducible refine (HCH.out _ HB4.out).mono ?_); rintro e w5 ⟨rfl, hb⟩; have HS5 := Lib.hid (HS4.out.below hb); have HX5 := Lib.hid (row_below HX4.out hb); have HR5 := Lib.hid (HR4.out.below hb); have HB5 := Lib.hid (thn HB4.out hb); clear hb)
  clear r0 rf y0 y1 y2 y3 y4 y5 y6 y7 y8 y9 y10 y11 y12 y13 HS4 HX4 HR4 HB4 HCH
  cases hT : isT ls tb
  case true =>
    rw [hT] at hEE hcr
    rw [if_pos rfl] at hEE hcr
    subst hEE
    have HC3 := Lib.hid hcr
    clear hcr
    obtain ⟨r0, rf⟩ := HR5.out.cells
    have Z0 := Lib.hid (HR5.out.set (.slice none 0 0)).cells.1
    have HZ := Lib.hid (below_set HB5.out ⟨w.heap.size + 1 + 1, 0, none⟩ (by simp; omega) (.slice none 0 0))
    go_wp2
    exact bodyPost_ret (v := .tuple #[.agg #[.slice none 0 0], .int .i64 6]) (by simp [results, Tryz.results8, go_sem, Z0.out]) rfl (leafR HC3.out (by decide) HZ.out)
  rw [hT] at hEE hcr
  rw [if_neg (by decide)] at hEE hcr
  subst hEE
  have HCR := Lib.hid hcr
  clear hcr hE9
  obtain ⟨y0, y1, y2, y3, y4, y5, y6, y7, y8, y9, y10, y11, y12, y13⟩ := Sy.cells14 HX5.out
  go_upto_region 9 with fail
  have h6 := below1 w5 (.cells #[.string tb, .slice none 0 0, .int .i64 0, .slice none 0 0] 57)
  have HT6 : Hid (Bx4 (w5.alloc (.cells #[.string tb, .slice none 0 0, .int .i64 0, .slice none 0 0] 57)) w5.heap.size (.string tb) (.slice none 0 0) (.int .i64 0) (.slice none 0 0)) := Lib.hid (heap_alloc_new w5 _)
  have HS6 := Lib.hid (HS5.out.below h6)
  have HR6 := Lib.hid (HR5.out.below h6)
  have HX6 := Lib.hid (row_below HX5.out h6)
  have HB6 := Lib.hid (thn HB5.out h6)
  have htq : w.heap.size + 3 ≤ w5.heap.size := HR5.out.lt
  have hq6 : w5.heap.size < (w5.alloc (.cells #[.string tb, .slice none 0 0, .int .i64 0, .slice none 0 0] 57)).heap.size := by simp
  clear h6 y0 y1 y2 y3 y4 y5 y6 y7 y8 y9 y10 y11 y12 y13 HS5 HR5 HX5 HB5
  generalize w5.alloc (.cells #[.string tb, .slice none 0 0, .int .i64 0, .slice none 0 0] 57) = w6 at *
  generalize w5.heap.size = tq at *
  obtain ⟨y0, y1, y2, y3, y4, y5, y6, y7, y8, y9, y10, y11, y12, y13⟩ := Sy.cells14 HX6.out
  go_wp2_with fail
  clear y0 y1 y2 y3 y4 y5 y6 y7 y8 y9 y10 y11 y12 y13
  go_loopw [9] (fun i wr => ∃ (j : Nat) (lc : List Cl) (A9 : Option Addr) (c9 : Nat), i = .int .i64 j ∧ j ≤ cols.length ∧ lc = cols.take j ∧ newB [] (lc.map Cl.m) = true ∧ Bx4 wr tq (.string tb) (.slice A9 lc.length c9) (.int .i64 0) (.slice none 0 0) ∧ OwnC wr (w.heap.size + 3) (.slice A9 lc.length c9) lc ∧ Fr w wr (.slice A ls.length c) #[.int .i64 1, .string tb, .slice aC cols.length cC, .string key, .string ix, .slice aR rows.length cR, .slice aS sets.length cS, .slice aI items.length cI, .string jn, .slice aO on.length cO, .slice aW wh.length cW, .slice aG gr.length cG, .slice aD ord.length cD, .int .i64 lim]) (fun i _ => cols.length - (intOf i).toNat)
  case atStart => exact ⟨0, [], none, 0, rfl, by omega, rfl, rfl, HT6.out, World.ownsRow_nil _ _ _ _, ⟨HS6.out, HR6.out, HX6.out, HB6.out⟩⟩
  case round =>
    clear HT6 HS6 HR6 HX6 HB6 hq6
    obtain ⟨j, lc, A9, c9, rfl, hj, hlc, hnb, hT, hC, hF⟩ := hrel
    have HLC := Lib.hid hlc
    have HNB := Lib.hid hnb
    have HTq := Lib.hid hT
    have HCq := Lib.hid hC
    have HFq := Lib.hid hF
    have HLEN := Lib.hid (show lc.length = j by rw [hlc, List.length_take]; omega)
    clear hlc hnb hT hC hF
    obtain ⟨_, _, e9, hrc⟩ := own_cols HCq.out
    injection e9 with e91 _ e92
    subst e91 e92
    have HRC := Lib.hid hrc
    clear hrc
    obtain ⟨y0, y1, y2, y3, y4, y5, y6, y7, y8, y9, y10, y11, y12, y13⟩ := Sy.cells14 HFq.out.X
    by_cases hlt : j < cols.length
    · have hlt' : (j : Int) < (cols.length : Int) := by omega
      obtain ⟨ad, rfl, m0, m1, m2⟩ := (HXC.out.below HFq.out.B).at_ hlt
      have mb := cell_lt m0
      rw [add_block] at mb
      have HBAD := Lib.hid fun (h : lc.any (isC cols[j].m) = true) => (show R = (6, []) by rw [HCR.out, if_pos (newB_bad hlt (by rw [← HLC.out]; exact h))])
      have HNEW := Lib.hid fun (h : lc.any (isC cols[j].m) = false) => (show newB [] ((lc ++ [cols[j]]).map Cl.m) = true by
        have := newB_at hlt
        rw [List.take_succ_eq_append_getElem hlt, ← HLC.out, HNB.out, h] at this
        exact this)
      have HTK := Lib.hid (show lc ++ [cols[j]] = cols.take (j + 1) by rw [List.take_succ_eq_append_getElem hlt, HLC.out])
      generalize cols[j] = y at m0 m1 m2 HBAD HNEW HTK
      have hcol := fun (W : World) (hb : Below wr.heap.size wr W) => rColumn_any tb A9 none c9 0 0 0 lc y.m W (HRC.out.below hb) (by have := HLEN.out; omega)
      have hcf : colF lc y.m = if lc.any (isC y.m) = true then (fst1 (isC y.m) lc, 0) else (0, 94) := rfl
      generalize colF lc y.m = CF at hcol hcf
      obtain ⟨x0, x1, x2, x3, f0, f1, f2, f3⟩ := cells4 HTq.out
      clear y0 y1 y3 y4 y5 y6 y7 y8 y9 y10 y11 y12 y13 f0 f1 f2 f3
      go_upto_region 12 with fail
      cases hany : lc.any (isC y.m)
      case true =>
        rw [if_pos hany] at hcf
        subst hcf
        have HCOL := Lib.hid hcol
        have HC3 := Lib.hid (HBAD.out hany)
        clear hcol HBAD HNEW hany
        have r0 := cell_regrown x0
        have r1 := cell_regrown x1
        have r2 := cell_regrown x2
        have r3 := cell_regrown x3
        have ry := cell_regrown y2
        have rm := cell_regrown m0
        clear x0 x1 x2 x3 y2 m0 m1 m2
        refine wp_region_quiet_below (by kernel_rfl) (by kernel_rfl) ?_
        repeat (go_big_quiet_step ((with_reducible exact Calls.regrown_of (HCOL.out _ (below_regrown _ _ _)))))
        refine wpQuiet_nil ?_
        intro w8 hw8
        obtain ⟨pp, rfl⟩ := hw8
        have HB8 := Lib.hid (below_regrown wr pp.d pp.os)
        clear r0 r1 r2 r3 ry rm
        generalize grow (redrawn wr pp.d) pp.os = W8 at HB8 ⊢
        have HR8 := Lib.hid (HFq.out.R.below HB8.out)
        have HB9 := Lib.hid (thn HFq.out.B HB8.out)
        obtain ⟨r0, rf⟩ := HR8.out.cells
        have Z0 := Lib.hid (HR8.out.set (.slice none 0 0)).cells.1
        have HZ := Lib.hid (below_set HB9.out ⟨w.heap.size + 1 + 1, 0, none⟩ (by simp; omega) (.slice none 0 0))
        go_wp2
        exact bodyPost_ret (v := .tuple #[.agg #[.slice none 0 0], .int .i64 6]) (by simp [results, Tryz.results8, go_sem, Z0.out]) rfl (leafR HC3.out (by decide) HZ.out)
      rw [if_neg (by rw [hany]; decide)] at hcf
      subst hcf
      have HCOL := Lib.hid hcol
      have HNW := Lib.hid (HNEW.out hany)
      have MB := Lib.hid (⟨m0, m1, m2⟩ : CellC wr (ad.add (j * 3)) y)
      clear hcol HBAD HNEW hany
      have r0 := cell_regrown x0
      have r1 := cell_regrown x1
      have r2 := cell_regrown x2
      have r3 := cell_regrown x3
      have ry := cell_regrown y2
      have rm := cell_regrown m0
      clear x0 x1 x2 x3 y2 m0 m1 m2
      refine wp_region_quiet_below (by kernel_rfl) (by kernel_rfl) ?_
      repeat (go_big_quiet_step ((with_reducible exact Calls.regrown_of (HCOL.out _ (below_regrown _ _ _)))))
      refine wpQuiet_nil ?_
      intro w8 hw8
      obtain ⟨pp, rfl⟩ := hw8
      have HB8 := Lib.hid (below_regrown wr pp.d pp.os)
      clear r0 r1 r2 r3 ry rm
      generalize grow (redrawn wr pp.d) pp.os = W8 at HB8 ⊢
      have HT8 := Lib.hid (HTq.out.below HB8.out)
      have HC8 := Lib.hid (own_below HCq.out HB8.out)
      have HF8 := Lib.hid (HFq.out.below_ HB8.out)
      have M8 := Lib.hid (⟨Kp.of_below HB8.out _ _ MB.out.1, Kp.of_below HB8.out _ _ MB.out.2.1, Kp.of_below HB8.out _ _ MB.out.2.2⟩ : CellC W8 (ad.add (j * 3)) y)
      have hz8 : w.heap.size + 3 ≤ W8.heap.size := HF8.out.R.lt
      clear HTq HCq HFq MB HB8 HRC
      go_upto_region 15 with fail
      obtain ⟨x0, x1, x2, x3, f0, f1, f2, f3⟩ := cells4 HT8.out
      obtain ⟨y0, y1, y2, y3, y4, y5, y6, y7, y8, y9, y10, y11, y12, y13⟩ := Sy.cells14 HF8.out.X
      obtain ⟨m0, m1, m2⟩ := M8.out
      obtain ⟨ln, hln⟩ : ∃ l, l = lc ++ [y] := ⟨_, rfl⟩
      have HLN := Lib.hid hln
      clear hln
      have htq8 : tq < W8.heap.size := (Array.getElem?_eq_some_iff.1 HT8.out).1
      have hx8 : w.heap.size + 1 < W8.heap.size := by omega
      have mb8 := cell_lt m0
      have mb9 := mb8
      rw [add_block] at mb9
      have ha := below1 W8 (.cells #[.string y.m, .int .i64 y.k, .bool y.nn] 48)
      have HOa := Lib.hid (own_below HC8.out ha)
      have HTa := Lib.hid (HT8.out.below ha)
      have HFa := Lib.hid (HF8.out.below_ ha)
      have hza : w.heap.size + 3 ≤ (W8.alloc (.cells #[.string y.m, .int .i64 y.k, .bool y.nn] 48)).heap.size := by have := ha.size; omega
      clear ha y0 y1 y3 y4 y5 y6 y7 y8 y9 y10 y11 y12 y13
      go_region_law (refine step_append_own rfl (.tmp 68) (.tmp 74) 25 rfl (w.heap.size + 3) 48 iC (.agg #[.string ⟨#[]⟩, .int .i64 0, .bool false]) 3 32 Tryz.underlying25 hiC hC0 hC1 hC2 rfl (by decide) (.slice A9 lc.length c9) lc.length (lc.flatMap colC) rfl (by first | exact HOa.out.drew | exact HOa.out) ⟨W8.heap.size, 0, none⟩ 1 1 [.string y.m, .int .i64 y.k, .bool y.nn] rfl rfl (news_new W8 #[.string y.m, .int .i64 y.k, .bool y.nn] _ [.string y.m, .int .i64 y.k, .bool y.nn] rfl) (by simp [Value.oneCell']) (by have := HLEN.out; unfold maxLen; omega) (by have := HLEN.out; omega) (by first | exact hza | (simp; omega)) ?_; intro v' w2 hown hg; have hg' : (W8.alloc (.cells #[.string y.m, .int .i64 y.k, .bool y.nn] 48)).grownBy w2 (Value.slice A9 lc.length c9).ownBlock := ⟨hg.os, hg.tape, hg.output, hg.size, hg.block⟩; have HT2 : Hid (Bx4 w2 tq (.string tb) (.slice A9 lc.length c9) (.int .i64 0) (.slice none 0 0)) := Lib.hid (row_grown HTa.out hg' (own_ne HOa.out HTa.out (by decide))); have HF2 := Lib.hid (HFa.out.grown hg' (fun k hk => (HOa.out.lt k hk).1)); obtain ⟨z0, z1, z2, z3, g0, g1, g2, g3⟩ := cells4 HT2.out; have HOW : Hid (OwnC w2 (w.heap.size + 3) v' ln) := Lib.hid (by rw [HLN.out]; exact ownC_more hown); obtain ⟨A6, c6, e6, _⟩ := own_cols HOW.out; subst e6; clear hown hg hg')
      all_goals
        have HT3 := Lib.hid (HT2.out.set1 (.slice A6 ln.length c6))
        have HO3 := Lib.hid (ownC_set (o := 1) HOW.out HT2.out (by decide) (.slice A6 ln.length c6))
        have HF3 := Lib.hid (HF2.out.set_ tq 1 htq (.slice A6 ln.length c6))
        go_wp2
        go_roundw
        case rel => exact ⟨j + 1, ln, A6, c6, by go_num, hlt, by rw [HLN.out]; exact HTK.out, by rw [HLN.out]; exact HNW.out, HT3.out, HO3.out, HF3.out⟩
        case measure => simp [intOf]; omega
    · obtain rfl : j = cols.length := by omega
      have hlc : lc = cols := by rw [HLC.out, List.take_length]
      subst hlc
      have hcr := HCR.out
      rw [if_neg (by rw [HNB.out]; decide)] at hcr
      have hcol := rColumn_any tb A9 none c9 0 0 0 lc key wr HRC.out (by omega)
      have hcf : colF lc key = if lc.any (isC key) = true then (fst1 (isC key) lc, 0) else (0, 94) := rfl
      generalize colF lc key = CF at hcol hcf
      obtain ⟨x0, x1, x2, x3, f0, f1, f2, f3⟩ := cells4 HTq.out
      clear hlt hj HLEN HLC HRC HNB
      by_cases hany : lc.any (isC key) = true
      case neg =>
        rw [if_neg hany] at hcf
        subst hcf
        rw [if_pos (by simpa using hany)] at hcr
        have HCOL := Lib.hid hcol
        clear hcol
        go_upto_region 18 with (go_at_call 25; (with_reducible refine HCOL.out.mono ?_); rintro e w9 ⟨rfl, hb⟩; have HF9 := Lib.hid (HFq.out.below_ hb); clear hb)
        clear x0 x1 x2 x3 f0 f1 f2 f3 y0 y1 y2 y3 y4 y5 y6 y7 y8 y9 y10 y11 y12 y13 hany
        have HC3 := Lib.hid hcr
        obtain ⟨r0, rf⟩ := HF9.out.R.cells
        have Z0 := Lib.hid (HF9.out.R.set (.slice none 0 0)).cells.1
        have HZ := Lib.hid (below_set HF9.out.B ⟨w.heap.size + 1 + 1, 0, none⟩ (by simp; omega) (.slice none 0 0))
        go_wp2
        exact bodyPost_ret (v := .tuple #[.agg #[.slice none 0 0], .int .i64 94]) (by simp [results, Tryz.results8, go_sem, Z0.out]) rfl (leafR HC3.out (by decide) HZ.out)
      rw [if_pos hany] at hcf
      subst hcf
      obtain ⟨i, hi, hz, hq1, hq2⟩ := fst1_get hany
      clear hq1 hq2
      rw [if_neg (by rw [hany]; decide), hz] at hcr
      rw [hz] at hcol
      have HCOL := Lib.hid hcol
      have HCR5 := Lib.hid hcr
      clear hcol hcr HCR hz hany
      go_upto_region 19 with (go_at_call 25; (with_reducible refine HCOL.out.mono ?_); rintro e w9 ⟨rfl, hb⟩; have HT9 := Lib.hid (HTq.out.below hb); have HC9 := Lib.hid (own_below HCq.out hb); have HF9 := Lib.hid (HFq.out.below_ hb); clear hb)
      clear y0 y1 y2 y3 y4 y5 y6 y7 y8 y9 y10 y11 y12 y13 x0 x1 x2 x3 f0 f1 f2 f3 HCOL HTq HCq HFq
      obtain ⟨s0, sf⟩ := HF9.out.S.cells
      by_cases hl8 : ls.length = 8
      case pos =>
        have hcr := HCR5.out
        rw [if_pos hl8] at hcr
        have hl8' : (8 : Int) ≤ (ls.length : Int) := by omega
        have HC3 := Lib.hid hcr
        obtain ⟨r0, rf⟩ := HF9.out.R.cells
        have Z0 := Lib.hid (HF9.out.R.set (.slice none 0 0)).cells.1
        have HZ := Lib.hid (below_set HF9.out.B ⟨w.heap.size + 1 + 1, 0, none⟩ (by simp; omega) (.slice none 0 0))
        go_wp2
        exact bodyPost_ret (v := .tuple #[.agg #[.slice none 0 0], .int .i64 51]) (by simp [results, Tryz.results8, go_sem, Z0.out]) rfl (leafR HC3.out (by decide) HZ.out)
      have hcr := HCR5.out
      rw [if_neg hl8] at hcr
      have HC3 := Lib.hid hcr
      have hle8 := HCAT.out.few
      have hl8' : ¬ (8 : Int) ≤ (ls.length : Int) := by omega
      clear hcr HCR5
      obtain ⟨g, cap, ef⟩ := Go.Joins.ownsRow_form HC9.out (by omega)
      injection ef with ef1 _ ef2
      subst ef1 ef2
      obtain ⟨d0, d1, d2, _⟩ := OwnC.at_ HC9.out hi
      have df := HC9.out.frozenAt (i * 3 + 2)
      have hgB := (HC9.out.lt g rfl).1
      have hgt : g ≠ tq := fun e => by
        subst e
        obtain ⟨cs, fr, h9⟩ := own_type HC9.out g rfl
        have h9' := HT9.out
        unfold Bx4 at h9'
        rw [h9] at h9'
        injection h9' with h9'
        injection h9' with _ h9' _
        exact absurd h9' (by decide)
      have hgt2 : tq ≠ g := fun e => hgt e.symm
      obtain ⟨b0, b1, b2, b3, f0, f1, f2, f3⟩ := cells4 HT9.out
      have hii : (i : Int) < (lc.length : Int) := by omega
      go_upto_region 23 with fail
      have hT10 := (HT9.out.set2 (.int .i64 (i : Int))).other ⟨g, i * 3 + 2, none⟩ hgt2 (.bool true)
      have hF10 := (HF9.out.set_ tq 2 htq (.int .i64 (i : Int))).set_ g (i * 3 + 2) hgB (.bool true)
      have hC10 : OwnC ((w9.setCell ⟨tq, 2, none⟩ (.int .i64 (i : Int))).setCell ⟨g, i * 3 + 2, none⟩ (.bool true)) (w.heap.size + 3) (.slice (some ⟨g, 0, none⟩) (keyed lc i).length c9) (keyed lc i) := by
        have h1 := ownC_set (o := 2) HC9.out HT9.out (by decide) (.int .i64 (i : Int))
        have h2 := (World.ownsRow.stored h1 (i * 3 + 2) (.bool true)).1
        rw [colC_set lc i hi, ← keyed_some hi] at h2
        unfold OwnC
        rw [keyed_len]
        exact h2
      rw [← keyed_len lc i] at hT10
      clear b0 b1 b2 b3 f0 f1 f2 f3 d0 d1 d2 df s0 sf HT9 HF9 HC9
      generalize (w9.setCell ⟨tq, 2, none⟩ (.int .i64 (i : Int))).setCell ⟨g, i * 3 + 2, none⟩ (.bool true) = w10 at hT10 hF10 hC10 ⊢
      obtain ⟨t4, ht4⟩ : ∃ t : Tr, t = ⟨⟨tb, keyed lc i, (i : Int), []⟩, some ⟨g, 0, none⟩, c9, none, 0⟩ := ⟨_, rfl⟩
      have HT4 := Lib.hid (show t4.t = ⟨tb, keyed lc i, (i : Int), []⟩ by rw [ht4])
      have HT10 : Hid (Bx4 w10 tq (.string t4.t.m) (.slice t4.A t4.t.cols.length t4.c) (.int .i64 t4.t.key) (.slice t4.A' t4.t.idx.length t4.c')) := Lib.hid (by rw [ht4]; exact hT10)
      have HO10 : Hid (TrO w10 (w.heap.size + 3) t4) := Lib.hid (by rw [ht4]; exact ⟨hC10, World.ownsRow_nil _ _ _ _⟩)
      have HF10 := Lib.hid hF10
      obtain ⟨s0, sf⟩ := hF10.S.cells
      have hz10 : w.heap.size + 3 ≤ w10.heap.size := hF10.R.lt
      have htq10 : tq < w10.heap.size := (Array.getElem?_eq_some_iff.1 HT10.out).1
      clear hT10 hF10 hC10 ht4 hgt hgt2 hgB hi hii
      have HOWN := Lib.hid fun (W : World) (hb : Below w.heap.size w W) => ownAll_any A c ls W (HR.out.below hb) (by omega)
      go_upto_region 24 with (go_at_call 26; (with_reducible refine (HOWN.out _ HF10.out.B).mono ?_); rintro e w11 ⟨v, xs, rfl, htb, hxs, hb⟩; obtain ⟨A11, n11, c11, rfl⟩ := form_of htb.own; have HT11 := Lib.hid (HT10.out.below hb); have HF11 := Lib.hid (HF10.out.below_ hb); have HO11 := Lib.hid (HO10.out.below hb); have hz11 := hb.size; have HTB11 := Lib.hid (htb.le hz10); have HXS := Lib.hid hxs; clear htb hxs hb)
      clear s0 sf HT10 HF10 HO10 HOWN
      go_upto_region 25 with fail
      have hb12 := below1 w11 (.cells #[.slice A11 n11 c11] 24)
      have hb13 := thn hb12 (below1 (w11.alloc (.cells #[.slice A11 n11 c11] 24)) (.cells #[.slice none 0 0] 24))
      have ho13 : Bx1 ((w11.alloc (.cells #[.slice A11 n11 c11] 24)).alloc (.cells #[.slice none 0 0] 24)) w11.heap.size (.slice A11 n11 c11) := Bx1.below (heap_alloc_new w11 _) (below1 _ _)
      have hn13 : Bx1 ((w11.alloc (.cells #[.slice A11 n11 c11] 24)).alloc (.cells #[.slice none 0 0] 24)) (w11.heap.size + 1) (.slice none 0 0) := by
        have := heap_alloc_new (w11.alloc (.cells #[.slice A11 n11 c11] 24)) (.cells #[.slice none 0 0] 24)
        rwa [World.size_alloc] at this
      have hs13 : ((w11.alloc (.cells #[.slice A11 n11 c11] 24)).alloc (.cells #[.slice none 0 0] 24)).heap.size = w11.heap.size + 2 := by simp
      have hP := posT_le ls tb
      have hAH := fun (j : Nat) (hj : j < ls.length) (hle : j ≤ posT ls tb) => ahead_of hT hj hle
      generalize posT ls tb = P at hP hAH HC3
      have hxl : xs.length = ls.length := by rw [← HXS.out, List.length_map]
      have hn11 : n11 = ls.length := by
        rcases HTB11.out.own.2 with ⟨h1, h0⟩ | ⟨g', cap', cur', h1, _⟩
        · injection h1 with _ h1 _; omega
        · injection h1 with _ h1 _; omega
      have HN11 := Lib.hid hn11
      have HXL := Lib.hid hxl
      clear hn11
      obtain ⟨ys, hys⟩ : ∃ l, l = insX xs P t4 := ⟨_, rfl⟩
      have HYS := Lib.hid hys
      have HMEM : Hid (∀ x ∈ ys, x = t4 ∨ x ∈ xs) := Lib.hid (fun x hx => by
        rw [hys] at hx
        unfold insX at hx
        rcases List.mem_append.1 hx with h1 | h1
        · exact .inr (List.mem_of_mem_take h1)
        · rcases List.mem_cons.1 h1 with h2 | h2
          · exact .inl h2
          · exact .inr (List.mem_of_mem_drop h2))
      have HLP : Hid (Lp w ((w11.alloc (.cells #[.slice A11 n11 c11] 24)).alloc (.cells #[.slice none 0 0] 24)) (w.heap.size + 3) (w11.heap.size + 2) tq w11.heap.size (w11.heap.size + 1) t4 (.slice none 0 0) xs ys A11 n11 c11 0) := Lib.hid ⟨ho13, hn13, HT11.out.below hb13, World.ownsRow_nil _ _ _ _, own_below HTB11.out.own hb13, fun b hb => by have := (HTB11.out.own.lt b hb).2; omega, fun x hx => by
        rcases HMEM.out x hx with rfl | h1
        · exact HO11.out.below hb13
        · exact (HTB11.out.tabs x h1).below hb13, HF11.out.B.trans (hb13.mono HF11.out.B.size)⟩
      have HRB := Lib.hid (HF11.out.R.below hb13)
      have HYB := Lib.hid (fun (j : Nat) (hj : j < P) => (show ys[j]? = xs[j]? by rw [HYS.out]; exact insX_before (by omega) hj))
      have HYP := Lib.hid (show ys[P]? = some t4 by rw [HYS.out]; exact insX_at (by omega))
      have HYH := Lib.hid (fun (j : Nat) (hj : P ≤ j) => (show ys[j + 1]? = xs[j]? by rw [HYS.out]; exact insX_behind (by omega) hj))
      have HYL := Lib.hid (show ys.length = ls.length + 1 by rw [HYS.out, insX_len (by omega), hxl])
      have HYM := Lib.hid (show ys.map Tr.t = insT ls P t4.t by rw [HYS.out]; exact insX_map HXS.out)
      have HAH := Lib.hid hAH
      have hq11 : tq < w11.heap.size := by omega
      have h311 : w.heap.size + 3 ≤ w11.heap.size := by omega
      clear hb12 hb13 ho13 hn13 hys hAH HMEM HTB11 HT11 HF11 HO11 hT htq10 hxl
      generalize hw13 : ((w11.alloc (.cells #[.slice A11 n11 c11] 24)).alloc (.cells #[.slice none 0 0] 24)) = w13 at *
      clear hw13
      generalize w11.heap.size = ob at *
      go_wp2_with fail
      go_loopw [16, 17] (fun lb i wr => ∃ (j : Nat) (v : Value), lb = .bool (decide (P < j)) ∧ i = .int .i64 j ∧ j ≤ ls.length ∧ Lp w wr (w.heap.size + 3) (ob + 2) tq ob (ob + 1) t4 v xs ys A11 n11 c11 (if P < j then j + 1 else j) ∧ Bx1 wr (w.heap.size + 1 + 1) (.slice none 0 0) ∧ ob + 2 ≤ wr.heap.size) (fun _ i _ => ls.length - (intOf i).toNat)
      case atStart => exact ⟨0, _, by simp, rfl, by omega, by simpa using HLP.out, HRB.out, by omega⟩
      case round =>
        clear HLP HRB hs13
        obtain ⟨j, v, rfl, rfl, hj, hL, hR, hz⟩ := hrel
        have HL := Lib.hid hL
        have HRb := Lib.hid hR
        clear hL hR
        obtain ⟨o0, of⟩ := HL.out.old.cells
        by_cases hlt : j < ls.length
        · have hlt' : (j : Int) < (n11 : Int) := by have := HN11.out; omega
          have hjx : j < xs.length := by have := HXL.out; omega
          obtain ⟨y, hy⟩ : ∃ y, y = xs[j] := ⟨_, rfl⟩
          have hxj : xs[j] = y := hy.symm
          have HXY := Lib.hid (show xs[j]? = some y by rw [List.getElem?_eq_getElem hjx, hxj])
          have HLY := Lib.hid (show (ls[j]'hlt).m = y.t.m by rw [← hxj]; simp [← HXS.out])
          clear hy
          by_cases hPj : P < j
          · have HL2 := Lib.hid (show Lp w wr (w.heap.size + 3) (ob + 2) tq ob (ob + 1) t4 v xs ys A11 n11 c11 (j + 1) by have := HL.out; rwa [if_pos hPj] at this)
            have hk := (HYH.out j (by omega)).trans HXY.out
            have hdP : decide (P < j) = true := by simpa using hPj
            rw [hdP]
            have HK := Lib.hid hk
            clear HL hk hdP
            go_upto_region 29 with fail
            clear o0 of
            refine wp_region_quiet_below (by kernel_rfl) (by kernel_rfl) ?_
            repeat (go_big_quiet_step (fail))
            refine wpQuiet_nil ?_
            intro w8 hw8
            obtain ⟨pp, rfl⟩ := hw8
            have HB8 := Lib.hid (below_regrown wr pp.d pp.os)
            generalize grow (redrawn wr pp.d) pp.os = W8 at HB8 ⊢
            have HL8 := Lib.hid (HL2.out.below_ HB8.out)
            have HR8 := Lib.hid (HRb.out.below HB8.out)
            have hz8 : ob + 2 ≤ W8.heap.size := Nat.le_trans hz HB8.out.size
            clear HL2 HRb HB8
            go_upto_region 32 with fail
            obtain ⟨o0, of⟩ := HL8.out.old.cells
            obtain ⟨q0, qf⟩ := HL8.out.out.cells
            obtain ⟨g5, p0, p1, p2, p3, eA⟩ := HL8.out.cell (j := j) hjx
            rw [hxj] at p0 p1 p2 p3
            subst eA
            have hg5 : g5 < W8.heap.size := cell_lt p0
            have hob5 : ob < W8.heap.size := by omega
            have hnb5 : ob + 1 < W8.heap.size := by omega
            have ha := below1 W8 (.cells #[.string y.t.m, .slice y.A y.t.cols.length y.c, .int .i64 y.t.key, .slice y.A' y.t.idx.length y.c'] 57)
            have HLa := Lib.hid (HL8.out.below_ ha)
            have HRa := Lib.hid (HR8.out.below ha)
            have hza : ob + 2 ≤ (W8.alloc (.cells #[.string y.t.m, .slice y.A y.t.cols.length y.c, .int .i64 y.t.key, .slice y.A' y.t.idx.length y.c'] 57)).heap.size := by have := ha.size; omega
            clear ha
            go_region_law (refine step_append_own rfl (.tmp 130) (.tmp 136) 22 rfl (ob + 2) 57 i0 (.agg #[.string ⟨#[]⟩, .slice none 0 0, .int .i64 0, .slice none 0 0]) 4 72 Tryz.underlying22 hi0 hz0 hz1 hz2 rfl (by decide) v (j + 1) ((ys.take (j + 1)).flatMap trC) rfl (by first | exact HLa.out.row.drew | exact HLa.out.row) ⟨W8.heap.size, 0, none⟩ 1 1 [.string y.t.m, .slice y.A y.t.cols.length y.c, .int .i64 y.t.key, .slice y.A' y.t.idx.length y.c'] rfl rfl (news_new W8 #[.string y.t.m, .slice y.A y.t.cols.length y.c, .int .i64 y.t.key, .slice y.A' y.t.idx.length y.c'] _ [.string y.t.m, .slice y.A y.t.cols.length y.c, .int .i64 y.t.key, .slice y.A' y.t.idx.length y.c'] rfl) (by simp [Value.oneCell']) (by unfold maxLen; omega) (by omega) (by first | exact hza | (simp; omega)) ?_; intro v9 w9 hown hg; have hg9 : (W8.alloc (.cells #[.string y.t.m, .slice y.A y.t.cols.length y.c, .int .i64 y.t.key, .slice y.A' y.t.idx.length y.c'] 57)).grownBy w9 v.ownBlock := ⟨hg.os, hg.tape, hg.output, hg.size, hg.block⟩; have hout9 := HLa.out.out.grown hg9 (own_ne HLa.out.row HLa.out.out (by decide)); obtain ⟨z0, zf⟩ := hout9.cells; have hL9 := HLa.out.grow HK.out hown hg9 (by omega) (by omega) (by omega) (by omega) (by omega) (by have := HLa.out.below.size; omega); have HL9 := Lib.hid hL9; have HR9 := Lib.hid ((HRa.out.grown hg9 (fun e => by have := (HLa.out.row.lt _ e).1; omega)).other ⟨ob + 1, 0, none⟩ (by simp; omega) v9); have hz9 : ob + 2 ≤ w9.heap.size := Nat.le_trans hza hg9.size; obtain ⟨A9, n9, c9, rfl⟩ := form_of hown; clear hown hg hg9 hout9 hL9)
            all_goals
              go_wp2
              go_roundw
              case rel => exact ⟨j + 1, _, by rw [decide_eq_true (show P < j + 1 by omega)], by go_num, hlt, by rw [if_pos (by omega)]; exact HL9.out, HR9.out, by simpa using hz9⟩
              case measure => simp [intOf]; omega
          have HL2 := Lib.hid (show Lp w wr (w.heap.size + 3) (ob + 2) tq ob (ob + 1) t4 v xs ys A11 n11 c11 j by have := HL.out; rwa [if_neg hPj] at this)
          have hdP : decide (P < j) = false := by simpa using hPj
          rw [hdP]
          have hah := HAH.out j hlt (by omega)
          rw [HLY.out, show tb = t4.t.m by rw [HT4.out]] at hah
          have HAB := Lib.hid hah
          clear HL o0 of hdP hah
          obtain ⟨o0, of⟩ := HL2.out.old.cells
          obtain ⟨g5, p0, p1, p2, p3, eA⟩ := HL2.out.cell (j := j) hjx
          rw [hxj] at p0 p1 p2 p3
          subst eA
          have hg5 : g5 < wr.heap.size := cell_lt p0
          obtain ⟨t0, t1, t2, t3, _, _, _, _⟩ := cells4 HL2.out.tab
          go_upto_region 29 with fail
          have r0 := cell_regrown o0
          have r1 := cell_regrown p0
          have r2 := cell_regrown t0
          clear o0 of p0 p1 p2 p3 t0 t1 t2 t3
          by_cases hjP : j = P
          case pos =>
            obtain ⟨hab2, hab3⟩ := HAB.out.1 hjP
            have HJP := Lib.hid hjP
            clear hjP
            refine wp_region_quiet_below (by kernel_rfl) (by kernel_rfl) ?_
            repeat (go_big_quiet_step (fail))
            refine wpQuiet_nil ?_
            intro w8 hw8
            obtain ⟨pp, rfl⟩ := hw8
            have HB8 := Lib.hid (below_regrown wr pp.d pp.os)
            clear r0 r1 r2
            generalize grow (redrawn wr pp.d) pp.os = W8 at HB8 ⊢
            have HL8 := Lib.hid (HL2.out.below_ HB8.out)
            have HR8 := Lib.hid (HRb.out.below HB8.out)
            have hz8 : ob + 2 ≤ W8.heap.size := Nat.le_trans hz HB8.out.size
            clear HL2 HRb HB8
            have HK4 := Lib.hid (show ys[j]? = some t4 by rw [HJP.out]; exact HYP.out)
            have HK := Lib.hid ((HYH.out j (by have := HJP.out; omega)).trans HXY.out)
            go_upto_region 30 with fail
            obtain ⟨q0, qf⟩ := HL8.out.out.cells
            obtain ⟨t0, t1, t2, t3, _, _, _, _⟩ := cells4 HL8.out.tab
            have ha := below1 W8 (.cells #[.string t4.t.m, .slice t4.A t4.t.cols.length t4.c, .int .i64 t4.t.key, .slice t4.A' t4.t.idx.length t4.c'] 57)
            have HLa := Lib.hid (HL8.out.below_ ha)
            have HRa := Lib.hid (HR8.out.below ha)
            have hza : ob + 2 ≤ (W8.alloc (.cells #[.string t4.t.m, .slice t4.A t4.t.cols.length t4.c, .int .i64 t4.t.key, .slice t4.A' t4.t.idx.length t4.c'] 57)).heap.size := by have := ha.size; omega
            clear ha
            go_upto_region 31 with (at_builtin; refine wpList_append_own_at _ rfl _ _ 22 rfl (ob + 2) 57 i0 (.agg #[.string ⟨#[]⟩, .slice none 0 0, .int .i64 0, .slice none 0 0]) 4 72 Tryz.underlying22 hi0 hz0 hz1 hz2 rfl (by decide) _ _ _ rfl HLa.out.row ⟨W8.heap.size, 0, none⟩ 1 1 [.string t4.t.m, .slice t4.A t4.t.cols.length t4.c, .int .i64 t4.t.key, .slice t4.A' t4.t.idx.length t4.c'] rfl rfl (news_new0 W8 #[.string t4.t.m, .slice t4.A t4.t.cols.length t4.c, .int .i64 t4.t.key, .slice t4.A' t4.t.idx.length t4.c'] _ [.string t4.t.m, .slice t4.A t4.t.cols.length t4.c, .int .i64 t4.t.key, .slice t4.A' t4.t.idx.length t4.c'] rfl) (by simp [Value.oneCell']) (by unfold maxLen; omega) (by omega) hza ?_; intro v5 w5 hown hg _ _; have hout5 := HLa.out.out.grown hg (own_ne HLa.out.row HLa.out.out (by decide)); obtain ⟨z0, zf⟩ := hout5.cells; have HL5 := Lib.hid (HLa.out.grow HK4.out hown hg (by omega) (by omega) (by omega) (by omega) (by omega) (by have := HLa.out.below.size; omega)); have HR5 := Lib.hid ((HRa.out.grown hg (fun e => by have := (HLa.out.row.lt _ e).1; omega)).other ⟨ob + 1, 0, none⟩ (by simp; omega) v5); have hz5 : ob + 2 ≤ w5.heap.size := Nat.le_trans hza hg.size; obtain ⟨A5, n5, c5, rfl⟩ := form_of hown; clear hown hg hout5)
            clear q0 qf t0 t1 t2 t3 z0 zf HLa HRa HL8 HR8
            generalize hv5 : Value.slice A5 n5 c5 = v at *
            clear hv5
            have hz6 : ob + 2 ≤ (w5.setCell ⟨ob + 1, 0, none⟩ v).heap.size := by simpa using hz5
            generalize w5.setCell ⟨ob + 1, 0, none⟩ v = w6 at *
            go_upto_region 32 with fail
            obtain ⟨o0, of⟩ := HL5.out.old.cells
            obtain ⟨q0, qf⟩ := HL5.out.out.cells
            obtain ⟨g5, p0, p1, p2, p3, eA⟩ := HL5.out.cell (j := j) hjx
            rw [hxj] at p0 p1 p2 p3
            cases eA
            have hg5 : g5 < w6.heap.size := cell_lt p0
            have hob5 : ob < w6.heap.size := by omega
            have hnb5 : ob + 1 < w6.heap.size := by omega
            have ha := below1 w6 (.cells #[.string y.t.m, .slice y.A y.t.cols.length y.c, .int .i64 y.t.key, .slice y.A' y.t.idx.length y.c'] 57)
            have HLa := Lib.hid (HL5.out.below_ ha)
            have HRa := Lib.hid (HR5.out.below ha)
            have hza : ob + 2 ≤ (w6.alloc (.cells #[.string y.t.m, .slice y.A y.t.cols.length y.c, .int .i64 y.t.key, .slice y.A' y.t.idx.length y.c'] 57)).heap.size := by have := ha.size; omega
            clear ha
            go_region_law (refine step_append_own rfl (.tmp 130) (.tmp 136) 22 rfl (ob + 2) 57 i0 (.agg #[.string ⟨#[]⟩, .slice none 0 0, .int .i64 0, .slice none 0 0]) 4 72 Tryz.underlying22 hi0 hz0 hz1 hz2 rfl (by decide) v (j + 1) ((ys.take (j + 1)).flatMap trC) rfl (by first | exact HLa.out.row.drew | exact HLa.out.row) ⟨w6.heap.size, 0, none⟩ 1 1 [.string y.t.m, .slice y.A y.t.cols.length y.c, .int .i64 y.t.key, .slice y.A' y.t.idx.length y.c'] rfl rfl (news_new w6 #[.string y.t.m, .slice y.A y.t.cols.length y.c, .int .i64 y.t.key, .slice y.A' y.t.idx.length y.c'] _ [.string y.t.m, .slice y.A y.t.cols.length y.c, .int .i64 y.t.key, .slice y.A' y.t.idx.length y.c'] rfl) (by simp [Value.oneCell']) (by unfold maxLen; omega) (by omega) (by first | exact hza | (simp; omega)) ?_; intro v9 w9 hown hg; have hg9 : (w6.alloc (.cells #[.string y.t.m, .slice y.A y.t.cols.length y.c, .int .i64 y.t.key, .slice y.A' y.t.idx.length y.c'] 57)).grownBy w9 v.ownBlock := ⟨hg.os, hg.tape, hg.output, hg.size, hg.block⟩; have hout9 := HLa.out.out.grown hg9 (own_ne HLa.out.row HLa.out.out (by decide)); obtain ⟨z0, zf⟩ := hout9.cells; have hL9 := HLa.out.grow HK.out hown hg9 (by omega) (by omega) (by omega) (by omega) (by omega) (by have := HLa.out.below.size; omega); have HL9 := Lib.hid hL9; have HR9 := Lib.hid ((HRa.out.grown hg9 (fun e => by have := (HLa.out.row.lt _ e).1; omega)).other ⟨ob + 1, 0, none⟩ (by simp; omega) v9); have hz9 : ob + 2 ≤ w9.heap.size := Nat.le_trans hza hg9.size; obtain ⟨A9, n9, c9, rfl⟩ := form_of hown; clear hown hg hg9 hout9 hL9)
            all_goals
              go_wp2
              go_roundw
              case rel => exact ⟨j + 1, _, by rw [decide_eq_true (show P < j + 1 by have := HJP.out; omega)], by go_num, hlt, by rw [if_pos (by have := HJP.out; omega)]; exact HL9.out, HR9.out, by simpa using hz9⟩
              case measure => simp [intOf]; omega
          have hab2 := HAB.out.2 hjP
          have HJP := Lib.hid hjP
          clear hjP
          refine wp_region_quiet_below (by kernel_rfl) (by kernel_rfl) ?_
          repeat (go_big_quiet_step (fail))
          refine wpQuiet_nil ?_
          intro w8 hw8
          obtain ⟨pp, rfl⟩ := hw8
          have HB8 := Lib.hid (below_regrown wr pp.d pp.os)
          clear r0 r1 r2
          generalize grow (redrawn wr pp.d) pp.os = W8 at HB8 ⊢
          have HL8 := Lib.hid (HL2.out.below_ HB8.out)
          have HR8 := Lib.hid (HRb.out.below HB8.out)
          have hz8 : ob + 2 ≤ W8.heap.size := Nat.le_trans hz HB8.out.size
          clear HL2 HRb HB8
          have HK := Lib.hid ((HYB.out j (by have := HJP.out; omega)).trans HXY.out)
          go_upto_region 32 with fail
          obtain ⟨o0, of⟩ := HL8.out.old.cells
          obtain ⟨q0, qf⟩ := HL8.out.out.cells
          obtain ⟨g5, p0, p1, p2, p3, eA⟩ := HL8.out.cell (j := j) hjx
          rw [hxj] at p0 p1 p2 p3
          cases eA
          have hg5 : g5 < W8.heap.size := cell_lt p0
          have hob5 : ob < W8.heap.size := by omega
          have hnb5 : ob + 1 < W8.heap.size := by omega
          have ha := below1 W8 (.cells #[.string y.t.m, .slice y.A y.t.cols.length y.c, .int .i64 y.t.key, .slice y.A' y.t.idx.length y.c'] 57)
          have HLa := Lib.hid (HL8.out.below_ ha)
          have HRa := Lib.hid (HR8.out.below ha)
          have hza : ob + 2 ≤ (W8.alloc (.cells #[.string y.t.m, .slice y.A y.t.cols.length y.c, .int .i64 y.t.key, .slice y.A' y.t.idx.length y.c'] 57)).heap.size := by have := ha.size; omega
          clear ha
          go_region_law (refine step_append_own rfl (.tmp 130) (.tmp 136) 22 rfl (ob + 2) 57 i0 (.agg #[.string ⟨#[]⟩, .slice none 0 0, .int .i64 0, .slice none 0 0]) 4 72 Tryz.underlying22 hi0 hz0 hz1 hz2 rfl (by decide) v (j) ((ys.take (j)).flatMap trC) rfl (by first | exact HLa.out.row.drew | exact HLa.out.row) ⟨W8.heap.size, 0, none⟩ 1 1 [.string y.t.m, .slice y.A y.t.cols.length y.c, .int .i64 y.t.key, .slice y.A' y.t.idx.length y.c'] rfl rfl (news_new W8 #[.string y.t.m, .slice y.A y.t.cols.length y.c, .int .i64 y.t.key, .slice y.A' y.t.idx.length y.c'] _ [.string y.t.m, .slice y.A y.t.cols.length y.c, .int .i64 y.t.key, .slice y.A' y.t.idx.length y.c'] rfl) (by simp [Value.oneCell']) (by unfold maxLen; omega) (by omega) (by first | exact hza | (simp; omega)) ?_; intro v9 w9 hown hg; have hg9 : (W8.alloc (.cells #[.string y.t.m, .slice y.A y.t.cols.length y.c, .int .i64 y.t.key, .slice y.A' y.t.idx.length y.c'] 57)).grownBy w9 v.ownBlock := ⟨hg.os, hg.tape, hg.output, hg.size, hg.block⟩; have hout9 := HLa.out.out.grown hg9 (own_ne HLa.out.row HLa.out.out (by decide)); obtain ⟨z0, zf⟩ := hout9.cells; have hL9 := HLa.out.grow HK.out hown hg9 (by omega) (by omega) (by omega) (by omega) (by omega) (by have := HLa.out.below.size; omega); have HL9 := Lib.hid hL9; have HR9 := Lib.hid ((HRa.out.grown hg9 (fun e => by have := (HLa.out.row.lt _ e).1; omega)).other ⟨ob + 1, 0, none⟩ (by simp; omega) v9); have hz9 : ob + 2 ≤ w9.heap.size := Nat.le_trans hza hg9.size; obtain ⟨A9, n9, c9, rfl⟩ := form_of hown; clear hown hg hg9 hout9 hL9)
          all_goals
            go_wp2
            go_roundw
            case rel => exact ⟨j + 1, _, by rw [decide_eq_false (show ¬ P < j + 1 by have := HJP.out; omega)], by go_num, hlt, by rw [if_neg (by have := HJP.out; omega)]; exact HL9.out, HR9.out, by simpa using hz9⟩
            case measure => simp [intOf]; omega
        · obtain rfl : j = ls.length := by omega
          have hlt' : ¬ ((ls.length : Int) < (n11 : Int)) := by have := HN11.out; omega
          by_cases hPl : P < ls.length
          · have HLf := Lib.hid (show Lp w wr (w.heap.size + 3) (ob + 2) tq ob (ob + 1) t4 v xs ys A11 n11 c11 (ls.length + 1) by have := HL.out; rwa [if_pos hPl] at this)
            have hdP : decide (P < ls.length) = true := by simpa using hPl
            rw [hdP]
            have HRf := HRb
            clear HL hdP
            obtain ⟨q0, qf⟩ := HLf.out.out.cells
            obtain ⟨r0, rf⟩ := HRf.out.cells
            obtain ⟨AF, nF, cF, rfl⟩ := form_of HLf.out.row
            have Z0 := Lib.hid (HRf.out.set (.slice AF nF cF)).cells.1
            have HB9 := Lib.hid (below_set HLf.out.below ⟨w.heap.size + 1 + 1, 0, none⟩ (by simp; omega) (.slice AF nF cF))
            have HTB := Lib.hid ((show Tbs _ (w.heap.size + 3) (.slice AF nF cF) ys from ⟨own_le (by have := HLf.out.row; rwa [← HYL.out, List.take_length] at this) (by omega), HLf.out.tabs⟩).kept (grown_setCell _ (w.heap.size + 1 + 1) 0 (.slice AF nF cF)) HRf.out (by decide) (by decide) (by decide))
            go_wp2
            refine bodyPost_ret (v := .tuple #[.agg #[.slice AF nF cF], .int .i64 0]) (by simp [results, Tryz.results8, go_sem, Z0.out]) rfl ⟨fun hne => absurd (by rw [HC3.out]) hne, fun _ => ⟨_, ys, rfl, HTB.out.le (by omega), ?_⟩, HB9.out⟩
            rw [HC3.out, HYM.out, HT4.out]
            rfl
          · have hPe : P = ls.length := by omega
            have HL2 := Lib.hid (show Lp w wr (w.heap.size + 3) (ob + 2) tq ob (ob + 1) t4 v xs ys A11 n11 c11 ls.length by have := HL.out; rwa [if_neg hPl] at this)
            have hdP : decide (P < ls.length) = false := by simpa using hPl
            rw [hdP]
            have HK4 := Lib.hid (show ys[ls.length]? = some t4 by rw [← hPe]; exact HYP.out)
            clear HL hdP
            go_upto_region 34 with fail
            obtain ⟨q0, qf⟩ := HL2.out.out.cells
            obtain ⟨t0, t1, t2, t3, _, _, _, _⟩ := cells4 HL2.out.tab
            have ha := below1 wr (.cells #[.string t4.t.m, .slice t4.A t4.t.cols.length t4.c, .int .i64 t4.t.key, .slice t4.A' t4.t.idx.length t4.c'] 57)
            have HLa := Lib.hid (HL2.out.below_ ha)
            have HRa := Lib.hid (HRb.out.below ha)
            have hza : ob + 2 ≤ (wr.alloc (.cells #[.string t4.t.m, .slice t4.A t4.t.cols.length t4.c, .int .i64 t4.t.key, .slice t4.A' t4.t.idx.length t4.c'] 57)).heap.size := by have := ha.size; omega
            clear ha
            go_upto_region 35 with (at_builtin; refine wpList_append_own_at _ rfl _ _ 22 rfl (ob + 2) 57 i0 (.agg #[.string ⟨#[]⟩, .slice none 0 0, .int .i64 0, .slice none 0 0]) 4 72 Tryz.underlying22 hi0 hz0 hz1 hz2 rfl (by decide) _ _ _ rfl HLa.out.row ⟨wr.heap.size, 0, none⟩ 1 1 [.string t4.t.m, .slice t4.A t4.t.cols.length t4.c, .int .i64 t4.t.key, .slice t4.A' t4.t.idx.length t4.c'] rfl rfl (news_new0 wr #[.string t4.t.m, .slice t4.A t4.t.cols.length t4.c, .int .i64 t4.t.key, .slice t4.A' t4.t.idx.length t4.c'] _ [.string t4.t.m, .slice t4.A t4.t.cols.length t4.c, .int .i64 t4.t.key, .slice t4.A' t4.t.idx.length t4.c'] rfl) (by simp [Value.oneCell']) (by unfold maxLen; omega) (by omega) hza ?_; intro v5 w5 hown hg _ _; have hout5 := HLa.out.out.grown hg (own_ne HLa.out.row HLa.out.out (by decide)); obtain ⟨z0, zf⟩ := hout5.cells; have HL5 := Lib.hid (HLa.out.grow HK4.out hown hg (by omega) (by omega) (by omega) (by omega) (by omega) (by have := HLa.out.below.size; omega)); have HR5 := Lib.hid ((HRa.out.grown hg (fun e => by have := (HLa.out.row.lt _ e).1; omega)).other ⟨ob + 1, 0, none⟩ (by simp; omega) v5); have hz5 : ob + 2 ≤ w5.heap.size := Nat.le_trans hza hg.size; obtain ⟨A5, n5, c5, rfl⟩ := form_of hown; clear hown hg hout5)
            clear q0 qf t0 t1 t2 t3 z0 zf o0 of HLa HRa HL2 HRb
            generalize hv5 : Value.slice A5 n5 c5 = v at *
            clear hv5
            generalize w5.setCell ⟨ob + 1, 0, none⟩ v = w6 at *
            have HLf := HL5
            have HRf := HR5
            obtain ⟨q0, qf⟩ := HLf.out.out.cells
            obtain ⟨r0, rf⟩ := HRf.out.cells
            obtain ⟨AF, nF, cF, rfl⟩ := form_of HLf.out.row
            have Z0 := Lib.hid (HRf.out.set (.slice AF nF cF)).cells.1
            have HB9 := Lib.hid (below_set HLf.out.below ⟨w.heap.size + 1 + 1, 0, none⟩ (by simp; omega) (.slice AF nF cF))
            have HTB := Lib.hid ((show Tbs _ (w.heap.size + 3) (.slice AF nF cF) ys from ⟨own_le (by have := HLf.out.row; rwa [← HYL.out, List.take_length] at this) (by omega), HLf.out.tabs⟩).kept (grown_setCell _ (w.heap.size + 1 + 1) 0 (.slice AF nF cF)) HRf.out (by decide) (by decide) (by decide))
            go_wp2
            refine bodyPost_ret (v := .tuple #[.agg #[.slice AF nF cF], .int .i64 0]) (by simp [results, Tryz.results8, go_sem, Z0.out]) rfl ⟨fun hne => absurd (by rw [HC3.out]) hne, fun _ => ⟨_, ys, rfl, HTB.out.le (by omega), ?_⟩, HB9.out⟩
            rw [HC3.out, HYM.out, HT4.out]
            rfl
end Go.Proofs.YtipcacplphidhaaGreat.Rf
