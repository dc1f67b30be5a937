/- How a statement is printed by the program: the walks of table, query, stmt and Print. Conditions: a statement that is read in memory; the tables that strconv and strings read, as they are laid; lengths that every machine keeps. -/
import Derived.Test.YtnbgnofbeklmkaaGreatDoorGd
namespace Go.Proofs.YtnbgnofbeklmkaaGreatDoor
open Go.RowKit
set_option linter.unusedSimpArgs false
set_option linter.unusedVariables false

theorem sum_le {α : Type} {f : α → List UInt8} {M : Nat} : ∀ {l : List α}, (∀ y ∈ l, (f y).length ≤ M) → ((l.map f).map List.length).sum ≤ l.length * M
  | [], _ => by simp
  | a :: l, h => by
    have h3 := h a List.mem_cons_self
    have h4 := sum_le (l := l) (fun y hy => h y (List.mem_cons_of_mem _ hy))
    rw [List.map_cons, List.map_cons, List.sum_cons, List.length_cons, Nat.succ_mul]
    omega
theorem partL_len {α : Type} {ws : List UInt8} {f : α → List UInt8} {l : List α} {M : Nat} (h : ∀ y ∈ l, (f y).length ≤ M) : (partL ws f l).length ≤ ws.length + l.length * (M + 2) := by
  unfold partL
  split
  · simp
  · have h1 := joinL_len wcm (l.map f)
    have h2 := sum_le h
    have h3 : wcm.length = 2 := rfl
    rw [List.length_map, h3] at h1
    rw [List.length_append, Nat.mul_add]
    omega
theorem exprs_len {n : Nat} {l : List (Ar n)} (h : ∀ y ∈ l, chk y = 0) : ∀ y ∈ l, (prA n y).length ≤ 9600 := fun y hy => by
  rw [prA_e]; exact (chk_ok (h y hy)).2
theorem colT_len {c : Cl} (h : colB c = true) : (colT c).length ≤ 40 := by
  unfold colB at h
  rw [Bool.and_eq_true] at h
  have h1 := nameB_len h.1
  have h2 : (kindL c.k).length ≤ 4 := by unfold kindL; split <;> (try split) <;> decide
  unfold colT
  simp only [List.length_append, List.length_cons, bsz]
  split
  · have e : wnn.length = 9 := rfl
    omega
  · simp; omega
theorem colsT_len {l : List Cl} (h : l.all colB = true) : (colsT l).length ≤ l.length * 42 := by
  unfold colsT
  induction l with
  | nil => simp
  | cons a l ih =>
    rw [List.all_cons, Bool.and_eq_true] at h
    have h1 := colT_len h.1
    have h2 := ih h.2
    have e : wcm.length = 2 := rfl
    rw [List.flatMap_cons, List.length_append, List.length_append, List.length_cons, Nat.succ_mul]
    omega
theorem cols_join : ∀ {l : List Cl}, 0 < l.length → joinL wcm (l.map colT) ++ wcm = colsT l
  | [], h => by cases h
  | [a], _ => by simp [joinL, colsT]
  | a :: b :: l, _ => by
    have ih := cols_join (l := b :: l) (by simp)
    simp only [List.map_cons, joinL, List.append_assoc] at ih ⊢
    unfold colsT at ih ⊢
    rw [List.flatMap_cons, ← ih]
    simp
/-- A statement that may be, in the facts of its kind. -/
theorem all_len {n : Nat} {x : St n} (h : StOk x) : x.cols.length ≤ 8 ∧ x.rows.length ≤ 16 ∧ x.sets.length ≤ 8 ∧ x.items.length ≤ 16 ∧ x.on.length ≤ 1 ∧ x.wh.length ≤ 1 ∧ x.gr.length ≤ 1 ∧ x.ord.length ≤ 8 := by
  have h1 := h.fm
  have h2 := h.lo
  have h3 := h.hi
  obtain ⟨k, tb, cols, key, ix, rows, sets, items, jn, on, wh, gr, ord, lim⟩ := x
  dsimp only at h1 h2 h3 ⊢
  have hk : k = 1 ∨ k = 2 ∨ k = 3 ∨ k = 4 ∨ k = 5 ∨ k = 6 ∨ k = 7 ∨ k = 8 ∨ k = 9 ∨ k = 10 := by omega
  clear h2 h3 h
  rcases hk with rfl | rfl | rfl | rfl | rfl | rfl | rfl | rfl | rfl | rfl
  all_goals simp only [formedB, namedB, countedB, onN, gL, gH, gTab, spB, Bool.and_eq_true, decide_eq_true_eq] at h1
  all_goals have h4 := h1.1.1.1.1.2
  all_goals clear h1
  all_goals simp at h4
  all_goals refine ⟨?_, ?_, ?_, ?_, ?_, ?_, ?_, ?_⟩
  all_goals grind
theorem name_or_len {s : ByteArray} (h : (emp s || nameB s) = true) : s.size ≤ 16 := by
  rcases Bool.or_eq_true_iff.1 h with h | h
  · have := emp_len h; omega
  · exact nameB_len h

/-- What all statements that may be keep, to be printed. -/
structure StPr {n : Nat} (x : St n) : Prop where
  ok : StOk x
  tb : x.tb.size ≤ 16
  key : x.key.size ≤ 16
  ix : x.ix.size ≤ 16
  jn : x.jn.size ≤ 16
  rows : ∀ r ∈ x.rows, RowOk r
  sets : ∀ s ∈ x.sets, SetOk s
  items : ∀ y ∈ x.items, okP n y = true
  on : ∀ y ∈ x.on, okP n y = true
  wh : ∀ y ∈ x.wh, okP n y = true
  gr : ∀ y ∈ x.gr, okP n y = true
  cols : ∀ y ∈ x.cols, colB y = true
  ord : ∀ y ∈ x.ord, OrdOk y
theorem names_of {n : Nat} {x : St n} (h : StOk x) : (emp x.tb || nameB x.tb) = true ∧ (emp x.key || nameB x.key) = true ∧ (emp x.ix || nameB x.ix) = true ∧ (emp x.jn || nameB x.jn) = true := by
  have h1 := h.fm
  unfold formedB namedB at h1
  simp only [Bool.and_eq_true] at h1
  obtain ⟨⟨⟨⟨⟨⟨⟨⟨a, b⟩, c⟩, d⟩, _⟩, _⟩, _⟩, _⟩, _⟩ := h1
  have g : ∀ {lo hi : Int} {s : ByteArray}, hasNm lo hi s = true → (emp s || nameB s) = true := by
    intro lo hi s hs
    unfold hasNm at hs
    unfold emp
    split at hs
    · rename_i e; rw [e]; rfl
    · rw [Bool.and_eq_true] at hs; rw [hs.2]; simp
  exact ⟨g a, g b, g c, g d⟩
theorem st_pr {n : Nat} {x : St n} (h : chkSt x = 0) : StPr x := by
  have k := st_ok h
  have f := k.fm
  unfold formedB at f
  simp only [Bool.and_eq_true, List.all_eq_true] at f
  obtain ⟨a, b, c, d⟩ := names_of k
  refine ⟨k, name_or_len a, name_or_len b, name_or_len c, name_or_len d, fun r hr y hy => chk_okP (k.rows r hr y hy), fun s hs => (chk_ok (k.sets s hs)).1, fun y hy => chk_okP (k.items y hy), fun y hy => chk_okP (k.on y hy), fun y hy => chk_okP (k.wh y hy), fun y hy => chk_okP (k.gr y hy), fun y hy => f.1.1.1.2 y hy, fun y hy => ?_⟩
  have := f.2 y hy
  unfold ordB spB at this
  simp only [Bool.and_eq_true, decide_eq_true_eq] at this
  exact ⟨by omega, by omega⟩
theorem rowT_len {n : Nat} {r : List (Ar n)} (h : ∀ y ∈ r, chk y = 0) : (rowT r).length ≤ 2 + r.length * 9602 := by
  have h1 := partL_len (ws := wbk) (exprs_len h)
  have e : wbk.length = 1 := rfl
  have e2 : wcl.length = 1 := rfl
  unfold rowT
  rw [List.length_append]
  omega
theorem setT_len {n : Nat} {s : Sx n} (h1 : nameB s.m = true) (h2 : chkX s.x = 0) : (setT s).length ≤ 9619 := by
  have a := nameB_len h1
  have b := (chk_ok h2).2
  have e : weq.length = 3 := rfl
  unfold setT
  simp only [List.length_append, bsz]
  omega
theorem ordT_len (o : Od) : (ordT o).length ≤ 25 := by
  unfold ordT
  have := dec_len o.n.toNat
  rw [List.length_append]
  split
  · have e : wde.length = 5 := rfl
    omega
  · simp; omega
theorem stL_len {n : Nat} {x : St n} (h : StPr x) : (stL x).length ≤ 10000000 := by
  obtain ⟨l1, l2, l3, l4, l5, l6, l7, l8⟩ := all_len h.ok
  have a1 := h.tb; have a2 := h.key; have a3 := h.ix; have a4 := h.jn
  have b1 := colsT_len (l := x.cols) (List.all_eq_true.2 h.cols)
  have f := h.ok.fm
  unfold formedB at f
  simp only [Bool.and_eq_true, List.all_eq_true] at f
  have b2 := partL_len (ws := wva) (f := rowT) (l := x.rows) (M := 80000) fun r hr => by
    have h1 := rowT_len (h.ok.rows r hr)
    have h2 := f.1.1.2 r hr
    unfold rowB spB at h2
    simp only [Bool.and_eq_true, decide_eq_true_eq] at h2
    omega
  have b3 := partL_len (ws := wst) (f := setT) (l := x.sets) (M := 9619) fun s hs => setT_len (f.1.2 s hs) (h.ok.sets s hs)
  have b4 := partL_len (ws := wSE) (exprs_len h.ok.items)
  have b5 := partL_len (ws := won) (exprs_len h.ok.on)
  have b6 := partL_len (ws := wwh) (exprs_len h.ok.wh)
  have b7 := partL_len (ws := wgr) (exprs_len h.ok.gr)
  have b8 := partL_len (ws := wor) (f := ordT) (l := x.ord) (M := 25) fun o _ => ordT_len o
  have b9 : (joinT x.jn).length ≤ 22 := by
    unfold joinT
    split
    · simp
    · have e : wjo.length = 6 := rfl
      rw [List.length_append, bsz, e]; omega
  have b10 : (limT x.lim).length ≤ 27 := by
    unfold limT
    split
    · simp
    · have e : wli.length = 7 := rfl
      have := dec_len x.lim.toNat
      rw [List.length_append, e]; omega
  have c1 : wva.length = 8 := rfl
  have c2 : wst.length = 5 := rfl
  have c3 : wSE.length = 7 := rfl
  have c4 : won.length = 4 := rfl
  have c5 : wwh.length = 7 := rfl
  have c6 : wgr.length = 10 := rfl
  have c7 : wor.length = 10 := rfl
  rw [c1] at b2; rw [c2] at b3; rw [c3] at b4; rw [c4] at b5; rw [c5] at b6; rw [c6] at b7; rw [c7] at b8
  clear f
  unfold stL queryT
  split
  · simp only [List.length_append, bsz, wCT, wop, wpk, wcc, List.length_cons, List.length_nil]; omega
  split
  · simp only [List.length_append, bsz, wCI, won, wop, wcl, List.length_cons, List.length_nil]; omega
  split
  · simp only [List.length_append, bsz, wDT, List.length_cons, List.length_nil]; omega
  split
  · simp only [List.length_append, bsz, wII, List.length_cons, List.length_nil]; omega
  split
  · simp only [List.length_append, bsz, wUP, List.length_cons, List.length_nil]; omega
  split
  · simp only [List.length_append, bsz, wDF, List.length_cons, List.length_nil]; omega
  split
  · simp only [List.length_append, bsz, wfr, List.length_cons, List.length_nil]; omega
  split
  · simp [wBE]
  split
  · simp [wCO]
  · simp [wRO]
theorem stL_ne {n : Nat} {x : St n} (h : StOk x) : stL x ≠ [] := by
  obtain ⟨u, e⟩ := st_head h
  rw [e]
  have a := h.lo; have b := h.hi
  have : ∀ k, k < 11 → 1 ≤ k → headT (k : Nat) ≠ [] := by decide
  have h1 := this x.kind.toNat (by omega) (by omega)
  rw [Int.toNat_of_nonneg (by omega)] at h1
  simp [h1]

end Go.Proofs.YtnbgnofbeklmkaaGreatDoor
