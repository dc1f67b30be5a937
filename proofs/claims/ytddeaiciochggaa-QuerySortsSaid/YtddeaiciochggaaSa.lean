/- Lists that are put in order by an order in which like ones may stand: plain mathematics. Conditions: none. -/
import Derived.Test.YtddeaiciochggaaProg
namespace Go.Proofs.Ytddeaiciochggaa.So
set_option linter.unusedSimpArgs false
set_option linter.unusedVariables false

/-- A test that orders, like ones left as they are. -/
structure Wk {α : Type} (lt : α → α → Bool) : Prop where
  asymm : ∀ x y, lt x y = true → lt y x = false
  trans : ∀ x y z, lt y x = false → lt z y = false → lt z x = false
/-- The order in which a place tells like ones apart. -/
def Rt {α : Type} (lt : α → α → Bool) (x y : α × Nat) : Prop := lt y.1 x.1 = false ∧ (lt x.1 y.1 = true ∨ x.2 < y.2)
theorem Wk.irrefl {α : Type} {lt : α → α → Bool} (h : Wk lt) (x : α) : lt x x = false := by
  cases e : lt x x with
  | false => rfl
  | true => exact (h.asymm x x e) ▸ e.symm ▸ rfl
theorem Rt.trans {α : Type} {lt : α → α → Bool} (h : Wk lt) {x y z : α × Nat} (h1 : Rt lt x y) (h2 : Rt lt y z) : Rt lt x z := by
  refine ⟨h.trans _ _ _ h1.1 h2.1, ?_⟩
  rcases h1.2 with a | a
  · left
    cases e : lt x.1 z.1 with
    | true => rfl
    | false =>
      have := h.trans y.1 z.1 x.1 h2.1 e
      rw [a] at this; cases this
  · rcases h2.2 with b | b
    · left
      cases e : lt x.1 z.1 with
      | true => rfl
      | false =>
        have := h.trans z.1 x.1 y.1 e h1.1
        rw [b] at this; cases this
    · right; omega
theorem Rt.asymm {α : Type} {lt : α → α → Bool} {x y : α × Nat} (h1 : Rt lt x y) (h2 : Rt lt y x) : False := by
  rcases h1.2 with a | a
  · rw [h2.1] at a; cases a
  · rcases h2.2 with b | b
    · rw [h1.1] at b; cases b
    · omega
theorem Rt.up {α : Type} {lt : α → α → Bool} {x y : α × Nat} (ht : x.2 < y.2) (h : lt y.1 x.1 = false) : Rt lt x y := ⟨h, .inr ht⟩
theorem Rt.down {α : Type} {lt : α → α → Bool} (hw : Wk lt) {x y : α × Nat} (h : lt y.1 x.1 = true) : Rt lt y x := ⟨hw.asymm _ _ h, .inl h⟩
theorem Rt.no {α : Type} {lt : α → α → Bool} {x y : α × Nat} (h : Rt lt x y) : lt y.1 x.1 = false := h.1
theorem Rt.yes {α : Type} {lt : α → α → Bool} {x y : α × Nat} (ht : x.2 < y.2) (h : Rt lt y x) : lt y.1 x.1 = true := by
  rcases h.2 with a | a
  · exact a
  · omega
/-- Lists of places, in order. -/
abbrev Srt {α : Type} (lt : α → α → Bool) (l : List (α × Nat)) : Prop := l.Pairwise (Rt lt)
/-- All places of the one come ahead of all of the other. -/
def Lo {α : Type} (l m : List (α × Nat)) : Prop := ∀ x ∈ l, ∀ y ∈ m, x.2 < y.2
theorem Srt.uniq {α : Type} {lt : α → α → Bool} {l m : List (α × Nat)} (h1 : Srt lt l) (h2 : Srt lt m) (hp : l.Perm m) : l = m :=
  List.Perm.eq_of_pairwise (fun a b _ _ h3 h4 => (Rt.asymm h3 h4).elim) h1 h2 hp
/-- Two values of a list change places. -/
theorem swap_at {α : Type} (P M S : List α) (x y : α) : ((P ++ x :: (M ++ y :: S)).set P.length y).set (P.length + 1 + M.length) x = P ++ y :: (M ++ x :: S) := by
  rw [List.set_append_right _ _ (Nat.le_refl _), Nat.sub_self, List.set_cons_zero, List.set_append_right _ _ (by omega)]
  have e : P.length + 1 + M.length - P.length = M.length + 1 := by omega
  rw [e, List.set_cons_succ, List.set_append_right _ _ (Nat.le_refl _), Nat.sub_self, List.set_cons_zero]
theorem get_at {α : Type} (P S : List α) (x : α) : (P ++ x :: S)[P.length]? = some x := by
  rw [List.getElem?_append_right (Nat.le_refl _), Nat.sub_self]; rfl
/-- The insertion of the reference: ahead of the first one that it comes before. -/
def insL {α : Type} (lt : α → α → Bool) (x : α) : List α → List α
  | [] => [x]
  | y :: l => if lt x y = true then x :: y :: l else y :: insL lt x l
def sortL {α : Type} (lt : α → α → Bool) (l : List α) : List α := l.foldl (fun o x => insL lt x o) []
theorem insL_fst {α : Type} (lt : α → α → Bool) (x : α × Nat) : ∀ l : List (α × Nat), (insL (fun a b => lt a.1 b.1) x l).map Prod.fst = insL lt x.1 (l.map Prod.fst)
  | [] => rfl
  | y :: l => by
    have ih := insL_fst lt x l
    by_cases h : lt x.1 y.1 = true
    · simp [insL, h]
    · simp [insL, h, ih]
theorem insL_perm {α : Type} (lt : α → α → Bool) (x : α) : ∀ l : List α, (insL lt x l).Perm (x :: l)
  | [] => .refl _
  | y :: l => by
    unfold insL
    by_cases h : lt x y = true
    · rw [if_pos h]
    · rw [if_neg h]
      exact ((insL_perm lt x l).cons y).trans (.swap x y l)
theorem insL_srt {α : Type} {lt : α → α → Bool} (hw : Wk lt) (x : α × Nat) : ∀ l : List (α × Nat), Srt lt l → (∀ y ∈ l, y.2 < x.2) → Srt lt (insL (fun a b => lt a.1 b.1) x l)
  | [], _, _ => by simp [insL]
  | y :: l, hs, ht => by
    have h1 := List.pairwise_cons.1 hs
    unfold insL
    by_cases h : lt x.1 y.1 = true
    · rw [if_pos h]
      have hxy := Rt.down hw h
      exact List.pairwise_cons.2 ⟨fun z hz => (List.mem_cons.1 hz).elim (fun e => e ▸ hxy) (fun hz => hxy.trans hw (h1.1 z hz)), hs⟩
    · rw [if_neg h]
      have hyx := Rt.up (ht y (List.mem_cons_self ..)) (by simpa using h)
      refine List.pairwise_cons.2 ⟨fun z hz => ?_, insL_srt hw x l h1.2 (fun z hz => ht z (List.mem_cons_of_mem _ hz))⟩
      rcases List.mem_cons.1 ((insL_perm _ x l).mem_iff.1 hz) with e | hz
      · exact e ▸ hyx
      · exact h1.1 z hz
/-- A list with its places, from one on. -/
def tag {α : Type} (l : List α) (k : Nat) : List (α × Nat) := l.zipIdx k
theorem tag_fst {α : Type} (l : List α) (k : Nat) : (tag l k).map Prod.fst = l := by simp [tag]
theorem tag_len {α : Type} (l : List α) (k : Nat) : (tag l k).length = l.length := by simp [tag]
theorem tag_append {α : Type} (l m : List α) (k : Nat) : tag (l ++ m) k = tag l k ++ tag m (k + l.length) := by
  simp [tag, List.zipIdx_append]
theorem tag_mem {α : Type} {l : List α} {k : Nat} {x : α × Nat} (h : x ∈ tag l k) : k ≤ x.2 ∧ x.2 < k + l.length ∧ x.1 ∈ l := by
  obtain ⟨a, i⟩ := x
  have h1 := List.mem_zipIdx h
  refine ⟨h1.1, h1.2.1, ?_⟩
  dsimp only
  rw [h1.2.2]
  exact List.getElem_mem _
theorem tag_lo {α : Type} (l m : List α) (k k' : Nat) (h : k + l.length ≤ k') : Lo (tag l k) (tag m k') := fun x hx y hy => by
  have := tag_mem hx
  have := tag_mem hy
  omega
theorem sort_go {α : Type} {lt : α → α → Bool} (hw : Wk lt) : ∀ (l : List α) (k : Nat) (o : List (α × Nat)), Srt lt o → (∀ y ∈ o, y.2 < k) →
    ∃ r, Srt lt r ∧ r.Perm (o ++ tag l k) ∧ r.map Prod.fst = l.foldl (fun o x => insL lt x o) (o.map Prod.fst)
  | [], k, o, h1, _ => ⟨o, h1, by simp [tag], rfl⟩
  | x :: l, k, o, h1, h2 => by
    have hs := insL_srt hw (x, k) o h1 (fun y hy => h2 y hy)
    have hp := insL_perm (fun a b : α × Nat => lt a.1 b.1) (x, k) o
    obtain ⟨r, r1, r2, r3⟩ := sort_go hw l (k + 1) _ hs (fun y hy => by
      rcases List.mem_cons.1 (hp.mem_iff.1 hy) with e | hy
      · subst e; simp
      · have := h2 y hy; omega)
    refine ⟨r, r1, r2.trans ?_, ?_⟩
    · have e : tag (x :: l) k = (x, k) :: tag l (k + 1) := by simp [tag, List.zipIdx_cons]
      rw [e]
      exact ((hp.append_right _).trans (by simp)).trans List.perm_middle.symm
    · rw [r3, insL_fst]
      rfl
/-- What is in order, and has just the places of the list, is what the insertion makes of it. -/
theorem sort_uniq {α : Type} {lt : α → α → Bool} (hw : Wk lt) {l : List α} {r : List (α × Nat)} (h1 : Srt lt r) (h2 : r.Perm (tag l 0)) : r.map Prod.fst = sortL lt l := by
  obtain ⟨q, q1, q2, q3⟩ := sort_go hw l 0 [] List.Pairwise.nil (by simp)
  have e : r = q := Srt.uniq h1 q1 (h2.trans (by simpa using q2.symm))
  rw [e, q3]
  rfl
end Go.Proofs.Ytddeaiciochggaa.So
