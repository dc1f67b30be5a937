/- Lists in chunks that are in order: plain mathematics. Conditions: none. -/
import Derived.Test.YtddeaiciochggaaSi
namespace Go.Proofs.Ytddeaiciochggaa.So
set_option linter.unusedSimpArgs false
set_option linter.unusedVariables false

/-- D is T, chunk by chunk put in order; the last chunk may be shorter. -/
inductive CE {α : Type} (lt : α → α → Bool) (bs : Nat) : List (α × Nat) → List (α × Nat) → Prop
  | last {T D : List (α × Nat)} : T.length ≤ bs → Srt lt D → D.Perm T → CE lt bs T D
  | cons {TC C T D : List (α × Nat)} : C.length = bs → Srt lt C → C.Perm TC → CE lt bs T D → CE lt bs (TC ++ T) (C ++ D)
theorem CE.perm {α : Type} {lt : α → α → Bool} {bs : Nat} {T D : List (α × Nat)} (h : CE lt bs T D) : D.Perm T := by
  induction h with
  | last _ _ h => exact h
  | cons _ _ h _ ih => exact h.append ih
theorem CE.done {α : Type} {lt : α → α → Bool} {bs : Nat} {T D : List (α × Nat)} (h : CE lt bs T D) (hl : T.length ≤ bs) : Srt lt D := by
  cases h with
  | last _ h _ => exact h
  | cons h1 h2 h3 h4 =>
    rename_i TC C T1 D1
    have e : T1 = [] := List.eq_nil_of_length_eq_zero (by have := h3.length_eq; simp at hl; omega)
    have hp := h4.perm
    rw [e] at hp
    rw [hp.eq_nil, List.append_nil]
    exact h2
/-- Chunks of full length, ahead of others. -/
def Pre {α : Type} (lt : α → α → Bool) (bs : Nat) (TY Y : List (α × Nat)) : Prop := TY.length = Y.length ∧ ∀ T D, CE lt bs T D → CE lt bs (TY ++ T) (Y ++ D)
theorem Pre.none {α : Type} (lt : α → α → Bool) (bs : Nat) : Pre lt bs ([] : List (α × Nat)) [] := ⟨rfl, fun _ _ h => h⟩
theorem Pre.snoc {α : Type} {lt : α → α → Bool} {bs : Nat} {TY Y TC C : List (α × Nat)} (h : Pre lt bs TY Y) (h1 : C.length = bs) (h2 : Srt lt C) (h3 : C.Perm TC) : Pre lt bs (TY ++ TC) (Y ++ C) :=
  ⟨by simp [h.1, h3.length_eq], fun T D hc => by rw [List.append_assoc, List.append_assoc]; exact h.2 _ _ (.cons h1 h2 h3 hc)⟩
theorem CE.one {α : Type} {lt : α → α → Bool} {bs : Nat} {T D : List (α × Nat)} (h : CE lt bs T D) (hl : bs < D.length) :
    ∃ TC C T1 D1, T = TC ++ T1 ∧ D = C ++ D1 ∧ C.length = bs ∧ Srt lt C ∧ C.Perm TC ∧ CE lt bs T1 D1 := by
  have hp := h.perm.length_eq
  cases h with
  | last h _ _ => omega
  | cons h1 h2 h3 h4 => exact ⟨_, _, _, _, rfl, rfl, h1, h2, h3, h4⟩
/-- The next chunk, where there is as much. -/
theorem CE.next {α : Type} {lt : α → α → Bool} {bs : Nat} {T D : List (α × Nat)} (h : CE lt bs T D) (hl : bs ≤ D.length) :
    ∃ TC C T1 D1, T = TC ++ T1 ∧ D = C ++ D1 ∧ C.length = bs ∧ Srt lt C ∧ C.Perm TC ∧ CE lt bs T1 D1 := by
  by_cases h0 : bs < D.length
  · exact h.one h0
  · have hp := h.perm
    have hpl := hp.length_eq
    exact ⟨T, D, [], [], by simp, by simp, by omega, h.done (by omega), hp, .last (by simp) List.Pairwise.nil (.refl _)⟩
/-- Two chunks, side by side. -/
structure Tw {α : Type} (lt : α → α → Bool) (bs : Nat) (T D TC TE T2 C E D2 : List (α × Nat)) : Prop where
  t : T = TC ++ TE ++ T2
  d : D = C ++ E ++ D2
  lc : C.length = bs
  sc : Srt lt C
  se : Srt lt E
  pc : C.Perm TC
  pe : E.Perm TE
  ce : CE lt bs T2 D2
theorem CE.two {α : Type} {lt : α → α → Bool} {bs : Nat} {T D : List (α × Nat)} (h : CE lt bs T D) (hl : 2 * bs ≤ D.length) : ∃ TC TE T2 C E D2, Tw lt bs T D TC TE T2 C E D2 ∧ E.length = bs := by
  obtain ⟨TC, C, T1, D1, rfl, rfl, h1, h2, h3, h4⟩ := h.next (by omega)
  obtain ⟨TE, E, T2, D2, rfl, rfl, h5, h6, h7, h8⟩ := h4.next (by simp at hl; omega)
  exact ⟨TC, TE, T2, C, E, D2, ⟨by simp, by simp, h1, h2, h6, h3, h7, h8⟩, h5⟩
theorem CE.rest {α : Type} {lt : α → α → Bool} {bs : Nat} {T D : List (α × Nat)} (h : CE lt bs T D) (h1 : bs < D.length) (h2 : D.length < 2 * bs) : ∃ TC TE C E, Tw lt bs T D TC TE [] C E [] := by
  obtain ⟨TC, C, T1, D1, rfl, rfl, a1, a2, a3, a4⟩ := h.one h1
  exact ⟨TC, T1, C, D1, by simp, by simp, a1, a2, a4.done (by have := a4.perm.length_eq; simp at h2; omega), a3, a4.perm, .last (by simp) List.Pairwise.nil (.refl _)⟩
/-- Places that rise. -/
abbrev Ris {α : Type} (T : List (α × Nat)) : Prop := T.Pairwise fun x y => x.2 < y.2
theorem Ris.lo {α : Type} {X TC TE Z C E : List (α × Nat)} (h : Ris (X ++ (TC ++ TE ++ Z))) (h1 : C.Perm TC) (h2 : E.Perm TE) : Lo C E := fun x hx y hy => by
  have a := (List.pairwise_append.1 (List.pairwise_append.1 (List.pairwise_append.1 h).2.1).1).2.2
  exact a x (h1.mem_iff.1 hx) y (h2.mem_iff.1 hy)
theorem ris_tag {α : Type} : ∀ (l : List α) (k : Nat), Ris (tag l k)
  | [], k => by simp [tag, Ris]
  | x :: l, k => by
    have e : tag (x :: l) k = (x, k) :: tag l (k + 1) := by simp [tag, List.zipIdx_cons]
    rw [e]
    exact List.pairwise_cons.2 ⟨fun y hy => by have := tag_mem hy; show k < y.2; omega, ris_tag l (k + 1)⟩
end Go.Proofs.Ytddeaiciochggaa.So
