/- Two lists in order made one, by cutting both: plain mathematics. Conditions: none. -/
import Derived.Test.YtddeaiciochggaaSa
namespace Go.Proofs.Ytddeaiciochggaa.So
set_option linter.unusedSimpArgs false
set_option linter.unusedVariables false

/-- Where a search by halves stands. -/
structure Bs (f : Nat → Prop) (s0 r0 i j : Nat) : Prop where
  lo : s0 ≤ i
  le : i ≤ j
  hi : j ≤ r0
  yes : ∀ c, s0 ≤ c → c < i → f c
  no : ∀ c, j ≤ c → c < r0 → ¬ f c
def Mono (f : Nat → Prop) (s0 r0 : Nat) : Prop := ∀ c c', s0 ≤ c' → c' ≤ c → c < r0 → f c → f c'
theorem Bs.start (f : Nat → Prop) {s0 r0 : Nat} (h : s0 ≤ r0) : Bs f s0 r0 s0 r0 := ⟨Nat.le_refl _, h, Nat.le_refl _, fun c _ _ => by omega, fun c _ _ => by omega⟩
theorem Bs.up {f : Nat → Prop} {s0 r0 i j h : Nat} (b : Bs f s0 r0 i j) (hm : Mono f s0 r0) (h1 : i ≤ h) (h2 : h < j) (hf : f h) : Bs f s0 r0 (h + 1) j :=
  ⟨by have := b.lo; omega, h2, b.hi, fun c c1 c2 => hm h c c1 (by omega) (by have := b.hi; omega) hf, b.no⟩
theorem Bs.down {f : Nat → Prop} {s0 r0 i j h : Nat} (b : Bs f s0 r0 i j) (hm : Mono f s0 r0) (h1 : i ≤ h) (h2 : h < j) (hf : ¬ f h) : Bs f s0 r0 i h :=
  ⟨b.lo, h1, by have := b.hi; omega, b.yes, fun c c1 c2 e => hf (hm c h (by have := b.lo; omega) c1 c2 e)⟩
theorem half {i j : Nat} (h : i < j) : i ≤ (i + j) / 2 ∧ (i + j) / 2 < j := by omega
theorem Rt.total {α : Type} {lt : α → α → Bool} (hw : Wk lt) {x y : α × Nat} (h : x.2 ≠ y.2) : Rt lt x y ∨ Rt lt y x := by
  cases e : lt x.1 y.1 with
  | true => exact .inl ⟨hw.asymm _ _ e, .inl e⟩
  | false =>
    cases e' : lt y.1 x.1 with
    | true => exact .inr ⟨e, .inl e'⟩
    | false =>
      rcases Nat.lt_or_gt_of_ne h with h | h
      · exact .inl ⟨e', .inr h⟩
      · exact .inr ⟨e, .inr h⟩
/-- One value put into a list that is in order, ahead of those that come behind it. -/
theorem Srt_put {α : Type} {lt : α → α → Bool} {x : α × Nat} {L M : List (α × Nat)} (h : Srt lt (L ++ M)) (h1 : ∀ y ∈ L, Rt lt y x) (h2 : ∀ y ∈ M, Rt lt x y) : Srt lt (L ++ x :: M) := by
  obtain ⟨a, b, c⟩ := List.pairwise_append.1 h
  refine List.pairwise_append.2 ⟨a, List.pairwise_cons.2 ⟨h2, b⟩, fun y hy z hz => ?_⟩
  rcases List.mem_cons.1 hz with e | hz
  · exact e ▸ h1 y hy
  · exact c y hy z hz
/-- What stands at h, counted from o, comes before x. -/
def bel {α : Type} (lt : α → α → Bool) (x : α × Nat) (L : List (α × Nat)) (o h : Nat) : Prop := ∃ y, L[h - o]? = some y ∧ Rt lt y x
theorem mono_bel {α : Type} {lt : α → α → Bool} (hw : Wk lt) (x : α × Nat) {L : List (α × Nat)} (o : Nat) (hs : Srt lt L) : Mono (bel lt x L o) o (o + L.length) := fun c c' h1 h2 h3 ⟨y, hy, hr⟩ => by
  have hc' : c' - o < L.length := by omega
  refine ⟨L[c' - o], List.getElem?_eq_getElem hc', ?_⟩
  obtain ⟨hc, e⟩ := List.getElem?_eq_some_iff.1 hy
  by_cases e0 : c' = c
  · subst e0; rw [e]; exact hr
  · exact (List.pairwise_iff_getElem.1 hs (c' - o) (c - o) hc' hc (by omega)).trans hw (e ▸ hr)
theorem put_bel {α : Type} {lt : α → α → Bool} (hw : Wk lt) {x : α × Nat} {L : List (α × Nat)} {o k : Nat} (hs : Srt lt L) (ht : ∀ y ∈ L, y.2 ≠ x.2) (hb : Bs (bel lt x L o) o (o + L.length) (o + k) (o + k)) :
    Srt lt (L.take k ++ x :: L.drop k) := by
  have hk : k ≤ L.length := by have := hb.hi; omega
  refine Srt_put (by rw [List.take_append_drop]; exact hs) (fun y hy => ?_) (fun y hy => ?_)
  · obtain ⟨i, hi, rfl⟩ := List.mem_take_iff_getElem.1 hy
    obtain ⟨y, h1, h2⟩ := hb.yes (o + i) (by omega) (by omega)
    have e : o + i - o = i := by omega
    rw [e, List.getElem?_eq_getElem (by omega)] at h1
    injection h1 with h1
    rw [h1]; exact h2
  · obtain ⟨i, hi, rfl⟩ := List.mem_drop_iff_getElem.1 hy
    have h1 := hb.no (o + (k + i)) (by omega) (by omega)
    have e : o + (k + i) - o = k + i := by omega
    rcases Rt.total hw (ht _ (List.getElem_mem (by omega : k + i < L.length))) with h | h
    · exact absurd ⟨_, by rw [e]; exact List.getElem?_eq_getElem (by omega), h⟩ h1
    · exact h
/-- What is cut: all that stand ahead come before all that stand behind. -/
theorem cut_lo {α : Type} {lt : α → α → Bool} (hw : Wk lt) {A B : List (α × Nat)} (ha : Srt lt A) (hb : Srt lt B) {k q : Nat} (hk : k ≤ A.length) (hq : q ≤ B.length)
    (h1 : ∀ (hi : k - 1 < A.length) (hj : q < B.length), 0 < k → Rt lt A[k - 1] B[q]) (h2 : ∀ (hi : q - 1 < B.length) (hj : k < A.length), 0 < q → Rt lt B[q - 1] A[k]) :
    ∀ x ∈ A.take k ++ B.take q, ∀ y ∈ A.drop k ++ B.drop q, Rt lt x y := by
  have pa := List.pairwise_iff_getElem.1 ha
  have pb := List.pairwise_iff_getElem.1 hb
  intro x hx y hy
  rcases List.mem_append.1 hx with hx | hx <;> rcases List.mem_append.1 hy with hy | hy
  · rw [← List.take_append_drop k A] at ha
    exact (List.pairwise_append.1 ha).2.2 x hx y hy
  · obtain ⟨i, hi, rfl⟩ := List.mem_take_iff_getElem.1 hx
    obtain ⟨j, hj, rfl⟩ := List.mem_drop_iff_getElem.1 hy
    have h0 := h1 (by omega) (by omega) (by omega)
    have h3 : Rt lt A[i] B[q] := by
      by_cases e : i = k - 1
      · subst e; exact h0
      · exact (pa i (k - 1) (by omega) (by omega) (by omega)).trans hw h0
    by_cases e : j = 0
    · subst e; simpa using h3
    · exact h3.trans hw (pb q (q + j) (by omega) (by omega) (by omega))
  · obtain ⟨i, hi, rfl⟩ := List.mem_take_iff_getElem.1 hx
    obtain ⟨j, hj, rfl⟩ := List.mem_drop_iff_getElem.1 hy
    have h0 := h2 (by omega) (by omega) (by omega)
    have h3 : Rt lt B[i] A[k] := by
      by_cases e : i = q - 1
      · subst e; exact h0
      · exact (pb i (q - 1) (by omega) (by omega) (by omega)).trans hw h0
    by_cases e : j = 0
    · subst e; simpa using h3
    · exact h3.trans hw (pa k (k + j) (by omega) (by omega) (by omega))
  · rw [← List.take_append_drop q B] at hb
    exact (List.pairwise_append.1 hb).2.2 x hx y hy
theorem Srt.join {α : Type} {lt : α → α → Bool} {X Y C E : List (α × Nat)} (h1 : Srt lt C) (h2 : Srt lt E) (p1 : C.Perm X) (p2 : E.Perm Y) (h : ∀ x ∈ X, ∀ y ∈ Y, Rt lt x y) : Srt lt (C ++ E) :=
  List.pairwise_append.2 ⟨h1, h2, fun x hx y hy => h x (p1.mem_iff.1 hx) y (p2.mem_iff.1 hy)⟩
theorem perm_cut {α : Type} (A B : List α) (k q : Nat) : ((A.take k ++ B.take q) ++ (A.drop k ++ B.drop q)).Perm (A ++ B) := by
  have h1 : ((A.take k ++ B.take q) ++ (A.drop k ++ B.drop q)).Perm ((A.take k ++ A.drop k) ++ (B.take q ++ B.drop q)) := by
    rw [List.append_assoc, List.append_assoc]
    refine List.Perm.append_left _ ?_
    rw [← List.append_assoc, ← List.append_assoc]
    exact List.Perm.append_right _ List.perm_append_comm
  rw [List.take_append_drop, List.take_append_drop] at h1
  exact h1
theorem Srt.take {α : Type} {lt : α → α → Bool} {A : List (α × Nat)} (h : Srt lt A) (k : Nat) : Srt lt (A.take k) := List.Pairwise.sublist (List.take_sublist _ _) h
theorem Srt.drop {α : Type} {lt : α → α → Bool} {A : List (α × Nat)} (h : Srt lt A) (k : Nat) : Srt lt (A.drop k) := List.Pairwise.sublist (List.drop_sublist _ _) h
theorem Lo.sub {α : Type} {A B C E : List (α × Nat)} (h : Lo A B) (h1 : ∀ x ∈ C, x ∈ A) (h2 : ∀ x ∈ E, x ∈ B) : Lo C E := fun x hx y hy => h x (h1 x hx) y (h2 y hy)
end Go.Proofs.Ytddeaiciochggaa.So
