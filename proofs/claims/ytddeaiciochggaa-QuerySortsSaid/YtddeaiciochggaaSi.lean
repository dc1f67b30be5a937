/- slices.symMergeCmpFunc over a list of lists in memory of the call's own, where both parts are of more than one: how they are cut: plain mathematics. Conditions: parts in order. -/
import Derived.Test.YtddeaiciochggaaSg
namespace Go.Proofs.Ytddeaiciochggaa.So
set_option linter.unusedSimpArgs false
set_option linter.unusedVariables false

/-- What stands at c in the left part comes before its partner in the right one. -/
def par {α : Type} (lt : α → α → Bool) (A B : List (α × Nat)) (a mid c : Nat) : Prop := ∃ u v, A[c - a]? = some u ∧ B[mid - 1 - c]? = some v ∧ Rt lt u v
/-- The range of the search. -/
structure Rg (a m b mid s0 r0 : Nat) : Prop where
  mi : mid = (a + b) / 2
  am : a < m
  mb : m < b
  s : s0 = if mid < m then mid + m - b else a
  r : r0 = if mid < m then mid else m
theorem Rg.facts {a m b mid s0 r0 : Nat} (h : Rg a m b mid s0 r0) : a ≤ s0 ∧ s0 ≤ r0 ∧ r0 ≤ m ∧ r0 ≤ mid ∧ mid + m - s0 ≤ b ∧ mid < b ∧ a < mid ∧ b ≤ mid + m - s0 + (if mid < m then 0 else b) := by
  have := h.mi
  have := h.am
  have := h.mb
  have h1 := h.s
  have h2 := h.r
  by_cases hc : mid < m
  · rw [if_pos hc] at h1 h2
    rw [if_pos hc]
    omega
  · rw [if_neg hc] at h1 h2
    rw [if_neg hc]
    omega
theorem mono_par {α : Type} {lt : α → α → Bool} (hw : Wk lt) {A B : List (α × Nat)} {a m b mid s0 r0 : Nat} (h : Rg a m b mid s0 r0) (hA : a + A.length = m) (hB : m + B.length = b) (sa : Srt lt A) (sb : Srt lt B) : Mono (par lt A B a mid) s0 r0 := by
  intro c c' h1 h2 h3 ⟨u, v, hu, hv, hr⟩
  obtain ⟨f1, f2, f3, f4, f5, f6, f7, _⟩ := h.facts
  obtain ⟨cu, eu⟩ := List.getElem?_eq_some_iff.1 hu
  obtain ⟨cv, ev⟩ := List.getElem?_eq_some_iff.1 hv
  have c1 : c' - a < A.length := by omega
  have c2 : mid - 1 - c' < B.length := by omega
  refine ⟨A[c' - a], B[mid - 1 - c'], List.getElem?_eq_getElem c1, List.getElem?_eq_getElem c2, ?_⟩
  by_cases e : c' = c
  · subst e; rw [eu, ev]; exact hr
  · have r1 := List.pairwise_iff_getElem.1 sa (c' - a) (c - a) c1 cu (by omega)
    have r2 := List.pairwise_iff_getElem.1 sb (mid - 1 - c) (mid - 1 - c') cv c2 (by omega)
    rw [eu] at r1
    rw [ev] at r2
    exact (r1.trans hw hr).trans hw r2
/-- Where the search ends, both parts are cut well. -/
theorem cut_par {α : Type} {lt : α → α → Bool} (hw : Wk lt) {A B : List (α × Nat)} {a m b mid s0 r0 s : Nat} (h : Rg a m b mid s0 r0) (hA : a + A.length = m) (hB : m + B.length = b) (sa : Srt lt A) (sb : Srt lt B) (lo : Lo A B) (hb : Bs (par lt A B a mid) s0 r0 s s) :
    s - a ≤ A.length ∧ mid - s ≤ B.length ∧ ∀ x ∈ A.take (s - a) ++ B.take (mid - s), ∀ y ∈ A.drop (s - a) ++ B.drop (mid - s), Rt lt x y := by
  obtain ⟨f1, f2, f3, f4, f5, f6, f7, _⟩ := h.facts
  have b1 := hb.lo
  have b2 := hb.hi
  have hs := h.s
  have hr := h.r
  have hk : s - a ≤ A.length := by omega
  have hq : mid - s ≤ B.length := by omega
  refine ⟨hk, hq, cut_lo hw sa sb hk hq (fun hi hj h0 => ?_) (fun hi hj h0 => ?_)⟩
  · have hs1 : s0 < s := by
      by_cases hc : mid < m
      · rw [if_pos hc] at hs; omega
      · rw [if_neg hc] at hs; omega
    obtain ⟨u, v, hu, hv, hr'⟩ := hb.yes (s - 1) (by omega) (by omega)
    have e1 : s - 1 - a = s - a - 1 := by omega
    have e2 : mid - 1 - (s - 1) = mid - s := by omega
    rw [e1, List.getElem?_eq_getElem hi] at hu
    rw [e2, List.getElem?_eq_getElem hj] at hv
    injection hu with hu
    injection hv with hv
    rw [hu, hv]; exact hr'
  · have hs1 : s < r0 := by
      by_cases hc : mid < m
      · rw [if_pos hc] at hr; omega
      · rw [if_neg hc] at hr; omega
    have hn := hb.no s (Nat.le_refl _) hs1
    have e2 : mid - 1 - s = mid - s - 1 := by omega
    rcases Rt.total hw (x := A[s - a]) (y := B[mid - s - 1]) (by have := lo _ (List.getElem_mem hj) _ (List.getElem_mem hi); omega) with h' | h'
    · exact absurd ⟨_, _, List.getElem?_eq_getElem hj, by rw [e2]; exact List.getElem?_eq_getElem hi, h'⟩ hn
    · exact h'
/-- What is cut and turned, each half in order, is in order. -/
theorem cut_join {α : Type} {lt : α → α → Bool} {A B C E : List (α × Nat)} {k q : Nat} (hc : ∀ x ∈ A.take k ++ B.take q, ∀ y ∈ A.drop k ++ B.drop q, Rt lt x y) (h1 : Srt lt C) (h2 : Srt lt E) (p1 : C.Perm (A.take k ++ B.take q)) (p2 : E.Perm (A.drop k ++ B.drop q)) :
    Srt lt (C ++ E) ∧ (C ++ E).Perm (A ++ B) :=
  ⟨Srt.join h1 h2 p1 p2 hc, (p1.append p2).trans (perm_cut A B k q)⟩
theorem srt_none {α : Type} {lt : α → α → Bool} {A B : List (α × Nat)} (sa : Srt lt A) (sb : Srt lt B) (h : A = [] ∨ B = []) : Srt lt (A ++ B) := by
  rcases h with h | h
  · subst h; exact sb
  · subst h; rw [List.append_nil]; exact sa
end Go.Proofs.Ytddeaiciochggaa.So
