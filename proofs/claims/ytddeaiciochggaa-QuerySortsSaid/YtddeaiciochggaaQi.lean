/- Rows put in order by the reference: the walk of its Sort. Conditions: rows and orders that are read in memory. -/
import Derived.Test.YtddeaiciochggaaQg
import Derived.Test.YtddeaiciochggaaQh
import Derived.Lib.SliceRun
namespace Go.Proofs.Ytddeaiciochggaa
open Go.RowKit Go.Sort
set_option linter.unusedSimpArgs false
set_option linter.unusedVariables false

theorem ins_at {α : Type} (lt : α → α → Bool) (x : α) : ∀ (l : List α) (t : Nat), t ≤ l.length → (∀ j y, j < t → l[j]? = some y → lt x y = false) → (∀ y, l[t]? = some y → lt x y = true) → So.insL lt x l = l.take t ++ x :: l.drop t
  | [], t, h, _, _ => by
    have : t = 0 := by simpa using h
    subst this
    rfl
  | y :: l, 0, _, _, h2 => by
    have := h2 y rfl
    simp [So.insL, this]
  | y :: l, t + 1, h, h1, h2 => by
    have h0 := h1 0 y (by omega) rfl
    have ih := ins_at lt x l t (by simpa using h) (fun j z hj hz => h1 (j + 1) z (by omega) (by simpa using hz)) (fun z hz => h2 z (by simpa using hz))
    simp [So.insL, h0, ih]
theorem sort_snoc {α : Type} (lt : α → α → Bool) (l : List α) (x : α) : So.sortL lt (l ++ [x]) = So.insL lt x (So.sortL lt l) := by
  unfold So.sortL
  rw [List.foldl_append]
  rfl
def Elv (x : El) : Value := .slice x.A x.r.length x.c
/-- The rows that are put in order so far: slices of the call's own list. -/
structure Sof (w : World) (B : Nat) (v : Value) (els : List El) : Prop where
  own : Own w B v (els.map Elv)
  rd : Els w els
theorem Els.below {w w' : World} {els : List El} (h : Els w els) (hb : Below w.heap.size w w') : Els w' els := fun x hx => ⟨(h x hx).1.below hb, (h x hx).2⟩
theorem Sof.below {w w' : World} {B : Nat} {v : Value} {els : List El} (h : Sof w B v els) (hb : Below w.heap.size w w') : Sof w' B v els := ⟨own_below h.own hb, h.rd.below hb⟩
theorem elv_one (els : List El) : ∀ u ∈ els.map Elv, u.oneCell' = true := fun u hu => by
  obtain ⟨x, _, rfl⟩ := List.mem_map.1 hu
  rfl
theorem Sof.rdr {w : World} {B : Nat} {v : Value} {els : List El} (h : Sof w B v els) : ∃ A c, v = .slice A els.length c ∧ els.length ≤ c ∧ RdR w A (els.map El.r) ∧ (A = none → els.length = 0) := by
  rcases h.own.2 with ⟨h1, h0⟩ | ⟨g, cap, cur, h1, _, _, hnc, _⟩
  · have h0' : els.length = 0 := by simpa using h0
    refine ⟨none, 0, by rw [h1, h0'], by omega, fun hl => absurd (List.eq_nil_of_length_eq_zero (by rw [List.length_map]; exact h0')) hl, fun _ => h0'⟩
  · rw [List.length_map] at hnc h1
    refine ⟨some ⟨g, 0, none⟩, cap, h1, hnc, fun _ => ⟨_, rfl, fun j r hj => ?_⟩, (fun e => by cases e)⟩
    rw [List.getElem?_map] at hj
    obtain ⟨x, hx, rfl⟩ := Option.map_eq_some_iff.1 hj
    have hc := h.own.cells (g := g) (by rw [h1]; rfl) j (Elv x) (by rw [List.getElem?_map, hx]; rfl)
    obtain ⟨a1, a2, a3⟩ := h.rd x (List.mem_of_getElem? hx)
    exact ⟨_, hc, x.A, x.c, rfl, a1, a2, a3⟩
end Go.Proofs.Ytddeaiciochggaa
