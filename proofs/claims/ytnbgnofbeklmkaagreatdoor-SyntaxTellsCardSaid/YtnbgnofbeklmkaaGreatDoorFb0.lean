/- What comparing two statements leans on: plain mathematics. Conditions: none. -/
import Derived.Test.YtnbgnofbeklmkaaGreatDoorDc
namespace Go.Proofs.YtnbgnofbeklmkaaGreatDoor
open Go.RowKit
set_option linter.unusedSimpArgs false
set_option linter.unusedVariables false

theorem heap_on {w : World} {g : Nat} {o : Obj} (h : w.heap[g]? = some o) (o' : Obj) : (w.alloc o').heap[g]? = some o := by rw [Below.heap_alloc _ _ _ (heap_lt h), h]
theorem two_drew {w : World} {b c : Nat} {o p : Obj} (hX : w.heap[b]? = some o) (hY : w.heap[c]? = some p) : w.drew.heap[b]? = some o ∧ w.drew.heap[c]? = some p := ⟨hX, hY⟩
theorem two_drewN {w : World} {b c k : Nat} {o p : Obj} (hX : w.heap[b]? = some o) (hY : w.heap[c]? = some p) : (w.drewN k).heap[b]? = some o ∧ (w.drewN k).heap[c]? = some p := ⟨hX, hY⟩
theorem take_eq {α : Type} {l m : List α} {j : Nat} (h : l.take j = m.take j) (h1 : l.length ≤ j) (h2 : l.length = m.length) : l = m := by
  rw [List.take_of_length_le h1, List.take_of_length_le (by omega)] at h; exact h
theorem take_on {α : Type} {l m : List α} {j : Nat} {x y : α} (h : l.take j = m.take j) (hx : l[j]? = some x) (hy : m[j]? = some y) (e : x = y) : l.take (j + 1) = m.take (j + 1) := by
  rw [List.take_add_one, List.take_add_one, hx, hy, h, e]
theorem take_off {α : Type} {l m : List α} {j : Nat} {x y : α} (hx : l[j]? = some x) (hy : m[j]? = some y) (e : ¬ x = y) : ¬ l = m := fun h => by
  subst h; exact e (Option.some.inj (hx.symm.trans hy))
theorem sx_eq {n : Nat} {a b : Sx n} (h1 : a.m = b.m) (h2 : a.x = b.x) : a = b := by
  obtain ⟨_, _⟩ := a; obtain ⟨_, _⟩ := b; simp only at h1 h2; subst h1 h2; rfl
/-- What all that is no list asks. -/
def hdrB {n : Nat} (x y : St n) : Bool := (x.kind == y.kind) && (x.tb.toList == y.tb.toList) && (x.key.toList == y.key.toList) && (x.ix.toList == y.ix.toList) && (x.jn.toList == y.jn.toList) && (x.lim == y.lim)
def lenB {n : Nat} (x y : St n) : Bool := ((x.cols.length : Int) == y.cols.length) && ((x.rows.length : Int) == y.rows.length) && ((x.sets.length : Int) == y.sets.length) && ((x.ord.length : Int) == y.ord.length)
theorem eqX_st2 {n : Nat} (x y : St n) : eqX x y = (hdrB x y && eqX x.cols y.cols && eqX x.ord y.ord && eqX x.rows y.rows && eqX x.sets y.sets && eqX x.items y.items && eqX x.on y.on && eqX x.wh y.wh && eqX x.gr y.gr) := eqX_st x y
theorem eqX_hdr {n : Nat} {x y : St n} (h : hdrB x y = false) : eqX x y = false := by rw [eqX_st2, h]; simp
theorem eqX_ne {n : Nat} {x y : St n} (h : ¬ x = y) : eqX x y = false := eqX_no.2 h
theorem eqX_len {n : Nat} {x y : St n} (h : lenB x y = false) : eqX x y = false := by
  refine eqX_no.2 fun e => ?_
  subst e
  simp [lenB] at h
theorem len_of {n : Nat} {x y : St n} (h : lenB x y = true) : x.cols.length = y.cols.length ∧ x.rows.length = y.rows.length ∧ x.sets.length = y.sets.length ∧ x.ord.length = y.ord.length := by
  simp only [lenB, Bool.and_eq_true, beq_iff_eq] at h
  omega

end Go.Proofs.YtnbgnofbeklmkaaGreatDoor
