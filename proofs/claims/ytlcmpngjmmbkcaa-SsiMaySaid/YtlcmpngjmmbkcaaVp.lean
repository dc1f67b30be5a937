/- Steps of the statements, as they lie in memory. Conditions: none. -/
import Derived.Test.YtlcmpngjmmbkcaaVm
namespace Go.Proofs.Ytlcmpngjmmbkcaa
open Go.RowKit
set_option linter.unusedSimpArgs false
set_option linter.unusedVariables false

/-- A step. -/
structure Sp where
  t : Int
  a : Int
  b : Int
/-- The slice at A of n steps reads as the list l. -/
structure RdP (w : World) (A : Option Addr) (n c : Nat) (l : List Sp) : Prop where
  len : l.length = n
  le : n ≤ c
  cap : c ≤ 9223372036854775807
  nil : A = none → n = 0 ∧ c = 0
  cells : ∀ ad, A = some ad → ∀ (j : Nat) (v : Sp), l[j]? = some v → w.cell? (ad.add (j * 3)) = some (.int .i64 v.t) ∧ w.cell? ⟨(ad.add (j * 3)).block, (ad.add (j * 3)).off + 1, none⟩ = some (.int .i64 v.a) ∧ w.cell? ⟨(ad.add (j * 3)).block, (ad.add (j * 3)).off + 2, none⟩ = some (.int .i64 v.b)
theorem RdP.below {w w' : World} {A : Option Addr} {n c : Nat} {l : List Sp} (h : RdP w A n c l) (hb : Below w.heap.size w w') : RdP w' A n c l :=
  ⟨h.len, h.le, h.cap, h.nil, fun ad e j v hj => ⟨cell_keep (h.cells ad e j v hj).1 hb, cell_keep (h.cells ad e j v hj).2.1 hb, cell_keep (h.cells ad e j v hj).2.2 hb⟩⟩
theorem RdP.at_ {w : World} {A : Option Addr} {n c : Nat} {l : List Sp} (h : RdP w A n c l) {k : Nat} (hk : k < l.length) : ∃ ad, A = some ad ∧ w.cell? (ad.add (k * 3)) = some (.int .i64 l[k].t) ∧ w.cell? ⟨(ad.add (k * 3)).block, (ad.add (k * 3)).off + 1, none⟩ = some (.int .i64 l[k].a) ∧ w.cell? ⟨(ad.add (k * 3)).block, (ad.add (k * 3)).off + 2, none⟩ = some (.int .i64 l[k].b) := by
  cases A with
  | none => have := (h.nil rfl).1; have := h.len; omega
  | some ad => exact ⟨ad, rfl, h.cells ad rfl k _ (List.getElem?_eq_getElem hk)⟩
end Go.Proofs.Ytlcmpngjmmbkcaa
