/- What rows' fitsColumn and fits answer of any row: the walks. Conditions: a table of few columns. -/
import Derived.Test.YtipcacplphidhaaGreatJc
namespace Go.Proofs.YtipcacplphidhaaGreat
open Go.RowKit Go.Sort
set_option linter.unusedSimpArgs false
set_option linter.unusedVariables false

/-- A column. -/
structure Cl where
  m : ByteArray
  k : Int
  nn : Bool
/-- An index. -/
structure Ix where
  m : ByteArray
  c : Int
/-- A table. -/
structure Tb where
  m : ByteArray
  cols : List Cl
  key : Int
  idx : List Ix
@[reducible] def Cl.val (x : Cl) : Value := .agg #[.string x.m, .int .i64 x.k, .bool x.nn]
@[reducible] def Ix.val (x : Ix) : Value := .agg #[.string x.m, .int .i64 x.c]
def CellC (w : World) (p : Addr) (x : Cl) : Prop := w.cell? p = some (.string x.m) ∧ w.cell? ⟨p.block, p.off + 1, none⟩ = some (.int .i64 x.k) ∧ w.cell? ⟨p.block, p.off + 2, none⟩ = some (.bool x.nn)
def CellX (w : World) (p : Addr) (x : Ix) : Prop := w.cell? p = some (.string x.m) ∧ w.cell? ⟨p.block, p.off + 1, none⟩ = some (.int .i64 x.c)
def RdC (w : World) (A : Option Addr) (l : List Cl) : Prop := l ≠ [] → ∃ ad, A = some ad ∧ ∀ j x, l[j]? = some x → CellC w (ad.add (j * 3)) x
def RdX (w : World) (A : Option Addr) (l : List Ix) : Prop := l ≠ [] → ∃ ad, A = some ad ∧ ∀ j x, l[j]? = some x → CellX w (ad.add (j * 2)) x
theorem CellC.below {w w' : World} {p : Addr} {x : Cl} (h : CellC w p x) (hb : Below w.heap.size w w') : CellC w' p x :=
  have hl := cell_lt h.1
  ⟨(hb.cell hl).trans h.1, (hb.cell (p := ⟨p.block, p.off + 1, none⟩) hl).trans h.2.1, (hb.cell (p := ⟨p.block, p.off + 2, none⟩) hl).trans h.2.2⟩
theorem CellX.below {w w' : World} {p : Addr} {x : Ix} (h : CellX w p x) (hb : Below w.heap.size w w') : CellX w' p x :=
  have hl := cell_lt h.1
  ⟨(hb.cell hl).trans h.1, (hb.cell (p := ⟨p.block, p.off + 1, none⟩) hl).trans h.2⟩
theorem RdC.below {w w' : World} {A : Option Addr} {l : List Cl} (h : RdC w A l) (hb : Below w.heap.size w w') : RdC w' A l := fun hl => by
  obtain ⟨ad, e, hc⟩ := h hl
  exact ⟨ad, e, fun j v hj => (hc j v hj).below hb⟩
theorem RdX.below {w w' : World} {A : Option Addr} {l : List Ix} (h : RdX w A l) (hb : Below w.heap.size w w') : RdX w' A l := fun hl => by
  obtain ⟨ad, e, hc⟩ := h hl
  exact ⟨ad, e, fun j v hj => (hc j v hj).below hb⟩
theorem RdC.at_ {w : World} {A : Option Addr} {l : List Cl} {j : Nat} (h : RdC w A l) (hj : j < l.length) : ∃ ad, A = some ad ∧ CellC w (ad.add (j * 3)) l[j] := by
  obtain ⟨ad, e, hc⟩ := h (by intro e; subst e; simp at hj)
  exact ⟨ad, e, hc j _ (List.getElem?_eq_getElem hj)⟩
theorem RdX.at_ {w : World} {A : Option Addr} {l : List Ix} {j : Nat} (h : RdX w A l) (hj : j < l.length) : ∃ ad, A = some ad ∧ CellX w (ad.add (j * 2)) l[j] := by
  obtain ⟨ad, e, hc⟩ := h (by intro e; subst e; simp at hj)
  exact ⟨ad, e, hc j _ (List.getElem?_eq_getElem hj)⟩

/-- Whether a value may stand in a column. -/
def fitC (c : Cl) (v : Vl) : Int := if mayB v.k v.n v.s = false then 9 else if v.k = 0 ∧ c.nn = true then 86 else if v.k ≠ 0 ∧ v.k ≠ c.k then 81 else 0
end Go.Proofs.YtipcacplphidhaaGreat
