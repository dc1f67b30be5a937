/- How lists of rows lie in memory; a row's key, and where a key stands in a list of rows that is ordered: the walks of keyOf, find and slices.BinarySearchFunc. Conditions: rows that have the key's column. -/
import Derived.Test.YtjbebhhoakmceaaJd
namespace Go.Proofs.Ytjbebhhoakmceaa
open Go.RowKit Go.Sort
set_option linter.unusedSimpArgs false
set_option linter.unusedVariables false

/-- v is a slice that reads as the row r. -/
def Rw (w : World) (v : Value) (r : List Vl) : Prop := ∃ A c, v = .slice A r.length c ∧ RdL w A r ∧ (A = none → r.length = 0) ∧ r.length * 32 ≤ 140737488355328
/-- The slice at A reads as the rows ls. -/
def RdR (w : World) (A : Option Addr) (ls : List (List Vl)) : Prop := ls ≠ [] → ∃ ad, A = some ad ∧ ∀ j r, ls[j]? = some r → ∃ v, w.cell? (ad.add j) = some v ∧ Rw w v r
theorem Rw.below {w w' : World} {v : Value} {r : List Vl} (h : Rw w v r) (hb : Below w.heap.size w w') : Rw w' v r := by
  obtain ⟨A, c, e, h1, h2, h3⟩ := h
  exact ⟨A, c, e, h1.below hb, h2, h3⟩
theorem RdR.below {w w' : World} {A : Option Addr} {ls : List (List Vl)} (h : RdR w A ls) (hb : Below w.heap.size w w') : RdR w' A ls := fun hl => by
  obtain ⟨ad, e, hc⟩ := h hl
  exact ⟨ad, e, fun j r hj => by
    obtain ⟨v, h1, h2⟩ := hc j r hj
    exact ⟨v, (hb.cell (cell_lt h1)).trans h1, h2.below hb⟩⟩
theorem RdR.at_ {w : World} {A : Option Addr} {ls : List (List Vl)} {j : Nat} (h : RdR w A ls) (hj : j < ls.length) :
    ∃ ad B c, A = some ad ∧ w.cell? (ad.add j) = some (.slice B ls[j].length c) ∧ RdL w B ls[j] ∧ (B = none → ls[j].length = 0) ∧ ls[j].length * 32 ≤ 140737488355328 := by
  obtain ⟨ad, e, hc⟩ := h (by intro e; subst e; simp at hj)
  obtain ⟨v, h1, B, c, rfl, h2, h3, h4⟩ := hc j _ (List.getElem?_eq_getElem hj)
  exact ⟨ad, B, c, e, h1, h2, h3, h4⟩

set_option maxHeartbeats 1000000 in
theorem keyOf_any (m : ByteArray) (cA iA : Option Addr) (cn cc ic in_ kk : Nat) (lv : Value) (A : Option Addr) (n c : Nat) (r : List Vl) (w : World) (hl : n = r.length) (hr : RdL w A r) (hk : kk < r.length) (hn : r.length * 32 ≤ 140737488355328) :
    Calls Try.prog 29 #[.agg #[.string m, .slice cA cn cc, .int .i64 kk, .slice iA in_ ic, lv], .slice A n c] w fun e w' => e = .returned (keyAt kk r).val ∧ Below w.heap.size w w' := by
  subst hl
  obtain ⟨ad, rfl, c0, c1, c2⟩ := hr.at_ hk
  have hb0 := cell_lt c0
  have hb1 := cell_lt c0
  rw [add_block] at hb0
  have e : keyAt kk r = r[kk] := by unfold keyAt; rw [List.getD_eq_getElem?_getD, List.getElem?_eq_getElem hk]; rfl
  rw [e]
  generalize r[kk] = v at c0 c1 c2 ⊢
  clear hr e
  have hk' : (kk : Int) < (r.length : Int) := by omega
  have hs : r.length ≤ 9223372036854775807 := by omega
  go_enter Try.func29, Try.ntmps29
  go_wp2
  exact bodyPost_ret (v := v.val) (by simp [results, Try.results29, go_sem]) rfl ⟨rfl, by repeat (first | exact Below.refl _ _ | (refine Below.setCell ?_ (by first | omega | (simp; done) | (simp; omega)) _) | (refine Below.alloc ?_ (by first | omega | (simp; done) | (simp; omega)) _))⟩

/-- The five cells of a table with its rows, at block b. -/
structure Box5 (w : World) (b : Nat) (m : ByteArray) (cA : Option Addr) (cn cc : Nat) (k : Int) (iA : Option Addr) (in_ ic : Nat) (lv : Value) : Prop where
  c0 : w.cell? ⟨b, 0, none⟩ = some (.string m)
  c1 : w.cell? ⟨b, 1, none⟩ = some (.slice cA cn cc)
  c2 : w.cell? ⟨b, 2, none⟩ = some (.int .i64 k)
  c3 : w.cell? ⟨b, 3, none⟩ = some (.slice iA in_ ic)
  c4 : w.cell? ⟨b, 4, none⟩ = some lv
theorem Box5.below {w w' : World} {b : Nat} {m : ByteArray} {cA : Option Addr} {cn cc : Nat} {k : Int} {iA : Option Addr} {in_ ic : Nat} {lv : Value} (h : Box5 w b m cA cn cc k iA in_ ic lv) (hb : Below w.heap.size w w') : Box5 w' b m cA cn cc k iA in_ ic lv := by
  have hl := cell_lt h.c0
  exact ⟨(hb.cell (p := ⟨b, 0, none⟩) hl).trans h.c0, (hb.cell (p := ⟨b, 1, none⟩) hl).trans h.c1, (hb.cell (p := ⟨b, 2, none⟩) hl).trans h.c2, (hb.cell (p := ⟨b, 3, none⟩) hl).trans h.c3, (hb.cell (p := ⟨b, 4, none⟩) hl).trans h.c4⟩
theorem Box5.lt {w : World} {b : Nat} {m : ByteArray} {cA : Option Addr} {cn cc : Nat} {k : Int} {iA : Option Addr} {in_ ic : Nat} {lv : Value} (h : Box5 w b m cA cn cc k iA in_ ic lv) : b < w.heap.size := cell_lt h.c0

set_option maxHeartbeats 1000000 in
theorem find1_any (b : Nat) (m : ByteArray) (cA iA : Option Addr) (cn cc ic in_ kk : Nat) (lv : Value) (A : Option Addr) (n c : Nat) (r : List Vl) (v : Vl) (w : World) (hx : Box5 w b m cA cn cc kk iA in_ ic lv) (hl : n = r.length) (hr : RdL w A r) (hk : kk < r.length) (hn : r.length * 32 ≤ 140737488355328) :
    Calls Try.prog 34 #[.slice A n c, v.val, .pointer (some ⟨b, 0, none⟩)] w fun e w' => e = .returned (.int .i64 (ordL (keyAt kk r) v)) ∧ Below w.heap.size w w' := by
  have hc := fun W (h : Below w.heap.size w W) => keyOf_any m cA iA cn cc ic in_ kk lv A n c r W hl (hr.below h) hk hn
  have ho := fun W => order_V (keyAt kk r) v W
  generalize ordL (keyAt kk r) v = O at ho ⊢
  generalize keyAt kk r = K at hc ho
  obtain ⟨c0, c1, c2, c3, c4⟩ := hx
  have hb0 := cell_lt c0
  clear hl hr hk hn
  go_enter Try.func34, Try.ntmps34
  go_wp2_with fail
  have hR := (Row.new w v 39 w.heap.size rfl).one
  have hB := below1 w (.cells #[.int .i64 v.k, .int .i64 v.n, .string v.s] 39)
  have d0 := (hB.cell (p := ⟨b, 0, none⟩) hb0).trans c0
  have d1 := (hB.cell (p := ⟨b, 1, none⟩) hb0).trans c1
  have d2 := (hB.cell (p := ⟨b, 2, none⟩) hb0).trans c2
  have d3 := (hB.cell (p := ⟨b, 3, none⟩) hb0).trans c3
  have d4 := (hB.cell (p := ⟨b, 4, none⟩) hb0).trans c4
  obtain ⟨v0, v1, v2, _, _, _⟩ := hR
  have hc' := fun W (h : Below (w.alloc (.cells #[.int .i64 v.k, .int .i64 v.n, .string v.s] 39)).heap.size (w.alloc (.cells #[.int .i64 v.k, .int .i64 v.n, .string v.s] 39)) W) => hc W (hB.trans (h.mono hB.size))
  have HC := Lib.hid hc'
  have HB := Lib.hid hB
  clear hc hc' hB c0 c1 c2 c3 c4
  generalize w.alloc (.cells #[.int .i64 v.k, .int .i64 v.n, .string v.s] 39) = W at d0 d1 d2 d3 d4 v0 v1 v2 HC HB ⊢
  have e0 := cell_regrown d0
  have e1 := cell_regrown d1
  have e2 := cell_regrown d2
  have e3 := cell_regrown d3
  have e4 := cell_regrown d4
  have u0 := cell_regrown v0
  have u1 := cell_regrown v1
  have u2 := cell_regrown v2
  clear d0 d1 d2 d3 d4 v0 v1 v2
  refine wp_region_quiet_below (by kernel_rfl) (by kernel_rfl) ?_
  repeat (go_big_quiet_step (first | (with_reducible exact Calls.regrown_of (HC.out _ (below_regrown _ _ _))) | (with_reducible exact Calls.regrown_of (ho _))))
  refine wpQuiet_nil ?_
  intro w5 hw5
  obtain ⟨pp, rfl⟩ := hw5
  go_wp2
  go_ret
  exact ⟨rfl, HB.out.trans ((below_regrown W _ _).mono HB.out.size)⟩
end Go.Proofs.Ytjbebhhoakmceaa
