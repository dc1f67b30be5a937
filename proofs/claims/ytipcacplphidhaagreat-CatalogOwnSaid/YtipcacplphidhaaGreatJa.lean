/- Values, their order, lists of values: what the functions of package value answer, and how lists lie in memory. Conditions: none. -/
import Derived.Test.YtipcacplphidhaaGreatProg
import Derived.WalkKit
import Derived.WalkSpells
import Derived.WalkLawsBesides
import Derived.Deep.QuietTactic
import Derived.BigQuiet
import Derived.Lib.Hide
import Derived.Deep.DeepCutAuto
import Derived.Deep.RegionHeld3
import Derived.RegionTactic
import Derived.Deep.RegionWith
import Derived.Deep.MidRow
import Derived.Lib.SliceRun
import Derived.Deep.Light
import Derived.StillTailTactics
import Derived.Maps.AppendAt
import Derived.Lib.QuietBelow
namespace Go.Proofs.YtipcacplphidhaaGreat
open Go.RowKit Go.Sort
set_option linter.unusedSimpArgs false
set_option linter.unusedVariables false

def mayB (k n : Int) (s : ByteArray) : Bool :=
  if k = 0 then decide (n = 0) && s.toList.isEmpty
  else if k = 1 then s.toList.isEmpty
  else if k = 2 then (decide (n = 0) || decide (n = 1)) && s.toList.isEmpty
  else if k = 3 then decide (n = 0) && decide ((s.size : Int) ≤ 64)
  else false
def ordI (a b : Int) : Int := if a < b then -1 else if a = b then 0 else 1
def ordS (s t : ByteArray) : Int := if Op.bytesLess s.toList t.toList = true then -1 else if s.toList = t.toList then 0 else 1
def ordV (k n : Int) (s : ByteArray) (k' n' : Int) (s' : ByteArray) : Int :=
  if k ≠ k' then ordI k k' else if k = 1 ∨ k = 2 then ordI n n' else if k = 3 then ordS s s' else 0
theorem below1 (w : World) (o : Obj) : Below w.heap.size w (w.alloc o) := (Below.refl _ _).alloc (Nat.le_refl _) o
theorem ret_bool {a b : Bool} (h : a = b) : Ending.returned (.bool a) = .returned (.bool b) := by rw [h]
theorem ret_int {k : IntKind} {a b : Int} (h : a = b) : Ending.returned (.int k a) = .returned (.int k b) := by rw [h]
theorem bcell {W w1 : World} (hb : Below W.heap.size W w1) : (∀ b o, b < W.heap.size → w1.cell? ⟨b, o, none⟩ = W.cell? ⟨b, o, none⟩) ∧ (∀ b o, b < W.heap.size → w1.frozen? ⟨b, o, none⟩ = W.frozen? ⟨b, o, none⟩) :=
  ⟨fun b o h => hb.cell (p := ⟨b, o, none⟩) h, fun b o h => hb.frozen (p := ⟨b, o, none⟩) h⟩
theorem below_call {B : Nat} {w W w1 : World} (hb : Below W.heap.size W w1) (hB : B ≤ W.heap.size) (h : Below B w W) : Below B w w1 := h.trans (hb.mono hB)
set_option maxHeartbeats 400000 in
theorem mayBe_any (k n : Int) (s : ByteArray) (w : World) :
    Calls Tryz.prog 99 #[.agg #[.int .i64 k, .int .i64 n, .string s]] w fun e w' => e = .returned (.bool (mayB k n s)) ∧ Below w.heap.size w w' := by
  go_enter Tryz.func99, Tryz.ntmps99
  go_wp2
  all_goals go_ret
  all_goals simp only [beq_iff_eq, beq_eq_false_iff_ne, ne_eq] at *
  all_goals exact ⟨ret_bool (by simp [mayB, *]), below1 _ _⟩
set_option maxHeartbeats 400000 in
theorem cmpS_any (a b : ByteArray) (w : World) :
    Calls Tryz.prog 33 #[.string a, .string b] w fun e w' => e = .returned (.int .i64 (ordS a b)) ∧ w = w' := by
  go_enter Tryz.func33, Tryz.ntmps33
  go_wp2
  all_goals go_ret
  all_goals simp only [Bool.not_eq_true', Bool.not_eq_false', beq_iff_eq, beq_eq_false_iff_ne, ne_eq] at *
  all_goals refine ⟨ret_int (by grind [ordS]), ?_⟩
  all_goals first | rfl | trivial
theorem cell_last (W : World) (cs : Array Value) (t g o : Nat) (hg : g = W.heap.size) : (W.alloc (.cells cs t)).cell? ⟨g, o, none⟩ = cs[o]? := by
  subst hg; exact World.cell?_alloc_mark W cs t (0, 0) o
def inR (x : Int) : Bool := decide (-9223372036854775808 ≤ x) && decide (x ≤ 9223372036854775807)
/-- A value. -/
structure Vl where
  k : Int
  n : Int
  s : ByteArray
  h : inR n = true ∧ s.size ≤ 140737488355328
theorem Vl.ext' {a b : Vl} (h1 : a.k = b.k) (h2 : a.n = b.n) (h3 : a.s = b.s) : a = b := by
  cases a; cases b; cases h1; cases h2; cases h3; rfl
def valC (v : Vl) : List Value := [.int .i64 v.k, .int .i64 v.n, .string v.s]
@[reducible] def Vl.val (v : Vl) : Value := .agg #[.int .i64 v.k, .int .i64 v.n, .string v.s]
def vals (l : List Vl) : List Value := l.flatMap valC
theorem flat_get : ∀ (l : List Vl) (j i : Nat) (v : Vl), l[j]? = some v → i < 3 → (l.flatMap valC)[j * 3 + i]? = (valC v)[i]?
  | [], j, i, v, h, _ => by simp at h
  | a :: l, 0, i, v, h, hi => by
    simp at h; subst h
    rw [List.flatMap_cons, List.getElem?_append_left (by simp [valC]; omega)]
    simp
  | a :: l, j + 1, i, v, h, hi => by
    rw [List.flatMap_cons, List.getElem?_append_right (by simp [valC]; omega)]
    have e : (j + 1) * 3 + i - (valC a).length = j * 3 + i := by simp [valC]; omega
    rw [e]
    exact flat_get l j i v (by simpa using h) hi
theorem flat_len (l : List Vl) : (l.flatMap valC).length = l.length * 3 := by
  induction l with
  | nil => rfl
  | cons a l ih => simp [valC, ih]; omega
theorem vals_append (l m : List Vl) : vals (l ++ m) = vals l ++ vals m := by simp [vals]
theorem vals_len (l : List Vl) : (vals l).length = l.length * 3 := flat_len l
theorem vals_one (l : List Vl) : ∀ u ∈ vals l, u.oneCell' = true := by
  intro u hu
  simp only [vals, List.mem_flatMap] at hu
  obtain ⟨v, _, hv⟩ := hu
  simp [valC] at hv
  rcases hv with rfl | rfl | rfl <;> rfl
/-- The three cells of a value at p. -/
def Cell3 (w : World) (p : Addr) (v : Vl) : Prop := w.cell? p = some (.int .i64 v.k) ∧ w.cell? ⟨p.block, p.off + 1, none⟩ = some (.int .i64 v.n) ∧ w.cell? ⟨p.block, p.off + 2, none⟩ = some (.string v.s)
/-- The slice at A reads as the list l. -/
def RdL (w : World) (A : Option Addr) (l : List Vl) : Prop :=
  l ≠ [] → ∃ ad, A = some ad ∧ ∀ j v, l[j]? = some v → Cell3 w (ad.add (j * 3)) v
theorem add_block (a : Addr) (n : Nat) : (a.add n).block = a.block := by unfold Addr.add; split <;> rfl
theorem add_ne {ad : Addr} {i : Nat} (h : i ≠ 0) : ad.add i = ⟨ad.block, ad.off + i, none⟩ := by unfold Addr.add; rw [if_neg h]
theorem add_two {ad : Addr} (i j : Nat) (h : j ≠ 0) : ad.add (i + j) = ⟨(ad.add i).block, (ad.add i).off + j, none⟩ := by
  rw [add_ne (by omega), add_block]
  have : (ad.add i).off = ad.off + i := by unfold Addr.add; split <;> simp_all
  rw [this, Nat.add_assoc]
theorem cell_lt {w : World} {p : Addr} {v : Value} (h : w.cell? p = some v) : p.block < w.heap.size := World.block_lt_of_cell? w _ h
theorem Cell3.lt {w : World} {p : Addr} {v : Vl} (h : Cell3 w p v) : p.block < w.heap.size := cell_lt h.1
theorem Cell3.below {w w' : World} {p : Addr} {v : Vl} (h : Cell3 w p v) (hb : Below w.heap.size w w') : Cell3 w' p v :=
  ⟨(hb.cell h.lt).trans h.1, (hb.cell (p := ⟨p.block, p.off + 1, none⟩) h.lt).trans h.2.1, (hb.cell (p := ⟨p.block, p.off + 2, none⟩) h.lt).trans h.2.2⟩
theorem RdL.below {w w' : World} {A : Option Addr} {l : List Vl} (h : RdL w A l) (hb : Below w.heap.size w w') : RdL w' A l := fun hl => by
  obtain ⟨ad, e, hc⟩ := h hl
  exact ⟨ad, e, fun j v hj => (hc j v hj).below hb⟩
theorem RdL.at_ {w : World} {A : Option Addr} {l : List Vl} {j : Nat} (h : RdL w A l) (hj : j < l.length) : ∃ ad, A = some ad ∧ Cell3 w (ad.add (j * 3)) l[j] := by
  obtain ⟨ad, e, hc⟩ := h (by intro e; subst e; simp at hj)
  exact ⟨ad, e, hc j _ (List.getElem?_eq_getElem hj)⟩
theorem RdL.news {w : World} {ad : Addr} {l : List Vl} (h : RdL w (some ad) l) : ∀ i u, (vals l)[i]? = some u → w.cell? (ad.add i) = some u := by
  intro i u hu
  have hi : i < l.length * 3 := by rw [← vals_len]; exact (List.getElem?_eq_some_iff.1 hu).1
  obtain ⟨ad', e, hc⟩ := h (by intro e; subst e; simp at hi)
  injection e with e
  subst e
  obtain ⟨j, r, rfl, hr⟩ : ∃ j r, i = j * 3 + r ∧ r < 3 := ⟨i / 3, i % 3, by omega, by omega⟩
  obtain ⟨v, hv⟩ : ∃ v, l[j]? = some v := ⟨_, List.getElem?_eq_getElem (show j < l.length by omega)⟩
  obtain ⟨c0, c1, c2⟩ := hc _ _ hv
  have hf := flat_get l j r _ hv hr
  have hu' : (valC v)[r]? = some u := hf.symm.trans hu
  rcases (show r = 0 ∨ r = 1 ∨ r = 2 by omega) with rfl | rfl | rfl
  · simp [valC] at hu'
    subst hu'
    exact c0
  · simp [valC] at hu'
    subst hu'
    rw [add_two _ _ (by omega)]
    exact c1
  · simp [valC] at hu'
    subst hu'
    rw [add_two _ _ (by omega)]
    exact c2
/-- The slice's head. -/
def Hdr (A : Option Addr) (n c : Nat) : Prop := (A = none → n = 0 ∧ c = 0) ∧ n ≤ c ∧ n ≤ 9223372036854775807 ∧ n * 32 ≤ 140737488355328
/-- The row of block g holds the list m, and may be written. -/
structure Row (w : World) (g : Nat) (m : List Vl) : Prop where
  cells : w.rangeAt g 0 (vals m)
  there : w.there g 0 (m.length * 3)
theorem add_lit (g o i : Nat) : (⟨g, o, none⟩ : Addr).add i = ⟨g, o + i, none⟩ := by unfold Addr.add; split <;> simp_all
theorem Row.rd {w : World} {g : Nat} {m : List Vl} (h : Row w g m) : RdL w (some ⟨g, 0, none⟩) m := fun _ => ⟨_, rfl, fun j v hj => by
  rw [add_lit]
  refine ⟨?_, ?_, ?_⟩
  · exact h.cells (j * 3 + 0) _ (flat_get m j 0 v hj (by omega))
  · have := h.cells (j * 3 + 1) _ (flat_get m j 1 v hj (by omega))
    rwa [← Nat.add_assoc] at this
  · have := h.cells (j * 3 + 2) _ (flat_get m j 2 v hj (by omega))
    rwa [← Nat.add_assoc] at this⟩
theorem Row.lt {w : World} {g : Nat} {m : List Vl} (h : Row w g m) (hm : 0 < m.length) : g < w.heap.size := by
  obtain ⟨v, hv⟩ := Option.isSome_iff_exists.1 (h.there 0 (by omega)).1
  exact cell_lt hv
theorem Row.below {w w' : World} {g : Nat} {m : List Vl} (h : Row w g m) (hb : Below w.heap.size w w') : Row w' g m := by
  by_cases hm : 0 < m.length
  · have hg := h.lt hm
    refine ⟨fun j v hj => (hb.cell (p := ⟨g, 0 + j, none⟩) hg).trans (h.cells j v hj), fun j hj => ?_⟩
    have h1 := h.there j hj
    rw [← hb.cell (p := ⟨g, 0 + j, none⟩) hg, ← hb.frozen (p := ⟨g, 0 + j, none⟩) hg] at h1
    exact h1
  · have e : m = [] := List.eq_nil_of_length_eq_zero (by omega)
    subst e
    exact ⟨fun j v hj => by simp [vals] at hj, fun j hj => by simp at hj⟩
theorem Row.at_ {w : World} {g : Nat} {m : List Vl} {j : Nat} (h : Row w g m) (hj : j < m.length) :
    w.cell? ⟨g, j * 3, none⟩ = some (.int .i64 m[j].k) ∧ w.cell? ⟨g, j * 3 + 1, none⟩ = some (.int .i64 m[j].n) ∧ w.cell? ⟨g, j * 3 + 2, none⟩ = some (.string m[j].s) ∧
    w.frozen? ⟨g, j * 3, none⟩ = false ∧ w.frozen? ⟨g, j * 3 + 1, none⟩ = false ∧ w.frozen? ⟨g, j * 3 + 2, none⟩ = false := by
  obtain ⟨_, e, hc⟩ := h.rd (by intro e; subst e; simp at hj)
  injection e with e
  subst e
  have h1 := hc j _ (List.getElem?_eq_getElem hj)
  rw [add_lit, Nat.zero_add] at h1
  have t0 := (h.there (j * 3) (by omega)).2
  have t1 := (h.there (j * 3 + 1) (by omega)).2
  have t2 := (h.there (j * 3 + 2) (by omega)).2
  rw [Nat.zero_add] at t0 t1 t2
  exact ⟨h1.1, h1.2.1, h1.2.2, t0, t1, t2⟩
theorem vals_set (m : List Vl) (i : Nat) (v : Vl) (hi : i < m.length) : ∀ j, (vals (m.set i v))[j]? = if i * 3 ≤ j ∧ j < i * 3 + 3 then (valC v)[j - i * 3]? else (vals m)[j]? := by
  intro j
  by_cases hj : j < m.length * 3
  · obtain ⟨q, r, rfl, hr⟩ : ∃ q r, j = q * 3 + r ∧ r < 3 := ⟨j / 3, j % 3, by omega, by omega⟩
    have hq : q < m.length := by omega
    by_cases hqi : q = i
    · subst hqi
      rw [if_pos (by omega)]
      have := flat_get (m.set q v) q r v (by simp [hq]) hr
      have e : q * 3 + r - q * 3 = r := by omega
      rw [e]
      exact this
    · rw [if_neg (by omega)]
      have h1 := flat_get (m.set i v) q r m[q] (by rw [List.getElem?_set_ne (by omega)]; exact List.getElem?_eq_getElem hq) hr
      have h2 := flat_get m q r m[q] (List.getElem?_eq_getElem hq) hr
      exact h1.trans h2.symm
  · rw [if_neg (by omega), List.getElem?_eq_none (by rw [vals_len]; simp; omega), List.getElem?_eq_none (by rw [vals_len]; omega)]
theorem Row.set {w : World} {g i : Nat} {m : List Vl} (h : Row w g m) (v : Vl) (hi : i < m.length) : Row (w.setCells g (i * 3) (valC v)) g (m.set i v) := by
  refine ⟨fun j u hj => ?_, ?_⟩
  · rw [vals_set m i v hi] at hj
    split at hj
    · rename_i hr
      have hs := World.cell?_setCells_in g (valC v) (i * 3) w (fun t ht => by
        have := (h.there (i * 3 + t) (by simp [valC] at ht; omega)).1
        rwa [Nat.zero_add] at this) (j - i * 3) (by simp [valC]; omega)
      have e : i * 3 + (j - i * 3) = 0 + j := by omega
      rw [e] at hs
      rw [hs, ← hj, List.getElem?_eq_getElem]
    · rename_i hr
      rw [World.cell?_setCells_out g (valC v) (i * 3) w ⟨g, 0 + j, none⟩ (fun _ _ => by simp [valC]; omega)]
      exact h.cells j u hj
  · rw [List.length_set]
    exact World.there_setCells h.there _ _ _
theorem below_cells {B g : Nat} (hB : B ≤ g) : ∀ (vs : List Value) (o : Nat) {a w : World}, Below B a w → Below B a (w.setCells g o vs)
  | [], _, _, _, h => h
  | v :: r, o, a, w, h => below_cells hB r (o + 1) (h.setCell (by omega) v)
theorem box_after {wr w2 : World} {a b c : Value} {t : TypeId} (hb : Below (wr.alloc (.cells #[a, b, c] t)).heap.size (wr.alloc (.cells #[a, b, c] t)) w2) :
    w2.cell? ⟨wr.heap.size, 0, none⟩ = some a ∧ w2.cell? ⟨wr.heap.size, 1, none⟩ = some b ∧ w2.cell? ⟨wr.heap.size, 2, none⟩ = some c ∧ Below wr.heap.size wr w2 ∧ wr.heap.size < w2.heap.size := by
  have hz := hb.size
  simp only [World.size_alloc] at hz
  refine ⟨?_, ?_, ?_, (below1 _ _).trans (hb.mono (by simp)), by omega⟩
  · rw [hb.cell (p := ⟨wr.heap.size, 0, none⟩) (by simp), cell_last _ _ _ _ _ rfl]; rfl
  · rw [hb.cell (p := ⟨wr.heap.size, 1, none⟩) (by simp), cell_last _ _ _ _ _ rfl]; rfl
  · rw [hb.cell (p := ⟨wr.heap.size, 2, none⟩) (by simp), cell_last _ _ _ _ _ rfl]; rfl
theorem less_iff : ∀ (x y : List UInt8), Op.bytesLess x y = true ↔ x < y
  | [], [] => by simp [Op.bytesLess]
  | _ :: _, [] => by simp [Op.bytesLess]
  | [], _ :: _ => by simp [Op.bytesLess]
  | a :: x, b :: y => by
    have h := less_iff x y
    rw [Op.bytesLess]
    simp only [List.cons_lt_cons_iff, ← h]
    by_cases h1 : a < b <;> by_cases h2 : a = b <;> simp [h1, h2]
theorem less_trans {a b c : List UInt8} (h1 : Op.bytesLess a b = true) (h2 : Op.bytesLess b c = true) : Op.bytesLess a c = true := by
  rw [less_iff] at *; exact List.lt_trans h1 h2
theorem less_irrefl (a : List UInt8) : Op.bytesLess a a = false := by
  rw [Bool.eq_false_iff]; intro h; rw [less_iff] at h; exact List.lt_irrefl a h
theorem less_tri {a b : List UInt8} (h1 : Op.bytesLess a b = false) (h2 : Op.bytesLess b a = false) : a = b := by
  rw [Bool.eq_false_iff, ne_eq, less_iff, List.not_lt] at h1 h2
  exact List.le_antisymm h2 h1
theorem ordS_neg (s t : ByteArray) : ordS s t = -ordS t s := by
  have h1 := less_irrefl s.toList
  have h2 := @less_tri s.toList t.toList
  have h3 := @less_trans s.toList t.toList s.toList
  grind [ordS]
theorem ordS_trans (s t u : ByteArray) (h1 : ordS s t ≤ 0) (h2 : ordS t u ≤ 0) : ordS s u ≤ 0 ∧ (ordS s t < 0 ∨ ordS t u < 0 → ordS s u < 0) ∧ (ordS s t = 0 ∧ ordS t u = 0 → ordS s u = 0) := by
  have a1 := @less_trans s.toList t.toList u.toList
  have a2 := less_irrefl s.toList
  grind [ordS]
theorem ordI_zero (a b : Int) : ordI a b = 0 ↔ a = b := by unfold ordI; grind
theorem ordI_neg (a b : Int) : ordI a b = -ordI b a := by unfold ordI; grind
theorem ordI_trans (a b c : Int) (h1 : ordI a b ≤ 0) (h2 : ordI b c ≤ 0) : ordI a c ≤ 0 ∧ (ordI a b < 0 ∨ ordI b c < 0 → ordI a c < 0) ∧ (ordI a b = 0 ∧ ordI b c = 0 → ordI a c = 0) := by unfold ordI at *; grind
theorem ordV_neg (k n : Int) (s : ByteArray) (k' n' : Int) (s' : ByteArray) : ordV k n s k' n' s' = -ordV k' n' s' k n s := by
  have h1 := ordI_neg k k'
  have h2 := ordI_neg n n'
  have h3 := ordS_neg s s'
  grind [ordV]
theorem ordV_trans2 (k n : Int) (s : ByteArray) (k' n' : Int) (s' : ByteArray) (k2 n2 : Int) (s2 : ByteArray) (h1 : ordV k n s k' n' s' ≤ 0) (h2 : ordV k' n' s' k2 n2 s2 ≤ 0) :
    ordV k n s k2 n2 s2 ≤ 0 ∧ ((ordV k n s k' n' s' < 0 ∨ ordV k' n' s' k2 n2 s2 < 0) ↔ ordV k n s k2 n2 s2 < 0) := by
  have a1 := ordI_trans k k' k2
  have a2 := ordI_trans n n' n2
  have a3 := ordS_trans s s' s2
  have z1 := ordI_zero k k'
  have z2 := ordI_zero k' k2
  have z3 := ordI_zero k k2
  grind [ordV]
def ordL (a b : Vl) : Int := ordV a.k a.n a.s b.k b.n b.s
theorem ordL_neg (a b : Vl) : ordL a b = -ordL b a := ordV_neg _ _ _ _ _ _
theorem ordL_lt {a b c : Vl} (h1 : ordL a b < 0) (h2 : ordL b c < 0) : ordL a c < 0 :=
  (ordV_trans2 a.k a.n a.s b.k b.n b.s c.k c.n c.s (Int.le_of_lt h1) (Int.le_of_lt h2)).2.1 (.inl h1)
theorem ordL_self (a : Vl) : ordL a a = 0 := by have := ordL_neg a a; omega
theorem add0 (a : Addr) : a.add 0 = a := by unfold Addr.add; simp
theorem Row.one {w : World} {g : Nat} {v : Vl} (h : Row w g [v]) :
    w.cell? ⟨g, 0, none⟩ = some (.int .i64 v.k) ∧ w.cell? ⟨g, 1, none⟩ = some (.int .i64 v.n) ∧ w.cell? ⟨g, 2, none⟩ = some (.string v.s) ∧
    w.frozen? ⟨g, 0, none⟩ = false ∧ w.frozen? ⟨g, 1, none⟩ = false ∧ w.frozen? ⟨g, 2, none⟩ = false := h.at_ (j := 0) (by simp)
theorem Row.new (w : World) (v : Vl) (t : TypeId) (g : Nat) (hg : g = w.heap.size) : Row (w.alloc (.cells #[.int .i64 v.k, .int .i64 v.n, .string v.s] t)) g [v] := by
  subst hg
  refine ⟨fun j u hj => ?_, fun j hj => ?_⟩
  · rw [Nat.zero_add, cell_last _ _ _ _ _ rfl, ← hj]
    simp [vals, valC]
  · have hj' : j < 3 := by simpa using hj
    refine ⟨?_, ?_⟩
    · rw [Nat.zero_add, cell_last _ _ _ _ _ rfl]
      simp [hj']
    · exact World.frozen?_alloc_new w _ t _
theorem Row.other {w : World} {g g' : Nat} {m : List Vl} (h : Row w g m) (vs : List Value) (o : Nat) (hg : g ≠ g') : Row (w.setCells g' o vs) g m :=
  ⟨fun j u hj => by rw [World.cell?_setCells_out g' vs o w _ (fun e _ => absurd e hg)]; exact h.cells j u hj, World.there_setCells h.there _ _ _⟩
def zeroV : Vl := ⟨0, 0, ⟨#[]⟩, by decide +kernel, by decide⟩
theorem ba_iff {x y : ByteArray} : x.toList = y.toList ↔ x = y := by
  rw [ByteArray.toList_eq, ByteArray.toList_eq]
  exact ⟨fun h => ByteArray.ext (Array.toList_inj.1 h), fun h => by rw [h]⟩
def eqV (a b : Vl) : Bool := (a.k == b.k) && ((a.n == b.n) && (a.s.toList == b.s.toList))
theorem stoodV : Tryz.prog.stoodInHeld 60 = false := by kernel_rfl
theorem underV : Tryz.prog.underlying 60 = some (.struct (Tryz.prog.fieldsOf 60)) := by simp only [Program.fieldsOf, Tryz.underlying60]
theorem guardV : Tryz.prog.eqGuardType Tryz.prog.depth 60 = false := by kernel_rfl
theorem run_eqV (a b : Vl) (w : World) : (binOp .eql 60 (.agg #[.int .i64 a.k, .int .i64 a.n, .string a.s]) (.agg #[.int .i64 b.k, .int .i64 b.n, .string b.s])).run Tryz.prog w = .ok (.bool (eqV a b)) w := by
  rw [run_eql_struct, run_equalIn_agg w 9999 60 _ _ underV stoodV]
  simp [go_sem, eqV, Tryz.underlying60]
  by_cases h1 : a.k = b.k <;> by_cases h2 : a.n = b.n <;> by_cases h3 : a.s.toList = b.s.toList <;> simp [h1, h2, h3]
theorem eqV_iff {a b : Vl} : eqV a b = true ↔ a = b := by
  obtain ⟨a0, a1, a2, _⟩ := a
  obtain ⟨b0, b1, b2, _⟩ := b
  simp [eqV, ba_iff]
set_option maxHeartbeats 400000 in
theorem vCheck_any (v : Vl) (w : World) :
    Calls Tryz.prog 95 #[v.val] w fun e w' => e = .returned (.int .i64 (if mayB v.k v.n v.s = true then 0 else 9)) ∧ Below w.heap.size w w' := by
  have hm := fun w => mayBe_any v.k v.n v.s w
  generalize mayB v.k v.n v.s = b at hm ⊢
  cases b
  all_goals
    go_enter Tryz.func95, Tryz.ntmps95
    go_wp2_with (go_at_call 99; refine (hm _).mono ?_; rintro e w1 ⟨rfl, hb⟩)
    go_ret
    exact ⟨rfl, (below1 _ _).trans (hb.mono (by simp))⟩
end Go.Proofs.YtipcacplphidhaaGreat
