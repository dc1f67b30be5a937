/- Values, their order, rows and lists of rows in memory; slices.Clone, strings.Clone, rows held against themselves: the walks. Conditions: lists that are read in memory. -/
import Derived.Test.YtddeaiciochggaaSh
import Derived.Test.YtddeaiciochggaaProg
import Derived.BigQuiet
import Derived.Deep.DeepCutAuto
import Derived.Deep.Light
import Derived.Deep.MidRow
import Derived.Deep.QuietTactic
import Derived.Deep.RegionHeld3
import Derived.Deep.RegionLaw
import Derived.Deep.RegionWith
import Derived.Laws.Externs
import Derived.Laws.IdiomCopy
import Derived.Laws.NewBlocks
import Derived.Lib.AppendZerosOnto
import Derived.Lib.Hide
import Derived.Lib.Overlaps
import Derived.Lib.OwnKind
import Derived.Lib.QuietBelow
import Derived.Lib.SliceRun
import Derived.Lib.SmallJoins
import Derived.Maps.AppendAt
import Derived.RegionTactic
import Derived.Shelf.RegionOpenPlain
import Derived.StillTailTactics
import Derived.WalkKit
import Derived.WalkLawsBesides
import Derived.WalkSpells
namespace Go.Proofs.Ytddeaiciochggaa
open Go.RowKit Go.Sort
set_option linter.unusedSimpArgs false
set_option linter.unusedVariables false

def ordI (a b : Int) : Int := if a < b then -1 else if a = b then 0 else 1
def ordS (s t : ByteArray) : Int := if Op.bytesLess s.toList t.toList = true then -1 else if s.toList = t.toList then 0 else 1
def ordV (k n : Int) (s : ByteArray) (k' n' : Int) (s' : ByteArray) : Int :=
  if k ≠ k' then ordI k k' else if k = 1 ∨ k = 2 then ordI n n' else if k = 3 then ordS s s' else 0
theorem below1 (w : World) (o : Obj) : Below w.heap.size w (w.alloc o) := (Below.refl _ _).alloc (Nat.le_refl _) o
theorem ret_int {k : IntKind} {a b : Int} (h : a = b) : Ending.returned (.int k a) = .returned (.int k b) := by rw [h]
theorem bcell {W w1 : World} (hb : Below W.heap.size W w1) : (∀ b o, b < W.heap.size → w1.cell? ⟨b, o, none⟩ = W.cell? ⟨b, o, none⟩) ∧ (∀ b o, b < W.heap.size → w1.frozen? ⟨b, o, none⟩ = W.frozen? ⟨b, o, none⟩) :=
  ⟨fun b o h => hb.cell (p := ⟨b, o, none⟩) h, fun b o h => hb.frozen (p := ⟨b, o, none⟩) h⟩
set_option maxHeartbeats 400000 in
theorem cmpI_any (a b : Int) (w : World) :
    Calls Try.prog 80 #[.int .i64 a, .int .i64 b] w fun e w' => e = .returned (.int .i64 (ordI a b)) ∧ w = w' := by
  go_enter Try.func80, Try.ntmps80
  go_wp2
  all_goals go_ret
  all_goals exact ⟨ret_int (by unfold ordI; first | rw [if_pos (by omega)] | rw [if_neg (by omega), if_pos (by omega)] | rw [if_neg (by omega), if_neg (by omega)]), rfl⟩
set_option maxHeartbeats 400000 in
theorem cmpS_any (a b : ByteArray) (w : World) :
    Calls Try.prog 47 #[.string a, .string b] w fun e w' => e = .returned (.int .i64 (ordS a b)) ∧ w = w' := by
  go_enter Try.func47, Try.ntmps47
  go_wp2
  all_goals go_ret
  all_goals simp only [Bool.not_eq_true', Bool.not_eq_false', beq_iff_eq, beq_eq_false_iff_ne, ne_eq] at *
  all_goals refine ⟨ret_int (by grind [ordS]), ?_⟩
  all_goals first | rfl | trivial
set_option maxHeartbeats 400000 in
theorem order_any (k n : Int) (s : ByteArray) (k' n' : Int) (s' : ByteArray) (w : World) :
    Calls Try.prog 64 #[.agg #[.int .i64 k, .int .i64 n, .string s], .agg #[.int .i64 k', .int .i64 n', .string s']] w fun e w' => e = .returned (.int .i64 (ordV k n s k' n' s')) ∧ Below w.heap.size w w' := by
  go_enter Try.func64, Try.ntmps64
  go_wp2_with (first | (go_at_call 80; refine (cmpI_any _ _ _).mono ?_; rintro e w1 ⟨rfl, rfl⟩) | (go_at_call 47; refine (cmpS_any _ _ _).mono ?_; rintro e w1 ⟨rfl, rfl⟩))
  all_goals go_ret
  all_goals simp only [bne_iff_ne, bne_eq_false_iff_eq, beq_iff_eq, beq_eq_false_iff_ne, ne_eq] at *
  all_goals exact ⟨ret_int (by grind [ordV]), (below1 _ _).alloc (by simp) _⟩
theorem cell_last (W : World) (cs : Array Value) (t g o : Nat) (hg : g = W.heap.size) : (W.alloc (.cells cs t)).cell? ⟨g, o, none⟩ = cs[o]? := by
  subst hg; exact World.cell?_alloc_mark W cs t (0, 0) o
def inR (x : Int) : Bool := decide (-9223372036854775808 ≤ x) && decide (x ≤ 9223372036854775807)
/-- A value. -/
structure Vl where
  k : Int
  n : Int
  s : ByteArray
  h : inR n = true ∧ s.size ≤ 140737488355328
def valC (v : Vl) : List Value := [.int .i64 v.k, .int .i64 v.n, .string v.s]
def vals (l : List Vl) : List Value := l.flatMap valC
theorem flat_get : ∀ (l : List Vl) (j i : Nat) (v : Vl), l[j]? = some v → i < 3 → (l.flatMap valC)[j * 3 + i]? = (valC v)[i]?
  | [], j, i, v, h, _ => by simp at h
  | a :: l, 0, i, v, h, hi => by
    simp at h; subst h
    rw [List.flatMap_cons, List.getElem?_append_left (by simp [valC]; omega)]
    simp
  | a :: l, j + 1, i, v, h, hi => by
    rw [List.flatMap_cons, List.getElem?_append_right (by simp [valC]; omega)]
    have e : (j + 1) * 3 + i - (valC a).length = j * 3 + i := by simp [valC]; omega
    rw [e]
    exact flat_get l j i v (by simpa using h) hi
theorem flat_len (l : List Vl) : (l.flatMap valC).length = l.length * 3 := by
  induction l with
  | nil => rfl
  | cons a l ih => simp [valC, ih]; omega
theorem vals_len (l : List Vl) : (vals l).length = l.length * 3 := flat_len l
theorem vals_one (l : List Vl) : ∀ u ∈ vals l, u.oneCell' = true := by
  intro u hu
  simp only [vals, List.mem_flatMap] at hu
  obtain ⟨v, _, hv⟩ := hu
  simp [valC] at hv
  rcases hv with rfl | rfl | rfl <;> rfl
/-- The three cells of a value at p. -/
def Cell3 (w : World) (p : Addr) (v : Vl) : Prop := w.cell? p = some (.int .i64 v.k) ∧ w.cell? ⟨p.block, p.off + 1, none⟩ = some (.int .i64 v.n) ∧ w.cell? ⟨p.block, p.off + 2, none⟩ = some (.string v.s)
/-- The slice at A reads as the list l. -/
def RdL (w : World) (A : Option Addr) (l : List Vl) : Prop :=
  l ≠ [] → ∃ ad, A = some ad ∧ ∀ j v, l[j]? = some v → Cell3 w (ad.add (j * 3)) v
theorem add_block (a : Addr) (n : Nat) : (a.add n).block = a.block := by unfold Addr.add; split <;> rfl
theorem add0 (a : Addr) : a.add 0 = a := by unfold Addr.add; simp
theorem add_ne {ad : Addr} {i : Nat} (h : i ≠ 0) : ad.add i = ⟨ad.block, ad.off + i, none⟩ := by unfold Addr.add; rw [if_neg h]
theorem add_two {ad : Addr} (i j : Nat) (h : j ≠ 0) : ad.add (i + j) = ⟨(ad.add i).block, (ad.add i).off + j, none⟩ := by
  rw [add_ne (by omega), add_block]
  have : (ad.add i).off = ad.off + i := by unfold Addr.add; split <;> simp_all
  rw [this, Nat.add_assoc]
theorem cell_lt {w : World} {p : Addr} {v : Value} (h : w.cell? p = some v) : p.block < w.heap.size := World.block_lt_of_cell? w _ h
theorem Cell3.lt {w : World} {p : Addr} {v : Vl} (h : Cell3 w p v) : p.block < w.heap.size := cell_lt h.1
theorem Cell3.below {w w' : World} {p : Addr} {v : Vl} (h : Cell3 w p v) (hb : Below w.heap.size w w') : Cell3 w' p v :=
  ⟨(hb.cell h.lt).trans h.1, (hb.cell (p := ⟨p.block, p.off + 1, none⟩) h.lt).trans h.2.1, (hb.cell (p := ⟨p.block, p.off + 2, none⟩) h.lt).trans h.2.2⟩
theorem RdL.below {w w' : World} {A : Option Addr} {l : List Vl} (h : RdL w A l) (hb : Below w.heap.size w w') : RdL w' A l := fun hl => by
  obtain ⟨ad, e, hc⟩ := h hl
  exact ⟨ad, e, fun j v hj => (hc j v hj).below hb⟩
theorem RdL.at_ {w : World} {A : Option Addr} {l : List Vl} {j : Nat} (h : RdL w A l) (hj : j < l.length) : ∃ ad, A = some ad ∧ Cell3 w (ad.add (j * 3)) l[j] := by
  obtain ⟨ad, e, hc⟩ := h (by intro e; subst e; simp at hj)
  exact ⟨ad, e, hc j _ (List.getElem?_eq_getElem hj)⟩
theorem RdL.news {w : World} {ad : Addr} {l : List Vl} (h : RdL w (some ad) l) : ∀ i u, (vals l)[i]? = some u → w.cell? (ad.add i) = some u := by
  intro i u hu
  have hi : i < l.length * 3 := by rw [← vals_len]; exact (List.getElem?_eq_some_iff.1 hu).1
  obtain ⟨ad', e, hc⟩ := h (by intro e; subst e; simp at hi)
  injection e with e
  subst e
  obtain ⟨j, r, rfl, hr⟩ : ∃ j r, i = j * 3 + r ∧ r < 3 := ⟨i / 3, i % 3, by omega, by omega⟩
  obtain ⟨v, hv⟩ : ∃ v, l[j]? = some v := ⟨_, List.getElem?_eq_getElem (show j < l.length by omega)⟩
  obtain ⟨c0, c1, c2⟩ := hc _ _ hv
  have hf := flat_get l j r _ hv hr
  have hu' : (valC v)[r]? = some u := hf.symm.trans hu
  rcases (show r = 0 ∨ r = 1 ∨ r = 2 by omega) with rfl | rfl | rfl
  · simp [valC] at hu'
    subst hu'
    exact c0
  · simp [valC] at hu'
    subst hu'
    rw [add_two _ _ (by omega)]
    exact c1
  · simp [valC] at hu'
    subst hu'
    rw [add_two _ _ (by omega)]
    exact c2
/-- The row of block g holds the list m, and may be written. -/
structure Row (w : World) (g : Nat) (m : List Vl) : Prop where
  cells : w.rangeAt g 0 (vals m)
  there : w.there g 0 (m.length * 3)
theorem add_lit (g o i : Nat) : (⟨g, o, none⟩ : Addr).add i = ⟨g, o + i, none⟩ := by unfold Addr.add; split <;> simp_all
theorem Row.rd {w : World} {g : Nat} {m : List Vl} (h : Row w g m) : RdL w (some ⟨g, 0, none⟩) m := fun _ => ⟨_, rfl, fun j v hj => by
  rw [add_lit]
  refine ⟨?_, ?_, ?_⟩
  · exact h.cells (j * 3 + 0) _ (flat_get m j 0 v hj (by omega))
  · have := h.cells (j * 3 + 1) _ (flat_get m j 1 v hj (by omega))
    rwa [← Nat.add_assoc] at this
  · have := h.cells (j * 3 + 2) _ (flat_get m j 2 v hj (by omega))
    rwa [← Nat.add_assoc] at this⟩
theorem Row.lt {w : World} {g : Nat} {m : List Vl} (h : Row w g m) (hm : 0 < m.length) : g < w.heap.size := by
  obtain ⟨v, hv⟩ := Option.isSome_iff_exists.1 (h.there 0 (by omega)).1
  exact cell_lt hv
theorem Row.below {w w' : World} {g : Nat} {m : List Vl} (h : Row w g m) (hb : Below w.heap.size w w') : Row w' g m := by
  by_cases hm : 0 < m.length
  · have hg := h.lt hm
    refine ⟨fun j v hj => (hb.cell (p := ⟨g, 0 + j, none⟩) hg).trans (h.cells j v hj), fun j hj => ?_⟩
    have h1 := h.there j hj
    rw [← hb.cell (p := ⟨g, 0 + j, none⟩) hg, ← hb.frozen (p := ⟨g, 0 + j, none⟩) hg] at h1
    exact h1
  · have e : m = [] := List.eq_nil_of_length_eq_zero (by omega)
    subst e
    exact ⟨fun j v hj => by simp [vals] at hj, fun j hj => by simp at hj⟩
theorem Row.at_ {w : World} {g : Nat} {m : List Vl} {j : Nat} (h : Row w g m) (hj : j < m.length) :
    w.cell? ⟨g, j * 3, none⟩ = some (.int .i64 m[j].k) ∧ w.cell? ⟨g, j * 3 + 1, none⟩ = some (.int .i64 m[j].n) ∧ w.cell? ⟨g, j * 3 + 2, none⟩ = some (.string m[j].s) ∧
    w.frozen? ⟨g, j * 3, none⟩ = false ∧ w.frozen? ⟨g, j * 3 + 1, none⟩ = false ∧ w.frozen? ⟨g, j * 3 + 2, none⟩ = false := by
  obtain ⟨_, e, hc⟩ := h.rd (by intro e; subst e; simp at hj)
  injection e with e
  subst e
  have h1 := hc j _ (List.getElem?_eq_getElem hj)
  rw [add_lit, Nat.zero_add] at h1
  have t0 := (h.there (j * 3) (by omega)).2
  have t1 := (h.there (j * 3 + 1) (by omega)).2
  have t2 := (h.there (j * 3 + 2) (by omega)).2
  rw [Nat.zero_add] at t0 t1 t2
  exact ⟨h1.1, h1.2.1, h1.2.2, t0, t1, t2⟩
theorem vals_set (m : List Vl) (i : Nat) (v : Vl) (hi : i < m.length) : ∀ j, (vals (m.set i v))[j]? = if i * 3 ≤ j ∧ j < i * 3 + 3 then (valC v)[j - i * 3]? else (vals m)[j]? := by
  intro j
  by_cases hj : j < m.length * 3
  · obtain ⟨q, r, rfl, hr⟩ : ∃ q r, j = q * 3 + r ∧ r < 3 := ⟨j / 3, j % 3, by omega, by omega⟩
    have hq : q < m.length := by omega
    by_cases hqi : q = i
    · subst hqi
      rw [if_pos (by omega)]
      have := flat_get (m.set q v) q r v (by simp [hq]) hr
      have e : q * 3 + r - q * 3 = r := by omega
      rw [e]
      exact this
    · rw [if_neg (by omega)]
      have h1 := flat_get (m.set i v) q r m[q] (by rw [List.getElem?_set_ne (by omega)]; exact List.getElem?_eq_getElem hq) hr
      have h2 := flat_get m q r m[q] (List.getElem?_eq_getElem hq) hr
      exact h1.trans h2.symm
  · rw [if_neg (by omega), List.getElem?_eq_none (by rw [vals_len]; simp; omega), List.getElem?_eq_none (by rw [vals_len]; omega)]
theorem Row.set {w : World} {g i : Nat} {m : List Vl} (h : Row w g m) (v : Vl) (hi : i < m.length) : Row (w.setCells g (i * 3) (valC v)) g (m.set i v) := by
  refine ⟨fun j u hj => ?_, ?_⟩
  · rw [vals_set m i v hi] at hj
    split at hj
    · rename_i hr
      have hs := World.cell?_setCells_in g (valC v) (i * 3) w (fun t ht => by
        have := (h.there (i * 3 + t) (by simp [valC] at ht; omega)).1
        rwa [Nat.zero_add] at this) (j - i * 3) (by simp [valC]; omega)
      have e : i * 3 + (j - i * 3) = 0 + j := by omega
      rw [e] at hs
      rw [hs, ← hj, List.getElem?_eq_getElem]
    · rename_i hr
      rw [World.cell?_setCells_out g (valC v) (i * 3) w ⟨g, 0 + j, none⟩ (fun _ _ => by simp [valC]; omega)]
      exact h.cells j u hj
  · rw [List.length_set]
    exact World.there_setCells h.there _ _ _
theorem below_cells {B g : Nat} (hB : B ≤ g) : ∀ (vs : List Value) (o : Nat) {a w : World}, Below B a w → Below B a (w.setCells g o vs)
  | [], _, _, _, h => h
  | v :: r, o, a, w, h => below_cells hB r (o + 1) (h.setCell (by omega) v)
theorem box_after {wr w2 : World} {a b c : Value} {t : TypeId} (hb : Below (wr.alloc (.cells #[a, b, c] t)).heap.size (wr.alloc (.cells #[a, b, c] t)) w2) :
    w2.cell? ⟨wr.heap.size, 0, none⟩ = some a ∧ w2.cell? ⟨wr.heap.size, 1, none⟩ = some b ∧ w2.cell? ⟨wr.heap.size, 2, none⟩ = some c ∧ Below wr.heap.size wr w2 ∧ wr.heap.size < w2.heap.size := by
  have hz := hb.size
  simp only [World.size_alloc] at hz
  refine ⟨?_, ?_, ?_, (below1 _ _).trans (hb.mono (by simp)), by omega⟩
  · rw [hb.cell (p := ⟨wr.heap.size, 0, none⟩) (by simp), cell_last _ _ _ _ _ rfl]; rfl
  · rw [hb.cell (p := ⟨wr.heap.size, 1, none⟩) (by simp), cell_last _ _ _ _ _ rfl]; rfl
  · rw [hb.cell (p := ⟨wr.heap.size, 2, none⟩) (by simp), cell_last _ _ _ _ _ rfl]; rfl
theorem less_iff : ∀ (x y : List UInt8), Op.bytesLess x y = true ↔ x < y
  | [], [] => by simp [Op.bytesLess]
  | _ :: _, [] => by simp [Op.bytesLess]
  | [], _ :: _ => by simp [Op.bytesLess]
  | a :: x, b :: y => by
    have h := less_iff x y
    rw [Op.bytesLess]
    simp only [List.cons_lt_cons_iff, ← h]
    by_cases h1 : a < b <;> by_cases h2 : a = b <;> simp [h1, h2]
theorem less_trans {a b c : List UInt8} (h1 : Op.bytesLess a b = true) (h2 : Op.bytesLess b c = true) : Op.bytesLess a c = true := by
  rw [less_iff] at *; exact List.lt_trans h1 h2
theorem less_irrefl (a : List UInt8) : Op.bytesLess a a = false := by
  rw [Bool.eq_false_iff]; intro h; rw [less_iff] at h; exact List.lt_irrefl a h
theorem less_tri {a b : List UInt8} (h1 : Op.bytesLess a b = false) (h2 : Op.bytesLess b a = false) : a = b := by
  rw [Bool.eq_false_iff, ne_eq, less_iff, List.not_lt] at h1 h2
  exact List.le_antisymm h2 h1
theorem ordS_neg (s t : ByteArray) : ordS s t = -ordS t s := by
  have h1 := less_irrefl s.toList
  have h2 := @less_tri s.toList t.toList
  have h3 := @less_trans s.toList t.toList s.toList
  grind [ordS]
theorem ordS_trans (s t u : ByteArray) (h1 : ordS s t ≤ 0) (h2 : ordS t u ≤ 0) : ordS s u ≤ 0 ∧ (ordS s t < 0 ∨ ordS t u < 0 → ordS s u < 0) ∧ (ordS s t = 0 ∧ ordS t u = 0 → ordS s u = 0) := by
  have a1 := @less_trans s.toList t.toList u.toList
  have a2 := less_irrefl s.toList
  grind [ordS]
theorem ordI_zero (a b : Int) : ordI a b = 0 ↔ a = b := by unfold ordI; grind
theorem ordI_neg (a b : Int) : ordI a b = -ordI b a := by unfold ordI; grind
theorem ordI_trans (a b c : Int) (h1 : ordI a b ≤ 0) (h2 : ordI b c ≤ 0) : ordI a c ≤ 0 ∧ (ordI a b < 0 ∨ ordI b c < 0 → ordI a c < 0) ∧ (ordI a b = 0 ∧ ordI b c = 0 → ordI a c = 0) := by unfold ordI at *; grind
theorem ordV_neg (k n : Int) (s : ByteArray) (k' n' : Int) (s' : ByteArray) : ordV k n s k' n' s' = -ordV k' n' s' k n s := by
  have h1 := ordI_neg k k'
  have h2 := ordI_neg n n'
  have h3 := ordS_neg s s'
  grind [ordV]
theorem ordV_trans2 (k n : Int) (s : ByteArray) (k' n' : Int) (s' : ByteArray) (k2 n2 : Int) (s2 : ByteArray) (h1 : ordV k n s k' n' s' ≤ 0) (h2 : ordV k' n' s' k2 n2 s2 ≤ 0) :
    ordV k n s k2 n2 s2 ≤ 0 ∧ ((ordV k n s k' n' s' < 0 ∨ ordV k' n' s' k2 n2 s2 < 0) ↔ ordV k n s k2 n2 s2 < 0) := by
  have a1 := ordI_trans k k' k2
  have a2 := ordI_trans n n' n2
  have a3 := ordS_trans s s' s2
  have z1 := ordI_zero k k'
  have z2 := ordI_zero k' k2
  have z3 := ordI_zero k k2
  grind [ordV]
def ordL (a b : Vl) : Int := ordV a.k a.n a.s b.k b.n b.s
theorem ordL_neg (a b : Vl) : ordL a b = -ordL b a := ordV_neg _ _ _ _ _ _
theorem ordL_lt {a b c : Vl} (h1 : ordL a b < 0) (h2 : ordL b c < 0) : ordL a c < 0 :=
  (ordV_trans2 a.k a.n a.s b.k b.n b.s c.k c.n c.s (Int.le_of_lt h1) (Int.le_of_lt h2)).2.1 (.inl h1)
theorem ordL_self (a : Vl) : ordL a a = 0 := by have := ordL_neg a a; omega
theorem Row.one {w : World} {g : Nat} {v : Vl} (h : Row w g [v]) :
    w.cell? ⟨g, 0, none⟩ = some (.int .i64 v.k) ∧ w.cell? ⟨g, 1, none⟩ = some (.int .i64 v.n) ∧ w.cell? ⟨g, 2, none⟩ = some (.string v.s) ∧
    w.frozen? ⟨g, 0, none⟩ = false ∧ w.frozen? ⟨g, 1, none⟩ = false ∧ w.frozen? ⟨g, 2, none⟩ = false := h.at_ (j := 0) (by simp)
theorem Row.new (w : World) (v : Vl) (t : TypeId) (g : Nat) (hg : g = w.heap.size) : Row (w.alloc (.cells #[.int .i64 v.k, .int .i64 v.n, .string v.s] t)) g [v] := by
  subst hg
  refine ⟨fun j u hj => ?_, fun j hj => ?_⟩
  · rw [Nat.zero_add, cell_last _ _ _ _ _ rfl, ← hj]
    simp [vals, valC]
  · have hj' : j < 3 := by simpa using hj
    refine ⟨?_, ?_⟩
    · rw [Nat.zero_add, cell_last _ _ _ _ _ rfl]
      simp [hj']
    · exact World.frozen?_alloc_new w _ t _
theorem order_V (a b : Vl) (w : World) : Calls Try.prog 64 #[.agg #[.int .i64 a.k, .int .i64 a.n, .string a.s], .agg #[.int .i64 b.k, .int .i64 b.n, .string b.s]] w fun e w' => e = .returned (.int .i64 (ordL a b)) ∧ Below w.heap.size w w' := order_any _ _ _ _ _ _ w
def zeroV : Vl := ⟨0, 0, ⟨#[]⟩, by decide +kernel, by decide⟩
theorem ba_iff {x y : ByteArray} : x.toList = y.toList ↔ x = y := by
  rw [ByteArray.toList_eq, ByteArray.toList_eq]
  exact ⟨fun h => ByteArray.ext (Array.toList_inj.1 h), fun h => by rw [h]⟩
def eqV (a b : Vl) : Bool := (a.k == b.k) && ((a.n == b.n) && (a.s.toList == b.s.toList))
theorem stoodV : Try.prog.stoodInHeld 96 = false := by kernel_rfl
theorem underV : Try.prog.underlying 96 = some (.struct (Try.prog.fieldsOf 96)) := by simp only [Program.fieldsOf, Try.underlying96]
theorem guardV : Try.prog.eqGuardType Try.prog.depth 96 = false := by kernel_rfl
theorem run_eqV (a b : Vl) (w : World) : (binOp .eql 96 (.agg #[.int .i64 a.k, .int .i64 a.n, .string a.s]) (.agg #[.int .i64 b.k, .int .i64 b.n, .string b.s])).run Try.prog w = .ok (.bool (eqV a b)) w := by
  rw [run_eql_struct, run_equalIn_agg w 9999 96 _ _ underV stoodV]
  simp [go_sem, eqV, Try.underlying96]
  by_cases h1 : a.k = b.k <;> by_cases h2 : a.n = b.n <;> by_cases h3 : a.s.toList = b.s.toList <;> simp [h1, h2, h3]
theorem eqV_iff {a b : Vl} : eqV a b = true ↔ a = b := by
  obtain ⟨a0, a1, a2, _⟩ := a
  obtain ⟨b0, b1, b2, _⟩ := b
  simp [eqV, ba_iff]
theorem Try.infoR : (Try.prog.info? 85).map (fun i => (i.zero, i.size, i.bytes)) = some (some (.slice none 0 0), 1, 24) := by kernel_rfl
/-- A slice of rows that the call made itself. -/
abbrev Own (w : World) (B : Nat) (v : Value) (cs : List Value) : Prop := w.ownsRow B 85 1 v cs.length cs
/-- v is a slice that reads as the row r. -/
def Rw (w : World) (v : Value) (r : List Vl) : Prop := ∃ A c, v = .slice A r.length c ∧ RdL w A r ∧ (A = none → r.length = 0) ∧ r.length * 32 ≤ 140737488355328
/-- The slice at A reads as the rows ls. -/
def RdR (w : World) (A : Option Addr) (ls : List (List Vl)) : Prop := ls ≠ [] → ∃ ad, A = some ad ∧ ∀ j r, ls[j]? = some r → ∃ v, w.cell? (ad.add j) = some v ∧ Rw w v r
theorem Rw.below {w w' : World} {v : Value} {r : List Vl} (h : Rw w v r) (hb : Below w.heap.size w w') : Rw w' v r := by
  obtain ⟨A, c, e, h1, h2, h3⟩ := h
  exact ⟨A, c, e, h1.below hb, h2, h3⟩
theorem RdR.below {w w' : World} {A : Option Addr} {ls : List (List Vl)} (h : RdR w A ls) (hb : Below w.heap.size w w') : RdR w' A ls := fun hl => by
  obtain ⟨ad, e, hc⟩ := h hl
  exact ⟨ad, e, fun j r hj => by
    obtain ⟨v, h1, h2⟩ := hc j r hj
    exact ⟨v, (hb.cell (cell_lt h1)).trans h1, h2.below hb⟩⟩
theorem RdR.at_ {w : World} {A : Option Addr} {ls : List (List Vl)} {j : Nat} (h : RdR w A ls) (hj : j < ls.length) :
    ∃ ad B c, A = some ad ∧ w.cell? (ad.add j) = some (.slice B ls[j].length c) ∧ RdL w B ls[j] ∧ (B = none → ls[j].length = 0) ∧ ls[j].length * 32 ≤ 140737488355328 := by
  obtain ⟨ad, e, hc⟩ := h (by intro e; subst e; simp at hj)
  obtain ⟨v, h1, B, c, rfl, h2, h3, h4⟩ := hc j _ (List.getElem?_eq_getElem hj)
  exact ⟨ad, B, c, e, h1, h2, h3, h4⟩
/-- The five cells of a table with its rows, at block b. -/
structure Box5 (w : World) (b : Nat) (m : ByteArray) (cA : Option Addr) (cn cc : Nat) (k : Int) (iA : Option Addr) (in_ ic : Nat) (lv : Value) : Prop where
  c0 : w.cell? ⟨b, 0, none⟩ = some (.string m)
  c1 : w.cell? ⟨b, 1, none⟩ = some (.slice cA cn cc)
  c2 : w.cell? ⟨b, 2, none⟩ = some (.int .i64 k)
  c3 : w.cell? ⟨b, 3, none⟩ = some (.slice iA in_ ic)
  c4 : w.cell? ⟨b, 4, none⟩ = some lv
theorem Box5.below {w w' : World} {b : Nat} {m : ByteArray} {cA : Option Addr} {cn cc : Nat} {k : Int} {iA : Option Addr} {in_ ic : Nat} {lv : Value} (h : Box5 w b m cA cn cc k iA in_ ic lv) (hb : Below w.heap.size w w') : Box5 w' b m cA cn cc k iA in_ ic lv := by
  have hl := cell_lt h.c0
  exact ⟨(hb.cell (p := ⟨b, 0, none⟩) hl).trans h.c0, (hb.cell (p := ⟨b, 1, none⟩) hl).trans h.c1, (hb.cell (p := ⟨b, 2, none⟩) hl).trans h.c2, (hb.cell (p := ⟨b, 3, none⟩) hl).trans h.c3, (hb.cell (p := ⟨b, 4, none⟩) hl).trans h.c4⟩
theorem Box5.lt {w : World} {b : Nat} {m : ByteArray} {cA : Option Addr} {cn cc : Nat} {k : Int} {iA : Option Addr} {in_ ic : Nat} {lv : Value} (h : Box5 w b m cA cn cc k iA in_ ic lv) : b < w.heap.size := cell_lt h.c0
set_option maxHeartbeats 400000 in
theorem sClone_any (s : ByteArray) (w : World) (hs : s.size ≤ 140737488355328) :
    Calls Try.prog 32 #[.string s] w fun e w' => e = .returned (.string s) ∧ Below w.heap.size w w' := by
  have h := Try.stringslite_Clone s w (by omega)
  go_enter Try.func32, Try.ntmps32
  go_wp2_with (go_at_call 57; refine h.mono ?_; rintro e w1 ⟨rfl, hb⟩)
  go_ret
  exact ⟨rfl, hb⟩
theorem Try.infoV : (Try.prog.info? 96).map (fun i => (i.zero, i.size, i.bytes)) = some (some (.agg #[.int .i64 0, .int .i64 0, .string ⟨#[]⟩]), 3, 32) := by kernel_rfl
theorem lClone_nil (n c : Nat) (w : World) :
    Calls Try.prog 121 #[.slice none n c] w fun e w' => e = .returned (.slice none 0 0) ∧ w = w' := by
  have q22 : ∀ (w : World) (a : Option Addr) (n c n' c' : Nat), (binOp .eql 85 (.slice a n c) (.slice none n' c')).run Try.prog w = .ok (.bool a.isNone) w := fun w a n c n' c' => Lib.run_eql_slice_nil w _ _ a n c n' c' Try.underlying85
  go_enter Try.func121, Try.ntmps121
  go_wp2
  go_ret
  exact ⟨rfl, rfl⟩
set_option maxHeartbeats 1000000 in
theorem lClone_some (ad : Addr) (n c : Nat) (l : List Vl) (w : World) (hl : n = l.length) (hr : RdL w (some ad) l) (hn : n * 32 ≤ 140737488355328) :
    Calls Try.prog 121 #[.slice (some ad) n c] w fun e w' => ∃ v, e = .returned v ∧ w'.ownsRow w.heap.size 96 3 v n (vals l) ∧ Below w.heap.size w w' := by
  obtain ⟨i0, hi, hz0, hz1, hz2⟩ := info_parts Try.infoV
  have HR := Lib.hid hr
  have HL := Lib.hid hl
  clear hl hr
  have q22 : ∀ (w : World) (a : Option Addr) (n c n' c' : Nat), (binOp .eql 85 (.slice a n c) (.slice none n' c')).run Try.prog w = .ok (.bool a.isNone) w := fun w a n c n' c' => Lib.run_eql_slice_nil w _ _ a n c n' c' Try.underlying85
  go_enter Try.func121, Try.ntmps121
  go_wp2_with (at_builtin; refine wpList_append_own_at _ rfl _ _ 85 rfl w.heap.size 96 i0 (.agg #[.int .i64 0, .int .i64 0, .string ⟨#[]⟩]) 3 32 Try.underlying85 hi hz0 hz1 hz2 rfl (by decide) _ _ _ rfl (World.ownsRow_made w #[] 0 (Nat.le_refl _) (Nat.zero_le _) (by simp)) ad n c (vals l) rfl ?c0 ?c1 (vals_one l) ?c3 ?c4 ?c5 ?_)
  case c0 => rw [vals_len, ← HL.out]
  case c1 => exact HR.out.below (below1 _ _) |>.news
  case c3 => unfold maxLen; omega
  case c4 => omega
  case c5 => simp
  intro v' w' hown hg _ _
  have HOwn := Lib.hid hown
  clear hown
  go_wp2
  go_ret
  refine ⟨_, rfl, by simpa using HOwn.out, (below1 _ _).grown hg (by simp) (fun k hk => ?_)⟩
  simp [Value.ownBlock] at hk
  omega
theorem choose_list {τ : Type} {p : Nat → τ → Prop} : ∀ (n : Nat), (∀ i, i < n → ∃ x, p i x) → ∃ l : List τ, l.length = n ∧ ∀ j y, l[j]? = some y → p j y
  | 0, _ => ⟨[], rfl, fun j y h => by simp at h⟩
  | n + 1, h => by
    obtain ⟨l, hl, hp⟩ := choose_list n fun i hi => h i (by omega)
    obtain ⟨x, hx⟩ := h n (by omega)
    refine ⟨l ++ [x], by simp [hl], fun j y hj => ?_⟩
    rcases Nat.lt_or_ge j n with h1 | h1
    · rw [List.getElem?_append_left (by omega)] at hj
      exact hp j y hj
    · rw [List.getElem?_append_right (by omega), hl] at hj
      rcases Nat.eq_zero_or_pos (j - n) with h2 | h2
      · rw [h2] at hj
        have e : j = n := by omega
        subst e
        simp at hj
        subst hj
        exact hx
      · rw [List.getElem?_eq_none (by simp; omega)] at hj
        cases hj
/-- The cells of a list of rows. -/
theorem RdR.list {w : World} {A : Option Addr} {ls : List (List Vl)} (h : RdR w A ls) : ∃ cs : List Value, cs.length = ls.length ∧ (∀ ad, A = some ad → ∀ j u, cs[j]? = some u → w.cell? (ad.add j) = some u) ∧ ∀ (j : Nat) (v : Value) (r : List Vl), cs[j]? = some v → ls[j]? = some r → Rw w v r := by
  by_cases hl : ls = []
  · subst hl
    exact ⟨[], rfl, fun _ _ j u hj => by simp at hj, fun j v r hj => by simp at hj⟩
  · obtain ⟨ad, e, hc⟩ := h hl
    obtain ⟨cs, h1, h2⟩ := choose_list (p := fun j (v : Value) => w.cell? (ad.add j) = some v ∧ ∀ r, ls[j]? = some r → Rw w v r) ls.length (fun i hi => by
      obtain ⟨v, a1, a2⟩ := hc i _ (List.getElem?_eq_getElem hi)
      exact ⟨v, a1, fun r hr => by rw [List.getElem?_eq_getElem hi] at hr; injection hr with hr; rw [← hr]; exact a2⟩)
    exact ⟨cs, h1, fun ad' e' j u hj => by rw [e] at e'; injection e' with e'; rw [← e']; exact (h2 j u hj).1, fun j v r hj hr => (h2 j v hj).2 r hr⟩
theorem rClone_nil (n c : Nat) (w : World) :
    Calls Try.prog 61 #[.slice none n c] w fun e w' => e = .returned (.slice none 0 0) ∧ w = w' := by
  have q22 : ∀ (w : World) (a : Option Addr) (n c n' c' : Nat), (binOp .eql 50 (.slice a n c) (.slice none n' c')).run Try.prog w = .ok (.bool a.isNone) w := fun w a n c n' c' => Lib.run_eql_slice_nil w _ _ a n c n' c' Try.underlying50
  go_enter Try.func61, Try.ntmps61
  go_wp2
  go_ret
  exact ⟨rfl, rfl⟩
set_option maxHeartbeats 1000000 in
theorem rClone_some (ad : Addr) (n c : Nat) (cs : List Value) (w : World) (hl : n = cs.length) (hr : ∀ j u, cs[j]? = some u → w.cell? (ad.add j) = some u) (h1 : ∀ u ∈ cs, u.oneCell' = true) (hn : n * 24 ≤ 140737488355328) :
    Calls Try.prog 61 #[.slice (some ad) n c] w fun e w' => ∃ v, e = .returned v ∧ Own w' w.heap.size v cs ∧ Below w.heap.size w w' := by
  obtain ⟨i0, hi, hz0, hz1, hz2⟩ := info_parts Try.infoR
  have HR := Lib.hid hr
  have HL := Lib.hid hl
  clear hl hr
  have q22 : ∀ (w : World) (a : Option Addr) (n c n' c' : Nat), (binOp .eql 50 (.slice a n c) (.slice none n' c')).run Try.prog w = .ok (.bool a.isNone) w := fun w a n c n' c' => Lib.run_eql_slice_nil w _ _ a n c n' c' Try.underlying50
  go_enter Try.func61, Try.ntmps61
  go_wp2_with (at_builtin; refine wpList_append_own_at _ rfl _ _ 50 rfl w.heap.size 85 i0 (.slice none 0 0) 1 24 Try.underlying50 hi hz0 hz1 hz2 rfl (by decide) _ _ _ rfl (World.ownsRow_made w #[] 0 (Nat.le_refl _) (Nat.zero_le _) (by simp)) ad n c cs rfl ?c0 ?c1 h1 ?c3 ?c4 ?c5 ?_)
  case c0 => rw [← HL.out, Nat.mul_one]
  case c1 => exact fun j u hj => ((below1 w _).cell (cell_lt (HR.out j u hj))).trans (HR.out j u hj)
  case c3 => unfold maxLen; omega
  case c4 => omega
  case c5 => simp
  intro v' w' hown hg _ _
  have HOwn := Lib.hid hown
  clear hown
  go_wp2
  go_ret
  refine ⟨_, rfl, by have := HOwn.out; rw [HL.out] at this; exact this, (below1 _ _).grown hg (by simp) (fun k hk => ?_)⟩
  simp [Value.ownBlock] at hk
  omega
/-- A row in memory of its own. -/
abbrev OwnV (w : World) (B : Nat) (v : Value) (r : List Vl) : Prop := w.ownsRow B 96 3 v r.length (vals r)
theorem own_below {B : Nat} {e : TypeId} {k : Nat} {v : Value} {n : Nat} {xs : List Value} {w w' : World} (h : w.ownsRow B e k v n xs) (hb : Below w.heap.size w w') : w'.ownsRow B e k v n xs :=
  ⟨h.1, by
    rcases h.2 with h1 | ⟨g, cap, cur, h1, h2, h3, h4⟩
    · exact .inl h1
    · exact .inr ⟨g, cap, cur, h1, h2, by rw [hb.block g (Array.getElem?_eq_some_iff.1 h3).1]; exact h3, h4⟩⟩
theorem own_le {B B' : Nat} {e : TypeId} {k : Nat} {v : Value} {n : Nat} {xs : List Value} {w : World} (h : w.ownsRow B e k v n xs) (hB : B' ≤ B) : w.ownsRow B' e k v n xs :=
  ⟨h.1, by
    rcases h.2 with h1 | ⟨g, cap, cur, h1, h2, h3⟩
    · exact .inl h1
    · exact .inr ⟨g, cap, cur, h1, by omega, h3⟩⟩
theorem OwnV.rw {w : World} {B : Nat} {v : Value} {r : List Vl} (h : OwnV w B v r) (hn : r.length * 32 ≤ 140737488355328) : Rw w v r := by
  rcases h.2 with ⟨rfl, h0⟩ | ⟨g, cap, cur, rfl, _⟩
  · exact ⟨none, 0, by rw [h0], fun hr => absurd (List.eq_nil_of_length_eq_zero h0) hr, fun _ => h0, hn⟩
  · refine ⟨some ⟨g, 0, none⟩, cap, rfl, fun _ => ⟨_, rfl, fun j v hj => ?_⟩, (fun e => by cases e), hn⟩
    have hc := h.cells (g := g) rfl
    have h0 := hc (j * 3 + 0) _ (flat_get r j 0 v hj (by omega))
    have h1 := hc (j * 3 + 1) _ (flat_get r j 1 v hj (by omega))
    have h2 := hc (j * 3 + 2) _ (flat_get r j 2 v hj (by omega))
    rw [add_lit] at h0 h1 h2
    rw [add_lit]
    refine ⟨h0, ?_, ?_⟩
    · rw [← Nat.add_assoc] at h1; exact h1
    · rw [← Nat.add_assoc] at h2; exact h2
/-- A row's text, laid again. -/
theorem OwnV.again {w : World} {B g cap i : Nat} {r : List Vl} (h : OwnV w B (.slice (some ⟨g, 0, none⟩) r.length cap) r) (hi : i < r.length) : OwnV (w.setCell ⟨g, i * 3 + 2, none⟩ (.string r[i].s)) B (.slice (some ⟨g, 0, none⟩) r.length cap) r := by
  have h1 := (h.stored (i * 3 + 2) (.string r[i].s)).1
  have h2 : (vals r)[i * 3 + 2]? = some (.string r[i].s) := flat_get r i 2 _ (List.getElem?_eq_getElem hi) (by omega)
  have h3 : (vals r).set (i * 3 + 2) (.string r[i].s) = vals r := by
    apply List.ext_getElem?
    intro j
    rw [List.getElem?_set]
    split
    · rename_i e
      subst e
      rw [h2]
      split
      · rfl
      · rename_i h4
        exact absurd (List.getElem?_eq_some_iff.1 h2).1 h4
    · rfl
  rw [h3] at h1
  exact h1
/-- Rows in memory of their own, all of it behind B. -/
structure Frs (w : World) (B : Nat) (v : Value) (cs : List Value) (ls : List (List Vl)) : Prop where
  own : Own w B v cs
  len : cs.length = ls.length
  rows : ∀ (j : Nat) (u : Value) (r : List Vl), cs[j]? = some u → ls[j]? = some r → OwnV w B u r
theorem Frs.below {w w' : World} {B : Nat} {v : Value} {cs : List Value} {ls : List (List Vl)} (h : Frs w B v cs ls) (hb : Below w.heap.size w w') : Frs w' B v cs ls :=
  ⟨own_below h.own hb, h.len, fun j u r hu hr => own_below (h.rows j u r hu hr) hb⟩
/-- A row more. -/
theorem Frs.more {w w' : World} {B : Nat} {v v' u : Value} {cs : List Value} {ls : List (List Vl)} {r : List Vl} (h : Frs w B v cs ls) (hu : OwnV w B u r) (ho : Own w' B v' (cs ++ [u])) (hg : w.grownBy w' v.ownBlock) : Frs w' B v' (cs ++ [u]) (ls ++ [r]) := by
  have hk : ∀ (x : Value) (q : List Vl), OwnV w B x q → OwnV w' B x q := fun x q hx => by
    refine hx.kept hg ?_
    cases hb : v.ownBlock with
    | none => cases hx' : x.ownBlock <;> simp
    | some b =>
      obtain ⟨c, fz, hc⟩ := Lib.ownsRow_kind h.own b hb
      rcases hx.2 with ⟨rfl, _⟩ | ⟨g, cap, cur, rfl, _, hg2, _⟩
      · exact .inl rfl
      · refine .inr fun e => ?_
        have e' : g = b := by simpa [Value.ownBlock] using e
        subst e'
        rw [hg2] at hc
        injection hc with hc
        injection hc with _ hc
        exact absurd hc (by decide)
  refine ⟨ho, by simp [h.len], fun j x q h1 h2 => ?_⟩
  rcases Nat.lt_or_ge j cs.length with hj | hj
  · rw [List.getElem?_append_left hj] at h1
    rw [List.getElem?_append_left (by rw [← h.len]; exact hj)] at h2
    exact hk _ _ (h.rows j x q h1 h2)
  · rw [List.getElem?_append_right hj] at h1
    rw [List.getElem?_append_right (by rw [← h.len]; exact hj), ← h.len] at h2
    cases hd : j - cs.length with
    | zero =>
      rw [hd] at h1 h2
      simp at h1 h2
      subst h1 h2
      exact hk _ _ hu
    | succ i => rw [hd] at h1; simp at h1
theorem Frs.rd {w : World} {B : Nat} {v : Value} {cs : List Value} {ls : List (List Vl)} (h : Frs w B v cs ls) (hn : ∀ r ∈ ls, r.length * 32 ≤ 140737488355328) : ∃ A c, v = .slice A ls.length c ∧ RdR w A ls ∧ (A = none → ls.length = 0) := by
  rcases h.own.2 with ⟨rfl, h0⟩ | ⟨g, cap, cur, rfl, _⟩
  · have : ls = [] := List.eq_nil_of_length_eq_zero (by rw [← h.len]; exact h0)
    subst this
    exact ⟨none, 0, rfl, fun h => absurd rfl h, fun _ => rfl⟩
  · refine ⟨some ⟨g, 0, none⟩, cap, by rw [h.len], fun _ => ⟨_, rfl, fun j r hj => ?_⟩, (fun e => by cases e)⟩
    have hjl : j < cs.length := by rw [h.len]; exact (List.getElem?_eq_some_iff.1 hj).1
    exact ⟨cs[j], h.own.cells (g := g) rfl j _ (List.getElem?_eq_getElem hjl), (h.rows j _ _ (List.getElem?_eq_getElem hjl) hj).rw (hn _ (List.mem_of_getElem? hj))⟩
theorem ownV_form {w : World} {B : Nat} {v : Value} {r : List Vl} (h : OwnV w B v r) : ∃ A c, v = .slice A r.length c := by
  rcases h.2 with ⟨h1, h0⟩ | ⟨g, cap, cur, h1, _⟩
  · exact ⟨none, 0, by rw [h1, h0]⟩
  · exact ⟨_, _, h1⟩
/-- A value of a row of the call's own: its cells. -/
theorem OwnV.at_ {w : World} {B g cap i : Nat} {r : List Vl} (h : OwnV w B (.slice (some ⟨g, 0, none⟩) r.length cap) r) (hi : i < r.length) :
    w.cell? ⟨g, i * 3, none⟩ = some (.int .i64 r[i].k) ∧ w.cell? ⟨g, i * 3 + 1, none⟩ = some (.int .i64 r[i].n) ∧ w.cell? ⟨g, i * 3 + 2, none⟩ = some (.string r[i].s) ∧ w.frozen? ⟨g, i * 3 + 2, none⟩ = false := by
  have e := List.getElem?_eq_getElem hi
  exact ⟨(h.cellAt (i * 3 + 0) (by omega)).trans (flat_get r i 0 _ e (by omega)), (h.cellAt (i * 3 + 1) (by omega)).trans (flat_get r i 1 _ e (by omega)), (h.cellAt (i * 3 + 2) (by omega)).trans (flat_get r i 2 _ e (by omega)), h.frozenAt _⟩
theorem vClone_any (A : Option Addr) (n c : Nat) (r : List Vl) (w : World) (hl : n = r.length) (hr : RdL w A r) (hA : A = none → r.length = 0) (hn : r.length * 32 ≤ 140737488355328) :
    Calls Try.prog 121 #[.slice A n c] w fun e w' => ∃ v, e = .returned v ∧ OwnV w' w.heap.size v r ∧ Below w.heap.size w w' := by
  subst hl
  cases A with
  | none =>
    have h0 := hA rfl
    have : r = [] := List.eq_nil_of_length_eq_zero h0
    subst this
    exact (lClone_nil 0 c w).mono fun e w' ⟨h1, h2⟩ => ⟨_, h1, World.ownsRow_nil _ _ _ _, h2 ▸ Below.refl _ _⟩
  | some ad => exact (lClone_some ad r.length c r w rfl hr hn).mono fun e w' ⟨v, h1, h2, h3⟩ => ⟨v, h1, h2, h3⟩
theorem run_neqV (a : Vl) (w : World) : (binOp .neq 96 (.agg #[.int .i64 a.k, .int .i64 a.n, .string a.s]) (.agg #[.int .i64 a.k, .int .i64 a.n, .string a.s])).run Try.prog w = .ok (.bool false) w := by
  rw [run_neq_struct, run_equalIn_agg w 9999 96 _ _ underV stoodV]
  simp [go_sem, Try.underlying96]
set_option maxRecDepth 100000 in
set_option maxHeartbeats 2000000 in
theorem sameRow_eq (A B : Option Addr) (c d n : Nat) (r : List Vl) (w : World) (hl : n = r.length) (ha : RdL w A r) (hb : RdL w B r) (hn : r.length ≤ 9223372036854775807) :
    Calls Try.prog 42 #[.slice A n c, .slice B n d] w fun e w' => e = .returned (.bool true) ∧ Below w.heap.size w w' := by
  subst hl
  have HA := Lib.hid ha
  have HB := Lib.hid hb
  clear ha hb
  have hle : ((r.length : Int) != (r.length : Int)) = false := by simp
  have hgv := guardV
  go_enter Try.func42, Try.ntmps42
  go_wp2
  go_loopw [5] (fun i wr => ∃ j : Nat, i = .int .i64 j ∧ j ≤ r.length ∧ Below w.heap.size w wr) (fun i _ => r.length - (intOf i).toNat)
  case atStart => exact ⟨0, rfl, by omega, Below.refl _ _⟩
  case round =>
    obtain ⟨j, rfl, hj, hBB⟩ := hrel
    have HBB := Lib.hid hBB
    clear hBB
    by_cases hlt : j < r.length
    · obtain ⟨ad, e0, a0, a1, a2⟩ := (HA.out.below HBB.out).at_ hlt
      obtain ⟨bd, e1, b0, b1, b2⟩ := (HB.out.below HBB.out).at_ hlt
      subst e0
      subst e1
      generalize r[j] = x at a0 a1 a2 b0 b1 b2
      have hq := run_neqV x
      go_wp2_with fail
      have p0 := cell_regrown a0
      have p1 := cell_regrown a1
      have p2 := cell_regrown a2
      have q0 := cell_regrown b0
      have q1 := cell_regrown b1
      have q2 := cell_regrown b2
      have hlt' : (j : Int) < (r.length : Int) := by omega
      clear a0 a1 a2 b0 b1 b2
      refine wp_region_quiet_below (by kernel_rfl) (by kernel_rfl) ?_
      repeat (go_big_quiet_step (fail))
      refine wpQuiet_nil ?_
      intro w5 hw5
      obtain ⟨pp, rfl⟩ := hw5
      have HB5 := Lib.hid (below_regrown wr pp.d pp.os)
      clear p0 p1 p2 q0 q1 q2 hq
      generalize grow (redrawn wr pp.d) pp.os = W5 at HB5 ⊢
      go_wp2
      go_roundw
      case rel => exact ⟨j + 1, by go_num, hlt, HBB.out.trans (HB5.out.mono HBB.out.size)⟩
      case measure => simp [intOf]; omega
    · go_wp2
      go_ret
      exact ⟨rfl, HBB.out⟩
set_option maxRecDepth 100000 in
set_option maxHeartbeats 2000000 in
theorem sameRows_eq (A B : Option Addr) (c d n : Nat) (ls : List (List Vl)) (w : World) (hl : n = ls.length) (ha : RdR w A ls) (hb : RdR w B ls) (hn : ls.length ≤ 9223372036854775807) :
    Calls Try.prog 17 #[.slice A n c, .slice B n d] w fun e w' => e = .returned (.bool true) ∧ Below w.heap.size w w' := by
  subst hl
  have HA := Lib.hid ha
  have HB := Lib.hid hb
  clear ha hb
  have hle : ((ls.length : Int) != (ls.length : Int)) = false := by simp
  go_enter Try.func17, Try.ntmps17
  go_wp2
  go_loopw [5] (fun i wr => ∃ j : Nat, i = .int .i64 j ∧ j ≤ ls.length ∧ Below w.heap.size w wr) (fun i _ => ls.length - (intOf i).toNat)
  case atStart => exact ⟨0, rfl, by omega, Below.refl _ _⟩
  case round =>
    obtain ⟨j, rfl, hj, hBB⟩ := hrel
    have HBB := Lib.hid hBB
    clear hBB
    by_cases hlt : j < ls.length
    · obtain ⟨ad, aA, ac, e0, a0, ar, _, an⟩ := (HA.out.below HBB.out).at_ hlt
      obtain ⟨bd, bA, bc, e1, b0, br, _, _⟩ := (HB.out.below HBB.out).at_ hlt
      subst e0
      subst e1
      have hs := fun W (hb : Below wr.heap.size wr W) => sameRow_eq aA bA ac bc ls[j].length ls[j] W rfl (ar.below hb) (br.below hb) (by omega)
      clear ar br
      generalize ls[j] = x at a0 b0 hs an
      have HS := Lib.hid hs
      clear hs
      go_wp2_with fail
      have p0 := cell_regrown a0
      have q0 := cell_regrown b0
      have hlt' : (j : Int) < (ls.length : Int) := by omega
      clear a0 b0
      refine wp_region_quiet_below (by kernel_rfl) (by kernel_rfl) ?_
      repeat (go_big_quiet_step (with_reducible exact Calls.regrown_of (HS.out _ (below_regrown _ _ _))))
      refine wpQuiet_nil ?_
      intro w5 hw5
      obtain ⟨pp, rfl⟩ := hw5
      have HB5 := Lib.hid (below_regrown wr pp.d pp.os)
      clear p0 q0 HS
      generalize grow (redrawn wr pp.d) pp.os = W5 at HB5 ⊢
      go_wp2
      go_roundw
      case rel => exact ⟨j + 1, by go_num, hlt, HBB.out.trans (HB5.out.mono HBB.out.size)⟩
      case measure => simp [intOf]; omega
    · go_wp2
      go_ret
      exact ⟨rfl, HBB.out⟩
theorem thn {a b c : World} (h : Below a.heap.size a b) (k : Below b.heap.size b c) : Below a.heap.size a c := h.trans (k.mono h.size)
theorem new_RdL (W : World) (T : TypeId) (a b : Vl) (g : Nat) (hg : g = W.heap.size) : RdL (W.alloc (.cells #[.int .i64 a.k, .int .i64 a.n, .string a.s, .int .i64 b.k, .int .i64 b.n, .string b.s] T)) (some ⟨g, 0, none⟩) [a, b] := fun _ => ⟨_, rfl, fun j x hj => by
  subst hg
  match j, hj with
  | 0, hj =>
    simp at hj; subst hj
    rw [add_lit]
    exact ⟨by rw [cell_last _ _ _ _ _ rfl]; rfl, by rw [cell_last _ _ _ _ _ rfl]; rfl, by rw [cell_last _ _ _ _ _ rfl]; rfl⟩
  | 1, hj =>
    simp at hj; subst hj
    rw [add_lit]
    exact ⟨by rw [cell_last _ _ _ _ _ rfl]; rfl, by rw [cell_last _ _ _ _ _ rfl]; rfl, by rw [cell_last _ _ _ _ _ rfl]; rfl⟩
  | j + 2, hj => simp at hj⟩
theorem new_RdR (W : World) (T : TypeId) (A B : Addr) (c d : Nat) (a b : List Vl) (n k : Nat) (g : Nat) (hg : g = W.heap.size) (ha : RdL W (some A) a) (hb : RdL W (some B) b) (hn : n = a.length) (hk : k = b.length) (hna : a.length * 32 ≤ 140737488355328) (hnb : b.length * 32 ≤ 140737488355328) : RdR (W.alloc (.cells #[.slice (some A) n c, .slice (some B) k d] T)) (some ⟨g, 0, none⟩) [a, b] := fun _ => ⟨_, rfl, fun j x hj => by
  subst hg hn hk
  match j, hj with
  | 0, hj =>
    simp at hj; subst hj
    rw [add_lit]
    exact ⟨_, by rw [cell_last _ _ _ _ _ rfl]; rfl, _, _, rfl, ha.below (below1 _ _), (fun e => by cases e), hna⟩
  | 1, hj =>
    simp at hj; subst hj
    rw [add_lit]
    exact ⟨_, by rw [cell_last _ _ _ _ _ rfl]; rfl, _, _, rfl, hb.below (below1 _ _), (fun e => by cases e), hnb⟩
  | j + 2, hj => simp at hj⟩
end Go.Proofs.Ytddeaiciochggaa
