/- How locks lie in memory, and what keeps them; strings.Clone. Conditions: lengths that every machine keeps. -/
import Derived.Test.YtmjcmeebcochgaaVo
import Derived.Deep.MidRow
import Derived.Lib.SliceRun
import Derived.Lib.OwnKind
import Derived.Lib.AppendZeros
import Derived.Laws.OwnMore
namespace Go.Proofs.Ytmjcmeebcochgaa
open Go.RowKit
set_option linter.unusedSimpArgs false
set_option linter.unusedVariables false

theorem add_block (a : Addr) (n : Nat) : (a.add n).block = a.block := by unfold Addr.add; split <;> rfl
theorem add_ne {ad : Addr} {i : Nat} (h : i ≠ 0) : ad.add i = ⟨ad.block, ad.off + i, none⟩ := by unfold Addr.add; rw [if_neg h]
theorem add_zero (ad : Addr) : ad.add 0 = ad := by unfold Addr.add; rw [if_pos rfl]
theorem add_off {ad : Addr} {i : Nat} : (ad.add i).off = ad.off + i := by unfold Addr.add; split <;> simp_all
theorem add_two {ad : Addr} (i j : Nat) (h : j ≠ 0) : ad.add (i + j) = ⟨(ad.add i).block, (ad.add i).off + j, none⟩ := by
  rw [add_ne (by omega), add_block, add_off, Nat.add_assoc]
theorem add_add_ (a : Addr) (i j : Nat) : (a.add i).add j = a.add (i + j) := by
  unfold Addr.add
  by_cases hi : i = 0 <;> by_cases hj : j = 0 <;> simp [hi, hj, Nat.add_assoc]
theorem add_lit (g o i : Nat) : (⟨g, o, none⟩ : Addr).add i = ⟨g, o + i, none⟩ := by unfold Addr.add; split <;> simp_all

theorem own_below {B : Nat} {e : TypeId} {k : Nat} {v : Value} {n : Nat} {xs : List Value} {w w' : World} (h : w.ownsRow B e k v n xs) (hb : Below w.heap.size w w') : w'.ownsRow B e k v n xs :=
  h.kept (row := none) ⟨hb.os, hb.tape, hb.output, hb.size, fun k hk _ => hb.block k hk⟩ (by cases hv : v.ownBlock <;> simp)
def lks (l : List Lk) : List Value := l.flatMap lkC
theorem lks_len (l : List Lk) : (lks l).length = l.length * 3 := by
  unfold lks
  induction l with
  | nil => rfl
  | cons a l ih => simp [lkC, ih]; omega
theorem lks_app (l m : List Lk) : lks (l ++ m) = lks l ++ lks m := by simp [lks]
theorem lks_one (l : List Lk) : ∀ u ∈ lks l, u.oneCell' = true := by
  intro u hu
  simp only [lks, List.mem_flatMap] at hu
  obtain ⟨v, _, hv⟩ := hu
  simp [lkC] at hv
  rcases hv with rfl | rfl | rfl <;> rfl
theorem flat_get : ∀ (l : List Lk) (j i : Nat) (v : Lk), l[j]? = some v → i < 3 → (lks l)[j * 3 + i]? = (lkC v)[i]?
  | [], j, i, v, h, _ => by simp at h
  | a :: l, 0, i, v, h, hi => by
    simp at h; subst h
    unfold lks
    rw [List.flatMap_cons, List.getElem?_append_left (by simp [lkC]; omega)]
    simp
  | a :: l, j + 1, i, v, h, hi => by
    unfold lks
    rw [List.flatMap_cons, List.getElem?_append_right (by simp [lkC]; omega)]
    have e : (j + 1) * 3 + i - (lkC a).length = j * 3 + i := by simp [lkC]; omega
    rw [e]
    exact flat_get l j i v (by simpa using h) hi

/-- The slice at A of n lksions, with room for c, reads as the list l. -/
structure Rd (w : World) (A : Option Addr) (n c : Nat) (l : List Lk) : Prop where
  len : l.length = n
  le : n ≤ c
  cap : c ≤ 9223372036854775807
  nil : A = none → n = 0 ∧ c = 0
  cells : ∀ ad, A = some ad → ∀ (j : Nat) (v : Lk), l[j]? = some v → Cell3 w (ad.add (j * 3)) v
section
variable {w w' : World} {A : Option Addr} {n c : Nat} {l : List Lk}
theorem Rd.below (h : Rd w A n c l) (hb : Below w.heap.size w w') : Rd w' A n c l :=
  ⟨h.len, h.le, h.cap, h.nil, fun ad e j v hj => (h.cells ad e j v hj).below hb⟩
theorem Rd.nothing (w : World) : Rd w none 0 0 [] := ⟨rfl, Nat.le_refl _, by omega, fun _ => ⟨rfl, rfl⟩, fun ad e => by cases e⟩
theorem Rd.at_ (h : Rd w A n c l) {k : Nat} (hk : k < l.length) : ∃ ad, A = some ad ∧ Cell3 w (ad.add (k * 3)) l[k] := by
  cases A with
  | none => have := (h.nil rfl).1; have := h.len; omega
  | some ad => exact ⟨ad, rfl, h.cells ad rfl k _ (List.getElem?_eq_getElem hk)⟩
theorem Rd.take (h : Rd w A n c l) {k : Nat} (hk : k ≤ n) : Rd w A k c (l.take k) :=
  ⟨by rw [List.length_take, h.len]; omega, by have := h.le; omega, h.cap, fun e => ⟨by have := (h.nil e).1; omega, (h.nil e).2⟩, fun ad e j u hj => h.cells ad e j u (by
    rw [List.getElem?_take] at hj
    split at hj
    · exact hj
    · cases hj)⟩
def cutA (A : Option Addr) (c k : Nat) : Option Addr := if c = k then A else A.map (·.add (k * 3))
theorem Rd.drop (h : Rd w A n c l) {k : Nat} (hk : k ≤ n) : Rd w (cutA A c k) (n - k) (c - k) (l.drop k) := by
  have hle := h.le
  refine ⟨by rw [List.length_drop, h.len], by omega, by have := h.cap; omega, fun e => ?_, fun ad e j u hj => ?_⟩
  · unfold cutA at e
    split at e
    · have := h.nil e; omega
    · cases A with
      | none => have := h.nil rfl; omega
      | some ad => cases e
  · rw [List.getElem?_drop] at hj
    unfold cutA at e
    split at e
    · rename_i hck
      have : k + j < l.length := (List.getElem?_eq_some_iff.1 hj).1
      have := h.len
      omega
    · cases A with
      | none => cases e
      | some ad' =>
        injection e with e
        subst e
        rw [add_add_, ← Nat.add_mul]
        exact h.cells ad' rfl _ u hj
theorem Rd.of_own {base : Nat} {e : TypeId} {v : Value} (h : w.ownsRow base e 3 v n (lks l)) : ∃ A c, v = .slice A n c ∧ Rd w A n c l := by
  have hl : l.length = n := by have := h.1; rw [lks_len] at this; omega
  rcases h.2 with ⟨rfl, h0⟩ | ⟨g, cap, cur, rfl, _, _, hc, hm, _⟩
  · have : l = [] := List.eq_nil_of_length_eq_zero (by omega)
    subst this
    subst hl
    exact ⟨none, 0, rfl, Rd.nothing w⟩
  · refine ⟨_, cap, rfl, hl, hc, by unfold maxLen at hm; exact hm, (fun e => by cases e), fun ad e j u hj => ?_⟩
    injection e with e
    subst e
    have hx : ∀ i x, (lkC u)[i]? = some x → i < 3 → w.cell? ⟨g, j * 3 + i, none⟩ = some x := fun i x hi hlt => by
      have h1 := h.cells (g := g) rfl (j * 3 + i) x ((flat_get l j i u hj hlt).trans hi)
      rwa [add_lit, Nat.zero_add] at h1
    rw [add_lit, Nat.zero_add]
    exact ⟨hx 0 _ rfl (by omega), hx 1 _ rfl (by omega), hx 2 _ rfl (by omega)⟩
theorem Rd.news {ad : Addr} (h : Rd w (some ad) n c l) : ∀ i u, (lks l)[i]? = some u → w.cell? (ad.add i) = some u := by
  intro i u hu
  have hi : i < l.length * 3 := by rw [← lks_len]; exact (List.getElem?_eq_some_iff.1 hu).1
  obtain ⟨j, r, rfl, hr⟩ : ∃ j r, i = j * 3 + r ∧ r < 3 := ⟨i / 3, i % 3, by omega, by omega⟩
  obtain ⟨v, hv⟩ : ∃ v, l[j]? = some v := ⟨_, List.getElem?_eq_getElem (show j < l.length by omega)⟩
  obtain ⟨c0, c1, c2⟩ := h.cells ad rfl _ _ hv
  have hf := flat_get l j r _ hv hr
  have hu' : (lkC v)[r]? = some u := hf.symm.trans hu
  rcases (show r = 0 ∨ r = 1 ∨ r = 2 by omega) with rfl | rfl | rfl
  · simp [lkC] at hu'
    subst hu'
    exact c0
  all_goals
    simp [lkC] at hu'
    subst hu'
    rw [add_two _ _ (by omega)]
    assumption
end
theorem Try.infoV : (Try.prog.info? 34).map (fun i => (i.zero, i.size, i.bytes)) = some (some (.agg #[.int .i64 0, .string ⟨#[]⟩, .string ⟨#[]⟩]), 3, 40) := by kernel_rfl
theorem elemV : Try.prog.elem 27 = 34 := by kernel_rfl
theorem elemR : Try.prog.elem 22 = 26 := by kernel_rfl
theorem Try.infoR : (Try.prog.info? 26).map (fun i => (i.zero, i.size, i.bytes)) = some (some (.agg #[.int .i64 0, .string ⟨#[]⟩, .string ⟨#[]⟩]), 3, 40) := by kernel_rfl
theorem Try.infoI : (Try.prog.info? 3).map (fun i => (i.zero, i.size, i.bytes)) = some (some (.int .i64 0), 1, 8) := by kernel_rfl
theorem size_of {e : TypeId} {z : Option Value} {b k : Nat} (h : (Try.prog.info? e).map (fun i => (i.zero, i.size, i.bytes)) = some (z, k, b)) (w : World) : (sizeOf e).run Try.prog w = .ok k w := by
  cases hi : Try.prog.info? e with
  | none => rw [hi] at h; cases h
  | some i =>
    rw [hi] at h
    simp at h
    simp [sizeOf, typeInfo, hi, h.2.1]
theorem sClone_any (k : Key) (w : World) :
    Calls Try.prog 46 #[.string k.s] w fun e w' => e = .returned (.string k.s) ∧ Below w.heap.size w w' := by
  have h := Try.stringslite_Clone k.s w (by have := k.h; omega)
  go_enter Try.func46, Try.ntmps46
  go_wp2_with (go_at_call 56; refine h.mono ?_; rintro e w1 ⟨rfl, hb⟩)
  go_ret
  exact ⟨rfl, hb⟩
/-- The row of block g holds the list m, and may be written. -/
structure Row (w : World) (g : Nat) (m : List Lk) : Prop where
  cells : w.rangeAt g 0 (lks m)
  there : w.there g 0 (m.length * 3)
theorem Row.cell3 {w : World} {g : Nat} {m : List Lk} (h : Row w g m) {j : Nat} {v : Lk} (hj : m[j]? = some v) : Cell3 w ⟨g, j * 3, none⟩ v := by
  have hx : ∀ i x, (lkC v)[i]? = some x → i < 3 → w.cell? ⟨g, j * 3 + i, none⟩ = some x := fun i x hi hlt => by
    have h1 := h.cells (j * 3 + i) x ((flat_get m j i v hj hlt).trans hi)
    rwa [Nat.zero_add] at h1
  exact ⟨hx 0 _ rfl (by omega), hx 1 _ rfl (by omega), hx 2 _ rfl (by omega)⟩
theorem Row.rd {w : World} {g n : Nat} {m : List Lk} (h : Row w g m) (hn : m.length = n) (hc : n ≤ 9223372036854775807) : Rd w (some ⟨g, 0, none⟩) n n m :=
  ⟨hn, Nat.le_refl _, hc, (fun e => by cases e), fun ad e j v hj => by
    injection e with e
    subst e
    rw [add_lit, Nat.zero_add]
    exact h.cell3 hj⟩
theorem Row.at_ {w : World} {g : Nat} {m : List Lk} {j : Nat} (h : Row w g m) (hj : j < m.length) :
    w.cell? ⟨g, j * 3, none⟩ = some (.int .i64 m[j].t) ∧ w.cell? ⟨g, j * 3 + 1, none⟩ = some (.string m[j].lo.s) ∧ w.cell? ⟨g, j * 3 + 2, none⟩ = some (.string m[j].hi.s) ∧
    w.frozen? ⟨g, j * 3, none⟩ = false ∧ w.frozen? ⟨g, j * 3 + 1, none⟩ = false ∧ w.frozen? ⟨g, j * 3 + 2, none⟩ = false := by
  obtain ⟨h0, h1, h2⟩ := h.cell3 (List.getElem?_eq_getElem hj)
  have t0 := (h.there (j * 3) (by omega)).2
  have t1 := (h.there (j * 3 + 1) (by omega)).2
  have t2 := (h.there (j * 3 + 2) (by omega)).2
  rw [Nat.zero_add] at t0 t1 t2
  exact ⟨h0, h1, h2, t0, t1, t2⟩
theorem Row.att {w : World} {g : Nat} {m : List Lk} {j : Nat} (h : Row w g m) (hj : j < m.length) : ∃ z : Lk,
    w.cell? ⟨g, j * 3, none⟩ = some (.int .i64 z.t) ∧ w.cell? ⟨g, j * 3 + 1, none⟩ = some (.string z.lo.s) ∧ w.cell? ⟨g, j * 3 + 2, none⟩ = some (.string z.hi.s) ∧
    w.frozen? ⟨g, j * 3, none⟩ = false ∧ w.frozen? ⟨g, j * 3 + 1, none⟩ = false ∧ w.frozen? ⟨g, j * 3 + 2, none⟩ = false := ⟨_, h.at_ hj⟩
theorem Row.lt {w : World} {g : Nat} {m : List Lk} (h : Row w g m) (hm : 0 < m.length) : g < w.heap.size := by
  obtain ⟨v, hv⟩ := Option.isSome_iff_exists.1 (h.there 0 (by omega)).1
  exact cell_lt hv
theorem Row.below {w w' : World} {g : Nat} {m : List Lk} (h : Row w g m) (hb : Below w.heap.size w w') : Row w' g m := by
  by_cases hm : 0 < m.length
  · have hg := h.lt hm
    refine ⟨fun j v hj => (hb.cell (p := ⟨g, 0 + j, none⟩) hg).trans (h.cells j v hj), fun j hj => ?_⟩
    have h1 := h.there j hj
    rw [← hb.cell (p := ⟨g, 0 + j, none⟩) hg, ← hb.frozen (p := ⟨g, 0 + j, none⟩) hg] at h1
    exact h1
  · have e : m = [] := List.eq_nil_of_length_eq_zero (by omega)
    subst e
    exact ⟨fun j v hj => by simp [lks] at hj, fun j hj => by simp at hj⟩
theorem Row.other {w : World} {g : Nat} {m : List Lk} (h : Row w g m) (p : Addr) (v : Value) (hp : p.block ≠ g) : Row (w.setCell p v) g m := by
  refine ⟨fun j u hj => ?_, fun j hj => ?_⟩
  · rw [World.cell?_setCell_other w p ⟨g, 0 + j, none⟩ v (fun e => hp (by rw [e]))]
    exact h.cells j u hj
  · have h1 := h.there j hj
    rw [World.cell?_setCell_other w p ⟨g, 0 + j, none⟩ v (fun e => hp (by rw [e]))]
    exact ⟨h1.1, by rw [World.frozen?_setCell]; exact h1.2⟩
theorem lks_set (m : List Lk) (i : Nat) (v : Lk) (hi : i < m.length) : ∀ j, (lks (m.set i v))[j]? = if i * 3 ≤ j ∧ j < i * 3 + 3 then (lkC v)[j - i * 3]? else (lks m)[j]? := by
  intro j
  by_cases hj : j < m.length * 3
  · obtain ⟨q, r, rfl, hr⟩ : ∃ q r, j = q * 3 + r ∧ r < 3 := ⟨j / 3, j % 3, by omega, by omega⟩
    have hq : q < m.length := by omega
    by_cases hqi : q = i
    · subst hqi
      rw [if_pos (by omega)]
      have := flat_get (m.set q v) q r v (by simp [hq]) hr
      have e : q * 3 + r - q * 3 = r := by omega
      rw [e]
      exact this
    · rw [if_neg (by omega)]
      have h1 := flat_get (m.set i v) q r m[q] (by rw [List.getElem?_set_ne (by omega)]; exact List.getElem?_eq_getElem hq) hr
      have h2 := flat_get m q r m[q] (List.getElem?_eq_getElem hq) hr
      exact h1.trans h2.symm
  · rw [if_neg (by omega), List.getElem?_eq_none (by rw [lks_len]; simp; omega), List.getElem?_eq_none (by rw [lks_len]; omega)]
theorem Row.set {w : World} {g i : Nat} {m : List Lk} (h : Row w g m) (v : Lk) (hi : i < m.length) : Row (w.setCells g (i * 3) (lkC v)) g (m.set i v) := by
  refine ⟨fun j u hj => ?_, ?_⟩
  · rw [lks_set m i v hi] at hj
    split at hj
    · rename_i hr
      have hs := World.cell?_setCells_in g (lkC v) (i * 3) w (fun t ht => by
        have := (h.there (i * 3 + t) (by simp [lkC] at ht; omega)).1
        rwa [Nat.zero_add] at this) (j - i * 3) (by simp [lkC]; omega)
      have e : i * 3 + (j - i * 3) = 0 + j := by omega
      rw [e] at hs
      rw [hs, ← hj, List.getElem?_eq_getElem]
    · rename_i hr
      rw [World.cell?_setCells_out g (lkC v) (i * 3) w ⟨g, 0 + j, none⟩ (fun _ _ => by simp [lkC]; omega)]
      exact h.cells j u hj
  · rw [List.length_set]
    exact World.there_setCells h.there _ _ _
theorem below_cells {B g : Nat} (hB : B ≤ g) : ∀ (vs : List Value) (o : Nat) {a w : World}, Below B a w → Below B a (w.setCells g o vs)
  | [], _, _, _, h => h
  | v :: r, o, a, w, h => below_cells hB r (o + 1) (h.setCell (by omega) v)
def zL : Lk := ⟨0, noKey, noKey⟩
theorem made (n : Nat) : (madeCells #[.int .i64 0, .string ⟨#[]⟩, .string ⟨#[]⟩] (n * 3)).toList = lks (List.replicate n zL) := by
  refine List.ext_getElem? fun j => ?_
  by_cases hj : j < n * 3
  · obtain ⟨q, r, rfl, hr⟩ : ∃ q r, j = q * 3 + r ∧ r < 3 := ⟨j / 3, j % 3, by omega, by omega⟩
    rw [flat_get _ q r zL (by rw [List.getElem?_replicate, if_pos (by omega)]) hr]
    have e : (q * 3 + r) % 3 = r := by omega
    simp only [madeCells, Array.toList_map, Array.toList_range, List.getElem?_map, List.getElem?_range hj, Option.map_some]
    rcases (show r = 0 ∨ r = 1 ∨ r = 2 by omega) with rfl | rfl | rfl
    all_goals simp [lkC, zL, noKey, e]
  · rw [List.getElem?_eq_none (by simp [madeCells]; omega), List.getElem?_eq_none (by rw [lks_len]; simp; omega)]
theorem row_of_own {w : World} {B g n : Nat} {e : TypeId} {m : List Lk} (h : w.ownsRow B e 3 (.slice (some ⟨g, 0, none⟩) n n) n (lks m)) : Row w g m := by
  have hl : (lks m).length = n * 3 := h.1
  have hl2 := hl
  rw [lks_len] at hl2
  rcases h.2 with ⟨e, _⟩ | ⟨g', cap, cur, e, hb, hg, hc, hm, hs, ht⟩
  · cases e
  · simp only [Value.slice.injEq, Option.some.injEq, Addr.mk.injEq] at e
    obtain ⟨⟨rfl, _⟩, _, rfl⟩ := e
    refine ⟨fun j u hj => ?_, fun j hj => ?_⟩
    · have hj' : j < n * 3 := by rw [← hl]; exact (List.getElem?_eq_some_iff.1 hj).1
      rw [Nat.zero_add, h.cellAt j hj', hj]
    · have hj' : j < n * 3 := by omega
      have hj2 : j < (lks m).length := by omega
      refine ⟨?_, ?_⟩
      · rw [Nat.zero_add, h.cellAt j hj', List.getElem?_eq_getElem hj2]; rfl
      · rw [Nat.zero_add]
        unfold World.frozen?
        rw [hg]
        simp

end Go.Proofs.Ytmjcmeebcochgaa
