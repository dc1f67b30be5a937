/- How lists of transactions lie in memory, and what keeps them. Conditions: lengths that every machine keeps. -/
import Derived.Test.YtlcmpngjmmbkcaaVa
import Derived.Deep.MidRow
import Derived.Lib.SliceRun
import Derived.Lib.OwnKind
namespace Go.Proofs.Ytlcmpngjmmbkcaa
open Go.RowKit
set_option linter.unusedSimpArgs false
set_option linter.unusedVariables false

theorem add_block (a : Addr) (n : Nat) : (a.add n).block = a.block := by unfold Addr.add; split <;> rfl
theorem add_ne {ad : Addr} {i : Nat} (h : i ≠ 0) : ad.add i = ⟨ad.block, ad.off + i, none⟩ := by unfold Addr.add; rw [if_neg h]
theorem add_zero (ad : Addr) : ad.add 0 = ad := by unfold Addr.add; rw [if_pos rfl]
theorem add_off {ad : Addr} {i : Nat} : (ad.add i).off = ad.off + i := by unfold Addr.add; split <;> simp_all
theorem add_two {ad : Addr} (i j : Nat) (h : j ≠ 0) : ad.add (i + j) = ⟨(ad.add i).block, (ad.add i).off + j, none⟩ := by
  rw [add_ne (by omega), add_block, add_off, Nat.add_assoc]
theorem add_add_ (a : Addr) (i j : Nat) : (a.add i).add j = a.add (i + j) := by
  unfold Addr.add
  by_cases hi : i = 0 <;> by_cases hj : j = 0 <;> simp [hi, hj, Nat.add_assoc]
theorem add_lit (g o i : Nat) : (⟨g, o, none⟩ : Addr).add i = ⟨g, o + i, none⟩ := by unfold Addr.add; split <;> simp_all

@[reducible] def txC (v : Tx) : List Value := [.int .i64 v.i, .int .i64 v.s, .int .i64 v.e, .bool v.a, .bool v.o]
def txs (l : List Tx) : List Value := l.flatMap txC
theorem txs_len (l : List Tx) : (txs l).length = l.length * 5 := by
  unfold txs
  induction l with
  | nil => rfl
  | cons a l ih => simp [ih]; omega
theorem txs_app (l m : List Tx) : txs (l ++ m) = txs l ++ txs m := by simp [txs]
theorem txs_one (l : List Tx) : ∀ u ∈ txs l, u.oneCell' = true := by
  intro u hu
  simp only [txs, List.mem_flatMap] at hu
  obtain ⟨v, _, hv⟩ := hu
  simp [txC] at hv
  rcases hv with rfl | rfl | rfl | rfl | rfl <;> rfl
theorem flat_get : ∀ (l : List Tx) (j i : Nat) (v : Tx), l[j]? = some v → i < 5 → (txs l)[j * 5 + i]? = (txC v)[i]?
  | [], j, i, v, h, _ => by simp at h
  | a :: l, 0, i, v, h, hi => by
    simp at h; subst h
    unfold txs
    rw [List.flatMap_cons, List.getElem?_append_left (by simp [txC]; omega)]
    simp
  | a :: l, j + 1, i, v, h, hi => by
    unfold txs
    rw [List.flatMap_cons, List.getElem?_append_right (by simp [txC]; omega)]
    have e : (j + 1) * 5 + i - (txC a).length = j * 5 + i := by simp [txC]; omega
    rw [e]
    exact flat_get l j i v (by simpa using h) hi

/-- The five cells of a transaction at p. -/
def Cell5 (w : World) (p : Addr) (v : Tx) : Prop := w.cell? p = some (.int .i64 v.i) ∧ w.cell? ⟨p.block, p.off + 1, none⟩ = some (.int .i64 v.s) ∧ w.cell? ⟨p.block, p.off + 2, none⟩ = some (.int .i64 v.e) ∧ w.cell? ⟨p.block, p.off + 3, none⟩ = some (.bool v.a) ∧ w.cell? ⟨p.block, p.off + 4, none⟩ = some (.bool v.o)
theorem Cell5.lt {w : World} {p : Addr} {v : Tx} (h : Cell5 w p v) : p.block < w.heap.size := cell_lt h.1
theorem Cell5.below {w w' : World} {p : Addr} {v : Tx} (h : Cell5 w p v) (hb : Below w.heap.size w w') : Cell5 w' p v :=
  ⟨cell_keep h.1 hb, cell_keep h.2.1 hb, cell_keep h.2.2.1 hb, cell_keep h.2.2.2.1 hb, cell_keep h.2.2.2.2 hb⟩
/-- The Ends are numbers of 64 bits. -/
def Rng (l : List Tx) : Prop := ∀ t ∈ l, -9223372036854775808 ≤ t.e ∧ t.e ≤ 9223372036854775807
theorem Ok.rng {s : St} (h : Ok s) : Rng s.l := fun t ht => by
  have := mayB_iff.1 (h.may t ht)
  have := h.c1
  omega
theorem rng_nil : Rng [] := fun t ht => by simp at ht
/-- The slice at A of n transactions, with room for c, reads as the list l. -/
structure Rd (w : World) (A : Option Addr) (n c : Nat) (l : List Tx) : Prop where
  len : l.length = n
  le : n ≤ c
  cap : c ≤ 9223372036854775807
  nil : A = none → n = 0 ∧ c = 0
  cells : ∀ ad, A = some ad → ∀ (j : Nat) (v : Tx), l[j]? = some v → Cell5 w (ad.add (j * 5)) v
  rng : Rng l
section
variable {w w' : World} {A : Option Addr} {n c : Nat} {l : List Tx}
theorem Rd.below (h : Rd w A n c l) (hb : Below w.heap.size w w') : Rd w' A n c l :=
  ⟨h.len, h.le, h.cap, h.nil, fun ad e j v hj => (h.cells ad e j v hj).below hb, h.rng⟩
theorem Rd.nothing (w : World) : Rd w none 0 0 [] := ⟨rfl, Nat.le_refl _, by omega, fun _ => ⟨rfl, rfl⟩, (fun ad e => by cases e), rng_nil⟩
theorem Rd.at_ (h : Rd w A n c l) {k : Nat} (hk : k < l.length) : ∃ ad, A = some ad ∧ Cell5 w (ad.add (k * 5)) l[k] := by
  cases A with
  | none => have := (h.nil rfl).1; have := h.len; omega
  | some ad => exact ⟨ad, rfl, h.cells ad rfl k _ (List.getElem?_eq_getElem hk)⟩
theorem Rd.of_own {base : Nat} {e : TypeId} {v : Value} (h : w.ownsRow base e 5 v n (txs l)) (hg : Rng l) : ∃ A c, v = .slice A n c ∧ Rd w A n c l := by
  have hl : l.length = n := by have := h.1; rw [txs_len] at this; omega
  rcases h.2 with ⟨rfl, h0⟩ | ⟨g, cap, cur, rfl, _, _, hc, hm, _⟩
  · have : l = [] := List.eq_nil_of_length_eq_zero (by omega)
    subst this
    subst hl
    exact ⟨none, 0, rfl, Rd.nothing w⟩
  · refine ⟨_, cap, rfl, hl, hc, by unfold maxLen at hm; exact hm, (fun e => by cases e), fun ad e j u hj => ?_, hg⟩
    injection e with e
    subst e
    have hx : ∀ i x, (txC u)[i]? = some x → i < 5 → w.cell? ⟨g, j * 5 + i, none⟩ = some x := fun i x hi hlt => by
      have h1 := h.cells (g := g) rfl (j * 5 + i) x ((flat_get l j i u hj hlt).trans hi)
      rwa [add_lit, Nat.zero_add] at h1
    rw [add_lit, Nat.zero_add]
    exact ⟨hx 0 _ rfl (by omega), hx 1 _ rfl (by omega), hx 2 _ rfl (by omega), hx 3 _ rfl (by omega), hx 4 _ rfl (by omega)⟩
end
theorem Try.infoV : (Try.prog.info? 35).map (fun i => (i.zero, i.size, i.bytes)) = some (some (.agg #[.int .i64 0, .int .i64 0, .int .i64 0, .bool false, .bool false]), 5, 32) := by kernel_rfl

/-- The row of block g holds the list m, and may be written. -/
structure Row (w : World) (g : Nat) (m : List Tx) : Prop where
  cells : w.rangeAt g 0 (txs m)
  there : w.there g 0 (m.length * 5)
theorem Row.cell5 {w : World} {g : Nat} {m : List Tx} (h : Row w g m) {j : Nat} {v : Tx} (hj : m[j]? = some v) : Cell5 w ⟨g, j * 5, none⟩ v := by
  have hx : ∀ i x, (txC v)[i]? = some x → i < 5 → w.cell? ⟨g, j * 5 + i, none⟩ = some x := fun i x hi hlt => by
    have h1 := h.cells (j * 5 + i) x ((flat_get m j i v hj hlt).trans hi)
    rwa [Nat.zero_add] at h1
  exact ⟨hx 0 _ rfl (by omega), hx 1 _ rfl (by omega), hx 2 _ rfl (by omega), hx 3 _ rfl (by omega), hx 4 _ rfl (by omega)⟩
theorem Row.rd {w : World} {g n : Nat} {m : List Tx} (h : Row w g m) (hn : m.length = n) (hc : n ≤ 9223372036854775807) (hg : Rng m) : Rd w (some ⟨g, 0, none⟩) n n m :=
  ⟨hn, Nat.le_refl _, hc, (fun e => by cases e), (fun ad e j v hj => by
    injection e with e
    subst e
    rw [add_lit, Nat.zero_add]
    exact h.cell5 hj), hg⟩
theorem Row.free {w : World} {g : Nat} {m : List Tx} {j k : Nat} (h : Row w g m) (hj : j < m.length) (hk : k < 5) : w.frozen? ⟨g, j * 5 + k, none⟩ = false := by
  have t0 := (h.there (j * 5 + k) (by omega)).2
  rwa [Nat.zero_add] at t0
theorem Row.at_ {w : World} {g : Nat} {m : List Tx} {j : Nat} (h : Row w g m) (hj : j < m.length) :
    w.cell? ⟨g, j * 5, none⟩ = some (.int .i64 m[j].i) ∧ w.cell? ⟨g, j * 5 + 1, none⟩ = some (.int .i64 m[j].s) ∧ w.cell? ⟨g, j * 5 + 2, none⟩ = some (.int .i64 m[j].e) ∧ w.cell? ⟨g, j * 5 + 3, none⟩ = some (.bool m[j].a) ∧ w.cell? ⟨g, j * 5 + 4, none⟩ = some (.bool m[j].o) ∧
    w.frozen? ⟨g, j * 5, none⟩ = false ∧ w.frozen? ⟨g, j * 5 + 1, none⟩ = false ∧ w.frozen? ⟨g, j * 5 + 2, none⟩ = false ∧ w.frozen? ⟨g, j * 5 + 3, none⟩ = false ∧ w.frozen? ⟨g, j * 5 + 4, none⟩ = false := by
  obtain ⟨h0, h1, h2, h3, h4⟩ := h.cell5 (List.getElem?_eq_getElem hj)
  exact ⟨h0, h1, h2, h3, h4, h.free (k := 0) hj (by omega), h.free (k := 1) hj (by omega), h.free (k := 2) hj (by omega), h.free (k := 3) hj (by omega), h.free (k := 4) hj (by omega)⟩
theorem Row.lt {w : World} {g : Nat} {m : List Tx} (h : Row w g m) (hm : 0 < m.length) : g < w.heap.size := by
  obtain ⟨v, hv⟩ := Option.isSome_iff_exists.1 (h.there 0 (by omega)).1
  exact cell_lt hv
theorem Row.below {w w' : World} {g : Nat} {m : List Tx} (h : Row w g m) (hb : Below w.heap.size w w') : Row w' g m := by
  by_cases hm : 0 < m.length
  · have hg := h.lt hm
    refine ⟨fun j v hj => (hb.cell (p := ⟨g, 0 + j, none⟩) hg).trans (h.cells j v hj), fun j hj => ?_⟩
    have h1 := h.there j hj
    rw [← hb.cell (p := ⟨g, 0 + j, none⟩) hg, ← hb.frozen (p := ⟨g, 0 + j, none⟩) hg] at h1
    exact h1
  · have e : m = [] := List.eq_nil_of_length_eq_zero (by omega)
    subst e
    exact ⟨fun j v hj => by simp [txs] at hj, fun j hj => by simp at hj⟩
theorem Row.other {w : World} {g : Nat} {m : List Tx} (h : Row w g m) (p : Addr) (v : Value) (hp : p.block ≠ g) : Row (w.setCell p v) g m := by
  refine ⟨fun j u hj => ?_, fun j hj => ?_⟩
  · rw [World.cell?_setCell_other w p ⟨g, 0 + j, none⟩ v (fun e => hp (by rw [e]))]
    exact h.cells j u hj
  · have h1 := h.there j hj
    rw [World.cell?_setCell_other w p ⟨g, 0 + j, none⟩ v (fun e => hp (by rw [e]))]
    exact ⟨h1.1, by rw [World.frozen?_setCell]; exact h1.2⟩
/-- All of the row's block is as it was. -/
theorem Row.same {w w' : World} {g : Nat} {m : List Tx} (h : Row w g m) (hb : w'.heap[g]? = w.heap[g]?) : Row w' g m := by
  refine ⟨fun j u hj => ?_, fun j hj => ?_⟩
  · rw [World.cell?_of_block (a := ⟨g, 0 + j, none⟩) hb]
    exact h.cells j u hj
  · have h1 := h.there j hj
    rw [World.cell?_of_block (a := ⟨g, 0 + j, none⟩) hb, World.frozen?_of_block (a := ⟨g, 0 + j, none⟩) hb]
    exact h1
theorem txs_set (m : List Tx) (i : Nat) (v : Tx) (hi : i < m.length) : ∀ j, (txs (m.set i v))[j]? = if i * 5 ≤ j ∧ j < i * 5 + 5 then (txC v)[j - i * 5]? else (txs m)[j]? := by
  intro j
  by_cases hj : j < m.length * 5
  · obtain ⟨q, r, rfl, hr⟩ : ∃ q r, j = q * 5 + r ∧ r < 5 := ⟨j / 5, j % 5, by omega, by omega⟩
    have hq : q < m.length := by omega
    by_cases hqi : q = i
    · subst hqi
      rw [if_pos (by omega)]
      have := flat_get (m.set q v) q r v (by simp [hq]) hr
      have e : q * 5 + r - q * 5 = r := by omega
      rw [e]
      exact this
    · rw [if_neg (by omega)]
      have h1 := flat_get (m.set i v) q r m[q] (by rw [List.getElem?_set_ne (by omega)]; exact List.getElem?_eq_getElem hq) hr
      have h2 := flat_get m q r m[q] (List.getElem?_eq_getElem hq) hr
      exact h1.trans h2.symm
  · rw [if_neg (by omega), List.getElem?_eq_none (by rw [txs_len]; simp; omega), List.getElem?_eq_none (by rw [txs_len]; omega)]
theorem Row.set {w : World} {g i : Nat} {m : List Tx} (h : Row w g m) (v : Tx) (hi : i < m.length) : Row (w.setCells g (i * 5) (txC v)) g (m.set i v) := by
  refine ⟨fun j u hj => ?_, ?_⟩
  · rw [txs_set m i v hi] at hj
    split at hj
    · rename_i hr
      have hs := World.cell?_setCells_in g (txC v) (i * 5) w (fun t ht => by
        have := (h.there (i * 5 + t) (by simp [txC] at ht; omega)).1
        rwa [Nat.zero_add] at this) (j - i * 5) (by simp [txC]; omega)
      have e : i * 5 + (j - i * 5) = 0 + j := by omega
      rw [e] at hs
      rw [hs, ← hj, List.getElem?_eq_getElem]
    · rename_i hr
      rw [World.cell?_setCells_out g (txC v) (i * 5) w ⟨g, 0 + j, none⟩ (fun _ _ => by simp [txC]; omega)]
      exact h.cells j u hj
  · rw [List.length_set]
    exact World.there_setCells h.there _ _ _
/-- One field written over. -/
theorem Row.put {w : World} {g i : Nat} {m : List Tx} (h : Row w g m) (v : Tx) (hi : i < m.length) (k : Nat) (hk : k < 5) (x : Value) (hx : (txC v)[k]? = some x) (ho : ∀ r, r ≠ k → (txC v)[r]? = (txC m[i])[r]?) : Row (w.setCell ⟨g, i * 5 + k, none⟩ x) g (m.set i v) := by
  have hold : ∃ u, w.cell? ⟨g, i * 5 + k, none⟩ = some u := by
    have := (h.there (i * 5 + k) (by omega)).1
    rw [Nat.zero_add] at this
    exact Option.isSome_iff_exists.1 this
  obtain ⟨u0, hu0⟩ := hold
  refine ⟨fun j u hj => ?_, fun j hj => ?_⟩
  · rw [txs_set m i v hi] at hj
    by_cases e : j = i * 5 + k
    · subst e
      rw [if_pos (by omega)] at hj
      have e2 : i * 5 + k - i * 5 = k := by omega
      rw [e2, hx] at hj
      injection hj with hj
      subst hj
      rw [Nat.zero_add]
      exact World.cell?_setCell_same w _ _ hu0
    · rw [World.cell?_setCell_other w ⟨g, i * 5 + k, none⟩ ⟨g, 0 + j, none⟩ _ (by simp <;> omega)]
      refine h.cells j u ?_
      rw [← hj]
      split
      · rename_i hr
        rw [ho _ (by omega)]
        have := flat_get m i (j - i * 5) m[i] (List.getElem?_eq_getElem hi) (by omega)
        have e2 : i * 5 + (j - i * 5) = j := by omega
        rw [e2] at this
        exact this
      · rfl
  · rw [List.length_set] at hj
    have h1 := h.there j hj
    by_cases e : j = i * 5 + k
    · subst e
      rw [Nat.zero_add] at h1 ⊢
      exact ⟨by rw [World.cell?_setCell_same w _ _ hu0]; rfl, by rw [World.frozen?_setCell]; exact h1.2⟩
    · rw [World.cell?_setCell_other w ⟨g, i * 5 + k, none⟩ ⟨g, 0 + j, none⟩ _ (by simp <;> omega), World.frozen?_setCell]
      exact h1
theorem below_cells {B g : Nat} (hB : B ≤ g) : ∀ (vs : List Value) (o : Nat) {a w : World}, Below B a w → Below B a (w.setCells g o vs)
  | [], _, _, _, h => h
  | v :: r, o, a, w, h => below_cells hB r (o + 1) (h.setCell (by omega) v)
def zT : Tx := ⟨0, 0, 0, false, false⟩
theorem made (n : Nat) : (madeCells #[.int .i64 0, .int .i64 0, .int .i64 0, .bool false, .bool false] (n * 5)).toList = txs (List.replicate n zT) := by
  refine List.ext_getElem? fun j => ?_
  by_cases hj : j < n * 5
  · obtain ⟨q, r, rfl, hr⟩ : ∃ q r, j = q * 5 + r ∧ r < 5 := ⟨j / 5, j % 5, by omega, by omega⟩
    rw [flat_get _ q r zT (by rw [List.getElem?_replicate, if_pos (by omega)]) hr]
    have e : (q * 5 + r) % 5 = r := by omega
    simp only [madeCells, Array.toList_map, Array.toList_range, List.getElem?_map, List.getElem?_range hj, Option.map_some]
    rcases (show r = 0 ∨ r = 1 ∨ r = 2 ∨ r = 3 ∨ r = 4 by omega) with rfl | rfl | rfl | rfl | rfl
    all_goals simp [txC, zT, e]
  · rw [List.getElem?_eq_none (by simp [madeCells]; omega), List.getElem?_eq_none (by rw [txs_len]; simp; omega)]
theorem row_of_own {w : World} {B g n : Nat} {e : TypeId} {m : List Tx} (h : w.ownsRow B e 5 (.slice (some ⟨g, 0, none⟩) n n) n (txs m)) : Row w g m := by
  have hl : (txs m).length = n * 5 := h.1
  have hl2 := hl
  rw [txs_len] at hl2
  rcases h.2 with ⟨e, _⟩ | ⟨g', cap, cur, e, hb, hg, hc, hm, hs, ht⟩
  · cases e
  · simp only [Value.slice.injEq, Option.some.injEq, Addr.mk.injEq] at e
    obtain ⟨⟨rfl, _⟩, _, rfl⟩ := e
    refine ⟨fun j u hj => ?_, fun j hj => ?_⟩
    · have hj' : j < n * 5 := by rw [← hl]; exact (List.getElem?_eq_some_iff.1 hj).1
      rw [Nat.zero_add, h.cellAt j hj', hj]
    · have hj' : j < n * 5 := by omega
      have hj2 : j < (txs m).length := by omega
      refine ⟨?_, ?_⟩
      · rw [Nat.zero_add, h.cellAt j hj', List.getElem?_eq_getElem hj2]; rfl
      · rw [Nat.zero_add]
        unfold World.frozen?
        rw [hg]
        simp
theorem set_same {w : World} {p : Addr} {u : Value} (v : Value) (h : w.cell? p = some u) : (w.setCell p v).cell? p = some v := World.cell?_setCell_same w p v h
theorem own_below {B : Nat} {e : TypeId} {k : Nat} {v : Value} {n : Nat} {xs : List Value} {w w' : World} (h : w.ownsRow B e k v n xs) (hb : Below w.heap.size w w') : w'.ownsRow B e k v n xs :=
  h.kept (row := none) ⟨hb.os, hb.tape, hb.output, hb.size, fun k hk _ => hb.block k hk⟩ (by cases hv : v.ownBlock <;> simp)
end Go.Proofs.Ytlcmpngjmmbkcaa
