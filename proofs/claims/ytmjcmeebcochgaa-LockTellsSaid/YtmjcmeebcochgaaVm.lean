/- What slices.Compact makes of numbers in memory of the call's own. Conditions: lengths that every machine keeps. -/
import Derived.Test.YtmjcmeebcochgaaVl
import Derived.Lib.SlicesCompact
import Derived.Sort.Grow
namespace Go.Proofs.Ytmjcmeebcochgaa
open Go.RowKit Go.Sort Go.Maps
set_option linter.unusedSimpArgs false
set_option linter.unusedVariables false

theorem comp_snoc (x : Int) : ∀ l : List Int, comp (l ++ [x]) = if l.getLast? = some x then comp l else comp l ++ [x]
  | [] => by simp [comp]
  | [a] => by
    by_cases h : a = x <;> simp [comp, h]
  | a :: b :: r => by
    have ih := comp_snoc x (b :: r)
    obtain ⟨s, hs⟩ := comp_cons_head b r
    have e1 : comp (a :: b :: r) = a :: (if a = b then s else b :: s) := by rw [comp, hs]
    have e2 : (a :: b :: r).getLast? = (b :: r).getLast? := by simp
    have e3 : (a :: b :: r) ++ [x] = a :: ((b :: r) ++ [x]) := rfl
    rw [e1, e2, e3, comp, ih, hs]
    by_cases h : (b :: r).getLast? = some x
    · simp only [h, if_true]
    · simp only [h, if_false, List.cons_append]
      split <;> simp_all
theorem comp_up (zs : List Int) : ∀ m, m ≤ zs.length → Lib.compactUpTo zs.toArray m = comp (zs.take m)
  | 0, _ => by simp [Lib.compactUpTo, comp]
  | m + 1, h => by
    rw [Lib.compactUpTo_succ, comp_up zs m (by omega), List.take_succ_eq_append_getElem (by omega), comp_snoc]
    have e0 : zs.toArray[m]! = zs[m] := by rw [getElem!_pos zs.toArray m (by simp; omega)]; simp
    have hl : (zs.take m).getLast? = if m = 0 then none else some (zs[m - 1]'(by omega)) := by
      by_cases h0 : m = 0
      · subst h0; simp
      · rw [if_neg h0, List.getLast?_eq_getElem?, List.length_take, List.getElem?_take, if_pos (by omega), Nat.min_eq_left (by omega)]
        exact List.getElem?_eq_getElem (by omega)
    rw [hl, e0]
    by_cases h0 : m = 0
    · subst h0
      simp [Lib.keeps]
    · have e1 : zs.toArray[m - 1]! = zs[m - 1] := by rw [getElem!_pos zs.toArray (m - 1) (by simp; omega)]; simp
      rw [if_neg h0]
      by_cases hc : zs[m] = zs[m - 1]
      · rw [Lib.keeps_neg (by omega) (by rw [e0, e1]; exact hc)]
        simp [hc]
      · rw [Lib.keeps_pos (by rw [e0, e1]; exact hc)]
        simp [Ne.symm hc]
theorem comp_all (zs : List Int) : Lib.compactUpTo zs.toArray zs.toArray.size = comp zs := by
  have := comp_up zs zs.length (Nat.le_refl _)
  rw [List.take_length] at this
  simpa using this
theorem comp_len (zs : List Int) : (comp zs).length ≤ zs.length := by
  rw [← comp_all]
  unfold Lib.compactUpTo
  rw [List.length_map]
  refine Nat.le_trans (List.length_filter_le _ _) ?_
  simp
/-- The slice at A of n numbers, with room for c, reads as the list l. -/
structure RdI (w : World) (A : Option Addr) (n c : Nat) (l : List Int) : Prop where
  len : l.length = n
  le : n ≤ c
  cap : c ≤ 9223372036854775807
  nil : A = none → n = 0 ∧ c = 0
  cells : ∀ ad, A = some ad → ∀ (j : Nat) (v : Int), l[j]? = some v → w.cell? (ad.add j) = some (.int .i64 v)
theorem RdI.below {w w' : World} {A : Option Addr} {n c : Nat} {l : List Int} (h : RdI w A n c l) (hb : Below w.heap.size w w') : RdI w' A n c l :=
  ⟨h.len, h.le, h.cap, h.nil, fun ad e j v hj => cell_keep (h.cells ad e j v hj) hb⟩
theorem RdI.nothing (w : World) : RdI w none 0 0 [] := ⟨rfl, Nat.le_refl _, by omega, fun _ => ⟨rfl, rfl⟩, fun ad e => by cases e⟩
theorem RdI.at_ {w : World} {A : Option Addr} {n c : Nat} {l : List Int} (h : RdI w A n c l) {k : Nat} (hk : k < l.length) : ∃ ad, A = some ad ∧ w.cell? (ad.add k) = some (.int .i64 l[k]) := by
  cases A with
  | none => have := (h.nil rfl).1; have := h.len; omega
  | some ad => exact ⟨ad, rfl, h.cells ad rfl k _ (List.getElem?_eq_getElem hk)⟩
/-- What is answered reads as the numbers. -/
def NumX (l : List Int) (w : World) (e : Ending) (w' : World) : Prop := ∃ A n c, e = .returned (.slice A n c) ∧ RdI w' A n c l ∧ ∀ w0 : World, Below w0.heap.size w0 w → Below w0.heap.size w0 w'
@[reducible] def encN (l : List Int) : List Value := l.map (Value.int .i64)
set_option maxHeartbeats 2000000 in
theorem compact_any (B : Nat) (v : Value) (zs : List Int) (w : World) (hB : B ≤ w.heap.size) (hn : zs.length ≤ 1000000) (h : w.ownsRow B 3 1 v zs.length (encN zs)) :
    Calls Try.prog 39 #[v] w fun e w' => ∃ A n c, e = .returned (.slice A n c) ∧ RdI w' A n c (comp zs) ∧ Below B w w' := by
  rcases Go.Joins.ownsRow_forms h with ⟨rfl, h0⟩ | ⟨g, cap, rfl⟩
  · obtain rfl : zs = [] := List.eq_nil_of_length_eq_zero h0
    go_enter Try.func39, Try.ntmps39
    go_wp2
    go_ret
    exact ⟨none, 0, 0, rfl, RdI.nothing _, Below.refl _ _⟩
  · have hc : zs.length ≤ cap ∧ cap ≤ 9223372036854775807 ∧ B ≤ g ∧ ∃ cur, w.heap[g]? = some (.cells cur 3 (0, 0)) := by
      rcases h.2 with ⟨h', _⟩ | ⟨g', cap', cur, h', hb, hg, h2, h3, _⟩
      · cases h'
      · injection h' with e1 _ e2
        injection e1 with e1
        injection e1 with e1
        subst e1 e2
        exact ⟨h2, by unfold maxLen at h3; exact h3, hb, cur, hg⟩
    obtain ⟨hc1, hc2, hbg, cur, hg⟩ := hc
    have hH : Holds encI w g 0 zs.toArray := fun j hj => by
      have hj' : j < zs.length := by simpa using hj
      have h1 := h.cells (g := g) rfl j (.int .i64 zs[j]) (by simp [encN, List.getElem?_eq_getElem hj'])
      rw [add_lit] at h1
      refine ⟨?_, frozen_of_row w g (0 + j) cur _ hg⟩
      rw [getElem!_pos zs.toArray j hj]
      simpa using h1
    have hcall := Try.slices_Compact_int_arr g 0 cap zs.toArray w hH (by simp; omega) (by simpa using hc1)
    rw [comp_all] at hcall
    have hsz : zs.toArray.size = zs.length := by simp
    rw [hsz] at hcall
    refine hcall.mono fun e w' ⟨he, q, hw⟩ => ?_
    have hl := comp_len zs
    have hs2 : (comp zs ++ List.replicate (zs.length - (comp zs).length) 0).toArray.size = zs.toArray.size := by simp; omega
    refine ⟨_, _, _, he, ⟨rfl, by omega, hc2, (fun e => by cases e), fun ad ea j u hj => ?_⟩, ?_⟩
    · injection ea with ea
      subst ea
      have hj1 : j < (comp zs).length := (List.getElem?_eq_some_iff.1 hj).1
      have h1 := cell?_putRow encI (Sort.ahead w q) g 0 zs.toArray (comp zs ++ List.replicate (zs.length - (comp zs).length) 0).toArray (holds_ahead encI w q g 0 _ hH) hs2 j (by simp; omega)
      rw [hw, add_lit]
      rw [h1, getElem!_pos _ j (by simp; omega)]
      have h2 := (List.getElem?_eq_some_iff.1 hj).2
      simp [List.getElem_append_left hj1, h2]
    · rw [hw]
      refine ⟨rfl, rfl, rfl, by simp, fun k hk => ?_⟩
      have : g ≠ k := by omega
      simp [putRow, mapBlock, Sort.ahead, Array.getElem?_modify, this]
end Go.Proofs.Ytmjcmeebcochgaa
