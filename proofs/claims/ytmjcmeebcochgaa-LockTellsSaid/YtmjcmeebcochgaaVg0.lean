/- Rows that are written over, grown and copied: memory alone. Conditions: none. -/
import Derived.Test.YtmjcmeebcochgaaVf
import Derived.Lib.Overlaps
import Derived.Lib.AppendZerosOnto
import Derived.Lib.SmallJoins
import Derived.Laws.IdiomCopy
import Derived.Laws.Externs
import Derived.Laws.NewBlocks
import Derived.Deep.RegionLaw
import Derived.Shelf.RegionOpenPlain
namespace Go.Proofs.Ytmjcmeebcochgaa
open Go.RowKit Go.Sort Go.Maps
set_option linter.unusedSimpArgs false
set_option linter.unusedVariables false

theorem heap_setCells (g : Nat) (e : TypeId) : ∀ (vs : List Value) (o : Nat) (w : World) (cur : Array Value), w.heap[g]? = some (.cells cur e (0, 0)) → o + vs.length ≤ cur.size →
    ∃ cur', (w.setCells g o vs).heap[g]? = some (.cells cur' e (0, 0)) ∧ cur'.size = cur.size ∧ ∀ j : Nat, cur'[j]? = if o ≤ j ∧ j < o + vs.length then vs[j - o]? else cur[j]?
  | [], o, w, cur, h, _ => ⟨cur, h, rfl, fun j => by rw [if_neg (by simp)]⟩
  | v :: r, o, w, cur, h, hl => by
    have hl' : o + (r.length + 1) ≤ cur.size := by simpa using hl
    obtain ⟨cur', h1, h2, h3⟩ := heap_setCells g e r (o + 1) _ _ (heap_setCell_same w g o cur e v h) (by simp; omega)
    refine ⟨cur', h1, by simpa using h2, fun j => ?_⟩
    rw [h3, List.length_cons]
    by_cases c1 : o + 1 ≤ j ∧ j < o + 1 + r.length
    · rw [if_pos c1, if_pos (by omega)]
      have e1 : j - o = (j - (o + 1)) + 1 := by omega
      rw [e1, List.getElem?_cons_succ]
    · rw [if_neg c1]
      by_cases c2 : j = o
      · subst c2
        rw [if_pos (by omega), Nat.sub_self, Array.getElem?_setIfInBounds_self_of_lt (by omega)]
        rfl
      · rw [if_neg (by omega), Array.getElem?_setIfInBounds_ne (by omega)]
theorem grown_setCell (w : World) (g o : Nat) (v : Value) : w.grownBy (w.setCell ⟨g, o, none⟩ v) (some g) :=
  ⟨rfl, rfl, rfl, by simp, fun k _ hk => heap_setCell_other w ⟨g, o, none⟩ k v (fun e => hk (by simp [e]))⟩
theorem grown_refl (w : World) (r : Option Nat) : w.grownBy w r := ⟨rfl, rfl, rfl, Nat.le_refl _, fun _ _ _ => rfl⟩
theorem grown_trans {a b c : World} {r : Option Nat} (h1 : a.grownBy b r) (h2 : b.grownBy c r) : a.grownBy c r :=
  ⟨h2.os.trans h1.os, h2.tape.trans h1.tape, h2.output.trans h1.output, Nat.le_trans h1.size h2.size, fun k hk hne => (h2.block k (Nat.lt_of_lt_of_le hk h1.size) hne).trans (h1.block k hk hne)⟩
theorem grown_setCells (g : Nat) : ∀ (vs : List Value) (o : Nat) (w : World), w.grownBy (w.setCells g o vs) (some g)
  | [], _, w => grown_refl w _
  | v :: r, o, w => grown_trans (grown_setCell w g o v) (grown_setCells g r (o + 1) _)
theorem grown_drew (w : World) (r : Option Nat) : w.grownBy w.drew r := ⟨rfl, rfl, rfl, Nat.le_refl _, fun _ _ _ => rfl⟩

theorem copy_run (w : World) {o : Oper} {a : Act} {K : Act → World → Prop} {Q : Exit → Act → World → Prop} (d s : Operand) (t t' : TypeId)
    (ho : o.op = .call { callee := .builtin .copy, args := #[d, s], argTypes := #[t, t'] }) (v u : Value) (hd : a.eval d = v) (hs : a.eval s = u) {v' : Value} {w' : World}
    (hr : (Builtin.copy_ #[t, t'] o.type #[v, u]).run Try.prog w = .ok v' w') (h : K (a.put o.dst v') w') : o.wp Try.prog a w K Q := by
  unfold Oper.wp execOp
  simp only [ho, resolve, invoke, builtin, Sem.run_bind, Sem.run_pure, Result.andThen_ok, List.map_toArray, List.map_cons, List.map_nil, hd, hs, hr]
  exact h
theorem copy_list (w : World) {ops : Array Oper} {rest : List Oper} {o : Oper} {a : Act} {Q : Exit → Act → World → Prop} (hgd : o.guard = none) (d s : Operand) (t t' : TypeId)
    (ho : o.op = .call { callee := .builtin .copy, args := #[d, s], argTypes := #[t, t'] }) (v u : Value) (hd : a.eval d = v) (hs : a.eval s = u) {v' : Value} {w' : World}
    (hr : (Builtin.copy_ #[t, t'] o.type #[v, u]).run Try.prog w = .ok v' w') (h : wpList Try.prog ops Q rest (a.put o.dst v') w') : wpList Try.prog ops Q (o :: rest) a w :=
  wpList_plain hgd fun _ hK => copy_run w d s t t' ho v u hd hs hr (hK _ _ h)
theorem copy_step {ops : Array Oper} {o : Oper} {a : Act} {w : World} {K : Act → World → Prop} {Q : Exit → Act → World → Prop} {E : Prop}
    (hg : o.guard = none) (d s : Operand) (t t' : TypeId) (ho : o.op = Op.call { callee := Callee.builtin Builtin.copy, args := #[d, s], argTypes := #[t, t'] })
    (v u : Value) (hd : a.eval d = v) (hs : a.eval s = u) {v' : Value} {w' : World} (hr : (Builtin.copy_ #[t, t'] o.type #[v, u]).run Try.prog w = .ok v' w') (hK : K (a.put o.dst v') w') :
    if Region.wanted o (yielded ops a.tmps) = true then Oper.wp Try.prog o a w K Q else E := by
  have hw : Region.wanted o (yielded ops a.tmps) = true := by simp [Region.wanted, hg]
  rw [if_pos hw]
  exact copy_run w d s t t' ho v u hd hs hr hK

theorem grown_news (g : Nat) : ∀ (vs : List Value) (o : Nat) (a w : World), a.heap.size ≤ g → a.grownBy w none → a.grownBy (w.setCells g o vs) none
  | [], _, _, _, _, h => h
  | v :: r, o, a, w, hg, h => grown_news g r (o + 1) a _ hg ⟨h.os, h.tape, h.output, by simpa using h.size, fun k hk hne => (heap_setCell_other w ⟨g, o, none⟩ k v (by simp; omega)).trans (h.block k hk hne)⟩
theorem grown_some {a b : World} {r : Option Nat} (h : a.grownBy b none) : a.grownBy b r := ⟨h.os, h.tape, h.output, h.size, fun k hk _ => h.block k hk (by simp)⟩
theorem lkC_len (x : Lk) : (lkC x).length = 3 := rfl
theorem flat_take : ∀ (l : List Lk) (i : Nat), (l.take i).flatMap lkC = (l.flatMap lkC).take (i * 3)
  | [], i => by simp
  | a :: l, 0 => by simp
  | a :: l, i + 1 => by
    rw [List.take_succ_cons, List.flatMap_cons, List.flatMap_cons, flat_take l i, List.take_append, List.take_of_length_le (l := lkC a) (by rw [lkC_len]; omega), lkC_len, show (i + 1) * 3 - 3 = i * 3 by omega]
theorem flat_drop : ∀ (l : List Lk) (i : Nat), (l.drop i).flatMap lkC = (l.flatMap lkC).drop (i * 3)
  | [], i => by simp
  | a :: l, 0 => by simp
  | a :: l, i + 1 => by
    rw [List.drop_succ_cons, List.flatMap_cons, flat_drop l i, List.drop_append, List.drop_of_length_le (l := lkC a) (by rw [lkC_len]; omega), lkC_len, List.nil_append, show (i + 1) * 3 - 3 = i * 3 by omega]
theorem ownsRow_some {w : World} {B : Nat} {e : TypeId} {k : Nat} {v : Value} {n : Nat} {xs : List Value} (h : w.ownsRow B e k v n xs) (hn : 0 < n) : ∃ g cap, v = .slice (some ⟨g, 0, none⟩) n cap := Go.Joins.ownsRow_form h hn
theorem run_copyK {P : Program} (w : World) (dT sT ty elem : TypeId) (k m b o dLen dCap : Nat) (a : Addr) (sLen sCap : Nat) (cs : List Value)
    (hu : P.underlying dT = some (.slice elem)) (hs : (P.info? elem).map (·.size) = some k) (hm : m = Nat.min sLen dLen) (hn : cs.length = m * k)
    (hsrc : ∀ j v, cs[j]? = some v → w.cell? (a.add j) = some v) (hc : ∀ j, j < cs.length → (w.cell? ⟨b, o + j, none⟩).isSome = true) (hf : ∀ j, j < cs.length → w.frozen? ⟨b, o + j, none⟩ = false) (h1 : ∀ v ∈ cs, v.oneCell' = true) :
    (Builtin.copy_ #[dT, sT] ty #[.slice (some ⟨b, o, none⟩) dLen dCap, .slice (some a) sLen sCap]).run P w = .ok (goInt m) (w.setCells b o cs) := by
  have hst := run_storeCells_cells (P := P) b o cs 0 w (by simpa using hc) (by simpa using hf) h1
  have hl := run_firstCells_some (P := P) w k m a sLen sCap cs hn hsrc
  simp only [Nat.add_zero] at hst
  cases hq : P.info? elem with
  | none => simp [hq] at hs
  | some i =>
    have hi : i.size = k := by simpa [hq] using hs
    simp [Builtin.copy_, run_underlying hu, Builtin.lenOf, sizeOf, typeInfo, hq, hi, ← hm, hl, hst]
theorem take_shiftK {cur cur1 cur2 : Array Value} {cs x : List Value} {p q N : Nat} (hc : cur.toList.take N = cs) (hl : cs.length = N) (hp : p ≤ N) (hq : q = p + x.length)
    (h1 : ∀ j : Nat, cur1[j]? = if q ≤ j ∧ j < q + (cs.drop p).length then (cs.drop p)[j - q]? else cur[j]?)
    (h2 : ∀ j : Nat, cur2[j]? = if p ≤ j ∧ j < p + x.length then x[j - p]? else cur1[j]?) :
    cur2.toList.take (N + x.length) = cs.take p ++ (x ++ cs.drop p) := by
  have hg : ∀ j, j < N → cur[j]? = cs[j]? := fun j hj => by
    conv => rhs; rw [← hc]
    rw [List.getElem?_take, if_pos hj, Array.getElem?_toList]
  apply List.ext_getElem?
  intro j
  have hd : (cs.drop p).length = N - p := by rw [List.length_drop, hl]
  have ht : (cs.take p).length = p := by rw [List.length_take, hl]; omega
  rw [List.getElem?_take]
  rw [hd] at h1
  by_cases c0 : j < N + x.length
  · rw [if_pos c0, Array.getElem?_toList, h2]
    by_cases c : j < p
    · rw [if_neg (by omega), h1, if_neg (by omega), List.getElem?_append_left (by omega), List.getElem?_take, if_pos c, hg j (by omega)]
    · rw [List.getElem?_append_right (by omega), ht]
      by_cases c2 : j < p + x.length
      · rw [if_pos (by omega), List.getElem?_append_left (by omega)]
      · rw [if_neg (by omega), h1, if_pos (by omega), List.getElem?_append_right (by omega)]
        congr 1
        omega
  · rw [if_neg c0, List.getElem?_eq_none]
    rw [List.length_append, List.length_append, ht, hd]
    omega
theorem take_newK {row cur1 cur2 : Array Value} {cs x : List Value} {p q N : Nat} (hl : cs.length = N) (hp : p ≤ N) (hq : q = p + x.length) (h0 : ∀ j, j < p → row[j]? = cs[j]?)
    (h1 : ∀ j : Nat, cur1[j]? = if p ≤ j ∧ j < p + x.length then x[j - p]? else row[j]?)
    (h2 : ∀ j : Nat, cur2[j]? = if q ≤ j ∧ j < q + (cs.drop p).length then (cs.drop p)[j - q]? else cur1[j]?) :
    cur2.toList.take (N + x.length) = cs.take p ++ (x ++ cs.drop p) := by
  apply List.ext_getElem?
  intro j
  have hd : (cs.drop p).length = N - p := by rw [List.length_drop, hl]
  have ht : (cs.take p).length = p := by rw [List.length_take, hl]; omega
  rw [List.getElem?_take]
  rw [hd] at h2
  by_cases c0 : j < N + x.length
  · rw [if_pos c0, Array.getElem?_toList, h2]
    by_cases c : j < p
    · rw [if_neg (by omega), h1, if_neg (by omega), List.getElem?_append_left (by omega), List.getElem?_take, if_pos c, h0 j c]
    · rw [List.getElem?_append_right (by omega), ht]
      by_cases c2 : j < p + x.length
      · rw [if_neg (by omega), h1, if_pos (by omega), List.getElem?_append_left (by omega)]
      · rw [if_pos (by omega), List.getElem?_append_right (by omega)]
        congr 1
        omega
  · rw [if_neg c0, List.getElem?_eq_none]
    rw [List.length_append, List.length_append, ht, hd]
    omega
theorem row_cells {w : World} {p : Nat} {y : Lk} (h : w.heap[p]? = some (.cells (lkC y).toArray 34 (0, 0))) : ∀ j u, (lkC y)[j]? = some u → w.cell? ⟨p, j, none⟩ = some u := fun j u hu => by
  rw [cell_of_row w p j _ _ (0, 0) h]
  simpa using hu
theorem ins_flat (xs : List Lk) (y : Lk) (i : Nat) : lks (xs.take i ++ y :: xs.drop i) = (lks xs).take (i * 3) ++ (lkC y ++ (lks xs).drop (i * 3)) := by
  unfold lks
  rw [List.flatMap_append, List.flatMap_cons, flat_take, flat_drop]
end Go.Proofs.Ytmjcmeebcochgaa
