/- What slices.Insert and slices.Delete of a list of rows make of a list in memory of the call's own: the walks. Conditions: lists of at most 256 rows. -/
import Derived.Test.YtipcacplphidhaaGreatJa
import Derived.Lib.Overlaps
import Derived.Lib.AppendZerosOnto
import Derived.Lib.SmallJoins
import Derived.Laws.IdiomCopy
import Derived.Laws.Externs
import Derived.Laws.NewBlocks
import Derived.Deep.RegionLaw
import Derived.Shelf.RegionOpenPlain
namespace Go.Proofs.YtipcacplphidhaaGreat
open Go.RowKit
set_option linter.unusedSimpArgs false
set_option linter.unusedVariables false

theorem heap_setCells (g : Nat) (e : TypeId) : ∀ (vs : List Value) (o : Nat) (w : World) (cur : Array Value), w.heap[g]? = some (.cells cur e (0, 0)) → o + vs.length ≤ cur.size →
    ∃ cur', (w.setCells g o vs).heap[g]? = some (.cells cur' e (0, 0)) ∧ cur'.size = cur.size ∧ ∀ j : Nat, cur'[j]? = if o ≤ j ∧ j < o + vs.length then vs[j - o]? else cur[j]?
  | [], o, w, cur, h, _ => ⟨cur, h, rfl, fun j => by rw [if_neg (by simp)]⟩
  | v :: r, o, w, cur, h, hl => by
    have hl' : o + (r.length + 1) ≤ cur.size := by simpa using hl
    obtain ⟨cur', h1, h2, h3⟩ := heap_setCells g e r (o + 1) _ _ (heap_setCell_same w g o cur e v h) (by simp; omega)
    refine ⟨cur', h1, by simpa using h2, fun j => ?_⟩
    rw [h3, List.length_cons]
    by_cases c1 : o + 1 ≤ j ∧ j < o + 1 + r.length
    · rw [if_pos c1, if_pos (by omega)]
      have e1 : j - o = (j - (o + 1)) + 1 := by omega
      rw [e1, List.getElem?_cons_succ]
    · rw [if_neg c1]
      by_cases c2 : j = o
      · subst c2
        rw [if_pos (by omega), Nat.sub_self, Array.getElem?_setIfInBounds_self_of_lt (by omega)]
        rfl
      · rw [if_neg (by omega), Array.getElem?_setIfInBounds_ne (by omega)]
theorem grown_setCell (w : World) (g o : Nat) (v : Value) : w.grownBy (w.setCell ⟨g, o, none⟩ v) (some g) :=
  ⟨rfl, rfl, rfl, by simp, fun k _ hk => heap_setCell_other w ⟨g, o, none⟩ k v (fun e => hk (by simp [e]))⟩
theorem grown_refl (w : World) (r : Option Nat) : w.grownBy w r := ⟨rfl, rfl, rfl, Nat.le_refl _, fun _ _ _ => rfl⟩
theorem grown_trans {a b c : World} {r : Option Nat} (h1 : a.grownBy b r) (h2 : b.grownBy c r) : a.grownBy c r :=
  ⟨h2.os.trans h1.os, h2.tape.trans h1.tape, h2.output.trans h1.output, Nat.le_trans h1.size h2.size, fun k hk hne => (h2.block k (Nat.lt_of_lt_of_le hk h1.size) hne).trans (h1.block k hk hne)⟩
theorem grown_setCells (g : Nat) : ∀ (vs : List Value) (o : Nat) (w : World), w.grownBy (w.setCells g o vs) (some g)
  | [], _, w => grown_refl w _
  | v :: r, o, w => grown_trans (grown_setCell w g o v) (grown_setCells g r (o + 1) _)
theorem grown_drew (w : World) (r : Option Nat) : w.grownBy w.drew r := ⟨rfl, rfl, rfl, Nat.le_refl _, fun _ _ _ => rfl⟩

theorem copy_run (w : World) {o : Oper} {a : Act} {K : Act → World → Prop} {Q : Exit → Act → World → Prop} (d s : Operand) (t t' : TypeId)
    (ho : o.op = .call { callee := .builtin .copy, args := #[d, s], argTypes := #[t, t'] }) (v u : Value) (hd : a.eval d = v) (hs : a.eval s = u) {v' : Value} {w' : World}
    (hr : (Builtin.copy_ #[t, t'] o.type #[v, u]).run Tryz.prog w = .ok v' w') (h : K (a.put o.dst v') w') : o.wp Tryz.prog a w K Q := by
  unfold Oper.wp execOp
  simp only [ho, resolve, invoke, builtin, Sem.run_bind, Sem.run_pure, Result.andThen_ok, List.map_toArray, List.map_cons, List.map_nil, hd, hs, hr]
  exact h
theorem copy_list (w : World) {ops : Array Oper} {rest : List Oper} {o : Oper} {a : Act} {Q : Exit → Act → World → Prop} (hgd : o.guard = none) (d s : Operand) (t t' : TypeId)
    (ho : o.op = .call { callee := .builtin .copy, args := #[d, s], argTypes := #[t, t'] }) (v u : Value) (hd : a.eval d = v) (hs : a.eval s = u) {v' : Value} {w' : World}
    (hr : (Builtin.copy_ #[t, t'] o.type #[v, u]).run Tryz.prog w = .ok v' w') (h : wpList Tryz.prog ops Q rest (a.put o.dst v') w') : wpList Tryz.prog ops Q (o :: rest) a w :=
  wpList_plain hgd fun _ hK => copy_run w d s t t' ho v u hd hs hr (hK _ _ h)
theorem copy_step {ops : Array Oper} {o : Oper} {a : Act} {w : World} {K : Act → World → Prop} {Q : Exit → Act → World → Prop} {E : Prop}
    (hg : o.guard = none) (d s : Operand) (t t' : TypeId) (ho : o.op = Op.call { callee := Callee.builtin Builtin.copy, args := #[d, s], argTypes := #[t, t'] })
    (v u : Value) (hd : a.eval d = v) (hs : a.eval s = u) {v' : Value} {w' : World} (hr : (Builtin.copy_ #[t, t'] o.type #[v, u]).run Tryz.prog w = .ok v' w') (hK : K (a.put o.dst v') w') :
    if Region.wanted o (yielded ops a.tmps) = true then Oper.wp Tryz.prog o a w K Q else E := by
  have hw : Region.wanted o (yielded ops a.tmps) = true := by simp [Region.wanted, hg]
  rw [if_pos hw]
  exact copy_run w d s t t' ho v u hd hs hr hK

/-- Two lists laid over a row: what the row's first places hold. -/
theorem take_shift {cur cur1 cur2 : Array Value} {cs : List Value} {x : Value} {i : Nat} (hc : cur.toList.take cs.length = cs) (hi : i ≤ cs.length) (hs : cs.length + 1 ≤ cur.size)
    (h1 : ∀ j : Nat, cur1[j]? = if i + 1 ≤ j ∧ j < i + 1 + (cs.drop i).length then (cs.drop i)[j - (i + 1)]? else cur[j]?)
    (h2 : ∀ j : Nat, cur2[j]? = if i ≤ j ∧ j < i + 1 then [x][j - i]? else cur1[j]?) :
    cur2.toList.take (cs.length + 1) = cs.take i ++ x :: cs.drop i := by
  have hg : ∀ j, j < cs.length → cur[j]? = cs[j]? := fun j hj => by
    conv => rhs; rw [← hc]
    rw [List.getElem?_take, if_pos hj, Array.getElem?_toList]
  apply List.ext_getElem?
  intro j
  rw [List.getElem?_take]
  have hd : (cs.drop i).length = cs.length - i := by simp
  have ht : (cs.take i).length = i := by simp; omega
  rw [hd] at h1
  by_cases c0 : j < cs.length + 1
  · rw [if_pos c0, Array.getElem?_toList, h2]
    rcases Nat.lt_trichotomy j i with c | c | c
    · rw [if_neg (by omega), h1, if_neg (by omega), List.getElem?_append_left (by omega), List.getElem?_take, if_pos c, hg j (by omega)]
    · subst c
      rw [if_pos (by omega), Nat.sub_self, List.getElem?_append_right (by omega), ht, Nat.sub_self]
      rfl
    · rw [if_neg (by omega), h1, if_pos (by omega), List.getElem?_append_right (by omega), ht]
      have e : j - i = (j - (i + 1)) + 1 := by omega
      rw [e, List.getElem?_cons_succ]
  · rw [if_neg c0, List.getElem?_eq_none]
    simp
    omega

theorem take_new {row cur1 cur2 : Array Value} {cs : List Value} {x : Value} {i : Nat} (hi : i < cs.length) (hs : cs.length + 1 ≤ row.size) (h0 : ∀ j, j < i → row[j]? = cs[j]?)
    (h1 : ∀ j : Nat, cur1[j]? = if i ≤ j ∧ j < i + 1 then [x][j - i]? else row[j]?)
    (h2 : ∀ j : Nat, cur2[j]? = if i + 1 ≤ j ∧ j < i + 1 + (cs.drop i).length then (cs.drop i)[j - (i + 1)]? else cur1[j]?) :
    cur2.toList.take (cs.length + 1) = cs.take i ++ x :: cs.drop i := by
  apply List.ext_getElem?
  intro j
  rw [List.getElem?_take]
  have hd : (cs.drop i).length = cs.length - i := by simp
  have ht : (cs.take i).length = i := by simp; omega
  rw [hd] at h2
  by_cases c0 : j < cs.length + 1
  · rw [if_pos c0, Array.getElem?_toList, h2]
    rcases Nat.lt_trichotomy j i with c | c | c
    · rw [if_neg (by omega), h1, if_neg (by omega), List.getElem?_append_left (by omega), List.getElem?_take, if_pos c, h0 j c]
    · subst c
      rw [if_neg (by omega), h1, if_pos (by omega), Nat.sub_self, List.getElem?_append_right (by omega), ht, Nat.sub_self]
      rfl
    · rw [if_pos (by omega), List.getElem?_append_right (by omega), ht]
      have e : j - i = (j - (i + 1)) + 1 := by omega
      rw [e, List.getElem?_cons_succ]
  · rw [if_neg c0, List.getElem?_eq_none]
    simp
    omega
theorem zeroR_len (n : Nat) : (Builtin.zeroCells (Value.slice none 0 0).cells n).size = n := by simp [Builtin.zeroCells, Value.cells]
theorem grown_news (g : Nat) : ∀ (vs : List Value) (o : Nat) (a w : World), a.heap.size ≤ g → a.grownBy w none → a.grownBy (w.setCells g o vs) none
  | [], _, _, _, _, h => h
  | v :: r, o, a, w, hg, h => grown_news g r (o + 1) a _ hg ⟨h.os, h.tape, h.output, by simpa using h.size, fun k hk hne => (heap_setCell_other w ⟨g, o, none⟩ k v (by simp; omega)).trans (h.block k hk hne)⟩
theorem grown_some {a b : World} {r : Option Nat} (h : a.grownBy b none) : a.grownBy b r := ⟨h.os, h.tape, h.output, h.size, fun k hk _ => h.block k hk (by simp)⟩
end Go.Proofs.YtipcacplphidhaaGreat
