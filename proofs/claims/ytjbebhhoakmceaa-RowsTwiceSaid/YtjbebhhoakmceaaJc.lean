/- What slices.Insert and slices.Delete of a list of rows make of a list in memory of the call's own: the walks. Conditions: lists of at most 256 rows. -/
import Derived.Test.YtjbebhhoakmceaaJb
import Derived.Lib.Overlaps
import Derived.Lib.AppendZerosOnto
import Derived.Lib.SmallJoins
import Derived.Laws.IdiomCopy
import Derived.Laws.Externs
import Derived.Laws.NewBlocks
import Derived.Deep.RegionLaw
import Derived.Shelf.RegionOpenPlain
namespace Go.Proofs.Ytjbebhhoakmceaa
open Go.RowKit
set_option linter.unusedSimpArgs false
set_option linter.unusedVariables false

theorem Try.infoR : (Try.prog.info? 37).map (fun i => (i.zero, i.size, i.bytes)) = some (some (.slice none 0 0), 1, 24) := by kernel_rfl
/-- A slice of rows that the call made itself. -/
abbrev Own (w : World) (B : Nat) (v : Value) (cs : List Value) : Prop := w.ownsRow B 37 1 v cs.length cs

theorem heap_setCells (g : Nat) (e : TypeId) : ∀ (vs : List Value) (o : Nat) (w : World) (cur : Array Value), w.heap[g]? = some (.cells cur e (0, 0)) → o + vs.length ≤ cur.size →
    ∃ cur', (w.setCells g o vs).heap[g]? = some (.cells cur' e (0, 0)) ∧ cur'.size = cur.size ∧ ∀ j : Nat, cur'[j]? = if o ≤ j ∧ j < o + vs.length then vs[j - o]? else cur[j]?
  | [], o, w, cur, h, _ => ⟨cur, h, rfl, fun j => by rw [if_neg (by simp)]⟩
  | v :: r, o, w, cur, h, hl => by
    have hl' : o + (r.length + 1) ≤ cur.size := by simpa using hl
    obtain ⟨cur', h1, h2, h3⟩ := heap_setCells g e r (o + 1) _ _ (heap_setCell_same w g o cur e v h) (by simp; omega)
    refine ⟨cur', h1, by simpa using h2, fun j => ?_⟩
    rw [h3, List.length_cons]
    by_cases c1 : o + 1 ≤ j ∧ j < o + 1 + r.length
    · rw [if_pos c1, if_pos (by omega)]
      have e1 : j - o = (j - (o + 1)) + 1 := by omega
      rw [e1, List.getElem?_cons_succ]
    · rw [if_neg c1]
      by_cases c2 : j = o
      · subst c2
        rw [if_pos (by omega), Nat.sub_self, Array.getElem?_setIfInBounds_self_of_lt (by omega)]
        rfl
      · rw [if_neg (by omega), Array.getElem?_setIfInBounds_ne (by omega)]
theorem grown_setCell (w : World) (g o : Nat) (v : Value) : w.grownBy (w.setCell ⟨g, o, none⟩ v) (some g) :=
  ⟨rfl, rfl, rfl, by simp, fun k _ hk => heap_setCell_other w ⟨g, o, none⟩ k v (fun e => hk (by simp [e]))⟩
theorem grown_refl (w : World) (r : Option Nat) : w.grownBy w r := ⟨rfl, rfl, rfl, Nat.le_refl _, fun _ _ _ => rfl⟩
theorem grown_trans {a b c : World} {r : Option Nat} (h1 : a.grownBy b r) (h2 : b.grownBy c r) : a.grownBy c r :=
  ⟨h2.os.trans h1.os, h2.tape.trans h1.tape, h2.output.trans h1.output, Nat.le_trans h1.size h2.size, fun k hk hne => (h2.block k (Nat.lt_of_lt_of_le hk h1.size) hne).trans (h1.block k hk hne)⟩
theorem grown_setCells (g : Nat) : ∀ (vs : List Value) (o : Nat) (w : World), w.grownBy (w.setCells g o vs) (some g)
  | [], _, w => grown_refl w _
  | v :: r, o, w => grown_trans (grown_setCell w g o v) (grown_setCells g r (o + 1) _)
theorem grown_drew (w : World) (r : Option Nat) : w.grownBy w.drew r := ⟨rfl, rfl, rfl, Nat.le_refl _, fun _ _ _ => rfl⟩

set_option maxRecDepth 100000 in
set_option maxHeartbeats 2000000 in
theorem insert_end (B n : Nat) (v : Value) (cs : List Value) (x : Value) (vb : Nat) (w : World) (hown : Own w B v cs) (hl : n = cs.length) (hn : cs.length ≤ 256) (hB : B ≤ w.heap.size) (hx : w.cell? ⟨vb, 0, none⟩ = some x) (h1 : x.oneCell' = true) :
    Calls Try.prog 30 #[v, .int .i64 n, .slice (some ⟨vb, 0, none⟩) 1 1] w fun e w' => ∃ v', e = .returned v' ∧ Own w' B v' (cs ++ [x]) ∧ w.grownBy w' v.ownBlock := by
  subst hl
  obtain ⟨i0, hi, hz0, hz1, hz2⟩ := info_parts Try.infoR
  have HO := Lib.hid hown
  have hne : ¬ ((1 : Int) = 0) := by decide
  rcases Go.Joins.ownsRow_forms hown with ⟨rfl, h0⟩ | ⟨g, cap, rfl⟩
  · have : cs = [] := List.eq_nil_of_length_eq_zero h0
    subst this
    clear hown h0
    go_enter Try.func30, Try.ntmps30
    go_wp2_with (at_builtin; refine wpList_append_own_at _ rfl _ _ 26 rfl B 37 i0 (.slice none 0 0) 1 24 Try.underlying26 hi hz0 hz1 hz2 rfl (by decide) _ _ _ rfl HO.out ⟨vb, 0, none⟩ 1 1 [x] rfl rfl ?c1 ?c2 ?c3 ?c4 hB ?_)
    case c1 =>
      intro j u hj
      match j, hj with
      | 0, hj => simp at hj; subst hj; simpa [Addr.add] using hx
    case c2 => intro u hu; simp at hu; subst hu; exact h1
    case c3 => unfold maxLen; decide
    case c4 => decide
    intro v' w' hown' hg _ _
    have HOwn := Lib.hid hown'
    clear hown'
    go_wp2
    go_ret
    exact ⟨_, rfl, by have := HOwn.out; simpa [Own] using this, hg⟩
  · have hc : cs.length ≤ cap ∧ cap ≤ 9223372036854775807 := by
      rcases hown.2 with ⟨h', _⟩ | ⟨g', cap', cur, h', _, _, h2, h3, _⟩
      · cases h'
      · injection h' with _ _ h'
        subst h'
        exact ⟨h2, by unfold maxLen at h3; omega⟩
    obtain ⟨hc1, hc2⟩ := hc
    clear hown
    by_cases hcap : cap = cs.length
    all_goals
      go_enter Try.func30, Try.ntmps30
      go_wp2_with (at_builtin; refine wpList_append_own_at _ rfl _ _ 26 rfl B 37 i0 (.slice none 0 0) 1 24 Try.underlying26 hi hz0 hz1 hz2 rfl (by decide) _ _ _ rfl HO.out ⟨vb, 0, none⟩ 1 1 [x] rfl rfl ?c1 ?c2 ?c3 ?c4 hB ?_)
      case c1 =>
        intro j u hj
        match j, hj with
        | 0, hj => simp at hj; subst hj; simpa [Addr.add] using hx
      case c2 => intro u hu; simp at hu; subst hu; exact h1
      case c3 => unfold maxLen; omega
      case c4 => omega
      intro v' w' hown' hg _ _
      have HOwn := Lib.hid hown'
      clear hown'
      go_wp2
      go_ret
      exact ⟨_, rfl, by have := HOwn.out; simpa [Own] using this, hg⟩

theorem copy_run (w : World) {o : Oper} {a : Act} {K : Act → World → Prop} {Q : Exit → Act → World → Prop} (d s : Operand) (t t' : TypeId)
    (ho : o.op = .call { callee := .builtin .copy, args := #[d, s], argTypes := #[t, t'] }) (v u : Value) (hd : a.eval d = v) (hs : a.eval s = u) {v' : Value} {w' : World}
    (hr : (Builtin.copy_ #[t, t'] o.type #[v, u]).run Try.prog w = .ok v' w') (h : K (a.put o.dst v') w') : o.wp Try.prog a w K Q := by
  unfold Oper.wp execOp
  simp only [ho, resolve, invoke, builtin, Sem.run_bind, Sem.run_pure, Result.andThen_ok, List.map_toArray, List.map_cons, List.map_nil, hd, hs, hr]
  exact h
theorem copy_list (w : World) {ops : Array Oper} {rest : List Oper} {o : Oper} {a : Act} {Q : Exit → Act → World → Prop} (hgd : o.guard = none) (d s : Operand) (t t' : TypeId)
    (ho : o.op = .call { callee := .builtin .copy, args := #[d, s], argTypes := #[t, t'] }) (v u : Value) (hd : a.eval d = v) (hs : a.eval s = u) {v' : Value} {w' : World}
    (hr : (Builtin.copy_ #[t, t'] o.type #[v, u]).run Try.prog w = .ok v' w') (h : wpList Try.prog ops Q rest (a.put o.dst v') w') : wpList Try.prog ops Q (o :: rest) a w :=
  wpList_plain hgd fun _ hK => copy_run w d s t t' ho v u hd hs hr (hK _ _ h)
theorem copy_step {ops : Array Oper} {o : Oper} {a : Act} {w : World} {K : Act → World → Prop} {Q : Exit → Act → World → Prop} {E : Prop}
    (hg : o.guard = none) (d s : Operand) (t t' : TypeId) (ho : o.op = Op.call { callee := Callee.builtin Builtin.copy, args := #[d, s], argTypes := #[t, t'] })
    (v u : Value) (hd : a.eval d = v) (hs : a.eval s = u) {v' : Value} {w' : World} (hr : (Builtin.copy_ #[t, t'] o.type #[v, u]).run Try.prog w = .ok v' w') (hK : K (a.put o.dst v') w') :
    if Region.wanted o (yielded ops a.tmps) = true then Oper.wp Try.prog o a w K Q else E := by
  have hw : Region.wanted o (yielded ops a.tmps) = true := by simp [Region.wanted, hg]
  rw [if_pos hw]
  exact copy_run w d s t t' ho v u hd hs hr hK

/-- Two lists laid over a row: what the row's first places hold. -/
theorem take_shift {cur cur1 cur2 : Array Value} {cs : List Value} {x : Value} {i : Nat} (hc : cur.toList.take cs.length = cs) (hi : i ≤ cs.length) (hs : cs.length + 1 ≤ cur.size)
    (h1 : ∀ j : Nat, cur1[j]? = if i + 1 ≤ j ∧ j < i + 1 + (cs.drop i).length then (cs.drop i)[j - (i + 1)]? else cur[j]?)
    (h2 : ∀ j : Nat, cur2[j]? = if i ≤ j ∧ j < i + 1 then [x][j - i]? else cur1[j]?) :
    cur2.toList.take (cs.length + 1) = cs.take i ++ x :: cs.drop i := by
  have hg : ∀ j, j < cs.length → cur[j]? = cs[j]? := fun j hj => by
    conv => rhs; rw [← hc]
    rw [List.getElem?_take, if_pos hj, Array.getElem?_toList]
  apply List.ext_getElem?
  intro j
  rw [List.getElem?_take]
  have hd : (cs.drop i).length = cs.length - i := by simp
  have ht : (cs.take i).length = i := by simp; omega
  rw [hd] at h1
  by_cases c0 : j < cs.length + 1
  · rw [if_pos c0, Array.getElem?_toList, h2]
    rcases Nat.lt_trichotomy j i with c | c | c
    · rw [if_neg (by omega), h1, if_neg (by omega), List.getElem?_append_left (by omega), List.getElem?_take, if_pos c, hg j (by omega)]
    · subst c
      rw [if_pos (by omega), Nat.sub_self, List.getElem?_append_right (by omega), ht, Nat.sub_self]
      rfl
    · rw [if_neg (by omega), h1, if_pos (by omega), List.getElem?_append_right (by omega), ht]
      have e : j - i = (j - (i + 1)) + 1 := by omega
      rw [e, List.getElem?_cons_succ]
  · rw [if_neg c0, List.getElem?_eq_none]
    simp
    omega

set_option maxRecDepth 100000 in
set_option maxHeartbeats 4000000 in
theorem insert_shift (B i g cap : Nat) (cs : List Value) (x : Value) (vb : Nat) (w : World) (hown : Own w B (.slice (some ⟨g, 0, none⟩) cs.length cap) cs) (hi : i < cs.length) (hn : cs.length ≤ 256) (hcap : cs.length + 1 ≤ cap)
    (hx : w.heap[vb]? = some (.cells #[x] 37 (0, 0))) (h1 : x.oneCell' = true) (hvb : vb ≠ g) (hcs1 : ∀ u ∈ cs, u.oneCell' = true) :
    Calls Try.prog 30 #[.slice (some ⟨g, 0, none⟩) cs.length cap, .int .i64 i, .slice (some ⟨vb, 0, none⟩) 1 1] w fun e w' => e = .returned (.slice (some ⟨g, 0, none⟩) (cs.length + 1) cap) ∧ w' = (w.drew.setCells g (i + 1) (cs.drop i)).setCells g i [x] := by
  obtain ⟨i0, hi0, hz0, hz1, hz2⟩ := info_parts Try.infoR
  obtain ⟨cur, hg, hcm, hsz, htk⟩ : ∃ cur, w.heap[g]? = some (.cells cur 37 (0, 0)) ∧ cap ≤ maxLen ∧ cur.size = cap ∧ cur.toList.take cs.length = cs := by
    rcases hown.2 with ⟨h', _⟩ | ⟨g', cap', cur, h', _, h0, _, h3, h4, h5⟩
    · cases h'
    · injection h' with h6 _ h7
      injection h6 with h6
      injection h6 with h6
      subst h6 h7
      exact ⟨cur, h0, h3, by simpa using h4, by simpa using h5⟩
  clear hown
  have hcell : ∀ j, j < cap → w.cell? ⟨g, j, none⟩ = cur[j]? := fun j hj => by rw [cell_of_row w g j cur _ (0, 0) hg]
  have hfz : ∀ j, w.frozen? ⟨g, j, none⟩ = false := fun j => frozen_of_row w g j cur _ hg
  have hcc : ∀ j v, cs[j]? = some v → w.cell? ⟨g, j, none⟩ = some v := fun j v hv => by
    have hj := (List.getElem?_eq_some_iff.1 hv).1
    rw [hcell j (by omega), ← hv]
    conv => rhs; rw [← htk]
    rw [List.getElem?_take, if_pos hj, Array.getElem?_toList]
  have hsp : ∀ j, j < cap → (w.cell? ⟨g, j, none⟩).isSome = true := fun j hj => by rw [hcell j hj, Array.getElem?_eq_getElem (by omega)]; rfl
  have hxc : w.cell? ⟨vb, 0, none⟩ = some x := by rw [cell_of_row w vb 0 _ _ (0, 0) hx]; rfl
  have hsz0 : (Try.prog.info? 37).map (·.size) = some 1 := by rw [hi0]; simp [hz1]
  have hdl : (cs.drop i).length = cs.length - i := by simp
  have hov : ∀ lb cb, (callFunc 39 #[.slice (some ⟨vb, 0, none⟩) 1 1, .slice (some ⟨g, i + 1, none⟩) lb cb]).run Try.prog w = .ok (.value (.bool false)) w := fun lb cb => by
    rw [run_callFunc_extern Try.func39 (by kernel_rfl) (by kernel_rfl) (by kernel_rfl) (e := Extern.SlicesOverlaps.overlaps #[26, 26] #[4]) (by kernel_rfl),
      Lib.run_overlaps_apart w 26 4 37 Try.underlying26 1 Try.sizeOf37 ⟨vb, 0, none⟩ ⟨g, i + 1, none⟩ 1 1 lb cb hvb 37 37 1 cap (by simp [World.shape?, hx]) (by simp [World.shape?, hg, hsz]) (by omega) (frozen_of_row w vb 0 _ _ hx) (frozen_of_row w vb 1 _ _ hx)]
    rfl
  have hcp1 : ∀ ty dc sc, (Builtin.copy_ #[26, 26] ty #[.slice (some ⟨g, i + 1, none⟩) (cs.length - i) dc, .slice (some ⟨g, i, none⟩) (cs.length + 1 - i) sc]).run Try.prog w.drew = .ok (goInt (cs.drop i).length) (w.drew.setCells g (i + 1) (cs.drop i)) := fun ty dc sc =>
    run_copy_cells w.drew _ _ ty 37 g (i + 1) (cs.length - i) dc ⟨g, i, none⟩ (cs.length + 1 - i) sc (cs.drop i) Try.underlying26 hsz0 (by rw [hdl]; simp only [Nat.min_def]; split <;> omega)
      (fun j v hj => by rw [Addr.add_lit]; exact hcc (i + j) v (by rwa [List.getElem?_drop] at hj))
      (fun j hj => hsp _ (by omega)) (fun j hj => hfz _) (fun v hv => hcs1 v (List.mem_of_mem_drop hv))
  obtain ⟨W1, hW1⟩ : ∃ W1, W1 = w.drew.setCells g (i + 1) (cs.drop i) := ⟨_, rfl⟩
  have hcp2 : ∀ (W : World), (∀ p, W.cell? p = W1.cell? p) → (∀ p, W.frozen? p = W1.frozen? p) → ∀ ty dc, (Builtin.copy_ #[26, 26] ty #[.slice (some ⟨g, i, none⟩) (cs.length + 1 - i) dc, .slice (some ⟨vb, 0, none⟩) 1 1]).run Try.prog W = .ok (goInt [x].length) (W.setCells g i [x]) := fun W hWc hWf ty dc =>
    run_copy_cells W _ _ ty 37 g i (cs.length + 1 - i) dc ⟨vb, 0, none⟩ 1 1 [x] Try.underlying26 hsz0 (by simp only [List.length_cons, List.length_nil, Nat.min_def]; split <;> omega)
      (fun j v hj => by
        rw [Addr.add_lit, hWc, hW1, World.cell?_setCells_out g _ _ _ _ (fun h _ => absurd h hvb)]
        match j, hj with
        | 0, hj => simp at hj; subst hj; exact hxc)
      (fun j hj => by rw [hWc, hW1]; exact World.isSome_setCells g _ _ _ _ (hsp _ (by simp at hj; omega))) (fun j hj => by rw [hWf, hW1, World.frozen?_setCells]; exact hfz _) (fun v hv => by simp at hv; subst hv; exact h1)
  rw [← hW1] at hcp1
  unfold maxLen at hcm
  have mixed : Try.prog.follows Departure.mixedOrders = true := by kernel_rfl
  have hz1' : ¬ ((1 : Int) = 0) := by decide
  have hz2' : ¬ ((i : Int) = (cs.length : Int)) := by omega
  have hw1 : IntKind.i64.wrap ((i : Int) + 1) = (i : Int) + 1 := by rw [IntKind.wrap_i64]; omega
  have hb1 : (0 : Int) ≤ (i : Int) + 1 := by omega
  have htn : ((i : Int) + 1).toNat = i + 1 := by omega
  have hin : i ≤ cs.length := by omega
  have hb2 : ¬ (cap = i + 1) := by omega
  have hb4 : ¬ (cap = i) := by omega
  have hb5 : cs.length ≤ cap := by omega
  have hb3 : (i : Int) ≤ (cs.length : Int) + 1 := by omega
  have hb6 : (i : Int) ≤ (cs.length : Int) := by omega
  have htn2 : ((cs.length : Int) + 1).toNat = cs.length + 1 := by omega
  clear hg hsz htk hcell hfz hcc hsp hxc hx hdl
  go_enter Try.func30, Try.ntmps30
  go_wp2_with (simp only [hov])
  go_region_law_o (refine copy_step rfl _ _ 26 26 rfl _ _ (by simp [Act.eval, Act.put]) (by simp [Act.eval, Act.put]) (hcp1 _ _ _) ?_)
  go_wp2_with (at_builtin; refine copy_list _ rfl _ _ 26 26 rfl _ _ rfl rfl (hcp2 _ (fun _ => rfl) (fun _ => rfl) _ _) ?_)
  go_ret
  first | exact ⟨rfl, rfl⟩ | exact ⟨rfl, by rw [hW1]⟩
theorem insert_shift_own (B i g cap : Nat) (cs : List Value) (x : Value) (vb : Nat) (w : World) (hown : Own w B (.slice (some ⟨g, 0, none⟩) cs.length cap) cs) (hi : i < cs.length) (hn : cs.length ≤ 256) (hcap : cs.length + 1 ≤ cap)
    (hx : w.heap[vb]? = some (.cells #[x] 37 (0, 0))) (h1 : x.oneCell' = true) (hvb : vb ≠ g) (hcs1 : ∀ u ∈ cs, u.oneCell' = true) :
    Calls Try.prog 30 #[.slice (some ⟨g, 0, none⟩) cs.length cap, .int .i64 i, .slice (some ⟨vb, 0, none⟩) 1 1] w fun e w' => ∃ v', e = .returned v' ∧ Own w' B v' (cs.take i ++ x :: cs.drop i) ∧ w.grownBy w' (some g) := by
  refine (insert_shift B i g cap cs x vb w hown hi hn hcap hx h1 hvb hcs1).mono fun e w' ⟨he, hw⟩ => ⟨_, he, ?_, ?_⟩
  · rcases hown.2 with ⟨h', _⟩ | ⟨g', cap', cur, h', hB, h0, h2, h3, h4, h5⟩
    · cases h'
    injection h' with h6 _ h7
    injection h6 with h6
    injection h6 with h6
    subst h6 h7
    obtain ⟨cur1, a1, a2, a3⟩ := heap_setCells g 37 (cs.drop i) (i + 1) w.drew cur h0 (by simp; omega)
    obtain ⟨cur2, b1, b2, b3⟩ := heap_setCells g 37 [x] i _ cur1 a1 (by simp; omega)
    have hl : (cs.take i ++ x :: cs.drop i).length = cs.length + 1 := by simp; omega
    rw [hw]
    refine ⟨by rw [hl, Nat.mul_one], .inr ⟨g, cap, cur2, by rw [hl], hB, b1, by rw [hl]; exact hcap, h3, by omega, ?_⟩⟩
    rw [hl, Nat.mul_one]
    exact take_shift (by simpa using h5) (by omega) (by omega) a3 b3
  · rw [hw]
    exact grown_trans (grown_drew w _) (grown_trans (grown_setCells g _ _ _) (grown_setCells g _ _ _))

set_option maxRecDepth 100000 in
set_option maxHeartbeats 4000000 in
theorem insert_grow (B i g : Nat) (cs : List Value) (x : Value) (vb : Nat) (w : World) (hown : Own w B (.slice (some ⟨g, 0, none⟩) cs.length cs.length) cs) (hi : i < cs.length) (hn : cs.length ≤ 256)
    (hx : w.cell? ⟨vb, 0, none⟩ = some x) (h1 : x.oneCell' = true) (hcs1 : ∀ u ∈ cs, u.oneCell' = true) :
    Calls Try.prog 30 #[.slice (some ⟨g, 0, none⟩) cs.length cs.length, .int .i64 i, .slice (some ⟨vb, 0, none⟩) 1 1] w fun e w' =>
      e = .returned (.slice (some ⟨w.heap.size, 0, none⟩) (cs.length + 1) (grownCap w (cs.length + 1) cs.length 37)) ∧
      w' = (((w.alloc (.cells ((cs.take i).toArray ++ Builtin.zeroCells (Value.slice none 0 0).cells (cs.length + 1 - i) ++ Builtin.zeroCells (Value.slice none 0 0).cells (grownCap w (cs.length + 1) cs.length 37 - (cs.length + 1))) 37)).drew.setCells w.heap.size i [x]).drew).setCells w.heap.size (i + 1) (cs.drop i) := by
  obtain ⟨i0, hi0, hz0, hzs, hzb⟩ := info_parts Try.infoR
  have hcc : ∀ j v, cs[j]? = some v → w.cell? ⟨g, j, none⟩ = some v := fun j v hv => by
    have := hown.cells (g := g) rfl j v hv
    rwa [add_lit, Nat.zero_add] at this
  have mixed : Try.prog.follows Departure.mixedOrders = true := by kernel_rfl
  have hz1 : ¬ ((1 : Int) = 0) := by decide
  have hz2 : ¬ ((i : Int) = (cs.length : Int)) := by omega
  have hz3 : (cs.length : Int) < (cs.length : Int) + 1 := by omega
  have hsz : (Try.prog.info? 37).map (·.size) = some 1 := by rw [hi0]; simp [hzs]
  have hbw : g < w.heap.size := cell_lt (hcc 0 _ (List.getElem?_eq_getElem (by omega)))
  have hvw : vb < w.heap.size := cell_lt hx
  have hkk : (cs.length : Int) + 1 - (i : Int) = ((cs.length + 1 - i : Nat) : Int) := by omega
  have hik : i + (cs.length + 1 - i) = cs.length + 1 := by omega
  have hold : (Builtin.firstCells i0.size i (.slice (some ⟨g, 0, none⟩) i cs.length)).run Try.prog w.drew = .ok (cs.take i).toArray w.drew := by
    rw [hzs]
    exact run_firstCells_some w.drew 1 i ⟨g, 0, none⟩ i cs.length (cs.take i) (by rw [List.length_take]; omega) (fun j v hj => by
      rw [Addr.add_lit, Nat.zero_add]
      rw [List.getElem?_take] at hj
      split at hj
      · exact hcc j v hj
      · cases hj)
  have hrz : ∀ ty, (Builtin.append_ #[26, 3] ty #[.slice (some ⟨g, 0, none⟩) i cs.length, .int .i64 ((cs.length : Int) + 1 - (i : Int))]).run Try.prog w =
      .ok (.slice (some ⟨w.heap.size, 0, none⟩) (cs.length + 1) (grownCap w (cs.length + 1) cs.length 37)) (w.drew.alloc (.cells ((cs.take i).toArray ++ Builtin.zeroCells (Value.slice none 0 0).cells (cs.length + 1 - i) ++ Builtin.zeroCells (Value.slice none 0 0).cells (grownCap w (cs.length + 1) cs.length 37 - (cs.length + 1))) 37)) := fun ty => by
    have h := Lib.run_append_grow_zeros w 26 3 ty 37 i0 _ .i64 .i64 Try.underlying26 Try.underlying3 hi0 hz0 (some ⟨g, 0, none⟩) i cs.length (cs.take i) hold (cs.length + 1 - i) (by omega) (by omega) (by omega) (by omega) (by rw [hzb]; omega) (by rw [hzb, hik]; exact growslice_fits (by omega) (by omega))
    rw [hik] at h
    rw [hkk]
    exact h
  obtain ⟨G, hG⟩ : ∃ G, G = grownCap w (cs.length + 1) cs.length 37 := ⟨_, rfl⟩
  obtain ⟨ROW, hROW⟩ : ∃ ROW : Array Value, ROW = (cs.take i).toArray ++ Builtin.zeroCells (Value.slice none 0 0).cells (cs.length + 1 - i) ++ Builtin.zeroCells (Value.slice none 0 0).cells (G - (cs.length + 1)) := ⟨_, rfl⟩
  rw [← hG] at hrz ⊢
  rw [← hROW] at hrz ⊢
  have hRl : cs.length + 1 ≤ ROW.size := by
    rw [hROW]
    simp [Builtin.zeroCells, Value.cells]
    omega
  obtain ⟨W1, hW1⟩ : ∃ W1, W1 = w.drew.alloc (.cells ROW 37) := ⟨_, rfl⟩
  rw [← hW1] at hrz
  have hN : ∀ j, j < cs.length + 1 → (W1.cell? ⟨w.heap.size, j, none⟩).isSome = true := fun j hj => by
    rw [hW1, World.cell?_alloc_at (w := w.drew) ROW _ w.heap.size j rfl, Array.getElem?_eq_getElem (by omega)]; rfl
  have hNf : ∀ j, W1.frozen? ⟨w.heap.size, j, none⟩ = false := fun j => by rw [hW1]; exact World.frozen?_alloc_at (w := w.drew) ROW _ w.heap.size j rfl
  have hOb : ∀ j v, w.cell? ⟨g, j, none⟩ = some v → W1.cell? ⟨g, j, none⟩ = some v := fun j v h => by rw [hW1, World.cell?_alloc_past (w := w.drew) _ g j hbw]; exact h
  have hOv : W1.cell? ⟨vb, 0, none⟩ = some x := by rw [hW1, World.cell?_alloc_past (w := w.drew) _ vb 0 hvw]; exact hx
  have hcpA : ∀ (W : World), (∀ p, W.cell? p = W1.cell? p) → (∀ p, W.frozen? p = W1.frozen? p) → ∀ ty dc, (Builtin.copy_ #[26, 26] ty #[.slice (some ⟨w.heap.size, i, none⟩) (cs.length + 1 - i) dc, .slice (some ⟨vb, 0, none⟩) 1 1]).run Try.prog W = .ok (goInt [x].length) (W.setCells w.heap.size i [x]) := fun W hWc hWf ty dc =>
    run_copy_cells W _ _ ty 37 w.heap.size i (cs.length + 1 - i) dc ⟨vb, 0, none⟩ 1 1 [x] Try.underlying26 hsz (by simp only [List.length_cons, List.length_nil, Nat.min_def]; split <;> omega)
      (fun j v hj => by
        rw [Addr.add_lit, hWc]
        match j, hj with
        | 0, hj => simp at hj; subst hj; exact hOv)
      (fun j hj => by rw [hWc]; exact hN _ (by simp at hj; omega)) (fun j hj => by rw [hWf]; exact hNf _) (fun v hv => by simp at hv; subst hv; exact h1)
  have hGn : cs.length + 1 ≤ G := by rw [hG]; exact grownCap_ge w _ _ _
  have hG63 : G ≤ 9223372036854775807 := by
    have := grownCap_le_maxLen w (cs.length + 1) cs.length 37 (by unfold maxLen; omega)
    rw [← hG] at this
    unfold maxLen at this
    omega
  have hGi : ¬ (G = i) := by omega
  have hGim : ¬ (G = i + 1) := by omega
  have hci : ¬ (cs.length = i) := by omega
  have hbN : g ≠ w.heap.size := by omega
  have hdl : (cs.drop i).length = cs.length - i := by rw [List.length_drop]
  have hcpB : ∀ (W : World), (∀ p, W.cell? p = (W1.setCells w.heap.size i [x]).cell? p) → (∀ p, W.frozen? p = (W1.setCells w.heap.size i [x]).frozen? p) → ∀ ty dc sc, (Builtin.copy_ #[26, 26] ty #[.slice (some ⟨w.heap.size, i + 1, none⟩) (cs.length - i) dc, .slice (some ⟨g, i, none⟩) (cs.length - i) sc]).run Try.prog W = .ok (goInt (cs.drop i).length) (W.setCells w.heap.size (i + 1) (cs.drop i)) := fun W hWc hWf ty dc sc =>
    run_copy_cells W _ _ ty 37 w.heap.size (i + 1) (cs.length - i) dc ⟨g, i, none⟩ (cs.length - i) sc (cs.drop i) Try.underlying26 hsz (by rw [hdl]; simp only [Nat.min_def]; split <;> omega)
      (fun j v hj => by
        rw [Addr.add_lit, hWc, World.cell?_setCells_out _ _ _ _ _ (fun h _ => absurd h hbN)]
        exact hOb _ v (hcc (i + j) v (by rwa [List.getElem?_drop] at hj)))
      (fun j hj => by rw [hWc]; exact World.isSome_setCells _ _ _ _ _ (hN _ (by omega)))
      (fun j hj => by rw [hWf, World.frozen?_setCells]; exact hNf _) (fun v hv => hcs1 v (List.mem_of_mem_drop hv))
  subst hW1
  have hE1 : ∀ p, ((w.alloc (.cells ROW 37)).drew).cell? p = (w.drew.alloc (.cells ROW 37)).cell? p := fun _ => rfl
  have hE2 : ∀ p, ((w.alloc (.cells ROW 37)).drew).frozen? p = (w.drew.alloc (.cells ROW 37)).frozen? p := fun _ => rfl
  have hF1 : ∀ p, (((w.alloc (.cells ROW 37)).drew.setCells w.heap.size i [x]).drew).cell? p = ((w.drew.alloc (.cells ROW 37)).setCells w.heap.size i [x]).cell? p := fun _ => rfl
  have hF2 : ∀ p, (((w.alloc (.cells ROW 37)).drew.setCells w.heap.size i [x]).drew).frozen? p = ((w.drew.alloc (.cells ROW 37)).setCells w.heap.size i [x]).frozen? p := fun _ => rfl
  have hw1 : IntKind.i64.wrap ((i : Int) + 1) = (i : Int) + 1 := by rw [IntKind.wrap_i64]; omega
  have hb1 : (0 : Int) ≤ (i : Int) + 1 := by omega
  have hin : i ≤ cs.length := by omega
  have htn : ((i : Int) + 1).toNat = i + 1 := by omega
  have hb3 : (i : Int) ≤ (cs.length : Int) := by omega
  clear hkk hik hold hROW hG hRl hN hNf hOb hOv hcc hdl
  go_enter Try.func30, Try.ntmps30
  go_wp2_with (first
    | (at_builtin; refine Lib.wpList_append_run _ rfl _ _ _ _ rfl _ _ rfl rfl _ _ (hrz _) ?_)
    | (at_builtin; refine copy_list _ rfl _ _ 26 26 rfl _ _ rfl rfl (hcpA _ hE1 hE2 _ _) ?_))
  go_region_law_o (refine copy_step rfl _ _ 26 26 rfl (.slice (some ⟨w.heap.size, i + 1, none⟩) (cs.length - i) (G - (i + 1))) (.slice (some ⟨g, i, none⟩) (cs.length - i) (cs.length - i)) (by simp [Act.eval, Act.put]) (by simp [Act.eval, Act.put]) (hcpB _ hF1 hF2 3 (G - (i + 1)) (cs.length - i)) ?_)
  go_wp2
  go_ret
  exact ⟨rfl, rfl⟩

theorem take_new {row cur1 cur2 : Array Value} {cs : List Value} {x : Value} {i : Nat} (hi : i < cs.length) (hs : cs.length + 1 ≤ row.size) (h0 : ∀ j, j < i → row[j]? = cs[j]?)
    (h1 : ∀ j : Nat, cur1[j]? = if i ≤ j ∧ j < i + 1 then [x][j - i]? else row[j]?)
    (h2 : ∀ j : Nat, cur2[j]? = if i + 1 ≤ j ∧ j < i + 1 + (cs.drop i).length then (cs.drop i)[j - (i + 1)]? else cur1[j]?) :
    cur2.toList.take (cs.length + 1) = cs.take i ++ x :: cs.drop i := by
  apply List.ext_getElem?
  intro j
  rw [List.getElem?_take]
  have hd : (cs.drop i).length = cs.length - i := by simp
  have ht : (cs.take i).length = i := by simp; omega
  rw [hd] at h2
  by_cases c0 : j < cs.length + 1
  · rw [if_pos c0, Array.getElem?_toList, h2]
    rcases Nat.lt_trichotomy j i with c | c | c
    · rw [if_neg (by omega), h1, if_neg (by omega), List.getElem?_append_left (by omega), List.getElem?_take, if_pos c, h0 j c]
    · subst c
      rw [if_neg (by omega), h1, if_pos (by omega), Nat.sub_self, List.getElem?_append_right (by omega), ht, Nat.sub_self]
      rfl
    · rw [if_pos (by omega), List.getElem?_append_right (by omega), ht]
      have e : j - i = (j - (i + 1)) + 1 := by omega
      rw [e, List.getElem?_cons_succ]
  · rw [if_neg c0, List.getElem?_eq_none]
    simp
    omega
theorem zeroR_len (n : Nat) : (Builtin.zeroCells (Value.slice none 0 0).cells n).size = n := by simp [Builtin.zeroCells, Value.cells]
theorem grown_news (g : Nat) : ∀ (vs : List Value) (o : Nat) (a w : World), a.heap.size ≤ g → a.grownBy w none → a.grownBy (w.setCells g o vs) none
  | [], _, _, _, _, h => h
  | v :: r, o, a, w, hg, h => grown_news g r (o + 1) a _ hg ⟨h.os, h.tape, h.output, by simpa using h.size, fun k hk hne => (heap_setCell_other w ⟨g, o, none⟩ k v (by simp; omega)).trans (h.block k hk hne)⟩
theorem grown_some {a b : World} {r : Option Nat} (h : a.grownBy b none) : a.grownBy b r := ⟨h.os, h.tape, h.output, h.size, fun k hk _ => h.block k hk (by simp)⟩
theorem insert_grow_own (B i g : Nat) (cs : List Value) (x : Value) (vb : Nat) (w : World) (hown : Own w B (.slice (some ⟨g, 0, none⟩) cs.length cs.length) cs) (hi : i < cs.length) (hn : cs.length ≤ 256) (hB : B ≤ w.heap.size)
    (hx : w.cell? ⟨vb, 0, none⟩ = some x) (h1 : x.oneCell' = true) (hcs1 : ∀ u ∈ cs, u.oneCell' = true) :
    Calls Try.prog 30 #[.slice (some ⟨g, 0, none⟩) cs.length cs.length, .int .i64 i, .slice (some ⟨vb, 0, none⟩) 1 1] w fun e w' => ∃ v', e = .returned v' ∧ Own w' B v' (cs.take i ++ x :: cs.drop i) ∧ w.grownBy w' (some g) := by
  refine (insert_grow B i g cs x vb w hown hi hn hx h1 hcs1).mono fun e w' ⟨he, hw⟩ => ⟨_, he, ?_, ?_⟩
  · have hG := grownCap_ge w (cs.length + 1) cs.length 37
    have hG2 := grownCap_le_maxLen w (cs.length + 1) cs.length 37 (by unfold maxLen; omega)
    generalize grownCap w (cs.length + 1) cs.length 37 = G at hG hG2 hw he ⊢
    obtain ⟨ROW, hROW⟩ : ∃ ROW : Array Value, ROW = (cs.take i).toArray ++ Builtin.zeroCells (Value.slice none 0 0).cells (cs.length + 1 - i) ++ Builtin.zeroCells (Value.slice none 0 0).cells (G - (cs.length + 1)) := ⟨_, rfl⟩
    rw [← hROW] at hw
    have hs : ROW.size = G := by rw [hROW]; simp only [Array.size_append, List.size_toArray, List.length_take, zeroR_len]; omega
    have h0 : ∀ j, j < i → ROW[j]? = cs[j]? := fun j hj => by
      rw [hROW, Array.append_assoc, Array.getElem?_append_left (by simp; omega), List.getElem?_toArray, List.getElem?_take, if_pos hj]
    obtain ⟨cur1, a1, a2, a3⟩ := heap_setCells w.heap.size 37 [x] i ((w.alloc (.cells ROW 37)).drew) ROW (heap_alloc_new w _) (by simp; omega)
    obtain ⟨cur2, b1, b2, b3⟩ := heap_setCells w.heap.size 37 (cs.drop i) (i + 1) (((w.alloc (.cells ROW 37)).drew.setCells w.heap.size i [x]).drew) cur1 a1 (by simp; omega)
    have hl : (cs.take i ++ x :: cs.drop i).length = cs.length + 1 := by simp; omega
    rw [hw]
    refine ⟨by rw [hl, Nat.mul_one], .inr ⟨w.heap.size, G, cur2, by rw [hl], hB, b1, by rw [hl]; exact hG, hG2, by omega, ?_⟩⟩
    rw [hl, Nat.mul_one]
    exact take_new hi (by omega) h0 a3 b3
  · rw [hw]
    exact grown_some (grown_news _ _ _ _ _ (Nat.le_refl _) (grown_trans (grown_news _ _ _ _ _ (Nat.le_refl _) (grown_trans (World.grownBy_alloc w _ none) (grown_drew _ _))) (grown_drew _ _)))
/-- slices.Insert of one row into a list of the call's own. -/
theorem insert_own (B i : Nat) (v : Value) (cs : List Value) (x : Value) (vb : Nat) (w : World) (hown : Own w B v cs) (hi : i ≤ cs.length) (hn : cs.length ≤ 256) (hB : B ≤ w.heap.size)
    (hx : w.heap[vb]? = some (.cells #[x] 37 (0, 0))) (h1 : x.oneCell' = true) (hvb : some vb ≠ v.ownBlock) (hcs1 : ∀ u ∈ cs, u.oneCell' = true) :
    Calls Try.prog 30 #[v, .int .i64 i, .slice (some ⟨vb, 0, none⟩) 1 1] w fun e w' => ∃ v', e = .returned v' ∧ Own w' B v' (cs.take i ++ x :: cs.drop i) ∧ w.grownBy w' v.ownBlock := by
  have hxc : w.cell? ⟨vb, 0, none⟩ = some x := by rw [cell_of_row w vb 0 _ _ (0, 0) hx]; rfl
  by_cases he : i = cs.length
  · subst he
    refine (insert_end B cs.length v cs x vb w hown rfl hn hB hxc h1).mono fun e w' h => ?_
    rw [List.take_length, List.drop_length]
    exact h
  · obtain ⟨g, cap, rfl⟩ := Go.Joins.ownsRow_form hown (by omega)
    have hvb' : vb ≠ g := fun e => hvb (by rw [e]; rfl)
    have hc : cs.length ≤ cap := by
      rcases hown.2 with ⟨h', _⟩ | ⟨g', cap', cur, h', _, _, h2, h3, _⟩
      · cases h'
      · injection h' with _ _ h'
        subst h'
        exact h2
    by_cases hcap : cap = cs.length
    · subst hcap
      exact insert_grow_own B i g cs x vb w hown (by omega) hn hB hxc h1 hcs1
    · exact insert_shift_own B i g cap cs x vb w hown (by omega) hn (by omega) hx h1 hvb' hcs1
end Go.Proofs.Ytjbebhhoakmceaa
