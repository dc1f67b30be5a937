/- A drawn region that only looks, walked with the slots under names of their own: only the slots that are looked at are shown. Conditions: the operations come up in an order that ends at the text's. -/
import Derived.StillTail
import Derived.StillTailTactics
namespace Go.Proofs.Ytkpjkglheegmgaa
section
variable {P : Program} {ops : Array Oper} {w : World} {Q : Act → Prop}
/-- Only slot d was written. -/
structure Only (d : Nat) (a a' : Act) : Prop where
  size : a'.tmps.size = a.tmps.size
  defers : a'.defers = a.defers
  keep : ∀ s v, a.tmps[s]? = some v → s ≠ d → a'.tmps[s]? = some v
theorem only_put (a : Act) (d : Nat) (v : Value) : Only d a (a.put (some d) v) :=
  ⟨by simp [Act.put], rfl, fun s u hs hn => by simp [Act.put, Array.getElem?_setIfInBounds_ne (Ne.symm hn), hs]⟩
theorem at_put (a : Act) (d : Nat) (v : Value) (h : d < a.tmps.size) : (a.put (some d) v).tmps[d]? = some v := by
  simp [Act.put, h]
/-- Slots ahead of lo, and from hi on, are as they were. -/
structure Kp (lo hi : Nat) (a a' : Act) : Prop where
  size : a'.tmps.size = a.tmps.size
  defers : a'.defers = a.defers
  keep : ∀ s, s < lo ∨ hi ≤ s → a'.tmps[s]? = a.tmps[s]?
theorem Kp.refl (lo hi : Nat) (a : Act) : Kp lo hi a a := ⟨rfl, rfl, fun _ _ => rfl⟩
theorem Kp.only {lo hi d : Nat} {a b c : Act} (k : Kp lo hi a b) (h : Only d b c) (hd : lo ≤ d ∧ d < hi) : Kp lo hi a c :=
  ⟨h.size.trans k.size, h.defers.trans k.defers, fun s hs => by
    rw [← k.keep s hs]
    cases e : b.tmps[s]? with
    | none =>
      rw [Array.getElem?_eq_none_iff] at e ⊢
      rw [h.size]; exact e
    | some v => exact h.keep s v e (by omega)⟩
theorem Kp.trans {lo hi : Nat} {a b c : Act} (k : Kp lo hi a b) (k' : Kp lo hi b c) : Kp lo hi a c :=
  ⟨k'.size.trans k.size, k'.defers.trans k.defers, fun s hs => (k'.keep s hs).trans (k.keep s hs)⟩
theorem st_val {o : Oper} {rest : List Oper} {a : Act} {d : Nat} {v : Value} (hg : Region.wanted o (yielded ops a.tmps) = true) (hd : o.dst = some d) (hr : (execOp a.eval o).run P w = .ok (.value v) w) (hz : d < a.tmps.size)
    (h : ∀ a', Only d a a' → a'.tmps[d]? = some v → wpStill P ops w Q rest a') : wpStill P ops w Q (o :: rest) a := by
  unfold wpStill
  rw [if_pos hg, Oper.still, hr, Oper.stillUpon_value, hd]
  exact h _ (only_put a d v) (at_put a d v hz)
theorem st_skip {o : Oper} {rest : List Oper} {a : Act} {d : Nat} (hg : Region.wanted o (yielded ops a.tmps) = false) (hd : o.dst = some d) (hz : d < a.tmps.size)
    (h : ∀ a', Only d a a' → a'.tmps[d]? = some undef → wpStill P ops w Q rest a') : wpStill P ops w Q (o :: rest) a := by
  unfold wpStill
  rw [if_neg (by rw [hg]; decide), hd]
  exact h _ (only_put a d undef) (at_put a d undef hz)
theorem eval_at {a : Act} {t : Nat} {v : Value} (h : a.tmps[t]? = some v) : a.eval (.tmp t) = v := by
  simp [Act.eval, h]
theorem wanted_none {o : Oper} {f : Nat → Option Bool} (hg : o.guard = none) : Region.wanted o f = true := by
  unfold Region.wanted; rw [hg]
theorem yielded_at {a : Act} {j d : Nat} {b : Bool} (hd : (ops[j]?).bind (·.dst) = some d) (h : a.tmps[d]? = some (.bool b)) : yielded ops a.tmps j = some b := by
  unfold yielded
  rw [hd, Option.bind_some, h]
theorem wanted_on {o : Oper} {a : Act} {j d : Nat} {b : Bool} (hg : o.guard = some (j, b)) (hd : (ops[j]?).bind (·.dst) = some d) (h : a.tmps[d]? = some (.bool b)) : Region.wanted o (yielded ops a.tmps) = true := by
  unfold Region.wanted
  rw [hg]
  simp only
  rw [yielded_at hd h]
  simp
theorem wanted_off {o : Oper} {a : Act} {j d : Nat} {b b' : Bool} (hg : o.guard = some (j, b)) (hd : (ops[j]?).bind (·.dst) = some d) (h : a.tmps[d]? = some (.bool b')) (hb : b' ≠ b) : Region.wanted o (yielded ops a.tmps) = false := by
  unfold Region.wanted
  rw [hg]
  simp only
  rw [yielded_at hd h]
  simpa using hb
theorem wanted_undef {o : Oper} {a : Act} {j d : Nat} {b : Bool} (hg : o.guard = some (j, b)) (hd : (ops[j]?).bind (·.dst) = some d) (h : a.tmps[d]? = some undef) : Region.wanted o (yielded ops a.tmps) = false := by
  unfold Region.wanted yielded
  rw [hg]
  simp only
  rw [hd, Option.bind_some, h]
  rfl
theorem still_mono {R : Act → Prop} : ∀ {l : List Oper} {a : Act}, (∀ a, R a → Q a) → wpStill P ops w R l a → wpStill P ops w Q l a
  | [], a, h, h' => h a h'
  | o :: l, a, h, h' => by
    unfold wpStill at *
    split
    · rename_i hw
      rw [if_pos hw] at h'
      exact Oper.still_mono (fun a h'' => still_mono h h'') h'
    · rename_i hw
      rw [if_neg hw] at h'
      exact still_mono h h'
theorem still_append {l2 : List Oper} : ∀ {l1 : List Oper} {a : Act}, wpStill P ops w (wpStill P ops w Q l2) l1 a → wpStill P ops w Q (l1 ++ l2) a
  | [], a, h => h
  | o :: l, a, h => by
    rw [List.cons_append]
    unfold wpStill at *
    split
    · rename_i hw
      rw [if_pos hw] at h
      exact Oper.still_mono (fun a h'' => still_append h'') h
    · rename_i hw
      rw [if_neg hw] at h
      exact still_append h
/-- A cut behind k operations. -/
theorem still_cut {l : List Oper} {a : Act} (k : Nat) (R : Act → Prop) (h1 : wpStill P ops w R (l.take k) a) (h2 : ∀ a', R a' → wpStill P ops w Q (l.drop k) a') : wpStill P ops w Q l a := by
  rw [← List.take_append_drop k l]
  exact still_append (still_mono h2 h1)
end
/-- The region's operations, the act and what follows under names of their own. -/
theorem region_named {P : Program} {id : Nat} {Q : Exit → Act → World → Prop} {a : Act} {w : World} {l : List Oper} (n f : Nat) (hm : P.follows .mixedOrders = true) (hB : Region.lexTailB .any l.toArray n = true)
    (hd : ((List.range n).all fun j => decide ((l.toArray[j]?).bind (·.dst) = some (f + j))) = true)
    (h : ∀ (ops : Array Oper) (K : Act → Prop) (a0 : Act), (∀ j, j < n → (ops[j]?).bind (·.dst) = some (f + j)) → (∀ a', wpList P l.toArray Q (l.drop n) a' w.drew → K a') → a0 = a → wpStill P ops w.drew K (l.take n) a0) : (Code.region id l.toArray true).wp P Q a w :=
  wp_region_still_tail n hm hB (h _ _ _ (fun j hj => of_decide_eq_true (List.all_eq_true.1 hd j (List.mem_range.2 hj))) (fun _ h => h) rfl)
/-- A frame of which only the slots from lo to hi may have changed. -/
theorem kept_frame {lo hi : Nat} {a a' : Act} (k : Kp lo hi a a') (h1 : lo ≤ hi) (h2 : hi ≤ a.tmps.size) : ∃ m : List Value, m.length = hi - lo ∧ a' = ⟨(a.tmps.toList.take lo ++ (m ++ a.tmps.toList.drop hi)).toArray, a.defers⟩ := by
  refine ⟨(a'.tmps.toList.drop lo).take (hi - lo), by simp; have := k.size; omega, ?_⟩
  obtain ⟨T, D⟩ := a'
  obtain ⟨h3, h4, h5⟩ := k
  simp only at h3 h4 h5 ⊢
  subst h4
  congr 1
  apply Array.ext'
  rw [List.toList_toArray]
  have e1 : a.tmps.toList.take lo = T.toList.take lo := by
    apply List.ext_getElem?
    intro i
    by_cases hi' : i < lo
    · rw [List.getElem?_take_of_lt hi', List.getElem?_take_of_lt hi', Array.getElem?_toList, Array.getElem?_toList, h5 i (.inl hi')]
    · rw [List.getElem?_eq_none (by simp; omega), List.getElem?_eq_none (by simp; omega)]
  have e2 : a.tmps.toList.drop hi = T.toList.drop hi := by
    apply List.ext_getElem?
    intro i
    rw [List.getElem?_drop, List.getElem?_drop, Array.getElem?_toList, Array.getElem?_toList, h5 (hi + i) (.inr (by omega))]
  rw [e1, e2]
  have e3 : T.toList.drop hi = (T.toList.drop lo).drop (hi - lo) := by rw [List.drop_drop, show lo + (hi - lo) = hi by omega]
  rw [e3, List.take_append_drop, List.take_append_drop]
end Go.Proofs.Ytkpjkglheegmgaa
