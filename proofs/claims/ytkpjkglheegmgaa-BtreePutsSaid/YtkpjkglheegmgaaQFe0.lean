/- A drawn region of loads, calls and stores: the loads are taken first, where no store can come ahead of a load; behind what may come ahead of one the loads' cells are shown anew, behind the stores nothing. Conditions: each load yields its value in every world that meets the condition. -/
import Derived.StillTail
import Derived.Deep.RegionHeld3
namespace Go.Proofs.Ytkpjkglheegmgaa
section
variable {P : Program} {ops : Array Oper} {md : Region.Mode} {Q : Exit → Act → World → Prop} {S : World → Prop} {hd : List Nat}

/-- Whichever may come up; behind those of hd S holds. -/
def anyT (P : Program) (md : Region.Mode) (ops : Array Oper) (Q : Exit → Act → World → Prop) (S : World → Prop) (hd : List Nat) : Nat → Array Bool → Act → World → Prop
  | 0, li, a, w => Region.ready md ops li = [] ∧ Q .normal a w
  | f + 1, li, a, w => (Region.ready md ops li = [] → Q .normal a w) ∧ ∀ i ∈ Region.ready md ops li, wpOp P ops Q i (fun a' w' => (hd.contains i = true → S w') ∧ anyT P md ops Q S hd f (li.setIfInBounds i true) a' w') a w

theorem any_of_T : ∀ (f : Nat) (li : Array Bool) (a : Act) (w : World), anyT P md ops Q S hd f li a w → wpAny P md ops Q f li a w
  | 0, _, _, _, h => h
  | f + 1, _, _, _, h => ⟨h.1, fun i hi => wpOp_mono (fun a' w' h' => any_of_T f _ a' w' h'.2) (h.2 i hi)⟩

/-- Operation t comes behind operation i, by way of k steps at most. -/
def comesBehind (md : Region.Mode) (ops : Array Oper) : Nat → Nat → Nat → Bool
  | 0, _, _ => false
  | k + 1, t, i => match ops[t]? with
    | some o => o.after.any fun e => Region.binds md e && (e.on == i || comesBehind md ops k e.on i)
    | none => false
/-- What has come up has come behind all that it waits for. -/
def Closed (md : Region.Mode) (ops : Array Oper) (li : Array Bool) : Prop := ∀ j oj, ops[j]? = some oj → li.getD j false = true → ∀ e ∈ oj.after, Region.binds md e = true → li.getD e.on false = true
theorem behind_listed {li : Array Bool} (hc : Closed md ops li) (i : Nat) : ∀ (k t : Nat), comesBehind md ops k t i = true → (∀ o, ops[t]? = some o → ∀ e ∈ o.after, Region.binds md e = true → li.getD e.on false = true) → li.getD i false = true
  | 0, t, h, _ => by cases h
  | k + 1, t, h, hall => by
    unfold comesBehind at h
    split at h
    · rename_i o ho
      obtain ⟨e, he, hb⟩ := Array.any_eq_true'.1 h
      simp only [Bool.and_eq_true, Bool.or_eq_true, beq_iff_eq] at hb
      have h1 := hall o ho e he hb.1
      rcases hb.2 with h2 | h2
      · rw [h2] at h1; exact h1
      · exact behind_listed hc i k e.on h2 fun o' ho' => hc e.on o' ho' h1
    · cases h
theorem Closed.set {i : Nat} {li : Array Bool} (hc : Closed md ops li) (hi : i ∈ Region.ready md ops li) : Closed md ops (li.setIfInBounds i true) := by
  obtain ⟨_, oi, hoi, hall⟩ := mem_ready.1 hi
  intro j oj hj hl e he hb
  by_cases hij : i = j
  · subst hij
    have : oj = oi := Option.some.inj (hj.symm.trans hoi)
    subst this
    exact getD_set_true (hall e he hb)
  · rw [getD_set_ne false hij] at hl
    exact getD_set_true (hc j oj hj hl e he hb)
/-- All that has not come up, and does not come behind i, is among hd. -/
def guardsB (md : Region.Mode) (ops : Array Oper) (hd : List Nat) (li : Array Bool) (i : Nat) : Bool := (List.range ops.size).all fun t => li.getD t true || (hd.contains t || comesBehind md ops ops.size t i)
theorem guards_set {i j : Nat} {li : Array Bool} (hg : guardsB md ops hd li i = true) : guardsB md ops hd (li.setIfInBounds j true) i = true := by
  unfold guardsB at *
  rw [List.all_eq_true] at *
  intro t ht
  have h := hg t ht
  rcases Bool.or_eq_true_iff.1 h with h | h
  · refine Bool.or_eq_true_iff.2 (.inl ?_)
    by_cases hjt : j = t
    · subst hjt
      simp [Array.getElem?_setIfInBounds]
      split <;> simp_all
    · rw [getD_set_ne true hjt]; exact h
  · exact Bool.or_eq_true_iff.2 (.inr h)
theorem guards_spec {i j : Nat} {li : Array Bool} (hg : guardsB md ops hd li i = true) (hc : Closed md ops li) (hi : i ∈ Region.ready md ops li) (hj : j ∈ Region.ready md ops li) : hd.contains j = true := by
  obtain ⟨hun, oj, hoj, hall⟩ := mem_ready.1 hj
  have h := List.all_eq_true.1 hg j (List.mem_range.2 (Array.getElem?_eq_some_iff.1 hoj).1)
  rcases Bool.or_eq_true_iff.1 h with h | h
  · rw [hun] at h; cases h
  rcases Bool.or_eq_true_iff.1 h with h | h
  · exact h
  · have h2 := behind_listed hc i _ j h fun o ho => by
      have : o = oj := Option.some.inj (ho.symm.trans hoj)
      subst this
      exact hall
    rw [getD_both (mem_ready.1 hi).1] at h2
    cases h2

theorem anyT_first {i : Nat} {oi : Oper} {v : Value} {T : World → Prop} {G : Array Bool → Prop} (hi : ops[i]? = some oi) (hs : Region.noSelect ops = true) (hG : ∀ li j, G li → G (li.setIfInBounds j true))
    (hk : ∀ (li : Array Bool) (j : Nat) (w' : World), G li → Closed md ops li → i ∈ Region.ready md ops li → j ∈ Region.ready md ops li → (hd.contains j = true → S w') → T w') (hT : ∀ w', T w' → hd.contains i = true → S w')
    (hQ : ∀ c a w, Q (.panic c) (a.put oi.dst v) w → Q (.panic c) a w) :
    ∀ (f : Nat) (li : Array Bool) (a : Act) (w : World), Closed md ops li → G li →
      (∀ j oj, ops[j]? = some oj → j ≠ i → li.getD j true = false → (∀ e ∈ oj.after, Region.binds md e = true → e.on ≠ i) → oi.apart ops oj = true) →
      i ∈ Region.ready md ops li → YieldsIf P ops T oi v a → T w →
      anyT P md ops Q S hd f (li.setIfInBounds i true) (a.put oi.dst v) w → anyT P md ops Q S hd (f + 1) li a w := by
  intro f
  induction f with
  | zero =>
    intro li a w _ _ _ hr hy hS H
    refine ⟨fun h => (by rw [h] at hr; cases hr), fun j hj => ?_⟩
    by_cases hji : j = i
    · subst hji; exact hy.wpOp hi hS ⟨hT w hS, H⟩
    · have h0 := ready_mono hj hji
      rw [H.1] at h0
      cases h0
  | succ f ih =>
    intro li a w hc hg free hr hy hS H
    refine ⟨fun h => (by rw [h] at hr; cases hr), fun j hj => ?_⟩
    by_cases hji : j = i
    · subst hji; exact hy.wpOp hi hS ⟨hT w hS, H⟩
    · have h1 := H.2 j (ready_mono hj hji)
      obtain ⟨hjun, oj, hoj, hall⟩ := mem_ready.1 hj
      have hnot : ∀ e ∈ oj.after, Region.binds md e = true → e.on ≠ i := by
        intro e he hb heq
        have h2 := hall e he hb
        rw [heq, getD_both (mem_ready.1 hr).1] at h2
        cases h2
      have h2 := wpOp_putIf hoj (free j oj hoj hji hjun hnot) (fun cs b => Region.noSelect_spec hs i oi cs b hi) (fun cs b => Region.noSelect_spec hs j oj cs b hoj) hQ hy h1
      refine wpOp_mono (fun a' w' h3 => ⟨h3.2.1, ih (li.setIfInBounds j true) a' w' (hc.set hj) (hG _ _ hg) ?_ (ready_mono hr (Ne.symm hji)) h3.1 (hk li j w' hg hc hr hj h3.2.1) ?_⟩) h2
      · intro k oq hk hki hun hno
        refine free k oq hk hki ?_ hno
        by_cases hjk : j = k
        · subst hjk; exact hjun
        · rw [getD_set_ne true hjk] at hun; exact hun
      · rw [Array.setIfInBounds_comm _ _ hji]
        exact h3.2.2

/-- A load that is taken first. -/
theorem anyT_take {i : Nat} {oi : Oper} {v : Value} {f : Nat} {li : Array Bool} {a : Act} {w : World} (hi : ops[i]? = some oi) (hs : Region.noSelect ops = true) (hg : guardsB md ops hd li i = true)
    (hf : Region.free md ops li i = true) (hr : (Region.ready md ops li).contains i = true) (hQ : ∀ c a w, Q (.panic c) (a.put oi.dst v) w → Q (.panic c) a w) (hy : YieldsIf P ops S oi v a) (hS : S w) (hc : Closed md ops li)
    (h : Closed md ops (li.setIfInBounds i true) → anyT P md ops Q S hd f (li.setIfInBounds i true) (a.put oi.dst v) w) : anyT P md ops Q S hd (f + 1) li a w :=
  have hr' : i ∈ Region.ready md ops li := by simpa using hr
  anyT_first (T := S) (G := fun li => guardsB md ops hd li i = true) hi hs (fun _ _ h => guards_set h) (fun _ _ _ hg hc hi hj h => h (guards_spec hg hc hi hj)) (fun _ h _ => h) hQ f li a w hc hg (Region.free_spec hi hf) hr' hy hS (h (hc.set hr'))
/-- One that looks at no world is taken first. -/
theorem anyT_free {i : Nat} {oi : Oper} {v : Value} {f : Nat} {li : Array Bool} {a : Act} {w : World} (hi : ops[i]? = some oi) (hs : Region.noSelect ops = true) (hg : hd.contains i = false)
    (hf : Region.free md ops li i = true) (hr : (Region.ready md ops li).contains i = true) (hQ : ∀ c a w, Q (.panic c) (a.put oi.dst v) w → Q (.panic c) a w) (hy : YieldsIf P ops (fun _ => True) oi v a) (hc : Closed md ops li)
    (h : Closed md ops (li.setIfInBounds i true) → anyT P md ops Q S hd f (li.setIfInBounds i true) (a.put oi.dst v) w) : anyT P md ops Q S hd (f + 1) li a w :=
  have hr' : i ∈ Region.ready md ops li := by simpa using hr
  anyT_first (T := fun _ => True) (G := fun _ => True) hi hs (fun _ _ _ => trivial) (fun _ _ _ _ _ _ _ _ => trivial) (fun _ _ h => (by rw [hg] at h; cases h)) hQ f li a w hc trivial (Region.free_spec hi hf) hr' hy trivial (h (hc.set hr'))
/-- The one operation that may come up, S shown anew behind it. -/
theorem anyT_step {k : Nat} {o : Oper} {f : Nat} {li : Array Bool} {a : Act} {w : World} (ho : ops[k]? = some o) (hr : Region.ready md ops li = [k]) (hc : Closed md ops li)
    (h : ∀ K' : Act → World → Prop, Shut (∀ a w, S w → (S w → Closed md ops (li.setIfInBounds k true) → anyT P md ops Q S hd f (li.setIfInBounds k true) a w) → K' a w) → if Region.wanted o (yielded ops a.tmps) = true then Oper.wp P o a w K' Q else K' (a.put o.dst undef) w) : anyT P md ops Q S hd (f + 1) li a w := by
  refine ⟨fun h0 => (by rw [hr] at h0; cases h0), fun i hi => ?_⟩
  have hi' : i = k := by rw [hr] at hi; simpa using hi
  subst hi'
  exact wpOp_step ho (fun K' hK => h K' (fun a w hS hW => hK a w ⟨fun _ => hS, hW hS (hc.set hi)⟩))
/-- The one operation that may come up, behind which nothing is asked. -/
theorem anyT_last {k : Nat} {o : Oper} {f : Nat} {li : Array Bool} {a : Act} {w : World} (ho : ops[k]? = some o) (hr : Region.ready md ops li = [k]) (hk : hd.contains k = false) (hc : Closed md ops li)
    (h : ∀ K' : Act → World → Prop, Shut (∀ a w, (Closed md ops (li.setIfInBounds k true) → anyT P md ops Q S hd f (li.setIfInBounds k true) a w) → K' a w) → if Region.wanted o (yielded ops a.tmps) = true then Oper.wp P o a w K' Q else K' (a.put o.dst undef) w) : anyT P md ops Q S hd (f + 1) li a w := by
  refine ⟨fun h0 => (by rw [hr] at h0; cases h0), fun i hi => ?_⟩
  have hi' : i = k := by rw [hr] at hi; simpa using hi
  subst hi'
  exact wpOp_step ho (fun K' hK => h K' (fun a w hW => hK a w ⟨fun h => (by rw [hk] at h; cases h), hW (hc.set hi)⟩))
theorem anyT_done {li : Array Bool} {a : Act} {w : World} (hr : Region.ready md ops li = []) (h : Q .normal a w) : ∀ f, anyT P md ops Q S hd f li a w
  | 0 => ⟨hr, h⟩
  | _ + 1 => ⟨fun _ => h, by rw [hr]; simp⟩
/-- The beginning. -/
theorem region_anyT {id : Nat} {a : Act} {w : World} (S : World → Prop) (hd : List Nat) (hm : P.follows .mixedOrders = true) (hS : S w.drew)
    (h : Closed .any ops (Array.replicate ops.size false) → S w.drew → anyT P .any ops Q S hd ops.size (Array.replicate ops.size false) a w.drew) : (Code.region id ops true).wp P Q a w :=
  wp_region_any hm (any_of_T _ _ _ _ (h (fun j oj _ hl => (by rw [getD_replicate_false] at hl; cases hl)) hS))
end
end Go.Proofs.Ytkpjkglheegmgaa
