/- Keys, locks and states of locks in plain words: which may be, what is added, dropped, made one. Conditions: none. -/
import Derived.WalkKit
namespace Go.Proofs.Ytmjcmeebcochgaa
set_option linter.unusedSimpArgs false
set_option linter.unusedVariables false

/-- A key: a text of a length that every machine keeps. -/
structure Key where
  s : ByteArray
  h : s.size ≤ 140737488355328
def noKey : Key := ⟨⟨#[]⟩, by decide⟩
instance : LT Key := ⟨fun a b => a.s.toList < b.s.toList⟩
instance : LE Key := ⟨fun a b => a.s.toList ≤ b.s.toList⟩
instance : DecidableLT Key := fun a b => inferInstanceAs (Decidable (a.s.toList < b.s.toList))
instance : DecidableLE Key := fun a b => inferInstanceAs (Decidable (a.s.toList ≤ b.s.toList))
theorem ba_eq {x y : ByteArray} : x.toList = y.toList ↔ x = y := by
  refine ⟨fun h => ?_, fun h => by rw [h]⟩
  rw [ByteArray.toList_eq, ByteArray.toList_eq] at h
  exact ByteArray.ext (Array.toList_inj.1 (by simpa using h))
theorem key_eq {x y : Key} : x.s.toList = y.s.toList ↔ x = y := by
  rw [ba_eq]
  cases x; cases y
  simp
instance : DecidableEq Key := fun a b => decidable_of_iff (a.s.toList = b.s.toList) key_eq
theorem lt_def (a b : Key) : (a < b) = (a.s.toList < b.s.toList) := rfl
theorem le_def (a b : Key) : (a ≤ b) = (a.s.toList ≤ b.s.toList) := rfl
instance : Std.IsLinearOrder Key where
  le_refl a := by rw [le_def]; exact Std.IsPreorder.le_refl _
  le_trans a b c h1 h2 := by rw [le_def] at *; exact Std.IsPreorder.le_trans _ _ _ h1 h2
  le_antisymm a b h1 h2 := by
    rw [le_def] at *
    exact key_eq.1 (Std.IsPartialOrder.le_antisymm _ _ h1 h2)
  le_total a b := by rw [le_def, le_def]; exact Std.IsLinearPreorder.le_total _ _
instance : Std.LawfulOrderLT Key where
  lt_iff a b := by rw [lt_def, le_def, le_def]; exact Std.LawfulOrderLT.lt_iff _ _
theorem less_iff : ∀ (x y : List UInt8), Op.bytesLess x y = true ↔ x < y
  | [], [] => by simp [Op.bytesLess]
  | _ :: _, [] => by simp [Op.bytesLess]
  | [], _ :: _ => by simp [Op.bytesLess]
  | a :: x, b :: y => by
    have ih := less_iff x y
    rw [Op.bytesLess]
    grind [List.cons_lt_cons_iff]
theorem less_dec (x y : Key) : Op.bytesLess x.s.toList y.s.toList = decide (x < y) := by
  rw [Bool.eq_iff_iff, less_iff, decide_eq_true_iff, lt_def]
theorem no_le (k : Key) : noKey ≤ k := by
  rw [le_def]
  have : noKey.s.toList = [] := by decide +kernel
  rw [this]
  simp
theorem eq_dec (x y : Key) : (x.s.toList == y.s.toList) = decide (x = y) := by
  rw [Bool.eq_iff_iff, beq_iff_eq, decide_eq_true_iff, key_eq]
theorem no_dec (x : Key) : x.s.toList.isEmpty = decide (x = noKey) := by
  have h : noKey.s.toList = [] := by decide +kernel
  rw [Bool.eq_iff_iff, List.isEmpty_iff, decide_eq_true_iff, ← key_eq, h]

/-- A lock. -/
structure Lk where
  t : Int
  lo : Key
  hi : Key
deriving DecidableEq
def ends (x : Lk) (k : Key) : Bool := decide (x.hi = noKey) || decide (k < x.hi)
def goes (x : Lk) (k : Key) : Bool := ends x k || decide (x.hi = k)
/-- The order of two ends. -/
def ordE (a b : Key) : Int := if a = b then 0 else if a = noKey then 1 else if b = noKey then -1 else if a < b then -1 else 1
def mayL (x : Lk) : Bool := decide (1 ≤ x.t) && decide (x.t ≤ 1099511627776) && ends x x.lo
def witB (x l : Lk) : Bool := decide (l.t = x.t) && decide (l.lo ≤ x.lo) && decide (ordE x.hi l.hi ≤ 0)
def touB (x l : Lk) : Bool := decide (l.t = x.t) && goes l x.lo && goes x l.lo
def ownB (t : Int) (l : Lk) : Bool := decide (l.t = t)
def hasB (k : Key) (l : Lk) : Bool := decide (l.lo ≤ k) && ends l k
def ltL (a b : Lk) : Prop := a.t < b.t ∨ (a.t = b.t ∧ (a.lo < b.lo ∨ (a.lo = b.lo ∧ ordE a.hi b.hi < 0)))
instance (a b : Lk) : Decidable (ltL a b) := inferInstanceAs (Decidable (_ ∨ _))
def Ok (l : List Lk) : Prop := l.length ≤ 512 ∧ (∀ x ∈ l, mayL x = true) ∧ l.Pairwise ltL
instance (l : List Lk) : Decidable (Ok l) := inferInstanceAs (Decidable (_ ∧ _ ∧ _))
theorem Lk.ext' {a b : Lk} (h1 : a.t = b.t) (h2 : a.lo = b.lo) (h3 : a.hi = b.hi) : a = b := by
  cases a; cases b; cases h1; cases h2; cases h3; rfl

theorem ordE_le (a b : Key) : ordE a b ≤ 0 ↔ (b = noKey ∨ (a ≠ noKey ∧ a ≤ b)) := by
  unfold ordE
  have h1 := no_le a
  have h2 := no_le b
  grind
theorem ordE_lt (a b : Key) : ordE a b < 0 ↔ (a ≠ noKey ∧ (b = noKey ∨ a < b)) := by
  unfold ordE
  have h1 := no_le a
  have h2 := no_le b
  grind
theorem ordE_zero (a b : Key) : ordE a b = 0 ↔ a = b := by unfold ordE; grind
theorem ltL_irrefl (a : Lk) : ¬ ltL a a := by unfold ltL ordE; grind
theorem ltL_trans {a b c : Lk} (h1 : ltL a b) (h2 : ltL b c) : ltL a c := by
  unfold ltL at *
  rw [ordE_lt] at *
  grind
theorem ltL_total (a b : Lk) : ltL a b ∨ a = b ∨ ltL b a := by
  by_cases h : a = b
  · exact .inr (.inl h)
  · have h' : ¬ (a.t = b.t ∧ a.lo = b.lo ∧ a.hi = b.hi) := fun ⟨x, y, z⟩ => h (Lk.ext' x y z)
    unfold ltL
    rw [ordE_lt, ordE_lt]
    have h1 := no_le a.hi
    have h2 := no_le b.hi
    grind

/-! Where a lock stands among others. -/
def pos : List Lk → Lk → Nat
  | [], _ => 0
  | a :: l, x => if ltL a x then pos l x + 1 else 0
theorem pos_le : ∀ (l : List Lk) (x : Lk), pos l x ≤ l.length
  | [], _ => by simp [pos]
  | a :: l, x => by have := pos_le l x; rw [pos]; split <;> simp <;> omega
theorem pos_below : ∀ {l : List Lk} {x : Lk} {i : Nat} (h : i < pos l x), ltL (l[i]'(Nat.lt_of_lt_of_le h (pos_le l x))) x
  | [], x, i, h => by simp [pos] at h
  | a :: l, x, 0, h => by
    rw [pos] at h
    split at h
    · assumption
    · omega
  | a :: l, x, i + 1, h => by
    have h' : i < pos l x := by
      rw [pos] at h
      split at h <;> omega
    exact pos_below h'
theorem pos_stop : ∀ {l : List Lk} {x : Lk} (h : pos l x < l.length), ¬ ltL l[pos l x] x
  | [], x, h => by simp at h
  | a :: l, x, h => by
    by_cases hc : ltL a x
    · have e : pos (a :: l) x = pos l x + 1 := by rw [pos, if_pos hc]
      simp only [e] at h ⊢
      exact pos_stop (by simpa using h)
    · have e : pos (a :: l) x = 0 := by rw [pos, if_neg hc]
      simp only [e]
      exact hc
theorem pos_above {l : List Lk} {x : Lk} (hs : l.Pairwise ltL) {i : Nat} (h : pos l x ≤ i) (hi : i < l.length) : ¬ ltL l[i] x := by
  intro hc
  have h1 := pos_stop (l := l) (x := x) (by omega)
  rcases Nat.lt_or_ge (pos l x) i with h2 | h2
  · exact h1 (ltL_trans (List.pairwise_iff_getElem.1 hs _ _ (by omega) hi h2) hc)
  · have e : pos l x = i := by omega
    simp only [e] at h1
    exact h1 hc
def ins (l : List Lk) (x : Lk) : List Lk := l.take (pos l x) ++ x :: l.drop (pos l x)
theorem ins_len (l : List Lk) (x : Lk) : (ins l x).length = l.length + 1 := by
  have := pos_le l x
  simp [ins]
  omega
theorem mem_ins {l : List Lk} {x y : Lk} : y ∈ ins l x ↔ y = x ∨ y ∈ l := by
  unfold ins
  conv => rhs; rw [← List.take_append_drop (pos l x) l]
  simp only [List.mem_append, List.mem_cons]
  grind
theorem ins_srt {l : List Lk} {x : Lk} (hs : l.Pairwise ltL) (hx : x ∉ l) : (ins l x).Pairwise ltL := by
  unfold ins
  rw [List.pairwise_append, List.pairwise_cons]
  have h1 : ∀ a ∈ l.take (pos l x), ltL a x := fun a ha => by
    obtain ⟨i, hi, rfl⟩ := List.mem_take_iff_getElem.1 ha
    exact pos_below (by omega)
  have h2 : ∀ b ∈ l.drop (pos l x), ltL x b := fun b hb => by
    obtain ⟨i, hi, rfl⟩ := List.mem_drop_iff_getElem.1 hb
    have h3 := pos_above (x := x) hs (i := pos l x + i) (by omega) (by omega)
    rcases ltL_total l[pos l x + i] x with h | h | h
    · exact absurd h h3
    · exact absurd (h ▸ List.getElem_mem _) hx
    · exact h
  refine ⟨hs.sublist (List.take_sublist _ _), ⟨h2, hs.sublist (List.drop_sublist _ _)⟩, fun a ha b hb => ?_⟩
  rcases List.mem_cons.1 hb with rfl | hb
  · exact h1 a ha
  · exact ltL_trans (h1 a ha) (h2 b hb)

/-! Some locks as one. -/
def wid (x l : Lk) : Lk := ⟨x.t, if l.lo < x.lo then l.lo else x.lo, if 0 < ordE l.hi x.hi then l.hi else x.hi⟩
def hull (x : Lk) (ms : List Lk) : Lk := ms.foldl wid x
def asOne (l : List Lk) (x : Lk) (p : Lk → Bool) : List Lk := ins (l.filter fun a => !p a) (hull x (l.filter p))
/-- The end a is not behind the end b. -/
def leE (a b : Key) : Prop := ordE a b ≤ 0
theorem leE_refl (a : Key) : leE a a := by unfold leE ordE; simp
theorem leE_trans {a b c : Key} (h1 : leE a b) (h2 : leE b c) : leE a c := by unfold leE at *; rw [ordE_le] at *; grind
theorem wid_hi (x l : Lk) : leE x.hi (wid x l).hi ∧ leE l.hi (wid x l).hi := by
  unfold leE wid
  have h1 := no_le x.hi
  have h2 := no_le l.hi
  simp only []
  split
  · rename_i h
    have := ordE_le l.hi x.hi
    rw [ordE_le, ordE_le]
    grind
  · rename_i h
    rw [ordE_le]
    have := ordE_le l.hi x.hi
    refine ⟨by grind, ?_⟩
    omega
theorem hull_t (ms : List Lk) : ∀ x, (hull x ms).t = x.t := by
  induction ms with
  | nil => intro x; rfl
  | cons m ms ih => intro x; exact ih (wid x m)
theorem hull_lo (ms : List Lk) : ∀ x, (hull x ms).lo ≤ x.lo ∧ (∀ m ∈ ms, (hull x ms).lo ≤ m.lo) ∧ ((hull x ms).lo = x.lo ∨ ∃ m ∈ ms, (hull x ms).lo = m.lo) := by
  induction ms with
  | nil => intro x; exact ⟨Std.IsPreorder.le_refl _, by simp, .inl rfl⟩
  | cons m ms ih =>
    intro x
    obtain ⟨h1, h2, h3⟩ := ih (wid x m)
    have e : hull x (m :: ms) = hull (wid x m) ms := rfl
    rw [e]
    have ew : (wid x m).lo = if m.lo < x.lo then m.lo else x.lo := rfl
    rw [ew] at h1 h3
    refine ⟨by grind, fun a ha => ?_, ?_⟩
    · rcases List.mem_cons.1 ha with rfl | ha
      · grind
      · exact h2 a ha
    · rcases h3 with h3 | ⟨a, ha, h3⟩
      · by_cases hc : m.lo < x.lo
        · rw [if_pos hc] at h3
          exact .inr ⟨m, by simp, h3⟩
        · rw [if_neg hc] at h3
          exact .inl h3
      · exact .inr ⟨a, by simp [ha], h3⟩
theorem hull_hi (ms : List Lk) : ∀ x, leE x.hi (hull x ms).hi ∧ (∀ m ∈ ms, leE m.hi (hull x ms).hi) ∧ ((hull x ms).hi = x.hi ∨ ∃ m ∈ ms, (hull x ms).hi = m.hi) := by
  induction ms with
  | nil => intro x; exact ⟨leE_refl _, by simp, .inl rfl⟩
  | cons m ms ih =>
    intro x
    obtain ⟨h1, h2, h3⟩ := ih (wid x m)
    have e : hull x (m :: ms) = hull (wid x m) ms := rfl
    rw [e]
    obtain ⟨g1, g2⟩ := wid_hi x m
    refine ⟨leE_trans g1 h1, fun a ha => ?_, ?_⟩
    · rcases List.mem_cons.1 ha with rfl | ha
      · exact leE_trans g2 h1
      · exact h2 a ha
    · rcases h3 with h3 | ⟨a, ha, h3⟩
      · have ew : (wid x m).hi = if 0 < ordE m.hi x.hi then m.hi else x.hi := rfl
        rw [ew] at h3
        by_cases hc : 0 < ordE m.hi x.hi
        · rw [if_pos hc] at h3
          exact .inr ⟨m, by simp, h3⟩
        · rw [if_neg hc] at h3
          exact .inl h3
      · exact .inr ⟨a, by simp [ha], h3⟩
theorem ends_le {x y : Lk} {k : Key} (h : leE x.hi y.hi) (hx : ends x k = true) : ends y k = true := by
  unfold leE at h
  rw [ordE_le] at h
  unfold ends at *
  simp only [Bool.or_eq_true, decide_eq_true_eq] at *
  have := no_le k
  grind
theorem hull_may {x : Lk} {ms : List Lk} (hx : mayL x = true) : mayL (hull x ms) = true := by
  unfold mayL at *
  simp only [Bool.and_eq_true, decide_eq_true_eq] at hx ⊢
  rw [hull_t]
  refine ⟨hx.1, ?_⟩
  have h1 := ends_le (hull_hi ms x).1 hx.2
  have h2 := (hull_lo ms x).1
  unfold ends at *
  simp only [Bool.or_eq_true, decide_eq_true_eq] at *
  grind
/-- Keys of the hull are keys of x or of one of the locks that touch x. -/
theorem hull_key {x : Lk} {ms : List Lk} {k : Key} (hx : mayL x = true) (hm : ∀ m ∈ ms, touB x m = true) : hasB k (hull x ms) = true ↔ hasB k x = true ∨ ∃ m ∈ ms, hasB k m = true := by
  obtain ⟨l1, l2, l3⟩ := hull_lo ms x
  obtain ⟨h1, h2, h3⟩ := hull_hi ms x
  constructor
  · intro h
    unfold hasB at h
    simp only [Bool.and_eq_true, decide_eq_true_eq] at h
    obtain ⟨ha, hb⟩ := h
    by_cases c1 : x.lo ≤ k
    · by_cases c2 : ends x k = true
      · left; unfold hasB; simp [c1, c2]
      · rcases h3 with h3 | ⟨m, hmm, h3⟩
        · exfalso
          apply c2
          unfold ends at *
          rw [h3] at hb
          exact hb
        · right
          refine ⟨m, hmm, ?_⟩
          have ht := hm m hmm
          unfold touB goes ends at ht
          unfold ends at hb c2
          rw [h3] at hb
          unfold hasB ends
          simp only [Bool.and_eq_true, Bool.or_eq_true, decide_eq_true_eq, not_or] at *
          grind
    · rcases l3 with l3 | ⟨m, hmm, l3⟩
      · rw [l3] at ha; exact absurd ha c1
      · right
        refine ⟨m, hmm, ?_⟩
        have ht := hm m hmm
        unfold touB goes ends at ht
        rw [l3] at ha
        unfold hasB ends
        simp only [Bool.and_eq_true, Bool.or_eq_true, decide_eq_true_eq, not_or] at *
        grind
  · intro h
    rcases h with h | ⟨m, hmm, h⟩
    · unfold hasB at *
      simp only [Bool.and_eq_true, decide_eq_true_eq] at *
      exact ⟨by grind, ends_le h1 h.2⟩
    · unfold hasB at *
      simp only [Bool.and_eq_true, decide_eq_true_eq] at *
      have := l2 m hmm
      exact ⟨by grind, ends_le (h2 m hmm) h.2⟩

/-! What Add, Drop, Widen and Readers answer. -/
def addR (l : List Lk) (x : Lk) : List Lk × Int :=
  if Ok l then (if mayL x = true then (if l.any (witB x) = true then (l, 0) else if 512 < (asOne l x (touB x)).length then ([], 51) else (asOne l x (touB x), 0)) else ([], 1)) else ([], 9)
def drpR (l : List Lk) (t : Int) : List Lk × Int := if Ok l then (l.filter fun a => !ownB t a, 0) else ([], 9)
def widL (l : List Lk) (t : Int) : List Lk := match l.filter (ownB t) with
  | [] => l
  | a :: _ => asOne l a (ownB t)
def widR (l : List Lk) (t m : Int) : List Lk × Int :=
  if Ok l then (if m < 1 then ([], 4) else if ((l.filter (ownB t)).length : Int) ≤ m then (l, 0) else (widL l t, 0)) else ([], 9)
/-- Numbers, each once where they stand side by side. -/
def comp : List Int → List Int
  | [] => []
  | a :: r => a :: match comp r with
    | [] => []
    | b :: s => if a = b then s else b :: s
def who (l : List Lk) (k : Key) : List Int := (l.filter (hasB k)).map (·.t)
def rdsR (l : List Lk) (k : Key) : List Int × Int := if Ok l then (comp (who l k), 0) else ([], 9)
theorem comp_cons_head (a : Int) (r : List Int) : ∃ s, comp (a :: r) = a :: s := ⟨_, rfl⟩
theorem mem_comp (x : Int) : ∀ r, x ∈ comp r ↔ x ∈ r
  | [] => by simp [comp]
  | [a] => by simp [comp]
  | a :: b :: r => by
    have ih := mem_comp x (b :: r)
    obtain ⟨s, hs⟩ := comp_cons_head b r
    have e : comp (a :: b :: r) = a :: (if a = b then s else b :: s) := by
      rw [comp, hs]
    rw [e]
    rw [hs] at ih
    by_cases hab : a = b
    · rw [if_pos hab]
      subst hab
      rw [ih]
      simp
    · rw [if_neg hab, List.mem_cons, ih]
      simp
def has (l : List Lk) (t : Int) (k : Key) : Bool := l.any fun a => decide (a.t = t) && hasB k a
def rdsB (l : List Lk) (t : Int) (k : Key) : Bool := decide (Ok l) && has l t k
theorem who_mem {l : List Lk} {t : Int} {k : Key} : t ∈ who l k ↔ has l t k = true := by
  unfold who has
  rw [List.mem_map, List.any_eq_true]
  constructor
  · rintro ⟨a, ha, rfl⟩
    rw [List.mem_filter] at ha
    exact ⟨a, ha.1, by simp [ha.2]⟩
  · rintro ⟨a, ha, h⟩
    simp only [Bool.and_eq_true, decide_eq_true_eq] at h
    exact ⟨a, List.mem_filter.2 ⟨ha, h.2⟩, h.1⟩

theorem hull_within {x : Lk} {ms : List Lk} : witB x (hull x ms) = true := by
  unfold witB
  rw [hull_t]
  have h1 := (hull_lo ms x).1
  have h2 := (hull_hi ms x).1
  unfold leE at h2
  simp [h1, h2]
theorem within_tou {x y : Lk} (hx : mayL x = true) (h : witB x y = true) : touB x y = true := by
  unfold mayL at hx
  unfold witB at h
  unfold touB goes
  unfold ends at *
  have h9 := ordE_le x.hi y.hi
  simp only [Bool.and_eq_true, Bool.or_eq_true, decide_eq_true_eq] at *
  have := no_le x.lo
  grind
theorem asOne_ok {l : List Lk} {x : Lk} (hl : Ok l) (hx : mayL x = true) (h : (asOne l x (touB x)).length ≤ 512) : Ok (asOne l x (touB x)) := by
  refine ⟨h, fun y hy => ?_, ins_srt (hl.2.2.filter _) fun hm => ?_⟩
  · rcases mem_ins.1 hy with rfl | hy
    · exact hull_may hx
    · exact hl.2.1 y (List.mem_filter.1 hy).1
  · have h1 := (List.mem_filter.1 hm).2
    rw [within_tou hx hull_within] at h1
    cases h1
theorem asOne_has {l : List Lk} {x : Lk} {t : Int} {k : Key} (hx : mayL x = true) : has (asOne l x (touB x)) t k = ((decide (t = x.t) && hasB k x) || has l t k) := by
  rw [Bool.eq_iff_iff]
  unfold has
  simp only [List.any_eq_true, Bool.or_eq_true, Bool.and_eq_true, decide_eq_true_eq]
  have hk := hull_key (k := k) (ms := l.filter (touB x)) hx (fun m hm => (List.mem_filter.1 hm).2)
  constructor
  · rintro ⟨a, ha, rfl, h⟩
    rcases mem_ins.1 ha with rfl | ha
    · rcases hk.1 h with h | ⟨m, hm, h⟩
      · exact .inl ⟨hull_t _ _, h⟩
      · have hm' := List.mem_filter.1 hm
        refine .inr ⟨m, hm'.1, ?_, h⟩
        have := hm'.2
        unfold touB at this
        simp only [Bool.and_eq_true, decide_eq_true_eq] at this
        rw [hull_t]
        exact this.1.1
    · exact .inr ⟨a, (List.mem_filter.1 ha).1, rfl, h⟩
  · rintro (⟨rfl, h⟩ | ⟨a, ha, rfl, h⟩)
    · exact ⟨_, mem_ins.2 (.inl rfl), hull_t _ _, hk.2 (.inl h)⟩
    · by_cases ht : touB x a = true
      · refine ⟨_, mem_ins.2 (.inl rfl), ?_, hk.2 (.inr ⟨a, List.mem_filter.2 ⟨ha, ht⟩, h⟩)⟩
        unfold touB at ht
        simp only [Bool.and_eq_true, decide_eq_true_eq] at ht
        rw [hull_t]
        exact ht.1.1.symm
      · exact ⟨a, mem_ins.2 (.inr (List.mem_filter.2 ⟨ha, by simpa using ht⟩)), rfl, h⟩
theorem asOne_len (l : List Lk) (x : Lk) (p : Lk → Bool) : (asOne l x p).length ≤ l.length + 1 := by
  unfold asOne
  rw [ins_len]
  have := List.length_filter_le (fun a => !p a) l
  omega
/-- What so is where Add answered no error. -/
theorem add_ok {l : List Lk} {x : Lk} (h : (addR l x).2 = 0) : Ok l ∧ mayL x = true ∧ Ok (addR l x).1 ∧ (addR l x).1.any (witB x) = true ∧ ∀ t k, has (addR l x).1 t k = ((decide (t = x.t) && hasB k x) || has l t k) := by
  unfold addR at *
  split at h
  · rename_i hl
    split at h
    · rename_i hx
      split at h
      · rename_i hw
        simp only [hl, hx, hw, if_true]
        refine ⟨trivial, trivial, trivial, trivial, fun t k => ?_⟩
        rw [Bool.eq_iff_iff]
        simp only [Bool.or_eq_true, Bool.and_eq_true, decide_eq_true_eq]
        refine ⟨.inr, ?_⟩
        rintro (⟨rfl, h⟩ | h)
        · unfold has
          rw [List.any_eq_true] at *
          obtain ⟨a, ha, hw⟩ := hw
          refine ⟨a, ha, ?_⟩
          unfold witB at hw
          unfold hasB at *
          simp only [Bool.and_eq_true, decide_eq_true_eq] at *
          exact ⟨hw.1.1, by grind, ends_le hw.2 h.2⟩
        · exact h
      · split at h
        · cases h
        · rename_i hw hn
          simp only [hl, hx, hw, hn, if_true, if_false]
          have hok := asOne_ok hl hx (by omega)
          refine ⟨trivial, trivial, hok, ?_, fun t k => asOne_has hx⟩
          rw [List.any_eq_true]
          exact ⟨_, mem_ins.2 (.inl rfl), hull_within⟩
    · cases h
  · cases h
theorem add_err {l : List Lk} {x : Lk} (h : (addR l x).2 ≠ 0) : (addR l x).1 = [] := by
  unfold addR at *
  split
  · split
    · split
      · simp_all
      · split
        · rfl
        · simp_all
    · rfl
  · rfl
theorem add_same {l : List Lk} {x : Lk} (h : (addR l x).2 = 0) : addR (addR l x).1 x = ((addR l x).1, 0) := by
  obtain ⟨h1, h2, h3, h4, _⟩ := add_ok h
  generalize (addR l x).1 = m at *
  unfold addR
  simp only [h3, h2, h4, if_true]
theorem add_len {l : List Lk} {x : Lk} : (addR l x).1.length ≤ l.length + 1 := by
  unfold addR
  have := asOne_len l x (touB x)
  grind
theorem add_room {l : List Lk} {x : Lk} (hl : Ok l) (hx : mayL x = true) (hn : l.length < 512) : (addR l x).2 = 0 := by
  have := asOne_len l x (touB x)
  unfold addR
  simp only [hl, hx, if_true]
  split
  · rfl
  · rw [if_neg (by omega)]
theorem drp_ok {l : List Lk} {t : Int} (h : Ok l) : Ok (l.filter fun a => !ownB t a) := by
  refine ⟨Nat.le_trans (List.length_filter_le _ _) h.1, fun x hx => h.2.1 x (List.mem_filter.1 hx).1, h.2.2.filter _⟩
theorem drp_has {l : List Lk} {t u : Int} {k : Key} : has (l.filter fun a => !ownB t a) u k = (!decide (u = t) && has l u k) := by
  rw [Bool.eq_iff_iff]
  unfold has ownB
  simp only [List.any_eq_true, Bool.and_eq_true, decide_eq_true_eq, List.mem_filter, Bool.not_eq_true', decide_eq_false_iff_not]
  constructor
  · rintro ⟨a, ⟨ha, h1⟩, rfl, h⟩
    exact ⟨h1, a, ha, rfl, h⟩
  · rintro ⟨h1, a, ha, rfl, h⟩
    exact ⟨a, ⟨ha, h1⟩, rfl, h⟩
theorem widL_ok {l : List Lk} {t : Int} (h : Ok l) : Ok (widL l t) := by
  unfold widL
  split
  · exact h
  · rename_i a r hf
    have ha : a ∈ l.filter (ownB t) := by rw [hf]; simp
    have hat := (List.mem_filter.1 ha)
    have hne : (l.filter (ownB t)).length = r.length + 1 := by rw [hf]; rfl
    have hcl : l.length = (l.filter (ownB t)).length + (l.filter fun b => !ownB t b).length := by
      rw [← List.countP_eq_length_filter, ← List.countP_eq_length_filter, List.length_eq_countP_add_countP (ownB t)]
      congr 1
      exact List.countP_congr (by simp)
    refine ⟨?_, fun y hy => ?_, ins_srt (h.2.2.filter _) fun hm => ?_⟩
    · unfold asOne
      rw [ins_len]
      have := h.1
      omega
    · rcases mem_ins.1 hy with rfl | hy
      · exact hull_may (h.2.1 a hat.1)
      · exact h.2.1 y (List.mem_filter.1 hy).1
    · have h1 := (List.mem_filter.1 hm).2
      have h2 := hat.2
      unfold ownB at h1 h2
      rw [hull_t] at h1
      rw [h2] at h1
      cases h1
theorem widL_has {l : List Lk} {t u : Int} {k : Key} (h : has l u k = true) : has (widL l t) u k = true := by
  unfold widL
  split
  · exact h
  · rename_i a r hf
    have ha : a ∈ l.filter (ownB t) := by rw [hf]; simp
    have hat := (List.mem_filter.1 ha).2
    unfold ownB at hat
    unfold has at *
    rw [List.any_eq_true] at *
    obtain ⟨b, hb, h⟩ := h
    simp only [Bool.and_eq_true, decide_eq_true_eq] at h hat
    by_cases hc : b.t = t
    · refine ⟨_, mem_ins.2 (.inl rfl), ?_⟩
      have hbm : b ∈ l.filter (ownB t) := List.mem_filter.2 ⟨hb, by unfold ownB; simpa using hc⟩
      rw [hull_t]
      have h1 := (hull_lo (l.filter (ownB t)) a).2.1 b hbm
      have h2 := (hull_hi (l.filter (ownB t)) a).2.1 b hbm
      have h3 := h.2
      unfold hasB at h3 ⊢
      simp only [Bool.and_eq_true, decide_eq_true_eq] at h3 ⊢
      exact ⟨by rw [hat, ← h.1, hc], by grind, ends_le h2 h3.2⟩
    · exact ⟨b, mem_ins.2 (.inr (List.mem_filter.2 ⟨hb, by unfold ownB; simpa using hc⟩)), by simp [h]⟩
theorem wid_one {l : List Lk} {t : Int} (h : Ok l) : (widR l t 1).2 = 0 ∧ Ok (widR l t 1).1 ∧ ∀ u k, has l u k = true → has (widR l t 1).1 u k = true := by
  unfold widR
  simp only [h, if_true]
  split
  · omega
  · split
    · exact ⟨rfl, h, fun _ _ h => h⟩
    · exact ⟨rfl, widL_ok h, fun _ _ h => widL_has h⟩
end Go.Proofs.Ytmjcmeebcochgaa
